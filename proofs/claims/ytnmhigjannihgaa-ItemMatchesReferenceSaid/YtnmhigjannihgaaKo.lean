/- The law's seconds; talk when a further trim is left out. -/
import Derived.Test.YtnmhigjannihgaaKm
namespace Go.Proofs.Ytnmhigjannihgaa
open Go.RowKit Go.Shelf

theorem ti_tot {m : Int} : ∀ {l : List (Int × Int)} (e : Int), l.Pairwise (fun a b => a.2 < b.1) → (∀ q ∈ l, e ≤ q.1 ∧ q.1 < q.2 ∧ q.2 ≤ m) → e ≤ m → 0 ≤ tot l ∧ tot l ≤ m - e
  | [], e, _, _, he => by simp [tot]; omega
  | q :: l, e, hp, ha, he => by
    obtain ⟨p1, p2⟩ := List.pairwise_cons.1 hp
    have hq := ha q (by simp)
    have ih := ti_tot (l := l) q.2 p2 (fun r hr => by have h1 := p1 r hr; have h2 := ha r (by simp [hr]); exact ⟨by omega, h2.2.1, h2.2.2⟩) hq.2.2
    simp only [tot]
    omega
theorem TI.take {l : List (Int × Int)} {m : Int} (h : TI l m) (k : Nat) : TI (l.take k) m := ⟨h.p.sublist (List.take_sublist _ _), fun q hq => h.a q (List.mem_of_mem_take hq)⟩
theorem TI.tot {l : List (Int × Int)} {m : Int} (h : TI l m) (hm : 0 ≤ m) : 0 ≤ tot l ∧ tot l ≤ m := by
  have := ti_tot 0 h.p h.a hm
  omega
theorem tot_take {l : List (Int × Int)} {k : Nat} {q : Int × Int} (h : l[k]? = some q) : Go.Proofs.Ytnmhigjannihgaa.tot (l.take (k + 1)) = Go.Proofs.Ytnmhigjannihgaa.tot (l.take k) + (q.2 - q.1) := by
  rw [take_snoc h, tot_append]; simp [Go.Proofs.Ytnmhigjannihgaa.tot]
set_option maxRecDepth 100000 in
set_option maxHeartbeats 4000000 in
theorem rsec_any (l : List (Int × Int)) {m : Int} (ht : TI l m) (hm : 0 ≤ m) (hm2 : m ≤ 3600) (A : Option Addr) (n c : Nat) (w : World) (hr : Recs enc2 2 w w.heap.size (.slice A n c) l) :
    Calls Try.prog 35 #[.slice A n c] w fun e w' => e = .returned (.tuple #[.int .i64 (tot l), .bool true]) ∧ Below w.heap.size w w' := by
  obtain ⟨hn, hc1, hc2⟩ := recs_cap hr
  have HR := Lib.hid hr
  have HN := Lib.hid hn
  have HT := Lib.hid ht
  have HTT := Lib.hid (fun k => (ht.take k).tot hm)
  have hn9 : n ≤ 9223372036854775807 := by omega
  clear hr hn ht
  go_enter Try.func35, Try.ntmps35
  go_wp2
  go_loopw [4, 5] (fun tv k wr => ∃ (K : Nat) (S : Int), tv = .int .i64 S ∧ k = .int .i64 (K : Int) ∧ K ≤ n ∧ Hid (S = tot (l.take K)) ∧ Hid (Below w.heap.size w wr)) (fun _ k _ => n - (intOf k).toNat)
  case atStart => exact ⟨0, 0, rfl, rfl, Nat.zero_le _, Lib.hid rfl, Lib.hid (Below.refl _ _)⟩
  case round =>
    obtain ⟨K, S, rfl, rfl, hK, HS, HB⟩ := hrel
    have k_0 : (0 : Int) ≤ (K : Int) := by omega
    have hS := HTT.out K
    rw [← HS.out] at hS
    have s_0 := hS.1
    have s_1 : S ≤ 3600 := by omega
    clear hS
    by_cases hlt : K < n
    · have k_1 : (K : Int) < (n : Int) := by omega
      obtain ⟨q, hq⟩ : ∃ q, l[K]? = some q := ⟨_, List.getElem?_eq_getElem (by rw [← HN.out]; exact hlt)⟩
      have hqa := HT.out.a q (List.mem_of_getElem? hq)
      have HNX := Lib.hid (show S + q.2 - q.1 = tot (l.take (K + 1)) by rw [tot_take hq, ← HS.out]; omega)
      obtain ⟨g, o, rfl, hg, a0, a1⟩ := cell2_at (HR.out.next HB.out) hq
      cases K with
      | zero =>
        obtain ⟨q1, q2⟩ := q
        dsimp only at a0 a1 HNX hqa
        rw [show o + 0 * 2 = o by omega] at a0 a1
        have e1 : decide (q2 ≤ q1) = false := decide_eq_false (by omega)
        have v_0 := hqa.1
        have v_1 : q2 ≤ 3600 := by omega
        have v_2 : q1 < q2 := hqa.2.1
        clear hqa hq
        go_wp2
        go_quiet (fail)
        go_wp2
        go_quiet (fail)
        go_wp2
        go_roundw
        case rel => exact ⟨1, _, rfl, by go_num, by omega, HNX, Lib.hid (belowN HB.out _)⟩
        case measure => simp [intOf]; omega
      | succ K =>
        obtain ⟨p, hp⟩ : ∃ p, l[K]? = some p := ⟨_, List.getElem?_eq_getElem (by have := HN.out; omega)⟩
        have hlast : p.2 < q.1 := by
          obtain ⟨h1, h2⟩ := List.getElem?_eq_some_iff.1 hp
          obtain ⟨h3, h4⟩ := List.getElem?_eq_some_iff.1 hq
          have := List.pairwise_iff_getElem.1 HT.out.p K (K + 1) h1 h3 (by omega)
          rw [h2, h4] at this; exact this
        obtain ⟨g', o', hgo, -, c0, c1⟩ := cell2_at (HR.out.next HB.out) hp
        injection hgo with hgo
        obtain ⟨rfl, rfl⟩ : g = g' ∧ o = o' := ⟨congrArg Addr.block hgo, congrArg Addr.off hgo⟩
        obtain ⟨q1, q2⟩ := q
        obtain ⟨p1, p2⟩ := p
        dsimp only at a0 a1 c0 c1 HNX hqa hlast
        have e1 : decide (q2 ≤ q1) = false := decide_eq_false (by omega)
        have e2 : decide (q1 ≤ p2) = false := decide_eq_false (by omega)
        have k_2 : (0 : Int) ≤ (K : Int) := by omega
        have k_3 : K < n := by omega
        have v_0 := hqa.1
        have v_1 : q2 ≤ 3600 := by omega
        have v_2 : q1 < q2 := hqa.2.1
        clear hqa hq hp hgo hlast
        go_wp2
        go_quiet (fail)
        go_wp2
        go_quiet (fail)
        go_wp2
        go_roundw
        case rel => exact ⟨K + 1 + 1, _, rfl, by go_num, by omega, HNX, Lib.hid (belowN HB.out _)⟩
        case measure => simp [intOf]; omega
    · have k_1 : ¬ (K : Int) < (n : Int) := by omega
      have HE := Lib.hid (show S = tot l by rw [HS.out, List.take_of_length_le (by rw [← HN.out]; omega)])
      go_wp2
      refine bodyPost_ret (results_tmp2 rfl _ _ _) rfl ⟨by rw [← HE.out]; rfl, HB.out⟩
/-- A further trim. -/
theorem bits_more : ∀ (n : Fin 5) (z : Fin 16) (k : Fin 4), k.val < n.val → (z.val ||| 2 ^ k.val < 16 ∧ bits .or .i64 (z.val : Int) ((2 : Int) ^ k.val) = ((z.val ||| 2 ^ k.val : Nat) : Int)) ∧
    (if z.val.testBit k.val then z.val ||| 2 ^ k.val = z.val else ∃ A B, bitsL n.val z.val = A ++ B ∧ bitsL n.val (z.val ||| 2 ^ k.val) = A ++ k.val :: B) := by
  intro n z k hk
  have h : ∀ (n : Fin 5) (z : Fin 16) (k : Fin 4), k.val < n.val → (z.val ||| 2 ^ k.val < 16 ∧ bits .or .i64 (z.val : Int) ((2 : Int) ^ k.val) = ((z.val ||| 2 ^ k.val : Nat) : Int)) ∧
    (if z.val.testBit k.val then z.val ||| 2 ^ k.val = z.val else bitsL n.val z.val = (bitsL n.val z.val).filter (· < k.val) ++ (bitsL n.val z.val).filter (k.val < ·) ∧ bitsL n.val (z.val ||| 2 ^ k.val) = (bitsL n.val z.val).filter (· < k.val) ++ k.val :: (bitsL n.val z.val).filter (k.val < ·)) := by decide +kernel
  obtain ⟨h1, h2⟩ := h n z k hk
  refine ⟨h1, ?_⟩
  split at h2
  · rename_i hb; rw [if_pos hb]; exact h2
  · rename_i hb; rw [if_neg hb]; exact ⟨_, _, h2.1, h2.2⟩
/-- What leaving out a further trim makes of talk. -/
theorem talk_more {i : ItemP} (h : OkItem i) {z k : Nat} (hz : z < 16) (hk : k < i.trims.length) {G n G2 n2} (hf : CutF i z G n) (hf2 : CutF i (z ||| 2 ^ k) G2 n2) {q : Int × Int} (hq : i.trims[k]? = some q) :
    tot (talkL G2 i.talks) ≤ tot (talkL G i.talks) ∧ tot (talkL G i.talks) - tot (talkL G2 i.talks) ≤ q.2 - q.1 := by
  have h4 := h.n1
  obtain ⟨-, h2⟩ := bits_more ⟨i.trims.length, by omega⟩ ⟨z, hz⟩ ⟨k, by omega⟩ hk
  dsimp only at h2
  have hql := part_at h.p1 hq
  split at h2
  · have e : G2 = G := by rw [← hf2.gl, ← hf.gl, h2]
    rw [e]; omega
  · obtain ⟨A, B, e1, e2⟩ := h2
    have g1 : G = goneL i.trims A ++ goneL i.trims B := by rw [← hf.gl, e1]; unfold goneL; rw [List.filterMap_append]
    have g2 : G2 = goneL i.trims A ++ q :: goneL i.trims B := by rw [← hf2.gl, e2]; unfold goneL; rw [List.filterMap_append, List.filterMap_cons, hq]
    rw [(talk_all hf.p (Int.le_refl _) h.p2).2.2, (talk_all hf2.p (Int.le_refl _) h.p2).2.2, g1, g2]
    have h5 := tks_more (goneL i.trims A) (goneL i.trims B) q i.talks
    have := ovd_le hql.2.1 h.p2
    omega
theorem CutF.talk {i : ItemP} {z : Nat} {G : List (Int × Int)} {n : Int} (h : CutF i z G n) : talkV i (zi (bitsL i.trims.length z)) = (talkL G i.talks, 0) := by
  unfold talkV; rw [h.ok, if_pos rfl, h.g]
theorem CutF.ti {i : ItemP} {z : Nat} {G : List (Int × Int)} {n : Int} (h : CutF i z G n) (hi : OkItem i) : TI (talkL G i.talks) n := by
  have := (talk_all h.p (Int.le_refl _) hi.p2).1
  rwa [h.nn] at this
theorem CutF.in_talk {i : ItemP} {z : Nat} {G : List (Int × Int)} {n : Int} (h : CutF i z G n) (hi : OkItem i) {x : Int} (hx : 0 ≤ x) : inP (talkL G i.talks) x = inP i.talks (pl G x) := talk_place h.p (Int.le_refl _) hi.p2 hx
theorem talk_at {i : ItemP} {C : List Int} {A1 A2 A3 : Option Addr} {n1 c1 n2 c2 n3 c3 : Nat} {u : World} {T : List (Int × Int)} {b : Int} (h : talkV i C = (T, b)) (hr : ItAt i A1 n1 c1 A2 n2 c2 u.heap.size u) (h3 : Recs enc1 1 u u.heap.size (.slice A3 n3 c3) C) :
    Calls Try.prog 26 #[.agg #[.int .i64 i.id, .int .i64 i.kind, .int .i64 i.len, .slice A1 n1 c1, .slice A2 n2 c2, .int .i64 i.artist, .int .i64 i.tempo, .int .i64 i.lang], .slice A3 n3 c3] u fun e w' => ∃ A c, e = .returned (.tuple #[.slice A T.length c, .int .i64 b]) ∧ Recs enc2 2 w' w'.heap.size (.slice A T.length c) T ∧ Below u.heap.size u w' := by
  refine (talk_any i C A1 A2 A3 n1 c1 n2 c2 n3 c3 u hr h3).mono ?_
  rintro e w' ⟨A, n, c, rfl, h1, h2⟩
  rw [h] at h1
  obtain rfl := (recs_cap h1).1
  exact ⟨A, c, by rw [h], h1, h2⟩
end Go.Proofs.Ytnmhigjannihgaa
