/- The reference's parts. -/
import Derived.Test.YtnmhigjannihgaaJn
namespace Go.Proofs.Ytnmhigjannihgaa
open Go.RowKit Go.Shelf
attribute [local go_sem ↓] append_appN

theorem tmod_bd {x m : Int} (hx : 0 ≤ x) (hm : 0 < m) : 0 ≤ x.tmod m ∧ x.tmod m < m := by
  rw [Int.tmod_eq_emod_of_nonneg hx]
  exact ⟨Int.emod_nonneg _ (by omega), Int.emod_lt_of_pos _ hm⟩
theorem tdiv_bd {x m : Int} (hx : 0 ≤ x) (hm : 0 < m) : 0 ≤ x.tdiv m ∧ x.tdiv m ≤ x := by
  rw [Int.tdiv_eq_ediv_of_nonneg hx]
  exact ⟨Int.ediv_nonneg hx (by omega), Int.ediv_le_self _ hx⟩
theorem partsF_snoc {len : Int} : ∀ {l : List (Int × Int)} {e a : Int} {q : Int × Int}, partsF len e l → (∀ p, l.getLast? = some p → p.2 ≤ a) → (l = [] → e ≤ a) → a ≤ q.1 → q.1 < q.2 → q.2 ≤ len → partsF len e (l ++ [q])
  | [], e, a, q, _, _, h2, h3, h4, h5 => ⟨by have := h2 rfl; omega, h4, h5, trivial⟩
  | [p], e, a, q, h, h1, _, h3, h4, h5 => ⟨h.1, h.2.1, h.2.2.1, by have := h1 p rfl; omega, h4, h5, trivial⟩
  | p :: r :: l, e, a, q, h, h1, _, h3, h4, h5 => ⟨h.1, h.2.1, h.2.2.1, partsF_snoc (l := r :: l) h.2.2.2 (fun x hx => h1 x (by rw [List.getLast?_cons_cons]; exact hx)) (fun e => by cases e) h3 h4 h5⟩
/-- What the loop of parts knows. -/
structure PtIn (w : World) (len at_ : Int) (k : Nat) (G : List (Int × Int)) (o : Value) (wr : World) : Prop where
  own : wr.ownsRow w.heap.size 53 2 o G.length (flat2 G)
  p : partsF (len - 1) 0 G
  l : ∀ q, G.getLast? = some q → q.2 ≤ at_
  n : G.length ≤ k
  a : 0 ≤ at_ ∧ at_ ≤ len
  b : Below w.heap.size w wr
theorem PtIn.push {w : World} {len at_ x y : Int} {k : Nat} {G : List (Int × Int)} {o : Value} {wr : World} (h : PtIn w len at_ k G o wr) (hk : k ≤ 10) (h1 : at_ ≤ x) (h2 : x < y) (h3 : y < len) :
    ∃ A c w', Sem.run Try.prog (appN #[22, 22] 22 #[o, .slice (some ⟨wr.heap.size, 0, none⟩) 1 1]) (wr.alloc (.cells #[.int .i64 x, .int .i64 y] 53)) = .ok (.slice A (G.length + 1) c) w' ∧ PtIn w len y (k + 1) (G ++ [(x, y)]) (.slice A (G.length + 1) c) w' := by
  obtain ⟨A, c, w', r, o', g, -⟩ := push_pair x y h.own (by have := h.n; omega) h.b.size
  refine ⟨A, c, w', r, by rw [List.length_append]; exact o', partsF_snoc h.p h.l (fun _ => h.a.1) h1 h2 (by dsimp only; omega), fun q hq => ?_, by have := h.n; simp; omega, ⟨by have := h.a; omega, by omega⟩, ?_⟩
  · rw [List.getLast?_concat] at hq
    cases hq; exact Int.le_refl _
  · exact (h.b.alloc h.b.size _).grown g (by have := h.b.size; simp; omega) (fun r x => own_ge h.own r x)
set_option maxRecDepth 100000 in
set_option maxHeartbeats 8000000 in
theorem rparts_any (c len : Int) (hc : I64 c) (hl : 1 ≤ len ∧ len ≤ 3600) (w : World) :
    Calls Try.prog 40 #[.int .i64 c, .int .i64 len] w fun e w' => ∃ A cp l, e = .returned (.slice A l.length cp) ∧ w'.ownsRow w.heap.size 53 2 (.slice A l.length cp) l.length (flat2 l) ∧ partsF (len - 1) 0 l ∧ l.length ≤ 4 ∧ Below w.heap.size w w' := by
  have P1 := Lib.hid (fun u => rpick_any c 1099511627776 (by decide) (by decide) hc.1 hc.2 u)
  have hb := pickI_lt c 1099511627776 (by decide)
  obtain ⟨z, hz⟩ : ∃ z, pickI c 1099511627776 = z := ⟨_, rfl⟩
  rw [hz] at P1 hb
  have hm := tmod_bd hb.1 (show (0 : Int) < 5 by decide)
  obtain ⟨M, hM⟩ : ∃ M, z.tmod 5 = M := ⟨_, rfl⟩
  rw [hM] at hm
  have h4 := tdiv_bd (show (0 : Int) ≤ len by omega) (show (0 : Int) < 4 by decide)
  obtain ⟨L4, hL4⟩ : ∃ x, len.tdiv 4 = x := ⟨_, rfl⟩
  rw [hL4] at h4
  have h6 := tdiv_bd (show (0 : Int) ≤ len by omega) (show (0 : Int) < 6 by decide)
  obtain ⟨L6, hL6⟩ : ∃ x, len.tdiv 6 = x := ⟨_, rfl⟩
  rw [hL6] at h6
  have HQ := Lib.hid (fun m (hm : (0 : Int) < m) => tdiv_bd hb.1 hm)
  have H0 := Lib.hid (show PtIn w len 0 0 [] (.slice none 0 0) w from ⟨World.ownsRow_nil _ _ _ _, trivial, fun q h => (by cases h), Nat.le_refl _, ⟨by omega, by omega⟩, Below.refl _ _⟩)
  have n4 : ¬ 1 + L4 = 0 := by omega
  have n6 : ¬ 1 + L6 = 0 := by omega
  have z0 := hb.1
  have z1 := hb.2
  have m0 := hm.1
  have m1 := hm.2
  have l0 := hl.1
  have l1 := hl.2
  clear hz hb hm hl hc
  go_enter Try.func40, Try.ntmps40
  go_wp2_with (go_at_call 39; (with_reducible refine Calls.mono (P1.out _) ?_); rintro e w' ⟨rfl, rfl⟩)
  go_loopw [5, 6, 7] (fun o a j wr => ∃ (k : Nat) (at_ : Int) (G : List (Int × Int)), a = .int .i64 at_ ∧ j = .int .i64 (k : Int) ∧ (k : Int) ≤ 4 ∧ Hid (PtIn w len at_ k G o wr)) (fun _ _ j _ => 5 - (intOf j).toNat)
  case atStart => exact ⟨0, 0, [], rfl, rfl, by omega, H0⟩
  case round =>
    clear H0
    obtain ⟨k, at_, G, rfl, rfl, hk, HI⟩ := hrel
    have k0 : (0 : Int) ≤ (k : Int) := by omega
    have a0 := HI.out.a.1
    have a1 := HI.out.a.2
    by_cases hlt : (k : Int) < M
    · have hk4 : k = 0 ∨ k = 1 ∨ k = 2 ∨ k = 3 := by omega
      rcases hk4 with rfl | rfl | rfl | rfl
      · have q1 := HQ.out 5 (by decide)
        have q2 := HQ.out 11 (by decide)
        obtain ⟨Q1, hQ1⟩ : ∃ x, z.tdiv 5 = x := ⟨_, rfl⟩
        obtain ⟨Q2, hQ2⟩ : ∃ x, z.tdiv 11 = x := ⟨_, rfl⟩
        rw [hQ1] at q1
        rw [hQ2] at q2
        have r1 := tmod_bd q1.1 (show (0 : Int) < 1 + L4 by omega)
        have r2 := tmod_bd q2.1 (show (0 : Int) < 1 + L6 by omega)
        obtain ⟨R1, hR1⟩ : ∃ x, Q1.tmod (1 + L4) = x := ⟨_, rfl⟩
        obtain ⟨R2, hR2⟩ : ∃ x, Q2.tmod (1 + L6) = x := ⟨_, rfl⟩
        rw [hR1] at r1
        rw [hR2] at r2
        by_cases hto : len ≤ at_ + R1 + 1 + R2
        · obtain ⟨A, cp, rfl, -⟩ := own_slice HI.out.own
          have HN := Lib.hid (show G.length ≤ 4 by have := HI.out.n; omega)
          go_wp2
          go_ret
          exact ⟨A, cp, G, rfl, HI.out.own, HI.out.p, HN.out, HI.out.b⟩
        · obtain ⟨A, cp, w2, hrun, hI⟩ := HI.out.push (x := at_ + R1) (y := at_ + R1 + 1 + R2) (by omega) (by omega) (by omega) (by omega)
          have HI2 := Lib.hid hI
          clear hI
          go_wp2
          go_roundw
          case rel => exact ⟨1, _, _, rfl, rfl, by omega, HI2⟩
          case measure => simp [intOf]
      · have q1 := HQ.out 12 (by decide)
        have q2 := HQ.out 14 (by decide)
        obtain ⟨Q1, hQ1⟩ : ∃ x, z.tdiv 12 = x := ⟨_, rfl⟩
        obtain ⟨Q2, hQ2⟩ : ∃ x, z.tdiv 14 = x := ⟨_, rfl⟩
        rw [hQ1] at q1
        rw [hQ2] at q2
        have r1 := tmod_bd q1.1 (show (0 : Int) < 1 + L4 by omega)
        have r2 := tmod_bd q2.1 (show (0 : Int) < 1 + L6 by omega)
        obtain ⟨R1, hR1⟩ : ∃ x, Q1.tmod (1 + L4) = x := ⟨_, rfl⟩
        obtain ⟨R2, hR2⟩ : ∃ x, Q2.tmod (1 + L6) = x := ⟨_, rfl⟩
        rw [hR1] at r1
        rw [hR2] at r2
        by_cases hto : len ≤ at_ + R1 + 1 + R2
        · obtain ⟨A, cp, rfl, -⟩ := own_slice HI.out.own
          have HN := Lib.hid (show G.length ≤ 4 by have := HI.out.n; omega)
          go_wp2
          go_ret
          exact ⟨A, cp, G, rfl, HI.out.own, HI.out.p, HN.out, HI.out.b⟩
        · obtain ⟨A, cp, w2, hrun, hI⟩ := HI.out.push (x := at_ + R1) (y := at_ + R1 + 1 + R2) (by omega) (by omega) (by omega) (by omega)
          have HI2 := Lib.hid hI
          clear hI
          go_wp2
          go_roundw
          case rel => exact ⟨2, _, _, rfl, rfl, by omega, HI2⟩
          case measure => simp [intOf]
      · have q1 := HQ.out 19 (by decide)
        have q2 := HQ.out 17 (by decide)
        obtain ⟨Q1, hQ1⟩ : ∃ x, z.tdiv 19 = x := ⟨_, rfl⟩
        obtain ⟨Q2, hQ2⟩ : ∃ x, z.tdiv 17 = x := ⟨_, rfl⟩
        rw [hQ1] at q1
        rw [hQ2] at q2
        have r1 := tmod_bd q1.1 (show (0 : Int) < 1 + L4 by omega)
        have r2 := tmod_bd q2.1 (show (0 : Int) < 1 + L6 by omega)
        obtain ⟨R1, hR1⟩ : ∃ x, Q1.tmod (1 + L4) = x := ⟨_, rfl⟩
        obtain ⟨R2, hR2⟩ : ∃ x, Q2.tmod (1 + L6) = x := ⟨_, rfl⟩
        rw [hR1] at r1
        rw [hR2] at r2
        by_cases hto : len ≤ at_ + R1 + 1 + R2
        · obtain ⟨A, cp, rfl, -⟩ := own_slice HI.out.own
          have HN := Lib.hid (show G.length ≤ 4 by have := HI.out.n; omega)
          go_wp2
          go_ret
          exact ⟨A, cp, G, rfl, HI.out.own, HI.out.p, HN.out, HI.out.b⟩
        · obtain ⟨A, cp, w2, hrun, hI⟩ := HI.out.push (x := at_ + R1) (y := at_ + R1 + 1 + R2) (by omega) (by omega) (by omega) (by omega)
          have HI2 := Lib.hid hI
          clear hI
          go_wp2
          go_roundw
          case rel => exact ⟨3, _, _, rfl, rfl, by omega, HI2⟩
          case measure => simp [intOf]
      · have q1 := HQ.out 26 (by decide)
        have q2 := HQ.out 20 (by decide)
        obtain ⟨Q1, hQ1⟩ : ∃ x, z.tdiv 26 = x := ⟨_, rfl⟩
        obtain ⟨Q2, hQ2⟩ : ∃ x, z.tdiv 20 = x := ⟨_, rfl⟩
        rw [hQ1] at q1
        rw [hQ2] at q2
        have r1 := tmod_bd q1.1 (show (0 : Int) < 1 + L4 by omega)
        have r2 := tmod_bd q2.1 (show (0 : Int) < 1 + L6 by omega)
        obtain ⟨R1, hR1⟩ : ∃ x, Q1.tmod (1 + L4) = x := ⟨_, rfl⟩
        obtain ⟨R2, hR2⟩ : ∃ x, Q2.tmod (1 + L6) = x := ⟨_, rfl⟩
        rw [hR1] at r1
        rw [hR2] at r2
        by_cases hto : len ≤ at_ + R1 + 1 + R2
        · obtain ⟨A, cp, rfl, -⟩ := own_slice HI.out.own
          have HN := Lib.hid (show G.length ≤ 4 by have := HI.out.n; omega)
          go_wp2
          go_ret
          exact ⟨A, cp, G, rfl, HI.out.own, HI.out.p, HN.out, HI.out.b⟩
        · obtain ⟨A, cp, w2, hrun, hI⟩ := HI.out.push (x := at_ + R1) (y := at_ + R1 + 1 + R2) (by omega) (by omega) (by omega) (by omega)
          have HI2 := Lib.hid hI
          clear hI
          go_wp2
          go_roundw
          case rel => exact ⟨4, _, _, rfl, rfl, by omega, HI2⟩
          case measure => simp [intOf]
    · obtain ⟨A, cp, rfl, -⟩ := own_slice HI.out.own
      have HN := Lib.hid (show G.length ≤ 4 by have := HI.out.n; omega)
      go_wp2
      go_ret
      exact ⟨A, cp, G, rfl, HI.out.own, HI.out.p, HN.out, HI.out.b⟩
end Go.Proofs.Ytnmhigjannihgaa
