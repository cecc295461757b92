/- The reference's Bits and In, the law's cutOf. -/
import Derived.Test.YtnmhigjannihgaaJm
namespace Go.Proofs.Ytnmhigjannihgaa
open Go.RowKit Go.Shelf
attribute [local go_sem ↓] append_appN

theorem shift_cast (s k : Nat) : (s : Int) / 2 ^ k = ((s / 2 ^ k : Nat) : Int) := by simp
theorem hour_bit (x h : Nat) : (((x : Int) / 2 ^ h).tmod 2) = ((if x.testBit h then 1 else 0 : Nat) : Int) := by
  rw [shift_cast, Int.tmod_eq_emod_of_nonneg (Int.natCast_nonneg _), Nat.testBit_eq_decide_div_mod_eq]
  generalize x / 2 ^ h = q
  by_cases e : q % 2 = 1
  · rw [if_pos (by simpa using e)]; omega
  · rw [if_neg (by simpa using e)]; omega
theorem has_bit2 (s k : Nat) : (((s : Int) / 2 ^ k).tmod 2 == 1) = s.testBit k := by
  rw [hour_bit]
  cases h : s.testBit k <;> rfl
theorem bitsL_snoc (k set : Nat) : bitsL (k + 1) set = bitsL k set ++ (if set.testBit k then [k] else []) := by
  unfold bitsL
  rw [List.range_succ, List.filter_append]
  congr 1
  by_cases h : set.testBit k = true <;> simp [h]
theorem bitsL_len (k set : Nat) : (bitsL k set).length ≤ k := by
  unfold bitsL
  exact Nat.le_trans (List.length_filter_le _ _) (by simp)
/-- What the loop of Bits knows. -/
structure BtIn (w : World) (set k : Nat) (cells : Array Value) (o : Value) (wr : World) : Prop where
  own : wr.ownsRow (w.heap.size + 1) 3 1 o (bitsL k set).length (iv1 (zi (bitsL k set)))
  r : Row wr w.heap.size 24 cells
  b : Below w.heap.size w wr
  hi : w.heap.size + 1 ≤ wr.heap.size
theorem BtIn.skip {w : World} {set k : Nat} {cells : Array Value} {o : Value} {wr : World} (h : BtIn w set k cells o wr) (hb : set.testBit k = false) : BtIn w set (k + 1) cells o wr := by
  have e : bitsL (k + 1) set = bitsL k set := by rw [bitsL_snoc, hb]; simp
  exact ⟨by rw [e]; exact h.own, h.r, h.b, h.hi⟩
theorem BtIn.push {w : World} {set k : Nat} {cells : Array Value} {o : Value} {wr : World} (h : BtIn w set k cells o wr) (hb : set.testBit k = true) (hk : k ≤ 100) :
    ∃ A c w', Sem.run Try.prog (appN #[26, 26] 26 #[o, .slice (some ⟨wr.heap.size, 0, none⟩) 1 1]) (wr.alloc (.cells #[.int .i64 (k : Int)] 3)) = .ok (.slice A ((bitsL k set).length + 1) c) w' ∧ BtIn w set (k + 1) cells (.slice A ((bitsL k set).length + 1) c) w' := by
  have hl := bitsL_len k set
  obtain ⟨A, c, w', r, o', g, -⟩ := push_one (x := .int .i64 (k : Int)) (B := w.heap.size + 1) Try.underlying26 infoInt rfl rfl (by omega) h.own (by omega) h.hi
  have hz := g.size
  rw [World.size_alloc] at hz
  have e : bitsL (k + 1) set = bitsL k set ++ [k] := by rw [bitsL_snoc, hb]; simp
  have hlow := own_ge h.own
  refine ⟨A, c, w', r, ?_, ?_, ?_, by have := h.hi; omega⟩
  · rw [e, List.length_append]
    have e2 : iv1 (zi (bitsL k set ++ [k])) = iv1 (zi (bitsL k set)) ++ [Value.int .i64 (k : Int)] := by simp [iv1, zi]
    rw [e2]; exact o'
  · exact (g.block _ (h.r.alloc _).lt (fun x => by have := hlow _ x.symm; omega)).trans (h.r.alloc _)
  · exact (h.b.alloc h.b.size _).grown g (by have := h.b.size; simp; omega) (fun r x => by have := hlow r x; omega)
set_option maxRecDepth 100000 in
set_option maxHeartbeats 4000000 in
theorem rbits_any (set : Nat) (hs : set ≤ 1000000) (id kind len artist tempo lang : Int) (A1 A2 : Option Addr) (n1 c1 n2 c2 : Nat) (hn : n1 ≤ 60) (w : World) :
    Calls Try.prog 48 #[.agg #[.int .i64 id, .int .i64 kind, .int .i64 len, .slice A1 n1 c1, .slice A2 n2 c2, .int .i64 artist, .int .i64 tempo, .int .i64 lang], .int .i64 (set : Int)] w fun e w' => ∃ A n c, e = .returned (.slice A n c) ∧ Recs enc1 1 w' w'.heap.size (.slice A n c) (zi (bitsL n1 set)) ∧ Below w.heap.size w w' := by
  have H0 := Lib.hid (show BtIn w set 0 #[.int .i64 id, .int .i64 kind, .int .i64 len, .slice A1 n1 c1, .slice A2 n2 c2, .int .i64 artist, .int .i64 tempo, .int .i64 lang] (.slice none 0 0) (w.alloc (.cells #[.int .i64 id, .int .i64 kind, .int .i64 len, .slice A1 n1 c1, .slice A2 n2 c2, .int .i64 artist, .int .i64 tempo, .int .i64 lang] 24)) from ⟨World.ownsRow_nil _ _ _ _, Row.new _ _ _, (Below.refl _ w).alloc (Nat.le_refl _) _, by simp⟩)
  have HBI := Lib.hid (fun k => has_bit2 set k)
  have s0 : (0 : Int) ≤ (set : Int) := by omega
  go_enter Try.func48, Try.ntmps48
  go_wp2
  go_loopw [5, 6] (fun o j wr => ∃ k : Nat, j = .int .i64 (k : Int) ∧ k ≤ n1 ∧ Hid (BtIn w set k #[.int .i64 id, .int .i64 kind, .int .i64 len, .slice A1 n1 c1, .slice A2 n2 c2, .int .i64 artist, .int .i64 tempo, .int .i64 lang] o wr)) (fun _ j _ => n1 - (intOf j).toNat)
  case atStart => exact ⟨0, rfl, Nat.zero_le _, H0⟩
  case round =>
    clear H0
    obtain ⟨k, rfl, hk, HI⟩ := hrel
    have k0 : (0 : Int) ≤ (k : Int) := by omega
    have I_3 : wr.cell? ⟨w.heap.size, 3, none⟩ = some (.slice A1 n1 c1) := HI.out.r.cell 3
    have lI := HI.out.r.lt
    by_cases hlt : k < n1
    · have k1 : (k : Int) < (n1 : Int) := by omega
      have hbit := HBI.out k
      cases hb : set.testBit k with
      | false =>
        rw [hb] at hbit
        have HI2 := Lib.hid (HI.out.skip hb)
        clear hb
        go_wp2
        go_roundw
        case rel => exact ⟨k + 1, by go_num, by omega, HI2⟩
        case measure => simp [intOf]; omega
      | true =>
        rw [hb] at hbit
        obtain ⟨A, c, w2, hrun, hI⟩ := HI.out.push hb (by omega)
        have HI2 := Lib.hid hI
        clear hb hI
        go_wp2
        go_roundw
        case rel => exact ⟨k + 1, by go_num, by omega, HI2⟩
        case measure => simp [intOf]; omega
    · have k1 : ¬ (k : Int) < (n1 : Int) := by omega
      have HE := Lib.hid (show k = n1 by omega)
      obtain ⟨A, c, rfl, -⟩ := own_slice HI.out.own
      have HRC := Lib.hid (ints_own HI.out.own (by simp [zi]))
      go_wp2
      go_ret
      exact ⟨A, _, c, rfl, by rw [← HE.out]; exact HRC.out, HI.out.b⟩
/-- Is a second in one of some spells? -/
theorem inP_at {l : List (Int × Int)} {k : Nat} {q : Int × Int} (hq : l[k]? = some q) (s : Int) : inP (l.take (k + 1)) s = (inP (l.take k) s || (decide (q.1 ≤ s) && decide (s < q.2))) := by
  rw [take_snoc hq, inP_append, inP_one]
theorem inP_prefix {l : List (Int × Int)} {k : Nat} {s : Int} (h : inP (l.take k) s = true) : inP l s = true := by
  have e : l = l.take k ++ l.drop k := (List.take_append_drop k l).symm
  rw [e, inP_append, h]; rfl
set_option maxRecDepth 100000 in
set_option maxHeartbeats 4000000 in
theorem rin_any (l : List (Int × Int)) (s : Int) (A : Option Addr) (n c : Nat) (w : World) (hr : Recs enc2 2 w w.heap.size (.slice A n c) l) :
    Calls Try.prog 34 #[.slice A n c, .int .i64 s] w fun e w' => e = .returned (.bool (inP l s)) ∧ w = w' := by
  obtain ⟨hn, hc1, hc2⟩ := recs_cap hr
  have HR := Lib.hid hr
  have HN := Lib.hid hn
  have hn9 : n ≤ 9223372036854775807 := by omega
  have HT := Lib.hid (fun k (h : inP (l.take (k + 1)) s = true) => inP_prefix h)
  clear hr hn
  go_enter Try.func34, Try.ntmps34
  go_wp2
  go_loop [5] (fun j => ∃ k : Nat, j = .int .i64 (k : Int) ∧ k ≤ n ∧ Hid (inP (l.take k) s = false)) (fun j => n - (intOf j).toNat)
  case atStart => exact ⟨0, rfl, Nat.zero_le _, Lib.hid rfl⟩
  case round =>
    obtain ⟨k, rfl, hk, HF⟩ := hrel
    have k0 : (0 : Int) ≤ (k : Int) := by omega
    by_cases hlt : k < n
    · have k1 : (k : Int) < (n : Int) := by omega
      have hkl : k < l.length := by have := HN.out; omega
      obtain ⟨b, o, rfl, hb, hcell⟩ := recs_at HR.out k hkl
      obtain ⟨a0, a1⟩ := cells2 hcell k hkl
      have HQ := Lib.hid (inP_at (List.getElem?_eq_getElem hkl) s)
      obtain ⟨q, hq⟩ : ∃ q, l[k] = q := ⟨_, rfl⟩
      rw [hq] at a0 a1 HQ
      obtain ⟨q1, q2⟩ := q
      dsimp only at a0 a1 HQ
      rw [HF.out] at HQ
      clear hcell hq hkl
      by_cases h1 : q1 ≤ s
      · by_cases h2 : s < q2
        · have HE := Lib.hid (HT.out k (by rw [HQ.out, decide_eq_true h1, decide_eq_true h2]; rfl))
          go_wp2
          go_ret
          exact ⟨by rw [HE.out]; rfl, rfl⟩
        · have HE := Lib.hid (show inP (l.take (k + 1)) s = false by rw [HQ.out, decide_eq_false h2]; simp)
          go_wp2
          go_round
          case rel => exact ⟨k + 1, by go_num, by omega, HE⟩
          case measure => simp [intOf]; omega
      · have HE := Lib.hid (show inP (l.take (k + 1)) s = false by rw [HQ.out, decide_eq_false h1]; simp)
        go_wp2
        go_round
        case rel => exact ⟨k + 1, by go_num, by omega, HE⟩
        case measure => simp [intOf]; omega
    · have k1 : ¬ (k : Int) < (n : Int) := by omega
      have HE := Lib.hid (show inP l s = false by rw [← HF.out, List.take_of_length_le (by have := HN.out; omega)])
      go_wp2
      go_ret
      exact ⟨by rw [HE.out]; rfl, rfl⟩
end Go.Proofs.Ytnmhigjannihgaa
