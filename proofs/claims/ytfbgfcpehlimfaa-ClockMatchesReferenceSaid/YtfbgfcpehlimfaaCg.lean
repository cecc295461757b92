/- Contracts of sort.Search at a closure that only adds memory, and of Reads. -/
import Derived.Test.YtfbgfcpehlimfaaCf
import Derived.Shelf.RegionOpenPlain
import Derived.Deep.RegionHeld3
namespace Go.Proofs.Ytfbgfcpehlimfaa
open Go.RowKit

set_option maxHeartbeats 4000000 in
set_option maxRecDepth 100000 in
theorem search_any (g : Nat) (cb : Array Value) (n : Nat) (z : Int) (hz : z = n) (p : Nat → Bool) (w : World) (eg : ∀ args w, (callFunc g args).run Try.prog w = .ok (.enter g args) w) (hsz : n < 1000000000)
    (hf : ∀ u, Below w.heap.size w u → ∀ i : Nat, i < n → Calls Try.prog g (#[.int .i64 (i : Int)] ++ cb) u fun e w' => e = .returned (.bool (p i)) ∧ Below u.heap.size u w')
    (hmono : ∀ a b, a ≤ b → b < n → p a = true → p b = true) :
    Calls Try.prog 37 #[.int .i64 z, .func (.func g) #[] cb] w fun e w' => ∃ k : Nat, Ca.Edge p n k ∧ e = .returned (.int .i64 (k : Int)) ∧ Below w.heap.size w w' := by
  subst hz
  have HF := Lib.hid hf
  have M := Lib.hid hmono
  clear hf hmono
  go_enter Try.func37, Try.ntmps37
  go_wp2
  go_loopw [5, 6, 7] (fun s5 s6 _ wr => ∃ lo hi : Nat, s5 = .int .i64 (lo : Int) ∧ s6 = .int .i64 (hi : Int) ∧ lo ≤ hi ∧ hi ≤ n ∧ Below w.heap.size w wr ∧
    Hid ((∀ t, t < lo → p t = false) ∧ (∀ t, hi ≤ t → t < n → p t = true))) (fun a b _ _ => (intOf b - intOf a).toNat)
  case atStart => exact ⟨0, n, rfl, rfl, Nat.zero_le _, Nat.le_refl _, Below.refl _ _, Lib.hid ⟨fun t ht => absurd ht (Nat.not_lt_zero _), fun t h1 h2 => by omega⟩⟩
  case round =>
    obtain ⟨lo, hi, rfl, rfl, hlh, hin, hbw, I⟩ := hrel
    by_cases hlt : lo < hi
    · have hc := HF.out wr hbw ((lo + hi) / 2) (by omega)
      rw [show (((lo + hi) / 2 : Nat) : Int) = ((lo : Int) + (hi : Int)) / 2 by omega] at hc
      have HBW := Lib.hid hbw
      clear hbw
      cases hp : p ((lo + hi) / 2) <;> rw [hp] at hc
      · have HP := Lib.hid hp
        clear hp
        go_wp2_with (go_at_fn g; refine hc.mono ?_; rintro e w' ⟨rfl, hb⟩)
        go_roundw
        case rel =>
          exact ⟨(lo + hi) / 2 + 1, hi, by rw [show ((lo : Int) + (hi : Int)) / 2 + 1 = (((lo + hi) / 2 + 1 : Nat) : Int) by omega], rfl, by omega, hin, below_to HBW.out hb, Lib.hid ⟨fun t ht => (by
            cases h : p t with
            | false => rfl
            | true => have := M.out t ((lo + hi) / 2) (by omega) (by omega) h; rw [HP.out] at this; cases this), I.out.2⟩⟩
        case measure => simp [intOf]; omega
      · have HP := Lib.hid hp
        clear hp
        go_wp2_with (go_at_fn g; refine hc.mono ?_; rintro e w' ⟨rfl, hb⟩)
        go_roundw
        case rel =>
          exact ⟨lo, (lo + hi) / 2, rfl, by rw [show ((lo : Int) + (hi : Int)) / 2 = (((lo + hi) / 2 : Nat) : Int) by omega], by omega, by omega, below_to HBW.out hb, Lib.hid ⟨I.out.1, fun t ht htn => M.out ((lo + hi) / 2) t ht htn HP.out⟩⟩
        case measure => simp [intOf]; omega
    · obtain rfl : hi = lo := by omega
      have HBW := Lib.hid hbw
      clear hbw
      go_wp2
      go_ret
      exact ⟨hi, ⟨hin, I.out⟩, rfl, HBW.out⟩

theorem edge_le {p : Nat → Bool} {n k : Nat} (h : Ca.Edge p n k) : k ≤ n := h.left
theorem run_first (f l : Value) (u : World) : Sem.run Try.prog (Instr.field 62 (.agg #[f, l]) 0) u = .ok f u := by
  simp only [Instr.field, asAgg]
  go_simp
theorem run_last (f l : Value) (u : World) : Sem.run Try.prog (Instr.field 62 (.agg #[f, l]) 1) u = .ok l u := by
  simp only [Instr.field, asAgg]
  go_simp
theorem hold_c {W u u2 : World} {Bc Bt : Nat} {c0 c1 t : Value} (h : Below W.heap.size W u ∧ u.cell? ⟨Bc, 0, none⟩ = some c0 ∧ u.cell? ⟨Bc, 1, none⟩ = some c1 ∧ u.cell? ⟨Bt, 0, none⟩ = some t) (hb : Below u.heap.size u u2) (h1 : Bc < W.heap.size) (h2 : Bt < W.heap.size) :
    Below W.heap.size W u2 ∧ u2.cell? ⟨Bc, 0, none⟩ = some c0 ∧ u2.cell? ⟨Bc, 1, none⟩ = some c1 ∧ u2.cell? ⟨Bt, 0, none⟩ = some t := by
  obtain ⟨a, b, c, d⟩ := h
  have hs := a.size
  exact ⟨below_to a hb, (hb.cell (by show Bc < _; omega)).trans b, (hb.cell (by show Bc < _; omega)).trans c, (hb.cell (by show Bt < _; omega)).trans d⟩
set_option maxRecDepth 100000 in
set_option maxHeartbeats 1000000 in
theorem reads1_any (d t : Int) (rs : List Ca.R3) (c0 c1 : Value) (i : Nat) (Bc Bt : Nat) (W : World) (hv : Clk W (.agg #[c0, c1]) d rs) (hva : Ca.valid d rs = true) (hi : i < 10000001)
    (hc : Row W Bc 24 #[c0, c1]) (ht : Row W Bt 3 #[.int .i64 t]) :
    Calls Try.prog 38 (#[.int .i64 (i : Int)] ++ #[.pointer (some ⟨Bc, 0, none⟩), .pointer (some ⟨Bt, 0, none⟩)]) W fun e w' => e = .returned (.bool (Ca.pL d rs t i)) ∧ Below W.heap.size W w' := by
  have hS := fun u hu => showing_c hv hva ((Ca.isT_iff (i : Int)).2 (by omega)) u hu
  unfold Ca.pL
  obtain ⟨f, hf⟩ : ∃ f, Ca.fst d i rs = f := ⟨_, rfl⟩
  obtain ⟨l, hl⟩ : ∃ l, Ca.lst d i rs = l := ⟨_, rfl⟩
  rw [hf, hl] at hS
  first | rw [hf] | rw [hl]
  have b0 := hc.cell 0
  have b1 := hc.cell 1
  have b2 := ht.cell 0
  simp only [List.getElem?_toArray, List.getElem?_cons_zero, List.getElem?_cons_succ] at b0 b1 b2
  have HC := Lib.hid hc; have HT := Lib.hid ht; have HS := Lib.hid hS
  clear hS hc ht hv hva hf hl
  go_enter Try.func38, Try.ntmps38
  go_wp2
  have hb0 : Below W.heap.size W W := Below.refl _ _
  have hr1 := fun u => run_first (.int .i64 f) (.int .i64 l) u
  have hr2 := fun u => run_last (.int .i64 f) (.int .i64 l) u
  have hwa := HC.out.lt
  have hwb := HT.out.lt
  go_region_held3 (fun u => Below W.heap.size W u ∧ u.cell? ⟨Bc, 0, none⟩ = some c0 ∧ u.cell? ⟨Bc, 1, none⟩ = some c1 ∧ u.cell? ⟨Bt, 0, none⟩ = some (.int .i64 t)) (first | assumption | (exact ⟨Below.drew (by assumption), by assumption, by assumption, by assumption⟩) | (exact ⟨by assumption, by assumption, by assumption, by assumption⟩) | (exact hold_c (‹Below W.heap.size W _ ∧ _ ∧ _ ∧ _›) b5 hwa hwb)) (first | (go_at_call 35; ((with_reducible refine Calls.mono (HS.out _ ?hb1) ?_); (case hb1 => (first | assumption | exact (‹Below W.heap.size W _ ∧ _ ∧ _ ∧ _›).1)); rintro e w5 ⟨rfl, b5⟩)))
  go_wp2
  go_ret
  exact ⟨rfl, (‹Below W.heap.size W _ ∧ _ ∧ _ ∧ _›).1⟩

set_option maxRecDepth 100000 in
set_option maxHeartbeats 1000000 in
theorem reads2_any (d t : Int) (rs : List Ca.R3) (c0 c1 : Value) (i : Nat) (Bc Bt : Nat) (W : World) (hv : Clk W (.agg #[c0, c1]) d rs) (hva : Ca.valid d rs = true) (hi : i < 10000001)
    (hc : Row W Bc 24 #[c0, c1]) (ht : Row W Bt 3 #[.int .i64 t]) :
    Calls Try.prog 39 (#[.int .i64 (i : Int)] ++ #[.pointer (some ⟨Bc, 0, none⟩), .pointer (some ⟨Bt, 0, none⟩)]) W fun e w' => e = .returned (.bool (Ca.pF d rs t i)) ∧ Below W.heap.size W w' := by
  have hS := fun u hu => showing_c hv hva ((Ca.isT_iff (i : Int)).2 (by omega)) u hu
  unfold Ca.pF
  obtain ⟨f, hf⟩ : ∃ f, Ca.fst d i rs = f := ⟨_, rfl⟩
  obtain ⟨l, hl⟩ : ∃ l, Ca.lst d i rs = l := ⟨_, rfl⟩
  rw [hf, hl] at hS
  first | rw [hf] | rw [hl]
  have b0 := hc.cell 0
  have b1 := hc.cell 1
  have b2 := ht.cell 0
  simp only [List.getElem?_toArray, List.getElem?_cons_zero, List.getElem?_cons_succ] at b0 b1 b2
  have HC := Lib.hid hc; have HT := Lib.hid ht; have HS := Lib.hid hS
  clear hS hc ht hv hva hf hl
  go_enter Try.func39, Try.ntmps39
  go_wp2
  have hb0 : Below W.heap.size W W := Below.refl _ _
  have hr1 := fun u => run_first (.int .i64 f) (.int .i64 l) u
  have hr2 := fun u => run_last (.int .i64 f) (.int .i64 l) u
  have hwa := HC.out.lt
  have hwb := HT.out.lt
  go_region_held3 (fun u => Below W.heap.size W u ∧ u.cell? ⟨Bc, 0, none⟩ = some c0 ∧ u.cell? ⟨Bc, 1, none⟩ = some c1 ∧ u.cell? ⟨Bt, 0, none⟩ = some (.int .i64 t)) (first | assumption | (exact ⟨Below.drew (by assumption), by assumption, by assumption, by assumption⟩) | (exact ⟨by assumption, by assumption, by assumption, by assumption⟩) | (exact hold_c (‹Below W.heap.size W _ ∧ _ ∧ _ ∧ _›) b5 hwa hwb)) (first | (go_at_call 35; ((with_reducible refine Calls.mono (HS.out _ ?hb1) ?_); (case hb1 => (first | assumption | exact (‹Below W.heap.size W _ ∧ _ ∧ _ ∧ _›).1)); rintro e w5 ⟨rfl, b5⟩)))
  go_wp2
  go_ret
  exact ⟨rfl, (‹Below W.heap.size W _ ∧ _ ∧ _ ∧ _›).1⟩

/-- What Reads returns: the edges of two rising conditions. -/
def ReadsM (d : Int) (rs : List Ca.R3) (t a b e : Int) : Prop :=
  (Ca.valid d rs && Ca.isT t) = false ∧ a = 0 ∧ b = 0 ∧ e = 50 ∨ (Ca.valid d rs && Ca.isT t) = true ∧ ∃ i j : Nat, Ca.Edge (Ca.pL d rs t) 10000001 i ∧ Ca.Edge (Ca.pF d rs t) 10000001 j ∧ (i < j ∧ a = i ∧ b = (j : Int) - 1 ∧ e = 0 ∨ j ≤ i ∧ a = 0 ∧ b = 0 ∧ e = 50)
theorem ReadsM.unique {d : Int} {rs : List Ca.R3} {t a b e a' b' e' : Int} (h : ReadsM d rs t a b e) (g : ReadsM d rs t a' b' e') : a = a' ∧ b = b' ∧ e = e' := by
  rcases h with ⟨h0, h1, h2, h3⟩ | ⟨h0, i, j, hi, hj, h⟩
  · rcases g with ⟨g0, g1, g2, g3⟩ | ⟨g0, _⟩
    · omega
    · rw [h0] at g0; cases g0
  · rcases g with ⟨g0, _⟩ | ⟨g0, i', j', gi, gj, g⟩
    · rw [h0] at g0; cases g0
    · have e1 := hi.unique gi
      have e2 := hj.unique gj
      subst e1; subst e2
      omega
set_option maxRecDepth 100000 in
set_option maxHeartbeats 2000000 in
theorem reads_any (d t : Int) (rs : List Ca.R3) (v : Value) (w : World) (hv : Clk w v d rs) :
    Calls Try.prog 21 #[v, .int .i64 t] w fun e w' => ∃ x y z : Int, e = .returned (.tuple #[.int .i64 x, .int .i64 y, .int .i64 z]) ∧ ReadsM d rs t x y z ∧ Below w.heap.size w w' := by
  have hVA := fun u hu => valid_c hv u hu
  have hT := fun u => isTime_any t u
  have HV := Lib.hid hv
  obtain ⟨A, c, rfl, -⟩ := hv.form
  obtain ⟨N, hN⟩ : ∃ N, rs.length = N := ⟨_, rfl⟩
  rw [hN] at hVA HV ⊢
  clear hN hv
  obtain ⟨w0, hw0⟩ : ∃ w0, (w.alloc (.cells #[.int .i64 d, .slice A N c] 24)).alloc (.cells #[.int .i64 t] 3) = w0 := ⟨_, rfl⟩
  have hs0 : w0.heap.size = w.heap.size + 1 + 1 := by rw [← hw0]; simp
  have hb0 : Below w.heap.size w w0 := by rw [← hw0]; exact ((Below.refl _ w).alloc (Nat.le_refl _) _).alloc (by simp) _
  have hbx : Row w0 w.heap.size 24 #[.int .i64 d, .slice A N c] := by rw [← hw0]; exact (Row.new w _ _).alloc _
  have hbt : Row w0 (w.heap.size + 1) 3 #[.int .i64 t] := by
    have := Row.new (w.alloc (.cells #[.int .i64 d, .slice A N c] 24)) 3 #[.int .i64 t]
    rw [hw0] at this; simpa using this
  have HB0 := Lib.hid hb0; have HBX := Lib.hid hbx; have HBT := Lib.hid hbt
  have b0 := hbx.cell 0
  have b1 := hbx.cell 1
  have b2 := hbt.cell 0
  simp only [List.getElem?_toArray, List.getElem?_cons_zero, List.getElem?_cons_succ] at b0 b1 b2
  clear hb0 hbx hbt
  cases h1 : Ca.valid d rs with
  | false =>
    rw [h1] at hVA
    have HVA := Lib.hid hVA
    have HR : Hid (ReadsM d rs t 0 0 50) := Lib.hid (.inl ⟨by rw [h1]; rfl, rfl, rfl, rfl⟩)
    clear hVA h1 hT
    go_enter Try.func21, Try.ntmps21
    go_wp2_with (go_at_call 16; refine (HVA.out _ HB0.out).mono ?_; rintro e w1 ⟨rfl, hb1⟩; have HB1 := Lib.hid hb1; clear hb1)
    go_ret3
    exact ⟨_, _, _, rfl, HR.out, below_to HB0.out HB1.out⟩
  | true =>
    rw [h1] at hVA
    have HVA := Lib.hid hVA
    cases h2 : Ca.isT t with
    | false =>
      rw [h2] at hT
      have HR : Hid (ReadsM d rs t 0 0 50) := Lib.hid (.inl ⟨by rw [h1, h2]; rfl, rfl, rfl, rfl⟩)
      clear hVA h1 h2
      go_enter Try.func21, Try.ntmps21
      go_wp2_with (first | (go_at_call 16; refine (HVA.out _ HB0.out).mono ?_; rintro e w1 ⟨rfl, hb1⟩; have HB1 := Lib.hid hb1; have k2 := (hb1.cell (p := ⟨w.heap.size + 1, 0, none⟩) (show w.heap.size + 1 < w0.heap.size by omega)).trans b2; clear hb1) | (go_at_call 30; refine (hT _).mono ?_; rintro e w' ⟨rfl, rfl⟩))
      go_ret3
      exact ⟨_, _, _, rfl, HR.out, below_to HB0.out HB1.out⟩
    | true =>
      rw [h2] at hT
      obtain ⟨⟨d1, d2⟩, -, -⟩ := (Ca.valid_iff d rs).1 h1
      have hf1 : ∀ u, Below w0.heap.size w0 u → ∀ q, Below u.heap.size u q → ∀ i : Nat, i < 10000001 → Calls Try.prog 38 (#[.int .i64 (i : Int)] ++ #[.pointer (some ⟨w.heap.size, 0, none⟩), .pointer (some ⟨w.heap.size + 1, 0, none⟩)]) q fun e w' => e = .returned (.bool (Ca.pL d rs t i)) ∧ Below q.heap.size q w' := fun u hu q hq i hi =>
        reads1_any d t rs _ _ i _ _ q (HV.out.next ((below_to (below_to HB0.out hu) hq))) h1 hi (HBX.out.below (below_to hu hq) (by omega)) (HBT.out.below (below_to hu hq) (by omega))
      have hf2 : ∀ u, Below w0.heap.size w0 u → ∀ q, Below u.heap.size u q → ∀ i : Nat, i < 10000001 → Calls Try.prog 39 (#[.int .i64 (i : Int)] ++ #[.pointer (some ⟨w.heap.size, 0, none⟩), .pointer (some ⟨w.heap.size + 1, 0, none⟩)]) q fun e w' => e = .returned (.bool (Ca.pF d rs t i)) ∧ Below q.heap.size q w' := fun u hu q hq i hi =>
        reads2_any d t rs _ _ i _ _ q (HV.out.next ((below_to (below_to HB0.out hu) hq))) h1 hi (HBX.out.below (below_to hu hq) (by omega)) (HBT.out.below (below_to hu hq) (by omega))
      have hs1 := fun u hu => search_any 38 #[.pointer (some ⟨w.heap.size, 0, none⟩), .pointer (some ⟨w.heap.size + 1, 0, none⟩)] 10000001 10000001 (by omega) (Ca.pL d rs t) u (enters_of Try.func38 (by kernel_rfl) rfl) (by omega) (hf1 u hu) (fun a b h _ e => Ca.pL_mono d rs t d1 d2 a b h e)
      have hs2 := fun u hu => search_any 39 #[.pointer (some ⟨w.heap.size, 0, none⟩), .pointer (some ⟨w.heap.size + 1, 0, none⟩)] 10000001 10000001 (by omega) (Ca.pF d rs t) u (enters_of Try.func39 (by kernel_rfl) rfl) (by omega) (hf2 u hu) (fun a b h _ e => Ca.pF_mono d rs t d1 d2 a b h e)
      have HS1 := Lib.hid hs1; have HS2 := Lib.hid hs2
      have H12 := Lib.hid (show (Ca.valid d rs && Ca.isT t) = true by rw [h1, h2]; rfl)
      clear hVA h1 h2 hf1 hf2 hs1 hs2
      go_enter Try.func21, Try.ntmps21
      go_wp2_with (first | (go_at_call 16; refine (HVA.out _ HB0.out).mono ?_; rintro e w1 ⟨rfl, hb1⟩; have HB1 := Lib.hid hb1; have k2 := (hb1.cell (p := ⟨w.heap.size + 1, 0, none⟩) (show w.heap.size + 1 < w0.heap.size by omega)).trans b2; clear hb1) | (go_at_call 30; refine (hT _).mono ?_; rintro e w' ⟨rfl, rfl⟩) | (go_at_call 37; with_reducible refine Calls.mono (HS1.out _ HB1.out) ?_; rintro e w2 ⟨i, hi, rfl, hb2⟩; have HI := Lib.hid hi; have hi1 := edge_le hi; have HB2 := Lib.hid hb2; clear hi hb2) | (go_at_call 37; with_reducible refine Calls.mono (HS2.out _ (below_to HB1.out HB2.out)) ?_; rintro e w3 ⟨j, hj, rfl, hb3⟩; have HJ := Lib.hid hj; have hj1 := edge_le hj; have HB3 := Lib.hid hb3; clear hj hb3))
      all_goals go_ret3
      all_goals refine ⟨_, _, _, rfl, .inr ⟨H12.out, i, j, HI.out, HJ.out, ?_⟩, below_to HB0.out (below_to (below_to HB1.out HB2.out) HB3.out)⟩
      all_goals omega
end Go.Proofs.Ytfbgfcpehlimfaa
