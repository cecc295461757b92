/- Rounding: Down and Up. -/
import Derived.Test.YtabkodpjhpjgnaaGreatDoorQj
import Derived.Test.YtabkodpjhpjgnaaGreatDoorShelg
namespace Go.Proofs.YtabkodpjhpjgnaaGreatDoor
open Go.RowKit Go.Shelf

/-- Ten to a power, as text. -/
def zer (p : Nat) : List UInt8 := List.replicate p 48
theorem ten_text : ∀ p : Nat, (49 : UInt8) :: zer p = Lib.itoa ((10 ^ p : Nat) : Int)
  | 0 => by decide +kernel
  | p + 1 => by
    have ih := ten_text p
    have h1 : 1 ≤ 10 ^ p := Nat.pow_pos (by decide)
    rw [pos_itoa (by omega), Int.natAbs_natCast] at ih ⊢
    have e : 10 ^ (p + 1) = 10 * 10 ^ p := by rw [Nat.pow_succ, Nat.mul_comm]
    rw [Im.dd_big (10 ^ (p + 1)) (by omega), show 10 ^ (p + 1) / 10 = 10 ^ p from by omega, ← ih, show 10 ^ (p + 1) % 10 = 0 from by omega]
    unfold zer
    rw [List.replicate_succ']; rfl
theorem rep_eq : ∀ p : Nat, Lib.repeatL [48] p = zer p
  | 0 => rfl
  | p + 1 => by
    have ih := rep_eq p
    unfold zer at *
    rw [List.replicate_succ, ← ih]; rfl
theorem rep_any (p : Nat) (hp : p ≤ 1000) (w : World) : Calls Tryz.prog 81 #[.string ⟨#[48]⟩, .int .i64 (p : Int)] w fun e w' => e = .returned (strOf (zer p)) ∧ Below w.heap.size w w' := by
  refine (Tryz.strings_Repeat ⟨#[48]⟩ p w (by omega) (by show 1 * p ≤ _; omega)).mono fun e w' ⟨h1, h2⟩ => ⟨?_, h2⟩
  rw [h1]
  unfold strOf bs
  rw [show (⟨#[48]⟩ : ByteArray).data.toList = [48] from rfl, rep_eq]
theorem ten_cat (p : Nat) : (⟨#[49]⟩ : ByteArray) ++ bs (zer p) = bs (Lib.itoa ((10 ^ p : Nat) : Int)) := by
  rw [show (⟨#[49]⟩ : ByteArray) = bs [49] from rfl, bs_append, ← ten_text]; rfl
theorem ok_ten {p : Nat} (h : p < 200) : okz ((10 ^ p : Nat) : Int) = true := decide_eq_true (by rw [Int.natAbs_natCast]; exact Nat.pow_lt_pow_right (by decide) h)

theorem hold2r {w u u' : World} {x y : Value} (h : Below w.heap.size w u ∧ w.heap.size + 1 < u.heap.size ∧ (∃ a b, Row u (w.heap.size + 1) 23 #[a, b]) ∧ u.cell? ⟨w.heap.size, 0, none⟩ = some x ∧ u.cell? ⟨w.heap.size, 1, none⟩ = some y) (hb : Below u.heap.size u u') :
    Below w.heap.size w u' ∧ w.heap.size + 1 < u'.heap.size ∧ (∃ a b, Row u' (w.heap.size + 1) 23 #[a, b]) ∧ u'.cell? ⟨w.heap.size, 0, none⟩ = some x ∧ u'.cell? ⟨w.heap.size, 1, none⟩ = some y := by
  obtain ⟨h1, h2, ⟨a, b, h3⟩, h4, h5⟩ := h
  exact ⟨below_to h1 hb, Nat.lt_of_lt_of_le h2 hb.size, ⟨a, b, h3.below hb h2⟩, (hb.cell (p := ⟨w.heap.size, 0, none⟩) (by dsimp only; omega)).trans h4, (hb.cell (p := ⟨w.heap.size, 1, none⟩) (by dsimp only; omega)).trans h5⟩
theorem put2r {w u : World} {x y c d : Value} (h : Below w.heap.size w u ∧ w.heap.size + 1 < u.heap.size ∧ (∃ a b, Row u (w.heap.size + 1) 23 #[a, b]) ∧ u.cell? ⟨w.heap.size, 0, none⟩ = some x ∧ u.cell? ⟨w.heap.size, 1, none⟩ = some y) :
    Below w.heap.size w ((u.setCell ⟨w.heap.size + 1, 0, none⟩ c).setCell ⟨w.heap.size + 1, 1, none⟩ d) ∧ w.heap.size + 1 < ((u.setCell ⟨w.heap.size + 1, 0, none⟩ c).setCell ⟨w.heap.size + 1, 1, none⟩ d).heap.size ∧ (∃ a b, Row ((u.setCell ⟨w.heap.size + 1, 0, none⟩ c).setCell ⟨w.heap.size + 1, 1, none⟩ d) (w.heap.size + 1) 23 #[a, b]) ∧ ((u.setCell ⟨w.heap.size + 1, 0, none⟩ c).setCell ⟨w.heap.size + 1, 1, none⟩ d).cell? ⟨w.heap.size, 0, none⟩ = some x ∧ ((u.setCell ⟨w.heap.size + 1, 0, none⟩ c).setCell ⟨w.heap.size + 1, 1, none⟩ d).cell? ⟨w.heap.size, 1, none⟩ = some y := by
  obtain ⟨h1, h2, ⟨a, b, h3⟩, h4, h5⟩ := h
  exact ⟨(h1.setCell (by dsimp only; omega) _).setCell (by dsimp only; omega) _, by simp; omega, ⟨c, d, rat_row h3⟩, (far2 (by dsimp only; omega)).trans h4, (far2 (by dsimp only; omega)).trans h5⟩

set_option maxRecDepth 100000 in
set_option maxHeartbeats 1000000 in
theorem round_far (l r : List UInt8) (p : Int) (gw : Nat) (y : Value) (w : World) (hp : p < 0 ∨ 30 < p) : Calls Tryz.prog 54 #[rv l r, .int .i64 p, .func (.func gw) #[] #[]] w (BuildP false y w) := by
  unfold rv strOf
  generalize bs l = L
  generalize bs r = R
  obtain ⟨W, hW, hbw, -, ho⟩ := boxes2 w L R
  have HW := Lib.hid hW; have HB := Lib.hid hbw
  have HO := Lib.hid ho
  clear hW hbw ho
  rcases hp with hp | hp
  · go_enter Tryz.func54, Tryz.ntmps54
    go_wp2
    rw [HW.out]
    refine bodyPost_ret (results_rat_tmp rfl _ _ (w.heap.size + 1) _ _ rfl HO.out) rfl ?_
    exact ⟨_, _, _, rfl, .inr ⟨rfl, rfl, rfl, rfl⟩, HB.out⟩
  · have hp2 : ¬ p < 0 := by omega
    go_enter Tryz.func54, Tryz.ntmps54
    go_wp2
    rw [HW.out]
    refine bodyPost_ret (results_rat_tmp rfl _ _ (w.heap.size + 1) _ _ rfl HO.out) rfl ?_
    exact ⟨_, _, _, rfl, .inr ⟨rfl, rfl, rfl, rfl⟩, HB.out⟩

set_option maxRecDepth 100000 in
set_option maxHeartbeats 4000000 in
theorem round_any (l r : List UInt8) (p : Nat) (hp : p ≤ 30) (gw : Nat) (eg : ∀ args w, (callFunc gw args).run Tryz.prog w = .ok (.enter gw args) w) (f1 f2 f3 f4 : Bool) (S1 T1 S2 T2 S3 T3 S4 T4 : ByteArray) (w : World) (ht : TabP w)
    (h1 : vldR l r = true → ∀ u g1 g2, Row u g1 9 #[strOf (Lib.itoa ((10 ^ p : Nat) : Int))] → Row u g2 9 #[.string ⟨#[49]⟩] → StepQ u 92 #[.pointer (some ⟨g1, 0, none⟩), .pointer (some ⟨g2, 0, none⟩)] (rv l r) (rvB S1 T1) f1)
    (h2 : vldR l r = true → f1 = true → ∀ u, StepQ u gw #[] (rvB S1 T1) (rvB S2 T2) f2)
    (h3 : vldR l r = true → f1 = true → f2 = true → ∀ u g1 g2, Row u g1 9 #[.string ⟨#[49]⟩] → Row u g2 9 #[strOf (Lib.itoa ((10 ^ p : Nat) : Int))] → StepQ u 92 #[.pointer (some ⟨g1, 0, none⟩), .pointer (some ⟨g2, 0, none⟩)] (rvB S2 T2) (rvB S3 T3) f3)
    (h4 : vldR l r = true → f1 = true → f2 = true → f3 = true → ∀ u, StepQ u 59 #[] (rvB S3 T3) (rvB S4 T4) f4) :
    Calls Tryz.prog 54 #[rv l r, .int .i64 (p : Int), .func (.func gw) #[] #[]] w (BuildP (vldR l r && f1 && f2 && f3 && f4) (rvB S4 T4) w) := by
  have AV : Hid (∀ (v : Value), (∃ A n c, v = .slice A n c) → ∀ w, Calls Tryz.prog 68 #[v] w fun e w' => ∃ gb, e = .returned (.func (.func 91) #[] #[.pointer (some ⟨gb, 0, none⟩)]) ∧ Row w' gb 30 #[v] ∧ Below w.heap.size w w') := Lib.hid areValid_any
  have RP := Lib.hid (rep_any p (by omega))
  have HM := Lib.hid (ten_cat p)
  have MU := Lib.hid (multiply_any (Lib.itoa ((10 ^ p : Nat) : Int)) [49])
  have MV := Lib.hid (multiply_any [49] (Lib.itoa ((10 ^ p : Nat) : Int)))
  have H0 := Lib.hid (fun (u w1 : World) g gb hr hb h => are1 l r l r u w1 g gb hr hb h)
  obtain ⟨v, hv⟩ : ∃ v, vldR l r = v := ⟨_, rfl⟩
  have hz : (bs (zer p)).size ≤ 30 := by rw [bs_size]; unfold zer; rw [List.length_replicate]; exact hp
  rw [hv] at H0 h1 h2 h3 h4
  have H1 := Lib.hid h1; have H2 := Lib.hid h2; have H3 := Lib.hid h3; have H4 := Lib.hid h4
  have HT := Lib.hid ht
  have E0 : Hid (∀ args w, (callFunc 91 args).run Tryz.prog w = .ok (.enter 91 args) w) := Lib.hid (enters_of Tryz.func91 (by kernel_rfl) rfl)
  have E1 : Hid (∀ args w, (callFunc 92 args).run Tryz.prog w = .ok (.enter 92 args) w) := Lib.hid (enters_of Tryz.func92 (by kernel_rfl) rfl)
  have E3 : Hid (∀ args w, (callFunc 59 args).run Tryz.prog w = .ok (.enter 59 args) w) := Lib.hid (enters_of Tryz.func59 (by kernel_rfl) rfl)
  obtain ⟨F, hF⟩ : ∃ F, (v && f1 && f2 && f3 && f4) = F := ⟨_, rfl⟩
  have BU := Lib.hid (fun (u : World) hu t b0 b1 b3 b4 k0 k1 k2 k3 k4 => build5 91 92 gw 92 59 b0 b1 #[] b3 b4 (bs l) (bs r) (bs l) (bs r) S1 T1 S2 T2 S3 T3 S4 T4 v f1 f2 f3 f4 u hu t u.heap.size rfl E0.out E1.out eg E1.out E3.out k0 k1 k2 k3 k4)
  rw [hv]
  rw [hF] at BU ⊢
  have i0 : (0 : Int) ≤ (p : Int) := by omega
  have i1 : (p : Int) ≤ 30 := by omega
  clear hv h1 h2 h3 h4 ht hF eg E0 E1 E3
  unfold rv strOf at *
  change Hid (∀ w, Calls Tryz.prog 69 #[.string (bs (Lib.itoa ((10 ^ p : Nat) : Int))), .string ⟨#[49]⟩] w fun e w' => ∃ g1 g2, e = .returned (.func (.func 92) #[] #[.pointer (some ⟨g1, 0, none⟩), .pointer (some ⟨g2, 0, none⟩)]) ∧ Row w' g1 9 #[.string (bs (Lib.itoa ((10 ^ p : Nat) : Int)))] ∧ Row w' g2 9 #[.string ⟨#[49]⟩] ∧ Below w.heap.size w w') at MU
  change Hid (∀ w, Calls Tryz.prog 69 #[.string ⟨#[49]⟩, .string (bs (Lib.itoa ((10 ^ p : Nat) : Int)))] w fun e w' => ∃ g1 g2, e = .returned (.func (.func 92) #[] #[.pointer (some ⟨g1, 0, none⟩), .pointer (some ⟨g2, 0, none⟩)]) ∧ Row w' g1 9 #[.string ⟨#[49]⟩] ∧ Row w' g2 9 #[.string (bs (Lib.itoa ((10 ^ p : Nat) : Int)))] ∧ Below w.heap.size w w') at MV
  generalize bs l = A1 at *
  generalize bs r = A2 at *
  generalize bs (Lib.itoa ((10 ^ p : Nat) : Int)) = SC at *
  generalize bs (zer p) = ZP at *
  have hz1 : ¬ ((⟨#[49]⟩ : ByteArray).size + ZP.size > 9223372036854775807) := by show ¬ (1 + _ > _); omega
  have hz2 : ¬ (9223372036854775807 < 1 + ZP.size) := by omega
  obtain ⟨W, hW, hbw, hx, ho⟩ := boxes2 w A1 A2
  have HW := Lib.hid hW; have HB := Lib.hid hbw; have HX := Lib.hid hx; have HO := Lib.hid ho
  clear hW hbw hx ho hz
  go_enter Tryz.func54, Tryz.ntmps54
  go_wp2_with (go_at_call 81; rw [HW.out]; (with_reducible refine Calls.mono (RP.out _) ?_); rintro e w0 ⟨rfl, hb1⟩; replace HX := Lib.hid (HX.out.below hb1 HX.out.lt); replace HO := Lib.hid (HO.out.below hb1 HO.out.lt); obtain ⟨p0, p1, -, -⟩ := rat_facts HX.out; replace HB := Lib.hid (below_to HB.out hb1); have HL := Lib.hid HO.out.lt; clear hb1)
  rw [HM.out]
  go_region_held3 (fun u => Below w.heap.size w u ∧ w.heap.size + 1 < u.heap.size ∧ (∃ a b, Row u (w.heap.size + 1) 23 #[a, b]) ∧ u.cell? ⟨w.heap.size, 0, none⟩ = some (.string A1) ∧ u.cell? ⟨w.heap.size, 1, none⟩ = some (.string A2)) (first | assumption | (exact ⟨HB.out.drew, HL.out, ⟨_, _, HO.out.drew⟩, p0, p1⟩) | (exact hold2r (by assumption) b5) | (exact hold2r (by assumption) (new_below _ _)) | (exact put2r (by assumption))) (first | (go_at_call 68; ((with_reducible refine Calls.mono (AV.out _ ⟨_, _, _, rfl⟩ _) ?_); rintro e w1 ⟨gb, rfl, hr0, b5⟩); have bA := Lib.hid b5; have bW1 := Lib.hid (below_to (below_to HB.out.drew (new_below _ _)) b5); have R0 := Lib.hid hr0; clear hr0) | (go_at_call 69; ((with_reducible refine Calls.mono (MU.out _) ?_); rintro e w2 ⟨g1, g2, rfl, hr1, hr2, b5⟩); have bB := Lib.hid b5; have bW2 := Lib.hid (below_to bW1.out b5); have R1 := Lib.hid hr1; have R2 := Lib.hid hr2; clear hr1 hr2) | (go_at_call 69; ((with_reducible refine Calls.mono (MV.out _) ?_); rintro e w3 ⟨g3, g4, rfl, hr1, hr2, b5⟩); have bC := Lib.hid b5; have bW3 := Lib.hid (below_to bW2.out b5); have R3 := Lib.hid hr1; have R4 := Lib.hid hr2; clear hr1 hr2) | (go_at_call 58; ((with_reducible refine Calls.mono (BU.out w3 ?hu _ _ _ _ _ ?c0 ?c1 ?c2 ?c3 ?c4) ?_); (case hu => exact HT.out.next bW3.out); (case c0 => exact (H0.out _ w1 _ gb (Row.new w0.drew _ _) bA.out R0.out).next (below_to bB.out bC.out)); (case c1 => exact fun hv => (H1.out hv w2 g1 g2 R1.out R2.out).next bC.out); (case c2 => exact fun hv k1 => H2.out hv k1 w3); (case c3 => exact fun hv k1 k2 => H3.out hv k1 k2 w3 g3 g4 R3.out R4.out); (case c4 => exact fun hv k1 k2 k3 => H4.out hv k1 k2 k3 w3); unfold BuildP; rintro e w5 ⟨S, T, er, rfl, hq, b5⟩); have HQ := Lib.hid hq; have HS5 := Lib.hid (hold2r ‹Below w.heap.size w _ ∧ _ ∧ _ ∧ _ ∧ _› b5); obtain ⟨x5, y5, hr5⟩ := HS5.out.2.2.1; have HO5 := Lib.hid hr5; obtain ⟨o0, o1, f0, f1⟩ := rat_facts HO5.out; clear hq hr5))
  all_goals
    go_wp2
    refine bodyPost_ret (results_rat_tmp rfl _ _ (w.heap.size + 1) _ _ rfl (rat_row HO5.out)) rfl ?_
    exact ⟨S, T, er, rfl, HQ.out, (HS5.out.1.setCell (by dsimp only; omega) _).setCell (by dsimp only; omega) _⟩
end Go.Proofs.YtabkodpjhpjgnaaGreatDoor
