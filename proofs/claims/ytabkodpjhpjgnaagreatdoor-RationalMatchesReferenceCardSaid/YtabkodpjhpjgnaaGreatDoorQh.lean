/- Make, Of, and the four operations. -/
import Derived.Test.YtabkodpjhpjgnaaGreatDoorQg
import Derived.Deep.RegionHeld3
namespace Go.Proofs.YtabkodpjhpjgnaaGreatDoor
open Go.RowKit Go.Shelf

theorem hold4 {w u u' : World} {x y z v : Value} (h : Below w.heap.size w u ∧ w.heap.size + 1 + 1 < u.heap.size ∧ (∃ a b, Row u (w.heap.size + 1 + 1) 23 #[a, b]) ∧ u.cell? ⟨w.heap.size, 0, none⟩ = some x ∧ u.cell? ⟨w.heap.size, 1, none⟩ = some y ∧ u.cell? ⟨w.heap.size + 1, 0, none⟩ = some z ∧ u.cell? ⟨w.heap.size + 1, 1, none⟩ = some v) (hb : Below u.heap.size u u') :
    Below w.heap.size w u' ∧ w.heap.size + 1 + 1 < u'.heap.size ∧ (∃ a b, Row u' (w.heap.size + 1 + 1) 23 #[a, b]) ∧ u'.cell? ⟨w.heap.size, 0, none⟩ = some x ∧ u'.cell? ⟨w.heap.size, 1, none⟩ = some y ∧ u'.cell? ⟨w.heap.size + 1, 0, none⟩ = some z ∧ u'.cell? ⟨w.heap.size + 1, 1, none⟩ = some v := by
  obtain ⟨h1, h2, ⟨a, b, h3⟩, h4, h5, h6, h7⟩ := h
  exact ⟨below_to h1 hb, Nat.lt_of_lt_of_le h2 hb.size, ⟨a, b, h3.below hb h2⟩, (hb.cell (p := ⟨w.heap.size, 0, none⟩) (by dsimp only; omega)).trans h4, (hb.cell (p := ⟨w.heap.size, 1, none⟩) (by dsimp only; omega)).trans h5, (hb.cell (p := ⟨w.heap.size + 1, 0, none⟩) (by dsimp only; omega)).trans h6, (hb.cell (p := ⟨w.heap.size + 1, 1, none⟩) (by dsimp only; omega)).trans h7⟩
theorem far2 {u : World} {g : Nat} {p : Addr} {c d : Value} (hp : p.block ≠ g) : ((u.setCell ⟨g, 0, none⟩ c).setCell ⟨g, 1, none⟩ d).cell? p = u.cell? p :=
  (World.cell?_setCell_other _ _ _ _ (by intro e; subst e; exact hp rfl)).trans (World.cell?_setCell_other _ _ _ _ (by intro e; subst e; exact hp rfl))
theorem put4 {w u : World} {x y z v c d : Value} (h : Below w.heap.size w u ∧ w.heap.size + 1 + 1 < u.heap.size ∧ (∃ a b, Row u (w.heap.size + 1 + 1) 23 #[a, b]) ∧ u.cell? ⟨w.heap.size, 0, none⟩ = some x ∧ u.cell? ⟨w.heap.size, 1, none⟩ = some y ∧ u.cell? ⟨w.heap.size + 1, 0, none⟩ = some z ∧ u.cell? ⟨w.heap.size + 1, 1, none⟩ = some v) :
    Below w.heap.size w ((u.setCell ⟨w.heap.size + 1 + 1, 0, none⟩ c).setCell ⟨w.heap.size + 1 + 1, 1, none⟩ d) ∧ w.heap.size + 1 + 1 < ((u.setCell ⟨w.heap.size + 1 + 1, 0, none⟩ c).setCell ⟨w.heap.size + 1 + 1, 1, none⟩ d).heap.size ∧ (∃ a b, Row ((u.setCell ⟨w.heap.size + 1 + 1, 0, none⟩ c).setCell ⟨w.heap.size + 1 + 1, 1, none⟩ d) (w.heap.size + 1 + 1) 23 #[a, b]) ∧ ((u.setCell ⟨w.heap.size + 1 + 1, 0, none⟩ c).setCell ⟨w.heap.size + 1 + 1, 1, none⟩ d).cell? ⟨w.heap.size, 0, none⟩ = some x ∧ ((u.setCell ⟨w.heap.size + 1 + 1, 0, none⟩ c).setCell ⟨w.heap.size + 1 + 1, 1, none⟩ d).cell? ⟨w.heap.size, 1, none⟩ = some y ∧ ((u.setCell ⟨w.heap.size + 1 + 1, 0, none⟩ c).setCell ⟨w.heap.size + 1 + 1, 1, none⟩ d).cell? ⟨w.heap.size + 1, 0, none⟩ = some z ∧ ((u.setCell ⟨w.heap.size + 1 + 1, 0, none⟩ c).setCell ⟨w.heap.size + 1 + 1, 1, none⟩ d).cell? ⟨w.heap.size + 1, 1, none⟩ = some v := by
  obtain ⟨h1, h2, ⟨a, b, h3⟩, h4, h5, h6, h7⟩ := h
  exact ⟨(h1.setCell (by dsimp only; omega) _).setCell (by dsimp only; omega) _, by simp; omega, ⟨c, d, rat_row h3⟩, (far2 (by dsimp only; omega)).trans h4, (far2 (by dsimp only; omega)).trans h5, (far2 (by dsimp only; omega)).trans h6, (far2 (by dsimp only; omega)).trans h7⟩
theorem new_below (u : World) (o : Obj) : Below u.heap.size u (u.alloc o) := (Below.refl _ _).alloc (Nat.le_refl _) _

/-- Make, where reducing gives y or fails. -/
theorem make_any (l r : List UInt8) (s t : ByteArray) (f : Bool) (w : World) (ht : TabP w) (hs : ∀ u, StepQ u 59 #[] (rv l r) (rvB s t) f) :
    Calls Tryz.prog 27 #[strOf l, strOf r] w (BuildP f (rvB s t) w) := by
  have HS := Lib.hid hs; have HT := Lib.hid ht
  have EG : Hid (∀ args w, (callFunc 59 args).run Tryz.prog w = .ok (.enter 59 args) w) := Lib.hid (enters_of Tryz.func59 (by kernel_rfl) rfl)
  unfold rv strOf at *
  generalize bs l = L at *
  generalize bs r = R at *
  clear hs ht
  have hro := Row.new w 23 #[.string ⟨#[]⟩, .string ⟨#[]⟩]
  have HO := Lib.hid hro
  have HB := Lib.hid (new_below w (.cells #[.string ⟨#[]⟩, .string ⟨#[]⟩] 23))
  clear hro
  go_enter Tryz.func27, Tryz.ntmps27
  go_wp2_with (go_at_call 58; (with_reducible refine Calls.mono (build1 _ _ L R s t f _ (HT.out.next HB.out) _ (w.heap.size + 1) (by simp) EG.out (HS.out _)) ?_); unfold BuildP; rintro e w1 ⟨S, T, er, rfl, ho, hb1⟩; have hb2 := below_to (new_below _ _) hb1; have HO1 := Lib.hid (HO.out.below hb2 HO.out.lt); have HB1 := Lib.hid (below_to HB.out hb2); have HQ := Lib.hid ho; obtain ⟨o0, o1, f0, f1⟩ := rat_facts HO1.out; clear hb1 hb2 ho)
  refine bodyPost_ret (results_rat_tmp rfl _ _ w.heap.size _ _ rfl (rat_row HO1.out)) rfl ?_
  exact ⟨S, T, er, rfl, HQ.out, (HB1.out.setCell (by dsimp only; omega) _).setCell (by dsimp only; omega) _⟩
/-- Two fractions that lie behind each other. -/
theorem rats2 {u : World} {g : Nat} {a1 a2 b1 b2 : List UInt8} (h : Row u g 23 #[strOf a1, strOf a2, strOf b1, strOf b2]) : Rats u g 2 (fun k => if k = 0 then a1 else b1) (fun k => if k = 0 then a2 else b2) := by
  refine ⟨h.lt, fun k hk => ?_⟩
  rw [h.cell, h.cell]
  rcases (by omega : k = 0 ∨ k = 1) with rfl | rfl
  · exact ⟨rfl, rfl⟩
  · exact ⟨rfl, rfl⟩
theorem rats1 {u : World} {g : Nat} {a1 a2 : List UInt8} (h : Row u g 23 #[strOf a1, strOf a2]) : Rats u g 1 (fun _ => a1) (fun _ => a2) := by
  refine ⟨h.lt, fun k hk => ?_⟩
  rw [h.cell, h.cell]
  obtain rfl : k = 0 := by omega
  exact ⟨rfl, rfl⟩
/-- areValid's step at two operands, whose slice was just made. -/
theorem are2 (a1 a2 b1 b2 x y : List UInt8) (u w : World) (g gb : Nat) (hr : Row u g 23 #[strOf a1, strOf a2, strOf b1, strOf b2]) (hb : Below u.heap.size u w) (h : Row w gb 30 #[.slice (some ⟨g, 0, none⟩) 2 2]) :
    StepQ w 91 #[.pointer (some ⟨gb, 0, none⟩)] (rv x y) (rv x y) (vldR a1 a2 && vldR b1 b2) :=
  areV1_step 2 _ _ g gb w (by decide) h (rats2 (hr.below hb hr.lt)) x y _ (by
    rw [Bool.and_eq_true]
    refine ⟨fun ⟨h1, h2⟩ k hk => ?_, fun h => ⟨h 0 (by omega), h 1 (by omega)⟩⟩
    rcases (by omega : k = 0 ∨ k = 1) with rfl | rfl
    · exact h1
    · exact h2)
theorem are1 (a1 a2 x y : List UInt8) (u w : World) (g gb : Nat) (hr : Row u g 23 #[strOf a1, strOf a2]) (hb : Below u.heap.size u w) (h : Row w gb 30 #[.slice (some ⟨g, 0, none⟩) 1 1]) :
    StepQ w 91 #[.pointer (some ⟨gb, 0, none⟩)] (rv x y) (rv x y) (vldR a1 a2) :=
  areV1_step 1 _ _ g gb w (by decide) h (rats1 (hr.below hb hr.lt)) x y _ ⟨fun h1 k hk => h1, fun h => h 0 (by omega)⟩

/-- Three boxes: two operands and the result. -/
theorem boxes3 (w : World) (A B C D : ByteArray) : ∃ W, ((w.alloc (.cells #[.string A, .string B] 23)).alloc (.cells #[.string C, .string D] 23)).alloc (.cells #[.string ⟨#[]⟩, .string ⟨#[]⟩] 23) = W ∧ Below w.heap.size w W ∧
    Row W w.heap.size 23 #[.string A, .string B] ∧ Row W (w.heap.size + 1) 23 #[.string C, .string D] ∧ Row W (w.heap.size + 1 + 1) 23 #[.string ⟨#[]⟩, .string ⟨#[]⟩] := by
  refine ⟨_, rfl, (((Below.refl _ _).alloc (Nat.le_refl _) _).alloc (by simp) _).alloc (by simp; omega) _, ((Row.new w _ _).alloc _).alloc _, ?_, ?_⟩
  · have := (Row.new (w.alloc (.cells #[.string A, .string B] 23)) 23 #[.string C, .string D]).alloc (.cells #[.string ⟨#[]⟩, .string ⟨#[]⟩] 23)
    rw [World.size_alloc] at this; exact this
  · have := Row.new ((w.alloc (.cells #[.string A, .string B] 23)).alloc (.cells #[.string C, .string D] 23)) 23 #[.string ⟨#[]⟩, .string ⟨#[]⟩]
    rw [World.size_alloc, World.size_alloc] at this; exact this

set_option maxRecDepth 100000 in
set_option maxHeartbeats 4000000 in
theorem sum_any (a1 a2 b1 b2 : List UInt8) (op : Nat) (eg : ∀ args w, (callFunc op args).run Tryz.prog w = .ok (.enter op args) w) (v f : Bool) (hv : (vldR a1 a2 && vldR b1 b2) = v) (s1 s2 s3 s4 t4 t2 : ByteArray) (e1 e2 e3 e4 : Int) (w : World) (ht : TabP w)
    (m1 : v = true → CallT 93 #[strOf a1, strOf b2] (.tuple #[.string s1, .int .i64 e1])) (m2 : v = true → CallT 93 #[strOf a2, strOf b2] (.tuple #[.string s2, .int .i64 e2]))
    (m3 : v = true → CallT 93 #[strOf b1, strOf a2] (.tuple #[.string s3, .int .i64 e3]))
    (m4 : v = true → (decide (e1 = 0) && decide (e2 = 0)) = true → ∃ l r, s1 = bs l ∧ s2 = bs r ∧ CallT op #[strOf l, .string s3] (.tuple #[.string s4, .int .i64 e4]))
    (m5 : v = true → (decide (e1 = 0) && decide (e2 = 0)) = true → (decide (e3 = 0) && decide (e4 = 0)) = true → ∀ u, StepQ u 59 #[] (rvB s4 s2) (rvB t4 t2) f) :
    Calls Tryz.prog 66 #[rv a1 a2, rv b1 b2, .func (.func op) #[] #[]] w (BuildP (v && (decide (e1 = 0) && decide (e2 = 0)) && (decide (e3 = 0) && decide (e4 = 0)) && f) (rvB t4 t2) w) := by
  have AV : Hid (∀ (v : Value), (∃ A n c, v = .slice A n c) → ∀ w, Calls Tryz.prog 68 #[v] w fun e w' => ∃ gb, e = .returned (.func (.func 91) #[] #[.pointer (some ⟨gb, 0, none⟩)]) ∧ Row w' gb 30 #[v] ∧ Below w.heap.size w w') := Lib.hid areValid_any
  have MU := Lib.hid (multiply_any b2 b2)
  have CO := Lib.hid (combine_any op b1 a2)
  have H0 := Lib.hid (fun (u w1 : World) g gb hr hb h => are2 a1 a2 b1 b2 a1 a2 u w1 g gb hr hb h)
  rw [hv] at H0
  have H1 := Lib.hid (fun (hv : v = true) (u : World) g1 g2 h1 h2 => mul1_step a1 a2 b2 b2 s1 s2 e1 e2 u g1 g2 h1 h2 (m1 hv) (m2 hv))
  have H2 : Hid (v = true → (decide (e1 = 0) && decide (e2 = 0)) = true → ∀ (u : World) g1 g2 g3, Row u g1 9 #[strOf b1] → Row u g2 9 #[strOf a2] → Row u g3 103 #[.func (.func op) #[] #[]] → StepQ u 110 #[.pointer (some ⟨g1, 0, none⟩), .pointer (some ⟨g2, 0, none⟩), .pointer (some ⟨g3, 0, none⟩)] (rvB s1 s2) (rvB s4 s2) (decide (e3 = 0) && decide (e4 = 0))) := Lib.hid (fun hv h1 u g1 g2 g3 k1 k2 k3 => by
    obtain ⟨l, r, rfl, rfl, m⟩ := m4 hv h1
    exact comb1_step l r b1 a2 s3 s4 e3 e4 op u g1 g2 g3 k1 k2 k3 eg (m3 hv) m)
  have H3 := Lib.hid m5
  have HT := Lib.hid ht
  have E0 : Hid (∀ args w, (callFunc 91 args).run Tryz.prog w = .ok (.enter 91 args) w) := Lib.hid (enters_of Tryz.func91 (by kernel_rfl) rfl)
  have E1 : Hid (∀ args w, (callFunc 92 args).run Tryz.prog w = .ok (.enter 92 args) w) := Lib.hid (enters_of Tryz.func92 (by kernel_rfl) rfl)
  have E2 : Hid (∀ args w, (callFunc 110 args).run Tryz.prog w = .ok (.enter 110 args) w) := Lib.hid (enters_of Tryz.func110 (by kernel_rfl) rfl)
  have E3 : Hid (∀ args w, (callFunc 59 args).run Tryz.prog w = .ok (.enter 59 args) w) := Lib.hid (enters_of Tryz.func59 (by kernel_rfl) rfl)
  obtain ⟨F, hF⟩ : ∃ F, (v && (decide (e1 = 0) && decide (e2 = 0)) && (decide (e3 = 0) && decide (e4 = 0)) && f) = F := ⟨_, rfl⟩
  have BU := Lib.hid (fun (u : World) hu t b0 b1 b2 b3 k0 k1 k2 k3 => build4 91 92 110 59 b0 b1 b2 b3 (bs a1) (bs a2) (bs a1) (bs a2) s1 s2 s4 s2 t4 t2 v (decide (e1 = 0) && decide (e2 = 0)) (decide (e3 = 0) && decide (e4 = 0)) f u hu t u.heap.size rfl E0.out E1.out E2.out E3.out k0 k1 k2 k3)
  rw [hF] at BU ⊢
  clear hv m1 m2 m3 m4 m5 ht hF eg E0 E1 E2 E3
  unfold rv strOf at *
  generalize bs a1 = A1 at *
  generalize bs a2 = A2 at *
  generalize bs b1 = B1 at *
  generalize bs b2 = B2 at *
  obtain ⟨W, hW, hbw, hx, hy, ho⟩ := boxes3 w A1 A2 B1 B2
  obtain ⟨p0, p1, -, -⟩ := rat_facts hx
  obtain ⟨q0, q1, -, -⟩ := rat_facts hy
  have HL := Lib.hid ho.lt
  have HW := Lib.hid hW; have HB := Lib.hid hbw; have HO := Lib.hid ho
  clear hW hbw hx hy ho
  go_enter Tryz.func66, Tryz.ntmps66
  go_wp2
  rw [HW.out]
  go_region_held3 (fun u => Below w.heap.size w u ∧ w.heap.size + 1 + 1 < u.heap.size ∧ (∃ a b, Row u (w.heap.size + 1 + 1) 23 #[a, b]) ∧ u.cell? ⟨w.heap.size, 0, none⟩ = some (.string A1) ∧ u.cell? ⟨w.heap.size, 1, none⟩ = some (.string A2) ∧ u.cell? ⟨w.heap.size + 1, 0, none⟩ = some (.string B1) ∧ u.cell? ⟨w.heap.size + 1, 1, none⟩ = some (.string B2)) (first | assumption | (exact ⟨HB.out.drew, HL.out, ⟨_, _, HO.out.drew⟩, p0, p1, q0, q1⟩) | (exact hold4 (by assumption) b5) | (exact hold4 (by assumption) (new_below _ _)) | (exact put4 (by assumption))) (first | (go_at_call 68; ((with_reducible refine Calls.mono (AV.out _ ⟨_, _, _, rfl⟩ _) ?_); rintro e w1 ⟨gb, rfl, hr0, b5⟩); have bA := Lib.hid b5; have bW1 := Lib.hid (below_to (below_to HB.out.drew (new_below _ _)) b5); have R0 := Lib.hid hr0; clear hr0) | (go_at_call 69; ((with_reducible refine Calls.mono (MU.out _) ?_); rintro e w2 ⟨g1, g2, rfl, hr1, hr2, b5⟩); have bB := Lib.hid b5; have bW2 := Lib.hid (below_to bW1.out b5); have R1 := Lib.hid hr1; have R2 := Lib.hid hr2; clear hr1 hr2) | (go_at_call 89; ((with_reducible refine Calls.mono (CO.out _) ?_); rintro e w3 ⟨k1, k2, k3, rfl, hk1, hk2, hk3, b5⟩); have bC := Lib.hid b5; have bW3 := Lib.hid (below_to bW2.out b5); have K1 := Lib.hid hk1; have K2 := Lib.hid hk2; have K3 := Lib.hid hk3; clear hk1 hk2 hk3) | (go_at_call 58; ((with_reducible refine Calls.mono (BU.out w3 ?hu _ _ _ _ _ ?c0 ?c1 ?c2 ?c3) ?_); (case hu => exact HT.out.next bW3.out); (case c0 => exact (H0.out _ w1 _ gb (Row.new W.drew _ _) bA.out R0.out).next (below_to bB.out bC.out)); (case c1 => exact fun hv => (H1.out hv w2 g1 g2 R1.out R2.out).next bC.out); (case c2 => exact fun hv h1 => H2.out hv h1 w3 k1 k2 k3 K1.out K2.out K3.out); (case c3 => exact fun hv h1 h2 => H3.out hv h1 h2 w3); unfold BuildP; rintro e w5 ⟨S, T, er, rfl, hq, b5⟩); have HQ := Lib.hid hq; have HS5 := Lib.hid (hold4 ‹Below w.heap.size w _ ∧ _ ∧ _ ∧ _ ∧ _ ∧ _ ∧ _› b5); obtain ⟨x5, y5, hr5⟩ := HS5.out.2.2.1; have HO5 := Lib.hid hr5; obtain ⟨o0, o1, f0, f1⟩ := rat_facts HO5.out; clear hq hr5))
  all_goals
    go_wp2
    refine bodyPost_ret (results_rat_tmp rfl _ _ (w.heap.size + 1 + 1) _ _ rfl (rat_row HO5.out)) rfl ?_
    exact ⟨S, T, er, rfl, HQ.out, (HS5.out.1.setCell (by dsimp only; omega) _).setCell (by dsimp only; omega) _⟩
end Go.Proofs.YtabkodpjhpjgnaaGreatDoor
