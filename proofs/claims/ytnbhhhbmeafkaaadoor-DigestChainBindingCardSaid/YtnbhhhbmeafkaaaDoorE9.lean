/- The walk of sane. -/
import Derived.Test.YtnbhhhbmeafkaaaDoorE8
import Derived.Test.YtnbhhhbmeafkaaaDoorM5
namespace Go.Proofs.YtnbhhhbmeafkaaaDoor
open Go.RowKit

def SanePost (w : World) (e : Ending) (w' : World) : Prop := e = .returned (.bool true) ∧ Below w.heap.size w w'
theorem strs_front {w : World} {B g off n c k : Nat} {ps : List (List UInt8)} (h : Strs w B (.slice (some ⟨g, off, none⟩) n c) ps) (hk : k ≤ ps.length) : Strs w B (.slice (some ⟨g, off, none⟩) k c) (ps.take k) := by
  obtain ⟨A, c', e, h1, h2, h3⟩ := h
  injection e with e1 e2 e3
  subst e1; subst e2; subst e3
  refine ⟨_, c, by rw [List.length_take, Nat.min_eq_left hk], by rw [List.length_take]; omega, h2, ?_⟩
  rcases h3 with ⟨h3, _⟩ | ⟨g', off', h3, hg, hc⟩
  · cases h3
  · refine .inr ⟨g', off', h3, hg, fun j s hj => ?_⟩
    have hjk : j < k := by have := (List.getElem?_eq_some_iff.1 hj).1; rw [List.length_take] at this; omega
    rw [List.getElem?_take_of_lt hjk] at hj
    exact hc j s hj
theorem hex_eq (l r : List UInt8) (S R : ByteArray) (hl : l.length ≤ 1000) (hS : bs l = S) (hR : bs r = R) (h : hexL l = r) (w : World) :
    Calls Tryd.prog 39 #[.string S] w fun e w' => e = .returned (.string R) ∧ Below w.heap.size w w' := by
  subst hS hR h
  exact (hex_any l w hl).mono fun _ _ ⟨h1, n, h2⟩ => ⟨h1, by subst h2; exact belowN (Below.refl _ _) n⟩

set_option maxRecDepth 100000 in
set_option maxHeartbeats 4000000 in
theorem sane_any (w : World) (ht : TabOk w) : Calls Tryd.prog 12 #[] w (SanePost w) := by
  have hsh : ∀ s ∈ ps0, s.length ≤ 1000 := by decide
  obtain ⟨W, hW⟩ : ∃ W, w.alloc (.cells #[.string ⟨#[97]⟩, .string ⟨#[98]⟩, .string ⟨#[99]⟩] 9) = W := ⟨_, rfl⟩
  have hb0 : Below w.heap.size w W := by rw [← hW]; exact (Below.refl _ w).alloc (Nat.le_refl _) _
  have hst : Strs W W.heap.size (.slice (some ⟨w.heap.size, 0, none⟩) 3 3) ps0 := by rw [← hW]; exact strs_new w ps0 #[.string ⟨#[97]⟩, .string ⟨#[98]⟩, .string ⟨#[99]⟩] 3 rfl rfl (by omega)
  have htW := ht.next hb0
  have T := fun u (hu : Below W.heap.size W u) => htW.next hu
  have C1 := Lib.hid (show ∀ u, Below W.heap.size W u → Calls Tryd.prog 22 #[.slice (some ⟨w.heap.size, 0, none⟩) 3 3, .int .i64 2] u (fun e w' => ∃ r, e = .returned (.tuple #[r, .int .i64 0]) ∧ w'.ownsRow u.heap.size 9 1 r (Dm.proof ps0 2).length (strCells (Dm.proof ps0 2)) ∧ Below u.heap.size u w') from fun u hu => prf_in ps0 2 _ u (hst.next hu) hsh (by decide) (by decide) (T u hu))
  have C2 := Lib.hid (show ∀ u, Below W.heap.size W u → Calls Tryd.prog 24 #[.slice (some ⟨w.heap.size, 0, none⟩) 3 3, .int .i64 1] u (fun e w' => ∃ r, e = .returned (.tuple #[r, .int .i64 0]) ∧ w'.ownsRow u.heap.size 9 1 r (extRow ps0 1).length (strCells (extRow ps0 1)) ∧ Below u.heap.size u w') from fun u hu => ext_in ps0 1 _ u (hst.next hu) hsh (by decide) (by decide) (by decide) (T u hu))
  have C3 := Lib.hid (fun u => prf_err 3 (some ⟨w.heap.size, 0, none⟩) 3 3 u (.inr (by decide)))
  have C4 := Lib.hid (fun u (hu : Below W.heap.size W u) => root_any _ ps0 u (hst.next hu) hsh (T u hu))
  have C5 := Lib.hid (fun u (hu : Below W.heap.size W u) => sum_any [] u (by decide) (T u hu))
  have C6 := Lib.hid (fun u (hu : Below W.heap.size W u) => sum_any [97, 98, 99] u (by decide) (T u hu))
  have C7 := (fun u => hex_eq (Dm.sha []) hexNil _ ⟨#[101, 51, 98, 48, 99, 52, 52, 50, 57, 56, 102, 99, 49, 99, 49, 52, 57, 97, 102, 98, 102, 52, 99, 56, 57, 57, 54, 102, 98, 57, 50, 52, 50, 55, 97, 101, 52, 49, 101, 52, 54, 52, 57, 98, 57, 51, 52, 99, 97, 52, 57, 53, 57, 57, 49, 98, 55, 56, 53, 50, 98, 56, 53, 53]⟩ (by rw [Dm.sha_len]; decide) rfl rfl f_nil u)
  have C8 := (fun u => hex_eq (Dm.sha [97, 98, 99]) hexAbc _ ⟨#[98, 97, 55, 56, 49, 54, 98, 102, 56, 102, 48, 49, 99, 102, 101, 97, 52, 49, 52, 49, 52, 48, 100, 101, 53, 100, 97, 101, 50, 50, 50, 51, 98, 48, 48, 51, 54, 49, 97, 51, 57, 54, 49, 55, 55, 97, 57, 99, 98, 52, 49, 48, 102, 102, 54, 49, 102, 50, 48, 48, 49, 53, 97, 100]⟩ (by rw [Dm.sha_len]; decide) rfl rfl f_abc u)
  dsimp only at C7 C8
  have R1 := Lib.hid (fun u (hu : Below W.heap.size W u) => root_any _ (ps0.take 1) u ((strs_front hst (by decide)).next hu) (fun s hs => hsh s (List.mem_of_mem_take hs)) (T u hu))
  have R2 := Lib.hid (fun u (hu : Below W.heap.size W u) => root_any _ (ps0.take 2) u ((strs_front hst (by decide)).next hu) (fun s hs => hsh s (List.mem_of_mem_take hs)) (T u hu))
  have pl : ∀ s ∈ Dm.proof ps0 2, s.length ≤ 1000 := fun s hs => by have := Dm.digs_mem (Dm.proof_digs ps0 2) s hs; omega
  have xl : ∀ s ∈ extRow ps0 1, s.length ≤ 1000 := fun s hs => by have := Dm.digs_mem (ext_digs ps0 1) s hs; omega
  have fp := f_p; have fx := f_x
  have V1 := Lib.hid (fun v u (hv : Strs u u.heap.size v (Dm.proof ps0 2)) (hu : Below W.heap.size W u) => f_v1 ▸ vfy_any (Dm.root ps0) [99] 3 2 v _ u hv pl (by decide) (by decide) (T u hu))
  have V2 := Lib.hid (fun v u (hv : Strs u u.heap.size v (Dm.proof ps0 2)) (hu : Below W.heap.size W u) => f_v2 ▸ vfy_any (Dm.root ps0) [100] 3 2 v _ u hv pl (by decide) (by decide) (T u hu))
  have X1 := Lib.hid (fun v u (hv : Strs u u.heap.size v (extRow ps0 1)) (hu : Below W.heap.size W u) => f_v3 ▸ vex_any (Dm.root (ps0.take 1)) (Dm.root ps0) 3 1 v _ u hv xl (by rw [Dm.root_len]; decide) (by rw [Dm.root_len]; decide) (by decide) (T u hu))
  have X2 := Lib.hid (fun v u (hv : Strs u u.heap.size v (extRow ps0 1)) (hu : Below W.heap.size W u) => f_v4 ▸ vex_any (Dm.root (ps0.take 2)) (Dm.root ps0) 3 1 v _ u hv xl (by rw [Dm.root_len]; decide) (by rw [Dm.root_len]; decide) (by decide) (T u hu))
  obtain ⟨P, hP⟩ : ∃ P, Dm.proof ps0 2 = P := ⟨_, rfl⟩
  obtain ⟨X, hX⟩ : ∃ X, extRow ps0 1 = X := ⟨_, rfl⟩
  rw [hP] at C1 V1 V2 fp; rw [hX] at C2 X1 X2 fx
  rw [fp] at C1; rw [fx] at C2
  obtain ⟨A0, hA0⟩ : ∃ A, bs (Dm.root ps0) = A := ⟨_, rfl⟩
  obtain ⟨A1, hA1⟩ : ∃ A, bs (Dm.root (ps0.take 1)) = A := ⟨_, rfl⟩
  obtain ⟨A2, hA2⟩ : ∃ A, bs (Dm.root (ps0.take 2)) = A := ⟨_, rfl⟩
  obtain ⟨S0, hS0⟩ : ∃ A, bs (Dm.sha []) = A := ⟨_, rfl⟩
  obtain ⟨S1, hS1⟩ : ∃ A, bs (Dm.sha [97, 98, 99]) = A := ⟨_, rfl⟩
  unfold strOf at C4 C5 C6 R1 R2 V1 V2 X1 X2
  rw [hA0] at C4 V1 V2 X1 X2; rw [hA1] at R1 X1; rw [hA2] at R2 X2; rw [hS0] at C5 C7; rw [hS1] at C6 C8
  have HW := Lib.hid hW; have FP := Lib.hid fp; have FX := Lib.hid fx; have HB0 := Lib.hid hb0
  have hz : W.heap.size = w.heap.size + 1 := by rw [← hW]; simp
  have HZ := Lib.hid hz
  clear hsh hW hst htW T pl xl fp fx hP hX hA0 hA1 hA2 hS0 hS1 hb0 hz
  have C7' := Lib.hid C7; have C8' := Lib.hid C8
  clear C7 C8
  have k0 : Below W.heap.size W W := Below.refl _ _
  go_enter Tryd.func12, Tryd.ntmps12
  go_wp2_with fail
  rw [HW.out]
  refine (C1.out _ k0).mono ?_
  rintro e w1 ⟨p, rfl, hp, k1⟩
  obtain ⟨Ap, cp, rfl⟩ := own_slice hp
  have sp := strs_of_own hp FP.out
  have HSP := Lib.hid (fun u (hu : Below w1.heap.size w1 u) => sp.next hu)
  have K1 := Lib.hid k1
  clear hp sp
  go_wp2_with fail
  refine (C2.out _ K1.out).mono ?_
  rintro e w2 ⟨x, rfl, hx, b2⟩
  obtain ⟨Ax, cx, rfl⟩ := own_slice hx
  have sx := strs_of_own hx FX.out
  have HSX := Lib.hid (fun u (hu : Below w2.heap.size w2 u) => sx.next hu)
  have K2 := Lib.hid (K1.out.trans (b2.mono K1.out.size)); have D2 := Lib.hid b2
  clear hx sx b2 k1
  go_wp2_with fail
  refine (C3.out _).mono ?_
  rintro e w3 ⟨rfl, b3⟩
  have K3 := Lib.hid (K2.out.trans (b3.mono K2.out.size)); have E3 := Lib.hid b3
  clear b3
  go_wp2_with fail
  refine (C4.out _ K3.out).mono ?_
  rintro e w4 ⟨rfl, b4⟩
  have K4 := Lib.hid (K3.out.trans (b4.mono K3.out.size)); have E4 := Lib.hid (E3.out.trans (b4.mono E3.out.size))
  clear b4
  go_wp2_with fail
  refine (C5.out _ K4.out).mono ?_
  rintro e w5 ⟨rfl, b5⟩
  have K5 := Lib.hid (K4.out.trans (b5.mono K4.out.size)); have E5 := Lib.hid (E4.out.trans (b5.mono E4.out.size))
  clear b5
  go_wp2_with fail
  refine (C7'.out _).mono ?_
  rintro e w6 ⟨rfl, b6⟩
  have K6 := Lib.hid (K5.out.trans (b6.mono K5.out.size)); have E6 := Lib.hid (E5.out.trans (b6.mono E5.out.size))
  clear b6
  go_wp2_with fail
  refine (C6.out _ K6.out).mono ?_
  rintro e w7 ⟨rfl, b7⟩
  have K7 := Lib.hid (K6.out.trans (b7.mono K6.out.size)); have E7 := Lib.hid (E6.out.trans (b7.mono E6.out.size))
  clear b7
  go_wp2_with fail
  refine (C8'.out _).mono ?_
  rintro e w8 ⟨rfl, b8⟩
  have K8 := Lib.hid (K7.out.trans (b8.mono K7.out.size)); have E8 := Lib.hid (E7.out.trans (b8.mono E7.out.size))
  clear b8
  go_wp2_with fail
  refine (V1.out _ _ (HSP.out _ (D2.out.trans (E8.out.mono D2.out.size))) K8.out).mono ?_
  rintro e w9 ⟨rfl, b9⟩
  have K9 := Lib.hid (K8.out.trans (b9.mono K8.out.size)); have E9 := Lib.hid (E8.out.trans (b9.mono E8.out.size))
  clear b9
  go_wp2_with fail
  refine (V2.out _ _ (HSP.out _ (D2.out.trans (E9.out.mono D2.out.size))) K9.out).mono ?_
  rintro e w10 ⟨rfl, b10⟩
  have K10 := Lib.hid (K9.out.trans (b10.mono K9.out.size)); have E10 := Lib.hid (E9.out.trans (b10.mono E9.out.size))
  clear b10
  go_wp2_with fail
  refine (R1.out _ K10.out).mono ?_
  rintro e w11 ⟨rfl, b11⟩
  have K11 := Lib.hid (K10.out.trans (b11.mono K10.out.size)); have E11 := Lib.hid (E10.out.trans (b11.mono E10.out.size))
  clear b11
  go_wp2_with fail
  refine (X1.out _ _ (HSX.out _ E11.out) K11.out).mono ?_
  unfold VexPost
  rintro e w12 ⟨rfl, b12⟩
  have K12 := Lib.hid (K11.out.trans (b12.mono K11.out.size)); have E12 := Lib.hid (E11.out.trans (b12.mono E11.out.size))
  clear b12
  go_wp2_with fail
  refine (R2.out _ K12.out).mono ?_
  rintro e w13 ⟨rfl, b13⟩
  have K13 := Lib.hid (K12.out.trans (b13.mono K12.out.size)); have E13 := Lib.hid (E12.out.trans (b13.mono E12.out.size))
  clear b13
  go_wp2_with fail
  refine (X2.out _ _ (HSX.out _ E13.out) K13.out).mono ?_
  unfold VexPost
  rintro e w14 ⟨rfl, b14⟩
  have K14 := Lib.hid (K13.out.trans (b14.mono K13.out.size))
  clear b14
  go_wp2_with fail
  go_ret
  exact ⟨rfl, HB0.out.trans (K14.out.mono HB0.out.size)⟩
end Go.Proofs.YtnbhhhbmeafkaaaDoor
