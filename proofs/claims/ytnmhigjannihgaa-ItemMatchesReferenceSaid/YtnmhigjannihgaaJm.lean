/- longer, whole. -/
import Derived.Test.YtnmhigjannihgaaJl
namespace Go.Proofs.Ytnmhigjannihgaa
open Go.RowKit Go.Shelf
attribute [local go_sem ↓] append_appN

theorem lgL_all (d : List Nat) (n : Nat) : lgL d (nextI d) n = longL n d := rfl
theorem nextI_nil : nextI [] = 0 := rfl
theorem nextI_snoc (o : List Nat) (k : Nat) : nextI (o ++ [k]) = k + 1 := by
  unfold nextI
  rw [List.getLast?_concat]
theorem lgL_none (d : List Nat) {f i : Nat} (h : i ≤ f) : lgL d f i = [] := by
  unfold lgL
  rw [show i - f = 0 by omega]; rfl
set_option maxRecDepth 100000 in
set_option maxHeartbeats 4000000 in
theorem longer_any (d : List Nat) (hd : ∀ k ∈ d, k ≤ 50) (m : Nat) (hm : d.length = m) (hm4 : m ≤ 100) (n : Nat) (hn : n ≤ 50) (A : Option Addr) (c : Nat) (w : World) (hr : Recs enc1 1 w w.heap.size (.slice A m c) (zi d)) :
    Calls Try.prog 66 #[.slice A m c, .int .i64 (n : Int)] w fun e w' => ∃ v xs, e = .returned v ∧ w'.ownsRow w.heap.size 26 1 v xs.length xs ∧ CutsAt w' w.heap.size v xs ((longL n d).map zi) ∧ Below w.heap.size w w' := by
  have HM := Lib.hid hm
  have HCN := Lib.hid (fun u (hu : Below w.heap.size w u) => clone_any (zi d) (by simp [zi]; omega) A m c u (hr.next hu))
  rcases List.eq_nil_or_concat d with rfl | ⟨o, k, rfl⟩
  · have hm0 : m = 0 := by rw [← hm]; rfl
    subst hm0
    have HNX : Hid (nextI [] = 0) := Lib.hid nextI_nil
    have HL0 := Lib.hid (show LgIn w [] 0 0 [] (.slice none 0 0) w from ⟨World.ownsRow_nil _ _ _ _, CutsAt.nil _ _ _, Below.refl _ _, rfl⟩)
    clear hr hd hm
    go_enter Try.func66, Try.ntmps66
    go_wp2
    go_loopw [6, 7] (fun ov j wr => ∃ (i : Nat) (xs : List Value), j = .int .i64 (i : Int) ∧ 0 ≤ i ∧ (i ≤ n ∨ i = 0) ∧ Hid (LgIn w [] 0 i xs ov wr)) (fun _ j _ => n - (intOf j).toNat)
    case atStart => exact ⟨0, [], rfl, Nat.le_refl _, .inr rfl, HL0⟩
    case round =>
      clear HL0
      obtain ⟨i, xs, rfl, hfi, hin, HI⟩ := hrel
      have i0 : (0 : Int) ≤ (i : Int) := by omega
      by_cases hlt : i < n
      · have i1 : (i : Int) < (n : Int) := by omega
        have i2 : i ≤ 100 := by omega
        have HCL := Lib.hid (HCN.out wr HI.out.b)
        go_wp2_with (go_at_call 73; (with_reducible refine Calls.mono HCL.out ?_); rintro e u1 ⟨v1, rfl, hc, hb⟩; obtain ⟨A6, c6, w6, A7, c7, w7, xs', r6, r7, hI⟩ := lg_step HI.out hfi i2 HM.out hm4 hc hb; have HI2 := Lib.hid hI; clear hI)
        go_roundw
        case rel => exact ⟨i + 1, xs', by go_num, by omega, .inl (by omega), HI2⟩
        case measure => simp [intOf]; omega
      · have i1 : ¬ (i : Int) < (n : Int) := by omega
        have HE := Lib.hid (show lgL [] 0 i = longL n [] by
          rw [← HNX.out]
          show lgL [] (nextI []) i = lgL [] (nextI []) n
          rcases hin with h | h
          · rw [show i = n by omega]
          · rw [lgL_none _ (by rw [HNX.out]; omega), lgL_none _ (by rw [HNX.out]; omega)])
        go_wp2
        go_ret
        exact ⟨_, rfl, xs, HI.out.own, by rw [← HE.out]; exact HI.out.c, HI.out.b⟩
  · rw [List.concat_eq_append] at *
    have hk50 := hd k (by simp)
    have HNX : Hid (nextI (o ++ [k]) = k + 1) := Lib.hid (nextI_snoc o k)
    have HL0 := Lib.hid (show LgIn w (o ++ [k]) (k + 1) (k + 1) [] (.slice none 0 0) w from ⟨World.ownsRow_nil _ _ _ _, by rw [lgL_none _ (Nat.le_refl _)]; exact CutsAt.nil _ _ _, Below.refl _ _, by simp⟩)
    have hmo : m = o.length + 1 := by rw [← hm]; simp
    obtain ⟨b, off, rfl, hb, hcell⟩ := recs_at hr o.length (by simp [zi])
    have a0 := cells1 hcell o.length (by simp [zi])
    rw [show (zi (o ++ [k]))[o.length]'(by simp [zi]) = (k : Int) by simp [zi]] at a0
    obtain ⟨q, hq⟩ : ∃ q, o.length = q := ⟨_, rfl⟩
    rw [hq] at a0 hmo
    subst hmo
    have q0 : (0 : Int) ≤ (q : Int) := by omega
    have k0 : (0 : Int) ≤ (k : Int) := by omega
    clear hr hd hm hcell hq
    go_enter Try.func66, Try.ntmps66
    go_wp2
    go_loopw [6, 7] (fun ov j wr => ∃ (i : Nat) (xs : List Value), j = .int .i64 (i : Int) ∧ (k + 1) ≤ i ∧ (i ≤ n ∨ i = (k + 1)) ∧ Hid (LgIn w (o ++ [k]) (k + 1) i xs ov wr)) (fun _ j _ => n - (intOf j).toNat)
    case atStart => exact ⟨(k + 1), [], rfl, Nat.le_refl _, .inr rfl, HL0⟩
    case round =>
      clear HL0
      obtain ⟨i, xs, rfl, hfi, hin, HI⟩ := hrel
      have i0 : (0 : Int) ≤ (i : Int) := by omega
      by_cases hlt : i < n
      · have i1 : (i : Int) < (n : Int) := by omega
        have i2 : i ≤ 100 := by omega
        have HCL := Lib.hid (HCN.out wr HI.out.b)
        go_wp2_with (go_at_call 73; (with_reducible refine Calls.mono HCL.out ?_); rintro e u1 ⟨v1, rfl, hc, hb⟩; obtain ⟨A6, c6, w6, A7, c7, w7, xs', r6, r7, hI⟩ := lg_step HI.out hfi i2 HM.out hm4 hc hb; have HI2 := Lib.hid hI; clear hI)
        go_roundw
        case rel => exact ⟨i + 1, xs', by go_num, by omega, .inl (by omega), HI2⟩
        case measure => simp [intOf]; omega
      · have i1 : ¬ (i : Int) < (n : Int) := by omega
        have HE := Lib.hid (show lgL (o ++ [k]) (k + 1) i = longL n (o ++ [k]) by
          rw [← HNX.out]
          show lgL (o ++ [k]) (nextI (o ++ [k])) i = lgL (o ++ [k]) (nextI (o ++ [k])) n
          rcases hin with h | h
          · rw [show i = n by omega]
          · rw [lgL_none _ (by rw [HNX.out]; omega), lgL_none _ (by rw [HNX.out]; omega)])
        go_wp2
        go_ret
        exact ⟨_, rfl, xs, HI.out.own, by rw [← HE.out]; exact HI.out.c, HI.out.b⟩
end Go.Proofs.Ytnmhigjannihgaa
