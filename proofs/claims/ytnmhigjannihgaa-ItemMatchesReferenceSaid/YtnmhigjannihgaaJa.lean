/- The generic over, at its four types. -/
import Derived.Test.YtnmhigjannihgaaUb
import Derived.Test.YtnmhigjannihgaaIe
import Derived.Shelf.RegionOpenPlain
namespace Go.Proofs.Ytnmhigjannihgaa
open Go.RowKit

abbrev sp2 (q : Int × Int) : Value := .agg #[.int .i64 q.1, .int .i64 q.2]
set_option maxRecDepth 100000 in
set_option maxHeartbeats 2000000 in
theorem over_bool (g : FuncId) (lb : Array Value) (eg : ∀ args w, (callFunc g args).run Try.prog w = .ok (.enter g args) w) (l : List (Int × Int)) (A : Option Addr) (n c : Nat) (x0 : Value) (I : Nat → Value → World → Prop)
    (hR : ∀ i x u, I i x u → Recs enc2 2 u u.heap.size (.slice A n c) l) (hA : ∀ i x u o, I i x u → I i x (u.alloc o))
    (hS : ∀ i q x u, l[i]? = some q → I i x u → Calls Try.prog g (#[x, sp2 q] ++ lb) u fun e w' => ∃ x', e = .returned x' ∧ I (i + 1) x' w') (w : World) (h0 : I 0 x0 w) :
    Calls Try.prog 62 #[.slice A n c, x0, .func (.func g) #[] lb] w fun e w' => ∃ x', e = .returned x' ∧ I l.length x' w' := by
  obtain ⟨hn, hc1, hc2⟩ := recs_cap (hR 0 x0 w h0)
  have HR := Lib.hid hR; have HA := Lib.hid hA; have HS := Lib.hid hS; have H0 := Lib.hid h0; have HN := Lib.hid hn
  clear hR hA hS h0 hn
  by_cases hz : n = 0
  · subst hz
    have HE := Lib.hid (show I l.length x0 w by rw [← HN.out]; exact H0.out)
    go_enter Try.func62, Try.ntmps62
    go_wp2
    go_loopw [1, 11] (fun x i wr => i = .int .i64 0 ∧ x = x0 ∧ Hid (I l.length x0 wr)) (fun _ _ _ => 0)
    case atStart => exact ⟨rfl, rfl, HE⟩
    case round =>
      obtain ⟨rfl, rfl, HI⟩ := hrel
      go_wp2
      go_ret
      exact ⟨_, rfl, HI.out⟩
  · obtain ⟨q0, hq0⟩ : ∃ q, l[0]? = some q := ⟨_, List.getElem?_eq_getElem (by have := HN.out; omega)⟩
    obtain ⟨b, off, rfl, -⟩ := recs_at (HR.out 0 x0 w H0.out) 0 (by have := HN.out; omega)
    clear hq0
    have hn9 : n ≤ 9223372036854775807 := by have := HN.out; omega
    go_enter Try.func62, Try.ntmps62
    go_wp2
    go_loopw [1, 11] (fun x i wr => ∃ k : Nat, i = .int .i64 (k : Int) ∧ k ≤ n ∧ Hid (I k x wr)) (fun _ i _ => n - (intOf i).toNat)
    case atStart => exact ⟨0, rfl, Nat.zero_le _, H0⟩
    case round =>
      obtain ⟨k, rfl, hk, HI⟩ := hrel
      have i1 : (0 : Int) ≤ (k : Int) := by omega
      by_cases hlt : k < n
      · have i2 : (k : Int) < (n : Int) := by omega
        have hkl : k < l.length := by have := HN.out; omega
        obtain ⟨b2, off2, hb2, hlt2, hcell⟩ := recs_at (HR.out k _ wr HI.out) k hkl
        obtain ⟨rfl, rfl⟩ : b = b2 ∧ off = off2 := by
          have := Option.some.inj hb2
          exact ⟨congrArg Addr.block this, congrArg Addr.off this⟩
        obtain ⟨a0, a1⟩ := cells2 hcell k hkl
        have HQ := Lib.hid (List.getElem?_eq_getElem hkl)
        obtain ⟨q, hq⟩ : ∃ q, l[k] = q := ⟨_, rfl⟩
        rw [hq] at a0 a1 HQ
        have HS2 := Lib.hid (HS.out k q _ _ HQ.out (HA.out _ _ _ (.cells #[.int .i64 q.1, .int .i64 q.2] 53) HI.out))
        obtain ⟨q1, q2⟩ := q
        dsimp only at a0 a1 HS2
        clear hcell hb2 hq hkl
        go_wp2_with (go_at_fn g; (with_reducible refine Calls.mono HS2.out ?_); rintro e w' ⟨x', rfl, h⟩; have HI2 := Lib.hid h; clear h)
        go_roundw
        case rel => exact ⟨k + 1, by go_num, by omega, HI2⟩
        case measure => simp [intOf]; omega
      · have i2 : ¬ (k : Int) < (n : Int) := by omega
        have HE := Lib.hid (show I l.length _ wr by rw [← HN.out, show n = k by omega]; exact HI.out)
        go_wp2
        go_ret
        exact ⟨_, rfl, HE.out⟩
set_option maxRecDepth 100000 in
set_option maxHeartbeats 2000000 in
theorem over_int (g : FuncId) (lb : Array Value) (eg : ∀ args w, (callFunc g args).run Try.prog w = .ok (.enter g args) w) (l : List (Int × Int)) (A : Option Addr) (n c : Nat) (x0 : Value) (I : Nat → Value → World → Prop)
    (hR : ∀ i x u, I i x u → Recs enc2 2 u u.heap.size (.slice A n c) l) (hA : ∀ i x u o, I i x u → I i x (u.alloc o))
    (hS : ∀ i q x u, l[i]? = some q → I i x u → Calls Try.prog g (#[x, sp2 q] ++ lb) u fun e w' => ∃ x', e = .returned x' ∧ I (i + 1) x' w') (w : World) (h0 : I 0 x0 w) :
    Calls Try.prog 58 #[.slice A n c, x0, .func (.func g) #[] lb] w fun e w' => ∃ x', e = .returned x' ∧ I l.length x' w' := by
  obtain ⟨hn, hc1, hc2⟩ := recs_cap (hR 0 x0 w h0)
  have HR := Lib.hid hR; have HA := Lib.hid hA; have HS := Lib.hid hS; have H0 := Lib.hid h0; have HN := Lib.hid hn
  clear hR hA hS h0 hn
  by_cases hz : n = 0
  · subst hz
    have HE := Lib.hid (show I l.length x0 w by rw [← HN.out]; exact H0.out)
    go_enter Try.func58, Try.ntmps58
    go_wp2
    go_loopw [1, 11] (fun x i wr => i = .int .i64 0 ∧ x = x0 ∧ Hid (I l.length x0 wr)) (fun _ _ _ => 0)
    case atStart => exact ⟨rfl, rfl, HE⟩
    case round =>
      obtain ⟨rfl, rfl, HI⟩ := hrel
      go_wp2
      go_ret
      exact ⟨_, rfl, HI.out⟩
  · obtain ⟨q0, hq0⟩ : ∃ q, l[0]? = some q := ⟨_, List.getElem?_eq_getElem (by have := HN.out; omega)⟩
    obtain ⟨b, off, rfl, -⟩ := recs_at (HR.out 0 x0 w H0.out) 0 (by have := HN.out; omega)
    clear hq0
    have hn9 : n ≤ 9223372036854775807 := by have := HN.out; omega
    go_enter Try.func58, Try.ntmps58
    go_wp2
    go_loopw [1, 11] (fun x i wr => ∃ k : Nat, i = .int .i64 (k : Int) ∧ k ≤ n ∧ Hid (I k x wr)) (fun _ i _ => n - (intOf i).toNat)
    case atStart => exact ⟨0, rfl, Nat.zero_le _, H0⟩
    case round =>
      obtain ⟨k, rfl, hk, HI⟩ := hrel
      have i1 : (0 : Int) ≤ (k : Int) := by omega
      by_cases hlt : k < n
      · have i2 : (k : Int) < (n : Int) := by omega
        have hkl : k < l.length := by have := HN.out; omega
        obtain ⟨b2, off2, hb2, hlt2, hcell⟩ := recs_at (HR.out k _ wr HI.out) k hkl
        obtain ⟨rfl, rfl⟩ : b = b2 ∧ off = off2 := by
          have := Option.some.inj hb2
          exact ⟨congrArg Addr.block this, congrArg Addr.off this⟩
        obtain ⟨a0, a1⟩ := cells2 hcell k hkl
        have HQ := Lib.hid (List.getElem?_eq_getElem hkl)
        obtain ⟨q, hq⟩ : ∃ q, l[k] = q := ⟨_, rfl⟩
        rw [hq] at a0 a1 HQ
        have HS2 := Lib.hid (HS.out k q _ _ HQ.out (HA.out _ _ _ (.cells #[.int .i64 q.1, .int .i64 q.2] 53) HI.out))
        obtain ⟨q1, q2⟩ := q
        dsimp only at a0 a1 HS2
        clear hcell hb2 hq hkl
        go_wp2_with (go_at_fn g; (with_reducible refine Calls.mono HS2.out ?_); rintro e w' ⟨x', rfl, h⟩; have HI2 := Lib.hid h; clear h)
        go_roundw
        case rel => exact ⟨k + 1, by go_num, by omega, HI2⟩
        case measure => simp [intOf]; omega
      · have i2 : ¬ (k : Int) < (n : Int) := by omega
        have HE := Lib.hid (show I l.length _ wr by rw [← HN.out, show n = k by omega]; exact HI.out)
        go_wp2
        go_ret
        exact ⟨_, rfl, HE.out⟩
set_option maxRecDepth 100000 in
set_option maxHeartbeats 2000000 in
theorem over_spells (g : FuncId) (lb : Array Value) (eg : ∀ args w, (callFunc g args).run Try.prog w = .ok (.enter g args) w) (l : List (Int × Int)) (A : Option Addr) (n c : Nat) (x0 : Value) (I : Nat → Value → World → Prop)
    (hR : ∀ i x u, I i x u → Recs enc2 2 u u.heap.size (.slice A n c) l) (hA : ∀ i x u o, I i x u → I i x (u.alloc o))
    (hS : ∀ i q x u, l[i]? = some q → I i x u → Calls Try.prog g (#[x, sp2 q] ++ lb) u fun e w' => ∃ x', e = .returned x' ∧ I (i + 1) x' w') (w : World) (h0 : I 0 x0 w) :
    Calls Try.prog 54 #[.slice A n c, x0, .func (.func g) #[] lb] w fun e w' => ∃ x', e = .returned x' ∧ I l.length x' w' := by
  obtain ⟨hn, hc1, hc2⟩ := recs_cap (hR 0 x0 w h0)
  have HR := Lib.hid hR; have HA := Lib.hid hA; have HS := Lib.hid hS; have H0 := Lib.hid h0; have HN := Lib.hid hn
  clear hR hA hS h0 hn
  by_cases hz : n = 0
  · subst hz
    have HE := Lib.hid (show I l.length x0 w by rw [← HN.out]; exact H0.out)
    go_enter Try.func54, Try.ntmps54
    go_wp2
    go_loopw [1, 11] (fun x i wr => i = .int .i64 0 ∧ x = x0 ∧ Hid (I l.length x0 wr)) (fun _ _ _ => 0)
    case atStart => exact ⟨rfl, rfl, HE⟩
    case round =>
      obtain ⟨rfl, rfl, HI⟩ := hrel
      go_wp2
      go_ret
      exact ⟨_, rfl, HI.out⟩
  · obtain ⟨q0, hq0⟩ : ∃ q, l[0]? = some q := ⟨_, List.getElem?_eq_getElem (by have := HN.out; omega)⟩
    obtain ⟨b, off, rfl, -⟩ := recs_at (HR.out 0 x0 w H0.out) 0 (by have := HN.out; omega)
    clear hq0
    have hn9 : n ≤ 9223372036854775807 := by have := HN.out; omega
    go_enter Try.func54, Try.ntmps54
    go_wp2
    go_loopw [1, 11] (fun x i wr => ∃ k : Nat, i = .int .i64 (k : Int) ∧ k ≤ n ∧ Hid (I k x wr)) (fun _ i _ => n - (intOf i).toNat)
    case atStart => exact ⟨0, rfl, Nat.zero_le _, H0⟩
    case round =>
      obtain ⟨k, rfl, hk, HI⟩ := hrel
      have i1 : (0 : Int) ≤ (k : Int) := by omega
      by_cases hlt : k < n
      · have i2 : (k : Int) < (n : Int) := by omega
        have hkl : k < l.length := by have := HN.out; omega
        obtain ⟨b2, off2, hb2, hlt2, hcell⟩ := recs_at (HR.out k _ wr HI.out) k hkl
        obtain ⟨rfl, rfl⟩ : b = b2 ∧ off = off2 := by
          have := Option.some.inj hb2
          exact ⟨congrArg Addr.block this, congrArg Addr.off this⟩
        obtain ⟨a0, a1⟩ := cells2 hcell k hkl
        have HQ := Lib.hid (List.getElem?_eq_getElem hkl)
        obtain ⟨q, hq⟩ : ∃ q, l[k] = q := ⟨_, rfl⟩
        rw [hq] at a0 a1 HQ
        have HS2 := Lib.hid (HS.out k q _ _ HQ.out (HA.out _ _ _ (.cells #[.int .i64 q.1, .int .i64 q.2] 53) HI.out))
        obtain ⟨q1, q2⟩ := q
        dsimp only at a0 a1 HS2
        clear hcell hb2 hq hkl
        go_wp2_with (go_at_fn g; (with_reducible refine Calls.mono HS2.out ?_); rintro e w' ⟨x', rfl, h⟩; have HI2 := Lib.hid h; clear h)
        go_roundw
        case rel => exact ⟨k + 1, by go_num, by omega, HI2⟩
        case measure => simp [intOf]; omega
      · have i2 : ¬ (k : Int) < (n : Int) := by omega
        have HE := Lib.hid (show I l.length _ wr by rw [← HN.out, show n = k by omega]; exact HI.out)
        go_wp2
        go_ret
        exact ⟨_, rfl, HE.out⟩
set_option maxRecDepth 100000 in
set_option maxHeartbeats 2000000 in
theorem over_str (g : FuncId) (lb : Array Value) (eg : ∀ args w, (callFunc g args).run Try.prog w = .ok (.enter g args) w) (l : List (Int × Int)) (A : Option Addr) (n c : Nat) (x0 : Value) (I : Nat → Value → World → Prop)
    (hR : ∀ i x u, I i x u → Recs enc2 2 u u.heap.size (.slice A n c) l) (hA : ∀ i x u o, I i x u → I i x (u.alloc o))
    (hS : ∀ i q x u, l[i]? = some q → I i x u → Calls Try.prog g (#[x, sp2 q] ++ lb) u fun e w' => ∃ x', e = .returned x' ∧ I (i + 1) x' w') (w : World) (h0 : I 0 x0 w) :
    Calls Try.prog 70 #[.slice A n c, x0, .func (.func g) #[] lb] w fun e w' => ∃ x', e = .returned x' ∧ I l.length x' w' := by
  obtain ⟨hn, hc1, hc2⟩ := recs_cap (hR 0 x0 w h0)
  have HR := Lib.hid hR; have HA := Lib.hid hA; have HS := Lib.hid hS; have H0 := Lib.hid h0; have HN := Lib.hid hn
  clear hR hA hS h0 hn
  by_cases hz : n = 0
  · subst hz
    have HE := Lib.hid (show I l.length x0 w by rw [← HN.out]; exact H0.out)
    go_enter Try.func70, Try.ntmps70
    go_wp2
    go_loopw [1, 11] (fun x i wr => i = .int .i64 0 ∧ x = x0 ∧ Hid (I l.length x0 wr)) (fun _ _ _ => 0)
    case atStart => exact ⟨rfl, rfl, HE⟩
    case round =>
      obtain ⟨rfl, rfl, HI⟩ := hrel
      go_wp2
      go_ret
      exact ⟨_, rfl, HI.out⟩
  · obtain ⟨q0, hq0⟩ : ∃ q, l[0]? = some q := ⟨_, List.getElem?_eq_getElem (by have := HN.out; omega)⟩
    obtain ⟨b, off, rfl, -⟩ := recs_at (HR.out 0 x0 w H0.out) 0 (by have := HN.out; omega)
    clear hq0
    have hn9 : n ≤ 9223372036854775807 := by have := HN.out; omega
    go_enter Try.func70, Try.ntmps70
    go_wp2
    go_loopw [1, 11] (fun x i wr => ∃ k : Nat, i = .int .i64 (k : Int) ∧ k ≤ n ∧ Hid (I k x wr)) (fun _ i _ => n - (intOf i).toNat)
    case atStart => exact ⟨0, rfl, Nat.zero_le _, H0⟩
    case round =>
      obtain ⟨k, rfl, hk, HI⟩ := hrel
      have i1 : (0 : Int) ≤ (k : Int) := by omega
      by_cases hlt : k < n
      · have i2 : (k : Int) < (n : Int) := by omega
        have hkl : k < l.length := by have := HN.out; omega
        obtain ⟨b2, off2, hb2, hlt2, hcell⟩ := recs_at (HR.out k _ wr HI.out) k hkl
        obtain ⟨rfl, rfl⟩ : b = b2 ∧ off = off2 := by
          have := Option.some.inj hb2
          exact ⟨congrArg Addr.block this, congrArg Addr.off this⟩
        obtain ⟨a0, a1⟩ := cells2 hcell k hkl
        have HQ := Lib.hid (List.getElem?_eq_getElem hkl)
        obtain ⟨q, hq⟩ : ∃ q, l[k] = q := ⟨_, rfl⟩
        rw [hq] at a0 a1 HQ
        have HS2 := Lib.hid (HS.out k q _ _ HQ.out (HA.out _ _ _ (.cells #[.int .i64 q.1, .int .i64 q.2] 53) HI.out))
        obtain ⟨q1, q2⟩ := q
        dsimp only at a0 a1 HS2
        clear hcell hb2 hq hkl
        go_wp2_with (go_at_fn g; (with_reducible refine Calls.mono HS2.out ?_); rintro e w' ⟨x', rfl, h⟩; have HI2 := Lib.hid h; clear h)
        go_roundw
        case rel => exact ⟨k + 1, by go_num, by omega, HI2⟩
        case measure => simp [intOf]; omega
      · have i2 : ¬ (k : Int) < (n : Int) := by omega
        have HE := Lib.hid (show I l.length _ wr by rw [← HN.out, show n = k by omega]; exact HI.out)
        go_wp2
        go_ret
        exact ⟨_, rfl, HE.out⟩
end Go.Proofs.Ytnmhigjannihgaa
