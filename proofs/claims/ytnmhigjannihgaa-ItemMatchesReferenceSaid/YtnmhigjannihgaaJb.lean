/- before: what comes before a second. -/
import Derived.Test.YtnmhigjannihgaaJa
namespace Go.Proofs.Ytnmhigjannihgaa
open Go.RowKit Go.Shelf

theorem hmf (fn : Fn) (first cap : Array Value) (w : World) : (Instr.makeFunc fn first cap).run Try.prog w = .ok (.func fn first cap) w := rfl
theorem partsF_take {len : Int} : ∀ {l : List (Int × Int)} {e : Int} (k : Nat), partsF len e l → partsF len e (l.take k)
  | [], _, k, _ => by cases k <;> trivial
  | q :: l, e, 0, _ => trivial
  | q :: l, e, k + 1, h => ⟨h.1, h.2.1, h.2.2.1, partsF_take k h.2.2.2⟩
theorem partsF_at {len : Int} : ∀ {l : List (Int × Int)} {e : Int} {k : Nat} {q : Int × Int}, partsF len e l → l[k]? = some q → e ≤ q.1 ∧ q.1 < q.2 ∧ q.2 ≤ len
  | p :: l, e, 0, q, h, hq => by cases hq; exact ⟨h.1, h.2.1, h.2.2.1⟩
  | p :: l, e, k + 1, q, h, hq => by
    have := partsF_at (k := k) h.2.2.2 hq
    have h1 := h.1; have h2 := h.2.1
    exact ⟨by omega, this.2.1, this.2.2⟩
theorem ovs_nonneg (s : Int) {len : Int} : ∀ {l : List (Int × Int)} {e : Int}, partsF len e l → 0 ≤ ovs s l
  | [], _, _ => Int.le_refl _
  | q :: l, e, h => by
    have := ovs_nonneg s h.2.2.2
    have h2 := h.2.1
    simp only [ovs]
    unfold ov; omega
/-- What the fold has at a part lies between 0 and the second. -/
theorem bef_part {len s : Int} {l : List (Int × Int)} (hp : partsF len 0 l) (hs : 0 ≤ s) (k : Nat) : 0 ≤ (l.take k).foldl (befS s) s ∧ (l.take k).foldl (befS s) s ≤ s := by
  have h1 := partsF_take k hp
  have h2 := bef_le h1 hs
  rw [bef_zero h1 (Int.le_refl _)] at h2
  have h3 := ovs_nonneg s h1
  rw [bef_eq] at h2
  rw [bef_from]
  omega
theorem take_snoc {l : List (Int × Int)} {k : Nat} {q : Int × Int} (h : l[k]? = some q) : l.take (k + 1) = l.take k ++ [q] := by
  obtain ⟨hk, rfl⟩ := List.getElem?_eq_some_iff.1 h
  exact List.take_succ_eq_append_getElem hk
theorem fold_snoc {α : Type} (f : α → Int × Int → α) (x : α) {l : List (Int × Int)} {k : Nat} {q : Int × Int} (h : l[k]? = some q) : (l.take (k + 1)).foldl f x = f ((l.take k).foldl f x) q := by
  rw [take_snoc h, List.foldl_append]; rfl
set_option maxRecDepth 100000 in
set_option maxHeartbeats 2000000 in
theorem before1_any (m s a b : Int) (B : Nat) (hm : 0 ≤ m ∧ m ≤ 10000) (hs : 0 ≤ s ∧ s ≤ 10000) (ha : 0 ≤ a) (hab : a < b) (hb : b ≤ 3600) (u : World) (hc : u.cell? ⟨B, 0, none⟩ = some (.int .i64 s)) (hB : B < u.heap.size) :
    Calls Try.prog 64 #[.int .i64 m, .agg #[.int .i64 a, .int .i64 b], .pointer (some ⟨B, 0, none⟩)] u fun e w' => e = .returned (.int .i64 (befS s m (a, b))) ∧ Below u.heap.size u w' := by
  have HO := Lib.hid (show befS s m (a, b) = m - min (max (s - a) 0) (b - a) from rfl)
  obtain ⟨x, hx⟩ : ∃ x, max (s - a) 0 = x := ⟨_, rfl⟩
  obtain ⟨y, hy⟩ : ∃ y, min x (b - a) = y := ⟨_, rfl⟩
  have R1 := fun w => run_max2 (P := Try.prog) (w := w) #[3, 3] 3 .i64 .i64 (s - a) 0 x hx
  have R2 := fun w => run_min2 (P := Try.prog) (w := w) #[3, 3] 3 .i64 .i64 x (b - a) y hy
  have hy1 : 0 ≤ y ∧ y ≤ 10000 := by omega
  rw [hx, hy] at HO
  rw [HO.out]
  clear HO hx hy
  go_enter Try.func64, Try.ntmps64
  go_wp2
  go_ret
  exact ⟨rfl, (Below.refl _ _).alloc (Nat.le_refl _) _⟩
set_option maxRecDepth 100000 in
set_option maxHeartbeats 2000000 in
theorem before_any (s : Int) (hs : 0 ≤ s ∧ s ≤ 10000) {len : Int} (hl : len ≤ 3600) (l : List (Int × Int)) (hp : partsF len 0 l) (A : Option Addr) (n c : Nat) (w : World) (hr : Recs enc2 2 w w.heap.size (.slice A n c) l) :
    Calls Try.prog 42 #[.int .i64 s, .slice A n c] w fun e w' => e = .returned (.int .i64 (bef s l)) ∧ Below w.heap.size w w' := by
  obtain ⟨W, hW⟩ : ∃ W, w.alloc (.cells #[.int .i64 s] 3) = W := ⟨_, rfl⟩
  have hR : Row W w.heap.size 3 #[.int .i64 s] := by rw [← hW]; exact Row.new _ _ _
  have hB : Below w.heap.size w W := by rw [← hW]; exact (Below.refl _ w).alloc (Nat.le_refl _) _
  have hrW := hr.next hB
  have HOV := Lib.hid (over_int 64 #[.pointer (some ⟨w.heap.size, 0, none⟩)] (fun _ _ => rfl) l A n c (.int .i64 s)
    (fun i x u => x = .int .i64 ((l.take i).foldl (befS s) s) ∧ Below W.heap.size W u)
    (fun i x u h => hrW.next h.2) (fun i x u o h => ⟨h.1, h.2.alloc h.2.size _⟩)
    (fun i q x u hq h => by
      obtain ⟨rfl, hb⟩ := h
      obtain ⟨q1, q2, q3⟩ := partsF_at hp hq
      have hbp := bef_part (s := s) hp hs.1 i
      have hru := hR.below hb hR.lt
      refine (before1_any _ s q.1 q.2 w.heap.size ⟨hbp.1, by omega⟩ hs q1 q2 (by omega) u (hru.cell 0) hru.lt).mono ?_
      rintro e w' ⟨rfl, hb2⟩
      exact ⟨_, rfl, by rw [fold_snoc (befS s) s hq], below_to hb hb2⟩) W ⟨rfl, Below.refl _ _⟩)
  have HC := Lib.hid (hR.cell 0)
  have HL := Lib.hid hR.lt
  have HBB := Lib.hid hB
  have HW := Lib.hid hW
  clear hW hR hB hrW hr hp hl
  go_enter Try.func42, Try.ntmps42
  go_upto_region 1 with (fail)
  rw [HW.out]
  have c0 := HC.out
  have l0 := HL.out
  have hm := hmf
  go_wp2_with (go_at_call 58; (with_reducible refine Calls.mono HOV.out ?_); rintro e w1 ⟨x', rfl, hx, hb⟩; have HX := Lib.hid hx; have HB := Lib.hid hb; clear hx hb)
  rw [HX.out]
  go_ret
  exact ⟨by rw [List.take_length]; rfl, below_to HBB.out HB.out⟩
end Go.Proofs.Ytnmhigjannihgaa
