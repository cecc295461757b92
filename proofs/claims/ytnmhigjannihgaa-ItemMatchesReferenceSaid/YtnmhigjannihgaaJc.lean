/- areParts. -/
import Derived.Test.YtnmhigjannihgaaJb
namespace Go.Proofs.Ytnmhigjannihgaa
open Go.RowKit Go.Shelf

/-- What a step of areParts leaves behind. -/
structure ApPost (u : World) (Be Bl : Nat) (len b : Int) (w' : World) : Prop where
  e : Row w' Be 3 #[.int .i64 b]
  l : Row w' Bl 3 #[.int .i64 len]
  b : ∀ (B : Nat) (W : World), Below B W u → B ≤ Be → B ≤ u.heap.size → Below B W w'
theorem ApPost.of {u : World} {Be Bl : Nat} {e len b a : Int} (he : Row u Be 3 #[.int .i64 e]) (hl : Row u Bl 3 #[.int .i64 len]) (hne : Be ≠ Bl) :
    ApPost u Be Bl len b ((u.setCell ⟨Be, 0, none⟩ (.int .i64 b)).alloc (.cells #[.int .i64 a, .int .i64 b] 53)) :=
  ⟨(he.put 0 _).alloc _, (hl.far (by dsimp only; exact fun h => hne h.symm) _).alloc _, fun _ _ h h1 h2 => (h.setCell (p := ⟨Be, 0, none⟩) (by dsimp only; exact h1) (.int .i64 b)).alloc (by simpa [World.setCell] using h2) _⟩
set_option maxRecDepth 100000 in
set_option maxHeartbeats 4000000 in
theorem parts1_any (ok : Bool) (e len a b : Int) (Be Bl : Nat) (hne : Be ≠ Bl) (u : World) (he : Row u Be 3 #[.int .i64 e]) (hl : Row u Bl 3 #[.int .i64 len]) :
    Calls Try.prog 63 #[.bool ok, .agg #[.int .i64 a, .int .i64 b], .pointer (some ⟨Be, 0, none⟩), .pointer (some ⟨Bl, 0, none⟩)] u fun r w' => r = .returned (.bool (parSt len (ok, e) (a, b)).1) ∧ ApPost u Be Bl len b w' := by
  have HP := Lib.hid (ApPost.of (b := b) (a := a) he hl hne)
  have HD := Lib.hid (show (parSt len (ok, e) (a, b)).1 = (ok && decide (e ≤ a) && decide (a < b) && decide (b ≤ len)) from rfl)
  have c0 := he.cell 0
  have c1 := hl.cell 0
  have f0 := he.free 0
  have l0 := he.lt
  have l1 := hl.lt
  rw [HD.out]
  clear he hl
  cases ok with
  | false =>
    go_enter Try.func63, Try.ntmps63
    go_wp2
    go_ret
    exact ⟨rfl, HP.out⟩
  | true =>
    by_cases h1 : e ≤ a
    · by_cases h2 : a < b
      · by_cases h3 : b ≤ len
        · have HR := Lib.hid (show (true && decide (e ≤ a) && decide (a < b) && decide (b ≤ len)) = true by simp [h1, h2, h3])
          rw [HR.out]
          go_enter Try.func63, Try.ntmps63
          go_wp2
          go_ret
          exact ⟨rfl, HP.out⟩
        · have HR := Lib.hid (show (true && decide (e ≤ a) && decide (a < b) && decide (b ≤ len)) = false by simp [h3])
          rw [HR.out]
          go_enter Try.func63, Try.ntmps63
          go_wp2
          go_ret
          exact ⟨rfl, HP.out⟩
      · have HR := Lib.hid (show (true && decide (e ≤ a) && decide (a < b) && decide (b ≤ len)) = false by simp [h2])
        rw [HR.out]
        go_enter Try.func63, Try.ntmps63
        go_wp2
        go_ret
        exact ⟨rfl, HP.out⟩
    · have HR := Lib.hid (show (true && decide (e ≤ a) && decide (a < b) && decide (b ≤ len)) = false by simp [h1])
      rw [HR.out]
      go_enter Try.func63, Try.ntmps63
      go_wp2
      go_ret
      exact ⟨rfl, HP.out⟩
set_option maxRecDepth 100000 in
set_option maxHeartbeats 2000000 in
theorem areParts_any (len : Int) (l : List (Int × Int)) (A : Option Addr) (n c : Nat) (w : World) (hr : Recs enc2 2 w w.heap.size (.slice A n c) l) :
    Calls Try.prog 41 #[.slice A n c, .int .i64 len] w fun e w' => e = .returned (.bool (parB len l)) ∧ Below w.heap.size w w' := by
  obtain ⟨W, hW⟩ : ∃ W, (w.alloc (.cells #[.int .i64 len] 3)).alloc (.cells #[.int .i64 0] 3) = W := ⟨_, rfl⟩
  have hL : Row W w.heap.size 3 #[.int .i64 len] := by rw [← hW]; exact (Row.new _ _ _).alloc _
  have hE : Row W (w.heap.size + 1) 3 #[.int .i64 0] := by
    rw [← hW]
    have := Row.new (w.alloc (.cells #[.int .i64 len] 3)) 3 #[.int .i64 0]
    rw [World.size_alloc] at this
    exact this
  have hB : Below w.heap.size w W := by rw [← hW]; exact ((Below.refl _ w).alloc (Nat.le_refl _) _).alloc (by simp) _
  have HOV := Lib.hid (over_bool 63 #[.pointer (some ⟨w.heap.size + 1, 0, none⟩), .pointer (some ⟨w.heap.size, 0, none⟩)] (fun _ _ => rfl) l A n c (.bool true)
    (fun i x u => x = .bool ((l.take i).foldl (parSt len) (true, 0)).1 ∧ Row u (w.heap.size + 1) 3 #[.int .i64 ((l.take i).foldl (parSt len) (true, 0)).2] ∧ Row u w.heap.size 3 #[.int .i64 len] ∧ Below w.heap.size w u)
    (fun i x u h => hr.next h.2.2.2) (fun i x u o h => ⟨h.1, h.2.1.alloc _, h.2.2.1.alloc _, h.2.2.2.alloc h.2.2.2.size _⟩)
    (fun i q x u hq h => by
      obtain ⟨rfl, h1, h2, h3⟩ := h
      refine (parts1_any _ _ len q.1 q.2 (w.heap.size + 1) w.heap.size (by omega) u h1 h2).mono ?_
      rintro e w' ⟨rfl, hp⟩
      refine ⟨_, rfl, by rw [fold_snoc (parSt len) (true, 0) hq], ?_, hp.l, hp.b _ _ h3 (by omega) h3.size⟩
      rw [fold_snoc (parSt len) (true, 0) hq]
      exact hp.e) W ⟨rfl, hE, hL, hB⟩)
  have HW := Lib.hid hW
  clear hW hL hE hB hr
  go_enter Try.func41, Try.ntmps41
  go_upto_region 2 with (fail)
  rw [HW.out]
  have hm := hmf
  go_wp2_with (go_at_call 62; (with_reducible refine Calls.mono HOV.out ?_); rintro e w1 ⟨x', rfl, hx, -, -, hb⟩; have HX := Lib.hid hx; have HB := Lib.hid hb; clear hx hb)
  rw [HX.out]
  go_ret
  exact ⟨by rw [List.take_length]; rfl, HB.out⟩
end Go.Proofs.Ytnmhigjannihgaa
