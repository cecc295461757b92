/- The reference's Made: a valid week. -/
import Derived.Test.YtmfpaankkoaoaaaDoorVt
namespace Go.Proofs.YtmfpaankkoaoaaaDoor
open Go.RowKit Go.Shelf

theorem ints_set (l : List Int) (k : Nat) (v : Int) : (ints l).setIfInBounds k (.int .i64 v) = ints (l.set k v) := by
  simp [ints, List.map_set]
theorem valid_set {l : List Int} (h : validW l = true) (k : Nat) {v : Int} (hv : 0 ≤ v ∧ v ≤ 16777215) : validW (l.set k v) = true := by
  unfold validW at *
  rw [List.all_eq_true] at *
  intro x hx
  rcases List.mem_or_eq_of_mem_set hx with h1 | rfl
  · exact h x h1
  · exact (okH_iff _).2 hv
theorem Row.putW {w : World} {g : Nat} {l : List Int} (h : Row w g 23 (ints l)) (k : Nat) (v : Int) : Row (w.setCell ⟨g, k, none⟩ (.int .i64 v)) g 23 (ints (l.set k v)) := by
  have := h.put k (.int .i64 v)
  rwa [ints_set] at this
theorem cell_of_set {w : World} {g k m : Nat} {v : Value} (h : m ≠ k) : (w.setCell ⟨g, k, none⟩ v).cell? ⟨g, m, none⟩ = w.cell? ⟨g, m, none⟩ := by
  go_simp
theorem results_w {fn : Func} {p : Tmp} (h : fn.results = #[.cell p 23]) (tmps : Array Value) (w : World) (g : Nat) (l : List Int) (hp : tmps.getD p undef = .pointer (some ⟨g, 0, none⟩)) (hg : Row w g 23 (ints l)) (h7 : l.length = 7) :
    (results fn tmps).run Tryd.prog w = .ok (wv l) w := by
  have hp' : tmps[p]?.getD undef = .pointer (some ⟨g, 0, none⟩) := by simpa using hp
  obtain ⟨x0, x1, x2, x3, x4, x5, x6, rfl⟩ := seven h7
  obtain ⟨y0, y1, y2, y3, y4, y5, y6, -⟩ := seven_cells hg
  simp [results, h, hp', asAddr, go_sem, y0, y1, y2, y3, y4, y5, y6, wv, ints]
/-- A valid week in a box. -/
def WkAt (w : World) (g : Nat) : Prop := ∃ l : List Int, l.length = 7 ∧ validW l = true ∧ Row w g 23 (ints l)
theorem WkAt.put {w : World} {g : Nat} (h : WkAt w g) (k : Nat) {v : Int} (hv : 0 ≤ v ∧ v ≤ 16777215) : WkAt (w.setCell ⟨g, k, none⟩ (.int .i64 v)) g := by
  obtain ⟨l, h1, h2, h3⟩ := h
  exact ⟨l.set k v, by simpa using h1, valid_set h2 k hv, h3.putW k v⟩
theorem WkAt.at {w : World} {g : Nat} (h : WkAt w g) (k : Nat) (hk : k < 7) : ∃ v : Int, w.cell? ⟨g, k, none⟩ = some (.int .i64 v) ∧ w.frozen? ⟨g, k, none⟩ = false ∧ 0 ≤ v ∧ v ≤ 16777215 := by
  obtain ⟨l, h1, h2, h3⟩ := h
  have hx := List.getElem?_eq_getElem (show k < l.length by omega)
  obtain ⟨a, b⟩ := validW_at h2 hx
  exact ⟨l[k], by rw [h3.cell k, ints_get, hx]; rfl, h3.free k, a, b⟩

set_option maxRecDepth 100000 in
set_option maxHeartbeats 8000000 in
theorem made_any (x0 x1 x2 x3 x4 x5 x6 : Int) (hx : ∀ x ∈ [x0, x1, x2, x3, x4, x5, x6], -9223372036854775808 ≤ x ∧ x ≤ 9223372036854775807) (w : World) :
    Calls Tryd.prog 5 #[.agg #[.int .i64 x0, .int .i64 x1, .int .i64 x2, .int .i64 x3, .int .i64 x4, .int .i64 x5, .int .i64 x6]] w fun e w' => ∃ l : List Int, l.length = 7 ∧ validW l = true ∧ e = .returned (wv l) ∧ Below w.heap.size w w' := by
  obtain ⟨W, hW⟩ : ∃ W, ((w.alloc (.cells #[.int .i64 x0, .int .i64 x1, .int .i64 x2, .int .i64 x3, .int .i64 x4, .int .i64 x5, .int .i64 x6] 22)).alloc (.cells #[.int .i64 0, .int .i64 0, .int .i64 0, .int .i64 0, .int .i64 0, .int .i64 0, .int .i64 0] 23)).alloc (.cells #[.int .i64 0, .int .i64 0, .int .i64 0, .int .i64 0, .int .i64 0, .int .i64 0, .int .i64 0] 23) = W := ⟨_, rfl⟩
  have hX : Row W w.heap.size 22 (ints [x0, x1, x2, x3, x4, x5, x6]) := by rw [← hW]; exact ((Row.new w _ _).alloc _).alloc _
  have hR : Row W (w.heap.size + 1) 23 (ints zeroW) := by
    rw [← hW]
    have := Row.new (w.alloc (.cells #[.int .i64 x0, .int .i64 x1, .int .i64 x2, .int .i64 x3, .int .i64 x4, .int .i64 x5, .int .i64 x6] 22)) 23 (ints zeroW)
    rw [World.size_alloc] at this
    exact this.alloc _
  have hK : WkAt W (w.heap.size + 1 + 1) := ⟨zeroW, rfl, rfl, by
    rw [← hW]
    have := Row.new ((w.alloc (.cells #[.int .i64 x0, .int .i64 x1, .int .i64 x2, .int .i64 x3, .int .i64 x4, .int .i64 x5, .int .i64 x6] 22)).alloc (.cells #[.int .i64 0, .int .i64 0, .int .i64 0, .int .i64 0, .int .i64 0, .int .i64 0, .int .i64 0] 23)) 23 (ints zeroW)
    simp only [World.size_alloc] at this
    exact this⟩
  have hB : Below w.heap.size w W := by rw [← hW]; exact (((Below.refl _ w).alloc (Nat.le_refl _) _).alloc (by simp) _).alloc (by simp; omega) _
  have HW := Lib.hid hW
  have HX0 := Lib.hid hX; have HR0 := Lib.hid hR; have HK0 := Lib.hid hK; have HB0 := Lib.hid hB
  have HXX := Lib.hid hx
  clear hW hX hR hK hB hx
  go_enter Tryd.func5, Tryd.ntmps5
  go_wp2
  rw [HW.out]
  clear HW
  obtain ⟨xs, hxs⟩ : ∃ xs : List Int, [x0, x1, x2, x3, x4, x5, x6] = xs := ⟨_, rfl⟩
  have hl7 : xs.length = 7 := by rw [← hxs]; rfl
  rw [hxs] at HX0 HXX
  go_loopw [4] (fun i wr => ∃ k : Nat, k ≤ 7 ∧ i = .int .i64 (k : Int) ∧ Hid (WkAt wr (w.heap.size + 1 + 1)) ∧ Hid (Row wr w.heap.size 22 (ints xs)) ∧ Hid (Row wr (w.heap.size + 1) 23 (ints zeroW)) ∧ Hid (Below w.heap.size w wr)) (fun i _ => 7 - (intOf i).toNat)
  case atStart => exact ⟨0, by omega, rfl, HK0, HX0, HR0, HB0⟩
  case round =>
    obtain ⟨k, hk, rfl, HK, HX, HR, HB⟩ := hrel
    by_cases hlt : k < 7
    · obtain ⟨x, hx⟩ : ∃ x, xs[k]? = some x := ⟨_, List.getElem?_eq_getElem (by omega)⟩
      obtain ⟨b0, b1⟩ := HXX.out x (List.mem_of_getElem? hx)
      have c0 : wr.cell? ⟨w.heap.size, k, none⟩ = some (.int .i64 x) := by rw [HX.out.cell k, ints_get, hx]; rfl
      obtain ⟨v0, c1, c2, -⟩ := HK.out.at k hlt
      have P1 := Lib.hid (fun u => rpick_any x 16777216 (by decide) (by decide) b0 b1 u)
      have P2 := Lib.hid (fun u => rpick_any x 5 (by decide) (by decide) b0 b1 u)
      have P3 := Lib.hid (fun u => rpick_any x 7 (by decide) (by decide) b0 b1 u)
      have l1 := pickI_lt x 16777216 (by decide)
      generalize pickI x 16777216 = p at *
      generalize pickI x 5 = q at *
      generalize pickI x 7 = r at *
      have i1 : (0 : Int) ≤ (k : Int) := by omega
      have i2 : (k : Int) < 7 := by omega
      have HP := Lib.hid (HK.out.put k (v := p) ⟨by omega, by omega⟩)
      by_cases hq : q = 0
      · have e5 : (q == 0) = true := by simp [hq]
        by_cases hk0 : 0 < k
        · obtain ⟨m, rfl⟩ : ∃ m, k = m + 1 := ⟨k - 1, by omega⟩
          obtain ⟨y, d1, d2, d3⟩ := HP.out.at m (by omega)
          have d4 : wr.cell? ⟨w.heap.size + 1 + 1, m, none⟩ = some (.int .i64 y) := by
            rw [cell_of_set (by omega)] at d1; exact d1
          have HQ := HP.out.put (m + 1) d3
          have m1 : (0 : Int) ≤ (m : Int) := by omega
          have m2 : (m : Int) < 7 := by omega
          have m3 : max (m : Int) 0 = (m : Int) := by omega
          have m4 : (0 : Int) < (m : Int) + 1 := by omega
          go_wp2_with (go_at_call 29; (first | (with_reducible refine Calls.mono (P1.out _) ?_) | (with_reducible refine Calls.mono (P2.out _) ?_) | (with_reducible refine Calls.mono (P3.out _) ?_)); rintro e w' ⟨rfl, rfl⟩)
          go_roundw
          case rel => exact ⟨m + 1 + 1, by omega, by go_num, Lib.hid HQ, Lib.hid (Row.far (Row.far (HX.out) (p := ⟨w.heap.size + 1 + 1, m + 1, none⟩) (by dsimp only; omega) _) (p := ⟨w.heap.size + 1 + 1, m + 1, none⟩) (by dsimp only; omega) _), Lib.hid (Row.far (Row.far (HR.out) (p := ⟨w.heap.size + 1 + 1, m + 1, none⟩) (by dsimp only; omega) _) (p := ⟨w.heap.size + 1 + 1, m + 1, none⟩) (by dsimp only; omega) _), Lib.hid (Below.setCell (Below.setCell (HB.out) (p := ⟨w.heap.size + 1 + 1, m + 1, none⟩) (by dsimp only; omega) _) (p := ⟨w.heap.size + 1 + 1, m + 1, none⟩) (by dsimp only; omega) _)⟩
          case measure => simp [intOf] <;> omega
        · have hk1 : k = 0 := by omega
          subst hk1
          by_cases hr : r = 0
          · have e7 : (r == 0) = true := by simp [hr]
            have HQ := HP.out.put 0 (v := 0) ⟨by omega, by omega⟩
            go_wp2_with (go_at_call 29; (first | (with_reducible refine Calls.mono (P1.out _) ?_) | (with_reducible refine Calls.mono (P2.out _) ?_) | (with_reducible refine Calls.mono (P3.out _) ?_)); rintro e w' ⟨rfl, rfl⟩)
            go_roundw
            case rel => exact ⟨0 + 1, by omega, by go_num, Lib.hid HQ, Lib.hid (Row.far (Row.far (HX.out) (p := ⟨w.heap.size + 1 + 1, 0, none⟩) (by dsimp only; omega) _) (p := ⟨w.heap.size + 1 + 1, 0, none⟩) (by dsimp only; omega) _), Lib.hid (Row.far (Row.far (HR.out) (p := ⟨w.heap.size + 1 + 1, 0, none⟩) (by dsimp only; omega) _) (p := ⟨w.heap.size + 1 + 1, 0, none⟩) (by dsimp only; omega) _), Lib.hid (Below.setCell (Below.setCell (HB.out) (p := ⟨w.heap.size + 1 + 1, 0, none⟩) (by dsimp only; omega) _) (p := ⟨w.heap.size + 1 + 1, 0, none⟩) (by dsimp only; omega) _)⟩
            case measure => simp [intOf] <;> omega
          · have e7 : (r == 0) = false := by simp [hr]
            go_wp2_with (go_at_call 29; (first | (with_reducible refine Calls.mono (P1.out _) ?_) | (with_reducible refine Calls.mono (P2.out _) ?_) | (with_reducible refine Calls.mono (P3.out _) ?_)); rintro e w' ⟨rfl, rfl⟩)
            go_roundw
            case rel => exact ⟨0 + 1, by omega, by go_num, Lib.hid HP.out, Lib.hid (Row.far (HX.out) (p := ⟨w.heap.size + 1 + 1, 0, none⟩) (by dsimp only; omega) _), Lib.hid (Row.far (HR.out) (p := ⟨w.heap.size + 1 + 1, 0, none⟩) (by dsimp only; omega) _), Lib.hid (Below.setCell (HB.out) (p := ⟨w.heap.size + 1 + 1, 0, none⟩) (by dsimp only; omega) _)⟩
            case measure => simp [intOf] <;> omega
      · have e5 : (q == 0) = false := by simp [hq]
        by_cases hr : r = 0
        · have e7 : (r == 0) = true := by simp [hr]
          have HQ := HP.out.put k (v := 0) ⟨by omega, by omega⟩
          go_wp2_with (go_at_call 29; (first | (with_reducible refine Calls.mono (P1.out _) ?_) | (with_reducible refine Calls.mono (P2.out _) ?_) | (with_reducible refine Calls.mono (P3.out _) ?_)); rintro e w' ⟨rfl, rfl⟩)
          go_roundw
          case rel => exact ⟨k + 1, by omega, by go_num, Lib.hid HQ, Lib.hid (Row.far (Row.far (HX.out) (p := ⟨w.heap.size + 1 + 1, k, none⟩) (by dsimp only; omega) _) (p := ⟨w.heap.size + 1 + 1, k, none⟩) (by dsimp only; omega) _), Lib.hid (Row.far (Row.far (HR.out) (p := ⟨w.heap.size + 1 + 1, k, none⟩) (by dsimp only; omega) _) (p := ⟨w.heap.size + 1 + 1, k, none⟩) (by dsimp only; omega) _), Lib.hid (Below.setCell (Below.setCell (HB.out) (p := ⟨w.heap.size + 1 + 1, k, none⟩) (by dsimp only; omega) _) (p := ⟨w.heap.size + 1 + 1, k, none⟩) (by dsimp only; omega) _)⟩
          case measure => simp [intOf] <;> omega
        · have e7 : (r == 0) = false := by simp [hr]
          go_wp2_with (go_at_call 29; (first | (with_reducible refine Calls.mono (P1.out _) ?_) | (with_reducible refine Calls.mono (P2.out _) ?_) | (with_reducible refine Calls.mono (P3.out _) ?_)); rintro e w' ⟨rfl, rfl⟩)
          go_roundw
          case rel => exact ⟨k + 1, by omega, by go_num, Lib.hid HP.out, Lib.hid (Row.far (HX.out) (p := ⟨w.heap.size + 1 + 1, k, none⟩) (by dsimp only; omega) _), Lib.hid (Row.far (HR.out) (p := ⟨w.heap.size + 1 + 1, k, none⟩) (by dsimp only; omega) _), Lib.hid (Below.setCell (HB.out) (p := ⟨w.heap.size + 1 + 1, k, none⟩) (by dsimp only; omega) _)⟩
          case measure => simp [intOf] <;> omega
    · have hk7 : k = 7 := by omega
      subst hk7
      obtain ⟨l, h1, h2, h3⟩ := HK.out
      obtain ⟨y0, y1, y2, y3, y4, y5, y6, rfl⟩ := seven h1
      obtain ⟨c0, c1, c2, c3, c4, c5, c6, -⟩ := seven_cells h3
      obtain ⟨d0, d1, d2, d3, d4, d5, d6, f0, f1, f2, f3, f4, f5, f6⟩ := seven_cells (show Row wr (w.heap.size + 1) 23 (ints [0, 0, 0, 0, 0, 0, 0]) from HR.out)
      clear h3
      go_wp2
      have hrow := Row.putW (Row.putW (Row.putW (Row.putW (Row.putW (Row.putW (Row.putW (HR.out) 0 y0) 1 y1) 2 y2) 3 y3) 4 y4) 5 y5) 6 y6
      refine bodyPost_ret (results_w rfl _ _ (w.heap.size + 1) [y0, y1, y2, y3, y4, y5, y6] rfl hrow rfl) rfl ⟨_, rfl, h2, rfl, ?_⟩
      exact Below.setCell (p := ⟨w.heap.size + 1, 6, none⟩) (Below.setCell (p := ⟨w.heap.size + 1, 5, none⟩) (Below.setCell (p := ⟨w.heap.size + 1, 4, none⟩) (Below.setCell (p := ⟨w.heap.size + 1, 3, none⟩) (Below.setCell (p := ⟨w.heap.size + 1, 2, none⟩) (Below.setCell (p := ⟨w.heap.size + 1, 1, none⟩) (Below.setCell (p := ⟨w.heap.size + 1, 0, none⟩) (HB.out) (by dsimp only; omega) _) (by dsimp only; omega) _) (by dsimp only; omega) _) (by dsimp only; omega) _) (by dsimp only; omega) _) (by dsimp only; omega) _) (by dsimp only; omega) _
end Go.Proofs.YtmfpaankkoaoaaaDoor
