/- The reference's Made. -/
import Derived.Test.YtenojfniknjeiaaHu
import Derived.IntWalk
import Derived.Deep.CutBlock
namespace Go.Proofs.Ytenojfniknjeiaa
open Go.RowKit
attribute [local go_sem ↓] append_appN

/-- Five integers that determine a grant. -/
structure I5 where
  a : Int
  b : Int
  c : Int
  d : Int
  e : Int
def enc5 (x : I5) : List Value := [.int .i64 x.a, .int .i64 x.b, .int .i64 x.c, .int .i64 x.d, .int .i64 x.e]
structure OkI5 (x : I5) : Prop where
  a : I64 x.a
  b : I64 x.b
  c : I64 x.c
  d : I64 x.d
  e : I64 x.e
def mkG (x : I5) : Gr := ⟨pickI x.a 3, if pickI x.b 3 = 0 then 1 + 2 * pickI (x.b.tdiv 3) 16 else 31, if pickI x.c 3 = 0 then 1 + pickI (x.c.tdiv 3) 255 else 255, pickI x.d 4, 100 * pickI x.e 4, 100 * pickI x.e 4 + 100 * (1 + pickI (x.e.tdiv 4) 5)⟩
def madeG (xs : List I5) : List Gr := (xs.take 8).map mkG
theorem i64_div {x m : Int} (h : I64 x) (hm : m = 3 ∨ m = 4) : I64 (x.tdiv m) := by
  unfold I64 at h ⊢
  rcases hm with rfl | rfl
  · rcases Int.le_total 0 x with k | k
    · rw [Int.tdiv_eq_ediv_of_nonneg k]; omega
    · rw [show x = -(-x) by omega, Int.neg_tdiv, Int.tdiv_eq_ediv_of_nonneg (by omega)]; omega
  · rcases Int.le_total 0 x with k | k
    · rw [Int.tdiv_eq_ediv_of_nonneg k]; omega
    · rw [show x = -(-x) by omega, Int.neg_tdiv, Int.tdiv_eq_ediv_of_nonneg (by omega)]; omega
theorem i64_wrap {x : Int} (h : I64 x) : IntKind.i64.wrap x = x := IntWalk.i64_in _ (by unfold I64 at h; omega)
theorem madeG_len (xs : List I5) : (madeG xs).length ≤ 8 := by unfold madeG; rw [List.length_map, List.length_take]; omega
theorem mkG_ok (x : I5) : okG (mkG x) = true := by
  have h1 := pickI_lt x.a 3 (by decide); have h2 := pickI_lt (x.b.tdiv 3) 16 (by decide); have h3 := pickI_lt (x.c.tdiv 3) 255 (by decide); have h4 := pickI_lt x.d 4 (by decide); have h5 := pickI_lt x.e 4 (by decide); have h6 := pickI_lt (x.e.tdiv 4) 5 (by decide)
  unfold okG mkG
  simp only [Bool.and_eq_true, decide_eq_true_eq]
  split <;> split <;> omega
theorem madeG_valid (xs : List I5) : validG (madeG xs) = true := by
  unfold validG
  rw [Bool.and_eq_true, decide_eq_true_eq, List.all_eq_true]
  refine ⟨Nat.le_trans (madeG_len xs) (by decide), fun g hg => ?_⟩
  obtain ⟨x, -, rfl⟩ := List.mem_map.1 hg
  exact mkG_ok x
theorem made_snoc {xs : List I5} {k : Nat} {q : I5} (hq : xs[k]? = some q) : (xs.take (k + 1)).map mkG = (xs.take k).map mkG ++ [mkG q] := by
  rw [List.take_add_one, hq]; simp
set_option maxRecDepth 100000 in
set_option maxHeartbeats 16000000 in
theorem made_any (xs : List I5) (hx : ∀ x ∈ xs, OkI5 x) (A : Option Addr) (n c : Nat) (w : World) (hr : Recs enc5 5 w w.heap.size (.slice A n c) xs) :
    Calls Try.prog 11 #[.slice A n c] w fun e w' => ∃ v, e = .returned v ∧ GatG w (madeG xs) v w' := by
  obtain ⟨hn, hc1, hc2⟩ := recs_cap hr
  have HN := Lib.hid hn
  have HR := Lib.hid hr
  have HX := Lib.hid hx
  have n9 : n ≤ 9223372036854775807 := by omega
  clear hn hc1 hc2 hr hx
  go_enter Try.func11, Try.ntmps11
  go_wp2
  go_loopw [3, 4] (fun v z wr => ∃ k : Nat, z = .int .i64 (k : Int) ∧ k ≤ n ∧ k ≤ 8 ∧ Hid (GatG w ((xs.take k).map mkG) v wr)) (fun _ z _ => 8 - (intOf z).toNat)
  case atStart => exact ⟨0, rfl, Nat.zero_le _, by decide, Lib.hid ⟨World.ownsRow_nil _ _ _ _, Below.refl _ _⟩⟩
  case round =>
    obtain ⟨k, rfl, hk, hk8, HW⟩ := hrel
    obtain ⟨L, hL⟩ : ∃ L, (xs.take k).map mkG = L := ⟨_, rfl⟩
    rw [hL] at HW
    have HLL := Lib.hid hL
    clear hL
    obtain ⟨A2, c2, rfl, -⟩ := own_slice HW.out.own
    have k0 : (0 : Int) ≤ (k : Int) := by omega
    by_cases hlt : k < n
    · have k1 : (k : Int) < (n : Int) := by omega
      by_cases h8 : k < 8
      · have k2 : (k : Int) < 8 := by omega
        have hka : k < xs.length := by have := HN.out; omega
        obtain ⟨b, o, rfl, hg, hcell⟩ := recs_at (HR.out.below HW.out.b) k hka
        obtain ⟨q, hq⟩ : ∃ q, xs[k]? = some q := ⟨_, List.getElem?_eq_getElem hka⟩
        have lw := HW.out.b.size
        have g9 : b < wr.heap.size := by omega
        have HSN := Lib.hid (show (xs.take (k + 1)).map mkG = L ++ [mkG q] by rw [← HLL.out]; exact made_snoc hq)
        have HL := Lib.hid (show L.length ≤ 8 by rw [← HLL.out, List.length_map, List.length_take]; omega)
        have HQ := Lib.hid (HX.out q (List.mem_of_getElem? hq))
        have a0 : wr.cell? ⟨b, o + k * 5, none⟩ = some (.int .i64 q.a) := hcell k q hq 0 _ rfl
        have a1 : wr.cell? ⟨b, o + k * 5 + 1, none⟩ = some (.int .i64 q.b) := hcell k q hq 1 _ rfl
        have a2 : wr.cell? ⟨b, o + k * 5 + 2, none⟩ = some (.int .i64 q.c) := hcell k q hq 2 _ rfl
        have a3 : wr.cell? ⟨b, o + k * 5 + 3, none⟩ = some (.int .i64 q.d) := hcell k q hq 3 _ rfl
        have a4 : wr.cell? ⟨b, o + k * 5 + 4, none⟩ = some (.int .i64 q.e) := hcell k q hq 4 _ rfl
        have HC := Lib.hid (show ∀ y, Below wr.heap.size wr y → y.cell? ⟨b, o + k * 5, none⟩ = some (.int .i64 q.a) ∧ y.cell? ⟨b, o + k * 5 + 1, none⟩ = some (.int .i64 q.b) ∧ y.cell? ⟨b, o + k * 5 + 2, none⟩ = some (.int .i64 q.c) ∧ y.cell? ⟨b, o + k * 5 + 3, none⟩ = some (.int .i64 q.d) ∧ y.cell? ⟨b, o + k * 5 + 4, none⟩ = some (.int .i64 q.e) from fun y hy => ⟨(hy.cell g9).trans a0, (hy.cell g9).trans a1, (hy.cell g9).trans a2, (hy.cell g9).trans a3, (hy.cell g9).trans a4⟩)
        have P1 := Lib.hid (fun u => rpick_any q.a 3 (by decide) (by decide) HQ.out.a.1 HQ.out.a.2 u)
        have P2 := Lib.hid (fun u => rpick_any q.d 4 (by decide) (by decide) HQ.out.d.1 HQ.out.d.2 u)
        have P3 := Lib.hid (fun u => rpick_any q.b 3 (by decide) (by decide) HQ.out.b.1 HQ.out.b.2 u)
        have P4 := Lib.hid (fun u => rpick_any (q.b.tdiv 3) 16 (by decide) (by decide) (i64_div HQ.out.b (.inl rfl)).1 (i64_div HQ.out.b (.inl rfl)).2 u)
        have P5 := Lib.hid (fun u => rpick_any q.c 3 (by decide) (by decide) HQ.out.c.1 HQ.out.c.2 u)
        have P6 := Lib.hid (fun u => rpick_any (q.c.tdiv 3) 255 (by decide) (by decide) (i64_div HQ.out.c (.inl rfl)).1 (i64_div HQ.out.c (.inl rfl)).2 u)
        have P7 := Lib.hid (fun u => rpick_any q.e 4 (by decide) (by decide) HQ.out.e.1 HQ.out.e.2 u)
        have P8 := Lib.hid (fun u => rpick_any (q.e.tdiv 4) 5 (by decide) (by decide) (i64_div HQ.out.e (.inr rfl)).1 (i64_div HQ.out.e (.inr rfl)).2 u)
        have w1 : IntKind.i64.wrap (q.b.tdiv 3) = q.b.tdiv 3 := i64_wrap (i64_div HQ.out.b (.inl rfl))
        have w2 : IntKind.i64.wrap (q.c.tdiv 3) = q.c.tdiv 3 := i64_wrap (i64_div HQ.out.c (.inl rfl))
        have w3 : IntKind.i64.wrap (q.e.tdiv 4) = q.e.tdiv 4 := i64_wrap (i64_div HQ.out.e (.inr rfl))
        have HMK := Lib.hid (show mkG q = ⟨pickI q.a 3, if pickI q.b 3 = 0 then 1 + 2 * pickI (q.b.tdiv 3) 16 else 31, if pickI q.c 3 = 0 then 1 + pickI (q.c.tdiv 3) 255 else 255, pickI q.d 4, 100 * pickI q.e 4, 100 * pickI q.e 4 + 100 * (1 + pickI (q.e.tdiv 4) 5)⟩ from rfl)
        have r1 := pickI_lt q.a 3 (by decide); have r2 := pickI_lt q.d 4 (by decide); have r4 := pickI_lt (q.b.tdiv 3) 16 (by decide); have r6 := pickI_lt (q.c.tdiv 3) 255 (by decide); have r7 := pickI_lt q.e 4 (by decide); have r8 := pickI_lt (q.e.tdiv 4) 5 (by decide)
        generalize pickI q.a 3 = p1 at *
        generalize pickI q.d 4 = p2 at *
        generalize pickI q.b 3 = p3 at *
        generalize pickI (q.b.tdiv 3) 16 = p4 at *
        generalize pickI q.c 3 = p5 at *
        generalize pickI (q.c.tdiv 3) 255 = p6 at *
        generalize pickI q.e 4 = p7 at *
        generalize pickI (q.e.tdiv 4) 5 = p8 at *
        have s4 : IntKind.i64.wrap (2 * p4) = 2 * p4 := IntWalk.i64_in _ (by omega)
        have s5 : IntKind.i64.wrap (1 + 2 * p4) = 1 + 2 * p4 := IntWalk.i64_in _ (by omega)
        have s6 : IntKind.i64.wrap (1 + p6) = 1 + p6 := IntWalk.i64_in _ (by omega)
        have s7 : IntKind.i64.wrap (100 * p7) = 100 * p7 := IntWalk.i64_in _ (by omega)
        have s8 : IntKind.i64.wrap (1 + p8) = 1 + p8 := IntWalk.i64_in _ (by omega)
        have s9 : IntKind.i64.wrap (100 * (1 + p8)) = 100 * (1 + p8) := IntWalk.i64_in _ (by omega)
        have s10 : IntKind.i64.wrap (100 * p7 + 100 * (1 + p8)) = 100 * p7 + 100 * (1 + p8) := IntWalk.i64_in _ (by omega)
        have e5k : IntKind.i64.wrap ((k : Int) + 1) = (k : Int) + 1 := IntWalk.i64_in _ (by omega)
        clear hcell hq lw r1 r2 r4 r6 r7 r8 hka
        go_upto_region 5 with (fail)
        go_cut [5] from 16 to 28 (fun p wx => p = .pointer (some ⟨wr.heap.size, 0, none⟩) ∧ Hid (Row wx wr.heap.size 52 #[.int .i64 p1, .int .i64 31, .int .i64 255, .int .i64 p2, .int .i64 0, .int .i64 0]) ∧ Hid (Below wr.heap.size wr wx))
        case first =>
          clear a1 a2 a4
          go_region_with (first | (go_at_call 31; (with_reducible refine Calls.mono (P1.out _) ?_); rintro r y1 ⟨rfl, rfl⟩) | (go_at_call 31; (with_reducible refine Calls.mono (P2.out _) ?_); rintro r y1 ⟨rfl, rfl⟩))
          all_goals (
            go_wp2_with fail
            go_meet
            exact ⟨rfl, Lib.hid (Row.new wr _ _), Lib.hid ((Below.refl _ wr).alloc (Nat.le_refl _) _).drew⟩)
        case rest =>
          clear a0 a1 a2 a3 a4
          obtain ⟨ac, hac⟩ : ∃ ac, (if p3 = 0 then 1 + 2 * p4 else 31) = ac := ⟨_, rfl⟩
          obtain ⟨rg, hrg⟩ : ∃ rg, (if p5 = 0 then 1 + p6 else 255) = rg := ⟨_, rfl⟩
          rw [hac, hrg] at HMK
          have HV1 := Lib.hid hac
          have HV2 := Lib.hid hrg
          clear hac hrg
          obtain ⟨rfl, RX, BX⟩ := hcut
          obtain ⟨y0, y1, y2, y3, y4⟩ := HC.out _ BX.out
          have lg := RX.out.lt
          go_upto_if 35 with (go_at_call 31; (with_reducible refine Calls.mono (P3.out _) ?_); rintro r y1 ⟨rfl, rfl⟩)
          have f1 := RX.out.free 1
          have x1 := RX.out.cell 1
          go_cut [5] from 35 to 45 (fun p wx => p = .pointer (some ⟨wr.heap.size, 0, none⟩) ∧ Hid (Row wx wr.heap.size 52 #[.int .i64 p1, .int .i64 ac, .int .i64 255, .int .i64 p2, .int .i64 0, .int .i64 0]) ∧ Hid (Below wr.heap.size wr wx))
          case first =>
            by_cases hp : p3 = 0
            · have e1 : (p3 == 0) = true := by simp [hp]
              rw [if_pos hp] at HV1
              obtain rfl := HV1.out
              clear hp
              go_wp2_with (go_at_call 31; (with_reducible refine Calls.mono (P4.out _) ?_); rintro r y1 ⟨rfl, rfl⟩)
              go_meet
              exact ⟨rfl, Lib.hid (RX.out.put 1 _), Lib.hid (BX.out.setCell (p := ⟨wr.heap.size, 1, none⟩) (Nat.le_refl _) _)⟩
            · have e1 : (p3 == 0) = false := by simp [hp]
              rw [if_neg hp] at HV1
              obtain rfl := HV1.out
              clear hp
              go_wp2_with fail
              go_meet
              exact ⟨rfl, RX, BX⟩
          case rest =>
            clear RX BX y0 y1 y2 y3 y4 lg f1 x1
            obtain ⟨rfl, RX, BX⟩ := hcut
            obtain ⟨y0, y1, y2, y3, y4⟩ := HC.out _ BX.out
            have lg := RX.out.lt
            go_upto_if 52 with (go_at_call 31; (with_reducible refine Calls.mono (P5.out _) ?_); rintro r y1 ⟨rfl, rfl⟩)
            have f2 := RX.out.free 2
            have x2 := RX.out.cell 2
            go_cut [5] from 52 to 61 (fun p wx => p = .pointer (some ⟨wr.heap.size, 0, none⟩) ∧ Hid (Row wx wr.heap.size 52 #[.int .i64 p1, .int .i64 ac, .int .i64 rg, .int .i64 p2, .int .i64 0, .int .i64 0]) ∧ Hid (Below wr.heap.size wr wx))
            case first =>
              by_cases hp : p5 = 0
              · have e1 : (p5 == 0) = true := by simp [hp]
                rw [if_pos hp] at HV2
                obtain rfl := HV2.out
                clear hp
                go_wp2_with (go_at_call 31; (with_reducible refine Calls.mono (P6.out _) ?_); rintro r y1 ⟨rfl, rfl⟩)
                go_meet
                exact ⟨rfl, Lib.hid (RX.out.put 2 _), Lib.hid (BX.out.setCell (p := ⟨wr.heap.size, 2, none⟩) (Nat.le_refl _) _)⟩
              · have e1 : (p5 == 0) = false := by simp [hp]
                rw [if_neg hp] at HV2
                obtain rfl := HV2.out
                clear hp
                go_wp2_with fail
                go_meet
                exact ⟨rfl, RX, BX⟩
            case rest =>
              clear RX BX y0 y1 y2 y3 y4 lg f2 x2
              obtain ⟨rfl, RX, BX⟩ := hcut
              obtain ⟨y0, y1, y2, y3, y4⟩ := HC.out _ BX.out
              have lg := RX.out.lt
              have f4 := RX.out.free 4
              have x4 := RX.out.cell 4
              go_upto_region 10 with (fail)
              go_cut [5] from 62 to 70 (fun p wx => p = .pointer (some ⟨wr.heap.size, 0, none⟩) ∧ Hid (Row wx wr.heap.size 52 #[.int .i64 p1, .int .i64 ac, .int .i64 rg, .int .i64 p2, .int .i64 (100 * p7), .int .i64 0]) ∧ Hid (Below wr.heap.size wr wx))
              case first =>
                go_wp2_with (go_at_call 31; (with_reducible refine Calls.mono (P7.out _) ?_); rintro r y1 ⟨rfl, rfl⟩)
                go_meet
                exact ⟨rfl, Lib.hid (RX.out.put 4 _), Lib.hid (BX.out.setCell (p := ⟨wr.heap.size, 4, none⟩) (Nat.le_refl _) _)⟩
              case rest =>
                clear RX BX y0 y1 y2 y3 y4 lg f4 x4
                obtain ⟨rfl, RX, BX⟩ := hcut
                obtain ⟨y0, y1, y2, y3, y4⟩ := HC.out _ BX.out
                have lg := RX.out.lt
                have f5 := RX.out.free 5
                have x5 := RX.out.cell 5
                have x4 := RX.out.cell 4
                go_upto_region 11 with (fail)
                go_cut [5] from 71 to 85 (fun p wx => p = .pointer (some ⟨wr.heap.size, 0, none⟩) ∧ Hid (Row wx wr.heap.size 52 #[.int .i64 p1, .int .i64 ac, .int .i64 rg, .int .i64 p2, .int .i64 (100 * p7), .int .i64 (100 * p7 + 100 * (1 + p8))]) ∧ Hid (Below wr.heap.size wr wx))
                case first =>
                  clear y0 y1 y2 y3
                  go_region_with (go_at_call 31; (with_reducible refine Calls.mono (P8.out _) ?_); rintro r y1 ⟨rfl, rfl⟩)
                  all_goals (
                    go_wp2_with fail
                    go_meet
                    exact ⟨rfl, Lib.hid (RX.out.put 5 _), Lib.hid (BX.out.setCell (p := ⟨wr.heap.size, 5, none⟩) (Nat.le_refl _) _).drew⟩)
                case rest =>
                  clear RX BX y0 y1 y2 y3 y4 lg f5 x5 x4
                  obtain ⟨rfl, RX, BX⟩ := hcut
                  have lg := RX.out.lt
                  have x0 := RX.out.cell 0
                  have x1 := RX.out.cell 1
                  have x2 := RX.out.cell 2
                  have x3 := RX.out.cell 3
                  have x4 := RX.out.cell 4
                  have x5 := RX.out.cell 5
                  obtain ⟨A3, c3, w3, hrun, hG⟩ := (HW.out.next BX.out).push (by have := HL.out; omega) ⟨p1, ac, rg, p2, 100 * p7, 100 * p7 + 100 * (1 + p8)⟩ (cs := #[.int .i64 p1, .int .i64 ac, .int .i64 rg, .int .i64 p2, .int .i64 (100 * p7), .int .i64 (100 * p7 + 100 * (1 + p8))]) rfl
                  have HG2 := Lib.hid hG
                  clear hG
                  go_wp2
                  go_roundw
                  case rel => exact ⟨k + 1, by go_num, by omega, by omega, by rw [HSN.out, HMK.out]; exact HG2⟩
                  case measure => simp [intOf]; omega
      · have k2 : ¬ (k : Int) < 8 := by omega
        have HE := Lib.hid (show L = madeG xs by rw [← HLL.out]; unfold madeG; rw [show k = 8 by omega])
        go_wp2
        go_ret
        exact ⟨_, rfl, by rw [← HE.out]; exact HW.out⟩
    · have k1 : ¬ (k : Int) < (n : Int) := by omega
      have HE := Lib.hid (show L = madeG xs by rw [← HLL.out]; unfold madeG; rw [List.take_of_length_le (by have := HN.out; omega), List.take_of_length_le (by have := HN.out; omega)])
      go_wp2
      go_ret
      exact ⟨_, rfl, by rw [← HE.out]; exact HW.out⟩
end Go.Proofs.Ytenojfniknjeiaa
