/- The reference's MadeUses. -/
import Derived.Test.YtenojfniknjeiaaHv
import Derived.IntWalk
import Derived.Deep.CutBlock
namespace Go.Proofs.Ytenojfniknjeiaa
open Go.RowKit
attribute [local go_sem ↓] append_appN

/-- Four integers that determine a use. -/
structure I4 where
  a : Int
  b : Int
  c : Int
  d : Int
def enc4 (x : I4) : List Value := [.int .i64 x.a, .int .i64 x.b, .int .i64 x.c, .int .i64 x.d]
structure OkI4 (x : I4) : Prop where
  a : I64 x.a
  b : I64 x.b
  c : I64 x.c
  d : I64 x.d
def mkU (x : I4) : Us := ⟨pickI x.a 3, if pickI x.b 3 = 0 then 1 + 2 * pickI (x.b.tdiv 3) 16 else 1, pickI x.c 8, pickI x.d 900⟩
def madeU (xs : List I4) : List Us := (xs.take 7).map mkU
theorem madeU_len (xs : List I4) : (madeU xs).length ≤ 7 := by unfold madeU; rw [List.length_map, List.length_take]; omega
theorem mkU_ok (x : I4) : okU (mkU x) = true := by
  have h1 := pickI_lt x.a 3 (by decide); have h2 := pickI_lt (x.b.tdiv 3) 16 (by decide); have h3 := pickI_lt x.c 8 (by decide); have h4 := pickI_lt x.d 900 (by decide)
  unfold okU mkU
  simp only [Bool.and_eq_true, decide_eq_true_eq]
  split <;> omega
theorem madeU_valid (xs : List I4) : validU (madeU xs) = true := by
  unfold validU
  rw [Bool.and_eq_true, decide_eq_true_eq, List.all_eq_true]
  refine ⟨Nat.le_trans (madeU_len xs) (by decide), fun g hg => ?_⟩
  obtain ⟨x, -, rfl⟩ := List.mem_map.1 hg
  exact mkU_ok x
theorem madeU_snoc {xs : List I4} {k : Nat} {q : I4} (hq : xs[k]? = some q) : (xs.take (k + 1)).map mkU = (xs.take k).map mkU ++ [mkU q] := by
  rw [List.take_add_one, hq]; simp
theorem infoUse : (Try.prog.info? 46).map (fun i => (i.zero, i.size, i.bytes)) = some (some (.agg #[.int .i64 0, .int .i64 0, .int .i64 0, .int .i64 0]), 4, 32) := by kernel_rfl
theorem encU_one (x : Us) : ∀ u ∈ encU x, u.oneCell' = true := fun u hu => by
  simp only [encU, List.mem_cons, List.not_mem_nil, or_false] at hu
  rcases hu with rfl | rfl | rfl | rfl <;> rfl
structure GatU (w : World) (L : List Us) (o : Value) (wr : World) : Prop where
  own : wr.ownsRow w.heap.size 46 4 o L.length (flatE encU L)
  b : Below w.heap.size w wr
theorem GatU.next {w : World} {L : List Us} {o : Value} {wr wr' : World} (h : GatU w L o wr) (hb : Below wr.heap.size wr wr') : GatU w L o wr' := ⟨own_below h.own hb, below_to h.b hb⟩
theorem GatU.push {w : World} {L : List Us} {o : Value} {wr : World} (h : GatU w L o wr) (hl : L.length ≤ 100000) (x : Us) {cs : Array Value} (hcs : (encU x).toArray = cs) :
    ∃ A c w', Sem.run Try.prog (appN #[23, 23] 23 #[o, .slice (some ⟨wr.heap.size, 0, none⟩) 1 1]) (wr.alloc (.cells cs 46)) = .ok (.slice A (L.length + 1) c) w' ∧ GatU w (L ++ [x]) (.slice A (L.length + 1) c) w' := by
  obtain ⟨A, c, w', hrun, hown, hgr⟩ := snoc_rec (enc := encU) (k := 4) (fun _ => rfl) (by decide) encU_one rfl (by decide) x Try.underlying23 infoUse h.own hl h.b.size hcs
  exact ⟨A, c, w', hrun, by rw [List.length_append]; exact hown, (h.b.alloc h.b.size _).grown hgr (by have := h.b.size; simp; omega) (fun r x => by have := own_ge h.own r x; omega)⟩
theorem GatU.recs {w : World} {L : List Us} {o : Value} {wr : World} (h : GatU w L o wr) : Recs encU 4 wr wr.heap.size o L := recs_of_ownE (enc := encU) (k := 4) (fun _ => rfl) h.own rfl
set_option maxRecDepth 100000 in
set_option maxHeartbeats 16000000 in
theorem madeUses_any (xs : List I4) (hx : ∀ x ∈ xs, OkI4 x) (A : Option Addr) (n c : Nat) (w : World) (hr : Recs enc4 4 w w.heap.size (.slice A n c) xs) :
    Calls Try.prog 12 #[.slice A n c] w fun e w' => ∃ v, e = .returned v ∧ GatU w (madeU xs) v w' := by
  obtain ⟨hn, hc1, hc2⟩ := recs_cap hr
  have HN := Lib.hid hn
  have HR := Lib.hid hr
  have HX := Lib.hid hx
  have n9 : n ≤ 9223372036854775807 := by omega
  clear hn hc1 hc2 hr hx
  go_enter Try.func12, Try.ntmps12
  go_wp2
  go_loopw [3, 4] (fun v z wr => ∃ k : Nat, z = .int .i64 (k : Int) ∧ k ≤ n ∧ k ≤ 7 ∧ Hid (GatU w ((xs.take k).map mkU) v wr)) (fun _ z _ => 7 - (intOf z).toNat)
  case atStart => exact ⟨0, rfl, Nat.zero_le _, by decide, Lib.hid ⟨World.ownsRow_nil _ _ _ _, Below.refl _ _⟩⟩
  case round =>
    obtain ⟨k, rfl, hk, hk8, HW⟩ := hrel
    obtain ⟨L, hL⟩ : ∃ L, (xs.take k).map mkU = L := ⟨_, rfl⟩
    rw [hL] at HW
    have HLL := Lib.hid hL
    clear hL
    obtain ⟨A2, c2, rfl, -⟩ := own_slice HW.out.own
    have k0 : (0 : Int) ≤ (k : Int) := by omega
    by_cases hlt : k < n
    · have k1 : (k : Int) < (n : Int) := by omega
      by_cases h8 : k < 7
      · have k2 : (k : Int) < 7 := by omega
        have hka : k < xs.length := by have := HN.out; omega
        obtain ⟨b, o, rfl, hg, hcell⟩ := recs_at (HR.out.below HW.out.b) k hka
        obtain ⟨q, hq⟩ : ∃ q, xs[k]? = some q := ⟨_, List.getElem?_eq_getElem hka⟩
        have lw := HW.out.b.size
        have g9 : b < wr.heap.size := by omega
        have HSN := Lib.hid (show (xs.take (k + 1)).map mkU = L ++ [mkU q] by rw [← HLL.out]; exact madeU_snoc hq)
        have HL := Lib.hid (show L.length ≤ 7 by rw [← HLL.out, List.length_map, List.length_take]; omega)
        have HQ := Lib.hid (HX.out q (List.mem_of_getElem? hq))
        have a0 : wr.cell? ⟨b, o + k * 4, none⟩ = some (.int .i64 q.a) := hcell k q hq 0 _ rfl
        have a1 : wr.cell? ⟨b, o + k * 4 + 1, none⟩ = some (.int .i64 q.b) := hcell k q hq 1 _ rfl
        have a2 : wr.cell? ⟨b, o + k * 4 + 2, none⟩ = some (.int .i64 q.c) := hcell k q hq 2 _ rfl
        have a3 : wr.cell? ⟨b, o + k * 4 + 3, none⟩ = some (.int .i64 q.d) := hcell k q hq 3 _ rfl
        have HC := Lib.hid (show ∀ y, Below wr.heap.size wr y → y.cell? ⟨b, o + k * 4, none⟩ = some (.int .i64 q.a) ∧ y.cell? ⟨b, o + k * 4 + 1, none⟩ = some (.int .i64 q.b) ∧ y.cell? ⟨b, o + k * 4 + 2, none⟩ = some (.int .i64 q.c) ∧ y.cell? ⟨b, o + k * 4 + 3, none⟩ = some (.int .i64 q.d) from fun y hy => ⟨(hy.cell g9).trans a0, (hy.cell g9).trans a1, (hy.cell g9).trans a2, (hy.cell g9).trans a3⟩)
        have P1 := Lib.hid (fun u => rpick_any q.a 3 (by decide) (by decide) HQ.out.a.1 HQ.out.a.2 u)
        have P2 := Lib.hid (fun u => rpick_any q.c 8 (by decide) (by decide) HQ.out.c.1 HQ.out.c.2 u)
        have P5 := Lib.hid (fun u => rpick_any q.d 900 (by decide) (by decide) HQ.out.d.1 HQ.out.d.2 u)
        have P3 := Lib.hid (fun u => rpick_any q.b 3 (by decide) (by decide) HQ.out.b.1 HQ.out.b.2 u)
        have P4 := Lib.hid (fun u => rpick_any (q.b.tdiv 3) 16 (by decide) (by decide) (i64_div HQ.out.b (.inl rfl)).1 (i64_div HQ.out.b (.inl rfl)).2 u)
        have w1 : IntKind.i64.wrap (q.b.tdiv 3) = q.b.tdiv 3 := i64_wrap (i64_div HQ.out.b (.inl rfl))
        have HMK := Lib.hid (show mkU q = ⟨pickI q.a 3, if pickI q.b 3 = 0 then 1 + 2 * pickI (q.b.tdiv 3) 16 else 1, pickI q.c 8, pickI q.d 900⟩ from rfl)
        have r4 := pickI_lt (q.b.tdiv 3) 16 (by decide)
        generalize pickI q.a 3 = p1 at *
        generalize pickI q.c 8 = p2 at *
        generalize pickI q.b 3 = p3 at *
        generalize pickI (q.b.tdiv 3) 16 = p4 at *
        generalize pickI q.d 900 = p5 at *
        have s4 : IntKind.i64.wrap (2 * p4) = 2 * p4 := IntWalk.i64_in _ (by omega)
        have s5 : IntKind.i64.wrap (1 + 2 * p4) = 1 + 2 * p4 := IntWalk.i64_in _ (by omega)
        have e5k : IntKind.i64.wrap ((k : Int) + 1) = (k : Int) + 1 := IntWalk.i64_in _ (by omega)
        clear hcell hq lw r4 hka
        go_upto_region 5 with (fail)
        go_cut [5] from 16 to 34 (fun p wx => p = .pointer (some ⟨wr.heap.size, 0, none⟩) ∧ Hid (Row wx wr.heap.size 46 #[.int .i64 p1, .int .i64 1, .int .i64 p2, .int .i64 p5]) ∧ Hid (Below wr.heap.size wr wx))
        case first =>
          clear a1
          go_region_with (first | (go_at_call 31; (with_reducible refine Calls.mono (P1.out _) ?_); rintro r y1 ⟨rfl, rfl⟩) | (go_at_call 31; (with_reducible refine Calls.mono (P2.out _) ?_); rintro r y1 ⟨rfl, rfl⟩) | (go_at_call 31; (with_reducible refine Calls.mono (P5.out _) ?_); rintro r y1 ⟨rfl, rfl⟩))
          all_goals (
            go_wp2_with fail
            go_meet
            exact ⟨rfl, Lib.hid (Row.new wr _ _), Lib.hid ((Below.refl _ wr).alloc (Nat.le_refl _) _).drew⟩)
        case rest =>
          clear a0 a1 a2 a3
          obtain ⟨ac, hac⟩ : ∃ ac, (if p3 = 0 then 1 + 2 * p4 else 1) = ac := ⟨_, rfl⟩
          rw [hac] at HMK
          have HV1 := Lib.hid hac
          clear hac
          obtain ⟨rfl, RX, BX⟩ := hcut
          obtain ⟨y0, y1, y2, y3⟩ := HC.out _ BX.out
          have lg := RX.out.lt
          go_upto_if 41 with (go_at_call 31; (with_reducible refine Calls.mono (P3.out _) ?_); rintro r y1 ⟨rfl, rfl⟩)
          have f1 := RX.out.free 1
          have x1 := RX.out.cell 1
          go_cut [5] from 41 to 51 (fun p wx => p = .pointer (some ⟨wr.heap.size, 0, none⟩) ∧ Hid (Row wx wr.heap.size 46 #[.int .i64 p1, .int .i64 ac, .int .i64 p2, .int .i64 p5]) ∧ Hid (Below wr.heap.size wr wx))
          case first =>
            by_cases hp : p3 = 0
            · have e1 : (p3 == 0) = true := by simp [hp]
              rw [if_pos hp] at HV1
              obtain rfl := HV1.out
              clear hp
              go_wp2_with (go_at_call 31; (with_reducible refine Calls.mono (P4.out _) ?_); rintro r y1 ⟨rfl, rfl⟩)
              go_meet
              exact ⟨rfl, Lib.hid (RX.out.put 1 _), Lib.hid (BX.out.setCell (p := ⟨wr.heap.size, 1, none⟩) (Nat.le_refl _) _)⟩
            · have e1 : (p3 == 0) = false := by simp [hp]
              rw [if_neg hp] at HV1
              obtain rfl := HV1.out
              clear hp
              go_wp2_with fail
              go_meet
              exact ⟨rfl, RX, BX⟩
          case rest =>
            clear RX BX y0 y1 y2 y3 lg f1 x1
            obtain ⟨rfl, RX, BX⟩ := hcut
            have lg := RX.out.lt
            have x0 := RX.out.cell 0
            have x1 := RX.out.cell 1
            have x2 := RX.out.cell 2
            have x3 := RX.out.cell 3
            obtain ⟨A3, c3, w3, hrun, hG⟩ := (HW.out.next BX.out).push (by have := HL.out; omega) ⟨p1, ac, p2, p5⟩ (cs := #[.int .i64 p1, .int .i64 ac, .int .i64 p2, .int .i64 p5]) rfl
            have HG2 := Lib.hid hG
            clear hG
            go_wp2
            go_roundw
            case rel => exact ⟨k + 1, by go_num, by omega, by omega, by rw [HSN.out, HMK.out]; exact HG2⟩
            case measure => simp [intOf]; omega
      · have k2 : ¬ (k : Int) < 7 := by omega
        have HE := Lib.hid (show L = madeU xs by rw [← HLL.out]; unfold madeU; rw [show k = 7 by omega])
        go_wp2
        go_ret
        exact ⟨_, rfl, by rw [← HE.out]; exact HW.out⟩
    · have k1 : ¬ (k : Int) < (n : Int) := by omega
      have HE := Lib.hid (show L = madeU xs by rw [← HLL.out]; unfold madeU; rw [List.take_of_length_le (by have := HN.out; omega), List.take_of_length_le (by have := HN.out; omega)])
      go_wp2
      go_ret
      exact ⟨_, rfl, by rw [← HE.out]; exact HW.out⟩
end Go.Proofs.Ytenojfniknjeiaa
