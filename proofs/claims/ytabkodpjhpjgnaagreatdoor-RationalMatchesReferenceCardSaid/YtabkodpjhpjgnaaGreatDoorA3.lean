/- Contracts of quotientBounds, of sort.Search with greatest's function, and of greatest. Contracts of sort.Search with greatest's function, and of greatest. Contract of over's function: whether a multiple of the divisor fits into the rest. Contracts of slices.Grow and slices.Concat of magnitudes. A region whose order is drawn, inside a round of 'range' over a function: by the plain walk of all orders. Contract of over of magnitudes. Contract of gcd of magnitudes. Contracts of root's function and of root of magnitudes. Contract of root of magnitudes. -/
import Derived.Test.YtabkodpjhpjgnaaGreatDoorA2
import Derived.Deep.RegionHeld3
import Derived.Shelf.Abstract
import Derived.Lib.AppendZeros
import Derived.OrdersHeld
import Derived.OrdersIn
import Derived.RangeFuncCalls
import Derived.Laws.EntriesVeiled
namespace Go.Proofs.YtabkodpjhpjgnaaGreatDoor
open Go.RowKit

def BoundsPost (q : Nat) (w : World) (e : Ending) (w' : World) : Prop := ∃ lo hi : Nat, e = .returned (.tuple #[.int .i64 (lo : Int), .int .i64 (hi : Int)]) ∧ lo ≤ q ∧ q ≤ hi ∧ hi ≤ 9999 ∧ Below w.heap.size w w'
set_option maxRecDepth 100000 in
set_option maxHeartbeats 1000000 in
theorem bounds_any (va vd : Value) (a d : Nat) (w : World) (ha : Mag w va a) (hd : Mag w vd d) (hd0 : d ≠ 0) (hl : (Im.grp a).length ≤ (Im.grp d).length + 1) (hdl : (Im.grp d).length ≤ 400) (hq : a / d ≤ 9999) :
    Calls Tryz.prog 140 #[va, vd] w (BoundsPost (a / d) w) := by
  have hlen0 : (Im.grp d).length ≠ 0 := fun e => hd0 ((Im.grp_len0 d).1 e)
  obtain ⟨f, hf⟩ : ∃ f, (Im.grp d).length - 2 = f := ⟨_, rfl⟩
  have h1 := fun u (hu : Below w.heap.size w u) => above_any vd d f u (hd.next hu) (by omega) (by omega)
  have h2 := fun u (hu : Below w.heap.size w u) => above_any va a f u (ha.next hu) (by omega) (by omega)
  have hpos : 0 < d / 10000 ^ f := Nat.div_pos (Nat.le_trans (Nat.pow_le_pow_right (by decide) (by omega)) (Im.grp_ge d hd0)) (Nat.pow_pos (by decide))
  have hlo := Im.quot_low a d f hpos
  have hhi := Im.quot_high a d f hpos
  have hb1 : d / 10000 ^ f < 10000 ^ 2 := Nat.div_lt_of_lt_mul (by rw [← Nat.pow_add]; exact Nat.lt_of_lt_of_le (Im.grp_lt d) (Nat.pow_le_pow_right (by decide) (by omega)))
  have hb2 : a / 10000 ^ f < 10000 ^ 3 := Nat.div_lt_of_lt_mul (by rw [← Nat.pow_add]; exact Nat.lt_of_lt_of_le (Im.grp_lt a) (Nat.pow_le_pow_right (by decide) (by omega)))
  obtain ⟨x, hx⟩ : ∃ x, d / 10000 ^ f = x := ⟨_, rfl⟩
  obtain ⟨y, hy⟩ : ∃ x, a / 10000 ^ f = x := ⟨_, rfl⟩
  obtain ⟨q, hqq⟩ : ∃ q, a / d = q := ⟨_, rfl⟩
  rw [hx] at h1 hpos hlo hhi hb1; rw [hy] at h2 hlo hhi hb2; rw [hqq] at hlo hhi hq ⊢
  obtain ⟨A, ca, rfl, hca1, hca2⟩ := ints_form ha
  obtain ⟨D, cd, rfl, hcd1, hcd2⟩ := ints_form hd
  obtain ⟨M, hM⟩ : ∃ n, (Im.grp d).length = n := ⟨_, rfl⟩
  rw [hM] at hf hcd1 hlen0 hdl h1 ⊢
  obtain ⟨lo, hlo2⟩ : ∃ t, y / (x + 1) = t := ⟨_, rfl⟩
  obtain ⟨hi, hhi2⟩ : ∃ t, y / x = t := ⟨_, rfl⟩
  rw [hlo2] at hlo; rw [hhi2] at hhi
  have e1 : (y : Int) / ((x : Int) + 1) = (lo : Int) := by rw [← hlo2]; norm_cast
  have e2 : (y : Int) / (x : Int) = (hi : Int) := by rw [← hhi2]; norm_cast
  have hx' : x < 100000000 := hb1
  have hy' : y < 1000000000000 := hb2
  have hhb : hi ≤ 1000000000000 := by rw [← hhi2]; exact Nat.le_trans (Nat.div_le_self _ _) (by omega)
  have hmx := fun (w : World) => run_max2 (P := Tryz.prog) (w := w) #[3, 3] 3 .i64 .i64 0 ((M : Int) - 2) f (by omega)
  obtain ⟨hm, hhm⟩ : ∃ t, min 9999 hi = t := ⟨_, rfl⟩
  have hmn := fun (w : World) => run_min2 (P := Tryz.prog) (w := w) #[3, 3] 3 .i64 .i64 9999 hi hm (by omega)
  have H1 := Lib.hid h1; have H2 := Lib.hid h2
  have HF := Lib.hid (show lo ≤ q ∧ q ≤ hm ∧ hm ≤ 9999 by omega)
  have x1 : (0 : Int) < (x : Int) := by omega
  have x2 : (0 : Int) < (x : Int) + 1 := by omega
  have y1 : (0 : Int) ≤ (y : Int) := by omega
  have x3 : ((x : Int) == 0) = false := by rw [beq_eq_false_iff_ne]; omega
  have x4 : ((x : Int) + 1 == 0) = false := by rw [beq_eq_false_iff_ne]; omega
  have x5 : IntKind.i64.wrap ((x : Int) + 1) = (x : Int) + 1 := IntWalk.i64_in _ (by omega)
  have e3 : (y : Int).tdiv ((x : Int) + 1) = (lo : Int) := by rw [Int.tdiv_eq_ediv_of_nonneg y1]; exact e1
  have e4 : (y : Int).tdiv (x : Int) = (hi : Int) := by rw [Int.tdiv_eq_ediv_of_nonneg y1]; exact e2
  have x6 : IntKind.i64.wrap (lo : Int) = (lo : Int) := IntWalk.i64_in _ (by omega)
  have x7 : IntKind.i64.wrap (hi : Int) = (hi : Int) := IntWalk.i64_in _ (by omega)
  clear h1 h2 hx hy hqq hM hlo2 hhi2 hlo hhi ha hd hf hhm hb1 hb2
  go_enter Tryz.func140, Tryz.ntmps140
  go_wp2_with (first | (go_at_call 161; ((with_reducible refine (H1.out _ (Below.refl _ _)).mono ?_); rintro e w1 ⟨rfl, hb1⟩)) | (go_at_call 161; ((with_reducible refine (H2.out _ hb1).mono ?_); rintro e w2 ⟨rfl, hb2⟩)))
  go_region
  all_goals
    go_wp2
    go_ret2
    exact ⟨lo, hm, rfl, HF.out.1, HF.out.2.1, HF.out.2.2, (below_to hb1 hb2).drew⟩
end Go.Proofs.YtabkodpjhpjgnaaGreatDoor

namespace Go.Proofs.YtabkodpjhpjgnaaGreatDoor
open Go.RowKit Go.Shelf

/-- What is asked of a function that tells whether a number fits: those up to q do. -/
def Fits (gf : Nat) (cb : Array Value) (low high q : Nat) (no : Nat → Prop) (J : World → Prop) : Prop :=
  ∀ (g : Nat) (W : World), low ≤ g → g ≤ high → J W → Calls Tryz.prog gf (#[.int .i64 (g : Int)] ++ cb) W fun e W' => e = .returned (.bool (decide (g ≤ q))) ∧ J W' ∧ Keeps no W W'
/-- The two boxes of greatest's function. -/
def Boxes (W : World) (Bl Bf low gf : Nat) (cb : Array Value) : Prop := Row W Bl 3 #[.int .i64 (low : Int)] ∧ Row W Bf 152 #[.func (.func gf) #[] cb]

set_option maxHeartbeats 400000 in
theorem greatest1_any (gf : Nat) (eg : ∀ args w, (callFunc gf args).run Tryz.prog w = .ok (.enter gf args) w) (cb : Array Value) (low high q : Nat) (no : Nat → Prop) (J : World → Prop) (hf : Fits gf cb low high q no J) (hh : high ≤ 9999)
    (Bl Bf i : Nat) (W : World) (hi : low + i + 1 ≤ high) (hJ : J W) (hb : Boxes W Bl Bf low gf cb) (hnl : ¬ no Bl) (hnf : ¬ no Bf) :
    Calls Tryz.prog 163 #[.int .i64 (i : Int), .pointer (some ⟨Bf, 0, none⟩), .pointer (some ⟨Bl, 0, none⟩)] W fun e W' => e = .returned (.bool (decide (q < low + i + 1))) ∧ J W' ∧ Boxes W' Bl Bf low gf cb ∧ Keeps no W W' := by
  have hc := hf (low + i + 1) W (by omega) hi hJ
  have cl := hb.1.cell 0
  have cf := hb.2.cell 0
  simp only [List.getElem?_toArray, List.getElem?_cons_zero] at cl cf
  rw [show ((low + i + 1 : Nat) : Int) = (low : Int) + (i : Int) + 1 by omega] at hc
  obtain ⟨b, hbb⟩ : ∃ b, decide (low + i + 1 ≤ q) = b := ⟨_, rfl⟩
  have hnb : decide (q < low + i + 1) = !b := by
    rw [← hbb]
    by_cases h : low + i + 1 ≤ q
    · rw [decide_eq_true h, decide_eq_false (by omega)]; rfl
    · rw [decide_eq_false h, decide_eq_true (by omega)]; rfl
  rw [hbb] at hc
  rw [hnb]
  have HC := Lib.hid hc; have HB := Lib.hid hb
  have s1 : IntKind.i64.wrap ((low : Int) + (i : Int)) = (low : Int) + (i : Int) := IntWalk.i64_in _ (by omega)
  have s2 : IntKind.i64.wrap ((low : Int) + (i : Int) + 1) = (low : Int) + (i : Int) + 1 := IntWalk.i64_in _ (by omega)
  clear hc hbb hnb hb
  go_enter Tryz.func163, Tryz.ntmps163
  go_wp2_with (go_at_fn gf; refine HC.out.mono ?_; rintro e w1 ⟨rfl, hj, hk⟩)
  go_ret
  exact ⟨rfl, hj, ⟨(hk.block _ HB.out.1.lt hnl).trans HB.out.1, (hk.block _ HB.out.2.lt hnf).trans HB.out.2⟩, hk⟩

set_option maxRecDepth 100000 in
set_option maxHeartbeats 1000000 in
theorem search_any (gf : Nat) (eg : ∀ args w, (callFunc gf args).run Tryz.prog w = .ok (.enter gf args) w) (cb : Array Value) (low high q : Nat) (no : Nat → Prop) (J : World → Prop) (hf : Fits gf cb low high q no J) (hh : high ≤ 9999)
    (hlq : low ≤ q) (hqh : q ≤ high) (Bl Bf : Nat) (w : World) (hJ : J w) (hb : Boxes w Bl Bf low gf cb) (hnl : ¬ no Bl) (hnf : ¬ no Bf) :
    Calls Tryz.prog 162 #[.int .i64 ((high - low : Nat) : Int), .func (.func 163) #[] #[.pointer (some ⟨Bf, 0, none⟩), .pointer (some ⟨Bl, 0, none⟩)]] w fun e w' => e = .returned (.int .i64 ((q - low : Nat) : Int)) ∧ J w' ∧ Boxes w' Bl Bf low gf cb ∧ Keeps no w w' := by
  have H := Lib.hid (fun i W hi hJ hb => greatest1_any gf eg cb low high q no J hf hh Bl Bf i W hi hJ hb hnl hnf)
  obtain ⟨n, hn⟩ : ∃ n, high - low = n := ⟨_, rfl⟩
  obtain ⟨p, hp⟩ : ∃ n, q - low = n := ⟨_, rfl⟩
  rw [hn, hp]
  have HN := Lib.hid hn; have HP := Lib.hid hp
  have hpn : p ≤ n := by omega
  have hn2 : n ≤ 9999 := by omega
  clear hf hn hp eg
  go_enter Tryz.func162, Tryz.ntmps162
  go_wp2
  go_loopw [5, 6, 7] (fun i j _ wr => ∃ lo hi : Nat, i = .int .i64 (lo : Int) ∧ j = .int .i64 (hi : Int) ∧ lo ≤ p ∧ p ≤ hi ∧ hi ≤ n ∧ Hid (J wr) ∧ Hid (Boxes wr Bl Bf low gf cb) ∧ Hid (Keeps no w wr)) (fun i j _ _ => (intOf j - intOf i).toNat)
  case atStart => exact ⟨0, n, rfl, rfl, by omega, hpn, Nat.le_refl _, Lib.hid hJ, Lib.hid hb, Lib.hid (Keeps.refl _ _)⟩
  case round =>
    obtain ⟨lo, hi, rfl, rfl, h1, h2, h3, HJ, HB, HK⟩ := hrel
    by_cases hlt : lo < hi
    · have hc := H.out ((lo + hi) / 2) wr (by have := HN.out; omega) HJ.out HB.out
      rw [show (((lo + hi) / 2 : Nat) : Int) = ((lo : Int) + (hi : Int)) / 2 by omega] at hc
      obtain ⟨b, hbb⟩ : ∃ b, decide (q < low + (lo + hi) / 2 + 1) = b := ⟨_, rfl⟩
      rw [hbb] at hc
      have HC := Lib.hid hc; have HBB := Lib.hid hbb
      have i1 : (lo : Int) < (hi : Int) := by omega
      have i2 : (0 : Int) ≤ (lo : Int) + (hi : Int) := by omega
      have i3 : (lo : Int) + (hi : Int) ≤ 20000 := by omega
      clear hc hbb
      cases b with
      | false =>
        have hq2 : low + (lo + hi) / 2 + 1 ≤ q := by have := HBB.out; simpa using this
        go_wp2_with (go_at_call 163; refine HC.out.mono ?_; rintro e w1 ⟨rfl, hj, hb1, hk⟩)
        go_roundw
        case rel => exact ⟨(lo + hi) / 2 + 1, hi, by go_num, rfl, by have := HP.out; omega, h2, h3, Lib.hid hj, Lib.hid hb1, Lib.hid (HK.out.trans hk)⟩
        case measure => simp [intOf]; omega
      | true =>
        have hq2 : q < low + (lo + hi) / 2 + 1 := by have := HBB.out; simpa using this
        go_wp2_with (go_at_call 163; refine HC.out.mono ?_; rintro e w1 ⟨rfl, hj, hb1, hk⟩)
        go_roundw
        case rel => exact ⟨lo, (lo + hi) / 2, rfl, by go_num, h1, by have := HP.out; omega, by omega, Lib.hid hj, Lib.hid hb1, Lib.hid (HK.out.trans hk)⟩
        case measure => simp [intOf]; omega
    · obtain rfl : lo = p := by omega
      go_wp2
      go_ret
      exact ⟨rfl, HJ.out, HB.out, HK.out⟩

set_option maxRecDepth 100000 in
set_option maxHeartbeats 1000000 in
theorem greatest_any (gf : Nat) (eg : ∀ args w, (callFunc gf args).run Tryz.prog w = .ok (.enter gf args) w) (cb : Array Value) (low high q : Nat) (no : Nat → Prop) (J : World → Prop) (hf : Fits gf cb low high q no J) (hh : high ≤ 9999)
    (hlq : low ≤ q) (hqh : q ≤ high) (hJb : ∀ X Y, J X → Below X.heap.size X Y → J Y) (w : World) (hJ : J w) (hno : ∀ j, no j → j < w.heap.size) :
    Calls Tryz.prog 141 #[.int .i64 (low : Int), .int .i64 (high : Int), .func (.func gf) #[] cb] w fun e w' => e = .returned (.int .i64 (q : Int)) ∧ J w' ∧ Keeps no w w' := by
  have hs := fun u hJ hb => search_any gf eg cb low high q no J hf hh hlq hqh w.heap.size (w.heap.size + 1) u hJ hb (fun e => by have := hno _ e; omega) (fun e => by have := hno _ e; omega)
  rw [show ((high - low : Nat) : Int) = (high : Int) - (low : Int) by omega, show ((q - low : Nat) : Int) = (q : Int) - (low : Int) by omega] at hs
  obtain ⟨W, hW⟩ : ∃ W, (w.alloc (.cells #[.int .i64 (low : Int)] 3)).alloc (.cells #[.func (.func gf) #[] cb] 152) = W := ⟨_, rfl⟩
  have hb0 : Below w.heap.size w W := by rw [← hW]; exact ((Below.refl _ w).alloc (Nat.le_refl _) _).alloc (by simp) _
  have hbx : Boxes W w.heap.size (w.heap.size + 1) low gf cb := by
    rw [← hW]
    refine ⟨(Row.new w _ _).alloc _, ?_⟩
    have := Row.new (w.alloc (.cells #[.int .i64 (low : Int)] 3)) 152 #[.func (.func gf) #[] cb]
    rw [World.size_alloc] at this; exact this
  have hJW := hJb _ _ hJ hb0
  have hKW := Keeps.of_below (no := no) hb0
  have cl := hbx.1.cell 0
  simp only [List.getElem?_toArray, List.getElem?_cons_zero] at cl
  have HS := Lib.hid (fun u (h : (J u ∧ Boxes u w.heap.size (w.heap.size + 1) low gf cb ∧ Keeps no w u) ∧ u.cell? ⟨w.heap.size, 0, none⟩ = some (.int .i64 (low : Int))) => (hs u h.1.1 h.1.2.1).mono
    (R' := fun e u' => e = .returned (.int .i64 ((q : Int) - (low : Int))) ∧ ((J u' ∧ Boxes u' w.heap.size (w.heap.size + 1) low gf cb ∧ Keeps no w u') ∧ u'.cell? ⟨w.heap.size, 0, none⟩ = some (.int .i64 (low : Int))))
    fun e u' ⟨h1, h2, h3, h4⟩ => ⟨h1, ⟨h2, h3, h.1.2.2.trans h4⟩, (h3.1.cell 0).trans rfl⟩)
  have HW := Lib.hid hW
  have HST : (J W.drew ∧ Boxes W.drew w.heap.size (w.heap.size + 1) low gf cb ∧ Keeps no w W.drew) ∧ W.drew.cell? ⟨w.heap.size, 0, none⟩ = some (.int .i64 (low : Int)) :=
    ⟨⟨hJb _ _ hJW (Below.refl _ _).drew, hbx, hKW.trans (Keeps.of_below (Below.refl _ _).drew)⟩, cl⟩
  have s1 : IntKind.i64.wrap ((high : Int) - (low : Int)) = (high : Int) - (low : Int) := IntWalk.i64_in _ (by omega)
  have s2 : IntKind.i64.wrap ((low : Int) + ((q : Int) - (low : Int))) = (q : Int) := by rw [IntWalk.i64_in _ (by omega)]; omega
  have s3 : (low : Int) + ((q : Int) - (low : Int)) = (q : Int) := by omega
  have s4 : IntKind.i64.wrap (q : Int) = (q : Int) := IntWalk.i64_in _ (by omega)
  clear hs hW hb0 hbx hJW hKW hf hJ
  go_enter Tryz.func141, Tryz.ntmps141
  go_wp2
  rw [HW.out]
  go_region_held3 (fun w' => (J w' ∧ Boxes w' w.heap.size (w.heap.size + 1) low gf cb ∧ Keeps no w w') ∧ w'.cell? ⟨w.heap.size, 0, none⟩ = some (.int .i64 (low : Int))) (first | assumption) (first | (go_at_call 162; ((with_reducible refine Calls.mono (HS.out _ ?h1) ?_); (case h1 => assumption); rintro e w7 ⟨rfl, b5⟩)))
  all_goals
    go_wp2
    go_ret
    exact ⟨rfl, (‹(J _ ∧ _ ∧ _) ∧ _›).1.1, (‹(J _ ∧ _ ∧ _) ∧ _›).1.2.2⟩
end Go.Proofs.YtabkodpjhpjgnaaGreatDoor

namespace Go.Proofs.YtabkodpjhpjgnaaGreatDoor
open Go.RowKit Go.Shelf

theorem sg_leq (a b : Nat) : decide (sg (a : Int) (b : Int) ≤ 0) = decide (a ≤ b) := by
  rcases Nat.lt_trichotomy a b with h | h | h
  · rw [sg_lt (by omega), decide_eq_true (by omega), decide_eq_true (by omega)]
  · rw [sg_eq (by omega), decide_eq_true (by omega), decide_eq_true (by omega)]
  · rw [sg_gt (by omega), decide_eq_false (by omega), decide_eq_false (by omega)]
theorem hold2 {w W W' : World} {p q : Addr} {x y : Value} (h : Below w.heap.size w W ∧ W.cell? p = some x ∧ W.cell? q = some y) (hb : Below W.heap.size W W') (hp : p.block < w.heap.size) (hq : q.block < w.heap.size) :
    Below w.heap.size w W' ∧ W'.cell? p = some x ∧ W'.cell? q = some y :=
  ⟨below_to h.1 hb, (hb.cell (Nat.lt_of_lt_of_le hp h.1.size)).trans h.2.1, (hb.cell (Nat.lt_of_lt_of_le hq h.1.size)).trans h.2.2⟩

set_option maxRecDepth 100000 in
set_option maxHeartbeats 1000000 in
theorem over1_any (vd vr : Value) (d r g Bm Br : Nat) (w : World) (hd : Mag w vd d) (hr : Mag w vr r) (hm : Row w Bm 147 #[.func (.func 137) #[vd] #[]]) (hb : Row w Br 97 #[vr])
    (ld : (Im.grp d).length ≤ 300) (hg : g < 10000) :
    Calls Tryz.prog 142 #[.int .i64 (g : Int), .pointer (some ⟨Bm, 0, none⟩), .pointer (some ⟨Br, 0, none⟩)] w fun e w' => e = .returned (.bool (decide (d * g ≤ r))) ∧ Below w.heap.size w w' := by
  have H1 := Lib.hid (fun u (hu : Below w.heap.size w u) => timesGroup_any vd d g u (hd.next hu) (by omega) hg)
  have H2 := Lib.hid (fun u v (hv : Mag u v (d * g)) (hu : Below w.heap.size w u) => compare_any v vr (d * g) r u hv (hr.next hu))
  have c1 := hm.cell 0
  have c2 := hb.cell 0
  have l1 := hm.lt; have l2 := hb.lt
  simp only [List.getElem?_toArray, List.getElem?_cons_zero] at c1 c2
  have HE := Lib.hid (sg_leq (d * g) r)
  clear hd hr hm hb
  go_enter Tryz.func142, Tryz.ntmps142
  go_wp2
  go_region_held3 (fun w' => Below w.heap.size w w' ∧ w'.cell? ⟨Bm, 0, none⟩ = some (.func (.func 137) #[vd] #[]) ∧ w'.cell? ⟨Br, 0, none⟩ = some vr) (first | assumption | (exact ⟨Below.drew (Below.refl _ _), c1, c2⟩) | (exact hold2 (by assumption) b5 l1 l2)) (first | (go_at_call 137; ((with_reducible refine Calls.mono (H1.out _ ?h1) ?_); (case h1 => exact (‹Below w.heap.size w _ ∧ _ ∧ _›).1); unfold MagPost; rintro e w7 ⟨v1, rfl, hm1, b5⟩)) | (go_at_call 112; ((with_reducible refine Calls.mono (H2.out _ _ ?h1 ?h2) ?_); (case h1 => assumption); (case h2 => exact (‹Below w.heap.size w _ ∧ _ ∧ _›).1); rintro e w8 ⟨rfl, b5⟩)))
  all_goals
    go_wp2
    go_ret
    exact ⟨by rw [← HE.out]; rfl, (‹Below w.heap.size w _ ∧ _ ∧ _›).1⟩
end Go.Proofs.YtabkodpjhpjgnaaGreatDoor

namespace Go.Proofs.YtabkodpjhpjgnaaGreatDoor
open Go.RowKit Go.Shelf
attribute [local go_sem ↓] append_appN

def GrowPost (w : World) (e : Ending) (w' : World) : Prop := ∃ c, e = .returned (.slice (some ⟨w.heap.size, 0, none⟩) 0 c) ∧ w'.ownsRow w.heap.size 3 1 (.slice (some ⟨w.heap.size, 0, none⟩) 0 c) 0 (intCells []) ∧ Below w.heap.size w w'
set_option maxRecDepth 100000 in
set_option maxHeartbeats 1000000 in
theorem grow_any (n : Nat) (w : World) (h0 : 0 < n) (hn : n ≤ 2000) :
    Calls Tryz.prog 160 #[.slice none 0 0, .int .i64 (n : Int)] w (GrowPost w) := by
  obtain ⟨i0, hi0, hz0, hz1, hz2⟩ := info_parts Tryz.infoInt
  have hrun : Sem.run Tryz.prog (appN #[97, 3] 97 #[.slice none 0 0, .int .i64 (n : Int)]) w = .ok (.slice (some ⟨w.heap.size, 0, none⟩) n (grownCap w n 0 3)) _ :=
    Lib.run_append_nil_zeros (P := Tryz.prog) w 97 3 97 3 i0 (.int .i64 0) .i64 .i64 Tryz.underlying97 (by kernel_rfl) hi0 hz0 n h0 (by omega) (by omega) (by rw [hz2]; omega)
  have hge := grownCap_ge w n 0 3
  have hle := grownCap_le_maxLen w n 0 3 (by unfold maxLen; omega)
  obtain ⟨c, hc⟩ : ∃ c, grownCap w n 0 3 = c := ⟨_, rfl⟩
  rw [hc] at hrun hge hle
  obtain ⟨W, hW⟩ : ∃ W, w.drew.alloc (.cells (Builtin.zeroCells (Value.int .i64 0).cells n ++ Builtin.zeroCells (Value.int .i64 0).cells (c - n)) 3) = W := ⟨_, rfl⟩
  rw [hW] at hrun
  have hb : Below w.heap.size w W := by rw [← hW]; exact ((Below.refl _ w).drew).alloc (Nat.le_refl _) _
  have hown : W.ownsRow w.heap.size 3 1 (.slice (some ⟨w.heap.size, 0, none⟩) 0 c) 0 (intCells []) := by
    rw [← hW]
    refine ⟨rfl, .inr ⟨w.heap.size, c, _, rfl, Nat.le_refl _, heap_alloc_new w.drew _, Nat.zero_le _, hle, ?_, by simp [intCells]⟩⟩
    rw [Array.size_append, size_zeroCells, size_zeroCells]; simp [Value.cells]; omega
  unfold maxLen at hle
  have HB := Lib.hid hb; have HO := Lib.hid hown
  clear hc hW hb hown hi0 hz0 hz1 hz2
  go_enter Tryz.func160, Tryz.ntmps160
  go_wp2
  go_ret
  exact ⟨_, rfl, HO.out, HB.out⟩

set_option maxRecDepth 100000 in
set_option maxHeartbeats 1000000 in
theorem concat_any (G : Nat) (l1 l2 : List Int) (v1 v2 : Value) (w : World) (hrow : Row w G 97 #[v1, v2]) (h1 : Ints w w.heap.size v1 l1) (h2 : Ints w w.heap.size v2 l2) (n1 : 1 ≤ l1.length) (m1 : l1.length ≤ 500) (m2 : l2.length ≤ 500) :
    Calls Tryz.prog 139 #[.slice (some ⟨G, 0, none⟩) 2 2] w (OwnInts (l1 ++ l2) w) := by
  obtain ⟨i0, hi0, hz0, hz1, hz2⟩ := info_parts Tryz.infoInt
  obtain ⟨A1, k1, rfl, hk1, hk1'⟩ := ints_form h1
  obtain ⟨A2, k2, rfl, hk2, hk2'⟩ := ints_form h2
  have c1 := hrow.cell 0
  have c2 := hrow.cell 1
  have hG := hrow.lt
  simp only [List.getElem?_toArray, List.getElem?_cons_zero, List.getElem?_cons_succ] at c1 c2
  have hgw := grow_any (l1.length + l2.length) w (by omega) (by omega)
  have a1 := fun U v (hb : Below w.heap.size w U) (hd : U.ownsRow w.heap.size 3 1 v 0 (intCells [])) => app_ints (t := 97) Tryz.underlying97 hi0 hz0 hz1 hz2 hd (h1.below hb |>.more hb.size) (by omega) hb.size
  have a2 := fun U v (hb : Below w.heap.size w U) (hd : U.ownsRow w.heap.size 3 1 v l1.length (intCells l1)) => app_ints (t := 97) Tryz.underlying97 hi0 hz0 hz1 hz2 hd (h2.below hb |>.more hb.size) (by omega) hb.size
  simp only [List.nil_append, Nat.zero_add] at a1
  have HL : Hid ((l1 ++ l2).length = l1.length + l2.length) := Lib.hid (by simp)
  obtain ⟨N1, hN1⟩ : ∃ n, l1.length = n := ⟨_, rfl⟩
  obtain ⟨N2, hN2⟩ : ∃ n, l2.length = n := ⟨_, rfl⟩
  rw [hN1, hN2] at HL a2 hgw
  rw [hN1] at hk1 c1 a1 n1 m1; rw [hN2] at hk2 c2 m2
  rw [Int.natCast_add] at hgw
  have A1' := Lib.hid a1; have A2' := Lib.hid a2; have HG := Lib.hid hgw
  clear a1 a2 hgw hrow h1 h2 hi0 hz0 hz1 hz2 hN1 hN2
  go_enter Tryz.func139, Tryz.ntmps139
  go_wp2
  go_loopw [3, 5, 11] (fun s _ i wr => w = wr ∧ ((i = .int .i64 0 ∧ s = .int .i64 0) ∨ (i = .int .i64 1 ∧ s = .int .i64 (N1 : Int)) ∨ (i = .int .i64 2 ∧ s = .int .i64 ((N1 : Int) + (N2 : Int))))) (fun _ _ i _ => 2 - (intOf i).toNat)
  case atStart => exact ⟨rfl, .inl ⟨rfl, rfl⟩⟩
  case round =>
    obtain ⟨rfl, (⟨rfl, rfl⟩ | ⟨rfl, rfl⟩ | ⟨rfl, rfl⟩)⟩ := hrel
    · go_wp2
      go_roundw
      case rel => exact ⟨trivial, .inr (.inl ⟨rfl, by go_num⟩)⟩
      case measure => decide
    · have i1 : ¬ ((N1 : Int) + (N2 : Int) < 0) := by omega
      go_wp2
      go_roundw
      case rel => exact ⟨trivial, .inr (.inr ⟨rfl, by go_num⟩)⟩
      case measure => decide
    · go_wp2_with (go_at_call 160; refine HG.out.mono ?_; unfold GrowPost; rintro e w1 ⟨c, rfl, hown, hb⟩)
      have HO := Lib.hid hown; have HB := Lib.hid hb
      clear hown hb
      go_loopw [6, 8, 27] (fun s _ i wr => Hid (Below w.heap.size w wr) ∧ ((i = .int .i64 0 ∧ ∃ c, s = .slice (some ⟨w.heap.size, 0, none⟩) 0 c ∧ Hid (wr.ownsRow w.heap.size 3 1 s 0 (intCells []))) ∨ (i = .int .i64 1 ∧ Hid (wr.ownsRow w.heap.size 3 1 s N1 (intCells l1))) ∨ (i = .int .i64 2 ∧ Hid (wr.ownsRow w.heap.size 3 1 s (N1 + N2) (intCells (l1 ++ l2)))))) (fun _ _ i _ => 2 - (intOf i).toNat)
      case atStart => exact ⟨HB, .inl ⟨rfl, _, rfl, HO⟩⟩
      case round =>
        obtain ⟨HBW, (⟨rfl, c', rfl, HOW⟩ | ⟨rfl, HOW⟩ | ⟨rfl, HOW⟩)⟩ := hrel
        · have d1 := (HBW.out.cell (p := ⟨G, 0, none⟩) hG).trans c1
          obtain ⟨v', w', hrun, hown, hbe⟩ := A1'.out wr _ HBW.out HOW.out
          obtain ⟨A', c'', rfl⟩ := own_slice hown
          have HO2 := Lib.hid hown; have HB2 := Lib.hid hbe
          clear hown hbe
          go_wp2
          go_roundw
          case rel => exact ⟨Lib.hid (HBW.out.trans HB2.out), .inr (.inl ⟨rfl, HO2⟩)⟩
          case measure => decide
        · have d1 := (HBW.out.cell (p := ⟨G, 1, none⟩) hG).trans c2
          obtain ⟨v', w', hrun, hown, hbe⟩ := A2'.out wr _ HBW.out HOW.out
          obtain ⟨A', c'', rfl⟩ := own_slice hown
          obtain ⟨A0, c0, rfl⟩ := own_slice HOW.out
          have HO2 := Lib.hid hown; have HB2 := Lib.hid hbe
          clear hown hbe
          go_wp2
          go_roundw
          case rel => exact ⟨Lib.hid (HBW.out.trans HB2.out), .inr (.inr ⟨rfl, HO2⟩)⟩
          case measure => decide
        · obtain ⟨A0, c0, rfl⟩ := own_slice HOW.out
          go_wp2
          go_ret
          exact ⟨_, rfl, by rw [HL.out]; exact HOW.out, HBW.out⟩
end Go.Proofs.YtabkodpjhpjgnaaGreatDoor

namespace Go.Proofs.YtabkodpjhpjgnaaGreatDoor
open Go

theorem upon_round {l n : Nat} {P : Program} {o : Oper} {a : Act} {next next' : Act → World → Prop} {Q : Exit → Act → World → Prop} {r : Result Next} (hn : ∀ a w, next a w → next' a w) (h : o.upon P a next Q r) : o.uponIn (Fence.wide.inRound l) n P a next' Q r := by
  cases r with
  | ok x w =>
    cases x with
    | value v => exact hn _ _ h
    | skip => exact hn _ _ h
    | defer d => exact hn _ _ h
    | enter f args =>
      refine ⟨(fun e => by cases e), CallsIn.inRound l (callsIn_wide.2 (Calls.mono h ?_))⟩
      intro e w' h'
      cases e with
      | returned v => exact hn _ _ h'
      | panicked c => exact h'
      | outgrown => exact h'
    | row r args =>
      refine ⟨(fun e => by cases e), fun c cs _ => ?_⟩
      obtain ⟨v, w', h1, h2⟩ := h c cs
      exact ⟨v, w', hn _ _ h1, stepsIn_wide.2 h2⟩
    | _ => exact False.elim h
  | halt x w =>
    cases x with
    | panic v => exact h
    | _ => exact False.elim h
def noDefer (ops : Array Oper) : Bool := ops.all fun o => match o.op with
  | .defer _ => false
  | _ => true
theorem noDefer_spec {ops : Array Oper} (h : noDefer ops = true) (i : Nat) (o : Oper) (ho : ops[i]? = some o) : ∀ c, o.op ≠ .defer c := by
  intro c e
  obtain ⟨hi, rfl⟩ := Array.getElem?_eq_some_iff.1 ho
  have := Array.all_eq_true.1 h i hi
  rw [e] at this
  cases this
theorem ops_round {l n : Nat} {P : Program} {ops : Array Oper} {Q : Exit → Act → World → Prop} (hd : noDefer ops = true) (hQ : ¬ LetsOut Q) : ∀ (order : List Nat) (a : Act) (w : World), wpOps P ops Q order a w → wpOpsIn (Fence.wide.inRound l) n P ops Q order a w
  | [], _, _, h => h
  | i :: rest, a, w, h => by
    unfold wpOps at h
    unfold wpOpsIn
    cases ho : ops[i]? with
    | none => rw [ho] at h; exact ops_round hd hQ rest a w h
    | some o =>
      rw [ho] at h
      dsimp only at h ⊢
      split
      · rename_i hw
        rw [if_pos hw] at h
        rcases h with h | ⟨_, h⟩
        · refine ⟨fun _ _ => trivial, ?_⟩
          rw [Oper.semAt_eq _ _ _ (noDefer_spec hd i o ho)]
          exact upon_round (ops_round hd hQ rest) h
        · exact absurd h hQ
      · rename_i hw
        rw [if_neg hw] at h
        exact ⟨fun _ _ => trivial, ops_round hd hQ rest _ w h⟩
theorem region_round {l n id : Nat} {P : Program} {ops : Array Oper} {S : World → Prop} {Q : Exit → Act → World → Prop} {a : Act} {w : World} (hm : P.follows .mixedOrders = true) (hd : noDefer ops = true) (hQ : ¬ LetsOut Q) (hS : S w.drew)
    (h : S w.drew → wpAnyH P .any ops Q S ops.size (Array.replicate ops.size false) a w.drew) : (Code.region id ops true).wpIn (Fence.wide.inRound l) n P Q a w :=
  wpIn_region_draw fun t => by
    simp only [Region.schedule, hm, Bool.true_or, if_true]
    exact ops_round hd hQ _ _ _ (wpAny_sound ops.size t _ a _ (wpAny_of_held _ _ _ _ (h hS)))
end Go.Proofs.YtabkodpjhpjgnaaGreatDoor

namespace Go.Proofs.YtabkodpjhpjgnaaGreatDoor
open Go.RowKit Go.Shelf
attribute [local go_sem] Oper.semAt_some

theorem ints_putLoop {X : World} {B r : Nat} {v : Value} {l : List Int} {L : Loop} (o : Obj) (h : Ints X B v l) (hr : X.heap[r]? = some (.loop L)) : Ints (X.putObj r o) B v l := by
  obtain ⟨A, c, h1, h2, h3, h4⟩ := h
  refine ⟨A, c, h1, h2, h3, ?_⟩
  rcases h4 with h4 | ⟨g, off, h4, h5, h6⟩
  · exact .inl h4
  · refine .inr ⟨g, off, h4, h5, fun j x hj => ?_⟩
    have h7 := h6 j x hj
    by_cases e : g = r
    · subst e
      simp [World.cell?, hr] at h7
    · rw [← h7]; exact World.cell?_of_block (World.putObj_heap_other e)
theorem ints_putDef {X : World} {B r : Nat} {v : Value} {l : List Int} {L : Option (List Deferred)} (o : Obj) (h : Ints X B v l) (hr : X.heap[r]? = some (.deferred L)) : Ints (X.putObj r o) B v l := by
  obtain ⟨A, c, h1, h2, h3, h4⟩ := h
  refine ⟨A, c, h1, h2, h3, ?_⟩
  rcases h4 with h4 | ⟨g, off, h4, h5, h6⟩
  · exact .inl h4
  · refine .inr ⟨g, off, h4, h5, fun j x hj => ?_⟩
    have h7 := h6 j x hj
    by_cases e : g = r
    · subst e
      simp [World.cell?, hr] at h7
    · rw [← h7]; exact World.cell?_of_block (World.putObj_heap_other e)
theorem ints_heap {X Y : World} {B : Nat} {v : Value} {l : List Int} (h : Ints X B v l) (hh : Y.heap = X.heap) : Ints Y B v l := h.keep fun p _ => World.cell?_of_block (w := X) (by rw [hh])
def OverPost (q r : Nat) (w : World) (e : Ending) (w' : World) : Prop := ∃ vq vr, e = .returned (.tuple #[vq, vr]) ∧ Mag w' vq q ∧ Mag w' vr r ∧ Below w.heap.size w w'

theorem Arr.same {X Y : World} {g : Nat} {l : List Int} (h : Arr X g l) (hs : X.heap.size ≤ Y.heap.size) (hb : Y.heap[g]? = X.heap[g]?) : Arr Y g l :=
  ⟨by have := h.lt; omega, fun j hj => (World.cell?_of_block (w := X) (a := ⟨g, j, none⟩) hb).trans (h.cell j hj), fun j => (World.frozen?_of_block (w := X) (a := ⟨g, j, none⟩) hb).trans (h.free j)⟩
theorem ints_setRest {X : World} {B g : Nat} {v u z : Value} {l : List Int} {t : TypeId} (h : Ints X B v l) (hr : Row X g t #[u]) (hu : ∀ n : Int, u ≠ .int .i64 n) : Ints (X.setCell ⟨g, 0, none⟩ z) B v l := by
  obtain ⟨A, c, h1, h2, h3, h4⟩ := h
  refine ⟨A, c, h1, h2, h3, ?_⟩
  rcases h4 with h4 | ⟨g', off, h4, h5, h6⟩
  · exact .inl h4
  · refine .inr ⟨g', off, h4, h5, fun j x hj => ?_⟩
    have h7 := h6 j x hj
    by_cases e : g' = g
    · subst e
      rw [hr.cell] at h7
      cases hk : off + j with
      | zero => rw [hk] at h7; simp at h7; exact absurd h7 (hu _)
      | succ n => rw [hk] at h7; simp at h7
    · rw [← h7]; exact World.cell?_of_block (Below.heap_setCell X ⟨g, 0, none⟩ z g' (by simpa using e))

/-- What holds while over goes through the groups of the dividend. -/
structure OverI (w : World) (vd : Value) (a d b k : Nat) (W : World) : Prop where
  rd : Row W w.heap.size 97 #[vd]
  rq : Row W (w.heap.size + 1 + 1) 40 #[.slice (some ⟨w.heap.size + 1, 0, none⟩) b b]
  rm : Row W (w.heap.size + 1 + 1 + 1 + 1) 147 #[.func (.func 137) #[vd] #[]]
  rr : ∃ vr, Row W (w.heap.size + 1 + 1 + 1) 97 #[vr] ∧ Mag W vr (a / 10000 ^ (b - k) % d)
  qq : ∃ Q, Arr W (w.heap.size + 1) Q ∧ Q.length = b ∧ Im.Gs Q ∧ Im.val (Q.drop (b - k)) = ((a / 10000 ^ (b - k) / d : Nat) : Int)
  bw : Below w.heap.size w W
theorem OverI.below {w X Y : World} {vd : Value} {a d b k : Nat} (h : OverI w vd a d b k X) (hb : Below X.heap.size X Y) : OverI w vd a d b k Y := by
  obtain ⟨vr, h1, h2⟩ := h.rr
  obtain ⟨Q, h3, h4⟩ := h.qq
  exact ⟨h.rd.below hb h.rd.lt, h.rq.below hb h.rq.lt, h.rm.below hb h.rm.lt, ⟨vr, h1.below hb h1.lt, h2.next hb⟩, ⟨Q, h3.below hb h3.lt, h4⟩, h.bw.trans (hb.mono h.bw.size)⟩
theorem OverI.putLoop {w X : World} {vd : Value} {a d b k r : Nat} {L : Loop} {o : Obj} (h : OverI w vd a d b k X) (hr : X.heap[r]? = some (.loop L)) (h7 : w.heap.size + 6 ≤ r) : OverI w vd a d b k (X.putObj r o) := by
  obtain ⟨vr, h1, h2⟩ := h.rr
  obtain ⟨Q, h3, h4⟩ := h.qq
  refine ⟨(World.putObj_heap_other (by omega)).trans h.rd, (World.putObj_heap_other (by omega)).trans h.rq, (World.putObj_heap_other (by omega)).trans h.rm, ⟨vr, (World.putObj_heap_other (by omega)).trans h1, ?_⟩, ⟨Q, h3.same (by simp) (World.putObj_heap_other (by omega)), h4⟩,
    h.bw.trans ⟨rfl, rfl, rfl, by simp, fun j hj => World.putObj_heap_other (by omega)⟩⟩
  exact (ints_putLoop o h2 hr).more (by simp)
/-- What holds in the middle of a round. -/
structure OverJ (w W0 : World) (vd v3 : Value) (r b : Nat) (Q : List Int) (W : World) : Prop where
  rd : Row W w.heap.size 97 #[vd]
  rq : Row W (w.heap.size + 1 + 1) 40 #[.slice (some ⟨w.heap.size + 1, 0, none⟩) b b]
  rm : Row W (w.heap.size + 1 + 1 + 1 + 1) 147 #[.func (.func 137) #[vd] #[]]
  rr : Row W (w.heap.size + 1 + 1 + 1) 97 #[v3]
  mr : Mag W v3 r
  arr : Arr W (w.heap.size + 1) Q
  bw : Below w.heap.size w W
  kp : Keeps (fun j => j = w.heap.size + 1 ∨ j = w.heap.size + 1 + 1 + 1) W0 W
theorem OverJ.below {w W0 X Y : World} {vd v3 : Value} {r b : Nat} {Q : List Int} (h : OverJ w W0 vd v3 r b Q X) (hb : Below X.heap.size X Y) : OverJ w W0 vd v3 r b Q Y :=
  ⟨h.rd.below hb h.rd.lt, h.rq.below hb h.rq.lt, h.rm.below hb h.rm.lt, h.rr.below hb h.rr.lt, h.mr.next hb, h.arr.below hb h.arr.lt, h.bw.trans (hb.mono h.bw.size), h.kp.trans (Keeps.of_below hb)⟩
theorem over_fits {w W0 : World} {vd v3 : Value} {d r b lo hi : Nat} {Q : List Int} (hd : Mag w vd d) (ld : (Im.grp d).length ≤ 250) (hd0 : d ≠ 0) (hh : hi ≤ 9999) :
    Fits 142 #[.pointer (some ⟨w.heap.size + 1 + 1 + 1 + 1, 0, none⟩), .pointer (some ⟨w.heap.size + 1 + 1 + 1, 0, none⟩)] lo hi (r / d) (fun _ => False) (OverJ w W0 vd v3 r b Q) := by
  intro g W h1 h2 hJ
  refine (over1_any vd v3 d r g _ _ W (hd.next hJ.bw) hJ.mr hJ.rm hJ.rr (by omega) (by omega)).mono ?_
  rintro e w' ⟨rfl, hb⟩
  refine ⟨?_, hJ.below hb, Keeps.of_below hb⟩
  have : (d * g ≤ r) ↔ (g ≤ r / d) := by rw [Nat.le_div_iff_mul_le (by omega), Nat.mul_comm]
  rw [decide_eq_decide.2 this]
theorem drop_set_step (Q : List Int) (i b : Nat) (q x r : Nat) (hl : Q.length = b) (hi : i < b) (hv : Im.val (Q.drop (i + 1)) = (x : Int)) (hr : r = x * 10000 + q) : Im.val ((Q.set i (q : Int)).drop i) = (r : Int) := by
  rw [Im.val_top Q i q (by omega), hv]; omega

theorem over_J {w W w2 : World} {vd v3 vr : Value} {a d b k r : Nat} {Q : List Int} (hI : OverI w vd a d b k W) (hbb : Below W.heap.size W w2) (hr : Row W (w.heap.size + 1 + 1 + 1) 97 #[vr]) (hvr : ∀ n : Int, vr ≠ .int .i64 n) (harr : Arr W (w.heap.size + 1) Q) (hm : Mag w2 v3 r) :
    OverJ w W vd v3 r b Q (w2.setCell ⟨w.heap.size + 1 + 1 + 1, 0, none⟩ v3) := by
  have g8 := hr.below hbb hr.lt
  exact ⟨(hI.rd.below hbb hI.rd.lt).far (by dsimp only; omega) _, (hI.rq.below hbb hI.rq.lt).far (by dsimp only; omega) _, (hI.rm.below hbb hI.rm.lt).far (by dsimp only; omega) _, g8.put 0 _, (ints_setRest hm g8 hvr).more (by simp [World.setCell]),
    (harr.below hbb harr.lt).same (by simp [World.setCell]) (Below.heap_setCell _ _ _ _ (by dsimp only; omega)), (hI.bw.trans (hbb.mono hI.bw.size)).setCell (by dsimp only; omega) _, (Keeps.of_below hbb).trans (Keeps.setCell (.inr rfl) _)⟩

theorem ints_setOther {X : World} {B k j : Nat} {v z : Value} {l : List Int} (h : Ints X B v l) (hk : ∀ g, v.ownBlock = some g → g ≠ k) : Ints (X.setCell ⟨k, j, none⟩ z) B v l := by
  obtain ⟨A, c, h1, h2, h3, h4⟩ := h
  refine ⟨A, c, h1, h2, h3, ?_⟩
  rcases h4 with h4 | ⟨g, off, h4, h5, h6⟩
  · exact .inl h4
  · refine .inr ⟨g, off, h4, h5, fun j' x hj => ?_⟩
    have hg : g ≠ k := hk g (by rw [h1, h4]; rfl)
    rw [← h6 j' x hj]; exact World.cell?_of_block (Below.heap_setCell X ⟨k, j, none⟩ z g (by simpa using hg))
theorem own_same {A : Option Addr} {n c n' c' g : Nat} (h : (Value.slice A n c).ownBlock = some g) : (Value.slice A n' c').ownBlock = some g := by cases A <;> exact h
theorem over_J2 {w W u : World} {vd v3 : Value} {b r i : Nat} {Q : List Int} {q : Int} (h : OverJ w W vd v3 r b Q u) (hv : ∀ g, v3.ownBlock = some g → g ≠ w.heap.size + 1) (hi : i < Q.length) :
    OverJ w W vd v3 r b (Q.set i q) (u.setCell ⟨w.heap.size + 1, i, none⟩ (.int .i64 q)) :=
  ⟨h.rd.far (by dsimp only; omega) _, h.rq.far (by dsimp only; omega) _, h.rm.far (by dsimp only; omega) _, h.rr.far (by dsimp only; omega) _, (ints_setOther h.mr hv).more (by simp [World.setCell]), h.arr.put i hi q, h.bw.setCell (by dsimp only; omega) _, h.kp.trans (Keeps.setCell (.inl rfl) _)⟩
theorem over_I {w W u : World} {vd v3 v4 : Value} {a d b k r : Nat} {Q : List Int} (h : OverJ w W vd v3 r b Q u) (hm : Mag u v4 (a / 10000 ^ (b - (k + 1)) % d)) (hv : ∀ n : Int, v3 ≠ .int .i64 n) (hq : Q.length = b ∧ Im.Gs Q ∧ Im.val (Q.drop (b - (k + 1))) = ((a / 10000 ^ (b - (k + 1)) / d : Nat) : Int)) :
    Keeps (fun j => j = w.heap.size + 1 ∨ j = w.heap.size + 1 + 1 + 1) W (u.setCell ⟨w.heap.size + 1 + 1 + 1, 0, none⟩ v4) ∧ OverI w vd a d b (k + 1) (u.setCell ⟨w.heap.size + 1 + 1 + 1, 0, none⟩ v4) :=
  ⟨h.kp.trans (Keeps.setCell (.inr rfl) _), h.rd.far (by dsimp only; omega) _, h.rq.far (by dsimp only; omega) _, h.rm.far (by dsimp only; omega) _, ⟨v4, h.rr.put 0 _, (ints_setRest hm h.rr hv).more (by simp [World.setCell])⟩,
    ⟨Q, h.arr.same (by simp [World.setCell]) (Below.heap_setCell _ _ _ _ (by dsimp only; omega)), hq⟩, h.bw.setCell (by dsimp only; omega) _⟩

theorem over_S {w W u : World} {D : Option Addr} {M cd b r i : Nat} {v3 : Value} {Q : List Int} {q : Int} (h : OverJ w W (.slice D M cd) v3 r b Q u) (hi : i < Q.length) (hq : Q.getD i 0 = q) : u.cell? ⟨w.heap.size + 1 + 1, 0, none⟩ = some (.slice (some ⟨w.heap.size + 1, 0, none⟩) b b) ∧ u.cell? ⟨w.heap.size + 1 + 1 + 1 + 1, 0, none⟩ = some (.func (.func 137) #[.slice D M cd] #[]) ∧ u.cell? ⟨w.heap.size + 1, i, none⟩ = some (.int .i64 q) :=
  ⟨(h.rq.cell 0).trans rfl, (h.rm.cell 0).trans rfl, hq ▸ h.arr.cell i hi⟩
theorem over_S2 {w W u : World} {D : Option Addr} {M cd b r i : Nat} {v3 v4 : Value} {Q : List Int} {q : Int} (h : OverJ w W (.slice D M cd) v3 r b Q u) (hi : i < Q.length) (hq : Q.getD i 0 = q) : (u.setCell ⟨w.heap.size + 1 + 1 + 1, 0, none⟩ v4).cell? ⟨w.heap.size + 1 + 1, 0, none⟩ = some (.slice (some ⟨w.heap.size + 1, 0, none⟩) b b) ∧ (u.setCell ⟨w.heap.size + 1 + 1 + 1, 0, none⟩ v4).cell? ⟨w.heap.size + 1 + 1 + 1 + 1, 0, none⟩ = some (.func (.func 137) #[.slice D M cd] #[]) ∧ (u.setCell ⟨w.heap.size + 1 + 1 + 1, 0, none⟩ v4).cell? ⟨w.heap.size + 1, i, none⟩ = some (.int .i64 q) := by
  have hs := over_S h hi hq
  exact ⟨(World.cell?_setCell_other _ _ _ _ (by intro e; injection e; omega)).trans hs.1, (World.cell?_setCell_other _ _ _ _ (by intro e; injection e; omega)).trans hs.2.1, (World.cell?_setCell_other _ _ _ _ (by intro e; injection e; omega)).trans hs.2.2⟩

set_option maxRecDepth 100000 in
set_option maxHeartbeats 4000000 in
theorem over_any (va vd : Value) (a d : Nat) (w : World) (ha : Mag w va a) (hd : Mag w vd d) (hd0 : d ≠ 0) (la : (Im.grp a).length ≤ 250) (ld : (Im.grp d).length ≤ 250) :
    Calls Tryz.prog 117 #[va, vd] w (OverPost (a / d) (a % d) w) := by
  have hlen0 : (Im.grp d).length ≠ 0 := fun e => hd0 ((Im.grp_len0 d).1 e)
  obtain ⟨A, c, rfl, hca1, hca2⟩ := ints_form ha
  obtain ⟨D, cd, rfl, hcd1, hcd2⟩ := ints_form hd
  obtain ⟨N, hN⟩ : ∃ n, (Im.grp a).length = n := ⟨_, rfl⟩
  obtain ⟨M, hM⟩ : ∃ n, (Im.grp d).length = n := ⟨_, rfl⟩
  obtain ⟨b, hb⟩ : ∃ b, N + 1 - M = b := ⟨_, rfl⟩
  have hsm : a / 10000 ^ b < d := Im.grp_few a d b hd0 (by rw [hM] at hlen0; omega)
  have hrest := ints_from ha b (by rw [hM] at hlen0; omega)
  rw [Im.grp_drop] at hrest
  have hpre := ints_pre ha b (by rw [hM] at hlen0; omega)
  have hqd : ∀ k, k < b → ((Im.grp a).take b).getD k 0 = ((a / 10000 ^ k % 10000 : Nat) : Int) := fun k hk => by
    rw [← Im.grp_getD, List.getD_eq_getElem?_getD, List.getElem?_take_of_lt hk, List.getD_eq_getElem?_getD]
  have hlb : ((Im.grp a).take b).length = b := by rw [List.length_take]; rw [hM] at hlen0; omega
  rw [hN] at hca1 la hrest ⊢; rw [hM] at hd hcd1 ld hlen0 ⊢
  have hbN : b ≤ N := by omega
  have hsl := fun w => slice_from 97 Tryz.underlying97 w A N c b hbN
  have hmk : ∀ w, (Instr.makeSlice 40 (.int .i64 (b : Int)) (.int .i64 (b : Int))).run Tryz.prog w = .ok (.slice (some ⟨w.heap.size, 0, none⟩) b b) (w.alloc (.cells (intRow (List.replicate b 0)) 3)) := fun w => mk_int b b w (Nat.le_refl _) (by omega)
  have hmx := fun (w : World) => run_max2 (P := Tryz.prog) (w := w) #[3, 3] 3 .i64 .i64 0 ((N : Int) - (M : Int) + 1) b (by omega)
  have hbc : (b : Int) ≤ (c : Int) := by omega
  have hb0 : (0 : Int) ≤ (b : Int) := by omega
  obtain ⟨l, hl⟩ : ∃ l, (Im.grp a).take b = l := ⟨_, rfl⟩
  rw [hl] at hqd hlb hpre
  obtain ⟨A2, hA2⟩ : ∃ A2, slA A c b = A2 := ⟨_, rfl⟩
  rw [hA2] at hsl hrest
  have HQD := Lib.hid hqd; have HLB := Lib.hid hlb; have HPRE := Lib.hid hpre; have HREST := Lib.hid hrest; have HSM := Lib.hid hsm; have HD := Lib.hid hd; have HM := Lib.hid hM
  clear ha hd hl hA2 hN hM hqd hlb hpre hrest hsm
  refine (callsIn_wide (n := 3)).1 ?_
  refine callsIn_of_wp_marks Tryz.func117 rfl trivial ?_ rfl
  simp only [Tryz.ntmps117, List.size_toArray, List.length_cons, List.length_nil, Nat.reduceAdd, Nat.reduceSub, Array.replicate_succ, Array.replicate_zero, List.push_toArray, List.append_toArray, List.nil_append, List.cons_append]
  gi_wp2_with (refine ⟨trivial, ?_⟩; gi_at_call 134; refine (back_in _ _ _ _ _).mono ?_; rintro e w' ⟨rfl, rfl⟩)
  clear hmk hmx hsl
  obtain ⟨W0, hW0⟩ : ∃ W0, (((((w.alloc (.cells #[.slice D M cd] 97)).alloc (.cells (intRow (List.replicate b 0)) 3)).alloc (.cells #[.slice (some ⟨w.heap.size + 1, 0, none⟩) b b] 40)).alloc (.cells #[.slice A2 (N - b) (c - b)] 97)).alloc (.cells #[.func (.func 137) #[.slice D M cd] #[]] 147)).alloc (.cells #[.slice A b c] 97) = W0 := ⟨_, rfl⟩
  have hb0' : Below w.heap.size w W0 := by rw [← hW0]; exact ((((((Below.refl _ w).alloc (Nat.le_refl _) _).alloc (by simp) _).alloc (by simp; omega) _).alloc (by simp; omega) _).alloc (by simp; omega) _).alloc (by simp; omega) _
  have hs0 : W0.heap.size = w.heap.size + 6 := by rw [← hW0]; simp
  have r0 : OverI w (.slice D M cd) a d b 0 W0 := by
    refine ⟨?_, ?_, ?_, ⟨.slice A2 (N - b) (c - b), ?_, ?_⟩, ⟨List.replicate b 0, Arr.of_row ?_, by simp, Im.gs_zeros b, ?_⟩, hb0'⟩
    · rw [← hW0]; exact ((((((Row.new w _ _).alloc _).alloc _).alloc _).alloc _).alloc _)
    · rw [← hW0]
      have := ((((Row.new ((w.alloc (.cells #[.slice D M cd] 97)).alloc (.cells (intRow (List.replicate b 0)) 3)) 40 #[.slice (some ⟨w.heap.size + 1, 0, none⟩) b b]).alloc (.cells #[.slice A2 (N - b) (c - b)] 97)).alloc (.cells #[.func (.func 137) #[.slice D M cd] #[]] 147)).alloc (.cells #[.slice A b c] 97))
      rw [World.size_alloc, World.size_alloc] at this; exact this
    · rw [← hW0]
      have := ((Row.new ((((w.alloc (.cells #[.slice D M cd] 97)).alloc (.cells (intRow (List.replicate b 0)) 3)).alloc (.cells #[.slice (some ⟨w.heap.size + 1, 0, none⟩) b b] 40)).alloc (.cells #[.slice A2 (N - b) (c - b)] 97)) 147 #[.func (.func 137) #[.slice D M cd] #[]]).alloc (.cells #[.slice A b c] 97))
      rw [World.size_alloc, World.size_alloc, World.size_alloc, World.size_alloc] at this; exact this
    · rw [← hW0]
      have := (((Row.new (((w.alloc (.cells #[.slice D M cd] 97)).alloc (.cells (intRow (List.replicate b 0)) 3)).alloc (.cells #[.slice (some ⟨w.heap.size + 1, 0, none⟩) b b] 40)) 97 #[.slice A2 (N - b) (c - b)]).alloc (.cells #[.func (.func 137) #[.slice D M cd] #[]] 147)).alloc (.cells #[.slice A b c] 97))
      rw [World.size_alloc, World.size_alloc, World.size_alloc] at this; exact this
    · rw [Nat.sub_zero, Nat.mod_eq_of_lt HSM.out]; exact HREST.out.next hb0'
    · rw [← hW0]
      have := (((((Row.new (w.alloc (.cells #[.slice D M cd] 97)) 3 (intRow (List.replicate b 0))).alloc (.cells #[.slice (some ⟨w.heap.size + 1, 0, none⟩) b b] 40)).alloc (.cells #[.slice A2 (N - b) (c - b)] 97)).alloc (.cells #[.func (.func 137) #[.slice D M cd] #[]] 147)).alloc (.cells #[.slice A b c] 97))
      rw [World.size_alloc] at this; exact this
    · rw [Nat.sub_zero, Nat.div_eq_of_lt HSM.out, List.drop_eq_nil_of_le (by simp)]; rfl
  have rb0 : Row W0 (w.heap.size + 1 + 1 + 1 + 1 + 1) 97 #[.slice A b c] := by
    rw [← hW0]
    have := Row.new (((((w.alloc (.cells #[.slice D M cd] 97)).alloc (.cells (intRow (List.replicate b 0)) 3)).alloc (.cells #[.slice (some ⟨w.heap.size + 1, 0, none⟩) b b] 40)).alloc (.cells #[.slice A2 (N - b) (c - b)] 97)).alloc (.cells #[.func (.func 137) #[.slice D M cd] #[]] 147)) 97 #[.slice A b c]
    rw [World.size_alloc, World.size_alloc, World.size_alloc, World.size_alloc, World.size_alloc] at this; exact this
  rw [hW0]
  clear hW0
  have hgv : GivesN Fence.wide (3 - 1) Tryz.prog 159 #[.pointer (some ⟨w.heap.size + 1 + 1 + 1 + 1 + 1, 0, none⟩)] (encB l) (fun X j => (j = w.heap.size + 1 ∨ j = w.heap.size + 1 + 1 + 1) ∨ j = W0.heap.size ∨ j = W0.heap.size + 1) (fixB (w.heap.size + 1 + 1 + 1 + 1 + 1) A) l.length W0 :=
    back_gives (3 - 1) (w.heap.size + 1 + 1 + 1 + 1 + 1) c A l _ W0 (by rw [HLB.out]; exact rb0) (by rw [HLB.out]; exact HPRE.out.next hb0')
  have hAf : ∀ j, fixB (w.heap.size + 1 + 1 + 1 + 1 + 1) A j → j < W0.heap.size ∧ j ≠ w.heap.size + 1 ∧ j ≠ w.heap.size + 1 + 1 + 1 := by
    rintro j (rfl | ⟨off, rfl⟩)
    · omega
    · obtain ⟨A', c', h1, _, _, h4⟩ := HPRE.out
      injection h1 with e1 e2 e3
      subst e1
      rcases h4 with ⟨h4, _⟩ | ⟨g, o, h4, h5, _⟩
      · cases h4
      · injection h4 with h4
        injection h4 with h6 h7
        subst h6; omega
  have HAF := Lib.hid hAf
  clear hAf
  have HR0 := Lib.hid r0; have HB0 := Lib.hid hb0'
  clear r0 hb0' rb0 HPRE HREST HSM
  rw [HLB.out] at hgv
  refine rangeFunc_n (F := Fence.wide) rfl (by decide) (gf := 159) (lb := #[.pointer (some ⟨w.heap.size + 1 + 1 + 1 + 1 + 1, 0, none⟩)]) rfl trivial (enters_of Tryz.func159 (by kernel_rfl) rfl)
    (no := fun _ j => j = w.heap.size + 1 ∨ j = w.heap.size + 1 + 1 + 1) hgv
    (fun _ => rfl) (fun j h => (HAF.out j h).1)
    (OverI w (.slice D M cd) a d b)
    (fun k X Y j h hb hj => ⟨hj, by have := h.rm.lt; omega, fun e => by have := HAF.out _ e; omega, by omega, by omega⟩)
    (fun _ _ _ _ _ h => h)
    (fun _ _ _ => False) (fun _ _ _ _ _ _ _ h => h)
    (fun k X Y h hb => h.below hb)
    (fun k X r o hr hL h => by obtain ⟨L, hL⟩ := hL; exact h.putLoop hL (by omega))
    HR0.out
    (fun k a' _ => a' = { tmps := #[.slice A N c, .slice D M cd, undef, .pointer (some ⟨w.heap.size, 0, none⟩), .slice none 0 0, .slice none 0 0, .int .i64 (b : Int), .pointer (some ⟨w.heap.size + 1 + 1, 0, none⟩), .pointer (some ⟨w.heap.size + 1 + 1 + 1, 0, none⟩), .pointer (some ⟨w.heap.size + 1 + 1 + 1 + 1, 0, none⟩),
      .int .i64 ((l.length : Int) - 1 - (k : Int)), .int .i64 (l.getD (l.length - 1 - k) 0), undef, undef, .slice A N c, .int .i64 (N : Int), .slice D M cd, .int .i64 (M : Int), .int .i64 ((N : Int) - (M : Int)), .int .i64 ((N : Int) - (M : Int) + 1), .int .i64 (b : Int), .int .i64 (b : Int), .slice (some ⟨w.heap.size + 1, 0, none⟩) b b, .slice A N c, .int .i64 (b : Int), .slice A2 (N - b) (c - b), .slice D M cd,
      .func (.func 137) #[.slice D M cd] #[], .slice A N c, .int .i64 (b : Int), .slice A b c, .func (.func 159) #[] #[.pointer (some ⟨w.heap.size + 1 + 1 + 1 + 1 + 1, 0, none⟩)],
      .int .i64 ((l.length : Int) - 1 - (k : Int)), .int .i64 (l.getD (l.length - 1 - k) 0), undef, undef, undef, undef, undef, undef, undef, undef, undef, undef, undef, undef, undef, undef, undef, undef, undef, undef, undef, undef, undef, undef, undef, undef, undef, undef, undef, undef, undef, undef], defers := [] })
    (fun _ _ _ _ _ _ _ h => h) ?assign ?body ?done ?stop
  case stop =>
    intro D c k W _ _ h _
    exact h.elim
  case assign =>
    intro y k W K hkn hsz hI hK
    unfold encB
    have HK := Lib.hid hK
    clear hK
    gi_wp2
    exact HK.out _ _ (Below.refl _ _) rfl
  case body =>
    rintro y k a' W hkn hsz hI rfl
    obtain ⟨vr, hrr, hmr⟩ := hI.rr
    obtain ⟨Q, harr, hQl, hQg, hQv⟩ := hI.qq
    have hxl := HQD.out (b - 1 - k) (by omega)
    rw [HLB.out, hxl]
    obtain ⟨i, hi⟩ : ∃ i, b - 1 - k = i := ⟨_, rfl⟩
    rw [show b - k = i + 1 by omega] at hmr hQv
    rw [hi]
    have hsh := Im.div_shift a i
    have hxb : a / 10000 ^ i % 10000 < 10000 := Nat.mod_lt _ (by decide)
    obtain ⟨x, hx⟩ : ∃ x, a / 10000 ^ i % 10000 = x := ⟨_, rfl⟩
    obtain ⟨p, hp⟩ : ∃ p, a / 10000 ^ (i + 1) = p := ⟨_, rfl⟩
    obtain ⟨n, hn⟩ : ∃ n, a / 10000 ^ i = n := ⟨_, rfl⟩
    rw [hx] at hxb ⊢
    rw [hn, hp, ← hn, hx] at hsh
    rw [hn] at hsh
    rw [hp] at hmr hQv
    have hds := Im.div_step p d x (by omega)
    have hdg := Im.div_digit (p % d) d x (Nat.mod_lt _ (by omega)) hxb
    rw [← hsh] at hds
    obtain ⟨r, hr⟩ : ∃ r, p % d = r := ⟨_, rfl⟩
    have hrd : r < d := by rw [← hr]; exact Nat.mod_lt _ (by omega)
    rw [hr] at hmr hds hdg
    obtain ⟨Ar, cr, rfl, hcr1, hcr2⟩ := ints_form hmr
    obtain ⟨nr, hnr⟩ : ∃ n, (Im.grp r).length = n := ⟨_, rfl⟩
    rw [hnr] at hrr hmr hcr1
    obtain ⟨W1, hW1⟩ : ∃ W1, (W.alloc (.cells #[.int .i64 (x : Int)] 3)).alloc (.cells #[.slice (some ⟨W.heap.size, 0, none⟩) 1 1, .slice Ar nr cr] 97) = W1 := ⟨_, rfl⟩
    have hb1 : Below W.heap.size W W1 := by rw [← hW1]; exact ((Below.refl _ W).alloc (Nat.le_refl _) _).alloc (by simp) _
    have hs1 : W1.heap.size = W.heap.size + 2 := by rw [← hW1]; simp
    have hrow1 : Row W1 (W.heap.size + 1) 97 #[.slice (some ⟨W.heap.size, 0, none⟩) 1 1, .slice Ar nr cr] := by
      rw [← hW1]
      have := Row.new (W.alloc (.cells #[.int .i64 (x : Int)] 3)) 97 #[.slice (some ⟨W.heap.size, 0, none⟩) 1 1, .slice Ar nr cr]
      rw [World.size_alloc] at this; exact this
    have hone : Ints W1 W1.heap.size (.slice (some ⟨W.heap.size, 0, none⟩) 1 1) [(x : Int)] := by
      rw [← hW1]
      exact ((ints_of_row (l := [(x : Int)]) (Row.new W 3 _) (by simp)).next ((Below.refl _ _).alloc (Nat.le_refl _) _))
    have hlr : (Im.grp r).length ≤ M := by have := Im.len_mono (Nat.le_of_lt hrd); have := HM.out; omega
    have hcc := concat_any (W.heap.size + 1) [(x : Int)] (Im.grp r) _ _ W1 hrow1 hone (hmr.next hb1) (by simp) (by simp) (by omega)
    have hgs : Im.Gs ([(x : Int)] ++ Im.grp r) := (Im.Gs.cons (by omega) (by omega) Im.Gs.nil).append (Im.grp_gs r)
    have hvl : Im.val ([(x : Int)] ++ Im.grp r) = ((r * 10000 + x : Nat) : Int) := by
      rw [Im.val_append, Im.grp_val]; simp [Im.val]; omega
    have hlr2 : (Im.grp (r * 10000 + x)).length ≤ M + 1 := Im.grp_len _ _ (by
      have h1 := Im.grp_lt d
      rw [HM.out] at h1
      rw [Nat.pow_succ]; omega)
    have HII := Lib.hid hI; have HB1 := Lib.hid hb1; have HW1 := Lib.hid hW1; have HCC := Lib.hid hcc; have HGS := Lib.hid hgs; have HVL := Lib.hid hvl; have HLR2 := Lib.hid hlr2
    have HRR := Lib.hid hrr; have HARR := Lib.hid harr; have HQ := Lib.hid (And.intro hQl (And.intro hQg hQv)); have HDS := Lib.hid hds; have HDG := Lib.hid hdg
    have c8 := (hrr.alloc (.cells #[.int .i64 (x : Int)] 3)).cell 0
    have c3 := hI.rd.cell 0
    simp only [List.getElem?_toArray, List.getElem?_cons_zero] at c8 c3
    clear hI hb1 hW1 hcc hgs hvl hlr2 hrr harr hQl hQg hQv hmr hrow1 hone hx hp hr hsh hxl hds hdg hnr
    obtain ⟨q, hq⟩ : ∃ q, (r * 10000 + x) / d = q := ⟨_, rfl⟩
    gi_wp2_with (first | (refine ⟨trivial, ?_⟩; gi_at_call 139; rw [HW1.out]; refine (CallsIn.inRound y (callsIn_wide.2 HCC.out)).mono ?_; unfold OwnInts; rintro e w2 ⟨v2, rfl, hown, hb2⟩; obtain ⟨A3, c4, rfl⟩ := own_slice hown; have ht := trimmed_any _ A3 c4 w2 (ints_of_own hown rfl); have hm3 := trimmed_ints (ints_of_own hown rfl) _ HGS.out HVL.out; obtain ⟨n3, hn3⟩ : ∃ n, (Im.trim ([(x : Int)] ++ Im.grp r)).length = n := ⟨_, rfl⟩; rw [hn3] at ht hm3; have HT := Lib.hid ht; have HM3 := Lib.hid hm3; have HF3 := Lib.hid (own_ge hown); have HB2 := Lib.hid hb2; clear hown hb2 ht hm3 hn3) | (refine ⟨trivial, ?_⟩; gi_at_call 138; refine (CallsIn.inRound y (callsIn_wide.2 HT.out)).mono ?_; rintro e w3 ⟨rfl, rfl⟩; have hbb := HB1.out.trans (HB2.out.mono HB1.out.size); have g8 := HRR.out.below hbb HRR.out.lt; have g3 := HII.out.rd.below hbb HII.out.rd.lt; have e8 := g8.cell 0; have e9 := g8.free 0; have e3 := g3.cell 0; simp only [List.getElem?_toArray, List.getElem?_cons_zero] at e8 e3; have HJ := Lib.hid (over_J HII.out hbb HRR.out (fun n h => by cases h) HARR.out HM3.out); clear hbb g8 g3))
    have HBN := Lib.hid (bounds_any (.slice A3 n3 c4) (.slice D M cd) (r * 10000 + x) d _ HJ.out.mr (HD.out.next HJ.out.bw) hd0 (by have := HM.out; have := HLR2.out; omega) (by have := HM.out; omega) (by have := HDG.out; omega))
    refine ⟨trivial, (CallsIn.inRound y (callsIn_wide.2 HBN.out)).mono ?_⟩
    unfold BoundsPost
    rintro e w4 ⟨lo, hi4, rfl, hlo, hhi, h99, hb4⟩
    have HJ4 := Lib.hid (HJ.out.below hb4)
    clear hb4 HBN HJ
    gi_wp2
    have HQB : Hid (q ≤ hi4 ∧ lo ≤ q) := Lib.hid (by omega)
    have HGR := Lib.hid (fun u (hu : OverJ w W (.slice D M cd) (.slice A3 n3 c4) (r * 10000 + x) b Q u) => greatest_any 142 (enters_of Tryz.func142 (by kernel_rfl) rfl) #[.pointer (some ⟨w.heap.size + 1 + 1 + 1 + 1, 0, none⟩), .pointer (some ⟨w.heap.size + 1 + 1 + 1, 0, none⟩)] lo hi4 ((r * 10000 + x) / d) (fun _ => False) _ (over_fits (b := b) (Q := Q) (W0 := W) (v3 := .slice A3 n3 c4) HD.out (by have := HM.out; omega) hd0 h99) h99 hlo hhi (fun X Y h hb => h.below hb) u hu (fun _ h => h.elim))
    have j7 := HJ4.out.rq.cell 0
    simp only [List.getElem?_toArray, List.getElem?_cons_zero] at j7
    have i1 : (0 : Int) ≤ (b : Int) - 1 - (k : Int) := by omega
    have i2 : (b : Int) - 1 - (k : Int) < (b : Int) := by omega
    have i4 : (k : Int) ≤ (b : Int) - 1 := by omega
    have i3 : ((b : Int) - 1 - (k : Int)).toNat = i := by omega
    have hib : i < b := by omega
    clear hlo hhi
    rw [hq] at HGR
    refine region_round (S := fun u => u.cell? ⟨w.heap.size + 1 + 1, 0, none⟩ = some (.slice (some ⟨w.heap.size + 1, 0, none⟩) b b)) (by kernel_rfl) (by kernel_rfl) (fun ⟨_, _, h⟩ => h) ((HJ4.out.below (Below.refl _ _).drew).rq.cell 0) (fun hHeld => ?_)
    refine wpAnyH_take (i := 0) (oi := { dst := Option.some 46, op := Op.load 40 (Operand.tmp 7), type := 40, pos := "magnitude.go:139", after := #[], guard := Option.none }) (v := ?_) rfl (by kernel_rfl) (by kernel_rfl) (by kernel_rfl) (fun _ _ _ h => h) (Or.inl ⟨by rfl, ?_⟩) (by assumption) ?_
    rotate_left
    · (intro w hSw; (try dsimp only at hSw); go_simp; all_goals (with_reducible rfl))
    try simp only [Act.put, List.setIfInBounds_toArray, List.set_cons_zero, List.set_cons_succ]
    refine wpAnyH_take (i := 1) (oi := { dst := Option.some 47, op := Op.move (Operand.tmp 10), type := 3, pos := "magnitude.go:139", after := #[], guard := Option.none }) (v := ?_) rfl (by kernel_rfl) (by kernel_rfl) (by kernel_rfl) (fun _ _ _ h => h) (Or.inl ⟨by rfl, ?_⟩) (by assumption) ?_
    rotate_left
    · (intro w hSw; (try dsimp only at hSw); go_simp; all_goals (with_reducible rfl))
    try simp only [Act.put, List.setIfInBounds_toArray, List.set_cons_zero, List.set_cons_succ]
    refine wpAnyH_take (i := 2) (oi := { dst := Option.some 48, op := Op.move (Operand.tmp 12), type := 3, pos := "magnitude.go:139", after := #[], guard := Option.none }) (v := ?_) rfl (by kernel_rfl) (by kernel_rfl) (by kernel_rfl) (fun _ _ _ h => h) (Or.inl ⟨by rfl, ?_⟩) (by assumption) ?_
    rotate_left
    · (intro w hSw; (try dsimp only at hSw); go_simp; all_goals (with_reducible rfl))
    try simp only [Act.put, List.setIfInBounds_toArray, List.set_cons_zero, List.set_cons_succ]
    refine wpAnyH_take (i := 3) (oi := { dst := Option.some 49, op := Op.move (Operand.tmp 13), type := 3, pos := "magnitude.go:139", after := #[], guard := Option.none }) (v := ?_) rfl (by kernel_rfl) (by kernel_rfl) (by kernel_rfl) (fun _ _ _ h => h) (Or.inl ⟨by rfl, ?_⟩) (by assumption) ?_
    rotate_left
    · (intro w hSw; (try dsimp only at hSw); go_simp; all_goals (with_reducible rfl))
    try simp only [Act.put, List.setIfInBounds_toArray, List.set_cons_zero, List.set_cons_succ]
    refine wpAnyH_ready (rs := [4]) (by kernel_rfl) (by simp) ?_
    refine AllReadyH.cons (o := { dst := Option.some 50, op := Op.makeFunc (Fn.func 142) #[] #[Operand.tmp 9, Operand.tmp 8], type := 152, pos := "magnitude.go:139", after := #[], guard := Option.none }) rfl (fun K hK => ?_) ?_
    · go_simp
      refine hK.out _ _ ?_ (fun hHeld => ?_)
      · (try dsimp only)
        first | assumption | (exact ((HJ4.out.below (Below.refl _ _).drew).rq.cell 0)) | (exact k7) | (exact ((HJ5.out.rq.far (p := ⟨w.heap.size + 1, i, none⟩) (by dsimp only; omega) _).cell 0))
      clear hK K
      try simp only [Act.put, List.setIfInBounds_toArray, List.set_cons_zero, List.set_cons_succ]
      refine wpAnyH_ready (rs := [5]) (by kernel_rfl) (by simp) ?_
      refine AllReadyH.cons (o := { dst := Option.some 51, op := Op.call { callee := Callee.value (Operand.func 141), args := #[Operand.tmp 48, Operand.tmp 49, Operand.tmp 50], argTypes := #[3, 3, 152] }, type := 3, pos := "magnitude.go:139", after := #[{ on := 2, ground := Ground.data }, { on := 3, ground := Ground.data }, { on := 4, ground := Ground.data }], guard := Option.none }) rfl (fun K hK => ?_) ?_
      · go_simp
        (go_at_call 141; ((with_reducible refine Calls.mono (HGR.out _ (HJ4.out.below (Below.refl _ _).drew)) ?_); rintro e w5 ⟨rfl, hJ5, hk5⟩; have k7 := hJ5.rq.cell 0; have k8 := hJ5.arr.cell i (by rw [HQ.out.1]; exact hib); have k9 := hJ5.arr.free i; simp only [List.getElem?_toArray, List.getElem?_cons_zero] at k7; have HJ5 := Lib.hid hJ5; clear hJ5 hk5))
        go_wp2_with fail
        refine hK.out _ _ ?_ (fun hHeld => ?_)
        · (try dsimp only)
          first | assumption | (exact ((HJ4.out.below (Below.refl _ _).drew).rq.cell 0)) | (exact k7) | (exact ((HJ5.out.rq.far (p := ⟨w.heap.size + 1, i, none⟩) (by dsimp only; omega) _).cell 0))
        clear hK K
        try simp only [Act.put, List.setIfInBounds_toArray, List.set_cons_zero, List.set_cons_succ]
        refine wpAnyH_ready (rs := [6]) (by kernel_rfl) (by simp) ?_
        refine AllReadyH.cons (o := { dst := Option.some 52, op := Op.indexAddr 40 (Operand.tmp 46) (Operand.tmp 47), type := 0, pos := "magnitude.go:139", after := #[{ on := 0, ground := Ground.data }, { on := 1, ground := Ground.data }, { on := 0, ground := Ground.phase }, { on := 1, ground := Ground.phase }, { on := 2, ground := Ground.phase }, { on := 3, ground := Ground.phase }, { on := 4, ground := Ground.phase }, { on := 5, ground := Ground.phase }], guard := Option.none }) rfl (fun K hK => ?_) ?_
        · go_simp
          refine hK.out _ _ ?_ (fun hHeld => ?_)
          · (try dsimp only)
            first | assumption | (exact ((HJ4.out.below (Below.refl _ _).drew).rq.cell 0)) | (exact k7) | (exact ((HJ5.out.rq.far (p := ⟨w.heap.size + 1, i, none⟩) (by dsimp only; omega) _).cell 0))
          clear hK K
          try simp only [Act.put, List.setIfInBounds_toArray, List.set_cons_zero, List.set_cons_succ]
          refine wpAnyH_ready (rs := [7]) (by kernel_rfl) (by simp) ?_
          refine AllReadyH.cons (o := { dst := Option.none, op := Op.store 3 (Operand.tmp 52) (Operand.tmp 51), type := 0, pos := "magnitude.go:139", after := #[{ on := 6, ground := Ground.data }, { on := 5, ground := Ground.data }, { on := 5, ground := Ground.chain }, { on := 0, ground := Ground.phase }, { on := 1, ground := Ground.phase }, { on := 2, ground := Ground.phase }, { on := 3, ground := Ground.phase }, { on := 4, ground := Ground.phase }, { on := 5, ground := Ground.phase }], guard := Option.none }) rfl (fun K hK => ?_) ?_
          · go_simp
            refine hK.out _ _ ?_ (fun hHeld => ?_)
            · (try dsimp only)
              first | assumption | (exact ((HJ4.out.below (Below.refl _ _).drew).rq.cell 0)) | (exact k7) | (exact ((HJ5.out.rq.far (p := ⟨w.heap.size + 1, i, none⟩) (by dsimp only; omega) _).cell 0))
            clear hK K
            try simp only [Act.put, List.setIfInBounds_toArray, List.set_cons_zero, List.set_cons_succ]
            refine wpAnyH_done (by kernel_rfl) ?_ _
            have HJ6 := Lib.hid (over_J2 (q := (q : Int)) HJ5.out (fun g hg => by have := HF3.out g (own_same hg); have := HB1.out.size; omega) (by rw [HQ.out.1]; exact hib))
            have m3 := HJ6.out.rr.cell 0
            have m4 := HJ6.out.rm.cell 0
            have m2 := HJ6.out.rq.cell 0
            have m1 := HJ6.out.arr.cell i (by rw [List.length_set, HQ.out.1]; exact hib)
            rw [Im.getD_set _ _ _ _ (by rw [HQ.out.1]; exact hib), if_pos rfl] at m1
            simp only [List.getElem?_toArray, List.getElem?_cons_zero] at m3 m4 m2
            obtain ⟨w6, hw6⟩ : ∃ w6, w5.setCell ⟨w.heap.size + 1, i, none⟩ (.int .i64 (q : Int)) = w6 := ⟨_, rfl⟩
            have hqd2 : d * q ≤ r * 10000 + x := by rw [← hq]; exact Nat.mul_div_le _ _
            have hq9 : q < 10000 := by have := HDG.out; omega
            clear k7 k8 k9
            gi_wp2
            rw [hw6] at HJ6 m1 m2 m3 m4 ⊢
            have HTG := Lib.hid (timesGroup_any (.slice D M cd) d q w6.drew (HD.out.next (HJ6.out.below (Below.refl _ _).drew).bw) (by have := HM.out; omega) hq9)
            refine region_round (S := fun u => u.cell? ⟨w.heap.size + 1 + 1, 0, none⟩ = some (.slice (some ⟨w.heap.size + 1, 0, none⟩) b b) ∧ u.cell? ⟨w.heap.size + 1 + 1 + 1 + 1, 0, none⟩ = some (.func (.func 137) #[.slice D M cd] #[]) ∧ u.cell? ⟨w.heap.size + 1, i, none⟩ = some (.int .i64 (q : Int))) (by kernel_rfl) (by kernel_rfl) (fun ⟨_, _, h⟩ => h) ⟨m2, m4, m1⟩ (fun hHeld => ?_)
            refine wpAnyH_take (i := 1) (oi := { dst := Option.some 54, op := Op.load 147 (Operand.tmp 9), type := 147, pos := "magnitude.go:140", after := #[], guard := Option.none }) (v := ?_) rfl (by kernel_rfl) (by kernel_rfl) (by kernel_rfl) (fun _ _ _ h => h) (Or.inl ⟨by rfl, ?_⟩) (by assumption) ?_
            rotate_left
            · (intro w hSw; (try dsimp only at hSw); go_simp; all_goals (with_reducible rfl))
            try simp only [Act.put, List.setIfInBounds_toArray, List.set_cons_zero, List.set_cons_succ]
            refine wpAnyH_take (i := 2) (oi := { dst := Option.some 55, op := Op.load 40 (Operand.tmp 7), type := 40, pos := "magnitude.go:140", after := #[], guard := Option.none }) (v := ?_) rfl (by kernel_rfl) (by kernel_rfl) (by kernel_rfl) (fun _ _ _ h => h) (Or.inl ⟨by rfl, ?_⟩) (by assumption) ?_
            rotate_left
            · (intro w hSw; (try dsimp only at hSw); go_simp; all_goals (with_reducible rfl))
            try simp only [Act.put, List.setIfInBounds_toArray, List.set_cons_zero, List.set_cons_succ]
            refine wpAnyH_take (i := 3) (oi := { dst := Option.some 56, op := Op.move (Operand.tmp 10), type := 3, pos := "magnitude.go:140", after := #[], guard := Option.none }) (v := ?_) rfl (by kernel_rfl) (by kernel_rfl) (by kernel_rfl) (fun _ _ _ h => h) (Or.inl ⟨by rfl, ?_⟩) (by assumption) ?_
            rotate_left
            · (intro w hSw; (try dsimp only at hSw); go_simp; all_goals (with_reducible rfl))
            try simp only [Act.put, List.setIfInBounds_toArray, List.set_cons_zero, List.set_cons_succ]
            refine wpAnyH_take (i := 4) (oi := { dst := Option.some 57, op := Op.indexAddr 40 (Operand.tmp 55) (Operand.tmp 56), type := 0, pos := "magnitude.go:140", after := #[{ on := 2, ground := Ground.data }, { on := 3, ground := Ground.data }], guard := Option.none }) (v := ?_) rfl (by kernel_rfl) (by kernel_rfl) (by kernel_rfl) (fun _ _ _ h => h) (Or.inl ⟨by rfl, ?_⟩) (by assumption) ?_
            rotate_left
            · (intro w hSw; (try dsimp only at hSw); go_simp; all_goals (with_reducible rfl))
            try simp only [Act.put, List.setIfInBounds_toArray, List.set_cons_zero, List.set_cons_succ]
            refine wpAnyH_take (i := 5) (oi := { dst := Option.some 58, op := Op.load 3 (Operand.tmp 57), type := 3, pos := "magnitude.go:140", after := #[{ on := 4, ground := Ground.data }], guard := Option.none }) (v := ?_) rfl (by kernel_rfl) (by kernel_rfl) (by kernel_rfl) (fun _ _ _ h => h) (Or.inl ⟨by rfl, ?_⟩) (by assumption) ?_
            rotate_left
            · (intro w hSw; (try dsimp only at hSw); go_simp; all_goals (with_reducible rfl))
            try simp only [Act.put, List.setIfInBounds_toArray, List.set_cons_zero, List.set_cons_succ]
            refine wpAnyH_ready (rs := [0, 6]) (by kernel_rfl) (by simp) ?_
            refine AllReadyH.cons (o := { dst := Option.some 53, op := Op.load 97 (Operand.tmp 8), type := 97, pos := "magnitude.go:140", after := #[], guard := Option.none }) rfl (fun K hK => ?_) ?_
            · go_simp
              refine hK.out _ _ ?_ (fun hHeld => ?_)
              · (try dsimp only)
                first | assumption | (exact ⟨m2, m4, m1⟩) | (exact over_S HJ8.out (by rw [List.length_set, HQ.out.1]; exact hib) (by rw [Im.getD_set _ _ _ _ (by rw [HQ.out.1]; exact hib), if_pos rfl])) | (exact over_S2 HJ8.out (by rw [List.length_set, HQ.out.1]; exact hib) (by rw [Im.getD_set _ _ _ _ (by rw [HQ.out.1]; exact hib), if_pos rfl]))
              clear hK K
              try simp only [Act.put, List.setIfInBounds_toArray, List.set_cons_zero, List.set_cons_succ]
              refine wpAnyH_ready (rs := [6]) (by kernel_rfl) (by simp) ?_
              refine AllReadyH.cons (o := { dst := Option.some 59, op := Op.call { callee := Callee.value (Operand.tmp 54), args := #[Operand.tmp 58], argTypes := #[3] }, type := 97, pos := "magnitude.go:140", after := #[{ on := 1, ground := Ground.data }, { on := 5, ground := Ground.data }], guard := Option.none }) rfl (fun K hK => ?_) ?_
              · go_simp
                first | (go_at_call 137; ((with_reducible refine Calls.mono HTG.out ?_); unfold MagPost; rintro e w7 ⟨vp, rfl, hmp, hb7⟩; have HJ8 := Lib.hid ((HJ6.out.below (Below.refl _ _).drew).below hb7); have o3 := HJ8.out.rr.cell 0; simp only [List.getElem?_toArray, List.getElem?_cons_zero] at o3; have HMI := Lib.hid (minus_any (.slice A3 n3 c4) vp (r * 10000 + x) (d * q) w7 HJ8.out.mr hmp hqd2 (by have := HLR2.out; omega)); clear hmp hb7)) | (go_at_call 113; ((with_reducible refine Calls.mono HMI.out ?_); unfold MagPost; rintro e w8 ⟨v4, rfl, hm8, hb8⟩; obtain ⟨A4, c5, rfl, -, -⟩ := ints_form hm8; have HJ9 := HJ8; have HJ8 := Lib.hid (HJ9.out.below hb8); have p3 := HJ8.out.rr.cell 0; have p9 := HJ8.out.rr.free 0; simp only [List.getElem?_toArray, List.getElem?_cons_zero] at p3))
                go_wp2_with fail
                refine hK.out _ _ ?_ (fun hHeld => ?_)
                · (try dsimp only)
                  first | assumption | (exact ⟨m2, m4, m1⟩) | (exact over_S HJ8.out (by rw [List.length_set, HQ.out.1]; exact hib) (by rw [Im.getD_set _ _ _ _ (by rw [HQ.out.1]; exact hib), if_pos rfl])) | (exact over_S2 HJ8.out (by rw [List.length_set, HQ.out.1]; exact hib) (by rw [Im.getD_set _ _ _ _ (by rw [HQ.out.1]; exact hib), if_pos rfl]))
                clear hK K
                try simp only [Act.put, List.setIfInBounds_toArray, List.set_cons_zero, List.set_cons_succ]
                refine wpAnyH_ready (rs := [7]) (by kernel_rfl) (by simp) ?_
                refine AllReadyH.cons (o := { dst := Option.some 60, op := Op.call { callee := Callee.value (Operand.func 113), args := #[Operand.tmp 53, Operand.tmp 59], argTypes := #[97, 97] }, type := 97, pos := "magnitude.go:140", after := #[{ on := 0, ground := Ground.data }, { on := 6, ground := Ground.data }, { on := 6, ground := Ground.chain }], guard := Option.none }) rfl (fun K hK => ?_) ?_
                · go_simp
                  first | (go_at_call 137; ((with_reducible refine Calls.mono HTG.out ?_); unfold MagPost; rintro e w7 ⟨vp, rfl, hmp, hb7⟩; have HJ8 := Lib.hid ((HJ6.out.below (Below.refl _ _).drew).below hb7); have o3 := HJ8.out.rr.cell 0; simp only [List.getElem?_toArray, List.getElem?_cons_zero] at o3; have HMI := Lib.hid (minus_any (.slice A3 n3 c4) vp (r * 10000 + x) (d * q) w7 HJ8.out.mr hmp hqd2 (by have := HLR2.out; omega)); clear hmp hb7)) | (go_at_call 113; ((with_reducible refine Calls.mono HMI.out ?_); unfold MagPost; rintro e w8 ⟨v4, rfl, hm8, hb8⟩; obtain ⟨A4, c5, rfl, -, -⟩ := ints_form hm8; have HJ9 := HJ8; have HJ8 := Lib.hid (HJ9.out.below hb8); have p3 := HJ8.out.rr.cell 0; have p9 := HJ8.out.rr.free 0; simp only [List.getElem?_toArray, List.getElem?_cons_zero] at p3))
                  go_wp2_with fail
                  refine hK.out _ _ ?_ (fun hHeld => ?_)
                  · (try dsimp only)
                    first | assumption | (exact ⟨m2, m4, m1⟩) | (exact over_S HJ8.out (by rw [List.length_set, HQ.out.1]; exact hib) (by rw [Im.getD_set _ _ _ _ (by rw [HQ.out.1]; exact hib), if_pos rfl])) | (exact over_S2 HJ8.out (by rw [List.length_set, HQ.out.1]; exact hib) (by rw [Im.getD_set _ _ _ _ (by rw [HQ.out.1]; exact hib), if_pos rfl]))
                  clear hK K
                  try simp only [Act.put, List.setIfInBounds_toArray, List.set_cons_zero, List.set_cons_succ]
                  refine wpAnyH_ready (rs := [8]) (by kernel_rfl) (by simp) ?_
                  refine AllReadyH.cons (o := { dst := Option.none, op := Op.store 97 (Operand.tmp 8) (Operand.tmp 60), type := 0, pos := "magnitude.go:140", after := #[{ on := 7, ground := Ground.data }, { on := 7, ground := Ground.chain }, { on := 0, ground := Ground.phase }, { on := 1, ground := Ground.phase }, { on := 2, ground := Ground.phase }, { on := 3, ground := Ground.phase }, { on := 4, ground := Ground.phase }, { on := 5, ground := Ground.phase }, { on := 6, ground := Ground.phase }, { on := 7, ground := Ground.phase }], guard := Option.none }) rfl (fun K hK => ?_) ?_
                  · go_simp
                    refine hK.out _ _ ?_ (fun hHeld => ?_)
                    · (try dsimp only)
                      first | assumption | (exact ⟨m2, m4, m1⟩) | (exact over_S HJ8.out (by rw [List.length_set, HQ.out.1]; exact hib) (by rw [Im.getD_set _ _ _ _ (by rw [HQ.out.1]; exact hib), if_pos rfl])) | (exact over_S2 HJ8.out (by rw [List.length_set, HQ.out.1]; exact hib) (by rw [Im.getD_set _ _ _ _ (by rw [HQ.out.1]; exact hib), if_pos rfl]))
                    clear hK K
                    try simp only [Act.put, List.setIfInBounds_toArray, List.set_cons_zero, List.set_cons_succ]
                    refine wpAnyH_done (by kernel_rfl) ?_ _
                    gi_wp2
                    have hmf : (r * 10000 + x) - d * q = n % d := by rw [HDS.out.2, ← hq]; have := Nat.div_add_mod (r * 10000 + x) d; omega
                    have hqg := HQ.out
                    refine over_I (k := k) HJ8.out (by rw [show b - (k + 1) = i by omega, hn, ← hmf]; exact hm8) (fun n h => by cases h) ⟨by rw [List.length_set]; exact hqg.1, Im.gs_set hqg.2.1 i _ (by omega) (by omega), ?_⟩
                    rw [show b - (k + 1) = i by omega, hn, HDS.out.1]
                    exact drop_set_step Q i b q (p / d) _ hqg.1 hib hqg.2.2 (by rw [hq])
                  exact AllReadyH.nil
                exact AllReadyH.nil
              exact AllReadyH.nil
            refine AllReadyH.cons (o := { dst := Option.some 59, op := Op.call { callee := Callee.value (Operand.tmp 54), args := #[Operand.tmp 58], argTypes := #[3] }, type := 97, pos := "magnitude.go:140", after := #[{ on := 1, ground := Ground.data }, { on := 5, ground := Ground.data }], guard := Option.none }) rfl (fun K hK => ?_) ?_
            · go_simp
              first | (go_at_call 137; ((with_reducible refine Calls.mono HTG.out ?_); unfold MagPost; rintro e w7 ⟨vp, rfl, hmp, hb7⟩; have HJ8 := Lib.hid ((HJ6.out.below (Below.refl _ _).drew).below hb7); have o3 := HJ8.out.rr.cell 0; simp only [List.getElem?_toArray, List.getElem?_cons_zero] at o3; have HMI := Lib.hid (minus_any (.slice A3 n3 c4) vp (r * 10000 + x) (d * q) w7 HJ8.out.mr hmp hqd2 (by have := HLR2.out; omega)); clear hmp hb7)) | (go_at_call 113; ((with_reducible refine Calls.mono HMI.out ?_); unfold MagPost; rintro e w8 ⟨v4, rfl, hm8, hb8⟩; obtain ⟨A4, c5, rfl, -, -⟩ := ints_form hm8; have HJ9 := HJ8; have HJ8 := Lib.hid (HJ9.out.below hb8); have p3 := HJ8.out.rr.cell 0; have p9 := HJ8.out.rr.free 0; simp only [List.getElem?_toArray, List.getElem?_cons_zero] at p3))
              go_wp2_with fail
              refine hK.out _ _ ?_ (fun hHeld => ?_)
              · (try dsimp only)
                first | assumption | (exact ⟨m2, m4, m1⟩) | (exact over_S HJ8.out (by rw [List.length_set, HQ.out.1]; exact hib) (by rw [Im.getD_set _ _ _ _ (by rw [HQ.out.1]; exact hib), if_pos rfl])) | (exact over_S2 HJ8.out (by rw [List.length_set, HQ.out.1]; exact hib) (by rw [Im.getD_set _ _ _ _ (by rw [HQ.out.1]; exact hib), if_pos rfl]))
              clear hK K
              try simp only [Act.put, List.setIfInBounds_toArray, List.set_cons_zero, List.set_cons_succ]
              refine wpAnyH_ready (rs := [0]) (by kernel_rfl) (by simp) ?_
              refine AllReadyH.cons (o := { dst := Option.some 53, op := Op.load 97 (Operand.tmp 8), type := 97, pos := "magnitude.go:140", after := #[], guard := Option.none }) rfl (fun K hK => ?_) ?_
              · go_simp
                refine hK.out _ _ ?_ (fun hHeld => ?_)
                · (try dsimp only)
                  first | assumption | (exact ⟨m2, m4, m1⟩) | (exact over_S HJ8.out (by rw [List.length_set, HQ.out.1]; exact hib) (by rw [Im.getD_set _ _ _ _ (by rw [HQ.out.1]; exact hib), if_pos rfl])) | (exact over_S2 HJ8.out (by rw [List.length_set, HQ.out.1]; exact hib) (by rw [Im.getD_set _ _ _ _ (by rw [HQ.out.1]; exact hib), if_pos rfl]))
                clear hK K
                try simp only [Act.put, List.setIfInBounds_toArray, List.set_cons_zero, List.set_cons_succ]
                refine wpAnyH_ready (rs := [7]) (by kernel_rfl) (by simp) ?_
                refine AllReadyH.cons (o := { dst := Option.some 60, op := Op.call { callee := Callee.value (Operand.func 113), args := #[Operand.tmp 53, Operand.tmp 59], argTypes := #[97, 97] }, type := 97, pos := "magnitude.go:140", after := #[{ on := 0, ground := Ground.data }, { on := 6, ground := Ground.data }, { on := 6, ground := Ground.chain }], guard := Option.none }) rfl (fun K hK => ?_) ?_
                · go_simp
                  first | (go_at_call 137; ((with_reducible refine Calls.mono HTG.out ?_); unfold MagPost; rintro e w7 ⟨vp, rfl, hmp, hb7⟩; have HJ8 := Lib.hid ((HJ6.out.below (Below.refl _ _).drew).below hb7); have o3 := HJ8.out.rr.cell 0; simp only [List.getElem?_toArray, List.getElem?_cons_zero] at o3; have HMI := Lib.hid (minus_any (.slice A3 n3 c4) vp (r * 10000 + x) (d * q) w7 HJ8.out.mr hmp hqd2 (by have := HLR2.out; omega)); clear hmp hb7)) | (go_at_call 113; ((with_reducible refine Calls.mono HMI.out ?_); unfold MagPost; rintro e w8 ⟨v4, rfl, hm8, hb8⟩; obtain ⟨A4, c5, rfl, -, -⟩ := ints_form hm8; have HJ9 := HJ8; have HJ8 := Lib.hid (HJ9.out.below hb8); have p3 := HJ8.out.rr.cell 0; have p9 := HJ8.out.rr.free 0; simp only [List.getElem?_toArray, List.getElem?_cons_zero] at p3))
                  go_wp2_with fail
                  refine hK.out _ _ ?_ (fun hHeld => ?_)
                  · (try dsimp only)
                    first | assumption | (exact ⟨m2, m4, m1⟩) | (exact over_S HJ8.out (by rw [List.length_set, HQ.out.1]; exact hib) (by rw [Im.getD_set _ _ _ _ (by rw [HQ.out.1]; exact hib), if_pos rfl])) | (exact over_S2 HJ8.out (by rw [List.length_set, HQ.out.1]; exact hib) (by rw [Im.getD_set _ _ _ _ (by rw [HQ.out.1]; exact hib), if_pos rfl]))
                  clear hK K
                  try simp only [Act.put, List.setIfInBounds_toArray, List.set_cons_zero, List.set_cons_succ]
                  refine wpAnyH_ready (rs := [8]) (by kernel_rfl) (by simp) ?_
                  refine AllReadyH.cons (o := { dst := Option.none, op := Op.store 97 (Operand.tmp 8) (Operand.tmp 60), type := 0, pos := "magnitude.go:140", after := #[{ on := 7, ground := Ground.data }, { on := 7, ground := Ground.chain }, { on := 0, ground := Ground.phase }, { on := 1, ground := Ground.phase }, { on := 2, ground := Ground.phase }, { on := 3, ground := Ground.phase }, { on := 4, ground := Ground.phase }, { on := 5, ground := Ground.phase }, { on := 6, ground := Ground.phase }, { on := 7, ground := Ground.phase }], guard := Option.none }) rfl (fun K hK => ?_) ?_
                  · go_simp
                    refine hK.out _ _ ?_ (fun hHeld => ?_)
                    · (try dsimp only)
                      first | assumption | (exact ⟨m2, m4, m1⟩) | (exact over_S HJ8.out (by rw [List.length_set, HQ.out.1]; exact hib) (by rw [Im.getD_set _ _ _ _ (by rw [HQ.out.1]; exact hib), if_pos rfl])) | (exact over_S2 HJ8.out (by rw [List.length_set, HQ.out.1]; exact hib) (by rw [Im.getD_set _ _ _ _ (by rw [HQ.out.1]; exact hib), if_pos rfl]))
                    clear hK K
                    try simp only [Act.put, List.setIfInBounds_toArray, List.set_cons_zero, List.set_cons_succ]
                    refine wpAnyH_done (by kernel_rfl) ?_ _
                    gi_wp2
                    have hmf : (r * 10000 + x) - d * q = n % d := by rw [HDS.out.2, ← hq]; have := Nat.div_add_mod (r * 10000 + x) d; omega
                    have hqg := HQ.out
                    refine over_I (k := k) HJ8.out (by rw [show b - (k + 1) = i by omega, hn, ← hmf]; exact hm8) (fun n h => by cases h) ⟨by rw [List.length_set]; exact hqg.1, Im.gs_set hqg.2.1 i _ (by omega) (by omega), ?_⟩
                    rw [show b - (k + 1) = i by omega, hn, HDS.out.1]
                    exact drop_set_step Q i b q (p / d) _ hqg.1 hib hqg.2.2 (by rw [hq])
                  exact AllReadyH.nil
                exact AllReadyH.nil
              exact AllReadyH.nil
            exact AllReadyH.nil
          exact AllReadyH.nil
        exact AllReadyH.nil
      exact AllReadyH.nil
    exact AllReadyH.nil
  case done =>
    rintro D' W hD hI hK
    obtain ⟨vr, hrr, hmr⟩ := hI.rr
    obtain ⟨Q, harr, hQl, hQg, hQv⟩ := hI.qq
    rw [Nat.sub_self, Nat.pow_zero, Nat.div_one] at hmr hQv
    rw [List.drop_zero] at hQv
    have hQi := harr.ints (c := b) (by rw [hQl]; exact Nat.le_refl _) (by unfold maxLen; omega)
    have htr := trimmed_any Q (some ⟨w.heap.size + 1, 0, none⟩) b W hQi
    have hmq := trimmed_ints hQi (a / d) hQg hQv
    rw [hQl] at htr
    obtain ⟨nq, hnq⟩ : ∃ n, (Im.trim Q).length = n := ⟨_, rfl⟩
    rw [hnq] at htr hmq
    have hbw := hI.bw
    have m2 := hI.rq.cell 0
    have m3 := hrr.cell 0
    simp only [List.getElem?_toArray, List.getElem?_cons_zero] at m2 m3
    have htr2 := htr
    have HT := Lib.hid (fun u (hu : u.heap = W.heap) => trimmed_any Q (some ⟨w.heap.size + 1, 0, none⟩) b u (by
      have h2 := hQi
      obtain ⟨A', c', h1, h3, h4, h5⟩ := h2
      exact ⟨A', c', h1, h3, h4, h5.imp id fun ⟨g, off, h6, h7, h8⟩ => ⟨g, off, h6, by rw [hu]; exact h7, fun j x hj => (World.cell?_of_block (w := W) (a := ⟨g, off + j, none⟩) (by rw [hu])).trans (h8 j x hj)⟩⟩))
    rw [hQl, hnq] at HT
    have HMQ := Lib.hid hmq; have HMR := Lib.hid hmr; have HBW := Lib.hid hbw; have HK := Lib.hid hK
    clear hmq hmr hbw hK htr htr2 hQi hI hrr harr hQl hQg hQv hnq
    gi_wp2
    refine wpIn_wide.2 ?_
    go_region_held3 (fun u => u.heap = W.heap ∧ u.cell? ⟨w.heap.size + 1 + 1, 0, none⟩ = some (.slice (some ⟨w.heap.size + 1, 0, none⟩) b b) ∧ u.cell? ⟨w.heap.size + 1 + 1 + 1, 0, none⟩ = some vr) (first | assumption | (exact ⟨rfl, m2, m3⟩)) (first | (go_at_call 138; ((with_reducible refine Calls.mono (HT.out _ ?h1) ?_); (case h1 => exact (‹_ = W.heap ∧ _ ∧ _›).1); rintro e w9 ⟨rfl, rfl⟩)))
    all_goals
      have hu := (‹_ = W.heap ∧ _ ∧ _›).1
      have hK2 := HK.out
      rw [← hu] at hK2
      gi_wp2
      refine ⟨by simp, .inl ⟨_, _, rfl, run_takeDeferred hK2, ?_⟩⟩
      refine ⟨_, results_tmp2 rfl _ _ _, _, _, rfl, ?_, ?_, ?_⟩
      · exact (ints_putDef _ (ints_heap HMQ.out hu) hK2).more (by simp [hu])
      · exact (ints_putDef _ (ints_heap HMR.out hu) hK2).more (by simp [hu])
      · exact HBW.out.drew.trans (belowK_b (w := w) (Nat.le_refl _) _ D' _ _ (by omega) hK2 rfl rfl)
end Go.Proofs.YtabkodpjhpjgnaaGreatDoor

namespace Go.Proofs.YtabkodpjhpjgnaaGreatDoor
open Go.RowKit Go.Shelf

theorem ints_uniq {w : World} {B B' : Nat} {v : Value} {l l' : List Int} (h : Ints w B v l) (h' : Ints w B' v l') : l = l' := by
  obtain ⟨A, c, h1, _, _, h4⟩ := h
  obtain ⟨A', c', h1', _, _, h4'⟩ := h'
  rw [h1] at h1'
  injection h1' with e1 e2 e3
  subst e1
  rcases h4 with ⟨rfl, rfl⟩ | ⟨g, off, rfl, _, hc⟩
  · exact (List.eq_nil_of_length_eq_zero e2.symm).symm
  · rcases h4' with ⟨h5, _⟩ | ⟨g', off', h5, _, hc'⟩
    · cases h5
    · injection h5 with h5
      injection h5 with h6 h7
      subst h6; subst h7
      apply List.ext_getElem e2
      intro j h1 h2
      have a1 := hc j _ (List.getElem?_eq_getElem h1)
      have a2 := hc' j _ (List.getElem?_eq_getElem h2)
      rw [a1] at a2
      injection a2 with a2
      injection a2
theorem mag_uniq {w : World} {v : Value} {m n : Nat} (h : Mag w v m) (h' : Mag w v n) : m = n := Im.grp_inj (ints_uniq h h')
open Classical in
/-- The number that a slice reads as. -/
noncomputable def magOf (w : World) (v : Value) : Nat := if h : ∃ n, Mag w v n then h.choose else 0
theorem magOf_eq {w : World} {v : Value} {n : Nat} (h : Mag w v n) : magOf w v = n := by
  have hx : ∃ n, Mag w v n := ⟨n, h⟩
  unfold magOf
  rw [dif_pos hx]
  exact mag_uniq hx.choose_spec h

set_option maxRecDepth 100000 in
set_option maxHeartbeats 1000000 in
theorem gcd_any (va vb : Value) (a b : Nat) (w : World) (ha : Mag w va a) (hb : Mag w vb b) (la : (Im.grp a).length ≤ 250) (lb : (Im.grp b).length ≤ 250) :
    Calls Tryz.prog 106 #[va, vb] w (MagPost (Nat.gcd a b) w) := by
  have HZ := Lib.hid (fun v n u => isZero_any v n u)
  have HO := Lib.hid (fun va vd a d u ha hd h0 la ld => over_any va vd a d u ha hd h0 la ld)
  go_enter Tryz.func106, Tryz.ntmps106
  go_wp2
  go_loopw [0, 1, 5, 6] (fun vx vy _ _ wr => ∃ x y : Nat, Hid (Mag wr vx x) ∧ Hid (Mag wr vy y) ∧ (Im.grp x).length ≤ 250 ∧ (Im.grp y).length ≤ 250 ∧ Nat.gcd x y = Nat.gcd a b ∧ Hid (Below w.heap.size w wr)) (fun _ vy _ _ wr => magOf wr vy)
  case atStart => exact ⟨a, b, Lib.hid ha, Lib.hid hb, la, lb, rfl, Lib.hid (Below.refl _ _)⟩
  case round =>
    obtain ⟨x, y, HX, HY, lx, ly, hg, HB⟩ := hrel
    have hz := HZ.out _ y wr HY.out
    by_cases h0 : y = 0
    · subst h0
      rw [decide_eq_true rfl] at hz
      have HZ1 := Lib.hid hz
      clear hz
      go_wp2_with (go_at_call 116; refine HZ1.out.mono ?_; rintro e w1 ⟨rfl, rfl⟩)
      go_ret
      rw [Nat.gcd_zero_right] at hg
      exact ⟨_, rfl, hg ▸ HX.out, HB.out⟩
    · rw [decide_eq_false h0] at hz
      have HZ1 := Lib.hid hz
      have HV := Lib.hid (HO.out _ _ x y wr HX.out HY.out h0 lx ly)
      clear hz
      go_wp2_with (first | (go_at_call 116; refine HZ1.out.mono ?_; rintro e w1 ⟨rfl, rfl⟩) | (go_at_call 117; refine HV.out.mono ?_; unfold OverPost; rintro e w2 ⟨vq, vr, rfl, hq, hr, hb2⟩; have HR := Lib.hid hr; have HB2 := Lib.hid hb2; clear hq hr hb2))
      go_roundw
      case rel =>
        refine ⟨y, x % y, Lib.hid (HY.out.next HB2.out), HR, ly, ?_, ?_, Lib.hid (below_to HB.out HB2.out)⟩
        · have := Im.len_mono (Nat.le_of_lt (Nat.mod_lt x (by omega : 0 < y))); omega
        · rw [← hg, Nat.gcd_comm x y, Nat.gcd_rec y x, Nat.gcd_comm]
      case measure =>
        rw [magOf_eq HY.out]
        have := magOf_eq HR.out
        simp only [this]
        exact Nat.mod_lt _ (by omega)
end Go.Proofs.YtabkodpjhpjgnaaGreatDoor

namespace Go.Proofs.YtabkodpjhpjgnaaGreatDoor
open Go.RowKit Go.Shelf

/-- What holds while a group of the root is sought: the boxes of root's variables, and its array but for that group. -/
structure RootJ (w W0 : World) (vm : Value) (Bi N i : Nat) (L : List Int) (W : World) : Prop where
  rm : Row W w.heap.size 97 #[vm]
  rr : Row W (w.heap.size + 1 + 1) 40 #[.slice (some ⟨w.heap.size + 1, 0, none⟩) N N]
  ri : Row W Bi 3 #[.int .i64 (i : Int)]
  arr : ∃ g : Int, Arr W (w.heap.size + 1) (L.set i g)
  bw : Below w.heap.size w W
  kp : Keeps (fun j => j = w.heap.size + 1) W0 W
theorem RootJ.below {w W0 X Y : World} {vm : Value} {Bi N i : Nat} {L : List Int} (h : RootJ w W0 vm Bi N i L X) (hb : Below X.heap.size X Y) : RootJ w W0 vm Bi N i L Y := by
  obtain ⟨g, hg⟩ := h.arr
  exact ⟨h.rm.below hb h.rm.lt, h.rr.below hb h.rr.lt, h.ri.below hb h.ri.lt, ⟨g, hg.below hb hg.lt⟩, h.bw.trans (hb.mono h.bw.size), h.kp.trans (Keeps.of_below hb)⟩
theorem ints_same {X Y : World} {B : Nat} {v : Value} {l : List Int} (h : Ints X B v l) (hh : Y.heap = X.heap) : Ints Y B v l := ints_heap h hh

end Go.Proofs.YtabkodpjhpjgnaaGreatDoor

namespace Go.Proofs.YtabkodpjhpjgnaaGreatDoor
open Go.RowKit Go.Shelf

def cellInt (W : World) (v : Value) : Int := match v with
  | .pointer (some a) => match W.cell? a with
    | some x => intOf x
    | none => 0
  | _ => 0
theorem cellInt_row {W : World} {g : Nat} {t : TypeId} {n : Int} (h : Row W g t #[.int .i64 n]) : cellInt W (.pointer (some ⟨g, 0, none⟩)) = n := by
  have := h.cell 0
  simp only [List.getElem?_toArray, List.getElem?_cons_zero] at this
  simp only [cellInt, this, intOf]

theorem val_zero : ∀ (l : List Int), (∀ j, j < l.length → l.getD j 0 = 0) → Im.val l = 0
  | [], _ => rfl
  | x :: l, h => by
    have h0 : x = 0 := by simpa using h 0 (by simp)
    have h1 := val_zero l (fun j hj => by simpa using h (j + 1) (by simpa using hj))
    unfold Im.val; omega
/-- The array of the root with one group laid in. -/
theorem root_val {L : List Int} {N i p : Nat} (g : Nat) (hL : L.length = N) (hi : i < N) (hz : ∀ j, j < i + 1 → L.getD j 0 = 0) (hv : Im.val (L.drop (i + 1)) = (p : Int)) : Im.val (L.set i (g : Int)) = ((p * 10000 ^ (i + 1) + g * 10000 ^ i : Nat) : Int) := by
  rw [Im.val_split _ i (by rw [List.length_set]; omega), Im.val_top L i g (by omega), hv, List.take_set_of_le (by omega), val_zero (L.take i) (fun j hj => by
    rw [List.length_take] at hj
    rw [List.getD_eq_getElem?_getD, List.getElem?_take_of_lt (by omega), ← List.getD_eq_getElem?_getD]; exact hz j (by omega))]
  rw [Int.zero_add, Int.mul_add, Nat.pow_succ]
  simp only [Int.natCast_add, Int.natCast_mul, Im.castPow]
  rw [Int.mul_comm (10000 ^ i) (g : Int), Int.add_comm, ← Int.mul_assoc, Int.mul_comm (10000 ^ i * 10000) (p : Int)]
  rfl
theorem root_fit (m i g : Nat) : ((Im.isqrt m / 10000 ^ (i + 1) * 10000 ^ (i + 1) + g * 10000 ^ i) * (Im.isqrt m / 10000 ^ (i + 1) * 10000 ^ (i + 1) + g * 10000 ^ i) ≤ m) ↔ g ≤ Im.isqrt m / 10000 ^ i % 10000 := by
  rw [Im.sq_le_iff, Im.root_digit]
  have := Im.div_shift (Im.isqrt m) i
  omega

/-- What holds while root goes through the groups: those from k on are found. -/
structure RootI (w : World) (vm : Value) (N s k : Nat) (L : List Int) (W : World) : Prop where
  rm : Row W w.heap.size 97 #[vm]
  rr : Row W (w.heap.size + 1 + 1) 40 #[.slice (some ⟨w.heap.size + 1, 0, none⟩) N N]
  arr : Arr W (w.heap.size + 1) L
  len : L.length = N
  gs : Im.Gs L
  zero : ∀ j, j < k → L.getD j 0 = 0
  val : Im.val (L.drop k) = ((s / 10000 ^ k : Nat) : Int)
  bw : Below w.heap.size w W
theorem root_S {w W0 u : World} {vm : Value} {Bi N i : Nat} {L : List Int} (h : RootJ w W0 vm Bi N i L u) : u.cell? ⟨w.heap.size + 1 + 1, 0, none⟩ = some (.slice (some ⟨w.heap.size + 1, 0, none⟩) N N) ∧ u.cell? ⟨Bi, 0, none⟩ = some (.int .i64 (i : Int)) := ⟨(h.rr.cell 0).trans rfl, (h.ri.cell 0).trans rfl⟩
theorem root_S2 {w W0 u : World} {vm x : Value} {Bi N i : Nat} {L : List Int} (h : RootJ w W0 vm Bi N i L u) (hB : w.heap.size + 2 < Bi) : (u.setCell ⟨w.heap.size + 1, i, none⟩ x).cell? ⟨w.heap.size + 1 + 1, 0, none⟩ = some (.slice (some ⟨w.heap.size + 1, 0, none⟩) N N) ∧ (u.setCell ⟨w.heap.size + 1, i, none⟩ x).cell? ⟨Bi, 0, none⟩ = some (.int .i64 (i : Int)) := by
  have hs := root_S h
  exact ⟨(World.cell?_setCell_other _ _ _ _ (by intro e; injection e; omega)).trans hs.1, (World.cell?_setCell_other _ _ _ _ (by intro e; injection e; omega)).trans hs.2⟩

end Go.Proofs.YtabkodpjhpjgnaaGreatDoor
