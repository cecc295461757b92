/- Contracts of sort.Search with greatest's function, and of greatest. -/
import Derived.Test.YtflpfmkfjccmiaaGreatDoorIl
import Derived.Shelf.Abstract
namespace Go.Proofs.YtflpfmkfjccmiaaGreatDoor
open Go.RowKit Go.Shelf

/-- What is asked of a function that tells whether a number fits: those up to q do. -/
def Fits (gf : Nat) (cb : Array Value) (low high q : Nat) (no : Nat → Prop) (J : World → Prop) : Prop :=
  ∀ (g : Nat) (W : World), low ≤ g → g ≤ high → J W → Calls Tryz.prog gf (#[.int .i64 (g : Int)] ++ cb) W fun e W' => e = .returned (.bool (decide (g ≤ q))) ∧ J W' ∧ Keeps no W W'
/-- The two boxes of greatest's function. -/
def Boxes (W : World) (Bl Bf low gf : Nat) (cb : Array Value) : Prop := Row W Bl 3 #[.int .i64 (low : Int)] ∧ Row W Bf 83 #[.func (.func gf) #[] cb]

set_option maxHeartbeats 400000 in
theorem greatest1_any (gf : Nat) (eg : ∀ args w, (callFunc gf args).run Tryz.prog w = .ok (.enter gf args) w) (cb : Array Value) (low high q : Nat) (no : Nat → Prop) (J : World → Prop) (hf : Fits gf cb low high q no J) (hh : high ≤ 9999)
    (Bl Bf i : Nat) (W : World) (hi : low + i + 1 ≤ high) (hJ : J W) (hb : Boxes W Bl Bf low gf cb) (hnl : ¬ no Bl) (hnf : ¬ no Bf) :
    Calls Tryz.prog 87 #[.int .i64 (i : Int), .pointer (some ⟨Bf, 0, none⟩), .pointer (some ⟨Bl, 0, none⟩)] W fun e W' => e = .returned (.bool (decide (q < low + i + 1))) ∧ J W' ∧ Boxes W' Bl Bf low gf cb ∧ Keeps no W W' := by
  have hc := hf (low + i + 1) W (by omega) hi hJ
  have cl := hb.1.cell 0
  have cf := hb.2.cell 0
  simp only [List.getElem?_toArray, List.getElem?_cons_zero] at cl cf
  rw [show ((low + i + 1 : Nat) : Int) = (low : Int) + (i : Int) + 1 by omega] at hc
  obtain ⟨b, hbb⟩ : ∃ b, decide (low + i + 1 ≤ q) = b := ⟨_, rfl⟩
  have hnb : decide (q < low + i + 1) = !b := by
    rw [← hbb]
    by_cases h : low + i + 1 ≤ q
    · rw [decide_eq_true h, decide_eq_false (by omega)]; rfl
    · rw [decide_eq_false h, decide_eq_true (by omega)]; rfl
  rw [hbb] at hc
  rw [hnb]
  have HC := Lib.hid hc; have HB := Lib.hid hb
  have s1 : IntKind.i64.wrap ((low : Int) + (i : Int)) = (low : Int) + (i : Int) := IntWalk.i64_in _ (by omega)
  have s2 : IntKind.i64.wrap ((low : Int) + (i : Int) + 1) = (low : Int) + (i : Int) + 1 := IntWalk.i64_in _ (by omega)
  clear hc hbb hnb hb
  go_enter Tryz.func87, Tryz.ntmps87
  go_wp2_with (go_at_fn gf; refine HC.out.mono ?_; rintro e w1 ⟨rfl, hj, hk⟩)
  go_ret
  exact ⟨rfl, hj, ⟨(hk.block _ HB.out.1.lt hnl).trans HB.out.1, (hk.block _ HB.out.2.lt hnf).trans HB.out.2⟩, hk⟩

set_option maxRecDepth 100000 in
set_option maxHeartbeats 1000000 in
theorem search_any (gf : Nat) (eg : ∀ args w, (callFunc gf args).run Tryz.prog w = .ok (.enter gf args) w) (cb : Array Value) (low high q : Nat) (no : Nat → Prop) (J : World → Prop) (hf : Fits gf cb low high q no J) (hh : high ≤ 9999)
    (hlq : low ≤ q) (hqh : q ≤ high) (Bl Bf : Nat) (w : World) (hJ : J w) (hb : Boxes w Bl Bf low gf cb) (hnl : ¬ no Bl) (hnf : ¬ no Bf) :
    Calls Tryz.prog 86 #[.int .i64 ((high - low : Nat) : Int), .func (.func 87) #[] #[.pointer (some ⟨Bf, 0, none⟩), .pointer (some ⟨Bl, 0, none⟩)]] w fun e w' => e = .returned (.int .i64 ((q - low : Nat) : Int)) ∧ J w' ∧ Boxes w' Bl Bf low gf cb ∧ Keeps no w w' := by
  have H := Lib.hid (fun i W hi hJ hb => greatest1_any gf eg cb low high q no J hf hh Bl Bf i W hi hJ hb hnl hnf)
  obtain ⟨n, hn⟩ : ∃ n, high - low = n := ⟨_, rfl⟩
  obtain ⟨p, hp⟩ : ∃ n, q - low = n := ⟨_, rfl⟩
  rw [hn, hp]
  have HN := Lib.hid hn; have HP := Lib.hid hp
  have hpn : p ≤ n := by omega
  have hn2 : n ≤ 9999 := by omega
  clear hf hn hp eg
  go_enter Tryz.func86, Tryz.ntmps86
  go_wp2
  go_loopw [5, 6, 7] (fun i j _ wr => ∃ lo hi : Nat, i = .int .i64 (lo : Int) ∧ j = .int .i64 (hi : Int) ∧ lo ≤ p ∧ p ≤ hi ∧ hi ≤ n ∧ Hid (J wr) ∧ Hid (Boxes wr Bl Bf low gf cb) ∧ Hid (Keeps no w wr)) (fun i j _ _ => (intOf j - intOf i).toNat)
  case atStart => exact ⟨0, n, rfl, rfl, by omega, hpn, Nat.le_refl _, Lib.hid hJ, Lib.hid hb, Lib.hid (Keeps.refl _ _)⟩
  case round =>
    obtain ⟨lo, hi, rfl, rfl, h1, h2, h3, HJ, HB, HK⟩ := hrel
    by_cases hlt : lo < hi
    · have hc := H.out ((lo + hi) / 2) wr (by have := HN.out; omega) HJ.out HB.out
      rw [show (((lo + hi) / 2 : Nat) : Int) = ((lo : Int) + (hi : Int)) / 2 by omega] at hc
      obtain ⟨b, hbb⟩ : ∃ b, decide (q < low + (lo + hi) / 2 + 1) = b := ⟨_, rfl⟩
      rw [hbb] at hc
      have HC := Lib.hid hc; have HBB := Lib.hid hbb
      have i1 : (lo : Int) < (hi : Int) := by omega
      have i2 : (0 : Int) ≤ (lo : Int) + (hi : Int) := by omega
      have i3 : (lo : Int) + (hi : Int) ≤ 20000 := by omega
      clear hc hbb
      cases b with
      | false =>
        have hq2 : low + (lo + hi) / 2 + 1 ≤ q := by have := HBB.out; simpa using this
        go_wp2_with (go_at_call 87; refine HC.out.mono ?_; rintro e w1 ⟨rfl, hj, hb1, hk⟩)
        go_roundw
        case rel => exact ⟨(lo + hi) / 2 + 1, hi, by go_num, rfl, by have := HP.out; omega, h2, h3, Lib.hid hj, Lib.hid hb1, Lib.hid (HK.out.trans hk)⟩
        case measure => simp [intOf]; omega
      | true =>
        have hq2 : q < low + (lo + hi) / 2 + 1 := by have := HBB.out; simpa using this
        go_wp2_with (go_at_call 87; refine HC.out.mono ?_; rintro e w1 ⟨rfl, hj, hb1, hk⟩)
        go_roundw
        case rel => exact ⟨lo, (lo + hi) / 2, rfl, by go_num, h1, by have := HP.out; omega, by omega, Lib.hid hj, Lib.hid hb1, Lib.hid (HK.out.trans hk)⟩
        case measure => simp [intOf]; omega
    · obtain rfl : lo = p := by omega
      go_wp2
      go_ret
      exact ⟨rfl, HJ.out, HB.out, HK.out⟩

set_option maxRecDepth 100000 in
set_option maxHeartbeats 1000000 in
theorem greatest_any (gf : Nat) (eg : ∀ args w, (callFunc gf args).run Tryz.prog w = .ok (.enter gf args) w) (cb : Array Value) (low high q : Nat) (no : Nat → Prop) (J : World → Prop) (hf : Fits gf cb low high q no J) (hh : high ≤ 9999)
    (hlq : low ≤ q) (hqh : q ≤ high) (hJb : ∀ X Y, J X → Below X.heap.size X Y → J Y) (w : World) (hJ : J w) (hno : ∀ j, no j → j < w.heap.size) :
    Calls Tryz.prog 65 #[.int .i64 (low : Int), .int .i64 (high : Int), .func (.func gf) #[] cb] w fun e w' => e = .returned (.int .i64 (q : Int)) ∧ J w' ∧ Keeps no w w' := by
  have hs := fun u hJ hb => search_any gf eg cb low high q no J hf hh hlq hqh w.heap.size (w.heap.size + 1) u hJ hb (fun e => by have := hno _ e; omega) (fun e => by have := hno _ e; omega)
  rw [show ((high - low : Nat) : Int) = (high : Int) - (low : Int) by omega, show ((q - low : Nat) : Int) = (q : Int) - (low : Int) by omega] at hs
  obtain ⟨W, hW⟩ : ∃ W, (w.alloc (.cells #[.int .i64 (low : Int)] 3)).alloc (.cells #[.func (.func gf) #[] cb] 83) = W := ⟨_, rfl⟩
  have hb0 : Below w.heap.size w W := by rw [← hW]; exact ((Below.refl _ w).alloc (Nat.le_refl _) _).alloc (by simp) _
  have hbx : Boxes W w.heap.size (w.heap.size + 1) low gf cb := by
    rw [← hW]
    refine ⟨(Row.new w _ _).alloc _, ?_⟩
    have := Row.new (w.alloc (.cells #[.int .i64 (low : Int)] 3)) 83 #[.func (.func gf) #[] cb]
    rw [World.size_alloc] at this; exact this
  have hJW := hJb _ _ hJ hb0
  have hKW := Keeps.of_below (no := no) hb0
  have cl := hbx.1.cell 0
  simp only [List.getElem?_toArray, List.getElem?_cons_zero] at cl
  have HS := Lib.hid (fun u (h : (J u ∧ Boxes u w.heap.size (w.heap.size + 1) low gf cb ∧ Keeps no w u) ∧ u.cell? ⟨w.heap.size, 0, none⟩ = some (.int .i64 (low : Int))) => (hs u h.1.1 h.1.2.1).mono
    (R' := fun e u' => e = .returned (.int .i64 ((q : Int) - (low : Int))) ∧ ((J u' ∧ Boxes u' w.heap.size (w.heap.size + 1) low gf cb ∧ Keeps no w u') ∧ u'.cell? ⟨w.heap.size, 0, none⟩ = some (.int .i64 (low : Int))))
    fun e u' ⟨h1, h2, h3, h4⟩ => ⟨h1, ⟨h2, h3, h.1.2.2.trans h4⟩, (h3.1.cell 0).trans rfl⟩)
  have HW := Lib.hid hW
  have HST : (J W.drew ∧ Boxes W.drew w.heap.size (w.heap.size + 1) low gf cb ∧ Keeps no w W.drew) ∧ W.drew.cell? ⟨w.heap.size, 0, none⟩ = some (.int .i64 (low : Int)) :=
    ⟨⟨hJb _ _ hJW (Below.refl _ _).drew, hbx, hKW.trans (Keeps.of_below (Below.refl _ _).drew)⟩, cl⟩
  have s1 : IntKind.i64.wrap ((high : Int) - (low : Int)) = (high : Int) - (low : Int) := IntWalk.i64_in _ (by omega)
  have s2 : IntKind.i64.wrap ((low : Int) + ((q : Int) - (low : Int))) = (q : Int) := by rw [IntWalk.i64_in _ (by omega)]; omega
  have s3 : (low : Int) + ((q : Int) - (low : Int)) = (q : Int) := by omega
  have s4 : IntKind.i64.wrap (q : Int) = (q : Int) := IntWalk.i64_in _ (by omega)
  clear hs hW hb0 hbx hJW hKW hf hJ
  go_enter Tryz.func65, Tryz.ntmps65
  go_wp2
  rw [HW.out]
  go_region_held3 (fun w' => (J w' ∧ Boxes w' w.heap.size (w.heap.size + 1) low gf cb ∧ Keeps no w w') ∧ w'.cell? ⟨w.heap.size, 0, none⟩ = some (.int .i64 (low : Int))) (first | assumption) (first | (go_at_call 86; ((with_reducible refine Calls.mono (HS.out _ ?h1) ?_); (case h1 => assumption); rintro e w7 ⟨rfl, b5⟩)))
  all_goals
    go_wp2
    go_ret
    exact ⟨rfl, (‹(J _ ∧ _ ∧ _) ∧ _›).1.1, (‹(J _ ∧ _ ∧ _) ∧ _›).1.2.2⟩
end Go.Proofs.YtflpfmkfjccmiaaGreatDoor
