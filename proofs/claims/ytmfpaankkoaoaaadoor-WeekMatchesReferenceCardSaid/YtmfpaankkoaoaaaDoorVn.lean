/- Print. -/
import Derived.Test.YtmfpaankkoaoaaaDoorVm
namespace Go.Proofs.YtmfpaankkoaoaaaDoor
open Go.RowKit Go.Shelf
attribute [local go_sem ↓] append_appN

/-- The texts of the groups of the days before day k, in order. -/
def prL (l : List Int) : Nat → List ByteArray
  | 0 => []
  | k + 1 => if hrs l k ≠ 0 ∧ ∀ d, d < k → hrs l d ≠ hrs l k then prL l k ++ [grpT (daysOf l (hrs l k) 7) (hrs l k)] else prL l k
theorem prL_new {l : List Int} {k : Nat} (h0 : hrs l k ≠ 0) (h : ∀ d, d < k → hrs l d ≠ hrs l k) : prL l (k + 1) = prL l k ++ [grpT (daysOf l (hrs l k) 7) (hrs l k)] := by
  rw [prL, if_pos ⟨h0, h⟩]
theorem prL_old {l : List Int} {k : Nat} (h : ¬ (hrs l k ≠ 0 ∧ ∀ d, d < k → hrs l d ≠ hrs l k)) : prL l (k + 1) = prL l k := by
  rw [prL, if_neg h]
theorem prL_len (l : List Int) : ∀ k, (prL l k).length ≤ k
  | 0 => Nat.le_refl _
  | k + 1 => by
    have := prL_len l k
    by_cases h : hrs l k ≠ 0 ∧ ∀ d, d < k → hrs l d ≠ hrs l k
    · rw [prL_new h.1 h.2]; simp; omega
    · rw [prL_old h]; omega
theorem prL_size (l : List Int) (hs : ∀ k, hrs l k ≤ 16777215) : ∀ k, ∀ x ∈ prL l k, x.size ≤ 5501
  | 0, x, hx => by cases hx
  | k + 1, x, hx => by
    by_cases h : hrs l k ≠ 0 ∧ ∀ d, d < k → hrs l d ≠ hrs l k
    · rw [prL_new h.1 h.2] at hx
      rcases List.mem_append.1 hx with hx | hx
      · exact prL_size l hs k x hx
      · simp at hx; subst hx; exact grpT_size _ _ (hs k)
    · rw [prL_old h] at hx; exact prL_size l hs k x hx
theorem prL_ne {l : List Int} {d : Nat} (h0 : hrs l d ≠ 0) : ∀ k, d < k → prL l k ≠ []
  | k + 1, hk => by
    by_cases h : hrs l k ≠ 0 ∧ ∀ e, e < k → hrs l e ≠ hrs l k
    · rw [prL_new h.1 h.2]; simp
    · rw [prL_old h]
      by_cases hd : d < k
      · exact prL_ne h0 k hd
      · have e : d = k := by omega
        subst e
        have h2 : ∃ e, e < d ∧ hrs l e = hrs l d := Classical.byContradiction fun hn => h ⟨h0, fun e he hh => hn ⟨e, he, hh⟩⟩
        obtain ⟨e, he, hh⟩ := h2
        exact prL_ne (d := e) (by rw [hh]; exact h0) d he
theorem join_len2 (sep : List UInt8) (M : Nat) : ∀ (l : List (List UInt8)), (∀ x ∈ l, x.length ≤ M) → (Lib.join l sep).length ≤ (M + sep.length) * l.length
  | [], _ => by simp [Lib.join]
  | [x], h => by rw [Lib.join_one]; have := h x (by simp); simp; omega
  | x :: y :: l, h => by
    have ih := join_len2 sep M (y :: l) (fun z hz => h z (by simp [hz]))
    have hx := h x (by simp)
    have e : Lib.join (x :: y :: l) sep = x ++ sep ++ Lib.join (y :: l) sep := by simp [Lib.join, List.intercalate]
    rw [e]
    simp only [List.length_append, List.length_cons, Nat.mul_add] at ih ⊢
    omega
theorem join_any2 (sep : ByteArray) (xs : List ByteArray) (Y : World) {g base N c : Nat} (hown : Y.ownsRow base 9 1 (.slice (some ⟨g, 0, none⟩) N c) xs.length (xs.map Value.string)) (hsep : sep.size ≤ 10) (hl : xs.length ≤ 7) (hx : ∀ x ∈ xs, x.size ≤ 5501) :
    Calls Tryd.prog 42 #[.slice (some ⟨g, 0, none⟩) xs.length c, .string sep] Y fun e w' => e = .returned (.string ⟨(Lib.join (xs.map (·.data.toList)) sep.data.toList).toArray⟩) ∧ Below Y.heap.size Y w' := by
  have hlen := join_len2 sep.data.toList 5501 (xs.map (·.data.toList)) (fun x h => by obtain ⟨y, hy, rfl⟩ := List.mem_map.1 h; simpa using hx y hy)
  rw [List.length_map] at hlen
  have hq : sep.data.toList.length ≤ 10 := by simpa using hsep
  have hb : (5501 + sep.data.toList.length) * xs.length ≤ 5511 * 7 := Nat.mul_le_mul (by omega) hl
  obtain ⟨A', c', e, hc1, hc2, hA⟩ := own_slice hown
  injection e with e1 e2 e3
  subst e3
  refine Tryd.strings_Join g 0 c xs sep Y (fun j x hj => ?_) (own_cells hown rfl).2.1 (by omega) hc1 (by omega)
  have hj2 : (xs.map Value.string)[j]? = some (.string x) := by rw [List.getElem?_map, hj]; rfl
  have := World.ownsRow.cellAt (by rw [e2] at hown; exact hown) j (by have := (List.getElem?_eq_some_iff.1 hj).1; omega)
  rw [Nat.zero_add, this, hj2]
/-- What is left of the map when the days before day k have been written. -/
structure LeftMap (l : List Int) (k : Nat) (D : DataW Unit) : Prop where
  tidy : Maps.Tidy D
  has : ∀ h, Maps.has D (kI h) = decide (daysOf l h 7 ≠ 0 ∧ ∀ d, d < k → hrs l d ≠ h)
  at0 : ∀ h, (∀ d, d < k → hrs l d ≠ h) → D.atKey (kI h) (.lit (.int .i64 0)) = .lit (.int .i64 (daysOf l h 7 : Int))
theorem leftMap_start {l : List Int} {D : DataW Unit} (h : MapIs D (fun h => daysOf l h 7)) : LeftMap l 0 D :=
  ⟨h.tidy, fun x => by rw [h.has]; simp, fun x _ => h.at0 x⟩
theorem daysOf_zero (l : List Int) : ∀ n, daysOf l 0 n = 0
  | 0 => rfl
  | n + 1 => by unfold daysOf; rw [if_neg (fun h => h.1 rfl)]; exact daysOf_zero l n
theorem leftMap_old {l : List Int} {k : Nat} {D : DataW Unit} (h : LeftMap l k D) (hk : ¬ (hrs l k ≠ 0 ∧ ∀ d, d < k → hrs l d ≠ hrs l k)) : LeftMap l (k + 1) D := by
  have key : ∀ x, daysOf l x 7 ≠ 0 → (∀ d, d < k → hrs l d ≠ x) → hrs l k ≠ x := fun x h1 h2 he => hk ⟨fun h0 => h1 (by rw [← he, h0]; exact daysOf_zero l 7), fun d hd => by rw [he]; exact h2 d hd⟩
  refine ⟨h.tidy, fun x => ?_, fun x hx => h.at0 x fun d hd => hx d (by omega)⟩
  rw [h.has]
  congr 1
  refine propext ⟨fun ⟨h1, h2⟩ => ⟨h1, fun d hd => (Nat.lt_succ_iff_lt_or_eq.1 hd).elim (h2 d) (fun e => by rw [e]; exact key x h1 h2)⟩, fun ⟨h1, h2⟩ => ⟨h1, fun d hd => h2 d (by omega)⟩⟩
theorem leftMap_new {l : List Int} {k : Nat} {D : DataW Unit} (h : LeftMap l k D) : LeftMap l (k + 1) (D.del (kI (hrs l k))) := by
  refine ⟨h.tidy.del _, fun x => ?_, fun x hx => ?_⟩
  · by_cases he : x = hrs l k
    · subst he
      rw [Maps.has_del_same]
      refine (decide_eq_false ?_).symm
      rintro ⟨h1, h2⟩
      exact h2 k (by omega) rfl
    · rw [Maps.has_del_other (kI_ne he), h.has]
      congr 1
      refine propext ⟨fun ⟨h1, h2⟩ => ⟨h1, fun d hd => (Nat.lt_succ_iff_lt_or_eq.1 hd).elim (h2 d) (fun e => by rw [e]; exact fun hh => he hh.symm)⟩, fun ⟨h1, h2⟩ => ⟨h1, fun d hd => h2 d (by omega)⟩⟩
  · have he : x ≠ hrs l k := fun e => hx k (by omega) e.symm
    rw [Maps.atKey_del_other (kI_ne he)]
    exact h.at0 x fun d hd => hx d (by omega)
def never : ByteArray := ⟨#[110, 101, 118, 101, 114]⟩
def semi : ByteArray := ⟨#[59, 32]⟩
/-- The text of a week. -/
def printV (l : List Int) : ByteArray × Int :=
  if validW l then (if (List.range 7).all fun d => hrs l d == 0 then (never, 0) else (⟨(Lib.join ((prL l 7).map (·.data.toList)) semi.data.toList).toArray⟩, 0)) else (⟨#[]⟩, 60)
theorem print_bad {l : List Int} (h : validW l = false) : printV l = (⟨#[]⟩, 60) := by unfold printV; rw [h]; rfl
theorem print_never {l : List Int} (h : validW l = true) (h0 : ∀ d, d < 7 → hrs l d = 0) : printV l = (never, 0) := by
  unfold printV
  rw [h, if_pos rfl, if_pos (by rw [List.all_eq_true]; intro d hd; simp [h0 d (List.mem_range.1 hd)])]
theorem print_some {l : List Int} (h : validW l = true) (h0 : ¬ ∀ d, d < 7 → hrs l d = 0) : printV l = (⟨(Lib.join ((prL l 7).map (·.data.toList)) semi.data.toList).toArray⟩, 0) := by
  unfold printV
  rw [h, if_pos rfl, if_neg (fun hh => h0 fun d hd => by rw [List.all_eq_true] at hh; simpa using hh d (List.mem_range.2 hd))]
theorem hrs_le {l : List Int} (hv : validW l = true) (k : Nat) : hrs l k ≤ 16777215 := by
  by_cases hk : k < l.length
  · exact (hrs_at hv hk).2
  · simp [hrs, List.getElem?_eq_none (show l.length ≤ k by omega)]
theorem lit_eq {x : DataW Unit} {c d : Int} (h : x = .lit (.int .i64 c)) (h' : x = .lit (.int .i64 d)) : c = d := by
  have e := h.symm.trans h'
  injection e with e1
  injection e1 with _ e2
theorem print_far {w5 : World} {v : Value} {n0 n MB : Nat} {xs : List Value} (own5 : w5.ownsRow n0 9 1 v n xs) (hm : MB < n0) : some MB ≠ v.ownBlock := fun e => by have := (own_cells own5 e.symm).1; omega
theorem print_mid {w wr w5 w6 : World} {v : Value} {n0 n : Nat} {xs : List Value} {T : ByteArray} (hb : Below w.heap.size w wr) (hb5 : Below wr.heap.size wr w5) (own5 : w5.ownsRow n0 9 1 v n xs) (hgr : (w5.alloc (.cells #[.string T] 9)).grownBy w6 v.ownBlock) (hn : w.heap.size ≤ n0 := by omega) : Below w.heap.size w w6 ∧ wr.heap.size ≤ w6.heap.size := by
  have h1 := below_to hb hb5
  have hs := hgr.size
  rw [World.size_alloc] at hs
  exact ⟨(h1.alloc h1.size _).grown hgr (by have := h1.size; simp; omega) (fun r e => by have := (own_cells own5 e).1; omega), by have := hb5.size; omega⟩
theorem print_own {w6 w7 : World} {v : Value} {n0 n MB : Nat} {xs : List Value} (own6 : w6.ownsRow n0 9 1 v n xs) (hgr : w6.grownBy w7 (some MB)) (hm : MB < n0) : w7.ownsRow n0 9 1 v n xs :=
  own_keep own6 fun k e => by
    have := own_cells own6 e
    exact hgr.block k this.2.1 (fun h => by cases h; omega)
/-- Where the printing loop stands before day k. -/
def PrRel (l : List Int) (w : World) (MB n0 k : Nat) (tx : Value) (wr : World) : Prop :=
  (∃ (D : DataW Unit) (N : Nat), wr.ownsMap Tryd.prog 3 (plainElem (H := Unit) Tryd.prog 3) MB N D ∧ LeftMap l k D) ∧ wr.ownsRow n0 9 1 tx (prL l k).length ((prL l k).map Value.string) ∧ Below w.heap.size w wr ∧ n0 ≤ wr.heap.size
set_option maxRecDepth 100000 in
set_option maxHeartbeats 8000000 in
theorem print_any (l : List Int) (h7 : l.length = 7) (w : World) (ht : Tabs w) : Calls Tryd.prog 25 #[wv l] w fun e w' =>
    e = .returned (.tuple #[.string (printV l).1, .int .i64 (printV l).2]) ∧ Below w.heap.size w w' := by
  have HVA := Lib.hid (fun u => valid_any l h7 u)
  have HDB := Lib.hid (fun hv u => daysByHours_any l h7 hv u)
  have HI := Lib.hid (fun hv k (hk : k < 7) (w : World) => run_index_week l h7 k _ (hrs_at hv (show k < l.length by omega)).1 w)
  have HT := Lib.hid ht
  obtain ⟨LL, hL⟩ : ∃ LL, l = LL := ⟨_, rfl⟩
  obtain ⟨x0, x1, x2, x3, x4, x5, x6, rfl⟩ := seven h7
  have hwv : wv LL = .agg #[.int .i64 x0, .int .i64 x1, .int .i64 x2, .int .i64 x3, .int .i64 x4, .int .i64 x5, .int .i64 x6] := by rw [← hL]; rfl
  simp only [hL] at HVA HDB HI ⊢
  rw [hwv] at HVA HDB HI ⊢
  clear hwv h7 hL ht
  cases h1 : validW LL with
  | false =>
    have HV := Lib.hid (fun u => h1 ▸ HVA.out u)
    have HB := Lib.hid (print_bad h1)
    clear HVA HDB HI h1
    go_enter Tryd.func25, Tryd.ntmps25
    go_wp2_with (go_at_call 6; ((with_reducible refine Calls.mono (HV.out _) ?_)); rintro e' w1 ⟨rfl, hb1⟩; obtain ⟨hk1, hs1, hr1⟩ := kept_row hb1; have HB1 := Lib.hid hk1; clear hb1 hk1 hr1)
    refine bodyPost_ret (results_tmp2 rfl _ _ _) rfl ?_
    exact ⟨by rw [HB.out]; rfl, HB1.out⟩
  | true =>
    have HV := Lib.hid (fun u => h1 ▸ HVA.out u)
    have HD := Lib.hid (fun u => HDB.out h1 u)
    have HIX := Lib.hid (fun k (hk : k < 7) (w : World) => HI.out h1 k hk w)
    have HLE := Lib.hid (fun k => hrs_le h1 k)
    have HNV := Lib.hid (fun h => print_never h1 h)
    have HSM := Lib.hid (fun h => print_some h1 h)
    clear HVA HDB HI h1
    have hmm := @run_makeMap Tryd.prog
    go_enter Tryd.func25, Tryd.ntmps25
    go_upto_region 4 with (first | (go_at_call 6; ((with_reducible refine Calls.mono (HV.out _) ?_)); rintro e' w1 ⟨rfl, hb1⟩; obtain ⟨hk1, hs1, hr1⟩ := kept_row hb1; have HB1 := Lib.hid hk1; have HW1 := Lib.hid hr1; obtain ⟨y0, y1, y2, y3, y4, y5, y6, -⟩ := seven_cells (show Row w1 w.heap.size 23 (ints [x0, x1, x2, x3, x4, x5, x6]) from hr1); clear hb1 hk1 hr1) | (go_at_call 40; ((with_reducible refine Calls.mono (HD.out _) ?_)); rintro e' w2 ⟨rfl, hdm⟩; have HDM := Lib.hid hdm; clear hdm))
    obtain ⟨D0, N0, hown, hN, hmi, hsz, hbw⟩ := HDM.out
    have HLM := Lib.hid (leftMap_start hmi)
    have HN0 := Lib.hid hN
    have HSZ := Lib.hid hsz
    have HOW0 := Lib.hid hown
    have HB2 := Lib.hid (below_to HB1.out hbw)
    have hW2 := HW1.out.below hbw HW1.out.lt
    obtain ⟨y0', y1', y2', y3', y4', y5', y6', -⟩ := seven_cells (show Row w2 w.heap.size 23 (ints [x0, x1, x2, x3, x4, x5, x6]) from hW2)
    have hsz12 := hbw.size
    have hmlt := hown.lt
    clear y0 y1 y2 y3 y4 y5 y6 hmi hsz hbw hW2 HDM hN
    obtain ⟨MB, hMB⟩ : ∃ MB, w1.heap.size + 1 = MB := ⟨_, rfl⟩
    rw [hMB] at hown HOW0 hmlt ⊢
    have hMBw : w.heap.size < MB := by omega
    clear hMB
    by_cases hz : ∀ d, d < 7 → hrs LL d = 0
    · have HR := Lib.hid (HNV.out hz)
      have hsz0 : Maps.size D0 = 0 := HSZ.out.2 hz
      clear hz
      go_wp2_with (at_len; refine wpList_len_own _ rfl _ 60 rfl 3 3 Tryd.underlying60 _ MB N0 D0 rfl hown ?_; rw [hsz0])
      refine bodyPost_ret (results_tmp2 rfl _ _ _) rfl ?_
      exact ⟨by rw [HR.out]; rfl, HB2.out⟩
    · have HR := Lib.hid (HSM.out hz)
      have hsz0 : Maps.size D0 ≠ 0 := fun h => hz (HSZ.out.1 h)
      have t1 : ((Maps.size D0 : Int) == 0) = false := by simp; omega
      have HNZ := Lib.hid hz
      clear hz
      go_upto_if 4 with (at_len; refine wpList_len_own _ rfl _ 60 rfl 3 3 Tryd.underlying60 _ MB N0 D0 rfl hown ?_)
      have HP0 : Hid (PrRel LL w MB w2.heap.size 0 (.slice none 0 0) w2) := Lib.hid ⟨⟨D0, N0, HOW0.out, HLM.out⟩, World.ownsRow_nil w2 _ _ _, HB2.out, Nat.le_refl _⟩
      clear HOW0 HLM HN0 HSZ hsz0 t1 hown
      go_loopw [5, 7, 8, 9, 19] (fun tx _ _ _ i wr => ∃ k : Nat, k ≤ 7 ∧ i = .int .i64 (k : Int) ∧ Hid (PrRel LL w MB w2.heap.size k tx wr)) (fun _ _ _ _ i _ => 7 - (intOf i).toNat)
      case atStart => exact ⟨0, by omega, rfl, HP0⟩
      case round =>
        obtain ⟨k, hk, rfl, HPR⟩ := hrel
        have i1 : (0 : Int) ≤ (k : Int) := by omega
        by_cases hlt : k < 7
        · have i2 : (k : Int) < 7 := by omega
          have hidx := fun w => HIX.out k hlt w
          have hle := HLE.out k
          obtain ⟨⟨D, N, hown, hlm⟩, hrow, hbw, hn0⟩ := HPR.out
          by_cases hc : hrs LL k ≠ 0 ∧ ∀ d, d < k → hrs LL d ≠ hrs LL k
          · have hhas : Maps.has D (kI (hrs LL k)) = true := by
              rw [hlm.has]
              exact decide_eq_true ⟨(daysOf_ne LL _ hc.1 7).2 ⟨k, hlt, rfl⟩, hc.2⟩
            have hat0 := hlm.at0 (hrs LL k) hc.2
            have hnew := leftMap_new hlm
            have hpr := prL_new hc.1 hc.2
            have hpl := prL_len LL k
            have hset0 := (daysOf_ne LL _ hc.1 7).2 ⟨k, hlt, rfl⟩
            have hset7 := daysOf_lt LL (hrs LL k) 7
            have h0 := hc.1
            obtain ⟨h, hh⟩ : ∃ h, hrs LL k = h := ⟨_, rfl⟩
            rw [hh] at hidx hle hhas hat0 hnew hpr hset0 hset7 h0
            obtain ⟨ss, hss⟩ : ∃ ss, daysOf LL h 7 = ss := ⟨_, rfl⟩
            rw [hss] at hat0 hpr hset0 hset7
            have HTX := Lib.hid (fun u hu => text_any ss h (by omega) hset0 hle h0 u hu)
            have HTW := Lib.hid (HT.out.next hbw)
            have HKEY := Lib.hid (keyI h hle)
            have HAT := Lib.hid hat0
            have HHAS := Lib.hid hhas
            have HNEW := Lib.hid hnew
            have HPRL := Lib.hid hpr
            have HROW := Lib.hid hrow
            have HBW := Lib.hid hbw
            have HOM := Lib.hid hown
            have HN0 := Lib.hid hn0
            have HPL := Lib.hid hpl
            obtain ⟨TX, hTX⟩ : ∃ TX, grpT ss h = TX := ⟨_, rfl⟩
            rw [hTX] at HTX HPRL
            clear hc hhas hat0 hnew hpr hpl hset0 hset7 h0 hh hss hTX hrow hbw hle hlm hn0
            go_wp2_with (first | (at_lookup; refine wpList_lookup_own_ok_int _ rfl _ _ 60 rfl 3 3 .i64 (Maps.int_keyed Tryd.underlying3) Tryd.underlying60 Tryd.underlying3 (zeroI _) MB N D rfl hown _ _ rfl HKEY.out ?_; intro c hat hwc; have hce := lit_eq hat HAT.out; clear hat hwc; subst hce; rw [HHAS.out]) | (go_at_call 41; ((with_reducible refine Calls.mono (HTX.out _ HTW.out) ?_)); rintro e' w5 ⟨rfl, hb5⟩; have own5 := own_below HROW.out hb5; have l5 := hb5.size; obtain ⟨A6, c6, w6, hrun, hown6, hgr6, hloc6⟩ := push_str TX own5 (Nat.le_trans HPL.out (Nat.le_trans hk (by decide))) (Nat.le_trans HN0.out l5); have hm6 := ((omap_below HOM.out hb5).alloc (.cells #[.string TX] 9)).kept hgr6 (print_far own5 hmlt); have H6 := Lib.hid (print_mid HBW.out hb5 own5 hgr6); have HO6 := Lib.hid hown6; clear hb5 own5 hown6 hgr6 hloc6) | (at_delete; refine wpList_delete_own _ rfl _ _ 60 3 rfl 3 (Maps.int_keyed Tryd.underlying3) Tryd.underlying60 _ MB N D rfl hm6 _ _ rfl HKEY.out ?_; intro w7 hm7 hturn7))
            go_roundw
            case rel => exact ⟨k + 1, by omega, by go_num, Lib.hid ⟨⟨_, N, hm7, HNEW.out⟩, by rw [HPRL.out, List.length_append, List.map_append]; exact print_own HO6.out hturn7.grown hmlt, H6.out.1.grown hturn7.grown H6.out.1.size (fun r e => by cases e; omega), Nat.le_trans HN0.out (Nat.le_trans H6.out.2 hturn7.grown.size)⟩⟩
            case measure => simp [intOf]; omega
          · have hhas : Maps.has D (kI (hrs LL k)) = false := by
              rw [hlm.has]
              refine decide_eq_false ?_
              rintro ⟨g1, g2⟩
              exact hc ⟨fun h0 => g1 (by rw [h0]; exact daysOf_zero LL 7), g2⟩
            have HNX : Hid (PrRel LL w MB w2.heap.size (k + 1) _ wr) := Lib.hid ⟨⟨D, N, hown, leftMap_old hlm hc⟩, by rw [prL_old hc]; exact hrow, hbw, hn0⟩
            obtain ⟨h, hh⟩ : ∃ h, hrs LL k = h := ⟨_, rfl⟩
            rw [hh] at hidx hle hhas
            have HKEY := Lib.hid (keyI h hle)
            have HHAS := Lib.hid hhas
            clear hc hhas hh hrow hbw hle hlm hn0
            go_wp2_with (at_lookup; refine wpList_lookup_own_ok_int _ rfl _ _ 60 rfl 3 3 .i64 (Maps.int_keyed Tryd.underlying3) Tryd.underlying60 Tryd.underlying3 (zeroI _) MB N D rfl hown _ _ rfl HKEY.out ?_; intro c hat hwc; clear hat hwc; rw [HHAS.out])
            go_roundw
            case rel => exact ⟨k + 1, by omega, by go_num, HNX⟩
            case measure => simp [intOf]; omega
        · obtain rfl : k = 7 := by omega
          obtain ⟨-, hrow, hbw, hn0⟩ := HPR.out
          have hne : prL LL 7 ≠ [] := fun h => HNZ.out fun d hd => Classical.byContradiction fun h0 => prL_ne h0 7 hd h
          have hszs := prL_size LL HLE.out 7
          have hlen := prL_len LL 7
          have hpos := List.length_pos_iff.2 hne
          have hres := HR.out
          obtain ⟨TX, hTX⟩ : ∃ TX, prL LL 7 = TX := ⟨_, rfl⟩
          rw [hTX] at hrow hszs hlen hpos hres
          obtain ⟨A, c, rfl, hc1, hc2, hA⟩ := own_slice hrow
          obtain ⟨g, rfl, hg1, hg2⟩ : ∃ g, A = some ⟨g, 0, none⟩ ∧ w2.heap.size ≤ g ∧ g < wr.heap.size := by
            rcases hA with ⟨-, h0⟩ | h
            · omega
            · exact h
          have HJ := Lib.hid (join_any2 semi TX wr hrow (by decide) hlen hszs)
          have HBW := Lib.hid hbw
          obtain ⟨res, hrs2⟩ : ∃ r : ByteArray, ⟨(Lib.join (TX.map (·.data.toList)) semi.data.toList).toArray⟩ = r := ⟨_, rfl⟩
          rw [hrs2] at HJ hres
          have HRES := Lib.hid hres
          obtain ⟨M, hM⟩ : ∃ M, TX.length = M := ⟨_, rfl⟩
          rw [hM] at HJ ⊢
          unfold semi at HJ
          clear hrow hszs hlen hpos hne hTX hc1 hc2 hA hrs2 hM hbw hres hn0
          go_wp2_with (go_at_call 42; ((with_reducible refine Calls.mono HJ.out ?_)); rintro e' w8 ⟨rfl, hb8⟩)
          refine bodyPost_ret (results_tmp2 rfl _ _ _) rfl ?_
          exact ⟨by rw [HRES.out]; rfl, below_to HBW.out hb8⟩
end Go.Proofs.YtmfpaankkoaoaaaDoor
