/- daysByHours. -/
import Derived.Maps.Views
import Derived.Maps.OwnSet
import Derived.Test.YtmfpaankkoaoaaaDoorVl
namespace Go.Proofs.YtmfpaankkoaoaaaDoor
open Go.RowKit Go.Shelf

/-- The days before day n that have just the hours h. -/
def daysOf (l : List Int) (h : Nat) : Nat → Nat
  | 0 => 0
  | n + 1 => if h ≠ 0 ∧ hrs l n = h then daysOf l h n ||| 2 ^ n else daysOf l h n
theorem daysOf_lt (l : List Int) (h : Nat) : ∀ n, daysOf l h n < 2 ^ n
  | 0 => by simp [daysOf]
  | n + 1 => by
    have h1 := daysOf_lt l h n
    have h2 : (2 : Nat) ^ (n + 1) = 2 ^ n * 2 := Nat.pow_succ ..
    unfold daysOf
    split
    · exact Nat.or_lt_two_pow (by omega) (by omega)
    · omega
theorem daysOf_ne (l : List Int) (h : Nat) (h0 : h ≠ 0) : ∀ n, daysOf l h n ≠ 0 ↔ ∃ d, d < n ∧ hrs l d = h
  | 0 => by simp [daysOf]
  | n + 1 => by
    unfold daysOf
    by_cases hc : hrs l n = h
    · rw [if_pos ⟨h0, hc⟩]
      refine ⟨fun _ => ⟨n, by omega, hc⟩, fun _ hz => ?_⟩
      have : (daysOf l h n ||| 2 ^ n).testBit n = true := by rw [Nat.testBit_or, Nat.testBit_two_pow_self, Bool.or_true]
      rw [hz, Nat.zero_testBit] at this
      cases this
    · rw [if_neg (fun h => hc h.2), daysOf_ne l h h0 n]
      exact ⟨fun ⟨d, h1, h2⟩ => ⟨d, by omega, h2⟩, fun ⟨d, h1, h2⟩ => ⟨d, (Nat.lt_succ_iff_lt_or_eq.1 h1).elim id (fun h => absurd (by rw [← h]; exact h2) hc), h2⟩⟩
abbrev kI (h : Nat) : Lit := .int .i64 (h : Int)
theorem kI_ne {a b : Nat} (h : a ≠ b) : kI a ≠ kI b := fun e => h (by injection e with _ e2; omega)
theorem kI_key (h : Nat) : WideAt.IsKeyLit (kI h) := trivial
/-- The map reads as S says, where S is no 0. -/
structure MapIs (D : DataW Unit) (S : Nat → Nat) : Prop where
  tidy : Maps.Tidy D
  has : ∀ h, Maps.has D (kI h) = decide (S h ≠ 0)
  at0 : ∀ h, D.atKey (kI h) (.lit (.int .i64 0)) = .lit (.int .i64 (S h : Int))
theorem MapIs.put {D : DataW Unit} {S : Nat → Nat} (hm : MapIs D S) (h v : Nat) (hv : v ≠ 0) : MapIs (D.put (kI h) (.lit (.int .i64 (v : Int)))) (fun x => if x = h then v else S x) := by
  refine ⟨hm.tidy.put (kI_key h) _, fun x => ?_, fun x => ?_⟩
  · by_cases hx : x = h
    · subst hx; rw [Maps.has_put_same hm.tidy.isMap (kI_key x)]; simp [hv]
    · rw [Maps.has_put_other (kI_ne hx), hm.has]; simp [hx]
  · by_cases hx : x = h
    · subst hx; rw [Maps.atKey_put_same hm.tidy.isMap (kI_key x)]; simp
    · rw [Maps.atKey_put_other (kI_ne hx), hm.at0]; simp [hx]
theorem zeroI (w : World) : (zeroValue 3).run Tryd.prog w = .ok (.int .i64 0) w := by kernel_rfl
theorem keyI (h : Nat) (hh : h ≤ 16777215) : keyOf Tryd.prog 3 (.int .i64 (h : Int)) = some (kI h) := Maps.keyOf_int_mk Tryd.underlying3 (WalkArith.wf_i64 (by omega))
theorem valI (v : Nat) (hv : v ≤ 16777215) : plainElem (H := Unit) Tryd.prog 3 (.int .i64 (v : Int)) = some (.lit (.int .i64 (v : Int)), []) := plainElem_int Tryd.underlying3 (WalkArith.wf_i64 (by omega))
theorem omap_below {w w' : World} {b n : Nat} {D : DataW Unit} (h : w.ownsMap Tryd.prog 3 (plainElem (H := Unit) Tryd.prog 3) b n D) (hb : Below w.heap.size w w') : w'.ownsMap Tryd.prog 3 (plainElem (H := Unit) Tryd.prog 3) b n D := by
  have hlt := h.lt
  obtain ⟨es, clock, h1, F, hs, hD⟩ := h
  exact ⟨es, clock, (hb.block b hlt).trans h1, F, hs, hD⟩
/-- Where the map stands after some days. -/
def DayMap (l : List Int) (w wr : World) (k : Nat) : Prop := ∃ (D : DataW Unit) (N : Nat), wr.ownsMap Tryd.prog 3 (plainElem (H := Unit) Tryd.prog 3) (w.heap.size + 1) N D ∧ N ≤ k ∧ MapIs D (fun h => daysOf l h k) ∧ (Maps.size D = 0 ↔ ∀ d, d < k → hrs l d = 0) ∧ Below w.heap.size w wr
theorem or_ne {a n : Nat} : a ||| 2 ^ n ≠ 0 := fun hz => by
  have : (a ||| 2 ^ n).testBit n = true := by rw [Nat.testBit_or, Nat.testBit_two_pow_self, Bool.or_true]
  rw [hz, Nat.zero_testBit] at this
  cases this
theorem mapIs_step {l : List Int} {k : Nat} {D : DataW Unit} (h0 : hrs l k ≠ 0) (hm : MapIs D (fun h => daysOf l h k)) (hs : Maps.size D = 0 ↔ ∀ d, d < k → hrs l d = 0) :
    MapIs (D.put (kI (hrs l k)) (.lit (.int .i64 ((daysOf l (hrs l k) k ||| 2 ^ k : Nat) : Int)))) (fun h => daysOf l h (k + 1)) ∧ (Maps.size (D.put (kI (hrs l k)) (.lit (.int .i64 ((daysOf l (hrs l k) k ||| 2 ^ k : Nat) : Int)))) = 0 ↔ ∀ d, d < k + 1 → hrs l d = 0) := by
  have e : (fun x => if x = hrs l k then daysOf l (hrs l k) k ||| 2 ^ k else daysOf l x k) = fun h => daysOf l h (k + 1) := by
    funext x
    show _ = if x ≠ 0 ∧ hrs l k = x then daysOf l x k ||| 2 ^ k else daysOf l x k
    by_cases hx : x = hrs l k
    · subst hx; rw [if_pos rfl, if_pos ⟨h0, rfl⟩]
    · rw [if_neg hx, if_neg (fun h => hx h.2.symm)]
  refine ⟨by rw [← e]; exact hm.put _ _ or_ne, ?_⟩
  rw [Maps.size_put hm.tidy]
  constructor
  · intro h
    exfalso
    split at h
    · rename_i hh
      rw [hm.has] at hh
      have := (daysOf_ne l (hrs l k) h0 k).1 (by simpa using hh)
      obtain ⟨d, hd, he⟩ := this
      have := hs.1 h d hd
      omega
    · omega
  · intro h
    exact absurd (h k (by omega)) h0
set_option maxRecDepth 100000 in
set_option maxHeartbeats 4000000 in
theorem daysByHours_any (l : List Int) (h7 : l.length = 7) (hv : validW l = true) (w : World) : Calls Tryd.prog 40 #[wv l] w fun e w' =>
    e = .returned (.map (some (w.heap.size + 1))) ∧ DayMap l w w' 7 := by
  have HI := Lib.hid (fun k (hk : k < 7) (w : World) => run_index_week l h7 k _ (hrs_at hv (show k < l.length by omega)).1 w)
  have HS := Lib.hid (fun k (hk : k < 7) => (hrs_at hv (show k < l.length by omega)).2)
  obtain ⟨LL, hL⟩ : ∃ LL, l = LL := ⟨_, rfl⟩
  obtain ⟨x0, x1, x2, x3, x4, x5, x6, rfl⟩ := seven h7
  have hwv : wv LL = .agg #[.int .i64 x0, .int .i64 x1, .int .i64 x2, .int .i64 x3, .int .i64 x4, .int .i64 x5, .int .i64 x6] := by rw [← hL]; rfl
  simp only [hL] at HI HS ⊢
  rw [hwv] at HI ⊢
  clear hwv h7 hL hv
  have hmm := @run_makeMap Tryd.prog
  have HM0 : Hid (DayMap LL w ((w.alloc (.cells #[.int .i64 x0, .int .i64 x1, .int .i64 x2, .int .i64 x3, .int .i64 x4, .int .i64 x5, .int .i64 x6] 23)).alloc (.map #[] 0)) 0) := Lib.hid (by
    have h1 := World.ownsMap_made (H := Unit) (w.alloc (.cells #[.int .i64 x0, .int .i64 x1, .int .i64 x2, .int .i64 x3, .int .i64 x4, .int .i64 x5, .int .i64 x6] 23)) Tryd.prog 3 (plainElem (H := Unit) Tryd.prog 3)
    rw [World.size_alloc] at h1
    exact ⟨_, 0, h1, Nat.le_refl _, ⟨Maps.tidy_empty, fun h => by simp [daysOf, Maps.has], fun h => by simp [daysOf]; rfl⟩, ⟨fun _ d hd => by omega, fun _ => rfl⟩, ((Below.refl _ w).alloc (Nat.le_refl _) _).alloc (by simp) _⟩)
  go_enter Tryd.func40, Tryd.ntmps40
  go_wp2
  go_loopw [4, 5, 8] (fun _ _ i wr => ∃ k : Nat, k ≤ 7 ∧ i = .int .i64 (k : Int) ∧ Hid (DayMap LL w wr k)) (fun _ _ i _ => 7 - (intOf i).toNat)
  case atStart => exact ⟨0, by omega, rfl, HM0⟩
  case round =>
    obtain ⟨k, hk, rfl, HDM⟩ := hrel
    have i1 : (0 : Int) ≤ (k : Int) := by omega
    by_cases hlt : k < 7
    · have i2 : (k : Int) < 7 := by omega
      have hidx := fun w => HI.out k hlt w
      have hle := HS.out k hlt
      obtain ⟨D, N, hown, hN, hmi, hsz, hbw⟩ := HDM.out
      by_cases h0 : hrs LL k = 0
      · have HNX : Hid (DayMap LL w wr (k + 1)) := Lib.hid ⟨D, N, hown, by omega, by
          have e : (fun h => daysOf LL h (k + 1)) = fun h => daysOf LL h k := by
            funext x
            show (if x ≠ 0 ∧ hrs LL k = x then _ else _) = _
            rw [if_neg (fun h => h.1 (h.2.symm.trans h0))]
          rw [e]; exact hmi, ⟨fun h d hd => (Nat.lt_succ_iff_lt_or_eq.1 hd).elim (fun h1 => hsz.1 h d h1) (fun h1 => by rw [h1]; exact h0), fun h => hsz.2 fun d hd => h d (by omega)⟩, hbw⟩
        rw [h0] at hidx
        have t1 : ((0 : Int) == 0) = true := rfl
        clear hown hN hmi hsz hbw h0 hle
        go_wp2
        go_roundw
        case rel => exact ⟨k + 1, by omega, by go_num, HNX⟩
        case measure => simp [intOf]; omega
      · have hst := mapIs_step h0 hmi hsz
        obtain ⟨h, hh⟩ : ∃ h, hrs LL k = h := ⟨_, rfl⟩
        rw [hh] at hidx hst h0 hle
        have t1 : ((h : Int) == 0) = false := by simp; omega
        have t2 : ((h : Int) != 0) = true := by simp; omega
        have HRUN0 := fun u => run_c k (k + 1) (by omega) (by omega) u
        have hm : (2 : Nat) ^ (k + 1) - 2 ^ k = 2 ^ k := by rw [Nat.pow_succ]; omega
        rw [hm, Int.natCast_add] at HRUN0
        have hp7 : (2 : Nat) ^ k ≤ 2 ^ 6 := Nat.pow_le_pow_right (by decide) (by omega)
        have hd7 := daysOf_lt LL h k
        have hd8 : (2 : Nat) ^ k ≤ 2 ^ 7 := Nat.pow_le_pow_right (by decide) (by omega)
        have hor : daysOf LL h k ||| 2 ^ k < 2 ^ 7 := Nat.or_lt_two_pow (by omega) (by omega)
        have hat := hmi.at0 h
        obtain ⟨c, hc⟩ : ∃ c, daysOf LL h k = c := ⟨_, rfl⟩
        obtain ⟨m, hmm2⟩ : ∃ m, (2 : Nat) ^ k = m := ⟨_, rfl⟩
        rw [hc] at hst hat hor hd7
        rw [hmm2] at hst hor HRUN0 hp7 hd8 hd7
        have OR := bits_or64 c m (by omega) (by omega)
        have HRUN := Lib.hid HRUN0
        have HWR := Lib.hid (show IntKind.i64.wrap ((k : Int) + 1) = (k : Int) + ((1 : Nat) : Int) from IntWalk.i64_in _ (by omega))
        have HN := Lib.hid (show N ≤ 7 by omega)
        have HOW := Lib.hid hown
        have HKEY := Lib.hid (keyI h hle)
        have HVAL := Lib.hid (valI (c ||| m) (by omega))
        have HLK := Lib.hid (fun u (hu : u.ownsMap Tryd.prog 3 (plainElem (H := Unit) Tryd.prog 3) (w.heap.size + 1) N D) => show (Instr.lookup 60 (.map (some (w.heap.size + 1))) (.int .i64 (h : Int)) false).run Tryd.prog u = .ok (.int .i64 (c : Int)) u by
          obtain ⟨c', hrun, hat', -⟩ := hu.lookup_int (Maps.int_keyed Tryd.underlying3) Tryd.underlying60 Tryd.underlying3 (zeroI u) (keyI h hle)
          rw [hat] at hat'
          injection hat' with e1
          injection e1 with _ e2
          rw [hrun, ← e2])
        have hl0 := HLK.out wr.drew hown.drew
        have hbsz := hbw.size
        have HFI := Lib.hid (fun w5 w6 (hb5 : Below wr.heap.size wr w5) (own6 : w6.ownsMap Tryd.prog 3 (plainElem (H := Unit) Tryd.prog 3) (w.heap.size + 1) (N + 1) (D.put (kI h) (.lit (.int .i64 ((c ||| m : Nat) : Int))))) (hgr6 : w5.grownBy w6 (some (w.heap.size + 1))) => show Hid (DayMap LL w w6 (k + 1)) from
          Lib.hid ⟨_, N + 1, own6, by omega, hst.1, hst.2, (below_to hbw hb5).grown hgr6 (below_to hbw hb5).size (fun r e => by cases e; omega)⟩)
        clear hown hN hmi hsz hbw hst hat hor hd7 hd8 hp7 HRUN0 hc hmm2 hh hm h0
        go_upto_region 6 with (fail)
        refine wp_region_held_drew (S := fun _ => True) (by kernel_rfl) trivial (fun hHeld => ?_)
        refine wpAnyH_take (i := 0) (oi := _) (v := ?_) rfl (by kernel_rfl) (by kernel_rfl) (by kernel_rfl) (fun _ _ _ h => h) (Or.inl ⟨by rfl, ?_⟩) (by assumption) ?_
        rotate_left
        · (intro w hSw; (try dsimp only at hSw); go_simp; all_goals (with_reducible rfl))
        (try simp only [Act.put])
        refine wpAnyH_take (i := 1) (oi := _) (v := ?_) rfl (by kernel_rfl) (by kernel_rfl) (by kernel_rfl) (fun _ _ _ h => h) (Or.inl ⟨by rfl, ?_⟩) (by assumption) ?_
        rotate_left
        · (intro w hSw; (try dsimp only at hSw); go_simp; all_goals (with_reducible rfl))
        (try simp only [Act.put])
        refine wpAnyH_take (i := 3) (oi := _) (v := ?_) rfl (by kernel_rfl) (by kernel_rfl) (by kernel_rfl) (fun _ _ _ h => h) (Or.inl ⟨by rfl, ?_⟩) (by assumption) ?_
        rotate_left
        · (intro w hSw; (try dsimp only at hSw); go_simp; all_goals (with_reducible rfl))
        (try simp only [Act.put])
        refine wpAnyH_take (i := 4) (oi := _) (v := ?_) rfl (by kernel_rfl) (by kernel_rfl) (by kernel_rfl) (fun _ _ _ h => h) (Or.inl ⟨by rfl, ?_⟩) (by assumption) ?_
        rotate_left
        · (intro w hSw; (try dsimp only at hSw); go_simp; all_goals (with_reducible rfl))
        (try simp only [Act.put])
        refine wpAnyH_take (i := 5) (oi := _) (v := ?_) rfl (by kernel_rfl) (by kernel_rfl) (by kernel_rfl) (fun _ _ _ h => h) (Or.inl ⟨by rfl, ?_⟩) (by assumption) ?_
        rotate_left
        · (intro w hSw; (try dsimp only at hSw); go_simp; all_goals (with_reducible rfl))
        (try simp only [Act.put])
        refine wpAnyH_ready (rs := [2, 6]) (by kernel_rfl) (by simp) ?_
        refine AllReadyH.cons (o := _) rfl (fun K hK => ?_) ?_
        · go_simp
          refine hK.out _ _ ?_ (fun hHeld => ?_)
          · (try dsimp only)
            all_goals trivial
          clear hK K
          (try simp only [Act.put, List.setIfInBounds_toArray, List.set_cons_zero, List.set_cons_succ])
          refine wpAnyH_ready (rs := [6]) (by kernel_rfl) (by simp) ?_
          refine AllReadyH.cons (o := _) rfl (fun K hK => ?_) ?_
          · go_simp
            (go_at_call 56; rw [HWR.out]; ((with_reducible refine Calls.mono (HRUN.out _) ?_); rintro e w5 ⟨rfl, hb5⟩))
            have own5 : w5.ownsMap Tryd.prog 3 (plainElem (H := Unit) Tryd.prog 3) (w.heap.size + 1) N D := omap_below (w := wr.drew) HOW.out hb5
            obtain ⟨w6, hup, own6, hgr6⟩ := own5.update (Maps.int_keyed Tryd.underlying3) Tryd.underlying60 (by unfold maxLen; have := HN.out; omega) (key := .int .i64 (h : Int)) (kl := .int .i64 (h : Int)) (val := .int .i64 ((c ||| m : Nat) : Int)) HKEY.out HVAL.out
            have H6 := Lib.hid (And.intro hb5 (And.intro own6 hgr6))
            have hl5 : (Instr.lookup 60 (.map (some (w.heap.size + 1))) (.int .i64 (h : Int)) false).run Tryd.prog w5 = .ok (.int .i64 (c : Int)) w5 := HLK.out _ own5
            clear hb5 own5 own6 hgr6
            refine hK.out _ _ ?_ (fun hHeld => ?_)
            · (try dsimp only)
              all_goals trivial
            clear hK K
            (try simp only [Act.put, List.setIfInBounds_toArray, List.set_cons_zero, List.set_cons_succ])
            refine wpAnyH_take (i := 7) (oi := _) (v := ?_) rfl (by kernel_rfl) (by kernel_rfl) (by kernel_rfl) (fun _ _ _ h => h) (Or.inl ⟨by rfl, ?_⟩) (by assumption) ?_
            rotate_left
            · (intro w hSw; (try dsimp only at hSw); go_simp; all_goals (with_reducible rfl))
            (try simp only [Act.put])
            refine wpAnyH_ready (rs := [8]) (by kernel_rfl) (by simp) ?_
            refine AllReadyH.cons (o := _) rfl (fun K hK => ?_) ?_
            · go_simp
              refine hK.out _ _ ?_ (fun hHeld => ?_)
              · (try dsimp only)
                all_goals trivial
              clear hK K
              (try simp only [Act.put, List.setIfInBounds_toArray, List.set_cons_zero, List.set_cons_succ])
              refine wpAnyH_done (by kernel_rfl) ?_ _
              go_wp2
              obtain ⟨hb5, own6, hgr6⟩ := H6.out
              have hb0 : Below wr.heap.size wr w5 := (Below.refl _ wr).drew.trans hb5
              have hfin := HFI.out w5 w6 hb0 own6 hgr6
              go_roundw
              case rel => exact ⟨k + 1, by omega, by go_num, hfin⟩
              case measure => simp [intOf]; omega
            exact AllReadyH.nil
          exact AllReadyH.nil
        refine AllReadyH.cons (o := _) rfl (fun K hK => ?_) ?_
        · go_simp
          (go_at_call 56; rw [HWR.out]; ((with_reducible refine Calls.mono (HRUN.out _) ?_); rintro e w5 ⟨rfl, hb5⟩))
          have own5 : w5.ownsMap Tryd.prog 3 (plainElem (H := Unit) Tryd.prog 3) (w.heap.size + 1) N D := omap_below (w := wr.drew) HOW.out hb5
          obtain ⟨w6, hup, own6, hgr6⟩ := own5.update (Maps.int_keyed Tryd.underlying3) Tryd.underlying60 (by unfold maxLen; have := HN.out; omega) (key := .int .i64 (h : Int)) (kl := .int .i64 (h : Int)) (val := .int .i64 ((c ||| m : Nat) : Int)) HKEY.out HVAL.out
          have H6 := Lib.hid (And.intro hb5 (And.intro own6 hgr6))
          have hl5 : (Instr.lookup 60 (.map (some (w.heap.size + 1))) (.int .i64 (h : Int)) false).run Tryd.prog w5 = .ok (.int .i64 (c : Int)) w5 := HLK.out _ own5
          clear hb5 own5 own6 hgr6
          refine hK.out _ _ ?_ (fun hHeld => ?_)
          · (try dsimp only)
            all_goals trivial
          clear hK K
          (try simp only [Act.put, List.setIfInBounds_toArray, List.set_cons_zero, List.set_cons_succ])
          refine wpAnyH_ready (rs := [2]) (by kernel_rfl) (by simp) ?_
          refine AllReadyH.cons (o := _) rfl (fun K hK => ?_) ?_
          · go_simp
            refine hK.out _ _ ?_ (fun hHeld => ?_)
            · (try dsimp only)
              all_goals trivial
            clear hK K
            (try simp only [Act.put, List.setIfInBounds_toArray, List.set_cons_zero, List.set_cons_succ])
            refine wpAnyH_take (i := 7) (oi := _) (v := ?_) rfl (by kernel_rfl) (by kernel_rfl) (by kernel_rfl) (fun _ _ _ h => h) (Or.inl ⟨by rfl, ?_⟩) (by assumption) ?_
            rotate_left
            · (intro w hSw; (try dsimp only at hSw); go_simp; all_goals (with_reducible rfl))
            (try simp only [Act.put])
            refine wpAnyH_ready (rs := [8]) (by kernel_rfl) (by simp) ?_
            refine AllReadyH.cons (o := _) rfl (fun K hK => ?_) ?_
            · go_simp
              refine hK.out _ _ ?_ (fun hHeld => ?_)
              · (try dsimp only)
                all_goals trivial
              clear hK K
              (try simp only [Act.put, List.setIfInBounds_toArray, List.set_cons_zero, List.set_cons_succ])
              refine wpAnyH_done (by kernel_rfl) ?_ _
              go_wp2
              obtain ⟨hb5, own6, hgr6⟩ := H6.out
              have hb0 : Below wr.heap.size wr w5 := (Below.refl _ wr).drew.trans hb5
              have hfin := HFI.out w5 w6 hb0 own6 hgr6
              go_roundw
              case rel => exact ⟨k + 1, by omega, by go_num, hfin⟩
              case measure => simp [intOf]; omega
            exact AllReadyH.nil
          exact AllReadyH.nil
        exact AllReadyH.nil
    · obtain rfl : k = 7 := by omega
      go_wp2
      go_ret
      exact ⟨rfl, HDM.out⟩
end Go.Proofs.YtmfpaankkoaoaaaDoor
