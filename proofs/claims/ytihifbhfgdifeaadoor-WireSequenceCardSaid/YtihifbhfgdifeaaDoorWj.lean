/- Contracts of the reference's Int and String: what the plain functions intR and strR say, for every string and every offset. -/
import Derived.Test.YtihifbhfgdifeaaDoorWi
namespace Go.Proofs.YtihifbhfgdifeaaDoor
open Go.RowKit

theorem putR_unfold (v : Nat) (hv : v ≤ 9223372036854775806) : putR (Wm.unfoldZ v) = (Wm.enc v, 0) := by
  have := Wm.unfold_bd v hv
  unfold putR; rw [if_neg (by omega), Wm.fold_unfold]
theorem putR_out (v : Nat) (hv : 9223372036854775806 < v) (h2 : v < 9223372036854775808) : putR (Wm.unfoldZ v) = ([], 10) := by
  have := Wm.unfold_out v hv h2
  unfold putR; rw [if_pos (by omega)]
theorem unfold_odd (v : Nat) (h : v % 2 = 1) : Wm.unfoldZ v = -((v : Int) / 2) - 1 := by unfold Wm.unfoldZ; rw [if_pos h]; omega
theorem unfold_even (v : Nat) (h : ¬ v % 2 = 1) : Wm.unfoldZ v = (v : Int) / 2 := by unfold Wm.unfoldZ; rw [if_neg h]; omega

theorem bs_toList (l : List UInt8) : (bs l).toList = l := by rw [Lib.toList_data, bs_list]
theorem bs_neq {a b : List UInt8} (h : a ≠ b) : ((bs a).toList == (bs b).toList) = false := by rw [bs_toList, bs_toList]; simpa using h
theorem dec_drop2 (s : ByteArray) (a k x b g y : Nat) (h : a + k < s.size) (h9 : k < 9) (hb : s[a + k].toNat = b) (hg : b % 128 = g) (hy : g * 128 ^ k = y) :
    Wm.dec k x (s.data.toList.drop (a + k)) = if b < 128 then (if b = 0 ∧ 0 < k then (0, 0) else (x + y, k + 1)) else Wm.dec (k + 1) (x + y) (s.data.toList.drop (a + (k + 1))) := by
  have e : s.data.toList.drop (a + k) = s[a + k] :: s.data.toList.drop (a + k + 1) := List.drop_eq_getElem_cons (by simpa using h)
  rw [e, Wm.dec, if_neg (by omega), hb, hg, hy]; rfl

set_option maxRecDepth 100000 in
set_option maxHeartbeats 1000000 in
theorem refInt_in (s : ByteArray) (a : Nat) (w : World) (hs : s.size ≤ maxLen) (ha : a ≤ s.size) :
    Calls Tryd.prog 16 #[.string s, .int .i64 (a : Int)] w fun e w' => e = .returned (tup3 (intD a (Wm.dec 0 0 (s.data.toList.drop a)))) ∧ Below w.heap.size w w' := by
  unfold maxLen at hs
  have hd1 : decide ((a : Int) < 0) = false := by simp
  have hd2 : decide (s.size < a) = false := by simp; omega
  go_enter Tryd.func16, Tryd.ntmps16
  go_wp2
  go_loopw [7, 8, 9, 10, 11, 12] (fun z i _ _ _ _ wr => ∃ (k x : Nat), a + k ≤ s.size ∧ k ≤ 9 ∧ x < 128 ^ k ∧ i = .int .i64 k ∧ z = .int .u64 x ∧ Wm.dec 0 0 (s.data.toList.drop a) = Wm.dec k x (s.data.toList.drop (a + k)) ∧ wr = w) (fun _ i _ _ _ _ _ => 9 - (intOf i).toNat)
  case atStart => exact ⟨0, 0, by omega, by omega, by decide, rfl, rfl, rfl, rfl⟩
  case round =>
    obtain ⟨k, x, hk, hk9, hx, rfl, rfl, hd, rfl⟩ := hrel
    have HD := Lib.hid hd; clear hd
    have HX := Lib.hid hx; clear hx
    by_cases h9 : k < 9
    · by_cases hlt : a + k < s.size
      · obtain ⟨b, hb⟩ : ∃ b, s[a + k].toNat = b := ⟨_, rfl⟩
        have hb2 : b < 256 := by rw [← hb]; exact s[a + k].toNat_lt
        obtain ⟨g, hg⟩ : ∃ g, b % 128 = g := ⟨_, rfl⟩
        have hgi : (b : Int) % 128 = (g : Int) := by omega
        have hg2 : g < 128 := by omega
        have h1 := wrap_shl k g h9 hg2
        obtain ⟨y, hy⟩ : ∃ y, g * 128 ^ k = y := ⟨_, rfl⟩
        rw [hy] at h1
        have hv1 := lt_pow_succ k x g y HX.out hg2 hy
        have hv2 : x + y < 9223372036854775808 := by
          have h8 : 128 ^ (k + 1) ≤ 128 ^ 9 := Nat.pow_le_pow_right (by decide) (by omega)
          have h9' : (128 : Nat) ^ 9 = 9223372036854775808 := by decide
          omega
        have hdd := dec_drop2 s a k x b g y hlt h9 hb hg hy
        have HDD := Lib.hid hdd; clear hdd
        have HV := Lib.hid hv1; clear hv1
        have hb0 : b = 0 → g = 0 := fun h => by omega
        have HGY := Lib.hid hy; clear hy hg
        have ht : (7 * (k : Int)).toNat = 7 * k := by omega
        by_cases hlb : b < 128
        · have hput : ∀ (N : Int) (w : World), N = Wm.unfoldZ (x + y) → Calls Tryd.prog 13 #[.int .i64 N] w fun e w' => e = .returned (tupS (putR (Wm.unfoldZ (x + y)))) ∧ Below w.heap.size w w' := fun N w hN => by
            have := Wm.unfold_wide (x + y) hv2
            rw [hN]; exact refPut_any _ w (by omega) (by omega)
          have hD := HDD.out
          rw [if_pos hlb] at hD
          have hD0 : Wm.dec 0 0 (s.data.toList.drop a) = if b = 0 ∧ 0 < k then (0, 0) else (x + y, k + 1) := by rw [HD.out, hD]
          clear hD
          have ho : (x + y) % 2 = 1 → -(((x : Int) + y) / 2) - 1 = Wm.unfoldZ (x + y) := fun h => by rw [unfold_odd _ h]; omega
          have hv : ¬ (x + y) % 2 = 1 → ((x : Int) + y) / 2 = Wm.unfoldZ (x + y) := fun h => by rw [unfold_even _ h]; omega
          by_cases hout : 9223372036854775806 < x + y
          · have hr : intD a (Wm.dec 0 0 (s.data.toList.drop a)) = (0, 0, 10) := by
              rw [hD0]
              by_cases hs : b = 0 ∧ 0 < k
              · rw [if_pos hs]; rfl
              · rw [if_neg hs]; unfold intD; rw [if_pos (Or.inr (by simpa using hout))]
            have HR := Lib.hid hr
            have hp : putR (Wm.unfoldZ (x + y)) = ([], 10) := putR_out _ hout hv2
            rw [hp, show tupS ([], 10) = .tuple #[.string (bs []), .int .i64 10] from rfl] at hput
            have HP := Lib.hid hput; clear hput hp hr hD0
            have HO := Lib.hid ho; have HE := Lib.hid hv; clear ho hv
            go_wp2_with fail
            · have hodd : (((x : Int) + y) % 2 == 1) = true := by assumption
              refine (HP.out _ _ (HO.out (by have := beq_iff_eq.1 hodd; omega))).mono ?_
              rintro e w' ⟨rfl, hb⟩
              go_wp2
              go_ret3
              exact ⟨by rw [HR.out]; rfl, hb⟩
          · have hp : putR (Wm.unfoldZ (x + y)) = (Wm.enc (x + y), 0) := putR_unfold _ (by omega)
            rw [hp] at hput
            have hxt : s.extract a (a + k + 1) = bs ((s.data.toList.drop a).take (k + 1)) := by rw [bs_extract, show a + k + 1 - a = k + 1 from by omega]
            by_cases hsup : b = 0 ∧ 0 < k
            · have hr : intD a (Wm.dec 0 0 (s.data.toList.drop a)) = (0, 0, 10) := by rw [hD0, if_pos hsup]; rfl
              have HR := Lib.hid hr
              have hne : ((bs (Wm.enc (x + y))).toList == (s.extract a (a + k + 1)).toList) = false := by
                rw [hxt]
                refine bs_neq ?_
                intro h
                have h2 := congrArg List.length h
                have hg0 : g = 0 := hb0 hsup.1
                have hy0 : y = 0 := by
                  have := HGY.out
                  rw [hg0, Nat.zero_mul] at this; exact this.symm
                have h3 := Wm.encF_len_lt 9 (k - 1) (x + y) (by rw [hy0, Nat.add_zero, show k - 1 + 1 = k from by omega]; exact HX.out)
                unfold Wm.enc at h2
                have h4 : (s.data.toList.drop a).length = s.size - a := by simp
                rw [List.length_take, h4, Nat.min_eq_left (by omega)] at h2
                omega
              obtain ⟨t, htt⟩ : ∃ t, bs (Wm.enc (x + y)) = t := ⟨_, rfl⟩
              rw [show tupS (Wm.enc (x + y), 0) = .tuple #[.string (bs (Wm.enc (x + y))), .int .i64 0] from rfl, htt] at hput
              rw [htt] at hne
              have HP := Lib.hid hput; clear hput hp hr hD0 hxt htt
              have HO := Lib.hid ho; have HE := Lib.hid hv; clear ho hv
              have HS := Lib.hid hsup; clear hsup
              go_wp2_with fail
              · have hodd : (((x : Int) + y) % 2 == 1) = true := by assumption
                refine (HP.out _ _ (HO.out (by have := beq_iff_eq.1 hodd; omega))).mono ?_
                rintro e w' ⟨rfl, hb⟩
                go_wp2
                go_ret3
                exact ⟨by rw [HR.out]; rfl, hb⟩
              · have hodd : (((x : Int) + y) % 2 == 1) = false := by assumption
                refine (HP.out _ _ (HE.out (by have := beq_eq_false_iff_ne.1 hodd; omega))).mono ?_
                rintro e w' ⟨rfl, hb⟩
                go_wp2
                go_ret3
                exact ⟨by rw [HR.out]; rfl, hb⟩
            · have hr : intD a (Wm.dec 0 0 (s.data.toList.drop a)) = (Wm.unfoldZ (x + y), (a : Int) + ((k + 1 : Nat) : Int), 0) := by
                rw [hD0, if_neg hsup]; unfold intD; rw [if_neg (by simp; omega)]
              have HR := Lib.hid hr
              rw [if_neg hsup] at hD0
              obtain ⟨_, _, h3⟩ := Wm.dec_some0 _ _ _ hD0 (by omega)
              rw [h3] at hxt
              rw [show tupS (Wm.enc (x + y), 0) = .tuple #[.string (bs (Wm.enc (x + y))), .int .i64 0] from rfl, ← hxt] at hput
              have HP := Lib.hid hput; clear hput hp hr hD0 hxt h3
              have HO := Lib.hid ho; have HE := Lib.hid hv; clear ho hv
              have HS := Lib.hid hsup; clear hsup
              go_wp2_with fail
              · have hodd : (((x : Int) + y) % 2 == 1) = true := by assumption
                have hN := HO.out (by have := beq_iff_eq.1 hodd; omega)
                refine (HP.out _ _ hN).mono ?_
                have HN := Lib.hid hN; clear hN
                rintro e w' ⟨rfl, hb⟩
                go_wp2
                go_ret3
                exact ⟨by rw [HR.out, ← HN.out]; rfl, hb⟩
              · have hodd : (((x : Int) + y) % 2 == 1) = false := by assumption
                have hN := HE.out (by have := beq_eq_false_iff_ne.1 hodd; omega)
                refine (HP.out _ _ hN).mono ?_
                have HN := Lib.hid hN; clear hN
                rintro e w' ⟨rfl, hb⟩
                go_wp2
                go_ret3
                exact ⟨by rw [HR.out, ← HN.out]; rfl, hb⟩
        · have hD := HDD.out
          rw [if_neg hlb] at hD
          have HD2 := Lib.hid hD; clear hD
          go_wp2
          go_roundw
          case rel => exact ⟨k + 1, x + y, by omega, by omega, HV.out, by go_num, by go_num, by rw [HD.out, HD2.out], trivial⟩
          case measure => simp [intOf]; omega
      · have hr : intD a (Wm.dec 0 0 (s.data.toList.drop a)) = (0, 0, 10) := by
          rw [HD.out, List.drop_eq_nil_of_le (by have : s.data.toList.length = s.size := by simp
                                                 omega)]; rfl
        have HR := Lib.hid hr; clear hr
        go_wp2
        go_ret3
        exact ⟨by rw [HR.out]; rfl, Below.refl _ _⟩
    · have hr : intD a (Wm.dec 0 0 (s.data.toList.drop a)) = (0, 0, 10) := by
        have : Wm.dec k x (s.data.toList.drop (a + k)) = (0, 0) := by
          cases s.data.toList.drop (a + k) with
          | nil => rfl
          | cons b r => rw [Wm.dec, if_pos (by omega)]
        rw [HD.out, this]; rfl
      have HR := Lib.hid hr; clear hr
      go_wp2
      go_ret3
      exact ⟨by rw [HR.out]; rfl, Below.refl _ _⟩

set_option maxRecDepth 100000 in
set_option maxHeartbeats 400000 in
theorem refInt_any (s : ByteArray) (at_ : Int) (w : World) (hs : s.size ≤ maxLen) (ha1 : -9223372036854775808 ≤ at_) (ha2 : at_ ≤ 9223372036854775807) :
    Calls Tryd.prog 16 #[.string s, .int .i64 at_] w fun e w' => e = .returned (tup3 (intR s.data.toList at_)) ∧ Below w.heap.size w w' := by
  by_cases h0 : at_ < 0
  · have hr : intR s.data.toList at_ = (0, 0, 2) := by unfold intR; rw [if_pos (Or.inl h0)]
    rw [hr]; clear hr
    go_enter Tryd.func16, Tryd.ntmps16
    go_wp2
    go_ret3
    exact ⟨rfl, Below.refl _ _⟩
  by_cases h1 : (s.size : Int) < at_
  · have hr : intR s.data.toList at_ = (0, 0, 2) := by unfold intR; rw [if_pos (Or.inr (by simpa using h1))]
    rw [hr]; clear hr
    go_enter Tryd.func16, Tryd.ntmps16
    go_wp2
    go_ret3
    exact ⟨rfl, Below.refl _ _⟩
  obtain ⟨a, rfl⟩ := Int.eq_ofNat_of_zero_le (by omega : 0 ≤ at_)
  have hr : intR s.data.toList a = intD a (Wm.dec 0 0 (s.data.toList.drop a)) := by
    unfold intR
    rw [if_neg (by simp; omega)]
    rfl
  rw [hr]
  exact refInt_in s a w hs (by omega)

set_option maxRecDepth 100000 in
set_option maxHeartbeats 1000000 in
theorem refString_any (s : ByteArray) (at_ : Int) (w : World) (hs : s.size ≤ maxLen) (ha1 : -9223372036854775808 ≤ at_) (ha2 : at_ ≤ 9223372036854775807) :
    Calls Tryd.prog 18 #[.string s, .int .i64 at_] w fun e w' => e = .returned (tupT (strR s.data.toList at_)) ∧ Below w.heap.size w w' := by
  have hc := fun w => refInt_any s at_ w hs ha1 ha2
  unfold strR
  obtain ⟨n, x, er, hr, hn1, hn2, hx1, hx2, he, _, _⟩ := intR_bd s.data.toList at_
  rw [hr] at hc ⊢
  clear hr
  unfold maxLen at hs
  have hx3 : x ≤ s.size := by simpa using hx2
  clear hx2
  rw [show tup3 (n, x, er) = .tuple #[.int .i64 n, .int .i64 x, .int .i64 er] from rfl] at hc
  have HC := Lib.hid hc; clear hc
  by_cases hz : er = 0
  · subst hz
    clear he
    by_cases hg : n < 0 ∨ 65536 < n ∨ (s.size : Int) - x < n
    · have hr : strD s.data.toList (n, x, 0) = ([], 0, 10) := by
        unfold strD; rw [if_pos rfl, if_pos (by simpa using hg)]
      rw [hr]; clear hr
      by_cases h0 : n < 0
      · clear hg
        go_enter Tryd.func18, Tryd.ntmps18
        go_wp2_with (go_at_call 16; refine (HC.out _).mono ?_; rintro e w' ⟨rfl, hb⟩)
        go_ret3
        exact ⟨rfl, hb⟩
      · by_cases h1 : 65536 < n
        · clear hg
          go_enter Tryd.func18, Tryd.ntmps18
          go_wp2_with (go_at_call 16; refine (HC.out _).mono ?_; rintro e w' ⟨rfl, hb⟩)
          go_ret3
          exact ⟨rfl, hb⟩
        · have h2 : (s.size : Int) - x < n := by omega
          clear hg
          go_enter Tryd.func18, Tryd.ntmps18
          go_wp2_with (go_at_call 16; refine (HC.out _).mono ?_; rintro e w' ⟨rfl, hb⟩)
          go_ret3
          exact ⟨rfl, hb⟩
    · obtain ⟨a, rfl⟩ := Int.eq_ofNat_of_zero_le hx1
      obtain ⟨b, rfl⟩ := Int.eq_ofNat_of_zero_le (by omega : 0 ≤ n)
      have hr : strD s.data.toList ((b : Int), (a : Int), 0) = ((s.data.toList.drop a).take b, (a : Int) + b, 0) := by
        unfold strD; rw [if_pos rfl, if_neg (by simpa using hg)]; rfl
      rw [hr]; clear hr
      have hab : a + b ≤ s.size := by omega
      have hb6 : b ≤ 65536 := by omega
      clear hg
      have hxt : s.extract a (a + b) = bs ((s.data.toList.drop a).take b) := by rw [bs_extract, Nat.add_sub_cancel_left]
      have HX := Lib.hid hxt; clear hxt
      go_enter Tryd.func18, Tryd.ntmps18
      go_wp2_with (go_at_call 16; refine (HC.out _).mono ?_; rintro e w' ⟨rfl, hb⟩)
      go_ret3
      exact ⟨by rw [HX.out]; rfl, hb⟩
  · have hr : strD s.data.toList (n, x, er) = ([], 0, er) := by unfold strD; rw [if_neg hz]
    rw [hr]; clear hr
    have hb : (er != 0) = true := by simp [hz]
    clear hz
    go_enter Tryd.func18, Tryd.ntmps18
    go_wp2_with (go_at_call 16; refine (HC.out _).mono ?_; rintro e w' ⟨rfl, hb⟩)
    go_ret3
    exact ⟨rfl, hb⟩
end Go.Proofs.YtihifbhfgdifeaaDoor
