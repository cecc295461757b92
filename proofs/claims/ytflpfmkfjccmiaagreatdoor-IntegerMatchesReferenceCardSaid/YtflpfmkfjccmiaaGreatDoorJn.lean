/- Contract of Valid. -/
import Derived.Test.YtflpfmkfjccmiaaGreatDoorJm
namespace Go.Proofs.YtflpfmkfjccmiaaGreatDoor
open Go.RowKit Go.Shelf

def notDigit (x : Nat) : Bool := decide (x < 48) || decide (57 < x)
set_option maxHeartbeats 400000 in
theorem valid1_any (x : Nat) (hx : x ≤ 1114111) (w : World) :
    Calls Tryz.prog 52 #[.int .i32 (x : Int)] w fun e w' => e = .returned (.bool (notDigit x)) ∧ Below w.heap.size w w' := by
  unfold notDigit
  by_cases h1 : x < 48
  · rw [decide_eq_true h1]
    have t1 : decide ((x : Int) < 48) = true := decide_eq_true (by omega)
    go_enter Tryz.func52, Tryz.ntmps52
    go_wp2
    go_ret
    exact ⟨rfl, Below.refl _ _⟩
  · rw [decide_eq_false h1]
    have t1 : decide ((x : Int) < 48) = false := decide_eq_false (by omega)
    have t2 : decide ((57 : Int) < (x : Int)) = decide (57 < x) := decide_eq_decide.2 (by omega)
    go_enter Tryz.func52, Tryz.ntmps52
    go_wp2
    go_ret
    exact ⟨rfl, Below.refl _ _⟩

theorem idx_digs (s : ByteArray) : ∀ (f pos : Nat), s.size ≤ pos + f → decide (0 ≤ Lib.idxFuncFrom notDigit true s f pos) = !(Im.digs (s.data.toList.drop pos))
  | 0, pos, h => by
    rw [List.drop_eq_nil_of_le (by have := Lib.size_eq s; omega)]; rfl
  | f + 1, pos, h => by
    unfold Lib.idxFuncFrom
    by_cases hp : pos < s.size
    · rw [if_pos hp]
      have hl : pos < s.data.toList.length := by have := Lib.size_eq s; omega
      have hd : s.data.toList.drop pos = (s[pos]'hp) :: s.data.toList.drop (pos + 1) := by
        rw [List.drop_eq_getElem_cons hl]; rfl
      rw [hd]
      have hc : Im.digs ((s[pos]'hp) :: s.data.toList.drop (pos + 1)) = ((decide (48 ≤ (s[pos]'hp).toNat) && decide ((s[pos]'hp).toNat ≤ 57)) && Im.digs (s.data.toList.drop (pos + 1))) := rfl
      rw [hc]
      by_cases ha : (s[pos]'hp).toNat < 128
      · rw [decode_ascii s pos hp ha]
        dsimp only
        by_cases hn : notDigit (s[pos]'hp).toNat = true
        · rw [if_pos hn, decide_eq_true (by omega)]
          have : (decide (48 ≤ (s[pos]'hp).toNat) && decide ((s[pos]'hp).toNat ≤ 57)) = false := by
            unfold notDigit at hn
            simp only [Bool.or_eq_true, decide_eq_true_eq] at hn
            simp only [Bool.and_eq_false_iff, decide_eq_false_iff_not]; omega
          rw [this]; rfl
        · rw [if_neg hn, idx_digs s f (pos + 1) (by omega)]
          have : (decide (48 ≤ (s[pos]'hp).toNat) && decide ((s[pos]'hp).toNat ≤ 57)) = true := by
            unfold notDigit at hn
            simp only [Bool.or_eq_true, decide_eq_true_eq] at hn
            simp only [Bool.and_eq_true, decide_eq_true_eq]; omega
          rw [this, Bool.true_and]
      · have hh := decode_high s pos hp (by omega)
        have hn : notDigit (Utf8.decode s pos).1 = true := by
          unfold notDigit
          simp only [Bool.or_eq_true, decide_eq_true_eq]; omega
        rw [if_pos hn, decide_eq_true (by omega)]
        have : (decide (48 ≤ (s[pos]'hp).toNat) && decide ((s[pos]'hp).toNat ≤ 57)) = false := by
          simp only [Bool.and_eq_false_iff, decide_eq_false_iff_not]; omega
        rw [this]; rfl
    · rw [if_neg hp, List.drop_eq_nil_of_le (by have := Lib.size_eq s; omega)]; rfl
theorem trim_strip (s : List UInt8) : Lib.trimPrefix s [45] = Im.strip s := by
  unfold Lib.trimPrefix Lib.hasPrefix Im.strip
  cases s with
  | nil => rfl
  | cons c r =>
    by_cases h : c = 45
    · subst h; simp
    · simp [h, Ne.symm h]

theorem trimP_any (l : List UInt8) (w : World) : Calls Tryz.prog 50 #[strOf l, .string ⟨#[45]⟩] w fun e w' => e = .returned (strOf (Im.strip l)) ∧ w = w' := by
  refine (Tryz.strings_TrimPrefix (bs l) ⟨#[45]⟩ w).mono ?_
  rintro e w' ⟨rfl, rfl⟩
  refine ⟨?_, rfl⟩
  rw [bs_list, show (⟨#[45]⟩ : ByteArray).data.toList = [45] from rfl, trim_strip]; rfl
theorem cont_any (l : List UInt8) (w : World) : Calls Tryz.prog 51 #[strOf l, .func (.func 52) #[] #[]] w fun e w' => e = .returned (.bool (!(Im.digs l))) ∧ Below w.heap.size w w' := by
  refine (Tryz.strings_ContainsFunc_grows 52 #[] (enters_of Tryz.func52 (by kernel_rfl) rfl) notDigit (bs l) w ?_).mono ?_
  · intro W x hx _
    exact valid1_any x hx W
  · rintro e w' ⟨rfl, hb⟩
    refine ⟨?_, hb⟩
    have := idx_digs (bs l) (bs l).size 0 (by omega)
    rw [List.drop_zero, bs_list] at this
    rw [← this]; rfl
theorem bs_eqb (a b : List UInt8) : ((bs a).toList == (bs b).toList) = (a == b) := by
  rw [show (bs a).toList = a from by rw [ByteArray.toList_eq, bs_list], show (bs b).toList = b from by rw [ByteArray.toList_eq, bs_list]]
set_option maxRecDepth 100000 in
set_option maxHeartbeats 1000000 in
theorem valid_any (l : List UInt8) (w : World) : Calls Tryz.prog 21 #[strOf l] w fun e w' => e = .returned (.bool (Im.vld l)) ∧ Below w.heap.size w w' := by
  have hT := trimP_any l
  have hC := cont_any (Im.strip l)
  have hv : Im.vld l = match Im.strip l with
    | [] => false
    | c :: r => decide ((c :: r).length ≤ 200) && (if c = 48 then l == [48] else Im.digs (c :: r)) := rfl
  have hq : ((bs l).toList == [48]) = (l == [48]) := by rw [show (bs l).toList = l from by rw [ByteArray.toList_eq, bs_list]]
  obtain ⟨d, hd⟩ : ∃ d, Im.strip l = d := ⟨_, rfl⟩
  rw [hd] at hT hC hv
  obtain ⟨L, hL⟩ : ∃ L, bs l = L := ⟨_, rfl⟩
  obtain ⟨D, hD⟩ : ∃ D, bs d = D := ⟨_, rfl⟩
  have hDs : D.size = d.length := by rw [← hD, bs_size]
  obtain ⟨b, hb⟩ : ∃ b, Im.vld l = b := ⟨_, rfl⟩
  obtain ⟨q, hqq⟩ : ∃ b, (l == [48]) = b := ⟨_, rfl⟩
  unfold strOf at hT hC ⊢
  rw [hL] at hT ⊢; rw [hD] at hT hC; rw [hL, hqq] at hq; rw [hb] at hv ⊢
  have HT := Lib.hid hT; have HC := Lib.hid hC
  cases d with
  | nil =>
    replace hv : b = false := hv
    subst hv
    replace hDs : D.size = 0 := hDs
    clear hT hC hL hD hb hqq hd hq
    go_enter Tryz.func21, Tryz.ntmps21
    go_wp2_with (go_at_call 50; refine (HT.out _).mono ?_; rintro e w1 ⟨rfl, rfl⟩)
    go_ret
    exact ⟨rfl, Below.refl _ _⟩
  | cons c r =>
    replace hv : b = (decide ((c :: r).length ≤ 200) && (if c = 48 then l == [48] else Im.digs (c :: r))) := hv
    obtain ⟨m, hm⟩ : ∃ m, (c :: r).length = m := ⟨_, rfl⟩
    have hm1 : 1 ≤ m := by rw [← hm]; simp
    rw [hm] at hDs hv
    have t1 : ((m : Int) == 0) = false := by rw [beq_eq_false_iff_ne]; omega
    have hi : ∀ w, (Instr.index 9 (.string D) (.int .i64 0)).run Tryz.prog w = .ok (.int .u8 (c.toNat : Int)) w := fun w => by
      rw [run_index_string w 9 D .i64 0 Tryz.underlying9, dif_pos ⟨by decide, by omega⟩]
      have e : (D[(0 : Int).toNat]'(by show 0 < D.size; omega)) = c := by subst hD; rfl
      rw [e]
    by_cases h2 : m ≤ 200
    · have t2 : decide ((200 : Int) < (m : Int)) = false := decide_eq_false (by omega)
      rw [decide_eq_true h2, Bool.true_and] at hv
      by_cases h3 : c = 48
      · subst h3
        have t3 : (((48 : UInt8).toNat : Int) == 48) = true := rfl
        rw [if_pos rfl, hqq] at hv
        subst hv
        clear hT hC hL hD hb hqq hd hm h2
        go_enter Tryz.func21, Tryz.ntmps21
        go_wp2_with (go_at_call 50; refine (HT.out _).mono ?_; rintro e w1 ⟨rfl, rfl⟩)
        go_ret
        exact ⟨rfl, Below.refl _ _⟩
      · have t3 : ((c.toNat : Int) == 48) = false := by
          rw [beq_eq_false_iff_ne]; intro e
          exact h3 (UInt8.toNat_inj.1 (by have : (48 : UInt8).toNat = 48 := rfl; omega))
        rw [if_neg h3] at hv
        obtain ⟨g, hg⟩ : ∃ g, Im.digs (c :: r) = g := ⟨_, rfl⟩
        rw [hg] at HC hv
        subst hv
        clear hT hC hL hD hb hqq hd hm h2 hg
        cases b
        all_goals
          go_enter Tryz.func21, Tryz.ntmps21
          go_wp2_with (first | (go_at_call 50; refine (HT.out _).mono ?_; rintro e w1 ⟨rfl, rfl⟩) | (go_at_call 51; refine (HC.out _).mono ?_; rintro e w1 ⟨rfl, hb⟩))
          go_ret
          exact ⟨rfl, hb⟩
    · have t2 : decide ((200 : Int) < (m : Int)) = true := decide_eq_true (by omega)
      rw [decide_eq_false h2, Bool.false_and] at hv
      subst hv
      clear hT hC hL hD hb hqq hd hm hq h2
      go_enter Tryz.func21, Tryz.ntmps21
      go_wp2_with (go_at_call 50; refine (HT.out _).mono ?_; rintro e w1 ⟨rfl, rfl⟩)
      go_ret
      exact ⟨rfl, Below.refl _ _⟩
end Go.Proofs.YtflpfmkfjccmiaaGreatDoor
