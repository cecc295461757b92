/- Contracts of the reference's Root, Digests, Proof, part and Extension. -/
import Derived.Test.YtnbhhhbmeafkaaaDoorE15
import Derived.Test.YtnbhhhbmeafkaaaDoorL5
namespace Go.Proofs.YtnbhhhbmeafkaaaDoor
section
open Go.RowKit

set_option maxHeartbeats 400000 in
theorem refLeaf_any (l : List UInt8) (w : World) (hl : l.length ≤ 5000) :
    Calls Tryd.prog 16 #[strOf l] w fun e w' => e = .returned (strOf (Dm.leaf l)) ∧ Below w.heap.size w w' := by
  have h := fun u => refSum_any (0 :: l) u (by simp; omega)
  obtain ⟨S, hS⟩ : ∃ S, bs l = S := ⟨_, rfl⟩
  have z : S.size ≤ 5000 := by rw [← hS, bs_size]; omega
  have e : bs (0 :: l) = (⟨#[0]⟩ : ByteArray) ++ S := by rw [← hS, bs_one]
  unfold strOf at h ⊢
  rw [e] at h; rw [hS]
  have H := Lib.hid h
  clear h hS e
  go_enter Tryd.func16, Tryd.ntmps16
  go_wp2_with (go_at_call 14; refine (H.out _).mono ?_; rintro e w' ⟨rfl, hb⟩)
  go_ret
  exact ⟨rfl, hb⟩

set_option maxHeartbeats 400000 in
theorem refNode_any (a b : List UInt8) (w : World) (hl : a.length + b.length ≤ 5000) :
    Calls Tryd.prog 18 #[strOf a, strOf b] w fun e w' => e = .returned (strOf (Dm.node a b)) ∧ Below w.heap.size w w' := by
  have h := fun u => refSum_any (1 :: (a ++ b)) u (by simp; omega)
  obtain ⟨S, hS⟩ : ∃ S, bs a = S := ⟨_, rfl⟩
  obtain ⟨T, hT⟩ : ∃ T, bs b = T := ⟨_, rfl⟩
  have z : S.size ≤ 5000 := by rw [← hS, bs_size]; omega
  have z1 : T.size ≤ 5000 := by rw [← hT, bs_size]; omega
  have z3 : ((⟨#[1]⟩ : ByteArray) ++ S).size ≤ 5001 := by rw [ByteArray.size_append]; show 1 + _ ≤ _; omega
  have e : bs (1 :: (a ++ b)) = (⟨#[1]⟩ : ByteArray) ++ S ++ T := by rw [← hS, ← hT, bs_one, bs_append]; rfl
  unfold strOf at h ⊢
  rw [e] at h; rw [hS, hT]
  have H := Lib.hid h
  clear h hS hT e
  go_enter Tryd.func18, Tryd.ntmps18
  go_wp2_with (go_at_call 14; refine (H.out _).mono ?_; rintro e w' ⟨rfl, hb⟩)
  go_ret
  exact ⟨rfl, hb⟩

set_option maxHeartbeats 400000 in
theorem refChain_any (a b : List UInt8) (w : World) (hl : a.length + b.length ≤ 5000) :
    Calls Tryd.prog 20 #[strOf a, strOf b] w fun e w' => e = .returned (strOf (Dm.chain a b)) ∧ Below w.heap.size w w' := by
  have h := fun u => refSum_any (2 :: (a ++ b)) u (by simp; omega)
  obtain ⟨S, hS⟩ : ∃ S, bs a = S := ⟨_, rfl⟩
  obtain ⟨T, hT⟩ : ∃ T, bs b = T := ⟨_, rfl⟩
  have z : S.size ≤ 5000 := by rw [← hS, bs_size]; omega
  have z1 : T.size ≤ 5000 := by rw [← hT, bs_size]; omega
  have z3 : ((⟨#[2]⟩ : ByteArray) ++ S).size ≤ 5001 := by rw [ByteArray.size_append]; show 1 + _ ≤ _; omega
  have e : bs (2 :: (a ++ b)) = (⟨#[2]⟩ : ByteArray) ++ S ++ T := by rw [← hS, ← hT, bs_one, bs_append]; rfl
  unfold strOf at h ⊢
  rw [e] at h; rw [hS, hT]
  have H := Lib.hid h
  clear h hS hT e
  go_enter Tryd.func20, Tryd.ntmps20
  go_wp2_with (go_at_call 14; refine (H.out _).mono ?_; rintro e w' ⟨rfl, hb⟩)
  go_ret
  exact ⟨rfl, hb⟩

set_option maxHeartbeats 400000 in
theorem refLeft_any (n : Nat) (w : World) (h2 : 2 ≤ n) (hn : n ≤ 9223372036854775807) :
    Calls Tryd.prog 46 #[.int .i64 (n : Int)] w fun e w' => e = .returned (.int .i64 ((Dm.lft n : Nat) : Int)) ∧ w = w' := by
  go_enter Tryd.func46, Tryd.ntmps46
  go_wp2
  go_loop [3] (fun k => ∃ j x : Nat, k = .int .i64 (x : Int) ∧ Hid (x = 2 ^ j) ∧ x < n ∧ 1 ≤ x) (fun k => n - (intOf k).toNat)
  case atStart => exact ⟨0, 1, rfl, Lib.hid rfl, by omega, by omega⟩
  case round =>
    obtain ⟨j, x, rfl, hx, hlt, h1⟩ := hrel
    by_cases hc : (x : Int) < (n : Int) - (x : Int)
    · go_wp2
      go_round
      case rel => exact ⟨j + 1, 2 * x, by go_num, Lib.hid (by rw [hx.out, Nat.pow_succ]; omega), by omega, by omega⟩
      case measure => simp [intOf]; omega
    · have hl : Dm.lft n = x := by rw [Dm.lft_uniq n j (by rw [← hx.out]; omega) (by rw [Nat.pow_succ, ← hx.out]; omega), hx.out]
      have HL := Lib.hid hl
      clear hl
      go_wp2
      go_ret
      exact ⟨ret_i64 (by rw [HL.out]), rfl⟩

set_option maxRecDepth 100000 in
set_option maxHeartbeats 1000000 in
theorem refRoot_at (n : Nat) : ∀ (v : Value) (ps : List (List UInt8)) (w : World), ps.length ≤ n → Strs w w.heap.size v ps → (∀ s ∈ ps, s.length ≤ 1000) →
    Calls Tryd.prog 28 #[v] w fun e w' => e = .returned (strOf (Dm.root ps)) ∧ Below w.heap.size w w' := by
  induction n with
  | zero =>
    intro _ ps w hn hv _
    obtain rfl := List.eq_nil_of_length_eq_zero (by omega : ps.length = 0)
    obtain ⟨A, c, rfl, hc1, hc2, hA⟩ := hv
    have hsum := Lib.hid (refSum_any [] w (by simp))
    go_enter Tryd.func28, Tryd.ntmps28
    go_wp2_with (go_at_call 14; refine hsum.out.mono ?_; rintro e w' ⟨rfl, hb⟩)
    go_ret
    exact ⟨rfl, hb⟩
  | succ n ih =>
    intro v ps w hn hv hl
    by_cases h0 : ps.length ≤ n
    · exact ih v ps w h0 hv hl
    obtain ⟨A, c, rfl, hc1, hc2, hA⟩ := hv
    by_cases h1 : ps.length = 1
    · obtain ⟨s, rfl⟩ : ∃ s, ps = [s] := List.length_eq_one_iff.1 h1
      rcases hA with ⟨_, h⟩ | ⟨g, off, rfl, hg, hcell⟩
      · cases h
      have c0 := hcell 0 s rfl
      have hlf := Lib.hid (refLeaf_any s w (by have := hl s (by simp); omega))
      rw [Nat.add_zero] at c0
      clear ih hcell
      go_enter Tryd.func28, Tryd.ntmps28
      go_wp2_with (go_at_call 16; refine hlf.out.mono ?_; rintro e w' ⟨rfl, hb⟩)
      go_ret
      exact ⟨rfl, hb⟩
    have h2 : 2 ≤ ps.length := by omega
    rcases hA with ⟨_, rfl⟩ | ⟨g, off, rfl, hg, hcell⟩
    · simp at h2
    have hlt := Dm.lft_lt ps.length h2
    have hpos := Dm.lft_pos ps.length
    have hr2 := Dm.root_two ps h2
    obtain ⟨k, hk⟩ : ∃ k, Dm.lft ps.length = k := ⟨_, rfl⟩
    have hh := fun w => refLeft_any ps.length w h2 (by unfold maxLen at hc2; omega)
    rw [hk] at hlt hpos hr2 hh
    have s1 := strs_sub (B := w.heap.size) 0 k hg rfl hcell (by omega) (by omega) hc1 hc2
    have s2 := strs_sub (B := w.heap.size) k ps.length hg rfl hcell (by omega) (by omega) hc1 hc2
    rw [Nat.sub_zero, Nat.sub_zero, List.drop_zero, Nat.add_zero] at s1
    have e2 : (ps.drop k).take (ps.length - k) = ps.drop k := List.take_of_length_le (by rw [List.length_drop]; omega)
    rw [e2] at s2
    have r1 := fun u (hb : Below w.heap.size w u) => calls_on hb (ih _ (ps.take k) u (by rw [List.length_take]; omega) (s1.next hb) (fun s hs => hl s (List.mem_of_mem_take hs)))
    have r2 := fun u (hb : Below w.heap.size w u) => calls_on hb (ih _ (ps.drop k) u (by rw [List.length_drop]; omega) (s2.next hb) (fun s hs => hl s (List.mem_of_mem_drop hs)))
    have nd := fun u (hb : Below w.heap.size w u) => calls_on hb (refNode_any (Dm.root (ps.take k)) (Dm.root (ps.drop k)) u (by rw [Dm.root_len, Dm.root_len]; omega))
    obtain ⟨x1, hx1⟩ : ∃ x, Dm.root (ps.take k) = x := ⟨_, rfl⟩
    obtain ⟨x2, hx2⟩ : ∃ x, Dm.root (ps.drop k) = x := ⟨_, rfl⟩
    rw [hx1] at r1 nd hr2; rw [hx2] at r2 nd hr2
    obtain ⟨m, hm⟩ : ∃ m, ps.length = m := ⟨_, rfl⟩
    rw [hm] at hh h2 hc1 hlt r2 ⊢
    have R1 := Lib.hid r1; have R2 := Lib.hid r2; have ND := Lib.hid nd; have HR := Lib.hid hr2; have HH := Lib.hid hh
    unfold maxLen at hc2
    clear r1 r2 nd hr2 hh hx1 hx2 hm s1 s2 hcell hl ih hk e2
    have i1 : (0 : Int) ≤ (k : Int) := by omega
    have i2 : (k : Int) ≤ (c : Int) := by omega
    have i3 : (k : Int) ≤ (m : Int) := by omega
    have i4 : ¬ c = k := by omega
    have i5 : ((m : Int) == 0) = false := by rw [beq_eq_false_iff_ne]; omega
    have i6 : ((m : Int) == 1) = false := by rw [beq_eq_false_iff_ne]; omega
    clear h0 h1 hn
    go_enter Tryd.func28, Tryd.ntmps28
    go_wp2_with (go_at_call 46; refine (HH.out _).mono ?_; rintro e w' ⟨rfl, rfl⟩)
    have hb0 : Below w.heap.size w w := Below.refl _ _
    go_region_with (first | (go_at_call 28; ((with_reducible refine Calls.mono (R1.out _ ?hb1) ?_); (case hb1 => (first | assumption | exact Below.drew (by assumption))); rintro e w1 ⟨rfl, hb1⟩)) | (go_at_call 28; ((with_reducible refine Calls.mono (R2.out _ ?hb2) ?_); (case hb2 => (first | assumption | exact Below.drew (by assumption))); rintro e w2 ⟨rfl, hb2⟩)) | (go_at_call 18; ((with_reducible refine Calls.mono (ND.out _ ?hb3) ?_); (case hb3 => (first | assumption | exact Below.drew (by assumption))); rintro e w3 ⟨rfl, hb3⟩)))
    all_goals
      go_wp2
      go_ret
      exact ⟨by rw [HR.out]; rfl, hb3⟩
theorem refRoot_any (v : Value) (ps : List (List UInt8)) (w : World) (hv : Strs w w.heap.size v ps) (hl : ∀ s ∈ ps, s.length ≤ 1000) :
    Calls Tryd.prog 28 #[v] w fun e w' => e = .returned (strOf (Dm.root ps)) ∧ Below w.heap.size w w' := refRoot_at ps.length v ps w (Nat.le_refl _) hv hl

theorem digs_cons (s : List UInt8) (l : List (List UInt8)) : Dm.digs (s :: l) = (s.length == 32 && Dm.digs l) := rfl
theorem digs_take (l : List (List UInt8)) (k : Nat) (h : k < l.length) : Dm.digs (l.take (k + 1)) = (Dm.digs (l.take k) && (l[k].length == 32)) := by
  rw [List.take_succ_eq_append_getElem h]
  unfold Dm.digs
  rw [List.all_append, List.all_cons, List.all_nil, Bool.and_true]

set_option maxHeartbeats 400000 in
theorem refDigests_any (v : Value) (ps : List (List UInt8)) (w : World) (hv : Strs w w.heap.size v ps) (hl : ∀ s ∈ ps, s.length ≤ 1000) :
    Calls Tryd.prog 54 #[v] w fun e w' => e = .returned (.bool (Dm.digs ps)) ∧ w = w' := by
  obtain ⟨A, c, rfl, hc1, hc2, hA⟩ := hv
  unfold maxLen at hc2
  obtain ⟨n, hn⟩ : ∃ n, ps.length = n := ⟨_, rfl⟩
  rw [hn] at hc1 ⊢
  have HN := Lib.hid hn
  clear hn
  go_enter Tryd.func54, Tryd.ntmps54
  go_wp2
  go_loop [3] (fun i => ∃ k : Nat, k ≤ n ∧ i = .int .i64 (k : Int) ∧ Hid (Dm.digs (ps.take k) = true)) (fun i => n - (intOf i).toNat)
  case atStart => exact ⟨0, by omega, rfl, Lib.hid rfl⟩
  case round =>
    obtain ⟨k, hk, rfl, HT⟩ := hrel
    by_cases hlt : k < n
    · have hkl : k < ps.length := by have := HN.out; omega
      rcases hA with ⟨_, hp⟩ | ⟨g, off, rfl, hg, hcell⟩
      · rw [hp] at hkl; simp at hkl
      have c0 := hcell k _ (List.getElem?_eq_getElem hkl)
      have hdt := digs_take ps k hkl
      have hsl := hl _ (List.getElem_mem hkl)
      rw [HT.out, Bool.true_and] at hdt
      have hmm : ps[k] ∈ ps := List.getElem_mem hkl
      obtain ⟨x, hx⟩ : ∃ x, ps[k] = x := ⟨_, rfl⟩
      rw [hx] at c0 hdt hsl hmm
      obtain ⟨S, hS⟩ : ∃ S, bs x = S := ⟨_, rfl⟩
      have hz : S.size = x.length := by rw [← hS, bs_size]
      unfold strOf at c0
      rw [hS] at c0
      rw [← hz] at hdt
      have hz2 : S.size ≤ 1000 := by omega
      have HDT := Lib.hid hdt
      have HZ := Lib.hid hz
      clear hcell hx hS hdt hl hz
      by_cases h32 : S.size = 32
      · have t1 : ((S.size : Int) != 32) = false := by rw [h32]; rfl
        have HD2 : Hid (Dm.digs (ps.take (k + 1)) = true) := Lib.hid (by rw [HDT.out, h32]; rfl)
        clear h32
        go_wp2
        go_round
        case rel => exact ⟨k + 1, by omega, by go_num, HD2⟩
        case measure => simp [intOf]; omega
      · have t1 : ((S.size : Int) != 32) = true := by simp; omega
        have hf : Dm.digs ps = false := by
          have h2 := HZ.out
          cases e : Dm.digs ps with
          | false => rfl
          | true => exact absurd (Dm.digs_mem e x hmm) (by omega)
        have HF := Lib.hid hf
        clear hf h32
        go_wp2
        go_ret
        exact ⟨by rw [HF.out]; rfl, rfl⟩
    · have hta : ps.take k = ps := List.take_of_length_le (by have := HN.out; omega)
      have hf : Dm.digs ps = true := by rw [← hta]; exact HT.out
      have HF := Lib.hid hf
      clear hf hta
      go_wp2
      go_ret
      exact ⟨by rw [HF.out]; rfl, rfl⟩
end

section
open Go.RowKit
attribute [local go_sem ↓] append_appN

def RefPrf (l : List (List UInt8)) (w : World) (e : Ending) (w' : World) : Prop :=
  ∃ v, e = .returned (.tuple #[v, .int .i64 0]) ∧ w'.ownsRow w.heap.size 9 1 v l.length (strCells l) ∧ Below w.heap.size w w'
theorem proof_len64 (l : List (List UInt8)) (i : Nat) : (Dm.proof l i).length ≤ 64 := by rw [Dm.proof_len]; exact Dm.forks_len _ _ _ _
theorem refPrf_close {w w3 : World} {v : Value} {l : List (List UInt8)} {s : List UInt8} {q : List (List UInt8)} (hown : w3.ownsRow w.heap.size 9 1 v (l.length + 1) (strCells (l ++ [s]))) (hb : Below w.heap.size w w3) (hq : q = l ++ [s]) :
    RefPrf q w (.returned (.tuple #[v, .int .i64 0])) w3 := by
  subst hq
  exact ⟨v, rfl, by rw [List.length_append, List.length_singleton]; exact hown, hb⟩

set_option maxRecDepth 100000 in
set_option maxHeartbeats 1000000 in
theorem refProof_at (n : Nat) : ∀ (v : Value) (ps : List (List UInt8)) (i : Nat) (w : World), ps.length ≤ n → Strs w w.heap.size v ps → (∀ s ∈ ps, s.length ≤ 1000) → i < ps.length → ps.length ≤ 1000 →
    Calls Tryd.prog 23 #[v, .int .i64 (i : Int)] w (RefPrf (Dm.proof ps i) w) := by
  induction n with
  | zero => intro _ ps i w hn _ _ hi _; omega
  | succ n ih =>
    intro v ps i w hn hv hl hi hk
    by_cases h0 : ps.length ≤ n
    · exact ih v ps i w h0 hv hl hi hk
    obtain ⟨i0, hi0, hz0, hz1, hz2⟩ := info_parts Tryd.infoStr
    obtain ⟨A, c, rfl, hc1, hc2, hA⟩ := hv
    by_cases h1 : ps.length = 1
    · rw [Dm.prf_one ps i (by omega)]
      obtain ⟨m, hm⟩ : ∃ m, ps.length = m := ⟨_, rfl⟩
      rw [hm] at h1 hi ⊢
      subst h1
      have d1 : decide ((1 : Int) ≤ (i : Int)) = false := by simp; omega
      have d2 : decide (1 ≤ i) = false := by simp; omega
      clear ih hA hl hn hm hk
      go_enter Tryd.func23, Tryd.ntmps23
      go_wp2
      go_ret2
      exact ⟨_, rfl, World.ownsRow_nil _ _ _ _, Below.refl _ _⟩
    have h2 : 2 ≤ ps.length := by omega
    rcases hA with ⟨_, rfl⟩ | ⟨g, off, rfl, hg, hcell⟩
    · simp at h2
    have hlt := Dm.lft_lt ps.length h2
    have hpos := Dm.lft_pos ps.length
    have hst := Dm.prf_step ps i h2 (by omega)
    obtain ⟨k, hkk⟩ : ∃ k, Dm.lft ps.length = k := ⟨_, rfl⟩
    have hh := fun w => refLeft_any ps.length w h2 (by omega)
    rw [hkk] at hlt hpos hst hh
    have s1 := strs_sub (B := w.heap.size) 0 k hg rfl hcell (by omega) (by omega) hc1 hc2
    have s2 := strs_sub (B := w.heap.size) k ps.length hg rfl hcell (by omega) (by omega) hc1 hc2
    rw [Nat.sub_zero, Nat.sub_zero, List.drop_zero, Nat.add_zero] at s1
    have e2 : (ps.drop k).take (ps.length - k) = ps.drop k := List.take_of_length_le (by rw [List.length_drop]; omega)
    rw [e2] at s2
    have p1 := fun (_ : i < k) => ih _ (ps.take k) i w (by rw [List.length_take]; omega) s1 (fun s hs => hl s (List.mem_of_mem_take hs)) (by rw [List.length_take]; omega) (by rw [List.length_take]; omega)
    have p2 := fun (_ : k ≤ i) => ih _ (ps.drop k) (i - k) w (by rw [List.length_drop]; omega) s2 (fun s hs => hl s (List.mem_of_mem_drop hs)) (by rw [List.length_drop]; omega) (by rw [List.length_drop]; omega)
    have r1 := fun u (hb : Below w.heap.size w u) => refRoot_any _ (ps.take k) u (s1.next hb) (fun s hs => hl s (List.mem_of_mem_take hs))
    have r2 := fun u (hb : Below w.heap.size w u) => refRoot_any _ (ps.drop k) u (s2.next hb) (fun s hs => hl s (List.mem_of_mem_drop hs))
    have q1 := proof_len64 (ps.take k) i
    have q2 := proof_len64 (ps.drop k) (i - k)
    obtain ⟨P1, hP1⟩ : ∃ x, Dm.proof (ps.take k) i = x := ⟨_, rfl⟩
    obtain ⟨P2, hP2⟩ : ∃ x, Dm.proof (ps.drop k) (i - k) = x := ⟨_, rfl⟩
    obtain ⟨x1, hx1⟩ : ∃ x, Dm.root (ps.take k) = x := ⟨_, rfl⟩
    obtain ⟨x2, hx2⟩ : ∃ x, Dm.root (ps.drop k) = x := ⟨_, rfl⟩
    rw [hP1] at p1 hst q1; rw [hP2] at p2 hst q2; rw [hx1] at r1 hst; rw [hx2] at r2 hst
    obtain ⟨m, hm⟩ : ∃ m, ps.length = m := ⟨_, rfl⟩
    rw [hm] at hh h2 hc1 hlt r2 hk hi p2 ⊢
    have R1 := Lib.hid r1; have R2 := Lib.hid r2; have HP1 := Lib.hid p1; have HP2 := Lib.hid p2; have HH := Lib.hid hh; have HST := Lib.hid hst
    unfold maxLen at hc2
    clear r1 r2 p1 p2 hh hst hx1 hx2 hP1 hP2 hm s1 s2 hcell hl ih hkk e2 h0 h1 hn
    have i1 : (0 : Int) ≤ (k : Int) := by omega
    have i2 : (k : Int) ≤ (c : Int) := by omega
    have i3 : (k : Int) ≤ (m : Int) := by omega
    have i4 : ¬ c = k := by omega
    have i6 : ((m : Int) == 1) = false := by rw [beq_eq_false_iff_ne]; omega
    have i7 : decide ((m : Int) ≤ (i : Int)) = false := by simp; omega
    have i8 : decide (m ≤ i) = false := by simp; omega
    by_cases hik : i < k
    · have j1 : (i : Int) < (k : Int) := by omega
      have HC := Lib.hid (HP1.out hik)
      have HS := Lib.hid (by have := HST.out; rw [if_pos hik] at this; exact this)
      clear HP1 HP2 HST
      go_enter Tryd.func23, Tryd.ntmps23
      go_wp2_with (first | (go_at_call 46; refine (HH.out _).mono ?_; rintro e w' ⟨rfl, rfl⟩) | (go_at_call 23; refine HC.out.mono ?_; unfold RefPrf; rintro e w1 ⟨v1, rfl, hown1, hb1⟩; have HO1 := Lib.hid hown1; have HB1 := Lib.hid hb1; clear hown1 hb1) | (go_at_call 28; refine (R2.out _ HB1.out).mono ?_; rintro e w2 ⟨rfl, hb2⟩; obtain ⟨v3, w3, hrun, hown3, hb3⟩ := snoc_row (s := x2) hi0 hz0 hz1 hz2 (own_below HO1.out hb2 (own_lt HO1.out)) (HB1.out.trans (hb2.mono HB1.out.size)) (by omega); have HO3 := Lib.hid hown3; have HB3 := Lib.hid hb3; clear hb2 hown3 hb3))
      go_ret2
      exact refPrf_close HO3.out HB3.out HS.out
    · have j1 : decide ((i : Int) < (k : Int)) = false := by simp; omega
      have j2 : decide (i < k) = false := by simp; omega
      have j3 : (k : Int) ≤ (i : Int) := by omega
      have hc0 := HP2.out (by omega)
      rw [show ((i - k : Nat) : Int) = (i : Int) - (k : Int) by omega] at hc0
      have HC := Lib.hid hc0
      have HS := Lib.hid (by have := HST.out; rw [if_neg hik] at this; exact this)
      clear HP1 HP2 HST hc0 hik
      go_enter Tryd.func23, Tryd.ntmps23
      go_wp2_with (first | (go_at_call 46; refine (HH.out _).mono ?_; rintro e w' ⟨rfl, rfl⟩) | (go_at_call 23; refine HC.out.mono ?_; unfold RefPrf; rintro e w1 ⟨v1, rfl, hown1, hb1⟩; have HO1 := Lib.hid hown1; have HB1 := Lib.hid hb1; clear hown1 hb1) | (go_at_call 28; refine (R1.out _ HB1.out).mono ?_; rintro e w2 ⟨rfl, hb2⟩; obtain ⟨v3, w3, hrun, hown3, hb3⟩ := snoc_row (s := x1) hi0 hz0 hz1 hz2 (own_below HO1.out hb2 (own_lt HO1.out)) (HB1.out.trans (hb2.mono HB1.out.size)) (by omega); have HO3 := Lib.hid hown3; have HB3 := Lib.hid hb3; clear hb2 hown3 hb3))
      go_ret2
      exact refPrf_close HO3.out HB3.out HS.out

theorem refProof_in (v : Value) (ps : List (List UInt8)) (i : Nat) (w : World) (hv : Strs w w.heap.size v ps) (hl : ∀ s ∈ ps, s.length ≤ 1000) (hi : i < ps.length) (hk : ps.length ≤ 1000) :
    Calls Tryd.prog 23 #[v, .int .i64 (i : Int)] w (RefPrf (Dm.proof ps i) w) := refProof_at ps.length v ps i w (Nat.le_refl _) hv hl hi hk
theorem refProof_out (A : Option Addr) (n c : Nat) (i : Int) (w : World) (hi : i < 0 ∨ (n : Int) ≤ i) :
    Calls Tryd.prog 23 #[.slice A n c, .int .i64 i] w fun e w' => e = .returned (.tuple #[.slice none 0 0, .int .i64 2]) ∧ w = w' := by
  by_cases h0 : i < 0
  · clear hi
    go_enter Tryd.func23, Tryd.ntmps23
    go_wp2
    go_ret2
    exact ⟨rfl, rfl⟩
  · have h1 : (n : Int) ≤ i := by omega
    have h2 : decide (i < 0) = false := by simp; omega
    clear hi h0
    go_enter Tryd.func23, Tryd.ntmps23
    go_wp2
    go_ret2
    exact ⟨rfl, rfl⟩
end

section
open Go.RowKit
attribute [local go_sem ↓] append_appN

theorem part_len : ∀ (k : Nat) (l : List (List UInt8)) (m : Nat) (wh : Bool), (Dm.partF k l m wh).length ≤ k + 1
  | 0, l, m, wh => by unfold Dm.partF; split <;> simp
  | k + 1, l, m, wh => by
    unfold Dm.partF
    split
    · split <;> simp
    · split
      · have := part_len k (l.take (Dm.lft l.length)) m wh; simp; omega
      · have := part_len k (l.drop (Dm.lft l.length)) (m - Dm.lft l.length) false; simp; omega
theorem part_len65 (l : List (List UInt8)) (m : Nat) (wh : Bool) : (Dm.part l m wh).length ≤ 65 := part_len 64 l m wh
def PartPost (l : List (List UInt8)) (w u : World) (e : Ending) (w' : World) : Prop :=
  ∃ v, e = .returned v ∧ w'.ownsRow w.heap.size 9 1 v l.length (strCells l) ∧ Below w.heap.size w w' ∧ Below u.heap.size u w'
theorem partPost_on {P : Program} {f : FuncId} {args : Array Value} {l : List (List UInt8)} {w u : World} (hb : Below w.heap.size w u) (h : Calls P f args u (PartPost l u u)) : Calls P f args u (PartPost l w u) :=
  h.mono fun _ _ ⟨v, h1, h2, h3, _⟩ => ⟨v, h1, own_base h2 hb.size, hb.trans (h3.mono hb.size), h3⟩
def RootPost (r : ByteArray) (w u : World) (e : Ending) (w' : World) : Prop := e = .returned (.string r) ∧ Below w.heap.size w w' ∧ Below u.heap.size u w'
/-- What the append gives, in whatever order the parts came. -/
theorem part_app {U : World} {B Bs : Nat} {v z : Value} {n : Nat} {l : List (List UInt8)} {q : List (List UInt8)} {s : List UInt8} {w : World} {i0 : TypeInfo} (hi0 : Tryd.prog.info? 9 = some i0) (hz0 : i0.zero = some (.string ⟨#[]⟩)) (hz1 : i0.size = 1) (hz2 : i0.bytes = 16)
    (hd : U.ownsRow B 9 1 v n (strCells l)) (hv : U.ownsRow Bs 9 1 z 1 (strCells [s])) (hn : n ≤ 100) (hB : B = w.heap.size) (hU : Below w.heap.size w U) (hq : q = l ++ [s]) (hln : l.length = n) :
    ∃ v' w', Sem.run Tryd.prog (appN #[26, 26] 26 #[v, z]) U = .ok v' w' ∧ PartPost q w w (.returned v') w' := by
  subst hB hq hln
  obtain ⟨v', w', hrun, hown, hgr⟩ := app_any hi0 hz0 hz1 hz2 hd hv (by omega) hU.size
  have hb := below_app hU hU.size hd hgr
  refine ⟨v', w', hrun, v', rfl, ?_, hb, hb⟩
  rw [List.length_append, List.length_singleton]
  have e : strCells (l ++ [s]) = strCells l ++ strCells [s] := by simp [strCells]
  rw [e]; exact hown

set_option maxRecDepth 100000 in
set_option maxHeartbeats 2000000 in
theorem refPart_at (n : Nat) : ∀ (v : Value) (ps : List (List UInt8)) (m : Nat) (wh : Bool) (w : World), ps.length ≤ n → Strs w w.heap.size v ps → (∀ s ∈ ps, s.length ≤ 1000) → 1 ≤ m → m ≤ ps.length → ps.length ≤ 1000 →
    Calls Tryd.prog 48 #[v, .int .i64 (m : Int), .bool wh] w (PartPost (Dm.part ps m wh) w w) := by
  induction n with
  | zero => intro _ ps m _ w hn _ _ h1 h2 _; omega
  | succ n ih =>
    intro v ps m wh w hn hv hl hm1 hm2 hk
    by_cases h0 : ps.length ≤ n
    · exact ih v ps m wh w h0 hv hl hm1 hm2 hk
    obtain ⟨i0, hi0, hz0, hz1, hz2⟩ := info_parts Tryd.infoStr
    by_cases hmn : m = ps.length
    · rw [show Dm.part ps m wh = Dm.part ps ps.length wh by rw [hmn], Dm.part_end]
      have hr := refRoot_any v ps w hv hl
      obtain ⟨A, c, rfl, hc1, hc2, hA⟩ := hv
      obtain ⟨N, hN⟩ : ∃ N, ps.length = N := ⟨_, rfl⟩
      rw [hN] at hmn hr ⊢
      subst hmn
      have HR := Lib.hid hr
      clear hr ih hA hl hn hN h0
      cases wh with
      | true =>
        go_enter Tryd.func48, Tryd.ntmps48
        go_wp2
        go_ret
        exact ⟨_, rfl, World.ownsRow_nil _ _ _ _, Below.refl _ _, Below.refl _ _⟩
      | false =>
        go_enter Tryd.func48, Tryd.ntmps48
        go_wp2_with (go_at_call 28; refine HR.out.mono ?_; rintro e w1 ⟨rfl, hb1⟩)
        go_ret
        exact ⟨_, rfl, own_base (own_one w1 _ _) hb1.size, hb1.alloc hb1.size _, hb1.alloc hb1.size _⟩
    obtain ⟨A, c, rfl, hc1, hc2, hA⟩ := hv
    have h2 : 2 ≤ ps.length := by omega
    rcases hA with ⟨_, rfl⟩ | ⟨g, off, rfl, hg, hcell⟩
    · simp at h2
    have hlt := Dm.lft_lt ps.length h2
    have hpos := Dm.lft_pos ps.length
    have hst := Dm.part_step ps m wh hm1 (by omega) (by omega)
    obtain ⟨k, hkk⟩ : ∃ k, Dm.lft ps.length = k := ⟨_, rfl⟩
    have hh := fun w => refLeft_any ps.length w h2 (by omega)
    rw [hkk] at hlt hpos hst hh
    have s1 := strs_sub (B := w.heap.size) 0 k hg rfl hcell (by omega) (by omega) hc1 hc2
    have s2 := strs_sub (B := w.heap.size) k ps.length hg rfl hcell (by omega) (by omega) hc1 hc2
    rw [Nat.sub_zero, Nat.sub_zero, List.drop_zero, Nat.add_zero] at s1
    have e2 : (ps.drop k).take (ps.length - k) = ps.drop k := List.take_of_length_le (by rw [List.length_drop]; omega)
    rw [e2] at s2
    have p1 := fun (_ : m ≤ k) u (hb : Below w.heap.size w u) => partPost_on hb (ih _ (ps.take k) m wh u (by rw [List.length_take]; omega) (s1.next hb) (fun s hs => hl s (List.mem_of_mem_take hs)) hm1 (by rw [List.length_take]; omega) (by rw [List.length_take]; omega))
    have p2 := fun (_ : k < m) u (hb : Below w.heap.size w u) => partPost_on hb (ih _ (ps.drop k) (m - k) false u (by rw [List.length_drop]; omega) (s2.next hb) (fun s hs => hl s (List.mem_of_mem_drop hs)) (by omega) (by rw [List.length_drop]; omega) (by rw [List.length_drop]; omega))
    have r1 := fun u (hb : Below w.heap.size w u) => (refRoot_any _ (ps.take k) u (s1.next hb) (fun s hs => hl s (List.mem_of_mem_take hs))).mono (R' := RootPost (bs (Dm.root (ps.take k))) w u) fun _ _ ⟨h1, h2⟩ => ⟨h1, hb.trans (h2.mono hb.size), h2⟩
    have r2 := fun u (hb : Below w.heap.size w u) => (refRoot_any _ (ps.drop k) u (s2.next hb) (fun s hs => hl s (List.mem_of_mem_drop hs))).mono (R' := RootPost (bs (Dm.root (ps.drop k))) w u) fun _ _ ⟨h1, h2⟩ => ⟨h1, hb.trans (h2.mono hb.size), h2⟩
    have q1 := part_len65 (ps.take k) m wh
    have q2 := part_len65 (ps.drop k) (m - k) false
    obtain ⟨P1, hP1⟩ : ∃ x, Dm.part (ps.take k) m wh = x := ⟨_, rfl⟩
    obtain ⟨P2, hP2⟩ : ∃ x, Dm.part (ps.drop k) (m - k) false = x := ⟨_, rfl⟩
    obtain ⟨x1, hx1⟩ : ∃ x, Dm.root (ps.take k) = x := ⟨_, rfl⟩
    obtain ⟨x2, hx2⟩ : ∃ x, Dm.root (ps.drop k) = x := ⟨_, rfl⟩
    rw [hP1] at p1 hst q1; rw [hP2] at p2 hst q2; rw [hx1] at r1 hst; rw [hx2] at r2 hst
    obtain ⟨N, hN⟩ : ∃ N, ps.length = N := ⟨_, rfl⟩
    rw [hN] at hh h2 hc1 hlt r2 hk hm2 hmn p2 ⊢
    obtain ⟨Q, hQ⟩ : ∃ x, Dm.part ps m wh = x := ⟨_, rfl⟩
    rw [hQ] at hst ⊢
    obtain ⟨b1, hb1⟩ : ∃ b, bs x1 = b := ⟨_, rfl⟩
    obtain ⟨b2, hb2⟩ : ∃ b, bs x2 = b := ⟨_, rfl⟩
    rw [hb1] at r1; rw [hb2] at r2
    have R1 := Lib.hid r1; have R2 := Lib.hid r2; have HP1 := Lib.hid p1; have HP2 := Lib.hid p2; have HH := Lib.hid hh; have HST := Lib.hid hst
    have HX1 := Lib.hid hb1; have HX2 := Lib.hid hb2
    obtain ⟨L1, hL1⟩ : ∃ L, P1.length = L := ⟨_, rfl⟩
    obtain ⟨L2, hL2⟩ : ∃ L, P2.length = L := ⟨_, rfl⟩
    have HL1 := Lib.hid hL1; have HL2 := Lib.hid hL2
    unfold maxLen at hc2
    have qq1 : L1 ≤ 100 := by omega
    have qq2 : L2 ≤ 100 := by omega
    clear r1 r2 p1 p2 hh hst hx1 hx2 hP1 hP2 hN s1 s2 hcell hl ih hkk e2 h0 hn hQ hb1 hb2 q1 q2 hL1 hL2
    have i1 : (0 : Int) ≤ (k : Int) := by omega
    have i2 : (k : Int) ≤ (c : Int) := by omega
    have i3 : (k : Int) ≤ (N : Int) := by omega
    have i4 : ¬ c = k := by omega
    have i6 : ((m : Int) == (N : Int)) = false := by rw [beq_eq_false_iff_ne]; omega
    have hb0 : Below w.heap.size w w := Below.refl _ _
    by_cases hik : m ≤ k
    · have j1 : (m : Int) ≤ (k : Int) := by omega
      have HC := Lib.hid (HP1.out hik)
      have HS := Lib.hid (by have := HST.out; rw [if_pos hik] at this; exact this)
      clear HP1 HP2 HST hmn
      go_enter Tryd.func48, Tryd.ntmps48
      go_wp2_with (go_at_call 46; refine (HH.out _).mono ?_; rintro e w' ⟨rfl, rfl⟩)
      go_region_with (first | (go_at_call 48; ((with_reducible refine Calls.mono (HC.out (World.alloc _ _) ?hb1) ?_); (case hb1 => (exact hbA)); unfold PartPost; rintro e wP ⟨vP, rfl, hPo, hPb, hPu⟩; have hpa := part_app hi0 hz0 hz1 hz2 hPo (own_below (own_oneS _ _ _ HX2.out) hPu (own_lt (own_oneS _ _ _ HX2.out))) (by have := HL1.out; omega) rfl hPb HS.out rfl; obtain ⟨vA, wA, hrun, hpost⟩ := hpa; rw [HL1.out] at hPo; have HPOST := Lib.hid hpost; clear hpost hPo hPb hPu)) | (go_at_call 48; ((with_reducible refine Calls.mono (HC.out _ ?hb1) ?_); (case hb1 => (first | exact hRb | exact Below.drew hb0)); unfold PartPost; rintro e wP ⟨vP, rfl, hPo, hPb, hPu⟩; (first | (have hpa := part_app hi0 hz0 hz1 hz2 (hPo.alloc _) (own_oneS wP _ _ HX2.out) (by have := HL1.out; omega) rfl ((hRb.trans (hPu.mono hRb.size)).alloc hPb.size _) HS.out rfl; obtain ⟨vA, wA, hrun, hpost⟩ := hpa; have HPOST := Lib.hid hpost; clear hpost hPo hPb hPu) | (have HPO := Lib.hid hPo; have HPB := Lib.hid hPb; clear hPo hPb hPu)))) | (go_at_call 28; ((with_reducible refine Calls.mono (R2.out _ ?hb2) ?_); (case hb2 => (first | exact HPB.out | exact Below.drew hb0)); unfold RootPost; rintro e wR ⟨rfl, hRb, hRu⟩; (first | (have hpa := part_app hi0 hz0 hz1 hz2 ((own_below HPO.out hRu (own_lt HPO.out)).alloc _) (own_oneS wR _ _ HX2.out) (by have := HL1.out; omega) rfl (hRb.alloc hRb.size _) HS.out rfl; obtain ⟨vA, wA, hrun, hpost⟩ := hpa; have HPOST := Lib.hid hpost; clear hpost hRb hRu) | (have hbA := fun o => hRb.alloc hRb.size o; clear hRu)))))
      all_goals
        go_wp2
        go_ret
        exact HPOST.out
    · have j1 : decide ((m : Int) ≤ (k : Int)) = false := by simp; omega
      have j2 : decide (m ≤ k) = false := by simp; omega
      have j3 : (k : Int) ≤ (m : Int) := by omega
      have wk : IntKind.i64.wrap ((m : Int) - (k : Int)) = (m : Int) - (k : Int) := IntWalk.i64_in _ (by omega)
      have hc0 := HP2.out (by omega)
      rw [show ((m - k : Nat) : Int) = (m : Int) - (k : Int) by omega] at hc0
      have HC := Lib.hid hc0
      have HS := Lib.hid (by have := HST.out; rw [if_neg hik] at this; exact this)
      clear HP1 HP2 HST hmn hc0 hik
      go_enter Tryd.func48, Tryd.ntmps48
      go_wp2_with (go_at_call 46; refine (HH.out _).mono ?_; rintro e w' ⟨rfl, rfl⟩)
      go_region_with (first | (go_at_call 48; ((with_reducible refine Calls.mono (HC.out (World.alloc _ _) ?hb1) ?_); (case hb1 => (exact hbA)); unfold PartPost; rintro e wP ⟨vP, rfl, hPo, hPb, hPu⟩; have hpa := part_app hi0 hz0 hz1 hz2 hPo (own_below (own_oneS _ _ _ HX1.out) hPu (own_lt (own_oneS _ _ _ HX1.out))) (by have := HL2.out; omega) rfl hPb HS.out rfl; obtain ⟨vA, wA, hrun, hpost⟩ := hpa; rw [HL2.out] at hPo; have HPOST := Lib.hid hpost; clear hpost hPo hPb hPu)) | (go_at_call 48; ((with_reducible refine Calls.mono (HC.out _ ?hb1) ?_); (case hb1 => (first | exact hRb | exact Below.drew hb0)); unfold PartPost; rintro e wP ⟨vP, rfl, hPo, hPb, hPu⟩; (first | (have hpa := part_app hi0 hz0 hz1 hz2 (hPo.alloc _) (own_oneS wP _ _ HX1.out) (by have := HL2.out; omega) rfl ((hRb.trans (hPu.mono hRb.size)).alloc hPb.size _) HS.out rfl; obtain ⟨vA, wA, hrun, hpost⟩ := hpa; have HPOST := Lib.hid hpost; clear hpost hPo hPb hPu) | (have HPO := Lib.hid hPo; have HPB := Lib.hid hPb; clear hPo hPb hPu)))) | (go_at_call 28; ((with_reducible refine Calls.mono (R1.out _ ?hb2) ?_); (case hb2 => (first | exact HPB.out | exact Below.drew hb0)); unfold RootPost; rintro e wR ⟨rfl, hRb, hRu⟩; (first | (have hpa := part_app hi0 hz0 hz1 hz2 ((own_below HPO.out hRu (own_lt HPO.out)).alloc _) (own_oneS wR _ _ HX1.out) (by have := HL2.out; omega) rfl (hRb.alloc hRb.size _) HS.out rfl; obtain ⟨vA, wA, hrun, hpost⟩ := hpa; have HPOST := Lib.hid hpost; clear hpost hRb hRu) | (have hbA := fun o => hRb.alloc hRb.size o; clear hRu)))))
      all_goals
        go_wp2
        go_ret
        exact HPOST.out

theorem refPart_any (v : Value) (ps : List (List UInt8)) (m : Nat) (wh : Bool) (w : World) (hv : Strs w w.heap.size v ps) (hl : ∀ s ∈ ps, s.length ≤ 1000) (h1 : 1 ≤ m) (h2 : m ≤ ps.length) (h3 : ps.length ≤ 1000) :
    Calls Tryd.prog 48 #[v, .int .i64 (m : Int), .bool wh] w (PartPost (Dm.part ps m wh) w w) := refPart_at ps.length v ps m wh w (Nat.le_refl _) hv hl h1 h2 h3

set_option maxHeartbeats 400000 in
theorem refExt_out (A : Option Addr) (n c : Nat) (m : Int) (w : World) (hm : m < 0 ∨ (n : Int) < m) :
    Calls Tryd.prog 25 #[.slice A n c, .int .i64 m] w fun e w' => e = .returned (.tuple #[.slice none 0 0, .int .i64 2]) ∧ w = w' := by
  by_cases h0 : m < 0
  · clear hm
    go_enter Tryd.func25, Tryd.ntmps25
    go_wp2
    go_ret2
    exact ⟨rfl, rfl⟩
  · have h1 : (n : Int) < m := by omega
    have h2 : decide (m < 0) = false := by simp; omega
    clear hm h0
    go_enter Tryd.func25, Tryd.ntmps25
    go_wp2
    go_ret2
    exact ⟨rfl, rfl⟩
set_option maxHeartbeats 400000 in
theorem refExt_in (v : Value) (ps : List (List UInt8)) (m : Nat) (w : World) (hv : Strs w w.heap.size v ps) (hl : ∀ s ∈ ps, s.length ≤ 1000) (h2 : m ≤ ps.length) (h3 : ps.length ≤ 1000) :
    Calls Tryd.prog 25 #[v, .int .i64 (m : Int)] w (TupOwn (extO ps m) w) := by
  have hp := fun (h1 : 1 ≤ m) => (show Dm.part ps m true = extRow ps m from (Dm.part_is ps m h1 h2 (by omega)).symm) ▸ refPart_any v ps m true w hv hl h1 h2 h3
  obtain ⟨A, c, rfl, hc1, hc2, hA⟩ := hv
  obtain ⟨N, hN⟩ : ∃ N, ps.length = N := ⟨_, rfl⟩
  rw [hN] at hp h2 hc1 ⊢
  have hd : decide ((N : Int) < (m : Int)) = false := by simp; omega
  have hd2 : decide (N < m) = false := by simp; omega
  unfold extO
  clear hA hl hN h3
  by_cases h0 : m = 0
  · subst h0
    rw [if_pos rfl]
    clear hp
    go_enter Tryd.func25, Tryd.ntmps25
    go_wp2
    go_ret2
    exact ⟨_, rfl, World.ownsRow_nil _ _ _ _, Below.refl _ _⟩
  · rw [if_neg h0]
    have d1 : ((m : Int) == 0) = false := by rw [beq_eq_false_iff_ne]; omega
    have HP := Lib.hid (hp (by omega))
    clear hp h0
    go_enter Tryd.func25, Tryd.ntmps25
    go_wp2_with (go_at_call 48; refine HP.out.mono ?_; unfold PartPost; rintro e w1 ⟨v1, rfl, hown, hb1, _⟩; have HO := Lib.hid hown; clear hown)
    go_ret2
    exact ⟨_, rfl, HO.out, hb1⟩
end
end Go.Proofs.YtnbhhhbmeafkaaaDoor
