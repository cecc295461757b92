/- Contracts of the reference's Leaf, Node, Chain, Left, Root and Digests. -/
import Derived.Test.YtnbhhhbmeafkaaaDoorE15
import Derived.Test.YtnbhhhbmeafkaaaDoorE11
namespace Go.Proofs.YtnbhhhbmeafkaaaDoor
open Go.RowKit

set_option maxHeartbeats 400000 in
theorem refLeaf_any (l : List UInt8) (w : World) (hl : l.length ≤ 5000) :
    Calls Tryd.prog 16 #[strOf l] w fun e w' => e = .returned (strOf (Dm.leaf l)) ∧ Below w.heap.size w w' := by
  have h := fun u => refSum_any (0 :: l) u (by simp; omega)
  obtain ⟨S, hS⟩ : ∃ S, bs l = S := ⟨_, rfl⟩
  have z : S.size ≤ 5000 := by rw [← hS, bs_size]; omega
  have e : bs (0 :: l) = (⟨#[0]⟩ : ByteArray) ++ S := by rw [← hS, bs_one]
  unfold strOf at h ⊢
  rw [e] at h; rw [hS]
  have H := Lib.hid h
  clear h hS e
  go_enter Tryd.func16, Tryd.ntmps16
  go_wp2_with (go_at_call 14; refine (H.out _).mono ?_; rintro e w' ⟨rfl, hb⟩)
  go_ret
  exact ⟨rfl, hb⟩

set_option maxHeartbeats 400000 in
theorem refNode_any (a b : List UInt8) (w : World) (hl : a.length + b.length ≤ 5000) :
    Calls Tryd.prog 18 #[strOf a, strOf b] w fun e w' => e = .returned (strOf (Dm.node a b)) ∧ Below w.heap.size w w' := by
  have h := fun u => refSum_any (1 :: (a ++ b)) u (by simp; omega)
  obtain ⟨S, hS⟩ : ∃ S, bs a = S := ⟨_, rfl⟩
  obtain ⟨T, hT⟩ : ∃ T, bs b = T := ⟨_, rfl⟩
  have z : S.size ≤ 5000 := by rw [← hS, bs_size]; omega
  have z1 : T.size ≤ 5000 := by rw [← hT, bs_size]; omega
  have z3 : ((⟨#[1]⟩ : ByteArray) ++ S).size ≤ 5001 := by rw [ByteArray.size_append]; show 1 + _ ≤ _; omega
  have e : bs (1 :: (a ++ b)) = (⟨#[1]⟩ : ByteArray) ++ S ++ T := by rw [← hS, ← hT, bs_one, bs_append]; rfl
  unfold strOf at h ⊢
  rw [e] at h; rw [hS, hT]
  have H := Lib.hid h
  clear h hS hT e
  go_enter Tryd.func18, Tryd.ntmps18
  go_wp2_with (go_at_call 14; refine (H.out _).mono ?_; rintro e w' ⟨rfl, hb⟩)
  go_ret
  exact ⟨rfl, hb⟩

set_option maxHeartbeats 400000 in
theorem refChain_any (a b : List UInt8) (w : World) (hl : a.length + b.length ≤ 5000) :
    Calls Tryd.prog 20 #[strOf a, strOf b] w fun e w' => e = .returned (strOf (Dm.chain a b)) ∧ Below w.heap.size w w' := by
  have h := fun u => refSum_any (2 :: (a ++ b)) u (by simp; omega)
  obtain ⟨S, hS⟩ : ∃ S, bs a = S := ⟨_, rfl⟩
  obtain ⟨T, hT⟩ : ∃ T, bs b = T := ⟨_, rfl⟩
  have z : S.size ≤ 5000 := by rw [← hS, bs_size]; omega
  have z1 : T.size ≤ 5000 := by rw [← hT, bs_size]; omega
  have z3 : ((⟨#[2]⟩ : ByteArray) ++ S).size ≤ 5001 := by rw [ByteArray.size_append]; show 1 + _ ≤ _; omega
  have e : bs (2 :: (a ++ b)) = (⟨#[2]⟩ : ByteArray) ++ S ++ T := by rw [← hS, ← hT, bs_one, bs_append]; rfl
  unfold strOf at h ⊢
  rw [e] at h; rw [hS, hT]
  have H := Lib.hid h
  clear h hS hT e
  go_enter Tryd.func20, Tryd.ntmps20
  go_wp2_with (go_at_call 14; refine (H.out _).mono ?_; rintro e w' ⟨rfl, hb⟩)
  go_ret
  exact ⟨rfl, hb⟩

set_option maxHeartbeats 400000 in
theorem refLeft_any (n : Nat) (w : World) (h2 : 2 ≤ n) (hn : n ≤ 9223372036854775807) :
    Calls Tryd.prog 46 #[.int .i64 (n : Int)] w fun e w' => e = .returned (.int .i64 ((Dm.lft n : Nat) : Int)) ∧ w = w' := by
  go_enter Tryd.func46, Tryd.ntmps46
  go_wp2
  go_loop [3] (fun k => ∃ j x : Nat, k = .int .i64 (x : Int) ∧ Hid (x = 2 ^ j) ∧ x < n ∧ 1 ≤ x) (fun k => n - (intOf k).toNat)
  case atStart => exact ⟨0, 1, rfl, Lib.hid rfl, by omega, by omega⟩
  case round =>
    obtain ⟨j, x, rfl, hx, hlt, h1⟩ := hrel
    by_cases hc : (x : Int) < (n : Int) - (x : Int)
    · go_wp2
      go_round
      case rel => exact ⟨j + 1, 2 * x, by go_num, Lib.hid (by rw [hx.out, Nat.pow_succ]; omega), by omega, by omega⟩
      case measure => simp [intOf]; omega
    · have hl : Dm.lft n = x := by rw [Dm.lft_uniq n j (by rw [← hx.out]; omega) (by rw [Nat.pow_succ, ← hx.out]; omega), hx.out]
      have HL := Lib.hid hl
      clear hl
      go_wp2
      go_ret
      exact ⟨ret_i64 (by rw [HL.out]), rfl⟩

set_option maxRecDepth 100000 in
set_option maxHeartbeats 1000000 in
theorem refRoot_at (n : Nat) : ∀ (v : Value) (ps : List (List UInt8)) (w : World), ps.length ≤ n → Strs w w.heap.size v ps → (∀ s ∈ ps, s.length ≤ 1000) →
    Calls Tryd.prog 28 #[v] w fun e w' => e = .returned (strOf (Dm.root ps)) ∧ Below w.heap.size w w' := by
  induction n with
  | zero =>
    intro _ ps w hn hv _
    obtain rfl := List.eq_nil_of_length_eq_zero (by omega : ps.length = 0)
    obtain ⟨A, c, rfl, hc1, hc2, hA⟩ := hv
    have hsum := Lib.hid (refSum_any [] w (by simp))
    go_enter Tryd.func28, Tryd.ntmps28
    go_wp2_with (go_at_call 14; refine hsum.out.mono ?_; rintro e w' ⟨rfl, hb⟩)
    go_ret
    exact ⟨rfl, hb⟩
  | succ n ih =>
    intro v ps w hn hv hl
    by_cases h0 : ps.length ≤ n
    · exact ih v ps w h0 hv hl
    obtain ⟨A, c, rfl, hc1, hc2, hA⟩ := hv
    by_cases h1 : ps.length = 1
    · obtain ⟨s, rfl⟩ : ∃ s, ps = [s] := List.length_eq_one_iff.1 h1
      rcases hA with ⟨_, h⟩ | ⟨g, off, rfl, hg, hcell⟩
      · cases h
      have c0 := hcell 0 s rfl
      have hlf := Lib.hid (refLeaf_any s w (by have := hl s (by simp); omega))
      rw [Nat.add_zero] at c0
      clear ih hcell
      go_enter Tryd.func28, Tryd.ntmps28
      go_wp2_with (go_at_call 16; refine hlf.out.mono ?_; rintro e w' ⟨rfl, hb⟩)
      go_ret
      exact ⟨rfl, hb⟩
    have h2 : 2 ≤ ps.length := by omega
    rcases hA with ⟨_, rfl⟩ | ⟨g, off, rfl, hg, hcell⟩
    · simp at h2
    have hlt := Dm.lft_lt ps.length h2
    have hpos := Dm.lft_pos ps.length
    have hr2 := Dm.root_two ps h2
    obtain ⟨k, hk⟩ : ∃ k, Dm.lft ps.length = k := ⟨_, rfl⟩
    have hh := fun w => refLeft_any ps.length w h2 (by unfold maxLen at hc2; omega)
    rw [hk] at hlt hpos hr2 hh
    have s1 := strs_sub (B := w.heap.size) 0 k hg rfl hcell (by omega) (by omega) hc1 hc2
    have s2 := strs_sub (B := w.heap.size) k ps.length hg rfl hcell (by omega) (by omega) hc1 hc2
    rw [Nat.sub_zero, Nat.sub_zero, List.drop_zero, Nat.add_zero] at s1
    have e2 : (ps.drop k).take (ps.length - k) = ps.drop k := List.take_of_length_le (by rw [List.length_drop]; omega)
    rw [e2] at s2
    have r1 := fun u (hb : Below w.heap.size w u) => calls_on hb (ih _ (ps.take k) u (by rw [List.length_take]; omega) (s1.next hb) (fun s hs => hl s (List.mem_of_mem_take hs)))
    have r2 := fun u (hb : Below w.heap.size w u) => calls_on hb (ih _ (ps.drop k) u (by rw [List.length_drop]; omega) (s2.next hb) (fun s hs => hl s (List.mem_of_mem_drop hs)))
    have nd := fun u (hb : Below w.heap.size w u) => calls_on hb (refNode_any (Dm.root (ps.take k)) (Dm.root (ps.drop k)) u (by rw [Dm.root_len, Dm.root_len]; omega))
    obtain ⟨x1, hx1⟩ : ∃ x, Dm.root (ps.take k) = x := ⟨_, rfl⟩
    obtain ⟨x2, hx2⟩ : ∃ x, Dm.root (ps.drop k) = x := ⟨_, rfl⟩
    rw [hx1] at r1 nd hr2; rw [hx2] at r2 nd hr2
    obtain ⟨m, hm⟩ : ∃ m, ps.length = m := ⟨_, rfl⟩
    rw [hm] at hh h2 hc1 hlt r2 ⊢
    have R1 := Lib.hid r1; have R2 := Lib.hid r2; have ND := Lib.hid nd; have HR := Lib.hid hr2; have HH := Lib.hid hh
    unfold maxLen at hc2
    clear r1 r2 nd hr2 hh hx1 hx2 hm s1 s2 hcell hl ih hk e2
    have i1 : (0 : Int) ≤ (k : Int) := by omega
    have i2 : (k : Int) ≤ (c : Int) := by omega
    have i3 : (k : Int) ≤ (m : Int) := by omega
    have i4 : ¬ c = k := by omega
    have i5 : ((m : Int) == 0) = false := by rw [beq_eq_false_iff_ne]; omega
    have i6 : ((m : Int) == 1) = false := by rw [beq_eq_false_iff_ne]; omega
    clear h0 h1 hn
    go_enter Tryd.func28, Tryd.ntmps28
    go_wp2_with (go_at_call 46; refine (HH.out _).mono ?_; rintro e w' ⟨rfl, rfl⟩)
    have hb0 : Below w.heap.size w w := Below.refl _ _
    go_region_with (first | (go_at_call 28; ((with_reducible refine Calls.mono (R1.out _ ?hb1) ?_); (case hb1 => (first | assumption | exact Below.drew (by assumption))); rintro e w1 ⟨rfl, hb1⟩)) | (go_at_call 28; ((with_reducible refine Calls.mono (R2.out _ ?hb2) ?_); (case hb2 => (first | assumption | exact Below.drew (by assumption))); rintro e w2 ⟨rfl, hb2⟩)) | (go_at_call 18; ((with_reducible refine Calls.mono (ND.out _ ?hb3) ?_); (case hb3 => (first | assumption | exact Below.drew (by assumption))); rintro e w3 ⟨rfl, hb3⟩)))
    all_goals
      go_wp2
      go_ret
      exact ⟨by rw [HR.out]; rfl, hb3⟩
theorem refRoot_any (v : Value) (ps : List (List UInt8)) (w : World) (hv : Strs w w.heap.size v ps) (hl : ∀ s ∈ ps, s.length ≤ 1000) :
    Calls Tryd.prog 28 #[v] w fun e w' => e = .returned (strOf (Dm.root ps)) ∧ Below w.heap.size w w' := refRoot_at ps.length v ps w (Nat.le_refl _) hv hl

theorem digs_cons (s : List UInt8) (l : List (List UInt8)) : Dm.digs (s :: l) = (s.length == 32 && Dm.digs l) := rfl
theorem digs_take (l : List (List UInt8)) (k : Nat) (h : k < l.length) : Dm.digs (l.take (k + 1)) = (Dm.digs (l.take k) && (l[k].length == 32)) := by
  rw [List.take_succ_eq_append_getElem h]
  unfold Dm.digs
  rw [List.all_append, List.all_cons, List.all_nil, Bool.and_true]

set_option maxHeartbeats 400000 in
theorem refDigests_any (v : Value) (ps : List (List UInt8)) (w : World) (hv : Strs w w.heap.size v ps) (hl : ∀ s ∈ ps, s.length ≤ 1000) :
    Calls Tryd.prog 54 #[v] w fun e w' => e = .returned (.bool (Dm.digs ps)) ∧ w = w' := by
  obtain ⟨A, c, rfl, hc1, hc2, hA⟩ := hv
  unfold maxLen at hc2
  obtain ⟨n, hn⟩ : ∃ n, ps.length = n := ⟨_, rfl⟩
  rw [hn] at hc1 ⊢
  have HN := Lib.hid hn
  clear hn
  go_enter Tryd.func54, Tryd.ntmps54
  go_wp2
  go_loop [3] (fun i => ∃ k : Nat, k ≤ n ∧ i = .int .i64 (k : Int) ∧ Hid (Dm.digs (ps.take k) = true)) (fun i => n - (intOf i).toNat)
  case atStart => exact ⟨0, by omega, rfl, Lib.hid rfl⟩
  case round =>
    obtain ⟨k, hk, rfl, HT⟩ := hrel
    by_cases hlt : k < n
    · have hkl : k < ps.length := by have := HN.out; omega
      rcases hA with ⟨_, hp⟩ | ⟨g, off, rfl, hg, hcell⟩
      · rw [hp] at hkl; simp at hkl
      have c0 := hcell k _ (List.getElem?_eq_getElem hkl)
      have hdt := digs_take ps k hkl
      have hsl := hl _ (List.getElem_mem hkl)
      rw [HT.out, Bool.true_and] at hdt
      have hmm : ps[k] ∈ ps := List.getElem_mem hkl
      obtain ⟨x, hx⟩ : ∃ x, ps[k] = x := ⟨_, rfl⟩
      rw [hx] at c0 hdt hsl hmm
      obtain ⟨S, hS⟩ : ∃ S, bs x = S := ⟨_, rfl⟩
      have hz : S.size = x.length := by rw [← hS, bs_size]
      unfold strOf at c0
      rw [hS] at c0
      rw [← hz] at hdt
      have hz2 : S.size ≤ 1000 := by omega
      have HDT := Lib.hid hdt
      have HZ := Lib.hid hz
      clear hcell hx hS hdt hl hz
      by_cases h32 : S.size = 32
      · have t1 : ((S.size : Int) != 32) = false := by rw [h32]; rfl
        have HD2 : Hid (Dm.digs (ps.take (k + 1)) = true) := Lib.hid (by rw [HDT.out, h32]; rfl)
        clear h32
        go_wp2
        go_round
        case rel => exact ⟨k + 1, by omega, by go_num, HD2⟩
        case measure => simp [intOf]; omega
      · have t1 : ((S.size : Int) != 32) = true := by simp; omega
        have hf : Dm.digs ps = false := by
          have h2 := HZ.out
          cases e : Dm.digs ps with
          | false => rfl
          | true => exact absurd (Dm.digs_mem e x hmm) (by omega)
        have HF := Lib.hid hf
        clear hf h32
        go_wp2
        go_ret
        exact ⟨by rw [HF.out]; rfl, rfl⟩
    · have hta : ps.take k = ps := List.take_of_length_le (by have := HN.out; omega)
      have hf : Dm.digs ps = true := by rw [← hta]; exact HT.out
      have HF := Lib.hid hf
      clear hf hta
      go_wp2
      go_ret
      exact ⟨by rw [HF.out]; rfl, rfl⟩
end Go.Proofs.YtnbhhhbmeafkaaaDoor
