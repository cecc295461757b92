/- Contracts of half, join, other, areDigests. -/
import Derived.Test.YtnbhhhbmeafkaaaDoorDi
import Derived.Test.YtnbhhhbmeafkaaaDoorDt
import Derived.Test.YtnbhhhbmeafkaaaDoorShelf
namespace Go.Proofs.YtnbhhhbmeafkaaaDoor
open Go.RowKit

theorem bitLen_log (x : Nat) (h : 0 < x) (h2 : x < 2 ^ 64) : Lib.bitLen x = Nat.log2 x + 1 := by
  have h1 := Nat.log2_self_le (n := x) (by omega)
  have h3 := Nat.lt_log2_self (n := x)
  rw [Lib.bitLen_shift (Nat.log2 x) x h1 h2]
  have : x / 2 ^ Nat.log2 x = 1 := by
    rw [Nat.pow_succ] at h3
    refine Nat.div_eq_of_lt_le (by omega) (by omega)
  rw [this]; rfl

set_option maxHeartbeats 400000 in
theorem half_any (n : Nat) (w : World) (h2 : 2 ≤ n) (hn : n ≤ 9223372036854775807) :
    Calls Tryd.prog 49 #[.int .i64 (n : Int)] w fun e w' => e = .returned (.int .i64 ((Dm.lft n : Nat) : Int)) ∧ w = w' := by
  have hb := fun w => Tryd.bits_Len ((n - 1 : Nat) : Int) w (by omega) (by omega)
  obtain ⟨k, hk⟩ : ∃ k, Nat.log2 (n - 1) = k := ⟨_, rfl⟩
  have hk2 : k < 63 := by rw [← hk]; exact (Nat.log2_lt (by omega)).2 (by omega)
  have he : Dm.lft n = 2 ^ k := by unfold Dm.lft; rw [hk]
  have hle : 2 ^ k ≤ 2 ^ 62 := Nat.pow_le_pow_right (by decide) (by omega)
  rw [Int.toNat_natCast, bitLen_log _ (by omega) (by omega), hk] at hb
  have e1 : (n : Int) - 1 = ((n - 1 : Nat) : Int) := by omega
  have e2 : IntKind.u64.wrap ((n - 1 : Nat) : Int) = ((n - 1 : Nat) : Int) := by rw [IntKind.wrap_u64]; omega
  have e3 : ((k + 1 : Nat) : Int) - 1 = (k : Int) := by omega
  have e4 : IntKind.i64.wrap (((k + 1 : Nat) : Int) - 1) = (k : Int) := by rw [e3]; exact IntWalk.i64_in _ (by omega)
  rw [he]
  have HB := Lib.hid hb; have HLE := Lib.hid hle
  clear hb hk he hle
  go_enter Tryd.func49, Tryd.ntmps49
  go_wp2_with (go_at_call 63; refine (HB.out _).mono ?_; rintro e w' ⟨rfl, rfl⟩)
  go_ret
  refine ⟨ret_int' ?_, rfl⟩
  have hle := HLE.out
  have hp : 0 < 2 ^ k := Nat.two_pow_pos k
  rw [Int.natCast_pow]
  have e : ((2 : Nat) : Int) ^ k = ((2 ^ k : Nat) : Int) := by rw [Int.natCast_pow]
  rw [show wrap64 ((2 : Int) ^ k) = wrap64 (((2 : Nat) : Int) ^ k) from rfl, e]
  exact IntWalk.wrap64_in _ ⟨by omega, by omega⟩

abbrev fkV (f : Dm.Fk) : Value := .agg #[.int .i64 (f.fr : Int), .int .i64 (f.mid : Int), .int .i64 (f.to : Int), .bool f.sec]

set_option maxHeartbeats 400000 in
theorem join_any (f : Dm.Fk) (a b : List UInt8) (w : World) (hl : a.length + b.length ≤ 549755813888) (ht : TabOk w) :
    Calls Tryd.prog 53 #[fkV f, strOf a, strOf b] w fun e w' => e = .returned (strOf (f.join a b)) ∧ Below w.heap.size w w' := by
  obtain ⟨fr, mid, to, sec⟩ := f
  have H1 := Lib.hid (node_any a b (w.alloc (.cells #[.int .i64 (fr : Int), .int .i64 (mid : Int), .int .i64 (to : Int), .bool sec] 57)) hl (ht.next ((Below.refl _ w).alloc (Nat.le_refl _) _)))
  have H2 := Lib.hid (node_any b a (w.alloc (.cells #[.int .i64 (fr : Int), .int .i64 (mid : Int), .int .i64 (to : Int), .bool sec] 57)) (by omega) (ht.next ((Below.refl _ w).alloc (Nat.le_refl _) _)))
  cases sec
  · go_enter Tryd.func53, Tryd.ntmps53
    go_wp2_with (go_at_call 17; refine H1.out.mono ?_; rintro e w' ⟨rfl, hb⟩)
    go_ret
    exact ⟨rfl, ((Below.refl _ w).alloc (Nat.le_refl _) _).trans (hb.mono (by simp))⟩
  · go_enter Tryd.func53, Tryd.ntmps53
    go_wp2_with (go_at_call 17; refine H2.out.mono ?_; rintro e w' ⟨rfl, hb⟩)
    go_ret
    exact ⟨rfl, ((Below.refl _ w).alloc (Nat.le_refl _) _).trans (hb.mono (by simp))⟩

theorem strs_sub {w : World} {B g off c n : Nat} {ps : List (List UInt8)} (lo hi : Nat) (hg : g < B) (hn : ps.length = n) (h : ∀ j s, ps[j]? = some s → w.cell? ⟨g, off + j, none⟩ = some (strOf s)) (hlo : lo ≤ hi) (hhi : hi ≤ n) (hc : n ≤ c) (hm : c ≤ maxLen) :
    Strs w B (.slice (some ⟨g, off + lo, none⟩) (hi - lo) (c - lo)) ((ps.drop lo).take (hi - lo)) := by
  have hl : ((ps.drop lo).take (hi - lo)).length = hi - lo := by rw [List.length_take, List.length_drop]; omega
  refine ⟨_, _, by rw [hl], by rw [hl]; omega, by omega, .inr ⟨g, off + lo, rfl, hg, fun j s hj => ?_⟩⟩
  have hj2 : j < hi - lo := by have := (List.getElem?_eq_some_iff.1 hj).1; omega
  rw [List.getElem?_take_of_lt hj2, List.getElem?_drop] at hj
  rw [Nat.add_assoc]
  exact h _ _ hj

def OtherPost (ps : List (List UInt8)) (w : World) (e : Ending) (w' : World) : Prop := ∃ v, e = .returned v ∧ Strs w w.heap.size v ps ∧ Below w.heap.size w w'
set_option maxHeartbeats 400000 in
theorem other_any (f : Dm.Fk) (v : Value) (ps : List (List UInt8)) (w : World) (hv : Strs w w.heap.size v ps) (h1 : f.fr < f.mid) (h2 : f.mid < f.to) (h3 : f.to ≤ ps.length) :
    Calls Tryd.prog 44 #[fkV f, v] w (OtherPost (f.other ps) w) := by
  obtain ⟨fr, mid, to, sec⟩ := f
  obtain ⟨A, c, rfl, hc1, hc2, hA⟩ := hv
  dsimp only at h1 h2 h3
  rcases hA with ⟨_, rfl⟩ | ⟨g, off, rfl, hg, hcell⟩
  · simp at h3; omega
  have hs1 := strs_sub (B := w.heap.size) fr mid hg rfl hcell (by omega) (by omega) hc1 hc2
  have hs2 := strs_sub (B := w.heap.size) mid to hg rfl hcell (by omega) (by omega) hc1 hc2
  have S1 := Lib.hid hs1; have S2 := Lib.hid hs2
  obtain ⟨n, hn⟩ : ∃ n, ps.length = n := ⟨_, rfl⟩
  rw [hn] at h3 hc1 ⊢
  unfold maxLen at hc2
  clear hs1 hs2 hcell hn
  have i1 : (fr : Int) ≤ (mid : Int) := by omega
  have i2 : (mid : Int) ≤ (to : Int) := by omega
  have i3 : (mid : Int) ≤ (c : Int) := by omega
  have i4 : (to : Int) ≤ (c : Int) := by omega
  have i5 : ¬ c = fr := by omega
  have i6 : ¬ c = mid := by omega
  cases sec
  · go_enter Tryd.func44, Tryd.ntmps44
    go_wp2
    go_ret
    exact ⟨_, rfl, S2.out, (Below.refl _ w).alloc (Nat.le_refl _) _⟩
  · go_enter Tryd.func44, Tryd.ntmps44
    go_wp2
    go_ret
    exact ⟨_, rfl, S1.out, (Below.refl _ w).alloc (Nat.le_refl _) _⟩

set_option maxHeartbeats 400000 in
theorem notDig_any (l : List UInt8) (w : World) (_ : l.length ≤ 9223372036854775807) :
    Calls Tryd.prog 65 #[strOf l] w fun e w' => e = .returned (.bool (l.length != 32)) ∧ w = w' := by
  have hs := bs_size l
  have e : (((l.length : Nat) : Int) != 32) = (l.length != 32) := by
    rw [Bool.eq_iff_iff]; simp; omega
  have HE := Lib.hid e
  clear e
  go_enter Tryd.func65, Tryd.ntmps65
  go_wp2
  go_ret
  exact ⟨by rw [← HE.out]; rfl, rfl⟩

def IdxPost (ps : List (List UInt8)) (w : World) (e : Ending) (w' : World) : Prop := ∃ r : Int, e = .returned (.int .i64 r) ∧ decide (0 ≤ r) = !Dm.digs ps ∧ -1 ≤ r ∧ w = w'
theorem digs_at (ps : List (List UInt8)) (k : Nat) (h : k < ps.length) (hk : Dm.digs (ps.take k) = true) : Dm.digs (ps.take (k + 1)) = (ps[k].length == 32) := by
  rw [List.take_succ_eq_append_getElem h]
  simp only [Dm.digs, List.all_append, List.all_cons, List.all_nil, Bool.and_true] at hk ⊢
  rw [hk, Bool.true_and]
theorem digs_no (ps : List (List UInt8)) (k : Nat) (h : k < ps.length) (hk : (ps[k].length == 32) = false) : Dm.digs ps = false := by
  cases e : Dm.digs ps with
  | false => rfl
  | true =>
    have := List.all_eq_true.1 e ps[k] (List.getElem_mem h)
    rw [hk] at this; cases this

set_option maxRecDepth 100000 in
set_option maxHeartbeats 400000 in
theorem idx_any (v : Value) (ps : List (List UInt8)) (w : World) (hv : Strs w w.heap.size v ps) (hl : ∀ s ∈ ps, s.length ≤ 9223372036854775807) :
    Calls Tryd.prog 74 #[v, .func (.func 65) #[] #[]] w (IdxPost ps w) := by
  obtain ⟨A, c, rfl, hc1, hc2, hA⟩ := hv
  unfold maxLen at hc2
  obtain ⟨n, hn⟩ : ∃ n, ps.length = n := ⟨_, rfl⟩
  rw [hn] at hc1 ⊢
  have HN := Lib.hid hn
  clear hn
  go_enter Tryd.func74, Tryd.ntmps74
  go_wp2
  go_loop [5, 8] (fun _ i => ∃ k : Nat, k ≤ n ∧ i = .int .i64 k ∧ Dm.digs (ps.take k) = true) (fun _ i => n - (intOf i).toNat)
  case atStart => exact ⟨0, by omega, rfl, rfl⟩
  case round =>
    obtain ⟨k, hk, rfl, hd⟩ := hrel
    by_cases hlt : k < n
    · rcases hA with ⟨_, rfl⟩ | ⟨g, off, rfl, hg, hcell⟩
      · have := HN.out; simp at this; omega
      have hkl : k < ps.length := by have := HN.out; omega
      obtain ⟨p, hp⟩ : ∃ p, ps[k] = p := ⟨_, rfl⟩
      have ck := hcell k p (by rw [List.getElem?_eq_getElem hkl, hp])
      have hpl := hl p (by rw [← hp]; exact List.getElem_mem hkl)
      have hda := digs_at ps k hkl hd
      have hdn := digs_no ps k hkl
      have hnd := fun w => notDig_any p w hpl
      rw [hp] at hda hdn
      have HDA := Lib.hid hda; have HDN := Lib.hid hdn
      clear hp hcell hl hda hdn hd
      by_cases h32 : p.length = 32
      · have e1 : (p.length != 32) = false := by rw [h32]; rfl
        rw [e1] at hnd
        have HND := Lib.hid hnd
        have e2 : (p.length == 32) = true := by rw [h32]; rfl
        have E2 := Lib.hid e2
        clear e1 hnd e2 h32 hpl
        go_wp2_with (go_at_call 65; refine (HND.out _).mono ?_; rintro e w' ⟨rfl, rfl⟩)
        go_round
        case rel => exact ⟨k + 1, by omega, by go_num, by rw [HDA.out, E2.out]⟩
        case measure => simp [intOf]; omega
      · have e1 : (p.length != 32) = true := by simpa using h32
        rw [e1] at hnd
        have HND := Lib.hid hnd
        have e2 : (p.length == 32) = false := by simpa using h32
        have E2 := Lib.hid e2
        clear e1 hnd e2 h32 hpl
        go_wp2_with (go_at_call 65; refine (HND.out _).mono ?_; rintro e w' ⟨rfl, rfl⟩)
        go_ret
        exact ⟨k, rfl, by rw [HDN.out E2.out]; simp, by omega, rfl⟩
    · have ht : ps.take k = ps := List.take_of_length_le (by have := HN.out; omega)
      rw [ht] at hd
      have HD := Lib.hid hd
      clear hd ht
      go_wp2
      go_ret
      exact ⟨-1, rfl, by rw [HD.out]; rfl, by omega, rfl⟩

set_option maxHeartbeats 400000 in
theorem hasNot_any (v : Value) (ps : List (List UInt8)) (w : World) (hv : Strs w w.heap.size v ps) (hl : ∀ s ∈ ps, s.length ≤ 9223372036854775807) :
    Calls Tryd.prog 64 #[v, .func (.func 65) #[] #[]] w fun e w' => e = .returned (.bool (!Dm.digs ps)) ∧ w = w' := by
  have H := Lib.hid (idx_any v ps w hv hl)
  go_enter Tryd.func64, Tryd.ntmps64
  go_wp2_with (go_at_call 74; refine H.out.mono ?_; rintro e w' ⟨r, rfl, hr, hr2, rfl⟩; have HR := Lib.hid hr; clear hr)
  go_ret
  exact ⟨by rw [← HR.out]; rfl, rfl⟩

set_option maxHeartbeats 400000 in
theorem areDigs_any (v : Value) (ps : List (List UInt8)) (w : World) (hv : Strs w w.heap.size v ps) (hl : ∀ s ∈ ps, s.length ≤ 9223372036854775807) :
    Calls Tryd.prog 50 #[v] w fun e w' => e = .returned (.bool (Dm.digs ps)) ∧ w = w' := by
  have h1 := hasNot_any v ps w hv hl
  obtain ⟨d, hd⟩ : ∃ d, Dm.digs ps = d := ⟨_, rfl⟩
  rw [hd] at h1 ⊢
  have H := Lib.hid h1
  clear h1 hd
  go_enter Tryd.func50, Tryd.ntmps50
  go_wp2_with (go_at_call 64; refine H.out.mono ?_; rintro e w' ⟨rfl, rfl⟩)
  go_ret
  exact ⟨by simp, rfl⟩
end Go.Proofs.YtnbhhhbmeafkaaaDoor
