/- Contracts of PutInt, PutString and String (the program's and the reference's): what the plain functions putR, putS, strR say. -/
import Derived.Test.YtihifbhfgdifeaaDoorWc
import Derived.Test.YtihifbhfgdifeaaDoorWg
import Derived.Test.YtihifbhfgdifeaaDoorShelf
namespace Go.Proofs.YtihifbhfgdifeaaDoor
open Go.RowKit

theorem bs_size (l : List UInt8) : (bs l).size = l.length := by simp [bs, ByteArray.size]
theorem bs_list (l : List UInt8) : (bs l).data.toList = l := by simp [bs]
theorem bs_of (s : ByteArray) : bs s.data.toList = s := by simp [bs]
theorem bs_append (a b : List UInt8) : bs a ++ bs b = bs (a ++ b) := by simp [bs, ByteArray.mk_append_mk]
theorem bs_extract (s : ByteArray) (a b : Nat) : s.extract a b = bs ((s.data.toList.drop a).take (b - a)) := by
  rw [← Lib.extract_data, bs_of]
theorem bs_inj (a b : List UInt8) : bs a = bs b ↔ a = b := ⟨fun h => by rw [← bs_list a, h, bs_list], fun h => by rw [h]⟩

/-- What PutInt returns. -/
def putR (n : Int) : List UInt8 × Int := if n < -4611686018427387903 ∨ 4611686018427387903 < n then ([], 10) else (Wm.enc (Wm.foldZ n), 0)
def putS (l : List UInt8) : List UInt8 × Int := if 65536 < l.length then ([], 10) else (Wm.enc (Wm.foldZ l.length) ++ l, 0)
def tupS (r : List UInt8 × Int) : Value := .tuple #[.string (bs r.1), .int .i64 r.2]

set_option maxRecDepth 100000 in
set_option maxHeartbeats 400000 in
theorem put_out (n : Int) (w : World) (h : n < -4611686018427387903 ∨ 4611686018427387903 < n) (h1 : -9223372036854775808 ≤ n) (h2 : n ≤ 9223372036854775807) :
    Calls Tryd.prog 12 #[.int .i64 n] w fun e w' => e = .returned (.tuple #[.string ⟨#[]⟩, .int .i64 10]) ∧ Below w.heap.size w w' := by
  rcases h with h | h
  · go_enter Tryd.func12, Tryd.ntmps12
    go_wp2
    go_ret2
    exact ⟨rfl, Below.refl _ _⟩
  · have h' : ¬ n < -4611686018427387903 := by omega
    go_enter Tryd.func12, Tryd.ntmps12
    go_wp2
    go_ret2
    exact ⟨rfl, Below.refl _ _⟩
theorem put_any (n : Int) (w : World) (h1 : -9223372036854775808 ≤ n) (h2 : n ≤ 9223372036854775807) :
    Calls Tryd.prog 12 #[.int .i64 n] w fun e w' => e = .returned (tupS (putR n)) ∧ Below w.heap.size w w' := by
  by_cases h : n < -4611686018427387903 ∨ 4611686018427387903 < n
  · refine (put_out n w h h1 h2).mono fun e w' ⟨he, hw⟩ => ⟨?_, hw⟩
    rw [he]; unfold putR; rw [if_pos h]; rfl
  · refine (put_in n w (by omega) (by omega)).mono fun e w' ⟨he, hw⟩ => ⟨?_, hw⟩
    rw [he]; unfold putR; rw [if_neg h]; rfl
theorem refPut_any (n : Int) (w : World) (h1 : -9223372036854775808 ≤ n) (h2 : n ≤ 9223372036854775807) :
    Calls Tryd.prog 13 #[.int .i64 n] w fun e w' => e = .returned (tupS (putR n)) ∧ Below w.heap.size w w' := by
  by_cases h : n < -4611686018427387903 ∨ 4611686018427387903 < n
  · refine (refPut_out n w h h1 h2).mono fun e w' ⟨he, hw⟩ => ⟨?_, hw⟩
    rw [he]; unfold putR; rw [if_pos h]; rfl
  · refine (refPut_in n w (by omega) (by omega)).mono fun e w' ⟨he, hw⟩ => ⟨?_, hw⟩
    rw [he]; unfold putR; rw [if_neg h]; rfl

set_option maxRecDepth 100000 in
set_option maxHeartbeats 400000 in
theorem putS_any (s : ByteArray) (w : World) (hs : s.size ≤ maxLen) :
    Calls Tryd.prog 19 #[.string s] w fun e w' => e = .returned (tupS (putS s.data.toList)) ∧ Below w.heap.size w w' := by
  unfold maxLen at hs
  by_cases h : 65536 < s.size
  · have hr : putS s.data.toList = ([], 10) := by unfold putS; rw [if_pos (by simpa using h)]
    rw [hr]; clear hr
    go_enter Tryd.func19, Tryd.ntmps19
    go_wp2
    go_ret2
    exact ⟨rfl, Below.refl _ _⟩
  · have hr : putS s.data.toList = (Wm.enc (Wm.foldZ s.size) ++ s.data.toList, 0) := by unfold putS; rw [if_neg (by simpa using h)]; simp
    rw [hr]; clear hr
    have hc := fun w => put_in (s.size : Int) w (by omega) (by omega)
    have hl := Wm.enc_le (Wm.foldZ s.size)
    obtain ⟨t, ht⟩ : ∃ t, t = bs (Wm.enc (Wm.foldZ s.size)) := ⟨_, rfl⟩
    have hts : t.size ≤ 9 := by rw [ht, bs_size]; exact hl
    rw [show strOf (Wm.enc (Wm.foldZ s.size)) = .string t from by rw [ht]] at hc
    have HT := Lib.hid ht; clear ht
    have HC := Lib.hid hc; clear hc
    go_enter Tryd.func19, Tryd.ntmps19
    go_wp2_with (go_at_call 12; refine (HC.out _).mono ?_; rintro e w' ⟨rfl, hb⟩)
    go_ret2
    refine ⟨?_, hb⟩
    show _ = Ending.returned (.tuple #[.string (bs (Wm.enc (Wm.foldZ s.size) ++ s.data.toList)), .int .i64 0])
    rw [← bs_append, ← HT.out, bs_of]; rfl

set_option maxRecDepth 100000 in
set_option maxHeartbeats 400000 in
theorem refPutS_any (s : ByteArray) (w : World) (hs : s.size ≤ maxLen) :
    Calls Tryd.prog 20 #[.string s] w fun e w' => e = .returned (tupS (putS s.data.toList)) ∧ Below w.heap.size w w' := by
  unfold maxLen at hs
  by_cases h : 65536 < s.size
  · have hr : putS s.data.toList = ([], 10) := by unfold putS; rw [if_pos (by simpa using h)]
    rw [hr]; clear hr
    go_enter Tryd.func20, Tryd.ntmps20
    go_wp2
    go_ret2
    exact ⟨rfl, Below.refl _ _⟩
  · have hr : putS s.data.toList = (Wm.enc (Wm.foldZ s.size) ++ s.data.toList, 0) := by unfold putS; rw [if_neg (by simpa using h)]; simp
    rw [hr]; clear hr
    have hc := fun w => refPut_in (s.size : Int) w (by omega) (by omega)
    have hl := Wm.enc_le (Wm.foldZ s.size)
    obtain ⟨t, ht⟩ : ∃ t, t = bs (Wm.enc (Wm.foldZ s.size)) := ⟨_, rfl⟩
    have hts : t.size ≤ 9 := by rw [ht, bs_size]; exact hl
    rw [show strOf (Wm.enc (Wm.foldZ s.size)) = .string t from by rw [ht]] at hc
    have HT := Lib.hid ht; clear ht
    have HC := Lib.hid hc; clear hc
    go_enter Tryd.func20, Tryd.ntmps20
    go_wp2_with (go_at_call 13; refine (HC.out _).mono ?_; rintro e w' ⟨rfl, hb⟩)
    go_ret2
    refine ⟨?_, hb⟩
    show _ = Ending.returned (.tuple #[.string (bs (Wm.enc (Wm.foldZ s.size) ++ s.data.toList)), .int .i64 0])
    rw [← bs_append, ← HT.out, bs_of]; rfl
end Go.Proofs.YtihifbhfgdifeaaDoor
