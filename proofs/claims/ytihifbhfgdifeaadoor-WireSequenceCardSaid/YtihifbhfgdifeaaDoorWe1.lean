/- Plain facts that the statements of layer 1 come down to: decoding what was encoded, wherever it stands. -/
import Derived.Test.YtihifbhfgdifeaaDoorWl
namespace Go.Proofs.YtihifbhfgdifeaaDoor
open Go.RowKit

theorem cut_size {s p : ByteArray} {n : Int} (h : s.extract 0 (min (s.size : Int) n).toNat = p) : (p.size : Int) ≤ max n 0 ∧ p.size ≤ s.size ∧ p.data.toList = s.data.toList.take (min (s.size : Int) n).toNat := by
  refine ⟨?_, ?_, ?_⟩
  · rw [← h, ByteArray.size_extract]; omega
  · rw [← h, ByteArray.size_extract]; omega
  · rw [← h, Lib.extract_data, List.drop_zero, Nat.sub_zero]
theorem putS_small (u : ByteArray) (h : u.size ≤ 65536) : putS u.data.toList = (Wm.enc (Wm.foldZ u.size) ++ u.data.toList, 0) := by
  unfold putS; rw [if_neg (by simp; omega)]; simp
theorem intR_emb (P Q : List UInt8) (n : Int) (h1 : -4611686018427387903 ≤ n) (h2 : n ≤ 4611686018427387903) :
    intR (P ++ Wm.enc (Wm.foldZ n) ++ Q) P.length = (n, (P.length : Int) + (Wm.enc (Wm.foldZ n)).length, 0) := by
  have hl := Wm.fold_lt n h1 h2
  unfold intR
  rw [if_neg (by simp; omega), Int.toNat_natCast, List.append_assoc, List.drop_left, Wm.dec_enc0 _ _ (by omega)]
  unfold intD
  have := Wm.enc_pos (Wm.foldZ n)
  rw [if_neg (by rintro (h | h) <;> simp only [] at h <;> omega), Wm.unfold_fold]
theorem strR_emb (P Q T : List UInt8) (h : T.length ≤ 65536) :
    strR (P ++ (Wm.enc (Wm.foldZ T.length) ++ T) ++ Q) P.length = (T, (P.length : Int) + (Wm.enc (Wm.foldZ T.length) ++ T).length, 0) := by
  have e := intR_emb P (T ++ Q) (T.length : Int) (by omega) (by omega)
  have e2 : P ++ (Wm.enc (Wm.foldZ T.length) ++ T) ++ Q = P ++ Wm.enc (Wm.foldZ T.length) ++ (T ++ Q) := by simp
  unfold strR
  rw [e2, e]
  unfold strD
  rw [if_pos rfl, if_neg (by simp; omega)]
  have e3 : ((P.length : Int) + (Wm.enc (Wm.foldZ T.length)).length).toNat = (P ++ Wm.enc (Wm.foldZ T.length)).length := by simp; omega
  simp only [e3, Int.toNat_natCast, List.drop_left, List.take_left]
  simp; omega
theorem intR_zero (l : List UInt8) : intR l 0 = intD 0 (Wm.dec 0 0 l) := by
  unfold intR; rw [if_neg (by simp)]; rfl
theorem intR_cut (y k : Nat) (h : y < 9223372036854775808) (hk : k < (Wm.enc y).length) : intR ((Wm.enc y).take k) 0 = (0, 0, 10) := by
  rw [intR_zero, Wm.dec_prefix y k h hk]; rfl
theorem strR_cut (T : List UInt8) (k : Nat) (h : T.length ≤ 65536) (hk : k < (Wm.enc (Wm.foldZ T.length) ++ T).length) :
    strR ((Wm.enc (Wm.foldZ T.length) ++ T).take k) 0 = ([], 0, 10) := by
  have hl := Wm.fold_lt (T.length : Int) (by omega) (by omega)
  by_cases hk2 : k < (Wm.enc (Wm.foldZ T.length)).length
  · have e : (Wm.enc (Wm.foldZ T.length) ++ T).take k = (Wm.enc (Wm.foldZ T.length)).take k := by
      rw [List.take_append_of_le_length (by omega)]
    unfold strR
    rw [e, intR_cut _ _ (by omega) hk2]; rfl
  · have e : (Wm.enc (Wm.foldZ T.length) ++ T).take k = Wm.enc (Wm.foldZ T.length) ++ T.take (k - (Wm.enc (Wm.foldZ T.length)).length) := by
      rw [List.take_append, List.take_of_length_le (by omega)]
    unfold strR
    have e2 := intR_emb [] (T.take (k - (Wm.enc (Wm.foldZ T.length)).length)) (T.length : Int) (by omega) (by omega)
    simp only [List.nil_append, List.length_nil] at e2
    have e3 : ((0 : Nat) : Int) = 0 := rfl
    rw [e3] at e2
    rw [e, e2]
    unfold strD
    rw [if_pos rfl, if_pos]
    refine Or.inr (Or.inr ?_)
    simp only [List.length_append, List.length_take] at hk ⊢
    omega
theorem enc_apart (n m : Int) (hn : -4611686018427387903 ≤ n ∧ n ≤ 4611686018427387903) (hm : -4611686018427387903 ≤ m ∧ m ≤ 4611686018427387903) (h : n ≠ m) :
    (Wm.enc (Wm.foldZ m)).take (Wm.enc (Wm.foldZ n)).length ≠ Wm.enc (Wm.foldZ n) := by
  intro e
  have h1 := Wm.fold_lt n hn.1 hn.2
  have h2 := Wm.fold_lt m hm.1 hm.2
  have a := Wm.dec_enc0 (Wm.foldZ m) [] (by omega)
  have b := Wm.dec_enc0 (Wm.foldZ n) ((Wm.enc (Wm.foldZ m)).drop (Wm.enc (Wm.foldZ n)).length) (by omega)
  rw [← e] at b
  rw [List.length_take] at b
  have e3 : min (Wm.enc (Wm.foldZ n)).length (Wm.enc (Wm.foldZ m)).length = (Wm.enc (Wm.foldZ n)).length := by
    have := congrArg List.length e
    rw [List.length_take] at this; exact this
  rw [e3, List.take_append_drop] at b
  rw [List.append_nil, b] at a
  have := congrArg Prod.fst a
  simp only [] at this
  apply h
  rw [← Wm.unfold_fold n, ← Wm.unfold_fold m, this]
end Go.Proofs.YtihifbhfgdifeaaDoor
