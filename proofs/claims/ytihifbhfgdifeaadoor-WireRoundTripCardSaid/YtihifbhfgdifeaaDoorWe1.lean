/- Plain facts that the statements of layer 1 come down to: decoding what was encoded, wherever it stands. -/
import Derived.Test.YtihifbhfgdifeaaDoorWl
namespace Go.Proofs.YtihifbhfgdifeaaDoor
open Go.RowKit

theorem cut_size {s p : ByteArray} {n : Int} (h : s.extract 0 (min (s.size : Int) n).toNat = p) : (p.size : Int) ≤ max n 0 ∧ p.size ≤ s.size ∧ p.data.toList = s.data.toList.take (min (s.size : Int) n).toNat := by
  refine ⟨?_, ?_, ?_⟩
  · rw [← h, ByteArray.size_extract]; omega
  · rw [← h, ByteArray.size_extract]; omega
  · rw [← h, Lib.extract_data, List.drop_zero, Nat.sub_zero]
theorem putS_small (u : ByteArray) (h : u.size ≤ 65536) : putS u.data.toList = (Wm.enc (Wm.foldZ u.size) ++ u.data.toList, 0) := by
  unfold putS; rw [if_neg (by simp; omega)]; simp
theorem intR_emb (P Q : List UInt8) (n : Int) (h1 : -4611686018427387903 ≤ n) (h2 : n ≤ 4611686018427387903) :
    intR (P ++ Wm.enc (Wm.foldZ n) ++ Q) P.length = (n, (P.length : Int) + (Wm.enc (Wm.foldZ n)).length, 0) := by
  have hl := Wm.fold_lt n h1 h2
  unfold intR
  rw [if_neg (by simp; omega), Int.toNat_natCast, List.append_assoc, List.drop_left, Wm.dec_enc0 _ _ (by omega)]
  unfold intD
  have := Wm.enc_pos (Wm.foldZ n)
  rw [if_neg (by rintro (h | h) <;> simp only [] at h <;> omega), Wm.unfold_fold]
theorem strR_emb (P Q T : List UInt8) (h : T.length ≤ 65536) :
    strR (P ++ (Wm.enc (Wm.foldZ T.length) ++ T) ++ Q) P.length = (T, (P.length : Int) + (Wm.enc (Wm.foldZ T.length) ++ T).length, 0) := by
  have e := intR_emb P (T ++ Q) (T.length : Int) (by omega) (by omega)
  have e2 : P ++ (Wm.enc (Wm.foldZ T.length) ++ T) ++ Q = P ++ Wm.enc (Wm.foldZ T.length) ++ (T ++ Q) := by simp
  unfold strR
  rw [e2, e]
  unfold strD
  rw [if_pos rfl, if_neg (by simp; omega)]
  have e3 : ((P.length : Int) + (Wm.enc (Wm.foldZ T.length)).length).toNat = (P ++ Wm.enc (Wm.foldZ T.length)).length := by simp; omega
  simp only [e3, Int.toNat_natCast, List.drop_left, List.take_left]
  simp; omega
end Go.Proofs.YtihifbhfgdifeaaDoor
