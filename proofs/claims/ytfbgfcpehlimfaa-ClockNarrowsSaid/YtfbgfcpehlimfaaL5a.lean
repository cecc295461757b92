/- Plain mathematics of ClockNarrows; two rows of a call's own, one of which grows. -/
import Derived.Test.YtfbgfcpehlimfaaL8
import Derived.Deep.DeepCutAuto
import Derived.Deep.RegionWith
import Derived.Deep.CutBlock
namespace Go.Proofs.Ytfbgfcpehlimfaa
open Go.RowKit
attribute [local go_sem ↓] append_appN

def fewL (rs : List Ca.R3) (k i : Nat) : List Ca.R3 := if i ≤ k then rs.take i else rs.take k ++ (rs.take i).drop (k + 1)
def vagL (rs : List Ca.R3) (y : Ca.R3) (k i : Nat) : List Ca.R3 := if i ≤ k then rs.take i else rs.take k ++ y :: (rs.take i).drop (k + 1)
theorem drop_step (rs : List Ca.R3) (k i : Nat) (hi : i < rs.length) (hk : k + 1 ≤ i) : (rs.take (i + 1)).drop (k + 1) = (rs.take i).drop (k + 1) ++ [rs[i]] := by
  rw [List.take_succ_eq_append_getElem hi, List.drop_append_of_le_length (by rw [List.length_take]; omega)]
theorem few_step (rs : List Ca.R3) (k i : Nat) (hi : i < rs.length) : fewL rs k (i + 1) = if i = k then fewL rs k i else fewL rs k i ++ [rs[i]] := by
  unfold fewL
  by_cases h1 : i = k
  · subst h1
    rw [if_pos rfl, if_neg (by omega), if_pos (Nat.le_refl _)]
    have : (rs.take (i + 1)).drop (i + 1) = [] := List.drop_eq_nil_of_le (by rw [List.length_take]; omega)
    rw [this, List.append_nil]
  · rw [if_neg h1]
    by_cases h2 : i + 1 ≤ k
    · rw [if_pos h2, if_pos (by omega), List.take_succ_eq_append_getElem hi]
    · rw [if_neg h2, if_neg (by omega), drop_step rs k i hi (by omega), List.append_assoc]
theorem vag_step (rs : List Ca.R3) (y : Ca.R3) (k i : Nat) (hi : i < rs.length) : vagL rs y k (i + 1) = vagL rs y k i ++ [if i = k then y else rs[i]] := by
  unfold vagL
  by_cases h1 : i = k
  · subst h1
    rw [if_pos rfl, if_neg (by omega), if_pos (Nat.le_refl _)]
    have : (rs.take (i + 1)).drop (i + 1) = [] := List.drop_eq_nil_of_le (by rw [List.length_take]; omega)
    rw [this]
  · rw [if_neg h1]
    by_cases h2 : i + 1 ≤ k
    · rw [if_pos h2, if_pos (by omega), List.take_succ_eq_append_getElem hi]
    · rw [if_neg h2, if_neg (by omega), drop_step rs k i hi (by omega)]; simp
theorem few_len (rs : List Ca.R3) (k i : Nat) : (fewL rs k i).length ≤ i := by
  unfold fewL; split
  · rw [List.length_take]; omega
  · rw [List.length_append, List.length_take, List.length_drop, List.length_take]; omega
theorem vag_len (rs : List Ca.R3) (y : Ca.R3) (k i : Nat) (hi : i ≤ rs.length) : (vagL rs y k i).length = i := by
  unfold vagL; split
  · rw [List.length_take]; omega
  · rw [List.length_append, List.length_cons, List.length_take, List.length_drop, List.length_take]; omega
theorem cut_at (rs : List Ca.R3) (k : Nat) (hk : k < rs.length) : rs = rs.take k ++ rs[k] :: rs.drop (k + 1) := by rw [List.getElem_cons_drop, List.take_append_drop]
theorem few_all (rs : List Ca.R3) (k : Nat) (hk : k < rs.length) : fewL rs k rs.length = rs.take k ++ rs.drop (k + 1) := by
  unfold fewL; rw [if_neg (by omega), List.take_length]
theorem vag_all (rs : List Ca.R3) (y : Ca.R3) (k : Nat) (hk : k < rs.length) : vagL rs y k rs.length = rs.take k ++ y :: rs.drop (k + 1) := by
  unfold vagL; rw [if_neg (by omega), List.take_length]
theorem few_m (d t : Int) (rs : List Ca.R3) (k : Nat) (hk : k < rs.length) (e1 : (atM d rs t).2.2 = 0) :
    (atM d (fewL rs k rs.length) t).2.2 = 0 ∧ (atM d (fewL rs k rs.length) t).1 ≤ (atM d rs t).1 ∧ (atM d rs t).2.1 ≤ (atM d (fewL rs k rs.length) t).2.1 := by
  have hcut := cut_at rs k hk
  rw [few_all rs k hk]
  refine narrows_m d t rs _ e1 (fun hv => ?_) fun y hy => ?_
  · obtain ⟨a, b, c⟩ := (Ca.valid_iff d rs).1 hv
    refine (Ca.valid_iff d _).2 ⟨a, ?_, ?_⟩
    · rw [List.length_append, List.length_take, List.length_drop]; omega
    · rw [hcut] at c; exact Ca.okF_out _ _ _ _ c
  · refine ⟨y, ?_, rfl, Int.le_refl _, Int.le_refl _⟩
    rcases List.mem_append.1 hy with h | h
    · exact List.mem_of_mem_take h
    · exact List.mem_of_mem_drop h
theorem vag_m (d t : Int) (rs : List Ca.R3) (k : Nat) (hk : k < rs.length) (y : Ca.R3) (h0 : y.1 = rs[k].1) (h1 : 0 ≤ y.2.1) (h2 : y.2.1 ≤ rs[k].2.1) (h3 : rs[k].2.2 ≤ y.2.2) (h4 : y.2.2 ≤ 10000000) (e1 : (atM d rs t).2.2 = 0) :
    (atM d (vagL rs y k rs.length) t).2.2 = 0 ∧ (atM d (vagL rs y k rs.length) t).1 ≤ (atM d rs t).1 ∧ (atM d rs t).2.1 ≤ (atM d (vagL rs y k rs.length) t).2.1 := by
  have hcut := cut_at rs k hk
  rw [vag_all rs y k hk]
  refine narrows_m d t rs _ e1 (fun hv => ?_) fun z hz => ?_
  · obtain ⟨a, b, c⟩ := (Ca.valid_iff d rs).1 hv
    refine (Ca.valid_iff d _).2 ⟨a, ?_, ?_⟩
    · rw [List.length_append, List.length_cons, List.length_take, List.length_drop]; omega
    · rw [hcut] at c; exact Ca.okF_vague _ _ _ _ _ c h0 h1 h2 h3 h4
  · rcases List.mem_append.1 hz with h | h
    · exact ⟨z, List.mem_of_mem_take h, rfl, Int.le_refl _, Int.le_refl _⟩
    · rcases List.mem_cons.1 h with rfl | h
      · exact ⟨rs[k], List.getElem_mem hk, h0, h2, h3⟩
      · exact ⟨z, List.mem_of_mem_drop h, rfl, Int.le_refl _, Int.le_refl _⟩

/-- A reading more behind one of two rows of the call's own. -/
theorem push_two {w : World} {B n1 n2 : Nat} {v u : Value} {l m : List Ca.R3} (x : Ca.R3) (hv : w.ownsRow B 48 3 v n1 (flat3 l)) (hu : w.ownsRow B 48 3 u n2 (flat3 m)) (hd : ∀ g, v.ownBlock = some g → u.ownBlock = some g → False) (hn : n1 ≤ 100000) (hB : B ≤ w.heap.size) :
    ∃ A c w', Sem.run Try.prog (appN #[22, 22] 22 #[v, .slice (some ⟨w.heap.size, 0, none⟩) 1 1]) (w.alloc (.cells #[.int .i64 x.1, .int .i64 x.2.1, .int .i64 x.2.2] 48)) = .ok (.slice A (n1 + 1) c) w' ∧
      w'.ownsRow B 48 3 (.slice A (n1 + 1) c) (n1 + 1) (flat3 (l ++ [x])) ∧ w'.ownsRow B 48 3 u n2 (flat3 m) ∧ (∀ g, (Value.slice A (n1 + 1) c).ownBlock = some g → u.ownBlock = some g → False) ∧ Below B w w' ∧ ∀ k, k < w.heap.size → v.ownBlock ≠ some k → w'.heap[k]? = w.heap[k]? := by
  obtain ⟨i0, hi0, hz0, hz1, hz2⟩ := info_parts infoReading
  have hnews : ∀ j u, (flat3 [x])[j]? = some u → (w.alloc (.cells #[.int .i64 x.1, .int .i64 x.2.1, .int .i64 x.2.2] 48)).cell? (Addr.add ⟨w.heap.size, 0, none⟩ j) = some u := fun j u hj => by
    have hc := (Row.new w 48 #[.int .i64 x.1, .int .i64 x.2.1, .int .i64 x.2.2]).cell j
    have ha : Addr.add ⟨w.heap.size, 0, none⟩ j = ⟨w.heap.size, j, none⟩ := by rw [Addr.add_lit, Nat.zero_add]
    rw [ha, hc]; simpa [flat3, enc3] using hj
  have hone : ∀ u ∈ flat3 [x], u.oneCell' = true := fun u hu => by
    simp only [flat3, List.mem_flatMap, enc3, List.mem_cons, List.not_mem_nil, or_false] at hu
    obtain ⟨x, _, rfl | rfl | rfl⟩ := hu <;> rfl
  obtain ⟨v', w', hrun, hown, hgr, _, hat⟩ := run_append_own_at (P := Try.prog) (w.alloc (.cells #[.int .i64 x.1, .int .i64 x.2.1, .int .i64 x.2.2] 48)) B 22 22 48 i0 (.agg #[.int .i64 0, .int .i64 0, .int .i64 0]) 3 24 Try.underlying22 hi0 hz0 hz1 hz2 rfl (by decide)
    v n1 _ (hv.alloc _) ⟨w.heap.size, 0, none⟩ 1 1 (flat3 [x]) (flat3_len [x]) hnews hone (by unfold maxLen; omega) (by omega) (by simp; omega)
  obtain ⟨A, c, rfl, -, -, -⟩ := own_slice hown
  refine ⟨A, c, w', hrun, by rw [flat3_append]; exact hown, (hu.alloc _).kept hgr ?_, fun g h1 h2 => ?_, own_below_grown hv hB hgr, fun k hk hne => (hgr.block k (by simp; omega) fun h => hne h.symm).trans (Below.heap_alloc w _ k hk)⟩
  · cases hub : u.ownBlock with
    | none => exact .inl rfl
    | some g => exact .inr fun h => hd g h.symm hub
  · rcases hat with h | h
    · exact hd g (h ▸ h1) h2
    · have := own_lt hu g h2
      rw [h1] at h
      simp at h
      omega
end Go.Proofs.Ytfbgfcpehlimfaa
