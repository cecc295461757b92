/- RightsLeast. -/
import Derived.Test.YtenojfniknjeiaaIe
namespace Go.Proofs.Ytenojfniknjeiaa
open Go.RowKit Go.Shelf
attribute [local go_sem ↓] append_appN

theorem snoc_use {w : World} {B n : Nat} {v : Value} {l : List Us} (x : Us) (hrow : w.ownsRow B 46 4 v n (flatE encU l)) (hn : n ≤ 100000) (hB : B ≤ w.heap.size) :
    ∃ A c w', Sem.run Try.prog (appN #[23, 23] 23 #[v, .slice (some ⟨w.heap.size, 0, none⟩) 1 1]) (w.alloc (.cells (encU x).toArray 46)) = .ok (.slice A (n + 1) c) w' ∧
      w'.ownsRow B 46 4 (.slice A (n + 1) c) (n + 1) (flatE encU (l ++ [x])) ∧ (w.alloc (.cells (encU x).toArray 46)).grownBy w' v.ownBlock ∧ ((Value.slice A (n + 1) c).ownBlock = v.ownBlock ∨ (Value.slice A (n + 1) c).ownBlock = some (w.heap.size + 1)) := by
  obtain ⟨i0, hi0, hz0, hz1, hz2⟩ := info_parts infoUse
  have hnews : ∀ j u, (encU x)[j]? = some u → (w.alloc (.cells (encU x).toArray 46)).cell? (Addr.add ⟨w.heap.size, 0, none⟩ j) = some u := fun j u hj => by
    have hc := (Row.new w 46 (encU x).toArray).cell j
    have ha : Addr.add ⟨w.heap.size, 0, none⟩ j = ⟨w.heap.size, j, none⟩ := by rw [Addr.add_lit, Nat.zero_add]
    rw [ha, hc]; simpa using hj
  obtain ⟨v', w', hrun, hown, hgr, -, hloc⟩ := run_append_own_at (P := Try.prog) (w := w.alloc (.cells (encU x).toArray 46)) B 23 23 46 i0 _ 4 32 Try.underlying23 hi0 hz0 hz1 hz2 rfl (by decide)
    v n _ (hrow.alloc _) ⟨w.heap.size, 0, none⟩ 1 1 (encU x) rfl hnews (encU_one x) (by unfold maxLen; omega) (by omega) (by simp; omega)
  obtain ⟨A, c, rfl, -⟩ := own_slice hown
  rw [World.size_alloc] at hloc
  refine ⟨A, c, w', hrun, ?_, hgr, hloc⟩
  rw [flatE_append, show flatE encU [x] = encU x by simp [flatE]]
  exact hown
/-- Two slices of uses of one's own, apart from each other. -/
structure TwoU (w : World) (LA LB : List Us) (va vb : Value) (wr : World) : Prop where
  oa : wr.ownsRow w.heap.size 46 4 va LA.length (flatE encU LA)
  ob : wr.ownsRow w.heap.size 46 4 vb LB.length (flatE encU LB)
  b : Below w.heap.size w wr
  ap : ∀ g, va.ownBlock = some g → vb.ownBlock ≠ some g
theorem TwoU.push {w : World} {LA LB : List Us} {a b : Value} {wr : World} (h : TwoU w LA LB a b wr) (hl : LA.length ≤ 100000) (x : Us) {cs : Array Value} (hcs : (encU x).toArray = cs) :
    ∃ A c w', Sem.run Try.prog (appN #[23, 23] 23 #[a, .slice (some ⟨wr.heap.size, 0, none⟩) 1 1]) (wr.alloc (.cells cs 46)) = .ok (.slice A (LA.length + 1) c) w' ∧ TwoU w (LA ++ [x]) LB (.slice A (LA.length + 1) c) b w' := by
  subst hcs
  obtain ⟨A, c, w', hrun, hown, hgr, hloc⟩ := snoc_use x h.oa hl h.b.size
  have hs := h.b.size
  have hlb := own_lt h.ob
  refine ⟨A, c, w', hrun, ⟨by rw [List.length_append]; exact hown, own_keep h.ob fun q e => (hgr.block q (by have := hlb q e; simp; omega) fun e2 => h.ap q e2.symm e).trans (Below.heap_alloc wr _ q (hlb q e)), (h.b.alloc hs _).grown hgr (by simp; omega) (fun r x => by have := own_ge h.oa r x; omega), fun g e e2 => ?_⟩⟩
  rcases hloc with h1 | h1
  · exact h.ap g (h1.symm.trans e) e2
  · have h3 : wr.heap.size + 1 = g := Option.some.inj (h1.symm.trans e)
    have := hlb g e2
    omega
theorem TwoU.swap {w : World} {LA LB : List Us} {a b : Value} {wr : World} (h : TwoU w LA LB a b wr) : TwoU w LB LA b a wr := ⟨h.ob, h.oa, h.b, fun g e e2 => h.ap g e2 e⟩
theorem TwoU.recs {w : World} {LA LB : List Us} {a b : Value} {wr : World} (h : TwoU w LA LB a b wr) : Recs encU 4 wr wr.heap.size a LA := recs_of_ownE (enc := encU) (k := 4) (fun _ => rfl) h.oa rfl
/-- The uses of a set. -/
def pickU (U : List Us) (S : List Nat) : List Us := S.map fun u => U.getD u u0
theorem chL_get {l : List Gr} {U : List Us} {u : Nat} (h : u < U.length) : (chL l U).getD u [] = permV l (U.getD u u0) := by
  unfold chL
  simp [List.getD_eq_getElem?_getD, h]
theorem pick_get {U : List Us} {S : List Nat} {i : Nat} (h : i < S.length) : (pickU U S).getD i u0 = U.getD (S.getD i 0) u0 := by
  unfold pickU
  rw [at_eq h]
  simp [List.getD_eq_getElem?_getD, h]
theorem pick_ch {l : List Gr} {U : List Us} {S : List Nat} (hS : ∀ u ∈ S, u < U.length) {i : Nat} (h : i < S.length) : (chL l (pickU U S)).getD i [] = (chL l U).getD (S.getD i 0) [] := by
  rw [chL_get (by unfold pickU; rw [List.length_map]; exact h), chL_get (hS _ (at_mem h)), pick_get h]
theorem pick_valid {U : List Us} (h : validU U = true) {S : List Nat} (hl : S.length ≤ 10) (hS : ∀ u ∈ S, u < U.length) : validU (pickU U S) = true := by
  unfold validU at h ⊢
  rw [Bool.and_eq_true, decide_eq_true_eq, List.all_eq_true] at h ⊢
  refine ⟨by unfold pickU; rw [List.length_map]; exact hl, fun q hq => ?_⟩
  obtain ⟨u, hu, rfl⟩ := List.mem_map.1 hq
  have e : U.getD u u0 = U[u]'(hS u hu) := by simp [List.getD_eq_getElem?_getD, hS u hu]
  rw [e]
  exact h.2 _ (List.getElem_mem _)
/-- A set that lacks plays cannot be assigned on its own. -/
theorem least_all {l : List Gr} {U : List Us} {S : List Nat} (h : LackS (plN l) (chL l U) S) : ¬ Can (plN l) (chL l (pickU U S)) := fun hc => by
  have hS : ∀ u ∈ S, u < U.length := fun u hu => by have := h.lt u hu; unfold chL at this; rwa [List.length_map] at this
  refine hc.no_lack (chL_ok l _) (S := List.range S.length) ⟨List.nodup_range, fun u hu => by unfold chL pickU; rw [List.length_map, List.length_map]; exact List.mem_range.1 hu, ?_⟩
  have hb : nbr (chL l (pickU U S)) (List.range S.length) = nbr (chL l U) S := funext fun g => by
    rw [Bool.eq_iff_iff, nbr_iff, nbr_iff]
    constructor
    · rintro ⟨i, hi, hg⟩
      have hi := List.mem_range.1 hi
      rw [pick_ch hS hi] at hg
      exact ⟨_, at_mem hi, hg⟩
    · rintro ⟨u, hu, hg⟩
      obtain ⟨i, hi, rfl⟩ := List.getElem_of_mem hu
      refine ⟨i, List.mem_range.2 hi, ?_⟩
      rw [pick_ch hS hi, at_eq hi]; exact hg
  have := h.less
  unfold playsN at this ⊢
  rw [hb, List.length_range]
  exact this
/-- What cannot be assigned holds a set that lacks plays. -/
theorem least_some {l : List Gr} {U : List Us} {R : List Nat} (hR : ∀ u ∈ R, u < U.length) (hn : R.Nodup) (h : ¬ Can (plN l) (chL l (pickU U R))) : ∃ T : List Nat, LackS (plN l) (chL l U) T ∧ T.length ≤ R.length := by
  obtain ⟨T, hT⟩ := (not_can (chL_ok l _)).1 h
  have hlt : ∀ i ∈ T, i < R.length := fun i hi => by have := hT.lt i hi; unfold chL pickU at this; rwa [List.length_map, List.length_map] at this
  have hb : nbr (chL l U) (T.map fun i => R.getD i 0) = nbr (chL l (pickU U R)) T := funext fun g => by
    rw [Bool.eq_iff_iff, nbr_iff, nbr_iff]
    constructor
    · rintro ⟨u, hu, hg⟩
      obtain ⟨i, hi, rfl⟩ := List.mem_map.1 hu
      exact ⟨i, hi, by rw [pick_ch hR (hlt i hi)]; exact hg⟩
    · rintro ⟨i, hi, hg⟩
      rw [pick_ch hR (hlt i hi)] at hg
      exact ⟨_, List.mem_map.2 ⟨i, hi, rfl⟩, hg⟩
  have hnd : (T.map fun i => R.getD i 0).Nodup := by
    refine List.pairwise_map.2 ?_
    refine List.Pairwise.imp_of_mem (fun {i j} hi hj hij e => hij ?_) hT.nodup
    rw [at_eq (hlt i hi), at_eq (hlt j hj)] at e
    exact (List.getElem_inj hn).1 e
  have hsub : ∀ u ∈ (T.map fun i => R.getD i 0), u ∈ R := fun u hu => by
    obtain ⟨i, hi, rfl⟩ := List.mem_map.1 hu
    exact at_mem (hlt i hi)
  refine ⟨T.map fun i => R.getD i 0, ⟨hnd, fun u hu => by unfold chL; rw [List.length_map]; exact hR u (hsub u hu), ?_⟩, len_sub hnd hsub⟩
  have := hT.less
  unfold playsN at this ⊢
  rw [hb, List.length_map]
  exact this
theorem least {l : List Gr} {U : List Us} (hl : validG l = true) (hu : validU U = true) {S : List Nat} (h : lackV l U = some S) : S ≠ [] ∧ S.length ≤ 10 ∧ S.Nodup ∧ (∀ u ∈ S, u < U.length) ∧ canB l (pickU U S) = false ∧ ∀ n, n < S.length → canB l (pickU U (S.eraseIdx n)) = true := by
  have e : lackV l U = (setsL U.length).find? (lackB l U) := by unfold lackV; rw [hl, hu]; rfl
  rw [e] at h
  have hm := List.mem_of_find?_eq_some h
  have hb := List.find?_some h
  obtain ⟨h0, hp, hll⟩ := sets_shape hm
  have hlt := sets_lt S hm
  have hls := (lackB_iff hl hu hlt (asc_nodup hp)).1 hb
  refine ⟨h0, by have := validU_len hu; omega, asc_nodup hp, hlt, ?_, fun n hn => ?_⟩
  · rw [← Bool.not_eq_true, canB_iff]; exact least_all hls
  · rw [canB_iff]
    refine Classical.byContradiction fun hc => ?_
    have hsub := List.eraseIdx_sublist S n
    obtain ⟨T, hT, hTl⟩ := least_some (fun u hu' => hlt u (hsub.mem hu')) (hsub.nodup (asc_nodup hp)) hc
    obtain ⟨T2, g0, gp, glt, gT⟩ := lack_sorted hT
    have glt2 : ∀ u ∈ T2, u < U.length := fun u hu' => by have := glt u hu'; unfold chL at this; rwa [List.length_map] at this
    have hb2 := (lackB_iff hl hu glt2 (asc_nodup gp)).2 gT
    rw [List.length_eraseIdx_of_lt hn] at hTl
    have hlen : T2.length < S.length := by
      have h1 := lack_sorted_len hT
      obtain ⟨T3, k0, kp, klt, kT, kl⟩ := h1
      have klt2 : ∀ u ∈ T3, u < U.length := fun u hu' => by have := klt u hu'; unfold chL at this; rwa [List.length_map] at this
      have k3 := find_least h k0 kp klt2 (by omega)
      rw [(lackB_iff hl hu klt2 (asc_nodup kp)).2 kT] at k3
      cases k3
    have := find_least h g0 gp glt2 hlen
    rw [hb2] at this
    cases this
theorem erase_ne {S : List Nat} {i n x : Nat} (hx : S[i]? = some x) (h : i ≠ n) : (S.take (i + 1)).eraseIdx n = (S.take i).eraseIdx n ++ [x] := by
  have hi := (List.getElem?_eq_some_iff.1 hx).1
  have hl : (S.take i).length = i := by rw [List.length_take]; omega
  rw [List.take_add_one, hx, Option.toList_some]
  rcases Nat.lt_or_ge n i with c | c
  · rw [List.eraseIdx_append_of_lt_length (by omega)]
  · rw [List.eraseIdx_of_length_le (by rw [List.length_append, hl]; simp; omega), List.eraseIdx_of_length_le (by omega)]
theorem erase_eq {S : List Nat} {i x : Nat} (hx : S[i]? = some x) : (S.take (i + 1)).eraseIdx i = (S.take i).eraseIdx i := by
  have hi := (List.getElem?_eq_some_iff.1 hx).1
  have hl : (S.take i).length = i := by rw [List.length_take]; omega
  rw [List.take_add_one, hx, Option.toList_some, List.eraseIdx_append_of_length_le (by omega), List.eraseIdx_of_length_le (l := S.take i) (by omega), hl]
  simp
end Go.Proofs.Ytenojfniknjeiaa
