/- The cut that is found is the preferred one; which lengths are listed. -/
import Derived.Test.YtnmhigjannihgaaKo
namespace Go.Proofs.Ytnmhigjannihgaa
open Go.RowKit Go.Shelf

theorem find_pref {p : List Nat → Bool} : ∀ {l : List (List Nat)} {c : List Nat}, l.Pairwise (fun a b => befB b a = false) → c ∈ l → p c = true → ∃ d, l.find? p = some d ∧ d ∈ l ∧ p d = true ∧ befB c d = false
  | x :: l, c, hp, hc, hpc => by
    obtain ⟨p1, p2⟩ := List.pairwise_cons.1 hp
    rw [List.find?_cons]
    cases hx : p x with
    | true =>
      refine ⟨x, rfl, by simp, hx, ?_⟩
      rcases List.mem_cons.1 hc with rfl | hc
      · rw [befB_lex rfl, lexB_same]
      · exact p1 c hc
    | false =>
      rcases List.mem_cons.1 hc with rfl | hc
      · rw [hx] at hpc; cases hpc
      · obtain ⟨d, h1, h2, h3, h4⟩ := find_pref p2 hc hpc
        exact ⟨d, h1, by simp [h2], h3, h4⟩
theorem len_cut {i : ItemP} (h : OkItem i) {c : List Nat} (hc : c ∈ cutsL i.trims.length) : lengthV i (zi c) = (lenI i c, 0) := by
  have h1 := (cuts_all ⟨i.trims.length, by have := h.n1; omega⟩).1 c hc
  have h2 : okC i (zi c) = true := by unfold okC; rw [(validI_iff i).2 h, Bool.true_and]; exact nat_cutB h1
  unfold lenI lengthV
  rw [h2]; rfl
theorem bits_mem {n : Nat} (hn : n ≤ 4) {z : Nat} (hz : z < 16) : bitsL n z ∈ cutsL n := (cuts_all ⟨n, by omega⟩).2.1 ⟨z, hz⟩
theorem fewest {i : ItemP} (h : OkItem i) {z : Nat} (hz : z < 16) {G : List (Int × Int)} {n : Int} (hf : CutF i z G n) : ∃ d, cutV i n = some d ∧ lengthV i (zi d) = (n, 0) ∧ befB (bitsL i.trims.length z) d = false := by
  have hv := (validI_iff i).2 h
  have hm := bits_mem h.n1 hz
  have hl : lenI i (bitsL i.trims.length z) = n := by unfold lenI; rw [hf.length]
  obtain ⟨d, h1, h2, h3, h4⟩ := find_pref (p := fun c => decide (lenI i c = n)) (cuts_all ⟨i.trims.length, by have := h.n1; omega⟩).2.2.1 hm (by simpa using hl)
  refine ⟨d, by unfold cutV; rw [hv, if_pos rfl]; exact h1, ?_, h4⟩
  rw [len_cut h h2]
  simp at h3
  rw [h3]
theorem listed {i : ItemP} (h : OkItem i) (x : Int) : (cutV i x).isSome = true ↔ x ∈ lensV i := by
  have hv := (validI_iff i).2 h
  unfold cutV lensV
  rw [hv, if_pos rfl, if_pos rfl, sortC_mem, List.find?_isSome, List.mem_map]
  simp
/-- Is a number among the first k? -/
theorem has_snoc {l : List Int} {k : Nat} {x y : Int} (h : l[k]? = some y) : (l.take (k + 1)).contains x = ((l.take k).contains x || (y == x)) := by
  rw [List.take_add_one, h]
  simp only [Option.toList_some, List.contains_append, List.contains_cons, List.contains_nil, Bool.or_false]
  congr 1
  exact Bool.beq_comm
section
variable {i : ItemP} {A1 A2 : Option Addr} {n1 c1 n2 c2 : Nat} {u : World}
theorem cut_at {x : Int} {d : List Nat} (h : cutV i x = some d) (hr : ItAt i A1 n1 c1 A2 n2 c2 u.heap.size u) : Calls Try.prog 20 #[.agg #[.int .i64 i.id, .int .i64 i.kind, .int .i64 i.len, .slice A1 n1 c1, .slice A2 n2 c2, .int .i64 i.artist, .int .i64 i.tempo, .int .i64 i.lang], .int .i64 x] u fun e w' => ∃ A n c, e = .returned (.tuple #[.slice A n c, .int .i64 0]) ∧ Recs enc1 1 w' w'.heap.size (.slice A n c) (zi d) ∧ Below u.heap.size u w' := by
  refine (cut_any' i x A1 A2 n1 c1 n2 c2 u hr).mono ?_
  rintro e w' ⟨A, n, c, rfl, h1, h2⟩
  rw [h] at h1
  exact ⟨A, n, c, by rw [h]; rfl, h1, h2⟩
theorem cut_err {x : Int} {b : Bool} {e : Int} (h : (cutV i x).isSome = b) (he : (if b then (0 : Int) else 70) = e) (hr : ItAt i A1 n1 c1 A2 n2 c2 u.heap.size u) : Calls Try.prog 20 #[.agg #[.int .i64 i.id, .int .i64 i.kind, .int .i64 i.len, .slice A1 n1 c1, .slice A2 n2 c2, .int .i64 i.artist, .int .i64 i.tempo, .int .i64 i.lang], .int .i64 x] u fun e' w' => ∃ A n c, e' = .returned (.tuple #[.slice A n c, .int .i64 e]) ∧ Below u.heap.size u w' := by
  refine (cut_any' i x A1 A2 n1 c1 n2 c2 u hr).mono ?_
  rintro e' w' ⟨A, n, c, rfl, h1, h2⟩
  exact ⟨A, n, c, by rw [h, ← he], h2⟩
theorem lens_at {L : List Int} (h : OkItem i) (hL : lensV i = L) (hr : ItAt i A1 n1 c1 A2 n2 c2 u.heap.size u) : Calls Try.prog 14 #[.agg #[.int .i64 i.id, .int .i64 i.kind, .int .i64 i.len, .slice A1 n1 c1, .slice A2 n2 c2, .int .i64 i.artist, .int .i64 i.tempo, .int .i64 i.lang]] u fun e' w' => ∃ A n c, e' = .returned (.tuple #[.slice A n c, .int .i64 0]) ∧ Recs enc1 1 w' w'.heap.size (.slice A n c) L ∧ Below u.heap.size u w' := by
  refine (lengths_any i A1 A2 n1 c1 n2 c2 u hr).mono ?_
  rintro e' w' ⟨A, n, c, rfl, h1, h2⟩
  rw [hL] at h1
  exact ⟨A, n, c, by rw [(validI_iff i).2 h]; rfl, h1, h2⟩
theorem before_at {D d : List Nat} {b : Bool} (h : befB D d = b) {A A3 : Option Addr} {n c n3 c3 : Nat} (hr : Recs enc1 1 u u.heap.size (.slice A n c) (zi D)) (hr2 : Recs enc1 1 u u.heap.size (.slice A3 n3 c3) (zi d)) :
    Calls Try.prog 33 #[.slice A n c, .slice A3 n3 c3] u fun e w' => e = .returned (.bool b) ∧ Below u.heap.size u w' := by
  rw [← h]; exact rbefore_any D d A A3 n c n3 c3 u hr hr2
end
end Go.Proofs.Ytnmhigjannihgaa
