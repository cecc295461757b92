/- The chapter's examples: what each call answers. -/
import Derived.Test.YtnmhigjannihgaaKj
import Derived.KernelRfl
namespace Go.Proofs.Ytnmhigjannihgaa
open Go.RowKit Go.Shelf

theorem k_map : (cutsL exI.trims.length).map (lenI exI) = [200, 180, 170, 150] := by decide +kernel
theorem k_valid : validI exI = true := by decide +kernel
theorem k_lens : lensV exI = [150, 170, 180, 200] := by
  unfold lensV
  rw [k_valid, if_pos rfl, k_map]
  refine asc_ext (sortC_asc _) (by decide) (fun x => ?_)
  rw [sortC_mem]
  simp only [List.mem_cons, List.not_mem_nil, or_false]
  constructor <;> (rintro (rfl | rfl | rfl | rfl) <;> simp)
theorem k_len01 : lengthV exI [0, 1] = (150, 0) := by decide +kernel
theorem k_cut1 : cutV exI 170 = some [1] := by decide +kernel
theorem k_cut2 : cutV exI 160 = none := by decide +kernel
theorem k_pl1 : placeV exI [0] 9 = (9, 0) := by decide +kernel
theorem k_pl2 : placeV exI [0] 10 = (30, 0) := by decide +kernel
theorem k_pl3 : placeV exI [] 200 = (0, 70) := by decide +kernel
theorem k_h1 : heardV exI [0] 15 = (-1, 0) := by decide +kernel
theorem k_h2 : heardV exI [0] 30 = (10, 0) := by decide +kernel
theorem k_t1 : talkV exI [0] = ([(0, 10), (150, 180)], 0) := by decide +kernel
theorem k_t2 : talkV exI [1] = ([(0, 15), (150, 170)], 0) := by decide +kernel
theorem k_enc : (encodeV exI).2 = 0 ∧ (encodeV exI).1.size = 21 := by decide +kernel
def zeroI : ItemP := ⟨0, 0, 0, [], [], 0, 0, 0⟩
theorem k_zero : validI zeroI = false := by decide +kernel
theorem rints_eq (l : List Int) (A A2 : Option Addr) (n c n2 c2 : Nat) (u : World) (h : Recs enc1 1 u u.heap.size (.slice A n c) l) (h2 : Recs enc1 1 u u.heap.size (.slice A2 n2 c2) l) : Calls Try.prog 18 #[.slice A n c, .slice A2 n2 c2] u fun e w' => e = .returned (.bool true) ∧ Below u.heap.size u w' := by
  have h3 := rints_any l l A A2 n c n2 c2 u h h2
  rwa [decide_eq_true rfl] at h3
theorem rsame_eq (l : List (Int × Int)) (A A2 : Option Addr) (n c n2 c2 : Nat) (u : World) (h : Recs enc2 2 u u.heap.size (.slice A n c) l) (h2 : Recs enc2 2 u u.heap.size (.slice A2 n2 c2) l) : Calls Try.prog 28 #[.slice A n c, .slice A2 n2 c2] u fun e w' => e = .returned (.bool true) ∧ Below u.heap.size u w' := by
  have h3 := rsame_spells l l A A2 n c n2 c2 u h h2
  rwa [decide_eq_true rfl] at h3
/-- A slice of ints laid in one piece. -/
theorem lit_ints (l : List Int) (u : World) (hl : l.length ≤ 1000) {n : Nat} (hn : l.length = n) {cs : Array Value} (hc : (l.map fun x => Value.int .i64 x).toArray = cs) : Recs enc1 1 (u.alloc (.cells cs 3)) (u.alloc (.cells cs 3)).heap.size (.slice (some ⟨u.heap.size, 0, none⟩) n n) l := by
  subst hn; subst hc
  exact ints_recs (Row.new _ _ _) (by omega)
theorem lit_two (u : World) (a b c d : Int) : Recs enc2 2 (u.alloc (.cells #[.int .i64 a, .int .i64 b, .int .i64 c, .int .i64 d] 53)) (u.alloc (.cells #[.int .i64 a, .int .i64 b, .int .i64 c, .int .i64 d] 53)).heap.size (.slice (some ⟨u.heap.size, 0, none⟩) 2 2) [(a, b), (c, d)] := recs_two (Row.new _ _ _)
theorem recs_next {enc : Int → List Value} {k : Nat} {w w' : World} {v : Value} {l : List Int} (h : Recs enc k w w.heap.size v l) (hb : Below w.heap.size w w') : Recs enc k w' w'.heap.size v l := h.next hb
theorem s_LE (A1 A2 : Option Addr) (u : World) (hi : ItAt exI A1 2 2 A2 2 2 u.heap.size u) : Calls Try.prog 14 #[.agg #[.int .i64 3, .int .i64 1, .int .i64 200, .slice A1 2 2, .slice A2 2 2, .int .i64 7, .int .i64 3, .int .i64 2]] u fun e w' => ∃ A c, e = .returned (.tuple #[.slice A 4 c, .int .i64 0]) ∧ Recs enc1 1 w' w'.heap.size (.slice A 4 c) [150, 170, 180, 200] ∧ Below u.heap.size u w' := by
  refine (lengths_any exI A1 A2 2 2 2 2 u hi).mono ?_
  rintro e w' ⟨A, n, c, rfl, h1, h2⟩
  rw [k_lens] at h1
  have hn : n = 4 := (recs_cap h1).1
  subst hn
  exact ⟨A, c, by rw [k_valid]; rfl, h1, h2⟩
theorem s_LN (A1 A2 : Option Addr) (A3 : Option Addr) (n3 c3 : Nat) (u : World) (hi : ItAt exI A1 2 2 A2 2 2 u.heap.size u) (h3 : Recs enc1 1 u u.heap.size (.slice A3 n3 c3) [0, 1]) : Calls Try.prog 24 #[.agg #[.int .i64 3, .int .i64 1, .int .i64 200, .slice A1 2 2, .slice A2 2 2, .int .i64 7, .int .i64 3, .int .i64 2], .slice A3 n3 c3] u fun e w' => e = .returned (.tuple #[.int .i64 150, .int .i64 0]) ∧ Below u.heap.size u w' := by
  have h := length_any exI [0, 1] A1 A2 A3 2 2 2 2 n3 c3 u hi h3
  rw [k_len01] at h
  exact h
theorem s_C1 (A1 A2 : Option Addr) (u : World) (hi : ItAt exI A1 2 2 A2 2 2 u.heap.size u) : Calls Try.prog 20 #[.agg #[.int .i64 3, .int .i64 1, .int .i64 200, .slice A1 2 2, .slice A2 2 2, .int .i64 7, .int .i64 3, .int .i64 2], .int .i64 170] u fun e w' => ∃ A c, e = .returned (.tuple #[.slice A 1 c, .int .i64 0]) ∧ Recs enc1 1 w' w'.heap.size (.slice A 1 c) [1] ∧ Below u.heap.size u w' := by
  refine (cut_any' exI 170 A1 A2 2 2 2 2 u hi).mono ?_
  rintro e w' ⟨A, n, c, rfl, h1, h2⟩
  rw [k_cut1] at h1
  have hn : n = 1 := (recs_cap h1).1
  subst hn
  exact ⟨A, c, by rw [k_cut1]; rfl, h1, h2⟩
theorem s_C2 (A1 A2 : Option Addr) (u : World) (hi : ItAt exI A1 2 2 A2 2 2 u.heap.size u) : Calls Try.prog 20 #[.agg #[.int .i64 3, .int .i64 1, .int .i64 200, .slice A1 2 2, .slice A2 2 2, .int .i64 7, .int .i64 3, .int .i64 2], .int .i64 160] u fun e w' => ∃ A n c, e = .returned (.tuple #[.slice A n c, .int .i64 70]) ∧ Below u.heap.size u w' := by
  refine (cut_any' exI 160 A1 A2 2 2 2 2 u hi).mono ?_
  rintro e w' ⟨A, n, c, rfl, h1, h2⟩
  exact ⟨A, n, c, by rw [k_cut2]; rfl, h2⟩
theorem s_P1 (A1 A2 : Option Addr) (A3 : Option Addr) (n3 c3 : Nat) (u : World) (hi : ItAt exI A1 2 2 A2 2 2 u.heap.size u) (h3 : Recs enc1 1 u u.heap.size (.slice A3 n3 c3) [0]) : Calls Try.prog 29 #[.agg #[.int .i64 3, .int .i64 1, .int .i64 200, .slice A1 2 2, .slice A2 2 2, .int .i64 7, .int .i64 3, .int .i64 2], .slice A3 n3 c3, .int .i64 9] u fun e w' => e = .returned (.tuple #[.int .i64 9, .int .i64 0]) ∧ Below u.heap.size u w' := by
  have h := place_any exI [0] 9 A1 A2 A3 2 2 2 2 n3 c3 u hi h3
  rw [k_pl1] at h
  exact h
theorem s_P2 (A1 A2 : Option Addr) (A3 : Option Addr) (n3 c3 : Nat) (u : World) (hi : ItAt exI A1 2 2 A2 2 2 u.heap.size u) (h3 : Recs enc1 1 u u.heap.size (.slice A3 n3 c3) [0]) : Calls Try.prog 29 #[.agg #[.int .i64 3, .int .i64 1, .int .i64 200, .slice A1 2 2, .slice A2 2 2, .int .i64 7, .int .i64 3, .int .i64 2], .slice A3 n3 c3, .int .i64 10] u fun e w' => e = .returned (.tuple #[.int .i64 30, .int .i64 0]) ∧ Below u.heap.size u w' := by
  have h := place_any exI [0] 10 A1 A2 A3 2 2 2 2 n3 c3 u hi h3
  rw [k_pl2] at h
  exact h
theorem s_P3 (A1 A2 : Option Addr) (A3 : Option Addr) (n3 c3 : Nat) (u : World) (hi : ItAt exI A1 2 2 A2 2 2 u.heap.size u) (h3 : Recs enc1 1 u u.heap.size (.slice A3 n3 c3) []) : Calls Try.prog 29 #[.agg #[.int .i64 3, .int .i64 1, .int .i64 200, .slice A1 2 2, .slice A2 2 2, .int .i64 7, .int .i64 3, .int .i64 2], .slice A3 n3 c3, .int .i64 200] u fun e w' => e = .returned (.tuple #[.int .i64 0, .int .i64 70]) ∧ Below u.heap.size u w' := by
  have h := place_any exI [] 200 A1 A2 A3 2 2 2 2 n3 c3 u hi h3
  rw [k_pl3] at h
  exact h
theorem s_H1 (A1 A2 : Option Addr) (A3 : Option Addr) (n3 c3 : Nat) (u : World) (hi : ItAt exI A1 2 2 A2 2 2 u.heap.size u) (h3 : Recs enc1 1 u u.heap.size (.slice A3 n3 c3) [0]) : Calls Try.prog 31 #[.agg #[.int .i64 3, .int .i64 1, .int .i64 200, .slice A1 2 2, .slice A2 2 2, .int .i64 7, .int .i64 3, .int .i64 2], .slice A3 n3 c3, .int .i64 15] u fun e w' => e = .returned (.tuple #[.int .i64 (-1), .int .i64 0]) ∧ Below u.heap.size u w' := by
  have h := heard_any exI [0] 15 A1 A2 A3 2 2 2 2 n3 c3 u hi h3
  rw [k_h1] at h
  exact h
theorem s_H2 (A1 A2 : Option Addr) (A3 : Option Addr) (n3 c3 : Nat) (u : World) (hi : ItAt exI A1 2 2 A2 2 2 u.heap.size u) (h3 : Recs enc1 1 u u.heap.size (.slice A3 n3 c3) [0]) : Calls Try.prog 31 #[.agg #[.int .i64 3, .int .i64 1, .int .i64 200, .slice A1 2 2, .slice A2 2 2, .int .i64 7, .int .i64 3, .int .i64 2], .slice A3 n3 c3, .int .i64 30] u fun e w' => e = .returned (.tuple #[.int .i64 10, .int .i64 0]) ∧ Below u.heap.size u w' := by
  have h := heard_any exI [0] 30 A1 A2 A3 2 2 2 2 n3 c3 u hi h3
  rw [k_h2] at h
  exact h
theorem s_T1 (A1 A2 : Option Addr) (A3 : Option Addr) (n3 c3 : Nat) (u : World) (hi : ItAt exI A1 2 2 A2 2 2 u.heap.size u) (h3 : Recs enc1 1 u u.heap.size (.slice A3 n3 c3) [0]) : Calls Try.prog 26 #[.agg #[.int .i64 3, .int .i64 1, .int .i64 200, .slice A1 2 2, .slice A2 2 2, .int .i64 7, .int .i64 3, .int .i64 2], .slice A3 n3 c3] u fun e w' => ∃ A c, e = .returned (.tuple #[.slice A 2 c, .int .i64 0]) ∧ Recs enc2 2 w' w'.heap.size (.slice A 2 c) [(0, 10), (150, 180)] ∧ Below u.heap.size u w' := by
  refine (talk_any exI [0] A1 A2 A3 2 2 2 2 n3 c3 u hi h3).mono ?_
  rintro e w' ⟨A, n, c, rfl, h1, h2⟩
  rw [k_t1] at h1
  have hn : n = 2 := (recs_cap h1).1
  subst hn
  exact ⟨A, c, by rw [k_t1], h1, h2⟩
theorem s_T2 (A1 A2 : Option Addr) (A3 : Option Addr) (n3 c3 : Nat) (u : World) (hi : ItAt exI A1 2 2 A2 2 2 u.heap.size u) (h3 : Recs enc1 1 u u.heap.size (.slice A3 n3 c3) [1]) : Calls Try.prog 26 #[.agg #[.int .i64 3, .int .i64 1, .int .i64 200, .slice A1 2 2, .slice A2 2 2, .int .i64 7, .int .i64 3, .int .i64 2], .slice A3 n3 c3] u fun e w' => ∃ A c, e = .returned (.tuple #[.slice A 2 c, .int .i64 0]) ∧ Recs enc2 2 w' w'.heap.size (.slice A 2 c) [(0, 15), (150, 170)] ∧ Below u.heap.size u w' := by
  refine (talk_any exI [1] A1 A2 A3 2 2 2 2 n3 c3 u hi h3).mono ?_
  rintro e w' ⟨A, n, c, rfl, h1, h2⟩
  rw [k_t2] at h1
  have hn : n = 2 := (recs_cap h1).1
  subst hn
  exact ⟨A, c, by rw [k_t2], h1, h2⟩
theorem s_EN (A1 A2 : Option Addr) (u : World) (hi : ItAt exI A1 2 2 A2 2 2 u.heap.size u) : Calls Try.prog 16 #[.agg #[.int .i64 3, .int .i64 1, .int .i64 200, .slice A1 2 2, .slice A2 2 2, .int .i64 7, .int .i64 3, .int .i64 2]] u fun e w' => ∃ s : ByteArray, e = .returned (.tuple #[.string s, .int .i64 0]) ∧ s.size = 21 ∧ Below u.heap.size u w' := by
  refine (encode_any exI A1 A2 2 2 2 2 u hi).mono ?_
  rintro e w' ⟨rfl, h2⟩
  exact ⟨_, by rw [k_enc.1], k_enc.2, h2⟩
theorem s_VA (A1 A2 : Option Addr) (u : World) (hi : ItAt exI A1 2 2 A2 2 2 u.heap.size u) : Calls Try.prog 12 #[.agg #[.int .i64 3, .int .i64 1, .int .i64 200, .slice A1 2 2, .slice A2 2 2, .int .i64 7, .int .i64 3, .int .i64 2]] u fun e w' => e = .returned (.bool true) ∧ Below u.heap.size u w' := by
  have h := valid_any exI A1 A2 2 2 2 2 u hi
  rw [k_valid] at h
  exact h
theorem s_VZ (u : World) : Calls Try.prog 12 #[.agg #[.int .i64 0, .int .i64 0, .int .i64 0, .slice none 0 0, .slice none 0 0, .int .i64 0, .int .i64 0, .int .i64 0]] u fun e w' => e = .returned (.bool false) ∧ Below u.heap.size u w' := by
  have h := valid_any zeroI none none 0 0 0 0 u ⟨recs_nil _ _ _ _, recs_nil _ _ _ _⟩
  rw [k_zero] at h
  exact h
end Go.Proofs.Ytnmhigjannihgaa
