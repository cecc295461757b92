/- The chapter's examples: what each call answers. -/
import Derived.Test.YtenojfniknjeiaaHy
import Derived.Test.YtenojfniknjeiaaHw
import Derived.KernelRfl
namespace Go.Proofs.Ytenojfniknjeiaa
open Go.RowKit Go.Shelf

def exL : List Gr := [⟨1, 1, 255, 1, 0, 100⟩, ⟨1, 3, 1, 2, 0, 50⟩]
def exA : Us := ⟨1, 1, 0, 10⟩
def exB : Us := ⟨1, 1, 1, 10⟩
def exC : Us := ⟨1, 3, 0, 60⟩
theorem k_VG : validG exL = true := by decide +kernel
theorem k_VU : validU [exA, exB, exC] = true := by decide +kernel
theorem k_VZ : validG [⟨0, 0, 0, 0, 0, 0⟩] = false := by decide +kernel
theorem k_pl : plN exL = [1, 2] := by decide +kernel
theorem k_ch2 : chL exL [exA, exB] = [[0, 1], [0]] := by decide +kernel
theorem k_ch3 : chL exL [exA, exB, exC] = [[0, 1], [0], []] := by decide +kernel
theorem k_PA : permV exL exA = [0, 1] := by decide +kernel
theorem k_PB : permV exL exB = [0] := by decide +kernel
theorem k_PC : permV exL exC = [] := by decide +kernel
theorem k_L1 : lackV exL [exA, exB, exC] = some [2] := by decide +kernel
theorem k_L2 : lackV exL [exB, exB] = some [0, 1] := by decide +kernel
theorem k_L3 : lackV exL [exA, exB] = none := by decide +kernel
theorem k_W : withV exL 1 30 = [⟨1, 1, 255, 1, 0, 30⟩, ⟨1, 3, 1, 2, 0, 30⟩] := by decide +kernel
theorem k_LF : leftV exL [exA, exB] [1, 0] = [0, 1] := by decide +kernel
theorem k_can : Can [1, 2] [[0, 1], [0]] := ⟨[1, 0], rfl, fun u hu => by
  have h : u = 0 ∨ u = 1 := by simp at hu; omega
  rcases h with rfl | rfl <;> decide, fun g => by
  by_cases h0 : g = 0
  · subst h0; decide
  · by_cases h1 : g = 1
    · subst h1; decide
    · rw [List.count_eq_zero.2 (by simp; omega)]; exact Nat.zero_le _⟩
theorem k_no : ¬ Can [1, 2] [[0, 1], [0], []] := fun ⟨a, ha⟩ => by
  have h := ha.mem 2 (by decide)
  simp at h
theorem k_one {L : List Nat} (h : IsAs [1, 2] [[0, 1], [0]] L) : L = [1, 0] := by
  have hl := h.len
  match L, hl with
  | [x, y], _ =>
    have h0 := h.mem 0 (by decide)
    have h1 := h.mem 1 (by decide)
    have h2 := h.cnt 0
    simp at h0 h1
    subst h1
    rcases h0 with rfl | rfl
    · simp at h2
    · rfl
theorem rints_eq (l : List Int) (A A2 : Option Addr) (n c n2 c2 : Nat) (u : World) (h : Recs enc1 1 u u.heap.size (.slice A n c) l) (h2 : Recs enc1 1 u u.heap.size (.slice A2 n2 c2) l) : Calls Try.prog 25 #[.slice A n c, .slice A2 n2 c2] u fun e w' => e = .returned (.bool true) ∧ Below u.heap.size u w' := by
  have h3 := rints_any l l A A2 n c n2 c2 u h h2
  rwa [decide_eq_true rfl] at h3
theorem lit_recs {α : Type} {enc : α → List Value} {k : Nat} (hk : ∀ x, (enc x).length = k) (l : List α) (t : TypeId) (u : World) (hl : l.length ≤ 1000) {n : Nat} (hn : l.length = n) {cs : Array Value} (hc : (flatE enc l).toArray = cs) : Recs enc k (u.alloc (.cells cs t)) (u.alloc (.cells cs t)).heap.size (.slice (some ⟨u.heap.size, 0, none⟩) n n) l := by
  subst hn; subst hc
  exact recs_row (Row.new _ _ _) l (by omega) fun j x hx i v hv => by
    have h := flatE_get hk l j i x v hx hv
    simpa using h
theorem s_L1 (A : Option Addr) (c : Nat) (A2 : Option Addr) (c2 : Nat) (u : World) (hl : Recs encG 6 u u.heap.size (.slice A 2 c) exL) (hu : Recs encU 4 u u.heap.size (.slice A2 3 c2) [exA, exB, exC]) : Calls Try.prog 23 #[.slice A 2 c, .slice A2 3 c2] u fun e w' => ∃ A3 c3, e = .returned (.tuple #[.slice A3 1 c3, .bool true]) ∧ Recs enc1 1 w' w'.heap.size (.slice A3 1 c3) [2] ∧ Below u.heap.size u w' := by
  refine (Lack_any exL [exA, exB, exC] A A2 2 c 3 c2 u hl hu).mono ?_
  rintro e w' ⟨A3, n3, c3, rfl, h1, h2⟩
  rw [k_L1] at h1
  have hn : n3 = 1 := (recs_cap h1).1
  subst hn
  exact ⟨A3, c3, by rw [k_L1]; rfl, h1, h2⟩
theorem s_L2 (A : Option Addr) (c : Nat) (A2 : Option Addr) (c2 : Nat) (u : World) (hl : Recs encG 6 u u.heap.size (.slice A 2 c) exL) (hu : Recs encU 4 u u.heap.size (.slice A2 2 c2) [exB, exB]) : Calls Try.prog 23 #[.slice A 2 c, .slice A2 2 c2] u fun e w' => ∃ A3 c3, e = .returned (.tuple #[.slice A3 2 c3, .bool true]) ∧ Recs enc1 1 w' w'.heap.size (.slice A3 2 c3) [0, 1] ∧ Below u.heap.size u w' := by
  refine (Lack_any exL [exB, exB] A A2 2 c 2 c2 u hl hu).mono ?_
  rintro e w' ⟨A3, n3, c3, rfl, h1, h2⟩
  rw [k_L2] at h1
  have hn : n3 = 2 := (recs_cap h1).1
  subst hn
  exact ⟨A3, c3, by rw [k_L2]; rfl, h1, h2⟩
theorem s_L3 (A : Option Addr) (c : Nat) (A2 : Option Addr) (c2 : Nat) (u : World) (hl : Recs encG 6 u u.heap.size (.slice A 2 c) exL) (hu : Recs encU 4 u u.heap.size (.slice A2 2 c2) [exA, exB]) : Calls Try.prog 23 #[.slice A 2 c, .slice A2 2 c2] u fun e w' => ∃ A3 n3 c3, e = .returned (.tuple #[.slice A3 n3 c3, .bool false]) ∧ Below u.heap.size u w' := by
  refine (Lack_any exL [exA, exB] A A2 2 c 2 c2 u hl hu).mono ?_
  rintro e w' ⟨A3, n3, c3, rfl, h1, h2⟩
  exact ⟨A3, n3, c3, by rw [k_L3]; rfl, h2⟩
theorem s_AS1 (A : Option Addr) (c : Nat) (A2 : Option Addr) (c2 : Nat) (u : World) (hl : Recs encG 6 u u.heap.size (.slice A 2 c) exL) (hu : Recs encU 4 u u.heap.size (.slice A2 2 c2) [exA, exB]) : Calls Try.prog 21 #[.slice A 2 c, .slice A2 2 c2] u fun e w' => ∃ A3 c3, e = .returned (.tuple #[.slice A3 2 c3, .int .i64 0]) ∧ Recs enc1 1 w' w'.heap.size (.slice A3 2 c3) [1, 0] ∧ Below u.heap.size u w' := by
  refine (Assign_any exL [exA, exB] A A2 2 c 2 c2 u hl hu).mono ?_
  rintro e w' ⟨v, err, rfl, hb, ⟨_, _, h⟩ | ⟨rfl, _, _, L, hL, ho⟩⟩
  · rcases h with h | h
    · exact absurd ⟨by decide +kernel, by decide +kernel⟩ h
    · rw [k_pl, k_ch2] at h; exact absurd k_can h
  · have h := hL.is
    rw [k_pl, k_ch2] at h
    obtain rfl := k_one h
    obtain ⟨A3, c3, rfl, -⟩ := own_slice ho
    exact ⟨A3, c3, rfl, ints_own ho rfl, hb⟩
theorem s_AS2 (A : Option Addr) (c : Nat) (A2 : Option Addr) (c2 : Nat) (u : World) (hl : Recs encG 6 u u.heap.size (.slice A 2 c) exL) (hu : Recs encU 4 u u.heap.size (.slice A2 3 c2) [exA, exB, exC]) : Calls Try.prog 21 #[.slice A 2 c, .slice A2 3 c2] u fun e w' => e = .returned (.tuple #[.slice none 0 0, .int .i64 80]) ∧ Below u.heap.size u w' := by
  refine (Assign_any exL [exA, exB, exC] A A2 2 c 3 c2 u hl hu).mono ?_
  rintro e w' ⟨v, err, rfl, hb, ⟨rfl, rfl, _⟩ | ⟨_, _, _, L, hL, _⟩⟩
  · exact ⟨rfl, hb⟩
  · have h := hL.is
    rw [k_pl, k_ch3] at h
    exact absurd ⟨L, h⟩ k_no
theorem s_W (A : Option Addr) (c : Nat) (u : World) (hl : Recs encG 6 u u.heap.size (.slice A 2 c) exL) : Calls Try.prog 18 #[.slice A 2 c, .int .i64 1, .int .i64 30] u fun e w' => ∃ A3 c3, e = .returned (.slice A3 2 c3) ∧ Recs encG 6 w' w'.heap.size (.slice A3 2 c3) [⟨1, 1, 255, 1, 0, 30⟩, ⟨1, 3, 1, 2, 0, 30⟩] ∧ Below u.heap.size u w' := by
  refine (Withdraw_any exL 1 30 A 2 c u hl).mono ?_
  rintro e w' ⟨A3, c3, rfl, h1, h2⟩
  rw [k_W] at h1 ⊢
  exact ⟨A3, c3, rfl, h1, h2⟩
theorem s_PA (A : Option Addr) (c : Nat) (u : World) (hl : Recs encG 6 u u.heap.size (.slice A 2 c) exL) : Calls Try.prog 28 #[.slice A 2 c, .agg #[.int .i64 1, .int .i64 1, .int .i64 0, .int .i64 10]] u fun e w' => ∃ A3 c3, e = .returned (.slice A3 2 c3) ∧ Recs enc1 1 w' w'.heap.size (.slice A3 2 c3) [0, 1] ∧ Below u.heap.size u w' := by
  refine (Permits_any exL exA A 2 c u hl).mono ?_
  rintro e w' ⟨A3, n3, c3, rfl, h1, h2⟩
  rw [k_PA] at h1
  have hn : n3 = 2 := (recs_cap h1).1
  subst hn
  exact ⟨A3, c3, rfl, h1, h2⟩
theorem s_PB (A : Option Addr) (c : Nat) (u : World) (hl : Recs encG 6 u u.heap.size (.slice A 2 c) exL) : Calls Try.prog 28 #[.slice A 2 c, .agg #[.int .i64 1, .int .i64 1, .int .i64 1, .int .i64 10]] u fun e w' => ∃ A3 c3, e = .returned (.slice A3 1 c3) ∧ Recs enc1 1 w' w'.heap.size (.slice A3 1 c3) [0] ∧ Below u.heap.size u w' := by
  refine (Permits_any exL exB A 2 c u hl).mono ?_
  rintro e w' ⟨A3, n3, c3, rfl, h1, h2⟩
  rw [k_PB] at h1
  have hn : n3 = 1 := (recs_cap h1).1
  subst hn
  exact ⟨A3, c3, rfl, h1, h2⟩
theorem s_PC (A : Option Addr) (c : Nat) (u : World) (hl : Recs encG 6 u u.heap.size (.slice A 2 c) exL) : Calls Try.prog 28 #[.slice A 2 c, .agg #[.int .i64 1, .int .i64 3, .int .i64 0, .int .i64 60]] u fun e w' => ∃ A3 c3, e = .returned (.slice A3 0 c3) ∧ Recs enc1 1 w' w'.heap.size (.slice A3 0 c3) [] ∧ Below u.heap.size u w' := by
  refine (Permits_any exL exC A 2 c u hl).mono ?_
  rintro e w' ⟨A3, n3, c3, rfl, h1, h2⟩
  rw [k_PC] at h1
  have hn : n3 = 0 := (recs_cap h1).1
  subst hn
  exact ⟨A3, c3, rfl, h1, h2⟩
theorem s_LF (A : Option Addr) (c : Nat) (A2 : Option Addr) (c2 : Nat) (u : World) (hl : Recs encG 6 u u.heap.size (.slice A 2 c) exL) (hu : Recs encU 4 u u.heap.size (.slice A2 2 c2) [exA, exB]) (A4 : Option Addr) (c4 : Nat) (ha : Recs enc1 1 u u.heap.size (.slice A4 2 c4) [1, 0]) : Calls Try.prog 26 #[.slice A 2 c, .slice A2 2 c2, .slice A4 2 c4] u fun e w' => ∃ A3 c3, e = .returned (.slice A3 2 c3) ∧ Recs enc1 1 w' w'.heap.size (.slice A3 2 c3) [0, 1] ∧ Below u.heap.size u w' := by
  refine (Left_any exL [exA, exB] [1, 0] A A2 A4 2 c 2 c2 2 c4 u hl hu ha).mono ?_
  rintro e w' ⟨A3, n3, c3, rfl, h1, h2⟩
  rw [k_LF] at h1
  have hn : n3 = 2 := (recs_cap h1).1
  subst hn
  exact ⟨A3, c3, rfl, h1, h2⟩
theorem s_VG (A : Option Addr) (c : Nat) (u : World) (hl : Recs encG 6 u u.heap.size (.slice A 2 c) exL) : Calls Try.prog 13 #[.slice A 2 c] u fun e w' => e = .returned (.bool true) ∧ Below u.heap.size u w' := by
  have h := Valid_any exL A 2 c u hl
  rwa [k_VG] at h
theorem s_VU (A2 : Option Addr) (c2 : Nat) (u : World) (hu : Recs encU 4 u u.heap.size (.slice A2 3 c2) [exA, exB, exC]) : Calls Try.prog 15 #[.slice A2 3 c2] u fun e w' => e = .returned (.bool true) ∧ Below u.heap.size u w' := by
  have h := ValidUses_any [exA, exB, exC] A2 3 c2 u hu
  rwa [k_VU] at h
theorem s_VZ (A : Option Addr) (c : Nat) (u : World) (hl : Recs encG 6 u u.heap.size (.slice A 1 c) [⟨0, 0, 0, 0, 0, 0⟩]) : Calls Try.prog 13 #[.slice A 1 c] u fun e w' => e = .returned (.bool false) ∧ Below u.heap.size u w' := by
  have h := Valid_any [⟨0, 0, 0, 0, 0, 0⟩] A 1 c u hl
  rwa [k_VZ] at h
end Go.Proofs.Ytenojfniknjeiaa
