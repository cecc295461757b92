/- What WeekTexts asks of Print and Parse at its texts; rows of bytes. -/
import Derived.Test.YthahadhckdnjiaaDoorWb
import Derived.Test.YthahadhckdnjiaaDoorXc
namespace Go.Proofs.YthahadhckdnjiaaDoor
open Go.RowKit Go.Shelf

theorem print_size {l : List Int} (h7 : l.length = 7) (hv : validW l = true) : 0 < (printV l).1.size ∧ (printV l).1.size ≤ 100000 := by
  constructor
  · apply Classical.byContradiction
    intro h
    have hz : (printV l).1 = ⟨#[]⟩ := by
      apply ba_ext
      have : (printV l).1.data.toList.length = 0 := by
        have e : (printV l).1.data.toList.length = (printV l).1.size := by simp
        omega
      rw [List.length_eq_zero_iff.1 this]
    have hp := parse_print h7 hv
    rw [hz] at hp
    have hk : (parseV ⟨#[]⟩).2.2 = 60 := by decide +kernel
    rw [hp] at hk
    exact absurd (show (0 : Int) = 60 from hk) (by decide)
  · by_cases h0 : ∀ d, d < 7 → hrs l d = 0
    · rw [print_never hv h0]; decide
    · rw [print_some hv h0]
      show (List.toArray _).size ≤ _
      rw [List.size_toArray]
      have h1 := join_len2 semi.data.toList 5501 ((prL l 7).map (·.data.toList)) (fun x hx => by
        obtain ⟨y, hy, rfl⟩ := List.mem_map.1 hx
        have := prL_size l (hrs_le hv) 7 y hy
        have e : y.data.toList.length = y.size := by simp
        omega)
      have h2 := prL_len l 7
      rw [List.length_map, show semi.data.toList.length = 2 from rfl] at h1
      omega
section
variable {l : List Int} {a b c d e f g : Int}
theorem print_k (h : Wk l a b c d e f g) (u : World) (hu : Tabs u) : Calls Tryd.prog 31 #[.agg #[.int .i64 a, .int .i64 b, .int .i64 c, .int .i64 d, .int .i64 e, .int .i64 f, .int .i64 g]] u fun r w' => r = .returned (.tuple #[.string (printV l).1, .int .i64 0]) ∧ Below u.heap.size u w' := by
  have := print_any l h.len u hu
  rwa [h.wv, print_ok h.v] at this
theorem parse_k (h : Wk l a b c d e f g) (u : World) (hu : Tabs u) : Calls Tryd.prog 33 #[.string (printV l).1] u fun r w' => r = .returned (.tuple #[.agg #[.int .i64 a, .int .i64 b, .int .i64 c, .int .i64 d, .int .i64 e, .int .i64 f, .int .i64 g], .int .i64 (((prL l 7).length : Nat) : Int), .int .i64 0]) ∧ Below u.heap.size u w' := by
  have := parse_any (printV l).1 (by have := (print_size h.len h.v).2; omega) u hu
  rwa [parse_print h.len h.v, h.wv] at this
end
/-- What is so of every text: what is accepted is the text of what is returned. -/
def TxtP (U : ByteArray) : Prop := ∃ (a b c d e f g n er : Int) (B : ByteArray), (∀ u, Tabs u → Calls Tryd.prog 33 #[.string U] u fun r w' => r = .returned (.tuple #[.agg #[.int .i64 a, .int .i64 b, .int .i64 c, .int .i64 d, .int .i64 e, .int .i64 f, .int .i64 g], .int .i64 n, .int .i64 er]) ∧ Below u.heap.size u w') ∧
  (∀ u, Tabs u → Calls Tryd.prog 31 #[.agg #[.int .i64 a, .int .i64 b, .int .i64 c, .int .i64 d, .int .i64 e, .int .i64 f, .int .i64 g]] u fun r w' => r = .returned (.tuple #[.string B, .int .i64 0]) ∧ Below u.heap.size u w') ∧
  ((er = 0 ∧ B = U) ∨ (er = 60 ∧ a = 0 ∧ b = 0 ∧ c = 0 ∧ d = 0 ∧ e = 0 ∧ f = 0 ∧ g = 0))
theorem txt_ok (U : ByteArray) (hU : U.size < 4294967281) : TxtP U := by
  have hp := fun u hu => parse_any U hU u hu
  rcases parse_err U with h0 | ⟨h1, h2⟩
  · obtain ⟨l, hl⟩ : ∃ l, (parseV U).1 = l := ⟨_, rfl⟩
    obtain ⟨n, hn⟩ : ∃ n, (parseV U).2.1 = n := ⟨_, rfl⟩
    have e : parseV U = (l, n, 0) := by rw [← hl, ← hn, ← h0]
    obtain ⟨p1, p2, p3, p4⟩ := print_parse e
    obtain ⟨a, b, c, d, e', f, g, K⟩ := wk_of p1 p2
    refine ⟨a, b, c, d, e', f, g, n, 0, U, fun u hu => ?_, fun u hu => ?_, .inl ⟨rfl, rfl⟩⟩
    · have := hp u hu
      rwa [e, K.wv] at this
    · have := print_k K u hu
      rwa [p3] at this
  · obtain ⟨n, hn⟩ : ∃ n, (parseV U).2.1 = n := ⟨_, rfl⟩
    have K : Wk zeroW 0 0 0 0 0 0 0 := ⟨rfl, rfl⟩
    refine ⟨0, 0, 0, 0, 0, 0, 0, n, 60, (printV zeroW).1, fun u hu => ?_, fun u hu => print_k K u hu, .inr ⟨rfl, rfl, rfl, rfl, rfl, rfl, rfl, rfl⟩⟩
    have := hp u hu
    rwa [h1, h2, hn, K.wv] at this
/-- A row of bytes that a string was made into. -/
def RowB (w : World) (B : Nat) (L : List UInt8) : Prop := ∀ j, j < L.length → w.cell? ⟨B, j, none⟩ = some (.int .u8 ((L.getD j 0).toNat : Int)) ∧ w.frozen? ⟨B, j, none⟩ = false
theorem RowB.set {w : World} {B k : Nat} {L : List UInt8} {b : UInt8} (h : RowB w B L) (hk : k < L.length) : RowB (w.setCell ⟨B, k, none⟩ (.int .u8 (b.toNat : Int))) B (L.set k b) := by
  intro j hj
  rw [List.length_set] at hj
  refine ⟨?_, by rw [World.frozen?_setCell]; exact (h j hj).2⟩
  by_cases hjk : j = k
  · subst hjk
    rw [World.cell?_setCell_same' _ _ _ (by rw [(h j hj).1]; rfl)]
    simp [hk]
  · have e : (L.set k b).getD j 0 = L.getD j 0 := by simp [Ne.symm hjk]
    rw [e, ← (h j hj).1]
    exact World.cell?_setCell_other w _ _ _ (by intro e; cases e; exact hjk rfl)
theorem RowB.string {w : World} {B : Nat} {L : List UInt8} (h : RowB w B L) (cap n : Nat) (hn : L.length = n) :
    Sem.run Tryd.prog (Go.convert 48 9 (.slice (some ⟨B, 0, none⟩) n cap)) w = .ok (.string ⟨L.toArray⟩) w := by
  subst hn
  refine run_convert_bytes_back w 48 9 5 ⟨B, 0, none⟩ cap L Tryd.underlying48 Tryd.underlying5 Tryd.underlying9 fun j hj => ?_
  rw [show (⟨B, 0, none⟩ : Addr).add j = ⟨B, j, none⟩ from by simp [Addr.add]; omega, (h j hj).1]
  simp [List.getElem?_eq_getElem hj]
theorem RowB.made (w : World) (u : ByteArray) (cap : Nat) : RowB (w.drew.alloc (.cells (bytesRow u cap) 5 ((bytesRow u cap).size, (bytesRow u cap).size + 1))) w.heap.size u.data.toList := by
  intro j hj
  have hj2 : j < u.data.size := by simpa using hj
  have hsz : u.data.size ≤ (bytesRow u cap).size := by simp [bytesRow]
  constructor
  · have := World.cell?_alloc_mark w.drew (bytesRow u cap) 5 ((bytesRow u cap).size, (bytesRow u cap).size + 1) j
    rw [show w.drew.heap.size = w.heap.size from rfl] at this
    rw [this, bytesRow_at u cap j hj2]
    simp [List.getElem?_eq_getElem hj]
  · have := World.frozen?_alloc_mark w.drew (bytesRow u cap) 5 (bytesRow u cap).size ((bytesRow u cap).size + 1) j
    rw [show w.drew.heap.size = w.heap.size from rfl] at this
    rw [this]; simp; omega
/-- How many groups there are, counted day by day. -/
def anyB (l : List Int) (j k : Nat) : Bool := (List.range j).any fun e => hrs l e == hrs l k
theorem anyB_step (l : List Int) (j k : Nat) : anyB l (j + 1) k = (anyB l j k || (hrs l j == hrs l k)) := by
  unfold anyB
  rw [List.range_succ, List.any_append]; simp
theorem many_new {l : List Int} {k : Nat} (h0 : hrs l k ≠ 0) (h : anyB l k k = false) : (prL l (k + 1)).length = (prL l k).length + 1 := by
  rw [prL_new h0 (fun d hd e => by
    have : anyB l k k = true := (any_iff l k k).2 ⟨d, hd, e⟩
    rw [h] at this; cases this)]
  simp
theorem many_old {l : List Int} {k : Nat} (h : ¬ (hrs l k ≠ 0 ∧ anyB l k k = false)) : (prL l (k + 1)).length = (prL l k).length := by
  rw [prL_old (fun hF => h ⟨hF.1, by
    cases he : anyB l k k with
    | false => rfl
    | true =>
      obtain ⟨d, hd, e⟩ := (any_iff l k k).1 he
      exact absurd e (hF.2 d hd)⟩)]
end Go.Proofs.YthahadhckdnjiaaDoor
