/- The text of a group. -/
import Derived.Test.YtmfpaankkoaoaaaDoorVi
namespace Go.Proofs.YtmfpaankkoaoaaaDoor
open Go.RowKit Go.Shelf

theorem tiles_bits {p : Nat → Bool} : ∀ {L : List (Nat × Nat)} {a b : Nat}, Tiles p L a b → ∀ q ∈ L, ∀ t, q.1 ≤ t → t < q.2 → p t = true
  | (x, y) :: L, a, b, ⟨h1, h2, h3, h4, h5, h6⟩, q, hq, t, g1, g2 => by
    rcases List.mem_cons.1 hq with rfl | hq
    · exact h5 t g1 g2
    · exact tiles_bits h6 q hq t g1 g2
theorem rl_mem7 (s : Nat) (hs : s ≤ 127) : ∀ p ∈ rl 25 s 0, p.1 < p.2 ∧ p.2 ≤ 7 := by
  intro p hp
  obtain ⟨-, h1, -⟩ := rl_mem s (by omega) 25 0 (by omega) p hp
  refine ⟨h1, ?_⟩
  have h2 := tiles_bits (tiles_rl s (by omega) 25 0 (by omega) (by omega)) p hp (p.2 - 1) (by omega) (by omega)
  by_cases h : p.2 ≤ 7
  · exact h
  · have : s.testBit (p.2 - 1) = false := Nat.testBit_lt_two_pow (Nat.lt_of_lt_of_le (show s < 2 ^ 7 by omega) (Nat.pow_le_pow_right (by decide) (by omega)))
    rw [this] at h2; cases h2
theorem wrH_size (a b : Nat) (ha : a ≤ 25) (hb : b ≤ 25) : (wrH a b).size ≤ 100 := by
  have h1 := itoaB_size a ha
  have h2 := itoaB_size b hb
  unfold wrH
  simp only [ByteArray.size_append]
  have : (⟨#[45]⟩ : ByteArray).size = 1 := rfl
  omega
theorem wrD_size (a b : Nat) : (wrD a b).size ≤ 100 := by
  have h1 := dayS_size a
  have h2 := dayS_size (b - 1)
  have : (⟨#[45]⟩ : ByteArray).size = 1 := rfl
  unfold wrD
  split
  · omega
  · simp only [ByteArray.size_append]; omega
theorem wrRuns_size (sep : List UInt8) (hsep : sep.length ≤ 10) (wr : Nat → Nat → ByteArray) (s : Nat) (h : ∀ p ∈ rl 25 s 0, (wr p.1 p.2).size ≤ 100) : (wrRuns sep wr s).size ≤ 2750 := by
  obtain ⟨TX, hTX⟩ : ∃ TX, ((rl 25 s 0).map fun p => wr p.1 p.2) = TX := ⟨_, rfl⟩
  have h25 : TX.length ≤ 25 := by rw [← hTX, List.length_map]; exact rl_len 25 s 0
  have h100 : ∀ x ∈ TX, x.size ≤ 100 := by
    intro x hx
    rw [← hTX] at hx
    obtain ⟨p, hp, rfl⟩ := List.mem_map.1 hx
    exact h p hp
  have hl := join_len sep hsep (TX.map (·.data.toList)) (fun x h => by obtain ⟨y, hy, rfl⟩ := List.mem_map.1 h; simpa using h100 y hy)
  rw [List.length_map] at hl
  unfold wrRuns
  rw [hTX]
  show (List.toArray _).size ≤ _
  rw [List.size_toArray]
  omega
/-- The text of a group. -/
def grpT (days hours : Nat) : ByteArray := wrRuns [44] wrD days ++ ⟨#[32]⟩ ++ wrRuns [32] wrH hours
theorem grpT_size (days hours : Nat) (h : hours ≤ 16777215) : (grpT days hours).size ≤ 5501 := by
  have h1 := wrRuns_size [44] (by decide) wrD days (fun p _ => wrD_size _ _)
  have h2 := wrRuns_size [32] (by decide) wrH hours (fun p hp => by obtain ⟨-, a1, a2⟩ := rl_mem hours h 25 0 (by omega) p hp; exact wrH_size _ _ (by omega) (by omega))
  have : (⟨#[32]⟩ : ByteArray).size = 1 := rfl
  unfold grpT
  simp only [ByteArray.size_append]
  omega
/-- The worlds in which the tables stand. -/
structure Tabs (w : World) : Prop where
  p : TabP w
  d : DayT w
  t : TzT w
  c : CutT w
  n : 4 < w.heap.size
theorem Tabs.next {w w' : World} (h : Tabs w) (hb : Below w.heap.size w w') : Tabs w' := by
  have hn := h.n
  exact ⟨h.p.next hb, h.d.keep hb (show 0 < w.heap.size by omega), h.t.keep hb (show tzG < w.heap.size by show 2 < _; omega), h.c.keep hb (by omega), Nat.lt_of_lt_of_le hn hb.size⟩
theorem tz4 {w : World} (h : Tabs w) : tzG < w.heap.size := by have := h.n; show 2 < _; omega
theorem cut4 {w : World} (h : Tabs w) : cutG < w.heap.size := by have := h.n; show 3 < _; omega
theorem wrDays_any (days : Nat) (h1 : days ≤ 127) (h0 : days ≠ 0) (w : World) (ht : Tabs w) : Calls Tryd.prog 57 #[.int .i64 (days : Int), .string ⟨#[44]⟩, .func (.func 58) #[] #[]] w fun e w' => e = .returned (.string (wrRuns [44] wrD days)) ∧ Below w.heap.size w w' :=
  writeRunsD days (by omega) h0 ⟨#[44]⟩ (by decide) w (fun p _ => wrD_size _ _) (fun p hp u hu => by obtain ⟨a1, a2⟩ := rl_mem7 days h1 p hp; exact writeDays_any p.1 p.2 a1 a2 u (ht.next hu).d) ht.t (tz4 ht)
theorem wrHours_any (hours : Nat) (h1 : hours ≤ 16777215) (h0 : hours ≠ 0) (w : World) (ht : Tabs w) : Calls Tryd.prog 57 #[.int .i64 (hours : Int), .string ⟨#[32]⟩, .func (.func 59) #[] #[]] w fun e w' => e = .returned (.string (wrRuns [32] wrH hours)) ∧ Below w.heap.size w w' :=
  writeRunsH hours h1 h0 ⟨#[32]⟩ (by decide) w (fun p hp => by obtain ⟨-, a1, a2⟩ := rl_mem hours h1 25 0 (by omega) p hp; exact wrH_size _ _ (by omega) (by omega)) (fun p hp u hu => by obtain ⟨-, a1, a2⟩ := rl_mem hours h1 25 0 (by omega) p hp; exact writeHours_any p.1 p.2 (by omega) (by omega) u (ht.next hu).p) ht.t (tz4 ht)
set_option maxRecDepth 100000 in
set_option maxHeartbeats 4000000 in
theorem text_any (days hours : Nat) (h1 : days ≤ 127) (h2 : days ≠ 0) (h3 : hours ≤ 16777215) (h4 : hours ≠ 0) (w : World) (ht : Tabs w) : Calls Tryd.prog 41 #[.agg #[.int .i64 (days : Int), .int .i64 (hours : Int)]] w fun e w' => e = .returned (.string (grpT days hours)) ∧ Below w.heap.size w w' := by
  have D1 := Lib.hid (fun u hu => wrDays_any days h1 h2 u hu)
  have D2 := Lib.hid (fun u hu => wrHours_any hours h3 h4 u hu)
  have z1 := wrRuns_size [44] (by decide) wrD days (fun p _ => wrD_size _ _)
  have z2 := wrRuns_size [32] (by decide) wrH hours (fun p hp => by obtain ⟨-, a1, a2⟩ := rl_mem hours h3 25 0 (by omega) p hp; exact wrH_size _ _ (by omega) (by omega))
  have HT := Lib.hid ht
  unfold grpT
  obtain ⟨A, hA⟩ : ∃ A, wrRuns [44] wrD days = A := ⟨_, rfl⟩
  obtain ⟨B, hB⟩ : ∃ B, wrRuns [32] wrH hours = B := ⟨_, rfl⟩
  rw [hA] at D1 z1 ⊢
  rw [hB] at D2 z2 ⊢
  have n1 : ¬ 9223372036854775807 < A.size + 1 := by omega
  have n2 : ¬ 9223372036854775807 < A.size + 1 + B.size := by omega
  have mk : Hid (∀ u, Below (w.alloc (.cells #[.int .i64 (days : Int), .int .i64 (hours : Int)] 63)).heap.size (w.alloc (.cells #[.int .i64 (days : Int), .int .i64 (hours : Int)] 63)) u → Below w.heap.size w u ∧ w.heap.size < u.heap.size ∧ u.cell? ⟨w.heap.size, 0, none⟩ = some (.int .i64 (days : Int)) ∧ u.cell? ⟨w.heap.size, 1, none⟩ = some (.int .i64 (hours : Int))) :=
    Lib.hid (fun u hu => ⟨((Below.refl _ w).alloc (Nat.le_refl _) _).trans (hu.mono (by simp)), by have := hu.size; simp at this; omega, ((Row.new w _ _).below hu (by simp)).cell 0, ((Row.new w _ _).below hu (by simp)).cell 1⟩)
  have mkC : Hid (∀ u v, (Below w.heap.size w u ∧ w.heap.size < u.heap.size ∧ u.cell? ⟨w.heap.size, 0, none⟩ = some (.int .i64 (days : Int)) ∧ u.cell? ⟨w.heap.size, 1, none⟩ = some (.int .i64 (hours : Int))) → Below u.heap.size u v → Below w.heap.size w v ∧ w.heap.size < v.heap.size ∧ v.cell? ⟨w.heap.size, 0, none⟩ = some (.int .i64 (days : Int)) ∧ v.cell? ⟨w.heap.size, 1, none⟩ = some (.int .i64 (hours : Int))) :=
    Lib.hid (fun u v h hb => ⟨below_to h.1 hb, Nat.lt_of_lt_of_le h.2.1 hb.size, (hb.cell (p := ⟨w.heap.size, 0, none⟩) h.2.1).trans h.2.2.1, (hb.cell (p := ⟨w.heap.size, 1, none⟩) h.2.1).trans h.2.2.2⟩)
  clear ht h1 h2 h3 h4 hA hB
  go_enter Tryd.func41, Tryd.ntmps41
  go_upto_region 1 with (fail)
  go_region_held3 (fun u => Below w.heap.size w u ∧ w.heap.size < u.heap.size ∧ u.cell? ⟨w.heap.size, 0, none⟩ = some (.int .i64 (days : Int)) ∧ u.cell? ⟨w.heap.size, 1, none⟩ = some (.int .i64 (hours : Int))) (first | assumption | (exact mk.out _ (Below.refl _ _).drew) | (exact mkC.out _ _ (by assumption) b5) | (exact mkC.out _ _ (mk.out _ (Below.refl _ _).drew) b5)) (first | (go_at_call 57; ((with_reducible refine Calls.mono (D1.out _ ?hu) ?_); (case hu => exact HT.out.next (‹Below w.heap.size w _ ∧ _ ∧ _ ∧ _›).1); rintro e v1 ⟨rfl, b5⟩)) | (go_at_call 57; ((with_reducible refine Calls.mono (D2.out _ ?hu) ?_); (case hu => exact HT.out.next (‹Below w.heap.size w _ ∧ _ ∧ _ ∧ _›).1); rintro e v1 ⟨rfl, b5⟩)))
  all_goals
    have HX := Lib.hid (‹Below w.heap.size w _ ∧ _ ∧ _ ∧ _›)
    go_wp2_with fail
    go_ret
    exact ⟨rfl, HX.out.1⟩
end Go.Proofs.YtmfpaankkoaoaaaDoor
