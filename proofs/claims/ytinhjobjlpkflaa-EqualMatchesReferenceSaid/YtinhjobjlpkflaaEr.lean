/- What is overdue: the closure, IndexFunc. -/
import Derived.Test.YtinhjobjlpkflaaEq
namespace Go.Proofs.Ytinhjobjlpkflaa
open Go.RowKit Go.Shelf

set_option maxRecDepth 100000 in
set_option maxHeartbeats 4000000 in
theorem over_any (x : Cl) (now : Int) (bN : Nat) (w : World) (hN : w.cell? ⟨bN, 0, none⟩ = some (.int .i64 now)) (hb : bN < w.heap.size) :
    Calls Try.prog 35 #[.agg #[.int .i64 x.cand, .int .i64 x.of_, .int .i64 x.rest, .int .i64 x.until_], .pointer (some ⟨bN, 0, none⟩)] w fun e w' => e = .returned (.bool (decide (now ≤ x.until_))) ∧ Below w.heap.size w w' := by
  have HB := Lib.hid ((Below.refl w.heap.size w).alloc (Nat.le_refl _) (.cells #[.int .i64 x.cand, .int .i64 x.of_, .int .i64 x.rest, .int .i64 x.until_] 39))
  obtain ⟨z0, z1, z2, z3⟩ := x
  dsimp only at HB ⊢
  go_enter Try.func35, Try.ntmps35
  go_wp2
  go_ret
  exact ⟨rfl, HB.out⟩
/-- Those that are not overdue any longer .. that is: those whose Until has passed. -/
def late (now : Int) (c : Cl) : Bool := decide (c.until_ < now)
def IdxPost (now : Int) (l : List Cl) (w : World) (e : Ending) (w' : World) : Prop :=
  ∃ i : Int, e = .returned (.int .i64 i) ∧ Below w.heap.size w w' ∧ ((i = -1 ∧ l.all (late now) = true) ∨ ∃ k : Nat, i = (k : Int) ∧ k < l.length ∧ (l.take k).all (late now) = true ∧ ∀ x, l[k]? = some x → late now x = false)
set_option maxRecDepth 100000 in
set_option maxHeartbeats 8000000 in
theorem index_any (l : List Cl) (now : Int) (bN : Nat) (A : Option Addr) (n c : Nat) (w : World) (hr : Recs encC 4 w w.heap.size (.slice A n c) l) (hl : l.length ≤ 100000) (hN : w.cell? ⟨bN, 0, none⟩ = some (.int .i64 now)) (hb : bN < w.heap.size) :
    Calls Try.prog 45 #[.slice A n c, .func (.func 35) #[] #[.pointer (some ⟨bN, 0, none⟩)]] w (IdxPost now l w) := by
  obtain ⟨hn, -, -⟩ := recs_cap hr
  have HR := Lib.hid hr
  have HN := Lib.hid hn
  have HL := Lib.hid hl
  have HNB := Lib.hid (fun u (h : Below w.heap.size w u) => show u.cell? ⟨bN, 0, none⟩ = some (.int .i64 now) from (h.cell (p := ⟨bN, 0, none⟩) hb).trans hN)
  have HBN := Lib.hid hb
  have hn9 : n ≤ 100000 := by omega
  clear hr hl hN hb hn
  go_enter Try.func45, Try.ntmps45
  go_wp2
  go_loopw [8] (fun z wr => ∃ k : Nat, z = .int .i64 (k : Int) ∧ k ≤ n ∧ Hid ((l.take k).all (late now) = true) ∧ Hid (Below w.heap.size w wr)) (fun z _ => n - (intOf z).toNat)
  case atStart => exact ⟨0, rfl, Nat.zero_le _, Lib.hid rfl, Lib.hid (Below.refl _ _)⟩
  case round =>
    obtain ⟨k, rfl, hk, HF, HW⟩ := hrel
    have k0 : (0 : Int) ≤ (k : Int) := by omega
    have e7 : IntKind.i64.wrap ((k : Int) + 1) = (k : Int) + 1 := IntWalk.i64_in _ (by omega)
    by_cases hlt : k < n
    · have k1 : (k : Int) < (n : Int) := by omega
      have hkl : k < l.length := by have := HN.out; omega
      obtain ⟨b, o, rfl, hgb, hcell⟩ := recs_at (HR.out.below HW.out) k hkl
      obtain ⟨q, hq⟩ : ∃ q, l[k]? = some q := ⟨_, List.getElem?_eq_getElem hkl⟩
      have HQ := Lib.hid hq
      have a0 : wr.cell? ⟨b, o + k * 4, none⟩ = some (.int .i64 q.cand) := hcell k q hq 0 _ rfl
      have a1 : wr.cell? ⟨b, o + k * 4 + 1, none⟩ = some (.int .i64 q.of_) := hcell k q hq 1 _ rfl
      have a2 : wr.cell? ⟨b, o + k * 4 + 2, none⟩ = some (.int .i64 q.rest) := hcell k q hq 2 _ rfl
      have a3 : wr.cell? ⟨b, o + k * 4 + 3, none⟩ = some (.int .i64 q.until_) := hcell k q hq 3 _ rfl
      have lw := HW.out.size
      have g9 : b < wr.heap.size := by omega
      have HOV := Lib.hid (over_any q now bN wr (HNB.out _ HW.out) (by have := HBN.out; omega))
      have HLT := Lib.hid (show (l.take (k + 1)).all (late now) = ((l.take k).all (late now) && late now q) by rw [List.take_add_one, hq, List.all_append]; simp)
      clear hcell hq lw
      by_cases hd : now ≤ q.until_
      · have HLF := Lib.hid (show late now q = false by unfold late; exact decide_eq_false (by omega))
        rw [decide_eq_true hd] at HOV
        clear hd
        go_wp2_with (go_at_call 35; (with_reducible refine Calls.mono HOV.out ?_); rintro r u1 ⟨rfl, hb⟩; have HB1 := Lib.hid hb; clear hb)
        go_ret
        exact ⟨_, rfl, HW.out.trans (HB1.out.mono HW.out.size), .inr ⟨k, rfl, by have := HN.out; omega, HF.out, fun x hx => by rw [HQ.out] at hx; cases hx; exact HLF.out⟩⟩
      · have HLF := Lib.hid (show late now q = true by unfold late; exact decide_eq_true (by omega))
        rw [decide_eq_false hd] at HOV
        clear hd
        go_wp2_with (go_at_call 35; (with_reducible refine Calls.mono HOV.out ?_); rintro r u1 ⟨rfl, hb⟩; have HB1 := Lib.hid hb; clear hb)
        go_roundw
        case rel => exact ⟨k + 1, by go_num, by omega, Lib.hid (by rw [HLT.out, HF.out, HLF.out]; rfl), Lib.hid (HW.out.trans (HB1.out.mono HW.out.size))⟩
        case measure => simp [intOf]; omega
    · have k1 : ¬ (k : Int) < (n : Int) := by omega
      have HE := Lib.hid (show l.all (late now) = true by have := HF.out; rwa [List.take_of_length_le (by have := HN.out; omega)] at this)
      go_wp2
      go_ret
      exact ⟨_, rfl, HW.out, .inl ⟨rfl, HE.out⟩⟩
end Go.Proofs.Ytinhjobjlpkflaa
