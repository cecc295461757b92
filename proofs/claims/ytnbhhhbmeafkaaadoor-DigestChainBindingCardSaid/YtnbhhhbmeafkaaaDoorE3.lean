/- Contract of way: the strings that are summed for a proof, and its value. -/
import Derived.Test.YtnbhhhbmeafkaaaDoorE2
import Derived.Test.YtnbhhhbmeafkaaaDoorE1
import Derived.Test.YtnbhhhbmeafkaaaDoorM5
namespace Go.Proofs.YtnbhhhbmeafkaaaDoor
open Go.RowKit
attribute [local go_sem ↓] append_appN

theorem own_one (w : World) (u : Value) (t : TypeId) : (w.alloc (.cells #[u] t)).ownsRow w.heap.size t 1 (.slice (some ⟨w.heap.size, 0, none⟩) 1 1) 1 [u] :=
  ⟨rfl, .inr ⟨w.heap.size, 1, #[u], rfl, Nat.le_refl _, heap_alloc_new w _, Nat.le_refl _, by decide, rfl, rfl⟩⟩
theorem below_grown2 {B : Nat} {w w1 w3 : World} {o : Obj} (h : Below B w w1) (hB : B ≤ w1.heap.size) (hg : (w1.alloc o).grownBy w3 (some w1.heap.size)) : Below B w w3 := by
  have h3 : Below B w (w1.alloc o) := h.alloc hB o
  exact ⟨hg.os.trans h3.os, hg.tape.trans h3.tape, hg.output.trans h3.output, Nat.le_trans h3.size hg.size, fun k hk =>
    (hg.block k (by simp; omega) (fun e => by injection e with e; omega)).trans (h3.block k hk)⟩
theorem bs_one (c : UInt8) (l : List UInt8) : (⟨#[c]⟩ : ByteArray) ++ bs l = bs (c :: l) := by
  rw [show (⟨#[c]⟩ : ByteArray) = bs [c] from rfl, bs_append]; rfl
theorem strs_last {w : World} {B : Nat} {v : Value} {r : List (List UInt8)} {x : List UInt8} (h : Strs w B v (x :: r).reverse) :
    ∃ g off c, v = .slice (some ⟨g, off, none⟩) (r.length + 1) c ∧ r.length + 1 ≤ c ∧ c ≤ maxLen ∧ g < B ∧ w.cell? ⟨g, off + r.length, none⟩ = some (strOf x) ∧ Strs w B (.slice (some ⟨g, off, none⟩) r.length c) r.reverse := by
  obtain ⟨A, c, rfl, h1, h2, h3⟩ := h
  rcases h3 with ⟨_, h3⟩ | ⟨g, off, rfl, hg, hc⟩
  · simp at h3
  · have hl : (x :: r).reverse.length = r.length + 1 := by simp
    rw [hl] at h1 ⊢
    refine ⟨g, off, c, rfl, h1, h2, hg, hc r.length x (by simp), _, c, by simp, by simp; omega, h2, .inr ⟨g, off, rfl, hg, fun j s hj => hc j s ?_⟩⟩
    rw [List.reverse_cons, List.getElem?_append_left (List.getElem?_eq_some_iff.1 hj).1]; exact hj

def WayOut (p : List (List UInt8) × List UInt8) (w : World) (e : Ending) (w' : World) : Prop :=
  ∃ v, e = .returned (.tuple #[v, strOf p.2]) ∧ w'.ownsRow w.heap.size 9 1 v p.1.length (strCells p.1) ∧ Below w.heap.size w w'

set_option maxRecDepth 100000 in
set_option maxHeartbeats 1000000 in
theorem way_leaf (s : List UInt8) (n i : Int) (A : Option Addr) (m c : Nat) (w : World) (hs : s.length ≤ 1000) (h : n ≤ 1 ∨ m = 0) (ht : TabOk w) :
    Calls Tryd.prog 34 #[.int .i64 n, .int .i64 i, strOf s, .slice A m c] w (WayOut ([0 :: s], Dm.leaf s) w) := by
  obtain ⟨S, hS⟩ : ∃ S, bs s = S := ⟨_, rfl⟩
  have z1 : S.size ≤ 1000 := by rw [← hS, bs_size]; exact hs
  have e1 : (⟨#[0]⟩ : ByteArray) ++ S = bs (0 :: s) := by rw [← hS, bs_one]
  have hlf := leaf_any s (w.alloc (.cells #[.string ((⟨#[0]⟩ : ByteArray) ++ S)] 9)) (by omega) (ht.next ((Below.refl _ w).alloc (Nat.le_refl _) _))
  unfold strOf at hlf ⊢
  rw [hS] at hlf ⊢
  have HL := Lib.hid hlf; have HE := Lib.hid e1
  clear hlf e1 hS
  have fin : ∀ w', Below (w.alloc (.cells #[.string ((⟨#[0]⟩ : ByteArray) ++ S)] 9)).heap.size (w.alloc (.cells #[.string ((⟨#[0]⟩ : ByteArray) ++ S)] 9)) w' →
      WayOut ([0 :: s], Dm.leaf s) w (.returned (.tuple #[.slice (some ⟨w.heap.size, 0, none⟩) 1 1, .string (bs (Dm.sha (0 :: s)))])) w' := fun w' hb => by
    have ho := own_below (own_one w (.string ((⟨#[0]⟩ : ByteArray) ++ S)) 9) hb (own_lt (own_one w _ _))
    refine ⟨_, rfl, ?_, ((Below.refl _ w).alloc (Nat.le_refl _) _).trans (hb.mono (by simp))⟩
    rw [HE.out] at ho; exact ho
  have FIN := Lib.hid fin
  clear fin
  by_cases h1 : n ≤ 1
  · go_enter Tryd.func34, Tryd.ntmps34
    go_wp2_with (go_at_call 15; refine HL.out.mono ?_; rintro e w' ⟨rfl, hb⟩)
    go_ret2
    exact FIN.out _ hb
  · obtain rfl : m = 0 := by omega
    go_enter Tryd.func34, Tryd.ntmps34
    go_wp2_with (go_at_call 15; refine HL.out.mono ?_; rintro e w' ⟨rfl, hb⟩)
    go_ret2
    exact FIN.out _ hb

/-- A string is put before the strings of a row. -/
theorem join_row {w w1 : World} {v : Value} {l : List (List UInt8)} {u : ByteArray} {i0 : TypeInfo} (hi0 : Tryd.prog.info? 9 = some i0) (hz0 : i0.zero = some (.string ⟨#[]⟩)) (hz1 : i0.size = 1) (hz2 : i0.bytes = 16)
    (hrow : w1.ownsRow w.heap.size 9 1 v l.length (strCells l)) (hb : Below w.heap.size w w1) (hn : l.length ≤ 1000) :
    ∃ v' w', Sem.run Tryd.prog (appN #[26, 26] 26 #[.slice (some ⟨w1.heap.size, 0, none⟩) 1 1, v]) (w1.alloc (.cells #[.string u] 9)) = .ok v' w' ∧
      w'.ownsRow w.heap.size 9 1 v' (1 + l.length) (.string u :: strCells l) ∧ Below w.heap.size w w' := by
  have ho := own_base (own_one w1 (.string u) 9) hb.size
  rcases hrow.2 with ⟨rfl, h0⟩ | ⟨g, cap, cur, rfl, hg0, hg, h1, h2, h3, h4⟩
  · have : l = [] := List.eq_nil_of_length_eq_zero h0
    subst this
    exact ⟨_, _, run_append_owned_none (P := Tryd.prog) (w1.alloc (.cells #[.string u] 9)) w.heap.size 26 26 9 i0 1 Tryd.underlying26 hi0 _ 1 _ ho, ho, hb.alloc hb.size _⟩
  · obtain ⟨v', w', hrun, hown, hgr, _⟩ := run_append_own (P := Tryd.prog) (w1.alloc (.cells #[.string u] 9)) w.heap.size 26 26 9 i0 (.string ⟨#[]⟩) 1 16 Tryd.underlying26 hi0 hz0 hz1 hz2 rfl (by decide)
      _ 1 _ ho ⟨g, 0, none⟩ l.length cap (strCells l) (by rw [strCells_len, Nat.mul_one]) (fun j x hj => by
        have hjl : j < l.length := by have := (List.getElem?_eq_some_iff.1 hj).1; rwa [strCells_len] at this
        have := (hrow.alloc (.cells #[.string u] 9)).cellAt j (by omega)
        rw [show (⟨g, 0, none⟩ : Addr).add j = ⟨g, j, none⟩ from by simp [Addr.add]; omega, this]; exact hj)
      (fun x hx => by obtain ⟨t, _, rfl⟩ := List.mem_map.1 hx; rfl) (by unfold maxLen; omega) (by omega) (by have := hb.size; simp; omega)
    refine ⟨v', w', hrun, hown, below_grown2 hb hb.size hgr⟩
end Go.Proofs.YtnbhhhbmeafkaaaDoor
