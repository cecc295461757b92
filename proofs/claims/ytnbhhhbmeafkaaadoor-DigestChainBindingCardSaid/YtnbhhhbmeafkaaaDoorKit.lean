/- What the rows of this seat's statements have in common: the table's condition gives the walks its cells; a law that only reads hands its arguments back. -/
import Derived.Test.YtnbhhhbmeafkaaaDoorRows
import Derived.Test.YtnbhhhbmeafkaaaDoorE2
import Derived.SliceStrings
import Derived.Test.YtnbhhhbmeafkaaaDoorTie
import Derived.ProofKit
import Derived.LaidMore
import Derived.OpenShut
import Derived.Stop.Joined
import Derived.Lib.LaidTab
namespace Go.Proofs.YtnbhhhbmeafkaaaDoor
open Go.ChangeShapes Go.WideShapes Go.ChangeAt Go.WideMaps Go.WideElems Go.RowKit

theorem own : ownKnob Tryd.prog.godebug = none := by kernel_rfl
theorem laidOut : laidOutB Tryd.prog = true := by kernel_rfl
theorem gTab : Tryd.prog.globalNamed "aircheck/digest.roundWords" = some 0 := by kernel_rfl
theorem tTab : (Tryd.prog.globals[0]?).map (·.type) = some 89 := by kernel_rfl
theorem cTab : Tryd.prog.cellsOf 89 = 64 := by kernel_rfl
theorem cU32 : Tryd.prog.cellsOf 48 = 1 := by kernel_rfl
abbrev tabLaid : List (String × DataW Unit) := [("aircheck/digest.roundWords", Rows.laid_aircheck_digest_roundWords)]

/-- The door's own heap meets the condition. -/
theorem door_met (os : Os) (args : Array Value) : laidMetH Tryd.prog tabLaid ((World.doorLaid Tryd.prog 400 os).forCall (fun _ _ => 0) ⟨#[], args, []⟩).memory :=
  laidMetH_of_parts3 (fuel := 8) (laidMet_of_run' 8 (by kernel_rfl) (by kernel_rfl)) (by kernel_rfl) (by kernel_rfl)

theorem tab_of_laid {W : World} (h : laidMetH Tryd.prog tabLaid W) : TabOk W := by
  rw [MakeChecks.laidMetH_plain _ _ _ (by kernel_rfl)] at h
  obtain ⟨ps, ⟨g0, t0, cs0, f0, p0, q0, hg0, ht0, hv0, hd0, _, _⟩, _, _⟩ := h
  obtain rfl := Option.some.inj (gTab.symm.trans hg0)
  obtain rfl := Option.some.inj (tTab.symm.trans ht0)
  have hc := Lib.cells_of_tab (zs := Dm.K.map fun (n : Nat) => (n : Int)) Tryd.underlying89 Tryd.underlying48 cU32 cTab (k := .u32) hd0
  intro i hi
  have hcell := World.var?_cell hg0 hv0 i
  rw [hcell, ← Array.getElem?_toList, hc]
  have hl : i < Dm.K.length := by simpa [Dm.K] using hi
  simp [List.getElem?_eq_getElem hl]

theorem cStr : Tryd.prog.cellsOf 9 = 1 := by kernel_rfl
/-- A slice of strings among the arguments, as the walks take it. -/
theorem open_strs {H : Type} {enc : TypeId × Value → H} {W : World} {v : Value} {d : DataW H} {p : List MemPlace}
    (h : DataW.Trod enc Tryd.prog W 0 (fun _ => true) true 26 v d p) (hv : ∃ a l c, v = .slice a l c) :
    ∃ ps, StrsA W v ps ∧ ∀ s ∈ ps, s.length ≤ maxLen := by
  obtain ⟨f, e⟩ := h
  obtain ⟨a0, l0, c0, rfl⟩ := hv
  by_cases h0 : l0 = 0
  · subst h0
    exact ⟨[], .inr ⟨rfl, a0, c0, rfl⟩, fun s hs => by cases hs⟩
  rcases open_strings Tryd.underlying26 Tryd.underlying9 cStr e with ⟨hcs, _⟩ | ⟨a, len, cap, ss, hcs, _, hl, hm, hlen, _, hcell, hws⟩
  · simp [Value.cells] at hcs; omega
  simp only [Value.cells, List.cons.injEq, Value.slice.injEq, and_true] at hcs
  obtain ⟨rfl, rfl, rfl⟩ := hcs
  rw [if_pos rfl] at hlen
  obtain ⟨b, off, spot⟩ := a
  have hspot : spot = none := by simpa [Addr.add] using World.cell?_spot (hcell 0 (by omega))
  subst hspot
  have hcell' : ∀ j, j < ss.length → W.cell? ⟨b, off + j, none⟩ = some (.string (ss.getD j ByteArray.empty)) := fun j hj => by rw [← Go.WideShapes.add_plain]; exact hcell j hj
  have hb := World.block_lt_of_cell? W _ (hcell' 0 (by omega))
  have hL : ((ss.take l0).map fun s => s.data.toList).length = l0 := by simp; omega
  refine ⟨(ss.take l0).map fun s => s.data.toList, .inl ⟨_, c0, by rw [hL], by rw [hL]; omega, hm, .inr ⟨b, off, rfl, hb, fun j s hj => ?_⟩⟩, fun s hs => ?_⟩
  · have hjl : j < l0 := by have := (List.getElem?_eq_some_iff.1 hj).1; omega
    rw [hcell' j (by omega)]
    rw [List.getElem?_map, List.getElem?_take_of_lt hjl, Option.map_eq_some_iff] at hj
    obtain ⟨t, ht, rfl⟩ := hj
    rw [List.getD_eq_getElem?_getD, ht]
    simp [bs_of]
  · obtain ⟨t, ht, rfl⟩ := List.mem_map.1 hs
    have := hws t (List.mem_of_mem_take ht)
    simpa using this

/-- What was read reads so in a world that has only grown. -/
theorem trodAll_below {H : Type} {enc : TypeId × Value → H} {P : Program} (hl : laidOutB P = true) {W W' : World} (hb : Below W.heap.size W W') :
    ∀ (ts : List TypeId) (vs : List Value) (ds : List (DataW H)) (ps : List MemPlace), (∀ t ∈ ts, P.readableRec t = true ∧ t < P.types.size) → (∀ x ∈ ps, x.block < W.heap.size) →
      DataW.TrodAll enc P W 0 (fun _ => true) true ts vs ds ps → DataW.TrodAll enc P W' 0 (fun b => decide (b < W.heap.size)) true ts vs ds ps
  | [], [], [], _, _, _, h => h
  | t :: ts, v :: vs, d :: ds, ps, ht, hp, h => by
    obtain ⟨p, q, h1, h2, rfl⟩ := h
    obtain ⟨a, b⟩ := ht t (by simp)
    exact ⟨p, q, Below.trod hl a b h1 hb (fun x hx => hp x (List.mem_append_left _ hx)), trodAll_below hl hb ts vs ds q (fun t h => ht t (by simp [h])) (fun x hx => hp x (List.mem_append_right _ hx)) h2, rfl⟩
  | [], [], _ :: _, _, _, _, h => h.elim
  | [], _ :: _, _, _, _, _, h => h.elim
  | _ :: _, [], _, _, _, _, h => h.elim
  | _ :: _, _ :: _, [], _, _, _, h => h.elim

/-- The row's post for a law that returned true and wrote nothing that was there. -/
theorem law_post {H : Type} {enc : TypeId × Value → H} {P : Program} (hl : laidOutB P = true) {f : Func} {s : ChangeSpec} {W W' : World} {args : Array Value} {ds gs : List (DataW H)} {before : List MemPlace}
    (hv : s.vars = []) (hok : ∀ t ∈ f.params.toList, P.readableRec t = true ∧ t < P.types.size)
    (hW : DataW.Whole enc P f.params.toList s.vars false W args.toList ds gs before)
    (hres : ∀ (b : Nat) (sp : Nat → Bool), DataW.TrodAll enc P W' b sp false f.resultTypes.toList ((Value.bool true).resultList f.resultTypes.size) (s.fn H (ds ++ [])).results [])
    (hargs : (s.fn H (ds ++ [])).args = ds) (hvars : (s.fn H (ds ++ [])).vars = [])
    (hb : Below W.heap.size W W') : s.post enc P f false true false false W args (.bool true) W' := by
  have hW' := hW
  have hlt := hW.lt
  obtain ⟨p, q, hA, hV, rfl, _, _⟩ := hW
  rw [hv] at hV
  obtain ⟨rfl, rfl⟩ := trodVars_none hV
  refine ⟨ds, [], _, [], p, [], hW', hres _ _, ?_, ?_, hb.frame _, fun h => by cases h⟩
  · rw [hargs]
    exact trodAll_below hl hb _ _ _ _ hok (fun x hx => by simpa using hlt x (List.mem_append_left _ hx)) hA
  · rw [hvars, hv]; rfl
end Go.Proofs.YtnbhhhbmeafkaaaDoor
