/- Items and slices of numbers among a row's arguments. -/
import Derived.Test.YtnmhigjannihgaaKit
namespace Go.Proofs.Ytnmhigjannihgaa
open Go.ChangeShapes Go.WideShapes Go.ChangeAt Go.WideMaps Go.WideElems Go.RowKit
open Go.Deep (trod_struct3)

theorem list_of {α : Type} : ∀ (len : Nat) (R : Nat → α → Prop), (∀ i, i < len → ∃ x, R i x) → ∃ l : List α, l.length = len ∧ ∀ i x, l[i]? = some x → R i x
  | 0, R, _ => ⟨[], rfl, fun i x h => by simp at h⟩
  | n + 1, R, h => by
    obtain ⟨l, hl, hR⟩ := list_of n R fun i hi => h i (by omega)
    obtain ⟨x, hx⟩ := h n (by omega)
    refine ⟨l ++ [x], by simp [hl], fun i y hy => ?_⟩
    rcases Nat.lt_or_ge i l.length with c | c
    · rw [List.getElem?_append_left c] at hy; exact hR i y hy
    · rw [List.getElem?_append_right c] at hy
      have hi : i - l.length = 0 := by
        have := (List.getElem?_eq_some_iff.1 hy).1
        simp only [List.length_cons, List.length_nil] at this; omega
      rw [hi] at hy
      simp at hy
      obtain rfl : i = n := by omega
      rw [← hy]; exact hx
theorem open_rows {H : Type} {enc : TypeId × Value → H} {P : Program} {W : World} {α : Type} {enc' : α → List Value} {k : Nat} {Q : α → Prop} {t e : TypeId} (ht : P.underlying t = some (.slice e)) (hc : P.cellsOf e = k) (hk : 0 < k) (hlen : ∀ x, (enc' x).length = k)
    (hel : ∀ (n : Nat) (cs : List Value) (y : DataW H × List MemPlace), DataW.trod enc P W 0 (fun _ => true) true n e cs = some y → ∃ x, cs = enc' x ∧ Q x)
    {f : Nat} {cs : List Value} {y : DataW H × List MemPlace} (h : DataW.trod enc P W 0 (fun _ => true) true f t cs = some y) : ∃ v l, cs = [v] ∧ Recs enc' k W W.heap.size v l ∧ ∀ x ∈ l, Q x := by
  rcases DataW.trod_slice ht h with ⟨hcs, _⟩ | ⟨a, len, cap, elems, rest, n, _, hcs, _, _, hl, hm, hlen', hel', _⟩
  · exact ⟨_, [], hcs, recs_nil _ _ _ _, fun x hx => by cases hx⟩
  · have hx : ∀ i, i < len → ∃ x, W.cells? 0 (a.add (i * k)) k = some (enc' x) ∧ Q x := fun i hi => by
      have h1 := hel' i hi
      rw [hc, List.getElem?_eq_getElem (by omega)] at h1
      obtain ⟨cs', h2, h3⟩ := Option.bind_eq_some_iff.1 h1
      obtain ⟨x, rfl, hq⟩ := hel _ _ _ h3
      exact ⟨x, h2, hq⟩
    obtain ⟨l, hll, hR⟩ := list_of len _ hx
    refine ⟨_, l, hcs, ⟨some a, cap, by rw [hll], by omega, hm, ?_⟩, fun x hxl => ?_⟩
    · cases l with
      | nil => exact .inl rfl
      | cons x0 l0 =>
        right
        have hcell : ∀ j x, (x0 :: l0)[j]? = some x → ∀ i u, (enc' x)[i]? = some u → W.cell? ((a.add (j * k)).add i) = some u := fun j x hj i u hu => by
          obtain ⟨hcc, _⟩ := hR j x hj
          have := (World.cells?_some hcc).2.2 i (by have := (List.getElem?_eq_some_iff.1 hu).1; rw [hlen] at this; exact this)
          rw [this]; exact hu
        obtain ⟨b, off, spot⟩ := a
        have h00 : ∃ u, (enc' x0)[0]? = some u := ⟨_, List.getElem?_eq_getElem (by rw [hlen]; exact hk)⟩
        obtain ⟨u0, hu0⟩ := h00
        have hspot : spot = none := by simpa [Addr.add] using World.cell?_spot (hcell 0 x0 rfl 0 u0 hu0)
        subst hspot
        refine ⟨b, off, rfl, ?_, fun j x hj i u hu => ?_⟩
        · have := World.block_lt_of_cell? W _ (hcell 0 x0 rfl 0 u0 hu0)
          simpa [Go.WideShapes.add_plain] using this
        · have := hcell j x hj i u hu
          rwa [Go.WideShapes.add_plain, Go.WideShapes.add_plain] at this
    · obtain ⟨j, hj⟩ := List.mem_iff_getElem?.1 hxl
      exact (hR j x hj).2
section
variable {H : Type} {enc : TypeId × Value → H} {W : World}
theorem el_int (n : Nat) (cs : List Value) (y : DataW H × List MemPlace) (h : DataW.trod enc Try.prog W 0 (fun _ => true) true n 3 cs = some y) : ∃ x : Int, cs = [.int .i64 x] ∧ I64 x := by
  obtain ⟨a, ea, _, wa⟩ := DataW.trod_int Try.underlying3 h
  exact ⟨a, ea, wf_i64 wa⟩
set_option maxRecDepth 100000 in
theorem el_spell (n : Nat) (cs : List Value) (y : DataW H × List MemPlace) (h : DataW.trod enc Try.prog W 0 (fun _ => true) true n 53 cs = some y) : ∃ x : Int × Int, cs = enc2 x ∧ I64 x.1 ∧ I64 x.2 := by
  obtain ⟨y0, y1, m, _, hl, h0, h1⟩ := trod_struct2 Try.underlying53 h
  have hl2 : cs.length = 2 := hl.trans (by kernel_rfl)
  obtain ⟨c0, c1, rfl⟩ : ∃ c0 c1, cs = [c0, c1] := by
    match cs, hl2 with
    | [c0, c1], _ => exact ⟨c0, c1, rfl⟩
  obtain ⟨a, ea, _, wa⟩ := DataW.trod_int Try.underlying3 h0
  obtain ⟨b, eb, _, wb⟩ := DataW.trod_int Try.underlying3 h1
  have k1 : Try.prog.cellsOf 3 = 1 := by kernel_rfl
  simp [k1] at ea eb
  exact ⟨(a, b), by rw [ea, eb]; rfl, wf_i64 wa, wf_i64 wb⟩
theorem open_ints5 {v : Value} {d : DataW H} {p : List MemPlace} (h : DataW.Trod enc Try.prog W 0 (fun _ => true) true 26 v d p) (hv : ∃ a l c, v = .slice a l c) : ∃ l : List Int, Recs enc1 1 W W.heap.size v l ∧ ∀ x ∈ l, I64 x := by
  obtain ⟨f, hf⟩ := h
  obtain ⟨a, l, c, rfl⟩ := hv
  obtain ⟨v, l, e, hr, hq⟩ := open_rows (enc' := enc1) (k := 1) Try.underlying26 (by kernel_rfl) (by decide) (fun _ => rfl) el_int hf
  simp only [Value.cells] at e
  cases e
  exact ⟨l, hr, hq⟩
theorem array8 {α : Type} {cs : Array α} (h : cs.size = 8) : ∃ c0 c1 c2 c3 c4 c5 c6 c7, cs = #[c0, c1, c2, c3, c4, c5, c6, c7] := by
  obtain ⟨l⟩ := cs
  match l, h with
  | [c0, c1, c2, c3, c4, c5, c6, c7], _ => exact ⟨c0, c1, c2, c3, c4, c5, c6, c7, rfl⟩
set_option maxRecDepth 100000 in
theorem open_item {r : Reach} {b0 : Nat} {v : Value} {d : DataW H} {p : List MemPlace} (hval : Value.okWide Try.prog W r b0 24 v) (h : DataW.Trod enc Try.prog W 0 (fun _ => true) true 24 v d p) :
    ∃ (i : ItemP) (A1 : Option Addr) (n1 c1 : Nat) (A2 : Option Addr) (n2 c2 : Nat), v = .agg #[.int .i64 i.id, .int .i64 i.kind, .int .i64 i.len, .slice A1 n1 c1, .slice A2 n2 c2, .int .i64 i.artist, .int .i64 i.tempo, .int .i64 i.lang] ∧ ItAt i A1 n1 c1 A2 n2 c2 W.heap.size W := by
  obtain ⟨cs, rfl, hsz⟩ := okWide_struct Try.underlying24 hval
  obtain ⟨v0, v1, v2, v3, v4, v5, v6, v7, rfl⟩ := array8 (hsz.trans (by kernel_rfl))
  obtain ⟨fuel, hf⟩ := h
  obtain ⟨xs, n, -, -, hl, hlen, hf⟩ := DataW.trod_struct Try.underlying24 hf
  have k1 : Try.prog.cellsOf 3 = 1 := by kernel_rfl
  have k2 : Try.prog.cellsOf 22 = 1 := by kernel_rfl
  match xs, hlen with
  | [y0, y1, y2, y3, y4, y5, y6, y7], _ =>
    have h0 := hf 0 _ rfl
    have h1 := hf 1 _ rfl
    have h2 := hf 2 _ rfl
    have h3 := hf 3 _ rfl
    have h4 := hf 4 _ rfl
    have h5 := hf 5 _ rfl
    have h6 := hf 6 _ rfl
    have h7 := hf 7 _ rfl
    simp [Value.cells, k1, k2] at h0 h1 h2 h3 h4 h5 h6 h7
    obtain ⟨a0, e0, _⟩ := el_int _ _ _ h0
    obtain ⟨a1, e1, _⟩ := el_int _ _ _ h1
    obtain ⟨a2, e2, _⟩ := el_int _ _ _ h2
    obtain ⟨a5, e5, _⟩ := el_int _ _ _ h5
    obtain ⟨a6, e6, _⟩ := el_int _ _ _ h6
    obtain ⟨a7, e7, _⟩ := el_int _ _ _ h7
    obtain ⟨s3, l3, e3, r3, _⟩ := open_rows (enc' := enc2) (k := 2) Try.underlying22 (by kernel_rfl) (by decide) (fun _ => rfl) el_spell h3
    obtain ⟨s4, l4, e4, r4, _⟩ := open_rows (enc' := enc2) (k := 2) Try.underlying22 (by kernel_rfl) (by decide) (fun _ => rfl) el_spell h4
    simp at e0 e1 e2 e3 e4 e5 e6 e7
    subst e0 e1 e2 e3 e4 e5 e6 e7
    obtain ⟨A1, c1, f1, -, -⟩ := recs_form r3
    obtain ⟨A2, c2, f2, -, -⟩ := recs_form r4
    subst f1 f2
    exact ⟨⟨a0, a1, a2, l3, l4, a5, a6, a7⟩, A1, _, c1, A2, _, c2, rfl, r3, r4⟩
end
end Go.Proofs.Ytnmhigjannihgaa
