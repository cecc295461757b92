/- What the rows of this seat's statements have in common: a law that only reads hands its arguments back; slices of arrays of integers among the arguments. -/
import Derived.Test.YtinhjobjlpkflaaRows
import Derived.Test.YtinhjobjlpkflaaFh
import Derived.ProofKit
import Derived.OpenShut
import Derived.Stop.Joined
import Derived.Lib.SmallJoins
import Derived.WideKeyPair
namespace Go.Proofs.Ytinhjobjlpkflaa
open Go.ChangeShapes Go.WideShapes Go.ChangeAt Go.WideMaps Go.WideElems Go.RowKit
open Go.Deep (trod_struct3)

theorem own : ownKnob Try.prog.godebug = none := by kernel_rfl
theorem laidOut : laidOutB Try.prog = true := by kernel_rfl
/-- What was read reads so in a world that has only grown. -/
theorem trodAll_below {H : Type} {enc : TypeId × Value → H} {P : Program} (hl : laidOutB P = true) {W W' : World} (hb : Below W.heap.size W W') :
    ∀ (ts : List TypeId) (vs : List Value) (ds : List (DataW H)) (ps : List MemPlace), (∀ t ∈ ts, P.readableRec t = true ∧ t < P.types.size) → (∀ x ∈ ps, x.block < W.heap.size) →
      DataW.TrodAll enc P W 0 (fun _ => true) true ts vs ds ps → DataW.TrodAll enc P W' 0 (fun b => decide (b < W.heap.size)) true ts vs ds ps
  | [], [], [], _, _, _, h => h
  | t :: ts, v :: vs, d :: ds, ps, ht, hp, h => by
    obtain ⟨p, q, h1, h2, rfl⟩ := h
    obtain ⟨a, b⟩ := ht t (by simp)
    exact ⟨p, q, Below.trod hl a b h1 hb (fun x hx => hp x (List.mem_append_left _ hx)), trodAll_below hl hb ts vs ds q (fun t h => ht t (by simp [h])) (fun x hx => hp x (List.mem_append_right _ hx)) h2, rfl⟩
  | [], [], _ :: _, _, _, _, h => h.elim
  | [], _ :: _, _, _, _, _, h => h.elim
  | _ :: _, [], _, _, _, _, h => h.elim
  | _ :: _, _ :: _, [], _, _, _, h => h.elim

/-- The row's post for a law that returned true and wrote nothing that was there. -/
theorem law_post {H : Type} {enc : TypeId × Value → H} {P : Program} (hl : laidOutB P = true) {f : Func} {s : ChangeSpec} {W W' : World} {args : Array Value} {ds gs : List (DataW H)} {before : List MemPlace}
    (hv : s.vars = []) (hok : ∀ t ∈ f.params.toList, P.readableRec t = true ∧ t < P.types.size)
    (hW : DataW.Whole enc P f.params.toList s.vars false W args.toList ds gs before)
    (hres : ∀ (b : Nat) (sp : Nat → Bool), DataW.TrodAll enc P W' b sp false f.resultTypes.toList ((Value.bool true).resultList f.resultTypes.size) (s.fn H (ds ++ [])).results [])
    (hargs : (s.fn H (ds ++ [])).args = ds) (hvars : (s.fn H (ds ++ [])).vars = [])
    (hb : Below W.heap.size W W') : s.post enc P f false true false false W args (.bool true) W' := by
  have hW' := hW
  have hlt := hW.lt
  obtain ⟨p, q, hA, hV, rfl, _, _⟩ := hW
  rw [hv] at hV
  obtain ⟨rfl, rfl⟩ := trodVars_none hV
  refine ⟨ds, [], _, [], p, [], hW', hres _ _, ?_, ?_, hb.frame _, fun h => by cases h⟩
  · rw [hargs]
    exact trodAll_below hl hb _ _ _ _ hok (fun x hx => by simpa using hlt x (List.mem_append_left _ hx)) hA
  · rw [hvars, hv]; rfl
theorem wf_i64 {a : Int} (h : (Lit.int .i64 a).wf = true) : -9223372036854775808 ≤ a ∧ a ≤ 9223372036854775807 := by
  simp only [Lit.wf, Bool.and_eq_true, decide_eq_true_eq] at h
  exact h
theorem list_of {α : Type} : ∀ (len : Nat) (R : Nat → α → Prop), (∀ i, i < len → ∃ x, R i x) → ∃ l : List α, l.length = len ∧ ∀ i x, l[i]? = some x → R i x
  | 0, R, _ => ⟨[], rfl, fun i x h => by simp at h⟩
  | n + 1, R, h => by
    obtain ⟨l, hl, hR⟩ := list_of n R fun i hi => h i (by omega)
    obtain ⟨x, hx⟩ := h n (by omega)
    refine ⟨l ++ [x], by simp [hl], fun i y hy => ?_⟩
    rcases Nat.lt_or_ge i l.length with c | c
    · rw [List.getElem?_append_left c] at hy; exact hR i y hy
    · rw [List.getElem?_append_right c] at hy
      have hi : i - l.length = 0 := by
        have := (List.getElem?_eq_some_iff.1 hy).1
        simp only [List.length_cons, List.length_nil] at this; omega
      rw [hi] at hy
      simp at hy
      obtain rfl : i = n := by omega
      rw [← hy]; exact hx
theorem open_rows {H : Type} {enc : TypeId × Value → H} {P : Program} {W : World} {α : Type} {enc' : α → List Value} {k : Nat} {Q : α → Prop} {t e : TypeId} (ht : P.underlying t = some (.slice e)) (hc : P.cellsOf e = k) (hk : 0 < k) (hlen : ∀ x, (enc' x).length = k)
    (hel : ∀ (n : Nat) (cs : List Value) (y : DataW H × List MemPlace), DataW.trod enc P W 0 (fun _ => true) true n e cs = some y → ∃ x, cs = enc' x ∧ Q x)
    {f : Nat} {cs : List Value} {y : DataW H × List MemPlace} (h : DataW.trod enc P W 0 (fun _ => true) true f t cs = some y) : ∃ v l, cs = [v] ∧ Recs enc' k W W.heap.size v l ∧ ∀ x ∈ l, Q x := by
  rcases DataW.trod_slice ht h with ⟨hcs, _⟩ | ⟨a, len, cap, elems, rest, n, _, hcs, _, _, hl, hm, hlen', hel', _⟩
  · exact ⟨_, [], hcs, recs_nil _ _ _ _, fun x hx => by cases hx⟩
  · have hx : ∀ i, i < len → ∃ x, W.cells? 0 (a.add (i * k)) k = some (enc' x) ∧ Q x := fun i hi => by
      have h1 := hel' i hi
      rw [hc, List.getElem?_eq_getElem (by omega)] at h1
      obtain ⟨cs', h2, h3⟩ := Option.bind_eq_some_iff.1 h1
      obtain ⟨x, rfl, hq⟩ := hel _ _ _ h3
      exact ⟨x, h2, hq⟩
    obtain ⟨l, hll, hR⟩ := list_of len _ hx
    refine ⟨_, l, hcs, ⟨some a, cap, by rw [hll], by omega, hm, ?_⟩, fun x hxl => ?_⟩
    · cases l with
      | nil => exact .inl rfl
      | cons x0 l0 =>
        right
        have hcell : ∀ j x, (x0 :: l0)[j]? = some x → ∀ i u, (enc' x)[i]? = some u → W.cell? ((a.add (j * k)).add i) = some u := fun j x hj i u hu => by
          obtain ⟨hcc, _⟩ := hR j x hj
          have := (World.cells?_some hcc).2.2 i (by have := (List.getElem?_eq_some_iff.1 hu).1; rw [hlen] at this; exact this)
          rw [this]; exact hu
        obtain ⟨b, off, spot⟩ := a
        have h00 : ∃ u, (enc' x0)[0]? = some u := ⟨_, List.getElem?_eq_getElem (by rw [hlen]; exact hk)⟩
        obtain ⟨u0, hu0⟩ := h00
        have hspot : spot = none := by simpa [Addr.add] using World.cell?_spot (hcell 0 x0 rfl 0 u0 hu0)
        subst hspot
        refine ⟨b, off, rfl, ?_, fun j x hj i u hu => ?_⟩
        · have := World.block_lt_of_cell? W _ (hcell 0 x0 rfl 0 u0 hu0)
          simpa [Go.WideShapes.add_plain] using this
        · have := hcell j x hj i u hu
          rwa [Go.WideShapes.add_plain, Go.WideShapes.add_plain] at this
    · obtain ⟨j, hj⟩ := List.mem_iff_getElem?.1 hxl
      exact (hR j x hj).2
section
variable {H : Type} {enc : TypeId × Value → H} {W : World}
theorem el_int (n : Nat) (cs : List Value) (y : DataW H × List MemPlace) (h : DataW.trod enc Try.prog W 0 (fun _ => true) true n 3 cs = some y) : ∃ x : Int, cs = [.int .i64 x] ∧ I64 x := by
  obtain ⟨a, ea, _, wa⟩ := DataW.trod_int Try.underlying3 h
  exact ⟨a, ea, wf_i64 wa⟩
set_option maxRecDepth 100000 in
theorem el_arr4 (n : Nat) (cs : List Value) (y : DataW H × List MemPlace) (h : DataW.trod enc Try.prog W 0 (fun _ => true) true n 53 cs = some y) : ∃ x : I4, cs = enc4 x ∧ OkI4 x := by
  cases n with
  | zero => simp [DataW.trod] at h
  | succ n =>
    rw [DataW.trod_step] at h
    unfold DataW.trodStep at h
    rw [Try.underlying53] at h
    simp only at h
    split at h
    · rename_i hl
      have hl2 : cs.length = 4 := hl.trans (by kernel_rfl)
      obtain ⟨c0, c1, c2, c3, rfl⟩ : ∃ c0 c1 c2 c3, cs = [c0, c1, c2, c3] := by
        match cs, hl2 with
        | [c0, c1, c2, c3], _ => exact ⟨c0, c1, c2, c3, rfl⟩
      simp only [Option.map_eq_some_iff] at h
      obtain ⟨xs, hx, _⟩ := h
      have k1 : Try.prog.cellsOf 3 = 1 := by kernel_rfl
      rw [show List.range 4 = [0, 1, 2, 3] from rfl, List.mapM_cons, List.mapM_cons, List.mapM_cons, List.mapM_cons, List.mapM_nil] at hx
      simp only [bind, Option.bind_eq_some_iff, pure, Option.some.injEq, k1] at hx
      obtain ⟨y0, h0, _, ⟨y1, h1, _, ⟨y2, h2, _, ⟨y3, h3, _, _, _⟩, _⟩, _⟩, _⟩ := hx
      obtain ⟨a0, e0, _, w0⟩ := DataW.trod_int Try.underlying3 h0
      obtain ⟨a1, e1, _, w1⟩ := DataW.trod_int Try.underlying3 h1
      obtain ⟨a2, e2, _, w2⟩ := DataW.trod_int Try.underlying3 h2
      obtain ⟨a3, e3, _, w3⟩ := DataW.trod_int Try.underlying3 h3
      simp at e0 e1 e2 e3
      exact ⟨⟨a0, a1, a2, a3⟩, by rw [e0, e1, e2, e3]; rfl, ⟨wf_i64 w0, wf_i64 w1, wf_i64 w2, wf_i64 w3⟩⟩
    · cases h
theorem open_arr4s {v : Value} {d : DataW H} {p : List MemPlace} (h : DataW.Trod enc Try.prog W 0 (fun _ => true) true 23 v d p) (hv : ∃ a l c, v = .slice a l c) : ∃ l : List I4, Recs enc4 4 W W.heap.size v l ∧ ∀ x ∈ l, OkI4 x := by
  obtain ⟨f, hf⟩ := h
  obtain ⟨a, l, c, rfl⟩ := hv
  obtain ⟨v, l, e, hr, hq⟩ := open_rows (enc' := enc4) (k := 4) Try.underlying23 (by kernel_rfl) (by decide) (fun _ => rfl) el_arr4 hf
  simp only [Value.cells] at e
  cases e
  exact ⟨l, hr, hq⟩
set_option maxRecDepth 100000 in
theorem el_arr2 (n : Nat) (cs : List Value) (y : DataW H × List MemPlace) (h : DataW.trod enc Try.prog W 0 (fun _ => true) true n 47 cs = some y) : ∃ x : I2, cs = encT x ∧ OkI2 x := by
  cases n with
  | zero => simp [DataW.trod] at h
  | succ n =>
    rw [DataW.trod_step] at h
    unfold DataW.trodStep at h
    rw [Try.underlying47] at h
    simp only at h
    split at h
    · rename_i hl
      have hl2 : cs.length = 2 := hl.trans (by kernel_rfl)
      obtain ⟨c0, c1, rfl⟩ : ∃ c0 c1, cs = [c0, c1] := by
        match cs, hl2 with
        | [c0, c1], _ => exact ⟨c0, c1, rfl⟩
      simp only [Option.map_eq_some_iff] at h
      obtain ⟨xs, hx, _⟩ := h
      have k1 : Try.prog.cellsOf 3 = 1 := by kernel_rfl
      rw [show List.range 2 = [0, 1] from rfl, List.mapM_cons, List.mapM_cons, List.mapM_nil] at hx
      simp only [bind, Option.bind_eq_some_iff, pure, Option.some.injEq, k1] at hx
      obtain ⟨y0, h0, _, ⟨y1, h1, _, _, _⟩, _⟩ := hx
      obtain ⟨a0, e0, _, w0⟩ := DataW.trod_int Try.underlying3 h0
      obtain ⟨a1, e1, _, w1⟩ := DataW.trod_int Try.underlying3 h1
      simp at e0 e1
      exact ⟨⟨a0, a1⟩, by rw [e0, e1]; rfl, ⟨wf_i64 w0, wf_i64 w1⟩⟩
    · cases h
theorem open_arr2s {v : Value} {d : DataW H} {p : List MemPlace} (h : DataW.Trod enc Try.prog W 0 (fun _ => true) true 46 v d p) (hv : ∃ a l c, v = .slice a l c) : ∃ l : List I2, Recs encT 2 W W.heap.size v l ∧ ∀ x ∈ l, OkI2 x := by
  obtain ⟨f, hf⟩ := h
  obtain ⟨a, l, c, rfl⟩ := hv
  obtain ⟨v, l, e, hr, hq⟩ := open_rows (enc' := encT) (k := 2) Try.underlying46 (by kernel_rfl) (by decide) (fun _ => rfl) el_arr2 hf
  simp only [Value.cells] at e
  cases e
  exact ⟨l, hr, hq⟩
theorem open_ints5 {v : Value} {d : DataW H} {p : List MemPlace} (h : DataW.Trod enc Try.prog W 0 (fun _ => true) true 28 v d p) (hv : ∃ a l c, v = .slice a l c) : ∃ l : List Int, Recs enc1 1 W W.heap.size v l ∧ ∀ x ∈ l, I64 x := by
  obtain ⟨f, hf⟩ := h
  obtain ⟨a, l, c, rfl⟩ := hv
  obtain ⟨v, l, e, hr, hq⟩ := open_rows (enc' := enc1) (k := 1) Try.underlying28 (by kernel_rfl) (by decide) (fun _ => rfl) el_int hf
  simp only [Value.cells] at e
  cases e
  exact ⟨l, hr, hq⟩
end
end Go.Proofs.Ytinhjobjlpkflaa
