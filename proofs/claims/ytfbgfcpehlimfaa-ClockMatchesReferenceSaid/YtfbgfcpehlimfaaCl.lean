/- The chapter's examples: sane answers true. -/
import Derived.Test.YtfbgfcpehlimfaaCk
import Derived.KernelRfl
namespace Go.Proofs.Ytfbgfcpehlimfaa
open Go.RowKit

def exR : List Ca.R3 := [(1000, 2000, 2010)]
def exS : List (Int × Int) := [(0, 10), (5, 15), (8, 9), (12, 20)]
theorem ex_reads : ReadsM 100 exR 2005 994 1006 0 := by
  refine .inr ⟨by decide, 994, 1007, ?_, ?_, .inl ⟨by omega, rfl, rfl, rfl⟩⟩
  · exact Ca.edge_of (fun a b h _ e => Ca.pL_mono 100 exR 2005 (by omega) (by omega) a b h e) (by omega) (.inr (by decide)) (by decide)
  · exact Ca.edge_of (fun a b h _ e => Ca.pF_mono 100 exR 2005 (by omega) (by omega) a b h e) (by omega) (.inr (by decide)) (by decide)
theorem ex_agree : Cb.Agr exS 8 9 3 := by
  refine .inr ⟨by omega, by omega, fun s => ?_, fun s h1 h2 => ?_, fun s h1 => ?_, by decide⟩
  all_goals simp only [exS, Cb.cnt]
  all_goals repeat' split
  all_goals omega
/-- A call that hands back a known value, in every world that has only grown. -/
abbrev Known (W : World) (f : FuncId) (args : Array Value) (r : Value) : Prop := ∀ u, Below W.heap.size W u → Calls Try.prog f args u fun e w' => e = .returned r ∧ Below u.heap.size u w'
theorem Known.of {W : World} {f : FuncId} {args : Array Value} {r r' : Value} (h : Known W f args r) (e : r = r') : Known W f args r' := e ▸ h
theorem spread_k (W : World) (d n : Int) : Known W 10 #[.int .i64 d, .int .i64 n] (.tuple #[.int .i64 (spr d n).1, .int .i64 (spr d n).2]) := fun u _ => spread_any d n u
theorem at_k {W : World} {v : Value} {d : Int} {rs : List Ca.R3} (hv : Clk W v d rs) (t : Int) : Known W 19 #[v, .int .i64 t] (.tuple #[.int .i64 (atM d rs t).1, .int .i64 (atM d rs t).2.1, .int .i64 (atM d rs t).2.2]) := fun u hu => at_any d t rs v u (hv.next hu)
theorem valid_k {W : World} {v : Value} {d : Int} {rs : List Ca.R3} (hv : Clk W v d rs) : Known W 16 #[v] (.bool (Ca.valid d rs)) := fun u hu => valid_c hv u hu
theorem before_k {W : World} {v : Value} {d : Int} {rs : List Ca.R3} (hv : Clk W v d rs) (l t : Int) : Known W 23 #[v, .int .i64 l, .int .i64 t] (.bool (beforeM d rs l t)) := fun u hu => before_any d l t rs v u (hv.next hu)
theorem after_k {W : World} {v : Value} {d : Int} {rs : List Ca.R3} (hv : Clk W v d rs) (l t : Int) : Known W 25 #[v, .int .i64 l, .int .i64 t] (.bool (afterM d rs l t)) := fun u hu => after_any d l t rs v u (hv.next hu)
theorem reads_k {W : World} {v : Value} {d : Int} {rs : List Ca.R3} (hv : Clk W v d rs) {t a b e : Int} (h : ReadsM d rs t a b e) : Known W 21 #[v, .int .i64 t] (.tuple #[.int .i64 a, .int .i64 b, .int .i64 e]) := fun u hu =>
  (reads_any d t rs v u (hv.next hu)).mono fun _ _ ⟨x, y, z, he, hm, hb⟩ => by
    obtain ⟨rfl, rfl, rfl⟩ := h.unique hm
    exact ⟨he, hb⟩
theorem agree_k {W : World} {v : Value} {l : List (Int × Int)} (hv : Recs enc2 2 W W.heap.size v l) (hl : l.length ≤ 1000) {f t k : Int} (h : Cb.Agr l f t k) : Known W 12 #[v] (.tuple #[.agg #[.int .i64 f, .int .i64 t], .int .i64 k]) := fun u hu =>
  (agree_any l v u (hv.next hu) hl).mono fun _ _ ⟨x, y, z, he, hm, _, _, hb⟩ => by
    obtain ⟨rfl, rfl, rfl⟩ := h.unique hm
    exact ⟨he, hb⟩
theorem recs_row {α : Type} {enc : α → List Value} {k : Nat} {w : World} {g : Nat} {t : TypeId} {cs : Array Value} (h : Row w g t cs) (l : List α) (hl : l.length ≤ 100000) (hc : ∀ j x, l[j]? = some x → ∀ i u, (enc x)[i]? = some u → cs[j * k + i]? = some u) :
    Recs enc k w w.heap.size (.slice (some ⟨g, 0, none⟩) l.length l.length) l :=
  ⟨_, _, rfl, Nat.le_refl _, by unfold maxLen; omega, .inr ⟨g, 0, rfl, h.lt, fun j x hj i u hu => by rw [h.cell, Nat.zero_add]; exact hc j x hj i u hu⟩⟩
theorem box2 {W u : World} {g : Nat} {t : TypeId} {a b : Value} (h : Row W g t #[a, b]) (hb : Below W.heap.size W u) : u.cell? ⟨g, 0, none⟩ = some a ∧ u.cell? ⟨g, 1, none⟩ = some b := by
  have h2 := h.below hb h.lt
  exact ⟨h2.cell 0, h2.cell 1⟩
theorem ex_cells : ∀ j x, exS[j]? = some x → ∀ i u, (enc2 x)[i]? = some u → (#[.int .i64 0, .int .i64 10, .int .i64 5, .int .i64 15, .int .i64 8, .int .i64 9, .int .i64 12, .int .i64 20] : Array Value)[j * 2 + i]? = some u := by
  intro j x hj i u hu
  have hi : i = 0 ∨ i = 1 := by
    have := (List.getElem?_eq_some_iff.1 hu).1
    simp only [enc2, List.length_cons, List.length_nil] at this; omega
  have hjl : j = 0 ∨ j = 1 ∨ j = 2 ∨ j = 3 := by
    have := (List.getElem?_eq_some_iff.1 hj).1
    simp only [exS, List.length_cons, List.length_nil] at this; omega
  rcases hjl with rfl | rfl | rfl | rfl <;> rcases hi with rfl | rfl <;> (simp [exS] at hj; subst hj; simpa [enc2] using hu)
set_option maxRecDepth 100000 in
set_option maxHeartbeats 4000000 in
theorem sane_any (w : World) : Calls Try.prog 9 #[] w fun e w' => e = .returned (.bool true) ∧ Below w.heap.size w w' := by
  obtain ⟨W, hW⟩ : ∃ W, (w.alloc (.cells #[.int .i64 1000, .int .i64 2000, .int .i64 2010] 48)).alloc (.cells #[.int .i64 100, .slice (some ⟨w.heap.size, 0, none⟩) 1 1] 24) = W := ⟨_, rfl⟩
  have hs : W.heap.size = w.heap.size + 1 + 1 := by rw [← hW]; simp
  have hb0 : Below w.heap.size w W := by rw [← hW]; exact ((Below.refl _ w).alloc (Nat.le_refl _) _).alloc (by simp) _
  have hr0 : Row W w.heap.size 48 #[.int .i64 1000, .int .i64 2000, .int .i64 2010] := by rw [← hW]; exact (Row.new w _ _).alloc _
  have hbx : Row W (w.heap.size + 1) 24 #[.int .i64 100, .slice (some ⟨w.heap.size, 0, none⟩) 1 1] := by
    have := Row.new (w.alloc (.cells #[.int .i64 1000, .int .i64 2000, .int .i64 2010] 48)) 24 #[.int .i64 100, .slice (some ⟨w.heap.size, 0, none⟩) 1 1]
    rw [hW] at this; simpa using this
  have hck : Clk W (.agg #[.int .i64 100, .slice (some ⟨w.heap.size, 0, none⟩) 1 1]) 100 exR := ⟨_, _, rfl, recs_row (enc := enc3) (k := 3) hr0 exR (by decide) (fun j x hj i u hu => by
    have hjl : j = 0 := by
      have := (List.getElem?_eq_some_iff.1 hj).1
      simp only [exR, List.length_cons, List.length_nil] at this; omega
    have hi : i = 0 ∨ i = 1 ∨ i = 2 := by
      have := (List.getElem?_eq_some_iff.1 hu).1
      simp only [enc3, List.length_cons, List.length_nil] at this; omega
    subst hjl
    rcases hi with rfl | rfl | rfl <;> (simp [exR] at hj; subst hj; simpa [enc3] using hu))⟩
  have S1 := Lib.hid ((spread_k W 0 7).of (r' := .tuple #[.int .i64 7, .int .i64 7]) rfl)
  have S2 := Lib.hid ((spread_k W 100 0).of (r' := .tuple #[.int .i64 0, .int .i64 1]) rfl)
  have S3 := Lib.hid ((spread_k W 100 110).of (r' := .tuple #[.int .i64 100, .int .i64 123]) rfl)
  have T1 := Lib.hid ((at_k hck 1110).of (r' := .tuple #[.int .i64 2100, .int .i64 2133, .int .i64 0]) rfl)
  have T2 := Lib.hid ((at_k hck 890).of (r' := .tuple #[.int .i64 1877, .int .i64 1910, .int .i64 0]) rfl)
  have R1 := Lib.hid (reads_k hck ex_reads)
  have V1 := Lib.hid ((valid_k hck).of (r' := .bool true) rfl)
  have B1 := Lib.hid ((before_k hck 890 1911).of (r' := .bool true) rfl)
  have B2 := Lib.hid ((before_k hck 890 1910).of (r' := .bool false) rfl)
  have F1 := Lib.hid ((after_k hck 1110 2099).of (r' := .bool true) rfl)
  have F2 := Lib.hid ((after_k hck 1110 2100).of (r' := .bool false) rfl)
  have HBX := Lib.hid hbx; have HB0 := Lib.hid hb0
  have hcur : Below W.heap.size W W := Below.refl _ _
  obtain ⟨b0, b1⟩ := box2 hbx hcur
  clear hck hbx hr0 hb0
  go_enter Try.func9, Try.ntmps9
  go_wp2_with (first | (go_at_call 10; (first | (with_reducible refine Calls.mono (S1.out _ hcur) ?_; rintro e w' ⟨rfl, hb⟩; have hcur := below_to hcur hb) | (with_reducible refine Calls.mono (S2.out _ hcur) ?_; rintro e w' ⟨rfl, hb⟩; have hcur := below_to hcur hb) | (with_reducible refine Calls.mono (S3.out _ hcur) ?_; rintro e w' ⟨rfl, hb⟩; have hcur := below_to hcur hb)); obtain ⟨b0, b1⟩ := box2 HBX.out hcur; clear hb) | (go_at_call 19; (first | (with_reducible refine Calls.mono (T1.out _ hcur) ?_; rintro e w' ⟨rfl, hb⟩; have hcur := below_to hcur hb) | (with_reducible refine Calls.mono (T2.out _ hcur) ?_; rintro e w' ⟨rfl, hb⟩; have hcur := below_to hcur hb)); obtain ⟨b0, b1⟩ := box2 HBX.out hcur; clear hb) | (go_at_call 21; (first | (with_reducible refine Calls.mono (R1.out _ hcur) ?_; rintro e w' ⟨rfl, hb⟩; have hcur := below_to hcur hb)); obtain ⟨b0, b1⟩ := box2 HBX.out hcur; clear hb) | (go_at_call 16; (first | (with_reducible refine Calls.mono (V1.out _ hcur) ?_; rintro e w' ⟨rfl, hb⟩; have hcur := below_to hcur hb) | (with_reducible refine Calls.mono (V1.out _ (hcur.alloc hcur.size _)) ?_; rintro e w' ⟨rfl, hb⟩; have hcur := below_to (hcur.alloc hcur.size _) hb)); obtain ⟨b0, b1⟩ := box2 HBX.out hcur; clear hb) | (go_at_call 23; (first | (with_reducible refine Calls.mono (B1.out _ hcur) ?_; rintro e w' ⟨rfl, hb⟩; have hcur := below_to hcur hb) | (with_reducible refine Calls.mono (B2.out _ hcur) ?_; rintro e w' ⟨rfl, hb⟩; have hcur := below_to hcur hb)); obtain ⟨b0, b1⟩ := box2 HBX.out hcur; clear hb) | (go_at_call 25; (first | (with_reducible refine Calls.mono (F1.out _ hcur) ?_; rintro e w' ⟨rfl, hb⟩; have hcur := below_to hcur hb) | (with_reducible refine Calls.mono (F2.out _ hcur) ?_; rintro e w' ⟨rfl, hb⟩; have hcur := below_to hcur hb)); obtain ⟨b0, b1⟩ := box2 HBX.out hcur; clear hb) | (go_at_call 12; refine Calls.mono (agree_k (l := exS) (recs_row (Row.new _ _ _) exS (by decide) ex_cells) (by decide) ex_agree _ (Below.refl _ _)) ?_; rintro e w' ⟨rfl, hb⟩; have hcur := below_to (hcur.alloc hcur.size _) hb; obtain ⟨b0, b1⟩ := box2 HBX.out hcur; have hz := hcur.size; have hz2 : w.heap.size + 1 < w'.heap.size := (by omega); clear hz hb))
  go_ret
  exact ⟨rfl, below_to HB0.out hcur⟩
end Go.Proofs.Ytfbgfcpehlimfaa
