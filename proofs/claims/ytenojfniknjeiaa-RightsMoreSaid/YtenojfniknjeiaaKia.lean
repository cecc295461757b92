/- An array of five integers among the arguments. -/
import Derived.Test.YtenojfniknjeiaaKit
namespace Go.Proofs.Ytenojfniknjeiaa
open Go.ChangeShapes Go.WideShapes Go.ChangeAt Go.WideMaps Go.WideElems Go.RowKit

theorem arr5K : ArrKey Try.prog 57 3 5 := ⟨Try.underlying57, by kernel_rfl, by kernel_rfl, by kernel_rfl⟩
theorem array5 {α : Type} {cs : Array α} (h : cs.size = 5) : ∃ c0 c1 c2 c3 c4, cs = #[c0, c1, c2, c3, c4] := by
  obtain ⟨l⟩ := cs
  match l, h with
  | [c0, c1, c2, c3, c4], _ => exact ⟨c0, c1, c2, c3, c4, rfl⟩
theorem open_arr5 {H : Type} {enc : TypeId × Value → H} {W : World} {base : Nat} {sp : Nat → Bool} {held : Bool} {r : Reach} {b0 : Nat} {v : Value} {d : DataW H} {ps : List MemPlace} (hval : Value.okWide Try.prog W r b0 57 v) (hd : DataW.Trod enc Try.prog W base sp held 57 v d ps) :
    ∃ m : I5, v = .agg #[.int .i64 m.a, .int .i64 m.b, .int .i64 m.c, .int .i64 m.d, .int .i64 m.e] ∧ OkI5 m := by
  have A := arr5K
  have he := Try.underlying3
  simp only [Value.okWide, A.hu] at hval
  obtain ⟨cs, rfl, hs, _⟩ := hval
  rw [A.size] at hs
  obtain ⟨c0, c1, c2, c3, c4, rfl⟩ := array5 hs
  obtain ⟨fuel, hf⟩ := hd
  cases fuel with
  | zero => simp [DataW.trod] at hf
  | succ n =>
    rw [DataW.trod_step] at hf
    unfold DataW.trodStep at hf
    simp only [A.hu, Value.cells] at hf
    rw [if_pos (by rw [A.size]; rfl)] at hf
    simp only [Option.map_eq_some_iff] at hf
    obtain ⟨xs, hx, e1⟩ := hf
    have key : ∀ i, i < 5 → ∃ x : Int, [c0, c1, c2, c3, c4][i]? = some (.int .i64 x) ∧ (-9223372036854775808 ≤ x ∧ x ≤ 9223372036854775807) := by
      intro i hi
      obtain ⟨b, -, hb⟩ := Lib.mapM_at hx i i (by simp [hi])
      rw [A.one] at hb
      obtain ⟨x, ex, rfl, wx⟩ := DataW.trod_int he hb
      refine ⟨x, ?_, wf_i64 wx⟩
      have := congrArg (·[0]?) ex
      simpa [List.getElem?_take, List.getElem?_drop] using this
    obtain ⟨x0, h0, w0⟩ := key 0 (by omega)
    obtain ⟨x1, h1, w1⟩ := key 1 (by omega)
    obtain ⟨x2, h2, w2⟩ := key 2 (by omega)
    obtain ⟨x3, h3, w3⟩ := key 3 (by omega)
    obtain ⟨x4, h4, w4⟩ := key 4 (by omega)
    simp at h0 h1 h2 h3 h4
    subst h0 h1 h2 h3 h4
    exact ⟨⟨x0, x1, x2, x3, x4⟩, rfl, w0, w1, w2, w3, w4⟩
end Go.Proofs.Ytenojfniknjeiaa
