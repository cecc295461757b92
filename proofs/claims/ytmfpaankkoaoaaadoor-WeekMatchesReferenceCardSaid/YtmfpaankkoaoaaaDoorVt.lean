/- The reference's Spell. -/
import Derived.Test.YtmfpaankkoaoaaaDoorVs
namespace Go.Proofs.YtmfpaankkoaoaaaDoor
open Go.RowKit Go.Shelf

/-- The spell that two integers determine. -/
def mkFrom (a : Int) : Int := pickI a 10000000
def mkTo (a b : Int) : Int := mkFrom a + 1 + pickI b (10000000 - mkFrom a)
theorem mk_spl (a b : Int) : isSpl (mkFrom a) (mkTo a b) = true := by
  have h1 := pickI_lt a 10000000 (by decide)
  have h2 := pickI_lt b (10000000 - mkFrom a) (by unfold mkFrom; omega)
  rw [isSpl_iff]
  unfold mkTo
  unfold mkFrom at *
  omega
theorem results_sp {fn : Func} {p : Tmp} (h : fn.results = #[.cell p 25]) (tmps : Array Value) (w : World) (g : Nat) (x y : Int) (hp : tmps.getD p undef = .pointer (some ⟨g, 0, none⟩)) (hg : Row w g 25 #[.int .i64 x, .int .i64 y]) :
    (results fn tmps).run Tryd.prog w = .ok (.agg #[.int .i64 x, .int .i64 y]) w := by
  have hp' : tmps[p]?.getD undef = .pointer (some ⟨g, 0, none⟩) := by simpa using hp
  have e0 := hg.cell 0
  have e1 := hg.cell 1
  simp [results, h, hp', asAddr, go_sem, e0, e1]
theorem rspell_any (a b : Int) (ha : -9223372036854775808 ≤ a ∧ a ≤ 9223372036854775807) (hb : -9223372036854775808 ≤ b ∧ b ≤ 9223372036854775807) (w : World) :
    Calls Tryd.prog 13 #[.int .i64 a, .int .i64 b] w fun e w' => e = .returned (.agg #[.int .i64 (mkFrom a), .int .i64 (mkTo a b)]) ∧ Below w.heap.size w w' := by
  have h1 := pickI_lt a 10000000 (by decide)
  have P1 := Lib.hid (fun u => rpick_any a 10000000 (by decide) (by decide) ha.1 ha.2 u)
  have h2 := pickI_lt b (10000000 - mkFrom a) (by unfold mkFrom; omega)
  have P2 := Lib.hid (fun u => rpick_any b (10000000 - mkFrom a) (by unfold mkFrom; omega) (by unfold mkFrom; omega) hb.1 hb.2 u)
  unfold mkTo
  unfold mkFrom at *
  generalize pickI a 10000000 = f at *
  generalize pickI b (10000000 - f) = t at *
  have w1 : IntKind.i64.wrap (10000000 - f) = 10000000 - f := by rw [IntKind.wrap_i64]; omega
  have w2 : IntKind.i64.wrap (f + 1) = f + 1 := by rw [IntKind.wrap_i64]; omega
  have w3 : IntKind.i64.wrap (f + 1 + t) = f + 1 + t := by rw [IntKind.wrap_i64]; omega
  clear ha hb
  go_enter Tryd.func13, Tryd.ntmps13
  go_wp2_with (go_at_call 29; (first | (with_reducible refine Calls.mono (P1.out _) ?_) | (with_reducible refine Calls.mono (P2.out _) ?_)); rintro e w' ⟨rfl, rfl⟩)
  refine bodyPost_ret (results_sp rfl _ _ w.heap.size f (f + 1 + t) rfl ?_) rfl ?_
  · exact Row.new _ _ _
  · exact ⟨rfl, (Below.refl _ w).alloc (Nat.le_refl _) _⟩
end Go.Proofs.YtmfpaankkoaoaaaDoor
