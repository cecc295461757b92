/- The walk of DigestVerifyMatchesReference: it returns true for every input. -/
import Derived.Test.YtnbhhhbmeafkaaaDoorE19
import Derived.Test.YtnbhhhbmeafkaaaDoorE9
import Derived.Test.YtnbhhhbmeafkaaaDoorL1
namespace Go.Proofs.YtnbhhhbmeafkaaaDoor
open Go.RowKit

theorem post_on {P : Program} {f : FuncId} {args : Array Value} {w u : World} {b : Bool} (hb : Below w.heap.size w u) (h : Calls P f args u fun e u' => e = .returned (.bool b) ∧ Below u.heap.size u u') :
    Calls P f args u fun e u' => e = .returned (.bool b) ∧ Below w.heap.size w u' := h.mono fun _ _ ⟨h1, h2⟩ => ⟨h1, hb.trans (h2.mono hb.size)⟩
set_option maxRecDepth 100000 in
set_option maxHeartbeats 2000000 in
theorem verifyMatches_walk (old root : ByteArray) (n i : Int) (s : ByteArray) (v1 : Value) (p : List (List UInt8)) (w : World) (ht : TabOk w)
    (ho : old.size ≤ maxLen) (hr : root.size ≤ maxLen) (_ : -9223372036854775808 ≤ n) (hn2 : n ≤ 9223372036854775807) (_ : -9223372036854775808 ≤ i) (_ : i ≤ 9223372036854775807) (hs : s.size ≤ maxLen)
    (hp : StrsA w v1 p) (hlp : ∀ s ∈ p, s.length ≤ maxLen) :
    Calls Tryd.prog 5 #[.string old, .string root, .int .i64 n, .int .i64 i, .string s, v1] w (SanePost w) := by
  have c1 := sane_any w ht
  have c2 := fun u (hu : Below w.heap.size w u) => few_in v1 p 70 u (hp.next hu) hlp (by decide)
  have hps := cut_small 70 p
  have hpl := cut_len 70 p
  obtain ⟨P, hP⟩ : ∃ P, cut 70 p = P := ⟨_, rfl⟩
  rw [hP] at c2 hps hpl
  have e1 := str_cut s _ rfl
  have l1 := str_cut_len s
  obtain ⟨x, hx⟩ : ∃ x, s.data.toList.take 60 = x := ⟨_, rfl⟩
  rw [hx] at e1 l1
  obtain ⟨o, hoo⟩ : ∃ o, old.data.toList = o := ⟨_, rfl⟩
  obtain ⟨r, hrr⟩ : ∃ r, root.data.toList = r := ⟨_, rfl⟩
  have ho2 : old = bs o := by rw [← hoo, bs_of]
  have hr2 : root = bs r := by rw [← hrr, bs_of]
  unfold maxLen at ho hr hs
  have lo : o.length ≤ 9223372036854775807 := by rw [ho2, bs_size] at ho; omega
  have lr : r.length ≤ 9223372036854775807 := by rw [hr2, bs_size] at hr; omega
  have T := fun u (hu : Below w.heap.size w u) => ht.next hu
  have C1 := Lib.hid c1; have C2 := Lib.hid c2; have TT := Lib.hid T
  have HPS := Lib.hid (show ∀ s ∈ P, s.length ≤ 1000 from fun s hs => by have := hps s hs; omega)
  have HPN := Lib.hid (show P.length ≤ 100 by omega)
  have HO2 := Lib.hid ho2; have HR2 := Lib.hid hr2
  have m0 : (0 : Int) ≤ min (s.size : Int) 60 := by omega
  have m1 : min (s.size : Int) 60 ≤ (s.size : Int) := by omega
  obtain ⟨X, hX⟩ : ∃ X, bs x = X := ⟨_, rfl⟩
  rw [hX] at e1
  have HX := Lib.hid hX
  clear c1 c2 T hps hpl hP hp hlp hx hX hoo hrr ho2 hr2
  go_enter Tryd.func5, Tryd.ntmps5
  go_wp2_with fail
  refine C1.out.mono ?_
  rintro e w1 ⟨rfl, k1⟩
  have K1 := Lib.hid k1
  clear k1
  go_wp2_with fail
  refine (C2.out _ K1.out).mono ?_
  rintro e w2 ⟨pv, rfl, hpo, b2⟩
  have sp := strs_of_own hpo rfl
  have HSP := Lib.hid (fun u (hu : Below w2.heap.size w2 u) => sp.next hu)
  have K2 := Lib.hid (below_to K1.out b2)
  clear hpo b2 sp
  have a1 := fun u (hu : Below w2.heap.size w2 u) => post_on hu (vfy_any r x n i pv P u (HSP.out _ hu) HPS.out (by omega) hn2 (TT.out _ (below_to K2.out hu)))
  have a2 := fun u (hu : Below w2.heap.size w2 u) => post_on hu (refVfy_any r x n i pv P u (HSP.out _ hu) HPS.out (by omega) HPN.out hn2)
  have a3 := fun u (hu : Below w2.heap.size w2 u) => post_on hu (vex_any o r n i pv P u (HSP.out _ hu) HPS.out lo lr hn2 (TT.out _ (below_to K2.out hu)))
  have a4 := fun u (hu : Below w2.heap.size w2 u) => post_on hu (refVex_any o r n i pv P u (HSP.out _ hu) HPS.out HPN.out lo lr hn2)
  unfold strOf at a1 a2 a3 a4
  rw [← HR2.out, HX.out] at a1 a2; rw [← HO2.out, ← HR2.out] at a3 a4
  obtain ⟨f, hf⟩ : ∃ f, vfy r n i x P = f := ⟨_, rfl⟩
  obtain ⟨g, hg⟩ : ∃ g, vex o i r n P = g := ⟨_, rfl⟩
  rw [hf] at a1 a2; rw [hg] at a3 a4
  have A1 := Lib.hid a1; have A2 := Lib.hid a2; have A3 := Lib.hid a3; have A4 := Lib.hid a4
  have q1 : (f == f) = true := by simp
  have q2 : (g == g) = true := by simp
  clear a1 a2 a3 a4 hf hg lo lr l1
  have D2 := Lib.hid (Below.refl w2.heap.size w2)
  go_wp2_with fail
  refine (A1.out _ D2.out).mono ?_
  rintro e w3 ⟨rfl, d3⟩
  go_wp2_with fail
  refine (A2.out _ d3).mono ?_
  rintro e w4 ⟨rfl, d4⟩
  go_wp2_with fail
  refine (A3.out _ d4).mono ?_
  rintro e w5 ⟨rfl, d5⟩
  go_wp2_with fail
  refine (A4.out _ d5).mono ?_
  rintro e w6 ⟨rfl, d6⟩
  go_wp2
  go_ret
  exact ⟨rfl, below_to K2.out d6⟩
end Go.Proofs.YtnbhhhbmeafkaaaDoor
