/- The walk of DigestTreeMatchesReference: it returns true for every input. -/
import Derived.Test.YtnbhhhbmeafkaaaDoorE16
import Derived.Test.YtnbhhhbmeafkaaaDoorE9
import Derived.Test.YtnbhhhbmeafkaaaDoorL1
import Derived.Test.YtnbhhhbmeafkaaaDoorE11
namespace Go.Proofs.YtnbhhhbmeafkaaaDoor
open Go.RowKit

def OneTup (p : List (List UInt8)) (z : Int) (w : World) (e : Ending) (w' : World) : Prop :=
  ∃ r, e = .returned (.tuple #[r, .int .i64 z]) ∧ w'.ownsRow w.heap.size 9 1 r p.length (strCells p) ∧ Below w.heap.size w w'
theorem oneTup_nil {w w' : World} {z : Int} {e : Ending} (he : e = .returned (.tuple #[.slice none 0 0, .int .i64 z])) (hb : Below w.heap.size w w') : OneTup [] z w e w' :=
  ⟨_, he, World.ownsRow_nil _ _ _ _, hb⟩
def prfZ (l : List (List UInt8)) (i : Int) : List (List UInt8) := if 0 ≤ i ∧ i < l.length then Dm.proof l i.toNat else []
def prfE (l : List (List UInt8)) (i : Int) : Int := if 0 ≤ i ∧ i < l.length then 0 else 2
def extZ (l : List (List UInt8)) (i : Int) : List (List UInt8) := if 0 ≤ i ∧ i ≤ l.length then extO l i.toNat else []
def extE (l : List (List UInt8)) (i : Int) : Int := if 0 ≤ i ∧ i ≤ l.length then 0 else 2
theorem below_same {w w' : World} (h : w = w') : Below w.heap.size w w' := h ▸ Below.refl _ _
theorem prf_tup (P : List (List UInt8)) (i : Int) (v : Value) (w : World) (hv : Strs w w.heap.size v P) (hl : ∀ s ∈ P, s.length ≤ 1000) (hn : P.length ≤ 1000) (ht : TabOk w) :
    Calls Tryd.prog 22 #[v, .int .i64 i] w (OneTup (prfZ P i) (prfE P i) w) := by
  unfold prfZ prfE
  by_cases h : 0 ≤ i ∧ i < P.length
  · rw [if_pos h, if_pos h]
    have := prf_in P i.toNat v w hv hl (by omega) (by omega) ht
    rw [show ((i.toNat : Nat) : Int) = i by omega] at this
    exact this
  · rw [if_neg h, if_neg h]
    obtain ⟨A, c, rfl, _⟩ := hv
    exact (prf_err i A _ c w (by omega)).mono fun _ _ ⟨h1, h2⟩ => oneTup_nil h1 h2
theorem refPrf_tup (P : List (List UInt8)) (i : Int) (v : Value) (w : World) (hv : Strs w w.heap.size v P) (hl : ∀ s ∈ P, s.length ≤ 1000) (hn : P.length ≤ 1000) :
    Calls Tryd.prog 23 #[v, .int .i64 i] w (OneTup (prfZ P i) (prfE P i) w) := by
  unfold prfZ prfE
  by_cases h : 0 ≤ i ∧ i < P.length
  · rw [if_pos h, if_pos h]
    have := refProof_in v P i.toNat w hv hl (by omega) hn
    rw [show ((i.toNat : Nat) : Int) = i by omega] at this
    exact this
  · rw [if_neg h, if_neg h]
    obtain ⟨A, c, rfl, _⟩ := hv
    exact (refProof_out A _ c i w (by omega)).mono fun _ _ ⟨h1, h2⟩ => oneTup_nil h1 (below_same h2)
theorem ext_tup (P : List (List UInt8)) (i : Int) (v : Value) (w : World) (hv : Strs w w.heap.size v P) (hl : ∀ s ∈ P, s.length ≤ 1000) (hn : P.length ≤ 1000) (ht : TabOk w) :
    Calls Tryd.prog 24 #[v, .int .i64 i] w (OneTup (extZ P i) (extE P i) w) := by
  unfold extZ extE
  by_cases h : 0 ≤ i ∧ i ≤ P.length
  · rw [if_pos h, if_pos h]
    have := ext_ok P i.toNat v w hv hl (by omega) (by omega) ht
    rw [show ((i.toNat : Nat) : Int) = i by omega] at this
    exact this
  · rw [if_neg h, if_neg h]
    obtain ⟨A, c, rfl, _⟩ := hv
    exact (ext_err i A _ c w (by omega)).mono fun _ _ ⟨h1, h2⟩ => oneTup_nil h1 (below_same h2)
theorem refExt_tup (P : List (List UInt8)) (i : Int) (v : Value) (w : World) (hv : Strs w w.heap.size v P) (hl : ∀ s ∈ P, s.length ≤ 1000) (hn : P.length ≤ 1000) :
    Calls Tryd.prog 25 #[v, .int .i64 i] w (OneTup (extZ P i) (extE P i) w) := by
  unfold extZ extE
  by_cases h : 0 ≤ i ∧ i ≤ P.length
  · rw [if_pos h, if_pos h]
    have := refExt_in v P i.toNat w hv hl (by omega) hn
    rw [show ((i.toNat : Nat) : Int) = i by omega] at this
    exact this
  · rw [if_neg h, if_neg h]
    obtain ⟨A, c, rfl, _⟩ := hv
    exact (refExt_out A _ c i w (by omega)).mono fun _ _ ⟨h1, h2⟩ => oneTup_nil h1 (below_same h2)
theorem same_true (v1 v2 : Value) (a : List (List UInt8)) (w : World) (ha : Strs w w.heap.size v1 a) (hb : Strs w w.heap.size v2 a) :
    Calls Tryd.prog 26 #[v1, v2] w fun e w' => e = .returned (.bool true) ∧ Below w.heap.size w w' := by
  have := same_any v1 v2 a a w ha hb
  rwa [show (a == a) = true by simp] at this

set_option maxRecDepth 100000 in
set_option maxHeartbeats 2000000 in
theorem treeMatches_walk (v1 : Value) (p : List (List UInt8)) (i m : Int) (w : World) (ht : TabOk w)
    (hp : StrsA w v1 p) (hlp : ∀ s ∈ p, s.length ≤ maxLen) (_ : -9223372036854775808 ≤ i) (_ : i ≤ 9223372036854775807) (_ : -9223372036854775808 ≤ m) (_ : m ≤ 9223372036854775807) :
    Calls Tryd.prog 4 #[v1, .int .i64 i, .int .i64 m] w (SanePost w) := by
  have c1 := sane_any w ht
  have c2 := fun u (hu : Below w.heap.size w u) => few_in v1 p 40 u (hp.next hu) hlp (by decide)
  have hps := cut_small 40 p
  have hpl := cut_len 40 p
  obtain ⟨P, hP⟩ : ∃ P, cut 40 p = P := ⟨_, rfl⟩
  rw [hP] at c2 hps hpl
  have T := fun u (hu : Below w.heap.size w u) => ht.next hu
  have C1 := Lib.hid c1; have C2 := Lib.hid c2; have TT := Lib.hid T
  have HPS := Lib.hid (show ∀ s ∈ P, s.length ≤ 1000 from fun s hs => by have := hps s hs; omega)
  have HPN := Lib.hid (show P.length ≤ 1000 by omega)
  clear c1 c2 T hps hpl hP hp hlp
  go_enter Tryd.func4, Tryd.ntmps4
  go_wp2_with fail
  refine C1.out.mono ?_
  rintro e w1 ⟨rfl, k1⟩
  have K1 := Lib.hid k1
  clear k1
  go_wp2_with fail
  refine (C2.out _ K1.out).mono ?_
  rintro e w2 ⟨pv, rfl, hpo, b2⟩
  have sp := strs_of_own hpo rfl
  have HSP := Lib.hid (fun u (hu : Below w2.heap.size w2 u) => sp.next hu)
  have K2 := Lib.hid (below_to K1.out b2)
  clear hpo b2 sp
  have a1 := prf_tup P i pv w2 (HSP.out _ (Below.refl _ _)) HPS.out HPN.out (TT.out _ K2.out)
  have a2 := fun u (hu : Below w2.heap.size w2 u) => refPrf_tup P i pv u (HSP.out _ hu) HPS.out HPN.out
  have a3 := fun u (hu : Below w2.heap.size w2 u) => ext_tup P m pv u (HSP.out _ hu) HPS.out HPN.out (TT.out _ (below_to K2.out hu))
  have a4 := fun u (hu : Below w2.heap.size w2 u) => refExt_tup P m pv u (HSP.out _ hu) HPS.out HPN.out
  have a5 := fun u (hu : Below w2.heap.size w2 u) => root_any pv P u (HSP.out _ hu) HPS.out (TT.out _ (below_to K2.out hu))
  have a6 := fun u (hu : Below w2.heap.size w2 u) => refRoot_any pv P u (HSP.out _ hu) HPS.out
  obtain ⟨X, hX⟩ : ∃ X, prfZ P i = X := ⟨_, rfl⟩
  obtain ⟨Y, hY⟩ : ∃ X, extZ P m = X := ⟨_, rfl⟩
  obtain ⟨x, hx⟩ : ∃ X, prfE P i = X := ⟨_, rfl⟩
  obtain ⟨y, hy⟩ : ∃ X, extE P m = X := ⟨_, rfl⟩
  obtain ⟨R, hR⟩ : ∃ R, bs (Dm.root P) = R := ⟨_, rfl⟩
  unfold strOf at a5 a6
  rw [hX, hx] at a1 a2; rw [hY, hy] at a3 a4; rw [hR] at a5 a6
  have A1 := Lib.hid a1; have A2 := Lib.hid a2; have A3 := Lib.hid a3; have A4 := Lib.hid a4; have A5 := Lib.hid a5; have A6 := Lib.hid a6
  have q1 : (R.toList == R.toList) = true := by simp
  have q2 : (x == x) = true := by simp
  have q3 : (y == y) = true := by simp
  clear a1 a2 a3 a4 a5 a6 hX hY hx hy hR
  go_wp2_with fail
  refine A1.out.mono ?_
  unfold OneTup
  rintro e w3 ⟨r1, rfl, o1, b3⟩
  have S1 := Lib.hid (fun u (hu : Below w3.heap.size w3 u) => (strs_of_own o1 rfl).next hu)
  have D3 := Lib.hid b3
  clear o1 b3
  go_wp2_with fail
  refine (A2.out _ D3.out).mono ?_
  unfold OneTup
  rintro e w4 ⟨r2, rfl, o2, b4⟩
  have S2 := Lib.hid (fun u (hu : Below w4.heap.size w4 u) => (strs_of_own o2 rfl).next hu)
  have D4 := Lib.hid (below_to D3.out b4); have E4 := Lib.hid b4
  clear o2 b4
  go_wp2_with fail
  refine (A3.out _ D4.out).mono ?_
  unfold OneTup
  rintro e w5 ⟨r3, rfl, o3, b5⟩
  have S3 := Lib.hid (fun u (hu : Below w5.heap.size w5 u) => (strs_of_own o3 rfl).next hu)
  have D5 := Lib.hid (below_to D4.out b5); have E5 := Lib.hid (below_to E4.out b5); have F5 := Lib.hid b5
  clear o3 b5
  go_wp2_with fail
  refine (A4.out _ D5.out).mono ?_
  unfold OneTup
  rintro e w6 ⟨r4, rfl, o4, b6⟩
  have S4 := Lib.hid (fun u (hu : Below w6.heap.size w6 u) => (strs_of_own o4 rfl).next hu)
  have D6 := Lib.hid (below_to D5.out b6); have E6 := Lib.hid (below_to E5.out b6); have F6 := Lib.hid (below_to F5.out b6); have G6 := Lib.hid b6
  clear o4 b6
  have z1 := same_true r1 r2 X w6 (S1.out _ E6.out) (S2.out _ F6.out)
  have Z1 := Lib.hid z1
  clear z1
  go_wp2_with fail
  refine Z1.out.mono ?_
  rintro e w7 ⟨rfl, b7⟩
  have D7 := Lib.hid (below_to D6.out b7)
  have z2 := same_true r3 r4 Y w7 (S3.out _ (below_to G6.out b7)) (S4.out _ b7)
  have Z2 := Lib.hid z2
  clear z2 b7
  go_wp2_with fail
  refine Z2.out.mono ?_
  rintro e w8 ⟨rfl, b8⟩
  have D8 := Lib.hid (below_to D7.out b8)
  clear b8
  go_wp2_with fail
  refine (A5.out _ D8.out).mono ?_
  rintro e w9 ⟨rfl, b9⟩
  have D9 := Lib.hid (below_to D8.out b9)
  clear b9
  go_wp2_with fail
  refine (A6.out _ D9.out).mono ?_
  rintro e w10 ⟨rfl, b10⟩
  have D10 := Lib.hid (below_to K2.out (below_to D9.out b10))
  clear b10
  go_wp2
  go_ret
  exact ⟨rfl, D10.out⟩
end Go.Proofs.YtnbhhhbmeafkaaaDoor
