/- The iterator runs, handed to any loop by the own law. -/
import Derived.Test.YtmfpaankkoaoaaaDoorVa
namespace Go.Proofs.YtmfpaankkoaoaaaDoor
open Go.RowKit Go.Shelf
attribute [local go_sem] Oper.semAt_some

/-- The block of the table that TrailingZeros reads. -/
abbrev tzG : Nat := 2
theorem TzT.keepK {no : Nat → Prop} {w w' : World} (h : TzT w) (hk : Keeps no w w') (h2 : tzG < w.heap.size) (hn : ¬ no tzG) : TzT w' := fun j hj => (hk.cell h2 hn).trans (h j hj)
abbrev encQ (p : Nat × Nat) : Array Value := #[.int .i64 (p.1 : Int), .int .i64 (p.2 : Int)]
theorem wrap_u64n (y : Nat) (hy : y < 16777216) : IntKind.u64.wrap (y : Int) = (y : Int) := by rw [IntKind.wrap_u64]; omega
theorem small_facts2 (A : Nat) (h : A ≤ 24) : wrap64 (A : Int) = (A : Int) ∧ (0 : Int) ≤ (A : Int) ∧ (A : Int) < 63 := ⟨wrap64_nat _ (by omega), by omega, by omega⟩
set_option maxRecDepth 100000 in
set_option maxHeartbeats 2000000 in
theorem runs1_p (n : Nat) (hn : 1 ≤ n) (l Bn : Nat) (s : Nat) (hs : s ≤ 16777215) (J Jx : List (Nat × Nat) → World → Prop) (no : World → Nat → Prop)
    (hno : ∀ s X, J s X → Bn < X.heap.size ∧ ¬ no X Bn ∧ tzG < X.heap.size ∧ ¬ no X tzG)
    (hY : ∀ pre x W, pre ++ [x] <+: rl 25 s 0 → J pre W → YieldAt Fence.wide (n - 1) Tryd.prog l (encQ x) W fun e W' =>
      (e = .returned (.bool true) ∧ RoundK no W W' ∧ J (pre ++ [x]) W') ∨ (e = .returned (.bool false) ∧ Keeps (no W) W W' ∧ Jx (pre ++ [x]) W'))
    (W : World) (hBn : W.cell? ⟨Bn, 0, none⟩ = some (.int .i64 (s : Int))) (hT : TzT W) (h0 : J [] W) :
    CallsIn Fence.wide n Tryd.prog 74 #[.func (.yield l) #[] #[], .pointer (some ⟨Bn, 0, none⟩)] W fun e W' => (∃ v, e = .returned v) ∧
      (J (rl 25 s 0) W' ∨ (∃ pre, pre <+: rl 25 s 0 ∧ Jx pre W')) := by
  refine callsIn_of_wp Tryd.func74 rfl trivial ?_ rfl
  simp only [Tryd.ntmps74, List.size_toArray, List.length_cons, List.length_nil, Nat.reduceAdd, Nat.reduceSub, Array.replicate_succ, Array.replicate_zero, List.push_toArray, List.append_toArray, List.nil_append, List.cons_append]
  gi_wp2
  gi_loopw [3, 4] (fun r _ wr => ∃ (pre : List (Nat × Nat)) (f e : Nat), Hid (rl 25 s 0 = pre ++ rl f s e) ∧ pre.length + f = 25 ∧ 25 ≤ e + f ∧ e ≤ 24 ∧ r = .int .i64 (e : Int) ∧ wr.cell? ⟨Bn, 0, none⟩ = some (.int .i64 (s : Int)) ∧ TzT wr ∧ J pre wr)
    (fun r _ _ => 25 - (intOf r).toNat)
  case atStart => exact ⟨[], 25, 0, Lib.hid rfl, rfl, by omega, by omega, rfl, hBn, hT, h0⟩
  case round =>
    obtain ⟨pre, f, e, HAT, hlen, hfe, he, rfl, hcell, htz, hJ⟩ := hrel
    have HTZ := Lib.hid htz
    have hq24 : s / 2 ^ e < 16777216 := Nat.lt_of_le_of_lt (Nat.div_le_self _ _) (by omega)
    have E1 := shift_cast s e
    have i1 : (0 : Int) ≤ (e : Int) := by omega
    have i2 : (e : Int) < 63 := by omega
    by_cases h0 : s / 2 ^ e = 0
    · obtain ⟨q, hq⟩ : ∃ q, s / 2 ^ e = q := ⟨_, rfl⟩
      have hnil := rl_nil f s e h0
      rw [hq] at E1 h0
      subst h0
      have HAT2 := Lib.hid (HAT.out.trans (by rw [hnil, List.append_nil]))
      clear htz hfe hlen hq24 hq hnil
      gi_wp2
      go_end0
      exact ⟨⟨_, rfl⟩, .inl (HAT2.out ▸ hJ)⟩
    · have hf0 : 0 < f := by omega
      have hl25 : pre.length < 25 := by omega
      have hcons := rl_cons f s e h0 hf0
      obtain ⟨f1, f2, f3⟩ := rfrom_facts s e hs he h0
      obtain ⟨f4, f5⟩ := rto_facts s _ hs f2 f3
      have hA : e + Lib.ctz 64 (s / 2 ^ e) = rfrom s e := rfl
      have hB : rfrom s e + Lib.ctz 64 (18446744073709551615 - s / 2 ^ rfrom s e) = rto s (rfrom s e) := rfl
      obtain ⟨A, gA⟩ : ∃ A, rfrom s e = A := ⟨_, rfl⟩
      rw [gA] at f1 f2 f3 f4 f5 hA hB hcons
      obtain ⟨B, gB⟩ : ∃ B, rto s A = B := ⟨_, rfl⟩
      rw [gB] at f4 f5 hB hcons
      have HAT3 := Lib.hid (HAT.out.trans (by rw [hcons]))
      have hq24' : s / 2 ^ A < 16777216 := Nat.lt_of_le_of_lt (Nat.div_le_self _ _) (by omega)
      have E2 := shift_cast s A
      have X2 : bits .xor .u64 IntKind.u64.max ((s / 2 ^ A : Nat) : Int) = ((18446744073709551615 - s / 2 ^ A : Nat) : Int) := by rw [show IntKind.u64.max = 18446744073709551615 from rfl]; exact xor_all _ hq24'
      have W2 := wrap_u64n _ hq24'
      have W1 := wrap_u64n _ hq24
      have T1 := Lib.hid (fun u (hu : TzT u) => tz_any (s / 2 ^ e) (Nat.lt_trans hq24 (by decide)) u hu)
      have T2 := Lib.hid (fun u (hu : TzT u) => tz_any (18446744073709551615 - s / 2 ^ A) (Nat.lt_of_le_of_lt (Nat.sub_le _ _) (by decide)) u hu)
      obtain ⟨q, hq⟩ : ∃ q, s / 2 ^ e = q := ⟨_, rfl⟩
      obtain ⟨y, hy⟩ : ∃ y, s / 2 ^ A = y := ⟨_, rfl⟩
      rw [hq] at E1 h0 W1 T1 hA
      rw [hy] at E2 X2 W2 T2 hB
      obtain ⟨z, hz⟩ : ∃ z, 18446744073709551615 - y = z := ⟨_, rfl⟩
      rw [hz] at X2 T2 hB
      obtain ⟨k, hk⟩ : ∃ k, Lib.ctz 64 q = k := ⟨_, rfl⟩
      rw [hk] at T1 hA
      obtain ⟨j, hj⟩ : ∃ j, Lib.ctz 64 z = j := ⟨_, rfl⟩
      rw [hj] at T2 hB
      have N1 : ((q : Int) == 0) = false := by simpa using h0
      have N2 : decide ((q : Int) = 0) = false := by simpa using h0
      have S1 : (e : Int) + (k : Int) = (A : Int) := by rw [← hA, Int.natCast_add]
      have S2 : (A : Int) + (j : Int) = (B : Int) := by rw [← hB, Int.natCast_add]
      obtain ⟨-, i3, i4⟩ := small_facts2 A (Nat.le_of_lt f2)
      obtain ⟨-, i5, i6⟩ := small_facts2 B f5
      obtain ⟨fn, tmps, assign, body, hyy, hR⟩ := hY pre (A, B) wr ⟨rl (f - 1) s B, by rw [HAT3.out, List.append_assoc]; rfl⟩ hJ
      dsimp only [encQ] at hyy
      have HI := Lib.hid (show A < B ∧ B ≤ 24 ∧ e ≤ A ∧ e + f ≥ 25 ∧ pre.length + f = 25 ∧ 0 < f from ⟨f4, f5, f1, hfe, hlen, hf0⟩)
      clear hf0 hl25 htz hcons hq hy hz hk hj gA gB hq24 hq24' f3 hA hB hlen hfe f1 f2 f4 f5
      gi_wp2_with (first | (refine ⟨trivial, ?_⟩; gi_at_call 70; ((with_reducible refine CallsIn.mono (callsIn_wide.2 (T1.out _ HTZ.out)) ?_); rintro e' w' ⟨rfl, rfl⟩)) | (refine ⟨trivial, ?_⟩; gi_at_call 70; ((with_reducible refine CallsIn.mono (callsIn_wide.2 (T2.out _ HTZ.out)) ?_); rintro e' w' ⟨rfl, rfl⟩)))
      refine hR.mono ?_
      rintro e' W3 (⟨rfl, hk3, hJ3⟩ | ⟨rfl, hk3, hJx3⟩)
      · gi_wp2
        go_roundw
        case rel =>
          obtain ⟨g1, g2, g3, g4, g5, g6⟩ := HI.out
          exact ⟨pre ++ [(A, B)], f - 1, B, Lib.hid (by rw [HAT3.out, List.append_assoc]; rfl), by simp; omega, by omega, g2, rfl, (hk3.keeps.cell (hno _ _ hJ).1 (hno _ _ hJ).2.1).trans hcell, HTZ.out.keepK hk3.keeps (hno _ _ hJ).2.2.1 (hno _ _ hJ).2.2.2, hJ3⟩
        case measure =>
          obtain ⟨g1, g2, g3, g4, g5, g6⟩ := HI.out
          simp [intOf]; omega
      · gi_wp2
        refine bodyPost_ret (results_none rfl _ _ _) rfl ?_
        exact ⟨⟨_, rfl⟩, .inr ⟨_, ⟨rl (f - 1) s B, by rw [HAT3.out, List.append_assoc]; rfl⟩, hJx3⟩⟩
set_option maxHeartbeats 400000 in
theorem runs_call (s : Int) (w : World) : Calls Tryd.prog 55 #[.int .i64 s] w fun e w' => e = .returned (.func (.func 74) #[] #[.pointer (some ⟨w.heap.size, 0, none⟩)]) ∧ w' = w.alloc (.cells #[.int .i64 s] 3) := by
  go_enter Tryd.func55, Tryd.ntmps55
  go_wp2
  go_ret
  exact ⟨rfl, rfl⟩
theorem runs_p (n : Nat) (hn : 1 ≤ n) (Bn : Nat) (s : Nat) (hs : s ≤ 16777215) (no : World → Nat → Prop) (w : World) (h2 : tzG < w.heap.size) (hBl : Bn < w.heap.size)
    (hBn : w.cell? ⟨Bn, 0, none⟩ = some (.int .i64 (s : Int))) (hT : TzT w) :
    GivesP Fence.wide n Tryd.prog 74 #[.pointer (some ⟨Bn, 0, none⟩)] encQ no (fun k => k = Bn ∨ k = tzG) (rl 25 s 0) w :=
  fun l J Jx W hW hJ _ hno _ hY h0 => by
    have hs2 := hW.size
    refine runs1_p n hn l Bn s hs (fun p X => J p X ∧ W.heap.size ≤ X.heap.size) Jx no ?_ ?_ W ((hW.cell (p := ⟨Bn, 0, none⟩) hBl).trans hBn) (hT.keep hW h2) ⟨h0, Nat.le_refl _⟩ |>.mono ?_
    · exact fun p X hp => ⟨by have := hp.2; omega, fun h => (hno _ _ _ hp.1 h).2.1 (.inl rfl), by have := hp.2; omega, fun h => (hno _ _ _ hp.1 h).2.1 (.inr rfl)⟩
    · exact fun pre x X hp hJX => (hY pre x X hp hJX.1).mono fun e W' h => h.imp (fun h' => ⟨h'.1, h'.2.1, h'.2.2, Nat.le_trans hJX.2 h'.2.1.keeps.size⟩) id
    · exact fun e W' h => ⟨h.1, h.2.imp (fun h' => h'.1) id⟩
end Go.Proofs.YtmfpaankkoaoaaaDoor
