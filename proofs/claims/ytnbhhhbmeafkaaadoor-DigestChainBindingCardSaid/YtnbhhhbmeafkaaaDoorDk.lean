/- The parts on the way down to an entry, as an iterator: it yields the list forks of Dt, whether or not a round stops it. -/
import Derived.Test.YtnbhhhbmeafkaaaDoorDj
namespace Go.Proofs.YtnbhhhbmeafkaaaDoor
open Go.RowKit Go.Shelf
attribute [local go_sem] Oper.semAt_some

theorem forks_in (m n i : Nat) (w : World) :
    CallsIn Fence.wide m Tryd.prog 43 #[.int .i64 (n : Int), .int .i64 (i : Int)] w fun e w' => e = .returned (.func (.func 62) #[] #[.pointer (some ⟨w.heap.size, 0, none⟩), .pointer (some ⟨w.heap.size + 1, 0, none⟩)]) ∧
      w' = (w.alloc (.cells #[.int .i64 (n : Int)] 3)).alloc (.cells #[.int .i64 (i : Int)] 3) := by
  refine callsIn_of_wp Tryd.func43 rfl trivial ?_ rfl
  try simp only [Tryd.ntmps43, List.size_toArray, List.length_cons, List.length_nil, Nat.reduceAdd, Nat.reduceSub, Array.replicate_succ, Array.replicate_zero, List.push_toArray, List.append_toArray, List.nil_append, List.cons_append]
  gi_wp2
  go_ret
  exact ⟨rfl, rfl⟩

/-- A part of a list of n entries. -/
abbrev FkN (n : Nat) := { f : Dm.Fk // f.fr < f.mid ∧ f.mid < f.to ∧ f.to ≤ n }
def fkL {n : Nat} (xs : List (FkN n)) : List Dm.Fk := xs.map (·.1)
theorem fkL_snoc {n : Nat} (xs : List (FkN n)) (x : FkN n) : fkL (xs ++ [x]) = fkL xs ++ [x.1] := by simp [fkL]
def encF {n : Nat} (x : FkN n) : Array Value := #[fkV x.1]

theorem forks_stop (k fr to i : Nat) (h : to - fr ≤ 1) : Dm.forks k fr to i = [] := by
  cases k with
  | zero => rfl
  | succ k => rw [Dm.forks, if_pos h]
theorem forks_up (k fr to i : Nat) (h : ¬ to - fr ≤ 1) (hs : fr + Dm.lft (to - fr) ≤ i) : Dm.forks (k + 1) fr to i = ⟨fr, fr + Dm.lft (to - fr), to, true⟩ :: Dm.forks k (fr + Dm.lft (to - fr)) to i := by
  rw [Dm.forks, if_neg h, if_pos hs, decide_eq_true hs]
theorem forks_down (k fr to i : Nat) (h : ¬ to - fr ≤ 1) (hs : ¬ fr + Dm.lft (to - fr) ≤ i) : Dm.forks (k + 1) fr to i = ⟨fr, fr + Dm.lft (to - fr), to, false⟩ :: Dm.forks k fr (fr + Dm.lft (to - fr)) i := by
  rw [Dm.forks, if_neg h, if_neg hs, decide_eq_false hs]

set_option maxRecDepth 100000 in
set_option maxHeartbeats 2000000 in
theorem forks1_in (no : World → Nat → Prop) (l B0 m Bn Bi n i : Nat) (hn : n ≤ 9223372036854775807) (hi : i ≤ 9223372036854775807) (J Jx : List (FkN n) → World → Prop)
    (hJ : ∀ pre X Y, J pre X → Below X.heap.size X Y → J pre Y) (hno : ∀ pre X Y k, J pre X → Below X.heap.size X Y → no Y k → k < X.heap.size ∧ ¬ k = Bi)
    (hY : ∀ pre x W1, J pre W1 → B0 ≤ W1.heap.size → pre.length < 64 → YieldAt Fence.wide (m - 1) Tryd.prog l (encF x) W1 fun e W' => (e = .returned (.bool true) ∧ J (pre ++ [x]) W' ∧ Keeps (no W1) W1 W') ∨ (e = .returned (.bool false) ∧ Jx (pre ++ [x]) W'))
    (W : World) (hB0 : B0 ≤ W.heap.size) (rn : Row W Bn 3 #[.int .i64 (n : Int)]) (ri : Row W Bi 3 #[.int .i64 (i : Int)]) (h0 : J [] W) :
    CallsIn Fence.wide m Tryd.prog 62 #[.func (.yield l) #[] #[], .pointer (some ⟨Bn, 0, none⟩), .pointer (some ⟨Bi, 0, none⟩)] W fun e W' => (∃ v, e = .returned v) ∧
      ((∃ xs, fkL xs = Dm.forks 64 0 n i ∧ J xs W') ∨ (∃ pre, fkL pre <+: Dm.forks 64 0 n i ∧ Jx pre W')) := by
  refine callsIn_of_wp Tryd.func62 rfl trivial ?_ rfl
  simp only [Tryd.ntmps62, List.size_toArray, List.length_cons, List.length_nil, Nat.reduceAdd, Nat.reduceSub, Array.replicate_succ, Array.replicate_zero, List.push_toArray, List.append_toArray, List.nil_append, List.cons_append]
  have cn := rn.cell 0
  simp only [List.getElem?_toArray, List.getElem?_cons_zero] at cn
  have RI := Lib.hid ri
  clear ri rn
  gi_wp2
  gi_region
  gi_wp2
  clear cn
  gi_loopw [4, 5, 6, 7] (fun a b _ _ wr => ∃ (k fr to : Nat) (pre : List (FkN n)), a = .int .i64 (fr : Int) ∧ b = .int .i64 (to : Int) ∧ fr ≤ to ∧ to ≤ n ∧ to - fr ≤ 2 ^ k ∧ Dm.forks 64 0 n i = fkL pre ++ Dm.forks (k + 1) fr to i ∧
      J pre wr ∧ Row wr Bi 3 #[.int .i64 (i : Int)] ∧ B0 ≤ wr.heap.size) (fun a b _ _ _ => (intOf b - intOf a).toNat)
  case atStart => exact ⟨63, 0, n, [], rfl, rfl, by omega, by omega, by omega, rfl, hJ _ _ _ h0 (Below.refl _ _).drew, RI.out.drew, hB0⟩
  case round =>
    obtain ⟨k, fr, to, pre, rfl, rfl, hft, htn, hk, hE, hj, hri, hsz⟩ := hrel
    have HE := Lib.hid hE
    have ci := hri.cell 0
    simp only [List.getElem?_toArray, List.getElem?_cons_zero] at ci
    have HRI := Lib.hid hri
    clear hE hri
    by_cases h2 : to - fr ≤ 1
    · have hd : decide ((1 : Int) < (to : Int) - (fr : Int)) = false := by simp; omega
      gi_wp2
      go_end0
      exact ⟨⟨_, rfl⟩, .inl ⟨pre, by rw [HE.out, forks_stop _ _ _ _ h2, List.append_nil], hj⟩⟩
    · have hd : decide ((1 : Int) < (to : Int) - (fr : Int)) = true := by simp; omega
      have hpos := Dm.lft_pos (to - fr)
      have hlt := Dm.lft_lt (to - fr) (by omega)
      obtain ⟨k, rfl⟩ : ∃ j, k = j + 1 := ⟨k - 1, by
        have : k ≠ 0 := fun e => by subst e; omega
        omega⟩
      have hle := Dm.lft_le (to - fr) k (by omega) hk
      have hre := Dm.lft_rest (to - fr) k (by omega) hk
      have hup := forks_up (k + 1) fr to i h2
      have hdn := forks_down (k + 1) fr to i h2
      have hh := fun w => half_any (to - fr) w (by omega) (by omega)
      obtain ⟨h, hlf⟩ : ∃ h, Dm.lft (to - fr) = h := ⟨_, rfl⟩
      rw [hlf] at hpos hlt hle hre hup hdn hh
      have e1 : (to : Int) - (fr : Int) = ((to - fr : Nat) : Int) := by omega
      rw [e1] at hd
      have hp64 : pre.length < 64 := by
        have h1 := congrArg List.length HE.out
        have h3 := Dm.forks_len 64 0 n i
        have h4 : 1 ≤ (Dm.forks (k + 1 + 1) fr to i).length := by
          by_cases hs : fr + h ≤ i
          · rw [hup hs]; simp
          · rw [hdn hs]; simp
        rw [List.length_append] at h1
        have h5 : (fkL pre).length = pre.length := by simp [fkL]
        omega
      have HH := Lib.hid hh; have HUP := Lib.hid hup; have HDN := Lib.hid hdn; have HK := Lib.hid hk; have HLE := Lib.hid hle; have HRE := Lib.hid hre
      clear hh hup hdn hlf hk hle hre
      by_cases hs : fr + h ≤ i
      · have hd3 : decide ((fr : Int) + (h : Int) ≤ (i : Int)) = true := by simp; omega
        obtain ⟨x, hx⟩ : ∃ x : FkN n, x.1 = ⟨fr, fr + h, to, true⟩ := ⟨⟨⟨fr, fr + h, to, true⟩, by dsimp only; omega, by dsimp only; omega, by dsimp only; omega⟩, rfl⟩
        have hW1 : Below wr.heap.size wr (wr.alloc (.cells #[.int .i64 (fr : Int), .int .i64 ((fr : Int) + (h : Int)), .int .i64 (to : Int), .bool true] 57)) := (Below.refl _ _).alloc (Nat.le_refl _) _
        have rf := Row.new wr 57 #[.int .i64 (fr : Int), .int .i64 ((fr : Int) + (h : Int)), .int .i64 (to : Int), .bool true]
        have ri1 := HRI.out.alloc (.cells #[.int .i64 (fr : Int), .int .i64 ((fr : Int) + (h : Int)), .int .i64 (to : Int), .bool true] 57)
        obtain ⟨fn, tmps, assign, body, hyy, hR⟩ := yield_any (m - 1) (hY pre x _ (hJ _ _ _ hj hW1) (by have := hW1.size; omega) hp64)
        unfold encF at hyy
        rw [hx] at hyy
        unfold fkV at hyy
        dsimp only at hyy
        rw [Int.natCast_add] at hyy
        have hnk := fun k hk => hno _ _ _ k hj hW1 hk
        have HX := Lib.hid hx; have RF := Lib.hid rf; have RI1 := Lib.hid ri1; have HNK := Lib.hid hnk
        clear hx rf ri1 hW1 hnk
        gi_wp2_with (refine ⟨trivial, (fun h => absurd h (by decide)), ?_⟩; gi_at_call 49; refine (callsIn_wide.2 (HH.out _)).mono ?_; rintro e w' ⟨rfl, rfl⟩)
        refine ⟨(fun h => absurd h (by decide)), hR.mono ?_⟩
        clear hR hyy
        rintro e w4 (⟨rfl, hj4, hk4⟩ | ⟨rfl, hx4⟩)
        · have rf4 : Row w4 wr.heap.size 57 #[.int .i64 (fr : Int), .int .i64 ((fr : Int) + (h : Int)), .int .i64 (to : Int), .bool true] := (hk4.block _ RF.out.lt (fun e => by have := (HNK.out _ e).1; omega)).trans RF.out
          have ri4 : Row w4 Bi 3 #[.int .i64 (i : Int)] := (hk4.block _ RI1.out.lt (fun e => (HNK.out _ e).2 rfl)).trans RI1.out
          have c4 := rf4.cell 3
          have hs4 := hk4.size
          have RI4 := Lib.hid ri4
          simp only [List.getElem?_toArray, List.getElem?_cons_zero, List.getElem?_cons_succ] at c4
          clear rf4 ri4
          gi_wp2
          go_roundw
          case rel =>
            have hle := HLE.out; have hre := HRE.out
            refine ⟨k, fr + h, to, pre ++ [x], by go_num, rfl, by omega, by omega, by omega, ?_, hj4, RI4.out, by rw [World.size_alloc] at hs4; omega⟩
            rw [HE.out, HUP.out hs, fkL_snoc, HX.out, List.append_assoc]; rfl
          case measure => simp [intOf]; omega
        · gi_wp2
          refine bodyPost_ret (results_none rfl _ _ _) rfl ?_
          refine ⟨⟨_, rfl⟩, .inr ⟨_, ?_, hx4⟩⟩
          rw [HE.out, HUP.out hs, fkL_snoc, HX.out]
          exact ⟨_, by rw [List.append_assoc]; rfl⟩
      · have hd3 : decide ((fr : Int) + (h : Int) ≤ (i : Int)) = false := by simp; omega
        obtain ⟨x, hx⟩ : ∃ x : FkN n, x.1 = ⟨fr, fr + h, to, false⟩ := ⟨⟨⟨fr, fr + h, to, false⟩, by dsimp only; omega, by dsimp only; omega, by dsimp only; omega⟩, rfl⟩
        have hW1 : Below wr.heap.size wr (wr.alloc (.cells #[.int .i64 (fr : Int), .int .i64 ((fr : Int) + (h : Int)), .int .i64 (to : Int), .bool false] 57)) := (Below.refl _ _).alloc (Nat.le_refl _) _
        have rf := Row.new wr 57 #[.int .i64 (fr : Int), .int .i64 ((fr : Int) + (h : Int)), .int .i64 (to : Int), .bool false]
        have ri1 := HRI.out.alloc (.cells #[.int .i64 (fr : Int), .int .i64 ((fr : Int) + (h : Int)), .int .i64 (to : Int), .bool false] 57)
        obtain ⟨fn, tmps, assign, body, hyy, hR⟩ := yield_any (m - 1) (hY pre x _ (hJ _ _ _ hj hW1) (by have := hW1.size; omega) hp64)
        unfold encF at hyy
        rw [hx] at hyy
        unfold fkV at hyy
        dsimp only at hyy
        rw [Int.natCast_add] at hyy
        have hnk := fun k hk => hno _ _ _ k hj hW1 hk
        have HX := Lib.hid hx; have RF := Lib.hid rf; have RI1 := Lib.hid ri1; have HNK := Lib.hid hnk
        clear hx rf ri1 hW1 hnk
        gi_wp2_with (refine ⟨trivial, (fun h => absurd h (by decide)), ?_⟩; gi_at_call 49; refine (callsIn_wide.2 (HH.out _)).mono ?_; rintro e w' ⟨rfl, rfl⟩)
        refine ⟨(fun h => absurd h (by decide)), hR.mono ?_⟩
        clear hR hyy
        rintro e w4 (⟨rfl, hj4, hk4⟩ | ⟨rfl, hx4⟩)
        · have rf4 : Row w4 wr.heap.size 57 #[.int .i64 (fr : Int), .int .i64 ((fr : Int) + (h : Int)), .int .i64 (to : Int), .bool false] := (hk4.block _ RF.out.lt (fun e => by have := (HNK.out _ e).1; omega)).trans RF.out
          have ri4 : Row w4 Bi 3 #[.int .i64 (i : Int)] := (hk4.block _ RI1.out.lt (fun e => (HNK.out _ e).2 rfl)).trans RI1.out
          have c4 := rf4.cell 3
          have hs4 := hk4.size
          have RI4 := Lib.hid ri4
          simp only [List.getElem?_toArray, List.getElem?_cons_zero, List.getElem?_cons_succ] at c4
          clear rf4 ri4
          gi_wp2
          go_roundw
          case rel =>
            have hle := HLE.out; have hre := HRE.out
            refine ⟨k, fr, fr + h, pre ++ [x], rfl, by go_num, by omega, by omega, by omega, ?_, hj4, RI4.out, by rw [World.size_alloc] at hs4; omega⟩
            rw [HE.out, HDN.out hs, fkL_snoc, HX.out, List.append_assoc]; rfl
          case measure => simp [intOf]; omega
        · gi_wp2
          refine bodyPost_ret (results_none rfl _ _ _) rfl ?_
          refine ⟨⟨_, rfl⟩, .inr ⟨_, ?_, hx4⟩⟩
          rw [HE.out, HDN.out hs, fkL_snoc, HX.out]
          exact ⟨_, by rw [List.append_assoc]; rfl⟩
end Go.Proofs.YtnbhhhbmeafkaaaDoor
