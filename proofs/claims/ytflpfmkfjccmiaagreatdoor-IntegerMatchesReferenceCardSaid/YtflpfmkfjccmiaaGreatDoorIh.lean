/- The iterator of slices.Backward: it yields the places and the integers of a slice, the last one first. -/
import Derived.Test.YtflpfmkfjccmiaaGreatDoorIg
namespace Go.Proofs.YtflpfmkfjccmiaaGreatDoor
open Go.RowKit Go.Shelf
attribute [local go_sem] Oper.semAt_some

theorem room_of_none {F : Fence} (hd : F.depth = none) (k : Nat) : F.room k := fun d h => by rw [hd] at h; cases h
theorem yield_any {m : Nat} (m' : Nat) {P : Program} {l : Nat} {args : Array Value} {W : World} {R : Ending → World → Prop} (h : YieldAt Fence.wide m P l args W R) : YieldAt Fence.wide m' P l args W R := by
  obtain ⟨fn, tmps, assign, body, hy, hR⟩ := h
  exact ⟨fn, tmps, assign, body, hy, hR.1, fun c cs _ => hR.2 c cs (room_of_none rfl _)⟩

/-- The blocks that the iterator reads. -/
def fixB (Bs : Nat) (A : Option Addr) (j : Nat) : Prop := j = Bs ∨ ∃ off, A = some ⟨j, off, none⟩
theorem ints_kept {W W' : World} {B B' n c : Nat} {A : Option Addr} {l : List Int} (h : Ints W B (.slice A n c) l) (hk : ∀ j, (∃ off, A = some ⟨j, off, none⟩) → W'.heap[j]? = W.heap[j]?) (hB : B ≤ B') : Ints W' B' (.slice A n c) l := by
  obtain ⟨A', c', h1, h2, h3, h4⟩ := h
  have h1' := h1
  injection h1 with e1 e2 e3
  subst e1
  refine ⟨A, c', h1', h2, h3, ?_⟩
  rcases h4 with h4 | ⟨g, off, h4, h5, h6⟩
  · exact .inl h4
  · exact .inr ⟨g, off, h4, by omega, fun j x hj => by rw [World.cell?_of_block (w := W) (a := ⟨g, off + j, none⟩) (hk g ⟨off, h4⟩)]; exact h6 j x hj⟩
def encB (l : List Int) (k : Nat) : Array Value := #[.int .i64 ((l.length : Int) - 1 - (k : Int)), .int .i64 (l.getD (l.length - 1 - k) 0)]

set_option maxRecDepth 100000 in
set_option maxHeartbeats 2000000 in
theorem back1_in (no : World → Nat → Prop) (y B0 m Bs c : Nat) (A : Option Addr) (l : List Int) (J Jx : Nat → World → Prop)
    (hno : ∀ k X Y j, J k X → Below X.heap.size X Y → no Y j → j < X.heap.size ∧ ¬ fixB Bs A j)
    (hY : ∀ k W1, k < l.length → J k W1 → B0 ≤ W1.heap.size → YieldAt Fence.wide (m - 1) Tryz.prog y (encB l k) W1 fun e W' => (e = .returned (.bool true) ∧ J (k + 1) W' ∧ Keeps (no W1) W1 W') ∨ (e = .returned (.bool false) ∧ Jx k W'))
    (W : World) (hB0 : B0 ≤ W.heap.size) (hbox : Row W Bs 45 #[.slice A l.length c]) (hv : Ints W W.heap.size (.slice A l.length c) l) (h0 : J 0 W) :
    CallsIn Fence.wide m Tryz.prog 99 #[.func (.yield y) #[] #[], .pointer (some ⟨Bs, 0, none⟩)] W fun e W' => (∃ v, e = .returned v) ∧ (J l.length W' ∨ ∃ k, k < l.length ∧ Jx k W') := by
  refine callsIn_of_wp Tryz.func99 rfl trivial ?_ rfl
  simp only [Tryz.ntmps99, List.size_toArray, List.length_cons, List.length_nil, Nat.reduceAdd, Nat.reduceSub, Array.replicate_succ, Array.replicate_zero, List.push_toArray, List.append_toArray, List.nil_append, List.cons_append]
  obtain ⟨-, hc1, hc2⟩ := ints_cap hv
  have cs := hbox.cell 0
  simp only [List.getElem?_toArray, List.getElem?_cons_zero] at cs
  obtain ⟨n, hn⟩ : ∃ n, l.length = n := ⟨_, rfl⟩
  have hY' := fun k W1 h1 h2 h3 => yield_any (m - 1) (hY k W1 h1 h2 h3)
  unfold encB at hY'
  rw [hn] at hY' hc1 hbox hv cs ⊢
  have HB := Lib.hid hbox; have HV := Lib.hid hv; have HN := Lib.hid hn
  clear hbox hv hn hY
  have s1 : IntKind.i64.wrap ((n : Int) - 1) = (n : Int) - 1 := IntWalk.i64_in _ (by omega)
  gi_wp2
  clear cs s1
  gi_loopw [3] (fun i wr => ∃ k : Nat, k ≤ n ∧ i = .int .i64 ((n : Int) - 1 - (k : Int)) ∧ J k wr ∧ Hid (Row wr Bs 45 #[.slice A n c]) ∧ Hid (Ints wr wr.heap.size (.slice A n c) l) ∧ B0 ≤ wr.heap.size) (fun i _ => (intOf i + 1).toNat)
  case atStart => exact ⟨0, by omega, by go_num, h0, HB, HV, hB0⟩
  case round =>
    obtain ⟨k, hk, rfl, hj, HB, HV, hsz⟩ := hrel
    have cs := HB.out.cell 0
    simp only [List.getElem?_toArray, List.getElem?_cons_zero] at cs
    by_cases hlt : k < n
    · obtain ⟨g, off, rfl, hg, hcell⟩ := ints_at HV.out (n - 1 - k) (by have := HN.out; omega)
      have c0 := hcell (n - 1 - k) (by have := HN.out; omega)
      obtain ⟨fn, tmps, assign, body, hyy, hR⟩ := hY' k wr hlt hj hsz
      have hnk := fun j hj2 => hno k wr wr j hj (Below.refl _ _) hj2
      obtain ⟨x, hx⟩ : ∃ x, l.getD (n - 1 - k) 0 = x := ⟨_, rfl⟩
      rw [hx] at c0 hyy
      have HNK := Lib.hid hnk
      have i1 : (0 : Int) ≤ (n : Int) - 1 - (k : Int) := by omega
      have i2 : (n : Int) - 1 - (k : Int) < (n : Int) := by omega
      have i3 : ((n : Int) - 1 - (k : Int)).toNat = n - 1 - k := by omega
      have i4 : IntKind.i64.wrap ((n : Int) - 1 - (k : Int) - 1) = (n : Int) - 1 - (k : Int) - 1 := IntWalk.i64_in _ (by omega)
      clear hcell hx hnk
      gi_wp2
      refine ⟨(fun h => absurd h (by decide)), hR.mono ?_⟩
      clear hR hyy
      rintro e w4 (⟨rfl, hj4, hk4⟩ | ⟨rfl, hx4⟩)
      · have HB4 : Hid (Row w4 Bs 45 #[.slice (some ⟨g, off, none⟩) n c]) := Lib.hid ((hk4.block _ HB.out.lt (fun e => (HNK.out _ e).2 (.inl rfl))).trans HB.out)
        have HV4 : Hid (Ints w4 w4.heap.size (.slice (some ⟨g, off, none⟩) n c) l) := Lib.hid (ints_kept HV.out (fun j hj => by
          obtain ⟨o, ho⟩ := hj
          injection ho with ho
          injection ho with h1 h2
          subst h1
          exact hk4.block _ hg (fun e => (HNK.out _ e).2 (.inr ⟨_, rfl⟩))) hk4.size)
        have hs4 := hk4.size
        gi_wp2
        go_roundw
        case rel => exact ⟨k + 1, by omega, by go_num, hj4, HB4, HV4, by omega⟩
        case measure => simp [intOf]; omega
      · gi_wp2
        refine bodyPost_ret (results_none rfl _ _ _) rfl ?_
        exact ⟨⟨_, rfl⟩, .inr ⟨k, hlt, hx4⟩⟩
    · obtain rfl : k = n := by omega
      have hd : decide ((0 : Int) ≤ (k : Int) - 1 - (k : Int)) = false := by simp; omega
      gi_wp2
      go_end0
      exact ⟨⟨_, rfl⟩, .inl hj⟩

theorem back_gives (m Bs c : Nat) (A : Option Addr) (l : List Int) (no : World → Nat → Prop) (w : World) (hbox : Row w Bs 45 #[.slice A l.length c]) (hv : Ints w w.heap.size (.slice A l.length c) l) :
    GivesN Fence.wide m Tryz.prog 99 #[.pointer (some ⟨Bs, 0, none⟩)] (encB l) no (fixB Bs A) l.length w := by
  intro y J Jx W hb _ _ _ hno hY h0
  exact back1_in no y W.heap.size m Bs c A l J Jx hno hY W (Nat.le_refl _) (hbox.below hb hbox.lt) (hv.next hb) h0

theorem back_in (m : Nat) (A : Option Addr) (n c : Nat) (w : World) :
    CallsIn Fence.wide m Tryz.prog 76 #[.slice A n c] w fun e w' => e = .returned (.func (.func 99) #[] #[.pointer (some ⟨w.heap.size, 0, none⟩)]) ∧ w' = w.alloc (.cells #[.slice A n c] 45) := by
  refine callsIn_of_wp Tryz.func76 rfl trivial ?_ rfl
  try simp only [Tryz.ntmps76, List.size_toArray, List.length_cons, List.length_nil, Nat.reduceAdd, Nat.reduceSub, Array.replicate_succ, Array.replicate_zero, List.push_toArray, List.append_toArray, List.nil_append, List.cons_append]
  gi_wp2
  go_ret
  exact ⟨rfl, rfl⟩
end Go.Proofs.YtflpfmkfjccmiaaGreatDoor
