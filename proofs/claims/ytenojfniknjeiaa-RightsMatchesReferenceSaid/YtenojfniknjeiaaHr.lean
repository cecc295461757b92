/- The recursive function of the iterator sets. -/
import Derived.Test.YtenojfniknjeiaaHq
namespace Go.Proofs.Ytenojfniknjeiaa
open Go.RowKit Go.Shelf
attribute [local go_sem] Oper.semAt_some
attribute [local go_sem ↓] append_appN

theorem clone_any (l : List Int) (hl : l.length ≤ 100000) (A : Option Addr) (n c : Nat) (w : World) (hr : Recs enc1 1 w w.heap.size (.slice A n c) l) :
    Calls Try.prog 50 #[.slice A n c] w fun e w' => ∃ v', e = .returned v' ∧ w'.ownsRow w.heap.size 3 1 v' n (iv1 l) ∧ Below w.heap.size w w' := by
  have hn := (recs_cap hr).1
  by_cases hz : n = 0
  · have hnil : l = [] := List.eq_nil_of_length_eq_zero (by omega)
    subst hnil
    subst hz
    cases A with
    | none =>
      refine (Try.slices_Clone_int_nil 0 c w).mono ?_
      rintro e w' ⟨rfl, rfl⟩
      exact ⟨_, rfl, World.ownsRow_nil _ _ _ _, Below.refl _ _⟩
    | some a =>
      refine (Try.slices_Clone_int_zero a c w).mono ?_
      rintro e w' ⟨v', rfl, h1, -, h2⟩
      exact ⟨v', rfl, h1, h2⟩
  · obtain ⟨b, off, rfl, hb, hcell⟩ := recs_at hr 0 (by omega)
    refine (Try.slices_Clone_int b off n c l w (by omega) (by omega) (fun j hj => ?_)).mono ?_
    · have := cells1 hcell j hj
      rw [this]
      simp [List.getD_eq_getElem?_getD, hj]
    · rintro e w' ⟨v', rfl, h1, -, h2⟩
      rw [List.take_of_length_le (by omega)] at h1
      exact ⟨v', rfl, h1, h2⟩
theorem grown_below {w w' : World} (h : Below w.heap.size w w') : w.grownBy w' none := ⟨h.os, h.tape, h.output, h.size, fun k hk _ => h.block k hk⟩
def SetE (B : Nat) (W : World) (x : List Nat) (vs : Array Value) : Prop := ∃ A c, vs = #[.slice A x.length c] ∧ OwnN W B (.slice A x.length c) x
/-- What stands while the iterator runs. -/
structure SeIn (n l B bY bE bN : Nat) (no : World → Nat → Prop) (J : List (List Nat) → World → Prop) (pre : List (List Nat)) (X : World) : Prop where
  j : J pre X
  y : Row X bY 78 #[.func (.yield l) #[] #[]]
  e : Row X bE 79 #[.func (.func 49) #[] #[.pointer (some ⟨bY, 0, none⟩), .pointer (some ⟨bN, 0, none⟩), .pointer (some ⟨bE, 0, none⟩)]]
  nn : Row X bN 3 #[.int .i64 (n : Int)]
  ny : ¬ no X bY
  ne : ¬ no X bE
  nb : ¬ no X bN
  sz : B ≤ X.heap.size
  oo : B ≤ bY ∧ B ≤ bE ∧ bN < B
/-- What a run leaves of the world. -/
structure FrE (B : Nat) (no : World → Nat → Prop) (X Y : World) (v : Value) (set : List Nat) : Prop where
  size : X.heap.size ≤ Y.heap.size
  keep : ∀ q, q < X.heap.size → ¬ no X q → v.ownBlock ≠ some q → Y.heap[q]? = X.heap[q]?
  grow : ∀ k, no Y k → no X k ∨ X.heap.size ≤ k
  own : OwnN Y B v set
def ExtPost (n l B bY bE bN : Nat) (no : World → Nat → Prop) (J Jx : List (List Nat) → World → Prop) (full pre : List (List Nat)) (X : World) (v : Value) (set : List Nat) (m first : Nat) (e : Ending) (Y : World) : Prop :=
  ∃ b, e = .returned (.bool b) ∧ ((b = true ∧ SeIn n l B bY bE bN no J (pre ++ extL n m set first) Y ∧ FrE B no X Y v set) ∨ (b = false ∧ ∃ pre', pre' <+: full ∧ Jx pre' Y))
section
variable {n l B bY bE bN : Nat} {no : World → Nat → Prop} {J Jx : List (List Nat) → World → Prop} {full : List (List Nat)}
set_option maxRecDepth 100000 in
set_option maxHeartbeats 8000000 in
theorem ext_zero (N : Nat) (hN : 1 ≤ N)
    (hJ : OwnNo no B J) (hng : ∀ s X Y row k, J s X → X.grownBy Y row → Turns no B X row → no Y k → no X k)
    (hY : ∀ pre x vs W1, pre ++ [x] <+: full → SetE B W1 x vs → J pre W1 → YieldAt Fence.wide (N - 1) Try.prog l vs W1 fun e W' =>
      (e = .returned (.bool true) ∧ RoundK no W1 W' ∧ J (pre ++ [x]) W') ∨ (e = .returned (.bool false) ∧ Keeps (no W1) W1 W' ∧ Jx (pre ++ [x]) W'))
    (set : List Nat) (v : Value) (first : Nat) (pre : List (List Nat)) (X : World) (hset : set.length ≤ 1000) (hp : pre ++ [set] <+: full) (hS : SeIn n l B bY bE bN no J pre X) (hv : OwnN X B v set) (hvn : ∀ g, v.ownBlock = some g → ¬ no X g) :
    CallsIn Fence.wide N Try.prog 49 #[v, .int .i64 (first : Int), .int .i64 0, .pointer (some ⟨bY, 0, none⟩), .pointer (some ⟨bN, 0, none⟩), .pointer (some ⟨bE, 0, none⟩)] X (ExtPost n l B bY bE bN no J Jx full pre X v set 0 first) := by
  obtain ⟨A, c, rfl, -⟩ := own_slice hv
  have HV := Lib.hid hv
  have HS := Lib.hid hS
  have HCL := Lib.hid (fun u (hu : Below X.heap.size X u) => clone_any (zi set) (by rw [zi_len]; omega) A set.length c u (ints_own (own_below hv hu) (zi_len _)))
  have HP := Lib.hid hp
  have y_y : X.cell? ⟨bY, 0, none⟩ = some (.func (.yield l) #[] #[]) := HS.out.y.cell 0
  have z_y := HS.out.y.lt
  have HYB : Hid (∀ (v4 : Value) (u : World), OwnN u (X.heap.size) v4 set → Below X.heap.size X u → YieldAt Fence.wide (N - 1) Try.prog l #[v4] u fun e W' => ∃ b, e = .returned (.bool b) ∧ ((b = true ∧ SeIn n l B bY bE bN no J (pre ++ [set]) W' ∧ FrE B no X W' (.slice A set.length c) set) ∨ (b = false ∧ Jx (pre ++ [set]) W'))) := Lib.hid (fun v4 u ho hb => by
    have hju := hJ pre X u none hS.j (grown_below hb) (fun r e => by cases e)
    have hnu := fun k => hng pre X u none k hS.j (grown_below hb) (fun r e => by cases e)
    obtain ⟨A4, c4, rfl, -⟩ := own_slice ho
    refine YieldAt.any rfl (N - 1) ((hY pre set _ u hp ⟨A4, c4, rfl, own_lower ho hS.sz⟩ hju).mono ?_)
    rintro e W' (⟨rfl, hk, hj⟩ | ⟨rfl, hk, hx⟩)
    · have hkeep : ∀ q, q < X.heap.size → ¬ no X q → W'.heap[q]? = X.heap[q]? := fun q hq hn => (hk.keeps.block q (Nat.lt_of_lt_of_le hq hb.size) (fun h => hn (hnu q h))).trans (hb.block q hq)
      have hno : ∀ q, q < X.heap.size → ¬ no X q → ¬ no W' q := fun q hq hn h => (hk.grow q h).elim (fun h => hn (hnu q h)) (fun h => by have := hb.size; omega)
      refine ⟨true, rfl, .inl ⟨rfl, ⟨hj, (hkeep _ hS.y.lt hS.ny).trans hS.y, (hkeep _ hS.e.lt hS.ne).trans hS.e, (hkeep _ hS.nn.lt hS.nb).trans hS.nn, hno _ hS.y.lt hS.ny, hno _ hS.e.lt hS.ne, hno _ hS.nn.lt hS.nb, by have := hS.sz; have := hb.size; have := hk.keeps.size; omega, hS.oo⟩, ⟨by have := hb.size; have := hk.keeps.size; omega, fun q hq hn _ => hkeep q hq hn, fun k h => (hk.grow k h).elim (fun h => .inl (hnu k h)) (fun h => .inr (by have := hb.size; omega)), own_keep hv fun q e => hkeep q (own_lt hv q e) (hvn q e)⟩⟩⟩
    · exact ⟨false, rfl, .inr ⟨rfl, hx⟩⟩)
  clear hv hS hY hJ hng hp hvn
  refine callsIn_of_wp Try.func49 rfl trivial ?_ rfl
  simp only [Try.ntmps49, List.size_toArray, List.length_cons, List.length_nil, Nat.reduceAdd, Nat.reduceSub, Array.replicate_succ, Array.replicate_zero, List.push_toArray, List.append_toArray, List.nil_append, List.cons_append]
  gi_wp2
  gi_region_with (first | (refine ⟨trivial, ?_⟩; gi_at_call 50; ((with_reducible refine CallsIn.mono (callsIn_wide.2 (HCL.out _ ((Below.refl _ X).drew))) ?_); rintro e4 u4 ⟨v4, rfl, ho4, hb4⟩; obtain ⟨A4, c4, rfl, -⟩ := own_slice ho4; have HO4 := Lib.hid ho4; have HB4 := Lib.hid hb4; have RY4 := HS.out.y.below ((Below.refl _ X).drew.trans hb4) HS.out.y.lt; have y4 : u4.cell? ⟨bY, 0, none⟩ = some (.func (.yield l) #[] #[]) := RY4.cell 0; have z4 := RY4.lt; clear RY4; obtain ⟨fn, tmps, assign, body, hyy, hR⟩ := HYB.out _ u4 HO4.out ((Below.refl _ X).drew.trans HB4.out); clear ho4 hb4)) | (refine RoundIn.mono hR ?_; rintro e5 W5 ⟨b, rfl, hb5⟩; have HB5 := Lib.hid hb5; clear hb5 hR hyy; dsimp only))
  all_goals (
    simp only [Act.put, List.getElem_toArray, List.getElem_cons_succ, List.getElem_cons_zero, List.setIfInBounds_toArray, List.set_cons_zero, List.set_cons_succ]
    gi_wp2
    refine bodyPost_ret (results_tmp rfl _ _ _) rfl ?_
    refine ⟨b, rfl, ?_⟩
    rcases HB5.out with ⟨h1, h2, h3⟩ | ⟨h1, h2⟩
    · exact .inl ⟨h1, h2, h3⟩
    · exact .inr ⟨h1, _, HP.out, h2⟩)
theorem SeIn.below {pre : List (List Nat)} {X Y : World} (h : SeIn n l B bY bE bN no J pre X) (hJ : OwnNo no B J) (hng : ∀ s X Y row k, J s X → X.grownBy Y row → Turns no B X row → no Y k → no X k) (hb : Below X.heap.size X Y) : SeIn n l B bY bE bN no J pre Y ∧ ∀ k, no Y k → no X k :=
  have hn := fun k => hng pre X Y none k h.j (grown_below hb) (fun r e => by cases e)
  ⟨⟨hJ pre X Y none h.j (grown_below hb) (fun r e => by cases e), h.y.below hb h.y.lt, h.e.below hb h.e.lt, h.nn.below hb h.nn.lt, fun e => h.ny (hn _ e), fun e => h.ne (hn _ e), fun e => h.nb (hn _ e), Nat.le_trans h.sz hb.size, h.oo⟩, hn⟩
theorem SeIn.grown {pre : List (List Nat)} {X Y : World} {v : Value} {set : List Nat} (h : SeIn n l B bY bE bN no J pre X) (hJ : OwnNo no B J) (hng : ∀ s X Y row k, J s X → X.grownBy Y row → Turns no B X row → no Y k → no X k) (hv : OwnN X B v set) (hvn : ∀ g, v.ownBlock = some g → ¬ no X g) (hvb : ∀ g, v.ownBlock = some g → g ≠ bY ∧ g ≠ bE) (hg : X.grownBy Y v.ownBlock) : SeIn n l B bY bE bN no J pre Y ∧ ∀ k, no Y k → no X k :=
  have ht : Turns no B X v.ownBlock := fun r e => ⟨own_ge hv r e, .inr (hvn r e)⟩
  have hn := fun k => hng pre X Y _ k h.j hg ht
  have st : ∀ q, q < X.heap.size → v.ownBlock ≠ some q → Y.heap[q]? = X.heap[q]? := fun q hq hne => hg.block q hq (fun e => hne e.symm)
  ⟨⟨hJ pre X Y _ h.j hg ht, (st _ h.y.lt (fun e => (hvb _ e).1 rfl)).trans h.y, (st _ h.e.lt (fun e => (hvb _ e).2 rfl)).trans h.e, (st _ h.nn.lt (fun e => by have := own_ge hv _ e; have := h.oo; omega)).trans h.nn, fun e => h.ny (hn _ e), fun e => h.ne (hn _ e), fun e => h.nb (hn _ e), Nat.le_trans h.sz hg.size, h.oo⟩, hn⟩
theorem FrE.refl {X : World} {v : Value} {set : List Nat} (hv : OwnN X B v set) : FrE B no X X v set := ⟨Nat.le_refl _, fun _ _ _ _ => rfl, fun _ h => .inl h, hv⟩
/-- One step of the loop: the slice is appended to, handed down, and given back. -/
theorem ext_step {pre : List (List Nat)} {X wr : World} {v : Value} {set : List Nat} (hJ : OwnNo no B J) (hng : ∀ s X Y row k, J s X → X.grownBy Y row → Turns no B X row → no Y k → no X k)
    (hS : SeIn n l B bY bE bN no J pre wr) (hF : FrE B no X wr v set) (hv : OwnN X B v set) (hvn : ∀ g, v.ownBlock = some g → ¬ no X g) (hvb : ∀ g, v.ownBlock = some g → g ≠ bY ∧ g ≠ bE) (hlt : ∀ q, no wr q → q < wr.heap.size) (hset : set.length ≤ 1000) (k : Int) (j : Nat) (hk : k = (j : Int)) :
    ∃ A c w5, Sem.run Try.prog (appN #[26, 26] 26 #[v, .slice (some ⟨wr.heap.size, 0, none⟩) 1 1]) (wr.alloc (.cells #[.int .i64 k] 3)).drew = .ok (.slice A (set.length + 1) c) w5 ∧
      OwnN w5 B (.slice A (set.length + 1) c) (set ++ [j]) ∧ SeIn n l B bY bE bN no J pre w5 ∧ (∀ g, (Value.slice A (set.length + 1) c).ownBlock = some g → ¬ no w5 g ∧ g ≠ bY ∧ g ≠ bE) ∧
      ∀ Y : World, FrE B no w5 Y (.slice A (set.length + 1) c) (set ++ [j]) → FrE B no X Y v set := by
  have hvw := hF.own
  have hnw : ∀ q, q < X.heap.size → ¬ no X q → ¬ no wr q := fun q hq hn h => (hF.grow q h).elim hn (fun h => by omega)
  have hvnw : ∀ g, v.ownBlock = some g → ¬ no wr g := fun g e => hnw g (own_lt hv g e) (hvn g e)
  obtain ⟨hSd, hnd⟩ := hS.below hJ hng (Below.refl _ wr).drew
  have hvd : OwnN wr.drew B v set := hvw
  have hvnd : ∀ g, v.ownBlock = some g → ¬ no wr.drew g := fun g e h => hvnw g e (hnd g h)
  obtain ⟨A, c, w5, hrun, hown, hgr, hloc, hkp, hres⟩ := push_set hvd hset hSd.sz k j hk
  have hba : Below wr.drew.heap.size wr.drew (wr.drew.alloc (.cells #[.int .i64 k] 3)) := (Below.refl _ _).alloc (Nat.le_refl _) _
  obtain ⟨hSa, hna⟩ := hSd.below hJ hng hba
  obtain ⟨hS5, hn5⟩ := hSa.grown hJ hng (own_below hvd hba) (fun g e h => hvnd g e (hna g h)) hvb hgr
  have hz := hgr.size
  rw [World.size_alloc] at hz
  have hsd : wr.drew.heap.size = wr.heap.size := rfl
  have hn5w : ∀ q, no w5 q → no wr q := fun q h => hnd q (hna q (hn5 q h))
  have st5 : ∀ q, q < wr.heap.size → v.ownBlock ≠ some q → w5.heap[q]? = wr.heap[q]? := fun q hq hne => (hgr.block q (by simp; omega) (fun e => hne e.symm)).trans (Below.heap_alloc wr.drew _ q hq)
  refine ⟨A, c, w5, hrun, hown, hS5, fun g e => ?_, fun Y hY => ⟨by have := hF.size; have := hY.size; omega, fun q hq hn hne => ?_, fun q h => ?_, ?_⟩⟩
  · rcases hloc with h1 | h1
    · have e' := h1.symm.trans e
      exact ⟨fun h => hvnw g e' (hn5w g h), hvb g e'⟩
    · have hg : wr.drew.heap.size + 1 = g := Option.some.inj (h1.symm.trans e)
      have h2 := hS.y.lt; have h3 := hS.e.lt
      refine ⟨fun h => ?_, by omega, by omega⟩
      have := hlt g (hn5w g h)
      omega
  · have hqw : q < wr.heap.size := by have := hF.size; omega
    have hq5 : ¬ no w5 q := fun h => hnw q hq hn (hn5w q h)
    rw [hY.keep q (by omega) hq5 (fun e => ?_), st5 q hqw hne, hF.keep q hq hn hne]
    rcases hloc with h1 | h1
    · exact hne (h1.symm.trans e)
    · have : wr.drew.heap.size + 1 = q := Option.some.inj (h1.symm.trans e)
      omega
  · rcases hY.grow q h with h1 | h1
    · rcases hF.grow q (hn5w q h1) with h2 | h2
      · exact .inl h2
      · exact .inr h2
    · exact .inr (by have := hF.size; omega)
  · refine hres Y hY.own fun q e hne => ?_
    have hqw := own_lt hvw q e
    rw [hY.keep q (by omega) (fun h => hvnw q e (hn5w q h)) hne]
    exact hkp q e hne
end
end Go.Proofs.Ytenojfniknjeiaa
