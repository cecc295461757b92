/- The two loops over steps and operands: areValid's step, and build. -/
import Derived.Test.YtabkodpjhpjgnaaGreatDoorQe
namespace Go.Proofs.YtabkodpjhpjgnaaGreatDoor
open Go.RowKit Go.Shelf

/-- What stands in memory of n fractions. -/
def Rats (w : World) (g n : Nat) (L R : Nat → List UInt8) : Prop := g < w.heap.size ∧ ∀ k, k < n → w.cell? ⟨g, k * 2, none⟩ = some (strOf (L k)) ∧ w.cell? ⟨g, k * 2 + 1, none⟩ = some (strOf (R k))
theorem Rats.next {w w' : World} {g n : Nat} {L R : Nat → List UInt8} (h : Rats w g n L R) (hb : Below w.heap.size w w') : Rats w' g n L R :=
  ⟨Nat.lt_of_lt_of_le h.1 hb.size, fun k hk => ⟨(hb.cell (p := ⟨g, k * 2, none⟩) h.1).trans (h.2 k hk).1, (hb.cell (p := ⟨g, k * 2 + 1, none⟩) h.1).trans (h.2 k hk).2⟩⟩

set_option maxRecDepth 100000 in
set_option maxHeartbeats 2000000 in
theorem areV1_step (n : Nat) (L R : Nat → List UInt8) (g gb : Nat) (w : World) (hn : n ≤ 1000) (hb : Row w gb 30 #[.slice (some ⟨g, 0, none⟩) n n]) (hc : Rats w g n L R) (l r : List UInt8) (f : Bool)
    (hf : f = true ↔ ∀ k, k < n → vldR (L k) (R k) = true) : StepQ w 91 #[.pointer (some ⟨gb, 0, none⟩)] (rv l r) (rv l r) f := by
  intro u hu hbu
  replace hb := hb.below hbu hb.lt
  replace hc := hc.next hbu
  have lb := hb.lt
  have VR := Lib.hid (fun k => valid_r (L k) (R k))
  have HT := Lib.hid hu; have HF := Lib.hid hf
  unfold rv strOf at *
  unfold StepP
  generalize bs l = X at *
  generalize bs r = Y at *
  obtain ⟨W, hW, hbw, hx, ho⟩ := boxes2 u X Y
  have HW := Lib.hid hW; have HB := Lib.hid hbw; have HX := Lib.hid hx; have HO := Lib.hid ho; have HC := Lib.hid (hc.next hbw); have HGB := Lib.hid (hb.below hbw lb)
  have cb := one_fact hb
  clear hu hbu hb hc hf hW hbw hx ho
  go_enter Tryz.func91, Tryz.ntmps91
  go_wp2
  rw [HW.out]
  clear cb
  go_loopw [9] (fun i wr => ∃ k : Nat, k ≤ n ∧ i = .int .i64 (k : Int) ∧ Hid (∀ j, j < k → vldR (L j) (R j) = true) ∧ Hid (Row wr u.heap.size 23 #[.string X, .string Y]) ∧ Hid (Row wr (u.heap.size + 1) 23 #[.string ⟨#[]⟩, .string ⟨#[]⟩]) ∧ Hid (Rats wr g n L R) ∧ Hid (Below u.heap.size u wr)) (fun i _ => (n - (intOf i)).toNat)
  case atStart => exact ⟨0, by omega, by go_num, Lib.hid (fun j h => by omega), HX, HO, HC, HB⟩
  case round =>
    obtain ⟨k, hk, rfl, HV, HX, HO, HC, HB⟩ := hrel
    by_cases hlt : k < n
    · obtain ⟨c0, c1⟩ := HC.out.2 k hlt
      unfold strOf at c0 c1
      have V1 := Lib.hid (VR.out k)
      have HVK := Lib.hid (show ∀ b, vldR (L k) (R k) = b → vldR (L k) (R k) = b from fun _ h => h)
      obtain ⟨b, hbb⟩ : ∃ b, vldR (L k) (R k) = b := ⟨_, rfl⟩
      rw [hbb] at V1
      have HBB := Lib.hid hbb
      clear hbb HVK
      generalize bs (L k) = P at *
      generalize bs (R k) = Q at *
      cases b with
      | true =>
        go_wp2_with (go_at_call 29; (with_reducible refine Calls.mono (V1.out _ (HT.out.next ((HB.out.alloc HB.out.size (.cells #[.string P, .string Q] 23))))) ?_); rintro e w1 ⟨rfl, hb1⟩)
        have hb2 := below_to ((Below.refl wr.heap.size wr).alloc (Nat.le_refl _) (.cells #[.string P, .string Q] 23)) hb1
        go_roundw
        case rel => exact ⟨k + 1, by omega, by go_num, Lib.hid (fun j hj => by
          by_cases h : j < k
          · exact HV.out j h
          · obtain rfl : j = k := by omega
            exact HBB.out), Lib.hid (HX.out.below hb2 HX.out.lt), Lib.hid (HO.out.below hb2 HO.out.lt), Lib.hid (HC.out.next hb2), Lib.hid (below_to HB.out hb2)⟩
        case measure => simp [intOf]; omega
      | false =>
        go_wp2_with (go_at_call 29; (with_reducible refine Calls.mono (V1.out _ (HT.out.next ((HB.out.alloc HB.out.size (.cells #[.string P, .string Q] 23))))) ?_); rintro e w1 ⟨rfl, hb1⟩; have hb2 := below_to ((Below.refl wr.heap.size wr).alloc (Nat.le_refl _) (.cells #[.string P, .string Q] 23)) hb1; have HO1 := Lib.hid (HO.out.below hb2 HO.out.lt); have HX1 := Lib.hid (HX.out.below hb2 HX.out.lt); have HB1 := Lib.hid (below_to HB.out hb2); obtain ⟨x0, x1, -, -⟩ := rat_facts HX1.out; obtain ⟨o0, o1, f0, f1⟩ := rat_facts HO1.out; clear hb1 hb2)
        refine bodyPost_ret (results_rat_tmp rfl _ _ (u.heap.size + 1) _ _ rfl (rat_row HO1.out)) rfl ?_
        have hff : f = false := by
          cases f with
          | false => rfl
          | true => exact absurd (HF.out.1 rfl k hlt) (by rw [HBB.out]; decide)
        subst hff
        exact ⟨X, Y, 40, rfl, rfl, (fun h => by cases h), (HB1.out.setCell (by dsimp only; omega) _).setCell (by dsimp only; omega) _⟩
    · obtain rfl : k = n := by omega
      obtain ⟨x0, x1, -, -⟩ := rat_facts HX.out
      obtain ⟨o0, o1, f0, f1⟩ := rat_facts HO.out
      go_wp2
      refine bodyPost_ret (results_rat_tmp rfl _ _ (u.heap.size + 1) _ _ rfl (rat_row HO.out)) rfl ?_
      have hff : f = true := HF.out.2 HV.out
      subst hff
      exact ⟨X, Y, 0, rfl, rfl, (fun _ => rfl), (HB.out.setCell (by dsimp only; omega) _).setCell (by dsimp only; omega) _⟩

/-- What comes out: the fraction y, or an empty one and the error. -/
def OutQ (f : Bool) (y : Value) (s t : ByteArray) (er : Int) : Prop := (f = true ∧ rvB s t = y ∧ er = 0) ∨ (f = false ∧ s = ⟨#[]⟩ ∧ t = ⟨#[]⟩ ∧ er = 40)
def BuildP (f : Bool) (y : Value) (w : World) (e : Ending) (w' : World) : Prop := ∃ (s t : ByteArray) (er : Int), e = .returned (.tuple #[rvB s t, .int .i64 er]) ∧ OutQ f y s t er ∧ Below w.heap.size w w'
set_option maxRecDepth 100000 in
set_option maxHeartbeats 2000000 in
theorem build_any (n k : Nat) (gs : Nat → Nat) (cbs : Nat → Array Value) (S T : Nat → ByteArray) (w : World) (ht : TabP w) (g : Nat) (hg : g < w.heap.size)
    (hc : ∀ i, i < n → w.cell? ⟨g, i, none⟩ = some (.func (.func (gs i)) #[] (cbs i)))
    (eg : ∀ i, i < n → ∀ args w, (callFunc (gs i) args).run Tryz.prog w = .ok (.enter (gs i) args) w)
    (hk : k ≤ n) (hn : n ≤ 1000)
    (hs : ∀ i, i < k → StepQ w (gs i) (cbs i) (rvB (S i) (T i)) (rvB (S (i + 1)) (T (i + 1))) true)
    (he : k < n → ∃ y, StepQ w (gs k) (cbs k) (rvB (S k) (T k)) y false) :
    Calls Tryz.prog 58 #[rvB (S 0) (T 0), .slice (some ⟨g, 0, none⟩) n n] w (BuildP (decide (k = n)) (rvB (S n) (T n)) w) := by
  obtain ⟨W, hW, hbw, hx, ho⟩ := boxes2 w (S 0) (T 0)
  have HW := Lib.hid hW; have HB := Lib.hid hbw; have HX := Lib.hid hx; have HO := Lib.hid ho
  have HC : Hid (g < w.heap.size ∧ ∀ i, i < n → w.cell? ⟨g, i, none⟩ = some (.func (.func (gs i)) #[] (cbs i))) := Lib.hid ⟨hg, hc⟩
  have HT := Lib.hid ht; have HS := Lib.hid hs; have HE := Lib.hid he; have EG := Lib.hid eg
  clear ht hg hc eg hs he hW hbw hx ho
  go_enter Tryz.func58, Tryz.ntmps58
  go_wp2
  rw [HW.out]
  go_loopw [11] (fun i wr => ∃ j : Nat, j ≤ k ∧ i = .int .i64 (j : Int) ∧ Hid (Row wr w.heap.size 23 #[.string (S j), .string (T j)]) ∧ Hid (Row wr (w.heap.size + 1) 23 #[.string ⟨#[]⟩, .string ⟨#[]⟩]) ∧ Hid (Below w.heap.size w wr)) (fun i _ => (n - (intOf i)).toNat)
  case atStart => exact ⟨0, by omega, by go_num, HX, HO, HB⟩
  case round =>
    obtain ⟨j, hj, rfl, HX, HO, HB⟩ := hrel
    by_cases hlt : j < n
    · have c0 : wr.cell? ⟨g, j, none⟩ = some (.func (.func (gs j)) #[] (cbs j)) := (HB.out.cell (p := ⟨g, j, none⟩) HC.out.1).trans (HC.out.2 j hlt)
      obtain ⟨x0, x1, xf0, xf1⟩ := rat_facts HX.out
      have egj := EG.out j hlt
      by_cases hjk : j < k
      · have SJ := Lib.hid (HS.out j hjk)
        generalize gs j = gj at *
        generalize cbs j = cj at *
        go_wp2_with (go_at_fn gj; (with_reducible refine Calls.mono (SJ.out.go _ (HT.out.next HB.out) HB.out) ?_); unfold StepP; rintro e w1 ⟨s, t, er, rfl, h1, h2, hb1⟩; have HX1 := Lib.hid (HX.out.below hb1 HX.out.lt); have HO1 := Lib.hid (HO.out.below hb1 HO.out.lt); have HB1 := Lib.hid (below_to HB.out hb1); obtain ⟨y0, y1, f0, f1⟩ := rat_facts HX1.out; have H2 := Lib.hid (h2 rfl); have k1 : (er != 0) = false := by { have := of_decide_eq_true h1; rw [this]; rfl }; clear h1 h2 hb1)
        have e1 := H2.out
        unfold rvB at e1
        injection e1 with e1
        have e2 : s = S (j + 1) ∧ t = T (j + 1) := by simpa using e1
        obtain ⟨rfl, rfl⟩ := e2
        go_roundw
        case rel => exact ⟨j + 1, by omega, by go_num, Lib.hid (rat_row HX1.out), Lib.hid ((HO1.out.far (by dsimp only; omega) _).far (by dsimp only; omega) _), Lib.hid ((HB1.out.setCell (by dsimp only; omega) _).setCell (by dsimp only; omega) _)⟩
        case measure => simp [intOf]; omega
      · obtain rfl : j = k := by omega
        obtain ⟨y, hy⟩ := HE.out hlt
        have SJ := Lib.hid hy
        clear hy
        have hd : decide (j = n) = false := decide_eq_false (by omega)
        generalize gs j = gj at *
        generalize cbs j = cj at *
        go_wp2_with (go_at_fn gj; (with_reducible refine Calls.mono (SJ.out.go _ (HT.out.next HB.out) HB.out) ?_); unfold StepP; rintro e w1 ⟨s, t, er, rfl, h1, h2, hb1⟩; have HX1 := Lib.hid (HX.out.below hb1 HX.out.lt); have HO1 := Lib.hid (HO.out.below hb1 HO.out.lt); have HB1 := Lib.hid (below_to HB.out hb1); obtain ⟨y0, y1, f0, f1⟩ := rat_facts HX1.out; obtain ⟨o0, o1, g0, g1⟩ := rat_facts HO1.out; have k1 : (er != 0) = true := by { have := of_decide_eq_false h1; simpa using this }; clear h1 h2 hb1)
        refine bodyPost_ret (results_rat_tmp rfl _ _ (w.heap.size + 1) _ _ rfl (rat_row ((HO1.out.far (by dsimp only; omega) _).far (by dsimp only; omega) _))) rfl ?_
        unfold BuildP OutQ
        rw [hd]
        exact ⟨_, _, _, rfl, .inr ⟨rfl, rfl, rfl, rfl⟩, (((HB1.out.setCell (by dsimp only; omega) _).setCell (by dsimp only; omega) _).setCell (by dsimp only; omega) _).setCell (by dsimp only; omega) _⟩
    · obtain rfl : j = n := by omega
      obtain rfl : k = j := by omega
      obtain ⟨x0, x1, -, -⟩ := rat_facts HX.out
      obtain ⟨o0, o1, f0, f1⟩ := rat_facts HO.out
      go_wp2
      refine bodyPost_ret (results_rat_tmp rfl _ _ (w.heap.size + 1) _ _ rfl (rat_row HO.out)) rfl ?_
      unfold BuildP OutQ
      exact ⟨_, _, _, rfl, .inl ⟨by simp, rfl, rfl⟩, (HB.out.setCell (by dsimp only; omega) _).setCell (by dsimp only; omega) _⟩
end Go.Proofs.YtabkodpjhpjgnaaGreatDoor
