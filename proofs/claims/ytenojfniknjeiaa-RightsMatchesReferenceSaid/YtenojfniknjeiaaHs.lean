/- The recursive function of the iterator sets, whole. -/
import Derived.Test.YtenojfniknjeiaaHr
namespace Go.Proofs.Ytenojfniknjeiaa
open Go.RowKit Go.Shelf
attribute [local go_sem] Oper.semAt_some
attribute [local go_sem ↓] append_appN

section
variable {n l B bY bE bN : Nat} {no : World → Nat → Prop} {J Jx : List (List Nat) → World → Prop} {full : List (List Nat)}
theorem flat_snoc {f : Nat → List (List Nat)} {a k : Nat} (h : a ≤ k) : (List.range' a (k + 1 - a)).flatMap f = (List.range' a (k - a)).flatMap f ++ f k := by
  rw [show k + 1 - a = (k - a) + 1 by omega, List.range'_concat, List.flatMap_append]
  congr 1
  simp
  rw [show a + (k - a) = k by omega]
theorem flat_split {f : Nat → List (List Nat)} {a k c : Nat} (h : a ≤ k) (hk : k < a + c) : (List.range' a c).flatMap f = (List.range' a (k - a)).flatMap f ++ (f k ++ (List.range' (k + 1) (a + c - (k + 1))).flatMap f) := by
  have e : List.range' a c = List.range' a (k - a) ++ (k :: List.range' (k + 1) (a + c - (k + 1))) := by
    have h1 : List.range' a c = List.range' a (k - a) ++ List.range' (a + (k - a)) (c - (k - a)) := by
      rw [List.range'_append_1]; congr 1; omega
    rw [h1, show a + (k - a) = k by omega, show c - (k - a) = (a + c - (k + 1)) + 1 by omega]
    rfl
  rw [e, List.flatMap_append, List.flatMap_cons]
set_option maxRecDepth 100000 in
set_option maxHeartbeats 8000000 in
theorem ext_any (hn9 : n ≤ 1000)
    (hJ : OwnNo no B J) (hng : ∀ s X Y row k, J s X → X.grownBy Y row → Turns no B X row → no Y k → no X k) (hlt : ∀ s X k, J s X → no X k → k < X.heap.size) {M : Nat}
    (hY : ∀ pre x vs W1, pre ++ [x] <+: full → SetE B W1 x vs → J pre W1 → YieldAt Fence.wide M Try.prog l vs W1 fun e W' =>
      (e = .returned (.bool true) ∧ RoundK no W1 W' ∧ J (pre ++ [x]) W') ∨ (e = .returned (.bool false) ∧ Keeps (no W1) W1 W' ∧ Jx (pre ++ [x]) W')) :
    ∀ (m : Nat) (set : List Nat) (v : Value) (first : Nat) (pre rest : List (List Nat)) (X : World), set.length + m ≤ 1000 → first ≤ 1000 + set.length → full = pre ++ extL n m set first ++ rest → SeIn n l B bY bE bN no J pre X → OwnN X B v set → (∀ g, v.ownBlock = some g → ¬ no X g ∧ g ≠ bY ∧ g ≠ bE) →
      Calls Try.prog 49 #[v, .int .i64 (first : Int), .int .i64 (m : Int), .pointer (some ⟨bY, 0, none⟩), .pointer (some ⟨bN, 0, none⟩), .pointer (some ⟨bE, 0, none⟩)] X (ExtPost n l B bY bE bN no J Jx full pre X v set m first) := by
  intro m
  induction m with
  | zero =>
    intro set v first pre rest X h1 _ hf hS hv hvn
    exact (callsIn_wide (n := 2)).1 (ext_zero 2 (by decide) hJ hng (fun pre x vs W1 a b c => YieldAt.any rfl 1 (hY pre x vs W1 a b c)) set v first pre X (by omega) ⟨rest, by rw [hf]; simp [extL]⟩ hS hv (fun g e => (hvn g e).1))
  | succ m ih =>
    intro set v first pre rest X h1 hf1 hf hS hv hvn
    obtain ⟨A, c, rfl, hcl, hcm, -⟩ := own_slice hv
    have IH := Lib.hid ih; have HJO := Lib.hid hJ; have HNG := Lib.hid hng; have HLT := Lib.hid hlt
    have HV := Lib.hid hv; have HVN := Lib.hid hvn; have H1 := Lib.hid h1; have HF1 := Lib.hid hf1
    have HFU := Lib.hid (show full = pre ++ (List.range' first (n - m - first)).flatMap (fun k => extL n m (set ++ [k]) (k + 1)) ++ rest from hf)
    have H0 := Lib.hid hS
    have m1 : (m : Int) + 1 ≤ 1000 := by omega
    have m0 : (0 : Int) ≤ (m : Int) := by omega
    have m2 : ¬ (m : Int) + 1 = 0 := by omega
    have m3 : ((m : Int) + 1 == 0) = false := by simp; omega
    have nn9 : (n : Int) ≤ 1000 := by omega
    clear ih hJ hng hlt hY hS hv hvn h1 hf hf1
    refine (callsIn_wide (n := 3)).1 ?_
    refine callsIn_of_wp Try.func49 rfl trivial ?_ rfl
    simp only [Try.ntmps49, List.size_toArray, List.length_cons, List.length_nil, Nat.reduceAdd, Nat.reduceSub, Array.replicate_succ, Array.replicate_zero, List.push_toArray, List.append_toArray, List.nil_append, List.cons_append]
    gi_wp2
    gi_loopw [10] (fun z wr => ∃ kk : Nat, z = .int .i64 (kk : Int) ∧ first ≤ kk ∧ kk ≤ first + (n - m - first) ∧ Hid (SeIn n l B bY bE bN no J (pre ++ (List.range' first (kk - first)).flatMap (fun k => extL n m (set ++ [k]) (k + 1))) wr ∧ FrE B no X wr (.slice A set.length c) set)) (fun z _ => 3000 - (intOf z).toNat)
    case atStart => exact ⟨first, rfl, Nat.le_refl _, Nat.le_add_right _ _, Lib.hid ⟨by simpa using H0.out, FrE.refl HV.out⟩⟩
    case round =>
      clear H0
      obtain ⟨kk, rfl, hk0, hk1, HX⟩ := hrel
      have HS := Lib.hid HX.out.1
      have HF := Lib.hid HX.out.2
      have HK := Lib.hid (And.intro hk0 hk1)
      clear HX hk0 hk1
      have k9 : (kk : Int) ≤ 2000 := by have := HK.out.2; have := HF1.out; have := H1.out; omega
      have k8 : (0 : Int) ≤ (kk : Int) := by omega
      have y_n : wr.cell? ⟨bN, 0, none⟩ = some (.int .i64 (n : Int)) := HS.out.nn.cell 0
      have z_n := HS.out.nn.lt
      by_cases hlt : kk + m < n
      · have c1 : (kk : Int) ≤ (n : Int) - ((m : Int) + 1) := by omega
        obtain ⟨A5, c5, w5, hrun, hown5, hS5, hn5, hfin⟩ := ext_step HJO.out HNG.out HS.out HF.out HV.out (fun g e => (HVN.out g e).1) (fun g e => (HVN.out g e).2) (fun q h => HLT.out _ wr q HS.out.j h) (by have := H1.out; omega) (kk : Int) kk rfl
        have hc := IH.out (set ++ [kk]) (.slice A5 (set.length + 1) c5) (kk + 1) (pre ++ (List.range' first (kk - first)).flatMap (fun k => extL n m (set ++ [k]) (k + 1))) ((List.range' (kk + 1) (first + (n - m - first) - (kk + 1))).flatMap (fun k => extL n m (set ++ [k]) (k + 1)) ++ rest) w5 (by have := H1.out; simp; omega) (by have := HF1.out; have := H1.out; have := HK.out; simp; omega) (by
          have h := HFU.out
          rw [flat_split (f := fun k => extL n m (set ++ [k]) (k + 1)) HK.out.1 (show kk < first + (n - m - first) by have := HK.out; omega)] at h
          rw [h]
          simp only [List.append_assoc]) hS5 hown5 hn5
        rw [show ((kk + 1 : Nat) : Int) = (kk : Int) + 1 by omega] at hc
        have HC := Lib.hid hc
        have e1 : IntKind.i64.wrap ((kk : Int) + 1) = (kk : Int) + 1 := IntWalk.i64_in _ (by omega)
        have e2 : IntKind.i64.wrap (m : Int) = (m : Int) := IntWalk.i64_in _ (by omega)
        have HSN := Lib.hid (flat_snoc (f := fun k => extL n m (set ++ [k]) (k + 1)) HK.out.1)
        have HFIN := Lib.hid hfin
        have y_e : wr.cell? ⟨bE, 0, none⟩ = some (.func (.func 49) #[] #[.pointer (some ⟨bY, 0, none⟩), .pointer (some ⟨bN, 0, none⟩), .pointer (some ⟨bE, 0, none⟩)]) := HS.out.e.cell 0
        have z_e := HS.out.e.lt
        have y_5 : w5.cell? ⟨bE, 0, none⟩ = some (.func (.func 49) #[] #[.pointer (some ⟨bY, 0, none⟩), .pointer (some ⟨bN, 0, none⟩), .pointer (some ⟨bE, 0, none⟩)]) := hS5.e.cell 0
        have z_5 := hS5.e.lt
        clear hown5 hS5 hn5 hfin hc
        gi_wp2
        gi_region_with (refine ⟨trivial, ?_⟩; gi_at_call 49; ((with_reducible refine CallsIn.mono (callsIn_wide.2 HC.out) ?_); rintro e5 u5 ⟨b, rfl, hb5⟩; have HB5 := Lib.hid hb5; clear hb5))
        all_goals (
          simp only [Act.put, List.getElem_toArray, List.getElem_cons_succ, List.getElem_cons_zero, List.setIfInBounds_toArray, List.set_cons_zero, List.set_cons_succ]
          clear y_n z_n y_e z_e y_5 z_5 hrun
          cases b with
          | true =>
            have HT := Lib.hid (show SeIn n l B bY bE bN no J (pre ++ (List.range' first (kk + 1 - first)).flatMap (fun k => extL n m (set ++ [k]) (k + 1))) u5 ∧ FrE B no X u5 (.slice A set.length c) set by
              rcases HB5.out with ⟨_, h1, h2⟩ | ⟨h1, _⟩
              · refine ⟨?_, HFIN.out _ h2⟩
                rw [HSN.out, ← List.append_assoc]
                exact h1
              · cases h1)
            gi_wp2
            go_roundw
            case rel => exact ⟨kk + 1, by go_num, by have := HK.out; omega, by have := HK.out; omega, HT⟩
            case measure => simp [intOf]; omega
          | false =>
            have HT := Lib.hid (show ∃ pre', pre' <+: full ∧ Jx pre' u5 by
              rcases HB5.out with ⟨h1, _⟩ | ⟨_, h1⟩
              · cases h1
              · exact h1)
            gi_wp2
            refine bodyPost_ret (results_tmp rfl _ _ _) rfl ?_
            exact ⟨false, rfl, .inr ⟨rfl, HT.out⟩⟩)
      · have c1 : ¬ (kk : Int) ≤ (n : Int) - ((m : Int) + 1) := by omega
        have HKE := Lib.hid (show kk - first = n - m - first by have := HK.out; omega)
        gi_wp2
        refine bodyPost_ret (results_tmp rfl _ _ _) rfl ?_
        exact ⟨true, rfl, .inl ⟨rfl, by have h := HS.out; rw [HKE.out] at h; exact h, HF.out⟩⟩
end
end Go.Proofs.Ytenojfniknjeiaa
