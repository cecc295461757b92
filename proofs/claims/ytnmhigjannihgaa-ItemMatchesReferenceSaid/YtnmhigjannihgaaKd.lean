/- The iterator cuts: its walk. -/
import Derived.Test.YtnmhigjannihgaaKc
namespace Go.Proofs.Ytnmhigjannihgaa
open Go.RowKit Go.Shelf
attribute [local go_sem] Oper.semAt_some
attribute [local go_sem ↓] append_appN

/-- What the iterator's loop knows: f cuts are left at most. -/
def CtRel (B0 Bi Bq : Nat) (i : ItemP) (A1 : Option Addr) (n1 c1 : Nat) (A2 : Option Addr) (n2 c2 : Nat) (no : World → Nat → Prop) (J : List (List Nat) → World → Prop) (f : Nat) (v : Value) (X : World) : Prop :=
  ∃ (pre q : List (List Nat)) (A : Option Addr) (b off c : Nat) (xs : List Value), v = .slice A q.length c ∧ cutsL i.trims.length = pre ++ bfs i.trims.length f q ∧ pre.length + f = 17 ∧ q.length ≤ 1 + 4 * pre.length ∧ J pre X ∧ CtIn B0 Bi Bq i A1 n1 c1 A2 n2 c2 no A b off c q xs X
theorem run_tail (b off n c : Nat) (hc : n + 1 ≤ c) : ∃ A : Option Addr, (0 < c - 1 → A = some ⟨b, off + 1, none⟩) ∧ ∀ w, Sem.run Try.prog (Instr.slice 42 (.slice (some ⟨b, off, none⟩) (n + 1) c) (some (.int .i64 1)) none none) w = .ok (.slice A n (c - 1)) w := by
  refine ⟨if c = 1 then some ⟨b, off, none⟩ else some ⟨b, off + 1, none⟩, fun h => if_neg (by omega), fun w => ?_⟩
  obtain ⟨i, hi, hz0, hz1, hz2⟩ := info_parts infoInts
  by_cases h1 : c = 1
  · subst h1
    simp [Instr.slice, Instr.sliceBounds, Instr.sliceBound, run_underlying Try.underlying42, sizeOf, typeInfo, hi, hz1, asIntOf, go_sem]
    omega
  · simp [Instr.slice, Instr.sliceBounds, Instr.sliceBound, run_underlying Try.underlying42, sizeOf, typeInfo, hi, hz1, asIntOf, go_sem, h1, Addr.add_lit]
    omega
set_option maxRecDepth 100000 in
set_option maxHeartbeats 4000000 in
theorem cuts1_e (n : Nat) (hn : 2 ≤ n) (l Bi B0 : Nat) (i : ItemP) (hi : validI i = true) (A1 A2 : Option Addr) (n1 c1 n2 c2 : Nat) (J Jx : List (List Nat) → World → Prop) (no : World → Nat → Prop) (W : World)
    (hJ : OwnNo no W.heap.size J)
    (hno : ∀ s X k, J s X → no X k → k < X.heap.size ∧ ¬ (k = Bi ∨ k < B0))
    (hng : ∀ s X Y row k, J s X → X.grownBy Y row → Turns no W.heap.size X row → no Y k → no X k)
    (hY : ∀ pre x vs W1, pre ++ [x] <+: cutsL i.trims.length → CutE W.heap.size i W1 x vs → J pre W1 → YieldAt Fence.wide (n - 1) Try.prog l vs W1 fun e W' =>
      (e = .returned (.bool true) ∧ RoundK no W1 W' ∧ J (pre ++ [x]) W') ∨ (e = .returned (.bool false) ∧ Keeps (no W1) W1 W' ∧ Jx (pre ++ [x]) W'))
    (hBi : Row W Bi 24 #[.int .i64 i.id, .int .i64 i.kind, .int .i64 i.len, .slice A1 n1 c1, .slice A2 n2 c2, .int .i64 i.artist, .int .i64 i.tempo, .int .i64 i.lang]) (hit : ItAt i A1 n1 c1 A2 n2 c2 B0 W) (hB0 : B0 ≤ W.heap.size) (h0 : J [] W) :
    CallsIn Fence.wide n Try.prog 65 #[.func (.yield l) #[] #[], .pointer (some ⟨Bi, 0, none⟩)] W fun e W' => (∃ v, e = .returned v) ∧
      (J (cutsL i.trims.length) W' ∨ (∃ pre, pre <+: cutsL i.trims.length ∧ Jx pre W')) := by
  have hn1 : 1 ≤ n := by omega
  have HOK := Lib.hid ((validI_iff i).1 hi)
  have hn4 : i.trims.length < 5 := by have := HOK.out.n1; omega
  have HSM := Lib.hid (cuts_small ⟨i.trims.length, hn4⟩)
  have HAL := Lib.hid (cuts_all ⟨i.trims.length, hn4⟩)
  have HDN := Lib.hid (cuts_done ⟨i.trims.length, hn4⟩)
  dsimp only at HSM HAL HDN
  have HVI := Lib.hid hi
  have hBl := hBi.lt
  have HNN := Lib.hid hit.lens.1
  have HNO := Lib.hid hno; have HNG := Lib.hid hng; have HYY := Lib.hid hY; have HJO := Lib.hid hJ
  have HFIX : Hid (∀ s X, J s X → ∀ k, (k = Bi ∨ k < B0) → ¬ no X k) := Lib.hid (fun s X hs k hk e => (hno s X k hs e).2 hk)
  have hst : Hid (CtRel B0 Bi W.heap.size i A1 n1 c1 A2 n2 c2 no J 17 (.slice (some ⟨W.heap.size, 0, none⟩) 1 1) (W.alloc (.cells #[.slice none 0 0] 26))) := Lib.hid (by
    have hg := World.grownBy_alloc W (.cells #[.slice none 0 0] 26) none
    have hb : Below W.heap.size W (W.alloc (.cells #[.slice none 0 0] 26)) := (Below.refl _ W).alloc (Nat.le_refl _) _
    have rw1 := Row.new W 26 #[.slice none 0 0]
    refine ⟨[], [[]], _, W.heap.size, 0, 1, [.slice none 0 0], rfl, rfl, rfl, by simp, hJ.alloc _ h0, ⟨⟨Nat.le_refl _, by decide, by simp, fun _ => rfl, rfl, fun j u hj => ?_, fun j h1 h2 => ?_⟩, ⟨rfl, fun j x l hx hl => ?_⟩, Nat.le_refl _, fun e => ?_, fun x hx g e => ?_, hBi.alloc _, ⟨hit.t.keep fun p hp => hb.cell (by omega), hit.k.keep fun p hp => hb.cell (by omega)⟩, hB0, hb.size⟩⟩
    · rw [Nat.zero_add, rw1.cell]; simpa using hj
    · simp at h1; omega
    · have hj : j = 0 := by have := (List.getElem?_eq_some_iff.1 hx).1; simpa using this
      subst hj
      cases hx; cases hl
      exact ⟨World.ownsRow_nil _ _ _ _, by simp [Value.ownBlock]⟩
    · have := (hno [] W _ h0 (hng [] W _ none _ h0 hg (fun r e => by cases e) e)).1
      omega
    · rw [List.mem_singleton.1 hx] at e; simp [Value.ownBlock] at e)
  clear hno hng hY hJ hit h0 hi
  refine callsIn_of_wp Try.func65 rfl trivial ?_ rfl
  simp only [Try.ntmps65, List.size_toArray, List.length_cons, List.length_nil, Nat.reduceAdd, Nat.reduceSub, Array.replicate_succ, Array.replicate_zero, List.push_toArray, List.append_toArray, List.nil_append, List.cons_append]
  gi_wp2
  gi_loopw [3] (fun v wr => ∃ f, Hid (CtRel B0 Bi W.heap.size i A1 n1 c1 A2 n2 c2 no J f v wr))
    (fun v wr => leastN (fun f => CtRel B0 Bi W.heap.size i A1 n1 c1 A2 n2 c2 no J f v wr))
  case atStart => exact ⟨17, hst⟩
  case round =>
    obtain ⟨f0, HR0⟩ := hrel
    obtain ⟨hR, -⟩ := leastN_spec (p := fun f => CtRel B0 Bi W.heap.size i A1 n1 c1 A2 n2 c2 no J f u3 wr) HR0.out
    clear HR0 hst
    obtain ⟨f, hf⟩ : ∃ f, leastN (fun f => CtRel B0 Bi W.heap.size i A1 n1 c1 A2 n2 c2 no J f u3 wr) = f := ⟨_, rfl⟩
    rw [hf] at hR
    have HF := Lib.hid hf
    clear hf
    obtain ⟨pre, q, A, b, off, c, xs, rfl, hcut, hlen, hql, hj, hin⟩ := hR
    have HC := Lib.hid (And.intro hcut (And.intro hlen hql)); have HJX := Lib.hid hj; have HI := Lib.hid hin
    clear hcut hlen hql hj hin
    cases q with
    | nil =>
      have hfull : Hid (J (cutsL i.trims.length) wr) := Lib.hid (by
        have := HC.out.1
        rw [bfs_nil, List.append_nil] at this
        rw [this]; exact HJX.out)
      gi_wp2
      go_end0
      exact ⟨⟨_, rfl⟩, .inl hfull.out⟩
    | cons d q =>
      obtain ⟨x, xs, rfl⟩ : ∃ x r, xs = x :: r := by
        cases xs with
        | nil => have := HI.out.qa.len; simp at this
        | cons x r => exact ⟨x, r, rfl⟩
      obtain ⟨rfl, a0⟩ := HI.out.qa.head
      have HOWN := Lib.hid HI.out.own
      obtain ⟨Ax, cx, rfl, -⟩ := own_slice HOWN.out
      have HCC := HC.out
      obtain ⟨f', rfl⟩ : ∃ f', f = f' + 1 := by
        cases f with
        | zero =>
          have h1 := HCC.1; have h2 := HCC.2.1; have h3 := HDN.out
          have e1 : (cutsL i.trims.length).length ≤ 16 := by
            show (bfs i.trims.length 17 [[]]).length ≤ 16
            rw [h3.1]; exact h3.2
          rw [h1, List.length_append] at e1
          omega
        | succ f' => exact ⟨f', rfl⟩
      have HPR : Hid (pre ++ [d] <+: cutsL i.trims.length) := Lib.hid ⟨bfs i.trims.length f' (q ++ longL i.trims.length d), by rw [HCC.1, bfs_cons, List.append_assoc]; rfl⟩
      have HME : Hid (d ∈ cutsL i.trims.length) := Lib.hid (by rw [HCC.1, bfs_cons]; simp)
      have HOC : Hid (okC i (zi d) = true) := Lib.hid (by
        unfold okC
        rw [HVI.out, Bool.true_and]
        exact nat_cutB (HAL.out.1 d HME.out))
      have HL2 : Hid ((lengthV i (zi d)).2 = 0) := Lib.hid (by unfold lengthV; rw [HOC.out]; rfl)
      have HLN := Lib.hid (length_any i (zi d) A1 A2 Ax n1 c1 n2 c2 d.length cx wr ⟨HI.out.it.t.more (by have := HI.out.low; omega), HI.out.it.k.more (by have := HI.out.low; omega)⟩ (ints_own HOWN.out (by simp [zi])))
      obtain ⟨L, hL⟩ : ∃ L, (lengthV i (zi d)).1 = L := ⟨_, rfl⟩
      rw [hL, HL2.out] at HLN
      have HLL := Lib.hid hL
      have b_0 := HI.out.box.cell 0; have b_1 := HI.out.box.cell 1; have b_2 := HI.out.box.cell 2; have b_3 := HI.out.box.cell 3; have b_4 := HI.out.box.cell 4; have b_5 := HI.out.box.cell 5; have b_6 := HI.out.box.cell 6; have b_7 := HI.out.box.cell 7
      have lB := HI.out.box.lt
      have lq := HI.out.qa.lt
      have e1 : (0 : Int) < (q.length : Int) + 1 := by omega
      clear hL HCC
      gi_wp2_with (first | (refine ⟨trivial, ?_⟩; gi_at_call 24; ((with_reducible refine CallsIn.mono (callsIn_wide.2 HLN.out) ?_); rintro e' u1 ⟨rfl, hb1⟩; have HJ1 := Lib.hid (HJO.out pre wr u1 none HJX.out (grown_below hb1) (fun r e => by cases e)); have HN1 := Lib.hid (fun k => HNG.out pre wr u1 none k HJX.out (grown_below hb1) (fun r e => by cases e)); have HI1 := Lib.hid (HI.out.below hb1 HN1.out (HFIX.out pre wr HJX.out)); have HB1 := Lib.hid hb1; clear hb1; obtain ⟨fn, tmps, assign, body, hyy, hR⟩ := HYY.out pre d #[.slice Ax d.length cx, .int .i64 L] u1 HPR.out ⟨Ax, cx, by rw [HLL.out], own_below HOWN.out HB1.out⟩ HJ1.out)))
      refine hR.mono ?_
      rintro e' W3 (⟨rfl, hk3, hj3⟩ | ⟨rfl, hk3, hjx3⟩)
      · have HI3 := Lib.hid (HI1.out.round hk3 (HFIX.out pre u1 HJ1.out))
        have HJ3 := Lib.hid hj3
        have g3 := HI3.out.box.cell 3
        have lB3 := HI3.out.box.lt
        have HLG := Lib.hid (fun u (hu : Below W3.heap.size W3 u) => longer_any d (fun k hk => by have := (HSM.out d HME.out).2 k hk; omega) d.length rfl (by have := (HSM.out d HME.out).1; omega) n1 (by rw [HNN.out]; omega) Ax cx u ((ints_own HI3.out.own (by simp [zi])).next hu))
        clear hR hk3 hj3 HI1 HJ1 HN1 HB1 HLN b_0 b_1 b_2 b_3 b_4 b_5 b_6 b_7 lB lq a0 hyy
        gi_wp2
        obtain ⟨A', hA', RS⟩ := run_tail b off q.length c HI3.out.qa.le
        have HT := Lib.hid (fun r (e : some b = some r) => (by cases e; exact ⟨HI3.out.ge, .inr HI3.out.nb⟩ : W.heap.size ≤ r ∧ ((∃ o : Obj, W3.heap[r]? = some o ∧ o.isCells = false) ∨ ¬ no W3 r)))
        have HQL := Lib.hid (show (q ++ longL i.trims.length d).length ≤ 1 + 4 * (pre ++ [d]).length ∧ (q ++ longL i.trims.length d).length ≤ 1000 by
          have h1 := HC.out.2.1; have h2 := HC.out.2.2; have h3 := long_len i.trims.length d
          simp only [List.length_append, List.length_cons, List.length_nil] at h2 ⊢
          omega)
        obtain ⟨Q, hQ⟩ : ∃ Q, q ++ longL i.trims.length d = Q := ⟨_, rfl⟩
        rw [hQ] at HQL
        have HQQ := Lib.hid hQ
        clear hQ
        have HNO3 := Lib.hid (fun Y (hg : W3.grownBy Y (some b)) k => HNG.out _ W3 Y (some b) k HJ3.out hg HT.out)
        have HLT3 := Lib.hid (fun k hk => (HNO.out _ W3 k HJ3.out hk).1)
        gi_region_with (refine ⟨trivial, ?_⟩; gi_at_call 66; ((with_reducible refine CallsIn.mono (callsIn_wide.2 (HLG.out _ ((Below.refl _ W3).drew))) ?_); rintro e4 u4 ⟨v4, ys, rfl, ho4, hc4, hb4⟩; rw [HNN.out] at hc4; obtain ⟨A4, c4, rfl, A5, c5, w5, r5, hg5, b5, off5, hin5⟩ := HI3.out.step ((Below.refl _ W3).drew.trans hb4) hA' HQQ.out HQL.out.2 ho4 hc4 HNO3.out HLT3.out hBl; have HG5 := Lib.hid hg5; have HI5 := Lib.hid hin5; clear hg5 hin5 ho4 hc4 hb4))
        all_goals (
          have HREL := Lib.hid (show CtRel B0 Bi W.heap.size i A1 n1 c1 A2 n2 c2 no J f' (.slice A5 Q.length c5) w5 from ⟨pre ++ [d], Q, A5, b5, off5, c5, xs ++ ys, rfl, by rw [HC.out.1, bfs_cons, HQQ.out, List.append_assoc]; rfl, by have := HC.out.2.1; simp; omega, HQL.out.1, HJO.out _ W3 w5 (some b) HJ3.out HG5.out HT.out, HI5.out⟩)
          simp only [Act.put, List.getElem_toArray, List.getElem_cons_succ, List.getElem_cons_zero, List.setIfInBounds_toArray, List.set_cons_zero, List.set_cons_succ]
          show _ ∧ _
          go_roundw
          case rel => exact ⟨f', HREL⟩
          case measure =>
            have h1 := (leastN_spec (p := fun f => CtRel B0 Bi W.heap.size i A1 n1 c1 A2 n2 c2 no J f (.slice A5 Q.length c5) w5) HREL.out).2
            have h2 := HF.out
            have h3 : leastN (fun f => CtRel B0 Bi W.heap.size i A1 n1 c1 A2 n2 c2 no J f (.slice A5 Q.length c5) w5) < leastN (fun f => CtRel B0 Bi W.heap.size i A1 n1 c1 A2 n2 c2 no J f (.slice (some ⟨b, off, none⟩) (d :: q).length c) wr) := by rw [h2]; exact Nat.lt_succ_of_le h1
            exact h3)
      · have HX3 := Lib.hid hjx3
        clear hk3 hjx3
        gi_wp2
        refine bodyPost_ret (results_none rfl _ _ _) rfl ?_
        exact ⟨⟨_, rfl⟩, .inr ⟨_, HPR.out, HX3.out⟩⟩
end Go.Proofs.Ytnmhigjannihgaa
