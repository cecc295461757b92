/- The iterator parts, handed to any loop by the own law. -/
import Derived.Test.YtmfpaankkoaoaaaDoorVb
namespace Go.Proofs.YtmfpaankkoaoaaaDoor
open Go.RowKit Go.Shelf
attribute [local go_sem] Oper.semAt_some

/-- The block of the variable that strings.Cut reads. -/
abbrev cutG : Nat := 3
theorem CutT.keepK {no : Nat → Prop} {w w' : World} (h : CutT w) (hk : Keeps no w w') (h2 : cutG < w.heap.size) (hn : ¬ no cutG) : CutT w' := h.imp fun _ hm => (hk.cell h2 hn).trans hm
set_option maxRecDepth 100000 in
set_option maxHeartbeats 2000000 in
theorem parts1_p (n : Nat) (hn : 1 ≤ n) (l Bs Bp : Nat) (s sep : ByteArray) (hs : s.size < 4294967281) (h0 : sep.data.toList ≠ []) (J Jx : List ByteArray → World → Prop) (no : World → Nat → Prop)
    (hno : ∀ s X, J s X → Bp < X.heap.size ∧ ¬ no X Bp ∧ cutG < X.heap.size ∧ ¬ no X cutG)
    (hY : ∀ pre x W, pre ++ [x] <+: ptl sep (s.size + 1) s → J pre W → YieldAt Fence.wide (n - 1) Tryd.prog l #[.string x] W fun e W' =>
      (e = .returned (.bool true) ∧ RoundK no W W' ∧ J (pre ++ [x]) W') ∨ (e = .returned (.bool false) ∧ Keeps (no W) W W' ∧ Jx (pre ++ [x]) W'))
    (hJd : ∀ pre W k, J pre W → J pre (W.drewN k))
    (W : World) (hcs : W.cell? ⟨Bs, 0, none⟩ = some (.string s)) (hcp : W.cell? ⟨Bp, 0, none⟩ = some (.string sep)) (hT : CutT W) (hJ0 : J [] W) :
    CallsIn Fence.wide n Tryd.prog 65 #[.func (.yield l) #[] #[], .pointer (some ⟨Bs, 0, none⟩), .pointer (some ⟨Bp, 0, none⟩)] W fun e W' => (∃ v, e = .returned v) ∧
      (J (ptl sep (s.size + 1) s) W' ∨ (∃ pre, pre <+: ptl sep (s.size + 1) s ∧ Jx pre W')) := by
  have HCut := Lib.hid (fun (x : ByteArray) (hx : x.size < 4294967281) u (hu : CutT u) => cut_drew x sep u hx hu)
  have HT := Lib.hid hT
  have HC1 := Lib.hid (HCut.out s hs W HT.out)
  obtain ⟨full, hfull⟩ : ∃ f, ptl sep (s.size + 1) s = f := ⟨_, rfl⟩
  have HP1 := Lib.hid (show full = [] ++ ptl sep (s.size + 1) s from hfull.symm)
  rw [hfull] at hY ⊢
  clear hfull hT
  refine callsIn_of_wp Tryd.func65 rfl trivial ?_ rfl
  simp only [Tryd.ntmps65, List.size_toArray, List.length_cons, List.length_nil, Nat.reduceAdd, Nat.reduceSub, Array.replicate_succ, Array.replicate_zero, List.push_toArray, List.append_toArray, List.nil_append, List.cons_append]
  gi_wp2_with (refine ⟨trivial, ?_⟩; gi_at_call 66; ((with_reducible refine CallsIn.mono (callsIn_wide.2 (HC1.out)) ?_); rintro e' w' ⟨rfl, k0, rfl⟩))
  gi_loopw [4, 5, 6] (fun t r m wr => ∃ (pre : List ByteArray) (f : Nat) (x : ByteArray), Hid (full = pre ++ ptl sep f x) ∧ t = .string (cut1 x sep) ∧ r = .string (cut2 x sep) ∧ m = .bool (cut3 x sep) ∧ x.size < f ∧ pre.length + f = s.size + 1 ∧ x.size ≤ s.size ∧ wr.cell? ⟨Bp, 0, none⟩ = some (.string sep) ∧ CutT wr ∧ J pre wr)
    (fun _ r m _ => 2 * szV r + bV m)
  case atStart => exact ⟨[], s.size + 1, s, HP1, rfl, rfl, rfl, by omega, by simp, by omega, hcp, HT.out, hJd _ _ _ hJ0⟩
  case round =>
    obtain ⟨pre, f, x, HAT0, rfl, rfl, rfl, hf, hlen, hxs, hcell, hct, hJ⟩ := hrel
    have hcons := ptl_cons sep f x (by omega)
    have HF := Lib.hid (show x.size < f ∧ pre.length + f = s.size + 1 ∧ x.size ≤ s.size from ⟨hf, hlen, hxs⟩)
    have HLE := Lib.hid (cut2_le x sep)
    have HLT := Lib.hid (cut2_lt x sep h0)
    have HLT2 := Lib.hid (cut2_lt (cut2 x sep) sep h0)
    have HLE2 := Lib.hid (cut2_le (cut2 x sep) sep)
    have HZ := Lib.hid (cut2_none (cut2 x sep) sep)
    have HCR := Lib.hid (fun u hu => HCut.out (cut2 x sep) (Nat.lt_of_le_of_lt HLE.out (Nat.lt_of_le_of_lt hxs hs)) u hu)
    have HAT := Lib.hid (HAT0.out.trans (by rw [hcons]))
    obtain ⟨fn, tmps, assign, body, hyy, hR⟩ := hY pre (cut1 x sep) wr ⟨_, by rw [HAT.out, List.append_assoc]; rfl⟩ hJ
    have HCT := Lib.hid hct
    clear HAT0 hcons hf hlen hxs hct
    cases hm : cut3 x sep with
    | false =>
      gi_wp2
      refine hR.mono ?_
      rintro e' W3 (⟨rfl, hk3, hJ3⟩ | ⟨rfl, hk3, hJx3⟩)
      · gi_wp2
        go_end0
        exact ⟨⟨_, rfl⟩, .inl ((show full = pre ++ [cut1 x sep] by rw [HAT.out, hm]; rfl) ▸ hJ3)⟩
      · gi_wp2
        go_end0
        exact ⟨⟨_, rfl⟩, .inr ⟨_, ⟨_, by rw [HAT.out, List.append_assoc]; rfl⟩, hJx3⟩⟩
    | true =>
      gi_wp2
      refine hR.mono ?_
      rintro e' W3 (⟨rfl, hk3, hJ3⟩ | ⟨rfl, hk3, hJx3⟩)
      · have hc3 := (hk3.keeps.cell (hno _ _ hJ).1 (hno _ _ hJ).2.1).trans hcell
        have HT3 := Lib.hid (HCT.out.keepK hk3.keeps (hno _ _ hJ).2.2.1 (hno _ _ hJ).2.2.2)
        gi_wp2_with (refine ⟨trivial, ?_⟩; gi_at_call 66; ((with_reducible refine CallsIn.mono (callsIn_wide.2 (HCR.out _ HT3.out)) ?_); rintro e' w' ⟨rfl, k0, rfl⟩))
        go_roundw
        case rel =>
          obtain ⟨g1, g2, g3⟩ := HF.out
          exact ⟨pre ++ [cut1 x sep], f - 1, cut2 x sep, Lib.hid (by rw [HAT.out, hm, List.append_assoc]; rfl), rfl, rfl, rfl, by have := HLT.out hm; omega, by simp; omega, Nat.le_trans HLE.out g3, hc3, HT3.out, hJd _ _ _ hJ3⟩
        case measure =>
          have q1 := HLT2.out
          have q2 := HZ.out
          simp only [szV]
          cases h2 : cut3 (cut2 x sep) sep with
          | true =>
            have := q1 h2
            show 2 * (cut2 (cut2 x sep) sep).size + 1 < 2 * (cut2 x sep).size + 1
            omega
          | false =>
            rw [q2 h2]
            show 2 * 0 + 0 < 2 * (cut2 x sep).size + 1
            omega
      · gi_wp2
        go_end0
        exact ⟨⟨_, rfl⟩, .inr ⟨_, ⟨_, by rw [HAT.out, List.append_assoc]; rfl⟩, hJx3⟩⟩
theorem parts_p (n : Nat) (hn : 1 ≤ n) (Bs Bp : Nat) (s sep : ByteArray) (hs : s.size < 4294967281) (h0 : sep.data.toList ≠ []) (no : World → Nat → Prop) (w : World) (h3 : cutG < w.heap.size) (hBs : Bs < w.heap.size) (hBp : Bp < w.heap.size)
    (hcs : w.cell? ⟨Bs, 0, none⟩ = some (.string s)) (hcp : w.cell? ⟨Bp, 0, none⟩ = some (.string sep)) (hT : CutT w) :
    GivesP Fence.wide n Tryd.prog 65 #[.pointer (some ⟨Bs, 0, none⟩), .pointer (some ⟨Bp, 0, none⟩)] (fun x => #[.string x]) no (fun k => k = Bs ∨ k = Bp ∨ k = cutG) (ptl sep (s.size + 1) s) w :=
  fun l J Jx W hW hJ _ hno _ hY h0' => by
    have hs2 := hW.size
    refine parts1_p n hn l Bs Bp s sep hs h0 (fun p X => J p X ∧ W.heap.size ≤ X.heap.size) Jx no ?_ ?_ (fun pre X k h => ⟨hJ pre X (X.drewN k) none h.1 (have hb := belowN (Below.refl X.heap.size X) k; ⟨hb.os, hb.tape, hb.output, hb.size, fun j hj _ => hb.block j hj⟩) (fun r e => by cases e), h.2⟩) W ((hW.cell (p := ⟨Bs, 0, none⟩) hBs).trans hcs) ((hW.cell (p := ⟨Bp, 0, none⟩) hBp).trans hcp) (hT.keep hW h3) ⟨h0', Nat.le_refl _⟩ |>.mono ?_
    · exact fun p X hp => ⟨by have := hp.2; omega, fun h => (hno _ _ _ hp.1 h).2.1 (.inr (.inl rfl)), by have := hp.2; omega, fun h => (hno _ _ _ hp.1 h).2.1 (.inr (.inr rfl))⟩
    · exact fun pre x X hp hJX => (hY pre x X hp hJX.1).mono fun e W' h => h.imp (fun h' => ⟨h'.1, h'.2.1, h'.2.2, Nat.le_trans hJX.2 h'.2.1.keeps.size⟩) id
    · exact fun e W' h => ⟨h.1, h.2.imp (fun h' => h'.1) id⟩
end Go.Proofs.YtmfpaankkoaoaaaDoor
