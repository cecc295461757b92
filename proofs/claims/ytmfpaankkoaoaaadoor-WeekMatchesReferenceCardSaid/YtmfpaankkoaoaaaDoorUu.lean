/- The iterator parts. -/
import Derived.Test.YtmfpaankkoaoaaaDoorUt
namespace Go.Proofs.YtmfpaankkoaoaaaDoor
open Go.RowKit Go.Shelf
attribute [local go_sem] Oper.semAt_some

theorem cut2_le (s sep : ByteArray) : (cut2 s sep).size ≤ s.size := by
  unfold cut2 Lib.cut
  show (List.toArray _).size ≤ s.data.size
  rw [List.size_toArray]
  split
  · simp
  · simp
theorem cut2_lt (s sep : ByteArray) (h0 : sep.data.toList ≠ []) (h : cut3 s sep = true) : (cut2 s sep).size < s.size := by
  unfold cut3 Lib.cut at h
  unfold cut2 Lib.cut
  show (List.toArray _).size < s.data.size
  rw [List.size_toArray]
  obtain ⟨l, hl⟩ : ∃ l, s.data.toList = l := ⟨_, rfl⟩
  have hsz : s.data.size = l.length := by rw [← hl]; simp
  rw [hl] at h ⊢
  rw [hsz]
  by_cases hi : 0 ≤ Lib.index l sep.data.toList
  · rw [if_pos hi]
    cases l with
    | nil =>
      unfold Lib.index at hi
      rw [if_neg (by simpa using h0)] at hi
      omega
    | cons b l =>
      have : 0 < sep.data.toList.length := List.length_pos_iff.2 h0
      simp only [List.length_drop, List.length_cons]
      omega
  · rw [if_neg hi] at h; cases h
theorem cut2_none (s sep : ByteArray) (h : cut3 s sep = false) : (cut2 s sep).size = 0 := by
  unfold cut3 Lib.cut at h
  unfold cut2 Lib.cut
  show (List.toArray _).size = 0
  rw [List.size_toArray]
  by_cases hi : 0 ≤ Lib.index s.data.toList sep.data.toList
  · rw [if_pos hi] at h; cases h
  · rw [if_neg hi]; rfl
def szV : Value → Nat
  | .string b => b.size
  | _ => 0
def bV : Value → Nat
  | .bool true => 1
  | _ => 0
theorem cut_drew (s sep : ByteArray) (w : World) (hs : s.size < 4294967281) (ht : CutT w) : Calls Tryd.prog 66 #[.string s, .string sep] w fun e w' => e = .returned (.tuple #[.string (cut1 s sep), .string (cut2 s sep), .bool (cut3 s sep)]) ∧ ∃ k, w' = w.drewN k := by
  obtain ⟨m, hm⟩ := ht
  exact Tryd.strings_Cut s sep m w hs hm
/-- What the text has before, between and behind the places where sep is. -/
def ptl (sep : ByteArray) : Nat → ByteArray → List ByteArray
  | 0, _ => []
  | f + 1, s => cut1 s sep :: (if cut3 s sep then ptl sep f (cut2 s sep) else [])
theorem ptl_cons (sep : ByteArray) (f : Nat) (s : ByteArray) (hf : 0 < f) : ptl sep f s = cut1 s sep :: (if cut3 s sep then ptl sep (f - 1) (cut2 s sep) else []) := by
  obtain ⟨f, rfl⟩ : ∃ g, f = g + 1 := ⟨f - 1, by omega⟩
  rfl
set_option maxHeartbeats 400000 in
theorem parts_any (s sep : ByteArray) (w : World) : Calls Tryd.prog 47 #[.string s, .string sep] w fun e w' => e = .returned (.func (.func 65) #[] #[.pointer (some ⟨w.heap.size, 0, none⟩), .pointer (some ⟨w.heap.size + 1, 0, none⟩)]) ∧ w' = (w.alloc (.cells #[.string s] 9)).alloc (.cells #[.string sep] 9) := by
  go_enter Tryd.func47, Tryd.ntmps47
  go_wp2
  go_ret
  exact ⟨by simp, rfl⟩
set_option maxRecDepth 100000 in
set_option maxHeartbeats 2000000 in
theorem parts1_in (n : Nat) (hn : 1 ≤ n) (l Bs Bp n₀ : Nat) (s sep : ByteArray) (hs : s.size < 4294967281) (h0 : sep.data.toList ≠ []) (h3 : 3 < n₀) (hBp : Bp < n₀) (J Jx : List ByteArray → World → Prop)
    (hY : ∀ pre x W, J pre W → pre.length < s.size + 1 → YieldAt Fence.wide (n - 1) Tryd.prog l #[.string x] W fun e W' =>
      (e = .returned (.bool true) ∧ J (pre ++ [x]) W' ∧ Below n₀ W W') ∨ (e = .returned (.bool false) ∧ Jx (pre ++ [x]) W'))
    (hJd : ∀ pre W k, J pre W → J pre (W.drewN k))
    (W : World) (hcs : W.cell? ⟨Bs, 0, none⟩ = some (.string s)) (hcp : W.cell? ⟨Bp, 0, none⟩ = some (.string sep)) (hT : CutT W) (hJ0 : J [] W) :
    CallsIn Fence.wide n Tryd.prog 65 #[.func (.yield l) #[] #[], .pointer (some ⟨Bs, 0, none⟩), .pointer (some ⟨Bp, 0, none⟩)] W fun e W' => (∃ v, e = .returned v) ∧
      ((∃ ys, ys = ptl sep (s.size + 1) s ∧ J ys W') ∨ (∃ pre, pre <+: ptl sep (s.size + 1) s ∧ Jx pre W')) := by
  have HCut := Lib.hid (fun (x : ByteArray) (hx : x.size < 4294967281) u (hu : CutT u) => cut_drew x sep u hx hu)
  have HT := Lib.hid hT
  have HC1 := Lib.hid (HCut.out s hs W HT.out)
  obtain ⟨full, hfull⟩ : ∃ f, ptl sep (s.size + 1) s = f := ⟨_, rfl⟩
  have HP1 := Lib.hid (show full = [] ++ ptl sep (s.size + 1) s from hfull.symm)
  rw [hfull]
  clear hfull hT
  refine callsIn_of_wp Tryd.func65 rfl trivial ?_ rfl
  simp only [Tryd.ntmps65, List.size_toArray, List.length_cons, List.length_nil, Nat.reduceAdd, Nat.reduceSub, Array.replicate_succ, Array.replicate_zero, List.push_toArray, List.append_toArray, List.nil_append, List.cons_append]
  gi_wp2_with (refine ⟨trivial, ?_⟩; gi_at_call 66; ((with_reducible refine CallsIn.mono (callsIn_wide.2 (HC1.out)) ?_); rintro e' w' ⟨rfl, k0, rfl⟩))
  gi_loopw [4, 5, 6] (fun t r m wr => ∃ (pre : List ByteArray) (f : Nat) (x : ByteArray), full = pre ++ ptl sep f x ∧ t = .string (cut1 x sep) ∧ r = .string (cut2 x sep) ∧ m = .bool (cut3 x sep) ∧ x.size < f ∧ pre.length + f = s.size + 1 ∧ x.size ≤ s.size ∧ wr.cell? ⟨Bp, 0, none⟩ = some (.string sep) ∧ CutT wr ∧ J pre wr)
    (fun _ r m _ => 2 * szV r + bV m)
  case atStart => exact ⟨[], s.size + 1, s, HP1.out, rfl, rfl, rfl, by omega, by simp, by omega, hcp, HT.out, hJd _ _ _ hJ0⟩
  case round =>
    obtain ⟨pre, f, x, hat, rfl, rfl, rfl, hf, hlen, hxs, hcell, hct, hJ⟩ := hrel
    have hcons := ptl_cons sep f x (by omega)
    have HF := Lib.hid (show x.size < f ∧ pre.length + f = s.size + 1 ∧ x.size ≤ s.size from ⟨hf, hlen, hxs⟩)
    have HLE := Lib.hid (cut2_le x sep)
    have HLT := Lib.hid (cut2_lt x sep h0)
    have HLT2 := Lib.hid (cut2_lt (cut2 x sep) sep h0)
    have HLE2 := Lib.hid (cut2_le (cut2 x sep) sep)
    have HZ := Lib.hid (cut2_none (cut2 x sep) sep)
    have HCR := Lib.hid (fun u hu => HCut.out (cut2 x sep) (Nat.lt_of_le_of_lt HLE.out (Nat.lt_of_le_of_lt hxs hs)) u hu)
    rw [hcons] at hat
    have HAT := Lib.hid hat
    obtain ⟨fn, tmps, assign, body, hyy, hR⟩ := hY pre (cut1 x sep) wr hJ (by omega)
    have HCT := Lib.hid hct
    clear hcons hat hf hlen hxs hct
    cases hm : cut3 x sep with
    | false =>
      gi_wp2
      refine hR.mono ?_
      rintro e' W3 (⟨rfl, hJ3, hk3⟩ | ⟨rfl, hJx3⟩)
      · gi_wp2
        go_end0
        exact ⟨⟨_, rfl⟩, .inl ⟨pre ++ [cut1 x sep], by rw [HAT.out, hm]; rfl, hJ3⟩⟩
      · gi_wp2
        go_end0
        exact ⟨⟨_, rfl⟩, .inr ⟨_, by rw [HAT.out, hm]; exact List.prefix_refl _, hJx3⟩⟩
    | true =>
      gi_wp2
      refine hR.mono ?_
      rintro e' W3 (⟨rfl, hJ3, hk3⟩ | ⟨rfl, hJx3⟩)
      · have hc3 := (hk3.cell (p := ⟨Bp, 0, none⟩) hBp).trans hcell
        have HT3 := Lib.hid (HCT.out.keep hk3 h3)
        gi_wp2_with (refine ⟨trivial, ?_⟩; gi_at_call 66; ((with_reducible refine CallsIn.mono (callsIn_wide.2 (HCR.out _ HT3.out)) ?_); rintro e' w' ⟨rfl, k0, rfl⟩))
        go_roundw
        case rel =>
          obtain ⟨g1, g2, g3⟩ := HF.out
          exact ⟨pre ++ [cut1 x sep], f - 1, cut2 x sep, by rw [HAT.out, hm, List.append_assoc]; rfl, rfl, rfl, rfl, by have := HLT.out hm; omega, by simp; omega, Nat.le_trans HLE.out g3, hc3, HT3.out, hJd _ _ _ hJ3⟩
        case measure =>
          have q1 := HLT2.out
          have q2 := HZ.out
          simp only [szV]
          cases h2 : cut3 (cut2 x sep) sep with
          | true =>
            have := q1 h2
            show 2 * (cut2 (cut2 x sep) sep).size + 1 < 2 * (cut2 x sep).size + 1
            omega
          | false =>
            rw [q2 h2]
            show 2 * 0 + 0 < 2 * (cut2 x sep).size + 1
            omega
      · gi_wp2
        go_end0
        exact ⟨⟨_, rfl⟩, .inr ⟨_, ⟨_, by rw [HAT.out, hm, List.append_assoc]; rfl⟩, hJx3⟩⟩
end Go.Proofs.YtmfpaankkoaoaaaDoor
