/- The iterator parts over the members of its list: what a loop is handed is known to be a part. -/
import Derived.Test.YtmfpaankkoaoaaaDoorUu
namespace Go.Proofs.YtmfpaankkoaoaaaDoor
open Go.RowKit Go.Shelf
attribute [local go_sem] Oper.semAt_some

/-- A part of s. -/
abbrev PartOf (s sep : ByteArray) := { x : ByteArray // x ∈ ptl sep (s.size + 1) s }
theorem cut1_le (s sep : ByteArray) : (cut1 s sep).size ≤ s.size := by
  unfold cut1 Lib.cut
  show (List.toArray _).size ≤ s.data.size
  rw [List.size_toArray]
  split
  · simp; omega
  · simp
theorem ptl_size (sep : ByteArray) : ∀ (f : Nat) (s x : ByteArray), x ∈ ptl sep f s → x.size ≤ s.size
  | 0, s, x, h => by cases h
  | f + 1, s, x, h => by
    unfold ptl at h
    rcases List.mem_cons.1 h with rfl | h
    · exact cut1_le s sep
    · split at h
      · exact Nat.le_trans (ptl_size sep f _ x h) (cut2_le s sep)
      · cases h
theorem rest_nil {s sep : ByteArray} {rest : List (PartOf s sep)} {L : List ByteArray} {m : Bool} (h : rest.map (·.1) = if m then L else []) (hm : m = false) : rest = [] := by
  subst hm
  exact List.map_eq_nil_iff.1 (h.trans (if_neg (by decide)))
set_option maxRecDepth 100000 in
set_option maxHeartbeats 2000000 in
theorem parts1_mem (n : Nat) (hn : 1 ≤ n) (l Bs Bp n₀ : Nat) (s sep : ByteArray) (hs : s.size < 4294967281) (h0 : sep.data.toList ≠ []) (h3 : 3 < n₀) (hBp : Bp < n₀) (J Jx : List (PartOf s sep) → World → Prop)
    (hY : ∀ pre x W, J pre W → pre.length < s.size + 1 → YieldAt Fence.wide (n - 1) Tryd.prog l #[.string x.1] W fun e W' =>
      (e = .returned (.bool true) ∧ J (pre ++ [x]) W' ∧ Below n₀ W W') ∨ (e = .returned (.bool false) ∧ Jx (pre ++ [x]) W'))
    (hJd : ∀ pre W k, J pre W → J pre (W.drewN k))
    (W : World) (hcs : W.cell? ⟨Bs, 0, none⟩ = some (.string s)) (hcp : W.cell? ⟨Bp, 0, none⟩ = some (.string sep)) (hT : CutT W) (hJ0 : J [] W) :
    CallsIn Fence.wide n Tryd.prog 65 #[.func (.yield l) #[] #[], .pointer (some ⟨Bs, 0, none⟩), .pointer (some ⟨Bp, 0, none⟩)] W fun e W' => (∃ v, e = .returned v) ∧
      ((∃ ys, ys = (ptl sep (s.size + 1) s).attach ∧ J ys W') ∨ (∃ pre, pre <+: (ptl sep (s.size + 1) s).attach ∧ Jx pre W')) := by
  have HCut := Lib.hid (fun (x : ByteArray) (hx : x.size < 4294967281) u (hu : CutT u) => cut_drew x sep u hx hu)
  have HT := Lib.hid hT
  have HC1 := Lib.hid (HCut.out s hs W HT.out)
  have HP1 := Lib.hid (List.attach_map_subtype_val (ptl sep (s.size + 1) s))
  obtain ⟨full, hfull⟩ : ∃ f, (ptl sep (s.size + 1) s).attach = f := ⟨_, rfl⟩
  rw [hfull] at HP1 ⊢
  clear hfull hT
  refine callsIn_of_wp Tryd.func65 rfl trivial ?_ rfl
  simp only [Tryd.ntmps65, List.size_toArray, List.length_cons, List.length_nil, Nat.reduceAdd, Nat.reduceSub, Array.replicate_succ, Array.replicate_zero, List.push_toArray, List.append_toArray, List.nil_append, List.cons_append]
  gi_wp2_with (refine ⟨trivial, ?_⟩; gi_at_call 66; ((with_reducible refine CallsIn.mono (callsIn_wide.2 (HC1.out)) ?_); rintro e' w' ⟨rfl, k0, rfl⟩))
  gi_loopw [4, 5, 6] (fun t r m wr => ∃ (pre rest : List (PartOf s sep)) (f : Nat) (x : ByteArray), full = pre ++ rest ∧ rest.map (·.1) = ptl sep f x ∧ t = .string (cut1 x sep) ∧ r = .string (cut2 x sep) ∧ m = .bool (cut3 x sep) ∧ x.size < f ∧ pre.length + f = s.size + 1 ∧ x.size ≤ s.size ∧ wr.cell? ⟨Bp, 0, none⟩ = some (.string sep) ∧ CutT wr ∧ J pre wr)
    (fun _ r m _ => 2 * szV r + bV m)
  case atStart => exact ⟨[], full, s.size + 1, s, rfl, HP1.out, rfl, rfl, rfl, by omega, by simp, by omega, hcp, HT.out, hJd _ _ _ hJ0⟩
  case round =>
    obtain ⟨pre, rest, f, x, hat, hmap, rfl, rfl, rfl, hf, hlen, hxs, hcell, hct, hJ⟩ := hrel
    have hcons := ptl_cons sep f x (by omega)
    have HF := Lib.hid (show x.size < f ∧ pre.length + f = s.size + 1 ∧ x.size ≤ s.size from ⟨hf, hlen, hxs⟩)
    have HLE := Lib.hid (cut2_le x sep)
    have HLT := Lib.hid (cut2_lt x sep h0)
    have HLT2 := Lib.hid (cut2_lt (cut2 x sep) sep h0)
    have HLE2 := Lib.hid (cut2_le (cut2 x sep) sep)
    have HZ := Lib.hid (cut2_none (cut2 x sep) sep)
    have HCR := Lib.hid (fun u hu => HCut.out (cut2 x sep) (Nat.lt_of_le_of_lt HLE.out (Nat.lt_of_le_of_lt hxs hs)) u hu)
    obtain ⟨y, rest, rfl⟩ : ∃ y r, rest = y :: r := by
      cases rest with
      | nil => rw [hcons] at hmap; cases hmap
      | cons y r => exact ⟨y, r, rfl⟩
    rw [hcons, List.map_cons] at hmap
    have hy1 : y.1 = cut1 x sep := (List.cons.inj hmap).1
    have HM := Lib.hid (List.cons.inj hmap).2
    have HAT := Lib.hid hat
    obtain ⟨fn, tmps, assign, body, hyy, hR⟩ := hY pre y wr hJ (by omega)
    rw [hy1] at hyy
    have HCT := Lib.hid hct
    clear hcons hmap hat hy1 hf hlen hxs hct
    cases hm : cut3 x sep with
    | false =>
      gi_wp2
      refine hR.mono ?_
      rintro e' W3 (⟨rfl, hJ3, hk3⟩ | ⟨rfl, hJx3⟩)
      · gi_wp2
        go_end0
        exact ⟨⟨_, rfl⟩, .inl ⟨pre ++ [y], by rw [HAT.out, rest_nil HM.out hm], hJ3⟩⟩
      · gi_wp2
        go_end0
        exact ⟨⟨_, rfl⟩, .inr ⟨_, ⟨rest, by rw [HAT.out]; simp⟩, hJx3⟩⟩
    | true =>
      gi_wp2
      refine hR.mono ?_
      rintro e' W3 (⟨rfl, hJ3, hk3⟩ | ⟨rfl, hJx3⟩)
      · have hc3 := (hk3.cell (p := ⟨Bp, 0, none⟩) hBp).trans hcell
        have HT3 := Lib.hid (HCT.out.keep hk3 h3)
        gi_wp2_with (refine ⟨trivial, ?_⟩; gi_at_call 66; ((with_reducible refine CallsIn.mono (callsIn_wide.2 (HCR.out _ HT3.out)) ?_); rintro e' w' ⟨rfl, k0, rfl⟩))
        go_roundw
        case rel =>
          obtain ⟨g1, g2, g3⟩ := HF.out
          exact ⟨pre ++ [y], rest, f - 1, cut2 x sep, by rw [HAT.out, List.append_assoc]; rfl, by have := HM.out; rw [hm] at this; exact this, rfl, rfl, rfl, by have := HLT.out hm; omega, by simp; omega, Nat.le_trans HLE.out g3, hc3, HT3.out, hJd _ _ _ hJ3⟩
        case measure =>
          have q1 := HLT2.out
          have q2 := HZ.out
          simp only [szV]
          cases h2 : cut3 (cut2 x sep) sep with
          | true =>
            have := q1 h2
            show 2 * (cut2 (cut2 x sep) sep).size + 1 < 2 * (cut2 x sep).size + 1
            omega
          | false =>
            rw [q2 h2]
            show 2 * 0 + 0 < 2 * (cut2 x sep).size + 1
            omega
      · gi_wp2
        go_end0
        exact ⟨⟨_, rfl⟩, .inr ⟨_, ⟨rest, by rw [HAT.out]; simp⟩, hJx3⟩⟩
theorem parts_stops (n : Nat) (hn : 1 ≤ n) (Bs Bp n₀ : Nat) (s sep : ByteArray) (hs : s.size < 4294967281) (h0 : sep.data.toList ≠ []) (h3 : 3 < n₀) (hBs : Bs < n₀) (hBp : Bp < n₀) (w : World) (hn₀ : n₀ ≤ w.heap.size)
    (hcs : w.cell? ⟨Bs, 0, none⟩ = some (.string s)) (hcp : w.cell? ⟨Bp, 0, none⟩ = some (.string sep)) (hT : CutT w) :
    SeqStopsK Fence.wide n Tryd.prog 65 #[.pointer (some ⟨Bs, 0, none⟩), .pointer (some ⟨Bp, 0, none⟩)] (fun x : PartOf s sep => #[.string x.1]) (Below n₀) (fun ys => ys = (ptl sep (s.size + 1) s).attach) (fun pre => pre <+: (ptl sep (s.size + 1) s).attach) (s.size + 1) w :=
  fun l J Jx W hW hJ _ hY hJ0 => parts1_mem n hn l Bs Bp n₀ s sep hs h0 h3 hBp J Jx hY (fun pre W k h => hJ pre W (W.drewN k) none h (have hb := belowN (Below.refl W.heap.size W) k; ⟨hb.os, hb.tape, hb.output, hb.size, fun j hj _ => hb.block j hj⟩) (fun r e => by cases e)) W
    ((hW.cell (p := ⟨Bs, 0, none⟩) (Nat.lt_of_lt_of_le hBs hn₀)).trans hcs) ((hW.cell (p := ⟨Bp, 0, none⟩) (Nat.lt_of_lt_of_le hBp hn₀)).trans hcp) (hT.keep hW (Nat.lt_of_lt_of_le h3 hn₀)) hJ0
end Go.Proofs.YtmfpaankkoaoaaaDoor
