/- Contracts of the reference's text and Made. -/
import Derived.Test.YtflpfmkfjccmiaaGreatDoorKa
namespace Go.Proofs.YtflpfmkfjccmiaaGreatDoor
open Go.RowKit
attribute [local go_sem ↓] append_appN

theorem infoB : (Tryz.prog.info? 5).map (fun i => (i.zero, i.size, i.bytes)) = some (some (.int .u8 0), 1, 1) := by kernel_rfl
theorem snoc_u8 {B : Nat} {w : World} {v : Value} {l : List UInt8} {n : Nat} {b : UInt8} {x : Int} {i0 : TypeInfo} (hi0 : Tryz.prog.info? 5 = some i0) (hz0 : i0.zero = some (.int .u8 0)) (hz1 : i0.size = 1) (hz2 : i0.bytes = 1)
    (hrow : w.ownsRow B 5 1 v n (Lib.byteCells l)) (hB : B ≤ w.heap.size) (hn : n ≤ 100000) (hx : x = (b.toNat : Int)) :
    ∃ v' w', Sem.run Tryz.prog (appN #[73, 73] 73 #[v, .slice (some ⟨w.heap.size, 0, none⟩) 1 1]) (w.alloc (.cells #[.int .u8 x] 5)) = .ok v' w' ∧
      w'.ownsRow B 5 1 v' (n + 1) (Lib.byteCells (l ++ [b])) ∧ Below B w w' := by
  subst hx
  obtain ⟨v', w', hrun, hown, hgr, _⟩ := run_append_own (P := Tryz.prog) (w.alloc (.cells #[.int .u8 (b.toNat : Int)] 5)) B 73 73 5 i0 (.int .u8 0) 1 1 Tryz.underlying73 hi0 hz0 hz1 hz2 rfl (by decide)
    v n _ (hrow.alloc _) ⟨w.heap.size, 0, none⟩ 1 1 [.int .u8 (b.toNat : Int)] rfl (fun j u h => cell_one_new _ _ _ j u h) (by simp [Value.oneCell']) (by unfold maxLen; omega) (by omega) (by simp; omega)
  refine ⟨v', w', hrun, ?_, ?_⟩
  · rw [show Lib.byteCells (l ++ [b]) = Lib.byteCells l ++ [.int .u8 (b.toNat : Int)] by simp [Lib.byteCells]]; exact hown
  · have h3 : Below B w (w.alloc (.cells #[.int .u8 (b.toNat : Int)] 5)) := (Below.refl _ w).alloc hB _
    exact ⟨hgr.os.trans h3.os, hgr.tape.trans h3.tape, hgr.output.trans h3.output, Nat.le_trans h3.size hgr.size, fun k hk =>
      (hgr.block k (by simp; omega) (fun e => by have := own_ge hrow k e.symm; omega)).trans (h3.block k hk)⟩
theorem own_string {w : World} {base g cap n : Nat} (l : List UInt8) (h : w.ownsRow base 5 1 (.slice (some ⟨g, 0, none⟩) n cap) n (Lib.byteCells l)) (hn : l.length = n) :
    Sem.run Tryz.prog (Go.convert 73 9 (.slice (some ⟨g, 0, none⟩) n cap)) w = .ok (strOf l) w := by
  subst hn
  refine run_convert_bytes_back w 73 9 5 ⟨g, 0, none⟩ cap l Tryz.underlying73 Tryz.underlying5 Tryz.underlying9 fun j hj => ?_
  have := h.cellAt j (by omega)
  rw [show (⟨g, 0, none⟩ : Addr).add j = ⟨g, j, none⟩ from by simp [Addr.add]; omega, this]
  simp [Lib.byteCells, List.getElem?_eq_getElem hj]
theorem dtxt_len (l : List Int) : (Im.dtxt l).length = l.length := by simp [Im.dtxt]
theorem dtxt_take {l : List Int} (k : Nat) (h : k < l.length) : (Im.dtxt l).take (k + 1) = (Im.dtxt l).take k ++ [UInt8.ofNat (48 + (l.getD (l.length - 1 - k) 0).toNat)] := by
  have hk : k < (Im.dtxt l).length := by rw [dtxt_len]; exact h
  have e : (Im.dtxt l)[k]'hk = UInt8.ofNat (48 + (l.getD (l.length - 1 - k) 0).toNat) := by
    simp only [Im.dtxt, List.getElem_map, List.getElem_reverse]
    rw [List.getD_eq_getElem?_getD, List.getElem?_eq_getElem (by omega)]
    rfl
  rw [List.take_succ_eq_append_getElem hk, e]

set_option maxRecDepth 100000 in
set_option maxHeartbeats 1000000 in
theorem text3_any (neg : Bool) (l : List Int) (A : Option Addr) (c : Nat) (w : World) (hv : Ints w w.heap.size (.slice A l.length c) l) (hd : Im.Dg l) (hl : l.length ≤ 200) :
    Calls Tryz.prog 26 #[.bool neg, .slice A l.length c] w fun e w' => e = .returned (.tuple #[strOf (Im.rtxt neg l), .bool true]) ∧ Below w.heap.size w w' := by
  obtain ⟨i0, hi0, hz0, hz1, hz2⟩ := info_parts infoB
  by_cases h0 : l = []
  · subst h0
    cases neg
    all_goals
      go_enter Tryz.func26, Tryz.ntmps26
      go_wp2
      go_ret2
      exact ⟨rfl, Below.refl _ _⟩
  obtain ⟨pre, hpre⟩ : ∃ pre : List UInt8, (if neg then [45] else []) = pre := ⟨_, rfl⟩
  have hr : Im.rtxt neg l = pre ++ Im.dtxt l := by
    unfold Im.rtxt
    rw [if_neg h0, ← hpre]
    cases neg <;> rfl
  have hn1 : 1 ≤ l.length := by
    rcases Nat.eq_zero_or_pos l.length with e | e
    · exact absurd (List.eq_nil_of_length_eq_zero e) h0
    · exact e
  rw [hr]
  have hdl := dtxt_len l
  have hdt := fun k (hk : k < l.length) => dtxt_take (l := l) k hk
  have hdg := fun k (hk : k < l.length) => hd (l.getD k 0) (by rw [List.getD_eq_getElem?_getD, List.getElem?_eq_getElem hk]; simp)
  have hvi := fun k hk => ints_at hv k hk
  obtain ⟨-, hc1, hc2⟩ := ints_cap hv
  obtain ⟨n, hn⟩ : ∃ n, l.length = n := ⟨_, rfl⟩
  rw [hn] at hdt hdl hl hn1 hc1 ⊢
  obtain ⟨T, hT⟩ : ∃ T, Im.dtxt l = T := ⟨_, rfl⟩
  rw [hT] at hdl hdt ⊢
  have hta : T.take n = T := List.take_of_length_le (by omega)
  have HN := Lib.hid hn; have HDT := Lib.hid hdt; have HDG := Lib.hid hdg; have HVI := Lib.hid hvi; have HTA := Lib.hid hta; have HDL := Lib.hid hdl
  have e0 : ((n : Int) == 0) = false := by rw [beq_eq_false_iff_ne]; omega
  have hs0 := snoc_u8 (B := w.heap.size) (w := w) (v := .slice none 0 0) (l := []) (n := 0) (b := 45) (x := 45) hi0 hz0 hz1 hz2 (World.ownsRow_nil _ _ _ _) (Nat.le_refl _) (by decide) rfl
  have s0 : IntKind.i64.wrap ((n : Int) - 1) = (n : Int) - 1 := IntWalk.i64_in _ (by omega)
  clear hn hdt hdg hvi hta hdl hv hd hT hr h0
  have LOOP : ∀ (v : Value) (W : World), W.ownsRow w.heap.size 5 1 v pre.length (Lib.byteCells pre) → Below w.heap.size w W → True := fun _ _ _ _ => trivial
  clear LOOP
  cases neg with
  | true =>
    obtain rfl : [45] = pre := hpre
    obtain ⟨v1, w1, hrun1, hown1, hb1⟩ := hs0
    have HO1 := Lib.hid hown1; have HB1 := Lib.hid hb1
    clear hown1 hb1
    go_enter Tryz.func26, Tryz.ntmps26
    go_wp2
    clear hrun1
    go_loopw [6, 7] (fun o i wr => ∃ k : Nat, k ≤ n ∧ i = .int .i64 ((n : Int) - 1 - (k : Int)) ∧ Hid (wr.ownsRow w.heap.size 5 1 o (1 + k) (Lib.byteCells ([45] ++ T.take k))) ∧ Hid (Below w.heap.size w wr)) (fun _ i _ => (intOf i + 1).toNat)
    case atStart => exact ⟨0, by omega, by go_num, HO1, HB1⟩
    case round =>
      obtain ⟨k, hk, rfl, HO, HB⟩ := hrel
      by_cases hlt : k < n
      · obtain ⟨g, off, rfl, hg, hcell⟩ := HVI.out (n - 1 - k) (by have := HN.out; omega)
        have c0 := (HB.out.cell (p := ⟨g, off + (n - 1 - k), none⟩) hg).trans (hcell (n - 1 - k) (by have := HN.out; omega))
        have hx := HDG.out (n - 1 - k) (by have := HN.out; omega)
        have ht := HDT.out k hlt
        obtain ⟨x, hxx⟩ : ∃ x, l.getD (n - 1 - k) 0 = x := ⟨_, rfl⟩
        rw [hxx] at c0 hx ht
        obtain ⟨b, hb⟩ : ∃ b, UInt8.ofNat (48 + x.toNat) = b := ⟨_, rfl⟩
        rw [hb] at ht
        have hbn : (b.toNat : Int) = 48 + x := by rw [← hb, u8_ofNat _ (by omega)]; omega
        obtain ⟨v2, w2, hrun, hown2, hb2⟩ := snoc_u8 (b := b) (x := 48 + x) hi0 hz0 hz1 hz2 HO.out HB.out.size (by omega) hbn.symm
        rw [List.append_assoc, ← ht] at hown2
        have HO2 := Lib.hid hown2; have HB2 := Lib.hid (HB.out.trans hb2)
        have i1 : (0 : Int) ≤ (n : Int) - 1 - (k : Int) := by omega
        have i2 : (n : Int) - 1 - (k : Int) < (n : Int) := by omega
        have i3 : ((n : Int) - 1 - (k : Int)).toNat = n - 1 - k := by omega
        have i5 : IntKind.u8.wrap (48 + x) = 48 + x := by rw [IntKind.wrap_u8]; omega
        have i6 : IntKind.i64.wrap (48 + x) = 48 + x := IntWalk.i64_in _ (by omega)
        clear hcell hxx hb hbn hown2 hb2 ht
        go_wp2
        go_roundw
        case rel => exact ⟨k + 1, by omega, by go_num, by rw [show 1 + (k + 1) = 1 + k + 1 by omega]; exact HO2, HB2⟩
        case measure => simp [intOf]; omega
      · obtain rfl : k = n := by omega
        have hown := HO.out
        rw [HTA.out, show 1 + k = k + 1 by omega] at hown
        obtain ⟨g, cap, rfl⟩ := ownsRow_succ hown
        have hcv := own_string ([45] ++ T) hown (by rw [List.length_append, HDL.out]; simp; omega)
        have i1 : decide ((k : Int) ≤ 200) = true := decide_eq_true (by omega)
        clear hown
        go_wp2
        go_ret2
        exact ⟨rfl, HB.out⟩
  | false =>
    obtain rfl : [] = pre := hpre
    clear hs0
    go_enter Tryz.func26, Tryz.ntmps26
    go_wp2
    go_loopw [6, 7] (fun o i wr => ∃ k : Nat, k ≤ n ∧ i = .int .i64 ((n : Int) - 1 - (k : Int)) ∧ Hid (wr.ownsRow w.heap.size 5 1 o k (Lib.byteCells (T.take k))) ∧ Hid (Below w.heap.size w wr)) (fun _ i _ => (intOf i + 1).toNat)
    case atStart => exact ⟨0, by omega, by go_num, Lib.hid (World.ownsRow_nil _ _ _ _), Lib.hid (Below.refl _ _)⟩
    case round =>
      obtain ⟨k, hk, rfl, HO, HB⟩ := hrel
      by_cases hlt : k < n
      · obtain ⟨g, off, rfl, hg, hcell⟩ := HVI.out (n - 1 - k) (by have := HN.out; omega)
        have c0 := (HB.out.cell (p := ⟨g, off + (n - 1 - k), none⟩) hg).trans (hcell (n - 1 - k) (by have := HN.out; omega))
        have hx := HDG.out (n - 1 - k) (by have := HN.out; omega)
        have ht := HDT.out k hlt
        obtain ⟨x, hxx⟩ : ∃ x, l.getD (n - 1 - k) 0 = x := ⟨_, rfl⟩
        rw [hxx] at c0 hx ht
        obtain ⟨b, hb⟩ : ∃ b, UInt8.ofNat (48 + x.toNat) = b := ⟨_, rfl⟩
        rw [hb] at ht
        have hbn : (b.toNat : Int) = 48 + x := by rw [← hb, u8_ofNat _ (by omega)]; omega
        obtain ⟨v2, w2, hrun, hown2, hb2⟩ := snoc_u8 (b := b) (x := 48 + x) hi0 hz0 hz1 hz2 HO.out HB.out.size (by omega) hbn.symm
        rw [← ht] at hown2
        have HO2 := Lib.hid hown2; have HB2 := Lib.hid (HB.out.trans hb2)
        have i1 : (0 : Int) ≤ (n : Int) - 1 - (k : Int) := by omega
        have i2 : (n : Int) - 1 - (k : Int) < (n : Int) := by omega
        have i3 : ((n : Int) - 1 - (k : Int)).toNat = n - 1 - k := by omega
        have i5 : IntKind.u8.wrap (48 + x) = 48 + x := by rw [IntKind.wrap_u8]; omega
        have i6 : IntKind.i64.wrap (48 + x) = 48 + x := IntWalk.i64_in _ (by omega)
        clear hcell hxx hb hbn hown2 hb2 ht
        go_wp2
        go_roundw
        case rel => exact ⟨k + 1, by omega, by go_num, HO2, HB2⟩
        case measure => simp [intOf]; omega
      · obtain ⟨m, hm⟩ : ∃ m, n = m + 1 := ⟨n - 1, by omega⟩
        obtain rfl : k = n := by omega
        have hown := HO.out
        rw [HTA.out] at hown
        have hown' := hown
        rw [hm] at hown'
        obtain ⟨g, cap, rfl⟩ := ownsRow_succ hown'
        rw [← hm] at hown ⊢
        have hcv := own_string T hown HDL.out
        have i1 : decide ((k : Int) ≤ 200) = true := decide_eq_true (by omega)
        clear hown hown' hm
        go_wp2
        go_ret2
        exact ⟨rfl, HB.out⟩
end Go.Proofs.YtflpfmkfjccmiaaGreatDoor
