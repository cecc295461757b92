/- Contracts of magnitudeOf and what it calls. Numbers with a sign; contracts of signed and isZero. Contracts of gcd, times and minus of numbers. Contract of plus of numbers. Contracts of minus and compare of numbers; results in two cells. Contract of over of numbers. Contract of over of numbers: the walk. Contracts of the builder's copyCheck and WriteString (the shelf doesn't lay them in this program). -/
import Derived.Test.YtabkodpjhpjgnaaGreatDoorA3
import Derived.Laws.IdiomStrings
import Derived.Laws.DeepStrings4
import Derived.Shelf.Strings.BuilderK
namespace Go.Proofs.YtabkodpjhpjgnaaGreatDoor
open Go.RowKit
attribute [local go_sem ↓] append_appN

theorem bs_sub (l : List UInt8) (a b : Nat) : (bs l).extract a b = bs ((l.take b).drop a) := by
  unfold bs
  apply ByteArray.ext
  rw [ByteArray.data_extract]
  show (List.toArray l).extract a b = _
  rw [List.extract_toArray, List.extract_eq_take_drop, List.drop_take]
theorem dv_cut (d : List UInt8) (t : Nat) (h : t ≤ d.length) : Im.dv (d.take t) = Im.dv (d.take (t - 4)) * 10000 + Im.dv ((d.take t).drop (t - 4)) := by
  by_cases h4 : 4 ≤ t
  · exact Im.dv_take d t h h4
  · rw [show t - 4 = 0 by omega, List.take_zero, List.drop_zero, Im.dv_nil]; omega

set_option maxHeartbeats 400000 in
theorem digit_any (s c : Nat) (w : World) (hs : s ≤ 1000) (h1 : 48 ≤ c) (h2 : c ≤ 57) :
    Calls Tryz.prog 149 #[.int .i64 (s : Int), .int .u8 (c : Int)] w fun e w' => e = .returned (.int .i64 ((10 * s + (c - 48) : Nat) : Int)) ∧ w = w' := by
  have e0 : ((10 * s + (c - 48) : Nat) : Int) = 10 * (s : Int) + ((c : Int) - 48) := by omega
  have e1 : IntKind.i64.wrap (10 * (s : Int)) = 10 * (s : Int) := IntWalk.i64_in _ (by omega)
  have e2 : IntKind.u8.wrap ((c : Int) - 48) = (c : Int) - 48 := by rw [IntKind.wrap_u8]; omega
  have e3 : IntKind.i64.wrap ((c : Int) - 48) = (c : Int) - 48 := IntWalk.i64_in _ (by omega)
  have e4 : IntKind.i64.wrap (10 * (s : Int) + ((c : Int) - 48)) = 10 * (s : Int) + ((c : Int) - 48) := IntWalk.i64_in _ (by omega)
  rw [e0]
  clear e0
  go_enter Tryz.func149, Tryz.ntmps149
  go_wp2
  go_ret
  exact ⟨rfl, rfl⟩

set_option maxRecDepth 100000 in
set_option maxHeartbeats 1000000 in
theorem foldb_any (l : List UInt8) (g c : Nat) (w : World) (hc : ∀ j (h : j < l.length), w.cell? ⟨g, j, none⟩ = some (.int .u8 ((l[j].toNat : Nat) : Int))) (hd : Im.digs l = true) (hl : l.length ≤ 4) :
    Calls Tryz.prog 148 #[.slice (some ⟨g, 0, none⟩) l.length c, .int .i64 0, .func (.func 149) #[] #[]] w fun e w' => e = .returned (.int .i64 ((Im.dv l : Nat) : Int)) ∧ w = w' := by
  obtain ⟨n, hn⟩ : ∃ n, l.length = n := ⟨_, rfl⟩
  rw [hn] at hl ⊢
  have HC := Lib.hid hc; have HD := Lib.hid hd; have HN := Lib.hid hn
  clear hc hd hn
  go_enter Tryz.func148, Tryz.ntmps148
  go_wp2
  go_loopw [1, 8, 11] (fun s _ i wr => ∃ k : Nat, k ≤ n ∧ i = .int .i64 (k : Int) ∧ s = .int .i64 ((Im.dv (l.take k) : Nat) : Int) ∧ w = wr) (fun _ _ i _ => n - (intOf i).toNat)
  case atStart => exact ⟨0, by omega, rfl, rfl, rfl⟩
  case round =>
    obtain ⟨k, hk, rfl, rfl, rfl⟩ := hrel
    by_cases hlt : k < n
    · have hkl : k < l.length := by have := HN.out; omega
      have c0 := HC.out k hkl
      have hdg := Im.digs_at HD.out k hkl
      have htk : l.take (k + 1) = l.take k ++ [l[k]] := List.take_succ_eq_append_getElem hkl
      have hst := Im.dv_snoc (l.take k) l[k]
      rw [← htk] at hst
      have hdl := Im.dv_lt (l.take k) (Im.digs_take HD.out k)
      have hlk : (l.take k).length ≤ 3 := by rw [List.length_take]; omega
      have hp : 10 ^ (l.take k).length ≤ 10 ^ 3 := Nat.pow_le_pow_right (by decide) hlk
      obtain ⟨x, hx⟩ : ∃ x, l[k].toNat = x := ⟨_, rfl⟩
      rw [hx] at c0 hdg hst
      obtain ⟨s, hs⟩ : ∃ s, Im.dv (l.take k) = s := ⟨_, rfl⟩
      rw [hs] at hst hdl ⊢
      have hda := digit_any s x w (by omega) hdg.1 hdg.2
      have HDA := Lib.hid hda; have HST := Lib.hid hst
      have i1 : (0 : Int) ≤ (k : Int) := by omega
      have i2 : (k : Int) < (n : Int) := by omega
      clear hda hst hdl hlk hp htk hx hs hdg
      go_wp2_with (go_at_call 149; refine HDA.out.mono ?_; rintro e w1 ⟨rfl, rfl⟩)
      go_roundw
      case rel => exact ⟨k + 1, by omega, by go_num, by rw [HST.out, Int.natCast_add, Int.natCast_mul]; rfl, trivial⟩
      case measure => simp [intOf]; omega
    · have hta : l.take k = l := List.take_of_length_le (by have := HN.out; omega)
      rw [hta]
      go_wp2
      go_ret
      exact ⟨rfl, rfl⟩

theorem mag_step (D a b p L g : Int) (h : D = a * p + L) (ha : a = b * 10000 + g) : D = b * (p * 10000) + (L + p * g) := by
  rw [h, ha, Int.add_mul, Int.mul_assoc, Int.mul_comm 10000 p, Int.mul_comm g p]; omega

set_option maxRecDepth 100000 in
set_option maxHeartbeats 2000000 in
theorem magOf_any (d : List UInt8) (w : World) (hd : Im.digs d = true) (hl : d.length ≤ 200) :
    Calls Tryz.prog 126 #[.string (bs d)] w (MagPost (Im.dv d) w) := by
  obtain ⟨i0, hi0, hz0, hz1, hz2⟩ := info_parts Tryz.infoInt
  have hsz := bs_size d
  have hsub := bs_sub d
  have hcut := dv_cut d
  have hpd := fun t => Im.digs_drop (Im.digs_take hd t) (t - 4)
  obtain ⟨S, hS⟩ : ∃ S, bs d = S := ⟨_, rfl⟩
  obtain ⟨N, hN⟩ : ∃ n, d.length = n := ⟨_, rfl⟩
  have hall : d.take N = d := List.take_of_length_le (by omega)
  rw [hS] at hsz hsub ⊢
  rw [hN] at hsz hl hcut
  have hsn := fun (u : World) (v : Value) (n : Nat) (l : List Int) (x : Int) (hrow : u.ownsRow w.heap.size 3 1 v n (intCells l)) (h1 : n ≤ 100000) (h2 : w.heap.size ≤ u.heap.size) => snoc_int (w := u) (x := x) hi0 hz0 hz1 hz2 hrow h1 h2
  have HSUB := Lib.hid hsub; have HCUT := Lib.hid hcut; have HPD := Lib.hid hpd; have HN := Lib.hid hN; have HALL := Lib.hid hall; have HSN := Lib.hid hsn; have HD := Lib.hid hd
  clear hd hS hN hall hsub hcut hpd hsn hi0 hz0 hz1 hz2
  go_enter Tryz.func126, Tryz.ntmps126
  go_wp2
  go_loopw [3, 4, 5] (fun v t _ wr => ∃ (k : Nat) (L : List Int), t = .int .i64 ((N : Int) - 4 * (k : Int)) ∧ 4 * k ≤ N + 3 ∧ Hid (L.length = k ∧ Im.Gs L ∧ ((Im.dv d : Nat) : Int) = ((Im.dv (d.take (N - 4 * k)) : Nat) : Int) * 10000 ^ k + Im.val L) ∧ Hid (wr.ownsRow w.heap.size 3 1 v k (intCells L)) ∧ Hid (Below w.heap.size w wr)) (fun _ t _ _ => (intOf t).toNat)
  case atStart => exact ⟨0, [], by go_num, by omega, Lib.hid ⟨rfl, Im.Gs.nil, by rw [Nat.mul_zero, Nat.sub_zero, HALL.out]; simp [Im.val]⟩, Lib.hid (World.ownsRow_nil _ _ _ _), Lib.hid (Below.refl _ _)⟩
  case round =>
    obtain ⟨k, L, rfl, hk, HI, HO, HB⟩ := hrel
    obtain ⟨A, c, rfl⟩ := own_slice HO.out
    by_cases h0 : 4 * k < N
    · obtain ⟨T, hT⟩ : ∃ T, N - 4 * k = T := ⟨_, rfl⟩
      have et : (N : Int) - 4 * (k : Int) = (T : Int) := by omega
      rw [et]
      have hI := HI.out
      rw [hT] at hI
      have hct := HCUT.out T (by omega)
      have hpl : ((d.take T).drop (T - 4)).length ≤ 4 := by rw [List.length_drop, List.length_take]; omega
      have hpg := HPD.out T
      have hplt := Im.dv_lt _ hpg
      have hps : (bs ((d.take T).drop (T - 4))).size = ((d.take T).drop (T - 4)).length := bs_size _
      have hsb := HSUB.out (T - 4) T
      obtain ⟨p, hp⟩ : ∃ p, (d.take T).drop (T - 4) = p := ⟨_, rfl⟩
      rw [hp] at hct hpl hpg hplt hps hsb
      have hp4 : 10 ^ p.length ≤ 10 ^ 4 := Nat.pow_le_pow_right (by decide) hpl
      obtain ⟨lo, hlo⟩ : ∃ lo, T - 4 = lo := ⟨_, rfl⟩
      rw [hlo] at hct hsb
      have hmx := fun (w : World) => run_max2 (P := Tryz.prog) (w := w) #[3, 3] 3 .i64 .i64 0 ((T : Int) - 4) lo (by omega)
      have hsl : ∀ w, (Instr.slice 9 (.string S) (some (.int .i64 (lo : Int))) (some (.int .i64 (T : Int))) none).run Tryz.prog w = .ok (.string (bs p)) w := fun w => by
        rw [run_slice_string w 9 S .i64 .i64 lo T Tryz.underlying9 (by omega) (by omega) (by rw [hsz]; omega), Int.toNat_natCast, Int.toNat_natCast, hsb]
      have hcv := run_bytes_of_string (P := Tryz.prog) wr 9 48 5 (bs p) Tryz.underlying9 Tryz.underlying48 Tryz.underlying5
      rw [hps] at hcv
      obtain ⟨C, hC⟩ : ∃ C, grownCap wr p.length 0 5 = C := ⟨_, rfl⟩
      rw [hC] at hcv
      obtain ⟨W1, hW1⟩ : ∃ W1, wr.drew.alloc (.cells (bytesRow (bs p) C) 5 ((bytesRow (bs p) C).size, (bytesRow (bs p) C).size + 1)) = W1 := ⟨_, rfl⟩
      rw [hW1] at hcv
      have hb1 : Below wr.heap.size wr W1 := by rw [← hW1]; exact ((Below.refl _ wr).drew).alloc (Nat.le_refl _) _
      have hcl : ∀ j (h : j < p.length), W1.cell? ⟨wr.heap.size, j, none⟩ = some (.int .u8 ((p[j].toNat : Nat) : Int)) := fun j h => by
        rw [← hW1, cell_of_row _ wr.heap.size j _ 5 _ (heap_alloc_new wr.drew _), bytesRow_at _ _ j (by simpa [bs] using h)]
        simp [bs]
      have hfd := foldb_any p wr.heap.size C W1 hcl hpg hpl
      obtain ⟨g, hg⟩ : ∃ g, Im.dv p = g := ⟨_, rfl⟩
      rw [hg] at hfd hct hplt
      have hg4 : g < 10000 := Nat.lt_of_lt_of_le hplt hp4
      have hob := own_below HO.out hb1 (fun k e => own_lt HO.out k e)
      obtain ⟨v', w', hrun, hown, hgr⟩ := HSN.out W1 _ k L (g : Int) hob (by omega) (by have := HB.out.size; have := hb1.size; omega)
      have hbw := grown_below hob (by have := HB.out.size; have := hb1.size; omega) hgr
      obtain ⟨A', c', rfl⟩ := own_slice hown
      have HF := Lib.hid hfd; have HO' := Lib.hid hown
      have HB' := Lib.hid ((HB.out.trans (hb1.mono HB.out.size)).trans hbw)
      have HI' : Hid ((L ++ [(g : Int)]).length = k + 1 ∧ Im.Gs (L ++ [(g : Int)]) ∧ ((Im.dv d : Nat) : Int) = ((Im.dv (d.take (N - 4 * (k + 1))) : Nat) : Int) * 10000 ^ (k + 1) + Im.val (L ++ [(g : Int)])) := Lib.hid ⟨by rw [List.length_append, hI.1]; rfl, hI.2.1.append (Im.Gs.cons (by omega) (by omega) Im.Gs.nil), by
        rw [show N - 4 * (k + 1) = lo by omega, Im.val_snoc, hI.1, Int.pow_succ]
        exact mag_step _ _ _ _ _ _ hI.2.2 (by rw [hct]; push_cast; rfl)⟩
      clear hI hct hpl hpg hplt hps hsb hp4 hcl hfd hg4 hob hown hgr hbw hp hW1 hC hg hb1
      have i1 : (0 : Int) < (T : Int) := by omega
      have i2 : IntKind.i64.wrap ((T : Int) - 4) = (T : Int) - 4 := IntWalk.i64_in _ (by omega)
      go_wp2_with (go_at_call 148; refine HF.out.mono ?_; rintro e w1 ⟨rfl, rfl⟩)
      go_roundw
      case rel => exact ⟨k + 1, _, by go_num, by omega, HI', HO', HB'⟩
      case measure => simp [intOf]; omega
    · have hI := HI.out
      rw [show N - 4 * k = 0 by omega, List.take_zero, Im.dv_nil] at hI
      have hii := ints_of_own HO.out hI.1
      rw [← hI.1] at hii
      have htr := trimmed_any L A c wr hii
      have hmg := trimmed_ints hii (Im.dv d) hI.2.1 (by have := hI.2.2; simp at this; exact this.symm)
      rw [hI.1] at htr
      have HT := Lib.hid htr; have HMG := Lib.hid hmg
      have i1 : ¬ ((0 : Int) < (N : Int) - 4 * (k : Int)) := by omega
      clear hI hii htr hmg
      go_wp2_with (go_at_call 138; refine HT.out.mono ?_; rintro e w1 ⟨rfl, rfl⟩)
      go_ret
      exact ⟨_, rfl, HMG.out, HB.out⟩
end Go.Proofs.YtabkodpjhpjgnaaGreatDoor

namespace Go.Proofs.YtabkodpjhpjgnaaGreatDoor
open Go.RowKit

/-- A number with a sign. -/
def Num (w : World) (x : Value) (z : Int) : Prop := ∃ v, x = .agg #[.bool (decide (z < 0)), v] ∧ Mag w v z.natAbs
theorem Num.next {w w' : World} {x : Value} {z : Int} (h : Num w x z) (hb : Below w.heap.size w w') : Num w' x z := by
  obtain ⟨v, h1, h2⟩ := h
  exact ⟨v, h1, h2.next hb⟩
def NumPost (z : Int) (w : World) (e : Ending) (w' : World) : Prop := ∃ x, e = .returned x ∧ Num w' x z ∧ Below w.heap.size w w'

theorem results_num {fn : Func} {p : Tmp} (h : fn.results = #[.cell p 99]) (tmps : Array Value) (w : World) (g : Nat) (b v : Value) (hp : tmps.getD p undef = .pointer (some ⟨g, 0, none⟩)) (hg : Row w g 99 #[b, v]) :
    (results fn tmps).run Tryz.prog w = .ok (.agg #[b, v]) w :=
  results_cell_row h tmps w g 99 #[b, v] (0, 0) _ hp hg Tryz.underlying99 rfl (by kernel_rfl)
theorem num_of {w : World} {b : Bool} {v : Value} {z : Int} {n : Nat} (hb : b = decide (z < 0)) (hn : z.natAbs = n) (hv : Mag w v n) : Num w (.agg #[.bool b, v]) z := by
  subst hb; subst hn; exact ⟨v, rfl, hv⟩

set_option maxRecDepth 100000 in
set_option maxHeartbeats 1000000 in
theorem signed_any (neg : Bool) (v : Value) (n : Nat) (w : World) (hv : Mag w v n) :
    Calls Tryz.prog 105 #[.bool neg, v] w (NumPost (if neg then -(n : Int) else (n : Int)) w) := by
  have hz := isZero_any v n (w.alloc (.cells #[.bool false, .slice none 0 0] 99)) (hv.next ((Below.refl _ _).alloc (Nat.le_refl _) _))
  obtain ⟨A, c, rfl, hc1, hc2⟩ := ints_form hv
  have HZ := Lib.hid hz
  cases neg with
  | false =>
    go_enter Tryz.func105, Tryz.ntmps105
    go_wp2
    refine bodyPost_ret (results_num rfl _ _ w.heap.size _ _ rfl (Row.new w _ _)) rfl ?_
    exact ⟨_, rfl, num_of (by rw [decide_eq_false (by omega)]) (by omega) (hv.next ((Below.refl _ _).alloc (Nat.le_refl _) _)), (Below.refl _ _).alloc (Nat.le_refl _) _⟩
  | true =>
    go_enter Tryz.func105, Tryz.ntmps105
    go_wp2_with (go_at_call 116; refine HZ.out.mono ?_; rintro e w1 ⟨rfl, rfl⟩)
    refine bodyPost_ret (results_num rfl _ _ w.heap.size _ _ rfl (Row.new w _ _)) rfl ?_
    refine ⟨_, rfl, num_of ?_ (by omega) (hv.next ((Below.refl _ _).alloc (Nat.le_refl _) _)), (Below.refl _ _).alloc (Nat.le_refl _) _⟩
    by_cases h0 : n = 0
    · rw [decide_eq_true h0, decide_eq_false (by omega)]; rfl
    · rw [decide_eq_false h0, decide_eq_true (by omega)]; rfl

theorem Num.parts {w : World} {x : Value} {z : Int} (h : Num w x z) : ∃ b A n c, x = .agg #[.bool b, .slice A n c] ∧ b = decide (z < 0) ∧ Mag w (.slice A n c) z.natAbs := by
  obtain ⟨v, rfl, hv⟩ := h
  obtain ⟨A, c, rfl, _, _⟩ := ints_form hv
  exact ⟨_, A, _, c, rfl, rfl, hv⟩
theorem ints_setBox {X : World} {B g j : Nat} {t : TypeId} {cs : Array Value} {v z : Value} {l : List Int} (h : Ints X B v l) (hr : Row X g t cs) (hn : ∀ (i : Nat) (n : Int), cs[i]? ≠ some (.int .i64 n)) : Ints (X.setCell ⟨g, j, none⟩ z) B v l := by
  obtain ⟨A, c, h1, h2, h3, h4⟩ := h
  refine ⟨A, c, h1, h2, h3, ?_⟩
  rcases h4 with h4 | ⟨g', off, h4, h5, h6⟩
  · exact .inl h4
  · refine .inr ⟨g', off, h4, h5, fun k x hj => ?_⟩
    have h7 := h6 k x hj
    by_cases e : g' = g
    · subst e
      rw [hr.cell] at h7
      exact absurd h7 (hn _ _)
    · rw [← h7]; exact World.cell?_of_block (Below.heap_setCell X ⟨g, j, none⟩ z g' (by simpa using e))
theorem no_int2 (b : Bool) (A : Option Addr) (n c : Nat) : ∀ (i : Nat) (m : Int), (#[.bool b, .slice A n c] : Array Value)[i]? ≠ some (.int .i64 m) := by
  intro i m h
  match i with
  | 0 => simp at h
  | 1 => simp at h
  | i + 2 => simp at h
/-- A number laid into a box: it reads as before. -/
theorem mag_box {X : World} {g : Nat} {b b' : Bool} {A A' : Option Addr} {n c n' c' m : Nat} {v : Value} (h : Mag X v m) (hr : Row X g 99 #[.bool b, .slice A n c]) : Mag ((X.setCell ⟨g, 0, none⟩ (.bool b')).setCell ⟨g, 1, none⟩ (.slice A' n' c')) v m := by
  have h1 := ints_setBox (z := .bool b') (j := 0) h hr (no_int2 _ _ _ _)
  have h2 := ints_setBox (z := .slice A' n' c') (j := 1) h1 (hr.put 0 (.bool b')) (no_int2 b' A n c)
  exact h2.more (by simp [World.setCell])
theorem box_row {X : World} {g : Nat} {b b' : Bool} {A A' : Option Addr} {n c n' c' : Nat} (hr : Row X g 99 #[.bool b, .slice A n c]) : Row ((X.setCell ⟨g, 0, none⟩ (.bool b')).setCell ⟨g, 1, none⟩ (.slice A' n' c')) g 99 #[.bool b', .slice A' n' c'] := (hr.put 0 (.bool b')).put 1 (.slice A' n' c')
/-- What stands in a box of a number. -/
theorem box_facts {X : World} {g : Nat} {x y : Value} (hr : Row X g 99 #[x, y]) : X.cell? ⟨g, 0, none⟩ = some x ∧ X.cell? ⟨g, 1, none⟩ = some y ∧ X.frozen? ⟨g, 0, none⟩ = false ∧ X.frozen? ⟨g, 1, none⟩ = false := ⟨(hr.cell 0).trans rfl, (hr.cell 1).trans rfl, hr.free 0, hr.free 1⟩

set_option maxHeartbeats 400000 in
theorem numZero_any (x : Value) (z : Int) (w : World) (hx : Num w x z) :
    Calls Tryz.prog 96 #[x] w fun e w' => e = .returned (.bool (decide (z = 0))) ∧ Below w.heap.size w w' := by
  obtain ⟨v, rfl, hv⟩ := hx
  have hz := isZero_any v z.natAbs (w.alloc (.cells #[.bool (decide (z < 0)), v] 99)) (hv.next ((Below.refl _ _).alloc (Nat.le_refl _) _))
  obtain ⟨A, c, rfl, hc1, hc2⟩ := ints_form hv
  have HZ := Lib.hid hz
  have HE : decide (z.natAbs = 0) = decide (z = 0) := decide_eq_decide.2 (by omega)
  go_enter Tryz.func96, Tryz.ntmps96
  go_wp2_with (go_at_call 116; refine HZ.out.mono ?_; rintro e w1 ⟨rfl, rfl⟩)
  go_ret
  exact ⟨by rw [← HE]; rfl, (Below.refl _ _).alloc (Nat.le_refl _) _⟩

theorem neg_if (z : Int) (b : Bool) (hb : b = decide (z < 0)) : (if (!b) = true then -(z.natAbs : Int) else (z.natAbs : Int)) = -z := by
  by_cases h : z < 0
  · rw [decide_eq_true h] at hb; subst hb; simp; omega
  · rw [decide_eq_false h] at hb; subst hb; simp; omega

set_option maxRecDepth 100000 in
set_option maxHeartbeats 1000000 in
theorem opp_any (x : Value) (z : Int) (w : World) (hx : Num w x z) :
    Calls Tryz.prog 115 #[x] w (NumPost (-z) w) := by
  obtain ⟨b, A, n, c, rfl, hb, hv⟩ := hx.parts
  obtain ⟨W, hW⟩ : ∃ W, (w.alloc (.cells #[.bool b, .slice A n c] 99)).alloc (.cells #[.bool false, .slice none 0 0] 99) = W := ⟨_, rfl⟩
  have hb0 : Below w.heap.size w W := by rw [← hW]; exact ((Below.refl _ w).alloc (Nat.le_refl _) _).alloc (by simp) _
  have r2 : Row W (w.heap.size + 1) 99 #[.bool false, .slice none 0 0] := by
    rw [← hW]
    have := Row.new (w.alloc (.cells #[.bool b, .slice A n c] 99)) 99 #[.bool false, .slice none 0 0]
    rw [World.size_alloc] at this; exact this
  have hsg := signed_any (!b) (.slice A n c) z.natAbs W (hv.next hb0)
  rw [neg_if z b hb] at hsg
  have HS := Lib.hid hsg; have HW := Lib.hid hW; have HB := Lib.hid hb0; have HR := Lib.hid r2
  clear hsg hW hb0 r2 hv hx hb
  go_enter Tryz.func115, Tryz.ntmps115
  go_wp2_with (go_at_call 105; rw [HW.out]; refine HS.out.mono ?_; unfold NumPost; rintro e w2 ⟨y, rfl, hn, hb2⟩; obtain ⟨b2, A2, n2, c2, rfl, hbe, hm⟩ := hn.parts; have hr2 := HR.out.below hb2 HR.out.lt; have HR2 := Lib.hid hr2; obtain ⟨k0, k1, f0, f1⟩ := box_facts hr2; have HB2 := Lib.hid hb2; have HM := Lib.hid hm; have HBE := Lib.hid hbe; clear hn hm hb2 hbe hr2)
  refine bodyPost_ret (results_num rfl _ _ (w.heap.size + 1) _ _ rfl (box_row HR2.out)) rfl ?_
  exact ⟨_, rfl, num_of HBE.out rfl (mag_box HM.out HR2.out), ((HB.out.trans (HB2.out.mono HB.out.size)).setCell (by dsimp only; omega) _).setCell (by dsimp only; omega) _⟩
end Go.Proofs.YtabkodpjhpjgnaaGreatDoor

namespace Go.Proofs.YtabkodpjhpjgnaaGreatDoor
open Go.RowKit

/-- Two boxed numbers and a box for the result. -/
structure Two (w W : World) (b1 b2 : Bool) (A1 A2 : Option Addr) (n1 c1 n2 c2 : Nat) : Prop where
  r0 : Row W w.heap.size 99 #[.bool b1, .slice A1 n1 c1]
  r1 : Row W (w.heap.size + 1) 99 #[.bool b2, .slice A2 n2 c2]
  r2 : Row W (w.heap.size + 1 + 1) 99 #[.bool false, .slice none 0 0]
  bw : Below w.heap.size w W
theorem two_new (w : World) (b1 b2 : Bool) (A1 A2 : Option Addr) (n1 c1 n2 c2 : Nat) : Two w (((w.alloc (.cells #[.bool b1, .slice A1 n1 c1] 99)).alloc (.cells #[.bool b2, .slice A2 n2 c2] 99)).alloc (.cells #[.bool false, .slice none 0 0] 99)) b1 b2 A1 A2 n1 c1 n2 c2 := by
  refine ⟨((Row.new w _ _).alloc _).alloc _, ?_, ?_, (((Below.refl _ w).alloc (Nat.le_refl _) _).alloc (by simp) _).alloc (by simp; omega) _⟩
  · have := (Row.new (w.alloc (.cells #[.bool b1, .slice A1 n1 c1] 99)) 99 #[.bool b2, .slice A2 n2 c2]).alloc (.cells #[.bool false, .slice none 0 0] 99)
    rw [World.size_alloc] at this; exact this
  · have := Row.new ((w.alloc (.cells #[.bool b1, .slice A1 n1 c1] 99)).alloc (.cells #[.bool b2, .slice A2 n2 c2] 99)) 99 #[.bool false, .slice none 0 0]
    rw [World.size_alloc, World.size_alloc] at this; exact this
theorem Two.below {w W U : World} {b1 b2 : Bool} {A1 A2 : Option Addr} {n1 c1 n2 c2 : Nat} (h : Two w W b1 b2 A1 A2 n1 c1 n2 c2) (hb : Below W.heap.size W U) : Two w U b1 b2 A1 A2 n1 c1 n2 c2 := ⟨h.r0.below hb h.r0.lt, h.r1.below hb h.r1.lt, h.r2.below hb h.r2.lt, h.bw.trans (hb.mono h.bw.size)⟩
/-- The four cells of the boxed numbers. -/
def Four (w u : World) (b1 b2 : Bool) (A1 A2 : Option Addr) (n1 c1 n2 c2 : Nat) : Prop := u.cell? ⟨w.heap.size, 0, none⟩ = some (.bool b1) ∧ u.cell? ⟨w.heap.size, 1, none⟩ = some (.slice A1 n1 c1) ∧ u.cell? ⟨w.heap.size + 1, 0, none⟩ = some (.bool b2) ∧ u.cell? ⟨w.heap.size + 1, 1, none⟩ = some (.slice A2 n2 c2)
theorem Two.four {w W : World} {b1 b2 : Bool} {A1 A2 : Option Addr} {n1 c1 n2 c2 : Nat} (h : Two w W b1 b2 A1 A2 n1 c1 n2 c2) : Four w W b1 b2 A1 A2 n1 c1 n2 c2 := ⟨(box_facts h.r0).1, (box_facts h.r0).2.1, (box_facts h.r1).1, (box_facts h.r1).2.1⟩
theorem Two.fin {w W : World} {b1 b2 b : Bool} {A1 A2 A : Option Addr} {n1 c1 n2 c2 n c : Nat} {z : Int} (h : Two w W b1 b2 A1 A2 n1 c1 n2 c2) (hb : b = decide (z < 0)) (hm : Mag W (.slice A n c) z.natAbs) : Num ((W.setCell ⟨w.heap.size + 1 + 1, 0, none⟩ (.bool b)).setCell ⟨w.heap.size + 1 + 1, 1, none⟩ (.slice A n c)) (.agg #[.bool b, .slice A n c]) z ∧ Below w.heap.size w ((W.setCell ⟨w.heap.size + 1 + 1, 0, none⟩ (.bool b)).setCell ⟨w.heap.size + 1 + 1, 1, none⟩ (.slice A n c)) :=
  ⟨num_of hb rfl (mag_box hm h.r2), (h.bw.setCell (by dsimp only; omega) _).setCell (by dsimp only; omega) _⟩
theorem Two.four_fin {w W : World} {b1 b2 : Bool} {A1 A2 : Option Addr} {n1 c1 n2 c2 : Nat} {x y : Value} (h : Two w W b1 b2 A1 A2 n1 c1 n2 c2) : Four w ((W.setCell ⟨w.heap.size + 1 + 1, 0, none⟩ x).setCell ⟨w.heap.size + 1 + 1, 1, none⟩ y) b1 b2 A1 A2 n1 c1 n2 c2 := by
  have k0 := (h.r0.far (p := ⟨w.heap.size + 1 + 1, 0, none⟩) (by dsimp only; omega) x).far (p := ⟨w.heap.size + 1 + 1, 1, none⟩) (by dsimp only; omega) y
  have k1 := (h.r1.far (p := ⟨w.heap.size + 1 + 1, 0, none⟩) (by dsimp only; omega) x).far (p := ⟨w.heap.size + 1 + 1, 1, none⟩) (by dsimp only; omega) y
  exact ⟨(box_facts k0).1, (box_facts k0).2.1, (box_facts k1).1, (box_facts k1).2.1⟩

set_option maxRecDepth 100000 in
set_option maxHeartbeats 1000000 in
theorem numGcd_any (x y : Value) (a b : Int) (w : World) (hx : Num w x a) (hy : Num w y b) (la : (Im.grp a.natAbs).length ≤ 250) (lb : (Im.grp b.natAbs).length ≤ 250) :
    Calls Tryz.prog 84 #[x, y] w (NumPost ((Nat.gcd a.natAbs b.natAbs : Nat) : Int) w) := by
  obtain ⟨b1, A1, n1, c1, rfl, hb1, hv1⟩ := hx.parts
  obtain ⟨b2, A2, n2, c2, rfl, hb2, hv2⟩ := hy.parts
  have h2 := two_new w b1 b2 A1 A2 n1 c1 n2 c2
  obtain ⟨W, hW⟩ : ∃ W, (((w.alloc (.cells #[.bool b1, .slice A1 n1 c1] 99)).alloc (.cells #[.bool b2, .slice A2 n2 c2] 99)).alloc (.cells #[.bool false, .slice none 0 0] 99)) = W := ⟨_, rfl⟩
  rw [hW] at h2
  have HG := Lib.hid (gcd_any _ _ _ _ W (hv1.next h2.bw) (hv2.next h2.bw) la lb)
  have H2 := Lib.hid h2; have HW := Lib.hid hW
  clear h2 hW hx hy hb1 hb2 hv1 hv2 la lb
  go_enter Tryz.func84, Tryz.ntmps84
  go_wp2_with (first | (go_at_call 106; rw [HW.out]; refine HG.out.mono ?_; unfold MagPost; rintro e w1 ⟨v1, rfl, hm, hb⟩; have H2' := Lib.hid (H2.out.below hb); have HS := Lib.hid (signed_any false v1 _ w1 hm); clear hm hb) | (go_at_call 105; refine HS.out.mono ?_; unfold NumPost; rintro e w2 ⟨z, rfl, hn, hb2⟩; obtain ⟨b3, A3, n3, c3, rfl, hbe, hm⟩ := hn.parts; have H3 := Lib.hid (H2'.out.below hb2); obtain ⟨k0, k1, f0, f1⟩ := box_facts H3.out.r2; have HM := Lib.hid hm; have HBE := Lib.hid hbe; clear hn hm hb2 hbe))
  refine bodyPost_ret (results_num rfl _ _ (w.heap.size + 1 + 1) _ _ rfl (box_row H3.out.r2)) rfl ?_
  exact ⟨_, rfl, H3.out.fin HBE.out HM.out⟩

theorem mul_if (a b : Int) (b1 b2 : Bool) (h1 : b1 = decide (a < 0)) (h2 : b2 = decide (b < 0)) : (if (!(b1 == b2)) = true then -((a.natAbs * b.natAbs : Nat) : Int) else ((a.natAbs * b.natAbs : Nat) : Int)) = a * b := by
  have e : ((a.natAbs * b.natAbs : Nat) : Int) = (a.natAbs : Int) * (b.natAbs : Int) := Int.natCast_mul _ _
  rw [e]
  rcases Int.lt_or_le a 0 with ha | ha <;> rcases Int.lt_or_le b 0 with hb | hb
  · rw [decide_eq_true ha] at h1; rw [decide_eq_true hb] at h2; subst h1; subst h2
    rw [show (a.natAbs : Int) = -a by omega, show (b.natAbs : Int) = -b by omega]; simp [Int.neg_mul_neg]
  · rw [decide_eq_true ha] at h1; rw [decide_eq_false (by omega)] at h2; subst h1; subst h2
    rw [show (a.natAbs : Int) = -a by omega, show (b.natAbs : Int) = b by omega]; simp [Int.neg_mul]
  · rw [decide_eq_false (by omega)] at h1; rw [decide_eq_true hb] at h2; subst h1; subst h2
    rw [show (a.natAbs : Int) = a by omega, show (b.natAbs : Int) = -b by omega]; simp [Int.mul_neg]
  · rw [decide_eq_false (by omega)] at h1; rw [decide_eq_false (by omega)] at h2; subst h1; subst h2
    rw [show (a.natAbs : Int) = a by omega, show (b.natAbs : Int) = b by omega]; simp

set_option maxRecDepth 100000 in
set_option maxHeartbeats 1000000 in
theorem numTimes_any (x y : Value) (a b : Int) (w : World) (hx : Num w x a) (hy : Num w y b) (la : (Im.grp a.natAbs).length ≤ 250) (lb : (Im.grp b.natAbs).length ≤ 250) :
    Calls Tryz.prog 114 #[x, y] w (NumPost (a * b) w) := by
  obtain ⟨b1, A1, n1, c1, rfl, hb1, hv1⟩ := hx.parts
  obtain ⟨b2, A2, n2, c2, rfl, hb2, hv2⟩ := hy.parts
  have hif := mul_if a b b1 b2 hb1 hb2
  have h2 := two_new w b1 b2 A1 A2 n1 c1 n2 c2
  obtain ⟨W, hW⟩ : ∃ W, (((w.alloc (.cells #[.bool b1, .slice A1 n1 c1] 99)).alloc (.cells #[.bool b2, .slice A2 n2 c2] 99)).alloc (.cells #[.bool false, .slice none 0 0] 99)) = W := ⟨_, rfl⟩
  rw [hW] at h2
  have HG := Lib.hid (times_any _ _ _ _ W.drew (hv1.next h2.bw.drew) (hv2.next h2.bw.drew) (by omega) (by omega))
  have hsg := fun v u (hv : Mag u v (a.natAbs * b.natAbs)) => signed_any (!(b1 == b2)) v _ u hv
  rw [hif] at hsg
  have HSG := Lib.hid hsg
  have H2 := Lib.hid (h2.below (Below.refl _ _).drew); have HW := Lib.hid hW
  clear h2 hW hx hy hb1 hb2 hv1 hv2 la lb hif hsg
  go_enter Tryz.func114, Tryz.ntmps114
  go_wp2
  rw [HW.out]
  go_region_held3 (fun u => u.cell? ⟨w.heap.size, 0, none⟩ = some (.bool b1) ∧ u.cell? ⟨w.heap.size, 1, none⟩ = some (.slice A1 n1 c1) ∧ u.cell? ⟨w.heap.size + 1, 0, none⟩ = some (.bool b2) ∧ u.cell? ⟨w.heap.size + 1, 1, none⟩ = some (.slice A2 n2 c2)) (first | assumption | (exact H2.out.four) | (exact H3.out.four_fin) | (exact H3.out.four) | (exact H2'.out.four)) (first | (go_at_call 136; ((with_reducible refine Calls.mono HG.out ?_); unfold MagPost; rintro e w1 ⟨v1, rfl, hm, hb⟩; have H2' := Lib.hid (H2.out.below hb); have HS := Lib.hid (HSG.out v1 w1 hm); clear hm hb)) | (go_at_call 105; ((with_reducible refine Calls.mono HS.out ?_); unfold NumPost; rintro e w2 ⟨z, rfl, hn, hb2⟩; obtain ⟨b3, A3, n3, c3, rfl, hbe, hm⟩ := hn.parts; have H3 := Lib.hid (H2'.out.below hb2); obtain ⟨k0, k1, f0, f1⟩ := box_facts H3.out.r2; have HM := Lib.hid hm; have HBE := Lib.hid hbe; clear hn hm hb2 hbe)))
  all_goals
    go_wp2
    refine bodyPost_ret (results_num rfl _ _ (w.heap.size + 1 + 1) _ _ rfl (box_row H3.out.r2)) rfl ?_
    exact ⟨_, rfl, H3.out.fin HBE.out HM.out⟩
end Go.Proofs.YtabkodpjhpjgnaaGreatDoor

namespace Go.Proofs.YtabkodpjhpjgnaaGreatDoor
open Go.RowKit

theorem add_same (a b : Int) (f : Bool) (h1 : f = decide (a < 0)) (h2 : f = decide (b < 0)) : (if f = true then -((a.natAbs + b.natAbs : Nat) : Int) else ((a.natAbs + b.natAbs : Nat) : Int)) = a + b := by
  by_cases h : a < 0
  · rw [decide_eq_true h] at h1
    subst h1
    have hb : b < 0 := of_decide_eq_true h2.symm
    rw [if_pos rfl]; omega
  · rw [decide_eq_false h] at h1
    subst h1
    have hb : ¬ b < 0 := of_decide_eq_false h2.symm
    rw [if_neg (by decide)]; omega
theorem add_less (a b : Int) (f g : Bool) (h1 : f = decide (a < 0)) (h2 : g = decide (b < 0)) (hn : f ≠ g) (hl : a.natAbs < b.natAbs) : (if g = true then -((b.natAbs - a.natAbs : Nat) : Int) else ((b.natAbs - a.natAbs : Nat) : Int)) = a + b := by
  by_cases h : b < 0
  · rw [decide_eq_true h] at h2
    subst h2
    have ha : ¬ a < 0 := fun e => hn (by rw [h1, decide_eq_true e])
    rw [if_pos rfl]; omega
  · rw [decide_eq_false h] at h2
    subst h2
    have ha : a < 0 := Decidable.byContradiction fun e => hn (by rw [h1, decide_eq_false e])
    rw [if_neg (by decide)]; omega
theorem add_more (a b : Int) (f g : Bool) (h1 : f = decide (a < 0)) (h2 : g = decide (b < 0)) (hn : f ≠ g) (hl : b.natAbs ≤ a.natAbs) : (if f = true then -((a.natAbs - b.natAbs : Nat) : Int) else ((a.natAbs - b.natAbs : Nat) : Int)) = a + b := by
  by_cases h : a < 0
  · rw [decide_eq_true h] at h1
    subst h1
    have hb : ¬ b < 0 := fun e => hn (by rw [h2, decide_eq_true e])
    rw [if_pos rfl]; omega
  · rw [decide_eq_false h] at h1
    subst h1
    have hb : b < 0 := Decidable.byContradiction fun e => hn (by rw [h2, decide_eq_false e])
    rw [if_neg (by decide)]; omega
theorem sg_less (a b : Nat) : decide (sg (a : Int) (b : Int) < 0) = decide (a < b) := by
  rcases Nat.lt_trichotomy a b with h | h | h
  · rw [sg_lt (by omega), decide_eq_true (by omega), decide_eq_true h]
  · rw [sg_eq (by omega), decide_eq_false (by omega), decide_eq_false (by omega)]
  · rw [sg_gt (by omega), decide_eq_false (by omega), decide_eq_false (by omega)]

set_option maxRecDepth 100000 in
set_option maxHeartbeats 2000000 in
theorem numPlus_any (x y : Value) (a b : Int) (w : World) (hx : Num w x a) (hy : Num w y b) (la : (Im.grp a.natAbs).length ≤ 250) (lb : (Im.grp b.natAbs).length ≤ 250) :
    Calls Tryz.prog 90 #[x, y] w (NumPost (a + b) w) := by
  obtain ⟨b1, A1, n1, c1, rfl, hb1, hv1⟩ := hx.parts
  obtain ⟨b2, A2, n2, c2, rfl, hb2, hv2⟩ := hy.parts
  have h2 := two_new w b1 b2 A1 A2 n1 c1 n2 c2
  obtain ⟨W, hW⟩ : ∃ W, (((w.alloc (.cells #[.bool b1, .slice A1 n1 c1] 99)).alloc (.cells #[.bool b2, .slice A2 n2 c2] 99)).alloc (.cells #[.bool false, .slice none 0 0] 99)) = W := ⟨_, rfl⟩
  rw [hW] at h2
  by_cases hbb : b1 = b2
  · subst hbb
    have hif := add_same a b b1 hb1 hb2
    have HG := Lib.hid (plus_any _ _ _ _ W.drew (hv1.next h2.bw.drew) (hv2.next h2.bw.drew) (by omega) (by omega))
    have hsg := fun v u (hv : Mag u v (a.natAbs + b.natAbs)) => signed_any b1 v _ u hv
    rw [hif] at hsg
    have HSG := Lib.hid hsg
    have H2 := Lib.hid (h2.below (Below.refl _ _).drew); have HW := Lib.hid hW
    clear h2 hW hx hy hb1 hb2 hv1 hv2 la lb hif hsg
    go_enter Tryz.func90, Tryz.ntmps90
    go_wp2
    rw [HW.out]
    go_region_held3 (fun u => u.cell? ⟨w.heap.size, 0, none⟩ = some (.bool b1) ∧ u.cell? ⟨w.heap.size, 1, none⟩ = some (.slice A1 n1 c1) ∧ u.cell? ⟨w.heap.size + 1, 0, none⟩ = some (.bool b1) ∧ u.cell? ⟨w.heap.size + 1, 1, none⟩ = some (.slice A2 n2 c2)) (first | assumption | (exact H2.out.four) | (exact H3.out.four_fin) | (exact H3.out.four) | (exact H2'.out.four)) (first | (go_at_call 111; ((with_reducible refine Calls.mono HG.out ?_); unfold MagPost; rintro e w1 ⟨v1, rfl, hm, hb⟩; have H2' := Lib.hid (H2.out.below hb); have HS := Lib.hid (HSG.out v1 w1 hm); clear hm hb)) | (go_at_call 105; ((with_reducible refine Calls.mono HS.out ?_); unfold NumPost; rintro e w2 ⟨z, rfl, hn, hb2⟩; obtain ⟨b3, A3, n3, c3, rfl, hbe, hm⟩ := hn.parts; have H3 := Lib.hid (H2'.out.below hb2); obtain ⟨k0, k1, f0, f1⟩ := box_facts H3.out.r2; have HM := Lib.hid hm; have HBE := Lib.hid hbe; clear hn hm hb2 hbe)))
    all_goals
      go_wp2
      refine bodyPost_ret (results_num rfl _ _ (w.heap.size + 1 + 1) _ _ rfl (box_row H3.out.r2)) rfl ?_
      exact ⟨_, rfl, H3.out.fin HBE.out HM.out⟩
  · have t1 : (b1 == b2) = false := by simpa using hbb
    have HC := Lib.hid (compare_any _ _ _ _ W (hv1.next h2.bw) (hv2.next h2.bw))
    have hsl := sg_less a.natAbs b.natAbs
    by_cases hl : a.natAbs < b.natAbs
    · rw [decide_eq_true hl] at hsl
      have t2 := of_decide_eq_true hsl
      have hif := add_less a b b1 b2 hb1 hb2 hbb hl
      have hgm := fun u (hu : Below w.heap.size w u) => minus_any _ _ _ _ u (hv2.next hu) (hv1.next hu) (by omega) (by omega)
      have hsg := fun v u (hv : Mag u v (b.natAbs - a.natAbs)) => signed_any b2 v _ u hv
      rw [hif] at hsg
      have HSG := Lib.hid hsg; have HGM := Lib.hid hgm
      have H2 := Lib.hid h2; have HW := Lib.hid hW
      clear h2 hW hx hy hb1 hb2 hv1 hv2 la lb hif hsg hgm hsl hbb hl
      go_enter Tryz.func90, Tryz.ntmps90
      go_wp2_with (go_at_call 112; rw [HW.out]; refine HC.out.mono ?_; rintro e w3 ⟨rfl, hb3⟩; have H4 := Lib.hid ((H2.out.below hb3).below (Below.refl _ _).drew); clear hb3)
      go_region_held3 (fun u => u.cell? ⟨w.heap.size, 0, none⟩ = some (.bool b1) ∧ u.cell? ⟨w.heap.size, 1, none⟩ = some (.slice A1 n1 c1) ∧ u.cell? ⟨w.heap.size + 1, 0, none⟩ = some (.bool b2) ∧ u.cell? ⟨w.heap.size + 1, 1, none⟩ = some (.slice A2 n2 c2)) (first | assumption | (exact H4.out.four) | (exact H3.out.four_fin) | (exact H3.out.four) | (exact H2'.out.four)) (first | (go_at_call 113; ((with_reducible refine Calls.mono (HGM.out _ H4.out.bw) ?_); unfold MagPost; rintro e w1 ⟨v1, rfl, hm, hb⟩; have H2' := Lib.hid (H4.out.below hb); have HS := Lib.hid (HSG.out v1 w1 hm); clear hm hb)) | (go_at_call 105; ((with_reducible refine Calls.mono HS.out ?_); unfold NumPost; rintro e w2 ⟨z, rfl, hn, hb2⟩; obtain ⟨b3, A3, n3, c3, rfl, hbe, hm⟩ := hn.parts; have H3 := Lib.hid (H2'.out.below hb2); obtain ⟨k0, k1, f0, f1⟩ := box_facts H3.out.r2; have HM := Lib.hid hm; have HBE := Lib.hid hbe; clear hn hm hb2 hbe)))
      all_goals
        go_wp2
        refine bodyPost_ret (results_num rfl _ _ (w.heap.size + 1 + 1) _ _ rfl (box_row H3.out.r2)) rfl ?_
        exact ⟨_, rfl, H3.out.fin HBE.out HM.out⟩
    · rw [decide_eq_false hl] at hsl
      have t2 := of_decide_eq_false hsl
      have hif := add_more a b b1 b2 hb1 hb2 hbb (by omega)
      have hgm := fun u (hu : Below w.heap.size w u) => minus_any _ _ _ _ u (hv1.next hu) (hv2.next hu) (by omega) (by omega)
      have hsg := fun v u (hv : Mag u v (a.natAbs - b.natAbs)) => signed_any b1 v _ u hv
      rw [hif] at hsg
      have HSG := Lib.hid hsg; have HGM := Lib.hid hgm
      have H2 := Lib.hid h2; have HW := Lib.hid hW
      clear h2 hW hx hy hb1 hb2 hv1 hv2 la lb hif hsg hgm hsl hbb hl
      go_enter Tryz.func90, Tryz.ntmps90
      go_wp2_with (go_at_call 112; rw [HW.out]; refine HC.out.mono ?_; rintro e w3 ⟨rfl, hb3⟩; have H4 := Lib.hid ((H2.out.below hb3).below (Below.refl _ _).drew); clear hb3)
      go_region_held3 (fun u => u.cell? ⟨w.heap.size, 0, none⟩ = some (.bool b1) ∧ u.cell? ⟨w.heap.size, 1, none⟩ = some (.slice A1 n1 c1) ∧ u.cell? ⟨w.heap.size + 1, 0, none⟩ = some (.bool b2) ∧ u.cell? ⟨w.heap.size + 1, 1, none⟩ = some (.slice A2 n2 c2)) (first | assumption | (exact H4.out.four) | (exact H3.out.four_fin) | (exact H3.out.four) | (exact H2'.out.four)) (first | (go_at_call 113; ((with_reducible refine Calls.mono (HGM.out _ H4.out.bw) ?_); unfold MagPost; rintro e w1 ⟨v1, rfl, hm, hb⟩; have H2' := Lib.hid (H4.out.below hb); have HS := Lib.hid (HSG.out v1 w1 hm); clear hm hb)) | (go_at_call 105; ((with_reducible refine Calls.mono HS.out ?_); unfold NumPost; rintro e w2 ⟨z, rfl, hn, hb2⟩; obtain ⟨b3, A3, n3, c3, rfl, hbe, hm⟩ := hn.parts; have H3 := Lib.hid (H2'.out.below hb2); obtain ⟨k0, k1, f0, f1⟩ := box_facts H3.out.r2; have HM := Lib.hid hm; have HBE := Lib.hid hbe; clear hn hm hb2 hbe)))
      all_goals
        go_wp2
        refine bodyPost_ret (results_num rfl _ _ (w.heap.size + 1 + 1) _ _ rfl (box_row H3.out.r2)) rfl ?_
        exact ⟨_, rfl, H3.out.fin HBE.out HM.out⟩
end Go.Proofs.YtabkodpjhpjgnaaGreatDoor

namespace Go.Proofs.YtabkodpjhpjgnaaGreatDoor
open Go.RowKit

set_option maxRecDepth 100000 in
set_option maxHeartbeats 2000000 in
theorem numMinus_any (x y : Value) (a b : Int) (w : World) (hx : Num w x a) (hy : Num w y b) (la : (Im.grp a.natAbs).length ≤ 250) (lb : (Im.grp b.natAbs).length ≤ 250) :
    Calls Tryz.prog 94 #[x, y] w (NumPost (a - b) w) := by
  obtain ⟨b1, A1, n1, c1, rfl, hb1, hv1⟩ := hx.parts
  obtain ⟨b2, A2, n2, c2, rfl, hb2, hv2⟩ := hy.parts
  have h2 := two_new w b1 b2 A1 A2 n1 c1 n2 c2
  obtain ⟨W, hW⟩ : ∃ W, (((w.alloc (.cells #[.bool b1, .slice A1 n1 c1] 99)).alloc (.cells #[.bool b2, .slice A2 n2 c2] 99)).alloc (.cells #[.bool false, .slice none 0 0] 99)) = W := ⟨_, rfl⟩
  rw [hW] at h2
  have HO := Lib.hid (opp_any _ _ W.drew (hy.next h2.bw.drew))
  have hpl := fun (y : Value) (u : World) (hu : Below w.heap.size w u) (hy' : Num u y (-b)) => numPlus_any _ y a (-b) u (hx.next hu) hy' la (by rw [Int.natAbs_neg]; exact lb)
  rw [show a + -b = a - b by omega] at hpl
  have HPL := Lib.hid hpl
  have H2 := Lib.hid (h2.below (Below.refl _ _).drew); have HW := Lib.hid hW
  clear h2 hW hx hy hb1 hb2 hv1 hv2 la lb hpl
  go_enter Tryz.func94, Tryz.ntmps94
  go_wp2
  rw [HW.out]
  go_region_held3 (fun u => u.cell? ⟨w.heap.size, 0, none⟩ = some (.bool b1) ∧ u.cell? ⟨w.heap.size, 1, none⟩ = some (.slice A1 n1 c1) ∧ u.cell? ⟨w.heap.size + 1, 0, none⟩ = some (.bool b2) ∧ u.cell? ⟨w.heap.size + 1, 1, none⟩ = some (.slice A2 n2 c2)) (first | assumption | (exact H2.out.four) | (exact H3.out.four_fin) | (exact H3.out.four) | (exact H2'.out.four)) (first | (go_at_call 115; ((with_reducible refine Calls.mono HO.out ?_); unfold NumPost; rintro e w1 ⟨v1, rfl, hm, hb⟩; have H2' := Lib.hid (H2.out.below hb); have HS := Lib.hid (HPL.out v1 w1 H2'.out.bw hm); clear hm hb)) | (go_at_call 90; ((with_reducible refine Calls.mono HS.out ?_); unfold NumPost; rintro e w2 ⟨z, rfl, hn, hb2⟩; obtain ⟨b3, A3, n3, c3, rfl, hbe, hm⟩ := hn.parts; have H3 := Lib.hid (H2'.out.below hb2); obtain ⟨k0, k1, f0, f1⟩ := box_facts H3.out.r2; have HM := Lib.hid hm; have HBE := Lib.hid hbe; clear hn hm hb2 hbe)))
  all_goals
    go_wp2
    refine bodyPost_ret (results_num rfl _ _ (w.heap.size + 1 + 1) _ _ rfl (box_row H3.out.r2)) rfl ?_
    exact ⟨_, rfl, H3.out.fin HBE.out HM.out⟩

theorem sg_flags (a b : Int) (zb bd : Bool) (hz : zb = decide (a - b = 0)) (hd : bd = decide (a - b < 0)) : (if zb then (0 : Int) else if bd then -1 else 1) = sg a b := by
  rcases Int.lt_trichotomy a b with h | h | h
  · rw [decide_eq_false (by omega)] at hz; rw [decide_eq_true (by omega)] at hd; subst hz; subst hd; rw [sg_lt h]; rfl
  · rw [decide_eq_true (by omega)] at hz; subst hz; rw [h, sg_eq rfl]; rfl
  · rw [decide_eq_false (by omega)] at hz; rw [decide_eq_false (by omega)] at hd; subst hz; subst hd; rw [sg_gt h]; rfl

set_option maxRecDepth 100000 in
set_option maxHeartbeats 2000000 in
theorem numCompare_any (x y : Value) (a b : Int) (w : World) (hx : Num w x a) (hy : Num w y b) (la : (Im.grp a.natAbs).length ≤ 250) (lb : (Im.grp b.natAbs).length ≤ 250) :
    Calls Tryz.prog 86 #[x, y] w fun e w' => e = .returned (.int .i64 (sg a b)) ∧ Below w.heap.size w w' := by
  obtain ⟨b1, A1, n1, c1, rfl, hb1, hv1⟩ := hx.parts
  obtain ⟨b2, A2, n2, c2, rfl, hb2, hv2⟩ := hy.parts
  obtain ⟨zb, hzb⟩ : ∃ zb, zb = decide (a - b = 0) := ⟨_, rfl⟩
  obtain ⟨bd, hbd⟩ : ∃ bd, bd = decide (a - b < 0) := ⟨_, rfl⟩
  have hsg := sg_flags a b zb bd hzb hbd
  obtain ⟨W, hW⟩ : ∃ W, ((w.alloc (.cells #[.bool b1, .slice A1 n1 c1] 99)).alloc (.cells #[.bool b2, .slice A2 n2 c2] 99)) = W := ⟨_, rfl⟩
  have hbw : Below w.heap.size w W := by rw [← hW]; exact ((Below.refl _ w).alloc (Nat.le_refl _) _).alloc (by simp) _
  have hM : Calls Tryz.prog 94 #[.agg #[.bool b1, .slice A1 n1 c1], .agg #[.bool b2, .slice A2 n2 c2]] W fun e w1 => ∃ A n c, e = .returned (.agg #[.bool bd, .slice A n c]) ∧ Num w1 (.agg #[.bool bd, .slice A n c]) (a - b) ∧ Below W.heap.size W w1 := by
    refine (numMinus_any _ _ a b W (hx.next hbw) (hy.next hbw) la lb).mono ?_
    rintro e w1 ⟨d, rfl, hn, hb⟩
    obtain ⟨b', A, n, c, rfl, hb', hm⟩ := hn.parts
    rw [← hbd] at hb'; subst hb'
    exact ⟨A, n, c, rfl, hn, hb⟩
  have hZ := fun (d : Value) (u : World) (hd : Num u d (a - b)) => numZero_any d (a - b) u hd
  rw [← hzb] at hZ
  have HM := Lib.hid hM; have HZ := Lib.hid hZ; have HW := Lib.hid hW; have HB := Lib.hid hbw
  generalize sg a b = r at hsg ⊢
  have HSG := Lib.hid hsg
  clear hM hZ hW hbw hx hy hb1 hb2 hv1 hv2 la lb hsg hzb hbd
  cases bd
  · cases zb
    all_goals
      go_enter Tryz.func86, Tryz.ntmps86
      go_wp2_with (first | (go_at_call 94; rw [HW.out]; refine HM.out.mono ?_; rintro e w1 ⟨A, n, c, rfl, hn, hb⟩; have hr := Row.new w1 99 #[.bool false, .slice A n c]; have hbn := (Below.refl _ w1).alloc (Nat.le_refl _) (.cells #[.bool false, .slice A n c] 99); have HX := Lib.hid (And.intro (hn.next hbn) hr); have HX2 := Lib.hid ((HB.out.trans (hb.mono HB.out.size)).trans (hbn.mono (HB.out.trans (hb.mono HB.out.size)).size)); clear hn hb hr hbn) | (go_at_call 96; refine (HZ.out _ _ HX.out.1).mono ?_; rintro e w2 ⟨rfl, hb2⟩; obtain ⟨k0, k1, f0, f1⟩ := box_facts (HX.out.2.below hb2 HX.out.2.lt); have HB2 := Lib.hid hb2; clear hb2))
      go_ret
      refine ⟨by rw [← HSG.out]; rfl, ?_⟩
      exact HX2.out.trans (HB2.out.mono HX2.out.size)
  · cases zb
    all_goals
      go_enter Tryz.func86, Tryz.ntmps86
      go_wp2_with (first | (go_at_call 94; rw [HW.out]; refine HM.out.mono ?_; rintro e w1 ⟨A, n, c, rfl, hn, hb⟩; have hr := Row.new w1 99 #[.bool true, .slice A n c]; have hbn := (Below.refl _ w1).alloc (Nat.le_refl _) (.cells #[.bool true, .slice A n c] 99); have HX := Lib.hid (And.intro (hn.next hbn) hr); have HX2 := Lib.hid ((HB.out.trans (hb.mono HB.out.size)).trans (hbn.mono (HB.out.trans (hb.mono HB.out.size)).size)); clear hn hb hr hbn) | (go_at_call 96; refine (HZ.out _ _ HX.out.1).mono ?_; rintro e w2 ⟨rfl, hb2⟩; obtain ⟨k0, k1, f0, f1⟩ := box_facts (HX.out.2.below hb2 HX.out.2.lt); have HB2 := Lib.hid hb2; clear hb2))
      go_ret
      refine ⟨by rw [← HSG.out]; rfl, ?_⟩
      exact HX2.out.trans (HB2.out.mono HX2.out.size)
end Go.Proofs.YtabkodpjhpjgnaaGreatDoor

namespace Go.Proofs.YtabkodpjhpjgnaaGreatDoor
open Go.RowKit

theorem results_nums {fn : Func} {p q : Tmp} (h : fn.results = #[.cell p 99, .cell q 99]) (tmps : Array Value) (w : World) (g k : Nat) (b v c u : Value) (hp : tmps.getD p undef = .pointer (some ⟨g, 0, none⟩)) (hq : tmps.getD q undef = .pointer (some ⟨k, 0, none⟩)) (hg : Row w g 99 #[b, v]) (hk : Row w k 99 #[c, u]) :
    (results fn tmps).run Tryz.prog w = .ok (.tuple #[.agg #[b, v], .agg #[c, u]]) w := by
  have hp' : tmps[p]?.getD undef = .pointer (some ⟨g, 0, none⟩) := by simpa using hp
  have hq' : tmps[q]?.getD undef = .pointer (some ⟨k, 0, none⟩) := by simpa using hq
  have e1 := run_loadVar_row (P := Tryz.prog) w g 99 99 #[b, v] (0, 0) _ hg Tryz.underlying99 rfl (by kernel_rfl)
  have e2 := run_loadVar_row (P := Tryz.prog) w k 99 99 #[c, u] (0, 0) _ hk Tryz.underlying99 rfl (by kernel_rfl)
  simp [results, h, hp', hq', asAddr, e1, e2]

theorem euc_uniq (a b q r : Int) (hb : b ≠ 0) (h1 : b * q + r = a) (h2 : 0 ≤ r) (h3 : r < b.natAbs) : q = a / b ∧ r = a % b := by
  rcases Int.lt_or_gt_of_ne hb with hn | hp
  · have hc : 0 < -b := by omega
    obtain ⟨e1, e2⟩ := (Int.ediv_emod_unique (a := a) (r := r) (q := -q) hc).2 ⟨by rw [Int.neg_mul_neg]; omega, h2, by omega⟩
    rw [Int.ediv_neg] at e1; rw [Int.emod_neg] at e2
    exact ⟨by omega, e2.symm⟩
  · obtain ⟨e1, e2⟩ := (Int.ediv_emod_unique (a := a) (r := r) (q := q) hp).2 ⟨by omega, h2, by omega⟩
    exact ⟨e1.symm, e2.symm⟩
theorem nat_parts (A B : Nat) : (A : Int) = (B : Int) * ((A / B : Nat) : Int) + ((A % B : Nat) : Int) := by
  exact_mod_cast (Nat.div_add_mod A B).symm
theorem euc_not (a b : Int) (hb : b ≠ 0) (f : Bool) (hf : f = !(decide (a < 0) == decide (b < 0))) (h : ¬ (a < 0 ∧ a.natAbs % b.natAbs ≠ 0)) :
    (if f = true then -((a.natAbs / b.natAbs : Nat) : Int) else ((a.natAbs / b.natAbs : Nat) : Int)) = a / b ∧ ((a.natAbs % b.natAbs : Nat) : Int) = a % b := by
  have e := nat_parts a.natAbs b.natAbs
  have hlt := Nat.mod_lt a.natAbs (show 0 < b.natAbs by omega)
  refine euc_uniq a b _ _ hb ?_ (by omega) (by omega)
  generalize (a.natAbs / b.natAbs : Nat) = Q at *
  generalize (a.natAbs % b.natAbs : Nat) = R at *
  rcases Int.lt_or_le a 0 with ha | ha <;> rcases Int.lt_or_le b 0 with hb' | hb'
  · rw [decide_eq_true ha, decide_eq_true hb'] at hf; subst hf
    rw [show (b.natAbs : Int) = -b by omega, Int.neg_mul] at e; simp; omega
  · rw [decide_eq_true ha, decide_eq_false (by omega)] at hf; subst hf
    rw [show (b.natAbs : Int) = b by omega] at e; simp [Int.mul_neg]; omega
  · rw [decide_eq_false (by omega), decide_eq_true hb'] at hf; subst hf
    rw [show (b.natAbs : Int) = -b by omega, Int.neg_mul] at e; simp [Int.mul_neg]; omega
  · rw [decide_eq_false (by omega), decide_eq_false (by omega)] at hf; subst hf
    rw [show (b.natAbs : Int) = b by omega] at e; simp; omega
theorem euc_fix (a b : Int) (hb : b ≠ 0) (f : Bool) (hf : f = !(decide (a < 0) == decide (b < 0))) (ha : a < 0) (hr : a.natAbs % b.natAbs ≠ 0) :
    (if f = true then -((a.natAbs / b.natAbs + 1 : Nat) : Int) else ((a.natAbs / b.natAbs + 1 : Nat) : Int)) = a / b ∧ ((b.natAbs - a.natAbs % b.natAbs : Nat) : Int) = a % b := by
  have e := nat_parts a.natAbs b.natAbs
  have hlt := Nat.mod_lt a.natAbs (show 0 < b.natAbs by omega)
  refine euc_uniq a b _ _ hb ?_ (by omega) (by omega)
  generalize (a.natAbs / b.natAbs : Nat) = Q at *
  generalize (a.natAbs % b.natAbs : Nat) = R at *
  rcases Int.lt_or_le b 0 with hb' | hb'
  · rw [decide_eq_true ha, decide_eq_true hb'] at hf; subst hf
    rw [show (b.natAbs : Int) = -b by omega, Int.neg_mul] at e; simp [Int.mul_add]; omega
  · rw [decide_eq_true ha, decide_eq_false (by omega)] at hf; subst hf
    rw [show (b.natAbs : Int) = b by omega] at e; simp [Int.mul_neg, Int.mul_add]; omega

/-- Two boxed numbers and two boxes for the results. -/
structure Quad (w W : World) (b1 b2 : Bool) (A1 A2 : Option Addr) (n1 c1 n2 c2 : Nat) : Prop where
  r0 : Row W w.heap.size 99 #[.bool b1, .slice A1 n1 c1]
  r1 : Row W (w.heap.size + 1) 99 #[.bool b2, .slice A2 n2 c2]
  r2 : Row W (w.heap.size + 1 + 1) 99 #[.bool false, .slice none 0 0]
  r3 : Row W (w.heap.size + 1 + 1 + 1) 99 #[.bool false, .slice none 0 0]
  bw : Below w.heap.size w W
theorem quad_new (w : World) (b1 b2 : Bool) (A1 A2 : Option Addr) (n1 c1 n2 c2 : Nat) : Quad w ((((w.alloc (.cells #[.bool b1, .slice A1 n1 c1] 99)).alloc (.cells #[.bool b2, .slice A2 n2 c2] 99)).alloc (.cells #[.bool false, .slice none 0 0] 99)).alloc (.cells #[.bool false, .slice none 0 0] 99)) b1 b2 A1 A2 n1 c1 n2 c2 := by
  have h := two_new w b1 b2 A1 A2 n1 c1 n2 c2
  generalize hW : (((w.alloc (.cells #[.bool b1, .slice A1 n1 c1] 99)).alloc (.cells #[.bool b2, .slice A2 n2 c2] 99)).alloc (.cells #[.bool false, .slice none 0 0] 99)) = W at h
  have hs : W.heap.size = w.heap.size + 1 + 1 + 1 := by rw [← hW, World.size_alloc, World.size_alloc, World.size_alloc]
  refine ⟨h.r0.alloc _, h.r1.alloc _, h.r2.alloc _, ?_, h.bw.alloc h.bw.size _⟩
  rw [← hs]; exact Row.new W _ _
theorem Quad.below {w W U : World} {b1 b2 : Bool} {A1 A2 : Option Addr} {n1 c1 n2 c2 : Nat} (h : Quad w W b1 b2 A1 A2 n1 c1 n2 c2) (hb : Below W.heap.size W U) : Quad w U b1 b2 A1 A2 n1 c1 n2 c2 := ⟨h.r0.below hb h.r0.lt, h.r1.below hb h.r1.lt, h.r2.below hb h.r2.lt, h.r3.below hb h.r3.lt, h.bw.trans (hb.mono h.bw.size)⟩
theorem Quad.fin {w W : World} {b1 b2 f g : Bool} {A1 A2 A A' : Option Addr} {n1 c1 n2 c2 n c n' c' : Nat} {p q : Int} (h : Quad w W b1 b2 A1 A2 n1 c1 n2 c2) (hp : Num W (.agg #[.bool f, .slice A n c]) p) (hq : Num W (.agg #[.bool g, .slice A' n' c']) q) :
    ∃ U, U = ((((W.setCell ⟨w.heap.size + 1 + 1, 0, none⟩ (.bool f)).setCell ⟨w.heap.size + 1 + 1, 1, none⟩ (.slice A n c)).setCell ⟨w.heap.size + 1 + 1 + 1, 0, none⟩ (.bool g)).setCell ⟨w.heap.size + 1 + 1 + 1, 1, none⟩ (.slice A' n' c')) ∧ Row U (w.heap.size + 1 + 1) 99 #[.bool f, .slice A n c] ∧ Row U (w.heap.size + 1 + 1 + 1) 99 #[.bool g, .slice A' n' c'] ∧ Num U (.agg #[.bool f, .slice A n c]) p ∧ Num U (.agg #[.bool g, .slice A' n' c']) q ∧ Below w.heap.size w U := by
  refine ⟨_, rfl, ?_⟩
  obtain ⟨b, X, m, d, e, hb, hm⟩ := hp.parts
  obtain ⟨rfl, rfl, rfl, rfl⟩ : f = b ∧ A = X ∧ n = m ∧ c = d := by simpa using e
  obtain ⟨b', X', m', d', e', hb', hm'⟩ := hq.parts
  obtain ⟨rfl, rfl, rfl, rfl⟩ : g = b' ∧ A' = X' ∧ n' = m' ∧ c' = d' := by simpa using e'
  have k2 := box_row (b' := f) (A' := A) (n' := n) (c' := c) h.r2
  have k3 := (h.r3.far (p := ⟨w.heap.size + 1 + 1, 0, none⟩) (by dsimp only; omega) (.bool f)).far (p := ⟨w.heap.size + 1 + 1, 1, none⟩) (by dsimp only; omega) (.slice A n c)
  refine ⟨(k2.far (p := ⟨w.heap.size + 1 + 1 + 1, 0, none⟩) (by dsimp only; omega) _).far (p := ⟨w.heap.size + 1 + 1 + 1, 1, none⟩) (by dsimp only; omega) _, box_row k3, num_of hb rfl (mag_box (mag_box hm h.r2) k3), num_of hb' rfl (mag_box (mag_box hm' h.r2) k3), ?_⟩
  exact (((h.bw.setCell (by dsimp only; omega) _).setCell (by dsimp only; omega) _).setCell (by dsimp only; omega) _).setCell (by dsimp only; omega) _
theorem one_box (w : World) : Mag (w.alloc (.cells #[.int .i64 1] 3)) (.slice (some ⟨w.heap.size, 0, none⟩) 1 1) 1 := by
  refine ⟨some ⟨w.heap.size, 0, none⟩, 1, rfl, by decide, by decide, .inr ⟨_, _, rfl, by simp, ?_⟩⟩
  intro j x hj
  have := (Row.new w 3 #[.int .i64 1]).cell j
  match j, hj with
  | 0, hj =>
    have e : x = 1 := by
      have h1 : (Im.grp 1)[0]? = some 1 := rfl
      rw [h1] at hj; injection hj with hj; exact hj.symm
    subst e; exact this.trans rfl
  | j + 1, hj =>
    have h1 : (Im.grp 1)[j + 1]? = none := rfl
    rw [h1] at hj; cases hj

def NumsPost (p q : Int) (w : World) (e : Ending) (w' : World) : Prop := ∃ f g A A' n n' c c', e = .returned (.tuple #[.agg #[.bool f, .slice A n c], .agg #[.bool g, .slice A' n' c']]) ∧ Num w' (.agg #[.bool f, .slice A n c]) p ∧ Num w' (.agg #[.bool g, .slice A' n' c']) q ∧ Below w.heap.size w w'
end Go.Proofs.YtabkodpjhpjgnaaGreatDoor

namespace Go.Proofs.YtabkodpjhpjgnaaGreatDoor
open Go.RowKit

set_option maxRecDepth 100000 in
set_option maxHeartbeats 2000000 in
theorem numOver_any (x y : Value) (a b : Int) (w : World) (hx : Num w x a) (hy : Num w y b) (la : (Im.grp a.natAbs).length ≤ 250) (lb : (Im.grp b.natAbs).length ≤ 250) (hb0 : b ≠ 0) :
    Calls Tryz.prog 97 #[x, y] w (NumsPost (a / b) (a % b) w) := by
  obtain ⟨b1, A1, n1, c1, rfl, hb1, hv1⟩ := hx.parts
  obtain ⟨b2, A2, n2, c2, rfl, hb2, hv2⟩ := hy.parts
  have h2 := quad_new w b1 b2 A1 A2 n1 c1 n2 c2
  obtain ⟨W, hW⟩ : ∃ W, ((((w.alloc (.cells #[.bool b1, .slice A1 n1 c1] 99)).alloc (.cells #[.bool b2, .slice A2 n2 c2] 99)).alloc (.cells #[.bool false, .slice none 0 0] 99)).alloc (.cells #[.bool false, .slice none 0 0] 99)) = W := ⟨_, rfl⟩
  rw [hW] at h2
  have hbn0 : b.natAbs ≠ 0 := by omega
  have hov := over_any _ _ a.natAbs b.natAbs W (hv1.next h2.bw) (hv2.next h2.bw) hbn0 la lb
  have hfl : (!(b1 == b2)) = !(decide (a < 0) == decide (b < 0)) := by rw [← hb1, ← hb2]
  have lq : (Im.grp (a.natAbs / b.natAbs)).length ≤ 250 := Nat.le_trans (Im.len_mono (Nat.div_le_self _ _)) la
  have hlt := Nat.mod_lt a.natAbs (show 0 < b.natAbs by omega)
  have HV := Lib.hid hov; have H2 := Lib.hid h2; have HW := Lib.hid hW
  have HVB := Lib.hid (fun (u : World) (hu : Below w.heap.size w u) => hv2.next hu)
  by_cases hfix : a < 0 ∧ a.natAbs % b.natAbs ≠ 0
  · obtain ⟨e1, e2⟩ := euc_fix a b hb0 _ hfl hfix.1 hfix.2
    have t1 : b1 = true := by rw [hb1, decide_eq_true hfix.1]
    subst t1
    have hs1 := fun v u (hv : Mag u v (a.natAbs / b.natAbs + 1)) (f : Bool) (hf : f = (!(true == b2))) => signed_any f v _ u hv
    have hs2 := fun v u (hv : Mag u v (b.natAbs - a.natAbs % b.natAbs)) => signed_any false v _ u hv
    have hz := fun v u (hv : Mag u v (a.natAbs % b.natAbs)) => isZero_any v _ u hv
    rw [decide_eq_false hfix.2] at hz
    have hs1' : ∀ v u, Mag u v (a.natAbs / b.natAbs + 1) → Calls Tryz.prog 105 #[.bool (!b2), v] u (NumPost (a / b) u) := by
      intro v u hv
      have := hs1 v u hv (!(true == b2)) rfl
      rw [e1] at this
      cases b2 <;> exact this
    have hs2' : ∀ v u, Mag u v (b.natAbs - a.natAbs % b.natAbs) → Calls Tryz.prog 105 #[.bool false, v] u (NumPost (a % b) u) := by
      intro v u hv
      have := hs2 v u hv
      rw [if_neg (by decide), e2] at this; exact this
    have hp := fun v u (hv : Mag u v (a.natAbs / b.natAbs)) => plus_any v _ (a.natAbs / b.natAbs) 1 _ (hv.next ((Below.refl _ u).alloc (Nat.le_refl _) _)) (one_box u) (by omega) (by decide)
    have hm := fun v u (hu : Below w.heap.size w u) (hv : Mag u v (a.natAbs % b.natAbs)) => minus_any _ v b.natAbs (a.natAbs % b.natAbs) u (hv2.next hu) hv (by omega) (by omega)
    have HS1 := Lib.hid hs1'; have HS2 := Lib.hid hs2'; have HZ := Lib.hid hz; have HP := Lib.hid hp; have HM := Lib.hid hm
    clear h2 hW hx hy hb1 hb2 hv1 hv2 la lb hov hfl lq hlt hs1 hs2 hz hp hm hs1' hs2' e1 e2 hfix hbn0 hb0
    generalize a / b = p at *
    generalize a % b = q at *
    go_enter Tryz.func97, Tryz.ntmps97
    go_wp2_with (first | (go_at_call 117; rw [HW.out]; refine HV.out.mono ?_; unfold OverPost; rintro e w1 ⟨vq, vr, rfl, hq, hr, hb⟩; have hh := H2.out.below hb; obtain ⟨k0, k1, f0, f1⟩ := box_facts hh.r0; obtain ⟨k2, k3, f2, f3⟩ := box_facts hh.r1; have H3 := Lib.hid hh; have HQ := Lib.hid hq; have HR := Lib.hid hr; clear hb hh hq hr) | (go_at_call 116; refine (HZ.out _ _ HR.out).mono ?_; rintro e w2 ⟨rfl, rfl⟩) | (go_at_call 111; refine (HP.out _ _ HQ.out).mono ?_; unfold MagPost; rintro e w2 ⟨v2, rfl, hm, hb⟩; have hb' := ((Below.refl _ w1).alloc (Nat.le_refl _) (.cells #[.int .i64 1] 3)).trans (hb.mono (by simp)); have hh := H3.out.below hb'; obtain ⟨k4, k5, f4, f5⟩ := box_facts hh.r1; have H4 := Lib.hid hh; have HQ2 := Lib.hid hm; have HR2 := Lib.hid (HR.out.next hb'); clear hb hh hm hb') | (go_at_call 113; refine (HM.out _ _ H4.out.bw HR2.out).mono ?_; unfold MagPost; rintro e w3 ⟨v3, rfl, hm, hb⟩; have hh := H4.out.below hb; obtain ⟨k6, k7, f6, f7⟩ := box_facts hh.r0; obtain ⟨k8, k9, f8, f9⟩ := box_facts hh.r1; have H5 := Lib.hid hh; have HR3 := Lib.hid hm; have HQ3 := Lib.hid (HQ2.out.next hb); clear hb hh hm) | (go_at_call 105; with_reducible refine Calls.mono (HS1.out _ _ HQ3.out) ?_; unfold NumPost; rintro e w4 ⟨x4, rfl, hn, hb⟩; have H6 := Lib.hid (H5.out.below hb); have HN1 := Lib.hid hn; have HR4 := Lib.hid (HR3.out.next hb); clear hb hn) | (go_at_call 105; with_reducible refine Calls.mono (HS2.out _ _ HR4.out) ?_; unfold NumPost; rintro e w5 ⟨x5, rfl, hn, hb⟩; have hh := H6.out.below hb; obtain ⟨g1, B1, m1, d1, rfl, -, -⟩ := (HN1.out.next hb).parts; obtain ⟨g2, B2, m2, d2, rfl, -, -⟩ := hn.parts; obtain ⟨u0, u1, z0, z1⟩ := box_facts hh.r2; obtain ⟨u2, u3, z2, z3⟩ := box_facts hh.r3; have HF := Lib.hid (hh.fin (HN1.out.next hb) hn); clear hb hn hh))
    obtain ⟨U, hU, r2, r3, m1', m2', hbf⟩ := HF.out
    rw [← hU]
    refine bodyPost_ret (results_nums rfl _ _ (w.heap.size + 1 + 1) (w.heap.size + 1 + 1 + 1) _ _ _ _ rfl rfl r2 r3) rfl ?_
    exact ⟨_, _, _, _, _, _, _, _, rfl, m1', m2', hbf⟩
  · obtain ⟨e1, e2⟩ := euc_not a b hb0 _ hfl hfix
    have hs1 := fun v u (hv : Mag u v (a.natAbs / b.natAbs)) (f : Bool) => signed_any f v _ u hv
    have hs2 := fun v u (hv : Mag u v (a.natAbs % b.natAbs)) => signed_any false v _ u hv
    have hz := fun v u (hv : Mag u v (a.natAbs % b.natAbs)) => isZero_any v _ u hv
    have hs2' : ∀ v u, Mag u v (a.natAbs % b.natAbs) → Calls Tryz.prog 105 #[.bool false, v] u (NumPost (a % b) u) := by
      intro v u hv
      have := hs2 v u hv
      rw [if_neg (by decide), e2] at this; exact this
    have hs1f : ∀ v u, Mag u v (a.natAbs / b.natAbs) → Calls Tryz.prog 105 #[.bool (!(b1 == b2)), v] u (NumPost (a / b) u) := by
      intro v u hv
      have := hs1 v u hv (!(b1 == b2))
      rw [e1] at this; exact this
    have HS2 := Lib.hid hs2'
    cases b1 with
    | true =>
      have hs1' : ∀ v u, Mag u v (a.natAbs / b.natAbs) → Calls Tryz.prog 105 #[.bool (!b2), v] u (NumPost (a / b) u) := by
        intro v u hv
        have := hs1f v u hv
        cases b2 <;> exact this
      rw [decide_eq_true (Decidable.byContradiction fun hc => hfix ⟨of_decide_eq_true hb1.symm, hc⟩)] at hz
      have HS1 := Lib.hid hs1'; have HZ := Lib.hid hz
      clear h2 hW hx hy hb1 hb2 hv1 hv2 la lb hov hfl lq hlt hs1 hs2 hz hs1' hs1f hs2' e1 e2 hfix hbn0 hb0
      generalize a / b = p at *
      generalize a % b = q at *
      go_enter Tryz.func97, Tryz.ntmps97
      go_wp2_with (first | (go_at_call 117; rw [HW.out]; refine HV.out.mono ?_; unfold OverPost; rintro e w1 ⟨vq, vr, rfl, hq, hr, hb⟩; have hh := H2.out.below hb; obtain ⟨k0, k1, f0, f1⟩ := box_facts hh.r0; obtain ⟨k2, k3, f2, f3⟩ := box_facts hh.r1; have H3 := Lib.hid hh; have HQ := Lib.hid hq; have HR := Lib.hid hr; clear hb hh hq hr) | (go_at_call 116; refine (HZ.out _ _ HR.out).mono ?_; rintro e w2 ⟨rfl, rfl⟩) | (go_at_call 105; with_reducible refine Calls.mono (HS1.out _ _ HQ.out) ?_; unfold NumPost; rintro e w4 ⟨x4, rfl, hn, hb⟩; have H6 := Lib.hid (H3.out.below hb); have HN1 := Lib.hid hn; have HR4 := Lib.hid (HR.out.next hb); clear hb hn) | (go_at_call 105; with_reducible refine Calls.mono (HS2.out _ _ HR4.out) ?_; unfold NumPost; rintro e w5 ⟨x5, rfl, hn, hb⟩; have hh := H6.out.below hb; obtain ⟨g1, B1, m1, d1, rfl, -, -⟩ := (HN1.out.next hb).parts; obtain ⟨g2, B2, m2, d2, rfl, -, -⟩ := hn.parts; obtain ⟨u0, u1, z0, z1⟩ := box_facts hh.r2; obtain ⟨u2, u3, z2, z3⟩ := box_facts hh.r3; have HF := Lib.hid (hh.fin (HN1.out.next hb) hn); clear hb hn hh))
      obtain ⟨U, hU, r2, r3, m1', m2', hbf⟩ := HF.out
      rw [← hU]
      refine bodyPost_ret (results_nums rfl _ _ (w.heap.size + 1 + 1) (w.heap.size + 1 + 1 + 1) _ _ _ _ rfl rfl r2 r3) rfl ?_
      exact ⟨_, _, _, _, _, _, _, _, rfl, m1', m2', hbf⟩
    | false =>
      have hs1' : ∀ v u, Mag u v (a.natAbs / b.natAbs) → Calls Tryz.prog 105 #[.bool b2, v] u (NumPost (a / b) u) := by
        intro v u hv
        have := hs1f v u hv
        cases b2 <;> exact this
      have HS1 := Lib.hid hs1'; have HZ := Lib.hid hz
      clear h2 hW hx hy hb1 hb2 hv1 hv2 la lb hov hfl lq hlt hs1 hs2 hz hs1' hs1f hs2' e1 e2 hfix hbn0 hb0
      generalize a / b = p at *
      generalize a % b = q at *
      go_enter Tryz.func97, Tryz.ntmps97
      go_wp2_with (first | (go_at_call 117; rw [HW.out]; refine HV.out.mono ?_; unfold OverPost; rintro e w1 ⟨vq, vr, rfl, hq, hr, hb⟩; have hh := H2.out.below hb; obtain ⟨k0, k1, f0, f1⟩ := box_facts hh.r0; obtain ⟨k2, k3, f2, f3⟩ := box_facts hh.r1; have H3 := Lib.hid hh; have HQ := Lib.hid hq; have HR := Lib.hid hr; clear hb hh hq hr) | (go_at_call 116; refine (HZ.out _ _ HR.out).mono ?_; rintro e w2 ⟨rfl, rfl⟩) | (go_at_call 105; with_reducible refine Calls.mono (HS1.out _ _ HQ.out) ?_; unfold NumPost; rintro e w4 ⟨x4, rfl, hn, hb⟩; have H6 := Lib.hid (H3.out.below hb); have HN1 := Lib.hid hn; have HR4 := Lib.hid (HR.out.next hb); clear hb hn) | (go_at_call 105; with_reducible refine Calls.mono (HS2.out _ _ HR4.out) ?_; unfold NumPost; rintro e w5 ⟨x5, rfl, hn, hb⟩; have hh := H6.out.below hb; obtain ⟨g1, B1, m1, d1, rfl, -, -⟩ := (HN1.out.next hb).parts; obtain ⟨g2, B2, m2, d2, rfl, -, -⟩ := hn.parts; obtain ⟨u0, u1, z0, z1⟩ := box_facts hh.r2; obtain ⟨u2, u3, z2, z3⟩ := box_facts hh.r3; have HF := Lib.hid (hh.fin (HN1.out.next hb) hn); clear hb hn hh))
      obtain ⟨U, hU, r2, r3, m1', m2', hbf⟩ := HF.out
      rw [← hU]
      refine bodyPost_ret (results_nums rfl _ _ (w.heap.size + 1 + 1) (w.heap.size + 1 + 1 + 1) _ _ _ _ rfl rfl r2 r3) rfl ?_
      exact ⟨_, _, _, _, _, _, _, _, rfl, m1', m2', hbf⟩
end Go.Proofs.YtabkodpjhpjgnaaGreatDoor

namespace Go.Proofs.YtabkodpjhpjgnaaGreatDoor
open Go.RowKit

set_option maxHeartbeats 1000000 in
set_option maxRecDepth 100000 in
theorem cc_used (b : Nat) (w : World) (h0 : w.cell? ⟨b, 0, none⟩ = some (.pointer (some ⟨b, 0, none⟩))) :
    Calls Tryz.prog 123 #[.pointer (some ⟨b, 0, none⟩)] w fun e w' => e = .returned (.tuple #[]) ∧ w' = w := by
  obtain ⟨j, hj, -⟩ := Option.map_eq_some_iff.1 (show (Tryz.prog.info? 115).map (·.size) = some 2 by kernel_rfl)
  go_enter Tryz.func123, Tryz.ntmps123
  go_wp2
  rw [Lib.run_neq_ptr_same w _ Tryz.underlying113 hj]
  go_wp2
  go_end0
  exact ⟨rfl, rfl⟩

set_option maxHeartbeats 1000000 in
set_option maxRecDepth 100000 in
theorem cc_fresh (b : Nat) (w : World) (h0 : w.cell? ⟨b, 0, none⟩ = some (.pointer none)) (hsh : w.shape? b = some (115, 2)) (hfz : w.frozen? ⟨b, 0, none⟩ = false) :
    Calls Tryz.prog 123 #[.pointer (some ⟨b, 0, none⟩)] w fun e w' => e = .returned (.tuple #[]) ∧ w' = w.setCell ⟨b, 0, none⟩ (.pointer (some ⟨b, 0, none⟩)) := by
  obtain ⟨j, hj, hjs⟩ := Option.map_eq_some_iff.1 (show (Tryz.prog.info? 115).map (·.size) = some 2 by kernel_rfl)
  go_enter Tryz.func123, Tryz.ntmps123
  go_wp2
  rw [Lib.run_to_unsafe w ⟨b, 0, none⟩ Tryz.underlying113 Tryz.underlying155 hj (by rw [hjs]; decide) hsh (Nat.zero_lt_succ 1)]
  simp only [Result.andThen]
  rw [Oper.upon_value]
  go_wp2
  rw [run_callFunc_extern Tryz.func145 (by kernel_rfl) (by kernel_rfl) (by kernel_rfl) (e := Extern.AbiNoEscape.same) (by kernel_rfl)]
  rw [Lib.run_noEscape]
  simp only [Result.andThen]
  rw [Oper.upon_value]
  go_wp2
  rw [Lib.run_from_unsafe w ⟨b, 0, none⟩ Tryz.underlying155 Tryz.underlying113 hj hsh (by kernel_rfl)]
  simp only [Result.andThen]
  rw [Oper.upon_value]
  go_wp2
  go_end0
  exact ⟨rfl, rfl⟩

/-- The blocks that a write to the builder b may change: its own and its buffer's. -/
def noB (b : Nat) (X : World) (j : Nat) : Prop := j = b ∨ ∃ p v, X.heap[b]? = some (.cells #[p, v] 115 (0, 0)) ∧ v.ownBlock = some j
def ccB (b : Nat) (w w1 : World) : Prop := Keeps (fun j => j = b) w w1 ∧ ∀ p v, w.heap[b]? = some (.cells #[p, v] 115 (0, 0)) → w1.heap[b]? = some (.cells #[.pointer (some ⟨b, 0, none⟩), v] 115 (0, 0))
theorem cc_any (B b : Nat) (bs : List Value) (w : World) (h : Lib.IsBuilderF 115 5 B b bs w) :
    Calls Tryz.prog 123 #[.pointer (some ⟨b, 0, none⟩)] w fun e w' => e = .returned (.tuple #[]) ∧ (Lib.BuilderAtF 115 5 B b (.pointer (some ⟨b, 0, none⟩)) bs w' ∧ Below B w w' ∧ ccB b w w') := by
  rcases h with h | h
  · refine (cc_fresh b w h.cell0 h.shape h.frozen0).mono ?_
    rintro e w' ⟨rfl, rfl⟩
    exact ⟨rfl, h.used _, (Below.refl B w).setCell (p := ⟨b, 0, none⟩) h.1 _, Keeps.setCell (no := fun j => j = b) (p := ⟨b, 0, none⟩) rfl _, fun p v hb => by rw [heap_setCell_same w b 0 _ _ _ hb]; rfl⟩
  · refine (cc_used b w h.cell0).mono ?_
    rintro e w' ⟨rfl, rfl⟩
    refine ⟨rfl, h, Below.refl B _, Keeps.refl _ _, fun p v hb => ?_⟩
    obtain ⟨_, v', hb', _⟩ := h
    rw [hb] at hb'
    simp only [Option.some.injEq, Obj.cells.injEq, Array.mk.injEq, List.cons.injEq, and_true] at hb'
    rw [hb, hb'.1]

set_option maxHeartbeats 2000000 in
set_option maxRecDepth 100000 in
theorem wstr_any (B b : Nat) (bs : List Value) (s : ByteArray) (w : World) (h : Lib.IsBuilderF 115 5 B b bs w) (hlen : bs.length + s.size ≤ 140737488355328) (hBw : B ≤ w.heap.size) :
    Calls Tryz.prog 102 #[.pointer (some ⟨b, 0, none⟩), .string s] w fun e w' => e = .returned (.tuple #[.int .i64 s.size, .nilIface]) ∧ (Lib.BuilderAtF 115 5 B b (.pointer (some ⟨b, 0, none⟩)) (bs ++ Lib.strCells s) w' ∧ Below B w w' ∧ Keeps (noB b w) w w') := by
  have hp0 : ∃ p v, w.heap[b]? = some (.cells #[p, v] 115 (0, 0)) := by
    rcases h with h | h
    · obtain ⟨_, v, hb, _⟩ := h; exact ⟨_, v, hb⟩
    · obtain ⟨_, v, hb, _⟩ := h; exact ⟨_, v, hb⟩
  obtain ⟨i0, hi, hz0, hz1, hz2⟩ := info_parts (show (Tryz.prog.info? 5).map (fun i => (i.zero, i.size, i.bytes)) = some (some (.int .u8 0), 1, 1) by kernel_rfl)
  go_enter Tryz.func102, Tryz.ntmps102
  go_wp2_with (go_at_call 123; refine (cc_any B b bs _ h).mono ?_)
  rintro e w1 ⟨rfl, h1, hb1, hk1⟩
  obtain ⟨hB, v, hbk, hown, hne⟩ := h1
  have HCC := Lib.hid hk1
  have HP := Lib.hid hp0
  clear hk1 hp0
  have c0 : w1.cell? ⟨b, 0, none⟩ = some (.pointer (some ⟨b, 0, none⟩)) := by rw [Lib.cell_of_heap hbk]; rfl
  have c1 : w1.cell? ⟨b, 1, none⟩ = some v := by rw [Lib.cell_of_heap hbk]; rfl
  go_wp2_with (at_builtin; refine Lib.wpList_append_own_stringF _ rfl _ _ 48 9 rfl B 5 i0 Tryz.underlying48 Tryz.underlying9 hi hz0 hz1 hz2 _ _ _ rfl hown s rfl ?c3 ?c4 ?c5 ?_)
  case c3 => unfold maxLen; omega
  case c4 => omega
  case c5 => have := hb1.size; omega
  intro v' w2 hown' hgrow _
  have hlt : b < w1.heap.size := by
    rcases Nat.lt_or_ge b w1.heap.size with h' | h'
    · exact h'
    · simp [Array.getElem?_eq_none h'] at hbk
  have hb2 : w2.heap[b]? = some (.cells #[.pointer (some ⟨b, 0, none⟩), v] 115 (0, 0)) := by
    rw [hgrow.block b hlt (fun e => hne e.symm)]
    exact hbk
  have d0 : w2.cell? ⟨b, 0, none⟩ = some (.pointer (some ⟨b, 0, none⟩)) := by rw [Lib.cell_of_heap hb2]; rfl
  have d1 : w2.cell? ⟨b, 1, none⟩ = some v := by rw [Lib.cell_of_heap hb2]; rfl
  have f1 : w2.frozen? ⟨b, 1, none⟩ = false := Lib.frozen_of_heap hb2 1
  obtain ⟨ao, n', cap, rfl⟩ : ∃ ao n' cap, v' = .slice ao n' cap := by
    rcases hown'.2 with ⟨hv, _⟩ | ⟨g, cap, cur, fz, hv, _⟩
    · exact ⟨_, _, _, hv⟩
    · exact ⟨_, _, _, hv⟩
  go_wp2
  go_ret2
  refine ⟨rfl, ?_, ?_, ?_⟩
  · exact Lib.BuilderAtF.put (T := 115) (e := 5) hB hb2 (bs' := bs ++ Lib.strCells s) (by simpa [Lib.strCells_length] using hown') (by decide)
  · exact (hb1.grown hgrow (by have := hb1.size; omega) (fun k hk => (hown.lt k hk).1)).setCell (p := ⟨b, 1, none⟩) hB _
  · obtain ⟨p0, v0, h0⟩ := HP.out
    have hv : v0 = v := by
      have := HCC.out.2 p0 v0 h0
      rw [hbk] at this
      simp only [Option.some.injEq, Obj.cells.injEq, Array.mk.injEq, List.cons.injEq, and_true, true_and] at this
      exact this.symm
    subst hv
    have hK := HCC.out.1
    refine ⟨hgrow.os.trans hK.os, hgrow.tape.trans hK.tape, hgrow.output.trans hK.output, by have h1 := hK.size; have h2 := hgrow.size; simp [World.setCell]; omega, fun k hk hn => ?_⟩
    have hkb : k ≠ b := fun e => hn (.inl e)
    rw [Below.heap_setCell _ _ _ _ hkb, hgrow.block k (by have := hK.size; omega) (fun e => hn (.inr ⟨p0, v0, h0, e.symm⟩)), hK.block k hk hkb]
end Go.Proofs.YtabkodpjhpjgnaaGreatDoor
