/- Contracts of magnitudeOf and what it calls. -/
import Derived.Test.YtflpfmkfjccmiaaGreatDoorIz
import Derived.Laws.IdiomStrings
import Derived.Laws.DeepStrings4
namespace Go.Proofs.YtflpfmkfjccmiaaGreatDoor
open Go.RowKit
attribute [local go_sem ↓] append_appN

theorem bs_sub (l : List UInt8) (a b : Nat) : (bs l).extract a b = bs ((l.take b).drop a) := by
  unfold bs
  apply ByteArray.ext
  rw [ByteArray.data_extract]
  show (List.toArray l).extract a b = _
  rw [List.extract_toArray, List.extract_eq_take_drop, List.drop_take]
theorem dv_cut (d : List UInt8) (t : Nat) (h : t ≤ d.length) : Im.dv (d.take t) = Im.dv (d.take (t - 4)) * 10000 + Im.dv ((d.take t).drop (t - 4)) := by
  by_cases h4 : 4 ≤ t
  · exact Im.dv_take d t h h4
  · rw [show t - 4 = 0 by omega, List.take_zero, List.drop_zero, Im.dv_nil]; omega

set_option maxHeartbeats 400000 in
theorem digit_any (s c : Nat) (w : World) (hs : s ≤ 1000) (h1 : 48 ≤ c) (h2 : c ≤ 57) :
    Calls Tryz.prog 85 #[.int .i64 (s : Int), .int .u8 (c : Int)] w fun e w' => e = .returned (.int .i64 ((10 * s + (c - 48) : Nat) : Int)) ∧ w = w' := by
  have e0 : ((10 * s + (c - 48) : Nat) : Int) = 10 * (s : Int) + ((c : Int) - 48) := by omega
  have e1 : IntKind.i64.wrap (10 * (s : Int)) = 10 * (s : Int) := IntWalk.i64_in _ (by omega)
  have e2 : IntKind.u8.wrap ((c : Int) - 48) = (c : Int) - 48 := by rw [IntKind.wrap_u8]; omega
  have e3 : IntKind.i64.wrap ((c : Int) - 48) = (c : Int) - 48 := IntWalk.i64_in _ (by omega)
  have e4 : IntKind.i64.wrap (10 * (s : Int) + ((c : Int) - 48)) = 10 * (s : Int) + ((c : Int) - 48) := IntWalk.i64_in _ (by omega)
  rw [e0]
  clear e0
  go_enter Tryz.func85, Tryz.ntmps85
  go_wp2
  go_ret
  exact ⟨rfl, rfl⟩

set_option maxRecDepth 100000 in
set_option maxHeartbeats 1000000 in
theorem foldb_any (l : List UInt8) (g c : Nat) (w : World) (hc : ∀ j (h : j < l.length), w.cell? ⟨g, j, none⟩ = some (.int .u8 ((l[j].toNat : Nat) : Int))) (hd : Im.digs l = true) (hl : l.length ≤ 4) :
    Calls Tryz.prog 84 #[.slice (some ⟨g, 0, none⟩) l.length c, .int .i64 0, .func (.func 85) #[] #[]] w fun e w' => e = .returned (.int .i64 ((Im.dv l : Nat) : Int)) ∧ w = w' := by
  obtain ⟨n, hn⟩ : ∃ n, l.length = n := ⟨_, rfl⟩
  rw [hn] at hl ⊢
  have HC := Lib.hid hc; have HD := Lib.hid hd; have HN := Lib.hid hn
  clear hc hd hn
  go_enter Tryz.func84, Tryz.ntmps84
  go_wp2
  go_loopw [1, 8, 11] (fun s _ i wr => ∃ k : Nat, k ≤ n ∧ i = .int .i64 (k : Int) ∧ s = .int .i64 ((Im.dv (l.take k) : Nat) : Int) ∧ w = wr) (fun _ _ i _ => n - (intOf i).toNat)
  case atStart => exact ⟨0, by omega, rfl, rfl, rfl⟩
  case round =>
    obtain ⟨k, hk, rfl, rfl, rfl⟩ := hrel
    by_cases hlt : k < n
    · have hkl : k < l.length := by have := HN.out; omega
      have c0 := HC.out k hkl
      have hdg := Im.digs_at HD.out k hkl
      have htk : l.take (k + 1) = l.take k ++ [l[k]] := List.take_succ_eq_append_getElem hkl
      have hst := Im.dv_snoc (l.take k) l[k]
      rw [← htk] at hst
      have hdl := Im.dv_lt (l.take k) (Im.digs_take HD.out k)
      have hlk : (l.take k).length ≤ 3 := by rw [List.length_take]; omega
      have hp : 10 ^ (l.take k).length ≤ 10 ^ 3 := Nat.pow_le_pow_right (by decide) hlk
      obtain ⟨x, hx⟩ : ∃ x, l[k].toNat = x := ⟨_, rfl⟩
      rw [hx] at c0 hdg hst
      obtain ⟨s, hs⟩ : ∃ s, Im.dv (l.take k) = s := ⟨_, rfl⟩
      rw [hs] at hst hdl ⊢
      have hda := digit_any s x w (by omega) hdg.1 hdg.2
      have HDA := Lib.hid hda; have HST := Lib.hid hst
      have i1 : (0 : Int) ≤ (k : Int) := by omega
      have i2 : (k : Int) < (n : Int) := by omega
      clear hda hst hdl hlk hp htk hx hs hdg
      go_wp2_with (go_at_call 85; refine HDA.out.mono ?_; rintro e w1 ⟨rfl, rfl⟩)
      go_roundw
      case rel => exact ⟨k + 1, by omega, by go_num, by rw [HST.out, Int.natCast_add, Int.natCast_mul]; rfl, trivial⟩
      case measure => simp [intOf]; omega
    · have hta : l.take k = l := List.take_of_length_le (by have := HN.out; omega)
      rw [hta]
      go_wp2
      go_ret
      exact ⟨rfl, rfl⟩

theorem mag_step (D a b p L g : Int) (h : D = a * p + L) (ha : a = b * 10000 + g) : D = b * (p * 10000) + (L + p * g) := by
  rw [h, ha, Int.add_mul, Int.mul_assoc, Int.mul_comm 10000 p, Int.mul_comm g p]; omega

set_option maxRecDepth 100000 in
set_option maxHeartbeats 2000000 in
theorem magOf_any (d : List UInt8) (w : World) (hd : Im.digs d = true) (hl : d.length ≤ 200) :
    Calls Tryz.prog 64 #[.string (bs d)] w (MagPost (Im.dv d) w) := by
  obtain ⟨i0, hi0, hz0, hz1, hz2⟩ := info_parts Tryz.infoInt
  have hsz := bs_size d
  have hsub := bs_sub d
  have hcut := dv_cut d
  have hpd := fun t => Im.digs_drop (Im.digs_take hd t) (t - 4)
  obtain ⟨S, hS⟩ : ∃ S, bs d = S := ⟨_, rfl⟩
  obtain ⟨N, hN⟩ : ∃ n, d.length = n := ⟨_, rfl⟩
  have hall : d.take N = d := List.take_of_length_le (by omega)
  rw [hS] at hsz hsub ⊢
  rw [hN] at hsz hl hcut
  have hsn := fun (u : World) (v : Value) (n : Nat) (l : List Int) (x : Int) (hrow : u.ownsRow w.heap.size 3 1 v n (intCells l)) (h1 : n ≤ 100000) (h2 : w.heap.size ≤ u.heap.size) => snoc_int (w := u) (x := x) hi0 hz0 hz1 hz2 hrow h1 h2
  have HSUB := Lib.hid hsub; have HCUT := Lib.hid hcut; have HPD := Lib.hid hpd; have HN := Lib.hid hN; have HALL := Lib.hid hall; have HSN := Lib.hid hsn; have HD := Lib.hid hd
  clear hd hS hN hall hsub hcut hpd hsn hi0 hz0 hz1 hz2
  go_enter Tryz.func64, Tryz.ntmps64
  go_wp2
  go_loopw [3, 4, 5] (fun v t _ wr => ∃ (k : Nat) (L : List Int), t = .int .i64 ((N : Int) - 4 * (k : Int)) ∧ 4 * k ≤ N + 3 ∧ Hid (L.length = k ∧ Im.Gs L ∧ ((Im.dv d : Nat) : Int) = ((Im.dv (d.take (N - 4 * k)) : Nat) : Int) * 10000 ^ k + Im.val L) ∧ Hid (wr.ownsRow w.heap.size 3 1 v k (intCells L)) ∧ Hid (Below w.heap.size w wr)) (fun _ t _ _ => (intOf t).toNat)
  case atStart => exact ⟨0, [], by go_num, by omega, Lib.hid ⟨rfl, Im.Gs.nil, by rw [Nat.mul_zero, Nat.sub_zero, HALL.out]; simp [Im.val]⟩, Lib.hid (World.ownsRow_nil _ _ _ _), Lib.hid (Below.refl _ _)⟩
  case round =>
    obtain ⟨k, L, rfl, hk, HI, HO, HB⟩ := hrel
    obtain ⟨A, c, rfl⟩ := own_slice HO.out
    by_cases h0 : 4 * k < N
    · obtain ⟨T, hT⟩ : ∃ T, N - 4 * k = T := ⟨_, rfl⟩
      have et : (N : Int) - 4 * (k : Int) = (T : Int) := by omega
      rw [et]
      have hI := HI.out
      rw [hT] at hI
      have hct := HCUT.out T (by omega)
      have hpl : ((d.take T).drop (T - 4)).length ≤ 4 := by rw [List.length_drop, List.length_take]; omega
      have hpg := HPD.out T
      have hplt := Im.dv_lt _ hpg
      have hps : (bs ((d.take T).drop (T - 4))).size = ((d.take T).drop (T - 4)).length := bs_size _
      have hsb := HSUB.out (T - 4) T
      obtain ⟨p, hp⟩ : ∃ p, (d.take T).drop (T - 4) = p := ⟨_, rfl⟩
      rw [hp] at hct hpl hpg hplt hps hsb
      have hp4 : 10 ^ p.length ≤ 10 ^ 4 := Nat.pow_le_pow_right (by decide) hpl
      obtain ⟨lo, hlo⟩ : ∃ lo, T - 4 = lo := ⟨_, rfl⟩
      rw [hlo] at hct hsb
      have hmx := fun (w : World) => run_max2 (P := Tryz.prog) (w := w) #[3, 3] 3 .i64 .i64 0 ((T : Int) - 4) lo (by omega)
      have hsl : ∀ w, (Instr.slice 9 (.string S) (some (.int .i64 (lo : Int))) (some (.int .i64 (T : Int))) none).run Tryz.prog w = .ok (.string (bs p)) w := fun w => by
        rw [run_slice_string w 9 S .i64 .i64 lo T Tryz.underlying9 (by omega) (by omega) (by rw [hsz]; omega), Int.toNat_natCast, Int.toNat_natCast, hsb]
      have hcv := run_bytes_of_string (P := Tryz.prog) wr 9 73 5 (bs p) Tryz.underlying9 Tryz.underlying73 Tryz.underlying5
      rw [hps] at hcv
      obtain ⟨C, hC⟩ : ∃ C, grownCap wr p.length 0 5 = C := ⟨_, rfl⟩
      rw [hC] at hcv
      obtain ⟨W1, hW1⟩ : ∃ W1, wr.drew.alloc (.cells (bytesRow (bs p) C) 5 ((bytesRow (bs p) C).size, (bytesRow (bs p) C).size + 1)) = W1 := ⟨_, rfl⟩
      rw [hW1] at hcv
      have hb1 : Below wr.heap.size wr W1 := by rw [← hW1]; exact ((Below.refl _ wr).drew).alloc (Nat.le_refl _) _
      have hcl : ∀ j (h : j < p.length), W1.cell? ⟨wr.heap.size, j, none⟩ = some (.int .u8 ((p[j].toNat : Nat) : Int)) := fun j h => by
        rw [← hW1, cell_of_row _ wr.heap.size j _ 5 _ (heap_alloc_new wr.drew _), bytesRow_at _ _ j (by simpa [bs] using h)]
        simp [bs]
      have hfd := foldb_any p wr.heap.size C W1 hcl hpg hpl
      obtain ⟨g, hg⟩ : ∃ g, Im.dv p = g := ⟨_, rfl⟩
      rw [hg] at hfd hct hplt
      have hg4 : g < 10000 := Nat.lt_of_lt_of_le hplt hp4
      have hob := own_below HO.out hb1 (fun k e => own_lt HO.out k e)
      obtain ⟨v', w', hrun, hown, hgr⟩ := HSN.out W1 _ k L (g : Int) hob (by omega) (by have := HB.out.size; have := hb1.size; omega)
      have hbw := grown_below hob (by have := HB.out.size; have := hb1.size; omega) hgr
      obtain ⟨A', c', rfl⟩ := own_slice hown
      have HF := Lib.hid hfd; have HO' := Lib.hid hown
      have HB' := Lib.hid ((HB.out.trans (hb1.mono HB.out.size)).trans hbw)
      have HI' : Hid ((L ++ [(g : Int)]).length = k + 1 ∧ Im.Gs (L ++ [(g : Int)]) ∧ ((Im.dv d : Nat) : Int) = ((Im.dv (d.take (N - 4 * (k + 1))) : Nat) : Int) * 10000 ^ (k + 1) + Im.val (L ++ [(g : Int)])) := Lib.hid ⟨by rw [List.length_append, hI.1]; rfl, hI.2.1.append (Im.Gs.cons (by omega) (by omega) Im.Gs.nil), by
        rw [show N - 4 * (k + 1) = lo by omega, Im.val_snoc, hI.1, Int.pow_succ]
        exact mag_step _ _ _ _ _ _ hI.2.2 (by rw [hct]; push_cast; rfl)⟩
      clear hI hct hpl hpg hplt hps hsb hp4 hcl hfd hg4 hob hown hgr hbw hp hW1 hC hg hb1
      have i1 : (0 : Int) < (T : Int) := by omega
      have i2 : IntKind.i64.wrap ((T : Int) - 4) = (T : Int) - 4 := IntWalk.i64_in _ (by omega)
      go_wp2_with (go_at_call 84; refine HF.out.mono ?_; rintro e w1 ⟨rfl, rfl⟩)
      go_roundw
      case rel => exact ⟨k + 1, _, by go_num, by omega, HI', HO', HB'⟩
      case measure => simp [intOf]; omega
    · have hI := HI.out
      rw [show N - 4 * k = 0 by omega, List.take_zero, Im.dv_nil] at hI
      have hii := ints_of_own HO.out hI.1
      rw [← hI.1] at hii
      have htr := trimmed_any L A c wr hii
      have hmg := trimmed_ints hii (Im.dv d) hI.2.1 (by have := hI.2.2; simp at this; exact this.symm)
      rw [hI.1] at htr
      have HT := Lib.hid htr; have HMG := Lib.hid hmg
      have i1 : ¬ ((0 : Int) < (N : Int) - 4 * (k : Int)) := by omega
      clear hI hii htr hmg
      go_wp2_with (go_at_call 67; refine HT.out.mono ?_; rintro e w1 ⟨rfl, rfl⟩)
      go_ret
      exact ⟨_, rfl, HMG.out, HB.out⟩
end Go.Proofs.YtflpfmkfjccmiaaGreatDoor
