/- Contract of the reference's Made. -/
import Derived.Test.YtflpfmkfjccmiaaGreatDoorKb
import Derived.Deep.RegionHeld3
namespace Go.Proofs.YtflpfmkfjccmiaaGreatDoor
open Go.RowKit
attribute [local go_sem ↓] append_appN

/-- The digits that a string determines. -/
def digL (s : ByteArray) (k : Nat) : List Int := (s.data.toList.take k).map fun c => ((c.toNat % 10 : Nat) : Int)
theorem digL_len (s : ByteArray) (k : Nat) (h : k ≤ s.size) : (digL s k).length = k := by
  have := Lib.size_eq s
  simp [digL]; omega
theorem digL_succ (s : ByteArray) (k : Nat) (h : k < s.size) : digL s (k + 1) = digL s k ++ [(((s[k]'h).toNat % 10 : Nat) : Int)] := by
  have hl : k < s.data.toList.length := by have := Lib.size_eq s; omega
  unfold digL
  rw [List.take_succ_eq_append_getElem hl, List.map_append]
  rfl
theorem digL_dg (s : ByteArray) (k : Nat) : Im.Dg (digL s k) := fun x hx => by
  unfold digL at hx
  obtain ⟨c, _, rfl⟩ := List.mem_map.1 hx
  omega

/-- Whether the string asks for a negative integer, and the integer that it determines. -/
def negS (s : ByteArray) : Bool := if h : 0 < s.size then decide (128 ≤ (s[0]'h).toNat) else false
def madeZ (s : ByteArray) (m : Nat) : Int := Im.sgn (negS s) (Im.trim (digL s (min s.size m)))
theorem madeZ_lt (s : ByteArray) (m : Nat) : (madeZ s m).natAbs < 10 ^ m := by
  have hd := Im.trim_dg (digL_dg s (min s.size m))
  refine Nat.lt_of_lt_of_le (Im.sgn_lt _ hd) (Nat.pow_le_pow_right (by decide) ?_)
  have h1 := Im.trim_len_le (digL s (min s.size m))
  rw [digL_len s _ (Nat.min_le_left _ _)] at h1
  omega
def MadeP (s : ByteArray) (m : Nat) (w : World) (e : Ending) (w' : World) : Prop := e = .returned (strOf (Lib.itoa (madeZ s m))) ∧ Below w.heap.size w w'

theorem made_end (s : ByteArray) (k m : Nat) (hk : k = min s.size m) : strOf (Im.rtxt (negS s) (Im.trim (digL s k))) = strOf (Lib.itoa (madeZ s m)) := by
  subst hk
  rw [Im.rtxt_itoa _ (Im.trim_dg (digL_dg s _)) (Im.trim_top _)]; rfl

theorem text3_nil (w : World) : Calls Tryz.prog 26 #[.bool false, .slice none 0 0] w fun e w' => e = .returned (.tuple #[.string ⟨#[48]⟩, .bool true]) ∧ w' = w := by
  go_enter Tryz.func26, Tryz.ntmps26
  go_wp2
  go_ret2
  exact ⟨rfl, rfl⟩
theorem trim3_nil (w : World) : Calls Tryz.prog 27 #[.slice none 0 0] w fun e w' => e = .returned (.slice none 0 0) ∧ w' = w := by
  refine (trim3_any [] none 0 w (ints_nil _ _)).mono ?_
  rintro e w' ⟨rfl, rfl⟩
  exact ⟨rfl, rfl⟩
set_option maxRecDepth 100000 in
set_option maxHeartbeats 2000000 in
theorem made_empty (m : Nat) (w : World) : Calls Tryz.prog 5 #[.string ⟨#[]⟩, .int .i64 (m : Int)] w (MadeP ⟨#[]⟩ m w) := by
  have hz : Lib.itoa (madeZ ⟨#[]⟩ m) = [48] := by
    have e : madeZ ⟨#[]⟩ m = 0 := by
      unfold madeZ
      rw [show min (⟨#[]⟩ : ByteArray).size m = 0 from Nat.zero_min m]; rfl
    rw [e]; decide +kernel
  unfold MadeP
  rw [hz]
  have K1 := Lib.hid trim3_nil
  have K2 := Lib.hid text3_nil
  go_enter Tryz.func5, Tryz.ntmps5
  go_wp2
  go_loopw [5, 6] (fun o i wr => o = .slice none 0 0 ∧ i = .int .i64 0 ∧ wr = w) (fun _ _ _ => 0)
  case atStart => exact ⟨rfl, by go_num, rfl⟩
  case round =>
    obtain ⟨rfl, rfl, rfl⟩ := hrel
    go_wp2
    go_quiet (first | (go_at_call 27; (with_reducible refine Calls.quiet_of_same (K1.out _))) | (go_at_call 26; (with_reducible refine Calls.quiet_of_same (K2.out _))))
    go_wp2
    go_ret
    exact ⟨rfl, ⟨rfl, rfl, rfl, by simp, fun _ _ => rfl⟩⟩
set_option maxRecDepth 100000 in
set_option maxHeartbeats 2000000 in
theorem made_any (s : ByteArray) (m : Nat) (hm : m ≤ 200) (w : World) : Calls Tryz.prog 5 #[.string s, .int .i64 (m : Int)] w (MadeP s m w) := by
  rcases Nat.eq_zero_or_pos s.size with hs0 | hs0
  · obtain rfl : s = ⟨#[]⟩ := by
      apply ByteArray.ext
      exact Array.eq_empty_of_size_eq_zero hs0
    exact made_empty m w
  obtain ⟨i0, hi0, hz0, hz1, hz2⟩ := info_parts Tryz.infoInt
  unfold MadeP
  have HX : Hid (∀ x : UInt8, x.toNat < 256) := Lib.hid fun x => x.toNat_lt
  obtain ⟨g, hg⟩ : ∃ g : Bool, negS s = g := ⟨_, rfl⟩
  have hend := fun k hk => made_end s k m hk
  rw [hg] at hend
  unfold negS at hg
  have hidx : 0 < s.size → ∃ x : Int, (∀ w, (Instr.index 9 (.string s) (.int .i64 0)).run Tryz.prog w = .ok (.int .u8 x) w) ∧ decide ((128 : Int) ≤ x) = g := fun h => by
    refine ⟨((s[0]'h).toNat : Int), fun w => ?_, ?_⟩
    · rw [run_index_string w 9 s .i64 0 Tryz.underlying9, dif_pos ⟨by decide, by omega⟩]
      rfl
    · rw [← hg, dif_pos h]; exact decide_eq_decide.2 (by omega)
  have hg0 : ¬ 0 < s.size → g = false := fun h => by rw [← hg, dif_neg h]
  have HI := Lib.hid hidx; have HG := Lib.hid hg0; have HEND := Lib.hid hend
  clear hidx hg0 hg hend
  go_enter Tryz.func5, Tryz.ntmps5
  go_wp2
  go_loopw [5, 6] (fun o i wr => ∃ k : Nat, k ≤ s.size ∧ k ≤ m ∧ i = .int .i64 (k : Int) ∧ Hid (wr.ownsRow w.heap.size 3 1 o k (intCells (digL s k))) ∧ Hid (Below w.heap.size w wr)) (fun _ i _ => m - (intOf i).toNat)
  case atStart => exact ⟨0, by omega, by omega, by go_num, Lib.hid (World.ownsRow_nil _ _ _ _), Lib.hid (Below.refl _ _)⟩
  case round =>
    obtain ⟨k, hk, hkm, rfl, HO, HB⟩ := hrel
    by_cases hlt : k < s.size
    · by_cases hlm : k < m
      · have hsn := digL_succ s k hlt
        obtain ⟨c, hc⟩ : ∃ c, (s[k]'hlt).toNat = c := ⟨_, rfl⟩
        have hcl : c < 256 := by rw [← hc]; exact HX.out _
        have hix : ∀ w, (Instr.index 9 (.string s) (.int .i64 (k : Int))).run Tryz.prog w = .ok (.int .u8 (c : Int)) w := fun w => by
          rw [run_index_string w 9 s .i64 (k : Int) Tryz.underlying9, dif_pos ⟨by omega, by omega⟩, ← hc]
          rfl
        rw [hc, show ((c % 10 : Nat) : Int) = (c : Int) % 10 by omega] at hsn
        obtain ⟨v2, w2, hrun, hown2, hgr⟩ := snoc_int (x := (c : Int) % 10) hi0 hz0 hz1 hz2 HO.out (by omega) HB.out.size
        have hb2 := grown_below HO.out HB.out.size hgr
        rw [← hsn] at hown2
        have HO2 := Lib.hid hown2; have HB2 := Lib.hid (HB.out.trans hb2)
        have i1 : IntKind.i64.wrap (c : Int) = (c : Int) := IntWalk.i64_in _ (by omega)
        have i2 : (c : Int).tmod 10 = (c : Int) % 10 := Int.tmod_eq_emod_of_nonneg (by omega)
        have i3 : IntKind.i64.wrap ((c : Int) % 10) = (c : Int) % 10 := IntWalk.i64_in _ (by omega)
        clear hsn hc hown2 hgr hb2
        go_wp2
        go_roundw
        case rel => exact ⟨k + 1, by omega, by omega, by go_num, HO2, HB2⟩
        case measure => simp [intOf]; omega
      · have hov := HO.out
        obtain ⟨A, cc, rfl⟩ := own_slice hov
        have hin := ints_of_own hov (digL_len s k hk)
        have hfin := HEND.out k (by omega)
        have hdgt := Im.trim_dg (digL_dg s k)
        have htl : (Im.trim (digL s k)).length ≤ 200 := by
          have h1 := Im.trim_len_le (digL s k)
          rw [digL_len s k hk] at h1
          omega
        obtain ⟨S, hS⟩ : ∃ S, strOf (Im.rtxt g (Im.trim (digL s k))) = S := ⟨_, rfl⟩
        have htr := fun (u : World) (hb : Below wr.heap.size wr u) => trim3_any (digL s k) A cc u (by rw [digL_len s k hk]; exact hin.next hb)
        rw [digL_len s k hk] at htr
        have htx := fun (u : World) (hb : Below wr.heap.size wr u) => text3_any g (Im.trim (digL s k)) A cc u (by
          have h1 := ints_pre (hin.next hb) (Im.trim (digL s k)).length (Im.trim_len_le _)
          rw [← Im.trim_take] at h1
          exact h1) hdgt htl
        rw [hS] at htx hfin
        have HTR := Lib.hid htr; have HTX := Lib.hid htx; have HFIN := Lib.hid hfin
        clear htr htx hfin hdgt htl hin hov hS HO
        by_cases h0 : 0 < s.size
        · obtain ⟨x, hi, hx⟩ := HI.out h0
          go_wp2
          go_region_held3 (fun u => Below wr.heap.size wr u) (first | assumption | (exact (Below.refl _ _).drew) | (exact HB3.out)) (first | (go_at_call 27; ((with_reducible refine Calls.mono (HTR.out _ (by assumption)) ?_); rintro e w3 ⟨rfl, rfl⟩)) | (go_at_call 26; ((with_reducible refine Calls.mono (HTX.out _ (by assumption)) ?_); rintro e w4 ⟨rfl, hb4⟩; have HB3 := Lib.hid (below_to (by assumption) hb4); clear hb4)))
          all_goals
            go_wp2
            go_ret
            exact ⟨by rw [← HFIN.out]; rfl, HB.out.trans (HB3.out.mono HB.out.size)⟩
        · omega
    · have hov := HO.out
      obtain ⟨A, cc, rfl⟩ := own_slice hov
      have hin := ints_of_own hov (digL_len s k hk)
      have hfin := HEND.out k (by omega)
      have hdgt := Im.trim_dg (digL_dg s k)
      have htl : (Im.trim (digL s k)).length ≤ 200 := by
        have h1 := Im.trim_len_le (digL s k)
        rw [digL_len s k hk] at h1
        omega
      obtain ⟨S, hS⟩ : ∃ S, strOf (Im.rtxt g (Im.trim (digL s k))) = S := ⟨_, rfl⟩
      have htr := fun (u : World) (hb : Below wr.heap.size wr u) => trim3_any (digL s k) A cc u (by rw [digL_len s k hk]; exact hin.next hb)
      rw [digL_len s k hk] at htr
      have htx := fun (u : World) (hb : Below wr.heap.size wr u) => text3_any g (Im.trim (digL s k)) A cc u (by
        have h1 := ints_pre (hin.next hb) (Im.trim (digL s k)).length (Im.trim_len_le _)
        rw [← Im.trim_take] at h1
        exact h1) hdgt htl
      rw [hS] at htx hfin
      have HTR := Lib.hid htr; have HTX := Lib.hid htx; have HFIN := Lib.hid hfin
      clear htr htx hfin hdgt htl hin hov hS HO
      by_cases h0 : 0 < s.size
      · obtain ⟨x, hi, hx⟩ := HI.out h0
        go_wp2
        go_region_held3 (fun u => Below wr.heap.size wr u) (first | assumption | (exact (Below.refl _ _).drew) | (exact HB3.out)) (first | (go_at_call 27; ((with_reducible refine Calls.mono (HTR.out _ (by assumption)) ?_); rintro e w3 ⟨rfl, rfl⟩)) | (go_at_call 26; ((with_reducible refine Calls.mono (HTX.out _ (by assumption)) ?_); rintro e w4 ⟨rfl, hb4⟩; have HB3 := Lib.hid (below_to (by assumption) hb4); clear hb4)))
        all_goals
          go_wp2
          go_ret
          exact ⟨by rw [← HFIN.out]; rfl, HB.out.trans (HB3.out.mono HB.out.size)⟩
      · exact absurd hs0 h0
end Go.Proofs.YtflpfmkfjccmiaaGreatDoor
