/- The law ClockAgrees answers true. -/
import Derived.Test.YtfbgfcpehlimfaaL7a
import Derived.Test.YtfbgfcpehlimfaaL2
namespace Go.Proofs.Ytfbgfcpehlimfaa
open Go.RowKit
attribute [local go_sem ↓] append_appN

def nearOf (x : Int × Int) : Int × Int := (pickI x.1 40, pickI x.2 40)
theorem near_take (l : List (Int × Int)) (k : Nat) (hk : k < l.length) : (l.take (k + 1)).map nearOf = (l.take k).map nearOf ++ [nearOf l[k]] := by
  rw [List.take_succ_eq_append_getElem hk, List.map_append]; rfl
set_option maxRecDepth 100000 in
set_option maxHeartbeats 8000000 in
theorem clockAgrees_any (v : Value) (l0 : List (Int × Int)) (s : Int) (w : World) (hv0 : Recs enc2 2 w w.heap.size v l0) (hq0 : ∀ x ∈ l0, I64 x.1 ∧ I64 x.2) (hs : I64 s) :
    Calls Try.prog 7 #[v, .int .i64 s] w fun e w' => e = .returned (.bool true) ∧ Below w.heap.size w w' := by
  have hcur : Below w.heap.size w w := Below.refl _ _
  have S0 := Lib.hid (fun (u : World) (_ : Below w.heap.size w u) => sane_any u)
  obtain ⟨A, c, rfl, hc1, hc2⟩ := recs_form hv0
  obtain ⟨n0, hn0⟩ : ∃ n0, l0.length = n0 := ⟨_, rfl⟩
  obtain ⟨N, hN⟩ : ∃ N, min n0 12 = N := ⟨_, rfl⟩
  have hv : Recs enc2 2 w w.heap.size (.slice A N c) (l0.take N) := recs_pre hv0 N (by omega)
  obtain ⟨l, hl⟩ : ∃ l, l0.take N = l := ⟨_, rfl⟩
  have hlN : l.length = N := by rw [← hl, List.length_take]; omega
  have hq : ∀ x ∈ l, I64 x.1 ∧ I64 x.2 := fun x hx => hq0 x (List.mem_of_mem_take (hl ▸ hx))
  rw [hl] at hv
  have hN12 : N ≤ 12 := by omega
  have hNn : N ≤ n0 := by omega
  have hmn := fun (w : World) => run_min2 (P := Try.prog) (w := w) #[3, 3] 3 .i64 .i64 (n0 : Int) 12 (N : Int) (by omega)
  have K5 := Lib.hid (pick_k (W := w) s 42 (by omega) (by omega) hs)
  obtain ⟨s1, s2⟩ := pickI_lt s 42 (by omega)
  obtain ⟨sp, hsp⟩ : ∃ sp, pickI s 42 = sp := ⟨_, rfl⟩
  rw [hsp] at K5 s1 s2
  have HV := Lib.hid hv
  have HR := Lib.hid (fun k hk => recs_at hv k hk)
  have HN := Lib.hid hlN
  have HQ := Lib.hid hq
  rw [hn0] at hc1 ⊢
  have hcn : N ≤ c := by omega
  clear hv0 hq0 hn0 hN hl hlN hq hv hsp hs
  go_enter Try.func7, Try.ntmps7
  go_wp2_with (go_at_call 9; with_reducible refine Calls.mono (S0.out _ hcur) ?_; rintro e w1 ⟨rfl, hb⟩; have hcur := below_to hcur hb; clear hb)
  have HC1 := Lib.hid hcur
  clear hcur
  go_loopw [6, 7] (fun u i wr => ∃ k : Nat, k ≤ N ∧ i = .int .i64 (k : Int) ∧ wr.ownsRow w.heap.size 32 2 u k (flat2 ((l.take k).map nearOf)) ∧ Below w.heap.size w wr) (fun _ i _ => N - (intOf i).toNat)
  case atStart => exact ⟨0, by omega, rfl, ⟨rfl, .inl ⟨rfl, rfl⟩⟩, HC1.out⟩
  case round =>
    obtain ⟨k, hk, rfl, hrow, hbw⟩ := hrel
    have HBW := Lib.hid hbw
    have hsz := hbw.size
    by_cases hlt : k < N
    · have hkl : k < l.length := by have := HN.out; omega
      obtain ⟨g, off, rfl, hg, hcell⟩ := HR.out k hkl
      obtain ⟨c0, c1⟩ := cells2 hcell k hkl
      have hnt := near_take l k hkl
      obtain ⟨q1, q2⟩ := HQ.out l[k] (List.getElem_mem hkl)
      obtain ⟨x, hx⟩ : ∃ x, l[k] = x := ⟨_, rfl⟩
      rw [hx] at c0 c1 hnt q1 q2
      obtain ⟨p, q⟩ := x
      dsimp only at c0 c1 q1 q2
      have hp1 := fun w => pick_any p 40 (by omega) (by omega) q1.1 q1.2 w
      have hp2 := fun w => pick_any q 40 (by omega) (by omega) q2.1 q2.2 w
      have hnn : nearOf (p, q) = (pickI p 40, pickI q 40) := rfl
      rw [hnn] at hnt
      obtain ⟨a, ha⟩ : ∃ a, pickI p 40 = a := ⟨_, rfl⟩
      obtain ⟨b, hb⟩ : ∃ b, pickI q 40 = b := ⟨_, rfl⟩
      rw [ha] at hp1 hnt
      rw [hb] at hp2 hnt
      obtain ⟨v', w', hrun, hown, hgr⟩ := snoc_pairs (w := wr.drew) [(a, b)] Try.underlying27 infoSpell hrow.drew (by omega) (by simp) (by show _ ≤ wr.heap.size; omega)
      have hrun2 : Sem.run Try.prog (appN #[27, 27] 27 #[_, .slice (some ⟨wr.heap.size, 0, none⟩) 1 1]) (wr.alloc (.cells #[.int .i64 a, .int .i64 b] 32)).drew = .ok v' w' := hrun
      have hbl := own_below_grown hrow.drew (by show _ ≤ wr.heap.size; omega) hgr
      have hb3 : Below w.heap.size w w' := hbw.trans (Below.trans (Below.refl _ _).drew hbl)
      have HX : Hid (w'.ownsRow w.heap.size 32 2 v' (k + 1) (flat2 ((l.take (k + 1)).map nearOf)) ∧ Below w.heap.size w w') := Lib.hid ⟨by rw [hnt]; exact hown, hb3⟩
      have hb2 : Below w.heap.size w (wr.alloc (.cells #[.int .i64 a, .int .i64 b] 32)).drew := (hbw.alloc hsz _).drew
      have d0 := (hbw.cell (p := ⟨g, off + k * 2, none⟩) hg).trans c0
      have d1 := (hbw.cell (p := ⟨g, off + k * 2 + 1, none⟩) hg).trans c1
      have d2 := (hb2.cell (p := ⟨g, off + k * 2, none⟩) hg).trans c0
      have d3 := (hb2.cell (p := ⟨g, off + k * 2 + 1, none⟩) hg).trans c1
      have d4 := (hb3.cell (p := ⟨g, off + k * 2, none⟩) hg).trans c0
      have d5 := (hb3.cell (p := ⟨g, off + k * 2 + 1, none⟩) hg).trans c1
      obtain ⟨A', c', hv', -, -, -⟩ := own_slice hrow
      subst hv'
      have i1 : (0 : Int) ≤ (k : Int) := by omega
      have i2 : (k : Int) < (N : Int) := by omega
      have HP1 := Lib.hid hp1; have HP2 := Lib.hid hp2
      clear hcell hnt hx hrun hown hgr hbl hbw hrow ha hb hnn q1 q2 hp1 hp2 c0 c1 hb2 hb3
      go_wp2
      go_region_held3 (fun u => u.cell? ⟨g, off + k * 2, none⟩ = some (.int .i64 p) ∧ u.cell? ⟨g, off + k * 2 + 1, none⟩ = some (.int .i64 q)) (first | assumption | (exact ⟨by assumption, by assumption⟩)) (first | (go_at_call 18; ((with_reducible refine Calls.mono (HP1.out _) ?_); rintro e w' ⟨rfl, rfl⟩)) | (go_at_call 18; ((with_reducible refine Calls.mono (HP2.out _) ?_); rintro e w' ⟨rfl, rfl⟩)))
      all_goals go_wp2
      all_goals go_roundw
      case rel => exact ⟨k + 1, by omega, by go_num, HX.out.1, HX.out.2⟩
      case measure => simp [intOf]; omega
    · have hkN : k = N := by omega
      have hta : l.take k = l := List.take_of_length_le (by have := HN.out; omega)
      rw [hta] at hrow
      have hnl : (l.map nearOf).length = k := by rw [List.length_map]; have := HN.out; omega
      have hr2 := recs_of_own hrow hnl
      have hag1 := fun u hu => agrees_any l s (.slice A N c) u (HV.out.next hu) (by have := HN.out; omega)
      have hag2 := fun u (hu : Below wr.heap.size wr u) => agrees_any (l.map nearOf) (sp - 1) u6 u (hr2.next hu) (by omega)
      have HA1 := Lib.hid hag1; have HA2 := Lib.hid hag2
      clear hrow hr2 hag1 hag2 hbw
      go_wp2_with (first | (go_at_call 28; with_reducible refine Calls.mono (HA1.out _ HBW.out) ?_; rintro e w3 ⟨rfl, hb3⟩; have HB3 := Lib.hid hb3; clear hb3) | (go_at_call 18; with_reducible refine Calls.mono (K5.out _ (below_to HBW.out HB3.out)) ?_; rintro e w4 ⟨rfl, hb4⟩; have HB4 := Lib.hid hb4; clear hb4) | (go_at_call 28; with_reducible refine Calls.mono (HA2.out _ (below_to HB3.out HB4.out)) ?_; rintro e w5 ⟨rfl, hb5⟩; have HB5 := Lib.hid hb5; clear hb5))
      go_ret
      exact ⟨rfl, below_to HBW.out (below_to (below_to HB3.out HB4.out) HB5.out)⟩
end Go.Proofs.Ytfbgfcpehlimfaa
