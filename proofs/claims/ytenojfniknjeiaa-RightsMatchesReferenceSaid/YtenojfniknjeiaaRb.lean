/- The reference: Permitted, size, plays. -/
import Derived.Test.YtenojfniknjeiaaRa
import Derived.Test.YtenojfniknjeiaaIn
import Derived.Deep.CutBlock
namespace Go.Proofs.Ytenojfniknjeiaa
open Go.RowKit Go.Shelf
attribute [local go_sem ↓] append_appN

theorem acts_all : ∀ a, a < 32 → ∀ b, b < 32 → (bits BinOp.and IntKind.i64 ((a : Nat) : Int) ((b : Nat) : Int) == ((b : Nat) : Int)) = (List.range 5).all fun k => !b.testBit k || a.testBit k := by decide +kernel
theorem region_all : ∀ r, r < 256 → ∀ u, u < 8 → (bits BinOp.and IntKind.i64 (((r : Nat) : Int) / 2 ^ u) 1 == 1) = r.testBit u := by decide +kernel
def actB (ga ua k : Nat) : Bool := (List.range k).all fun j => !ua.testBit j || ga.testBit j
theorem actB_succ (ga ua k : Nat) : actB ga ua (k + 1) = (actB ga ua k && (!ua.testBit k || ga.testBit k)) := by
  unfold actB; rw [List.range_succ, List.all_append]; simp
theorem actB_more {ga ua k : Nat} (h : actB ga ua (k + 1) = false) (hk : k < 5) : actB ga ua 5 = false := by
  unfold actB at h ⊢
  rw [List.all_eq_false] at h ⊢
  obtain ⟨x, hx, h2⟩ := h
  exact ⟨x, List.mem_range.2 (by have := List.mem_range.1 hx; omega), h2⟩
set_option maxRecDepth 100000 in
set_option maxHeartbeats 8000000 in
theorem Permitted_any (g : Gr) (u : Us) (hg : okG g = true) (hu : okU u = true) (w : World) : Calls Try.prog 39 #[.agg #[.int .i64 g.item, .int .i64 g.acts, .int .i64 g.regions, .int .i64 g.plays, .int .i64 g.fr, .int .i64 g.tw], .agg #[.int .i64 u.item, .int .i64 u.acts, .int .i64 u.region, .int .i64 u.at_]] w fun e w' => e = .returned (.bool (perB g u)) ∧ Below w.heap.size w w' := by
  obtain ⟨item, acts, regions, plays, fr, tw⟩ := g
  obtain ⟨uitem, uacts, region, at_⟩ := u
  unfold okG at hg
  unfold okU at hu
  simp only [Bool.and_eq_true, decide_eq_true_eq] at hg hu
  obtain ⟨ga, rfl⟩ := Int.eq_ofNat_of_zero_le (show 0 ≤ acts by omega)
  obtain ⟨gr, rfl⟩ := Int.eq_ofNat_of_zero_le (show 0 ≤ regions by omega)
  obtain ⟨ua, rfl⟩ := Int.eq_ofNat_of_zero_le (show 0 ≤ uacts by omega)
  obtain ⟨ur, rfl⟩ := Int.eq_ofNat_of_zero_le (show 0 ≤ region by omega)
  have hP : perB ⟨item, ga, gr, plays, fr, tw⟩ ⟨uitem, ua, ur, at_⟩ = ((item == uitem) && actB ga ua 5 && gr.testBit ur && decide (fr ≤ at_) && decide (at_ < tw)) := by
    unfold perB
    dsimp only
    rw [acts_all ga (by omega) ua (by omega), Int.toNat_natCast, region_all gr (by omega) ur (by omega)]
    rfl
  dsimp only
  have HP := Lib.hid hP
  have HBU := Lib.hid (fun k (hk : k < 5) y => bit_any ua k (by omega) (by omega) y)
  have HBG := Lib.hid (fun k (hk : k < 5) y => bit_any ga k (by omega) (by omega) y)
  have HBR := Lib.hid (fun y => bit_any gr ur (by omega) (by omega) y)
  obtain ⟨pv, hpv⟩ : ∃ pv, perB ⟨item, ga, gr, plays, fr, tw⟩ ⟨uitem, ua, ur, at_⟩ = pv := ⟨_, rfl⟩
  rw [hpv] at HP ⊢
  have hx1 := (Below.refl w.heap.size w).alloc (Nat.le_refl _) (.cells #[.int .i64 item, .int .i64 (ga : Int), .int .i64 (gr : Int), .int .i64 plays, .int .i64 fr, .int .i64 tw] 52)
  have hx2 := hx1.alloc hx1.size (.cells #[.int .i64 uitem, .int .i64 (ua : Int), .int .i64 (ur : Int), .int .i64 at_] 46)
  have hr1 := (Row.new w 52 #[.int .i64 item, .int .i64 (ga : Int), .int .i64 (gr : Int), .int .i64 plays, .int .i64 fr, .int .i64 tw]).alloc (.cells #[.int .i64 uitem, .int .i64 (ua : Int), .int .i64 (ur : Int), .int .i64 at_] 46)
  have hr2 := Row.new (w.alloc (.cells #[.int .i64 item, .int .i64 (ga : Int), .int .i64 (gr : Int), .int .i64 plays, .int .i64 fr, .int .i64 tw] 52)) 46 #[.int .i64 uitem, .int .i64 (ua : Int), .int .i64 (ur : Int), .int .i64 at_]
  rw [World.size_alloc] at hr2
  have HX := Lib.hid (And.intro hx2 (And.intro hr1 hr2))
  clear hP hpv hg hu hx1 hx2 hr1 hr2
  go_enter Try.func39, Try.ntmps39
  go_upto_region 1 with fail
  obtain ⟨W1, hW1⟩ : ∃ W, (w.alloc (.cells #[.int .i64 item, .int .i64 (ga : Int), .int .i64 (gr : Int), .int .i64 plays, .int .i64 fr, .int .i64 tw] 52)).alloc (.cells #[.int .i64 uitem, .int .i64 (ua : Int), .int .i64 (ur : Int), .int .i64 at_] 46) = W := ⟨_, rfl⟩
  rw [hW1] at HX ⊢
  obtain ⟨gX, hgX⟩ : ∃ g, w.heap.size = g := ⟨_, rfl⟩
  rw [hgX] at HX ⊢
  have HGX := Lib.hid hgX
  clear hW1 hgX
  go_wp2
  go_loopw [5] (fun j wr => ∃ k : Nat, j = .int .i64 (k : Int) ∧ k ≤ 5 ∧ Hid (actB ga ua k = true) ∧ Hid (Below gX w wr ∧ Row wr gX 52 #[.int .i64 item, .int .i64 (ga : Int), .int .i64 (gr : Int), .int .i64 plays, .int .i64 fr, .int .i64 tw] ∧ Row wr (gX + 1) 46 #[.int .i64 uitem, .int .i64 (ua : Int), .int .i64 (ur : Int), .int .i64 at_])) (fun j _ => 5 - (intOf j).toNat)
  case atStart => exact ⟨0, rfl, Nat.zero_le _, Lib.hid rfl, HX⟩
  case round =>
    obtain ⟨k, rfl, hk, HF, HR⟩ := hrel
    have g0 := HR.out.2.1.cell 0; have g1 := HR.out.2.1.cell 1; have g2 := HR.out.2.1.cell 2; have g3 := HR.out.2.1.cell 3; have g4 := HR.out.2.1.cell 4; have g5 := HR.out.2.1.cell 5
    have v0 := HR.out.2.2.cell 0; have v1 := HR.out.2.2.cell 1; have v2 := HR.out.2.2.cell 2; have v3 := HR.out.2.2.cell 3
    have lg := HR.out.2.1.lt; have lu := HR.out.2.2.lt
    simp only [List.getElem?_toArray, List.getElem?_cons_zero, List.getElem?_cons_succ] at g0 g1 g2 g3 g4 g5 v0 v1 v2 v3
    have HFI := Lib.hid (show Below w.heap.size w wr by rw [HGX.out]; exact HR.out.1)
    have k0 : (0 : Int) ≤ (k : Int) := by omega
    by_cases hlt : k < 5
    · have k1 : (k : Int) < 5 := by omega
      have HSU := Lib.hid (actB_succ ga ua k)
      have HMO := Lib.hid (fun h => actB_more (ga := ga) (ua := ua) h hlt)
      have hb1 := HBU.out k hlt
      have hb2 := HBG.out k hlt
      obtain ⟨b0, hb0⟩ : ∃ b, ua.testBit k = b := ⟨_, rfl⟩
      obtain ⟨b3, hb3⟩ : ∃ b, ga.testBit k = b := ⟨_, rfl⟩
      rw [hb0] at hb1 HSU
      rw [hb3] at hb2 HSU
      have HB1 := Lib.hid hb1
      have HB2 := Lib.hid hb2
      clear hb1 hb2 hb0 hb3
      cases b0 with
      | false =>
        have HN := Lib.hid (show actB ga ua (k + 1) = true by rw [HSU.out, HF.out]; rfl)
        go_wp2_with (first | (go_at_call 45; (with_reducible refine Calls.mono (HB1.out _) ?_); rintro r y1 ⟨rfl, rfl⟩) | (go_at_call 45; (with_reducible refine Calls.mono (HB2.out _) ?_); rintro r y1 ⟨rfl, rfl⟩))
        go_roundw
        case rel => exact ⟨k + 1, by go_num, by omega, HN, HR⟩
        case measure => simp [intOf]; omega
      | true =>
        cases b3 with
        | true =>
          have HN := Lib.hid (show actB ga ua (k + 1) = true by rw [HSU.out, HF.out]; rfl)
          go_wp2_with (first | (go_at_call 45; (with_reducible refine Calls.mono (HB1.out _) ?_); rintro r y1 ⟨rfl, rfl⟩) | (go_at_call 45; (with_reducible refine Calls.mono (HB2.out _) ?_); rintro r y1 ⟨rfl, rfl⟩))
          go_roundw
          case rel => exact ⟨k + 1, by go_num, by omega, HN, HR⟩
          case measure => simp [intOf]; omega
        | false =>
          have HN := Lib.hid (show pv = false by rw [HP.out, HMO.out (by rw [HSU.out, HF.out]; rfl)]; simp)
          go_wp2_with (first | (go_at_call 45; (with_reducible refine Calls.mono (HB1.out _) ?_); rintro r y1 ⟨rfl, rfl⟩) | (go_at_call 45; (with_reducible refine Calls.mono (HB2.out _) ?_); rintro r y1 ⟨rfl, rfl⟩))
          go_ret
          exact ⟨by rw [HN.out]; rfl, HFI.out⟩
    · have k1 : ¬ (k : Int) < 5 := by omega
      have HA := Lib.hid (show actB ga ua 5 = true by have := HF.out; rwa [show k = 5 by omega] at this)
      rw [HA.out] at HP
      obtain ⟨b0, hb0⟩ : ∃ b, (item == uitem) = b := ⟨_, rfl⟩
      obtain ⟨b2, hb2⟩ : ∃ b, gr.testBit ur = b := ⟨_, rfl⟩
      obtain ⟨b3, hb3⟩ : ∃ b, decide (fr ≤ at_) = b := ⟨_, rfl⟩
      obtain ⟨b4, hb4⟩ : ∃ b, decide (at_ < tw) = b := ⟨_, rfl⟩
      have hbr := HBR.out
      rw [hb2] at hbr HP
      rw [hb0, hb3, hb4] at HP
      have HBR2 := Lib.hid hbr
      clear hbr hb2
      cases b0 with
      | false =>
        go_wp2_with (go_at_call 45; (with_reducible refine Calls.mono (HBR2.out _) ?_); rintro r y1 ⟨rfl, rfl⟩)
        go_ret
        exact ⟨by rw [HP.out]; rfl, HFI.out⟩
      | true =>
        cases b2 with
        | false =>
          go_wp2_with (go_at_call 45; (with_reducible refine Calls.mono (HBR2.out _) ?_); rintro r y1 ⟨rfl, rfl⟩)
          go_ret
          exact ⟨by rw [HP.out]; rfl, HFI.out⟩
        | true =>
          cases b3 with
          | false =>
            go_wp2_with (go_at_call 45; (with_reducible refine Calls.mono (HBR2.out _) ?_); rintro r y1 ⟨rfl, rfl⟩)
            go_ret
            exact ⟨by rw [HP.out]; rfl, HFI.out⟩
          | true =>
            cases b4 with
            | false =>
              go_wp2_with (go_at_call 45; (with_reducible refine Calls.mono (HBR2.out _) ?_); rintro r y1 ⟨rfl, rfl⟩)
              go_ret
              exact ⟨by rw [HP.out]; rfl, HFI.out⟩
            | true =>
              go_wp2_with (go_at_call 45; (with_reducible refine Calls.mono (HBR2.out _) ?_); rintro r y1 ⟨rfl, rfl⟩)
              go_ret
              exact ⟨by rw [HP.out]; rfl, HFI.out⟩
/-- How many bits a number has. -/
def pc : Nat → Nat
  | 0 => 0
  | n + 1 => (n + 1) % 2 + pc ((n + 1) / 2)
theorem pc_step {n : Nat} (h : 0 < n) : pc n = n % 2 + pc (n / 2) := by
  cases n with
  | zero => omega
  | succ n => rw [pc]
theorem pc_le : ∀ (b n : Nat), n < 2 ^ b → pc n ≤ b
  | 0, n, h => by
    have : n = 0 := by simpa using h
    subst this
    rw [pc]; exact Nat.le_refl _
  | b + 1, n, h => by
    rcases Nat.eq_zero_or_pos n with h0 | h0
    · subst h0; rw [pc]; exact Nat.zero_le _
    · rw [pc_step h0]
      have := pc_le b (n / 2) (by rw [Nat.pow_succ] at h; omega)
      omega
set_option maxRecDepth 100000 in
set_option maxHeartbeats 4000000 in
theorem size_any (n : Nat) (hn : n < 4096) (w : World) : Calls Try.prog 43 #[.int .i64 (n : Int)] w fun e w' => e = .returned (.int .i64 ((pc n : Nat) : Int)) ∧ w = w' := by
  obtain ⟨P, hP⟩ : ∃ P, pc n = P := ⟨_, rfl⟩
  have HP := Lib.hid hP
  rw [hP]
  have hP12 : P ≤ 12 := by rw [← hP]; exact pc_le 12 n hn
  clear hP
  go_enter Try.func43, Try.ntmps43
  go_wp2
  go_loopw [0, 3] (fun v z wr => ∃ m c : Nat, v = .int .i64 (m : Int) ∧ z = .int .i64 (c : Int) ∧ m ≤ n ∧ Hid (c + pc m = P) ∧ Hid (wr = w)) (fun v _ _ => (intOf v).toNat)
  case atStart => exact ⟨n, 0, rfl, rfl, Nat.le_refl _, Lib.hid (by rw [HP.out]; omega), Lib.hid rfl⟩
  case round =>
    obtain ⟨m, c, rfl, rfl, hm, HC, HW⟩ := hrel
    by_cases h0 : 0 < m
    · have m0 : 0 < (m : Int) := by omega
      have HN := Lib.hid (show (c + m % 2) + pc (m / 2) = P by have := HC.out; rw [pc_step h0] at this; omega)
      have hc : c ≤ 12 := by have := HC.out; omega
      have hm9 : m < 4096 := by omega
      obtain ⟨d, hd⟩ : ∃ d : Nat, m % 2 = d := ⟨_, rfl⟩
      obtain ⟨e, he⟩ : ∃ e : Nat, m / 2 = e := ⟨_, rfl⟩
      have e1 : (m : Int) % 2 = (d : Int) := by omega
      have e2 : (m : Int) / 2 = (e : Int) := by omega
      have mz : (0 : Int) ≤ (m : Int) := by omega
      have mt : (m : Int) < 4096 := by omega
      have d2 : (d : Int) < 2 := by omega
      have d0 : (0 : Int) ≤ (d : Int) := by omega
      have c0 : (0 : Int) ≤ (c : Int) := by omega
      have e5 : IntKind.i64.wrap ((c : Int) + (d : Int)) = (c : Int) + (d : Int) := IntWalk.i64_in _ (by omega)
      have HN := Lib.hid (show (c + d) + pc e = P by rw [← hd, ← he]; exact HN.out)
      have he9 : e < m := by omega
      clear hd he
      go_wp2
      go_roundw
      case rel => exact ⟨e, c + d, rfl, by go_num, by omega, HN, HW⟩
      case measure => simp [intOf]; omega
    · have m0 : ¬ 0 < (m : Int) := by omega
      have HE := Lib.hid (show c = P by have := HC.out; rw [show m = 0 by omega] at this; simpa [pc] using this)
      go_wp2
      go_ret
      exact ⟨by rw [HE.out]; rfl, HW.out.symm⟩
set_option maxRecDepth 100000 in
set_option maxHeartbeats 8000000 in
theorem plays_any (l : List Gr) (hl : validG l = true) (A : Option Addr) (n c : Nat) (w : World) (hr : Recs encG 6 w w.heap.size (.slice A n c) l) : Calls Try.prog 37 #[.slice A n c] w fun e w' => ∃ A' c', e = .returned (.slice A' l.length c') ∧ OwnN w' w.heap.size (.slice A' l.length c') (plN l) ∧ Below w.heap.size w w' := by
  obtain ⟨hn, hc1, hc2⟩ := recs_cap hr
  have HR := Lib.hid hr
  have HN := Lib.hid hn
  have hl12 := validG_len hl
  have HVL := Lib.hid hl
  have hn12 : n ≤ 12 := by omega
  clear hr hn hc1 hc2 hl hl12
  go_enter Try.func37, Try.ntmps37
  go_wp2
  go_loopw [3, 4] (fun v j wr => ∃ k : Nat, j = .int .i64 (k : Int) ∧ k ≤ n ∧ Hid (Gat w w.heap.size ((plN l).take k) v wr)) (fun _ j _ => n - (intOf j).toNat)
  case atStart => exact ⟨0, rfl, Nat.zero_le _, Lib.hid ⟨World.ownsRow_nil _ _ _ _, Below.refl _ _, Nat.le_refl _, Nat.le_refl _⟩⟩
  case round =>
    obtain ⟨k, rfl, hk, HG⟩ := hrel
    have k0 : (0 : Int) ≤ (k : Int) := by omega
    by_cases hlt : k < n
    · have hka : k < l.length := by have := HN.out; omega
      have k1 : (k : Int) < (n : Int) := by omega
      obtain ⟨b, o, rfl, hb, hcell⟩ := recs_at (HR.out.below HG.out.b) k hka
      obtain ⟨q, hq⟩ : ∃ q, l[k]? = some q := ⟨_, List.getElem?_eq_getElem hka⟩
      have p3 : wr.cell? ⟨b, o + k * 6 + 3, none⟩ = some (.int .i64 q.plays) := hcell k q hq 3 _ rfl
      obtain ⟨hp1, hp2, hp3⟩ := plN_get HVL.out hq
      obtain ⟨p, hp⟩ : ∃ p : Nat, q.plays.toNat = p := ⟨_, rfl⟩
      have hqp : q.plays = (p : Int) := by omega
      rw [hp] at hp1
      rw [hqp] at p3
      have lw := HG.out.b.size
      have hb9 : b < wr.heap.size := by omega
      have HSN := Lib.hid (show (plN l).take (k + 1) = (plN l).take k ++ [p] by rw [List.take_add_one, hp1]; rfl)
      obtain ⟨F, hF⟩ : ∃ F, (plN l).take k = F := ⟨_, rfl⟩
      have HLF := Lib.hid (show F.length ≤ 12 by rw [← hF, List.length_take]; omega)
      rw [hF] at HG HSN
      obtain ⟨A5, c5, rfl, -⟩ := own_slice HG.out.own
      obtain ⟨A6, c6, w6, hrun, hG, -⟩ := HG.out.push (by have := HLF.out; omega) (p : Int) p rfl
      have HG6 := Lib.hid (show Gat w w.heap.size ((plN l).take (k + 1)) (.slice A6 (F.length + 1) c6) w6 by rw [HSN.out]; exact hG)
      have e7 : IntKind.i64.wrap ((k : Int) + 1) = (k : Int) + 1 := IntWalk.i64_in _ (by omega)
      clear hcell hq hp hqp hp1 hp2 hp3 hF hG
      go_wp2
      go_roundw
      case rel => exact ⟨k + 1, by go_num, by omega, HG6⟩
      case measure => simp [intOf]; omega
    · have k1 : ¬ (k : Int) < (n : Int) := by omega
      have HE := Lib.hid (show (plN l).take k = plN l from List.take_of_length_le (by rw [plN_length]; have := HN.out; omega))
      have hg := HG.out
      rw [HE.out] at hg
      have hol : (plN l).length = l.length := plN_length l
      obtain ⟨A5, c5, rfl, -⟩ := own_slice hg.own
      have HG2 := Lib.hid hg
      clear hg
      go_wp2
      go_ret
      exact ⟨A5, c5, by rw [← hol]; rfl, by have h := HG2.out.own; unfold OwnN; rw [← hol]; exact h, HG2.out.b⟩
end Go.Proofs.Ytenojfniknjeiaa
