/- The reference's name and number; runs of a set, one after the other. The reference's days. The reference's hours. The reference's first; what its Groups finds, in plain words. -/
import Derived.Test.YtmfpaankkoaoaaaDoorZg
import Derived.Test.YtmfpaankkoaoaaaDoorXd
/- The reference's name and number; runs of a set, one after the other. -/
namespace Go.Proofs.YtmfpaankkoaoaaaDoor
open Go.RowKit Go.Shelf

theorem rl_skip (s : Nat) (hs : s ≤ 16777215) (e : Nat) (he : e < 24) (hb : s.testBit e = false) : rl 25 s e = rl 25 s (e + 1) := by
  have h1 := tiles_rl s hs 25 e (by omega) (by omega)
  have h2 := tiles_rl s hs 25 (e + 1) (by omega) (by omega)
  refine tiles_uniq h1 (gaps_rl s hs 25 e (by omega)) (tiles_wide h2 (Nat.le_succ e) fun t g1 g2 _ => ?_) (gaps_rl s hs 25 (e + 1) (by omega))
  have : t = e := by omega
  rw [this]; exact hb
theorem rl_end (s : Nat) (hs : s ≤ 16777215) (e : Nat) (he : 24 ≤ e) : rl 25 s e = [] :=
  rl_nil _ _ _ (Nat.div_eq_of_lt (Nat.lt_of_lt_of_le (show s < 2 ^ 24 by omega) (Nat.pow_le_pow_right (by decide) he)))
theorem rl_run (s : Nat) (hs : s ≤ 16777215) (a b : Nat) (hab : a < b) (hb : b ≤ 24) (h1 : ∀ t, a ≤ t → t < b → s.testBit t = true) (h2 : s.testBit b = false) : rl 25 s a = (a, b) :: rl 25 s b := by
  have t1 := tiles_rl s hs 25 a (by omega) (by omega)
  have t2 := tiles_rl s hs 25 b hb (by omega)
  refine tiles_uniq t1 (gaps_rl s hs 25 a (by omega)) (tiles_cons (Nat.le_refl a) hab hb (fun t g1 g2 => by omega) h1 t2) ⟨fun q hq => ?_, gaps_rl s hs 25 b hb⟩
  cases hr : rl 25 s b with
  | nil => rw [hr] at hq; cases hq
  | cons r R =>
    rw [hr] at hq t2
    have hq' : r = q := by simpa using hq
    rw [← hq']
    obtain ⟨u, v⟩ := r
    obtain ⟨k1, k2, k3, k4, k5, k6⟩ := t2
    show b < u
    rcases Nat.lt_or_eq_of_le k1 with h | h
    · exact h
    · have := k5 u (Nat.le_refl u) k2
      have h3 : s.testBit u = true := this
      rw [← h, h2] at h3; cases h3
theorem join_snoc (sep x : List UInt8) : ∀ (L : List (List UInt8)), L ≠ [] → Lib.join (L ++ [x]) sep = Lib.join L sep ++ (sep ++ x)
  | [], h => absurd rfl h
  | [y], _ => by rw [List.singleton_append, join_two, Lib.join_one, Lib.join_one]
  | y :: z :: L, _ => by
    have := join_snoc sep x (z :: L) (by simp)
    rw [List.cons_append] at this
    rw [List.cons_append, List.cons_append, join_two, join_two, this]
    simp
/-- The text of some runs. -/
def outT (sep : List UInt8) (wr : Nat → Nat → ByteArray) (R : List (Nat × Nat)) : ByteArray := ⟨(Lib.join ((R.map fun r => wr r.1 r.2).map (·.data.toList)) sep).toArray⟩
theorem outT_nil (sep : List UInt8) (wr : Nat → Nat → ByteArray) : outT sep wr [] = ⟨#[]⟩ := rfl
theorem outT_one (sep : List UInt8) (wr : Nat → Nat → ByteArray) (r : Nat × Nat) : outT sep wr [r] = wr r.1 r.2 := by
  apply ba_ext
  show Lib.join [(wr r.1 r.2).data.toList] sep = _
  exact Lib.join_one _ _
theorem outT_snoc (sep : List UInt8) (wr : Nat → Nat → ByteArray) (R : List (Nat × Nat)) (r : Nat × Nat) (h : R ≠ []) : outT sep wr (R ++ [r]) = outT sep wr R ++ ⟨sep.toArray⟩ ++ wr r.1 r.2 := by
  apply ba_ext
  have := join_snoc sep (wr r.1 r.2).data.toList ((R.map fun r => wr r.1 r.2).map (·.data.toList)) (by simpa using h)
  show Lib.join (((R ++ [r]).map fun r => wr r.1 r.2).map (·.data.toList)) sep = _
  rw [List.map_append, List.map_append]
  show Lib.join (_ ++ [(wr r.1 r.2).data.toList]) sep = _
  rw [this]
  simp [outT]
theorem outT_ne {sep : List UInt8} {wr : Nat → Nat → ByteArray} {R : List (Nat × Nat)} (h : R ≠ []) (hw : ∀ q ∈ R, (wr q.1 q.2).size ≠ 0) : outT sep wr R ≠ ⟨#[]⟩ := by
  cases R with
  | nil => exact absurd rfl h
  | cons r R =>
    intro e
    have h1 := congrArg (fun b : ByteArray => b.data.toList.length) e
    have h2 := hw r (by simp)
    have e2 : (wr r.1 r.2).data.toList.length = (wr r.1 r.2).size := by simp
    cases R with
    | nil =>
      rw [outT_one] at h1
      simp only [] at h1
      rw [e2] at h1
      exact h2 h1
    | cons r2 R =>
      have h3 : (outT sep wr (r :: r2 :: R)).data.toList = (wr r.1 r.2).data.toList ++ (sep ++ Lib.join (((r2 :: R).map fun r => wr r.1 r.2).map (·.data.toList)) sep) := join_two _ _ _ _
      simp only [] at h1
      rw [h3, List.length_append, e2] at h1
      have : (⟨#[]⟩ : ByteArray).data.toList.length = 0 := rfl
      rw [this] at h1
      omega
theorem outT_size {sep : List UInt8} (hs : sep.length ≤ 10) {wr : Nat → Nat → ByteArray} {R : List (Nat × Nat)} (hw : ∀ q ∈ R, (wr q.1 q.2).size ≤ 100) : (outT sep wr R).size ≤ 110 * R.length := by
  show (List.toArray _).size ≤ _
  rw [List.size_toArray]
  have := join_len sep hs ((R.map fun r => wr r.1 r.2).map (·.data.toList)) (fun x hx => by
    obtain ⟨y, hy, rfl⟩ := List.mem_map.1 hx
    obtain ⟨q, hq, rfl⟩ := List.mem_map.1 hy
    simpa using hw q hq)
  rwa [List.length_map, List.length_map] at this
theorem outT_rl (sep : List UInt8) (wr : Nat → Nat → ByteArray) (s : Nat) : outT sep wr (rl 25 s 0) = wrRuns sep wr s := rfl
theorem wrD_ne (a b : Nat) (h : a < b) (hb : b ≤ 7) : (wrD a b).size ≠ 0 := by
  have hh : ∀ a b : Fin 8, a.val < b.val → (wrD a.val b.val).size ≠ 0 := by decide +kernel
  exact hh ⟨a, by omega⟩ ⟨b, by omega⟩ h
theorem wrH_ne (a b : Nat) (h : a < b) (hb : b ≤ 24) : (wrH a b).size ≠ 0 := by
  have hh : ∀ a b : Fin 25, a.val < b.val → (wrH a.val b.val).size ≠ 0 := by decide +kernel
  exact hh ⟨a, by omega⟩ ⟨b, by omega⟩ h

set_option maxHeartbeats 1000000 in
theorem rname_any (k : Nat) (hk : k < 7) (w : World) : Calls Tryd.prog 63 #[.int .i64 (k : Int)] w fun e w' => e = .returned (.string (dayS k)) ∧ w = w' := by
  obtain rfl | rfl | rfl | rfl | rfl | rfl | rfl : k = 0 ∨ k = 1 ∨ k = 2 ∨ k = 3 ∨ k = 4 ∨ k = 5 ∨ k = 6 := by omega
  all_goals go_enter Tryd.func63, Tryd.ntmps63
  all_goals go_wp2
  all_goals go_ret
  all_goals exact ⟨by rfl, rfl⟩
theorem conv1 (b : UInt8) (z : Int) (hz : (b.toNat : Int) = z) (w : World) : Sem.run Tryd.prog (Go.convert 48 9 (.slice (some ⟨w.heap.size, 0, none⟩) 1 1)) (w.alloc (.cells #[.int .u8 z] 5)) = .ok (.string ⟨#[b]⟩) (w.alloc (.cells #[.int .u8 z] 5)) := by
  refine run_convert_bytes_back _ 48 9 5 ⟨w.heap.size, 0, none⟩ 1 [b] Tryd.underlying48 Tryd.underlying5 Tryd.underlying9 fun j hj => ?_
  have : j = 0 := by simpa using hj
  subst this
  have hc := (Row.new w 5 #[.int .u8 z]).cell 0
  rw [show (⟨w.heap.size, 0, none⟩ : Addr).add 0 = ⟨w.heap.size, 0, none⟩ from rfl, hc, ← hz]
  rfl
theorem conv2 (b c : UInt8) (z y : Int) (hz : (b.toNat : Int) = z) (hy : (c.toNat : Int) = y) (w : World) : Sem.run Tryd.prog (Go.convert 48 9 (.slice (some ⟨w.heap.size, 0, none⟩) 2 2)) (w.alloc (.cells #[.int .u8 z, .int .u8 y] 5)) = .ok (.string ⟨#[b, c]⟩) (w.alloc (.cells #[.int .u8 z, .int .u8 y] 5)) := by
  refine run_convert_bytes_back _ 48 9 5 ⟨w.heap.size, 0, none⟩ 2 [b, c] Tryd.underlying48 Tryd.underlying5 Tryd.underlying9 fun j hj => ?_
  have hj2 : j = 0 ∨ j = 1 := by simp at hj; omega
  rcases hj2 with rfl | rfl
  · have hc := (Row.new w 5 #[.int .u8 z, .int .u8 y]).cell 0
    rw [show (⟨w.heap.size, 0, none⟩ : Addr).add 0 = ⟨w.heap.size, 0, none⟩ from rfl, hc, ← hz]
    rfl
  · have hc := (Row.new w 5 #[.int .u8 z, .int .u8 y]).cell 1
    rw [show (⟨w.heap.size, 0, none⟩ : Addr).add 1 = ⟨w.heap.size, 1, none⟩ from rfl, hc, ← hy]
    rfl
theorem two_digits : (∀ n : Fin 10, (⟨#[UInt8.ofNat (48 + n.val)]⟩ : ByteArray) = itoaB n.val) ∧ ∀ n : Fin 25, 10 ≤ n.val → (⟨#[UInt8.ofNat (48 + n.val / 10), UInt8.ofNat (48 + n.val % 10)]⟩ : ByteArray) = itoaB n.val := by decide +kernel
set_option maxHeartbeats 1000000 in
theorem rnumber_any (n : Nat) (hn : n < 25) (w : World) : Calls Tryd.prog 64 #[.int .i64 (n : Int)] w fun e w' => e = .returned (.string (itoaB n)) ∧ Below w.heap.size w w' := by
  have n0 : (0 : Int) ≤ (n : Int) := by omega
  have n1 : (n : Int) < 25 := by omega
  by_cases hlt : n < 10
  · have hn2 : (n : Int) < 10 := by omega
    have he := two_digits.1 ⟨n, hlt⟩
    dsimp only at he
    rw [← he]
    obtain ⟨c8, hc8⟩ : ∃ c : UInt8, UInt8.ofNat (48 + n) = c := ⟨_, rfl⟩
    have hcv := conv1 c8 (48 + (n : Int)) (by rw [← hc8, UInt8.toNat_ofNat']; omega) w
    rw [hc8]
    have hu : IntKind.u8.wrap (48 + (n : Int)) = 48 + (n : Int) := by unfold IntKind.wrap; simp [IntKind.bits]; omega
    clear hlt he hc8
    go_enter Tryd.func64, Tryd.ntmps64
    go_wp2
    go_ret
    exact ⟨rfl, (Below.refl _ w).alloc (Nat.le_refl _) _⟩
  · have hn2 : ¬ (n : Int) < 10 := by omega
    have he := two_digits.2 ⟨n, hn⟩ (by show 10 ≤ n; omega)
    dsimp only at he
    rw [← he]
    obtain ⟨q, hq⟩ : ∃ q, n / 10 = q := ⟨_, rfl⟩
    obtain ⟨r, hr⟩ : ∃ r, n % 10 = r := ⟨_, rfl⟩
    rw [hq, hr]
    have q1 : ((n : Int)).tdiv 10 = (q : Int) := by rw [Int.tdiv_eq_ediv_of_nonneg (by omega)]; omega
    have q2 : ((n : Int)).tmod 10 = (r : Int) := by rw [Int.tmod_eq_emod_of_nonneg (by omega)]; omega
    have q3 : (0 : Int) ≤ (q : Int) := by omega
    have q4 : (q : Int) < 3 := by omega
    have q5 : (0 : Int) ≤ (r : Int) := by omega
    have q6 : (r : Int) < 10 := by omega
    obtain ⟨c8, hc8⟩ : ∃ c : UInt8, UInt8.ofNat (48 + q) = c := ⟨_, rfl⟩
    obtain ⟨d8, hd8⟩ : ∃ c : UInt8, UInt8.ofNat (48 + r) = c := ⟨_, rfl⟩
    have hcv := conv2 c8 d8 (48 + (q : Int)) (48 + (r : Int)) (by rw [← hc8, UInt8.toNat_ofNat']; omega) (by rw [← hd8, UInt8.toNat_ofNat']; omega) w
    rw [hc8, hd8]
    have hu : IntKind.u8.wrap (48 + (q : Int)) = 48 + (q : Int) := by unfold IntKind.wrap; simp [IntKind.bits]; omega
    have hv : IntKind.u8.wrap (48 + (r : Int)) = 48 + (r : Int) := by unfold IntKind.wrap; simp [IntKind.bits]; omega
    clear hlt he hq hr hc8 hd8
    go_enter Tryd.func64, Tryd.ntmps64
    go_wp2
    go_ret
    exact ⟨rfl, (Below.refl _ w).alloc (Nat.le_refl _) _⟩
end Go.Proofs.YtmfpaankkoaoaaaDoor

/- The reference's days. -/
namespace Go.Proofs.YtmfpaankkoaoaaaDoor
open Go.RowKit Go.Shelf

theorem even_bit (s k : Nat) : (((s : Int) / 2 ^ k).tmod 2 == 0) = !s.testBit k := by
  rw [hour_bit]
  cases h : s.testBit k <;> rfl
theorem big_bit {s N k : Nat} (hs : s < 2 ^ N) (hk : N ≤ k) : s.testBit k = false :=
  Nat.testBit_lt_two_pow (Nat.lt_of_lt_of_le hs (Nat.pow_le_pow_right (by decide) hk))
theorem chn_pre {L M R : List (Nat × Nat)} {P : Nat × Nat → Prop} (h : R = L ++ M) (hp : ∀ q ∈ R, P q) : ∀ q ∈ L, P q := fun q hq => hp q (by rw [h]; simp [hq])
theorem nil_append (b : ByteArray) : (⟨#[]⟩ : ByteArray) ++ b = b := by apply ba_ext; simp
/-- What the text of some days becomes by one run more. -/
theorem day_more (R : List (Nat × Nat)) (a b : Nat) : outT [44] wrD (R ++ [(a, b + 1)]) = (if R = [] then (if b = a then dayS a else dayS a ++ ⟨#[45]⟩ ++ dayS b) else (if b = a then outT [44] wrD R ++ ⟨#[44]⟩ ++ dayS a else outT [44] wrD R ++ ⟨#[44]⟩ ++ dayS a ++ ⟨#[45]⟩ ++ dayS b)) := by
  by_cases hR : R = []
  · subst hR
    rw [List.nil_append, outT_one, if_pos rfl]
    unfold wrD
    dsimp only
    by_cases h : b = a
    · rw [if_pos h, if_pos (by omega)]
    · rw [if_neg h, if_neg (by omega)]; rfl
  · rw [outT_snoc _ _ _ _ hR, if_neg hR]
    unfold wrD
    dsimp only
    by_cases h : b = a
    · rw [if_pos h, if_pos (by omega)]
    · rw [if_neg h, if_neg (by omega)]
      apply ba_ext
      simp
set_option maxRecDepth 100000 in
set_option maxHeartbeats 8000000 in
theorem rdays_any (s : Nat) (hs : s ≤ 127) (w : World) : Calls Tryd.prog 44 #[.int .i64 (s : Int)] w fun e w' => e = .returned (.string (wrRuns [44] wrD s)) ∧ w = w' := by
  have HNM := Lib.hid (fun k hk u => rname_any k hk u)
  have HS := Lib.hid hs
  have HEV := Lib.hid (fun k => even_bit s k)
  have HOD := Lib.hid (fun k => has_bit2 s k)
  have HMEM := Lib.hid (fun q hq => rl_mem7 s hs q hq)
  have HTOP := Lib.hid (fun (k : Nat) (h : 7 ≤ k) => big_bit (s := s) (N := 7) (by omega) h)
  have HSK := Lib.hid (fun e he hb => rl_skip s (by omega) e he hb)
  have HRU := Lib.hid (fun a b h1 h2 h3 h4 => rl_run s (by omega) a b h1 h2 h3 h4)
  have HEN := Lib.hid (rl_end s (by omega) 24 (by omega))
  have i0 : (0 : Int) ≤ (s : Int) := by omega
  clear hs
  go_enter Tryd.func44, Tryd.ntmps44
  go_wp2
  go_loop [3, 4] (fun o i => ∃ (e : Nat) (pre : List (Nat × Nat)), e ≤ 7 ∧ i = .int .i64 (e : Int) ∧ o = .string (outT [44] wrD pre) ∧ Hid (rl 25 s 0 = pre ++ rl 25 s e)) (fun _ i => 7 - (intOf i).toNat)
  case atStart => exact ⟨0, [], by omega, rfl, rfl, Lib.hid rfl⟩
  case round =>
    obtain ⟨e, pre, he, rfl, rfl, HR⟩ := hrel
    have j1 : (0 : Int) ≤ (e : Int) := by omega
    by_cases hlt : e < 7
    · have j2 : (e : Int) < 7 := by omega
      have hev := HEV.out e
      cases hb : s.testBit e with
      | false =>
        rw [hb] at hev
        have HR2 := Lib.hid (show rl 25 s 0 = pre ++ rl 25 s (e + 1) by rw [← HSK.out e (by omega) hb]; exact HR.out)
        clear hb
        go_wp2
        go_round
        case rel => exact ⟨e + 1, pre, by omega, by go_num, rfl, HR2⟩
        case measure => simp [intOf]; omega
      | true =>
        rw [hb] at hev
        have HB := Lib.hid hb
        have hq : ∀ q ∈ pre, q.1 < q.2 ∧ q.2 ≤ 7 := chn_pre HR.out HMEM.out
        have HQ := Lib.hid hq
        have hsz : (outT [44] wrD pre).size ≤ 110 * pre.length := outT_size (by decide) (fun q _ => wrD_size _ _)
        have hpl : pre.length ≤ 25 := by have h := congrArg List.length HR.out; rw [List.length_append] at h; have := rl_len 25 s 0; omega
        have HNE := Lib.hid (fun h : pre ≠ [] => outT_ne (sep := [44]) h (fun q hq' => wrD_ne q.1 q.2 (hq q hq').1 (hq q hq').2))
        have HMO := Lib.hid (fun b => day_more pre e b)
        have HNIL := Lib.hid (fun h : pre = [] => (by rw [h]; rfl : outT [44] wrD pre = ⟨#[]⟩))
        obtain ⟨O, hO⟩ : ∃ O, outT [44] wrD pre = O := ⟨_, rfl⟩
        rw [hO] at hsz HNE HMO HNIL ⊢
        have HSZ := Lib.hid (show O.size ≤ 3000 by omega)
        clear hb hq hsz hpl hO
        go_wp2
        go_loop [5] (fun j => ∃ b : Nat, e ≤ b ∧ b ≤ 6 ∧ j = .int .i64 (b : Int) ∧ Hid (∀ t, e ≤ t → t < b + 1 → s.testBit t = true)) (fun j => 7 - (intOf j).toNat)
        case atStart => exact ⟨e, by omega, by omega, rfl, Lib.hid (fun t h1 h2 => by rw [show t = e by omega]; exact HB.out)⟩
        case round =>
          obtain ⟨b, hb1, hb2, rfl, HA⟩ := hrel
          have k1 : (0 : Int) ≤ (b : Int) := by omega
          have k2 : (b : Int) < 7 := by omega
          have hod := HOD.out (b + 1)
          by_cases hmore : b < 6 ∧ s.testBit (b + 1) = true
          · obtain ⟨h6, hbit⟩ := hmore
            have k3 : (b : Int) < 6 := by omega
            rw [hbit] at hod
            have HA2 := Lib.hid (show ∀ t, e ≤ t → t < b + 1 + 1 → s.testBit t = true from fun t h1 h2 => by
              by_cases h : t < b + 1
              · exact HA.out t h1 h
              · rw [show t = b + 1 by omega]; exact hbit)
            clear hbit
            go_wp2
            go_round
            case rel => exact ⟨b + 1, by omega, by omega, by go_num, HA2⟩
            case measure => simp [intOf]; omega
          · have hbit : s.testBit (b + 1) = false := by
              by_cases h6 : b < 6
              · cases h : s.testBit (b + 1) with
                | false => rfl
                | true => exact absurd ⟨h6, h⟩ hmore
              · exact HTOP.out _ (by omega)
            rw [hbit] at hod
            have HR2 := Lib.hid (show rl 25 s 0 = (pre ++ [(e, b + 1)]) ++ rl 25 s (b + 1) by rw [List.append_assoc, List.singleton_append, ← HRU.out e (b + 1) (by omega) (by omega) HA.out hbit]; exact HR.out)
            have hmo := HMO.out b
            have N1 := Lib.hid (fun u => HNM.out e hlt u)
            have N2 := Lib.hid (fun u => HNM.out b (by omega) u)
            have z1 := dayS_size e
            have z2 := dayS_size b
            obtain ⟨D1, hD1⟩ : ∃ D, dayS e = D := ⟨_, rfl⟩
            obtain ⟨D2, hD2⟩ : ∃ D, dayS b = D := ⟨_, rfl⟩
            rw [hD1, hD2] at hmo
            rw [hD1] at N1 z1
            rw [hD2] at N2 z2
            have HMM := Lib.hid hmo
            have HZ := Lib.hid (And.intro z1 z2)
            clear hmore hbit hmo hD1 hD2 z1 z2
            by_cases hp : pre = []
            · have HP := Lib.hid hp
              have hO := HNIL.out hp
              subst hO
              clear hp
              by_cases hbe : b = e
              · have HE := Lib.hid hbe
                have g1 : ¬ (e : Int) < (b : Int) := by omega
                clear hbe
                obtain ⟨z1, z2⟩ := HZ.out
                have y1 : ¬ (9223372036854775807 < D1.size) := by omega
                have y2 : ¬ (9223372036854775807 < D1.size + 1) := by omega
                have y3 : ¬ (9223372036854775807 < D1.size + 1 + D2.size) := by omega
                go_wp2_with (first | (go_at_call 63; (with_reducible refine Calls.mono (N1.out _) ?_); rintro r u' ⟨rfl, rfl⟩) | (go_at_call 63; (with_reducible refine Calls.mono (N2.out _) ?_); rintro r u' ⟨rfl, rfl⟩))
                all_goals go_round
                all_goals first | (case rel => exact ⟨b + 1, pre ++ [(e, b + 1)], by omega, by go_num, by rw [HMM.out, if_pos HP.out, if_pos HE.out]; first | done | rfl | simp [nil_append], HR2⟩) | skip
                all_goals first | (case measure => simp [intOf]; omega) | skip
              · have HE := Lib.hid hbe
                have g1 : (e : Int) < (b : Int) := by omega
                clear hbe
                obtain ⟨z1, z2⟩ := HZ.out
                have y1 : ¬ (9223372036854775807 < D1.size) := by omega
                have y2 : ¬ (9223372036854775807 < D1.size + 1) := by omega
                have y3 : ¬ (9223372036854775807 < D1.size + 1 + D2.size) := by omega
                go_wp2_with (first | (go_at_call 63; (with_reducible refine Calls.mono (N1.out _) ?_); rintro r u' ⟨rfl, rfl⟩) | (go_at_call 63; (with_reducible refine Calls.mono (N2.out _) ?_); rintro r u' ⟨rfl, rfl⟩))
                all_goals go_round
                all_goals first | (case rel => exact ⟨b + 1, pre ++ [(e, b + 1)], by omega, by go_num, by rw [HMM.out, if_pos HP.out, if_neg HE.out]; first | done | rfl | simp [nil_append], HR2⟩) | skip
                all_goals first | (case measure => simp [intOf]; omega) | skip
            · have HP := Lib.hid hp
              have hO := HNE.out hp
              have t1 : ¬ O.toList = [] := fun h => hO (by apply ba_ext; rw [ByteArray.toList_eq] at h; rw [h])
              have t2 : (O.toList == []) = false := beq_eq_false_iff_ne.2 t1
              clear hp hO
              by_cases hbe : b = e
              · have HE := Lib.hid hbe
                have g1 : ¬ (e : Int) < (b : Int) := by omega
                clear hbe
                obtain ⟨z1, z2⟩ := HZ.out; have z0 := HSZ.out
                have y0 : ¬ (9223372036854775807 < O.size + 1) := by omega
                have y1 : ¬ (9223372036854775807 < O.size + 1 + D1.size) := by omega
                have y2 : ¬ (9223372036854775807 < O.size + 1 + D1.size + 1) := by omega
                have y3 : ¬ (9223372036854775807 < O.size + 1 + D1.size + 1 + D2.size) := by omega
                go_wp2_with (first | (go_at_call 63; (with_reducible refine Calls.mono (N1.out _) ?_); rintro r u' ⟨rfl, rfl⟩) | (go_at_call 63; (with_reducible refine Calls.mono (N2.out _) ?_); rintro r u' ⟨rfl, rfl⟩))
                all_goals go_round
                all_goals first | (case rel => exact ⟨b + 1, pre ++ [(e, b + 1)], by omega, by go_num, by rw [HMM.out, if_neg HP.out, if_pos HE.out]; first | done | rfl | simp [nil_append], HR2⟩) | skip
                all_goals first | (case measure => simp [intOf]; omega) | skip
              · have HE := Lib.hid hbe
                have g1 : (e : Int) < (b : Int) := by omega
                clear hbe
                obtain ⟨z1, z2⟩ := HZ.out; have z0 := HSZ.out
                have y0 : ¬ (9223372036854775807 < O.size + 1) := by omega
                have y1 : ¬ (9223372036854775807 < O.size + 1 + D1.size) := by omega
                have y2 : ¬ (9223372036854775807 < O.size + 1 + D1.size + 1) := by omega
                have y3 : ¬ (9223372036854775807 < O.size + 1 + D1.size + 1 + D2.size) := by omega
                go_wp2_with (first | (go_at_call 63; (with_reducible refine Calls.mono (N1.out _) ?_); rintro r u' ⟨rfl, rfl⟩) | (go_at_call 63; (with_reducible refine Calls.mono (N2.out _) ?_); rintro r u' ⟨rfl, rfl⟩))
                all_goals go_round
                all_goals first | (case rel => exact ⟨b + 1, pre ++ [(e, b + 1)], by omega, by go_num, by rw [HMM.out, if_neg HP.out, if_neg HE.out]; first | done | rfl | simp [nil_append], HR2⟩) | skip
                all_goals first | (case measure => simp [intOf]; omega) | skip
    · have he7 : e = 7 := by omega
      subst he7
      have HE7 : Hid (rl 25 s 7 = []) := Lib.hid (rl_nil _ _ _ (Nat.div_eq_of_lt (by have := HS.out; omega)))
      have HT : Hid (outT [44] wrD pre = wrRuns [44] wrD s) := Lib.hid (by
        have h := HR.out
        rw [HE7.out, List.append_nil] at h
        rw [← h]; rfl)
      rw [HT.out]
      go_wp2
      go_ret
      exact ⟨rfl, rfl⟩
end Go.Proofs.YtmfpaankkoaoaaaDoor

/- The reference's hours. -/
namespace Go.Proofs.YtmfpaankkoaoaaaDoor
open Go.RowKit Go.Shelf

/-- What the text of some hours becomes by one run more. -/
theorem hour_more (R : List (Nat × Nat)) (a b : Nat) : outT [32] wrH (R ++ [(a, b)]) = (if R = [] then itoaB a ++ ⟨#[45]⟩ ++ itoaB b else outT [32] wrH R ++ ⟨#[32]⟩ ++ itoaB a ++ ⟨#[45]⟩ ++ itoaB b) := by
  by_cases hR : R = []
  · subst hR
    rw [List.nil_append, outT_one, if_pos rfl]; rfl
  · rw [outT_snoc _ _ _ _ hR, if_neg hR]
    apply ba_ext
    simp [wrH]
set_option maxRecDepth 100000 in
set_option maxHeartbeats 8000000 in
theorem rhours_any (s : Nat) (hs : s ≤ 16777215) (w : World) : Calls Tryd.prog 45 #[.int .i64 (s : Int)] w fun e w' => e = .returned (.string (wrRuns [32] wrH s)) ∧ Below w.heap.size w w' := by
  have HNM := Lib.hid (fun k hk u => rnumber_any k hk u)
  have HEV := Lib.hid (fun k => even_bit s k)
  have HOD := Lib.hid (fun k => has_bit2 s k)
  have HMEM := Lib.hid (fun q hq => (rl_mem s hs 25 0 (by omega) q hq).2)
  have HTOP := Lib.hid (fun (k : Nat) (h : 24 ≤ k) => big_bit (s := s) (N := 24) (by omega) h)
  have HSK := Lib.hid (fun e he hb => rl_skip s hs e he hb)
  have HRU := Lib.hid (fun a b h1 h2 h3 h4 => rl_run s hs a b h1 h2 h3 h4)
  have HEN := Lib.hid (fun e he => rl_end s hs e he)
  have i0 : (0 : Int) ≤ (s : Int) := by omega
  clear hs
  go_enter Tryd.func45, Tryd.ntmps45
  go_wp2
  go_loopw [3, 4] (fun o i wr => ∃ (e : Nat) (pre : List (Nat × Nat)), e ≤ 25 ∧ i = .int .i64 (e : Int) ∧ o = .string (outT [32] wrH pre) ∧ Hid (rl 25 s 0 = pre ++ rl 25 s e) ∧ Hid (Below w.heap.size w wr)) (fun _ i _ => 26 - (intOf i).toNat)
  case atStart => exact ⟨0, [], by omega, rfl, rfl, Lib.hid rfl, Lib.hid (Below.refl _ _)⟩
  case round =>
    obtain ⟨e, pre, he, rfl, rfl, HR, HB⟩ := hrel
    have j1 : (0 : Int) ≤ (e : Int) := by omega
    by_cases hlt : e < 24
    · have j2 : (e : Int) < 24 := by omega
      have hev := HEV.out e
      cases hb : s.testBit e with
      | false =>
        rw [hb] at hev
        have HR2 := Lib.hid (show rl 25 s 0 = pre ++ rl 25 s (e + 1) by rw [← HSK.out e hlt hb]; exact HR.out)
        clear hb
        go_wp2
        go_roundw
        case rel => exact ⟨e + 1, pre, by omega, by go_num, rfl, HR2, HB⟩
        case measure => simp [intOf]; omega
      | true =>
        rw [hb] at hev
        have HBT := Lib.hid hb
        have hq : ∀ q ∈ pre, q.1 < q.2 ∧ q.2 ≤ 24 := chn_pre HR.out HMEM.out
        have hsz : (outT [32] wrH pre).size ≤ 110 * pre.length := outT_size (by decide) (fun q hq' => wrH_size _ _ (by have := hq q hq'; omega) (by have := hq q hq'; omega))
        have hpl : pre.length ≤ 25 := by have h := congrArg List.length HR.out; rw [List.length_append] at h; have := rl_len 25 s 0; omega
        have HNE := Lib.hid (fun h : pre ≠ [] => outT_ne (sep := [32]) h (fun q hq' => wrH_ne q.1 q.2 (hq q hq').1 (hq q hq').2))
        have HMO := Lib.hid (fun b => hour_more pre e b)
        have HNIL := Lib.hid (fun h : pre = [] => (by rw [h]; rfl : outT [32] wrH pre = ⟨#[]⟩))
        obtain ⟨O, hO⟩ : ∃ O, outT [32] wrH pre = O := ⟨_, rfl⟩
        rw [hO] at hsz HNE HMO HNIL ⊢
        have HSZ := Lib.hid (show O.size ≤ 3000 by omega)
        clear hb hq hsz hpl hO
        go_wp2
        go_loop [5] (fun j => ∃ b : Nat, e < b ∧ b ≤ 24 ∧ j = .int .i64 (b : Int) ∧ Hid (∀ t, e ≤ t → t < b → s.testBit t = true)) (fun j => 25 - (intOf j).toNat)
        case atStart => exact ⟨e + 1, by omega, by omega, by go_num, Lib.hid (fun t h1 h2 => by rw [show t = e by omega]; exact HBT.out)⟩
        case round =>
          obtain ⟨b, hb1, hb2, rfl, HA⟩ := hrel
          have k1 : (0 : Int) ≤ (b : Int) := by omega
          have k2 : (b : Int) < 25 := by omega
          have hod := HOD.out b
          by_cases hmore : b < 24 ∧ s.testBit b = true
          · obtain ⟨h6, hbit⟩ := hmore
            have k3 : (b : Int) < 24 := by omega
            rw [hbit] at hod
            have HA2 := Lib.hid (show ∀ t, e ≤ t → t < b + 1 → s.testBit t = true from fun t h1 h2 => by
              by_cases h : t < b
              · exact HA.out t h1 h
              · rw [show t = b by omega]; exact hbit)
            clear hbit
            go_wp2
            go_round
            case rel => exact ⟨b + 1, by omega, by omega, by go_num, HA2⟩
            case measure => simp [intOf]; omega
          · have hbit : s.testBit b = false := by
              by_cases h6 : b < 24
              · cases h : s.testBit b with
                | false => rfl
                | true => exact absurd ⟨h6, h⟩ hmore
              · exact HTOP.out _ (by omega)
            rw [hbit] at hod
            have HR2 := Lib.hid (show rl 25 s 0 = (pre ++ [(e, b)]) ++ rl 25 s (b + 1) by
              have h1 : rl 25 s b = rl 25 s (b + 1) := by
                by_cases h6 : b < 24
                · exact HSK.out b h6 hbit
                · rw [HEN.out b (by omega), HEN.out (b + 1) (by omega)]
              rw [List.append_assoc, List.singleton_append, ← h1, ← HRU.out e b hb1 hb2 HA.out hbit]; exact HR.out)
            have hmo := HMO.out b
            have N1 := Lib.hid (fun u => HNM.out e (by omega) u)
            have N2 := Lib.hid (fun u => HNM.out b (by omega) u)
            have z1 := itoaB_size e (by omega)
            have z2 := itoaB_size b (by omega)
            obtain ⟨D1, hD1⟩ : ∃ D, itoaB e = D := ⟨_, rfl⟩
            obtain ⟨D2, hD2⟩ : ∃ D, itoaB b = D := ⟨_, rfl⟩
            rw [hD1, hD2] at hmo
            rw [hD1] at N1 z1
            rw [hD2] at N2 z2
            have HMM := Lib.hid hmo
            have HZ := Lib.hid (And.intro z1 z2)
            clear hmore hbit hmo hD1 hD2 z1 z2
            by_cases hp : pre = []
            · have HP := Lib.hid hp
              have hO := HNIL.out hp
              subst hO
              clear hp
              obtain ⟨z1, z2⟩ := HZ.out
              have y1 : ¬ (9223372036854775807 < D1.size) := by omega
              have y2 : ¬ (9223372036854775807 < D1.size + 1) := by omega
              have y3 : ¬ (9223372036854775807 < D1.size + 1 + D2.size) := by omega
              go_wp2_with (first | (go_at_call 64; (with_reducible refine Calls.mono (N1.out _) ?_); rintro r v1 ⟨rfl, hb⟩; have HB3 := Lib.hid (below_to HB.out hb); clear hb) | (go_at_call 64; (with_reducible refine Calls.mono (N2.out _) ?_); rintro r v2 ⟨rfl, hb⟩; have HB4 := Lib.hid (below_to HB3.out hb); clear hb))
              all_goals go_roundw
              all_goals first | (case rel => exact ⟨b + 1, pre ++ [(e, b)], by omega, by go_num, by rw [HMM.out, if_pos HP.out]; first | done | rfl | simp [nil_append], HR2, HB4⟩) | skip
              all_goals first | (case measure => simp [intOf]; omega) | skip
            · have HP := Lib.hid hp
              have hO := HNE.out hp
              have t1 : ¬ O.toList = [] := fun h => hO (by apply ba_ext; rw [ByteArray.toList_eq] at h; rw [h])
              have t2 : (O.toList == []) = false := beq_eq_false_iff_ne.2 t1
              clear hp hO
              obtain ⟨z1, z2⟩ := HZ.out; have z0 := HSZ.out
              have y0 : ¬ (9223372036854775807 < O.size + 1) := by omega
              have y1 : ¬ (9223372036854775807 < O.size + 1 + D1.size) := by omega
              have y2 : ¬ (9223372036854775807 < O.size + 1 + D1.size + 1) := by omega
              have y3 : ¬ (9223372036854775807 < O.size + 1 + D1.size + 1 + D2.size) := by omega
              go_wp2_with (first | (go_at_call 64; (with_reducible refine Calls.mono (N1.out _) ?_); rintro r v1 ⟨rfl, hb⟩; have HB3 := Lib.hid (below_to HB.out hb); clear hb) | (go_at_call 64; (with_reducible refine Calls.mono (N2.out _) ?_); rintro r v2 ⟨rfl, hb⟩; have HB4 := Lib.hid (below_to HB3.out hb); clear hb))
              all_goals go_roundw
              all_goals first | (case rel => exact ⟨b + 1, pre ++ [(e, b)], by omega, by go_num, by rw [HMM.out, if_neg HP.out]; first | done | rfl | simp [nil_append], HR2, HB4⟩) | skip
              all_goals first | (case measure => simp [intOf]; omega) | skip
    · have hge : ¬ (e : Int) < 24 := by omega
      have HT : Hid (outT [32] wrH pre = wrRuns [32] wrH s) := Lib.hid (by
        have h := HR.out
        rw [HEN.out e (by omega), List.append_nil] at h
        rw [← h]; rfl)
      rw [HT.out]
      go_wp2
      go_ret
      exact ⟨rfl, HB.out⟩
end Go.Proofs.YtmfpaankkoaoaaaDoor

/- The reference's first; what its Groups finds, in plain words. -/
namespace Go.Proofs.YtmfpaankkoaoaaaDoor
open Go.RowKit Go.Shelf

theorem add_or : ∀ a b : Fin 128, a.val &&& b.val = 0 → a.val + b.val = a.val ||| b.val := by decide +kernel
theorem add_or_nat {a b : Nat} (ha : a ≤ 127) (hb : b ≤ 127) (h : ∀ i, a.testBit i = true → b.testBit i = false) : a + b = a ||| b := by
  refine add_or ⟨a, by omega⟩ ⟨b, by omega⟩ ?_
  apply Nat.eq_of_testBit_eq
  intro i
  rw [Nat.testBit_and, Nat.zero_testBit]
  cases ha : a.testBit i with
  | false => rfl
  | true => rw [h i ha]; rfl
theorem or_127 {a b : Nat} (ha : a ≤ 127) (hb : b ≤ 127) : a ||| b ≤ 127 := by
  have := Nat.or_lt_two_pow (x := a) (y := b) (n := 7) (by omega) (by omega)
  omega
/-- The days that are in the groups that begin before day k. -/
def usedN (l : List Int) : Nat → Nat
  | 0 => 0
  | k + 1 => if hrs l k ≠ 0 ∧ anyB l k k = false then usedN l k ||| daysOf l (hrs l k) 7 else usedN l k
theorem usedN_le (l : List Int) : ∀ k, usedN l k ≤ 127
  | 0 => Nat.zero_le _
  | k + 1 => by
    unfold usedN
    have := daysOf_lt l (hrs l k) 7
    split
    · exact or_127 (usedN_le l k) (by omega)
    · exact usedN_le l k
theorem usedN_bit (l : List Int) (d : Nat) : ∀ k, (usedN l k).testBit d = decide (d < 7 ∧ hrs l d ≠ 0 ∧ ∃ e, e < k ∧ hrs l e = hrs l d)
  | 0 => by simp [usedN]
  | k + 1 => by
    have ih := usedN_bit l d k
    unfold usedN
    by_cases hc : hrs l k ≠ 0 ∧ anyB l k k = false
    · rw [if_pos hc, Nat.testBit_or, ih, days_bit]
      by_cases h1 : d < 7 ∧ hrs l d ≠ 0 ∧ ∃ e, e < k ∧ hrs l e = hrs l d
      · rw [decide_eq_true h1, Bool.true_or]
        obtain ⟨a, b, e, he, hh⟩ := h1
        exact (decide_eq_true ⟨a, b, e, by omega, hh⟩).symm
      · rw [decide_eq_false h1, Bool.false_or]
        by_cases h2 : d < 7 ∧ hrs l k ≠ 0 ∧ hrs l d = hrs l k
        · rw [decide_eq_true h2]
          obtain ⟨a, b, c⟩ := h2
          exact (decide_eq_true ⟨a, by rw [c]; exact b, k, by omega, c.symm⟩).symm
        · rw [decide_eq_false h2]
          refine (decide_eq_false ?_).symm
          rintro ⟨a, b, e, he, hh⟩
          by_cases hek : e = k
          · subst hek; exact h2 ⟨a, by rw [hh]; exact b, hh.symm⟩
          · exact h1 ⟨a, b, e, by omega, hh⟩
    · rw [if_neg hc, ih]
      congr 1
      apply propext
      refine ⟨fun ⟨a, b, e, he, hh⟩ => ⟨a, b, e, by omega, hh⟩, fun ⟨a, b, e, he, hh⟩ => ⟨a, b, ?_⟩⟩
      by_cases hek : e = k
      · subst hek
        have hk0 : hrs l e ≠ 0 := by rw [hh]; exact b
        have : anyB l e e = true := by
          cases h : anyB l e e with
          | true => rfl
          | false => exact absurd ⟨hk0, h⟩ hc
        obtain ⟨x, hx, hxx⟩ := (any_iff l e e).1 this
        exact ⟨x, hx, hxx.trans hh⟩
      · exact ⟨e, by omega, hh⟩
/-- Is a day passed over? -/
theorem used_day (l : List Int) (k : Nat) (hk : k < 7) : (hrs l k ≠ 0 ∧ (usedN l k).testBit k = false) ↔ (hrs l k ≠ 0 ∧ anyB l k k = false) := by
  rw [usedN_bit]
  constructor
  · rintro ⟨h0, h⟩
    refine ⟨h0, ?_⟩
    cases ha : anyB l k k with
    | false => rfl
    | true =>
      obtain ⟨x, hx, hxx⟩ := (any_iff l k k).1 ha
      have := of_decide_eq_false h
      exact absurd ⟨hk, h0, x, hx, hxx⟩ this
  · rintro ⟨h0, h⟩
    refine ⟨h0, decide_eq_false ?_⟩
    rintro ⟨-, -, e, he, hh⟩
    have : anyB l k k = true := (any_iff l k k).2 ⟨e, he, hh⟩
    rw [h] at this; cases this
/-- The groups that begin before day k, as sets of days. -/
def grpsN (l : List Int) : Nat → List Nat
  | 0 => []
  | k + 1 => if hrs l k ≠ 0 ∧ anyB l k k = false then grpsN l k ++ [daysOf l (hrs l k) 7] else grpsN l k
theorem first_of {l : List Int} {k : Nat} : (hrs l k ≠ 0 ∧ anyB l k k = false) ↔ FirstD l k := by
  constructor
  · rintro ⟨h0, h⟩
    refine ⟨h0, fun d hd e => ?_⟩
    have : anyB l k k = true := (any_iff l k k).2 ⟨d, hd, e⟩
    rw [h] at this; cases this
  · rintro ⟨h0, h⟩
    refine ⟨h0, ?_⟩
    cases ha : anyB l k k with
    | false => rfl
    | true =>
      obtain ⟨x, hx, hxx⟩ := (any_iff l k k).1 ha
      exact absurd hxx (h x hx)
/-- The texts of the groups, from their sets of days. -/
theorem grps_texts (l : List Int) : ∀ k, k ≤ 7 → prL l k = (grpsN l k).map fun D => grpT D (hrs l (Lib.ctz 64 D))
  | 0, _ => rfl
  | k + 1, hk => by
    unfold grpsN
    by_cases hF : FirstD l k
    · rw [if_pos (first_of.2 hF), prL_new hF.1 hF.2, List.map_append, grps_texts l k (by omega)]
      obtain ⟨-, -, h3⟩ := first_days (by omega) hF
      simp [h3]
    · rw [if_neg (fun h => hF (first_of.1 h)), prL_old hF, grps_texts l k (by omega)]
theorem grps_mem (l : List Int) : ∀ k, k ≤ 7 → ∀ D ∈ grpsN l k, D ≤ 127 ∧ D ≠ 0 ∧ Lib.ctz 64 D < 7 ∧ hrs l (Lib.ctz 64 D) ≠ 0
  | 0, _, D, h => by cases h
  | k + 1, hk, D, h => by
    unfold grpsN at h
    by_cases hF : FirstD l k
    · rw [if_pos (first_of.2 hF)] at h
      rcases List.mem_append.1 h with h | h
      · exact grps_mem l k (by omega) D h
      · have e : D = daysOf l (hrs l k) 7 := by simpa using h
        obtain ⟨h1, h2, h3⟩ := first_days (by omega) hF
        rw [e, h3]
        exact ⟨h1, h2, by omega, hF.1⟩
    · rw [if_neg (fun h => hF (first_of.1 h))] at h
      exact grps_mem l k (by omega) D h
theorem grps_len (l : List Int) : ∀ k, (grpsN l k).length ≤ k
  | 0 => Nat.le_refl _
  | k + 1 => by
    have := grps_len l k
    unfold grpsN
    split
    · simp; omega
    · omega
/-- The days of one group, counted up to day b, beginning with day a. -/
theorem days_from (l : List Int) (h a : Nat) (hn : ∀ e, e < a → hrs l e ≠ h) : daysOf l h a = 0 := by
  apply Nat.eq_of_testBit_eq
  intro d
  rw [days_bit, Nat.zero_testBit, decide_eq_false]
  rintro ⟨h1, -, h3⟩
  exact hn d h1 h3
set_option maxRecDepth 100000 in
set_option maxHeartbeats 2000000 in
theorem rfirst_any (s : Nat) (hs : s ≤ 127) (h0 : s ≠ 0) (w : World) : Calls Tryd.prog 46 #[.int .i64 (s : Int)] w fun e w' => e = .returned (.int .i64 ((Lib.ctz 64 s : Nat) : Int)) ∧ w = w' := by
  have HOD := Lib.hid (fun k => has_bit2 s k)
  have HEQ := Lib.hid (fun k h1 h2 => ctz_eq (x := s) (k := k) (by omega) h1 h2)
  have HNZ := Lib.hid (show (∀ i, i < 7 → s.testBit i = false) → False from fun h => h0 (by
    apply Nat.eq_of_testBit_eq
    intro i
    rw [Nat.zero_testBit]
    by_cases hi : i < 7
    · exact h i hi
    · exact big_bit (N := 7) (by omega) (by omega)))
  have i0 : (0 : Int) ≤ (s : Int) := by omega
  clear hs h0
  go_enter Tryd.func46, Tryd.ntmps46
  go_wp2
  go_loop [3] (fun i => ∃ k : Nat, k ≤ 7 ∧ i = .int .i64 (k : Int) ∧ Hid (∀ i, i < k → s.testBit i = false)) (fun i => 7 - (intOf i).toNat)
  case atStart => exact ⟨0, by omega, rfl, Lib.hid (fun i h => by omega)⟩
  case round =>
    obtain ⟨k, hk, rfl, HA⟩ := hrel
    have j1 : (0 : Int) ≤ (k : Int) := by omega
    by_cases hlt : k < 7
    · have j2 : (k : Int) < 7 := by omega
      have hod := HOD.out k
      cases hb : s.testBit k with
      | true =>
        rw [hb] at hod
        have HE := Lib.hid (HEQ.out k hb HA.out)
        clear hb
        go_wp2
        go_ret
        exact ⟨by rw [HE.out]; rfl, rfl⟩
      | false =>
        rw [hb] at hod
        have HA2 := Lib.hid (show ∀ i, i < k + 1 → s.testBit i = false from fun i h => by
          by_cases hi : i < k
          · exact HA.out i hi
          · rw [show i = k by omega]; exact hb)
        clear hb
        go_wp2
        go_round
        case rel => exact ⟨k + 1, by omega, by go_num, HA2⟩
        case measure => simp [intOf]; omega
    · exact (HNZ.out (fun i hi => HA.out i (by omega))).elim
end Go.Proofs.YtmfpaankkoaoaaaDoor
