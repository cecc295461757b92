/- Contracts of the reference's value, Verify, both and VerifyExtension. -/
import Derived.Test.YtnbhhhbmeafkaaaDoorE16
import Derived.Test.YtnbhhhbmeafkaaaDoorE4
import Derived.Test.YtnbhhhbmeafkaaaDoorM4
import Derived.Test.YtnbhhhbmeafkaaaDoorL5
import Derived.Test.YtnbhhhbmeafkaaaDoorM5
import Derived.Deep.RegionHeld3
namespace Go.Proofs.YtnbhhhbmeafkaaaDoor
section
open Go.RowKit

def ValPost (p : List UInt8 × Bool) (w : World) (e : Ending) (w' : World) : Prop := e = .returned (.tuple #[strOf p.1, .bool p.2]) ∧ Below w.heap.size w w'
theorem valR_len (s : List UInt8) : ∀ (r : List (List UInt8)) (n i : Nat), (Dm.valR s n i r).1.length ≤ 32
  | [], n, i => by
    unfold Dm.valR
    split
    · simp [Dm.leaf_len]
    · simp
  | x :: r, n, i => by
    unfold Dm.valR
    split
    · simp [Dm.leaf_len]
    · split <;> simp [Dm.node_len]
theorem value_close {w w1 w2 : World} {a : List UInt8} {o : Bool} {p : List UInt8 × Bool} (h1 : Below w.heap.size w w1) (h2 : Below w1.heap.size w1 w2) (hp : p = (a, o)) : ValPost p w (.returned (.tuple #[strOf a, .bool o])) w2 := by
  subst hp; exact ⟨rfl, h1.trans (h2.mono h1.size)⟩

set_option maxHeartbeats 1000000 in
theorem value_nil (s : List UInt8) (hs : s.length ≤ 1000) (n i : Nat) (A : Option Addr) (c : Nat) (w : World) :
    Calls Tryd.prog 55 #[.int .i64 (n : Int), .int .i64 (i : Int), strOf s, .slice A 0 c] w (ValPost (Dm.valR s n i []) w) := by
  have hlf := refLeaf_any s w (by omega)
  have hv : Dm.valR s n i [] = if n = 1 then (Dm.leaf s, true) else ([], false) := rfl
  rw [hv]
  have HL := Lib.hid hlf
  clear hv hlf
  by_cases h1 : n = 1
  · subst h1
    rw [if_pos rfl]
    go_enter Tryd.func55, Tryd.ntmps55
    go_wp2_with (go_at_call 16; refine HL.out.mono ?_; rintro e w1 ⟨rfl, hb1⟩)
    go_ret2
    exact ⟨rfl, hb1⟩
  · rw [if_neg h1]
    have d1 : ((n : Int) == 1) = false := by rw [beq_eq_false_iff_ne]; omega
    go_enter Tryd.func55, Tryd.ntmps55
    go_wp2
    go_ret2
    exact ⟨rfl, Below.refl _ _⟩

set_option maxRecDepth 100000 in
set_option maxHeartbeats 2000000 in
theorem value_at (s : List UInt8) (hs : s.length ≤ 1000) : ∀ (r : List (List UInt8)) (n i : Nat) (v : Value) (w : World), Strs w w.heap.size v r.reverse → r.length ≤ 100 → (∀ x ∈ r, x.length ≤ 1000) → 1 ≤ n → n ≤ 9223372036854775807 → i ≤ 9223372036854775807 →
    Calls Tryd.prog 55 #[.int .i64 (n : Int), .int .i64 (i : Int), strOf s, v] w (ValPost (Dm.valR s n i r) w) := by
  intro r
  induction r with
  | nil =>
    intro n i v w hv _ _ _ _ _
    obtain ⟨A, c, rfl, _⟩ := hv
    exact value_nil s hs n i A c w
  | cons x r ih =>
    intro n i v w hv hlen hr h1 hn hi
    obtain ⟨g, off, c, rfl, hc1, hc2, hg, hx, hrs⟩ := strs_last hv
    have hxl := hr x (by simp)
    have ih' := fun n i u (hu : Below w.heap.size w u) h1 hn hi => ih n i _ u (hrs.next hu) (by simp at hlen; omega) (fun z hz => hr z (by simp [hz])) h1 hn hi
    clear ih hv hrs hr
    unfold maxLen at hc2
    have hlf := refLeaf_any s w (by omega)
    obtain ⟨M, hM⟩ : ∃ M, r.length = M := ⟨_, rfl⟩
    rw [hM] at hc1 hx ih' ⊢
    have hM2 : M ≤ 100 := by simp at hlen; omega
    clear hlen
    have e1 : ((M : Int) + 1) - 1 = (M : Int) := by omega
    have i1 : (0 : Int) ≤ (M : Int) := by omega
    have i2 : (M : Int) < (M : Int) + 1 := by omega
    have i5 : (M : Int) + 1 ≤ (c : Int) := by omega
    have i3 : (M : Int) ≤ (c : Int) := by omega
    have i4 : ¬ c = M := by omega
    have i6 : decide ((M : Int) < 0) = false := by simp
    have HLF := Lib.hid hlf
    clear hlf hM
    by_cases hn1 : n = 1
    · subst hn1
      have hv : Dm.valR s 1 i (x :: r) = (Dm.leaf s, false) := by unfold Dm.valR; rw [if_pos rfl]
      rw [hv]
      clear hv ih' hx
      go_enter Tryd.func55, Tryd.ntmps55
      go_wp2_with (go_at_call 16; refine HLF.out.mono ?_; rintro e w1 ⟨rfl, hb1⟩)
      go_ret2
      exact ⟨rfl, hb1⟩
    have hlft := refLeft_any n w (by omega) hn
    have hlt := Dm.lft_lt n (by omega)
    have hpos := Dm.lft_pos n
    obtain ⟨q, hq⟩ : ∃ q, Dm.lft n = q := ⟨_, rfl⟩
    have hw0 : Dm.valR s n i (x :: r) = if i < q then (Dm.node (Dm.valR s q i r).1 x, (Dm.valR s q i r).2) else (Dm.node x (Dm.valR s (n - q) (i - q) r).1, (Dm.valR s (n - q) (i - q) r).2) := by
      conv => lhs; unfold Dm.valR
      rw [if_neg hn1, hq]
    rw [hq] at hlft hlt hpos
    rw [hw0]
    have HL := Lib.hid hlft; have HI := Lib.hid ih'
    have d1 : ((n : Int) == 1) = false := by rw [beq_eq_false_iff_ne]; omega
    clear hq hw0 hlft ih' HLF hn1
    by_cases hiq : i < q
    · rw [if_pos hiq]
      have hvl := valR_len s r q i
      obtain ⟨p, hp⟩ : ∃ p, Dm.valR s q i r = p := ⟨_, rfl⟩
      have hi2 : Calls _ _ _ w (ValPost p w) := hp ▸ HI.out q i w (Below.refl _ _) (by omega) (by omega) hi
      rw [hp] at hvl ⊢
      obtain ⟨a, o⟩ := p
      dsimp only at hvl ⊢
      have HI2 := Lib.hid hi2
      have hnd := fun u => refNode_any a x u (by omega)
      have HND := Lib.hid hnd
      clear hp HI hi2 hnd
      have j1 : (i : Int) < (q : Int) := by omega
      go_enter Tryd.func55, Tryd.ntmps55
      go_wp2_with (first | (go_at_call 46; refine HL.out.mono ?_; rintro e w' ⟨rfl, rfl⟩) | (go_at_call 55; refine HI2.out.mono ?_; unfold ValPost; rintro e w1 ⟨rfl, hb1⟩; have hx1 := (hb1.cell (p := ⟨g, off + M, none⟩) hg).trans hx; have HB1 := Lib.hid hb1; clear hb1) | (go_at_call 18; refine (HND.out _).mono ?_; rintro e w2 ⟨rfl, hb2⟩))
      go_ret2
      exact value_close HB1.out hb2 rfl
    · rw [if_neg hiq]
      have hvl := valR_len s r (n - q) (i - q)
      obtain ⟨p, hp⟩ : ∃ p, Dm.valR s (n - q) (i - q) r = p := ⟨_, rfl⟩
      have hi2 : Calls _ _ _ w (ValPost p w) := hp ▸ HI.out (n - q) (i - q) w (Below.refl _ _) (by omega) (by omega) (by omega)
      rw [show ((n - q : Nat) : Int) = (n : Int) - (q : Int) by omega, show ((i - q : Nat) : Int) = (i : Int) - (q : Int) by omega] at hi2
      rw [hp] at hvl ⊢
      obtain ⟨a, o⟩ := p
      dsimp only at hvl ⊢
      have HI2 := Lib.hid hi2
      have hnd := fun u => refNode_any x a u (by omega)
      have HND := Lib.hid hnd
      clear hp HI hi2 hnd
      have j1 : decide ((i : Int) < (q : Int)) = false := by simp; omega
      have j2 : decide (i < q) = false := by simp; omega
      have j7 : (q : Int) ≤ (i : Int) := by omega
      have j8 : (q : Int) < (n : Int) := by omega
      clear hiq
      go_enter Tryd.func55, Tryd.ntmps55
      go_wp2_with (first | (go_at_call 46; refine HL.out.mono ?_; rintro e w' ⟨rfl, rfl⟩) | (go_at_call 55; refine HI2.out.mono ?_; unfold ValPost; rintro e w1 ⟨rfl, hb1⟩; have hx1 := (hb1.cell (p := ⟨g, off + M, none⟩) hg).trans hx; have HB1 := Lib.hid hb1; clear hb1) | (go_at_call 18; refine (HND.out _).mono ?_; rintro e w2 ⟨rfl, hb2⟩))
      go_ret2
      exact value_close HB1.out hb2 rfl

def RvfPost (b : Bool) (w : World) (e : Ending) (w' : World) : Prop := e = .returned (.bool b) ∧ Below w.heap.size w w'
theorem rvf_bool {a b : Bool} (h : a = b) {w w' : World} (hb : Below w.heap.size w w') : RvfPost b w (.returned (.bool a)) w' := ⟨by rw [h], hb⟩

set_option maxHeartbeats 1000000 in
theorem refVfy_any (root s : List UInt8) (n i : Int) (v : Value) (ps : List (List UInt8)) (w : World) (hv : Strs w w.heap.size v ps) (hl : ∀ s ∈ ps, s.length ≤ 1000) (hs : s.length ≤ 1000) (hps : ps.length ≤ 100)
    (hn : n ≤ 9223372036854775807) :
    Calls Tryd.prog 30 #[strOf root, .int .i64 n, .int .i64 i, strOf s, v] w (RvfPost (vfy root n i s ps) w) := by
  have hd := refDigests_any v ps w hv hl
  by_cases h1 : i < 0
  · have hf : vfy root n i s ps = false := by unfold vfy; rw [if_pos (.inl h1)]
    rw [hf]
    have HD := Lib.hid hd
    clear hd hf hv hl
    go_enter Tryd.func30, Tryd.ntmps30
    go_wp2_with (go_at_call 54; refine HD.out.mono ?_; rintro e w' ⟨rfl, rfl⟩)
    go_ret
    exact ⟨rfl, Below.refl _ _⟩
  have d1 : decide (i < 0) = false := by simp; omega
  by_cases h2 : n ≤ i
  · have hf : vfy root n i s ps = false := by unfold vfy; rw [if_pos (.inr h2)]
    rw [hf]
    have HD := Lib.hid hd
    clear hd hf hv hl h1
    go_enter Tryd.func30, Tryd.ntmps30
    go_wp2_with (go_at_call 54; refine HD.out.mono ?_; rintro e w' ⟨rfl, rfl⟩)
    go_ret
    exact ⟨rfl, Below.refl _ _⟩
  have d2 : decide (n ≤ i) = false := by simp; omega
  have hf : vfy root n i s ps = (Dm.digs ps && vfyIn root n.toNat i.toNat s ps) := by unfold vfy; rw [if_neg (by omega)]
  rw [hf]
  cases hdg : Dm.digs ps with
  | false =>
    rw [hdg] at hd
    rw [Bool.false_and]
    have HD := Lib.hid hd
    clear hd hf hv hl h1 h2 hdg
    go_enter Tryd.func30, Tryd.ntmps30
    go_wp2_with (go_at_call 54; refine HD.out.mono ?_; rintro e w' ⟨rfl, rfl⟩)
    go_ret
    exact ⟨rfl, Below.refl _ _⟩
  | true =>
    rw [hdg] at hd
    rw [Bool.true_and, Dm.vfy_val root s n.toNat i.toNat ps (by omega) (by omega)]
    have hva := value_at s hs ps.reverse n.toNat i.toNat v w (by rw [List.reverse_reverse]; exact hv) (by rw [List.length_reverse]; exact hps) (fun x hx => hl x (List.mem_reverse.1 hx)) (by omega) (by omega) (by omega)
    obtain ⟨p, hp⟩ : ∃ p, Dm.valR s n.toNat i.toNat ps.reverse = p := ⟨_, rfl⟩
    rw [hp, show ((n.toNat : Nat) : Int) = n by omega, show ((i.toNat : Nat) : Int) = i by omega] at hva
    rw [hp]
    obtain ⟨a, o⟩ := p
    dsimp only at hva ⊢
    have HD := Lib.hid hd; have HV := Lib.hid hva
    clear hd hf hv hl h1 h2 hdg hva hp
    cases o with
    | false =>
      go_enter Tryd.func30, Tryd.ntmps30
      go_wp2_with (first | (go_at_call 54; refine HD.out.mono ?_; rintro e w' ⟨rfl, rfl⟩) | (go_at_call 55; refine HV.out.mono ?_; unfold ValPost; rintro e w1 ⟨rfl, hb1⟩))
      go_ret
      exact ⟨rfl, hb1⟩
    | true =>
      go_enter Tryd.func30, Tryd.ntmps30
      go_wp2_with (first | (go_at_call 54; refine HD.out.mono ?_; rintro e w' ⟨rfl, rfl⟩) | (go_at_call 55; refine HV.out.mono ?_; unfold ValPost; rintro e w1 ⟨rfl, hb1⟩))
      go_ret
      exact rvf_bool (by rw [Bool.true_and]; exact bs_eqb _ _) hb1
end

section
open Go.RowKit

def BothPost (p : List UInt8 × List UInt8 × Bool) (w : World) (e : Ending) (w' : World) : Prop := e = .returned (.tuple #[strOf p.1, strOf p.2.1, .bool p.2.2]) ∧ Below w.heap.size w w'
theorem bothR_len (old : List UInt8) (ho : old.length ≤ 1000) : ∀ (r : List (List UInt8)) (m n : Nat) (wh : Bool), (∀ x ∈ r, x.length ≤ 1000) → (Dm.bothR old m n wh r).1.length ≤ 1000 ∧ (Dm.bothR old m n wh r).2.1.length ≤ 1000
  | [], m, n, wh, _ => by
    unfold Dm.bothR
    split
    · split <;> simp <;> omega
    · simp
  | x :: r, m, n, wh, hr => by
    have hx := hr x (by simp)
    unfold Dm.bothR
    split
    · split
      · exact ⟨ho, ho⟩
      · split
        · exact ⟨hx, hx⟩
        · simp
    · split
      · exact ⟨(bothR_len old ho r m (Dm.lft n) wh (fun z hz => hr z (by simp [hz]))).1, by simp [Dm.node_len]⟩
      · exact ⟨by simp [Dm.node_len], by simp [Dm.node_len]⟩
theorem both_close {w w1 w2 : World} {a b : List UInt8} {o : Bool} {p : List UInt8 × List UInt8 × Bool} (h1 : Below w.heap.size w w1) (h2 : Below w1.heap.size w1 w2) (hp : p = (a, b, o)) : BothPost p w (.returned (.tuple #[strOf a, strOf b, .bool o])) w2 := by
  subst hp; exact ⟨rfl, h1.trans (h2.mono h1.size)⟩

set_option maxHeartbeats 1000000 in
theorem both_nil (old : List UInt8) (_ : old.length ≤ 1000) (m n : Nat) (wh : Bool) (A : Option Addr) (c : Nat) (w : World) :
    Calls Tryd.prog 56 #[strOf old, .int .i64 (m : Int), .int .i64 (n : Int), .slice A 0 c, .bool wh] w (BothPost (Dm.bothR old m n wh []) w) := by
  have hv : Dm.bothR old m n wh [] = if m = n then (if wh then (old, old, true) else ([], [], false)) else ([], [], false) := rfl
  rw [hv]
  clear hv
  by_cases h1 : m = n
  · subst h1
    rw [if_pos rfl]
    cases wh with
    | true =>
      rw [if_pos rfl]
      go_enter Tryd.func56, Tryd.ntmps56
      go_wp2
      go_ret3
      exact ⟨rfl, Below.refl _ _⟩
    | false =>
      rw [if_neg (by decide)]
      go_enter Tryd.func56, Tryd.ntmps56
      go_wp2
      go_ret3
      exact ⟨rfl, Below.refl _ _⟩
  · rw [if_neg h1]
    have d1 : ((m : Int) == (n : Int)) = false := by rw [beq_eq_false_iff_ne]; omega
    clear h1
    go_enter Tryd.func56, Tryd.ntmps56
    go_wp2
    go_ret3
    exact ⟨rfl, Below.refl _ _⟩

set_option maxHeartbeats 1000000 in
theorem both_end (old x : List UInt8) (m : Nat) (wh : Bool) (g off M c : Nat) (r : List (List UInt8)) (w : World) (hM : r.length = M) (hM2 : M ≤ 100) (hc : M = 0 → w.cell? ⟨g, off, none⟩ = some (strOf x)) :
    Calls Tryd.prog 56 #[strOf old, .int .i64 (m : Int), .int .i64 (m : Int), .slice (some ⟨g, off, none⟩) (M + 1) c, .bool wh] w (BothPost (Dm.bothR old m m wh (x :: r)) w) := by
  have hv : Dm.bothR old m m wh (x :: r) = if wh then (old, old, false) else if M = 0 then (x, x, true) else ([], [], false) := by
    unfold Dm.bothR
    rw [if_pos rfl, ← hM]
    cases r <;> simp
  rw [hv]
  clear hv hM
  have e1 : ((M : Int) + 1) - 1 = (M : Int) := by omega
  cases wh with
  | true =>
    rw [if_pos rfl]
    clear hc
    have i6 : decide ((M : Int) < 0) = false := by simp
    go_enter Tryd.func56, Tryd.ntmps56
    go_wp2
    go_ret3
    exact ⟨rfl, Below.refl _ _⟩
  | false =>
    rw [if_neg (by decide)]
    by_cases h0 : M = 0
    · subst h0
      have c0 := hc rfl
      rw [if_pos rfl]
      clear hc
      go_enter Tryd.func56, Tryd.ntmps56
      go_wp2
      go_quiet (fail)
      go_wp2
      go_ret3
      exact ⟨rfl, belowN (Below.refl _ _) _⟩
    · rw [if_neg h0]
      have d1 : ((M : Int) != 0) = true := by simp; omega
      clear hc h0
      go_enter Tryd.func56, Tryd.ntmps56
      go_wp2
      go_ret3
      exact ⟨rfl, Below.refl _ _⟩

set_option maxRecDepth 100000 in
set_option maxHeartbeats 4000000 in
theorem both_at (old : List UInt8) (ho : old.length ≤ 1000) : ∀ (r : List (List UInt8)) (m n : Nat) (wh : Bool) (v : Value) (w : World), Strs w w.heap.size v r.reverse → r.length ≤ 100 → (∀ x ∈ r, x.length ≤ 1000) → 1 ≤ m → m ≤ n → n ≤ 9223372036854775807 →
    Calls Tryd.prog 56 #[strOf old, .int .i64 (m : Int), .int .i64 (n : Int), v, .bool wh] w (BothPost (Dm.bothR old m n wh r) w) := by
  intro r
  induction r with
  | nil =>
    intro m n wh v w hv _ _ _ _ _
    obtain ⟨A, c, rfl, _⟩ := hv
    exact both_nil old ho m n wh A c w
  | cons x r ih =>
    intro m n wh v w hv hlen hr h1 hmn hn
    have hv0 := hv
    obtain ⟨g, off, c, rfl, hc1, hc2, hg, hx, hrs⟩ := strs_last hv
    have hxl := hr x (by simp)
    have ih' := fun m n wh u (hu : Below w.heap.size w u) h1 hmn hn => ih m n wh _ u (hrs.next hu) (by simp at hlen; omega) (fun z hz => hr z (by simp [hz])) h1 hmn hn
    have hbl := fun m n wh => bothR_len old ho r m n wh (fun z hz => hr z (by simp [hz]))
    clear ih hv hrs hr hv0
    unfold maxLen at hc2
    obtain ⟨M, hM⟩ : ∃ M, r.length = M := ⟨_, rfl⟩
    rw [hM] at hc1 hx ih' ⊢
    have hM2 : M ≤ 100 := by simp at hlen; omega
    clear hlen
    by_cases hne : m = n
    · subst hne
      exact both_end old x m wh g off M c r w hM hM2 (fun h => by subst h; rw [Nat.add_zero] at hx; exact hx)
    have e1 : ((M : Int) + 1) - 1 = (M : Int) := by omega
    have i1 : (0 : Int) ≤ (M : Int) := by omega
    have i2 : (M : Int) < (M : Int) + 1 := by omega
    have i5 : (M : Int) + 1 ≤ (c : Int) := by omega
    have i3 : (M : Int) ≤ (c : Int) := by omega
    have i4 : ¬ c = M := by omega
    have i6 : decide ((M : Int) < 0) = false := by simp
    have d1 : ((m : Int) == (n : Int)) = false := by rw [beq_eq_false_iff_ne]; omega
    have hlft := refLeft_any n w (by omega) hn
    have hlt := Dm.lft_lt n (by omega)
    have hpos := Dm.lft_pos n
    obtain ⟨q, hq⟩ : ∃ q, Dm.lft n = q := ⟨_, rfl⟩
    have hw0 : Dm.bothR old m n wh (x :: r) = if m ≤ q then ((Dm.bothR old m q wh r).1, Dm.node (Dm.bothR old m q wh r).2.1 x, (Dm.bothR old m q wh r).2.2)
      else (Dm.node x (Dm.bothR old (m - q) (n - q) false r).1, Dm.node x (Dm.bothR old (m - q) (n - q) false r).2.1, (Dm.bothR old (m - q) (n - q) false r).2.2) := by
      conv => lhs; unfold Dm.bothR
      rw [if_neg hne, hq]
    rw [hq] at hlft hlt hpos
    rw [hw0]
    have HL := Lib.hid hlft; have HI := Lib.hid ih'
    clear hq hw0 hlft ih' hne hM
    by_cases hiq : m ≤ q
    · rw [if_pos hiq]
      have hvl := hbl m q wh
      obtain ⟨p, hp⟩ : ∃ p, Dm.bothR old m q wh r = p := ⟨_, rfl⟩
      have hi2 : Calls _ _ _ w (BothPost p w) := hp ▸ HI.out m q wh w (Below.refl _ _) h1 hiq (by omega)
      rw [hp] at hvl ⊢
      obtain ⟨a, b, o⟩ := p
      dsimp only at hvl ⊢
      have HI2 := Lib.hid hi2
      have hnd := fun u => refNode_any b x u (by omega)
      have HND := Lib.hid hnd
      clear hp HI hi2 hnd hbl hvl
      have j1 : (m : Int) ≤ (q : Int) := by omega
      go_enter Tryd.func56, Tryd.ntmps56
      go_wp2_with (first | (go_at_call 46; refine HL.out.mono ?_; rintro e w' ⟨rfl, rfl⟩) | (go_at_call 56; refine HI2.out.mono ?_; unfold BothPost; rintro e w1 ⟨rfl, hb1⟩; have hx1 := (hb1.cell (p := ⟨g, off + M, none⟩) hg).trans hx; have HB1 := Lib.hid hb1; clear hb1) | (go_at_call 18; refine (HND.out _).mono ?_; rintro e w2 ⟨rfl, hb2⟩))
      go_ret3
      exact both_close HB1.out hb2 rfl
    · rw [if_neg hiq]
      have hvl := hbl (m - q) (n - q) false
      obtain ⟨p, hp⟩ : ∃ p, Dm.bothR old (m - q) (n - q) false r = p := ⟨_, rfl⟩
      have hi2 : Calls _ _ _ w (BothPost p w) := hp ▸ HI.out (m - q) (n - q) false w (Below.refl _ _) (by omega) (by omega) (by omega)
      rw [show ((n - q : Nat) : Int) = (n : Int) - (q : Int) by omega, show ((m - q : Nat) : Int) = (m : Int) - (q : Int) by omega] at hi2
      rw [hp] at hvl ⊢
      obtain ⟨a, b, o⟩ := p
      dsimp only at hvl ⊢
      have HI2 := Lib.hid hi2
      have hnda := fun u => refNode_any x a u (by omega)
      have hndb := fun u => refNode_any x b u (by omega)
      obtain ⟨X, hX⟩ : ∃ X, bs x = X := ⟨_, rfl⟩
      obtain ⟨Av, hAv⟩ : ∃ X, bs a = X := ⟨_, rfl⟩
      obtain ⟨Bv, hBv⟩ : ∃ X, bs b = X := ⟨_, rfl⟩
      obtain ⟨Na, hNa⟩ : ∃ X, bs (Dm.node x a) = X := ⟨_, rfl⟩
      obtain ⟨Nb, hNb⟩ : ∃ X, bs (Dm.node x b) = X := ⟨_, rfl⟩
      unfold strOf at hnda hndb hx
      have hi3 : Calls Tryd.prog 56 #[strOf old, .int .i64 ((m : Int) - (q : Int)), .int .i64 ((n : Int) - (q : Int)), .slice (some ⟨g, off, none⟩) M c, .bool false] w fun e w' => e = .returned (.tuple #[.string Av, .string Bv, .bool o]) ∧ Below w.heap.size w w' := by
        rw [← hAv, ← hBv]; exact hi2
      have hfin : BothPost (Dm.node x a, Dm.node x b, o) w = fun e w' => e = .returned (.tuple #[.string Na, .string Nb, .bool o]) ∧ Below w.heap.size w w' := by
        rw [← hNa, ← hNb]; rfl
      rw [hX, hAv, hNa] at hnda; rw [hX, hBv, hNb] at hndb; rw [hX] at hx
      rw [hfin]
      have HI2 := Lib.hid hi3; have HNA := Lib.hid hnda; have HNB := Lib.hid hndb
      clear hp HI hi2 hi3 hnda hndb hbl hvl hX hAv hBv hNa hNb hfin
      have j1 : decide ((m : Int) ≤ (q : Int)) = false := by simp; omega
      have j2 : decide (m ≤ q) = false := by simp; omega
      have j7 : (q : Int) ≤ (m : Int) := by omega
      have j8 : (q : Int) < (n : Int) := by omega
      clear hiq
      go_enter Tryd.func56, Tryd.ntmps56
      go_wp2_with (first | (go_at_call 46; refine HL.out.mono ?_; rintro e w' ⟨rfl, rfl⟩) | (go_at_call 56; refine HI2.out.mono ?_; rintro e w1 ⟨rfl, hb1⟩; have hx1 := (hb1.cell (p := ⟨g, off + M, none⟩) hg).trans hx; have hgw : g < w1.heap.size := (by have := hb1.size; omega); have HB1 := Lib.hid hb1; clear hb1))
      go_region_held3 (fun w' => Below w1.heap.size w1 w' ∧ w'.cell? ⟨g, off + M, none⟩ = some (.string X)) (first | assumption | (exact ⟨Below.drew (Below.refl _ _), hx1⟩) | (exact keep_call0 hgw (by assumption) b5)) (first | (go_at_call 18; ((with_reducible refine Calls.mono (HNA.out _) ?_); rintro e w5 ⟨rfl, b5⟩)) | (go_at_call 18; ((with_reducible refine Calls.mono (HNB.out _) ?_); rintro e w5 ⟨rfl, b5⟩)))
      all_goals
        go_wp2
        go_ret3
        exact ⟨rfl, below_to HB1.out (‹Below w1.heap.size w1 _ ∧ _›).1⟩

set_option maxHeartbeats 2000000 in
theorem rvx_out (old root : List UInt8) (n m : Int) (v : Value) (ps : List (List UInt8)) (w : World) (hv : Strs w w.heap.size v ps) (hl : ∀ s ∈ ps, s.length ≤ 1000)
    (_ : old.length ≤ 9223372036854775807) (_ : root.length ≤ 9223372036854775807) (h : m < 0 ∨ n < m ∨ Dm.digs ps = false ∨ old.length ≠ 32 ∨ root.length ≠ 32) :
    Calls Tryd.prog 32 #[strOf old, .int .i64 m, strOf root, .int .i64 n, v] w fun e w' => e = .returned (.bool false) ∧ w = w' := by
  have hd := refDigests_any v ps w hv hl
  obtain ⟨O, hO⟩ : ∃ O, bs old = O := ⟨_, rfl⟩
  obtain ⟨R, hR⟩ : ∃ O, bs root = O := ⟨_, rfl⟩
  have zo : O.size = old.length := by rw [← hO, bs_size]
  have zr : R.size = root.length := by rw [← hR, bs_size]
  unfold strOf
  rw [hO, hR]
  have ho : O.size ≤ 9223372036854775807 := by omega
  have hr : R.size ≤ 9223372036854775807 := by omega
  rw [← zo, ← zr] at h
  have HD := Lib.hid hd
  clear hd hv hl hO hR zo zr
  by_cases h1 : m < 0
  · clear h
    go_enter Tryd.func32, Tryd.ntmps32
    go_wp2_with (go_at_call 54; refine HD.out.mono ?_; rintro e w' ⟨rfl, rfl⟩)
    go_ret
    exact ⟨rfl, rfl⟩
  have d1 : decide (m < 0) = false := by simp; omega
  by_cases h2 : n < m
  · clear h h1
    go_enter Tryd.func32, Tryd.ntmps32
    go_wp2_with (go_at_call 54; refine HD.out.mono ?_; rintro e w' ⟨rfl, rfl⟩)
    go_ret
    exact ⟨rfl, rfl⟩
  have d2 : decide (n < m) = false := by simp; omega
  cases hdg : Dm.digs ps with
  | false =>
    rw [hdg] at HD
    clear h h1 h2 hdg
    go_enter Tryd.func32, Tryd.ntmps32
    go_wp2_with (go_at_call 54; refine HD.out.mono ?_; rintro e w' ⟨rfl, rfl⟩)
    go_ret
    exact ⟨rfl, rfl⟩
  | true =>
    rw [hdg] at HD h
    by_cases h3 : O.size = 32
    · have h4 : R.size ≠ 32 := by
        rcases h with h | h | h | h | h
        · exact absurd h h1
        · exact absurd h h2
        · cases h
        · exact absurd h3 h
        · exact h
      have d3 : ((O.size : Int) != 32) = false := by rw [h3]; rfl
      have d4 : ((R.size : Int) != 32) = true := by simp; omega
      clear h h1 h2 h3 h4 hdg
      go_enter Tryd.func32, Tryd.ntmps32
      go_wp2_with (go_at_call 54; refine HD.out.mono ?_; rintro e w' ⟨rfl, rfl⟩)
      go_ret
      exact ⟨rfl, rfl⟩
    · have d3 : ((O.size : Int) != 32) = true := by simp; omega
      clear h h1 h2 h3 hdg
      go_enter Tryd.func32, Tryd.ntmps32
      go_wp2_with (go_at_call 54; refine HD.out.mono ?_; rintro e w' ⟨rfl, rfl⟩)
      go_ret
      exact ⟨rfl, rfl⟩

set_option maxHeartbeats 2000000 in
theorem rvx_in (old root : List UInt8) (n m : Nat) (v : Value) (ps : List (List UInt8)) (w : World) (hv : Strs w w.heap.size v ps) (hl : ∀ s ∈ ps, s.length ≤ 1000) (hps : ps.length ≤ 100)
    (ho : old.length = 32) (hr : root.length = 32) (hd0 : Dm.digs ps = true) (hmn : m ≤ n) (hn : n ≤ 9223372036854775807) :
    Calls Tryd.prog 32 #[strOf old, .int .i64 (m : Int), strOf root, .int .i64 (n : Int), v] w (RvfPost (if m = 0 then ps.length == 0 && old == Dm.root [] else vexIn old root n m ps) w) := by
  have hd := refDigests_any v ps w hv hl
  rw [hd0] at hd
  have hsum := refSum_any [] w (by simp)
  have hbo := fun (h1 : 1 ≤ m) => both_at old (by omega) ps.reverse m n true v w (by rw [List.reverse_reverse]; exact hv) (by rw [List.length_reverse]; exact hps) (fun x hx => hl x (List.mem_reverse.1 hx)) h1 hmn hn
  have hvv := fun (h1 : 1 ≤ m) => Dm.vex_val old root n m ps h1 hmn (by omega)
  obtain ⟨A, c, rfl, hc1, hc2, hA⟩ := hv
  unfold maxLen at hc2
  obtain ⟨O, hO⟩ : ∃ O, bs old = O := ⟨_, rfl⟩
  obtain ⟨R, hR⟩ : ∃ O, bs root = O := ⟨_, rfl⟩
  have zo : O.size = 32 := by rw [← hO, bs_size, ho]
  have zr : R.size = 32 := by rw [← hR, bs_size, hr]
  have d3 : ((O.size : Int) != 32) = false := by rw [zo]; rfl
  have d4 : ((R.size : Int) != 32) = false := by rw [zr]; rfl
  have d1 : decide ((m : Int) < 0) = false := by simp
  have d2 : decide ((n : Int) < (m : Int)) = false := by simp; omega
  have d2' : decide (n < m) = false := by simp; omega
  have HD := Lib.hid hd
  have HO := Lib.hid hO; have HR := Lib.hid hR
  by_cases h0 : m = 0
  · subst h0
    rw [if_pos rfl]
    obtain ⟨k, hk⟩ : ∃ k, ps.length = k := ⟨_, rfl⟩
    rw [hk] at HD hc1 ⊢
    unfold strOf at hsum ⊢
    rw [hO, hR]
    obtain ⟨E, hE⟩ : ∃ E, bs (Dm.sha []) = E := ⟨_, rfl⟩
    rw [hE] at hsum
    have HS := Lib.hid hsum; have HE := Lib.hid hE
    clear hd hsum hbo hvv hA hl hd0 hps hk hO hR hE zo zr ho hr
    by_cases hk0 : k = 0
    · subst hk0
      go_enter Tryd.func32, Tryd.ntmps32
      go_wp2_with (first | (go_at_call 54; refine HD.out.mono ?_; rintro e w' ⟨rfl, rfl⟩) | (go_at_call 14; refine HS.out.mono ?_; rintro e w1 ⟨rfl, hb1⟩))
      go_ret
      exact rvf_bool (by rw [← HO.out, ← HE.out, bs_eqb]; rfl) hb1
    · have k1 : ((k : Int) == 0) = false := by rw [beq_eq_false_iff_ne]; omega
      have k2 : (k == 0) = false := by rw [beq_eq_false_iff_ne]; omega
      have K2 := Lib.hid k2
      clear hk0 k2
      go_enter Tryd.func32, Tryd.ntmps32
      go_wp2_with (go_at_call 54; refine HD.out.mono ?_; rintro e w' ⟨rfl, rfl⟩)
      go_ret
      exact rvf_bool (by rw [K2.out]; rfl) (Below.refl _ _)
  rw [if_neg h0]
  have hvv := hvv (by omega)
  have hbo := hbo (by omega)
  have m0 : ((m : Int) == 0) = false := by rw [beq_eq_false_iff_ne]; omega
  rw [hvv]
  by_cases hne : m = n
  · subst hne
    have hbr : Dm.bothR old m m true ps.reverse = (old, old, ps.length == 0) := by
      cases hx : ps.reverse with
      | nil => have : ps = [] := List.reverse_eq_nil_iff.1 hx
               subst this; unfold Dm.bothR; rw [if_pos rfl, if_pos rfl]; rfl
      | cons x r =>
        have hln : ps.length = r.length + 1 := by rw [← List.length_reverse, hx, List.length_cons]
        unfold Dm.bothR; rw [if_pos rfl, if_pos rfl, hln]; simp
    rw [hbr]
    dsimp only
    obtain ⟨k, hk⟩ : ∃ k, ps.length = k := ⟨_, rfl⟩
    rw [hk] at HD hc1 ⊢
    unfold strOf
    rw [hO, hR]
    clear hd hsum hbo hvv hA hl hd0 hps hk hO hR zo zr ho hr hbr h0
    by_cases hk0 : k = 0
    · subst hk0
      go_enter Tryd.func32, Tryd.ntmps32
      go_wp2_with (go_at_call 54; refine HD.out.mono ?_; rintro e w' ⟨rfl, rfl⟩)
      go_ret
      exact rvf_bool (by rw [← HO.out, ← HR.out, bs_eqb]; simp) (Below.refl _ _)
    · have k1 : ((k : Int) == 0) = false := by rw [beq_eq_false_iff_ne]; omega
      have k2 : (k == 0) = false := by rw [beq_eq_false_iff_ne]; omega
      have K2 := Lib.hid k2
      clear hk0 k2
      go_enter Tryd.func32, Tryd.ntmps32
      go_wp2_with (go_at_call 54; refine HD.out.mono ?_; rintro e w' ⟨rfl, rfl⟩)
      go_ret
      exact rvf_bool (by rw [K2.out]; rfl) (Below.refl _ _)
  have mn : ((m : Int) == (n : Int)) = false := by rw [beq_eq_false_iff_ne]; omega
  obtain ⟨p, hp⟩ : ∃ p, Dm.bothR old m n true ps.reverse = p := ⟨_, rfl⟩
  rw [hp] at hbo ⊢
  obtain ⟨a, b, o⟩ := p
  dsimp only at hbo ⊢
  unfold BothPost strOf at hbo
  dsimp only at hbo
  obtain ⟨Av, hAv⟩ : ∃ X, bs a = X := ⟨_, rfl⟩
  obtain ⟨Bv, hBv⟩ : ∃ X, bs b = X := ⟨_, rfl⟩
  rw [hO, hAv, hBv] at hbo
  have ea : (Av.toList == O.toList) = (a == old) := by rw [← hAv, ← hO, bs_eqb]
  have eb : (Bv.toList == R.toList) = (b == root) := by rw [← hBv, ← hR, bs_eqb]
  obtain ⟨x, hx⟩ : ∃ x, (a == old) = x := ⟨_, rfl⟩
  obtain ⟨y, hy⟩ : ∃ x, (b == root) = x := ⟨_, rfl⟩
  rw [hx] at ea ⊢; rw [hy] at eb ⊢
  obtain ⟨k, hk⟩ : ∃ k, ps.length = k := ⟨_, rfl⟩
  rw [hk] at HD hc1 hbo ⊢
  unfold strOf
  rw [hO, hR]
  have HB := Lib.hid hbo
  clear hd hsum hbo hvv hA hl hd0 hps hk hO hR zo zr ho hr h0 hp hAv hBv hx hy HO HR hne
  cases o <;> cases x
  all_goals
    go_enter Tryd.func32, Tryd.ntmps32
    go_wp2_with (first | (go_at_call 54; refine HD.out.mono ?_; rintro e w' ⟨rfl, rfl⟩) | (go_at_call 56; refine HB.out.mono ?_; rintro e w1 ⟨rfl, hb1⟩))
    go_ret
    exact rvf_bool (by simp) hb1

theorem refVex_any (old root : List UInt8) (n m : Int) (v : Value) (ps : List (List UInt8)) (w : World) (hv : Strs w w.heap.size v ps) (hl : ∀ s ∈ ps, s.length ≤ 1000) (hps : ps.length ≤ 100)
    (ho : old.length ≤ 9223372036854775807) (hr : root.length ≤ 9223372036854775807) (hn : n ≤ 9223372036854775807) :
    Calls Tryd.prog 32 #[strOf old, .int .i64 m, strOf root, .int .i64 n, v] w (RvfPost (vex old m root n ps) w) := by
  by_cases h1 : m < 0 ∨ n < m
  · rw [show vex old m root n ps = false from by unfold vex; rw [if_pos h1]]
    exact (rvx_out old root n m v ps w hv hl ho hr (h1.elim .inl (fun h => .inr (.inl h)))).mono fun _ _ ⟨h1, h2⟩ => ⟨h1, h2 ▸ Below.refl _ _⟩
  have hvx : vex old m root n ps = ((Dm.digs [old, root] && Dm.digs ps) && if m = 0 then ps.length == 0 && old == Dm.root [] else vexIn old root n.toNat m.toNat ps) := by unfold vex; rw [if_neg h1]
  rw [hvx]
  by_cases h2 : Dm.digs ps = false ∨ old.length ≠ 32 ∨ root.length ≠ 32
  · have hf : (Dm.digs [old, root] && Dm.digs ps) = false := by
      rcases h2 with h | h | h
      · rw [h, Bool.and_false]
      · simp [Dm.digs, h]
      · simp [Dm.digs, h]
    rw [hf, Bool.false_and]
    exact (rvx_out old root n m v ps w hv hl ho hr (.inr (.inr h2))).mono fun _ _ ⟨h1, h2⟩ => ⟨h1, h2 ▸ Below.refl _ _⟩
  · have hd : Dm.digs ps = true := by
      cases e : Dm.digs ps with
      | true => rfl
      | false => exact absurd (.inl e) h2
    have h3 : old.length = 32 := Classical.byContradiction fun h => h2 (.inr (.inl h))
    have h4 : root.length = 32 := Classical.byContradiction fun h => h2 (.inr (.inr h))
    have ht : (Dm.digs [old, root] && Dm.digs ps) = true := by rw [hd]; simp [Dm.digs, h3, h4]
    rw [ht, Bool.true_and]
    have := rvx_in old root n.toNat m.toNat v ps w hv hl hps h3 h4 hd (by omega) (by omega)
    rw [show ((n.toNat : Nat) : Int) = n by omega, show ((m.toNat : Nat) : Int) = m by omega] at this
    have e : (m.toNat = 0) = (m = 0) := by rw [eq_iff_iff]; omega
    simp only [e] at this
    exact this
end
end Go.Proofs.YtnbhhhbmeafkaaaDoor
