/- Contract of way, for every proof. -/
import Derived.Test.YtnbhhhbmeafkaaaDoorE3
namespace Go.Proofs.YtnbhhhbmeafkaaaDoor
open Go.RowKit
attribute [local go_sem ↓] append_appN

theorem wayR_short (s : List UInt8) : ∀ (r : List (List UInt8)) (n i : Nat), (Dm.wayR s n i r).1.length ≤ r.length + 1
  | [], n, i => by simp [Dm.wayR]
  | x :: r, n, i => by
    unfold Dm.wayR
    split
    · simp
    · split
      · have := wayR_short s r (Dm.lft n) i; simp; omega
      · have := wayR_short s r (n - Dm.lft n) (i - Dm.lft n); simp; omega
theorem wayR_small (s : List UInt8) : ∀ (r : List (List UInt8)) (n i : Nat), s.length ≤ 1000 → (∀ x ∈ r, x.length ≤ 1000) → ∀ t ∈ (Dm.wayR s n i r).1, t.length ≤ 10000
  | [], n, i, hs, _ => by
    intro t ht
    rw [show (Dm.wayR s n i []).1 = [0 :: s] from rfl] at ht
    rw [List.mem_singleton.1 ht, List.length_cons]; omega
  | x :: r, n, i, hs, hr => by
    have hx := hr x (by simp)
    unfold Dm.wayR
    split
    · intro t ht
      rw [List.mem_singleton.1 ht, List.length_cons]; omega
    · split
      · intro t ht
        rcases List.mem_cons.1 ht with rfl | ht
        · rw [List.length_cons, List.length_append, Dm.wayR_len]; omega
        · exact wayR_small s r _ _ hs (fun z hz => hr z (by simp [hz])) t ht
      · intro t ht
        rcases List.mem_cons.1 ht with rfl | ht
        · rw [List.length_cons, List.length_append, Dm.wayR_len]; omega
        · exact wayR_small s r _ _ hs (fun z hz => hr z (by simp [hz])) t ht
theorem ret_way {a b : List UInt8} {v : Value} (h : a = b) : Ending.returned (.tuple #[v, strOf a]) = .returned (.tuple #[v, strOf b]) := by rw [h]

def WayOut2 (l : List (List UInt8)) (V : ByteArray) (w : World) (e : Ending) (w' : World) : Prop :=
  ∃ v, e = .returned (.tuple #[v, .string V]) ∧ w'.ownsRow w.heap.size 9 1 v l.length (strCells l) ∧ Below w.heap.size w w'
theorem way_close {w w2 w3 : World} {v2 : Value} {u : ByteArray} {t : List UInt8} {l : List (List UInt8)} {y : List UInt8} (hown : w2.ownsRow w.heap.size 9 1 v2 (1 + l.length) (.string u :: strCells l))
    (hb2 : Below w.heap.size w w2) (hb3 : Below w2.heap.size w2 w3) (hu : u = bs t) : WayOut (t :: l, y) w (.returned (.tuple #[v2, .string (bs y)])) w3 := by
  subst hu
  refine ⟨v2, rfl, ?_, hb2.trans (hb3.mono hb2.size)⟩
  have := own_below hown hb3 (own_lt hown)
  rw [Nat.add_comm] at this
  exact this

set_option maxRecDepth 100000 in
set_option maxHeartbeats 2000000 in
theorem way_at (s : List UInt8) (hs : s.length ≤ 1000) : ∀ (r : List (List UInt8)) (n i : Nat) (v : Value) (w : World), Strs w w.heap.size v r.reverse → r.length ≤ 100 → (∀ x ∈ r, x.length ≤ 1000) → n ≤ 9223372036854775807 → i ≤ 9223372036854775807 → TabOk w →
    Calls Tryd.prog 34 #[.int .i64 (n : Int), .int .i64 (i : Int), strOf s, v] w (WayOut (Dm.wayR s n i r) w) := by
  intro r
  induction r with
  | nil =>
    intro n i v w hv _ _ _ _ ht
    obtain ⟨A, c, rfl, _⟩ := hv
    exact way_leaf s n i A _ c w hs (.inr rfl) ht
  | cons x r ih =>
    intro n i v w hv hlen hr hn hi ht
    by_cases h1 : n ≤ 1
    · obtain ⟨A, c, rfl, _⟩ := hv
      have := way_leaf s n i A (x :: r).reverse.length c w hs (.inl (by omega)) ht
      unfold Dm.wayR; rw [if_pos h1]; exact this
    obtain ⟨i0, hi0, hz0, hz1, hz2⟩ := info_parts Tryd.infoStr
    obtain ⟨g, off, c, rfl, hc1, hc2, hg, hx, hrs⟩ := strs_last hv
    have hxl := hr x (by simp)
    have hlft := left_any n w (by omega) hn
    have hlt := Dm.lft_lt n (by omega)
    have hsh := wayR_short s r
    have ih' := fun n i u (hu : Below w.heap.size w u) hn hi => ih n i _ u (hrs.next hu) (by simp at hlen; omega) (fun z hz => hr z (by simp [hz])) hn hi (ht.next hu)
    clear ih hv hrs hr
    obtain ⟨q, hq⟩ : ∃ q, Dm.lft n = q := ⟨_, rfl⟩
    have hw0 : Dm.wayR s n i (x :: r) = if i < q then ((1 :: ((Dm.wayR s q i r).2 ++ x)) :: (Dm.wayR s q i r).1, Dm.node (Dm.wayR s q i r).2 x)
      else ((1 :: (x ++ (Dm.wayR s (n - q) (i - q) r).2)) :: (Dm.wayR s (n - q) (i - q) r).1, Dm.node x (Dm.wayR s (n - q) (i - q) r).2) := by
      conv => lhs; unfold Dm.wayR
      rw [if_neg h1, hq]
    rw [hq] at hlft hlt
    rw [hw0]
    clear hq hw0
    unfold maxLen at hc2
    obtain ⟨M, hM⟩ : ∃ M, r.length = M := ⟨_, rfl⟩
    rw [hM] at hc1 hx ih' ⊢
    have hM2 : M ≤ 100 := by simp at hlen; omega
    have e1 : ((M : Int) + 1) - 1 = (M : Int) := by omega
    have i1 : (0 : Int) ≤ (M : Int) := by omega
    have i2 : (M : Int) < (M : Int) + 1 := by omega
    have i5 : (M : Int) + 1 ≤ (c : Int) := by omega
    have i3 : (M : Int) ≤ (c : Int) := by omega
    have i4 : ¬ c = M := by omega
    have hn1 : (1 : Int) < (n : Int) := by omega
    have hne : (((M : Int) + 1) == 0) = false := by rw [beq_eq_false_iff_ne]; omega
    have HL := Lib.hid hlft; have HI := Lib.hid ih'
    have HM := Lib.hid hM
    clear hlft ih' hM hlen
    by_cases hiq : i < q
    · rw [if_pos hiq]
      have hwl := hsh q i
      have hvl := Dm.wayR_len s q i r
      obtain ⟨p, hp⟩ : ∃ p, Dm.wayR s q i r = p := ⟨_, rfl⟩
      have hi2 : Calls _ _ _ w (WayOut2 p.1 (bs p.2) w) := hp ▸ HI.out q i w (Below.refl _ _) (by omega) hi
      obtain ⟨V, hV⟩ : ∃ V, bs p.2 = V := ⟨_, rfl⟩
      rw [hV] at hi2
      have HI2 := Lib.hid hi2
      rw [hp] at hwl hvl ⊢
      clear hp HI hsh hi2
      obtain ⟨X, hX⟩ : ∃ X, bs x = X := ⟨_, rfl⟩
      have z1 : V.size ≤ 1000 := by rw [← hV, bs_size]; omega
      have z2 : X.size ≤ 1000 := by rw [← hX, bs_size]; omega
      have z3 : ((⟨#[1]⟩ : ByteArray) ++ V).size ≤ 1001 := by rw [ByteArray.size_append]; show 1 + _ ≤ _; omega
      have e2 : (⟨#[1]⟩ : ByteArray) ++ V ++ X = bs (1 :: (p.2 ++ x)) := by rw [← hV, ← hX, bs_one, bs_append]; rfl
      have hnd := fun u (hu : TabOk u) => node_any p.2 x u (by omega) hu
      unfold strOf at hnd hx
      rw [hV, hX] at hnd
      rw [hX] at hx
      have HND := Lib.hid hnd; have HE := Lib.hid e2; have HV := Lib.hid hV
      clear hnd e2 hV hX
      have i6 : (i : Int) < (q : Int) := by omega
      go_enter Tryd.func34, Tryd.ntmps34
      go_wp2_with (first | (go_at_call 38; refine HL.out.mono ?_; rintro e w' ⟨rfl, rfl⟩) | (go_at_call 34; refine HI2.out.mono ?_; unfold WayOut2; rintro e w1 ⟨v1, rfl, hrow, hb⟩; obtain ⟨v2, w2, hrun, hown, hb2⟩ := join_row (u := ((⟨#[1]⟩ : ByteArray) ++ V ++ X)) hi0 hz0 hz1 hz2 hrow hb (by have := HM.out; omega); have HOWN := Lib.hid hown; have HB2 := Lib.hid hb2; clear hrow hb hown hb2) | (go_at_call 17; refine (HND.out _ (ht.next HB2.out)).mono ?_; rintro e w3 ⟨rfl, hb3⟩))
      go_ret2
      exact way_close HOWN.out HB2.out hb3 (by rw [HE.out])
    · rw [if_neg hiq]
      have hwl := hsh (n - q) (i - q)
      have hvl := Dm.wayR_len s (n - q) (i - q) r
      obtain ⟨p, hp⟩ : ∃ p, Dm.wayR s (n - q) (i - q) r = p := ⟨_, rfl⟩
      have hi2 : Calls _ _ _ w (WayOut2 p.1 (bs p.2) w) := hp ▸ HI.out (n - q) (i - q) w (Below.refl _ _) (by omega) (by omega)
      obtain ⟨V, hV⟩ : ∃ V, bs p.2 = V := ⟨_, rfl⟩
      rw [hV] at hi2
      rw [show ((n - q : Nat) : Int) = (n : Int) - (q : Int) by omega, show ((i - q : Nat) : Int) = (i : Int) - (q : Int) by omega] at hi2
      have HI2 := Lib.hid hi2
      rw [hp] at hwl hvl ⊢
      clear hp HI hsh hi2
      obtain ⟨X, hX⟩ : ∃ X, bs x = X := ⟨_, rfl⟩
      have z1 : V.size ≤ 1000 := by rw [← hV, bs_size]; omega
      have z2 : X.size ≤ 1000 := by rw [← hX, bs_size]; omega
      have z3 : ((⟨#[1]⟩ : ByteArray) ++ X).size ≤ 1001 := by rw [ByteArray.size_append]; show 1 + _ ≤ _; omega
      have e2 : (⟨#[1]⟩ : ByteArray) ++ X ++ V = bs (1 :: (x ++ p.2)) := by rw [← hV, ← hX, bs_one, bs_append]; rfl
      have hnd := fun u (hu : TabOk u) => node_any x p.2 u (by omega) hu
      unfold strOf at hnd hx
      rw [hV, hX] at hnd
      rw [hX] at hx
      have HND := Lib.hid hnd; have HE := Lib.hid e2; have HV := Lib.hid hV
      clear hnd e2 hV hX
      have i6 : decide ((i : Int) < (q : Int)) = false := by simp; omega
      have i7 : (q : Int) ≤ (i : Int) := by omega
      have i8 : (q : Int) < (n : Int) := by omega
      go_enter Tryd.func34, Tryd.ntmps34
      go_wp2_with (first | (go_at_call 38; refine HL.out.mono ?_; rintro e w' ⟨rfl, rfl⟩) | (go_at_call 34; refine HI2.out.mono ?_; unfold WayOut2; rintro e w1 ⟨v1, rfl, hrow, hb⟩; obtain ⟨v2, w2, hrun, hown, hb2⟩ := join_row (u := ((⟨#[1]⟩ : ByteArray) ++ X ++ V)) hi0 hz0 hz1 hz2 hrow hb (by have := HM.out; omega); have HOWN := Lib.hid hown; have HB2 := Lib.hid hb2; clear hrow hb hown hb2) | (go_at_call 17; refine (HND.out _ (ht.next HB2.out)).mono ?_; rintro e w3 ⟨rfl, hb3⟩))
      go_ret2
      exact way_close HOWN.out HB2.out hb3 (by rw [HE.out])
end Go.Proofs.YtnbhhhbmeafkaaaDoor
