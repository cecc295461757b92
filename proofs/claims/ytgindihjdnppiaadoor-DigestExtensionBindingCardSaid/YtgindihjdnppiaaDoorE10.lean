/- Contract of sides, for every proof. -/
import Derived.Test.YtgindihjdnppiaaDoorE4
namespace Go.Proofs.YtgindihjdnppiaaDoor
open Go.RowKit
attribute [local go_sem ↓] append_appN

theorem sidesR_short (old : List UInt8) : ∀ (r : List (List UInt8)) (m n : Nat) (wh : Bool), (Dm.sidesR old m n wh r).1.length ≤ r.length
  | [], m, n, wh => by simp [Dm.sidesR]
  | x :: r, m, n, wh => by
    unfold Dm.sidesR
    split
    · simp
    · split
      · have := sidesR_short old r m (Dm.lft n) wh; simp; omega
      · have := sidesR_short old r (m - Dm.lft n) (n - Dm.lft n) false; simp; omega
theorem last_first (x : List UInt8) (r : List (List UInt8)) : (x :: r).reverse[0]? = some ((x :: r).getLastD []) := by
  have : (x :: r).reverse[0]? = (x :: r).getLast? := by rw [← List.head?_eq_getElem?, List.head?_reverse]
  rw [this, List.getLastD_eq_getLast?]
  cases e : (x :: r).getLast? with
  | none => simp at e
  | some z => rfl

set_option maxRecDepth 100000 in
set_option maxHeartbeats 1000000 in
theorem sides_leaf (old : List UInt8) (m n : Int) (A : Option Addr) (k c : Nat) (wh : Bool) (w : World) (h : n ≤ m ∨ k = 0) (h2 : wh = true ∨ k = 0) :
    Calls Tryd.prog 37 #[strOf old, .int .i64 m, .int .i64 n, .slice A k c, .bool wh] w (WayOut ([], old) w) := by
  have fin : WayOut ([], old) w (.returned (.tuple #[.slice none 0 0, strOf old])) w := ⟨_, rfl, World.ownsRow_nil _ _ _ _, Below.refl _ _⟩
  have FIN := Lib.hid fin
  clear fin
  by_cases h1 : n ≤ m
  · by_cases h3 : k = 0
    · subst h3
      cases wh
      · go_enter Tryd.func37, Tryd.ntmps37
        go_wp2
        go_ret2
        exact FIN.out
      · go_enter Tryd.func37, Tryd.ntmps37
        go_wp2
        go_ret2
        exact FIN.out
    · obtain rfl : wh = true := h2.resolve_right h3
      go_enter Tryd.func37, Tryd.ntmps37
      go_wp2
      go_ret2
      exact FIN.out
  · obtain rfl : k = 0 := by omega
    have hd : decide (n ≤ m) = false := by simpa using h1
    cases wh
    · go_enter Tryd.func37, Tryd.ntmps37
      go_wp2
      go_ret2
      exact FIN.out
    · go_enter Tryd.func37, Tryd.ntmps37
      go_wp2
      go_ret2
      exact FIN.out
set_option maxRecDepth 100000 in
set_option maxHeartbeats 1000000 in
theorem sides_first (old x : List UInt8) (m n : Int) (g off k c : Nat) (w : World) (h : n ≤ m) (hk : 0 < k) (hx : w.cell? ⟨g, off, none⟩ = some (strOf x)) :
    Calls Tryd.prog 37 #[strOf old, .int .i64 m, .int .i64 n, .slice (some ⟨g, off, none⟩) k c, .bool false] w (WayOut ([], x) w) := by
  have hne : ((k : Int) == 0) = false := by rw [beq_eq_false_iff_ne]; omega
  have i1 : (0 : Int) < (k : Int) := by omega
  go_enter Tryd.func37, Tryd.ntmps37
  go_wp2
  go_quiet (fail)
  go_wp2
  go_ret2
  exact ⟨_, rfl, World.ownsRow_nil _ _ _ _, ⟨rfl, rfl, rfl, Nat.le_refl _, fun _ _ => rfl⟩⟩

set_option maxRecDepth 100000 in
set_option maxHeartbeats 4000000 in
theorem sides_at (old : List UInt8) (hs : old.length = 32) : ∀ (r : List (List UInt8)) (m n : Nat) (wh : Bool) (v : Value) (w : World), Strs w w.heap.size v r.reverse → r.length ≤ 100 → (∀ x ∈ r, x.length = 32) → n ≤ 9223372036854775807 → m ≤ 9223372036854775807 → 1 ≤ m → TabOk w →
    Calls Tryd.prog 37 #[strOf old, .int .i64 (m : Int), .int .i64 (n : Int), v, .bool wh] w (WayOut (Dm.sidesR old m n wh r) w) := by
  intro r
  induction r with
  | nil =>
    intro m n wh v w hv _ _ _ _ _ _
    obtain ⟨A, c, rfl, _⟩ := hv
    exact sides_leaf old m n A _ c wh w (.inr rfl) (.inr rfl)
  | cons x r ih =>
    intro m n wh v w hv hlen hr hn hm hm0 ht
    by_cases h1 : n ≤ m
    · unfold Dm.sidesR; rw [if_pos h1]
      cases wh with
      | true =>
        obtain ⟨A, c, rfl, _⟩ := hv
        exact sides_leaf old m n A _ c true w (.inl (by omega)) (.inl rfl)
      | false =>
        obtain ⟨A, c, rfl, hc1, hc2, hA⟩ := hv
        rcases hA with ⟨_, hp⟩ | ⟨g, off, rfl, hg, hc⟩
        · simp at hp
        have c0 := hc 0 _ (last_first x r)
        rw [Nat.add_zero] at c0
        exact sides_first old _ m n g off _ c w (by omega) (by simp) c0
    obtain ⟨i0, hi0, hz0, hz1, hz2⟩ := info_parts Tryd.infoStr
    obtain ⟨g, off, c, rfl, hc1, hc2, hg, hx, hrs⟩ := strs_last hv
    have hxl := hr x (by simp)
    have hlft := left_any n w (by omega) hn
    have hlt := Dm.lft_lt n (by omega)
    have hsh := sidesR_short old r
    have hvl0 := fun m n wh => Dm.sidesR_len old hs m n wh r (fun z hz => hr z (by simp [hz]))
    have ih' := fun m n wh u (hu : Below w.heap.size w u) hn hm h1 => ih m n wh _ u (hrs.next hu) (by simp at hlen; omega) (fun z hz => hr z (by simp [hz])) hn hm h1 (ht.next hu)
    clear ih hv hrs hr
    obtain ⟨q, hq⟩ : ∃ q, Dm.lft n = q := ⟨_, rfl⟩
    have hw0 : Dm.sidesR old m n wh (x :: r) = if m ≤ q then ((1 :: ((Dm.sidesR old m q wh r).2 ++ x)) :: (Dm.sidesR old m q wh r).1, Dm.node (Dm.sidesR old m q wh r).2 x)
      else ((1 :: (x ++ (Dm.sidesR old (m - q) (n - q) false r).2)) :: (Dm.sidesR old (m - q) (n - q) false r).1, Dm.node x (Dm.sidesR old (m - q) (n - q) false r).2) := by
      conv => lhs; unfold Dm.sidesR
      rw [if_neg h1, hq]
    rw [hq] at hlft hlt
    rw [hw0]
    clear hq hw0
    unfold maxLen at hc2
    obtain ⟨M, hM⟩ : ∃ M, r.length = M := ⟨_, rfl⟩
    rw [hM] at hc1 hx ih' ⊢
    have hM2 : M ≤ 100 := by simp at hlen; omega
    have e1 : ((M : Int) + 1) - 1 = (M : Int) := by omega
    have i1 : (0 : Int) ≤ (M : Int) := by omega
    have i2 : (M : Int) < (M : Int) + 1 := by omega
    have i5 : (M : Int) + 1 ≤ (c : Int) := by omega
    have i3 : (M : Int) ≤ (c : Int) := by omega
    have i4 : ¬ c = M := by omega
    have hn1 : decide ((n : Int) ≤ (m : Int)) = false := by simp; omega
    have hne : (((M : Int) + 1) == 0) = false := by rw [beq_eq_false_iff_ne]; omega
    have HL := Lib.hid hlft; have HI := Lib.hid ih'
    have HM := Lib.hid hM
    clear hlft ih' hM hlen
    by_cases hiq : m ≤ q
    · rw [if_pos hiq]
      have hwl := hsh m q wh
      have hvl := hvl0 m q wh
      obtain ⟨p, hp⟩ : ∃ p, Dm.sidesR old m q wh r = p := ⟨_, rfl⟩
      have hi2 : Calls _ _ _ w (WayOut2 p.1 (bs p.2) w) := hp ▸ HI.out m q wh w (Below.refl _ _) (by omega) hm hm0
      obtain ⟨V, hV⟩ : ∃ V, bs p.2 = V := ⟨_, rfl⟩
      rw [hV] at hi2
      have HI2 := Lib.hid hi2
      rw [hp] at hwl hvl ⊢
      clear hp HI hsh hi2 hvl0
      obtain ⟨X, hX⟩ : ∃ X, bs x = X := ⟨_, rfl⟩
      have z1 : V.size ≤ 1000 := by rw [← hV, bs_size]; omega
      have z2 : X.size ≤ 1000 := by rw [← hX, bs_size]; omega
      have z3 : ((⟨#[1]⟩ : ByteArray) ++ V).size ≤ 1001 := by rw [ByteArray.size_append]; show 1 + _ ≤ _; omega
      have e2 : (⟨#[1]⟩ : ByteArray) ++ V ++ X = bs (1 :: (p.2 ++ x)) := by rw [← hV, ← hX, bs_one, bs_append]; rfl
      have hnd := fun u (hu : TabOk u) => node_any p.2 x u (by omega) hu
      unfold strOf at hnd hx
      rw [hV, hX] at hnd
      rw [hX] at hx
      have HND := Lib.hid hnd; have HE := Lib.hid e2; have HV := Lib.hid hV
      clear hnd e2 hV hX hxl
      have i6 : (m : Int) ≤ (q : Int) := by omega
      go_enter Tryd.func37, Tryd.ntmps37
      go_wp2_with (first | (go_at_call 38; refine HL.out.mono ?_; rintro e w' ⟨rfl, rfl⟩) | (go_at_call 37; refine HI2.out.mono ?_; unfold WayOut2; rintro e w1 ⟨v1, rfl, hrow, hb⟩; obtain ⟨v2, w2, hrun, hown, hb2⟩ := join_row (u := ((⟨#[1]⟩ : ByteArray) ++ V ++ X)) hi0 hz0 hz1 hz2 hrow hb (by have := HM.out; omega); have HOWN := Lib.hid hown; have HB2 := Lib.hid hb2; clear hrow hb hown hb2) | (go_at_call 17; refine (HND.out _ (ht.next HB2.out)).mono ?_; rintro e w3 ⟨rfl, hb3⟩))
      go_ret2
      exact way_close HOWN.out HB2.out hb3 (by rw [HE.out])
    · rw [if_neg hiq]
      have hwl := hsh (m - q) (n - q) false
      have hvl := hvl0 (m - q) (n - q) false
      obtain ⟨p, hp⟩ : ∃ p, Dm.sidesR old (m - q) (n - q) false r = p := ⟨_, rfl⟩
      have hi2 : Calls _ _ _ w (WayOut2 p.1 (bs p.2) w) := hp ▸ HI.out (m - q) (n - q) false w (Below.refl _ _) (by omega) (by omega) (by omega)
      obtain ⟨V, hV⟩ : ∃ V, bs p.2 = V := ⟨_, rfl⟩
      rw [hV] at hi2
      rw [show ((n - q : Nat) : Int) = (n : Int) - (q : Int) by omega, show ((m - q : Nat) : Int) = (m : Int) - (q : Int) by omega] at hi2
      have HI2 := Lib.hid hi2
      rw [hp] at hwl hvl ⊢
      clear hp HI hsh hi2 hvl0
      obtain ⟨X, hX⟩ : ∃ X, bs x = X := ⟨_, rfl⟩
      have z1 : V.size ≤ 1000 := by rw [← hV, bs_size]; omega
      have z2 : X.size ≤ 1000 := by rw [← hX, bs_size]; omega
      have z3 : ((⟨#[1]⟩ : ByteArray) ++ X).size ≤ 1001 := by rw [ByteArray.size_append]; show 1 + _ ≤ _; omega
      have e2 : (⟨#[1]⟩ : ByteArray) ++ X ++ V = bs (1 :: (x ++ p.2)) := by rw [← hV, ← hX, bs_one, bs_append]; rfl
      have hnd := fun u (hu : TabOk u) => node_any x p.2 u (by omega) hu
      unfold strOf at hnd hx
      rw [hV, hX] at hnd
      rw [hX] at hx
      have HND := Lib.hid hnd; have HE := Lib.hid e2; have HV := Lib.hid hV
      clear hnd e2 hV hX hxl
      have i6 : decide ((m : Int) ≤ (q : Int)) = false := by simp; omega
      have i7 : (q : Int) ≤ (m : Int) := by omega
      have i8 : (q : Int) < (n : Int) := by omega
      go_enter Tryd.func37, Tryd.ntmps37
      go_wp2_with (first | (go_at_call 38; refine HL.out.mono ?_; rintro e w' ⟨rfl, rfl⟩) | (go_at_call 37; refine HI2.out.mono ?_; unfold WayOut2; rintro e w1 ⟨v1, rfl, hrow, hb⟩; obtain ⟨v2, w2, hrun, hown, hb2⟩ := join_row (u := ((⟨#[1]⟩ : ByteArray) ++ X ++ V)) hi0 hz0 hz1 hz2 hrow hb (by have := HM.out; omega); have HOWN := Lib.hid hown; have HB2 := Lib.hid hb2; clear hrow hb hown hb2) | (go_at_call 17; refine (HND.out _ (ht.next HB2.out)).mono ?_; rintro e w3 ⟨rfl, hb3⟩))
      go_ret2
      exact way_close HOWN.out HB2.out hb3 (by rw [HE.out])
end Go.Proofs.YtgindihjdnppiaaDoor
