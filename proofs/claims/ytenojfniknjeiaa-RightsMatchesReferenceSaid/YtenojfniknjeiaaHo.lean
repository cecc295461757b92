/- lacks. -/
import Derived.Test.YtenojfniknjeiaaHn
namespace Go.Proofs.Ytenojfniknjeiaa
open Go.RowKit

abbrev pG (g : Gr) (U : List Us) (u : Nat) : Bool := perB g (U.getD u u0)
set_option maxRecDepth 100000 in
set_option maxHeartbeats 8000000 in
theorem lacks1_any (g : Gr) (U : List Us) (hU8 : ∀ u ∈ U, 0 ≤ u.region ∧ u.region ≤ 7) (use : Nat) (hu : use < U.length) (bG bU : Nat) (A2 : Option Addr) (n2 c2 : Nat) (w : World) (hG : Row w bG 52 #[.int .i64 g.item, .int .i64 g.acts, .int .i64 g.regions, .int .i64 g.plays, .int .i64 g.fr, .int .i64 g.tw]) (hU : Row w bU 23 #[.slice A2 n2 c2]) (hr : Recs encU 4 w w.heap.size (.slice A2 n2 c2) U) :
    Calls Try.prog 52 #[.int .i64 (use : Int), .pointer (some ⟨bG, 0, none⟩), .pointer (some ⟨bU, 0, none⟩)] w fun e w' => e = .returned (.bool (pG g U use)) ∧ Below w.heap.size w w' := by
  obtain ⟨hn2, hc1, hc2⟩ := recs_cap hr
  obtain ⟨gu, ou, hA, hgu, hcu⟩ := recs_at hr use hu
  subst hA
  obtain ⟨x, hx⟩ : ∃ x, U[use]? = some x := ⟨_, List.getElem?_eq_getElem hu⟩
  have HXD := Lib.hid (show U.getD use u0 = x by rw [List.getD_eq_getElem?_getD, hx]; rfl)
  have hreg := hU8 x (List.mem_of_getElem? hx)
  have HPE := Lib.hid (fun u => permits_any g x hreg.1 hreg.2 u)
  obtain ⟨b, hb⟩ : ∃ b, perB g x = b := ⟨_, rfl⟩
  rw [hb] at HPE
  have HBB := Lib.hid (show pG g U use = b by unfold pG; rw [HXD.out, hb])
  have HCX := hcu use x hx
  have HSK : Hid (∀ y, Below w.heap.size w y → Below w.heap.size w y ∧ y.cell? ⟨bG, 0, none⟩ = some (.int .i64 g.item) ∧ y.cell? ⟨bG, 1, none⟩ = some (.int .i64 g.acts) ∧ y.cell? ⟨bG, 2, none⟩ = some (.int .i64 g.regions) ∧ y.cell? ⟨bG, 3, none⟩ = some (.int .i64 g.plays) ∧ y.cell? ⟨bG, 4, none⟩ = some (.int .i64 g.fr) ∧ y.cell? ⟨bG, 5, none⟩ = some (.int .i64 g.tw) ∧ y.cell? ⟨bU, 0, none⟩ = some (.slice (some ⟨gu, ou, none⟩) n2 c2) ∧ y.cell? ⟨gu, ou + use * 4, none⟩ = some (.int .i64 x.item) ∧ y.cell? ⟨gu, ou + use * 4 + 1, none⟩ = some (.int .i64 x.acts) ∧ y.cell? ⟨gu, ou + use * 4 + 2, none⟩ = some (.int .i64 x.region) ∧ y.cell? ⟨gu, ou + use * 4 + 3, none⟩ = some (.int .i64 x.at_)) := Lib.hid (fun y hy => ⟨hy, (hG.below hy hG.lt).cell 0, (hG.below hy hG.lt).cell 1, (hG.below hy hG.lt).cell 2, (hG.below hy hG.lt).cell 3, (hG.below hy hG.lt).cell 4, (hG.below hy hG.lt).cell 5, (hU.below hy hU.lt).cell 0, (hy.cell (p := ⟨gu, ou + use * 4, none⟩) (by exact hgu)).trans (HCX 0 _ rfl), (hy.cell (p := ⟨gu, ou + use * 4 + 1, none⟩) (by exact hgu)).trans (HCX 1 _ rfl), (hy.cell (p := ⟨gu, ou + use * 4 + 2, none⟩) (by exact hgu)).trans (HCX 2 _ rfl), (hy.cell (p := ⟨gu, ou + use * 4 + 3, none⟩) (by exact hgu)).trans (HCX 3 _ rfl)⟩)
  have i0 : (0 : Int) ≤ (use : Int) := by omega
  have i1 : (use : Int) < (n2 : Int) := by omega
  rw [HBB.out]
  clear hn2 hc1 hc2 hcu hx hreg hb HCX hU8 hu hG hU hr hgu
  go_enter Try.func52, Try.ntmps52
  go_upto_region 1 with fail
  go_region_held3 (fun y => Below w.heap.size w y ∧ y.cell? ⟨bG, 0, none⟩ = some (.int .i64 g.item) ∧ y.cell? ⟨bG, 1, none⟩ = some (.int .i64 g.acts) ∧ y.cell? ⟨bG, 2, none⟩ = some (.int .i64 g.regions) ∧ y.cell? ⟨bG, 3, none⟩ = some (.int .i64 g.plays) ∧ y.cell? ⟨bG, 4, none⟩ = some (.int .i64 g.fr) ∧ y.cell? ⟨bG, 5, none⟩ = some (.int .i64 g.tw) ∧ y.cell? ⟨bU, 0, none⟩ = some (.slice (some ⟨gu, ou, none⟩) n2 c2) ∧ y.cell? ⟨gu, ou + use * 4, none⟩ = some (.int .i64 x.item) ∧ y.cell? ⟨gu, ou + use * 4 + 1, none⟩ = some (.int .i64 x.acts) ∧ y.cell? ⟨gu, ou + use * 4 + 2, none⟩ = some (.int .i64 x.region) ∧ y.cell? ⟨gu, ou + use * 4 + 3, none⟩ = some (.int .i64 x.at_)) (first | assumption | (exact HSK.out _ (Below.refl _ _).drew)) (first | (go_at_call 46; ((with_reducible refine Calls.mono (HPE.out _) ?_); rintro r w9 ⟨rfl, hb9⟩; have hB9 := HSK.out _ (below_to (‹Below w.heap.size w _ ∧ _›).1 hb9))))
  all_goals (
    have HX := Lib.hid (‹Below w.heap.size w _ ∧ _›).1
    go_wp2_with fail
    go_ret
    exact ⟨rfl, HX.out⟩)
/-- What the closure is told of. -/
structure LkIn (g : Gr) (U : List Us) (bG bU : Nat) (A2 : Option Addr) (n2 c2 : Nat) (w : World) : Prop where
  hG : Row w bG 52 #[.int .i64 g.item, .int .i64 g.acts, .int .i64 g.regions, .int .i64 g.plays, .int .i64 g.fr, .int .i64 g.tw]
  hU : Row w bU 23 #[.slice A2 n2 c2]
  hr : Recs encU 4 w w.heap.size (.slice A2 n2 c2) U
theorem LkIn.next {g : Gr} {U : List Us} {bG bU : Nat} {A2 : Option Addr} {n2 c2 : Nat} {w w' : World} (h : LkIn g U bG bU A2 n2 c2 w) (hb : Below w.heap.size w w') : LkIn g U bG bU A2 n2 c2 w' := ⟨h.hG.below hb h.hG.lt, h.hU.below hb h.hU.lt, h.hr.next hb⟩
def IdxPost (w : World) (b : Bool) (e : Ending) (w' : World) : Prop := ∃ r : Int, e = .returned (.int .i64 r) ∧ decide (0 ≤ r) = b ∧ Below w.heap.size w w'
set_option maxRecDepth 100000 in
set_option maxHeartbeats 8000000 in
theorem index_any (g : Gr) (U : List Us) (hU8 : ∀ u ∈ U, 0 ≤ u.region ∧ u.region ≤ 7) (S : List Nat) (hS : ∀ u ∈ S, u < U.length) (A : Option Addr) (n c : Nat) (bG bU : Nat) (A2 : Option Addr) (n2 c2 : Nat) (w : World) (h : LkIn g U bG bU A2 n2 c2 w) (hs : Recs enc1 1 w w.heap.size (.slice A n c) (zi S)) :
    Calls Try.prog 53 #[.slice A n c, .func (.func 52) #[] #[.pointer (some ⟨bG, 0, none⟩), .pointer (some ⟨bU, 0, none⟩)]] w (IdxPost w (S.any (pG g U))) := by
  obtain ⟨hn, hc1, hc2⟩ := recs_cap hs
  have HN := Lib.hid (show n = S.length by simpa [zi] using hn)
  have HSR := Lib.hid hs
  have HIN := Lib.hid h
  have HL := Lib.hid (fun use hu w' h' => lacks1_any g U hU8 use hu bG bU A2 n2 c2 w' (LkIn.hG h') h'.hU h'.hr)
  have HSL := Lib.hid hS
  have n9 : n ≤ 9223372036854775807 := by omega
  clear hn hc1 hc2 hs h hS
  go_enter Try.func53, Try.ntmps53
  go_wp2
  go_loopw [8] (fun z wr => ∃ k : Nat, z = .int .i64 (k : Int) ∧ k ≤ n ∧ Hid (Below w.heap.size w wr ∧ (S.take k).any (pG g U) = false)) (fun z _ => n - (intOf z).toNat)
  case atStart => exact ⟨0, rfl, Nat.zero_le _, Lib.hid ⟨Below.refl _ _, rfl⟩⟩
  case round =>
    obtain ⟨k, rfl, hk, HX⟩ := hrel
    have HB := Lib.hid HX.out.1
    have HF := Lib.hid HX.out.2
    clear HX
    by_cases hlt : k < n
    · have hka : k < S.length := by have := HN.out; omega
      obtain ⟨b, o, rfl, hg, hcell⟩ := recs_at (HSR.out.below HB.out) k (by simpa [zi] using hka)
      obtain ⟨u, hu⟩ : ∃ u, S[k]? = some u := ⟨_, List.getElem?_eq_getElem hka⟩
      have y_u : wr.cell? ⟨b, o + k, none⟩ = some (.int .i64 (u : Int)) := by
        have h1 := hcell k (u : Int) (by simp [zi, hu]) 0 _ rfl
        rwa [Nat.mul_one, Nat.add_zero] at h1
      have lw := HB.out.size
      have g9 : b < wr.heap.size := by omega
      have k0 : (0 : Int) ≤ (k : Int) := by omega
      have k1 : (k : Int) < (n : Int) := by omega
      obtain ⟨pb, hpb⟩ : ∃ p, pG g U u = p := ⟨_, rfl⟩
      have HC := Lib.hid (HL.out u (HSL.out u (List.mem_of_getElem? hu)) wr (HIN.out.next HB.out))
      rw [hpb] at HC
      have HSN := Lib.hid (show (S.take (k + 1)).any (pG g U) = ((S.take k).any (pG g U) || pb) by rw [List.take_add_one, hu, List.any_append, ← hpb]; simp)
      clear hcell hu hpb lw
      cases pb with
      | true =>
        have HE := Lib.hid (show S.any (pG g U) = true by rw [← List.take_append_drop (k + 1) S, List.any_append, HSN.out]; simp)
        go_wp2_with (go_at_call 52; (with_reducible refine Calls.mono HC.out ?_); rintro r u1 ⟨rfl, hb⟩; have HB2 := Lib.hid (below_to HB.out hb); clear hb)
        go_ret
        exact ⟨(k : Int), rfl, by rw [HE.out]; exact decide_eq_true (by omega), HB2.out⟩
      | false =>
        go_wp2_with (go_at_call 52; (with_reducible refine Calls.mono HC.out ?_); rintro r u1 ⟨rfl, hb⟩; have HB2 := Lib.hid (below_to HB.out hb); clear hb)
        go_roundw
        case rel => exact ⟨k + 1, by go_num, by omega, Lib.hid ⟨HB2.out, by rw [HSN.out, HF.out]; rfl⟩⟩
        case measure => simp [intOf]; omega
    · have k1 : ¬ (k : Int) < (n : Int) := by omega
      have HE := Lib.hid (show S.any (pG g U) = false by have h1 := HF.out; rwa [List.take_of_length_le (by have := HN.out; omega)] at h1)
      go_wp2
      go_ret
      exact ⟨-1, rfl, by rw [HE.out]; rfl, HB.out⟩
set_option maxRecDepth 100000 in
set_option maxHeartbeats 8000000 in
theorem contains_any (g : Gr) (U : List Us) (hU8 : ∀ u ∈ U, 0 ≤ u.region ∧ u.region ≤ 7) (S : List Nat) (hS : ∀ u ∈ S, u < U.length) (A : Option Addr) (n c : Nat) (bG bU : Nat) (A2 : Option Addr) (n2 c2 : Nat) (w : World) (h : LkIn g U bG bU A2 n2 c2 w) (hs : Recs enc1 1 w w.heap.size (.slice A n c) (zi S)) :
    Calls Try.prog 51 #[.slice A n c, .func (.func 52) #[] #[.pointer (some ⟨bG, 0, none⟩), .pointer (some ⟨bU, 0, none⟩)]] w fun e w' => e = .returned (.bool (S.any (pG g U))) ∧ Below w.heap.size w w' := by
  have HI := Lib.hid (index_any g U hU8 S hS A n c bG bU A2 n2 c2 w h hs)
  clear h hs hU8 hS
  obtain ⟨pb, hpb⟩ : ∃ p, S.any (pG g U) = p := ⟨_, rfl⟩
  rw [hpb] at HI ⊢
  clear hpb
  go_enter Try.func51, Try.ntmps51
  go_wp2_with (go_at_call 53; (with_reducible refine Calls.mono HI.out ?_); rintro r u1 ⟨x, rfl, hx, hb⟩; have HB := Lib.hid hb; clear hb)
  go_ret
  exact ⟨by simp_all, HB.out⟩
/-- The plays of the grants that permit one of a set of uses. -/
def sumL (l : List Gr) (U : List Us) (S : List Nat) : Nat := (l.map fun g => if S.any (pG g U) then g.plays.toNat else 0).sum
theorem sumL_snoc {l : List Gr} {U : List Us} {S : List Nat} {k : Nat} {q : Gr} (hq : l[k]? = some q) : sumL (l.take (k + 1)) U S = sumL (l.take k) U S + if S.any (pG q U) then q.plays.toNat else 0 := by
  unfold sumL
  rw [List.take_add_one, hq, Option.toList_some, List.map_append, List.sum_append]
  simp
theorem sumL_le {l : List Gr} {U : List Us} {S : List Nat} (h : ∀ g ∈ l, 0 ≤ g.plays ∧ g.plays ≤ 100) : sumL l U S ≤ l.length * 100 := by
  induction l with
  | nil => simp [sumL]
  | cons g l ih =>
    have h1 := ih fun x hx => h x (by simp [hx])
    have h2 := h g (by simp)
    unfold sumL at h1 ⊢
    rw [List.map_cons, List.sum_cons, List.length_cons]
    split <;> omega
def lackB (l : List Gr) (U : List Us) (S : List Nat) : Bool := decide (sumL l U S < S.length)
set_option maxRecDepth 100000 in
set_option maxHeartbeats 8000000 in
theorem lacks_any (l : List Gr) (hP : ∀ g ∈ l, 0 ≤ g.plays ∧ g.plays ≤ 100) (h12 : l.length ≤ 12) (U : List Us) (hU8 : ∀ u ∈ U, 0 ≤ u.region ∧ u.region ≤ 7) (S : List Nat) (hS : ∀ u ∈ S, u < U.length) (A A2 A3 : Option Addr) (n c n2 c2 n3 c3 : Nat) (w : World) (hl : Recs encG 6 w w.heap.size (.slice A n c) l) (hu : Recs encU 4 w w.heap.size (.slice A2 n2 c2) U) (hs : Recs enc1 1 w w.heap.size (.slice A3 n3 c3) (zi S)) :
    Calls Try.prog 41 #[.slice A n c, .slice A2 n2 c2, .slice A3 n3 c3] w fun e w' => e = .returned (.bool (lackB l U S)) ∧ Below w.heap.size w w' := by
  obtain ⟨hn, hc1, hc2⟩ := recs_cap hl
  have HN3 := Lib.hid (show n3 = S.length by have := (recs_cap hs).1; simpa [zi] using this)
  have HN := Lib.hid hn
  have HL := Lib.hid hl
  have HU := Lib.hid hu
  have HSR := Lib.hid hs
  have HC := Lib.hid (fun g bG w' (h : LkIn g U bG w.heap.size A2 n2 c2 w') h2 => contains_any g U hU8 S hS A3 n3 c3 bG w.heap.size A2 n2 c2 w' h h2)
  have n9 : n ≤ 9223372036854775807 := by omega
  have HPL := Lib.hid hP
  have H12 := Lib.hid h12
  obtain ⟨W, hW⟩ : ∃ W, w.alloc (.cells #[.slice A2 n2 c2] 23) = W := ⟨_, rfl⟩
  have RU := Lib.hid (show Row W w.heap.size 23 #[.slice A2 n2 c2] by rw [← hW]; exact Row.new _ _ _)
  have HB0 := Lib.hid (show Below w.heap.size w W by rw [← hW]; exact (Below.refl _ _).alloc (Nat.le_refl _) _)
  clear hn hc1 hc2 hl hu hs hP h12 hU8 hS
  go_enter Try.func41, Try.ntmps41
  go_wp2
  clear hW
  go_loopw [7, 12] (fun s z wr => ∃ k : Nat, z = .int .i64 (k : Int) ∧ k ≤ n ∧ s = .int .i64 (sumL (l.take k) U S : Int) ∧ Hid (Below w.heap.size w wr ∧ Row wr w.heap.size 23 #[.slice A2 n2 c2])) (fun _ z _ => n - (intOf z).toNat)
  case atStart => exact ⟨0, rfl, Nat.zero_le _, rfl, Lib.hid ⟨HB0.out, RU.out⟩⟩
  case round =>
    clear HB0 RU
    obtain ⟨k, rfl, hk, rfl, HX⟩ := hrel
    have HB := Lib.hid HX.out.1
    have RU := Lib.hid HX.out.2
    clear HX
    by_cases hlt : k < n
    · have hka : k < l.length := by have := HN.out; omega
      obtain ⟨b, o, rfl, hg, hcell⟩ := recs_at (HL.out.below HB.out) k hka
      obtain ⟨q, hq⟩ : ∃ q, l[k]? = some q := ⟨_, List.getElem?_eq_getElem hka⟩
      have a0 : wr.cell? ⟨b, o + k * 6, none⟩ = some (.int .i64 q.item) := hcell k q hq 0 _ rfl
      have a1 : wr.cell? ⟨b, o + k * 6 + 1, none⟩ = some (.int .i64 q.acts) := hcell k q hq 1 _ rfl
      have a2 : wr.cell? ⟨b, o + k * 6 + 2, none⟩ = some (.int .i64 q.regions) := hcell k q hq 2 _ rfl
      have a3 : wr.cell? ⟨b, o + k * 6 + 3, none⟩ = some (.int .i64 q.plays) := hcell k q hq 3 _ rfl
      have a4 : wr.cell? ⟨b, o + k * 6 + 4, none⟩ = some (.int .i64 q.fr) := hcell k q hq 4 _ rfl
      have a5 : wr.cell? ⟨b, o + k * 6 + 5, none⟩ = some (.int .i64 q.tw) := hcell k q hq 5 _ rfl
      have lw := HB.out.size
      have g9 : b < wr.heap.size := by omega
      have k0 : (0 : Int) ≤ (k : Int) := by omega
      have k1 : (k : Int) < (n : Int) := by omega
      have hqp := HPL.out q (List.mem_of_getElem? hq)
      have HSN := Lib.hid (sumL_snoc (U := U) (S := S) hq)
      have HLE := Lib.hid (show sumL (l.take k) U S ≤ 1200 by
        have h1 := sumL_le (l := l.take k) (U := U) (S := S) fun g hg => HPL.out g (List.mem_of_mem_take hg)
        rw [List.length_take] at h1
        have := H12.out
        omega)
      obtain ⟨pb, hpb⟩ : ∃ p, S.any (pG q U) = p := ⟨_, rfl⟩
      have hb2 : Below wr.heap.size wr (wr.alloc (.cells #[.int .i64 q.item, .int .i64 q.acts, .int .i64 q.regions, .int .i64 q.plays, .int .i64 q.fr, .int .i64 q.tw] 52)) := (Below.refl _ _).alloc (Nat.le_refl _) _
      have HCC := Lib.hid (HC.out q wr.heap.size (wr.alloc (.cells #[.int .i64 q.item, .int .i64 q.acts, .int .i64 q.regions, .int .i64 q.plays, .int .i64 q.fr, .int .i64 q.tw] 52)) ⟨Row.new _ _ _, RU.out.alloc _, (HU.out.next HB.out).next hb2⟩ ((HSR.out.next HB.out).next hb2))
      rw [hpb] at HCC HSN
      have HQP := Lib.hid hqp
      have RQ := Lib.hid (Row.new wr 52 #[.int .i64 q.item, .int .i64 q.acts, .int .i64 q.regions, .int .i64 q.plays, .int .i64 q.fr, .int .i64 q.tw])
      have HB2 := Lib.hid hb2
      obtain ⟨s, hs⟩ : ∃ s, sumL (l.take k) U S = s := ⟨_, rfl⟩
      rw [hs] at HSN HLE ⊢
      have s1 : (s : Int) ≤ 1200 := by have := HLE.out; omega
      have s0 : (0 : Int) ≤ (s : Int) := by omega
      have p0 : 0 ≤ q.plays := hqp.1
      have p1 : q.plays ≤ 100 := hqp.2
      clear hcell hq hpb lw hqp hb2 hs
      cases pb with
      | true =>
        have HEQ := Lib.hid (show (sumL (l.take (k + 1)) U S : Int) = (s : Int) + q.plays by rw [HSN.out, if_pos rfl]; omega)
        go_wp2_with (go_at_call 51; (with_reducible refine Calls.mono HCC.out ?_); rintro r u1 ⟨rfl, hb⟩; have HB3 := Lib.hid (below_to HB.out (below_to HB2.out hb)); have RU3 := Lib.hid ((RU.out.alloc (.cells #[.int .i64 q.item, .int .i64 q.acts, .int .i64 q.regions, .int .i64 q.plays, .int .i64 q.fr, .int .i64 q.tw] 52)).below hb (RU.out.alloc _).lt); have RQ3 := Lib.hid (RQ.out.below hb RQ.out.lt); have y_p : u1.cell? ⟨wr.heap.size, 3, none⟩ = some (.int .i64 q.plays) := RQ3.out.cell 3; have z_p := RQ3.out.lt; clear hb)
        go_roundw
        case rel => exact ⟨k + 1, by go_num, by omega, by rw [HEQ.out], Lib.hid ⟨HB3.out, RU3.out⟩⟩
        case measure => simp [intOf]; omega
      | false =>
        have HEQ := Lib.hid (show (sumL (l.take (k + 1)) U S : Int) = (s : Int) by rw [HSN.out]; simp)
        go_wp2_with (go_at_call 51; (with_reducible refine Calls.mono HCC.out ?_); rintro r u1 ⟨rfl, hb⟩; have HB3 := Lib.hid (below_to HB.out (below_to HB2.out hb)); have RU3 := Lib.hid ((RU.out.alloc (.cells #[.int .i64 q.item, .int .i64 q.acts, .int .i64 q.regions, .int .i64 q.plays, .int .i64 q.fr, .int .i64 q.tw] 52)).below hb (RU.out.alloc _).lt); clear hb)
        go_roundw
        case rel => exact ⟨k + 1, by go_num, by omega, by rw [HEQ.out], Lib.hid ⟨HB3.out, RU3.out⟩⟩
        case measure => simp [intOf]; omega
    · have k1 : ¬ (k : Int) < (n : Int) := by omega
      have HE := Lib.hid (show lackB l U S = decide ((sumL (l.take k) U S : Int) < (n3 : Int)) by unfold lackB; rw [List.take_of_length_le (by have := HN.out; omega), HN3.out]; simp)
      go_wp2
      go_ret
      exact ⟨by rw [HE.out]; simp, HB.out⟩
end Go.Proofs.Ytenojfniknjeiaa
