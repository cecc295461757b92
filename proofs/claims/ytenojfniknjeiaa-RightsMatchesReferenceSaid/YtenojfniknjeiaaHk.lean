/- choicesOf. -/
import Derived.Test.YtenojfniknjeiaaHj
namespace Go.Proofs.Ytenojfniknjeiaa
open Go.RowKit
attribute [local go_sem ↓] append_appN

/-- A row of one's own of rows of one's own. -/
structure ChO (w : World) (B : Nat) (o : Value) (xs : List Value) (ch : List (List Nat)) : Prop where
  own : w.ownsRow B 26 1 o xs.length xs
  len : xs.length = ch.length
  inn : ∀ (j : Nat) (x : Value) (L : List Nat), xs[j]? = some x → ch[j]? = some L → OwnN w B x L ∧ ∀ g, x.ownBlock = some g → o.ownBlock ≠ some g
theorem ChO.nil (w : World) (B : Nat) : ChO w B (.slice none 0 0) [] [] := ⟨World.ownsRow_nil _ _ _ _, rfl, fun j x L h => by cases h⟩
theorem ChO.below {w w' : World} {B : Nat} {o : Value} {xs : List Value} {ch : List (List Nat)} (h : ChO w B o xs ch) (hb : Below w.heap.size w w') : ChO w' B o xs ch :=
  ⟨own_below h.own hb, h.len, fun j x L hx hL => ⟨own_below (h.inn j x L hx hL).1 hb, (h.inn j x L hx hL).2⟩⟩
theorem ChO.chAt {w : World} {B : Nat} {o : Value} {xs : List Value} {ch : List (List Nat)} (h : ChO w B o xs ch) : ChAt w w.heap.size o ch := by
  refine ⟨xs, ?_, h.len, fun i x L hx hL => ?_⟩
  · obtain ⟨A, c, rfl, hc1, hc2, hA⟩ := own_slice h.own
    refine ⟨A, c, rfl, hc1, hc2, ?_⟩
    rcases hA with ⟨rfl, h0⟩ | ⟨g, rfl, hB, hg⟩
    · exact .inl (List.eq_nil_of_length_eq_zero h0)
    · refine .inr ⟨g, 0, rfl, hg, fun j x hj i u hu => ?_⟩
      have hi : i = 0 := by
        have := (List.getElem?_eq_some_iff.1 hu).1
        simp [encV] at this
        exact this
      subst hi
      have hx : u = x := by simpa [encV] using hu.symm
      have hjl := (List.getElem?_eq_some_iff.1 hj).1
      have := h.own.cellAt j (by omega)
      rw [hx, show 0 + j * 1 + 0 = j by omega, this]
      exact hj
  · have h1 := (h.inn i x L hx hL).1
    obtain ⟨A, c, e, -⟩ := own_slice h1
    exact ⟨A, _, c, e, ints_own h1 (zi_len _)⟩
theorem ChO.step {W0 wr u1 : World} {B : Nat} {o v : Value} {xs : List Value} {ch : List (List Nat)} {L : List Nat} (h : ChO wr W0.heap.size o xs ch) (hb0 : Below W0.heap.size W0 wr) (hl : xs.length ≤ 1000) (hv : OwnN u1 B v L) (hB : wr.heap.size ≤ B) (hb : Below wr.heap.size wr u1) :
    ∃ A c w', Sem.run Try.prog (appN #[63, 63] 63 #[o, .slice (some ⟨u1.heap.size, 0, none⟩) 1 1]) (u1.alloc (.cells #[v] 26)) = .ok (.slice A (xs.length + 1) c) w' ∧ ChO w' W0.heap.size (.slice A (xs.length + 1) c) (xs ++ [v]) (ch ++ [L]) ∧ Below W0.heap.size W0 w' := by
  have hbw := hb0.size
  have hbs := hb.size
  have ho : u1.ownsRow W0.heap.size 26 1 o xs.length xs := own_below h.own hb
  have hvo : v.oneCell' = true := by obtain ⟨A, c, rfl, -⟩ := own_slice hv; rfl
  obtain ⟨A, c, w', hrun, hown, hgr, hloc⟩ := push_one (x := v) (B := W0.heap.size) Try.underlying63 infoInts rfl hvo (by omega) ho (by omega) (by omega)
  have hz := hgr.size
  rw [World.size_alloc] at hz
  have hol := fun k => own_lt h.own k
  have stay : ∀ q, q < u1.heap.size → o.ownBlock ≠ some q → w'.heap[q]? = u1.heap[q]? := fun q hq hne => (hgr.block q (by simp; omega) (fun e => hne e.symm)).trans (Below.heap_alloc u1 _ q hq)
  refine ⟨A, c, w', hrun, ⟨by rw [List.length_append]; exact hown, by simp [h.len], fun j x L' hx hL => ?_⟩, ((below_to hb0 hb).alloc (by omega) _).grown hgr (by simp; omega) (fun r x => by have := own_ge h.own r x; omega)⟩
  by_cases hj : j < xs.length
  · rw [List.getElem?_append_left hj] at hx
    rw [List.getElem?_append_left (by rw [← h.len]; exact hj)] at hL
    obtain ⟨h1, h2⟩ := h.inn j x L' hx hL
    have hxl := fun g => own_lt h1 g
    refine ⟨own_keep (own_below h1 hb) (fun q e => stay q (by have := hxl q e; omega) (h2 q e)), fun g e e2 => ?_⟩
    rcases hloc with h3 | h3
    · exact h2 g e (h3 ▸ e2)
    · rw [h3] at e2
      have := Option.some.inj e2
      have := hxl g e
      omega
  · have hj' : j = xs.length := by
      have := (List.getElem?_eq_some_iff.1 hx).1
      simp at this
      omega
    subst hj'
    rw [List.getElem?_append_right (Nat.le_refl _), Nat.sub_self] at hx
    rw [List.getElem?_append_right (by rw [h.len]; exact Nat.le_refl _), h.len, Nat.sub_self] at hL
    obtain rfl : v = x := by simpa using hx
    obtain rfl : L = L' := by simpa using hL
    have hvl := fun g => own_lt hv g
    have hvg := fun g => own_ge hv g
    refine ⟨own_lower (own_keep hv (fun q e => stay q (hvl q e) (fun e2 => by have := hol q e2; have := hvg q e; omega))) (by omega), fun g e e2 => ?_⟩
    rcases hloc with h3 | h3
    · have := hol g (h3 ▸ e2); have := hvg g e; omega
    · rw [h3] at e2
      have := Option.some.inj e2
      have := hvl g e
      omega
def ChoPost (W0 : World) (ch : List (List Nat)) (e : Ending) (w' : World) : Prop := ∃ o xs, e = .returned o ∧ ChO w' W0.heap.size o xs ch ∧ Below W0.heap.size W0 w'
set_option maxRecDepth 100000 in
set_option maxHeartbeats 8000000 in
theorem choicesOf_any (l : List Gr) (U : List Us) (A A2 : Option Addr) (n c n2 c2 : Nat) (w : World) (hr : Recs encG 6 w w.heap.size (.slice A n c) l) (hu : Recs encU 4 w w.heap.size (.slice A2 n2 c2) U) (h10 : U.length ≤ 1000) :
    Calls Try.prog 35 #[.slice A n c, .slice A2 n2 c2] w (ChoPost w (U.map (permV l))) := by
  obtain ⟨hn2, hc1, hc2⟩ := recs_cap hu
  have HR := Lib.hid hr
  have HU := Lib.hid hu
  have HN := Lib.hid hn2
  have hn9 : n2 ≤ 9223372036854775807 := by omega
  have H10 := Lib.hid h10
  clear hr hu hn2 hc1 hc2 h10
  go_enter Try.func35, Try.ntmps35
  go_wp2
  go_loopw [5, 10] (fun o j wr => ∃ k : Nat, j = .int .i64 (k : Int) ∧ k ≤ n2 ∧ Hid (∃ xs, ChO wr w.heap.size o xs ((U.take k).map (permV l)) ∧ Below w.heap.size w wr)) (fun _ j _ => n2 - (intOf j).toNat)
  case atStart => exact ⟨0, rfl, Nat.zero_le _, Lib.hid ⟨[], ChO.nil _ _, Below.refl _ _⟩⟩
  case round =>
    obtain ⟨k, rfl, hk, HX⟩ := hrel
    obtain ⟨xs, hC, hB⟩ := HX.out
    have HC := Lib.hid hC
    have HB := Lib.hid hB
    clear HX hC hB
    by_cases hlt : k < n2
    · have hka : k < U.length := by have := HN.out; omega
      obtain ⟨b, o, rfl, hg, hcell⟩ := recs_at (HU.out.below HB.out) k hka
      obtain ⟨q, hq⟩ : ∃ q, U[k]? = some q := ⟨_, List.getElem?_eq_getElem hka⟩
      have HQ := Lib.hid hq
      have a0 : wr.cell? ⟨b, o + k * 4, none⟩ = some (.int .i64 q.item) := hcell k q hq 0 _ rfl
      have a1 : wr.cell? ⟨b, o + k * 4 + 1, none⟩ = some (.int .i64 q.acts) := hcell k q hq 1 _ rfl
      have a2 : wr.cell? ⟨b, o + k * 4 + 2, none⟩ = some (.int .i64 q.region) := hcell k q hq 2 _ rfl
      have a3 : wr.cell? ⟨b, o + k * 4 + 3, none⟩ = some (.int .i64 q.at_) := hcell k q hq 3 _ rfl
      have lw := HB.out.size
      have g1 : b < wr.heap.size := by omega
      have k0 : (0 : Int) ≤ (k : Int) := by omega
      have k1 : (k : Int) < (n2 : Int) := by omega
      have HXL := Lib.hid (show xs.length ≤ 1000 by have := HC.out.len; rw [List.length_map, List.length_take] at this; have := H10.out; omega)
      have HTK := Lib.hid (show (U.take (k + 1)).map (permV l) = (U.take k).map (permV l) ++ [permV l q] by rw [List.take_add_one, HQ.out]; simp)
      have hb2 : Below wr.heap.size wr (wr.alloc (.cells #[.int .i64 q.item, .int .i64 q.acts, .int .i64 q.region, .int .i64 q.at_] 46)) := (Below.refl _ _).alloc (Nat.le_refl _) _
      have HP := Lib.hid (Permits_own l q A n c _ ((HR.out.next HB.out).next hb2))
      have HB2 := Lib.hid hb2
      clear hcell hq hb2 lw
      go_wp2_with (go_at_call 28; (with_reducible refine Calls.mono HP.out ?_); rintro r u1 ⟨v, rfl, hv, hb⟩; obtain ⟨Av, cv, rfl, -⟩ := own_slice hv; obtain ⟨A5, c5, w5, hrun, hC5, hB5⟩ := HC.out.step HB.out HXL.out hv HB2.out.size (below_to HB2.out hb); have HC5 := Lib.hid hC5; have HB5 := Lib.hid hB5; clear hv hb hC5 hB5)
      go_roundw
      case rel => exact ⟨k + 1, by go_num, by omega, Lib.hid ⟨_, by rw [HTK.out]; exact HC5.out, HB5.out⟩⟩
      case measure => simp [intOf]; omega
    · have k1 : ¬ (k : Int) < (n2 : Int) := by omega
      have HE := Lib.hid (show (U.take k).map (permV l) = U.map (permV l) by rw [List.take_of_length_le (by have := HN.out; omega)])
      go_wp2
      go_ret
      exact ⟨_, xs, rfl, by rw [← HE.out]; exact HC.out, HB.out⟩
end Go.Proofs.Ytenojfniknjeiaa
