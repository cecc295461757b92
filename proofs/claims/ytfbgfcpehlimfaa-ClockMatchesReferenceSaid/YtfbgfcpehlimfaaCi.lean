/- Contracts of the sorting of changes, and of changes. -/
import Derived.Test.YtfbgfcpehlimfaaCh
import Derived.StillTailTactics
namespace Go.Proofs.Ytfbgfcpehlimfaa
open Go.RowKit
attribute [local go_sem ↓] append_appN

theorem holds_of_own {w : World} {base : Nat} {e : TypeId} {n g off cap : Nat} {l : List (Int × Int)} (h : w.ownsRow base e 2 (.slice (some ⟨g, off, none⟩) n cap) n (flat2 l)) (hn : l.length = n) : off = 0 ∧ base ≤ g ∧ g < w.heap.size ∧ Go.Sort.HoldsK enc2 2 w g 0 l.toArray := by
  subst hn
  rcases h.2 with ⟨h0, _⟩ | ⟨g', cap', cur, e1, hb, hg, h1, h2, h3, h4⟩
  · cases h0
  · injection e1 with e1 e2 e3
    injection e1 with e1
    injection e1 with e1 e4
    subst e1; subst e4
    refine ⟨rfl, hb, (Array.getElem?_eq_some_iff.1 hg).1, fun t ht => ?_⟩
    have ht' : t < l.length * 2 := by simpa [Go.Sort.size_flatK] using ht
    have hc := h.cellAt t ht'
    refine ⟨?_, ?_⟩
    · rw [Nat.zero_add, hc, Go.Sort.get_flatK _ _ _ _ (by simpa using ht')]
      have hd : t / 2 < l.length := by omega
      have hm : t % 2 = 0 ∨ t % 2 = 1 := by omega
      have hx : l[t / 2]? = some l[t / 2] := List.getElem?_eq_getElem hd
      have hx2 : l.toArray[t / 2]! = l[t / 2] := by simp [hd]
      rw [hx2]
      rcases hm with hm | hm
      · have := flat2_get l (t / 2) 0 _ _ hx (rfl : (enc2 l[t / 2])[0]? = some (.int .i64 l[t / 2].1))
        rw [show t / 2 * 2 + 0 = t by omega] at this
        rw [this, hm]; rfl
      · have := flat2_get l (t / 2) 1 _ _ hx (rfl : (enc2 l[t / 2])[1]? = some (.int .i64 l[t / 2].2))
        rw [show t / 2 * 2 + 1 = t by omega] at this
        rw [this, hm]; rfl
    · exact frozen_of_row w g (0 + t) cur e hg
/-- What a row of changes is behind the sort. -/
def SortPost (base : Nat) (v : Value) (l : List (Int × Int)) (w : World) (e : Ending) (w' : World) : Prop :=
  e = .returned (.tuple #[]) ∧ ∃ c, l.Perm c ∧ Cb.Asc c ∧ Recs enc2 2 w' w'.heap.size v c ∧ Below base w w' ∧ w.heap.size ≤ w'.heap.size
theorem sort_any (base : Nat) (v : Value) (n : Nat) (l : List (Int × Int)) (w : World) (e : TypeId) (h : w.ownsRow base e 2 v n (flat2 l)) (hn : l.length = n) (hl : n ≤ 100000) (hbs : base ≤ w.heap.size) :
    Calls Try.prog 44 #[v, .func (.func 45) #[] #[]] w (SortPost base v l w) := by
  subst hn
  rcases h.2 with ⟨hv, h0⟩ | ⟨g, cap, cur, rfl, hb, hg, h1, h2, h3, h4⟩
  · subst hv
    have : l = [] := List.eq_nil_of_length_eq_zero h0
    subst this
    have hcon := AnyF.slices_SortFunc_none Try.sortCh none 0 (.func (.func 45) #[] #[]) w
    refine hcon.mono ?_
    rintro e w' ⟨rfl, rfl⟩
    exact ⟨rfl, [], List.Perm.nil, (fun i j x y _ hx => by simp at hx), recs_nil _ _ _ _, Below.refl _ _, Nat.le_refl _⟩
  · obtain ⟨-, -, hgl, hH⟩ := holds_of_own h rfl
    have eg : ∀ args w, (callFunc 45 args).run Try.prog w = .ok (.enter 45 args) w := enters_of Try.func45 (by kernel_rfl) rfl
    have hcl : CmpLays Try.prog 45 #[] enc2 2 (fun x y : Int × Int => cmpI x.1 y.1) g 0 l.toArray.size w := fun _ _ _ _ x y => closure_any x y _
    have hcon := AnyQ.slices_SortFunc Try.sortCh 2 Try.isAgg69 Try.sizeOf69 enc2 (fun _ => rfl) (fun x v hv => by simp [enc2] at hv; rcases hv with rfl | rfl <;> rfl) (fun x y => cmpI x.1 y.1) swo_at 45 #[] g 0 cap l.toArray w eg hcl hH hgl (by simp; omega)
    have hsz : l.toArray.size = l.length := by simp
    rw [hsz] at hcon
    refine hcon.mono ?_
    rintro e w' ⟨rfl, d', m, os, hp, hs, rfl⟩
    have hds : d'.size = l.length := hp.1
    have hHf : Go.Sort.HoldsK enc2 2 (sortWorldK enc2 2 w g 0 m d' os) g 0 d' := Go.Sort.holdsK_grow enc2 2 _ os g 0 d' (by rw [Go.Sort.size_putRowK]; exact hgl) (Go.Sort.holdsK_putRowK enc2 2 (Go.Sort.ahead w m) g 0 l.toArray d' hH (by simpa using hds))
    have hsize : w.heap.size ≤ (sortWorldK enc2 2 w g 0 m d' os).heap.size := by
      show w.heap.size ≤ ((Go.Sort.putRowK enc2 2 (Go.Sort.ahead w m) g 0 d').heap ++ os).size
      rw [Array.size_append, Go.Sort.size_putRowK]
      show w.heap.size ≤ w.heap.size + _
      omega
    have hget : ∀ j x, d'.toList[j]? = some x → j < d'.size ∧ d'[j]! = x := fun j x hj => by
      have hl := (List.getElem?_eq_some_iff.1 hj)
      obtain ⟨hl, he⟩ := hl
      have hl' : j < d'.size := by simpa using hl
      refine ⟨hl', ?_⟩
      rw [getElem!_pos d' j hl', ← he]; simp
    refine ⟨rfl, d'.toList, ?_, ?_, ?_, ?_, hsize⟩
    · have := hp.2.2
      have e1 : d'.extract 0 l.length = d' := by rw [← hds]; simp
      have e2 : l.toArray.extract 0 l.length = l.toArray := by simp
      rw [e1, e2] at this
      simpa using this.symm
    · intro i j x y hij hx hy
      have hj := (List.getElem?_eq_some_iff.1 hy).1
      have := hs i j (by omega) hij (by simpa [hds] using hj)
      rw [ltOf_at, (hget i x hx).2, (hget j y hy).2] at this
      simp at this
      omega
    · refine ⟨_, cap, by simp [hds], by simp [hds]; omega, h2, .inr ⟨g, 0, rfl, by omega, fun j x hj i u hu => ?_⟩⟩
      obtain ⟨hjl, hjx⟩ := hget j x hj
      have hi : i < 2 := (List.getElem?_eq_some_iff.1 hu).1
      rw [(hHf.cell hjl hi).1, hjx]
      rw [getElem!_pos (enc2 x) i hi]
      exact hu ▸ (List.getElem?_eq_getElem hi).symm
    · refine ⟨rfl, rfl, rfl, hsize, fun k hk => ?_⟩
      show ((Go.Sort.putRowK enc2 2 (Go.Sort.ahead w m) g 0 d').heap ++ os)[k]? = _
      rw [Array.getElem?_append_left (by rw [Go.Sort.size_putRowK]; show k < w.heap.size; omega)]
      show (w.heap.modify g _)[k]? = _
      rw [Array.getElem?_modify, if_neg (by omega)]

theorem flat2_two (a b c d : Int) : flat2 [(a, b), (c, d)] = [.int .i64 a, .int .i64 b, .int .i64 c, .int .i64 d] := rfl
/-- What changes returns. -/
def ChgPost (l : List (Int × Int)) (w : World) (e : Ending) (w' : World) : Prop :=
  ∃ v c, e = .returned v ∧ (Cb.chg l).Perm c ∧ Cb.Asc c ∧ Recs enc2 2 w' w'.heap.size v c ∧ Below w.heap.size w w' ∧ ∀ k, v.ownBlock = some k → w.heap.size ≤ k
set_option maxRecDepth 100000 in
set_option maxHeartbeats 4000000 in
theorem changes_any (l : List (Int × Int)) (v : Value) (w : World) (hv : Recs enc2 2 w w.heap.size v l) (hl : l.length ≤ 1000) :
    Calls Try.prog 41 #[v] w (ChgPost l w) := by
  obtain ⟨A, c, rfl, hc1, hc2⟩ := recs_form hv
  have HV := Lib.hid (fun k hk => recs_at hv k hk)
  obtain ⟨N, hN⟩ : ∃ N, l.length = N := ⟨_, rfl⟩
  have HN := Lib.hid hN
  rw [hN] at hc1 hl ⊢
  clear hv hN
  go_enter Try.func41, Try.ntmps41
  go_wp2
  go_loopw [3, 5, 8] (fun u _ i wr => ∃ k : Nat, k ≤ N ∧ i = .int .i64 (k : Int) ∧ wr.ownsRow w.heap.size 69 2 u (Cb.chg (l.take k)).length (flat2 (Cb.chg (l.take k))) ∧ Below w.heap.size w wr) (fun _ _ i _ => N - (intOf i).toNat)
  case atStart => exact ⟨0, by omega, rfl, ⟨rfl, .inl ⟨rfl, rfl⟩⟩, Below.refl _ _⟩
  case round =>
    obtain ⟨k, hk, rfl, hrow, hbw⟩ := hrel
    have hcl := Cb.chg_len (l.take k)
    rw [List.length_take] at hcl
    by_cases hlt : k < N
    · have hkl : k < l.length := by have := HN.out; omega
      obtain ⟨g, off, rfl, hg, hcell⟩ := HV.out k hkl
      obtain ⟨c0, c1⟩ := cells2 hcell k hkl
      rw [← hbw.cell (p := ⟨g, off + k * 2, none⟩) hg] at c0
      rw [← hbw.cell (p := ⟨g, off + k * 2 + 1, none⟩) hg] at c1
      have htk : l.take (k + 1) = l.take k ++ [l[k]] := List.take_succ_eq_append_getElem hkl
      have hch : Cb.chg (l.take (k + 1)) = Cb.chg (l.take k) ++ (if l[k].1 < l[k].2 then [(l[k].1, 1), (l[k].2, -1)] else []) := by rw [htk, Cb.chg_snoc]
      obtain ⟨x, hx⟩ : ∃ x, l[k] = x := ⟨_, rfl⟩
      rw [hx] at c0 c1 hch
      obtain ⟨p, q⟩ := x
      dsimp only at c0 c1 hch
      obtain ⟨xs, hxs⟩ : ∃ xs, Cb.chg (l.take k) = xs := ⟨_, rfl⟩
      rw [hxs] at hrow hch hcl
      have HBW := Lib.hid hbw
      have hsz := hbw.size
      have i1 : (0 : Int) ≤ (k : Int) := by omega
      have i2 : (k : Int) < (N : Int) := by omega
      by_cases hpq : p < q
      · rw [if_pos hpq] at hch
        have hrow2 := hrow.alloc (.cells #[.int .i64 p, .int .i64 q] 32)
        obtain ⟨v', w1, hrun, hown, hgr⟩ := snoc_pairs (w := wr.alloc (.cells #[.int .i64 p, .int .i64 q] 32)) [(p, 1), (q, -1)] Try.underlying66 infoChange hrow2 (by omega) (by simp) (by simp; omega)
        have hbl := own_below_grown hrow2 (by simp; omega) hgr
        have HX : Hid (w1.ownsRow w.heap.size 69 2 v' (Cb.chg (l.take (k + 1))).length (flat2 (Cb.chg (l.take (k + 1)))) ∧ Below w.heap.size w w1) := Lib.hid ⟨by rw [hch, List.length_append]; exact hown, (HBW.out.trans ((Below.refl _ wr).alloc hsz _)).trans hbl⟩
        rw [flat2_two, World.size_alloc] at hrun
        simp only [List.length_cons, List.length_nil, Nat.zero_add, Nat.reduceAdd] at hrun hown
        obtain ⟨A', c', hv', -, -, -⟩ := own_slice hown
        subst hv'
        clear hcell htk hch hx hxs hrow hrow2 hown hgr hbl hcl hbw
        go_wp2
        go_roundw
        case rel => exact ⟨k + 1, by omega, by go_num, HX.out.1, HX.out.2⟩
        case measure => simp [intOf]; omega
      · rw [if_neg hpq, List.append_nil] at hch
        have hrow2 := hrow.alloc (.cells #[.int .i64 p, .int .i64 q] 32)
        have HX : Hid ((wr.alloc (.cells #[.int .i64 p, .int .i64 q] 32)).ownsRow w.heap.size 69 2 u3 (Cb.chg (l.take (k + 1))).length (flat2 (Cb.chg (l.take (k + 1)))) ∧ Below w.heap.size w (wr.alloc (.cells #[.int .i64 p, .int .i64 q] 32))) := Lib.hid ⟨by rw [hch]; exact hrow2, HBW.out.trans ((Below.refl _ wr).alloc hsz _)⟩
        clear hcell htk hch hx hxs hrow hrow2 hcl hbw
        go_wp2
        go_roundw
        case rel => exact ⟨k + 1, by omega, by go_num, HX.out.1, HX.out.2⟩
        case measure => simp [intOf]; omega
    · have hta : l.take k = l := List.take_of_length_le (by have := HN.out; omega)
      rw [hta] at hrow
      have hso := sort_any w.heap.size _ _ _ _ _ hrow rfl (by have := Cb.chg_len l; have := HN.out; omega) hbw.size
      have hge := own_ge hrow
      have HS := Lib.hid hso; have HBW := Lib.hid hbw; have HGE := Lib.hid hge
      clear hrow hbw hta hcl hso hge
      go_wp2_with (go_at_call 44; refine HS.out.mono ?_; unfold SortPost; rintro e w2 ⟨rfl, cs, hp, ha, hr, hb, hs⟩; have HP := Lib.hid hp; have HA := Lib.hid ha; have HR := Lib.hid hr; have HB := Lib.hid hb; clear hp ha hr hb)
      go_ret
      exact ⟨_, cs, rfl, HP.out, HA.out, HR.out, HBW.out.trans HB.out, HGE.out⟩
end Go.Proofs.Ytfbgfcpehlimfaa
