/- Rows of one's own of records; Withdraw. -/
import Derived.Test.YtenojfniknjeiaaHl
namespace Go.Proofs.Ytenojfniknjeiaa
open Go.RowKit
attribute [local go_sem ↓] append_appN

section
variable {α : Type} {enc : α → List Value} {k : Nat}
def flatE (enc : α → List Value) (l : List α) : List Value := l.flatMap enc
theorem flatE_len (hk : ∀ x, (enc x).length = k) (l : List α) : (flatE enc l).length = l.length * k := by
  induction l with
  | nil => simp [flatE]
  | cons x l ih => simp only [flatE, List.flatMap_cons, List.length_append, List.length_cons] at ih ⊢; rw [ih, hk, Nat.add_mul]; omega
theorem flatE_append (l r : List α) : flatE enc (l ++ r) = flatE enc l ++ flatE enc r := by simp [flatE]
theorem flatE_get (hk : ∀ x, (enc x).length = k) : ∀ (l : List α) (j i : Nat) (x : α) (u : Value), l[j]? = some x → (enc x)[i]? = some u → (flatE enc l)[j * k + i]? = some u
  | [], j, i, x, u, h, _ => by simp at h
  | y :: l, 0, i, x, u, h, g => by
    simp at h; subst h
    have hi : i < (enc y).length := (List.getElem?_eq_some_iff.1 g).1
    simp only [flatE, List.flatMap_cons]
    rw [List.getElem?_append_left (by omega), Nat.zero_mul, Nat.zero_add]; exact g
  | y :: l, j + 1, i, x, u, h, g => by
    have h' : l[j]? = some x := by simpa using h
    have ih := flatE_get hk l j i x u h' g
    simp only [flatE, List.flatMap_cons] at ih ⊢
    rw [List.getElem?_append_right (by rw [hk, Nat.add_mul]; omega), show (j + 1) * k + i - (enc y).length = j * k + i by rw [hk, Nat.add_mul]; omega]; exact ih
theorem recs_of_ownE (hk : ∀ x, (enc x).length = k) {w : World} {base : Nat} {e : TypeId} {v : Value} {n : Nat} {l : List α} (h : w.ownsRow base e k v n (flatE enc l)) (hn : l.length = n) : Recs enc k w w.heap.size v l := by
  subst hn
  rcases h.2 with ⟨rfl, h0⟩ | ⟨g, cap, cur, rfl, hb, hg, h1, h2, h3, h4⟩
  · have : l = [] := List.eq_nil_of_length_eq_zero h0
    subst this
    exact recs_nil _ _ _ _
  · refine ⟨_, cap, rfl, h1, h2, .inr ⟨g, 0, rfl, (Array.getElem?_eq_some_iff.1 hg).1, fun j x hj i u hu => ?_⟩⟩
    have hq := flatE_get hk l j i x u hj hu
    have hlt := (List.getElem?_eq_some_iff.1 hq).1
    rw [flatE_len hk] at hlt
    have := h.cellAt (j * k + i) hlt
    rw [Nat.zero_add, this, hq]
theorem snoc_rec {z : Value} {by_ : Nat} (hk : ∀ x, (enc x).length = k) (hk0 : 0 < k) (hone : ∀ x, ∀ u ∈ enc x, u.oneCell' = true) (hzc : z.cells.size = k) (hby : by_ ≤ 1000) {w : World} {B n : Nat} {v : Value} {l : List α} {t e : TypeId} (x : α) (ht : Try.prog.underlying t = some (.slice e)) (hi : (Try.prog.info? e).map (fun i => (i.zero, i.size, i.bytes)) = some (some z, k, by_))
    (hrow : w.ownsRow B e k v n (flatE enc l)) (hn : n ≤ 100000) (hB : B ≤ w.heap.size) {cs : Array Value} (hcs : (enc x).toArray = cs) :
    ∃ A c w', Sem.run Try.prog (appN #[t, t] t #[v, .slice (some ⟨w.heap.size, 0, none⟩) 1 1]) (w.alloc (.cells cs e)) = .ok (.slice A (n + 1) c) w' ∧
      w'.ownsRow B e k (.slice A (n + 1) c) (n + 1) (flatE enc (l ++ [x])) ∧ (w.alloc (.cells cs e)).grownBy w' v.ownBlock := by
  subst hcs
  obtain ⟨i0, hi0, hz0, hz1, hz2⟩ := info_parts hi
  have hnews : ∀ j u, (enc x)[j]? = some u → (w.alloc (.cells (enc x).toArray e)).cell? (Addr.add ⟨w.heap.size, 0, none⟩ j) = some u := fun j u hj => by
    have hc := (Row.new w e (enc x).toArray).cell j
    have ha : Addr.add ⟨w.heap.size, 0, none⟩ j = ⟨w.heap.size, j, none⟩ := by rw [Addr.add_lit, Nat.zero_add]
    rw [ha, hc]; simpa using hj
  obtain ⟨v', w', hrun, hown, hgr, _⟩ := run_append_own (P := Try.prog) (w.alloc (.cells (enc x).toArray e)) B t t e i0 z k by_ ht hi0 hz0 hz1 hz2 hzc hk0
    v n _ (hrow.alloc _) ⟨w.heap.size, 0, none⟩ 1 1 (enc x) (by rw [hk]; omega) hnews (hone x) (by unfold maxLen; omega) (by have : (n + 1) * by_ ≤ (n + 1) * 1000 := Nat.mul_le_mul_left _ hby; omega) (by simp; omega)
  obtain ⟨A, c, rfl, -⟩ := own_slice hown
  refine ⟨A, c, w', hrun, ?_, hgr⟩
  rw [flatE_append, show flatE enc [x] = enc x by simp [flatE]]
  exact hown
end
theorem infoGrant : (Try.prog.info? 52).map (fun i => (i.zero, i.size, i.bytes)) = some (some (.agg #[.int .i64 0, .int .i64 0, .int .i64 0, .int .i64 0, .int .i64 0, .int .i64 0]), 6, 48) := by kernel_rfl
theorem encG_one (x : Gr) : ∀ u ∈ encG x, u.oneCell' = true := fun u hu => by
  simp only [encG, List.mem_cons, List.not_mem_nil, or_false] at hu
  rcases hu with rfl | rfl | rfl | rfl | rfl | rfl <;> rfl
/-- A row of one's own of grants that is gathered. -/
structure GatG (w : World) (L : List Gr) (o : Value) (wr : World) : Prop where
  own : wr.ownsRow w.heap.size 52 6 o L.length (flatE encG L)
  b : Below w.heap.size w wr
theorem GatG.next {w : World} {L : List Gr} {o : Value} {wr wr' : World} (h : GatG w L o wr) (hb : Below wr.heap.size wr wr') : GatG w L o wr' := ⟨own_below h.own hb, below_to h.b hb⟩
theorem GatG.push {w : World} {L : List Gr} {o : Value} {wr : World} (h : GatG w L o wr) (hl : L.length ≤ 100000) (x : Gr) {cs : Array Value} (hcs : (encG x).toArray = cs) :
    ∃ A c w', Sem.run Try.prog (appN #[22, 22] 22 #[o, .slice (some ⟨wr.heap.size, 0, none⟩) 1 1]) (wr.alloc (.cells cs 52)) = .ok (.slice A (L.length + 1) c) w' ∧ GatG w (L ++ [x]) (.slice A (L.length + 1) c) w' := by
  obtain ⟨A, c, w', hrun, hown, hgr⟩ := snoc_rec (enc := encG) (k := 6) (fun _ => rfl) (by decide) encG_one rfl (by decide) x Try.underlying22 infoGrant h.own hl h.b.size hcs
  exact ⟨A, c, w', hrun, by rw [List.length_append]; exact hown, (h.b.alloc h.b.size _).grown hgr (by have := h.b.size; simp; omega) (fun r x => by have := own_ge h.own r x; omega)⟩
theorem GatG.recs {w : World} {L : List Gr} {o : Value} {wr : World} (h : GatG w L o wr) : Recs encG 6 wr wr.heap.size o L := recs_of_ownE (enc := encG) (k := 6) (fun _ => rfl) h.own rfl
def wdG (item at_ : Int) (g : Gr) : Gr := if g.item = item then ⟨g.item, g.acts, g.regions, g.plays, g.fr, min g.tw at_⟩ else g
def withL (l : List Gr) (item at_ : Int) : List Gr := (l.map (wdG item at_)).filter fun g => decide (g.fr < g.tw)
def withOk (l : List Gr) (item at_ : Int) : Bool := validG l && decide (0 ≤ item) && decide (item < 200) && decide (0 ≤ at_) && decide (at_ ≤ 10000000)
def withV (l : List Gr) (item at_ : Int) : List Gr := if withOk l item at_ then withL l item at_ else []
theorem withL_snoc {l : List Gr} {k : Nat} {q : Gr} (item at_ : Int) (hq : l[k]? = some q) : withL (l.take (k + 1)) item at_ = withL (l.take k) item at_ ++ (if (wdG item at_ q).fr < (wdG item at_ q).tw then [wdG item at_ q] else []) := by
  unfold withL
  rw [List.take_add_one, hq, Option.toList_some, List.map_append, List.filter_append]
  congr 1
  rw [List.map_cons, List.map_nil, List.filter_cons]
  simp
theorem withL_len (l : List Gr) (item at_ : Int) : (withL l item at_).length ≤ l.length := by
  unfold withL
  exact Nat.le_trans (List.length_filter_le _ _) (by simp)
def WithPost (w : World) (L : List Gr) (e : Ending) (w' : World) : Prop := ∃ A c, e = .returned (.slice A L.length c) ∧ Recs encG 6 w' w'.heap.size (.slice A L.length c) L ∧ Below w.heap.size w w'
set_option maxRecDepth 100000 in
set_option maxHeartbeats 8000000 in
theorem Withdraw_any (l : List Gr) (item at_ : Int) (A : Option Addr) (n c : Nat) (w : World) (hr : Recs encG 6 w w.heap.size (.slice A n c) l) :
    Calls Try.prog 18 #[.slice A n c, .int .i64 item, .int .i64 at_] w (WithPost w (withV l item at_)) := by
  obtain ⟨hn, hc1, hc2⟩ := recs_cap hr
  have HR := Lib.hid hr
  have HN := Lib.hid hn
  have hn9 : n ≤ 9223372036854775807 := by omega
  have HG := Lib.hid (Valid_any l A n c w hr)
  obtain ⟨b0, hb0⟩ : ∃ b, validG l = b := ⟨_, rfl⟩
  rw [hb0] at HG
  have H0 := Lib.hid hb0
  clear hr hn hc1 hc2 hb0
  cases b0 with
  | false =>
    have HE := Lib.hid (show withV l item at_ = [] by unfold withV withOk; rw [H0.out]; simp)
    rw [HE.out]
    go_enter Try.func18, Try.ntmps18
    go_wp2_with (first | (go_at_call 13; (with_reducible refine Calls.mono HG.out ?_); rintro r u1 ⟨rfl, hb⟩; have Bc := Lib.hid hb; clear hb))
    go_ret
    exact ⟨_, _, rfl, recs_nil _ _ _ _, Bc.out⟩
  | true =>
    by_cases g0 : 0 ≤ item
    · skip
      by_cases g1 : item < 200
      · skip
        by_cases g2 : 0 ≤ at_
        · skip
          by_cases g3 : at_ ≤ 10000000
          · skip
            have HOK := Lib.hid (show withV l item at_ = withL l item at_ by unfold withV withOk; rw [H0.out]; simp [g0, g1, g2, g3])
            rw [HOK.out]
            have HL12 := Lib.hid (validG_len H0.out)
            go_enter Try.func18, Try.ntmps18
            go_upto_region 5 with (first | (go_at_call 13; (with_reducible refine Calls.mono HG.out ?_); rintro r u1 ⟨rfl, hb⟩; have Bc := Lib.hid hb; clear hb))
            have HG0 := Lib.hid (show GatG w (withL (l.take 0) item at_) (.slice none 0 0) u1 from ⟨World.ownsRow_nil _ _ _ _, Bc.out⟩)
            clear Bc
            go_wp2
            go_loopw [7, 31] (fun o j wr => ∃ k : Nat, j = .int .i64 (k : Int) ∧ k ≤ n ∧ Hid (GatG w (withL (l.take k) item at_) o wr)) (fun _ j _ => n - (intOf j).toNat)
            case atStart => exact ⟨0, rfl, Nat.zero_le _, HG0⟩
            case round =>
              clear HG0
              obtain ⟨k, rfl, hk, HW⟩ := hrel
              by_cases hlt : k < n
              · have hka : k < l.length := by have := HN.out; omega
                obtain ⟨b, o, rfl, hg, hcell⟩ := recs_at (HR.out.below HW.out.b) k hka
                obtain ⟨q, hq⟩ : ∃ q, l[k]? = some q := ⟨_, List.getElem?_eq_getElem hka⟩
                have HQ := Lib.hid hq
                have a0 : wr.cell? ⟨b, o + k * 6, none⟩ = some (.int .i64 q.item) := hcell k q hq 0 _ rfl
                have a1 : wr.cell? ⟨b, o + k * 6 + 1, none⟩ = some (.int .i64 q.acts) := hcell k q hq 1 _ rfl
                have a2 : wr.cell? ⟨b, o + k * 6 + 2, none⟩ = some (.int .i64 q.regions) := hcell k q hq 2 _ rfl
                have a3 : wr.cell? ⟨b, o + k * 6 + 3, none⟩ = some (.int .i64 q.plays) := hcell k q hq 3 _ rfl
                have a4 : wr.cell? ⟨b, o + k * 6 + 4, none⟩ = some (.int .i64 q.fr) := hcell k q hq 4 _ rfl
                have a5 : wr.cell? ⟨b, o + k * 6 + 5, none⟩ = some (.int .i64 q.tw) := hcell k q hq 5 _ rfl
                have lw := HW.out.b.size
                have g9 : b < wr.heap.size := by omega
                have k0 : (0 : Int) ≤ (k : Int) := by omega
                have k1 : (k : Int) < (n : Int) := by omega
                have HSN := Lib.hid (withL_snoc item at_ HQ.out)
                have HLE := Lib.hid (show (withL (l.take k) item at_).length ≤ 12 by have := withL_len (l.take k) item at_; rw [List.length_take] at this; have := HL12.out; omega)
                obtain ⟨tw2, htw⟩ : ∃ t, (if q.item = item then min q.tw at_ else q.tw) = t := ⟨_, rfl⟩
                have HWD := Lib.hid (show wdG item at_ q = ⟨q.item, q.acts, q.regions, q.plays, q.fr, tw2⟩ by unfold wdG; rw [← htw]; split <;> rfl)
                have HS2 := Lib.hid (show withL (l.take (k + 1)) item at_ = withL (l.take k) item at_ ++ (if q.fr < tw2 then [⟨q.item, q.acts, q.regions, q.plays, q.fr, tw2⟩] else []) by have := HSN.out; rw [HWD.out] at this; exact this)
                have hb2 : ∀ cs, Below wr.heap.size wr (wr.alloc (.cells cs 52)) := fun cs => (Below.refl _ _).alloc (Nat.le_refl _) _
                have HB2 := Lib.hid hb2
                clear hcell hq hb2 lw
                by_cases he : q.item = item
                · have e1 : (q.item == item) = true := by simp [he]
                  rw [if_pos he] at htw
                  have MN := fun w : World => run_min2 (P := Try.prog) (w := w) #[3, 3] 3 .i64 .i64 q.tw at_ tw2 htw
                  clear he htw
                  by_cases hf : q.fr < tw2
                  · have HS3 := Lib.hid (show withL (l.take (k + 1)) item at_ = withL (l.take k) item at_ ++ [⟨q.item, q.acts, q.regions, q.plays, q.fr, tw2⟩] by rw [HS2.out, if_pos hf])
                    obtain ⟨A2, c2, w2, hrun, hG⟩ := (HW.out.next (HB2.out #[.int .i64 q.item, .int .i64 q.acts, .int .i64 q.regions, .int .i64 q.plays, .int .i64 q.fr, .int .i64 tw2])).push (by have := HLE.out; omega) ⟨q.item, q.acts, q.regions, q.plays, q.fr, tw2⟩ (cs := #[.int .i64 q.item, .int .i64 q.acts, .int .i64 q.regions, .int .i64 q.plays, .int .i64 q.fr, .int .i64 tw2]) rfl
                    have HG2 := Lib.hid hG
                    rw [World.size_alloc] at hrun
                    clear hG
                    go_wp2
                    go_roundw
                    case rel => exact ⟨k + 1, by go_num, by omega, by rw [HS3.out]; exact HG2⟩
                    case measure => simp [intOf]; omega
                  · have HS3 := Lib.hid (show withL (l.take (k + 1)) item at_ = withL (l.take k) item at_ by rw [HS2.out, if_neg hf, List.append_nil])
                    have HG2 := Lib.hid (HW.out.next (HB2.out #[.int .i64 q.item, .int .i64 q.acts, .int .i64 q.regions, .int .i64 q.plays, .int .i64 q.fr, .int .i64 tw2]))
                    go_wp2
                    go_roundw
                    case rel => exact ⟨k + 1, by go_num, by omega, by rw [HS3.out]; exact HG2⟩
                    case measure => simp [intOf]; omega
                · have e1 : (q.item == item) = false := by simp [he]
                  rw [if_neg he] at htw
                  subst htw
                  clear he
                  by_cases hf : q.fr < q.tw
                  · have HS3 := Lib.hid (show withL (l.take (k + 1)) item at_ = withL (l.take k) item at_ ++ [⟨q.item, q.acts, q.regions, q.plays, q.fr, q.tw⟩] by rw [HS2.out, if_pos hf])
                    obtain ⟨A2, c2, w2, hrun, hG⟩ := (HW.out.next (HB2.out #[.int .i64 q.item, .int .i64 q.acts, .int .i64 q.regions, .int .i64 q.plays, .int .i64 q.fr, .int .i64 q.tw])).push (by have := HLE.out; omega) ⟨q.item, q.acts, q.regions, q.plays, q.fr, q.tw⟩ (cs := #[.int .i64 q.item, .int .i64 q.acts, .int .i64 q.regions, .int .i64 q.plays, .int .i64 q.fr, .int .i64 q.tw]) rfl
                    have HG2 := Lib.hid hG
                    rw [World.size_alloc] at hrun
                    clear hG
                    go_wp2
                    go_roundw
                    case rel => exact ⟨k + 1, by go_num, by omega, by rw [HS3.out]; exact HG2⟩
                    case measure => simp [intOf]; omega
                  · have HS3 := Lib.hid (show withL (l.take (k + 1)) item at_ = withL (l.take k) item at_ by rw [HS2.out, if_neg hf, List.append_nil])
                    have HG2 := Lib.hid (HW.out.next (HB2.out #[.int .i64 q.item, .int .i64 q.acts, .int .i64 q.regions, .int .i64 q.plays, .int .i64 q.fr, .int .i64 q.tw]))
                    go_wp2
                    go_roundw
                    case rel => exact ⟨k + 1, by go_num, by omega, by rw [HS3.out]; exact HG2⟩
                    case measure => simp [intOf]; omega
              · have k1 : ¬ (k : Int) < (n : Int) := by omega
                have HE := Lib.hid (show withL (l.take k) item at_ = withL l item at_ by rw [List.take_of_length_le (by have := HN.out; omega)])
                obtain ⟨A2, c2, rfl, -⟩ := own_slice HW.out.own
                go_wp2
                go_ret
                exact ⟨A2, c2, by rw [← HE.out]; rfl, by rw [← HE.out]; exact HW.out.recs, HW.out.b⟩
          · skip
            have HE := Lib.hid (show withV l item at_ = [] by unfold withV withOk; rw [H0.out]; simp [g3])
            rw [HE.out]
            go_enter Try.func18, Try.ntmps18
            go_wp2_with (first | (go_at_call 13; (with_reducible refine Calls.mono HG.out ?_); rintro r u1 ⟨rfl, hb⟩; have Bc := Lib.hid hb; clear hb))
            go_ret
            exact ⟨_, _, rfl, recs_nil _ _ _ _, Bc.out⟩
        · skip
          have HE := Lib.hid (show withV l item at_ = [] by unfold withV withOk; rw [H0.out]; simp [g2])
          rw [HE.out]
          go_enter Try.func18, Try.ntmps18
          go_wp2_with (first | (go_at_call 13; (with_reducible refine Calls.mono HG.out ?_); rintro r u1 ⟨rfl, hb⟩; have Bc := Lib.hid hb; clear hb))
          go_ret
          exact ⟨_, _, rfl, recs_nil _ _ _ _, Bc.out⟩
      · skip
        have HE := Lib.hid (show withV l item at_ = [] by unfold withV withOk; rw [H0.out]; simp [g1])
        rw [HE.out]
        go_enter Try.func18, Try.ntmps18
        go_wp2_with (first | (go_at_call 13; (with_reducible refine Calls.mono HG.out ?_); rintro r u1 ⟨rfl, hb⟩; have Bc := Lib.hid hb; clear hb))
        go_ret
        exact ⟨_, _, rfl, recs_nil _ _ _ _, Bc.out⟩
    · skip
      have HE := Lib.hid (show withV l item at_ = [] by unfold withV withOk; rw [H0.out]; simp [g0])
      rw [HE.out]
      go_enter Try.func18, Try.ntmps18
      go_wp2_with (first | (go_at_call 13; (with_reducible refine Calls.mono HG.out ?_); rintro r u1 ⟨rfl, hb⟩; have Bc := Lib.hid hb; clear hb))
      go_ret
      exact ⟨_, _, rfl, recs_nil _ _ _ _, Bc.out⟩
end Go.Proofs.Ytenojfniknjeiaa
