/- Rows of one's own; Permits. -/
import Derived.Test.YtenojfniknjeiaaHc
namespace Go.Proofs.Ytenojfniknjeiaa
open Go.RowKit
attribute [local go_sem ↓] append_appN

abbrev iv1 (l : List Int) : List Value := l.map fun x => .int .i64 x
theorem infoInt : (Try.prog.info? 3).map (fun i => (i.zero, i.size, i.bytes)) = some (some (.int .i64 0), 1, 8) := by kernel_rfl
theorem infoInts : (Try.prog.info? 26).map (fun i => (i.zero, i.size, i.bytes)) = some (some (.slice none 0 0), 1, 24) := by kernel_rfl
/-- One value more behind a row of one's own. -/
theorem push_one {w : World} {B n : Nat} {v x z : Value} {l : List Value} {t e : TypeId} {by_ : Nat} (ht : Try.prog.underlying t = some (.slice e)) (hi : (Try.prog.info? e).map (fun i => (i.zero, i.size, i.bytes)) = some (some z, 1, by_)) (hz : z.cells.size = 1) (hx : x.oneCell' = true) (hby : by_ ≤ 1000)
    (hrow : w.ownsRow B e 1 v n l) (hn : n ≤ 100000) (hB : B ≤ w.heap.size) :
    ∃ A c w', Sem.run Try.prog (appN #[t, t] t #[v, .slice (some ⟨w.heap.size, 0, none⟩) 1 1]) (w.alloc (.cells #[x] e)) = .ok (.slice A (n + 1) c) w' ∧
      w'.ownsRow B e 1 (.slice A (n + 1) c) (n + 1) (l ++ [x]) ∧ (w.alloc (.cells #[x] e)).grownBy w' v.ownBlock ∧ ((Value.slice A (n + 1) c).ownBlock = v.ownBlock ∨ (Value.slice A (n + 1) c).ownBlock = some (w.heap.size + 1)) := by
  obtain ⟨i0, hi0, hz0, hz1, hz2⟩ := info_parts hi
  have hnews : ∀ j u, ([x] : List Value)[j]? = some u → (w.alloc (.cells #[x] e)).cell? (Addr.add ⟨w.heap.size, 0, none⟩ j) = some u := fun j u hj => by
    have hc := (Row.new w e #[x]).cell j
    have ha : Addr.add ⟨w.heap.size, 0, none⟩ j = ⟨w.heap.size, j, none⟩ := by rw [Addr.add_lit, Nat.zero_add]
    rw [ha, hc]; simpa using hj
  have hone : ∀ u ∈ ([x] : List Value), u.oneCell' = true := fun u hu => by rw [List.mem_singleton.1 hu]; exact hx
  obtain ⟨v', w', hrun, hown, hgr, -, hloc⟩ := run_append_own_at (P := Try.prog) (w := w.alloc (.cells #[x] e)) B t t e i0 z 1 by_ ht hi0 hz0 hz1 hz2 hz (by decide)
    v n _ (hrow.alloc _) ⟨w.heap.size, 0, none⟩ 1 1 [x] rfl hnews hone (by unfold maxLen; omega) (by have : (n + 1) * by_ ≤ (n + 1) * 1000 := Nat.mul_le_mul_left _ hby; omega) (by simp; omega)
  obtain ⟨A, c, rfl, -⟩ := own_slice hown
  rw [World.size_alloc] at hloc
  exact ⟨A, c, w', hrun, hown, hgr, hloc⟩
theorem ints_own {w : World} {B n : Nat} {v : Value} {l : List Int} (h : w.ownsRow B 3 1 v n (iv1 l)) (hn : l.length = n) : Recs enc1 1 w w.heap.size v l := by
  obtain ⟨A, c, rfl, hc1, hc2, hA⟩ := own_slice h
  refine ⟨A, c, by rw [hn], by omega, hc2, ?_⟩
  rcases hA with ⟨rfl, h0⟩ | ⟨g, rfl, hB, hg⟩
  · exact .inl (List.eq_nil_of_length_eq_zero (by omega))
  · refine .inr ⟨g, 0, rfl, hg, fun j x hj i u hu => ?_⟩
    have hi : i = 0 := by
      have := (List.getElem?_eq_some_iff.1 hu).1
      simp [enc1] at this
      exact this
    subst hi
    have hx : u = .int .i64 x := by simpa [enc1] using hu.symm
    have hjl := (List.getElem?_eq_some_iff.1 hj).1
    have := h.cellAt j (by simp; omega)
    rw [hx, show 0 + j * 1 + 0 = j by omega, this]
    simp [hj]
abbrev zi (l : List Nat) : List Int := l.map fun (x : Nat) => (x : Int)
theorem zi_len (l : List Nat) : (zi l).length = l.length := by simp [zi]
/-- A row of one's own of numbers that is gathered. -/
structure Gat (w : World) (B : Nat) (L : List Nat) (o : Value) (wr : World) : Prop where
  own : wr.ownsRow B 3 1 o L.length (iv1 (zi L))
  b : Below w.heap.size w wr
  lo : w.heap.size ≤ B
  hi : B ≤ wr.heap.size
theorem Gat.next {w : World} {B : Nat} {L : List Nat} {o : Value} {wr wr' : World} (h : Gat w B L o wr) (hb : Below wr.heap.size wr wr') : Gat w B L o wr' := ⟨own_below h.own hb, below_to h.b hb, h.lo, Nat.le_trans h.hi hb.size⟩
theorem Gat.push {w : World} {B : Nat} {L : List Nat} {o : Value} {wr : World} (h : Gat w B L o wr) (hl : L.length ≤ 100000) (k : Int) (j : Nat) (hk : k = (j : Int)) :
    ∃ A c w', Sem.run Try.prog (appN #[26, 26] 26 #[o, .slice (some ⟨wr.heap.size, 0, none⟩) 1 1]) (wr.alloc (.cells #[.int .i64 k] 3)) = .ok (.slice A (L.length + 1) c) w' ∧ Gat w B (L ++ [j]) (.slice A (L.length + 1) c) w' ∧ Below B wr w' := by
  subst hk
  obtain ⟨A, c, w', r, o', g, -⟩ := push_one (x := .int .i64 (j : Int)) (B := B) Try.underlying26 infoInt rfl rfl (by omega) h.own (by omega) h.hi
  have hz := g.size
  rw [World.size_alloc] at hz
  have hlow := own_ge h.own
  have hb : Below B wr w' := ((Below.refl _ wr).alloc h.hi _ |>.mono (Nat.le_refl _)).grown g (by have := h.hi; simp; omega) (fun r x => by have := hlow r x; omega)
  refine ⟨A, c, w', r, ⟨?_, ?_, h.lo, by have := h.hi; omega⟩, hb⟩
  · rw [List.length_append]
    have e2 : iv1 (zi (L ++ [j])) = iv1 (zi L) ++ [Value.int .i64 (j : Int)] := by simp [iv1, zi]
    rw [e2]; exact o'
  · exact h.b.trans (hb.mono h.lo)
theorem Gat.recs {w : World} {B : Nat} {L : List Nat} {o : Value} {wr : World} (h : Gat w B L o wr) : Recs enc1 1 wr wr.heap.size o (zi L) := ints_own h.own (zi_len L)
theorem own_lower {w : World} {B B' : Nat} {e : TypeId} {k n : Nat} {v : Value} {xs : List Value} (h : w.ownsRow B e k v n xs) (hb : B' ≤ B) : w.ownsRow B' e k v n xs := by
  obtain ⟨h1, h2⟩ := h
  refine ⟨h1, ?_⟩
  rcases h2 with h2 | ⟨g, c, cur, hv, hB, rest⟩
  · exact .inl h2
  · exact .inr ⟨g, c, cur, hv, by omega, rest⟩
/-- A row of one's own of numbers. -/
def OwnN (w : World) (B : Nat) (v : Value) (L : List Nat) : Prop := w.ownsRow B 3 1 v L.length (iv1 (zi L))
theorem own_len {w : World} {B : Nat} {A : Option Addr} {n c : Nat} {L : List Nat} (h : OwnN w B (.slice A n c) L) : n = L.length := by
  obtain ⟨A', c', e, -⟩ := own_slice h
  injection e
def g0 : Gr := ⟨0, 0, 0, 0, 0, 0⟩
def u0 : Us := ⟨0, 0, 0, 0⟩
def permK (l : List Gr) (u : Us) (k : Nat) : List Nat := (List.range k).filter fun i => perB (l.getD i g0) u
def permL (l : List Gr) (u : Us) : List Nat := permK l u l.length
def permV (l : List Gr) (u : Us) : List Nat := if validG l && okU u then permL l u else []
theorem permK_snoc {l : List Gr} {u : Us} {k : Nat} {q : Gr} (hq : l[k]? = some q) : permK l u (k + 1) = permK l u k ++ (if perB q u then [k] else []) := by
  unfold permK
  rw [List.range_succ, List.filter_append]
  congr 1
  rw [List.filter_cons, List.getD_eq_getElem?_getD, hq]
  cases h : perB q u <;> simp [h]
theorem permK_len (l : List Gr) (u : Us) (k : Nat) : (permK l u k).length ≤ k := by
  unfold permK
  exact Nat.le_trans (List.length_filter_le _ _) (by simp)
theorem okU_region {u : Us} (h : okU u = true) : 0 ≤ u.region ∧ u.region ≤ 7 := by
  unfold okU at h
  simp only [Bool.and_eq_true, decide_eq_true_eq] at h
  omega
theorem validG_len {l : List Gr} (h : validG l = true) : l.length ≤ 12 := by
  unfold validG at h
  simp only [Bool.and_eq_true, decide_eq_true_eq] at h
  exact h.1
set_option maxRecDepth 100000 in
set_option maxHeartbeats 8000000 in
theorem Permits_own (l : List Gr) (u : Us) (A : Option Addr) (n c : Nat) (w : World) (hr : Recs encG 6 w w.heap.size (.slice A n c) l) :
    Calls Try.prog 28 #[.slice A n c, .agg #[.int .i64 u.item, .int .i64 u.acts, .int .i64 u.region, .int .i64 u.at_]] w fun e w' => ∃ v, e = .returned v ∧ OwnN w' w.heap.size v (permV l u) ∧ Below w.heap.size w w' := by
  obtain ⟨hn, hc1, hc2⟩ := recs_cap hr
  have HR := Lib.hid hr
  have HN := Lib.hid hn
  have hn9 : n ≤ 9223372036854775807 := by omega
  obtain ⟨W, hW⟩ : ∃ W, w.alloc (.cells #[.int .i64 u.item, .int .i64 u.acts, .int .i64 u.region, .int .i64 u.at_] 46) = W := ⟨_, rfl⟩
  have RU := Lib.hid (show Row W w.heap.size 46 #[.int .i64 u.item, .int .i64 u.acts, .int .i64 u.region, .int .i64 u.at_] by rw [← hW]; exact Row.new _ _ _)
  have hB : Below w.heap.size w W := by rw [← hW]; exact (Below.refl _ _).alloc (Nat.le_refl _) _
  have HB := Lib.hid hB
  have HRW := Lib.hid (hr.next hB)
  have hsz : W.heap.size = w.heap.size + 1 := by rw [← hW]; simp
  have HSZ := Lib.hid hsz
  obtain ⟨b0, hb0⟩ : ∃ b, validG l = b := ⟨_, rfl⟩
  obtain ⟨b1, hb1⟩ : ∃ b, okU u = b := ⟨_, rfl⟩
  have HVG := Lib.hid (fun u' (h : Below W.heap.size W u') => Valid_any l A n c u' (HRW.out.next h))
  have HVU := Lib.hid (fun u' => isUse_any u u')
  rw [hb0] at HVG
  rw [hb1] at HVU
  have x0 : W.cell? ⟨w.heap.size, 0, none⟩ = some (.int .i64 u.item) := RU.out.cell 0
  have x1 : W.cell? ⟨w.heap.size, 1, none⟩ = some (.int .i64 u.acts) := RU.out.cell 1
  have x2 : W.cell? ⟨w.heap.size, 2, none⟩ = some (.int .i64 u.region) := RU.out.cell 2
  have x3 : W.cell? ⟨w.heap.size, 3, none⟩ = some (.int .i64 u.at_) := RU.out.cell 3
  have lx := RU.out.lt
  have HPV := Lib.hid (show permV l u = if b0 && b1 then permL l u else [] by unfold permV; rw [hb0, hb1])
  clear hr hn hc1 hc2 hB hsz
  cases b0 with
  | false =>
    have HE := Lib.hid (show permV l u = [] by rw [HPV.out]; rfl)
    clear hb0 hb1
    go_enter Try.func28, Try.ntmps28
    go_upto_region 1 with fail
    go_wp2_with (first | (go_at_call 13; (with_reducible refine Calls.mono (HVG.out _ (Below.refl _ _)) ?_); rintro r u1 ⟨rfl, hb⟩; have Bc := Lib.hid (below_to HB.out hb); clear hb))
    go_ret
    exact ⟨_, rfl, by rw [HE.out]; exact World.ownsRow_nil _ _ _ _, Bc.out⟩
  | true =>
    cases b1 with
    | false =>
      have HE := Lib.hid (show permV l u = [] by rw [HPV.out]; rfl)
      clear hb0 hb1
      go_enter Try.func28, Try.ntmps28
      go_upto_region 1 with fail
      go_wp2_with (first | (go_at_call 13; (with_reducible refine Calls.mono (HVG.out _ (Below.refl _ _)) ?_); rintro r u1 ⟨rfl, hb⟩; have Bc := Lib.hid (below_to HB.out hb); have RU := Lib.hid (RU.out.below hb RU.out.lt); clear x0 x1 x2 x3 lx; have x0 := RU.out.cell 0; have x1 := RU.out.cell 1; have x2 := RU.out.cell 2; have x3 := RU.out.cell 3; have lx := RU.out.lt; clear hb) | (go_at_call 34; (with_reducible refine Calls.mono (HVU.out _) ?_); rintro r u2 ⟨rfl, hb⟩; have Bc := Lib.hid (below_to Bc.out hb); clear hb))
      go_ret
      exact ⟨_, rfl, by rw [HE.out]; exact World.ownsRow_nil _ _ _ _, Bc.out⟩
    | true =>
      have HE := Lib.hid (show permV l u = permL l u by rw [HPV.out]; rfl)
      have hreg := okU_region hb1
      have hlen := validG_len hb0
      have HL := Lib.hid hlen
      have HPE := Lib.hid (fun (g : Gr) (u' : World) => permits_any g u hreg.1 hreg.2 u')
      clear hb0 hb1 hreg hlen
      go_enter Try.func28, Try.ntmps28
      go_upto_region 1 with fail
      clear hW
      go_upto_region 5 with (first | (go_at_call 13; (with_reducible refine Calls.mono (HVG.out _ (Below.refl _ _)) ?_); rintro r u1 ⟨rfl, hb⟩; have Bc := Lib.hid (below_to HB.out hb); have RU := Lib.hid (RU.out.below hb RU.out.lt); have sz1 := Lib.hid hb.size; clear x0 x1 x2 x3 lx; have x0 := RU.out.cell 0; have x1 := RU.out.cell 1; have x2 := RU.out.cell 2; have x3 := RU.out.cell 3; have lx := RU.out.lt; clear hb) | (go_at_call 34; (with_reducible refine Calls.mono (HVU.out _) ?_); rintro r u2 ⟨rfl, hb⟩; have Bc := Lib.hid (below_to Bc.out hb); have RU := Lib.hid (RU.out.below hb RU.out.lt); have sz2 := Lib.hid hb.size; clear hb))
      have G0 := Lib.hid (show Gat w (w.heap.size + 1) (permK l u 0) (.slice none 0 0) u2 from ⟨World.ownsRow_nil _ _ _ _, Bc.out, by omega, by have := sz1.out; have := sz2.out; have := HSZ.out; omega⟩)
      clear x0 x1 x2 x3 lx Bc sz1 sz2 HSZ HB HRW HVG HVU HPV
      go_wp2
      go_loopw [5, 18] (fun o j wr => ∃ k : Nat, j = .int .i64 (k : Int) ∧ k ≤ n ∧ Hid (Gat w (w.heap.size + 1) (permK l u k) o wr) ∧ Hid (Row wr w.heap.size 46 #[.int .i64 u.item, .int .i64 u.acts, .int .i64 u.region, .int .i64 u.at_])) (fun _ j _ => n - (intOf j).toNat)
      case atStart => exact ⟨0, rfl, Nat.zero_le _, G0, RU⟩
      case round =>
        clear G0 RU
        obtain ⟨k, rfl, hk, HG, RU⟩ := hrel
        by_cases hlt : k < n
        · have hka : k < l.length := by have := HN.out; omega
          obtain ⟨b, o, rfl, hg, hcell⟩ := recs_at (HR.out.below HG.out.b) k hka
          obtain ⟨q, hq⟩ : ∃ q, l[k]? = some q := ⟨_, List.getElem?_eq_getElem hka⟩
          have HQ := Lib.hid hq
          have a0 : wr.cell? ⟨b, o + k * 6, none⟩ = some (.int .i64 q.item) := hcell k q hq 0 _ rfl
          have a1 : wr.cell? ⟨b, o + k * 6 + 1, none⟩ = some (.int .i64 q.acts) := hcell k q hq 1 _ rfl
          have a2 : wr.cell? ⟨b, o + k * 6 + 2, none⟩ = some (.int .i64 q.regions) := hcell k q hq 2 _ rfl
          have a3 : wr.cell? ⟨b, o + k * 6 + 3, none⟩ = some (.int .i64 q.plays) := hcell k q hq 3 _ rfl
          have a4 : wr.cell? ⟨b, o + k * 6 + 4, none⟩ = some (.int .i64 q.fr) := hcell k q hq 4 _ rfl
          have a5 : wr.cell? ⟨b, o + k * 6 + 5, none⟩ = some (.int .i64 q.tw) := hcell k q hq 5 _ rfl
          have lw := HG.out.b.size
          have g1 : b < wr.heap.size := by omega
          have k0 : (0 : Int) ≤ (k : Int) := by omega
          have k1 : (k : Int) < (n : Int) := by omega
          obtain ⟨pb, hpb⟩ : ∃ b, perB q u = b := ⟨_, rfl⟩
          have HPQ := Lib.hid (HPE.out q)
          rw [hpb] at HPQ
          have HPB := Lib.hid (permK_snoc (u := u) HQ.out)
          rw [hpb] at HPB
          have x0 : wr.cell? ⟨w.heap.size, 0, none⟩ = some (.int .i64 u.item) := RU.out.cell 0
          have x1 : wr.cell? ⟨w.heap.size, 1, none⟩ = some (.int .i64 u.acts) := RU.out.cell 1
          have x2 : wr.cell? ⟨w.heap.size, 2, none⟩ = some (.int .i64 u.region) := RU.out.cell 2
          have x3 : wr.cell? ⟨w.heap.size, 3, none⟩ = some (.int .i64 u.at_) := RU.out.cell 3
          have lx := RU.out.lt
          have hkl := Lib.hid (permK_len l u k)
          have hk12 := Lib.hid (show k ≤ 12 by have := HL.out; omega)
          clear hcell hq hpb
          cases pb with
          | false =>
            go_wp2_with (first | (go_at_call 46; (with_reducible refine Calls.mono (HPQ.out _) ?_); rintro r u3 ⟨rfl, hb⟩; have hb2 := below_to ((Below.refl _ wr).alloc (Nat.le_refl _) (.cells #[.int .i64 q.item, .int .i64 q.acts, .int .i64 q.regions, .int .i64 q.plays, .int .i64 q.fr, .int .i64 q.tw] 52)) hb; have HG := Lib.hid (HG.out.next hb2); have RU := Lib.hid (RU.out.below hb2 RU.out.lt); clear hb hb2))
            go_roundw
            case rel => exact ⟨k + 1, by go_num, by omega, by rw [HPB.out]; simpa using HG, RU⟩
            case measure => simp [intOf]; omega
          | true =>
            go_upto_region 8 with (first | (go_at_call 46; (with_reducible refine Calls.mono (HPQ.out _) ?_); rintro r u3 ⟨rfl, hb⟩; have hb2 := below_to ((Below.refl _ wr).alloc (Nat.le_refl _) (.cells #[.int .i64 q.item, .int .i64 q.acts, .int .i64 q.regions, .int .i64 q.plays, .int .i64 q.fr, .int .i64 q.tw] 52)) hb; have HG := Lib.hid (HG.out.next hb2); have RU := Lib.hid (RU.out.below hb2 RU.out.lt); clear hb hb2))
            clear x0 x1 x2 x3 lx a0 a1 a2 a3 a4 a5 g1 lw
            obtain ⟨A2, c2, w2, hrun, hG, hbB⟩ := HG.out.push (by have := hkl.out; have := hk12.out; omega) (k : Int) k rfl
            have HG2 := Lib.hid (show Gat w (w.heap.size + 1) (permK l u (k + 1)) (.slice A2 ((permK l u k).length + 1) c2) w2 by rw [HPB.out]; exact hG)
            have RU2 := Lib.hid (RU.out.below hbB (by omega))
            clear hG hbB
            go_wp2
            go_roundw
            case rel => exact ⟨k + 1, by go_num, by omega, HG2, RU2⟩
            case measure => simp [intOf]; omega
        · have k1 : ¬ (k : Int) < (n : Int) := by omega
          have hkn : k = l.length := by have := HN.out; omega
          have HX := Lib.hid (show OwnN wr w.heap.size _ (permV l u) by rw [HE.out]; unfold permL OwnN; rw [← hkn]; exact own_lower HG.out.own (by omega))
          obtain ⟨A2, c2, rfl, -⟩ := own_slice HG.out.own
          clear hkn
          go_wp2
          go_ret
          exact ⟨_, rfl, HX.out, HG.out.b⟩
theorem Permits_any (l : List Gr) (u : Us) (A : Option Addr) (n c : Nat) (w : World) (hr : Recs encG 6 w w.heap.size (.slice A n c) l) :
    Calls Try.prog 28 #[.slice A n c, .agg #[.int .i64 u.item, .int .i64 u.acts, .int .i64 u.region, .int .i64 u.at_]] w fun e w' => ∃ A' n' c', e = .returned (.slice A' n' c') ∧ Recs enc1 1 w' w'.heap.size (.slice A' n' c') (zi (permV l u)) ∧ Below w.heap.size w w' := by
  refine (Permits_own l u A n c w hr).mono ?_
  rintro e w' ⟨v, rfl, h1, h2⟩
  obtain ⟨A', c', e2, -⟩ := own_slice h1
  refine ⟨A', _, c', congrArg _ e2, ?_, h2⟩
  rw [← e2]
  exact ints_own h1 (zi_len _)
end Go.Proofs.Ytenojfniknjeiaa
