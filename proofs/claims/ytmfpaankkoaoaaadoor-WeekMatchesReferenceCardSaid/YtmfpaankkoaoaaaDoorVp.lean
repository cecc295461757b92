/- Spells. -/
import Derived.Test.YtmfpaankkoaoaaaDoorVo
namespace Go.Proofs.YtmfpaankkoaoaaaDoor
open Go.RowKit Go.Shelf
attribute [local go_sem] Oper.semAt_some
attribute [local go_sem ↓] append_appN

def ip (p : Nat × Nat) : Int × Int := ((p.1 : Int), (p.2 : Int))
/-- What Spells says: the spells in order, and the error. -/
def spsV (L : List Int) (a b : Int) : List (Nat × Nat) × Int := if validW L && isSpl a b then ((pcs L a.toNat b.toNat).foldl addSp [], 0) else ([], 60)
theorem sps_ok {L : List Int} {a b : Nat} (h : validW L = true) (h' : isSpl a b = true) : spsV L a b = ((pcs L a b).foldl addSp [], 0) := by
  unfold spsV; rw [h, h']; rfl
theorem sps_bad {L : List Int} {a b : Int} (h : (validW L && isSpl a b) = false) : spsV L a b = ([], 60) := by
  unfold spsV; rw [h]; rfl
theorem pcl_len {H : Nat → List (Nat × Nat)} (hH : ∀ k, (H k).length ≤ 25) (a b : Nat) : ∀ f d, (pcl H a b f d).length ≤ f * 25
  | 0, _ => by simp [pcl]
  | f + 1, d => by
    unfold pcl
    split
    · have ih := pcl_len hH a b f (d + 1)
      have h1 : (dayP a b d (H (d % 7))).length ≤ 25 := by
        unfold dayP
        exact Nat.le_trans (List.length_filterMap_le _ _) (by rw [List.length_map]; exact hH _)
      rw [List.length_append]; omega
    · simp
theorem pcs_len (L : List Int) (a b : Nat) : (pcs L a b).length ≤ 2925 :=
  Nat.le_trans (pcl_len (fun k => rl_len 25 (hrs L k) 0) a b _ _) (by omega)
theorem addSp_len (out : List (Nat × Nat)) (p : Nat × Nat) : (addSp out p).length ≤ out.length + 1 := by
  rcases List.eq_nil_or_concat out with rfl | ⟨init, q, rfl⟩
  · simp [addSp_nil]
  · rw [List.concat_eq_append]
    by_cases h : q.2 = p.1
    · rw [addSp_join init q p h]; simp
    · unfold addSp; simp [h]
theorem fold_len : ∀ (pre out : List (Nat × Nat)), (pre.foldl addSp out).length ≤ out.length + pre.length
  | [], out => by simp
  | p :: pre, out => by
    have := fold_len pre (addSp out p)
    have := addSp_len out p
    simp only [List.foldl_cons, List.length_cons]; omega
theorem addSp_new (out : List (Nat × Nat)) (q p : Nat × Nat) (h : ¬ q.2 = p.1) : addSp (out ++ [q]) p = (out ++ [q]) ++ [p] := by
  unfold addSp; simp [h]

theorem push_pair {w : World} {B n : Nat} {v : Value} {l : List (Int × Int)} (p q : Int) (hrow : w.ownsRow B 25 2 v n (flat2 l)) (hn : n ≤ 100000) (hB : B ≤ w.heap.size) :
    ∃ A c w', Sem.run Tryd.prog (appN #[36, 36] 36 #[v, .slice (some ⟨w.heap.size, 0, none⟩) 1 1]) (w.alloc (.cells #[.int .i64 p, .int .i64 q] 25)) = .ok (.slice A (n + 1) c) w' ∧
      w'.ownsRow B 25 2 (.slice A (n + 1) c) (n + 1) (flat2 (l ++ [(p, q)])) ∧ (w.alloc (.cells #[.int .i64 p, .int .i64 q] 25)).grownBy w' v.ownBlock ∧ ((Value.slice A (n + 1) c).ownBlock = v.ownBlock ∨ (Value.slice A (n + 1) c).ownBlock = some (w.heap.size + 1)) := by
  obtain ⟨i0, hi0, hz0, hz1, hz2⟩ := info_parts infoSpell
  have hnews : ∀ j u, (flat2 [(p, q)])[j]? = some u → (w.alloc (.cells #[.int .i64 p, .int .i64 q] 25)).cell? (Addr.add ⟨w.heap.size, 0, none⟩ j) = some u := fun j u hj => by
    have hc := (Row.new w 25 #[.int .i64 p, .int .i64 q]).cell j
    have ha : Addr.add ⟨w.heap.size, 0, none⟩ j = ⟨w.heap.size, j, none⟩ := by rw [Addr.add_lit, Nat.zero_add]
    rw [ha, hc]; simpa [flat2, enc2] using hj
  have hone : ∀ u ∈ flat2 [(p, q)], u.oneCell' = true := fun u hu => by
    simp only [flat2, List.mem_flatMap, enc2, List.mem_cons, List.not_mem_nil, or_false] at hu
    obtain ⟨x, _, rfl | rfl⟩ := hu <;> rfl
  obtain ⟨v', w', hrun, hown, hgr, -, hloc⟩ := run_append_own_at (P := Tryd.prog) (w := w.alloc (.cells #[.int .i64 p, .int .i64 q] 25)) B 36 36 25 i0 (.agg #[.int .i64 0, .int .i64 0]) 2 16 Tryd.underlying36 hi0 hz0 hz1 hz2 rfl (by decide)
    v n _ (hrow.alloc _) ⟨w.heap.size, 0, none⟩ 1 1 (flat2 [(p, q)]) rfl hnews hone (by unfold maxLen; omega) (by omega) (by simp; omega)
  obtain ⟨A, c, rfl, -⟩ := own_slice hown
  rw [World.size_alloc] at hloc
  exact ⟨A, c, w', hrun, by rw [flat2_append]; exact hown, hgr, hloc⟩
theorem flat2_set (o : List (Int × Int)) (q : Int × Int) (y : Int) : (flat2 (o ++ [q])).set (o.length * 2 + 1) (.int .i64 y) = flat2 (o ++ [(q.1, y)]) := by
  rw [flat2_append, flat2_append, List.set_append_right _ _ (by rw [flat2_len]; omega), flat2_len]
  rw [show o.length * 2 + 1 - o.length * 2 = 1 by omega]
  rfl
/-- The last spell's end, in a row of one's own. -/
theorem own_last {w : World} {B : Nat} {v : Value} {o : List (Int × Int)} {q : Int × Int} (h : w.ownsRow B 25 2 v (o.length + 1) (flat2 (o ++ [q]))) (y : Int) :
    ∃ g c, v = .slice (some ⟨g, 0, none⟩) (o.length + 1) c ∧ B ≤ g ∧ g < w.heap.size ∧ w.cell? ⟨g, o.length * 2 + 1, none⟩ = some (.int .i64 q.2) ∧ w.frozen? ⟨g, o.length * 2 + 1, none⟩ = false ∧
      ∀ u : World, u.heap[g]? = w.heap[g]? → (u.setCell ⟨g, o.length * 2 + 1, none⟩ (.int .i64 y)).ownsRow B 25 2 v (o.length + 1) (flat2 (o ++ [(q.1, y)])) := by
  have hget : (flat2 (o ++ [q]))[o.length * 2 + 1]? = some (.int .i64 q.2) := flat2_get (o ++ [q]) o.length 1 q _ (by simp) rfl
  have hsz : (flat2 (o ++ [q])).length = (o.length + 1) * 2 := by rw [flat2_len]; simp
  rcases h.2 with ⟨_, h0⟩ | ⟨g, c, cur, hv, hB, hh, h1, h2, h3, h4⟩
  · omega
  · have hrow : Row w g 25 cur := hh
    have hcur : cur[o.length * 2 + 1]? = some (.int .i64 q.2) := by
      rw [← hget, ← h4, List.getElem?_take, if_pos (by omega), Array.getElem?_toList]
    refine ⟨g, c, hv, hB, hrow.lt, (hrow.cell _).trans hcur, hrow.free _, fun u hu => ⟨by rw [flat2_len]; simp, .inr ⟨g, c, cur.setIfInBounds (o.length * 2 + 1) (.int .i64 y), hv, hB, ?_, h1, h2, by simpa using h3, ?_⟩⟩⟩
    · exact (show Row u g 25 cur from hu.trans hh).put _ _
    · rw [Array.toList_setIfInBounds, List.take_set, h4, flat2_set]
structure SInv (w : World) (Bt n0 : Nat) (out : List (Int × Int)) (Y : World) : Prop where
  row : ∃ v, Row Y Bt 36 #[v] ∧ Y.ownsRow n0 25 2 v out.length (flat2 out)
  b : Below w.heap.size w Y
  s : n0 ≤ Y.heap.size
theorem SInv.turn {w Y Z : World} {Bt n0 B0 : Nat} {out : List (Int × Int)} {row : Option Nat} (h : SInv w Bt n0 out Y) (hg : Y.grownBy Z row) (hr : Turns B0 Y row) (hB : w.heap.size ≤ B0) : SInv w Bt n0 out Z := by
  obtain ⟨⟨v, h1, h2⟩, h4, h5⟩ := h
  exact ⟨⟨v, h1.turn hg hr, own_turn h2 hg hr⟩, h4.grown hg h4.size (fun k e => Nat.le_trans hB (hr k e).1), Nat.le_trans h5 hg.size⟩
theorem SInv.no {w Y : World} {Bt n0 : Nat} {out : List (Int × Int)} (h : SInv w Bt n0 out Y) {k : Nat} (hk : NoT Bt Y k) : k = Bt ∨ (n0 ≤ k ∧ k < Y.heap.size ∧ ∃ o : Obj, Y.heap[k]? = some o ∧ o.isCells = true) := by
  obtain ⟨⟨v, h1, h2⟩, h4, h5⟩ := h
  rcases hk with rfl | ⟨v', hv', hk⟩
  · exact .inl rfl
  · rw [h1.cell 0] at hv'; cases hv'
    exact .inr (own_cells h2 hk)
theorem SInv.noTurn {w Y Z : World} {Bt n0 B0 : Nat} {out : List (Int × Int)} {row : Option Nat} {k : Nat} (h : SInv w Bt n0 out Y) (hg : Y.grownBy Z row) (hr : Turns B0 Y row) (hk : NoT Bt Z k) : NoT Bt Y k := by
  obtain ⟨⟨v, h1, h2⟩, h4, h5⟩ := h
  refine hk.imp id ?_
  rintro ⟨v', hv', hk⟩
  rw [(h1.turn hg hr).cell 0] at hv'
  exact ⟨v', by rw [h1.cell 0]; exact hv', hk⟩
theorem SInv.drew {w Y : World} {Bt n0 : Nat} {out : List (Int × Int)} (h : SInv w Bt n0 out Y) : SInv w Bt n0 out Y.drew := ⟨h.row, h.b.drew, h.s⟩
theorem round_drew {Bt : Nat} {A B : World} (h : RoundK (NoT Bt) A B) : RoundK (NoT Bt) A B.drew := ⟨h.keeps.drew, h.grow⟩
/-- A round that has appended a spell. -/
theorem spell_push {w Y w6 : World} {Bt n0 sz c : Nat} {v : Value} {A : Option Addr} {out : List (Int × Int)} {p q : Int} (h1 : Bt < n0) (h5 : w.heap.size ≤ Bt) (hrt : Row Y Bt 36 #[v]) (hb : Below w.heap.size w Y) (hs : n0 ≤ Y.heap.size) (h3 : sz ≤ Y.heap.size)
    (own5 : Y.ownsRow n0 25 2 v out.length (flat2 out)) (hown6 : w6.ownsRow n0 25 2 (.slice A (out.length + 1) c) (out.length + 1) (flat2 (out ++ [(p, q)]))) (hgr6 : (Y.alloc (.cells #[.int .i64 p, .int .i64 q] 25)).grownBy w6 v.ownBlock) (hloc6 : (Value.slice A (out.length + 1) c).ownBlock = v.ownBlock ∨ (Value.slice A (out.length + 1) c).ownBlock = some (Y.heap.size + 1)) :
    RoundK (NoT Bt) Y (w6.setCell ⟨Bt, 0, none⟩ (.slice A (out.length + 1) c)) ∧ SInv w Bt n0 (out ++ [(p, q)]) (w6.setCell ⟨Bt, 0, none⟩ (.slice A (out.length + 1) c)) ∧ sz ≤ (w6.setCell ⟨Bt, 0, none⟩ (.slice A (out.length + 1) c)).heap.size := by
  have hs6 := hgr6.size
  simp only [World.size_alloc] at hs6
  have hlow : ∀ r, v.ownBlock = some r → n0 ≤ r := fun r e => (own_cells own5 e).1
  have hrt6 : Row w6 Bt 36 #[v] := (hrt.alloc _).grown hgr6 (fun r e => Nat.lt_of_lt_of_le h1 (hlow r e))
  have hrow := hrt6.put 0 (.slice A (out.length + 1) c)
  have hb6 : Below w.heap.size w w6 := (hb.alloc hb.size _).grown hgr6 (by have := hb.size; simp; omega) (fun r e => by have := hlow r e; omega)
  have hk : Keeps (NoT Bt Y) Y w6 := (Keeps.of_below ((Below.refl _ Y).alloc (Nat.le_refl _) _)).trans (Keeps.of_grown hgr6 (fun r e => .inr ⟨v, hrt.cell 0, e⟩))
  refine ⟨⟨hk.trans (Keeps.setCell (p := ⟨Bt, 0, none⟩) (.inl rfl) _), fun k hkk => ?_⟩, ⟨⟨_, hrow, ?_⟩, hb6.setCell (p := ⟨Bt, 0, none⟩) h5 _, by simp [World.setCell]; omega⟩, by simp [World.setCell]; omega⟩
  · rcases hkk with rfl | ⟨v', hv', hkk⟩
    · exact .inl (.inl rfl)
    · rw [hrow.cell 0] at hv'
      have e : v' = .slice A (out.length + 1) c := (Option.some.inj hv').symm
      subst e
      rcases hloc6 with h | h
      · rw [h] at hkk; exact .inl (.inr ⟨v, hrt.cell 0, hkk⟩)
      · rw [h] at hkk; cases hkk; exact .inr (by omega)
  · rw [List.length_append]
    exact own_keep hown6 fun k e => Below.heap_setCell _ _ _ _ (by have := (own_cells hown6 e).1; dsimp only; omega)
/-- A round that has moved the last spell's end. -/
theorem spell_join {w Y : World} {Bt n0 sz g c : Nat} {o : List (Int × Int)} {q : Int × Int} {y : Int} (h1 : Bt < n0) (h5 : w.heap.size ≤ Bt) (hrt : Row Y Bt 36 #[.slice (some ⟨g, 0, none⟩) (o.length + 1) c]) (hb : Below w.heap.size w Y) (hs : n0 ≤ Y.heap.size) (h3 : sz ≤ Y.heap.size) (hg : n0 ≤ g)
    (hset : ∀ u : World, u.heap[g]? = Y.heap[g]? → (u.setCell ⟨g, o.length * 2 + 1, none⟩ (.int .i64 y)).ownsRow n0 25 2 (.slice (some ⟨g, 0, none⟩) (o.length + 1) c) (o.length + 1) (flat2 (o ++ [(q.1, y)]))) :
    RoundK (NoT Bt) Y (Y.setCell ⟨g, o.length * 2 + 1, none⟩ (.int .i64 y)) ∧ SInv w Bt n0 (o ++ [(q.1, y)]) (Y.setCell ⟨g, o.length * 2 + 1, none⟩ (.int .i64 y)) ∧ sz ≤ (Y.setCell ⟨g, o.length * 2 + 1, none⟩ (.int .i64 y)).heap.size := by
  have hrow := hrt.far (p := ⟨g, o.length * 2 + 1, none⟩) (by dsimp only; omega) (.int .i64 y)
  refine ⟨⟨Keeps.setCell (p := ⟨g, o.length * 2 + 1, none⟩) (.inr ⟨_, hrt.cell 0, rfl⟩) _, fun k hkk => ?_⟩, ⟨⟨_, hrow, ?_⟩, hb.setCell (p := ⟨g, o.length * 2 + 1, none⟩) (by have := hb.size; dsimp only; omega) _, by simp [World.setCell]; omega⟩, by simp [World.setCell]; omega⟩
  · rcases hkk with rfl | ⟨v', hv', hkk⟩
    · exact .inl (.inl rfl)
    · rw [hrow.cell 0] at hv'
      exact .inl (.inr ⟨v', by rw [hrt.cell 0]; exact hv', hkk⟩)
  · rw [List.length_append]
    exact hset Y rfl
set_option maxRecDepth 100000 in
set_option maxHeartbeats 8000000 in
theorem spells_any (L : List Int) (h7 : L.length = 7) (a b : Int) (w : World) (hT : TzT w) (h2 : tzG < w.heap.size) : Calls Tryd.prog 14 #[wv L, .agg #[.int .i64 a, .int .i64 b]] w fun e w' =>
    ∃ v, e = .returned (.tuple #[v, .int .i64 (spsV L a b).2]) ∧ w'.ownsRow w.heap.size 25 2 v (spsV L a b).1.length (flat2 ((spsV L a b).1.map ip)) ∧ Below w.heap.size w w' := by
  have HVA := Lib.hid (fun u => valid_any L h7 u)
  have HSA := Lib.hid (fun u => isSpell_any a b u)
  have HPC := Lib.hid (fun u => pieces_call L h7 a b u)
  have HT := Lib.hid hT
  have HPP := Lib.hid (fun (n : Nat) (hn : 6 ≤ n) (Bs Bw : Nat) hv (a' b' : Nat) hab hb no u hu => pieces_p n hn Bs Bw L h7 hv a' b' hab hb no u hu)
  have HOK := Lib.hid (fun (a' b' : Nat) (h : validW L = true) (h' : isSpl a' b' = true) => sps_ok h h')
  have HBAD := Lib.hid (fun (h : (validW L && isSpl a b) = false) => sps_bad h)
  have HTI := Lib.hid (fun hv (a' b' : Nat) hb hab => tiles_pcs L h7 hv a' b' hb hab)
  have HLEN := Lib.hid (fun (a' b' : Nat) => pcs_len L a' b')
  obtain ⟨LL, hL⟩ : ∃ LL, L = LL := ⟨_, rfl⟩
  obtain ⟨x0, x1, x2, x3, x4, x5, x6, rfl⟩ := seven h7
  have hwv : wv LL = .agg #[.int .i64 x0, .int .i64 x1, .int .i64 x2, .int .i64 x3, .int .i64 x4, .int .i64 x5, .int .i64 x6] := by rw [← hL]; rfl
  have hin : ints LL = #[.int .i64 x0, .int .i64 x1, .int .i64 x2, .int .i64 x3, .int .i64 x4, .int .i64 x5, .int .i64 x6] := by rw [← hL]; rfl
  simp only [hL] at HVA HPC HPP HTI HOK HBAD HLEN ⊢
  rw [hwv] at HVA HPC ⊢
  rw [hin] at HPC HPP
  clear hwv hin h7 hL hT
  refine (callsIn_wide (n := 12)).1 ?_
  refine callsIn_of_wp_marks Tryd.func14 rfl trivial ?_ rfl
  simp only [Tryd.ntmps14, List.size_toArray, List.length_cons, List.length_nil, Nat.reduceAdd, Nat.reduceSub, Array.replicate_succ, Array.replicate_zero, List.push_toArray, List.append_toArray, List.nil_append, List.cons_append]
  cases h1 : validW LL with
  | false =>
    have HV := Lib.hid (fun u => h1 ▸ HVA.out u)
    have HB := Lib.hid (HBAD.out (by rw [h1]; rfl))
    clear HVA HSA HPC HPP HOK HBAD h1 HTI HLEN
    gi_wp2_with ((refine ⟨trivial, ?_⟩; gi_at_call 6; ((with_reducible refine CallsIn.mono (callsIn_wide.2 (HV.out _)) ?_); rintro e' w1 ⟨rfl, hb1⟩; obtain ⟨hr1, hr2, hr3, hr4⟩ := two_boxes hb1; have HB1 := Lib.hid hr3; have HW1 := Lib.hid hr1; have HS1 := Lib.hid hr2; have e0 := hr2.cell 0; have e1 := hr2.cell 1; obtain ⟨y0, y1, y2, y3, y4, y5, y6, -⟩ := seven_cells (show Row w1 w.heap.size 23 (ints [x0, x1, x2, x3, x4, x5, x6]) from hr1); have le1 := hr4; clear hb1 hr1 hr2 hr3 hr4)))
    refine ⟨trivial, ?_⟩
    gi_wp2
    exact ⟨_, results_tmp2 rfl _ _ _, .slice none 0 0, by rw [HB.out]; rfl, by rw [HB.out]; exact World.ownsRow_nil _ _ _ _, HB1.out⟩
  | true =>
    have HV := Lib.hid (fun u => h1 ▸ HVA.out u)
    cases h2' : isSpl a b with
    | false =>
      have HS := Lib.hid (fun u => h2' ▸ HSA.out u)
      have HB := Lib.hid (HBAD.out (by rw [h1, h2']; rfl))
      clear HVA HSA HPC HPP HOK HBAD h1 h2' HTI HLEN
      gi_wp2_with (first | (refine ⟨trivial, ?_⟩; gi_at_call 6; ((with_reducible refine CallsIn.mono (callsIn_wide.2 (HV.out _)) ?_); rintro e' w1 ⟨rfl, hb1⟩; obtain ⟨hr1, hr2, hr3, hr4⟩ := two_boxes hb1; have HB1 := Lib.hid hr3; have HW1 := Lib.hid hr1; have HS1 := Lib.hid hr2; have e0 := hr2.cell 0; have e1 := hr2.cell 1; obtain ⟨y0, y1, y2, y3, y4, y5, y6, -⟩ := seven_cells (show Row w1 w.heap.size 23 (ints [x0, x1, x2, x3, x4, x5, x6]) from hr1); have le1 := hr4; clear hb1 hr1 hr2 hr3 hr4)) | (refine ⟨trivial, ?_⟩; gi_at_call 34; ((with_reducible refine CallsIn.mono (callsIn_wide.2 (HS.out _)) ?_); rintro e' w2 ⟨rfl, hb2⟩; have hw2 := HW1.out.below hb2 HW1.out.lt; have hs2 := HS1.out.below hb2 HS1.out.lt; clear e0 e1 y0 y1 y2 y3 y4 y5 y6; have e0 := hs2.cell 0; have e1 := hs2.cell 1; obtain ⟨y0, y1, y2, y3, y4, y5, y6, -⟩ := seven_cells (show Row w2 w.heap.size 23 (ints [x0, x1, x2, x3, x4, x5, x6]) from hw2); have HB2 := Lib.hid (below_to HB1.out hb2); have le2 := Nat.le_trans le1 hb2.size; have lt0 : w.heap.size < w2.heap.size := (by omega); have lt1 : w.heap.size + 1 < w2.heap.size := (by omega); clear hb2 hw2 hs2)))
      exact ⟨_, results_tmp2 rfl _ _ _, .slice none 0 0, by rw [HB.out]; rfl, by rw [HB.out]; exact World.ownsRow_nil _ _ _ _, HB2.out⟩
    | true =>
      have HS := Lib.hid (fun u => h2' ▸ HSA.out u)
      obtain ⟨ha, hab, hb⟩ := (isSpl_iff a b).1 h2'
      obtain ⟨a, rfl⟩ := Int.eq_ofNat_of_zero_le ha
      obtain ⟨b, rfl⟩ := Int.eq_ofNat_of_zero_le (show 0 ≤ b by omega)
      have hab' : a < b := by omega
      have hb' : b ≤ 10000000 := by omega
      have HR := Lib.hid (HOK.out a b h1 h2')
      have HTT := Lib.hid (HTI.out h1 a b hb' hab')
      have HPL := Lib.hid (HLEN.out a b)
      have HPQ := Lib.hid (fun (n : Nat) (hn : 6 ≤ n) (Bs Bw : Nat) no u hu => HPP.out n hn Bs Bw h1 a b hab' hb' no u hu)
      obtain ⟨full, hfull⟩ : ∃ f, pcs LL a b = f := ⟨_, rfl⟩
      rw [hfull] at HR HTT HPL HPQ
      clear HVA HSA HPP HOK HBAD h1 h2' ha hab hb HTI HLEN hfull
      gi_wp2_with (first | (refine ⟨trivial, ?_⟩; gi_at_call 6; ((with_reducible refine CallsIn.mono (callsIn_wide.2 (HV.out _)) ?_); rintro e' w1 ⟨rfl, hb1⟩; obtain ⟨hr1, hr2, hr3, hr4⟩ := two_boxes hb1; have HB1 := Lib.hid hr3; have HW1 := Lib.hid hr1; have HS1 := Lib.hid hr2; have e0 := hr2.cell 0; have e1 := hr2.cell 1; obtain ⟨y0, y1, y2, y3, y4, y5, y6, -⟩ := seven_cells (show Row w1 w.heap.size 23 (ints [x0, x1, x2, x3, x4, x5, x6]) from hr1); have le1 := hr4; clear hb1 hr1 hr2 hr3 hr4)) | (refine ⟨trivial, ?_⟩; gi_at_call 34; ((with_reducible refine CallsIn.mono (callsIn_wide.2 (HS.out _)) ?_); rintro e' w2 ⟨rfl, hb2⟩; have hw2 := HW1.out.below hb2 HW1.out.lt; have hs2 := HS1.out.below hb2 HS1.out.lt; clear e0 e1 y0 y1 y2 y3 y4 y5 y6; have e0 := hs2.cell 0; have e1 := hs2.cell 1; obtain ⟨y0, y1, y2, y3, y4, y5, y6, -⟩ := seven_cells (show Row w2 w.heap.size 23 (ints [x0, x1, x2, x3, x4, x5, x6]) from hw2); have HB2 := Lib.hid (below_to HB1.out hb2); have le2 := Nat.le_trans le1 hb2.size; have lt0 : w.heap.size < w2.heap.size := (by omega); have lt1 : w.heap.size + 1 < w2.heap.size := (by omega); clear hb2 hw2 hs2)) | (refine ⟨trivial, ?_⟩; gi_at_call 31; ((with_reducible refine CallsIn.mono (callsIn_wide.2 (HPC.out _)) ?_); rintro e' w3 ⟨rfl, rfl⟩)))
      obtain ⟨X, hX⟩ : ∃ X, (((w2.alloc (.cells #[.slice none 0 0] 36)).alloc (.cells #[.int .i64 x0, .int .i64 x1, .int .i64 x2, .int .i64 x3, .int .i64 x4, .int .i64 x5, .int .i64 x6] 23)).alloc (.cells #[.int .i64 (a : Int), .int .i64 (b : Int)] 25)) = X := ⟨_, rfl⟩
      have hsX : X.heap.size = w2.heap.size + 1 + 1 + 1 := by rw [← hX]; simp
      have HXB : Hid (Row X w2.heap.size 36 #[.slice none 0 0]) := Lib.hid (by rw [← hX]; exact ((Row.new _ _ _).alloc _).alloc _)
      have HXW : Hid (Row X (w2.heap.size + 1) 23 #[.int .i64 x0, .int .i64 x1, .int .i64 x2, .int .i64 x3, .int .i64 x4, .int .i64 x5, .int .i64 x6]) := Lib.hid (by
        rw [← hX]
        have := Row.new (w2.alloc (.cells #[.slice none 0 0] 36)) 23 #[.int .i64 x0, .int .i64 x1, .int .i64 x2, .int .i64 x3, .int .i64 x4, .int .i64 x5, .int .i64 x6]
        rw [World.size_alloc] at this
        exact this.alloc _)
      have HXS : Hid (Row X (w2.heap.size + 1 + 1) 25 #[.int .i64 (a : Int), .int .i64 (b : Int)]) := Lib.hid (by
        rw [← hX]
        have := Row.new ((w2.alloc (.cells #[.slice none 0 0] 36)).alloc (.cells #[.int .i64 x0, .int .i64 x1, .int .i64 x2, .int .i64 x3, .int .i64 x4, .int .i64 x5, .int .i64 x6] 23)) 25 #[.int .i64 (a : Int), .int .i64 (b : Int)]
        simp only [World.size_alloc] at this
        exact this)
      have HXL : Hid (Below w.heap.size w X) := Lib.hid (by rw [← hX]; exact ((HB2.out.alloc HB2.out.size _).alloc (by simp; omega) _).alloc (by simp; omega) _)
      have HXT : Hid (TzT X) := Lib.hid (HT.out.keep HXL.out h2)
      rw [hX]
      clear hX e0 e1 y0 y1 y2 y3 y4 y5 y6
      refine rangeFunc_p (F := Fence.wide) rfl (by decide) (gf := 54) (lb := #[.pointer (some ⟨w2.heap.size + 1 + 1, 0, none⟩), .pointer (some ⟨w2.heap.size + 1, 0, none⟩)]) rfl trivial (enters_of Tryd.func54 (by kernel_rfl) rfl)
        (HPQ.out 11 (by decide) (w2.heap.size + 1 + 1) (w2.heap.size + 1) (fun Y k => NoT w2.heap.size Y k ∨ k = X.heap.size + 1) X (by omega) HXS.out HXW.out HXT.out) (fun _ => rfl) (fun k hk => by rcases hk with rfl | rfl | rfl <;> omega)
        (fun pre Y => SInv w w2.heap.size X.heap.size ((pre.foldl addSp []).map ip) Y)
        (fun _ _ _ => False) ?oI (fun _ _ _ _ _ hs _ _ => hs) ⟨⟨_, HXB.out, World.ownsRow_nil X _ _ _⟩, HXL.out, Nat.le_refl _⟩ ?hno (fun _ _ _ _ _ h hg hr hk => SInv.noTurn h hg hr hk)
        (fun _ x a' Y => ∃ (B : Nat) (z0 z1 z2 z3 z4 z5 z8 z9 z10 z11 z12 z13 z14 z15 z16 z17 z18 z19 z20 z21 z22 z23 z24 z25 z26 z27 z28 z29 z30 z31 z32 z33 z34 z35 z36 z37 z38 z39 z40 z41 z42 z43 z44 z45 z46 : Value), Row Y B 25 #[.int .i64 (x.1 : Int), .int .i64 (x.2 : Int)] ∧ w2.heap.size < B ∧ a' = { tmps := #[z0, z1, z2, z3, z4, z5, .pointer (some ⟨w2.heap.size, 0, none⟩), .pointer (some ⟨B, 0, none⟩), z8, z9, z10, z11, z12, z13, z14, z15, z16, z17, z18, z19, z20, z21, z22, z23, z24, z25, z26, z27, z28, z29, z30, z31, z32, z33, z34, z35, z36, z37, z38, z39, z40, z41, z42, z43, z44, z45, z46], defers := [] }) ?hAx ?assign ?body ?done (fun _ _ _ _ _ _ h _ => h.elim)
      case oI =>
        rintro pre Y Z row h1 hg hr
        exact h1.turn hg hr (by omega)
      case hno =>
        rintro pre Y k h1 hk
        have hs := h1.s
        rcases h1.no hk with rfl | ⟨h3, h4, h5⟩
        · obtain ⟨⟨v, h6, h7⟩, _, _⟩ := h1
          exact ⟨h6.lt, fun h => by rcases h with h | h | h <;> omega, .inr (by omega)⟩
        · exact ⟨h4, fun h => by rcases h with h | h | h <;> omega, .inl h5⟩
      case hAx =>
        rintro pre x a' _ Y Z row ⟨B, z0, z1, z2, z3, z4, z5, z8, z9, z10, z11, z12, z13, z14, z15, z16, z17, z18, z19, z20, z21, z22, z23, z24, z25, z26, z27, z28, z29, z30, z31, z32, z33, z34, z35, z36, z37, z38, z39, z40, z41, z42, z43, z44, z45, z46, h1, h2, h3⟩ hg hr
        exact ⟨B, z0, z1, z2, z3, z4, z5, z8, z9, z10, z11, z12, z13, z14, z15, z16, z17, z18, z19, z20, z21, z22, z23, z24, z25, z26, z27, z28, z29, z30, z31, z32, z33, z34, z35, z36, z37, z38, z39, z40, z41, z42, z43, z44, z45, z46, h1.turn hg hr, h2, h3⟩
      case assign =>
        rintro l' pre x Y K hpre h1 hK
        have lb := h1.s
        gi_wp2
        refine hK _ _ ⟨Keeps.of_below ((Below.refl _ Y).alloc (Nat.le_refl _) _), fun k hk => .inl ?_⟩ ?_ ⟨Y.heap.size, _, _, _, _, _, _, _, _, _, _, _, _, _, _, _, _, _, _, _, _, _, _, _, _, _, _, _, _, _, _, _, _, _, _, _, _, _, _, _, _, _, _, _, _, _, Row.new _ _ _, by omega, rfl⟩
        · obtain ⟨⟨v, h6, h7⟩, _, _⟩ := h1
          refine hk.imp id ?_
          rintro ⟨v', hv', hk⟩
          rw [cell_alloc_lt h6.lt] at hv'
          exact ⟨v', hv', hk⟩
        · obtain ⟨⟨v, h6, h7⟩, h8, h9⟩ := h1
          exact ⟨⟨v, h6.alloc _, own_below h7 ((Below.refl _ Y).alloc (Nat.le_refl _) _)⟩, h8.alloc h8.size _, by simp; omega⟩
      case body =>
        rintro l' pre x a' Y hl hr hpre ⟨⟨v, hrt, hown⟩, hbel, hsz⟩ ⟨B, z0, z1, z2, z3, z4, z5, z8, z9, z10, z11, z12, z13, z14, z15, z16, z17, z18, z19, z20, z21, z22, z23, z24, z25, z26, z27, z28, z29, z30, z31, z32, z33, z34, z35, z36, z37, z38, z39, z40, z41, z42, z43, z44, z45, z46, hB, hlt, rfl⟩
        have hfl := HPL.out
        have hpl := hpre.length_le
        have hol := fold_len pre []
        have hst : (pre ++ [x]).foldl addSp [] = addSp (pre.foldl addSp []) x := by rw [List.foldl_append]; rfl
        have HST := Lib.hid hst
        obtain ⟨u, t⟩ := x
        dsimp only at hB
        have p0 := hB.cell 0
        have p1 := hB.cell 1
        have hge := hbel.size
        rcases List.eq_nil_or_concat (pre.foldl addSp []) with ho | ⟨o, ⟨q1, q2⟩, ho⟩
        · rw [ho] at hown HST
          obtain ⟨A, c, rfl, -⟩ := own_slice hown
          obtain ⟨A2, c2, w6, hrun, hown6, hgr6, hloc6⟩ := push_pair (u : Int) (t : Int) (show Y.drew.ownsRow X.heap.size 25 2 _ _ _ from hown) (by simp) hsz
          rw [show Y.drew.heap.size = Y.heap.size from rfl, show Y.drew.alloc (.cells #[.int .i64 (u : Int), .int .i64 (t : Int)] 25) = (Y.alloc (.cells #[.int .i64 (u : Int), .int .i64 (t : Int)] 25)).drew from rfl] at hrun
          have hgr7 : (Y.alloc (.cells #[.int .i64 (u : Int), .int .i64 (t : Int)] 25)).grownBy w6 _ := ⟨hgr6.os, hgr6.tape, hgr6.output, hgr6.size, hgr6.block⟩
          have HFI := Lib.hid (spell_push (w := w) (sz := X.heap.size) (by omega) (by omega) hrt hbel hsz hsz hown hown6 hgr7 hloc6)
          have HG6 := Lib.hid ((hrt.alloc (.cells #[.int .i64 (u : Int), .int .i64 (t : Int)] 25)).grown hgr7 (fun r e => by have := (own_cells hown e).1; omega))
          obtain ⟨n, hn⟩ : ∃ n, (List.map ip ([] : List (Nat × Nat))).length = n := ⟨_, rfl⟩
          rw [hn] at hrt hrun HFI HG6
          have hn0 : n = 0 := by rw [← hn]; rfl
          have j1 : IntKind.i64.wrap ((n : Int) - 1) = -1 := by rw [hn0]; rfl
          have j2 : ((n : Int) - 1) = -1 := by rw [hn0]; rfl
          have b0 := hrt.cell 0
          have b1 := hrt.free 0
          have b2 := HG6.out.cell 0
          have b3 := HG6.out.free 0
          clear hn hn0 hgr7 hgr6 hloc6 hown6 hown hol hpl hfl hst ho hbel
          gi_wp2
          refine region_round (S := fun _ => True) (by kernel_rfl) (by kernel_rfl) (fun ⟨_, _, h⟩ => h) (trivial) (fun hHeld => ?_)
          refine wpAnyH_take (i := 0) (oi := _) (v := ?_) rfl (by kernel_rfl) (by kernel_rfl) (by kernel_rfl) (fun _ _ _ h => h) (Or.inl ⟨by rfl, ?_⟩) (by assumption) ?_
          rotate_left
          · (intro w hSw; (try dsimp only at hSw); go_simp; all_goals (with_reducible rfl))
          simp only [Act.put, List.getElem_toArray, List.getElem_cons_zero, List.setIfInBounds_toArray, List.set_cons_zero, List.set_cons_succ]
          refine wpAnyH_take (i := 1) (oi := _) (v := ?_) rfl (by kernel_rfl) (by kernel_rfl) (by kernel_rfl) (fun _ _ _ h => h) (Or.inl ⟨by rfl, ?_⟩) (by assumption) ?_
          rotate_left
          · (intro w hSw; (try dsimp only at hSw); go_simp; all_goals (with_reducible rfl))
          simp only [Act.put, List.getElem_toArray, List.getElem_cons_succ, List.getElem_cons_zero, List.setIfInBounds_toArray, List.set_cons_zero, List.set_cons_succ]
          refine wpAnyH_take (i := 2) (oi := _) (v := ?_) rfl (by kernel_rfl) (by kernel_rfl) (by kernel_rfl) (fun _ _ _ h => h) (Or.inl ⟨by rfl, ?_⟩) (by assumption) ?_
          rotate_left
          · (intro w hSw; (try dsimp only at hSw); go_simp; all_goals (with_reducible rfl))
          simp only [Act.put, List.getElem_toArray, List.getElem_cons_succ, List.getElem_cons_zero, List.setIfInBounds_toArray, List.set_cons_zero, List.set_cons_succ]
          refine wpAnyH_take (i := 3) (oi := _) (v := undef) rfl (by kernel_rfl) (by kernel_rfl) (by kernel_rfl) (fun _ _ _ h => h) (Or.inr ⟨by rfl, rfl⟩) (by assumption) ?_
          simp only [Act.put, List.getElem_toArray, List.getElem_cons_succ, List.getElem_cons_zero, List.setIfInBounds_toArray, List.set_cons_zero, List.set_cons_succ]
          refine wpAnyH_take (i := 4) (oi := _) (v := undef) rfl (by kernel_rfl) (by kernel_rfl) (by kernel_rfl) (fun _ _ _ h => h) (Or.inr ⟨by rfl, rfl⟩) (by assumption) ?_
          simp only [Act.put, List.getElem_toArray, List.getElem_cons_succ, List.getElem_cons_zero, List.setIfInBounds_toArray, List.set_cons_zero, List.set_cons_succ]
          refine wpAnyH_take (i := 5) (oi := _) (v := undef) rfl (by kernel_rfl) (by kernel_rfl) (by kernel_rfl) (fun _ _ _ h => h) (Or.inr ⟨by rfl, rfl⟩) (by assumption) ?_
          simp only [Act.put, List.getElem_toArray, List.getElem_cons_succ, List.getElem_cons_zero, List.setIfInBounds_toArray, List.set_cons_zero, List.set_cons_succ]
          refine wpAnyH_take (i := 6) (oi := _) (v := undef) rfl (by kernel_rfl) (by kernel_rfl) (by kernel_rfl) (fun _ _ _ h => h) (Or.inr ⟨by rfl, rfl⟩) (by assumption) ?_
          simp only [Act.put, List.getElem_toArray, List.getElem_cons_succ, List.getElem_cons_zero, List.setIfInBounds_toArray, List.set_cons_zero, List.set_cons_succ]
          refine wpAnyH_take (i := 7) (oi := _) (v := undef) rfl (by kernel_rfl) (by kernel_rfl) (by kernel_rfl) (fun _ _ _ h => h) (Or.inr ⟨by rfl, rfl⟩) (by assumption) ?_
          simp only [Act.put, List.getElem_toArray, List.getElem_cons_succ, List.getElem_cons_zero, List.setIfInBounds_toArray, List.set_cons_zero, List.set_cons_succ]
          refine wpAnyH_take (i := 8) (oi := _) (v := undef) rfl (by kernel_rfl) (by kernel_rfl) (by kernel_rfl) (fun _ _ _ h => h) (Or.inr ⟨by rfl, rfl⟩) (by assumption) ?_
          simp only [Act.put, List.getElem_toArray, List.getElem_cons_succ, List.getElem_cons_zero, List.setIfInBounds_toArray, List.set_cons_zero, List.set_cons_succ]
          refine wpAnyH_take (i := 9) (oi := _) (v := undef) rfl (by kernel_rfl) (by kernel_rfl) (by kernel_rfl) (fun _ _ _ h => h) (Or.inr ⟨by rfl, rfl⟩) (by assumption) ?_
          simp only [Act.put, List.getElem_toArray, List.getElem_cons_succ, List.getElem_cons_zero, List.setIfInBounds_toArray, List.set_cons_zero, List.set_cons_succ]
          refine wpAnyH_take (i := 10) (oi := _) (v := undef) rfl (by kernel_rfl) (by kernel_rfl) (by kernel_rfl) (fun _ _ _ h => h) (Or.inr ⟨by rfl, rfl⟩) (by assumption) ?_
          simp only [Act.put, List.getElem_toArray, List.getElem_cons_succ, List.getElem_cons_zero, List.setIfInBounds_toArray, List.set_cons_zero, List.set_cons_succ]
          refine wpAnyH_take (i := 11) (oi := _) (v := ?_) rfl (by kernel_rfl) (by kernel_rfl) (by kernel_rfl) (fun _ _ _ h => h) (Or.inl ⟨by rfl, ?_⟩) (by assumption) ?_
          rotate_left
          · (intro w hSw; (try dsimp only at hSw); go_simp; all_goals (with_reducible rfl))
          simp only [Act.put, List.getElem_toArray, List.getElem_cons_succ, List.getElem_cons_zero, List.setIfInBounds_toArray, List.set_cons_zero, List.set_cons_succ]
          refine wpAnyH_done (by kernel_rfl) ?_ _
          go_simp
          gi_wp2
          obtain ⟨f1, f2, -⟩ := HFI.out
          refine ⟨f1, ?_⟩
          show SInv w w2.heap.size X.heap.size (((pre ++ [(u, t)]).foldl addSp []).map ip) _
          rw [HST.out, addSp_nil]
          exact f2
        · rw [List.concat_eq_append] at ho
          rw [ho] at hown HST hol
          have hlo : ((o ++ [(q1, q2)]).map ip).length = (o.map ip).length + 1 := by simp
          have hmp : (o ++ [(q1, q2)]).map ip = o.map ip ++ [((q1 : Int), (q2 : Int))] := by simp [ip]
          have hown0 := hown
          rw [hlo, hmp] at hown
          have hom : (o.map ip).length ≤ 3000 := by simp at hol hpl ⊢; omega
          obtain ⟨g, c, rfl, hgB, hgl, lc, lf, hset⟩ := own_last hown (t : Int)
          by_cases hq : q2 = u
          · have hq2 : ((q2 : Int) == (u : Int)) = true := by simp [hq]
            have HADD := Lib.hid (addSp_join o (q1, q2) (u, t) hq)
            have HFI := Lib.hid (spell_join (w := w) (sz := X.heap.size) (by omega) (by omega) hrt hbel hsz hsz hgB hset)
            have b0 := hrt.cell 0
            clear hset hown hown0 hol hpl hfl hst ho hlo hmp hbel
            generalize hm : (o.map ip).length = m at HFI lc lf b0 hom ⊢
            have i1 : IntKind.i64.wrap (m : Int) = (m : Int) := by rw [IntKind.wrap_i64]; omega
            have i2 : IntKind.i64.wrap ((m : Int) + 1) = (m : Int) + 1 := by rw [IntKind.wrap_i64]; omega
            have i5 : (0 : Int) ≤ (m : Int) := by omega
            have i6 : (m : Int) < (m : Int) + 1 := by omega
            have i7 : ¬ (m : Int) < 0 := by omega
            gi_wp2
            refine region_round (S := fun u0 => u0.cell? ⟨w2.heap.size, 0, none⟩ = some (.slice (some ⟨g, 0, none⟩) (m + 1) c) ∧ u0.cell? ⟨g, m * 2 + 1, none⟩ = some (.int .i64 (q2 : Int)) ∧ u0.cell? ⟨B, 0, none⟩ = some (.int .i64 (u : Int))) (by kernel_rfl) (by kernel_rfl) (fun ⟨_, _, h⟩ => h) (⟨b0, lc, p0⟩) (fun hHeld => ?_)
            refine wpAnyH_take (i := 0) (oi := _) (v := ?_) rfl (by kernel_rfl) (by kernel_rfl) (by kernel_rfl) (fun _ _ _ h => h) (Or.inl ⟨by rfl, ?_⟩) (by assumption) ?_
            rotate_left
            · (intro w hSw; (try dsimp only at hSw); go_simp; all_goals (with_reducible rfl))
            simp only [Act.put, List.getElem_toArray, List.getElem_cons_zero, List.setIfInBounds_toArray, List.set_cons_zero, List.set_cons_succ]
            refine wpAnyH_take (i := 1) (oi := _) (v := ?_) rfl (by kernel_rfl) (by kernel_rfl) (by kernel_rfl) (fun _ _ _ h => h) (Or.inl ⟨by rfl, ?_⟩) (by assumption) ?_
            rotate_left
            · (intro w hSw; (try dsimp only at hSw); go_simp; all_goals (with_reducible rfl))
            simp only [Act.put, List.getElem_toArray, List.getElem_cons_succ, List.getElem_cons_zero, List.setIfInBounds_toArray, List.set_cons_zero, List.set_cons_succ]
            refine wpAnyH_take (i := 2) (oi := _) (v := ?_) rfl (by kernel_rfl) (by kernel_rfl) (by kernel_rfl) (fun _ _ _ h => h) (Or.inl ⟨by rfl, ?_⟩) (by assumption) ?_
            rotate_left
            · (intro w hSw; (try dsimp only at hSw); go_simp; all_goals (with_reducible rfl))
            simp only [Act.put, List.getElem_toArray, List.getElem_cons_succ, List.getElem_cons_zero, List.setIfInBounds_toArray, List.set_cons_zero, List.set_cons_succ]
            refine wpAnyH_take (i := 3) (oi := _) (v := ?_) rfl (by kernel_rfl) (by kernel_rfl) (by kernel_rfl) (fun _ _ _ h => h) (Or.inl ⟨by rfl, ?_⟩) (by assumption) ?_
            rotate_left
            · (intro w hSw; (try dsimp only at hSw); go_simp; all_goals (with_reducible rfl))
            simp only [Act.put, List.getElem_toArray, List.getElem_cons_succ, List.getElem_cons_zero, List.setIfInBounds_toArray, List.set_cons_zero, List.set_cons_succ]
            refine wpAnyH_take (i := 4) (oi := _) (v := ?_) rfl (by kernel_rfl) (by kernel_rfl) (by kernel_rfl) (fun _ _ _ h => h) (Or.inl ⟨by rfl, ?_⟩) (by assumption) ?_
            rotate_left
            · (intro w hSw; (try dsimp only at hSw); go_simp; all_goals (with_reducible rfl))
            simp only [Act.put, List.getElem_toArray, List.getElem_cons_succ, List.getElem_cons_zero, List.setIfInBounds_toArray, List.set_cons_zero, List.set_cons_succ]
            refine wpAnyH_take (i := 5) (oi := _) (v := ?_) rfl (by kernel_rfl) (by kernel_rfl) (by kernel_rfl) (fun _ _ _ h => h) (Or.inl ⟨by rfl, ?_⟩) (by assumption) ?_
            rotate_left
            · (intro w hSw; (try dsimp only at hSw); go_simp; all_goals (with_reducible rfl))
            simp only [Act.put, List.getElem_toArray, List.getElem_cons_succ, List.getElem_cons_zero, List.setIfInBounds_toArray, List.set_cons_zero, List.set_cons_succ]
            refine wpAnyH_take (i := 6) (oi := _) (v := ?_) rfl (by kernel_rfl) (by kernel_rfl) (by kernel_rfl) (fun _ _ _ h => h) (Or.inl ⟨by rfl, ?_⟩) (by assumption) ?_
            rotate_left
            · (intro w hSw; (try dsimp only at hSw); go_simp; all_goals (with_reducible rfl))
            simp only [Act.put, List.getElem_toArray, List.getElem_cons_succ, List.getElem_cons_zero, List.setIfInBounds_toArray, List.set_cons_zero, List.set_cons_succ]
            refine wpAnyH_take (i := 7) (oi := _) (v := ?_) rfl (by kernel_rfl) (by kernel_rfl) (by kernel_rfl) (fun _ _ _ h => h) (Or.inl ⟨by rfl, ?_⟩) (by assumption) ?_
            rotate_left
            · (intro w hSw; (try dsimp only at hSw); go_simp; all_goals (with_reducible rfl))
            simp only [Act.put, List.getElem_toArray, List.getElem_cons_succ, List.getElem_cons_zero, List.setIfInBounds_toArray, List.set_cons_zero, List.set_cons_succ]
            refine wpAnyH_take (i := 8) (oi := _) (v := ?_) rfl (by kernel_rfl) (by kernel_rfl) (by kernel_rfl) (fun _ _ _ h => h) (Or.inl ⟨by rfl, ?_⟩) (by assumption) ?_
            rotate_left
            · (intro w hSw; (try dsimp only at hSw); go_simp; all_goals (with_reducible rfl))
            simp only [Act.put, List.getElem_toArray, List.getElem_cons_succ, List.getElem_cons_zero, List.setIfInBounds_toArray, List.set_cons_zero, List.set_cons_succ]
            refine wpAnyH_take (i := 9) (oi := _) (v := ?_) rfl (by kernel_rfl) (by kernel_rfl) (by kernel_rfl) (fun _ _ _ h => h) (Or.inl ⟨by rfl, ?_⟩) (by assumption) ?_
            rotate_left
            · (intro w hSw; (try dsimp only at hSw); go_simp; all_goals (with_reducible rfl))
            simp only [Act.put, List.getElem_toArray, List.getElem_cons_succ, List.getElem_cons_zero, List.setIfInBounds_toArray, List.set_cons_zero, List.set_cons_succ]
            refine wpAnyH_take (i := 10) (oi := _) (v := ?_) rfl (by kernel_rfl) (by kernel_rfl) (by kernel_rfl) (fun _ _ _ h => h) (Or.inl ⟨by rfl, ?_⟩) (by assumption) ?_
            rotate_left
            · (intro w hSw; (try dsimp only at hSw); go_simp; all_goals (with_reducible rfl))
            simp only [Act.put, List.getElem_toArray, List.getElem_cons_succ, List.getElem_cons_zero, List.setIfInBounds_toArray, List.set_cons_zero, List.set_cons_succ]
            refine wpAnyH_take (i := 11) (oi := _) (v := ?_) rfl (by kernel_rfl) (by kernel_rfl) (by kernel_rfl) (fun _ _ _ h => h) (Or.inl ⟨by rfl, ?_⟩) (by assumption) ?_
            rotate_left
            · (intro w hSw; (try dsimp only at hSw); go_simp; all_goals (with_reducible rfl))
            simp only [Act.put, List.getElem_toArray, List.getElem_cons_succ, List.getElem_cons_zero, List.setIfInBounds_toArray, List.set_cons_zero, List.set_cons_succ]
            refine wpAnyH_done (by kernel_rfl) ?_ _
            go_simp
            gi_wp2
            obtain ⟨f1, f2, -⟩ := HFI.out
            have e : (o ++ [(q1, t)]).map ip = o.map ip ++ [((q1 : Int), (t : Int))] := by simp [ip]
            refine ⟨round_drew f1, ?_⟩
            show SInv w w2.heap.size X.heap.size (((pre ++ [(u, t)]).foldl addSp []).map ip) _
            rw [HST.out, HADD.out, e]
            exact f2.drew
          · have hq2 : ((q2 : Int) == (u : Int)) = false := by simp; omega
            have HADD := Lib.hid (addSp_new o (q1, q2) (u, t) hq)
            obtain ⟨A2, c2, w6, hrun, hown6, hgr6, hloc6⟩ := push_pair (u : Int) (t : Int) (show Y.drew.ownsRow X.heap.size 25 2 _ _ _ from hown0) (by omega) hsz
            have hgr7 : (Y.alloc (.cells #[.int .i64 (u : Int), .int .i64 (t : Int)] 25)).grownBy w6 _ := ⟨hgr6.os, hgr6.tape, hgr6.output, hgr6.size, hgr6.block⟩
            have HFI := Lib.hid (spell_push (w := w) (sz := X.heap.size) (by omega) (by omega) hrt hbel hsz hsz hown0 hown6 hgr7 hloc6)
            have HG6 := Lib.hid ((hrt.alloc (.cells #[.int .i64 (u : Int), .int .i64 (t : Int)] 25)).grown hgr7 (fun r e => by have := (own_cells hown0 e).1; omega))
            rw [show Y.drew.heap.size = Y.heap.size from rfl, show Y.drew.alloc (.cells #[.int .i64 (u : Int), .int .i64 (t : Int)] 25) = (Y.alloc (.cells #[.int .i64 (u : Int), .int .i64 (t : Int)] 25)).drew from rfl, hlo] at hrun
            rw [hlo] at HFI
            have b2 := HG6.out.cell 0
            have b3 := HG6.out.free 0
            clear hgr7
            have b0 := hrt.cell 0
            have b1 := hrt.free 0
            clear hset hgr6 hloc6 hown6 hown hown0 hol hpl hfl hst ho hlo hmp hbel
            generalize hm : (o.map ip).length = m at HFI lc lf b0 b2 HG6 hrt hom hrun ⊢
            have i1 : IntKind.i64.wrap (m : Int) = (m : Int) := by rw [IntKind.wrap_i64]; omega
            have i2 : IntKind.i64.wrap ((m : Int) + 1) = (m : Int) + 1 := by rw [IntKind.wrap_i64]; omega
            have i5 : (0 : Int) ≤ (m : Int) := by omega
            have i6 : (m : Int) < (m : Int) + 1 := by omega
            have i7 : ¬ (m : Int) < 0 := by omega
            gi_wp2
            refine region_round (S := fun u0 => u0.cell? ⟨w2.heap.size, 0, none⟩ = some (.slice (some ⟨g, 0, none⟩) (m + 1) c) ∧ u0.cell? ⟨g, m * 2 + 1, none⟩ = some (.int .i64 (q2 : Int)) ∧ u0.cell? ⟨B, 0, none⟩ = some (.int .i64 (u : Int))) (by kernel_rfl) (by kernel_rfl) (fun ⟨_, _, h⟩ => h) (⟨b0, lc, p0⟩) (fun hHeld => ?_)
            refine wpAnyH_take (i := 0) (oi := _) (v := ?_) rfl (by kernel_rfl) (by kernel_rfl) (by kernel_rfl) (fun _ _ _ h => h) (Or.inl ⟨by rfl, ?_⟩) (by assumption) ?_
            rotate_left
            · (intro w hSw; (try dsimp only at hSw); go_simp; all_goals (with_reducible rfl))
            simp only [Act.put, List.getElem_toArray, List.getElem_cons_zero, List.setIfInBounds_toArray, List.set_cons_zero, List.set_cons_succ]
            refine wpAnyH_take (i := 1) (oi := _) (v := ?_) rfl (by kernel_rfl) (by kernel_rfl) (by kernel_rfl) (fun _ _ _ h => h) (Or.inl ⟨by rfl, ?_⟩) (by assumption) ?_
            rotate_left
            · (intro w hSw; (try dsimp only at hSw); go_simp; all_goals (with_reducible rfl))
            simp only [Act.put, List.getElem_toArray, List.getElem_cons_succ, List.getElem_cons_zero, List.setIfInBounds_toArray, List.set_cons_zero, List.set_cons_succ]
            refine wpAnyH_take (i := 2) (oi := _) (v := ?_) rfl (by kernel_rfl) (by kernel_rfl) (by kernel_rfl) (fun _ _ _ h => h) (Or.inl ⟨by rfl, ?_⟩) (by assumption) ?_
            rotate_left
            · (intro w hSw; (try dsimp only at hSw); go_simp; all_goals (with_reducible rfl))
            simp only [Act.put, List.getElem_toArray, List.getElem_cons_succ, List.getElem_cons_zero, List.setIfInBounds_toArray, List.set_cons_zero, List.set_cons_succ]
            refine wpAnyH_take (i := 3) (oi := _) (v := ?_) rfl (by kernel_rfl) (by kernel_rfl) (by kernel_rfl) (fun _ _ _ h => h) (Or.inl ⟨by rfl, ?_⟩) (by assumption) ?_
            rotate_left
            · (intro w hSw; (try dsimp only at hSw); go_simp; all_goals (with_reducible rfl))
            simp only [Act.put, List.getElem_toArray, List.getElem_cons_succ, List.getElem_cons_zero, List.setIfInBounds_toArray, List.set_cons_zero, List.set_cons_succ]
            refine wpAnyH_take (i := 4) (oi := _) (v := ?_) rfl (by kernel_rfl) (by kernel_rfl) (by kernel_rfl) (fun _ _ _ h => h) (Or.inl ⟨by rfl, ?_⟩) (by assumption) ?_
            rotate_left
            · (intro w hSw; (try dsimp only at hSw); go_simp; all_goals (with_reducible rfl))
            simp only [Act.put, List.getElem_toArray, List.getElem_cons_succ, List.getElem_cons_zero, List.setIfInBounds_toArray, List.set_cons_zero, List.set_cons_succ]
            refine wpAnyH_take (i := 5) (oi := _) (v := ?_) rfl (by kernel_rfl) (by kernel_rfl) (by kernel_rfl) (fun _ _ _ h => h) (Or.inl ⟨by rfl, ?_⟩) (by assumption) ?_
            rotate_left
            · (intro w hSw; (try dsimp only at hSw); go_simp; all_goals (with_reducible rfl))
            simp only [Act.put, List.getElem_toArray, List.getElem_cons_succ, List.getElem_cons_zero, List.setIfInBounds_toArray, List.set_cons_zero, List.set_cons_succ]
            refine wpAnyH_take (i := 6) (oi := _) (v := ?_) rfl (by kernel_rfl) (by kernel_rfl) (by kernel_rfl) (fun _ _ _ h => h) (Or.inl ⟨by rfl, ?_⟩) (by assumption) ?_
            rotate_left
            · (intro w hSw; (try dsimp only at hSw); go_simp; all_goals (with_reducible rfl))
            simp only [Act.put, List.getElem_toArray, List.getElem_cons_succ, List.getElem_cons_zero, List.setIfInBounds_toArray, List.set_cons_zero, List.set_cons_succ]
            refine wpAnyH_take (i := 7) (oi := _) (v := ?_) rfl (by kernel_rfl) (by kernel_rfl) (by kernel_rfl) (fun _ _ _ h => h) (Or.inl ⟨by rfl, ?_⟩) (by assumption) ?_
            rotate_left
            · (intro w hSw; (try dsimp only at hSw); go_simp; all_goals (with_reducible rfl))
            simp only [Act.put, List.getElem_toArray, List.getElem_cons_succ, List.getElem_cons_zero, List.setIfInBounds_toArray, List.set_cons_zero, List.set_cons_succ]
            refine wpAnyH_take (i := 8) (oi := _) (v := ?_) rfl (by kernel_rfl) (by kernel_rfl) (by kernel_rfl) (fun _ _ _ h => h) (Or.inl ⟨by rfl, ?_⟩) (by assumption) ?_
            rotate_left
            · (intro w hSw; (try dsimp only at hSw); go_simp; all_goals (with_reducible rfl))
            simp only [Act.put, List.getElem_toArray, List.getElem_cons_succ, List.getElem_cons_zero, List.setIfInBounds_toArray, List.set_cons_zero, List.set_cons_succ]
            refine wpAnyH_take (i := 9) (oi := _) (v := ?_) rfl (by kernel_rfl) (by kernel_rfl) (by kernel_rfl) (fun _ _ _ h => h) (Or.inl ⟨by rfl, ?_⟩) (by assumption) ?_
            rotate_left
            · (intro w hSw; (try dsimp only at hSw); go_simp; all_goals (with_reducible rfl))
            simp only [Act.put, List.getElem_toArray, List.getElem_cons_succ, List.getElem_cons_zero, List.setIfInBounds_toArray, List.set_cons_zero, List.set_cons_succ]
            refine wpAnyH_take (i := 10) (oi := _) (v := ?_) rfl (by kernel_rfl) (by kernel_rfl) (by kernel_rfl) (fun _ _ _ h => h) (Or.inl ⟨by rfl, ?_⟩) (by assumption) ?_
            rotate_left
            · (intro w hSw; (try dsimp only at hSw); go_simp; all_goals (with_reducible rfl))
            simp only [Act.put, List.getElem_toArray, List.getElem_cons_succ, List.getElem_cons_zero, List.setIfInBounds_toArray, List.set_cons_zero, List.set_cons_succ]
            refine wpAnyH_take (i := 11) (oi := _) (v := ?_) rfl (by kernel_rfl) (by kernel_rfl) (by kernel_rfl) (fun _ _ _ h => h) (Or.inl ⟨by rfl, ?_⟩) (by assumption) ?_
            rotate_left
            · (intro w hSw; (try dsimp only at hSw); go_simp; all_goals (with_reducible rfl))
            simp only [Act.put, List.getElem_toArray, List.getElem_cons_succ, List.getElem_cons_zero, List.setIfInBounds_toArray, List.set_cons_zero, List.set_cons_succ]
            refine wpAnyH_done (by kernel_rfl) ?_ _
            go_simp
            gi_wp2
            obtain ⟨f1, f2, -⟩ := HFI.out
            have e : ((o ++ [(q1, q2)]) ++ [(u, t)]).map ip = (o ++ [(q1, q2)]).map ip ++ [((u : Int), (t : Int))] := by simp [ip]
            refine ⟨f1, ?_⟩
            show SInv w w2.heap.size X.heap.size (((pre ++ [(u, t)]).foldl addSp []).map ip) _
            rw [HST.out, HADD.out, e]
            exact f2
      case done =>
        rintro D Y rfl ⟨⟨v, hrt, hown⟩, hbel, hsz⟩ hD
        have c0 := hrt.cell 0
        have hlen2 : ((full.foldl addSp []).map ip).length = (full.foldl addSp []).length := List.length_map _
        have hownw : Y.ownsRow w.heap.size 25 2 v (full.foldl addSp []).length (flat2 ((full.foldl addSp []).map ip)) := by
          rw [← hlen2]
          exact ⟨hown.1, hown.2.imp id fun ⟨g, cap, cur, e, hb, rest⟩ => ⟨g, cap, cur, e, Nat.le_trans HXL.out.size hb, rest⟩⟩
        have hneq : ∀ k, v.ownBlock = some k → k ≠ X.heap.size := fun k e h => by
          subst h
          obtain ⟨-, -, o, ho, hc⟩ := own_cells hownw e
          rw [hD] at ho; cases ho; cases hc
        clear hlen2 hown
        gi_wp2
        refine ⟨by simp, .inl ⟨_, _, rfl, run_takeDeferred hD, ?_⟩⟩
        exact ⟨_, results_tmp2 rfl _ _ _, v, by rw [HR.out]; rfl, by rw [HR.out]; exact own_keep hownw (fun k e => World.putObj_heap_other (hneq k e)), hbel.trans (belowK_b (w := w) (Nat.le_refl _) Y _ _ _ (by omega) hD rfl rfl)⟩
end Go.Proofs.YtmfpaankkoaoaaaDoor
