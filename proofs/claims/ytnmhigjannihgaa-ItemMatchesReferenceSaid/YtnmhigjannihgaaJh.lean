/- Talk. -/
import Derived.Test.YtnmhigjannihgaaJg
namespace Go.Proofs.Ytnmhigjannihgaa
open Go.RowKit Go.Shelf

/-- What the region of Talk's step holds. -/
def TkS (B Bg : Nat) (u : World) (a b : Int) (A : Option Addr) (n c : Nat) (x : World) : Prop :=
  Below B u x ∧ x.cell? ⟨u.heap.size, 0, none⟩ = some (.int .i64 a) ∧ x.cell? ⟨u.heap.size, 1, none⟩ = some (.int .i64 b) ∧ x.cell? ⟨Bg, 0, none⟩ = some (.slice A n c)
theorem tk_hold {B Bg : Nat} {u W x : World} {a b : Int} {A : Option Addr} {n c : Nat} (hb : Below B u W) (hr : Row W u.heap.size 53 #[.int .i64 a, .int .i64 b]) (hg : Row W Bg 22 #[.slice A n c]) (hB : B ≤ W.heap.size) (h : Below W.heap.size W x) : TkS B Bg u a b A n c x :=
  ⟨hb.trans (h.mono hB), (hr.below h hr.lt).cell 0, (hr.below h hr.lt).cell 1, (hg.below h hg.lt).cell 0⟩
theorem tk_last {B Bg : Nat} {u x y : World} {a b : Int} {A : Option Addr} {n c : Nat} {v : Value} (h : TkS B Bg u a b A n c x) (hx : u.heap.size < x.heap.size) (hBg : Bg < B) (hB : B ≤ u.heap.size) (hg : ∀ g, v.ownBlock = some g → B ≤ g ∧ g < u.heap.size) (hb : Below B x y) (hk : ∀ j, j < x.heap.size → v.ownBlock ≠ some j → y.heap[j]? = x.heap[j]?) : TkS B Bg u a b A n c y := by
  obtain ⟨h1, h2, h3, h4⟩ := h
  have k1 : y.heap[u.heap.size]? = x.heap[u.heap.size]? := hk _ hx (fun e => by have := (hg _ e).2; omega)
  have k2 : y.heap[Bg]? = x.heap[Bg]? := hk _ (by omega) (fun e => by have := (hg _ e).1; omega)
  have kc : ∀ i, y.cell? ⟨u.heap.size, i, none⟩ = x.cell? ⟨u.heap.size, i, none⟩ := fun i => by unfold World.cell?; rw [k1]
  have kg : ∀ i, y.cell? ⟨Bg, i, none⟩ = x.cell? ⟨Bg, i, none⟩ := fun i => by unfold World.cell?; rw [k2]
  exact ⟨h1.trans hb, (kc 0).trans h2, (kc 1).trans h3, (kg 0).trans h4⟩
set_option maxRecDepth 100000 in
set_option maxHeartbeats 2000000 in
theorem talk1_any {len : Int} (hl : len ≤ 3600) (gone : List (Int × Int)) (hp : partsF len 0 gone) (A : Option Addr) (n c : Nat) (G : List (Int × Int)) (a b : Int) (ha : 0 ≤ a) (hab : a < b) (hb : b ≤ 3600) (v : Value) (B Bg : Nat) (u : World)
    (ho : u.ownsRow B 53 2 v G.length (flat2 G)) (hG : G.length ≤ 100000) (hB : B ≤ u.heap.size) (hr : Recs enc2 2 u B (.slice A n c) gone) (hg : Row u Bg 22 #[.slice A n c]) (hBg : Bg < B) :
    Calls Try.prog 55 #[v, .agg #[.int .i64 a, .int .i64 b], .pointer (some ⟨Bg, 0, none⟩)] u fun e w' => ∃ v', e = .returned v' ∧ w'.ownsRow B 53 2 v' (extL G (bef a gone, bef b gone)).length (flat2 (extL G (bef a gone, bef b gone))) ∧ Below B u w' := by
  obtain ⟨W, hW⟩ : ∃ W, u.alloc (.cells #[.int .i64 a, .int .i64 b] 53) = W := ⟨_, rfl⟩
  have hR : Row W u.heap.size 53 #[.int .i64 a, .int .i64 b] := by rw [← hW]; exact Row.new _ _ _
  have hGW : Row W Bg 22 #[.slice A n c] := by rw [← hW]; exact hg.alloc _
  have hBW : Below B u W := by rw [← hW]; exact (Below.refl B u).alloc hB _
  have hoW : W.ownsRow B 53 2 v G.length (flat2 G) := by rw [← hW]; exact ho.alloc _
  have hB2 : B ≤ W.heap.size := Nat.le_trans hB hBW.size
  have hrW : Recs enc2 2 W W.heap.size (.slice A n c) gone := (hr.below hBW).more hB2
  have HSK := Lib.hid (fun x (h : Below W.heap.size W x) => tk_hold hBW hR hGW hB2 h)
  have H1 := Lib.hid (fun x (h : Below W.heap.size W x) => before_any a (by omega) hl gone hp A n c x (hrW.next h))
  have H2 := Lib.hid (fun x (h : Below W.heap.size W x) => before_any b (by omega) hl gone hp A n c x (hrW.next h))
  obtain ⟨y, hy⟩ : ∃ y, bef a gone = y := ⟨_, rfl⟩
  obtain ⟨z, hz⟩ : ∃ z, bef b gone = z := ⟨_, rfl⟩
  rw [hy] at H1
  rw [hz] at H2
  rw [hy, hz]
  have H3 := Lib.hid (fun x (h : Below W.heap.size W x) => extend_any G y z v B x (own_below hoW h) hG (Nat.le_trans hB2 h.size))
  have HLA := Lib.hid (fun x x' (h : Below W.heap.size W x) (h1 : Below B x x') (h2 : ∀ j, j < x.heap.size → v.ownBlock ≠ some j → x'.heap[j]? = x.heap[j]?) =>
    tk_last (v := v) (HSK.out x h) (Nat.lt_of_lt_of_le hR.lt h.size) hBg hB (fun g e => ⟨own_ge ho g e, own_lt ho g e⟩) h1 h2)
  have HW := Lib.hid hW
  clear hW hR hGW hBW hoW hB2 hrW hy hz ho hr hg hp
  go_enter Try.func55, Try.ntmps55
  go_upto_region 1 with (fail)
  rw [HW.out]
  refine wp_region_noPanic ?_
  refine wp_region_held_drew (S := fun x => Below B u x ∧ x.cell? ⟨u.heap.size, 0, none⟩ = some (.int .i64 a) ∧ x.cell? ⟨u.heap.size, 1, none⟩ = some (.int .i64 b) ∧ x.cell? ⟨Bg, 0, none⟩ = some (.slice A n c)) (by kernel_rfl) ?_ (fun hHeld => ?_)
  · exact HSK.out _ (Below.refl _ _).drew
  refine wpAnyH_take (i := 0) (oi := _) (v := ?_) rfl (by kernel_rfl) (by kernel_rfl) (by kernel_rfl) (fun _ _ _ h => h) (Or.inl ⟨by rfl, ?_⟩) (by assumption) ?_
  rotate_left
  · (intro w hSw; (try dsimp only at hSw); go_simp; all_goals (with_reducible rfl))
  simp only [Act.put, List.getElem_toArray, List.getElem_cons_zero, List.setIfInBounds_toArray, List.set_cons_zero, List.set_cons_succ]
  refine wpAnyH_take (i := 1) (oi := _) (v := ?_) rfl (by kernel_rfl) (by kernel_rfl) (by kernel_rfl) (fun _ _ _ h => h) (Or.inl ⟨by rfl, ?_⟩) (by assumption) ?_
  rotate_left
  · (intro w hSw; (try dsimp only at hSw); go_simp; all_goals (with_reducible rfl))
  simp only [Act.put, List.getElem_toArray, List.getElem_cons_succ, List.getElem_cons_zero, List.setIfInBounds_toArray, List.set_cons_zero, List.set_cons_succ]
  refine wpAnyH_take (i := 2) (oi := _) (v := ?_) rfl (by kernel_rfl) (by kernel_rfl) (by kernel_rfl) (fun _ _ _ h => h) (Or.inl ⟨by rfl, ?_⟩) (by assumption) ?_
  rotate_left
  · (intro w hSw; (try dsimp only at hSw); go_simp; all_goals (with_reducible rfl))
  simp only [Act.put, List.getElem_toArray, List.getElem_cons_succ, List.getElem_cons_zero, List.setIfInBounds_toArray, List.set_cons_zero, List.set_cons_succ]
  refine wpAnyH_take (i := 3) (oi := _) (v := ?_) rfl (by kernel_rfl) (by kernel_rfl) (by kernel_rfl) (fun _ _ _ h => h) (Or.inl ⟨by rfl, ?_⟩) (by assumption) ?_
  rotate_left
  · (intro w hSw; (try dsimp only at hSw); go_simp; all_goals (with_reducible rfl))
  simp only [Act.put, List.getElem_toArray, List.getElem_cons_succ, List.getElem_cons_zero, List.setIfInBounds_toArray, List.set_cons_zero, List.set_cons_succ]
  refine wpAnyH_take (i := 5) (oi := _) (v := ?_) rfl (by kernel_rfl) (by kernel_rfl) (by kernel_rfl) (fun _ _ _ h => h) (Or.inl ⟨by rfl, ?_⟩) (by assumption) ?_
  rotate_left
  · (intro w hSw; (try dsimp only at hSw); go_simp; all_goals (with_reducible rfl))
  simp only [Act.put, List.getElem_toArray, List.getElem_cons_succ, List.getElem_cons_zero, List.setIfInBounds_toArray, List.set_cons_zero, List.set_cons_succ]
  refine wpAnyH_take (i := 6) (oi := _) (v := ?_) rfl (by kernel_rfl) (by kernel_rfl) (by kernel_rfl) (fun _ _ _ h => h) (Or.inl ⟨by rfl, ?_⟩) (by assumption) ?_
  rotate_left
  · (intro w hSw; (try dsimp only at hSw); go_simp; all_goals (with_reducible rfl))
  simp only [Act.put, List.getElem_toArray, List.getElem_cons_succ, List.getElem_cons_zero, List.setIfInBounds_toArray, List.set_cons_zero, List.set_cons_succ]
  refine wpAnyH_take (i := 7) (oi := _) (v := ?_) rfl (by kernel_rfl) (by kernel_rfl) (by kernel_rfl) (fun _ _ _ h => h) (Or.inl ⟨by rfl, ?_⟩) (by assumption) ?_
  rotate_left
  · (intro w hSw; (try dsimp only at hSw); go_simp; all_goals (with_reducible rfl))
  simp only [Act.put, List.getElem_toArray, List.getElem_cons_succ, List.getElem_cons_zero, List.setIfInBounds_toArray, List.set_cons_zero, List.set_cons_succ]
  refine wpAnyH_ready (rs := [4]) (by kernel_rfl) (by simp) ?_
  refine AllReadyH.cons (o := _) rfl (fun K hK => ?_) ?_
  · go_simp
    (go_at_call 42; ((with_reducible refine Calls.mono (H1.out _ (Below.refl _ _).drew) ?_); rintro r x1 ⟨rfl, b5⟩))
    have BX := Lib.hid (show Below W.heap.size W x1 from below_to (Below.refl _ W).drew b5)
    clear b5
    refine hK.out _ _ ?_ (fun hHeld => ?_)
    · (try dsimp only)
      exact HSK.out _ BX.out
    clear hK K
    (try simp only [Act.put, List.setIfInBounds_toArray, List.set_cons_zero, List.set_cons_succ])
    refine wpAnyH_ready (rs := [8]) (by kernel_rfl) (by simp) ?_
    refine AllReadyH.cons (o := _) rfl (fun K hK => ?_) ?_
    · go_simp
      (go_at_call 42; ((with_reducible refine Calls.mono (H2.out _ BX.out) ?_); rintro r x2 ⟨rfl, b6⟩))
      have BX2 := Lib.hid (below_to BX.out b6)
      clear b6
      refine hK.out _ _ ?_ (fun hHeld => ?_)
      · (try dsimp only)
        exact HSK.out _ BX2.out
      clear hK K
      (try simp only [Act.put, List.setIfInBounds_toArray, List.set_cons_zero, List.set_cons_succ])
      refine wpAnyH_take (i := 9) (oi := _) (v := ?_) rfl (by kernel_rfl) (by kernel_rfl) (by kernel_rfl) (fun _ _ _ h => h) (Or.inl ⟨by rfl, ?_⟩) (by assumption) ?_
      rotate_left
      · (intro w hSw; (try dsimp only at hSw); go_simp; all_goals (with_reducible rfl))
      simp only [Act.put, List.getElem_toArray, List.getElem_cons_succ, List.getElem_cons_zero, List.setIfInBounds_toArray, List.set_cons_zero, List.set_cons_succ]
      refine wpAnyH_ready (rs := [10]) (by kernel_rfl) (by simp) ?_
      refine AllReadyH.cons (o := _) rfl (fun K hK => ?_) ?_
      · go_simp
        (go_at_call 56; ((with_reducible refine Calls.mono (H3.out _ BX2.out) ?_); rintro r x3 ⟨v', rfl, e1, e2, e3⟩))
        have HE1 := Lib.hid e1
        have HE2 := Lib.hid e2
        have HL := Lib.hid (HLA.out _ _ BX2.out e2 e3)
        clear e1 e2 e3
        refine hK.out _ _ ?_ (fun hHeld => ?_)
        · (try dsimp only)
          exact HL.out
        clear hK K
        (try simp only [Act.put, List.setIfInBounds_toArray, List.set_cons_zero, List.set_cons_succ])
        refine wpAnyH_take (i := 11) (oi := _) (v := ?_) rfl (by kernel_rfl) (by kernel_rfl) (by kernel_rfl) (fun _ _ _ h => h) (Or.inl ⟨by rfl, ?_⟩) (by assumption) ?_
        rotate_left
        · (intro w hSw; (try dsimp only at hSw); go_simp; all_goals (with_reducible rfl))
        simp only [Act.put, List.getElem_toArray, List.getElem_cons_succ, List.getElem_cons_zero, List.setIfInBounds_toArray, List.set_cons_zero, List.set_cons_succ]
        refine wpAnyH_done (by kernel_rfl) ?_ _
        refine NoPanic.normal ?_
        go_wp2_with fail
        go_ret
        exact ⟨v', rfl, HE1.out, HL.out.1⟩
      exact AllReadyH.nil
    exact AllReadyH.nil
  exact AllReadyH.nil
theorem extL_len (G : List (Int × Int)) (q : Int × Int) : (extL G q).length ≤ G.length + 1 := by
  by_cases e : q.1 = q.2
  · rw [extL_none e]; omega
  · rcases last_of G with rfl | ⟨o, p, rfl⟩
    · rw [extL_nil e]; simp
    · by_cases j : p.2 = q.1
      · rw [extL_join e j]; simp
      · rw [extL_push e j]; simp
theorem tk_len (gone : List (Int × Int)) : ∀ (l out : List (Int × Int)), (l.foldl (tkS gone) out).length ≤ out.length + l.length
  | [], out => by simp
  | q :: l, out => by
    have h1 := tk_len gone l (tkS gone out q)
    have h2 := extL_len out (bef q.1 gone, bef q.2 gone)
    have h3 : (tkS gone out q).length ≤ out.length + 1 := h2
    show (l.foldl (tkS gone) (tkS gone out q)).length ≤ _
    simp only [List.length_cons]; omega
theorem over_talk {len : Int} (hl : len ≤ 3600) (gone talks : List (Int × Int)) (hp : partsF len 0 gone) (hk : partsF len 0 talks) (hk4 : talks.length ≤ 4) (A A2 : Option Addr) (n c n2 c2 : Nat) (v0 : Value) (B Bg : Nat) (W : World)
    (ho : W.ownsRow B 53 2 v0 0 (flat2 [])) (hB : B ≤ W.heap.size) (hr : Recs enc2 2 W B (.slice A n c) gone) (ht : Recs enc2 2 W B (.slice A2 n2 c2) talks) (hg : Row W Bg 22 #[.slice A n c]) (hBg : Bg < B) :
    Calls Try.prog 54 #[.slice A2 n2 c2, v0, .func (.func 55) #[] #[.pointer (some ⟨Bg, 0, none⟩)]] W fun e w' => ∃ A n c, e = .returned (.slice A n c) ∧ Recs enc2 2 w' w'.heap.size (.slice A n c) (talkL gone talks) ∧ Below B W w' := by
  refine (over_spells 55 #[.pointer (some ⟨Bg, 0, none⟩)] (fun _ _ => rfl) talks A2 n2 c2 v0
    (fun i x u => u.ownsRow B 53 2 x ((talks.take i).foldl (tkS gone) []).length (flat2 ((talks.take i).foldl (tkS gone) [])) ∧ Below B W u ∧ B ≤ u.heap.size)
    (fun i x u h => (ht.below h.2.1).more h.2.2) (fun i x u o h => ⟨h.1.alloc o, h.2.1.alloc h.2.2 o, by have := h.2.2; simp; omega⟩)
    (fun i q x u hq h => by
      obtain ⟨h1, h2, h3⟩ := h
      obtain ⟨q1, q2, q3⟩ := partsF_at hk hq
      have hln := tk_len gone (talks.take i) []
      have hlt : (talks.take i).length ≤ 4 := by rw [List.length_take]; omega
      refine (talk1_any hl gone hp A n c _ q.1 q.2 q1 q2 (by omega) x B Bg u h1 (by simp at hln; omega) h3 (hr.below h2) (hg.below h2 hBg) hBg).mono ?_
      rintro e w' ⟨v', rfl, e1, e2⟩
      refine ⟨v', rfl, ?_, h2.trans e2, Nat.le_trans h3 e2.size⟩
      rw [fold_snoc (tkS gone) [] hq]
      exact e1) W ⟨ho, Below.refl _ _, hB⟩).mono ?_
  rintro e w' ⟨x, rfl, h1, h2, h3⟩
  rw [List.take_length] at h1
  have hrc := recs_of_own h1 rfl
  obtain ⟨A5, c5, rfl, -⟩ := recs_form hrc
  exact ⟨A5, _, c5, rfl, hrc, h2⟩
def talkV (i : ItemP) (c : List Int) : List (Int × Int) × Int := if okC i c then (talkL (goneI i.trims c) i.talks, 0) else ([], 70)
set_option maxRecDepth 100000 in
set_option maxHeartbeats 4000000 in
theorem talk_any (i : ItemP) (cut : List Int) (A1 A2 A3 : Option Addr) (n1 c1 n2 c2 n3 c3 : Nat) (w : World) (hr : ItAt i A1 n1 c1 A2 n2 c2 w.heap.size w) (h3 : Recs enc1 1 w w.heap.size (.slice A3 n3 c3) cut) :
    Calls Try.prog 26 #[.agg #[.int .i64 i.id, .int .i64 i.kind, .int .i64 i.len, .slice A1 n1 c1, .slice A2 n2 c2, .int .i64 i.artist, .int .i64 i.tempo, .int .i64 i.lang], .slice A3 n3 c3] w fun e w' => ∃ A n c, e = .returned (.tuple #[.slice A n c, .int .i64 (talkV i cut).2]) ∧ Recs enc2 2 w' w'.heap.size (.slice A n c) (talkV i cut).1 ∧ Below w.heap.size w w' := by
  obtain ⟨hl1, hl2⟩ := left_of i cut
  have HLO := Lib.hid (fun u (hu : Below w.heap.size w u) => leftOut_any i cut A1 A2 A3 n1 c1 n2 c2 n3 c3 u (hr.next hu) (h3.next hu))
  rw [hl1] at HLO
  have HV : Hid (talkV i cut = if okC i cut then (talkL (goneI i.trims cut) i.talks, 0) else ([], 70)) := Lib.hid rfl
  cases ho : okC i cut with
  | false =>
    rw [ho] at HLO HV
    rw [HV.out]
    clear hl1 hl2 HV ho hr h3
    obtain ⟨id, kind, len, trims, talks, artist, tempo, lang⟩ := i
    dsimp only at *
    go_enter Try.func26, Try.ntmps26
    go_wp2_with (first | (go_at_call 52; (with_reducible refine Calls.mono (HLO.out _ ((Below.refl _ w).alloc (Nat.le_refl _) _)) ?_); rintro r u1 ⟨A, n, c, rfl, hg, hb⟩; have Bc := Lib.hid (below_to ((Below.refl _ w).alloc (Nat.le_refl _) _) hb); have sz := Bc.out.size; have RI := Lib.hid ((Row.new w 24 #[.int .i64 id, .int .i64 kind, .int .i64 len, .slice A1 n1 c1, .slice A2 n2 c2, .int .i64 artist, .int .i64 tempo, .int .i64 lang]).below hb (Row.new w 24 #[.int .i64 id, .int .i64 kind, .int .i64 len, .slice A1 n1 c1, .slice A2 n2 c2, .int .i64 artist, .int .i64 tempo, .int .i64 lang]).lt); have I_0 := RI.out.cell 0; have I_1 := RI.out.cell 1; have I_2 := RI.out.cell 2; have I_3 := RI.out.cell 3; have I_4 := RI.out.cell 4; have I_5 := RI.out.cell 5; have I_6 := RI.out.cell 6; have I_7 := RI.out.cell 7; have lI := RI.out.lt; have HG := Lib.hid hg; clear hg; clear hb))
    refine bodyPost_ret (results_tmp2 rfl _ _ _) rfl ⟨none, 0, 0, rfl, recs_nil _ _ _ _, Bc.out.alloc Bc.out.size _⟩
  | true =>
    obtain ⟨p1, p2, p3⟩ := ok_parts ho
    rw [ho] at HLO HV
    rw [hl2 ho] at HLO
    have hok := (validI_iff i).1 (show validI i = true by unfold okC at ho; rw [Bool.and_eq_true] at ho; exact ho.1)
    have HOV := Lib.hid (fun A n c v0 B Bg W g1 g2 g3 g4 g5 g6 => over_talk p3 (goneI i.trims cut) i.talks p1 hok.p2 hok.n2 A A2 n c n2 c2 v0 B Bg W g1 g2 g3 g4 g5 g6)
    have HTK := Lib.hid (fun u (hu : Below w.heap.size w u) => (hr.next hu).k)
    rw [HV.out]
    clear hl1 hl2 HV ho hr h3 p1 p2 p3 hok
    obtain ⟨id, kind, len, trims, talks, artist, tempo, lang⟩ := i
    dsimp only at *
    obtain ⟨gone, hg⟩ : ∃ gone, goneI trims cut = gone := ⟨_, rfl⟩
    rw [hg] at HLO HOV ⊢
    clear hg
    have hm := hmf
    go_enter Try.func26, Try.ntmps26
    go_upto_region 4 with (first | (go_at_call 52; (with_reducible refine Calls.mono (HLO.out _ ((Below.refl _ w).alloc (Nat.le_refl _) _)) ?_); rintro r u1 ⟨A, n, c, rfl, hg, hb⟩; have Bc := Lib.hid (below_to ((Below.refl _ w).alloc (Nat.le_refl _) _) hb); have sz := Bc.out.size; have RI := Lib.hid ((Row.new w 24 #[.int .i64 id, .int .i64 kind, .int .i64 len, .slice A1 n1 c1, .slice A2 n2 c2, .int .i64 artist, .int .i64 tempo, .int .i64 lang]).below hb (Row.new w 24 #[.int .i64 id, .int .i64 kind, .int .i64 len, .slice A1 n1 c1, .slice A2 n2 c2, .int .i64 artist, .int .i64 tempo, .int .i64 lang]).lt); have I_0 := RI.out.cell 0; have I_1 := RI.out.cell 1; have I_2 := RI.out.cell 2; have I_3 := RI.out.cell 3; have I_4 := RI.out.cell 4; have I_5 := RI.out.cell 5; have I_6 := RI.out.cell 6; have I_7 := RI.out.cell 7; have lI := RI.out.lt; have HG := Lib.hid hg; clear hg; clear hb))
    have HTW := Lib.hid (HTK.out _ Bc.out)
    have HC : Hid (∃ W, (u1.alloc (.cells #[.slice A n c] 22)).alloc (.cells #[] 53) = W ∧ Calls Try.prog 54 #[.slice A2 n2 c2, .slice (some ⟨u1.heap.size + 1, 0, none⟩) 0 0, .func (.func 55) #[] #[.pointer (some ⟨u1.heap.size, 0, none⟩)]] W fun e w' => ∃ A n c, e = .returned (.slice A n c) ∧ Recs enc2 2 w' w'.heap.size (.slice A n c) (talkL gone talks) ∧ Below w.heap.size w w') := Lib.hid (by
      obtain ⟨W, hW⟩ : ∃ W, (u1.alloc (.cells #[.slice A n c] 22)).alloc (.cells #[] 53) = W := ⟨_, rfl⟩
      have hB : Below u1.heap.size u1 W := by rw [← hW]; exact ((Below.refl _ u1).alloc (Nat.le_refl _) _).alloc (by simp) _
      have hz : W.heap.size = u1.heap.size + 2 := by rw [← hW]; simp
      have hg : Row W u1.heap.size 22 #[.slice A n c] := by rw [← hW]; exact (Row.new _ _ _).alloc _
      have he : Row W (u1.heap.size + 1) 53 #[] := by
        rw [← hW]
        have h := Row.new (u1.alloc (.cells #[.slice A n c] 22)) 53 #[]
        rw [World.size_alloc] at h
        exact h
      refine ⟨W, hW, (HOV.out A n c _ (u1.heap.size + 1) u1.heap.size W ⟨rfl, .inr ⟨_, 0, #[], rfl, Nat.le_refl _, he, Nat.le_refl _, by decide, rfl, rfl⟩⟩ (by omega) ((HG.out.below hB).more (by omega)) ((HTW.out.below hB).more (by omega)) hg (by omega)).mono ?_⟩
      rintro e w' ⟨A5, n5, c5, rfl, h1, h2⟩
      exact ⟨A5, n5, c5, rfl, h1, (below_to Bc.out hB).trans (h2.mono (by have := Bc.out.size; omega))⟩)
    obtain ⟨W, hW, hC⟩ := HC.out
    subst hW
    have HCC := Lib.hid hC
    clear hC
    go_wp2_with (go_at_call 54; (with_reducible refine Calls.mono HCC.out ?_); rintro e w2 ⟨A5, n5, c5, rfl, h1, h2⟩; have HR1 := Lib.hid h1; have HR2 := Lib.hid h2; clear h1 h2)
    refine bodyPost_ret (results_tmp2 rfl _ _ _) rfl ⟨A5, n5, c5, rfl, HR1.out, HR2.out⟩
end Go.Proofs.Ytnmhigjannihgaa
