/- putSpells, Encode. -/
import Derived.Test.YtnmhigjannihgaaJi
namespace Go.Proofs.Ytnmhigjannihgaa
open Go.RowKit Go.Shelf Wm

abbrev nb (l : List Int) : ByteArray := ⟨(numsE l).toArray⟩
theorem nb_append (a b : List Int) : nb a ++ nb b = nb (a ++ b) := by
  unfold nb
  rw [ba_of, numsE_append]
theorem nb_size (l : List Int) : (nb l).size ≤ 9 * l.length := by
  show (List.toArray _).size ≤ _
  rw [List.size_toArray]; exact numsE_len l
theorem ints_recs {w : World} {g : Nat} {l : List Int} (h : Row w g 3 (l.map fun x => Value.int .i64 x).toArray) (hl : l.length ≤ 100000) : Recs enc1 1 w w.heap.size (.slice (some ⟨g, 0, none⟩) l.length l.length) l := by
  refine ⟨some ⟨g, 0, none⟩, l.length, rfl, Nat.le_refl _, by unfold maxLen; omega, .inr ⟨g, 0, rfl, h.lt, fun j x hj i u hu => ?_⟩⟩
  have hi : i = 0 := by
    have := (List.getElem?_eq_some_iff.1 hu).1
    simp [enc1] at this
    exact this
  subst hi
  have hx : u = .int .i64 x := by simpa [enc1] using hu.symm
  rw [hx, show 0 + j * 1 + 0 = j by omega, h.cell j]
  simp [hj]
set_option maxRecDepth 100000 in
set_option maxHeartbeats 4000000 in
theorem ps1_any (U : ByteArray) (hU : U.size ≤ 100000) (a b : Int) (ha : SmallZ a) (hb : SmallZ b) (u : World) :
    Calls Try.prog 71 #[.string U, .agg #[.int .i64 a, .int .i64 b]] u fun e w' => e = .returned (.string (U ++ nb [a, b])) ∧ Below u.heap.size u w' := by
  obtain ⟨W, hW⟩ : ∃ W, (u.alloc (.cells #[.int .i64 a, .int .i64 b] 53)).alloc (.cells #[.int .i64 a, .int .i64 b] 3) = W := ⟨_, rfl⟩
  have hB : Below u.heap.size u W := by rw [← hW]; exact ((Below.refl _ u).alloc (Nat.le_refl _) _).alloc (by simp) _
  have hR : Row W (u.heap.size + 1) 3 #[.int .i64 a, .int .i64 b] := by
    rw [← hW]
    have h := Row.new (u.alloc (.cells #[.int .i64 a, .int .i64 b] 53)) 3 #[.int .i64 a, .int .i64 b]
    rw [World.size_alloc] at h
    exact h
  have HP := putInts_any [a, b] (by simp) (fun x hx => by
    simp only [List.mem_cons, List.not_mem_nil, or_false] at hx
    rcases hx with rfl | rfl <;> assumption) (some ⟨u.heap.size + 1, 0, none⟩) 2 2 W (ints_recs (l := [a, b]) hR (by show 2 ≤ 100000; omega))
  have hz := nb_size [a, b]
  obtain ⟨E, hE⟩ : ∃ E, nb [a, b] = E := ⟨_, rfl⟩
  rw [show (⟨(numsE [a, b]).toArray⟩ : ByteArray) = E from hE] at HP
  rw [hE] at hz ⊢
  have y1 : ¬ 9223372036854775807 < U.size + E.size := by simp at hz; omega
  have HB := Lib.hid hB
  subst hW
  have HPP := Lib.hid HP
  clear HP hE hz hB hR hU ha hb
  go_enter Try.func71, Try.ntmps71
  go_wp2_with (go_at_call 49; (with_reducible refine Calls.mono HPP.out ?_); rintro e w1 ⟨rfl, h⟩; have HB2 := Lib.hid (below_to HB.out h); clear h)
  go_ret
  exact ⟨rfl, HB2.out⟩
set_option maxRecDepth 100000 in
set_option maxHeartbeats 4000000 in
theorem putSpells_any {len : Int} (hl : len ≤ 3600) (l : List (Int × Int)) (hp : partsF len 0 l) (h4 : l.length ≤ 4) (A : Option Addr) (n c : Nat) (w : World) (hr : Recs enc2 2 w w.heap.size (.slice A n c) l) :
    Calls Try.prog 50 #[.slice A n c] w fun e w' => e = .returned (.string (nb ((l.length : Int) :: flatP l))) ∧ Below w.heap.size w w' := by
  have hn := (recs_cap hr).1
  obtain ⟨W, hW⟩ : ∃ W, w.alloc (.cells #[.int .i64 (n : Int)] 3) = W := ⟨_, rfl⟩
  have hB : Below w.heap.size w W := by rw [← hW]; exact (Below.refl _ w).alloc (Nat.le_refl _) _
  have hR : Row W w.heap.size 3 #[.int .i64 (n : Int)] := by rw [← hW]; exact Row.new _ _ _
  have HP := putInts_any [(n : Int)] (by simp) (fun x hx => by
    rw [List.mem_singleton.1 hx]; exact ⟨by omega, by omega⟩) (some ⟨w.heap.size, 0, none⟩) 1 1 W (ints_recs (l := [(n : Int)]) hR (by show 1 ≤ 100000; omega))
  have HOV := Lib.hid (fun u (hu : Below w.heap.size w u) => over_str 71 #[] (fun _ _ => rfl) l A n c (.string (nb [(n : Int)]))
    (fun i x u' => x = .string (nb ((n : Int) :: flatP (l.take i))) ∧ Below w.heap.size w u')
    (fun i x u' h => hr.next h.2) (fun i x u' o h => ⟨h.1, h.2.alloc h.2.size _⟩)
    (fun i q x u' hq h => by
      obtain ⟨rfl, hb⟩ := h
      obtain ⟨q1, q2, q3⟩ := partsF_at hp hq
      have hz := nb_size ((n : Int) :: flatP (l.take i))
      have hln : (flatP (l.take i)).length ≤ 8 := by rw [flatP_len, List.length_take]; omega
      refine (ps1_any _ (by simp at hz; omega) q.1 q.2 ⟨by omega, by omega⟩ ⟨by omega, by omega⟩ u').mono ?_
      rintro e w' ⟨rfl, hb2⟩
      refine ⟨_, rfl, ?_, below_to hb hb2⟩
      rw [nb_append, take_snoc hq]
      unfold flatP
      rw [List.flatMap_append, List.cons_append]
      rfl) u ⟨rfl, hu⟩)
  have HN := Lib.hid hn
  have HB := Lib.hid hB
  subst hW
  have HPP := Lib.hid HP
  clear HP hB hR hr hp h4 hn
  go_enter Try.func50, Try.ntmps50
  go_wp2_with (first | (go_at_call 49; (with_reducible refine Calls.mono HPP.out ?_); rintro e w1 ⟨rfl, h⟩; have HB2 := Lib.hid (below_to HB.out h); clear h) | (go_at_call 70; (with_reducible refine Calls.mono (HOV.out _ HB2.out) ?_); rintro e w2 ⟨x, rfl, hx, h⟩; have HX := Lib.hid hx; have HB3 := Lib.hid h; clear hx h))
  rw [HX.out]
  go_ret
  exact ⟨by rw [List.take_length, HN.out]; rfl, HB3.out⟩
def encodeV (i : ItemP) : ByteArray × Int := if validI i then (nb (itemNums i), 0) else (⟨#[]⟩, 70)
theorem nums_parts (i : ItemP) : nb [i.id, i.kind, i.len, i.artist, i.tempo, i.lang] ++ nb ((i.trims.length : Int) :: flatP i.trims) ++ nb ((i.talks.length : Int) :: flatP i.talks) = nb (itemNums i) := by
  rw [nb_append, nb_append]
  congr 1
set_option maxRecDepth 100000 in
set_option maxHeartbeats 4000000 in
theorem encode_any (i : ItemP) (A1 A2 : Option Addr) (n1 c1 n2 c2 : Nat) (w : World) (hr : ItAt i A1 n1 c1 A2 n2 c2 w.heap.size w) :
    Calls Try.prog 16 #[.agg #[.int .i64 i.id, .int .i64 i.kind, .int .i64 i.len, .slice A1 n1 c1, .slice A2 n2 c2, .int .i64 i.artist, .int .i64 i.tempo, .int .i64 i.lang]] w fun e w' => e = .returned (.tuple #[.string (encodeV i).1, .int .i64 (encodeV i).2]) ∧ Below w.heap.size w w' := by
  have HVA := Lib.hid (fun u (hu : Below w.heap.size w u) => valid_any i A1 A2 n1 c1 n2 c2 u (hr.next hu))
  have HV : Hid (encodeV i = if validI i then (nb (itemNums i), 0) else (⟨#[]⟩, 70)) := Lib.hid rfl
  cases ho : validI i with
  | false =>
    rw [ho] at HVA HV
    rw [HV.out]
    clear HV ho hr
    obtain ⟨id, kind, len, trims, talks, artist, tempo, lang⟩ := i
    dsimp only at *
    go_enter Try.func16, Try.ntmps16
    go_wp2_with (first | (go_at_call 12; (with_reducible refine Calls.mono (HVA.out _ ((Below.refl _ w).alloc (Nat.le_refl _) _)) ?_); rintro r u1 ⟨rfl, hb⟩; have Bc := Lib.hid (below_to ((Below.refl _ w).alloc (Nat.le_refl _) _) hb); have sz := Bc.out.size; have RI := Lib.hid ((Row.new w 24 #[.int .i64 id, .int .i64 kind, .int .i64 len, .slice A1 n1 c1, .slice A2 n2 c2, .int .i64 artist, .int .i64 tempo, .int .i64 lang]).below hb (Row.new w 24 #[.int .i64 id, .int .i64 kind, .int .i64 len, .slice A1 n1 c1, .slice A2 n2 c2, .int .i64 artist, .int .i64 tempo, .int .i64 lang]).lt); have I_0 := RI.out.cell 0; have I_1 := RI.out.cell 1; have I_2 := RI.out.cell 2; have I_3 := RI.out.cell 3; have I_4 := RI.out.cell 4; have I_5 := RI.out.cell 5; have I_6 := RI.out.cell 6; have I_7 := RI.out.cell 7; have lI := RI.out.lt; clear hb))
    refine bodyPost_ret (results_tmp2 rfl _ _ _) rfl ⟨rfl, Bc.out⟩
  | true =>
    have hok := (validI_iff i).1 ho
    rw [ho] at HVA HV
    rw [HV.out, if_pos rfl, ← nums_parts]
    have HS1 := Lib.hid (fun u (hu : Below w.heap.size w u) => putSpells_any hok.len.2 i.trims hok.p1 hok.n1 A1 n1 c1 u (hr.next hu).t)
    have HS2 := Lib.hid (fun u (hu : Below w.heap.size w u) => putSpells_any hok.len.2 i.talks hok.p2 hok.n2 A2 n2 c2 u (hr.next hu).k)
    have HPI := Lib.hid (fun u g (hg : Row u g 3 #[.int .i64 i.id, .int .i64 i.kind, .int .i64 i.len, .int .i64 i.artist, .int .i64 i.tempo, .int .i64 i.lang]) => putInts_any [i.id, i.kind, i.len, i.artist, i.tempo, i.lang] (by simp) (fun x hx => hok.head x (by
      simp only [List.mem_cons, List.not_mem_nil, or_false] at hx ⊢
      rcases hx with h | h | h | h | h | h <;> simp [h])) (some ⟨g, 0, none⟩) 6 6 u (ints_recs (l := [i.id, i.kind, i.len, i.artist, i.tempo, i.lang]) hg (by show 6 ≤ 100000; omega)))
    have z1 := nb_size [i.id, i.kind, i.len, i.artist, i.tempo, i.lang]
    have z2 := nb_size ((i.trims.length : Int) :: flatP i.trims)
    have z3 := nb_size ((i.talks.length : Int) :: flatP i.talks)
    have l2 := flatP_len i.trims
    have l3 := flatP_len i.talks
    have g2 := hok.n1
    have g3 := hok.n2
    simp only [List.length_cons, List.length_nil] at z1 z2 z3
    clear HV ho hr hok
    obtain ⟨id, kind, len, trims, talks, artist, tempo, lang⟩ := i
    dsimp only at *
    obtain ⟨X, hX⟩ : ∃ X, nb [id, kind, len, artist, tempo, lang] = X := ⟨_, rfl⟩
    obtain ⟨Y, hY⟩ : ∃ Y, nb ((trims.length : Int) :: flatP trims) = Y := ⟨_, rfl⟩
    obtain ⟨Z, hZ⟩ : ∃ Z, nb ((talks.length : Int) :: flatP talks) = Z := ⟨_, rfl⟩
    simp only [hX, hY, hZ] at HPI HS1 HS2 z1 z2 z3 ⊢
    have y1 : ¬ 9223372036854775807 < X.size + Y.size := by omega
    have y2 : ¬ 9223372036854775807 < X.size + Y.size + Z.size := by omega
    clear hX hY hZ z1 z2 z3 l2 l3 g2 g3
    go_enter Try.func16, Try.ntmps16
    go_upto_region 4 with (first | (go_at_call 12; (with_reducible refine Calls.mono (HVA.out _ ((Below.refl _ w).alloc (Nat.le_refl _) _)) ?_); rintro r u1 ⟨rfl, hb⟩; have Bc := Lib.hid (below_to ((Below.refl _ w).alloc (Nat.le_refl _) _) hb); have sz := Bc.out.size; have RI := Lib.hid ((Row.new w 24 #[.int .i64 id, .int .i64 kind, .int .i64 len, .slice A1 n1 c1, .slice A2 n2 c2, .int .i64 artist, .int .i64 tempo, .int .i64 lang]).below hb (Row.new w 24 #[.int .i64 id, .int .i64 kind, .int .i64 len, .slice A1 n1 c1, .slice A2 n2 c2, .int .i64 artist, .int .i64 tempo, .int .i64 lang]).lt); have I_0 := RI.out.cell 0; have I_1 := RI.out.cell 1; have I_2 := RI.out.cell 2; have I_3 := RI.out.cell 3; have I_4 := RI.out.cell 4; have I_5 := RI.out.cell 5; have I_6 := RI.out.cell 6; have I_7 := RI.out.cell 7; have lI := RI.out.lt; clear hb) | (go_at_call 49; (with_reducible refine Calls.mono (HPI.out _ _ (Row.new _ _ _)) ?_); rintro r u2 ⟨rfl, hb⟩; have Bc := Lib.hid (below_to (Bc.out.alloc Bc.out.size _) hb); have sz := Bc.out.size; have RI := Lib.hid ((RI.out.alloc _).below hb (RI.out.alloc _).lt); clear I_0 I_1 I_2 I_3 I_4 I_5 I_6 I_7 lI; have I_0 := RI.out.cell 0; have I_1 := RI.out.cell 1; have I_2 := RI.out.cell 2; have I_3 := RI.out.cell 3; have I_4 := RI.out.cell 4; have I_5 := RI.out.cell 5; have I_6 := RI.out.cell 6; have I_7 := RI.out.cell 7; have lI := RI.out.lt; have RX := Lib.hid ((Row.new u1 3 #[.int .i64 id, .int .i64 kind, .int .i64 len, .int .i64 artist, .int .i64 tempo, .int .i64 lang]).below hb (Row.new u1 3 #[.int .i64 id, .int .i64 kind, .int .i64 len, .int .i64 artist, .int .i64 tempo, .int .i64 lang]).lt); clear hb))
    have hb0 : Below u2.heap.size u2 u2 := Below.refl _ _
    have HSK := Lib.hid (fun x (h : Below u2.heap.size u2 x) => (⟨h, (RI.out.below h RI.out.lt).cell 3, (RI.out.below h RI.out.lt).cell 4⟩ : Below u2.heap.size u2 x ∧ x.cell? ⟨w.heap.size, 3, none⟩ = some (.slice A1 n1 c1) ∧ x.cell? ⟨w.heap.size, 4, none⟩ = some (.slice A2 n2 c2)))
    refine wp_region_noPanic ?_
    refine wp_region_held_drew (S := fun x => Below u2.heap.size u2 x ∧ x.cell? ⟨w.heap.size, 3, none⟩ = some (.slice A1 n1 c1) ∧ x.cell? ⟨w.heap.size, 4, none⟩ = some (.slice A2 n2 c2)) (by kernel_rfl) ?_ (fun hHeld => ?_)
    · exact HSK.out _ hb0.drew
    refine wpAnyH_take (i := 0) (oi := _) (v := ?_) rfl (by kernel_rfl) (by kernel_rfl) (by kernel_rfl) (fun _ _ _ h => h) (Or.inl ⟨by rfl, ?_⟩) (by assumption) ?_
    rotate_left
    · (intro w hSw; (try dsimp only at hSw); go_simp; all_goals (with_reducible rfl))
    simp only [Act.put, List.getElem_toArray, List.getElem_cons_zero, List.setIfInBounds_toArray, List.set_cons_zero, List.set_cons_succ]
    refine wpAnyH_take (i := 1) (oi := _) (v := ?_) rfl (by kernel_rfl) (by kernel_rfl) (by kernel_rfl) (fun _ _ _ h => h) (Or.inl ⟨by rfl, ?_⟩) (by assumption) ?_
    rotate_left
    · (intro w hSw; (try dsimp only at hSw); go_simp; all_goals (with_reducible rfl))
    simp only [Act.put, List.getElem_toArray, List.getElem_cons_succ, List.getElem_cons_zero, List.setIfInBounds_toArray, List.set_cons_zero, List.set_cons_succ]
    refine wpAnyH_take (i := 2) (oi := _) (v := ?_) rfl (by kernel_rfl) (by kernel_rfl) (by kernel_rfl) (fun _ _ _ h => h) (Or.inl ⟨by rfl, ?_⟩) (by assumption) ?_
    rotate_left
    · (intro w hSw; (try dsimp only at hSw); go_simp; all_goals (with_reducible rfl))
    simp only [Act.put, List.getElem_toArray, List.getElem_cons_succ, List.getElem_cons_zero, List.setIfInBounds_toArray, List.set_cons_zero, List.set_cons_succ]
    refine wpAnyH_take (i := 5) (oi := _) (v := ?_) rfl (by kernel_rfl) (by kernel_rfl) (by kernel_rfl) (fun _ _ _ h => h) (Or.inl ⟨by rfl, ?_⟩) (by assumption) ?_
    rotate_left
    · (intro w hSw; (try dsimp only at hSw); go_simp; all_goals (with_reducible rfl))
    simp only [Act.put, List.getElem_toArray, List.getElem_cons_succ, List.getElem_cons_zero, List.setIfInBounds_toArray, List.set_cons_zero, List.set_cons_succ]
    refine wpAnyH_take (i := 6) (oi := _) (v := ?_) rfl (by kernel_rfl) (by kernel_rfl) (by kernel_rfl) (fun _ _ _ h => h) (Or.inl ⟨by rfl, ?_⟩) (by assumption) ?_
    rotate_left
    · (intro w hSw; (try dsimp only at hSw); go_simp; all_goals (with_reducible rfl))
    simp only [Act.put, List.getElem_toArray, List.getElem_cons_succ, List.getElem_cons_zero, List.setIfInBounds_toArray, List.set_cons_zero, List.set_cons_succ]
    refine wpAnyH_ready (rs := [3]) (by kernel_rfl) (by simp) ?_
    refine AllReadyH.cons (o := _) rfl (fun K hK => ?_) ?_
    · go_simp
      (go_at_call 50; ((with_reducible refine Calls.mono (HS1.out _ (below_to Bc.out (Below.refl _ _).drew)) ?_); rintro r x1 ⟨rfl, b5⟩))
      have BX := Lib.hid (show Below u2.heap.size u2 x1 from below_to (Below.refl _ u2).drew b5)
      clear b5
      refine hK.out _ _ ?_ (fun hHeld => ?_)
      · (try dsimp only)
        exact HSK.out _ BX.out
      clear hK K
      (try simp only [Act.put, List.setIfInBounds_toArray, List.set_cons_zero, List.set_cons_succ])
      refine wpAnyH_take (i := 4) (oi := _) (v := ?_) rfl (by kernel_rfl) (by kernel_rfl) (by kernel_rfl) (fun _ _ _ h => h) (Or.inl ⟨by rfl, ?_⟩) (by assumption) ?_
      rotate_left
      · (intro w hSw; (try dsimp only at hSw); go_simp; all_goals (with_reducible rfl))
      simp only [Act.put, List.getElem_toArray, List.getElem_cons_succ, List.getElem_cons_zero, List.setIfInBounds_toArray, List.set_cons_zero, List.set_cons_succ]
      refine wpAnyH_ready (rs := [7]) (by kernel_rfl) (by simp) ?_
      refine AllReadyH.cons (o := _) rfl (fun K hK => ?_) ?_
      · go_simp
        (go_at_call 50; ((with_reducible refine Calls.mono (HS2.out _ (below_to Bc.out BX.out)) ?_); rintro r x2 ⟨rfl, b6⟩))
        have BX2 := Lib.hid (below_to BX.out b6)
        clear b6
        refine hK.out _ _ ?_ (fun hHeld => ?_)
        · (try dsimp only)
          exact HSK.out _ BX2.out
        clear hK K
        (try simp only [Act.put, List.setIfInBounds_toArray, List.set_cons_zero, List.set_cons_succ])
        refine wpAnyH_take (i := 8) (oi := _) (v := ?_) rfl (by kernel_rfl) (by kernel_rfl) (by kernel_rfl) (fun _ _ _ h => h) (Or.inl ⟨by rfl, ?_⟩) (by assumption) ?_
        rotate_left
        · (intro w hSw; (try dsimp only at hSw); go_simp; all_goals (with_reducible rfl))
        simp only [Act.put, List.getElem_toArray, List.getElem_cons_succ, List.getElem_cons_zero, List.setIfInBounds_toArray, List.set_cons_zero, List.set_cons_succ]
        refine wpAnyH_take (i := 9) (oi := _) (v := ?_) rfl (by kernel_rfl) (by kernel_rfl) (by kernel_rfl) (fun _ _ _ h => h) (Or.inl ⟨by rfl, ?_⟩) (by assumption) ?_
        rotate_left
        · (intro w hSw; (try dsimp only at hSw); go_simp; all_goals (with_reducible rfl))
        simp only [Act.put, List.getElem_toArray, List.getElem_cons_succ, List.getElem_cons_zero, List.setIfInBounds_toArray, List.set_cons_zero, List.set_cons_succ]
        refine wpAnyH_take (i := 10) (oi := _) (v := ?_) rfl (by kernel_rfl) (by kernel_rfl) (by kernel_rfl) (fun _ _ _ h => h) (Or.inl ⟨by rfl, ?_⟩) (by assumption) ?_
        rotate_left
        · (intro w hSw; (try dsimp only at hSw); go_simp; all_goals (with_reducible rfl))
        simp only [Act.put, List.getElem_toArray, List.getElem_cons_succ, List.getElem_cons_zero, List.setIfInBounds_toArray, List.set_cons_zero, List.set_cons_succ]
        refine wpAnyH_done (by kernel_rfl) ?_ _
        refine NoPanic.normal ?_
        go_wp2_with fail
        refine bodyPost_ret (results_tmp2 rfl _ _ _) rfl ⟨rfl, below_to Bc.out BX2.out⟩
      exact AllReadyH.nil
    exact AllReadyH.nil
end Go.Proofs.Ytnmhigjannihgaa
