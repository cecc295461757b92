/- Length, Place, Heard. -/
import Derived.Test.YtnmhigjannihgaaJe
namespace Go.Proofs.Ytnmhigjannihgaa
open Go.RowKit Go.Shelf

abbrev okC (i : ItemP) (c : List Int) : Bool := validI i && cutB i.trims.length 0 c
def lengthV (i : ItemP) (c : List Int) : Int × Int := if okC i c then (bef i.len (goneI i.trims c), 0) else (0, 70)
def placeV (i : ItemP) (c : List Int) (at_ : Int) : Int × Int := if okC i c && decide (0 ≤ at_) && decide (at_ < bef i.len (goneI i.trims c)) then (pl (goneI i.trims c) at_, 0) else (0, 70)
def heardV (i : ItemP) (c : List Int) (s : Int) : Int × Int := if okC i c && decide (0 ≤ s) && decide (s < i.len) then (if bef (s + 1) (goneI i.trims c) = bef s (goneI i.trims c) then -1 else bef s (goneI i.trims c), 0) else (0, 70)
theorem left_of (i : ItemP) (c : List Int) : (leftV i c).2 = okC i c ∧ (okC i c = true → (leftV i c).1 = goneI i.trims c) := by
  unfold leftV okC
  cases h : validI i && cutB i.trims.length 0 c <;> simp
theorem ok_parts {i : ItemP} {c : List Int} (h : okC i c = true) : partsF i.len 0 (goneI i.trims c) ∧ 1 ≤ i.len ∧ i.len ≤ 3600 := by
  unfold okC at h
  rw [Bool.and_eq_true] at h
  have hi := (validI_iff i).1 h.1
  exact ⟨left_parts hi h.2, hi.len.1, hi.len.2⟩
theorem tot_le {len : Int} {l : List (Int × Int)} (h : partsF len 0 l) (hl : 0 ≤ len) : tot l ≤ len := by
  have h1 := bef_le h hl
  rw [bef_zero h (Int.le_refl _), bef_len h] at h1
  omega
theorem pl_part {len : Int} : ∀ {l : List (Int × Int)} {e x : Int}, partsF len e l → x ≤ l.foldl plS x ∧ l.foldl plS x ≤ x + tot l
  | [], _, x, _ => by simp [tot]
  | q :: l, e, x, h => by
    obtain ⟨h1, h2, h3, h4⟩ := h
    have := pl_part (x := plS x q) h4
    have hs : x ≤ plS x q ∧ plS x q ≤ x + (q.2 - q.1) := by unfold plS; split <;> omega
    show x ≤ l.foldl plS (plS x q) ∧ l.foldl plS (plS x q) ≤ _
    simp only [tot]; omega
theorem pl_bounds {len x : Int} {l : List (Int × Int)} (h : partsF len 0 l) (hl : 0 ≤ len) (k : Nat) : x ≤ (l.take k).foldl plS x ∧ (l.take k).foldl plS x ≤ x + len := by
  have h1 := partsF_take k h
  have h2 := pl_part (x := x) h1
  have h3 := tot_le h1 hl
  omega
set_option maxRecDepth 100000 in
set_option maxHeartbeats 4000000 in
theorem length_any (i : ItemP) (cut : List Int) (A1 A2 A3 : Option Addr) (n1 c1 n2 c2 n3 c3 : Nat) (w : World) (hr : ItAt i A1 n1 c1 A2 n2 c2 w.heap.size w) (h3 : Recs enc1 1 w w.heap.size (.slice A3 n3 c3) cut) :
    Calls Try.prog 24 #[.agg #[.int .i64 i.id, .int .i64 i.kind, .int .i64 i.len, .slice A1 n1 c1, .slice A2 n2 c2, .int .i64 i.artist, .int .i64 i.tempo, .int .i64 i.lang], .slice A3 n3 c3] w fun e w' => e = .returned (.tuple #[.int .i64 (lengthV i cut).1, .int .i64 (lengthV i cut).2]) ∧ Below w.heap.size w w' := by
  obtain ⟨hl1, hl2⟩ := left_of i cut
  have HLO := Lib.hid (fun u (hu : Below w.heap.size w u) => leftOut_any i cut A1 A2 A3 n1 c1 n2 c2 n3 c3 u (hr.next hu) (h3.next hu))
  rw [hl1] at HLO
  have HV : Hid (lengthV i cut = if okC i cut then (bef i.len (goneI i.trims cut), 0) else (0, 70)) := Lib.hid rfl
  cases ho : okC i cut with
  | false =>
    rw [ho] at HLO HV
    rw [HV.out]
    clear hl1 hl2 HV ho hr h3
    obtain ⟨id, kind, len, trims, talks, artist, tempo, lang⟩ := i
    dsimp only at *
    go_enter Try.func24, Try.ntmps24
    go_wp2_with (first | (go_at_call 52; (with_reducible refine Calls.mono (HLO.out _ ((Below.refl _ w).alloc (Nat.le_refl _) _)) ?_); rintro r u1 ⟨A, n, c, rfl, hg, hb⟩; have Bc := Lib.hid (below_to ((Below.refl _ w).alloc (Nat.le_refl _) _) hb); have sz := Bc.out.size; have RI := Lib.hid ((Row.new w 24 #[.int .i64 id, .int .i64 kind, .int .i64 len, .slice A1 n1 c1, .slice A2 n2 c2, .int .i64 artist, .int .i64 tempo, .int .i64 lang]).below hb (Row.new w 24 #[.int .i64 id, .int .i64 kind, .int .i64 len, .slice A1 n1 c1, .slice A2 n2 c2, .int .i64 artist, .int .i64 tempo, .int .i64 lang]).lt); have I_0 := RI.out.cell 0; have I_1 := RI.out.cell 1; have I_2 := RI.out.cell 2; have I_3 := RI.out.cell 3; have I_4 := RI.out.cell 4; have I_5 := RI.out.cell 5; have I_6 := RI.out.cell 6; have I_7 := RI.out.cell 7; have lI := RI.out.lt; have HG := Lib.hid hg; clear hg; clear hb))
    refine bodyPost_ret (results_tmp2 rfl _ _ _) rfl ⟨rfl, Bc.out⟩
  | true =>
    obtain ⟨p1, p2, p3⟩ := ok_parts ho
    rw [ho] at HLO HV
    rw [hl2 ho] at HLO
    have HBF := Lib.hid (fun A n c u hr => before_any i.len (by omega) p3 (goneI i.trims cut) p1 A n c u hr)
    rw [HV.out]
    clear hl1 hl2 HV ho hr h3 p1 p2 p3
    obtain ⟨id, kind, len, trims, talks, artist, tempo, lang⟩ := i
    dsimp only at *
    obtain ⟨gone, hg⟩ : ∃ gone, goneI trims cut = gone := ⟨_, rfl⟩
    rw [hg] at HLO HBF ⊢
    clear hg
    go_enter Try.func24, Try.ntmps24
    go_wp2_with (first | (go_at_call 52; (with_reducible refine Calls.mono (HLO.out _ ((Below.refl _ w).alloc (Nat.le_refl _) _)) ?_); rintro r u1 ⟨A, n, c, rfl, hg, hb⟩; have Bc := Lib.hid (below_to ((Below.refl _ w).alloc (Nat.le_refl _) _) hb); have sz := Bc.out.size; have RI := Lib.hid ((Row.new w 24 #[.int .i64 id, .int .i64 kind, .int .i64 len, .slice A1 n1 c1, .slice A2 n2 c2, .int .i64 artist, .int .i64 tempo, .int .i64 lang]).below hb (Row.new w 24 #[.int .i64 id, .int .i64 kind, .int .i64 len, .slice A1 n1 c1, .slice A2 n2 c2, .int .i64 artist, .int .i64 tempo, .int .i64 lang]).lt); have I_0 := RI.out.cell 0; have I_1 := RI.out.cell 1; have I_2 := RI.out.cell 2; have I_3 := RI.out.cell 3; have I_4 := RI.out.cell 4; have I_5 := RI.out.cell 5; have I_6 := RI.out.cell 6; have I_7 := RI.out.cell 7; have lI := RI.out.lt; have HG := Lib.hid hg; clear hg; clear hb) | (go_at_call 42; (with_reducible refine Calls.mono (HBF.out _ _ _ _ HG.out) ?_); rintro r u2 ⟨rfl, hb⟩; have Bc := Lib.hid (below_to Bc.out hb); have sz := Bc.out.size; have RI := Lib.hid (RI.out.below hb RI.out.lt); clear I_0 I_1 I_2 I_3 I_4 I_5 I_6 I_7 lI; have I_0 := RI.out.cell 0; have I_1 := RI.out.cell 1; have I_2 := RI.out.cell 2; have I_3 := RI.out.cell 3; have I_4 := RI.out.cell 4; have I_5 := RI.out.cell 5; have I_6 := RI.out.cell 6; have I_7 := RI.out.cell 7; have lI := RI.out.lt; clear hb))
    refine bodyPost_ret (results_tmp2 rfl _ _ _) rfl ⟨rfl, Bc.out⟩
set_option maxRecDepth 100000 in
set_option maxHeartbeats 2000000 in
theorem place1_any (x a b : Int) (hx : 0 ≤ x ∧ x ≤ 10000) (ha : 0 ≤ a) (hab : a < b) (hb : b ≤ 3600) (u : World) :
    Calls Try.prog 59 #[.int .i64 x, .agg #[.int .i64 a, .int .i64 b]] u fun e w' => e = .returned (.int .i64 (plS x (a, b))) ∧ Below u.heap.size u w' := by
  by_cases h : x < a
  · have HO := Lib.hid (show plS x (a, b) = x from if_pos h)
    rw [HO.out]
    go_enter Try.func59, Try.ntmps59
    go_wp2
    go_ret
    exact ⟨rfl, (Below.refl _ _).alloc (Nat.le_refl _) _⟩
  · have HO := Lib.hid (show plS x (a, b) = x + b - a from if_neg h)
    rw [HO.out]
    go_enter Try.func59, Try.ntmps59
    go_wp2
    go_ret
    exact ⟨rfl, (Below.refl _ _).alloc (Nat.le_refl _) _⟩
theorem over_place {len x : Int} (hl : len ≤ 3600) (h0 : 0 ≤ len) (hx : 0 ≤ x ∧ x ≤ 5000) (l : List (Int × Int)) (hp : partsF len 0 l) (A : Option Addr) (n c : Nat) (w : World) (hr : Recs enc2 2 w w.heap.size (.slice A n c) l) :
    Calls Try.prog 58 #[.slice A n c, .int .i64 x, .func (.func 59) #[] #[]] w fun e w' => e = .returned (.int .i64 (pl l x)) ∧ Below w.heap.size w w' := by
  refine (over_int 59 #[] (fun _ _ => rfl) l A n c (.int .i64 x) (fun i y u => y = .int .i64 ((l.take i).foldl plS x) ∧ Below w.heap.size w u)
    (fun i y u h => hr.next h.2) (fun i y u o h => ⟨h.1, h.2.alloc h.2.size _⟩)
    (fun i q y u hq h => by
      obtain ⟨rfl, hb⟩ := h
      obtain ⟨q1, q2, q3⟩ := partsF_at hp hq
      have hbp := pl_bounds (x := x) hp h0 i
      refine (place1_any _ q.1 q.2 ⟨by omega, by omega⟩ q1 q2 (by omega) u).mono ?_
      rintro e w' ⟨rfl, hb2⟩
      exact ⟨_, rfl, by rw [fold_snoc plS x hq], below_to hb hb2⟩) w ⟨rfl, Below.refl _ _⟩).mono ?_
  rintro e w' ⟨y, rfl, rfl, hb⟩
  exact ⟨by rw [List.take_length]; rfl, hb⟩
set_option maxRecDepth 100000 in
set_option maxHeartbeats 8000000 in
theorem place_any (i : ItemP) (cut : List Int) (s : Int) (A1 A2 A3 : Option Addr) (n1 c1 n2 c2 n3 c3 : Nat) (w : World) (hr : ItAt i A1 n1 c1 A2 n2 c2 w.heap.size w) (h3 : Recs enc1 1 w w.heap.size (.slice A3 n3 c3) cut) :
    Calls Try.prog 29 #[.agg #[.int .i64 i.id, .int .i64 i.kind, .int .i64 i.len, .slice A1 n1 c1, .slice A2 n2 c2, .int .i64 i.artist, .int .i64 i.tempo, .int .i64 i.lang], .slice A3 n3 c3, .int .i64 s] w fun e w' => e = .returned (.tuple #[.int .i64 (placeV i cut s).1, .int .i64 (placeV i cut s).2]) ∧ Below w.heap.size w w' := by
  obtain ⟨hl1, hl2⟩ := left_of i cut
  have HLO := Lib.hid (fun u (hu : Below w.heap.size w u) => leftOut_any i cut A1 A2 A3 n1 c1 n2 c2 n3 c3 u (hr.next hu) (h3.next hu))
  rw [hl1] at HLO
  have HV : Hid (placeV i cut s = if okC i cut && decide (0 ≤ s) && decide (s < bef i.len (goneI i.trims cut)) then (pl (goneI i.trims cut) s, 0) else (0, 70)) := Lib.hid rfl
  cases ho : okC i cut with
  | false =>
    rw [ho] at HLO HV
    rw [HV.out, show (false && decide (0 ≤ s) && decide (s < bef i.len (goneI i.trims cut))) = false from rfl]
    clear hl1 hl2 HV ho hr h3
    obtain ⟨id, kind, len, trims, talks, artist, tempo, lang⟩ := i
    dsimp only at *
    go_enter Try.func29, Try.ntmps29
    go_wp2_with (first | (go_at_call 52; (with_reducible refine Calls.mono (HLO.out _ ((Below.refl _ w).alloc (Nat.le_refl _) _)) ?_); rintro r u1 ⟨A, n, c, rfl, hg, hb⟩; have Bc := Lib.hid (below_to ((Below.refl _ w).alloc (Nat.le_refl _) _) hb); have sz := Bc.out.size; have RI := Lib.hid ((Row.new w 24 #[.int .i64 id, .int .i64 kind, .int .i64 len, .slice A1 n1 c1, .slice A2 n2 c2, .int .i64 artist, .int .i64 tempo, .int .i64 lang]).below hb (Row.new w 24 #[.int .i64 id, .int .i64 kind, .int .i64 len, .slice A1 n1 c1, .slice A2 n2 c2, .int .i64 artist, .int .i64 tempo, .int .i64 lang]).lt); have I_0 := RI.out.cell 0; have I_1 := RI.out.cell 1; have I_2 := RI.out.cell 2; have I_3 := RI.out.cell 3; have I_4 := RI.out.cell 4; have I_5 := RI.out.cell 5; have I_6 := RI.out.cell 6; have I_7 := RI.out.cell 7; have lI := RI.out.lt; have HG := Lib.hid hg; clear hg; clear hb))
    refine bodyPost_ret (results_tmp2 rfl _ _ _) rfl ⟨rfl, Bc.out⟩
  | true =>
    obtain ⟨p1, p2, p3⟩ := ok_parts ho
    rw [ho] at HLO HV
    rw [hl2 ho] at HLO
    by_cases hs0 : 0 ≤ s
    · rw [decide_eq_true hs0] at HV
      have HBF := Lib.hid (fun A n c u hr => before_any i.len (by omega) p3 (goneI i.trims cut) p1 A n c u hr)
      by_cases hs1 : s < bef i.len (goneI i.trims cut)
      · rw [decide_eq_true hs1] at HV
        have hb1 := bef_gap p1 (show (0 : Int) ≤ i.len by omega)
        rw [bef_zero p1 (Int.le_refl _)] at hb1
        have HOV := Lib.hid (fun A n c u hr => over_place p3 (by omega) (x := s) (by omega) (goneI i.trims cut) p1 A n c u hr)
        rw [HV.out, show (true && true && true) = true from rfl, if_pos rfl]
        clear hl1 hl2 HV ho hr h3 p1 p2 p3 hb1
        obtain ⟨id, kind, len, trims, talks, artist, tempo, lang⟩ := i
        dsimp only at *
        obtain ⟨gone, hg⟩ : ∃ gone, goneI trims cut = gone := ⟨_, rfl⟩
        rw [hg] at HLO HBF HOV hs1 ⊢
        obtain ⟨z, hz⟩ : ∃ z, bef len gone = z := ⟨_, rfl⟩
        rw [hz] at HBF hs1
        clear hg hz
        go_enter Try.func29, Try.ntmps29
        go_wp2_with (first | (go_at_call 52; (with_reducible refine Calls.mono (HLO.out _ ((Below.refl _ w).alloc (Nat.le_refl _) _)) ?_); rintro r u1 ⟨A, n, c, rfl, hg, hb⟩; have Bc := Lib.hid (below_to ((Below.refl _ w).alloc (Nat.le_refl _) _) hb); have sz := Bc.out.size; have RI := Lib.hid ((Row.new w 24 #[.int .i64 id, .int .i64 kind, .int .i64 len, .slice A1 n1 c1, .slice A2 n2 c2, .int .i64 artist, .int .i64 tempo, .int .i64 lang]).below hb (Row.new w 24 #[.int .i64 id, .int .i64 kind, .int .i64 len, .slice A1 n1 c1, .slice A2 n2 c2, .int .i64 artist, .int .i64 tempo, .int .i64 lang]).lt); have I_0 := RI.out.cell 0; have I_1 := RI.out.cell 1; have I_2 := RI.out.cell 2; have I_3 := RI.out.cell 3; have I_4 := RI.out.cell 4; have I_5 := RI.out.cell 5; have I_6 := RI.out.cell 6; have I_7 := RI.out.cell 7; have lI := RI.out.lt; have HG := Lib.hid hg; clear hg; clear hb) | (go_at_call 42; (with_reducible refine Calls.mono (HBF.out _ _ _ _ HG.out) ?_); rintro r u2 ⟨rfl, hb⟩; have Bc := Lib.hid (below_to Bc.out hb); have sz := Bc.out.size; have RI := Lib.hid (RI.out.below hb RI.out.lt); clear I_0 I_1 I_2 I_3 I_4 I_5 I_6 I_7 lI; have I_0 := RI.out.cell 0; have I_1 := RI.out.cell 1; have I_2 := RI.out.cell 2; have I_3 := RI.out.cell 3; have I_4 := RI.out.cell 4; have I_5 := RI.out.cell 5; have I_6 := RI.out.cell 6; have I_7 := RI.out.cell 7; have lI := RI.out.lt; have HG := Lib.hid (HG.out.next hb); clear hb) | (go_at_call 58; (with_reducible refine Calls.mono (HOV.out _ _ _ _ HG.out) ?_); rintro r u3 ⟨rfl, hb⟩; have Bc := Lib.hid (below_to Bc.out hb); have sz := Bc.out.size; have RI := Lib.hid (RI.out.below hb RI.out.lt); clear I_0 I_1 I_2 I_3 I_4 I_5 I_6 I_7 lI; have I_0 := RI.out.cell 0; have I_1 := RI.out.cell 1; have I_2 := RI.out.cell 2; have I_3 := RI.out.cell 3; have I_4 := RI.out.cell 4; have I_5 := RI.out.cell 5; have I_6 := RI.out.cell 6; have I_7 := RI.out.cell 7; have lI := RI.out.lt; clear hb))
        refine bodyPost_ret (results_tmp2 rfl _ _ _) rfl ⟨rfl, Bc.out⟩
      · rw [decide_eq_false hs1] at HV
        rw [HV.out, show (true && true && false) = false from rfl, if_neg (by decide)]
        clear hl1 hl2 HV ho hr h3 p1 p2 p3
        obtain ⟨id, kind, len, trims, talks, artist, tempo, lang⟩ := i
        dsimp only at *
        obtain ⟨gone, hg⟩ : ∃ gone, goneI trims cut = gone := ⟨_, rfl⟩
        rw [hg] at HLO HBF hs1
        obtain ⟨z, hz⟩ : ∃ z, bef len gone = z := ⟨_, rfl⟩
        rw [hz] at HBF hs1
        clear hg hz
        go_enter Try.func29, Try.ntmps29
        go_wp2_with (first | (go_at_call 52; (with_reducible refine Calls.mono (HLO.out _ ((Below.refl _ w).alloc (Nat.le_refl _) _)) ?_); rintro r u1 ⟨A, n, c, rfl, hg, hb⟩; have Bc := Lib.hid (below_to ((Below.refl _ w).alloc (Nat.le_refl _) _) hb); have sz := Bc.out.size; have RI := Lib.hid ((Row.new w 24 #[.int .i64 id, .int .i64 kind, .int .i64 len, .slice A1 n1 c1, .slice A2 n2 c2, .int .i64 artist, .int .i64 tempo, .int .i64 lang]).below hb (Row.new w 24 #[.int .i64 id, .int .i64 kind, .int .i64 len, .slice A1 n1 c1, .slice A2 n2 c2, .int .i64 artist, .int .i64 tempo, .int .i64 lang]).lt); have I_0 := RI.out.cell 0; have I_1 := RI.out.cell 1; have I_2 := RI.out.cell 2; have I_3 := RI.out.cell 3; have I_4 := RI.out.cell 4; have I_5 := RI.out.cell 5; have I_6 := RI.out.cell 6; have I_7 := RI.out.cell 7; have lI := RI.out.lt; have HG := Lib.hid hg; clear hg; clear hb) | (go_at_call 42; (with_reducible refine Calls.mono (HBF.out _ _ _ _ HG.out) ?_); rintro r u2 ⟨rfl, hb⟩; have Bc := Lib.hid (below_to Bc.out hb); have sz := Bc.out.size; have RI := Lib.hid (RI.out.below hb RI.out.lt); clear I_0 I_1 I_2 I_3 I_4 I_5 I_6 I_7 lI; have I_0 := RI.out.cell 0; have I_1 := RI.out.cell 1; have I_2 := RI.out.cell 2; have I_3 := RI.out.cell 3; have I_4 := RI.out.cell 4; have I_5 := RI.out.cell 5; have I_6 := RI.out.cell 6; have I_7 := RI.out.cell 7; have lI := RI.out.lt; clear hb))
        refine bodyPost_ret (results_tmp2 rfl _ _ _) rfl ⟨rfl, Bc.out⟩
    · rw [decide_eq_false hs0] at HV
      rw [HV.out, show (true && false && decide (s < bef i.len (goneI i.trims cut))) = false from rfl]
      clear hl1 hl2 HV ho hr h3 p1 p2 p3
      obtain ⟨id, kind, len, trims, talks, artist, tempo, lang⟩ := i
      dsimp only at *
      go_enter Try.func29, Try.ntmps29
      go_wp2_with (first | (go_at_call 52; (with_reducible refine Calls.mono (HLO.out _ ((Below.refl _ w).alloc (Nat.le_refl _) _)) ?_); rintro r u1 ⟨A, n, c, rfl, hg, hb⟩; have Bc := Lib.hid (below_to ((Below.refl _ w).alloc (Nat.le_refl _) _) hb); have sz := Bc.out.size; have RI := Lib.hid ((Row.new w 24 #[.int .i64 id, .int .i64 kind, .int .i64 len, .slice A1 n1 c1, .slice A2 n2 c2, .int .i64 artist, .int .i64 tempo, .int .i64 lang]).below hb (Row.new w 24 #[.int .i64 id, .int .i64 kind, .int .i64 len, .slice A1 n1 c1, .slice A2 n2 c2, .int .i64 artist, .int .i64 tempo, .int .i64 lang]).lt); have I_0 := RI.out.cell 0; have I_1 := RI.out.cell 1; have I_2 := RI.out.cell 2; have I_3 := RI.out.cell 3; have I_4 := RI.out.cell 4; have I_5 := RI.out.cell 5; have I_6 := RI.out.cell 6; have I_7 := RI.out.cell 7; have lI := RI.out.lt; have HG := Lib.hid hg; clear hg; clear hb))
      refine bodyPost_ret (results_tmp2 rfl _ _ _) rfl ⟨rfl, Bc.out⟩
set_option maxRecDepth 100000 in
set_option maxHeartbeats 8000000 in
theorem heard_any (i : ItemP) (cut : List Int) (s : Int) (A1 A2 A3 : Option Addr) (n1 c1 n2 c2 n3 c3 : Nat) (w : World) (hr : ItAt i A1 n1 c1 A2 n2 c2 w.heap.size w) (h3 : Recs enc1 1 w w.heap.size (.slice A3 n3 c3) cut) :
    Calls Try.prog 31 #[.agg #[.int .i64 i.id, .int .i64 i.kind, .int .i64 i.len, .slice A1 n1 c1, .slice A2 n2 c2, .int .i64 i.artist, .int .i64 i.tempo, .int .i64 i.lang], .slice A3 n3 c3, .int .i64 s] w fun e w' => e = .returned (.tuple #[.int .i64 (heardV i cut s).1, .int .i64 (heardV i cut s).2]) ∧ Below w.heap.size w w' := by
  obtain ⟨hl1, hl2⟩ := left_of i cut
  have HLO := Lib.hid (fun u (hu : Below w.heap.size w u) => leftOut_any i cut A1 A2 A3 n1 c1 n2 c2 n3 c3 u (hr.next hu) (h3.next hu))
  rw [hl1] at HLO
  have HV : Hid (heardV i cut s = if okC i cut && decide (0 ≤ s) && decide (s < i.len) then (if bef (s + 1) (goneI i.trims cut) = bef s (goneI i.trims cut) then -1 else bef s (goneI i.trims cut), 0) else (0, 70)) := Lib.hid rfl
  cases ho : okC i cut with
  | false =>
    rw [ho] at HLO HV
    rw [HV.out, show (false && decide (0 ≤ s) && decide (s < i.len)) = false from rfl]
    clear hl1 hl2 HV ho hr h3
    obtain ⟨id, kind, len, trims, talks, artist, tempo, lang⟩ := i
    dsimp only at *
    go_enter Try.func31, Try.ntmps31
    go_wp2_with (first | (go_at_call 52; (with_reducible refine Calls.mono (HLO.out _ ((Below.refl _ w).alloc (Nat.le_refl _) _)) ?_); rintro r u1 ⟨A, n, c, rfl, hg, hb⟩; have Bc := Lib.hid (below_to ((Below.refl _ w).alloc (Nat.le_refl _) _) hb); have sz := Bc.out.size; have RI := Lib.hid ((Row.new w 24 #[.int .i64 id, .int .i64 kind, .int .i64 len, .slice A1 n1 c1, .slice A2 n2 c2, .int .i64 artist, .int .i64 tempo, .int .i64 lang]).below hb (Row.new w 24 #[.int .i64 id, .int .i64 kind, .int .i64 len, .slice A1 n1 c1, .slice A2 n2 c2, .int .i64 artist, .int .i64 tempo, .int .i64 lang]).lt); have I_0 := RI.out.cell 0; have I_1 := RI.out.cell 1; have I_2 := RI.out.cell 2; have I_3 := RI.out.cell 3; have I_4 := RI.out.cell 4; have I_5 := RI.out.cell 5; have I_6 := RI.out.cell 6; have I_7 := RI.out.cell 7; have lI := RI.out.lt; have HG := Lib.hid hg; clear hg; clear hb))
    refine bodyPost_ret (results_tmp2 rfl _ _ _) rfl ⟨rfl, Bc.out⟩
  | true =>
    obtain ⟨p1, p2, p3⟩ := ok_parts ho
    rw [ho] at HLO HV
    rw [hl2 ho] at HLO
    by_cases hs0 : 0 ≤ s
    · rw [decide_eq_true hs0] at HV
      by_cases hs1 : s < i.len
      · rw [decide_eq_true hs1] at HV
        have HB1 := Lib.hid (fun A n c u hr => before_any s (by omega) p3 (goneI i.trims cut) p1 A n c u hr)
        have HB2 := Lib.hid (fun A n c u hr => before_any (s + 1) (by omega) p3 (goneI i.trims cut) p1 A n c u hr)
        rw [HV.out, show (true && true && true) = true from rfl, if_pos rfl]
        have hs2 : s ≤ 10000 := by omega
        clear hl1 hl2 HV ho hr h3 p1 p2 p3
        obtain ⟨id, kind, len, trims, talks, artist, tempo, lang⟩ := i
        dsimp only at *
        obtain ⟨gone, hg⟩ : ∃ gone, goneI trims cut = gone := ⟨_, rfl⟩
        rw [hg] at HLO HB1 HB2 ⊢
        obtain ⟨y, hy⟩ : ∃ y, bef s gone = y := ⟨_, rfl⟩
        obtain ⟨z, hz⟩ : ∃ z, bef (s + 1) gone = z := ⟨_, rfl⟩
        rw [hy] at HB1
        rw [hz] at HB2
        rw [hy, hz]
        clear hg hy hz
        by_cases he : z = y
        · have e1 : (z == y) = true := by simp [he]
          rw [if_pos he]
          clear he
          go_enter Try.func31, Try.ntmps31
          go_wp2_with (first | (go_at_call 52; (with_reducible refine Calls.mono (HLO.out _ ((Below.refl _ w).alloc (Nat.le_refl _) _)) ?_); rintro r u1 ⟨A, n, c, rfl, hg, hb⟩; have Bc := Lib.hid (below_to ((Below.refl _ w).alloc (Nat.le_refl _) _) hb); have sz := Bc.out.size; have RI := Lib.hid ((Row.new w 24 #[.int .i64 id, .int .i64 kind, .int .i64 len, .slice A1 n1 c1, .slice A2 n2 c2, .int .i64 artist, .int .i64 tempo, .int .i64 lang]).below hb (Row.new w 24 #[.int .i64 id, .int .i64 kind, .int .i64 len, .slice A1 n1 c1, .slice A2 n2 c2, .int .i64 artist, .int .i64 tempo, .int .i64 lang]).lt); have I_0 := RI.out.cell 0; have I_1 := RI.out.cell 1; have I_2 := RI.out.cell 2; have I_3 := RI.out.cell 3; have I_4 := RI.out.cell 4; have I_5 := RI.out.cell 5; have I_6 := RI.out.cell 6; have I_7 := RI.out.cell 7; have lI := RI.out.lt; have HG := Lib.hid hg; clear hg; clear hb) | (go_at_call 42; (with_reducible refine Calls.mono (HB1.out _ _ _ _ HG.out) ?_); rintro r u2 ⟨rfl, hb⟩; have Bc := Lib.hid (below_to Bc.out hb); have sz := Bc.out.size; have RI := Lib.hid (RI.out.below hb RI.out.lt); clear I_0 I_1 I_2 I_3 I_4 I_5 I_6 I_7 lI; have I_0 := RI.out.cell 0; have I_1 := RI.out.cell 1; have I_2 := RI.out.cell 2; have I_3 := RI.out.cell 3; have I_4 := RI.out.cell 4; have I_5 := RI.out.cell 5; have I_6 := RI.out.cell 6; have I_7 := RI.out.cell 7; have lI := RI.out.lt; have HG := Lib.hid (HG.out.next hb); clear hb) | (go_at_call 42; (with_reducible refine Calls.mono (HB2.out _ _ _ _ HG.out) ?_); rintro r u3 ⟨rfl, hb⟩; have Bc := Lib.hid (below_to Bc.out hb); have sz := Bc.out.size; have RI := Lib.hid (RI.out.below hb RI.out.lt); clear I_0 I_1 I_2 I_3 I_4 I_5 I_6 I_7 lI; have I_0 := RI.out.cell 0; have I_1 := RI.out.cell 1; have I_2 := RI.out.cell 2; have I_3 := RI.out.cell 3; have I_4 := RI.out.cell 4; have I_5 := RI.out.cell 5; have I_6 := RI.out.cell 6; have I_7 := RI.out.cell 7; have lI := RI.out.lt; clear hb))
          refine bodyPost_ret (results_tmp2 rfl _ _ _) rfl ⟨rfl, Bc.out⟩
        · have e1 : (z == y) = false := by simp [he]
          rw [if_neg he]
          clear he
          go_enter Try.func31, Try.ntmps31
          go_wp2_with (first | (go_at_call 52; (with_reducible refine Calls.mono (HLO.out _ ((Below.refl _ w).alloc (Nat.le_refl _) _)) ?_); rintro r u1 ⟨A, n, c, rfl, hg, hb⟩; have Bc := Lib.hid (below_to ((Below.refl _ w).alloc (Nat.le_refl _) _) hb); have sz := Bc.out.size; have RI := Lib.hid ((Row.new w 24 #[.int .i64 id, .int .i64 kind, .int .i64 len, .slice A1 n1 c1, .slice A2 n2 c2, .int .i64 artist, .int .i64 tempo, .int .i64 lang]).below hb (Row.new w 24 #[.int .i64 id, .int .i64 kind, .int .i64 len, .slice A1 n1 c1, .slice A2 n2 c2, .int .i64 artist, .int .i64 tempo, .int .i64 lang]).lt); have I_0 := RI.out.cell 0; have I_1 := RI.out.cell 1; have I_2 := RI.out.cell 2; have I_3 := RI.out.cell 3; have I_4 := RI.out.cell 4; have I_5 := RI.out.cell 5; have I_6 := RI.out.cell 6; have I_7 := RI.out.cell 7; have lI := RI.out.lt; have HG := Lib.hid hg; clear hg; clear hb) | (go_at_call 42; (with_reducible refine Calls.mono (HB1.out _ _ _ _ HG.out) ?_); rintro r u2 ⟨rfl, hb⟩; have Bc := Lib.hid (below_to Bc.out hb); have sz := Bc.out.size; have RI := Lib.hid (RI.out.below hb RI.out.lt); clear I_0 I_1 I_2 I_3 I_4 I_5 I_6 I_7 lI; have I_0 := RI.out.cell 0; have I_1 := RI.out.cell 1; have I_2 := RI.out.cell 2; have I_3 := RI.out.cell 3; have I_4 := RI.out.cell 4; have I_5 := RI.out.cell 5; have I_6 := RI.out.cell 6; have I_7 := RI.out.cell 7; have lI := RI.out.lt; have HG := Lib.hid (HG.out.next hb); clear hb) | (go_at_call 42; (with_reducible refine Calls.mono (HB2.out _ _ _ _ HG.out) ?_); rintro r u3 ⟨rfl, hb⟩; have Bc := Lib.hid (below_to Bc.out hb); have sz := Bc.out.size; have RI := Lib.hid (RI.out.below hb RI.out.lt); clear I_0 I_1 I_2 I_3 I_4 I_5 I_6 I_7 lI; have I_0 := RI.out.cell 0; have I_1 := RI.out.cell 1; have I_2 := RI.out.cell 2; have I_3 := RI.out.cell 3; have I_4 := RI.out.cell 4; have I_5 := RI.out.cell 5; have I_6 := RI.out.cell 6; have I_7 := RI.out.cell 7; have lI := RI.out.lt; clear hb))
          refine bodyPost_ret (results_tmp2 rfl _ _ _) rfl ⟨rfl, Bc.out⟩
      · rw [decide_eq_false hs1] at HV
        rw [HV.out, show (true && true && false) = false from rfl, if_neg (by decide)]
        clear hl1 hl2 HV ho hr h3 p1 p2 p3
        obtain ⟨id, kind, len, trims, talks, artist, tempo, lang⟩ := i
        dsimp only at *
        go_enter Try.func31, Try.ntmps31
        go_wp2_with (first | (go_at_call 52; (with_reducible refine Calls.mono (HLO.out _ ((Below.refl _ w).alloc (Nat.le_refl _) _)) ?_); rintro r u1 ⟨A, n, c, rfl, hg, hb⟩; have Bc := Lib.hid (below_to ((Below.refl _ w).alloc (Nat.le_refl _) _) hb); have sz := Bc.out.size; have RI := Lib.hid ((Row.new w 24 #[.int .i64 id, .int .i64 kind, .int .i64 len, .slice A1 n1 c1, .slice A2 n2 c2, .int .i64 artist, .int .i64 tempo, .int .i64 lang]).below hb (Row.new w 24 #[.int .i64 id, .int .i64 kind, .int .i64 len, .slice A1 n1 c1, .slice A2 n2 c2, .int .i64 artist, .int .i64 tempo, .int .i64 lang]).lt); have I_0 := RI.out.cell 0; have I_1 := RI.out.cell 1; have I_2 := RI.out.cell 2; have I_3 := RI.out.cell 3; have I_4 := RI.out.cell 4; have I_5 := RI.out.cell 5; have I_6 := RI.out.cell 6; have I_7 := RI.out.cell 7; have lI := RI.out.lt; have HG := Lib.hid hg; clear hg; clear hb))
        refine bodyPost_ret (results_tmp2 rfl _ _ _) rfl ⟨rfl, Bc.out⟩
    · rw [decide_eq_false hs0] at HV
      rw [HV.out, show (true && false && decide (s < i.len)) = false from rfl]
      clear hl1 hl2 HV ho hr h3 p1 p2 p3
      obtain ⟨id, kind, len, trims, talks, artist, tempo, lang⟩ := i
      dsimp only at *
      go_enter Try.func31, Try.ntmps31
      go_wp2_with (first | (go_at_call 52; (with_reducible refine Calls.mono (HLO.out _ ((Below.refl _ w).alloc (Nat.le_refl _) _)) ?_); rintro r u1 ⟨A, n, c, rfl, hg, hb⟩; have Bc := Lib.hid (below_to ((Below.refl _ w).alloc (Nat.le_refl _) _) hb); have sz := Bc.out.size; have RI := Lib.hid ((Row.new w 24 #[.int .i64 id, .int .i64 kind, .int .i64 len, .slice A1 n1 c1, .slice A2 n2 c2, .int .i64 artist, .int .i64 tempo, .int .i64 lang]).below hb (Row.new w 24 #[.int .i64 id, .int .i64 kind, .int .i64 len, .slice A1 n1 c1, .slice A2 n2 c2, .int .i64 artist, .int .i64 tempo, .int .i64 lang]).lt); have I_0 := RI.out.cell 0; have I_1 := RI.out.cell 1; have I_2 := RI.out.cell 2; have I_3 := RI.out.cell 3; have I_4 := RI.out.cell 4; have I_5 := RI.out.cell 5; have I_6 := RI.out.cell 6; have I_7 := RI.out.cell 7; have lI := RI.out.lt; have HG := Lib.hid hg; clear hg; clear hb))
      refine bodyPost_ret (results_tmp2 rfl _ _ _) rfl ⟨rfl, Bc.out⟩
end Go.Proofs.Ytnmhigjannihgaa
