/- Contract of Extension. -/
import Derived.Test.YtnbhhhbmeafkaaaDoorDw
import Derived.Test.YtnbhhhbmeafkaaaDoorDv
namespace Go.Proofs.YtnbhhhbmeafkaaaDoor
open Go.RowKit Go.Shelf
attribute [local go_sem ↓] append_appN

theorem forks_ok : ∀ (k fr to i : Nat), ∀ f ∈ Dm.forks k fr to i, fr ≤ f.fr ∧ f.fr < f.mid ∧ f.mid < f.to ∧ f.to ≤ to ∧ (f.sec = true → f.mid ≤ i)
  | 0, _, _, _ => by simp [Dm.forks]
  | k + 1, fr, to, i => by
    intro f hf
    unfold Dm.forks at hf
    by_cases h : to - fr ≤ 1
    · rw [if_pos h] at hf; cases hf
    · rw [if_neg h] at hf
      have h1 := Dm.lft_pos (to - fr)
      have h2 := Dm.lft_lt (to - fr) (by omega)
      rcases List.mem_cons.1 hf with rfl | hf
      · exact ⟨Nat.le_refl _, by dsimp only; omega, by dsimp only; omega, Nat.le_refl _, by simp⟩
      · split at hf
        · obtain ⟨a, b, c, d, e⟩ := forks_ok k (fr + Dm.lft (to - fr)) to i f hf; exact ⟨by omega, b, c, d, e⟩
        · obtain ⟨a, b, c, d, e⟩ := forks_ok k fr (fr + Dm.lft (to - fr)) i f hf; exact ⟨a, b, c, by omega, e⟩
theorem fromOf_le (i : Nat) (fs : List Dm.Fk) (h : ∀ f ∈ fs, f.sec = true → f.mid ≤ i) : fromOf fs ≤ i := by
  have key : ∀ (fs : List Dm.Fk) (a : Nat), a ≤ i → (∀ f ∈ fs, f.sec = true → f.mid ≤ i) → fs.foldl (fun a f => if f.sec then f.mid else a) a ≤ i := by
    intro fs
    induction fs with
    | nil => intro a ha _; exact ha
    | cons f fs ih =>
      intro a ha h
      refine ih _ ?_ (fun g hg => h g (List.mem_cons_of_mem _ hg))
      show (if f.sec then f.mid else a) ≤ i
      split
      · exact h f List.mem_cons_self (by assumption)
      · exact ha
  exact key fs 0 (Nat.zero_le _) h

/-- The digests of an extension's proof. -/
def extHead (ps : List (List UInt8)) (m fm : Nat) : List (List UInt8) := if 0 < fm then [Dm.root ((ps.drop fm).take (m - fm))] else []
def extRow (ps : List (List UInt8)) (m : Nat) : List (List UInt8) :=
  extHead ps m (fromOf (upto m (Dm.forks 64 0 ps.length (m - 1)))) ++ rootsOf ps (upto m (Dm.forks 64 0 ps.length (m - 1))).reverse

theorem Dm.other_len (ps : List (List UInt8)) (f : Dm.Fk) (hl : ∀ s ∈ ps, s.length ≤ 1000) : ∀ s ∈ f.other ps, s.length ≤ 1000 := by
  intro s hs
  unfold Dm.Fk.other at hs
  split at hs
  · exact hl s (List.mem_of_mem_drop (List.mem_of_mem_take hs))
  · exact hl s (List.mem_of_mem_drop (List.mem_of_mem_take hs))

theorem below_grown {B : Nat} {w1 wr w2 w3 : World} {e : TypeId} {size n : Nat} {v : Value} {xs : List Value} {o : Obj} (h : Below B w1 wr) (hB : B ≤ wr.heap.size) (hrow : wr.ownsRow B e size v n xs) (hb2 : Below wr.heap.size wr w2)
    (hg : (w2.alloc o).grownBy w3 v.ownBlock) : Below B w1 w3 := by
  have h2 : Below B w1 w2 := h.trans (hb2.mono hB)
  have hs2 := hb2.size
  have h3 : Below B w1 (w2.alloc o) := h2.alloc (by omega) o
  have hs3 := hg.size
  exact ⟨hg.os.trans h3.os, hg.tape.trans h3.tape, hg.output.trans h3.output, Nat.le_trans h3.size hs3, fun k hk =>
    (hg.block k (by simp; omega) (fun e => by have := own_ge hrow k e.symm; omega)).trans (h3.block k hk)⟩
theorem own_base {w : World} {B B' : Nat} {e : TypeId} {size n : Nat} {v : Value} {xs : List Value} (h : w.ownsRow B e size v n xs) (hB : B' ≤ B) : w.ownsRow B' e size v n xs := by
  refine ⟨h.1, ?_⟩
  rcases h.2 with h | ⟨g, cap, cur, h1, h2, h3⟩
  · exact .inl h
  · exact .inr ⟨g, cap, cur, h1, by omega, h3⟩
theorem rootsOf_snoc (ps hd : List (List UInt8)) (fs : List Dm.Fk) (k : Nat) (h : k < fs.length) {r : List UInt8} (hr : Dm.root (fs[k].other ps) = r) :
    strCells (hd ++ rootsOf ps (fs.take (k + 1))) = strCells (hd ++ rootsOf ps (fs.take k)) ++ [strOf r] := by
  have e : rootsOf ps (fs.take (k + 1)) = rootsOf ps (fs.take k) ++ [r] := by
    rw [List.take_succ_eq_append_getElem h]; unfold rootsOf; rw [List.map_append, List.map_singleton, hr]
  rw [e]; unfold strCells; rw [← List.append_assoc, List.map_append]; rfl

set_option maxRecDepth 100000 in
set_option maxHeartbeats 1000000 in
/-- The loop of Extension adds the roots. -/
theorem ext_in (ps : List (List UInt8)) (m : Nat) (v : Value) (w : World) (hv : Strs w w.heap.size v ps) (hl : ∀ s ∈ ps, s.length ≤ 1000) (hm : m ≤ ps.length) (hm1 : 1 ≤ m) (hn : ps.length ≤ 1000000) (ht : TabOk w) :
    Calls Tryd.prog 24 #[v, .int .i64 (m : Int)] w fun e w' =>
      ∃ r, e = .returned (.tuple #[r, .int .i64 0]) ∧ w'.ownsRow w.heap.size 9 1 r (extRow ps m).length (strCells (extRow ps m)) ∧ Below w.heap.size w w' := by
  obtain ⟨i0, hi0, hz0, hz1, hz2⟩ := info_parts Tryd.infoStr
  have hway := way_any ps.length m (by omega) (by omega) hm1 w
  have hfl := Dm.forks_len 64 0 ps.length (m - 1)
  have hfo := forks_ok 64 0 ps.length (m - 1)
  have hul : (upto m (Dm.forks 64 0 ps.length (m - 1))).length ≤ 64 := Nat.le_trans (List.takeWhile_prefix _).length_le hfl
  have huo : ∀ f ∈ upto m (Dm.forks 64 0 ps.length (m - 1)), f.fr < f.mid ∧ f.mid < f.to ∧ f.to ≤ ps.length ∧ (f.sec = true → f.mid ≤ m - 1) := fun f hf => (hfo f ((List.takeWhile_prefix _).subset hf)).2
  have hfm := fromOf_le (m - 1) _ fun f hf => (huo f hf).2.2.2
  have hpost : extRow ps m = extHead ps m (fromOf (upto m (Dm.forks 64 0 ps.length (m - 1)))) ++ rootsOf ps (upto m (Dm.forks 64 0 ps.length (m - 1))).reverse := rfl
  unfold WayPost at hway
  obtain ⟨fs, hfs⟩ : ∃ fs, upto m (Dm.forks 64 0 ps.length (m - 1)) = fs := ⟨_, rfl⟩
  rw [hfs] at hway hul huo hfm hpost
  rw [hpost]
  obtain ⟨fm, hfme⟩ : ∃ fm, fromOf fs = fm := ⟨_, rfl⟩
  rw [hfme] at hway hfm ⊢
  clear hfo hfl hfs hpost hfme
  have hv0 := hv
  obtain ⟨A, c, rfl, hc1, hc2, hA⟩ := hv
  obtain ⟨n, hnn⟩ : ∃ n, ps.length = n := ⟨_, rfl⟩
  rw [hnn] at hm hn hc1 hway huo ⊢
  have HN := Lib.hid hnn; have HW := Lib.hid hway; have HUO := Lib.hid huo
  clear hnn hway huo
  rcases hA with ⟨_, hp⟩ | ⟨g, off, rfl, hg, hcell⟩
  · have := HN.out; rw [hp] at this; simp at this; omega
  have hsub := strs_sub (B := w.heap.size) fm m hg HN.out hcell (by omega) hm hc1 hc2
  unfold maxLen at hc2
  have hd1 : decide (n < m) = false := by simp; omega
  have hd2 : ((m : Int) == 0) = false := by simp; omega
  have HS := Lib.hid hsub; have HV0 := Lib.hid hv0
  clear hsub hcell hv0
  obtain ⟨rt, hrt⟩ : ∃ rt, Dm.root ((ps.drop fm).take (m - fm)) = rt := ⟨_, rfl⟩
  have hrl : ∀ s ∈ (ps.drop fm).take (m - fm), s.length ≤ 1000 := fun s hs => hl s (List.mem_of_mem_drop (List.mem_of_mem_take hs))
  have HRT := Lib.hid (fun u (hu : Below w.heap.size w u) => hrt ▸ root_any _ _ u ((HS.out.below hu).more hu.size) hrl (ht.next hu))
  have HO := Lib.hid (fun (f : Dm.Fk) (hf : f ∈ fs) u (hu : Below w.heap.size w u) => other_any f (.slice (some ⟨g, off, none⟩) n c) ps u (by have := (HV0.out.below hu).more hu.size; rw [HN.out] at this; exact this) (HUO.out f hf).1 (HUO.out f hf).2.1 (by have := HN.out; have := (HUO.out f hf).2.2.1; omega))
  have HRF := Lib.hid (fun (f : Dm.Fk) u v1 (h1 : Strs u u.heap.size v1 (f.other ps)) (hu : Below w.heap.size w u) => root_any v1 (f.other ps) u h1 (Dm.other_len ps f hl) (ht.next hu))
  obtain ⟨hd, hhd⟩ : ∃ hd, extHead ps m fm = hd := ⟨_, rfl⟩
  rw [hhd]
  have hdl : hd.length ≤ 1 := by rw [← hhd]; unfold extHead; split <;> simp
  have hdA : 0 < fm → hd = [rt] := fun h0 => by rw [← hhd]; unfold extHead; rw [if_pos h0, hrt]
  have hdB : ¬ 0 < fm → hd = [] := fun h0 => by rw [← hhd]; unfold extHead; rw [if_neg h0]
  clear hhd hrt hrl
  by_cases h0 : 0 < fm
  case' pos =>
    have HD := Lib.hid (hdA h0)
    clear hdA hdB
    have i1 : (fm : Int) ≤ (m : Int) := by omega
    have i3 : (m : Int) ≤ (c : Int) := by omega
    have i5 : ¬ c = fm := by omega
    have i6 : (0 : Int) < (fm : Int) := by omega
    go_enter Tryd.func24, Tryd.ntmps24
    go_wp2_with (first | (go_at_call 47; refine HW.out.mono ?_; rintro e w1 ⟨vv, rfl, hrow1, hb1⟩; obtain ⟨A', c', rfl⟩ := own_slice hrow1) | (go_at_call 27; refine (HRT.out _ hb1).mono ?_; rintro e w2 ⟨rfl, hb2⟩; obtain ⟨vp, wl, hrun, hown3, hg3, _⟩ := run_append_own (P := Tryd.prog) (w2.alloc (.cells #[strOf rt] 9)) w1.heap.size 26 26 9 i0 (.string ⟨#[]⟩) 1 16 Tryd.underlying26 hi0 hz0 hz1 hz2 rfl (by decide) (.slice none 0 0) 0 [] (World.ownsRow_nil _ _ _ _) ⟨w2.heap.size, 0, none⟩ 1 1 [strOf rt] rfl (cell_one_new _ _ _) (by simp [Value.oneCell']) (by unfold maxLen; omega) (by omega) (by have := hb2.size; simp; omega); rw [append_appN] at hrun; have HROWP := Lib.hid (show wl.ownsRow w1.heap.size 9 1 vp (hd.length + 0) (strCells (hd ++ rootsOf ps (fs.reverse.take 0))) from by rw [HD.out]; exact hown3); have HBL := Lib.hid (below_grown (Below.refl w1.heap.size w1) (Nat.le_refl _) (World.ownsRow_nil w1 w1.heap.size 9 1) hb2 hg3); have HROW1 := Lib.hid hrow1; clear hown3 hg3 hrow1))
  case' neg =>
    have HD := Lib.hid (hdB h0)
    clear hdA hdB
    have i6 : decide ((0 : Int) < (fm : Int)) = false := by simp; omega
    go_enter Tryd.func24, Tryd.ntmps24
    go_wp2_with (go_at_call 47; refine HW.out.mono ?_; rintro e w1 ⟨vv, rfl, hrow1, hb1⟩; obtain ⟨A', c', rfl⟩ := own_slice hrow1; have HROWP := Lib.hid (show w1.ownsRow w1.heap.size 9 1 (.slice none 0 0) (hd.length + 0) (strCells (hd ++ rootsOf ps (fs.reverse.take 0))) from by rw [HD.out]; exact World.ownsRow_nil _ _ _ _); have HBL := Lib.hid (Below.refl w1.heap.size w1); have HROW1 := Lib.hid hrow1; clear hrow1)
  all_goals
    go_loopw [8, 10, 40] (fun val _ i wr => ∃ k : Nat, k ≤ fs.length ∧ i = .int .i64 (k : Int) ∧ wr.ownsRow w1.heap.size 9 1 val (hd.length + k) (strCells (hd ++ rootsOf ps (fs.reverse.take k))) ∧ Below w1.heap.size w1 wr)
      (fun _ _ i _ => fs.length - (intOf i).toNat)
    case atStart => exact ⟨0, by omega, rfl, HROWP.out, HBL.out⟩
    case round =>
      obtain ⟨k, hk, rfl, hrw, hbw⟩ := hrel
      have hbw0 : Below w.heap.size w wr := hb1.trans (hbw.mono hb1.size)
      have hszw := hbw.size
      by_cases hlt : k < fs.length
      · have hrk := own_below HROW1.out hbw (own_lt HROW1.out)
        obtain ⟨gr, cap, hve⟩ : ∃ gr cap, Value.slice A' fs.length c' = .slice (some ⟨gr, 0, none⟩) fs.length cap := by
          rcases hrk.2 with ⟨_, h0⟩ | ⟨gr, cap, cur, h, _⟩
          · omega
          · exact ⟨gr, cap, h⟩
        cases hve
        have hkr : k < fs.reverse.length := by simpa using hlt
        have c0 := own_fk hrk k 0 (by omega) hkr (by simp)
        have c1 := own_fk hrk k 1 (by omega) hkr (by simp)
        have c2 := own_fk hrk k 2 (by omega) hkr (by simp)
        have c3 := own_fk hrk k 3 (by omega) hkr (by simp)
        have hmem : fs.reverse[k] ∈ fs := List.mem_reverse.1 (List.getElem_mem hkr)
        obtain ⟨rf, hrf⟩ : ∃ rf, Dm.root (fs.reverse[k].other ps) = rf := ⟨_, rfl⟩
        have hsn := rootsOf_snoc ps hd fs.reverse k hkr hrf
        obtain ⟨f, hf⟩ : ∃ f, fs.reverse[k] = f := ⟨_, rfl⟩
        rw [hf] at c0 c1 c2 c3 hmem hrf
        have HOF := Lib.hid (HO.out f hmem)
        have HRR := Lib.hid (fun u v1 h1 hu => hrf ▸ HRF.out f u v1 h1 hu)
        simp only [List.getElem?_cons_zero, List.getElem?_cons_succ, Nat.add_zero] at c0 c1 c2 c3
        have HSN := Lib.hid hsn; have HRW := Lib.hid hrw; have HBW := Lib.hid hbw; have HBW0 := Lib.hid hbw0; have HSZ := Lib.hid hszw
        clear hsn hrw hbw hbw0 hrk hf hrf hmem hkr hszw
        have i7 : (k : Int) < (fs.length : Int) := by omega
        have i8 : (0 : Int) ≤ (k : Int) := by omega
        have rfk := Row.new wr 57 #[.int .i64 (f.fr : Int), .int .i64 (f.mid : Int), .int .i64 (f.to : Int), .bool f.sec]
        have q0 := rfk.cell 0; have q1 := rfk.cell 1; have q2 := rfk.cell 2; have q3 := rfk.cell 3
        simp only [List.getElem?_toArray, List.getElem?_cons_zero, List.getElem?_cons_succ] at q0 q1 q2 q3
        clear rfk
        go_wp2_with (first | (go_at_call 44; refine (HOF.out _ (HBW0.out.alloc HBW0.out.size _)).mono ?_; rintro e w4 ⟨v1, rfl, hs4, hb4⟩; have hs5 := hs4.next hb4; have hb40 := (HBW0.out.alloc HBW0.out.size _).trans (hb4.mono (HBW0.out.alloc HBW0.out.size _).size); have hb4r := ((Below.refl wr.heap.size wr).alloc (Nat.le_refl _) _).trans (hb4.mono ((Below.refl wr.heap.size wr).alloc (Nat.le_refl _) _).size)) | (go_at_call 27; refine (HRR.out _ _ hs5 hb40).mono ?_; rintro e w5 ⟨rfl, hb5⟩; have hb5r := hb4r.trans (hb5.mono hb4r.size); have hrw5 := own_below HRW.out hb5r (own_lt HRW.out); obtain ⟨vp', w6, hrun, hown6, hg6, _⟩ := run_append_own (P := Tryd.prog) (w5.alloc (.cells #[strOf rf] 9)) w1.heap.size 26 26 9 i0 (.string ⟨#[]⟩) 1 16 Tryd.underlying26 hi0 hz0 hz1 hz2 rfl (by decide) _ _ _ (hrw5.alloc _) ⟨w5.heap.size, 0, none⟩ 1 1 [strOf rf] rfl (cell_one_new _ _ _) (by simp [Value.oneCell']) (by unfold maxLen; omega) (by omega) (by have := hb5r.size; have := HSZ.out; simp; omega); rw [append_appN] at hrun; have HROWN := Lib.hid hown6; have HBN := Lib.hid (below_grown HBW.out HSZ.out HRW.out hb5r hg6); clear hown6 hg6 hrw5))
        go_roundw
        case rel => exact ⟨k + 1, by omega, by go_num, by rw [HSN.out]; exact HROWN.out, HBN.out⟩
        case measure => simp [intOf]; omega
      · have ht1 : fs.reverse.take k = fs.reverse := List.take_of_length_le (by simp; omega)
        rw [ht1] at hrw
        have hkk : k = fs.length := by omega
        have HRW := Lib.hid hrw; have HBW0 := Lib.hid hbw0; have HKK := Lib.hid hkk
        clear hrw hbw hbw0 ht1 hkk
        go_wp2
        go_ret2
        refine ⟨_, rfl, ?_, HBW0.out⟩
        have e : (hd ++ rootsOf ps fs.reverse).length = hd.length + k := by rw [List.length_append, HKK.out]; simp [rootsOf]
        rw [e]
        exact own_base HRW.out hb1.size
end Go.Proofs.YtnbhhhbmeafkaaaDoor
