/- The walk of DigestProofAccepted: it returns true for every input. -/
import Derived.Test.YtnbhhhbmeafkaaaDoorL6
import Derived.Deep.RegionHeld3
namespace Go.Proofs.YtnbhhhbmeafkaaaDoor
open Go.RowKit
attribute [local go_sem ↓] append_appN

theorem vfy_of (l : List (List UInt8)) (k : Nat) (x : List UInt8) (hk : k < l.length) (hx : l[k]? = some x) (hn : l.length ≤ 2 ^ 64) : vfy (Dm.root l) (l.length : Int) (k : Int) x (Dm.proof l k) = true := by
  have h := Dm.proof_climbs l k hk hn
  rw [List.getD_eq_getElem?_getD, hx, Option.getD_some] at h
  unfold vfy
  rw [if_neg (by omega), Dm.proof_digs, Bool.true_and, Int.toNat_natCast, Int.toNat_natCast]
  unfold vfyIn
  rw [h, Dm.proof_len]
  simp
theorem vfy_len (root : List UInt8) (n k : Nat) (x : List UInt8) (ps : List (List UInt8)) (h : ps.length ≠ (Dm.forks 64 0 n k).length) : vfy root (n : Int) (k : Int) x ps = false := by
  unfold vfy
  split
  · rfl
  · rw [Int.toNat_natCast, Int.toNat_natCast]
    unfold vfyIn
    have : ((Dm.forks 64 0 n k).length == ps.length) = false := by simpa using fun e => h e.symm
    rw [this]; simp
theorem proof_bin (l : List (List UInt8)) (k : Nat) : (Dm.proof l k).length ≤ Dm.bin l.length := by rw [Dm.proof_len]; exact Dm.forks_bin _ _
theorem proof_small (l : List (List UInt8)) (k : Nat) : ∀ s ∈ Dm.proof l k, s.length ≤ 1000 := fun s hs => by have := Dm.digs_mem (Dm.proof_digs l k) s hs; omega

theorem grown_refl (w : World) (row : Option Nat) : w.grownBy w row := ⟨rfl, rfl, rfl, Nat.le_refl _, fun _ _ _ => rfl⟩
/-- A row is appended to a row of the call's own. -/
theorem app_any {U : World} {B B' : Nat} {d v : Value} {n m : Nat} {D : List Value} {l : List (List UInt8)} {i0 : TypeInfo} (hi0 : Tryd.prog.info? 9 = some i0) (hz0 : i0.zero = some (.string ⟨#[]⟩)) (hz1 : i0.size = 1) (hz2 : i0.bytes = 16)
    (hd : U.ownsRow B 9 1 d n D) (hv : U.ownsRow B' 9 1 v m (strCells l)) (hn : n + m ≤ 1000) (hB : B ≤ U.heap.size) :
    ∃ v' w', Sem.run Tryd.prog (appN #[26, 26] 26 #[d, v]) U = .ok v' w' ∧ w'.ownsRow B 9 1 v' (n + m) (D ++ strCells l) ∧ U.grownBy w' d.ownBlock := by
  have hm : l.length = m := by have := hv.1; rwa [strCells_len, Nat.mul_one] at this
  rcases hv.2 with ⟨rfl, h0⟩ | ⟨g, cap, cur, rfl, hg0, hg, h1, h2, h3, h4⟩
  · subst h0
    obtain rfl : l = [] := List.eq_nil_of_length_eq_zero hm
    exact ⟨_, _, run_append_owned_none (P := Tryd.prog) U B 26 26 9 i0 1 Tryd.underlying26 hi0 d n _ hd, by simpa [strCells] using hd, grown_refl _ _⟩
  · obtain ⟨v', w', hrun, hown, hgr, _⟩ := run_append_own (P := Tryd.prog) U B 26 26 9 i0 (.string ⟨#[]⟩) 1 16 Tryd.underlying26 hi0 hz0 hz1 hz2 rfl (by decide)
      d n _ hd ⟨g, 0, none⟩ m cap (strCells l) (by rw [strCells_len, Nat.mul_one, hm]) (fun j x hj => by
        have hjl : j < l.length := by have := (List.getElem?_eq_some_iff.1 hj).1; rwa [strCells_len] at this
        have := hv.cellAt j (by omega)
        rw [show (⟨g, 0, none⟩ : Addr).add j = ⟨g, j, none⟩ from by simp [Addr.add]; omega, this]; exact hj)
      (fun x hx => by obtain ⟨t, _, rfl⟩ := List.mem_map.1 hx; rfl) (by unfold maxLen; omega) (by omega) hB
    exact ⟨v', w', hrun, hown, hgr⟩
theorem below_app {B : Nat} {w U w' : World} {d : Value} {n : Nat} {D : List Value} (h : Below B w U) (hB : B ≤ U.heap.size) (hd : U.ownsRow B 9 1 d n D) (hg : U.grownBy w' d.ownBlock) : Below B w w' :=
  ⟨hg.os.trans h.os, hg.tape.trans h.tape, hg.output.trans h.output, Nat.le_trans h.size hg.size, fun k hk =>
    (hg.block k (by omega) (fun e => by have := own_ge hd k e.symm; omega)).trans (h.block k hk)⟩
theorem own_keep {U w' : World} {B : Nat} {v : Value} {n : Nat} {xs : List Value} {row : Option Nat} (h : U.ownsRow B 9 1 v n xs) (hg : U.grownBy w' row) (hne : ∀ k, v.ownBlock = some k → some k ≠ row) : w'.ownsRow B 9 1 v n xs := by
  refine ⟨h.1, ?_⟩
  rcases h.2 with h2 | ⟨g, cap, cur, rfl, h3, h4, h5⟩
  · exact .inl h2
  · exact .inr ⟨g, cap, cur, rfl, h3, (hg.block g (Array.getElem?_eq_some_iff.1 h4).1 (hne g rfl)).trans h4, h5⟩
theorem own_oneS (w : World) (R : ByteArray) (r : List UInt8) (h : bs r = R) : (w.alloc (.cells #[.string R] 9)).ownsRow w.heap.size 9 1 (.slice (some ⟨w.heap.size, 0, none⟩) 1 1) 1 (strCells [r]) := by
  subst h; exact own_one w _ _
theorem slice_form {w : World} {B n : Nat} {v : Value} {xs : List Value} (h : w.ownsRow B 9 1 v n xs) (h0 : 0 < n) : ∀ A c, v = .slice A n c → ∃ g, A = some ⟨g, 0, none⟩ ∧ n ≤ c ∧ c ≤ maxLen := by
  intro A c e
  rcases h.2 with ⟨_, h1⟩ | ⟨g, cap, cur, e2, _, _, h1, h2, _⟩
  · omega
  · rw [e] at e2
    injection e2 with e3 e4 e5
    subst e5
    exact ⟨g, e3, h1, h2⟩
theorem strs_tail {w : World} {B g z c : Nat} {x : List UInt8} {X : List (List UInt8)} (h : Strs w B (.slice (some ⟨g, 0, none⟩) (z + 1) c) (x :: X)) : Strs w B (.slice (some ⟨g, 1, none⟩) z (c - 1)) X := by
  obtain ⟨A, c', e, h1, h2, h3⟩ := h
  injection e with e1 e2 e3
  subst e3
  rcases h3 with ⟨_, h3⟩ | ⟨g', off, h3, hg, hc⟩
  · cases h3
  · rw [h3] at e1
    injection e1 with e1
    injection e1 with e4 e5
    subst e4; subst e5
    have hl : X.length = z := by simp at e2; omega
    refine ⟨_, c - 1, by rw [hl], by simp at h1; omega, by omega, .inr ⟨g, 1, rfl, hg, fun j s hj => ?_⟩⟩
    have := hc (j + 1) s (by simpa using hj)
    rw [show 0 + (j + 1) = 1 + j by omega] at this; exact this
theorem strs_none {w : World} {B g off c : Nat} (hg : g < B) (hc : c ≤ maxLen) : Strs w B (.slice (some ⟨g, off, none⟩) 0 c) [] := ⟨_, c, rfl, by simp, hc, .inr ⟨g, off, rfl, hg, fun j s hj => by simp at hj⟩⟩
theorem own_empty (w : World) : (w.alloc (.cells #[] 9)).ownsRow w.heap.size 9 1 (.slice (some ⟨w.heap.size, 0, none⟩) 0 0) 0 [] :=
  ⟨rfl, .inr ⟨w.heap.size, 0, #[], rfl, Nat.le_refl _, heap_alloc_new w _, Nat.le_refl _, by decide, rfl, rfl⟩⟩
theorem keep_alloc0 {w u : World} {p : Addr} {x : Value} {o : Obj} (hp : p.block < w.heap.size) (h : Below w.heap.size w u ∧ u.cell? p = some x) : Below w.heap.size w (u.alloc o) ∧ (u.alloc o).cell? p = some x :=
  ⟨h.1.alloc h.1.size _, (World.cell?_alloc_lt _ _ _ (by have := h.1.size; omega)).trans h.2⟩
theorem keep_call0 {w u v : World} {p : Addr} {x : Value} (hp : p.block < w.heap.size) (h : Below w.heap.size w u ∧ u.cell? p = some x) (hb : Below u.heap.size u v) : Below w.heap.size w v ∧ v.cell? p = some x :=
  ⟨h.1.trans (hb.mono h.1.size), (hb.cell (p := p) (by have := h.1.size; omega)).trans h.2⟩
theorem long_cell0 {u : World} {A : Option Addr} {n c k : Nat} {l : List (List UInt8)} (h : Strs u u.heap.size (.slice A n c) l) (hk : k < l.length) :
    ∃ g off, A = some ⟨g, off, none⟩ ∧ g < u.heap.size ∧ u.cell? ⟨g, off + k, none⟩ = some (strOf l[k]) := by
  obtain ⟨A', c', e, h1, h2, h3⟩ := h
  injection e with e1 e2 e3
  subst e1
  rcases h3 with ⟨_, h3⟩ | ⟨g, off, h3, hg, hc⟩
  · rw [h3] at hk; simp at hk
  · exact ⟨g, off, h3, hg, hc k _ (List.getElem?_eq_getElem hk)⟩
set_option maxRecDepth 100000 in
set_option maxHeartbeats 2000000 in
theorem proofAccepted_walk (v1 : Value) (p : List (List UInt8)) (i : Int) (w : World) (ht : TabOk w)
    (hp : StrsA w v1 p) (hlp : ∀ s ∈ p, s.length ≤ maxLen) (hi1 : -9223372036854775808 ≤ i) (hi2 : i ≤ 9223372036854775807) :
    Calls Tryd.prog 6 #[v1, .int .i64 i] w (SanePost w) := by
  have c1 := sane_any w ht
  have c2 := fun u (hu : Below w.heap.size w u) => few_in v1 p 40 u (hp.next hu) hlp (by decide)
  have hps := cut_small 40 p
  have hpl := cut_len 40 p
  obtain ⟨P, hP⟩ : ∃ P, cut 40 p = P := ⟨_, rfl⟩
  rw [hP] at c2 hps hpl
  have T := fun u (hu : Below w.heap.size w u) => ht.next hu
  have hpn : P.length ≤ 40 := by omega
  have C1 := Lib.hid c1; have C2 := Lib.hid c2; have TT := Lib.hid T
  have HPS := Lib.hid (show ∀ s ∈ P, s.length ≤ 1000 from fun s hs => by have := hps s hs; omega)
  obtain ⟨N, hN⟩ : ∃ N, P.length = N := ⟨_, rfl⟩
  rw [hN] at hpn
  have HN := Lib.hid hN
  obtain ⟨R, hR⟩ : ∃ R, bs (Dm.root P) = R := ⟨_, rfl⟩
  have HR := Lib.hid hR
  clear c1 c2 T hps hpl hP hp hlp hN hR
  go_enter Tryd.func6, Tryd.ntmps6
  go_wp2_with fail
  refine C1.out.mono ?_
  rintro e w1 ⟨rfl, k1⟩
  have K1 := Lib.hid k1
  clear k1
  go_wp2_with fail
  refine (C2.out _ K1.out).mono ?_
  rintro e w2 ⟨pv, rfl, hpo, b2⟩
  have sp := strs_of_own hpo rfl
  obtain ⟨A, c, rfl, hc1, hc2, hA⟩ := sp
  have hc1' := hc1
  rw [HN.out] at hc1'
  unfold maxLen at hc2
  have HSP := Lib.hid (fun u (hu : Below w2.heap.size w2 u) => Strs.next (show Strs w2 w2.heap.size (.slice A N c) P from ⟨A, c, by rw [HN.out], hc1, hc2, hA⟩) hu)
  have K2 := Lib.hid (below_to K1.out b2)
  rw [HN.out]
  clear hpo b2 hA hc1
  have rc := root_any (.slice A N c) P w2 (HSP.out _ (Below.refl _ _)) HPS.out (TT.out _ K2.out)
  unfold strOf at rc
  rw [HR.out] at rc
  have RC := Lib.hid rc
  clear rc
  go_wp2_with fail
  refine RC.out.mono ?_
  rintro e w3 ⟨rfl, b3⟩
  have K3 := Lib.hid (below_to K2.out b3); have D3 := Lib.hid b3
  clear b3
  go_wp2_with fail
  go_loopw [7, 8, 9] (fun i _ _ wr => ∃ k : Nat, k ≤ N ∧ i = .int .i64 (k : Int) ∧ Below w2.heap.size w2 wr) (fun i _ _ _ => N - (intOf i).toNat)
  case atStart => exact ⟨0, by omega, rfl, D3.out⟩
  case round =>
    obtain ⟨k, hk, rfl, hbw⟩ := hrel
    have HBW := Lib.hid hbw
    have KW := Lib.hid (below_to K2.out hbw)
    clear hbw
    by_cases hlt : k < N
    · obtain ⟨g, off, rfl, hg, hcell⟩ := long_cell0 (HSP.out _ HBW.out) (k := k) (by have := HN.out; omega)
      obtain ⟨x, hx⟩ : ∃ x, P[k]'(by have := HN.out; omega) = x := ⟨_, rfl⟩
      have hxl : x.length ≤ 1000 := by rw [← hx]; exact HPS.out _ (List.getElem_mem _)
      have hvf := vfy_of P k x (by have := HN.out; omega) (by rw [List.getElem?_eq_getElem (by have := HN.out; omega), hx]) (by have := HN.out; omega)
      have hpr := prf_in P k (.slice (some ⟨g, off, none⟩) N c) wr (HSP.out _ HBW.out) HPS.out (by have := HN.out; omega) (by have := HN.out; omega) (TT.out _ KW.out)
      have hxb := proof_bin P k
      have hxs := proof_small P k
      have hr2 : (Dm.root P).length = 32 := Dm.root_len _
      rw [hx] at hcell
      obtain ⟨X, hX⟩ : ∃ X, Dm.proof P k = X := ⟨_, rfl⟩
      rw [hX] at hpr hxb hxs hvf
      rw [HN.out] at hxb hvf
      have hve := fun xv u (hxx : Strs u u.heap.size xv X) (hu : Below w2.heap.size w2 u) => hvf ▸ vfy_any (Dm.root P) x N k xv X u hxx hxs (by omega) (by omega) (TT.out _ (below_to K2.out hu))
      obtain ⟨S, hS⟩ : ∃ S, bs x = S := ⟨_, rfl⟩
      unfold strOf at hve hcell
      rw [HR.out, hS] at hve
      rw [hS] at hcell
      obtain ⟨y, hy⟩ : ∃ y, X.length = y := ⟨_, rfl⟩
      have HY := Lib.hid hy
      rw [hy] at hxb
      have HE := Lib.hid hpr; have HV := Lib.hid hve; have HB := Lib.hid (fun w => binary_any N w (by omega))
      have hbb : Dm.bin N ≤ 6 := by
        unfold Dm.bin
        split
        · omega
        · have : Nat.log2 N < 6 := (Nat.log2_lt (by omega)).2 (by omega)
          omega
      obtain ⟨b, hb⟩ : ∃ b, Dm.bin N = b := ⟨_, rfl⟩
      rw [hb] at hxb hbb HB
      have HC := Lib.hid (fun u (hu : Below wr.heap.size wr u) => (hu.cell (p := ⟨g, off + k, none⟩) hg).trans hcell)
      have hg2 := hg
      clear hpr hve hr2 hX hx hy hxs hvf hb hS hcell
      have j1 : (k : Int) < (N : Int) := by omega
      have j2 : (0 : Int) ≤ (k : Int) := by omega
      have j4 : decide ((b : Int) < (y : Int)) = false := by simp; omega
      go_wp2_with fail
      refine HE.out.mono ?_
      rintro e w4 ⟨xv, rfl, hxo, b4⟩
      have sx := strs_of_own hxo rfl
      obtain ⟨Ax, cx, rfl⟩ := own_slice hxo
      rw [HY.out] at sx
      rw [HY.out]
      have HSX := Lib.hid sx
      have D4 := Lib.hid (below_to HBW.out b4)
      have hc4 := HC.out _ b4
      clear hxo b4 sx
      go_wp2_with fail
      refine (HB.out _).mono ?_
      rintro e w' ⟨rfl, rfl⟩
      go_wp2_with fail
      refine (HV.out _ _ HSX.out D4.out).mono ?_
      rintro e w6 ⟨rfl, b6⟩
      have D6 := Lib.hid (below_to D4.out b6)
      clear b6
      go_wp2_with fail
      go_roundw
      case rel => exact ⟨k + 1, by omega, by go_num, D6.out⟩
      case measure => simp [intOf]; omega
    · have hd : decide (k < N) = false := by simpa using hlt
      by_cases hin : 0 ≤ i ∧ i < (N : Int)
      · obtain ⟨I, hI⟩ := Int.eq_ofNat_of_zero_le hin.1
        subst hI
        obtain ⟨i0, hi0, hz0, hz1, hz2⟩ := info_parts Tryd.infoStr
        obtain ⟨g, off, rfl, hg, hcell⟩ := long_cell0 (HSP.out _ HBW.out) (k := I) (by have := HN.out; omega)
        obtain ⟨x, hx⟩ : ∃ x, P[I]'(by have := HN.out; omega) = x := ⟨_, rfl⟩
        have hxl : x.length ≤ 1000 := by rw [← hx]; exact HPS.out _ (List.getElem_mem _)
        have hpr := prf_in P I (.slice (some ⟨g, off, none⟩) N c) wr (HSP.out _ HBW.out) HPS.out (by have := HN.out; omega) (by have := HN.out; omega) (TT.out _ KW.out)
        have hxs := proof_small P I
        have hxn := Dm.proof_len P I
        have hfl := Dm.forks_len 64 0 N I
        have hr2 : (Dm.root P).length = 32 := Dm.root_len _
        rw [hx] at hcell
        rw [HN.out] at hxn
        obtain ⟨X, hX⟩ : ∃ X, Dm.proof P I = X := ⟨_, rfl⟩
        rw [hX] at hpr hxs hxn
        have hlong := vfy_len (Dm.root P) N I x (X ++ [Dm.root P]) (by rw [List.length_append, List.length_singleton]; omega)
        have hshort : 0 < X.length → vfy (Dm.root P) N I x (X.drop 1) = false := fun h => vfy_len (Dm.root P) N I x (X.drop 1) (by rw [List.length_drop]; omega)
        have hve := fun xv u (hxx : Strs u u.heap.size xv (X ++ [Dm.root P])) (hu : Below w2.heap.size w2 u) => hlong ▸ vfy_any (Dm.root P) x N I xv _ u hxx (fun s hs => by
          rcases List.mem_append.1 hs with h | h
          · exact hxs s h
          · rw [List.mem_singleton.1 h]; omega) (by omega) (by omega) (TT.out _ (below_to K2.out hu))
        have hvs := fun (h0 : 0 < X.length) xv u (hxx : Strs u u.heap.size xv (X.drop 1)) (hu : Below w2.heap.size w2 u) => hshort h0 ▸ vfy_any (Dm.root P) x N I xv _ u hxx (fun s hs => hxs s (List.mem_of_mem_drop hs)) (by omega) (by omega) (TT.out _ (below_to K2.out hu))
        obtain ⟨S, hS⟩ : ∃ S, bs x = S := ⟨_, rfl⟩
        unfold strOf at hve hvs hcell
        rw [HR.out, hS] at hve hvs
        rw [hS] at hcell
        obtain ⟨y, hy⟩ : ∃ y, X.length = y := ⟨_, rfl⟩
        have HY := Lib.hid hy
        have hy64 : y ≤ 64 := by omega
        have HE := Lib.hid hpr; have HV := Lib.hid hve; have HVS := Lib.hid hvs
        have HC := Lib.hid (fun u (hu : Below wr.heap.size wr u) => (hu.cell (p := ⟨g, off + I, none⟩) hg).trans hcell)
        have j1 : (I : Int) < (N : Int) := hin.2
        have j2 : (0 : Int) ≤ (I : Int) := by omega
        clear hpr hve hvs hr2 hX hx hy hxs hcell hin hxn hfl hlong hshort hxl hS
        go_wp2_with fail
        refine HE.out.mono ?_
        rintro e w4 ⟨xv, rfl, hxo, b4⟩
        rw [HY.out] at hxo
        have hgw : g < w4.heap.size := by have := b4.size; omega
        have hc4 := HC.out _ b4
        have D4 := Lib.hid (below_to HBW.out b4)
        -- the three orders in which the parts are made
        obtain ⟨va1, wa1, ra1, oa1, ga1⟩ := app_any (U := (w4.alloc (.cells #[] 9)).drew) hi0 hz0 hz1 hz2 (own_empty w4).drew (hxo.alloc _).drew (by omega) (by simp)
        have ba1 : Below w4.heap.size w4 wa1 := below_app ((Below.refl _ _).alloc (Nat.le_refl _) _).drew (by simp) (own_empty w4).drew ga1
        obtain ⟨va2, wa2, ra2, oa2, ga2⟩ := app_any (U := wa1.alloc (.cells #[.string R] 9)) (l := [Dm.root P]) hi0 hz0 hz1 hz2 (oa1.alloc _) (own_oneS wa1 R _ HR.out) (by omega) (by have := ba1.size; simp; omega)
        have ba2 : Below w4.heap.size w4 wa2 := below_app (ba1.alloc ba1.size _) (by have := ba1.size; simp; omega) (oa1.alloc _) ga2
        have ob0 := ((own_empty w4).alloc (.cells #[.string R] 9)).drew
        obtain ⟨vb1, wb1, rb1, ob1, gb1⟩ := app_any (U := ((w4.alloc (.cells #[] 9)).alloc (.cells #[.string R] 9)).drew) hi0 hz0 hz1 hz2 ob0 ((hxo.alloc _).alloc _).drew (by omega) (by simp; omega)
        have bb1 : Below w4.heap.size w4 wb1 := below_app (((Below.refl _ _).alloc (Nat.le_refl _) _).alloc (by simp) _).drew (by simp; omega) ob0 gb1
        have orb : wb1.ownsRow (w4.heap.size + 1) 9 1 (.slice (some ⟨w4.heap.size + 1, 0, none⟩) 1 1) 1 (strCells [Dm.root P]) := by
          have h0 := (own_oneS (w4.alloc (.cells #[] 9)) R _ HR.out).drew
          rw [World.size_alloc] at h0
          exact own_keep h0 gb1 (fun k hk => by simp [Value.ownBlock] at hk ⊢ <;> omega)
        obtain ⟨vb2, wb2, rb2, ob2, gb2⟩ := app_any (U := wb1) hi0 hz0 hz1 hz2 ob1 orb (by omega) bb1.size
        have bb2 : Below w4.heap.size w4 wb2 := below_app bb1 bb1.size ob1 gb2
        have oc0 := (own_empty (w4.alloc (.cells #[.string R] 9))).drew
        rw [World.size_alloc] at oc0
        obtain ⟨vc1, wc1, rc1, oc1, gc1⟩ := app_any (U := ((w4.alloc (.cells #[.string R] 9)).alloc (.cells #[] 9)).drew) hi0 hz0 hz1 hz2 oc0 ((hxo.alloc _).alloc _).drew (by omega) (by simp)
        have bc1 : Below w4.heap.size w4 wc1 := below_app (((Below.refl _ _).alloc (Nat.le_refl _) _).alloc (by simp) _).drew (by simp; omega) (own_base oc0 (by omega)) gc1
        have orc : wc1.ownsRow w4.heap.size 9 1 (.slice (some ⟨w4.heap.size, 0, none⟩) 1 1) 1 (strCells [Dm.root P]) := by
          have h0 := ((own_oneS w4 R _ HR.out).alloc (.cells #[] 9)).drew
          exact own_keep h0 gc1 (fun k hk => by simp [Value.ownBlock] at hk ⊢ <;> omega)
        obtain ⟨vc2, wc2, rc2, oc2, gc2⟩ := app_any (U := wc1) hi0 hz0 hz1 hz2 oc1 orc (by omega) (by have := gc1.size; simp at this; omega)
        have bc2 : Below w4.heap.size w4 wc2 := below_app bc1 bc1.size (own_base oc1 (by omega)) gc2
        have xe : ∀ D : List Value, D = strCells X → [] ++ D ++ strCells [Dm.root P] = strCells (X ++ [Dm.root P]) := fun D h => by rw [h]; simp [strCells]
        rw [xe _ rfl] at oa2 ob2 oc2
        have sa := strs_of_own oa2 (by rw [List.length_append, List.length_singleton, HY.out]; omega)
        have sb := strs_of_own ob2 (by rw [List.length_append, List.length_singleton, HY.out]; omega)
        have sc := strs_of_own oc2 (by rw [List.length_append, List.length_singleton, HY.out]; omega)
        have sx := strs_of_own hxo HY.out
        have HSX := Lib.hid (fun u (hu : Below w4.heap.size w4 u) => sx.next hu)
        have cc := fun u (hu : Below w4.heap.size w4 u) => (hu.cell (p := ⟨g, off + I, none⟩) hgw).trans hc4
        have ha1 := (⟨ba1, cc _ ba1⟩ : Below w4.heap.size w4 wa1 ∧ _)
        have ha2 := (⟨ba2, cc _ ba2⟩ : Below w4.heap.size w4 wa2 ∧ _)
        have hb1 := (⟨bb1, cc _ bb1⟩ : Below w4.heap.size w4 wb1 ∧ _)
        have hb2 := (⟨bb2, cc _ bb2⟩ : Below w4.heap.size w4 wb2 ∧ _)
        have hcc1 := (⟨bc1, cc _ bc1⟩ : Below w4.heap.size w4 wc1 ∧ _)
        have hcc2 := (⟨bc2, cc _ bc2⟩ : Below w4.heap.size w4 wc2 ∧ _)
        have HVW := Lib.hid (fun xv u hxx (hu : Below w4.heap.size w4 u) => HV.out xv u hxx (D4.out.trans (hu.mono D4.out.size)))
        have K4 := Lib.hid (below_to K2.out D4.out)
        have HVT := Lib.hid (fun h0 xv u hxx (hu : Below w4.heap.size w4 u) => HVS.out h0 xv u hxx (D4.out.trans (hu.mono D4.out.size)))
        clear oa1 ga1 oa2 ga2 ob0 ob1 gb1 orb ob2 gb2 oc0 oc1 gc1 orc oc2 gc2 xe cc sx b4
        clear C1 C2 HPS HSP RC K1 K2 K3 D3 HN HR HBW KW HE HV HVS HC D4
        have hfm := slice_form hxo
        obtain ⟨Ax, cx, rfl⟩ := own_slice hxo
        have HFM := Lib.hid (fun h0 => hfm h0 Ax cx rfl)
        clear hxo hfm
        go_wp2_with fail
        go_region_held3 (fun w' => Below w4.heap.size w4 w' ∧ w'.cell? ⟨g, off + I, none⟩ = some (.string S)) (first | assumption | (exact ⟨Below.drew (Below.refl _ _), hc4⟩) | (exact keep_alloc0 hgw (by assumption)) | (exact keep_call0 hgw (by assumption) b5)) (first | (go_at_call 29; ((with_reducible refine Calls.mono (HVW.out _ _ ?h1 ?h2) ?_); (case h1 => assumption); (case h2 => exact (‹Below w4.heap.size w4 _ ∧ _›).1); rintro e w9 ⟨rfl, b5⟩)))
        all_goals
          clear ra1 ra2 rb1 rb2 rc1 rc2 sa sb sc ha1 ha2 hb1 hb2 hcc1 hcc2
          by_cases hy0 : y = 0
          · subst hy0
            clear HFM HVT HVW HSX HY
            go_wp2
            go_quiet (fail)
            go_wp2
            go_ret
            exact ⟨rfl, belowN (below_to K4.out (‹Below w4.heap.size w4 _ ∧ _›).1) _⟩
          · obtain ⟨gx, hgx, hcx1, hcx2⟩ := HFM.out (by omega)
            subst hgx
            obtain ⟨z, hz⟩ : ∃ z, y = z + 1 := ⟨y - 1, by omega⟩
            subst hz
            obtain ⟨x0, X0, hX0⟩ : ∃ x0 X0, X = x0 :: X0 := by
              cases X with
              | nil => have := HY.out; simp at this
              | cons a b => exact ⟨a, b, rfl⟩
            unfold maxLen at hcx2
            by_cases hc1 : cx = 1
            · subst hc1
              obtain rfl : z = 0 := by omega
              have HVU := Lib.hid (fun u (hu : Below w4.heap.size w4 u) => HVT.out (by have := HY.out; omega) (.slice (some ⟨gx, 0, none⟩) 0 0) u (by
                have h1 := HSX.out u hu
                rw [hX0] at h1 ⊢
                obtain ⟨A', c', e, _, _, h3⟩ := h1
                have hl : X0 = [] := List.eq_nil_of_length_eq_zero (by have := HY.out; rw [hX0, List.length_cons] at this; omega)
                rw [hl]
                rcases h3 with ⟨_, h3⟩ | ⟨g', off', h3, hg', _⟩
                · cases h3
                · injection e with e1
                  rw [h3] at e1
                  injection e1 with e1
                  injection e1 with e4
                  subst e4
                  exact strs_none hg' (by decide)) hu)
              clear HFM HVT HVW HSX HY hX0
              go_wp2
              go_region_held3 (fun w' => Below w4.heap.size w4 w' ∧ w'.cell? ⟨g, off + I, none⟩ = some (.string S)) (first | assumption | (exact ⟨Below.drew (‹Below w4.heap.size w4 _ ∧ _›).1, (‹Below w4.heap.size w4 _ ∧ _›).2⟩) | (exact keep_call0 hgw (by assumption) b5)) (first | (go_at_call 29; ((with_reducible refine Calls.mono (HVU.out _ ?h2) ?_); (case h2 => exact (‹Below w4.heap.size w4 _ ∧ _›).1); rintro e w10 ⟨rfl, b5⟩)))
              go_wp2
              go_ret
              exact ⟨rfl, (below_to K4.out (‹Below w4.heap.size w4 _ ∧ _›).1)⟩
            · have HVU := Lib.hid (fun u (hu : Below w4.heap.size w4 u) => HVT.out (by have := HY.out; omega) (.slice (some ⟨gx, 1, none⟩) z (cx - 1)) u (by
                have h1 := HSX.out u hu
                rw [hX0] at h1 ⊢
                exact strs_tail h1) hu)
              have i1 : (1 : Int) ≤ (cx : Int) := by omega
              have i2 : (1 : Int) ≤ (z : Int) + 1 := by omega
              have i3 : (0 : Int) < (z : Int) + 1 := by omega
              have i4 : (z : Int) + 1 ≤ (cx : Int) := by omega
              clear HFM HVT HVW HSX HY hX0 hy0
              go_wp2
              go_region_held3 (fun w' => Below w4.heap.size w4 w' ∧ w'.cell? ⟨g, off + I, none⟩ = some (.string S)) (first | assumption | (exact ⟨Below.drew (‹Below w4.heap.size w4 _ ∧ _›).1, (‹Below w4.heap.size w4 _ ∧ _›).2⟩) | (exact keep_call0 hgw (by assumption) b5)) (first | (go_at_call 29; ((with_reducible refine Calls.mono (HVU.out _ ?h2) ?_); (case h2 => exact (‹Below w4.heap.size w4 _ ∧ _›).1); rintro e w10 ⟨rfl, b5⟩)))
              go_wp2
              go_ret
              exact ⟨rfl, (below_to K4.out (‹Below w4.heap.size w4 _ ∧ _›).1)⟩
      · have hext := prf_err i A N c wr (by omega)
        have hve := fun u => vfy_out (Dm.root P) [] N i (.slice none 0 0) [] u ⟨none, 0, rfl, Nat.le_refl _, by decide, .inl ⟨rfl, rfl⟩⟩ (fun _ h => by cases h) (by omega)
        have e0 : strOf [] = .string ⟨#[]⟩ := rfl
        rw [e0] at hve
        unfold strOf at hve
        rw [HR.out] at hve
        have HE := Lib.hid hext; have HV := Lib.hid hve
        clear hext hve e0
        by_cases hm0 : 0 ≤ i
        · have hmn : decide (i < (N : Int)) = false := by simp; omega
          clear hin
          go_wp2_with fail
          refine HE.out.mono ?_
          rintro e w4 ⟨rfl, b4⟩
          have K4 := Lib.hid (below_to KW.out b4)
          clear b4
          go_wp2_with fail
          refine (HV.out _).mono ?_
          rintro e w5 ⟨rfl, b5⟩
          have K5 := Lib.hid (below_to K4.out b5)
          clear b5
          go_wp2_with fail
          go_ret
          exact ⟨rfl, K5.out⟩
        · have hmn : decide (0 ≤ i) = false := by simpa using hm0
          clear hin
          go_wp2_with fail
          refine HE.out.mono ?_
          rintro e w4 ⟨rfl, b4⟩
          have K4 := Lib.hid (below_to KW.out b4)
          clear b4
          go_wp2_with fail
          refine (HV.out _).mono ?_
          rintro e w5 ⟨rfl, b5⟩
          have K5 := Lib.hid (below_to K4.out b5)
          clear b5
          go_wp2_with fail
          go_ret
          exact ⟨rfl, K5.out⟩
end Go.Proofs.YtnbhhhbmeafkaaaDoor
