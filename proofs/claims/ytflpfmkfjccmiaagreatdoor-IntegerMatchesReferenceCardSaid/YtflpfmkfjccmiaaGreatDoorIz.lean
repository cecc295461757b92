/- Contract of root of magnitudes. -/
import Derived.Test.YtflpfmkfjccmiaaGreatDoorIy
namespace Go.Proofs.YtflpfmkfjccmiaaGreatDoor
open Go.RowKit Go.Shelf

def cellInt (W : World) (v : Value) : Int := match v with
  | .pointer (some a) => match W.cell? a with
    | some x => intOf x
    | none => 0
  | _ => 0
theorem cellInt_row {W : World} {g : Nat} {t : TypeId} {n : Int} (h : Row W g t #[.int .i64 n]) : cellInt W (.pointer (some ⟨g, 0, none⟩)) = n := by
  have := h.cell 0
  simp only [List.getElem?_toArray, List.getElem?_cons_zero] at this
  simp only [cellInt, this, intOf]

theorem val_zero : ∀ (l : List Int), (∀ j, j < l.length → l.getD j 0 = 0) → Im.val l = 0
  | [], _ => rfl
  | x :: l, h => by
    have h0 : x = 0 := by simpa using h 0 (by simp)
    have h1 := val_zero l (fun j hj => by simpa using h (j + 1) (by simpa using hj))
    unfold Im.val; omega
/-- The array of the root with one group laid in. -/
theorem root_val {L : List Int} {N i p : Nat} (g : Nat) (hL : L.length = N) (hi : i < N) (hz : ∀ j, j < i + 1 → L.getD j 0 = 0) (hv : Im.val (L.drop (i + 1)) = (p : Int)) : Im.val (L.set i (g : Int)) = ((p * 10000 ^ (i + 1) + g * 10000 ^ i : Nat) : Int) := by
  rw [Im.val_split _ i (by rw [List.length_set]; omega), Im.val_top L i g (by omega), hv, List.take_set_of_le (by omega), val_zero (L.take i) (fun j hj => by
    rw [List.length_take] at hj
    rw [List.getD_eq_getElem?_getD, List.getElem?_take_of_lt (by omega), ← List.getD_eq_getElem?_getD]; exact hz j (by omega))]
  rw [Int.zero_add, Int.mul_add, Nat.pow_succ]
  simp only [Int.natCast_add, Int.natCast_mul, Im.castPow]
  rw [Int.mul_comm (10000 ^ i) (g : Int), Int.add_comm, ← Int.mul_assoc, Int.mul_comm (10000 ^ i * 10000) (p : Int)]
  rfl
theorem root_fit (m i g : Nat) : ((Im.isqrt m / 10000 ^ (i + 1) * 10000 ^ (i + 1) + g * 10000 ^ i) * (Im.isqrt m / 10000 ^ (i + 1) * 10000 ^ (i + 1) + g * 10000 ^ i) ≤ m) ↔ g ≤ Im.isqrt m / 10000 ^ i % 10000 := by
  rw [Im.sq_le_iff, Im.root_digit]
  have := Im.div_shift (Im.isqrt m) i
  omega

/-- What holds while root goes through the groups: those from k on are found. -/
structure RootI (w : World) (vm : Value) (N s k : Nat) (L : List Int) (W : World) : Prop where
  rm : Row W w.heap.size 45 #[vm]
  rr : Row W (w.heap.size + 1 + 1) 38 #[.slice (some ⟨w.heap.size + 1, 0, none⟩) N N]
  arr : Arr W (w.heap.size + 1) L
  len : L.length = N
  gs : Im.Gs L
  zero : ∀ j, j < k → L.getD j 0 = 0
  val : Im.val (L.drop k) = ((s / 10000 ^ k : Nat) : Int)
  bw : Below w.heap.size w W
theorem root_S {w W0 u : World} {vm : Value} {Bi N i : Nat} {L : List Int} (h : RootJ w W0 vm Bi N i L u) : u.cell? ⟨w.heap.size + 1 + 1, 0, none⟩ = some (.slice (some ⟨w.heap.size + 1, 0, none⟩) N N) ∧ u.cell? ⟨Bi, 0, none⟩ = some (.int .i64 (i : Int)) := ⟨(h.rr.cell 0).trans rfl, (h.ri.cell 0).trans rfl⟩
theorem root_S2 {w W0 u : World} {vm x : Value} {Bi N i : Nat} {L : List Int} (h : RootJ w W0 vm Bi N i L u) (hB : w.heap.size + 2 < Bi) : (u.setCell ⟨w.heap.size + 1, i, none⟩ x).cell? ⟨w.heap.size + 1 + 1, 0, none⟩ = some (.slice (some ⟨w.heap.size + 1, 0, none⟩) N N) ∧ (u.setCell ⟨w.heap.size + 1, i, none⟩ x).cell? ⟨Bi, 0, none⟩ = some (.int .i64 (i : Int)) := by
  have hs := root_S h
  exact ⟨(World.cell?_setCell_other _ _ _ _ (by intro e; injection e; omega)).trans hs.1, (World.cell?_setCell_other _ _ _ _ (by intro e; injection e; omega)).trans hs.2⟩

set_option maxRecDepth 100000 in
set_option maxHeartbeats 2000000 in
theorem root_any (vm : Value) (m : Nat) (w : World) (hm : Mag w vm m) (lm : (Im.grp m).length ≤ 250) :
    Calls Tryz.prog 46 #[vm] w (MagPost (Im.isqrt m) w) := by
  have hlen := Im.isqrt_len m
  obtain ⟨A, c, rfl, hc1, hc2⟩ := ints_form hm
  obtain ⟨M, hM⟩ : ∃ n, (Im.grp m).length = n := ⟨_, rfl⟩
  rw [hM] at hlen hm hc1 lm ⊢
  obtain ⟨N, hN⟩ : ∃ n, (M + 1) / 2 = n := ⟨_, rfl⟩
  rw [hN] at hlen
  have e1 : ((M : Int) + 1).tdiv 2 = (N : Int) := by rw [Int.tdiv_eq_ediv_of_nonneg (by omega)]; omega
  have e2 : ((M : Int) + 1) / 2 = (N : Int) := by omega
  have e3 : IntKind.i64.wrap (N : Int) = (N : Int) := IntWalk.i64_in _ (by omega)
  have hmk : ∀ w, (Instr.makeSlice 38 (.int .i64 (N : Int)) (.int .i64 (N : Int))).run Tryz.prog w = .ok (.slice (some ⟨w.heap.size, 0, none⟩) N N) (w.alloc (.cells (intRow (List.replicate N 0)) 3)) := fun w => mk_int N N w (Nat.le_refl _) (by omega)
  have hN2 : N ≤ 126 := by omega
  have HM := Lib.hid hm; have HLEN := Lib.hid hlen
  clear hm hM hN hlen
  go_enter Tryz.func46, Tryz.ntmps46
  go_wp2
  clear hmk e1 e2 e3
  obtain ⟨W0, hW0⟩ : ∃ W0, (((w.alloc (.cells #[.slice A M c] 45)).alloc (.cells (intRow (List.replicate N 0)) 3)).alloc (.cells #[.slice (some ⟨w.heap.size + 1, 0, none⟩) N N] 38)).alloc (.cells #[.int .i64 ((N : Int) - 1)] 3) = W0 := ⟨_, rfl⟩
  have hb0 : Below w.heap.size w W0 := by rw [← hW0]; exact ((((Below.refl _ w).alloc (Nat.le_refl _) _).alloc (by simp) _).alloc (by simp; omega) _).alloc (by simp; omega) _
  have q1 : Row W0 w.heap.size 45 #[.slice A M c] := by rw [← hW0]; exact (((Row.new w _ _).alloc _).alloc _).alloc _
  have q2 : Row W0 (w.heap.size + 1) 3 (intRow (List.replicate N 0)) := by
    rw [← hW0]
    have := ((Row.new (w.alloc (.cells #[.slice A M c] 45)) 3 (intRow (List.replicate N 0))).alloc (.cells #[.slice (some ⟨w.heap.size + 1, 0, none⟩) N N] 38)).alloc (.cells #[.int .i64 ((N : Int) - 1)] 3)
    rw [World.size_alloc] at this; exact this
  have q3 : Row W0 (w.heap.size + 1 + 1) 38 #[.slice (some ⟨w.heap.size + 1, 0, none⟩) N N] := by
    rw [← hW0]
    have := (Row.new ((w.alloc (.cells #[.slice A M c] 45)).alloc (.cells (intRow (List.replicate N 0)) 3)) 38 #[.slice (some ⟨w.heap.size + 1, 0, none⟩) N N]).alloc (.cells #[.int .i64 ((N : Int) - 1)] 3)
    rw [World.size_alloc, World.size_alloc] at this; exact this
  have q4 : Row W0 (w.heap.size + 1 + 1 + 1) 3 #[.int .i64 ((N : Int) - 1)] := by
    rw [← hW0]
    have := Row.new (((w.alloc (.cells #[.slice A M c] 45)).alloc (.cells (intRow (List.replicate N 0)) 3)).alloc (.cells #[.slice (some ⟨w.heap.size + 1, 0, none⟩) N N] 38)) 3 #[.int .i64 ((N : Int) - 1)]
    rw [World.size_alloc, World.size_alloc, World.size_alloc] at this; exact this
  rw [hW0]
  clear hW0
  have HST : Hid (Row W0 (w.heap.size + 1 + 1 + 1) 3 #[.int .i64 ((N : Int) - 1)] ∧ RootI w (.slice A M c) N (Im.isqrt m) N (List.replicate N 0) W0) := Lib.hid ⟨q4, q1, q3, Arr.of_row q2, by simp, Im.gs_zeros N, fun j _ => by rw [List.getD_eq_getElem?_getD, List.getElem?_replicate]; split <;> rfl, by rw [List.drop_eq_nil_of_le (by simp), Nat.div_eq_of_lt HLEN.out]; rfl, hb0⟩
  clear q1 q2 q3 q4 hb0
  go_loopw [4] (fun t wr => ∃ (k Bi : Nat) (L : List Int), k ≤ N ∧ t = .pointer (some ⟨Bi, 0, none⟩) ∧ w.heap.size + 2 < Bi ∧ Hid (Row wr Bi 3 #[.int .i64 ((k : Int) - 1)] ∧ RootI w (.slice A M c) N (Im.isqrt m) k L wr)) (fun t wr => (cellInt wr t + 1).toNat)
  case atStart => exact ⟨N, _, _, Nat.le_refl _, rfl, by omega, HST⟩
  case round =>
    obtain ⟨k, Bi, L, hk, rfl, hBi, HI⟩ := hrel
    have c4 := HI.out.1.cell 0
    simp only [List.getElem?_toArray, List.getElem?_cons_zero] at c4
    by_cases h0 : k = 0
    · subst h0
      have hI := HI.out.2
      have c3 := hI.rr.cell 0
      simp only [List.getElem?_toArray, List.getElem?_cons_zero] at c3
      have hii := hI.arr.ints (c := N) (by rw [hI.len]; exact Nat.le_refl _) (by unfold maxLen; omega)
      have htr := trimmed_any L (some ⟨w.heap.size + 1, 0, none⟩) N wr hii
      have hv := hI.val
      rw [List.drop_zero, Nat.pow_zero, Nat.div_one] at hv
      have hmg := trimmed_ints hii (Im.isqrt m) hI.gs hv
      rw [hI.len] at htr
      have HT := Lib.hid htr; have HMG := Lib.hid hmg; have HB := Lib.hid hI.bw
      clear hI hii htr hv hmg HST
      go_wp2_with (go_at_call 67; refine HT.out.mono ?_; rintro e w1 ⟨rfl, rfl⟩)
      go_ret
      exact ⟨_, rfl, HMG.out, HB.out⟩
    · obtain ⟨i, rfl⟩ : ∃ i, k = i + 1 := ⟨k - 1, by omega⟩
      have hI := HI.out.2
      have ei : (((i + 1 : Nat) : Int) - 1) = (i : Int) := by omega
      rw [ei] at c4
      have hJ : RootJ w wr (.slice A M c) Bi N i L wr := ⟨hI.rm, hI.rr, by have := HI.out.1; rwa [ei] at this, ⟨0, by
        have h1 : L.set i (0 : Int) = L := by
          have h2 := hI.zero i (by omega)
          have hil : i < L.length := by rw [hI.len]; omega
          rw [List.getD_eq_getElem?_getD, List.getElem?_eq_getElem hil] at h2
          conv => lhs; rw [← (show L[i] = 0 by simpa using h2)]
          exact List.set_getElem_self hil
        rw [h1]; exact hI.arr⟩, hI.bw, Keeps.refl _ _⟩
      obtain ⟨q, hq⟩ : ∃ q, Im.isqrt m / 10000 ^ i % 10000 = q := ⟨_, rfl⟩
      have hq9 : q ≤ 9999 := by have := Nat.mod_lt (Im.isqrt m / 10000 ^ i) (show 0 < 10000 by decide); omega
      have hfit : Fits 66 #[.pointer (some ⟨w.heap.size + 1 + 1, 0, none⟩), .pointer (some ⟨Bi, 0, none⟩), .pointer (some ⟨w.heap.size, 0, none⟩)] 0 9999 q (fun j => j = w.heap.size + 1) (RootJ w wr (.slice A M c) Bi N i L) := by
        intro g u _ hg hu
        refine (root1_any (x := Im.isqrt m / 10000 ^ (i + 1) * 10000 ^ (i + 1) + g * 10000 ^ i) g u hu HM.out hI.len (by omega) (by omega) (Im.gs_set hI.gs i _ (by omega) (by omega)) (root_val g hI.len (by omega) hI.zero hI.val) hBi).mono ?_
        rintro e u' ⟨rfl, h1, h2⟩
        exact ⟨by rw [decide_eq_decide.2 ((root_fit m i g).trans (by rw [hq]))], h1, h2⟩
      have hgr : ∀ u, RootJ w wr (.slice A M c) Bi N i L u → Calls Tryz.prog 65 #[.int .i64 0, .int .i64 9999, .func (.func 66) #[] #[.pointer (some ⟨w.heap.size + 1 + 1, 0, none⟩), .pointer (some ⟨Bi, 0, none⟩), .pointer (some ⟨w.heap.size, 0, none⟩)]] u fun e u' => e = .returned (.int .i64 (q : Int)) ∧ RootJ w wr (.slice A M c) Bi N i L u' ∧ Keeps (fun j => j = w.heap.size + 1) u u' :=
        fun u hu => greatest_any 66 (enters_of Tryz.func66 (by kernel_rfl) rfl) _ 0 9999 q _ _ hfit (by omega) (by omega) hq9 (fun X Y h hb => h.below hb) u hu (fun j hj => by subst hj; have := hu.rr.lt; omega)
      have HGR := Lib.hid hgr; have HJ := Lib.hid hJ; have HQ := Lib.hid hq; have HII := Lib.hid hI
      have c3 := hI.rr.cell 0
      simp only [List.getElem?_toArray, List.getElem?_cons_zero] at c3
      have iL : i < L.length := by rw [hI.len]; omega
      have i1 : (0 : Int) ≤ (i : Int) := by omega
      have i2 : (i : Int) < (N : Int) := by omega
      clear hI hJ hfit hgr hq HST
      rw [ei] at HI
      clear ei
      go_wp2
      go_region_held3 (fun u => u.cell? ⟨w.heap.size + 1 + 1, 0, none⟩ = some (.slice (some ⟨w.heap.size + 1, 0, none⟩) N N) ∧ u.cell? ⟨Bi, 0, none⟩ = some (.int .i64 (i : Int))) (first | assumption | (exact ⟨c3, c4⟩) | (exact root_S h5.out) | (exact root_S2 h5.out (by omega))) (first | (go_at_call 65; ((with_reducible refine Calls.mono (HGR.out _ (HJ.out.below (Below.refl _ _).drew)) ?_); rintro e w5 ⟨rfl, hJ5, hk5⟩; have h5 := Lib.hid hJ5; obtain ⟨g5, hg5⟩ := hJ5.arr; have k8 := hg5.cell i (by rw [List.length_set]; exact iL); have k9 := hg5.free i; have HG5 := Lib.hid hg5; clear hJ5 hk5 hg5)))
      all_goals
        have HZ := Lib.hid (root_S2 (x := .int .i64 (q : Int)) h5.out (by omega))
        have c7 := HZ.out.2
        have hrow : Row ((w5.setCell ⟨w.heap.size + 1, i, none⟩ (.int .i64 (q : Int))).alloc (.cells #[.int .i64 ((i : Int) - 1)] 3)) w5.heap.size 3 #[.int .i64 ((i : Int) - 1)] := by
          have := Row.new (w5.setCell ⟨w.heap.size + 1, i, none⟩ (.int .i64 (q : Int))) 3 #[.int .i64 ((i : Int) - 1)]
          rwa [show (w5.setCell ⟨w.heap.size + 1, i, none⟩ (.int .i64 (q : Int))).heap.size = w5.heap.size from by simp [World.setCell]] at this
        have HROW := Lib.hid hrow
        clear k8 k9 hrow
        go_wp2
        go_roundw
        case rel =>
          have hI := HII.out
          have hput := HG5.out.put i (by rw [List.length_set]; exact iL) (q : Int)
          rw [List.set_set] at hput
          refine ⟨i, _, L.set i (q : Int), by omega, rfl, by have := h5.out.rr.lt; omega, Lib.hid ⟨HROW.out, (h5.out.rm.far (by dsimp only; omega) _).alloc _, (h5.out.rr.far (by dsimp only; omega) _).alloc _, hput.below ((Below.refl _ _).alloc (Nat.le_refl _) _) hput.lt, by rw [List.length_set]; exact hI.len, Im.gs_set hI.gs i _ (by omega) (by omega),
            fun j hj => by rw [Im.getD_set _ _ _ _ iL, if_neg (by omega)]; exact hI.zero j (by omega), ?_, (h5.out.bw.setCell (by dsimp only; omega) _).alloc (by have := h5.out.bw.size; simpa [World.setCell] using this) _⟩⟩
          exact drop_set_step L i N q (Im.isqrt m / 10000 ^ (i + 1)) _ hI.len (by omega) hI.val (by have := Im.div_shift (Im.isqrt m) i; rw [HQ.out] at this; exact this)
        case measure =>
          rw [cellInt_row HROW.out, cellInt_row HI.out.1]; omega
end Go.Proofs.YtflpfmkfjccmiaaGreatDoor
