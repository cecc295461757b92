/- Contract of over of magnitudes. -/
import Derived.Test.YtflpfmkfjccmiaaGreatDoorIp
import Derived.Laws.EntriesVeiled
import Derived.Test.YtflpfmkfjccmiaaGreatDoorIs
namespace Go.Proofs.YtflpfmkfjccmiaaGreatDoor
open Go.RowKit Go.Shelf
attribute [local go_sem] Oper.semAt_some

theorem ints_putLoop {X : World} {B r : Nat} {v : Value} {l : List Int} {L : Loop} (o : Obj) (h : Ints X B v l) (hr : X.heap[r]? = some (.loop L)) : Ints (X.putObj r o) B v l := by
  obtain ⟨A, c, h1, h2, h3, h4⟩ := h
  refine ⟨A, c, h1, h2, h3, ?_⟩
  rcases h4 with h4 | ⟨g, off, h4, h5, h6⟩
  · exact .inl h4
  · refine .inr ⟨g, off, h4, h5, fun j x hj => ?_⟩
    have h7 := h6 j x hj
    by_cases e : g = r
    · subst e
      simp [World.cell?, hr] at h7
    · rw [← h7]; exact World.cell?_of_block (World.putObj_heap_other e)
theorem ints_putDef {X : World} {B r : Nat} {v : Value} {l : List Int} {L : Option (List Deferred)} (o : Obj) (h : Ints X B v l) (hr : X.heap[r]? = some (.deferred L)) : Ints (X.putObj r o) B v l := by
  obtain ⟨A, c, h1, h2, h3, h4⟩ := h
  refine ⟨A, c, h1, h2, h3, ?_⟩
  rcases h4 with h4 | ⟨g, off, h4, h5, h6⟩
  · exact .inl h4
  · refine .inr ⟨g, off, h4, h5, fun j x hj => ?_⟩
    have h7 := h6 j x hj
    by_cases e : g = r
    · subst e
      simp [World.cell?, hr] at h7
    · rw [← h7]; exact World.cell?_of_block (World.putObj_heap_other e)
theorem ints_heap {X Y : World} {B : Nat} {v : Value} {l : List Int} (h : Ints X B v l) (hh : Y.heap = X.heap) : Ints Y B v l := h.keep fun p _ => World.cell?_of_block (w := X) (by rw [hh])
def OverPost (q r : Nat) (w : World) (e : Ending) (w' : World) : Prop := ∃ vq vr, e = .returned (.tuple #[vq, vr]) ∧ Mag w' vq q ∧ Mag w' vr r ∧ Below w.heap.size w w'

theorem Arr.same {X Y : World} {g : Nat} {l : List Int} (h : Arr X g l) (hs : X.heap.size ≤ Y.heap.size) (hb : Y.heap[g]? = X.heap[g]?) : Arr Y g l :=
  ⟨by have := h.lt; omega, fun j hj => (World.cell?_of_block (w := X) (a := ⟨g, j, none⟩) hb).trans (h.cell j hj), fun j => (World.frozen?_of_block (w := X) (a := ⟨g, j, none⟩) hb).trans (h.free j)⟩
theorem ints_setRest {X : World} {B g : Nat} {v u z : Value} {l : List Int} {t : TypeId} (h : Ints X B v l) (hr : Row X g t #[u]) (hu : ∀ n : Int, u ≠ .int .i64 n) : Ints (X.setCell ⟨g, 0, none⟩ z) B v l := by
  obtain ⟨A, c, h1, h2, h3, h4⟩ := h
  refine ⟨A, c, h1, h2, h3, ?_⟩
  rcases h4 with h4 | ⟨g', off, h4, h5, h6⟩
  · exact .inl h4
  · refine .inr ⟨g', off, h4, h5, fun j x hj => ?_⟩
    have h7 := h6 j x hj
    by_cases e : g' = g
    · subst e
      rw [hr.cell] at h7
      cases hk : off + j with
      | zero => rw [hk] at h7; simp at h7; exact absurd h7 (hu _)
      | succ n => rw [hk] at h7; simp at h7
    · rw [← h7]; exact World.cell?_of_block (Below.heap_setCell X ⟨g, 0, none⟩ z g' (by simpa using e))

/-- What holds while over goes through the groups of the dividend. -/
structure OverI (w : World) (vd : Value) (a d b k : Nat) (W : World) : Prop where
  rd : Row W w.heap.size 45 #[vd]
  rq : Row W (w.heap.size + 1 + 1) 38 #[.slice (some ⟨w.heap.size + 1, 0, none⟩) b b]
  rm : Row W (w.heap.size + 1 + 1 + 1 + 1) 90 #[.func (.func 78) #[vd] #[]]
  rr : ∃ vr, Row W (w.heap.size + 1 + 1 + 1) 45 #[vr] ∧ Mag W vr (a / 10000 ^ (b - k) % d)
  qq : ∃ Q, Arr W (w.heap.size + 1) Q ∧ Q.length = b ∧ Im.Gs Q ∧ Im.val (Q.drop (b - k)) = ((a / 10000 ^ (b - k) / d : Nat) : Int)
  bw : Below w.heap.size w W
theorem OverI.below {w X Y : World} {vd : Value} {a d b k : Nat} (h : OverI w vd a d b k X) (hb : Below X.heap.size X Y) : OverI w vd a d b k Y := by
  obtain ⟨vr, h1, h2⟩ := h.rr
  obtain ⟨Q, h3, h4⟩ := h.qq
  exact ⟨h.rd.below hb h.rd.lt, h.rq.below hb h.rq.lt, h.rm.below hb h.rm.lt, ⟨vr, h1.below hb h1.lt, h2.next hb⟩, ⟨Q, h3.below hb h3.lt, h4⟩, h.bw.trans (hb.mono h.bw.size)⟩
theorem OverI.putLoop {w X : World} {vd : Value} {a d b k r : Nat} {L : Loop} {o : Obj} (h : OverI w vd a d b k X) (hr : X.heap[r]? = some (.loop L)) (h7 : w.heap.size + 6 ≤ r) : OverI w vd a d b k (X.putObj r o) := by
  obtain ⟨vr, h1, h2⟩ := h.rr
  obtain ⟨Q, h3, h4⟩ := h.qq
  refine ⟨(World.putObj_heap_other (by omega)).trans h.rd, (World.putObj_heap_other (by omega)).trans h.rq, (World.putObj_heap_other (by omega)).trans h.rm, ⟨vr, (World.putObj_heap_other (by omega)).trans h1, ?_⟩, ⟨Q, h3.same (by simp) (World.putObj_heap_other (by omega)), h4⟩,
    h.bw.trans ⟨rfl, rfl, rfl, by simp, fun j hj => World.putObj_heap_other (by omega)⟩⟩
  exact (ints_putLoop o h2 hr).more (by simp)
/-- What holds in the middle of a round. -/
structure OverJ (w W0 : World) (vd v3 : Value) (r b : Nat) (Q : List Int) (W : World) : Prop where
  rd : Row W w.heap.size 45 #[vd]
  rq : Row W (w.heap.size + 1 + 1) 38 #[.slice (some ⟨w.heap.size + 1, 0, none⟩) b b]
  rm : Row W (w.heap.size + 1 + 1 + 1 + 1) 90 #[.func (.func 78) #[vd] #[]]
  rr : Row W (w.heap.size + 1 + 1 + 1) 45 #[v3]
  mr : Mag W v3 r
  arr : Arr W (w.heap.size + 1) Q
  bw : Below w.heap.size w W
  kp : Keeps (fun j => j = w.heap.size + 1 ∨ j = w.heap.size + 1 + 1 + 1) W0 W
theorem OverJ.below {w W0 X Y : World} {vd v3 : Value} {r b : Nat} {Q : List Int} (h : OverJ w W0 vd v3 r b Q X) (hb : Below X.heap.size X Y) : OverJ w W0 vd v3 r b Q Y :=
  ⟨h.rd.below hb h.rd.lt, h.rq.below hb h.rq.lt, h.rm.below hb h.rm.lt, h.rr.below hb h.rr.lt, h.mr.next hb, h.arr.below hb h.arr.lt, h.bw.trans (hb.mono h.bw.size), h.kp.trans (Keeps.of_below hb)⟩
theorem over_fits {w W0 : World} {vd v3 : Value} {d r b lo hi : Nat} {Q : List Int} (hd : Mag w vd d) (ld : (Im.grp d).length ≤ 250) (hd0 : d ≠ 0) (hh : hi ≤ 9999) :
    Fits 81 #[.pointer (some ⟨w.heap.size + 1 + 1 + 1 + 1, 0, none⟩), .pointer (some ⟨w.heap.size + 1 + 1 + 1, 0, none⟩)] lo hi (r / d) (fun _ => False) (OverJ w W0 vd v3 r b Q) := by
  intro g W h1 h2 hJ
  refine (over1_any vd v3 d r g _ _ W (hd.next hJ.bw) hJ.mr hJ.rm hJ.rr (by omega) (by omega)).mono ?_
  rintro e w' ⟨rfl, hb⟩
  refine ⟨?_, hJ.below hb, Keeps.of_below hb⟩
  have : (d * g ≤ r) ↔ (g ≤ r / d) := by rw [Nat.le_div_iff_mul_le (by omega), Nat.mul_comm]
  rw [decide_eq_decide.2 this]
theorem drop_set_step (Q : List Int) (i b : Nat) (q x r : Nat) (hl : Q.length = b) (hi : i < b) (hv : Im.val (Q.drop (i + 1)) = (x : Int)) (hr : r = x * 10000 + q) : Im.val ((Q.set i (q : Int)).drop i) = (r : Int) := by
  rw [Im.val_top Q i q (by omega), hv]; omega

theorem over_J {w W w2 : World} {vd v3 vr : Value} {a d b k r : Nat} {Q : List Int} (hI : OverI w vd a d b k W) (hbb : Below W.heap.size W w2) (hr : Row W (w.heap.size + 1 + 1 + 1) 45 #[vr]) (hvr : ∀ n : Int, vr ≠ .int .i64 n) (harr : Arr W (w.heap.size + 1) Q) (hm : Mag w2 v3 r) :
    OverJ w W vd v3 r b Q (w2.setCell ⟨w.heap.size + 1 + 1 + 1, 0, none⟩ v3) := by
  have g8 := hr.below hbb hr.lt
  exact ⟨(hI.rd.below hbb hI.rd.lt).far (by dsimp only; omega) _, (hI.rq.below hbb hI.rq.lt).far (by dsimp only; omega) _, (hI.rm.below hbb hI.rm.lt).far (by dsimp only; omega) _, g8.put 0 _, (ints_setRest hm g8 hvr).more (by simp [World.setCell]),
    (harr.below hbb harr.lt).same (by simp [World.setCell]) (Below.heap_setCell _ _ _ _ (by dsimp only; omega)), (hI.bw.trans (hbb.mono hI.bw.size)).setCell (by dsimp only; omega) _, (Keeps.of_below hbb).trans (Keeps.setCell (.inr rfl) _)⟩

theorem ints_setOther {X : World} {B k j : Nat} {v z : Value} {l : List Int} (h : Ints X B v l) (hk : ∀ g, v.ownBlock = some g → g ≠ k) : Ints (X.setCell ⟨k, j, none⟩ z) B v l := by
  obtain ⟨A, c, h1, h2, h3, h4⟩ := h
  refine ⟨A, c, h1, h2, h3, ?_⟩
  rcases h4 with h4 | ⟨g, off, h4, h5, h6⟩
  · exact .inl h4
  · refine .inr ⟨g, off, h4, h5, fun j' x hj => ?_⟩
    have hg : g ≠ k := hk g (by rw [h1, h4]; rfl)
    rw [← h6 j' x hj]; exact World.cell?_of_block (Below.heap_setCell X ⟨k, j, none⟩ z g (by simpa using hg))
theorem own_same {A : Option Addr} {n c n' c' g : Nat} (h : (Value.slice A n c).ownBlock = some g) : (Value.slice A n' c').ownBlock = some g := by cases A <;> exact h
theorem over_J2 {w W u : World} {vd v3 : Value} {b r i : Nat} {Q : List Int} {q : Int} (h : OverJ w W vd v3 r b Q u) (hv : ∀ g, v3.ownBlock = some g → g ≠ w.heap.size + 1) (hi : i < Q.length) :
    OverJ w W vd v3 r b (Q.set i q) (u.setCell ⟨w.heap.size + 1, i, none⟩ (.int .i64 q)) :=
  ⟨h.rd.far (by dsimp only; omega) _, h.rq.far (by dsimp only; omega) _, h.rm.far (by dsimp only; omega) _, h.rr.far (by dsimp only; omega) _, (ints_setOther h.mr hv).more (by simp [World.setCell]), h.arr.put i hi q, h.bw.setCell (by dsimp only; omega) _, h.kp.trans (Keeps.setCell (.inl rfl) _)⟩
theorem over_I {w W u : World} {vd v3 v4 : Value} {a d b k r : Nat} {Q : List Int} (h : OverJ w W vd v3 r b Q u) (hm : Mag u v4 (a / 10000 ^ (b - (k + 1)) % d)) (hv : ∀ n : Int, v3 ≠ .int .i64 n) (hq : Q.length = b ∧ Im.Gs Q ∧ Im.val (Q.drop (b - (k + 1))) = ((a / 10000 ^ (b - (k + 1)) / d : Nat) : Int)) :
    Keeps (fun j => j = w.heap.size + 1 ∨ j = w.heap.size + 1 + 1 + 1) W (u.setCell ⟨w.heap.size + 1 + 1 + 1, 0, none⟩ v4) ∧ OverI w vd a d b (k + 1) (u.setCell ⟨w.heap.size + 1 + 1 + 1, 0, none⟩ v4) :=
  ⟨h.kp.trans (Keeps.setCell (.inr rfl) _), h.rd.far (by dsimp only; omega) _, h.rq.far (by dsimp only; omega) _, h.rm.far (by dsimp only; omega) _, ⟨v4, h.rr.put 0 _, (ints_setRest hm h.rr hv).more (by simp [World.setCell])⟩,
    ⟨Q, h.arr.same (by simp [World.setCell]) (Below.heap_setCell _ _ _ _ (by dsimp only; omega)), hq⟩, h.bw.setCell (by dsimp only; omega) _⟩

theorem over_S {w W u : World} {D : Option Addr} {M cd b r i : Nat} {v3 : Value} {Q : List Int} {q : Int} (h : OverJ w W (.slice D M cd) v3 r b Q u) (hi : i < Q.length) (hq : Q.getD i 0 = q) : u.cell? ⟨w.heap.size + 1 + 1, 0, none⟩ = some (.slice (some ⟨w.heap.size + 1, 0, none⟩) b b) ∧ u.cell? ⟨w.heap.size + 1 + 1 + 1 + 1, 0, none⟩ = some (.func (.func 78) #[.slice D M cd] #[]) ∧ u.cell? ⟨w.heap.size + 1, i, none⟩ = some (.int .i64 q) :=
  ⟨(h.rq.cell 0).trans rfl, (h.rm.cell 0).trans rfl, hq ▸ h.arr.cell i hi⟩
theorem over_S2 {w W u : World} {D : Option Addr} {M cd b r i : Nat} {v3 v4 : Value} {Q : List Int} {q : Int} (h : OverJ w W (.slice D M cd) v3 r b Q u) (hi : i < Q.length) (hq : Q.getD i 0 = q) : (u.setCell ⟨w.heap.size + 1 + 1 + 1, 0, none⟩ v4).cell? ⟨w.heap.size + 1 + 1, 0, none⟩ = some (.slice (some ⟨w.heap.size + 1, 0, none⟩) b b) ∧ (u.setCell ⟨w.heap.size + 1 + 1 + 1, 0, none⟩ v4).cell? ⟨w.heap.size + 1 + 1 + 1 + 1, 0, none⟩ = some (.func (.func 78) #[.slice D M cd] #[]) ∧ (u.setCell ⟨w.heap.size + 1 + 1 + 1, 0, none⟩ v4).cell? ⟨w.heap.size + 1, i, none⟩ = some (.int .i64 q) := by
  have hs := over_S h hi hq
  exact ⟨(World.cell?_setCell_other _ _ _ _ (by intro e; injection e; omega)).trans hs.1, (World.cell?_setCell_other _ _ _ _ (by intro e; injection e; omega)).trans hs.2.1, (World.cell?_setCell_other _ _ _ _ (by intro e; injection e; omega)).trans hs.2.2⟩

set_option maxRecDepth 100000 in
set_option maxHeartbeats 4000000 in
theorem over_any (va vd : Value) (a d : Nat) (w : World) (ha : Mag w va a) (hd : Mag w vd d) (hd0 : d ≠ 0) (la : (Im.grp a).length ≤ 250) (ld : (Im.grp d).length ≤ 250) :
    Calls Tryz.prog 61 #[va, vd] w (OverPost (a / d) (a % d) w) := by
  have hlen0 : (Im.grp d).length ≠ 0 := fun e => hd0 ((Im.grp_len0 d).1 e)
  obtain ⟨A, c, rfl, hca1, hca2⟩ := ints_form ha
  obtain ⟨D, cd, rfl, hcd1, hcd2⟩ := ints_form hd
  obtain ⟨N, hN⟩ : ∃ n, (Im.grp a).length = n := ⟨_, rfl⟩
  obtain ⟨M, hM⟩ : ∃ n, (Im.grp d).length = n := ⟨_, rfl⟩
  obtain ⟨b, hb⟩ : ∃ b, N + 1 - M = b := ⟨_, rfl⟩
  have hsm : a / 10000 ^ b < d := Im.grp_few a d b hd0 (by rw [hM] at hlen0; omega)
  have hrest := ints_from ha b (by rw [hM] at hlen0; omega)
  rw [Im.grp_drop] at hrest
  have hpre := ints_pre ha b (by rw [hM] at hlen0; omega)
  have hqd : ∀ k, k < b → ((Im.grp a).take b).getD k 0 = ((a / 10000 ^ k % 10000 : Nat) : Int) := fun k hk => by
    rw [← Im.grp_getD, List.getD_eq_getElem?_getD, List.getElem?_take_of_lt hk, List.getD_eq_getElem?_getD]
  have hlb : ((Im.grp a).take b).length = b := by rw [List.length_take]; rw [hM] at hlen0; omega
  rw [hN] at hca1 la hrest ⊢; rw [hM] at hd hcd1 ld hlen0 ⊢
  have hbN : b ≤ N := by omega
  have hsl := fun w => slice_from 45 Tryz.underlying45 w A N c b hbN
  have hmk : ∀ w, (Instr.makeSlice 38 (.int .i64 (b : Int)) (.int .i64 (b : Int))).run Tryz.prog w = .ok (.slice (some ⟨w.heap.size, 0, none⟩) b b) (w.alloc (.cells (intRow (List.replicate b 0)) 3)) := fun w => mk_int b b w (Nat.le_refl _) (by omega)
  have hmx := fun (w : World) => run_max2 (P := Tryz.prog) (w := w) #[3, 3] 3 .i64 .i64 0 ((N : Int) - (M : Int) + 1) b (by omega)
  have hbc : (b : Int) ≤ (c : Int) := by omega
  have hb0 : (0 : Int) ≤ (b : Int) := by omega
  obtain ⟨l, hl⟩ : ∃ l, (Im.grp a).take b = l := ⟨_, rfl⟩
  rw [hl] at hqd hlb hpre
  obtain ⟨A2, hA2⟩ : ∃ A2, slA A c b = A2 := ⟨_, rfl⟩
  rw [hA2] at hsl hrest
  have HQD := Lib.hid hqd; have HLB := Lib.hid hlb; have HPRE := Lib.hid hpre; have HREST := Lib.hid hrest; have HSM := Lib.hid hsm; have HD := Lib.hid hd; have HM := Lib.hid hM
  clear ha hd hl hA2 hN hM hqd hlb hpre hrest hsm
  refine (callsIn_wide (n := 3)).1 ?_
  refine callsIn_of_wp_marks Tryz.func61 rfl trivial ?_ rfl
  simp only [Tryz.ntmps61, List.size_toArray, List.length_cons, List.length_nil, Nat.reduceAdd, Nat.reduceSub, Array.replicate_succ, Array.replicate_zero, List.push_toArray, List.append_toArray, List.nil_append, List.cons_append]
  gi_wp2_with (refine ⟨trivial, ?_⟩; gi_at_call 76; refine (back_in _ _ _ _ _).mono ?_; rintro e w' ⟨rfl, rfl⟩)
  clear hmk hmx hsl
  obtain ⟨W0, hW0⟩ : ∃ W0, (((((w.alloc (.cells #[.slice D M cd] 45)).alloc (.cells (intRow (List.replicate b 0)) 3)).alloc (.cells #[.slice (some ⟨w.heap.size + 1, 0, none⟩) b b] 38)).alloc (.cells #[.slice A2 (N - b) (c - b)] 45)).alloc (.cells #[.func (.func 78) #[.slice D M cd] #[]] 90)).alloc (.cells #[.slice A b c] 45) = W0 := ⟨_, rfl⟩
  have hb0' : Below w.heap.size w W0 := by rw [← hW0]; exact ((((((Below.refl _ w).alloc (Nat.le_refl _) _).alloc (by simp) _).alloc (by simp; omega) _).alloc (by simp; omega) _).alloc (by simp; omega) _).alloc (by simp; omega) _
  have hs0 : W0.heap.size = w.heap.size + 6 := by rw [← hW0]; simp
  have r0 : OverI w (.slice D M cd) a d b 0 W0 := by
    refine ⟨?_, ?_, ?_, ⟨.slice A2 (N - b) (c - b), ?_, ?_⟩, ⟨List.replicate b 0, Arr.of_row ?_, by simp, Im.gs_zeros b, ?_⟩, hb0'⟩
    · rw [← hW0]; exact ((((((Row.new w _ _).alloc _).alloc _).alloc _).alloc _).alloc _)
    · rw [← hW0]
      have := ((((Row.new ((w.alloc (.cells #[.slice D M cd] 45)).alloc (.cells (intRow (List.replicate b 0)) 3)) 38 #[.slice (some ⟨w.heap.size + 1, 0, none⟩) b b]).alloc (.cells #[.slice A2 (N - b) (c - b)] 45)).alloc (.cells #[.func (.func 78) #[.slice D M cd] #[]] 90)).alloc (.cells #[.slice A b c] 45))
      rw [World.size_alloc, World.size_alloc] at this; exact this
    · rw [← hW0]
      have := ((Row.new ((((w.alloc (.cells #[.slice D M cd] 45)).alloc (.cells (intRow (List.replicate b 0)) 3)).alloc (.cells #[.slice (some ⟨w.heap.size + 1, 0, none⟩) b b] 38)).alloc (.cells #[.slice A2 (N - b) (c - b)] 45)) 90 #[.func (.func 78) #[.slice D M cd] #[]]).alloc (.cells #[.slice A b c] 45))
      rw [World.size_alloc, World.size_alloc, World.size_alloc, World.size_alloc] at this; exact this
    · rw [← hW0]
      have := (((Row.new (((w.alloc (.cells #[.slice D M cd] 45)).alloc (.cells (intRow (List.replicate b 0)) 3)).alloc (.cells #[.slice (some ⟨w.heap.size + 1, 0, none⟩) b b] 38)) 45 #[.slice A2 (N - b) (c - b)]).alloc (.cells #[.func (.func 78) #[.slice D M cd] #[]] 90)).alloc (.cells #[.slice A b c] 45))
      rw [World.size_alloc, World.size_alloc, World.size_alloc] at this; exact this
    · rw [Nat.sub_zero, Nat.mod_eq_of_lt HSM.out]; exact HREST.out.next hb0'
    · rw [← hW0]
      have := (((((Row.new (w.alloc (.cells #[.slice D M cd] 45)) 3 (intRow (List.replicate b 0))).alloc (.cells #[.slice (some ⟨w.heap.size + 1, 0, none⟩) b b] 38)).alloc (.cells #[.slice A2 (N - b) (c - b)] 45)).alloc (.cells #[.func (.func 78) #[.slice D M cd] #[]] 90)).alloc (.cells #[.slice A b c] 45))
      rw [World.size_alloc] at this; exact this
    · rw [Nat.sub_zero, Nat.div_eq_of_lt HSM.out, List.drop_eq_nil_of_le (by simp)]; rfl
  have rb0 : Row W0 (w.heap.size + 1 + 1 + 1 + 1 + 1) 45 #[.slice A b c] := by
    rw [← hW0]
    have := Row.new (((((w.alloc (.cells #[.slice D M cd] 45)).alloc (.cells (intRow (List.replicate b 0)) 3)).alloc (.cells #[.slice (some ⟨w.heap.size + 1, 0, none⟩) b b] 38)).alloc (.cells #[.slice A2 (N - b) (c - b)] 45)).alloc (.cells #[.func (.func 78) #[.slice D M cd] #[]] 90)) 45 #[.slice A b c]
    rw [World.size_alloc, World.size_alloc, World.size_alloc, World.size_alloc, World.size_alloc] at this; exact this
  rw [hW0]
  clear hW0
  have hgv : GivesN Fence.wide (3 - 1) Tryz.prog 99 #[.pointer (some ⟨w.heap.size + 1 + 1 + 1 + 1 + 1, 0, none⟩)] (encB l) (fun X j => (j = w.heap.size + 1 ∨ j = w.heap.size + 1 + 1 + 1) ∨ j = W0.heap.size ∨ j = W0.heap.size + 1) (fixB (w.heap.size + 1 + 1 + 1 + 1 + 1) A) l.length W0 :=
    back_gives (3 - 1) (w.heap.size + 1 + 1 + 1 + 1 + 1) c A l _ W0 (by rw [HLB.out]; exact rb0) (by rw [HLB.out]; exact HPRE.out.next hb0')
  have hAf : ∀ j, fixB (w.heap.size + 1 + 1 + 1 + 1 + 1) A j → j < W0.heap.size ∧ j ≠ w.heap.size + 1 ∧ j ≠ w.heap.size + 1 + 1 + 1 := by
    rintro j (rfl | ⟨off, rfl⟩)
    · omega
    · obtain ⟨A', c', h1, _, _, h4⟩ := HPRE.out
      injection h1 with e1 e2 e3
      subst e1
      rcases h4 with ⟨h4, _⟩ | ⟨g, o, h4, h5, _⟩
      · cases h4
      · injection h4 with h4
        injection h4 with h6 h7
        subst h6; omega
  have HAF := Lib.hid hAf
  clear hAf
  have HR0 := Lib.hid r0; have HB0 := Lib.hid hb0'
  clear r0 hb0' rb0 HPRE HREST HSM
  rw [HLB.out] at hgv
  refine rangeFunc_n (F := Fence.wide) rfl (by decide) (gf := 99) (lb := #[.pointer (some ⟨w.heap.size + 1 + 1 + 1 + 1 + 1, 0, none⟩)]) rfl trivial (enters_of Tryz.func99 (by kernel_rfl) rfl)
    (no := fun _ j => j = w.heap.size + 1 ∨ j = w.heap.size + 1 + 1 + 1) hgv
    (fun _ => rfl) (fun j h => (HAF.out j h).1)
    (OverI w (.slice D M cd) a d b)
    (fun k X Y j h hb hj => ⟨hj, by have := h.rm.lt; omega, fun e => by have := HAF.out _ e; omega, by omega, by omega⟩)
    (fun _ _ _ _ _ h => h)
    (fun _ _ _ => False) (fun _ _ _ _ _ _ _ h => h)
    (fun k X Y h hb => h.below hb)
    (fun k X r o hr hL h => by obtain ⟨L, hL⟩ := hL; exact h.putLoop hL (by omega))
    HR0.out
    (fun k a' _ => a' = { tmps := #[.slice A N c, .slice D M cd, undef, .pointer (some ⟨w.heap.size, 0, none⟩), .slice none 0 0, .slice none 0 0, .int .i64 (b : Int), .pointer (some ⟨w.heap.size + 1 + 1, 0, none⟩), .pointer (some ⟨w.heap.size + 1 + 1 + 1, 0, none⟩), .pointer (some ⟨w.heap.size + 1 + 1 + 1 + 1, 0, none⟩),
      .int .i64 ((l.length : Int) - 1 - (k : Int)), .int .i64 (l.getD (l.length - 1 - k) 0), undef, undef, .slice A N c, .int .i64 (N : Int), .slice D M cd, .int .i64 (M : Int), .int .i64 ((N : Int) - (M : Int)), .int .i64 ((N : Int) - (M : Int) + 1), .int .i64 (b : Int), .int .i64 (b : Int), .slice (some ⟨w.heap.size + 1, 0, none⟩) b b, .slice A N c, .int .i64 (b : Int), .slice A2 (N - b) (c - b), .slice D M cd,
      .func (.func 78) #[.slice D M cd] #[], .slice A N c, .int .i64 (b : Int), .slice A b c, .func (.func 99) #[] #[.pointer (some ⟨w.heap.size + 1 + 1 + 1 + 1 + 1, 0, none⟩)],
      .int .i64 ((l.length : Int) - 1 - (k : Int)), .int .i64 (l.getD (l.length - 1 - k) 0), undef, undef, undef, undef, undef, undef, undef, undef, undef, undef, undef, undef, undef, undef, undef, undef, undef, undef, undef, undef, undef, undef, undef, undef, undef, undef, undef, undef, undef, undef], defers := [] })
    (fun _ _ _ _ _ _ _ h => h) ?assign ?body ?done ?stop
  case stop =>
    intro D c k W _ _ h _
    exact h.elim
  case assign =>
    intro y k W K hkn hsz hI hK
    unfold encB
    have HK := Lib.hid hK
    clear hK
    gi_wp2
    exact HK.out _ _ (Below.refl _ _) rfl
  case body =>
    rintro y k a' W hkn hsz hI rfl
    obtain ⟨vr, hrr, hmr⟩ := hI.rr
    obtain ⟨Q, harr, hQl, hQg, hQv⟩ := hI.qq
    have hxl := HQD.out (b - 1 - k) (by omega)
    rw [HLB.out, hxl]
    obtain ⟨i, hi⟩ : ∃ i, b - 1 - k = i := ⟨_, rfl⟩
    rw [show b - k = i + 1 by omega] at hmr hQv
    rw [hi]
    have hsh := Im.div_shift a i
    have hxb : a / 10000 ^ i % 10000 < 10000 := Nat.mod_lt _ (by decide)
    obtain ⟨x, hx⟩ : ∃ x, a / 10000 ^ i % 10000 = x := ⟨_, rfl⟩
    obtain ⟨p, hp⟩ : ∃ p, a / 10000 ^ (i + 1) = p := ⟨_, rfl⟩
    obtain ⟨n, hn⟩ : ∃ n, a / 10000 ^ i = n := ⟨_, rfl⟩
    rw [hx] at hxb ⊢
    rw [hn, hp, ← hn, hx] at hsh
    rw [hn] at hsh
    rw [hp] at hmr hQv
    have hds := Im.div_step p d x (by omega)
    have hdg := Im.div_digit (p % d) d x (Nat.mod_lt _ (by omega)) hxb
    rw [← hsh] at hds
    obtain ⟨r, hr⟩ : ∃ r, p % d = r := ⟨_, rfl⟩
    have hrd : r < d := by rw [← hr]; exact Nat.mod_lt _ (by omega)
    rw [hr] at hmr hds hdg
    obtain ⟨Ar, cr, rfl, hcr1, hcr2⟩ := ints_form hmr
    obtain ⟨nr, hnr⟩ : ∃ n, (Im.grp r).length = n := ⟨_, rfl⟩
    rw [hnr] at hrr hmr hcr1
    obtain ⟨W1, hW1⟩ : ∃ W1, (W.alloc (.cells #[.int .i64 (x : Int)] 3)).alloc (.cells #[.slice (some ⟨W.heap.size, 0, none⟩) 1 1, .slice Ar nr cr] 45) = W1 := ⟨_, rfl⟩
    have hb1 : Below W.heap.size W W1 := by rw [← hW1]; exact ((Below.refl _ W).alloc (Nat.le_refl _) _).alloc (by simp) _
    have hs1 : W1.heap.size = W.heap.size + 2 := by rw [← hW1]; simp
    have hrow1 : Row W1 (W.heap.size + 1) 45 #[.slice (some ⟨W.heap.size, 0, none⟩) 1 1, .slice Ar nr cr] := by
      rw [← hW1]
      have := Row.new (W.alloc (.cells #[.int .i64 (x : Int)] 3)) 45 #[.slice (some ⟨W.heap.size, 0, none⟩) 1 1, .slice Ar nr cr]
      rw [World.size_alloc] at this; exact this
    have hone : Ints W1 W1.heap.size (.slice (some ⟨W.heap.size, 0, none⟩) 1 1) [(x : Int)] := by
      rw [← hW1]
      exact ((ints_of_row (l := [(x : Int)]) (Row.new W 3 _) (by simp)).next ((Below.refl _ _).alloc (Nat.le_refl _) _))
    have hlr : (Im.grp r).length ≤ M := by have := Im.len_mono (Nat.le_of_lt hrd); have := HM.out; omega
    have hcc := concat_any (W.heap.size + 1) [(x : Int)] (Im.grp r) _ _ W1 hrow1 hone (hmr.next hb1) (by simp) (by simp) (by omega)
    have hgs : Im.Gs ([(x : Int)] ++ Im.grp r) := (Im.Gs.cons (by omega) (by omega) Im.Gs.nil).append (Im.grp_gs r)
    have hvl : Im.val ([(x : Int)] ++ Im.grp r) = ((r * 10000 + x : Nat) : Int) := by
      rw [Im.val_append, Im.grp_val]; simp [Im.val]; omega
    have hlr2 : (Im.grp (r * 10000 + x)).length ≤ M + 1 := Im.grp_len _ _ (by
      have h1 := Im.grp_lt d
      rw [HM.out] at h1
      rw [Nat.pow_succ]; omega)
    have HII := Lib.hid hI; have HB1 := Lib.hid hb1; have HW1 := Lib.hid hW1; have HCC := Lib.hid hcc; have HGS := Lib.hid hgs; have HVL := Lib.hid hvl; have HLR2 := Lib.hid hlr2
    have HRR := Lib.hid hrr; have HARR := Lib.hid harr; have HQ := Lib.hid (And.intro hQl (And.intro hQg hQv)); have HDS := Lib.hid hds; have HDG := Lib.hid hdg
    have c8 := (hrr.alloc (.cells #[.int .i64 (x : Int)] 3)).cell 0
    have c3 := hI.rd.cell 0
    simp only [List.getElem?_toArray, List.getElem?_cons_zero] at c8 c3
    clear hI hb1 hW1 hcc hgs hvl hlr2 hrr harr hQl hQg hQv hmr hrow1 hone hx hp hr hsh hxl hds hdg hnr
    obtain ⟨q, hq⟩ : ∃ q, (r * 10000 + x) / d = q := ⟨_, rfl⟩
    gi_wp2_with (first | (refine ⟨trivial, ?_⟩; gi_at_call 79; rw [HW1.out]; refine (CallsIn.inRound y (callsIn_wide.2 HCC.out)).mono ?_; unfold OwnInts; rintro e w2 ⟨v2, rfl, hown, hb2⟩; obtain ⟨A3, c4, rfl⟩ := own_slice hown; have ht := trimmed_any _ A3 c4 w2 (ints_of_own hown rfl); have hm3 := trimmed_ints (ints_of_own hown rfl) _ HGS.out HVL.out; obtain ⟨n3, hn3⟩ : ∃ n, (Im.trim ([(x : Int)] ++ Im.grp r)).length = n := ⟨_, rfl⟩; rw [hn3] at ht hm3; have HT := Lib.hid ht; have HM3 := Lib.hid hm3; have HF3 := Lib.hid (own_ge hown); have HB2 := Lib.hid hb2; clear hown hb2 ht hm3 hn3) | (refine ⟨trivial, ?_⟩; gi_at_call 67; refine (CallsIn.inRound y (callsIn_wide.2 HT.out)).mono ?_; rintro e w3 ⟨rfl, rfl⟩; have hbb := HB1.out.trans (HB2.out.mono HB1.out.size); have g8 := HRR.out.below hbb HRR.out.lt; have g3 := HII.out.rd.below hbb HII.out.rd.lt; have e8 := g8.cell 0; have e9 := g8.free 0; have e3 := g3.cell 0; simp only [List.getElem?_toArray, List.getElem?_cons_zero] at e8 e3; have HJ := Lib.hid (over_J HII.out hbb HRR.out (fun n h => by cases h) HARR.out HM3.out); clear hbb g8 g3))
    have HBN := Lib.hid (bounds_any (.slice A3 n3 c4) (.slice D M cd) (r * 10000 + x) d _ HJ.out.mr (HD.out.next HJ.out.bw) hd0 (by have := HM.out; have := HLR2.out; omega) (by have := HM.out; omega) (by have := HDG.out; omega))
    refine ⟨trivial, (CallsIn.inRound y (callsIn_wide.2 HBN.out)).mono ?_⟩
    unfold BoundsPost
    rintro e w4 ⟨lo, hi4, rfl, hlo, hhi, h99, hb4⟩
    have HJ4 := Lib.hid (HJ.out.below hb4)
    clear hb4 HBN HJ
    gi_wp2
    have HQB : Hid (q ≤ hi4 ∧ lo ≤ q) := Lib.hid (by omega)
    have HGR := Lib.hid (fun u (hu : OverJ w W (.slice D M cd) (.slice A3 n3 c4) (r * 10000 + x) b Q u) => greatest_any 81 (enters_of Tryz.func81 (by kernel_rfl) rfl) #[.pointer (some ⟨w.heap.size + 1 + 1 + 1 + 1, 0, none⟩), .pointer (some ⟨w.heap.size + 1 + 1 + 1, 0, none⟩)] lo hi4 ((r * 10000 + x) / d) (fun _ => False) _ (over_fits (b := b) (Q := Q) (W0 := W) (v3 := .slice A3 n3 c4) HD.out (by have := HM.out; omega) hd0 h99) h99 hlo hhi (fun X Y h hb => h.below hb) u hu (fun _ h => h.elim))
    have j7 := HJ4.out.rq.cell 0
    simp only [List.getElem?_toArray, List.getElem?_cons_zero] at j7
    have i1 : (0 : Int) ≤ (b : Int) - 1 - (k : Int) := by omega
    have i2 : (b : Int) - 1 - (k : Int) < (b : Int) := by omega
    have i4 : (k : Int) ≤ (b : Int) - 1 := by omega
    have i3 : ((b : Int) - 1 - (k : Int)).toNat = i := by omega
    have hib : i < b := by omega
    clear hlo hhi
    rw [hq] at HGR
    refine region_round (S := fun u => u.cell? ⟨w.heap.size + 1 + 1, 0, none⟩ = some (.slice (some ⟨w.heap.size + 1, 0, none⟩) b b)) (by kernel_rfl) (by kernel_rfl) (fun ⟨_, _, h⟩ => h) ((HJ4.out.below (Below.refl _ _).drew).rq.cell 0) (fun hHeld => ?_)
    refine wpAnyH_take (i := 0) (oi := { dst := Option.some 46, op := Op.load 38 (Operand.tmp 7), type := 38, pos := "magnitude.go:139", after := #[], guard := Option.none }) (v := ?_) rfl (by kernel_rfl) (by kernel_rfl) (by kernel_rfl) (fun _ _ _ h => h) (Or.inl ⟨by rfl, ?_⟩) (by assumption) ?_
    rotate_left
    · (intro w hSw; (try dsimp only at hSw); go_simp; all_goals (with_reducible rfl))
    try simp only [Act.put, List.setIfInBounds_toArray, List.set_cons_zero, List.set_cons_succ]
    refine wpAnyH_take (i := 1) (oi := { dst := Option.some 47, op := Op.move (Operand.tmp 10), type := 3, pos := "magnitude.go:139", after := #[], guard := Option.none }) (v := ?_) rfl (by kernel_rfl) (by kernel_rfl) (by kernel_rfl) (fun _ _ _ h => h) (Or.inl ⟨by rfl, ?_⟩) (by assumption) ?_
    rotate_left
    · (intro w hSw; (try dsimp only at hSw); go_simp; all_goals (with_reducible rfl))
    try simp only [Act.put, List.setIfInBounds_toArray, List.set_cons_zero, List.set_cons_succ]
    refine wpAnyH_take (i := 2) (oi := { dst := Option.some 48, op := Op.move (Operand.tmp 12), type := 3, pos := "magnitude.go:139", after := #[], guard := Option.none }) (v := ?_) rfl (by kernel_rfl) (by kernel_rfl) (by kernel_rfl) (fun _ _ _ h => h) (Or.inl ⟨by rfl, ?_⟩) (by assumption) ?_
    rotate_left
    · (intro w hSw; (try dsimp only at hSw); go_simp; all_goals (with_reducible rfl))
    try simp only [Act.put, List.setIfInBounds_toArray, List.set_cons_zero, List.set_cons_succ]
    refine wpAnyH_take (i := 3) (oi := { dst := Option.some 49, op := Op.move (Operand.tmp 13), type := 3, pos := "magnitude.go:139", after := #[], guard := Option.none }) (v := ?_) rfl (by kernel_rfl) (by kernel_rfl) (by kernel_rfl) (fun _ _ _ h => h) (Or.inl ⟨by rfl, ?_⟩) (by assumption) ?_
    rotate_left
    · (intro w hSw; (try dsimp only at hSw); go_simp; all_goals (with_reducible rfl))
    try simp only [Act.put, List.setIfInBounds_toArray, List.set_cons_zero, List.set_cons_succ]
    refine wpAnyH_ready (rs := [4]) (by kernel_rfl) (by simp) ?_
    refine AllReadyH.cons (o := { dst := Option.some 50, op := Op.makeFunc (Fn.func 81) #[] #[Operand.tmp 9, Operand.tmp 8], type := 83, pos := "magnitude.go:139", after := #[], guard := Option.none }) rfl (fun K hK => ?_) ?_
    · go_simp
      refine hK.out _ _ ?_ (fun hHeld => ?_)
      · (try dsimp only)
        first | assumption | (exact ((HJ4.out.below (Below.refl _ _).drew).rq.cell 0)) | (exact k7) | (exact ((HJ5.out.rq.far (p := ⟨w.heap.size + 1, i, none⟩) (by dsimp only; omega) _).cell 0))
      clear hK K
      try simp only [Act.put, List.setIfInBounds_toArray, List.set_cons_zero, List.set_cons_succ]
      refine wpAnyH_ready (rs := [5]) (by kernel_rfl) (by simp) ?_
      refine AllReadyH.cons (o := { dst := Option.some 51, op := Op.call { callee := Callee.value (Operand.func 65), args := #[Operand.tmp 48, Operand.tmp 49, Operand.tmp 50], argTypes := #[3, 3, 83] }, type := 3, pos := "magnitude.go:139", after := #[{ on := 2, ground := Ground.data }, { on := 3, ground := Ground.data }, { on := 4, ground := Ground.data }], guard := Option.none }) rfl (fun K hK => ?_) ?_
      · go_simp
        (go_at_call 65; ((with_reducible refine Calls.mono (HGR.out _ (HJ4.out.below (Below.refl _ _).drew)) ?_); rintro e w5 ⟨rfl, hJ5, hk5⟩; have k7 := hJ5.rq.cell 0; have k8 := hJ5.arr.cell i (by rw [HQ.out.1]; exact hib); have k9 := hJ5.arr.free i; simp only [List.getElem?_toArray, List.getElem?_cons_zero] at k7; have HJ5 := Lib.hid hJ5; clear hJ5 hk5))
        go_wp2_with fail
        refine hK.out _ _ ?_ (fun hHeld => ?_)
        · (try dsimp only)
          first | assumption | (exact ((HJ4.out.below (Below.refl _ _).drew).rq.cell 0)) | (exact k7) | (exact ((HJ5.out.rq.far (p := ⟨w.heap.size + 1, i, none⟩) (by dsimp only; omega) _).cell 0))
        clear hK K
        try simp only [Act.put, List.setIfInBounds_toArray, List.set_cons_zero, List.set_cons_succ]
        refine wpAnyH_ready (rs := [6]) (by kernel_rfl) (by simp) ?_
        refine AllReadyH.cons (o := { dst := Option.some 52, op := Op.indexAddr 38 (Operand.tmp 46) (Operand.tmp 47), type := 0, pos := "magnitude.go:139", after := #[{ on := 0, ground := Ground.data }, { on := 1, ground := Ground.data }, { on := 0, ground := Ground.phase }, { on := 1, ground := Ground.phase }, { on := 2, ground := Ground.phase }, { on := 3, ground := Ground.phase }, { on := 4, ground := Ground.phase }, { on := 5, ground := Ground.phase }], guard := Option.none }) rfl (fun K hK => ?_) ?_
        · go_simp
          refine hK.out _ _ ?_ (fun hHeld => ?_)
          · (try dsimp only)
            first | assumption | (exact ((HJ4.out.below (Below.refl _ _).drew).rq.cell 0)) | (exact k7) | (exact ((HJ5.out.rq.far (p := ⟨w.heap.size + 1, i, none⟩) (by dsimp only; omega) _).cell 0))
          clear hK K
          try simp only [Act.put, List.setIfInBounds_toArray, List.set_cons_zero, List.set_cons_succ]
          refine wpAnyH_ready (rs := [7]) (by kernel_rfl) (by simp) ?_
          refine AllReadyH.cons (o := { dst := Option.none, op := Op.store 3 (Operand.tmp 52) (Operand.tmp 51), type := 0, pos := "magnitude.go:139", after := #[{ on := 6, ground := Ground.data }, { on := 5, ground := Ground.data }, { on := 5, ground := Ground.chain }, { on := 0, ground := Ground.phase }, { on := 1, ground := Ground.phase }, { on := 2, ground := Ground.phase }, { on := 3, ground := Ground.phase }, { on := 4, ground := Ground.phase }, { on := 5, ground := Ground.phase }], guard := Option.none }) rfl (fun K hK => ?_) ?_
          · go_simp
            refine hK.out _ _ ?_ (fun hHeld => ?_)
            · (try dsimp only)
              first | assumption | (exact ((HJ4.out.below (Below.refl _ _).drew).rq.cell 0)) | (exact k7) | (exact ((HJ5.out.rq.far (p := ⟨w.heap.size + 1, i, none⟩) (by dsimp only; omega) _).cell 0))
            clear hK K
            try simp only [Act.put, List.setIfInBounds_toArray, List.set_cons_zero, List.set_cons_succ]
            refine wpAnyH_done (by kernel_rfl) ?_ _
            have HJ6 := Lib.hid (over_J2 (q := (q : Int)) HJ5.out (fun g hg => by have := HF3.out g (own_same hg); have := HB1.out.size; omega) (by rw [HQ.out.1]; exact hib))
            have m3 := HJ6.out.rr.cell 0
            have m4 := HJ6.out.rm.cell 0
            have m2 := HJ6.out.rq.cell 0
            have m1 := HJ6.out.arr.cell i (by rw [List.length_set, HQ.out.1]; exact hib)
            rw [Im.getD_set _ _ _ _ (by rw [HQ.out.1]; exact hib), if_pos rfl] at m1
            simp only [List.getElem?_toArray, List.getElem?_cons_zero] at m3 m4 m2
            obtain ⟨w6, hw6⟩ : ∃ w6, w5.setCell ⟨w.heap.size + 1, i, none⟩ (.int .i64 (q : Int)) = w6 := ⟨_, rfl⟩
            have hqd2 : d * q ≤ r * 10000 + x := by rw [← hq]; exact Nat.mul_div_le _ _
            have hq9 : q < 10000 := by have := HDG.out; omega
            clear k7 k8 k9
            gi_wp2
            rw [hw6] at HJ6 m1 m2 m3 m4 ⊢
            have HTG := Lib.hid (timesGroup_any (.slice D M cd) d q w6.drew (HD.out.next (HJ6.out.below (Below.refl _ _).drew).bw) (by have := HM.out; omega) hq9)
            refine region_round (S := fun u => u.cell? ⟨w.heap.size + 1 + 1, 0, none⟩ = some (.slice (some ⟨w.heap.size + 1, 0, none⟩) b b) ∧ u.cell? ⟨w.heap.size + 1 + 1 + 1 + 1, 0, none⟩ = some (.func (.func 78) #[.slice D M cd] #[]) ∧ u.cell? ⟨w.heap.size + 1, i, none⟩ = some (.int .i64 (q : Int))) (by kernel_rfl) (by kernel_rfl) (fun ⟨_, _, h⟩ => h) ⟨m2, m4, m1⟩ (fun hHeld => ?_)
            refine wpAnyH_take (i := 1) (oi := { dst := Option.some 54, op := Op.load 90 (Operand.tmp 9), type := 90, pos := "magnitude.go:140", after := #[], guard := Option.none }) (v := ?_) rfl (by kernel_rfl) (by kernel_rfl) (by kernel_rfl) (fun _ _ _ h => h) (Or.inl ⟨by rfl, ?_⟩) (by assumption) ?_
            rotate_left
            · (intro w hSw; (try dsimp only at hSw); go_simp; all_goals (with_reducible rfl))
            try simp only [Act.put, List.setIfInBounds_toArray, List.set_cons_zero, List.set_cons_succ]
            refine wpAnyH_take (i := 2) (oi := { dst := Option.some 55, op := Op.load 38 (Operand.tmp 7), type := 38, pos := "magnitude.go:140", after := #[], guard := Option.none }) (v := ?_) rfl (by kernel_rfl) (by kernel_rfl) (by kernel_rfl) (fun _ _ _ h => h) (Or.inl ⟨by rfl, ?_⟩) (by assumption) ?_
            rotate_left
            · (intro w hSw; (try dsimp only at hSw); go_simp; all_goals (with_reducible rfl))
            try simp only [Act.put, List.setIfInBounds_toArray, List.set_cons_zero, List.set_cons_succ]
            refine wpAnyH_take (i := 3) (oi := { dst := Option.some 56, op := Op.move (Operand.tmp 10), type := 3, pos := "magnitude.go:140", after := #[], guard := Option.none }) (v := ?_) rfl (by kernel_rfl) (by kernel_rfl) (by kernel_rfl) (fun _ _ _ h => h) (Or.inl ⟨by rfl, ?_⟩) (by assumption) ?_
            rotate_left
            · (intro w hSw; (try dsimp only at hSw); go_simp; all_goals (with_reducible rfl))
            try simp only [Act.put, List.setIfInBounds_toArray, List.set_cons_zero, List.set_cons_succ]
            refine wpAnyH_take (i := 4) (oi := { dst := Option.some 57, op := Op.indexAddr 38 (Operand.tmp 55) (Operand.tmp 56), type := 0, pos := "magnitude.go:140", after := #[{ on := 2, ground := Ground.data }, { on := 3, ground := Ground.data }], guard := Option.none }) (v := ?_) rfl (by kernel_rfl) (by kernel_rfl) (by kernel_rfl) (fun _ _ _ h => h) (Or.inl ⟨by rfl, ?_⟩) (by assumption) ?_
            rotate_left
            · (intro w hSw; (try dsimp only at hSw); go_simp; all_goals (with_reducible rfl))
            try simp only [Act.put, List.setIfInBounds_toArray, List.set_cons_zero, List.set_cons_succ]
            refine wpAnyH_take (i := 5) (oi := { dst := Option.some 58, op := Op.load 3 (Operand.tmp 57), type := 3, pos := "magnitude.go:140", after := #[{ on := 4, ground := Ground.data }], guard := Option.none }) (v := ?_) rfl (by kernel_rfl) (by kernel_rfl) (by kernel_rfl) (fun _ _ _ h => h) (Or.inl ⟨by rfl, ?_⟩) (by assumption) ?_
            rotate_left
            · (intro w hSw; (try dsimp only at hSw); go_simp; all_goals (with_reducible rfl))
            try simp only [Act.put, List.setIfInBounds_toArray, List.set_cons_zero, List.set_cons_succ]
            refine wpAnyH_ready (rs := [0, 6]) (by kernel_rfl) (by simp) ?_
            refine AllReadyH.cons (o := { dst := Option.some 53, op := Op.load 45 (Operand.tmp 8), type := 45, pos := "magnitude.go:140", after := #[], guard := Option.none }) rfl (fun K hK => ?_) ?_
            · go_simp
              refine hK.out _ _ ?_ (fun hHeld => ?_)
              · (try dsimp only)
                first | assumption | (exact ⟨m2, m4, m1⟩) | (exact over_S HJ8.out (by rw [List.length_set, HQ.out.1]; exact hib) (by rw [Im.getD_set _ _ _ _ (by rw [HQ.out.1]; exact hib), if_pos rfl])) | (exact over_S2 HJ8.out (by rw [List.length_set, HQ.out.1]; exact hib) (by rw [Im.getD_set _ _ _ _ (by rw [HQ.out.1]; exact hib), if_pos rfl]))
              clear hK K
              try simp only [Act.put, List.setIfInBounds_toArray, List.set_cons_zero, List.set_cons_succ]
              refine wpAnyH_ready (rs := [6]) (by kernel_rfl) (by simp) ?_
              refine AllReadyH.cons (o := { dst := Option.some 59, op := Op.call { callee := Callee.value (Operand.tmp 54), args := #[Operand.tmp 58], argTypes := #[3] }, type := 45, pos := "magnitude.go:140", after := #[{ on := 1, ground := Ground.data }, { on := 5, ground := Ground.data }], guard := Option.none }) rfl (fun K hK => ?_) ?_
              · go_simp
                first | (go_at_call 78; ((with_reducible refine Calls.mono HTG.out ?_); unfold MagPost; rintro e w7 ⟨vp, rfl, hmp, hb7⟩; have HJ8 := Lib.hid ((HJ6.out.below (Below.refl _ _).drew).below hb7); have o3 := HJ8.out.rr.cell 0; simp only [List.getElem?_toArray, List.getElem?_cons_zero] at o3; have HMI := Lib.hid (minus_any (.slice A3 n3 c4) vp (r * 10000 + x) (d * q) w7 HJ8.out.mr hmp hqd2 (by have := HLR2.out; omega)); clear hmp hb7)) | (go_at_call 57; ((with_reducible refine Calls.mono HMI.out ?_); unfold MagPost; rintro e w8 ⟨v4, rfl, hm8, hb8⟩; obtain ⟨A4, c5, rfl, -, -⟩ := ints_form hm8; have HJ9 := HJ8; have HJ8 := Lib.hid (HJ9.out.below hb8); have p3 := HJ8.out.rr.cell 0; have p9 := HJ8.out.rr.free 0; simp only [List.getElem?_toArray, List.getElem?_cons_zero] at p3))
                go_wp2_with fail
                refine hK.out _ _ ?_ (fun hHeld => ?_)
                · (try dsimp only)
                  first | assumption | (exact ⟨m2, m4, m1⟩) | (exact over_S HJ8.out (by rw [List.length_set, HQ.out.1]; exact hib) (by rw [Im.getD_set _ _ _ _ (by rw [HQ.out.1]; exact hib), if_pos rfl])) | (exact over_S2 HJ8.out (by rw [List.length_set, HQ.out.1]; exact hib) (by rw [Im.getD_set _ _ _ _ (by rw [HQ.out.1]; exact hib), if_pos rfl]))
                clear hK K
                try simp only [Act.put, List.setIfInBounds_toArray, List.set_cons_zero, List.set_cons_succ]
                refine wpAnyH_ready (rs := [7]) (by kernel_rfl) (by simp) ?_
                refine AllReadyH.cons (o := { dst := Option.some 60, op := Op.call { callee := Callee.value (Operand.func 57), args := #[Operand.tmp 53, Operand.tmp 59], argTypes := #[45, 45] }, type := 45, pos := "magnitude.go:140", after := #[{ on := 0, ground := Ground.data }, { on := 6, ground := Ground.data }, { on := 6, ground := Ground.chain }], guard := Option.none }) rfl (fun K hK => ?_) ?_
                · go_simp
                  first | (go_at_call 78; ((with_reducible refine Calls.mono HTG.out ?_); unfold MagPost; rintro e w7 ⟨vp, rfl, hmp, hb7⟩; have HJ8 := Lib.hid ((HJ6.out.below (Below.refl _ _).drew).below hb7); have o3 := HJ8.out.rr.cell 0; simp only [List.getElem?_toArray, List.getElem?_cons_zero] at o3; have HMI := Lib.hid (minus_any (.slice A3 n3 c4) vp (r * 10000 + x) (d * q) w7 HJ8.out.mr hmp hqd2 (by have := HLR2.out; omega)); clear hmp hb7)) | (go_at_call 57; ((with_reducible refine Calls.mono HMI.out ?_); unfold MagPost; rintro e w8 ⟨v4, rfl, hm8, hb8⟩; obtain ⟨A4, c5, rfl, -, -⟩ := ints_form hm8; have HJ9 := HJ8; have HJ8 := Lib.hid (HJ9.out.below hb8); have p3 := HJ8.out.rr.cell 0; have p9 := HJ8.out.rr.free 0; simp only [List.getElem?_toArray, List.getElem?_cons_zero] at p3))
                  go_wp2_with fail
                  refine hK.out _ _ ?_ (fun hHeld => ?_)
                  · (try dsimp only)
                    first | assumption | (exact ⟨m2, m4, m1⟩) | (exact over_S HJ8.out (by rw [List.length_set, HQ.out.1]; exact hib) (by rw [Im.getD_set _ _ _ _ (by rw [HQ.out.1]; exact hib), if_pos rfl])) | (exact over_S2 HJ8.out (by rw [List.length_set, HQ.out.1]; exact hib) (by rw [Im.getD_set _ _ _ _ (by rw [HQ.out.1]; exact hib), if_pos rfl]))
                  clear hK K
                  try simp only [Act.put, List.setIfInBounds_toArray, List.set_cons_zero, List.set_cons_succ]
                  refine wpAnyH_ready (rs := [8]) (by kernel_rfl) (by simp) ?_
                  refine AllReadyH.cons (o := { dst := Option.none, op := Op.store 45 (Operand.tmp 8) (Operand.tmp 60), type := 0, pos := "magnitude.go:140", after := #[{ on := 7, ground := Ground.data }, { on := 7, ground := Ground.chain }, { on := 0, ground := Ground.phase }, { on := 1, ground := Ground.phase }, { on := 2, ground := Ground.phase }, { on := 3, ground := Ground.phase }, { on := 4, ground := Ground.phase }, { on := 5, ground := Ground.phase }, { on := 6, ground := Ground.phase }, { on := 7, ground := Ground.phase }], guard := Option.none }) rfl (fun K hK => ?_) ?_
                  · go_simp
                    refine hK.out _ _ ?_ (fun hHeld => ?_)
                    · (try dsimp only)
                      first | assumption | (exact ⟨m2, m4, m1⟩) | (exact over_S HJ8.out (by rw [List.length_set, HQ.out.1]; exact hib) (by rw [Im.getD_set _ _ _ _ (by rw [HQ.out.1]; exact hib), if_pos rfl])) | (exact over_S2 HJ8.out (by rw [List.length_set, HQ.out.1]; exact hib) (by rw [Im.getD_set _ _ _ _ (by rw [HQ.out.1]; exact hib), if_pos rfl]))
                    clear hK K
                    try simp only [Act.put, List.setIfInBounds_toArray, List.set_cons_zero, List.set_cons_succ]
                    refine wpAnyH_done (by kernel_rfl) ?_ _
                    gi_wp2
                    have hmf : (r * 10000 + x) - d * q = n % d := by rw [HDS.out.2, ← hq]; have := Nat.div_add_mod (r * 10000 + x) d; omega
                    have hqg := HQ.out
                    refine over_I (k := k) HJ8.out (by rw [show b - (k + 1) = i by omega, hn, ← hmf]; exact hm8) (fun n h => by cases h) ⟨by rw [List.length_set]; exact hqg.1, Im.gs_set hqg.2.1 i _ (by omega) (by omega), ?_⟩
                    rw [show b - (k + 1) = i by omega, hn, HDS.out.1]
                    exact drop_set_step Q i b q (p / d) _ hqg.1 hib hqg.2.2 (by rw [hq])
                  exact AllReadyH.nil
                exact AllReadyH.nil
              exact AllReadyH.nil
            refine AllReadyH.cons (o := { dst := Option.some 59, op := Op.call { callee := Callee.value (Operand.tmp 54), args := #[Operand.tmp 58], argTypes := #[3] }, type := 45, pos := "magnitude.go:140", after := #[{ on := 1, ground := Ground.data }, { on := 5, ground := Ground.data }], guard := Option.none }) rfl (fun K hK => ?_) ?_
            · go_simp
              first | (go_at_call 78; ((with_reducible refine Calls.mono HTG.out ?_); unfold MagPost; rintro e w7 ⟨vp, rfl, hmp, hb7⟩; have HJ8 := Lib.hid ((HJ6.out.below (Below.refl _ _).drew).below hb7); have o3 := HJ8.out.rr.cell 0; simp only [List.getElem?_toArray, List.getElem?_cons_zero] at o3; have HMI := Lib.hid (minus_any (.slice A3 n3 c4) vp (r * 10000 + x) (d * q) w7 HJ8.out.mr hmp hqd2 (by have := HLR2.out; omega)); clear hmp hb7)) | (go_at_call 57; ((with_reducible refine Calls.mono HMI.out ?_); unfold MagPost; rintro e w8 ⟨v4, rfl, hm8, hb8⟩; obtain ⟨A4, c5, rfl, -, -⟩ := ints_form hm8; have HJ9 := HJ8; have HJ8 := Lib.hid (HJ9.out.below hb8); have p3 := HJ8.out.rr.cell 0; have p9 := HJ8.out.rr.free 0; simp only [List.getElem?_toArray, List.getElem?_cons_zero] at p3))
              go_wp2_with fail
              refine hK.out _ _ ?_ (fun hHeld => ?_)
              · (try dsimp only)
                first | assumption | (exact ⟨m2, m4, m1⟩) | (exact over_S HJ8.out (by rw [List.length_set, HQ.out.1]; exact hib) (by rw [Im.getD_set _ _ _ _ (by rw [HQ.out.1]; exact hib), if_pos rfl])) | (exact over_S2 HJ8.out (by rw [List.length_set, HQ.out.1]; exact hib) (by rw [Im.getD_set _ _ _ _ (by rw [HQ.out.1]; exact hib), if_pos rfl]))
              clear hK K
              try simp only [Act.put, List.setIfInBounds_toArray, List.set_cons_zero, List.set_cons_succ]
              refine wpAnyH_ready (rs := [0]) (by kernel_rfl) (by simp) ?_
              refine AllReadyH.cons (o := { dst := Option.some 53, op := Op.load 45 (Operand.tmp 8), type := 45, pos := "magnitude.go:140", after := #[], guard := Option.none }) rfl (fun K hK => ?_) ?_
              · go_simp
                refine hK.out _ _ ?_ (fun hHeld => ?_)
                · (try dsimp only)
                  first | assumption | (exact ⟨m2, m4, m1⟩) | (exact over_S HJ8.out (by rw [List.length_set, HQ.out.1]; exact hib) (by rw [Im.getD_set _ _ _ _ (by rw [HQ.out.1]; exact hib), if_pos rfl])) | (exact over_S2 HJ8.out (by rw [List.length_set, HQ.out.1]; exact hib) (by rw [Im.getD_set _ _ _ _ (by rw [HQ.out.1]; exact hib), if_pos rfl]))
                clear hK K
                try simp only [Act.put, List.setIfInBounds_toArray, List.set_cons_zero, List.set_cons_succ]
                refine wpAnyH_ready (rs := [7]) (by kernel_rfl) (by simp) ?_
                refine AllReadyH.cons (o := { dst := Option.some 60, op := Op.call { callee := Callee.value (Operand.func 57), args := #[Operand.tmp 53, Operand.tmp 59], argTypes := #[45, 45] }, type := 45, pos := "magnitude.go:140", after := #[{ on := 0, ground := Ground.data }, { on := 6, ground := Ground.data }, { on := 6, ground := Ground.chain }], guard := Option.none }) rfl (fun K hK => ?_) ?_
                · go_simp
                  first | (go_at_call 78; ((with_reducible refine Calls.mono HTG.out ?_); unfold MagPost; rintro e w7 ⟨vp, rfl, hmp, hb7⟩; have HJ8 := Lib.hid ((HJ6.out.below (Below.refl _ _).drew).below hb7); have o3 := HJ8.out.rr.cell 0; simp only [List.getElem?_toArray, List.getElem?_cons_zero] at o3; have HMI := Lib.hid (minus_any (.slice A3 n3 c4) vp (r * 10000 + x) (d * q) w7 HJ8.out.mr hmp hqd2 (by have := HLR2.out; omega)); clear hmp hb7)) | (go_at_call 57; ((with_reducible refine Calls.mono HMI.out ?_); unfold MagPost; rintro e w8 ⟨v4, rfl, hm8, hb8⟩; obtain ⟨A4, c5, rfl, -, -⟩ := ints_form hm8; have HJ9 := HJ8; have HJ8 := Lib.hid (HJ9.out.below hb8); have p3 := HJ8.out.rr.cell 0; have p9 := HJ8.out.rr.free 0; simp only [List.getElem?_toArray, List.getElem?_cons_zero] at p3))
                  go_wp2_with fail
                  refine hK.out _ _ ?_ (fun hHeld => ?_)
                  · (try dsimp only)
                    first | assumption | (exact ⟨m2, m4, m1⟩) | (exact over_S HJ8.out (by rw [List.length_set, HQ.out.1]; exact hib) (by rw [Im.getD_set _ _ _ _ (by rw [HQ.out.1]; exact hib), if_pos rfl])) | (exact over_S2 HJ8.out (by rw [List.length_set, HQ.out.1]; exact hib) (by rw [Im.getD_set _ _ _ _ (by rw [HQ.out.1]; exact hib), if_pos rfl]))
                  clear hK K
                  try simp only [Act.put, List.setIfInBounds_toArray, List.set_cons_zero, List.set_cons_succ]
                  refine wpAnyH_ready (rs := [8]) (by kernel_rfl) (by simp) ?_
                  refine AllReadyH.cons (o := { dst := Option.none, op := Op.store 45 (Operand.tmp 8) (Operand.tmp 60), type := 0, pos := "magnitude.go:140", after := #[{ on := 7, ground := Ground.data }, { on := 7, ground := Ground.chain }, { on := 0, ground := Ground.phase }, { on := 1, ground := Ground.phase }, { on := 2, ground := Ground.phase }, { on := 3, ground := Ground.phase }, { on := 4, ground := Ground.phase }, { on := 5, ground := Ground.phase }, { on := 6, ground := Ground.phase }, { on := 7, ground := Ground.phase }], guard := Option.none }) rfl (fun K hK => ?_) ?_
                  · go_simp
                    refine hK.out _ _ ?_ (fun hHeld => ?_)
                    · (try dsimp only)
                      first | assumption | (exact ⟨m2, m4, m1⟩) | (exact over_S HJ8.out (by rw [List.length_set, HQ.out.1]; exact hib) (by rw [Im.getD_set _ _ _ _ (by rw [HQ.out.1]; exact hib), if_pos rfl])) | (exact over_S2 HJ8.out (by rw [List.length_set, HQ.out.1]; exact hib) (by rw [Im.getD_set _ _ _ _ (by rw [HQ.out.1]; exact hib), if_pos rfl]))
                    clear hK K
                    try simp only [Act.put, List.setIfInBounds_toArray, List.set_cons_zero, List.set_cons_succ]
                    refine wpAnyH_done (by kernel_rfl) ?_ _
                    gi_wp2
                    have hmf : (r * 10000 + x) - d * q = n % d := by rw [HDS.out.2, ← hq]; have := Nat.div_add_mod (r * 10000 + x) d; omega
                    have hqg := HQ.out
                    refine over_I (k := k) HJ8.out (by rw [show b - (k + 1) = i by omega, hn, ← hmf]; exact hm8) (fun n h => by cases h) ⟨by rw [List.length_set]; exact hqg.1, Im.gs_set hqg.2.1 i _ (by omega) (by omega), ?_⟩
                    rw [show b - (k + 1) = i by omega, hn, HDS.out.1]
                    exact drop_set_step Q i b q (p / d) _ hqg.1 hib hqg.2.2 (by rw [hq])
                  exact AllReadyH.nil
                exact AllReadyH.nil
              exact AllReadyH.nil
            exact AllReadyH.nil
          exact AllReadyH.nil
        exact AllReadyH.nil
      exact AllReadyH.nil
    exact AllReadyH.nil
  case done =>
    rintro D' W hD hI hK
    obtain ⟨vr, hrr, hmr⟩ := hI.rr
    obtain ⟨Q, harr, hQl, hQg, hQv⟩ := hI.qq
    rw [Nat.sub_self, Nat.pow_zero, Nat.div_one] at hmr hQv
    rw [List.drop_zero] at hQv
    have hQi := harr.ints (c := b) (by rw [hQl]; exact Nat.le_refl _) (by unfold maxLen; omega)
    have htr := trimmed_any Q (some ⟨w.heap.size + 1, 0, none⟩) b W hQi
    have hmq := trimmed_ints hQi (a / d) hQg hQv
    rw [hQl] at htr
    obtain ⟨nq, hnq⟩ : ∃ n, (Im.trim Q).length = n := ⟨_, rfl⟩
    rw [hnq] at htr hmq
    have hbw := hI.bw
    have m2 := hI.rq.cell 0
    have m3 := hrr.cell 0
    simp only [List.getElem?_toArray, List.getElem?_cons_zero] at m2 m3
    have htr2 := htr
    have HT := Lib.hid (fun u (hu : u.heap = W.heap) => trimmed_any Q (some ⟨w.heap.size + 1, 0, none⟩) b u (by
      have h2 := hQi
      obtain ⟨A', c', h1, h3, h4, h5⟩ := h2
      exact ⟨A', c', h1, h3, h4, h5.imp id fun ⟨g, off, h6, h7, h8⟩ => ⟨g, off, h6, by rw [hu]; exact h7, fun j x hj => (World.cell?_of_block (w := W) (a := ⟨g, off + j, none⟩) (by rw [hu])).trans (h8 j x hj)⟩⟩))
    rw [hQl, hnq] at HT
    have HMQ := Lib.hid hmq; have HMR := Lib.hid hmr; have HBW := Lib.hid hbw; have HK := Lib.hid hK
    clear hmq hmr hbw hK htr htr2 hQi hI hrr harr hQl hQg hQv hnq
    gi_wp2
    refine wpIn_wide.2 ?_
    go_region_held3 (fun u => u.heap = W.heap ∧ u.cell? ⟨w.heap.size + 1 + 1, 0, none⟩ = some (.slice (some ⟨w.heap.size + 1, 0, none⟩) b b) ∧ u.cell? ⟨w.heap.size + 1 + 1 + 1, 0, none⟩ = some vr) (first | assumption | (exact ⟨rfl, m2, m3⟩)) (first | (go_at_call 67; ((with_reducible refine Calls.mono (HT.out _ ?h1) ?_); (case h1 => exact (‹_ = W.heap ∧ _ ∧ _›).1); rintro e w9 ⟨rfl, rfl⟩)))
    all_goals
      have hu := (‹_ = W.heap ∧ _ ∧ _›).1
      have hK2 := HK.out
      rw [← hu] at hK2
      gi_wp2
      refine ⟨by simp, .inl ⟨_, _, rfl, run_takeDeferred hK2, ?_⟩⟩
      refine ⟨_, results_tmp2 rfl _ _ _, _, _, rfl, ?_, ?_, ?_⟩
      · exact (ints_putDef _ (ints_heap HMQ.out hu) hK2).more (by simp [hu])
      · exact (ints_putDef _ (ints_heap HMR.out hu) hK2).more (by simp [hu])
      · exact HBW.out.drew.trans (belowK_b (w := w) (Nat.le_refl _) _ D' _ _ (by omega) hK2 rfl rfl)
end Go.Proofs.YtflpfmkfjccmiaaGreatDoor
