/- The examples with which each law begins: all as the chapter says. -/
import Derived.Test.YtabkodpjhpjgnaaGreatDoorQv
import Derived.Deep.DeepCutAuto
namespace Go.Proofs.YtabkodpjhpjgnaaGreatDoor
open Go.RowKit Go.Shelf

theorem long_c (x0 x1 x2 x3 : Int) (b0 : -9223372036854775808 ≤ x0 ∧ x0 ≤ 9223372036854775807) (b1 : -9223372036854775808 ≤ x1 ∧ x1 ≤ 9223372036854775807) (b2 : -9223372036854775808 ≤ x2 ∧ x2 ≤ 9223372036854775807) (b3 : -9223372036854775808 ≤ x3 ∧ x3 ≤ 9223372036854775807) : CallT 13 #[.agg #[.int .i64 x0, .int .i64 x1, .int .i64 x2, .int .i64 x3]] (qv (longQ x0 x1 x2 x3)) := fun u hu => long_walk x0 x1 x2 x3 b0 b1 b2 b3 u hu
/-- What comes out where the operation fits, and where it does not. -/
theorem built (F : Nat) (args : Array Value) (y : Rat) (h : ∀ u, TabP u → Calls Tryz.prog F args u (BuildP true (qv y) u)) : CallT F args (.tuple #[qv y, .int .i64 0]) := fun u hu => (h u hu).mono fun e w' hx => by
  obtain ⟨s, t, er, rfl, (⟨-, h1, rfl⟩ | ⟨h1, -⟩), hb⟩ := hx
  · rw [h1]; exact ⟨rfl, hb⟩
  · cases h1
theorem failed (F : Nat) (args : Array Value) (y : Value) (h : ∀ u, TabP u → Calls Tryz.prog F args u (BuildP false y u)) : CallT F args (.tuple #[rvB ⟨#[]⟩ ⟨#[]⟩, .int .i64 40]) := fun u hu => (h u hu).mono fun e w' hx => by
  obtain ⟨s, t, er, rfl, (⟨h1, -⟩ | ⟨-, rfl, rfl, rfl⟩), hb⟩ := hx
  · cases h1
  · exact ⟨rfl, hb⟩
theorem q_lit (q : Rat) (l r : List UInt8) (h1 : Lib.itoa q.num = l) (h2 : Lib.itoa ((q.den : Nat) : Int) = r) : qv q = rvB ⟨l.toArray⟩ ⟨r.toArray⟩ := by rw [← h1, ← h2]; rfl
theorem of_c (n d : Int) (h0 : -9223372036854775808 ≤ n) (h1 : n ≤ 9223372036854775807) (d0 : -9223372036854775808 ≤ d) (d1 : d ≤ 9223372036854775807) (hd : d ≠ 0) : CallT 31 #[.int .i64 n, .int .i64 d] (.tuple #[qv (Rat.divInt n d), .int .i64 0]) :=
  built _ _ _ fun u hu => of_of n d _ _ u hu h0 h1 d0 d1 (fun u hu => make_q n d (ok_i64 h0 h1) (ok_i64 d0 d1) hd u hu)
theorem of_z (n : Int) (h0 : -9223372036854775808 ≤ n) (h1 : n ≤ 9223372036854775807) : CallT 31 #[.int .i64 n, .int .i64 0] (.tuple #[rvB ⟨#[]⟩ ⟨#[]⟩, .int .i64 40]) :=
  failed _ _ (qv 0) fun u hu => of_of n 0 _ _ u hu h0 h1 (by decide) (by decide) (fun u hu => make_no _ _ (.inr rfl) 0 u hu)
set_option maxHeartbeats 400000 in
theorem is_any (S T : ByteArray) : CallT 41 #[.string S, .string T] (rvB S T) := fun w _ => by
  have ho := Row.new w 23 #[.string ⟨#[]⟩, .string ⟨#[]⟩]
  go_enter Tryz.func41, Tryz.ntmps41
  go_wp2
  refine bodyPost_ret (results_rat1 rfl _ _ w.heap.size _ _ rfl (Row.new w _ _)) rfl ?_
  exact ⟨rfl, new_below _ _⟩

/-- Boxes of fractions, each with its two strings. -/
def Bxs (u : World) (l : List (Nat × ByteArray × ByteArray)) : Prop := ∀ x ∈ l, Row u x.1 23 #[.string x.2.1, .string x.2.2]
theorem Bxs.nil (u : World) : Bxs u [] := fun x h => by cases h
theorem Bxs.below {u u' : World} {l : List (Nat × ByteArray × ByteArray)} (h : Bxs u l) (hb : Below u.heap.size u u') : Bxs u' l := fun x hx => (h x hx).below hb (h x hx).lt
theorem Bxs.cons {u : World} {l : List (Nat × ByteArray × ByteArray)} (h : Bxs u l) (S T : ByteArray) : Bxs (u.alloc (.cells #[.string S, .string T] 23)) ((u.heap.size, S, T) :: l) := fun x hx => by
  rcases List.mem_cons.1 hx with rfl | hx
  · exact Row.new u _ _
  · exact (h x hx).alloc _
theorem Bxs.far {u0 u : World} {l : List (Nat × ByteArray × ByteArray)} {c d : Value} (h : Bxs u l) (h0 : Bxs u0 l) : Bxs ((u.setCell ⟨u0.heap.size, 0, none⟩ c).setCell ⟨u0.heap.size, 1, none⟩ d) l := fun x hx => by
  have := (h0 x hx).lt
  exact ((h x hx).far (by dsimp only; omega) _).far (by dsimp only; omega) _
theorem Bxs.put {u : World} {l : List (Nat × ByteArray × ByteArray)} {g : Nat} {S T : ByteArray} (h : Bxs u l) (hr : Row u g 23 #[.string S, .string T]) : Bxs u ((g, S, T) :: l) := fun x hx => by
  rcases List.mem_cons.1 hx with rfl | hx
  · exact hr
  · exact h x hx
theorem new_row {u v : World} {S T : ByteArray} (hb : Below (u.alloc (.cells #[.string S, .string T] 23)).heap.size (u.alloc (.cells #[.string S, .string T] 23)) v) : Row v u.heap.size 23 #[.string S, .string T] := (Row.new u _ _).below hb (by simp)
theorem put_below {w u0 u : World} {c d : Value} (h0 : Below w.heap.size w u0) (h : Below w.heap.size w u) : Below w.heap.size w ((u.setCell ⟨u0.heap.size, 0, none⟩ c).setCell ⟨u0.heap.size, 1, none⟩ d) := by
  have := h0.size
  exact (h.setCell (by dsimp only; omega) _).setCell (by dsimp only; omega) _
theorem vldR_nil : vldR [] [] = false := by
  cases h : vldR [] [] with
  | false => rfl
  | true =>
    obtain ⟨q, -, h1, -⟩ := vldR_of h
    have h2 := Im.vld_itoa q.num
    have h3 : Lib.itoa q.num ≠ [] := by
      unfold Lib.itoa
      split
      · simp
      · exact Im.dd_ne _
    exact absurd h1.symm h3
theorem sixfour : CallT 34 #[.string ⟨#[54, 47, 52]⟩] (.tuple #[rvB ⟨#[]⟩ ⟨#[]⟩, .int .i64 40]) := by
  refine failed _ _ (qv 0) fun u hu => parse_no [54, 47, 52] (by decide) (fun q _ h => ?_) 0 u hu
  unfold qtxt at h
  have h6 : ([54] : List UInt8) = Lib.itoa 6 := by decide +kernel
  have h4 : ([52] : List UInt8) = Lib.itoa 4 := by decide +kernel
  split at h
  · have := no47 q.num
    rw [← h] at this
    exact this (by decide)
  · have hx : ∀ (A B C D : List UInt8), (47 : UInt8) ∉ A → (47 : UInt8) ∉ C → A ++ 47 :: B = C ++ 47 :: D → A = C ∧ B = D := by
      intro A
      induction A with
      | nil =>
        intro B C D _ hC e
        cases C with
        | nil => exact ⟨rfl, (List.cons.inj e).2⟩
        | cons c C => exact absurd (List.cons.inj e).1 (fun e2 => hC (by rw [← e2]; exact List.mem_cons_self))
      | cons a A ih =>
        intro B C D hA hC e
        cases C with
        | nil => exact absurd (List.cons.inj e).1 (fun e2 => hA (by rw [e2]; exact List.mem_cons_self))
        | cons c C =>
          obtain ⟨e1, e2⟩ := List.cons.inj e
          obtain ⟨e3, e4⟩ := ih B C D (fun h => hA (List.mem_cons_of_mem _ h)) (fun h => hC (List.mem_cons_of_mem _ h)) e2
          exact ⟨by rw [e1, e3], e4⟩
    obtain ⟨e1, e2⟩ := hx [54] [52] _ _ (by decide) (no47 _) h
    rw [h6] at e1
    rw [h4] at e2
    have n1 := Im.itoa_inj e1
    have n2 := Im.itoa_inj e2
    have hg := Qm.qgcd q
    rw [← n1, show q.den = 4 from by omega] at hg
    revert hg; decide

set_option maxRecDepth 100000 in
set_option maxHeartbeats 4000000 in
theorem sane_c : CallT 11 #[] (.bool true) := fun w ht => by
  have hk : okq (Rat.divInt (1) 2) = true ∧ okq (Rat.divInt (1) 3) = true := by decide +kernel
  have OF1 : Hid (CallT 31 #[.int .i64 6, .int .i64 (-4)] (.tuple #[(rvB ⟨#[45, 51]⟩ ⟨#[50]⟩), .int .i64 0])) := Lib.hid (by rw [← show qv (Rat.divInt (-3) 2) = (rvB ⟨#[45, 51]⟩ ⟨#[50]⟩) from q_lit (Rat.divInt (-3) 2) _ _ (by decide +kernel : Lib.itoa _ = [45, 51]) (by decide +kernel : Lib.itoa _ = [50])]; have h := of_c 6 (-4) (by decide) (by decide) (by decide) (by decide) (by decide); rw [show Rat.divInt 6 (-4) = (Rat.divInt (-3) 2) from by decide +kernel] at h; exact h)
  have OF2 : Hid (CallT 31 #[.int .i64 0, .int .i64 (-5)] (.tuple #[(rvB ⟨#[48]⟩ ⟨#[49]⟩), .int .i64 0])) := Lib.hid (by rw [← show qv (Rat.divInt (0) 1) = (rvB ⟨#[48]⟩ ⟨#[49]⟩) from q_lit (Rat.divInt (0) 1) _ _ (by decide +kernel : Lib.itoa _ = [48]) (by decide +kernel : Lib.itoa _ = [49])]; have h := of_c 0 (-5) (by decide) (by decide) (by decide) (by decide) (by decide); rw [show Rat.divInt 0 (-5) = (Rat.divInt (0) 1) from by decide +kernel] at h; exact h)
  have OF3 : Hid (CallT 31 #[.int .i64 1, .int .i64 0] (.tuple #[rvB ⟨#[]⟩ ⟨#[]⟩, .int .i64 40])) := Lib.hid (by exact of_z 1 (by decide) (by decide))
  have AD1 : Hid (CallT 38 #[(rvB ⟨#[49]⟩ ⟨#[50]⟩), (rvB ⟨#[49]⟩ ⟨#[51]⟩)] (.tuple #[(rvB ⟨#[53]⟩ ⟨#[54]⟩), .int .i64 0])) := Lib.hid (by rw [← show qv (Rat.divInt (1) 2) = (rvB ⟨#[49]⟩ ⟨#[50]⟩) from q_lit (Rat.divInt (1) 2) _ _ (by decide +kernel : Lib.itoa _ = [49]) (by decide +kernel : Lib.itoa _ = [50]), ← show qv (Rat.divInt (1) 3) = (rvB ⟨#[49]⟩ ⟨#[51]⟩) from q_lit (Rat.divInt (1) 3) _ _ (by decide +kernel : Lib.itoa _ = [49]) (by decide +kernel : Lib.itoa _ = [51]), ← show qv (Rat.divInt (5) 6) = (rvB ⟨#[53]⟩ ⟨#[54]⟩) from q_lit (Rat.divInt (5) 6) _ _ (by decide +kernel : Lib.itoa _ = [53]) (by decide +kernel : Lib.itoa _ = [54])]; rw [show (Rat.divInt (5) 6) = (Rat.divInt (1) 2) + (Rat.divInt (1) 3) from by decide +kernel]; exact built _ _ _ fun u hu => by { have h := add_q (Rat.divInt (1) 2) (Rat.divInt (1) 3) (by decide +kernel) (by decide +kernel) u hu; rw [show addF (Rat.divInt (1) 2) (Rat.divInt (1) 3) = true from by decide +kernel] at h; exact h })
  have DV1 : Hid (CallT 45 #[(rvB ⟨#[49]⟩ ⟨#[50]⟩), (rvB ⟨#[45, 49]⟩ ⟨#[52]⟩)] (.tuple #[(rvB ⟨#[45, 50]⟩ ⟨#[49]⟩), .int .i64 0])) := Lib.hid (by rw [← show qv (Rat.divInt (1) 2) = (rvB ⟨#[49]⟩ ⟨#[50]⟩) from q_lit (Rat.divInt (1) 2) _ _ (by decide +kernel : Lib.itoa _ = [49]) (by decide +kernel : Lib.itoa _ = [50]), ← show qv (Rat.divInt (-1) 4) = (rvB ⟨#[45, 49]⟩ ⟨#[52]⟩) from q_lit (Rat.divInt (-1) 4) _ _ (by decide +kernel : Lib.itoa _ = [45, 49]) (by decide +kernel : Lib.itoa _ = [52]), ← show qv (Rat.divInt (-2) 1) = (rvB ⟨#[45, 50]⟩ ⟨#[49]⟩) from q_lit (Rat.divInt (-2) 1) _ _ (by decide +kernel : Lib.itoa _ = [45, 50]) (by decide +kernel : Lib.itoa _ = [49])]; rw [show (Rat.divInt (-2) 1) = (Rat.divInt (1) 2) / (Rat.divInt (-1) 4) from by decide +kernel]; exact built _ _ _ fun u hu => by { have h := div_q (Rat.divInt (1) 2) (Rat.divInt (-1) 4) (by decide +kernel) (by decide +kernel) u hu; rw [show divF (Rat.divInt (1) 2) (Rat.divInt (-1) 4) = true from by decide +kernel] at h; exact h })
  have DV2 : Hid (CallT 45 #[(rvB ⟨#[49]⟩ ⟨#[49]⟩), (rvB ⟨#[48]⟩ ⟨#[49]⟩)] (.tuple #[rvB ⟨#[]⟩ ⟨#[]⟩, .int .i64 40])) := Lib.hid (by rw [← show qv (Rat.divInt (1) 1) = (rvB ⟨#[49]⟩ ⟨#[49]⟩) from q_lit (Rat.divInt (1) 1) _ _ (by decide +kernel : Lib.itoa _ = [49]) (by decide +kernel : Lib.itoa _ = [49]), ← show qv (Rat.divInt (0) 1) = (rvB ⟨#[48]⟩ ⟨#[49]⟩) from q_lit (Rat.divInt (0) 1) _ _ (by decide +kernel : Lib.itoa _ = [48]) (by decide +kernel : Lib.itoa _ = [49])]; exact failed _ _ _ fun u hu => by { have h := div_q (Rat.divInt (1) 1) (Rat.divInt (0) 1) (by decide +kernel) (by decide +kernel) u hu; rw [show divF (Rat.divInt (1) 1) (Rat.divInt (0) 1) = false from by decide +kernel] at h; exact h })
  have DN1 : Hid (CallT 23 #[(rvB ⟨#[45, 49]⟩ ⟨#[51]⟩), .int .i64 2] (.tuple #[(rvB ⟨#[45, 49, 55]⟩ ⟨#[53, 48]⟩), .int .i64 0])) := Lib.hid (by rw [← show qv (Rat.divInt (-1) 3) = (rvB ⟨#[45, 49]⟩ ⟨#[51]⟩) from q_lit (Rat.divInt (-1) 3) _ _ (by decide +kernel : Lib.itoa _ = [45, 49]) (by decide +kernel : Lib.itoa _ = [51]), ← show qv (Rat.divInt (-17) 50) = (rvB ⟨#[45, 49, 55]⟩ ⟨#[53, 48]⟩) from q_lit (Rat.divInt (-17) 50) _ _ (by decide +kernel : Lib.itoa _ = [45, 49, 55]) (by decide +kernel : Lib.itoa _ = [53, 48])]; rw [show (Rat.divInt (-17) 50) = Rat.divInt ((Rat.divInt (-1) 3).num * ((10 ^ 2 : Nat) : Int) / (((Rat.divInt (-1) 3).den : Nat) : Int)) ((10 ^ 2 : Nat) : Int) from by decide +kernel]; exact built _ _ _ fun u hu => by { have h := down_q (Rat.divInt (-1) 3) 2 (by decide +kernel) (by decide) u hu; rw [show okz ((Rat.divInt (-1) 3).num * ((10 ^ 2 : Nat) : Int)) = true from by decide +kernel] at h; exact h })
  have UP1 : Hid (CallT 25 #[(rvB ⟨#[49]⟩ ⟨#[51]⟩), .int .i64 2] (.tuple #[(rvB ⟨#[49, 55]⟩ ⟨#[53, 48]⟩), .int .i64 0])) := Lib.hid (by rw [← show qv (Rat.divInt (1) 3) = (rvB ⟨#[49]⟩ ⟨#[51]⟩) from q_lit (Rat.divInt (1) 3) _ _ (by decide +kernel : Lib.itoa _ = [49]) (by decide +kernel : Lib.itoa _ = [51]), ← show qv (Rat.divInt (17) 50) = (rvB ⟨#[49, 55]⟩ ⟨#[53, 48]⟩) from q_lit (Rat.divInt (17) 50) _ _ (by decide +kernel : Lib.itoa _ = [49, 55]) (by decide +kernel : Lib.itoa _ = [53, 48])]; rw [show (Rat.divInt (17) 50) = Rat.divInt (cl ((Rat.divInt (1) 3).num * ((10 ^ 2 : Nat) : Int)) (((Rat.divInt (1) 3).den : Nat) : Int)) ((10 ^ 2 : Nat) : Int) from by decide +kernel]; exact built _ _ _ fun u hu => by { have h := up_q (Rat.divInt (1) 3) 2 (by decide +kernel) (by decide) u hu; rw [show okz ((Rat.divInt (1) 3).num * ((10 ^ 2 : Nat) : Int)) = true from by decide +kernel] at h; exact h })
  have PA1 : Hid (CallT 34 #[.string ⟨#[45, 51, 47, 50]⟩] (.tuple #[(rvB ⟨#[45, 51]⟩ ⟨#[50]⟩), .int .i64 0])) := Lib.hid (by rw [← show qv (Rat.divInt (-3) 2) = (rvB ⟨#[45, 51]⟩ ⟨#[50]⟩) from q_lit (Rat.divInt (-3) 2) _ _ (by decide +kernel : Lib.itoa _ = [45, 51]) (by decide +kernel : Lib.itoa _ = [50])]; rw [show (⟨#[45, 51, 47, 50]⟩ : ByteArray) = bs (qtxt (Rat.divInt (-3) 2)) from by decide +kernel]; exact built _ _ _ fun u hu => parse_q (Rat.divInt (-3) 2) (by decide +kernel) u hu)
  have PA2 : Hid (CallT 34 #[.string ⟨#[54, 47, 52]⟩] (.tuple #[rvB ⟨#[]⟩ ⟨#[]⟩, .int .i64 40])) := Lib.hid (by exact sixfour)
  have PR1 : Hid (CallT 33 #[(rvB ⟨#[45, 51]⟩ ⟨#[50]⟩)] (.string ⟨#[45, 51, 47, 50]⟩)) := Lib.hid (by rw [← show qv (Rat.divInt (-3) 2) = (rvB ⟨#[45, 51]⟩ ⟨#[50]⟩) from q_lit (Rat.divInt (-3) 2) _ _ (by decide +kernel : Lib.itoa _ = [45, 51]) (by decide +kernel : Lib.itoa _ = [50])]; rw [show (⟨#[45, 51, 47, 50]⟩ : ByteArray) = bs (qtxt (Rat.divInt (-3) 2)) from by decide +kernel]; exact print_q _ (by decide +kernel))
  have CM1 : Hid (CallT 20 #[(rvB ⟨#[49]⟩ ⟨#[51]⟩), (rvB ⟨#[51, 51, 51, 51, 51]⟩ ⟨#[49, 48, 48, 48, 48, 48]⟩)] (.int .i64 1)) := Lib.hid (by rw [← show qv (Rat.divInt (1) 3) = (rvB ⟨#[49]⟩ ⟨#[51]⟩) from q_lit (Rat.divInt (1) 3) _ _ (by decide +kernel : Lib.itoa _ = [49]) (by decide +kernel : Lib.itoa _ = [51]), ← show qv (Rat.divInt (33333) 100000) = (rvB ⟨#[51, 51, 51, 51, 51]⟩ ⟨#[49, 48, 48, 48, 48, 48]⟩) from q_lit (Rat.divInt (33333) 100000) _ _ (by decide +kernel : Lib.itoa _ = [51, 51, 51, 51, 51]) (by decide +kernel : Lib.itoa _ = [49, 48, 48, 48, 48, 48])]; rw [show (1 : Int) = Qm.qcmp (Rat.divInt (1) 3) (Rat.divInt (33333) 100000) from by decide +kernel]; exact cmp_q _ _ (by decide +kernel) (by decide +kernel))
  have VA1 : Hid (CallT 29 #[(rvB ⟨#[45, 51]⟩ ⟨#[50]⟩)] (.bool true)) := Lib.hid (by rw [← show qv (Rat.divInt (-3) 2) = (rvB ⟨#[45, 51]⟩ ⟨#[50]⟩) from q_lit (Rat.divInt (-3) 2) _ _ (by decide +kernel : Lib.itoa _ = [45, 51]) (by decide +kernel : Lib.itoa _ = [50])]; have h := valid_r (Lib.itoa (Rat.divInt (-3) 2).num) (Lib.itoa (((Rat.divInt (-3) 2).den : Nat) : Int)); rw [vldR_q (by decide +kernel)] at h; exact h)
  have VA2 : Hid (CallT 29 #[rvB ⟨#[]⟩ ⟨#[]⟩] (.bool false)) := Lib.hid (by have h := valid_r [] []; rw [vldR_nil] at h; exact h)
  have IS := Lib.hid is_any
  have HT := Lib.hid ht
  have HB := Lib.hid (Below.refl w.heap.size w)
  have HR := Lib.hid (Bxs.nil w)
  clear ht hk
  unfold rvB at *
  obtain ⟨E1, hE1⟩ : ∃ E : ByteArray, ⟨#[]⟩ = E := ⟨_, rfl⟩
  rw [hE1] at DV2
  clear hE1
  go_enter Tryz.func11, Tryz.ntmps11
  go_upto_region 6 with (first | (go_at_call 41; (with_reducible refine Calls.mono (IS.out _ _ _ (HT.out.next HB.out)) ?_); rintro e w9 ⟨rfl, hb⟩; replace HR := Lib.hid (HR.out.below hb); replace HB := Lib.hid (below_to HB.out hb); clear hb) | (go_at_call 31; (with_reducible refine Calls.mono (OF1.out _ (HT.out.next HB.out)) ?_); rintro e w1 ⟨rfl, hb⟩; replace HR := Lib.hid ((HR.out.below hb).cons ⟨#[45, 51]⟩ ⟨#[50]⟩); replace HB := Lib.hid (below_to (below_to HB.out hb) (new_below _ (.cells #[.string ⟨#[45, 51]⟩, .string ⟨#[50]⟩] 23))); clear hb) | (go_at_call 31; (with_reducible refine Calls.mono (OF2.out _ (HT.out.next HB.out)) ?_); rintro e w2 ⟨rfl, hb⟩; replace HR := Lib.hid ((HR.out.below hb).cons ⟨#[48]⟩ ⟨#[49]⟩); replace HB := Lib.hid (below_to (below_to HB.out hb) (new_below _ (.cells #[.string ⟨#[48]⟩, .string ⟨#[49]⟩] 23))); clear hb) | (go_at_call 31; (with_reducible refine Calls.mono (OF3.out _ (HT.out.next HB.out)) ?_); rintro e w3 ⟨rfl, hb⟩; replace HR := Lib.hid ((HR.out.below hb).cons ⟨#[]⟩ ⟨#[]⟩); replace HB := Lib.hid (below_to (below_to HB.out hb) (new_below _ (.cells #[.string ⟨#[]⟩, .string ⟨#[]⟩] 23))); clear hb) | (go_at_call 38; (with_reducible refine Calls.mono (AD1.out _ (HT.out.next HB.out)) ?_); rintro e w4 ⟨rfl, hb⟩; replace HR := Lib.hid ((HR.out.below hb).cons ⟨#[53]⟩ ⟨#[54]⟩); replace HB := Lib.hid (below_to (below_to HB.out hb) (new_below _ (.cells #[.string ⟨#[53]⟩, .string ⟨#[54]⟩] 23))); clear hb) | (go_at_call 45; (with_reducible refine Calls.mono (DV1.out _ (HT.out.next HB.out)) ?_); rintro e w5 ⟨rfl, hb⟩; replace HR := Lib.hid ((HR.out.below hb).cons ⟨#[45, 50]⟩ ⟨#[49]⟩); replace HB := Lib.hid (below_to (below_to HB.out hb) (new_below _ (.cells #[.string ⟨#[45, 50]⟩, .string ⟨#[49]⟩] 23))); clear hb))
  obtain ⟨W6, hW6⟩ : ∃ W6, w5.alloc (.cells #[.string ⟨#[45, 50]⟩, .string ⟨#[49]⟩] 23) = W6 := ⟨_, rfl⟩
  rw [hW6] at HR HB ⊢
  clear hW6
  go_cut [11, 12] (fun sb se wx => ∃ g, sb = .pointer (some ⟨g, 0, none⟩) ∧ se = .int .i64 40 ∧ Hid (Bxs wx ((g, E1, E1) :: [(w5.heap.size, ⟨#[45, 50]⟩, ⟨#[49]⟩), (w4.heap.size, ⟨#[53]⟩, ⟨#[54]⟩), (w3.heap.size, ⟨#[]⟩, ⟨#[]⟩), (w2.heap.size, ⟨#[48]⟩, ⟨#[49]⟩), (w1.heap.size, ⟨#[45, 51]⟩, ⟨#[50]⟩)])) ∧ Hid (Below w.heap.size w wx))
  case first =>
    have HRd : Hid (Bxs W6.drew [(w5.heap.size, ⟨#[45, 50]⟩, ⟨#[49]⟩), (w4.heap.size, ⟨#[53]⟩, ⟨#[54]⟩), (w3.heap.size, ⟨#[]⟩, ⟨#[]⟩), (w2.heap.size, ⟨#[48]⟩, ⟨#[49]⟩), (w1.heap.size, ⟨#[45, 51]⟩, ⟨#[50]⟩)]) := Lib.hid (fun x hx => (HR.out x hx).drew)
    have HBd : Hid (Below w.heap.size w W6.drew) := Lib.hid HB.out.drew
    have mkS : Hid (∀ u, Below w.heap.size w u → Bxs u [(w5.heap.size, ⟨#[45, 50]⟩, ⟨#[49]⟩), (w4.heap.size, ⟨#[53]⟩, ⟨#[54]⟩), (w3.heap.size, ⟨#[]⟩, ⟨#[]⟩), (w2.heap.size, ⟨#[48]⟩, ⟨#[49]⟩), (w1.heap.size, ⟨#[45, 51]⟩, ⟨#[50]⟩)] → Below w.heap.size w u ∧ Bxs u [(w5.heap.size, ⟨#[45, 50]⟩, ⟨#[49]⟩), (w4.heap.size, ⟨#[53]⟩, ⟨#[54]⟩), (w3.heap.size, ⟨#[]⟩, ⟨#[]⟩), (w2.heap.size, ⟨#[48]⟩, ⟨#[49]⟩), (w1.heap.size, ⟨#[45, 51]⟩, ⟨#[50]⟩)] ∧ u.cell? ⟨w2.heap.size, 0, none⟩ = some (.string ⟨#[48]⟩) ∧ u.cell? ⟨w2.heap.size, 1, none⟩ = some (.string ⟨#[49]⟩)) := Lib.hid (fun u h1 h2 => ⟨h1, h2, (h2 (w2.heap.size, ⟨#[48]⟩, ⟨#[49]⟩) (by simp)).cell 0, (h2 (w2.heap.size, ⟨#[48]⟩, ⟨#[49]⟩) (by simp)).cell 1⟩)
    go_region_held3 (fun u => Below w.heap.size w u ∧ Bxs u [(w5.heap.size, ⟨#[45, 50]⟩, ⟨#[49]⟩), (w4.heap.size, ⟨#[53]⟩, ⟨#[54]⟩), (w3.heap.size, ⟨#[]⟩, ⟨#[]⟩), (w2.heap.size, ⟨#[48]⟩, ⟨#[49]⟩), (w1.heap.size, ⟨#[45, 51]⟩, ⟨#[50]⟩)] ∧ u.cell? ⟨w2.heap.size, 0, none⟩ = some (.string ⟨#[48]⟩) ∧ u.cell? ⟨w2.heap.size, 1, none⟩ = some (.string ⟨#[49]⟩)) (first | assumption | (exact mkS.out _ HBd.out HRd.out) | (exact mkS.out _ (below_to (‹Below w.heap.size w _ ∧ Bxs _ _ ∧ _ ∧ _›).1 b5) ((‹Below w.heap.size w _ ∧ Bxs _ _ ∧ _ ∧ _›).2.1.below b5)) | (exact mkS.out _ (below_to (‹Below w.heap.size w _ ∧ Bxs _ _ ∧ _ ∧ _›).1 (new_below _ _)) ((‹Below w.heap.size w _ ∧ Bxs _ _ ∧ _ ∧ _›).2.1.below (new_below _ _))) | (exact mkS.out _ (below_to HBv2.out (new_below _ _)) (HRv2.out.below (new_below _ _))) | (exact mkS.out _ (put_below HB.out HBv2.out) (HRv2.out.far HR.out)) | (exact mkS.out _ (put_below HBv1.out HBv2.out) (HRv2.out.far HRv1.out))) (first | (go_at_call 41; ((with_reducible refine Calls.mono (IS.out _ _ _ ?hu) ?_); (case hu => exact HT.out.next (‹Below w.heap.size w _ ∧ Bxs _ _ ∧ _ ∧ _›).1); rintro e v1 ⟨rfl, b5⟩); have bb1 := Lib.hid b5; have HBv1 := Lib.hid (below_to (‹Below w.heap.size w _ ∧ Bxs _ _ ∧ _ ∧ _›).1 b5); have HRv1 := Lib.hid ((‹Below w.heap.size w _ ∧ Bxs _ _ ∧ _ ∧ _›).2.1.below b5); (try (have hrb : Row v1 W6.heap.size 23 #[.string ⟨#[]⟩, .string ⟨#[]⟩] := new_row (u := W6.drew) b5; have RB0_1 := Lib.hid hrb; clear hrb))) | (go_at_call 45; ((with_reducible refine Calls.mono (DV2.out _ ?hu) ?_); (case hu => exact HT.out.next (‹Below w.heap.size w _ ∧ Bxs _ _ ∧ _ ∧ _›).1); rintro e v2 ⟨rfl, b5⟩); have bb2 := Lib.hid b5; have HBv2 := Lib.hid (below_to (‹Below w.heap.size w _ ∧ Bxs _ _ ∧ _ ∧ _›).1 b5); have HRv2 := Lib.hid ((‹Below w.heap.size w _ ∧ Bxs _ _ ∧ _ ∧ _›).2.1.below b5); (try (have hrb : Row v2 W6.heap.size 23 #[.string ⟨#[]⟩, .string ⟨#[]⟩] := RB0_1.out.below b5 RB0_1.out.lt; have RB0_2 := Lib.hid hrb; obtain ⟨z0, z1, z2, z3⟩ := rat_facts hrb; clear hrb)); (try (have hrb : Row v2 v1.heap.size 23 #[.string ⟨#[]⟩, .string ⟨#[]⟩] := new_row (u := v1) b5; have RB1_2 := Lib.hid hrb; obtain ⟨z0, z1, z2, z3⟩ := rat_facts hrb; clear hrb))))
    all_goals
      have HX := Lib.hid (‹Below w.heap.size w _ ∧ Bxs _ _ ∧ _ ∧ _›)
      go_wp2_with fail
      go_meet
      first | (exact ⟨_, rfl, rfl, Lib.hid (Bxs.put HX.out.2.1 (Row.new v2 _ _)), Lib.hid HX.out.1⟩) | (exact ⟨_, rfl, rfl, Lib.hid (Bxs.put HX.out.2.1 (rat_row RB0_2.out)), Lib.hid HX.out.1⟩) | (exact ⟨_, rfl, rfl, Lib.hid (Bxs.put HX.out.2.1 (rat_row RB1_2.out)), Lib.hid HX.out.1⟩)
  case rest =>
    obtain ⟨g6, rfl, rfl, HR6, HB6⟩ := hcut
    replace HR := HR6
    replace HB := HB6
    clear HR6 HB6
    go_wp2_with (first | (go_at_call 41; (with_reducible refine Calls.mono (IS.out _ _ _ (HT.out.next HB.out)) ?_); rintro e w9 ⟨rfl, hb⟩; replace HR := Lib.hid (HR.out.below hb); replace HB := Lib.hid (below_to HB.out hb); clear hb) | (go_at_call 23; (with_reducible refine Calls.mono (DN1.out _ (HT.out.next HB.out)) ?_); rintro e w11 ⟨rfl, hb⟩; replace HR := Lib.hid ((HR.out.below hb).cons ⟨#[45, 49, 55]⟩ ⟨#[53, 48]⟩); replace HB := Lib.hid (below_to (below_to HB.out hb) (new_below _ (.cells #[.string ⟨#[45, 49, 55]⟩, .string ⟨#[53, 48]⟩] 23))); clear hb) | (go_at_call 25; (with_reducible refine Calls.mono (UP1.out _ (HT.out.next HB.out)) ?_); rintro e w12 ⟨rfl, hb⟩; replace HR := Lib.hid ((HR.out.below hb).cons ⟨#[49, 55]⟩ ⟨#[53, 48]⟩); replace HB := Lib.hid (below_to (below_to HB.out hb) (new_below _ (.cells #[.string ⟨#[49, 55]⟩, .string ⟨#[53, 48]⟩] 23))); clear hb) | (go_at_call 34; (with_reducible refine Calls.mono (PA1.out _ (HT.out.next HB.out)) ?_); rintro e w13 ⟨rfl, hb⟩; replace HR := Lib.hid ((HR.out.below hb).cons ⟨#[45, 51]⟩ ⟨#[50]⟩); replace HB := Lib.hid (below_to (below_to HB.out hb) (new_below _ (.cells #[.string ⟨#[45, 51]⟩, .string ⟨#[50]⟩] 23))); clear hb) | (go_at_call 34; (with_reducible refine Calls.mono (PA2.out _ (HT.out.next HB.out)) ?_); rintro e w14 ⟨rfl, hb⟩; replace HR := Lib.hid ((HR.out.below hb).cons ⟨#[]⟩ ⟨#[]⟩); replace HB := Lib.hid (below_to (below_to HB.out hb) (new_below _ (.cells #[.string ⟨#[]⟩, .string ⟨#[]⟩] 23))); clear hb))
    obtain ⟨W12, hW12⟩ : ∃ W12, w14.alloc (.cells #[.string ⟨#[]⟩, .string ⟨#[]⟩] 23) = W12 := ⟨_, rfl⟩
    rw [hW12] at HR HB ⊢
    clear hW12
    have mkS : Hid (∀ u, Below w.heap.size w u → Bxs u [(w14.heap.size, ⟨#[]⟩, ⟨#[]⟩), (w13.heap.size, ⟨#[45, 51]⟩, ⟨#[50]⟩), (w12.heap.size, ⟨#[49, 55]⟩, ⟨#[53, 48]⟩), (w11.heap.size, ⟨#[45, 49, 55]⟩, ⟨#[53, 48]⟩), (g6, E1, E1), (w5.heap.size, ⟨#[45, 50]⟩, ⟨#[49]⟩), (w4.heap.size, ⟨#[53]⟩, ⟨#[54]⟩), (w3.heap.size, ⟨#[]⟩, ⟨#[]⟩), (w2.heap.size, ⟨#[48]⟩, ⟨#[49]⟩), (w1.heap.size, ⟨#[45, 51]⟩, ⟨#[50]⟩)] → Below w.heap.size w u ∧ Bxs u [(w14.heap.size, ⟨#[]⟩, ⟨#[]⟩), (w13.heap.size, ⟨#[45, 51]⟩, ⟨#[50]⟩), (w12.heap.size, ⟨#[49, 55]⟩, ⟨#[53, 48]⟩), (w11.heap.size, ⟨#[45, 49, 55]⟩, ⟨#[53, 48]⟩), (g6, E1, E1), (w5.heap.size, ⟨#[45, 50]⟩, ⟨#[49]⟩), (w4.heap.size, ⟨#[53]⟩, ⟨#[54]⟩), (w3.heap.size, ⟨#[]⟩, ⟨#[]⟩), (w2.heap.size, ⟨#[48]⟩, ⟨#[49]⟩), (w1.heap.size, ⟨#[45, 51]⟩, ⟨#[50]⟩)] ∧ u.cell? ⟨w1.heap.size, 0, none⟩ = some (.string ⟨#[45, 51]⟩) ∧ u.cell? ⟨w1.heap.size, 1, none⟩ = some (.string ⟨#[50]⟩) ∧ u.cell? ⟨w2.heap.size, 0, none⟩ = some (.string ⟨#[48]⟩) ∧ u.cell? ⟨w2.heap.size, 1, none⟩ = some (.string ⟨#[49]⟩) ∧ u.cell? ⟨w4.heap.size, 0, none⟩ = some (.string ⟨#[53]⟩) ∧ u.cell? ⟨w4.heap.size, 1, none⟩ = some (.string ⟨#[54]⟩) ∧ u.cell? ⟨w5.heap.size, 0, none⟩ = some (.string ⟨#[45, 50]⟩) ∧ u.cell? ⟨w5.heap.size, 1, none⟩ = some (.string ⟨#[49]⟩) ∧ u.cell? ⟨w11.heap.size, 0, none⟩ = some (.string ⟨#[45, 49, 55]⟩) ∧ u.cell? ⟨w11.heap.size, 1, none⟩ = some (.string ⟨#[53, 48]⟩) ∧ u.cell? ⟨w12.heap.size, 0, none⟩ = some (.string ⟨#[49, 55]⟩) ∧ u.cell? ⟨w12.heap.size, 1, none⟩ = some (.string ⟨#[53, 48]⟩) ∧ u.cell? ⟨w13.heap.size, 0, none⟩ = some (.string ⟨#[45, 51]⟩) ∧ u.cell? ⟨w13.heap.size, 1, none⟩ = some (.string ⟨#[50]⟩)) := Lib.hid (fun u h1 h2 => ⟨h1, h2, (h2 (w1.heap.size, ⟨#[45, 51]⟩, ⟨#[50]⟩) (by simp)).cell 0, (h2 (w1.heap.size, ⟨#[45, 51]⟩, ⟨#[50]⟩) (by simp)).cell 1, (h2 (w2.heap.size, ⟨#[48]⟩, ⟨#[49]⟩) (by simp)).cell 0, (h2 (w2.heap.size, ⟨#[48]⟩, ⟨#[49]⟩) (by simp)).cell 1, (h2 (w4.heap.size, ⟨#[53]⟩, ⟨#[54]⟩) (by simp)).cell 0, (h2 (w4.heap.size, ⟨#[53]⟩, ⟨#[54]⟩) (by simp)).cell 1, (h2 (w5.heap.size, ⟨#[45, 50]⟩, ⟨#[49]⟩) (by simp)).cell 0, (h2 (w5.heap.size, ⟨#[45, 50]⟩, ⟨#[49]⟩) (by simp)).cell 1, (h2 (w11.heap.size, ⟨#[45, 49, 55]⟩, ⟨#[53, 48]⟩) (by simp)).cell 0, (h2 (w11.heap.size, ⟨#[45, 49, 55]⟩, ⟨#[53, 48]⟩) (by simp)).cell 1, (h2 (w12.heap.size, ⟨#[49, 55]⟩, ⟨#[53, 48]⟩) (by simp)).cell 0, (h2 (w12.heap.size, ⟨#[49, 55]⟩, ⟨#[53, 48]⟩) (by simp)).cell 1, (h2 (w13.heap.size, ⟨#[45, 51]⟩, ⟨#[50]⟩) (by simp)).cell 0, (h2 (w13.heap.size, ⟨#[45, 51]⟩, ⟨#[50]⟩) (by simp)).cell 1⟩)
    go_region_held3 (fun u => Below w.heap.size w u ∧ Bxs u [(w14.heap.size, ⟨#[]⟩, ⟨#[]⟩), (w13.heap.size, ⟨#[45, 51]⟩, ⟨#[50]⟩), (w12.heap.size, ⟨#[49, 55]⟩, ⟨#[53, 48]⟩), (w11.heap.size, ⟨#[45, 49, 55]⟩, ⟨#[53, 48]⟩), (g6, E1, E1), (w5.heap.size, ⟨#[45, 50]⟩, ⟨#[49]⟩), (w4.heap.size, ⟨#[53]⟩, ⟨#[54]⟩), (w3.heap.size, ⟨#[]⟩, ⟨#[]⟩), (w2.heap.size, ⟨#[48]⟩, ⟨#[49]⟩), (w1.heap.size, ⟨#[45, 51]⟩, ⟨#[50]⟩)] ∧ u.cell? ⟨w1.heap.size, 0, none⟩ = some (.string ⟨#[45, 51]⟩) ∧ u.cell? ⟨w1.heap.size, 1, none⟩ = some (.string ⟨#[50]⟩) ∧ u.cell? ⟨w2.heap.size, 0, none⟩ = some (.string ⟨#[48]⟩) ∧ u.cell? ⟨w2.heap.size, 1, none⟩ = some (.string ⟨#[49]⟩) ∧ u.cell? ⟨w4.heap.size, 0, none⟩ = some (.string ⟨#[53]⟩) ∧ u.cell? ⟨w4.heap.size, 1, none⟩ = some (.string ⟨#[54]⟩) ∧ u.cell? ⟨w5.heap.size, 0, none⟩ = some (.string ⟨#[45, 50]⟩) ∧ u.cell? ⟨w5.heap.size, 1, none⟩ = some (.string ⟨#[49]⟩) ∧ u.cell? ⟨w11.heap.size, 0, none⟩ = some (.string ⟨#[45, 49, 55]⟩) ∧ u.cell? ⟨w11.heap.size, 1, none⟩ = some (.string ⟨#[53, 48]⟩) ∧ u.cell? ⟨w12.heap.size, 0, none⟩ = some (.string ⟨#[49, 55]⟩) ∧ u.cell? ⟨w12.heap.size, 1, none⟩ = some (.string ⟨#[53, 48]⟩) ∧ u.cell? ⟨w13.heap.size, 0, none⟩ = some (.string ⟨#[45, 51]⟩) ∧ u.cell? ⟨w13.heap.size, 1, none⟩ = some (.string ⟨#[50]⟩)) (first | assumption | (exact mkS.out _ HB.out.drew (fun x hx => (HR.out x hx).drew)) | (exact mkS.out _ (below_to (‹Below w.heap.size w _ ∧ Bxs _ _ ∧ _ ∧ _ ∧ _ ∧ _ ∧ _ ∧ _ ∧ _ ∧ _ ∧ _ ∧ _ ∧ _ ∧ _ ∧ _ ∧ _›).1 b5) ((‹Below w.heap.size w _ ∧ Bxs _ _ ∧ _ ∧ _ ∧ _ ∧ _ ∧ _ ∧ _ ∧ _ ∧ _ ∧ _ ∧ _ ∧ _ ∧ _ ∧ _ ∧ _›).2.1.below b5))) (first | (go_at_call 41; ((with_reducible refine Calls.mono (IS.out _ _ _ ?hu) ?_); (case hu => exact HT.out.next (‹Below w.heap.size w _ ∧ Bxs _ _ ∧ _ ∧ _ ∧ _ ∧ _ ∧ _ ∧ _ ∧ _ ∧ _ ∧ _ ∧ _ ∧ _ ∧ _ ∧ _ ∧ _›).1); rintro e v1 ⟨rfl, b5⟩)) | (go_at_call 33; ((with_reducible refine Calls.mono (PR1.out _ ?hu) ?_); (case hu => exact HT.out.next (‹Below w.heap.size w _ ∧ Bxs _ _ ∧ _ ∧ _ ∧ _ ∧ _ ∧ _ ∧ _ ∧ _ ∧ _ ∧ _ ∧ _ ∧ _ ∧ _ ∧ _ ∧ _›).1); rintro e v1 ⟨rfl, b5⟩)) | (go_at_call 20; ((with_reducible refine Calls.mono (CM1.out _ ?hu) ?_); (case hu => exact HT.out.next (‹Below w.heap.size w _ ∧ Bxs _ _ ∧ _ ∧ _ ∧ _ ∧ _ ∧ _ ∧ _ ∧ _ ∧ _ ∧ _ ∧ _ ∧ _ ∧ _ ∧ _ ∧ _›).1); rintro e v1 ⟨rfl, b5⟩)) | (go_at_call 29; ((with_reducible refine Calls.mono (VA1.out _ ?hu) ?_); (case hu => exact HT.out.next (‹Below w.heap.size w _ ∧ Bxs _ _ ∧ _ ∧ _ ∧ _ ∧ _ ∧ _ ∧ _ ∧ _ ∧ _ ∧ _ ∧ _ ∧ _ ∧ _ ∧ _ ∧ _›).1); rintro e v1 ⟨rfl, b5⟩)) | (go_at_call 29; ((with_reducible refine Calls.mono (VA2.out _ ?hu) ?_); (case hu => exact HT.out.next (‹Below w.heap.size w _ ∧ Bxs _ _ ∧ _ ∧ _ ∧ _ ∧ _ ∧ _ ∧ _ ∧ _ ∧ _ ∧ _ ∧ _ ∧ _ ∧ _ ∧ _ ∧ _›).1); rintro e v1 ⟨rfl, b5⟩)))
    all_goals
      have HX := Lib.hid (‹Below w.heap.size w _ ∧ Bxs _ _ ∧ _ ∧ _ ∧ _ ∧ _ ∧ _ ∧ _ ∧ _ ∧ _ ∧ _ ∧ _ ∧ _ ∧ _ ∧ _ ∧ _›)
      go_wp2
      go_ret
      exact ⟨rfl, HX.out.1⟩
end Go.Proofs.YtabkodpjhpjgnaaGreatDoor
