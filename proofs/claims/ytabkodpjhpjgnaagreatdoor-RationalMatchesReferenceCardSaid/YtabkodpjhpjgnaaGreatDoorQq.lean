/- Parse at texts; order, and Compare. -/
import Derived.Test.YtabkodpjhpjgnaaGreatDoorQp
import Derived.WalkMore
import Derived.ScopeJumps
namespace Go.Proofs.YtabkodpjhpjgnaaGreatDoor
open Go.RowKit Go.Shelf

theorem no47_digs (l : List UInt8) (h : Im.digs l = true) : (47 : UInt8) ∉ l := by
  induction l with
  | nil => simp
  | cons c l ih =>
    have hc : Im.digs (c :: l) = ((decide (48 ≤ c.toNat) && decide (c.toNat ≤ 57)) && Im.digs l) := rfl
    rw [hc, Bool.and_eq_true, Bool.and_eq_true, decide_eq_true_eq] at h
    rw [List.mem_cons, not_or]
    refine ⟨?_, ih h.2⟩
    rintro rfl
    exact absurd h.1.1 (by decide)
theorem no47 (z : Int) : (47 : UInt8) ∉ Lib.itoa z := by
  have hd := no47_digs _ (Im.dd_digs z.natAbs)
  by_cases h : z < 0
  · rw [neg_itoa h, List.mem_cons, not_or]; exact ⟨by decide, hd⟩
  · rw [pos_itoa h]; exact hd
theorem of_int_num (a : Int) : (Rat.divInt a 1).num = a ∧ (((Rat.divInt a 1).den : Nat) : Int) = 1 := by
  have h1 : Rat.divInt a 1 = (a : Rat) := by
    rw [show (1 : Int) = ((1 : Nat) : Int) from rfl, Rat.divInt_ofNat]
    exact Rat.mkRat_self (a : Rat)
  rw [h1]; exact ⟨rfl, rfl⟩

theorem parse_q (q : Rat) (hq : okq q = true) (w : World) (ht : TabP w) : Calls Tryz.prog 34 #[strOf (qtxt q)] w (BuildP true (qv q) w) := by
  obtain ⟨q1, q2⟩ := okq_iff.1 hq
  have hp : CallT 33 #[rvB (bs (Lib.itoa q.num)) (bs (Lib.itoa ((q.den : Nat) : Int)))] (.string (bs (qtxt q))) := print_q q hq
  have hm : CallT 27 #[strOf (Lib.itoa q.num), strOf (Lib.itoa ((q.den : Nat) : Int))] (.tuple #[rvB (bs (Lib.itoa q.num)) (bs (Lib.itoa ((q.den : Nat) : Int))), .int .i64 0]) := fun u hu => by
    have := make_q q.num ((q.den : Nat) : Int) q1 q2 (Qm.den_ne q) u hu
    rw [Rat.num_divInt_den] at this
    refine this.mono ?_
    rintro e w' ⟨s, t, er, rfl, (⟨-, h1, rfl⟩ | ⟨h1, -⟩), hb⟩
    · rw [h1]; exact ⟨rfl, hb⟩
    · cases h1
  by_cases hd : q.den = 1
  · have e : qtxt q = Lib.itoa q.num := if_pos hd
    have e1 : (⟨#[49]⟩ : ByteArray) = bs (Lib.itoa ((q.den : Nat) : Int)) := by rw [hd, show Lib.itoa ((1 : Nat) : Int) = [49] from by decide +kernel]; rfl
    exact parse_walk false true true (bs (qtxt q)) (bs (Lib.itoa q.num)) ⟨#[]⟩ _ _ (bs (qtxt q)) 0 w ht (fun u _ => by rw [e]; exact cut_no _ _ (no47 _) u)
      (by rw [if_neg (by decide), e1]; exact hm) rfl (fun _ => hp) (by simp)
  · have e : qtxt q = Lib.itoa q.num ++ 47 :: Lib.itoa ((q.den : Nat) : Int) := if_neg hd
    exact parse_walk true true true (bs (qtxt q)) (bs (Lib.itoa q.num)) (bs (Lib.itoa ((q.den : Nat) : Int))) _ _ (bs (qtxt q)) 0 w ht (fun u _ => by rw [e]; exact cut_yes _ _ _ (no47 _) (by have := itoa_len q1; have := itoa_len q2; omega) u)
      (by rw [if_pos rfl]; exact hm) rfl (fun _ => hp) (by simp)
theorem parse_no (l : List UInt8) (hl : l.length ≤ 1000000) (h : ∀ q : Rat, okq q = true → l ≠ qtxt q) (y : Rat) (w : World) (ht : TabP w) : Calls Tryz.prog 34 #[strOf l] w (BuildP false (qv y) w) := by
  have weak : ∀ (f g : Bool) (Y : Value), (f && g) = false → ∀ e w', BuildP (f && g) Y w e w' → BuildP false (qv y) w e w' := by
    intro f g Y hfg e w' h
    rw [hfg] at h
    obtain ⟨s, t, er, h1, (⟨h2, -⟩ | h2), h3⟩ := h
    · cases h2
    · exact ⟨s, t, er, h1, .inr h2, h3⟩
  have bad : ∀ (N E : List UInt8), ((Im.vld N && Im.vld E) = false ∨ E = Lib.itoa 0) → CallT 27 #[strOf N, strOf E] (.tuple #[rvB ⟨#[]⟩ ⟨#[]⟩, .int .i64 40]) := fun N E hb u hu => by
    refine (make_no N E hb y u hu).mono ?_
    rintro e w' ⟨s, t, er, rfl, (⟨h1, -⟩ | ⟨-, rfl, rfl, rfl⟩), hb⟩
    · cases h1
    · exact ⟨rfl, hb⟩
  have good : ∀ (a b : Int), okz a = true → okz b = true → b ≠ 0 → CallT 27 #[strOf (Lib.itoa a), strOf (Lib.itoa b)] (.tuple #[qv (Rat.divInt a b), .int .i64 0]) := fun a b ha hb h0 u hu => by
    refine (make_q a b ha hb h0 u hu).mono ?_
    rintro e w' ⟨s, t, er, rfl, (⟨-, h1, rfl⟩ | ⟨h1, -⟩), hb⟩
    · rw [h1]; exact ⟨rfl, hb⟩
    · cases h1
  have one : (⟨#[49]⟩ : ByteArray) = bs [49] := rfl
  rcases cut_ways 47 l with hn | ⟨A, B, hn, rfl⟩
  · refine (parse_walk false false _ (bs l) (bs l) ⟨#[]⟩ ⟨#[]⟩ ⟨#[]⟩ ⟨#[]⟩ 40 w ht (fun u _ => cut_no _ _ hn u) ?_ rfl (fun h => by cases h) rfl).mono (weak _ _ _ rfl)
    · rw [if_neg (by decide), one]
      refine bad l [49] (.inl ?_)
      by_cases hv : Im.vld l = true
      · obtain ⟨a, rfl, ha⟩ := Im.vld_of l hv
        exfalso
        obtain ⟨e1, e2⟩ := of_int_num a
        refine h (Rat.divInt a 1) (okq_iff.2 ⟨by rw [e1]; exact decide_eq_true ha, by rw [e2]; exact ok1⟩) ?_
        unfold qtxt
        rw [if_pos (by omega), e1]
      · have : Im.vld l = false := by simpa using hv
        rw [this]; rfl
  · rw [List.length_append, List.length_cons] at hl
    have cut := fun u (_ : TabP u) => cut_yes A B 47 hn (by omega) u
    by_cases hv : (Im.vld A && Im.vld B) = false ∨ B = Lib.itoa 0
    · refine (parse_walk true false _ (bs (A ++ 47 :: B)) (bs A) (bs B) ⟨#[]⟩ ⟨#[]⟩ ⟨#[]⟩ 40 w ht cut ?_ rfl (fun h => by cases h) rfl).mono (weak _ _ _ rfl)
      rw [if_pos rfl]
      exact bad A B hv
    · rw [not_or] at hv
      rcases split2 A B with hb | ⟨a, b, rfl, rfl, ha, hb⟩
      · exact absurd hb hv.1
      · have h0 : b ≠ 0 := fun e => hv.2 (by rw [e])
        have hq := red_ok ha hb h0
        have hne := h _ hq
        have hg : ((bs (qtxt (Rat.divInt a b))).toList == (bs (Lib.itoa a ++ 47 :: Lib.itoa b)).toList) = false := by
          rw [bs_eqb, beq_eq_false_iff_ne]; exact Ne.symm hne
        refine (parse_walk true true false (bs (Lib.itoa a ++ 47 :: Lib.itoa b)) (bs (Lib.itoa a)) (bs (Lib.itoa b)) _ _ _ 0 w ht cut ?_ rfl (fun _ => print_q _ hq) hg).mono (weak _ _ _ rfl)
        rw [if_pos rfl]
        exact good a b ha hb h0
end Go.Proofs.YtabkodpjhpjgnaaGreatDoor
