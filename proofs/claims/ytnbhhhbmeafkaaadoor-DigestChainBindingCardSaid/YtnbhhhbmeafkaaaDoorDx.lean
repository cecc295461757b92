/- Contract of Reverse of an own row of strings. -/
import Derived.Test.YtnbhhhbmeafkaaaDoorDv
import Derived.Test.YtnbhhhbmeafkaaaDoorShelf
namespace Go.Proofs.YtnbhhhbmeafkaaaDoor
open Go.RowKit Go.Shelf

def strCells (l : List (List UInt8)) : List Value := l.map strOf
theorem strCells_len (l : List (List UInt8)) : (strCells l).length = l.length := by simp [strCells]
theorem row_setCells {g : Nat} {t : TypeId} : ∀ (vs old A R : List Value) (W : World), old.length = vs.length → Row W g t (A ++ (old ++ R)).toArray → Row (W.setCells g A.length vs) g t (A ++ (vs ++ R)).toArray
  | [], old, A, R, W, h, hr => by
    have : old = [] := List.eq_nil_of_length_eq_zero (by simpa using h)
    subst this; exact hr
  | v :: vs, [], A, R, W, h, hr => by simp at h
  | v :: vs, x :: old, A, R, W, h, hr => by
    have h1 := hr.put A.length v
    have e1 : (A ++ (x :: old ++ R)).toArray.setIfInBounds A.length v = ((A ++ [v]) ++ (old ++ R)).toArray := by
      simp
    rw [e1] at h1
    have h2 := row_setCells vs old (A ++ [v]) R (W.setCell ⟨g, A.length, none⟩ v) (by simpa using h) h1
    rw [List.length_append, List.length_singleton] at h2
    have e2 : (A ++ [v]) ++ (vs ++ R) = A ++ (v :: vs ++ R) := by simp
    rw [e2] at h2
    exact h2
theorem keepsCells {g : Nat} : ∀ (vs : List Value) (o : Nat) (W : World), Keeps (fun k => k = g) W (W.setCells g o vs)
  | [], _, W => Keeps.refl _ W
  | v :: vs, o, _ => (Keeps.setCell (no := fun k => k = g) (p := ⟨g, o, none⟩) rfl v).trans (keepsCells vs (o + 1) _)

theorem rvS_own (ss : List (List UInt8)) (v : Value) (base : Nat) (hn : ss.length ≤ 1000) (w : World) (h : w.ownsRow base 9 1 v ss.length (strCells ss)) :
    Calls Tryd.prog 45 #[v] w fun e w' =>
      e = .returned (.tuple #[]) ∧ w'.ownsRow base 9 1 v ss.length (strCells ss.reverse) ∧ Keeps (fun k => v.ownBlock = some k) w w' := by
  rcases h.2 with ⟨rfl, h0⟩ | ⟨g, cap, cur, rfl, hb, hg, h1, h2, h3, h4⟩
  · have hss : ss = [] := List.eq_nil_of_length_eq_zero h0
    subst hss
    refine (Tryd.slices_Reverse_string_empty none 0 w).mono fun e w' ⟨he, hw⟩ => ?_
    subst hw
    exact ⟨he, h, Keeps.refl _ _⟩
  · rw [Nat.mul_one] at h3 h4
    have hcur : cur = (([] : List Value) ++ (strCells ss ++ cur.toList.drop ss.length)).toArray := by
      rw [← h4]; simp
    have hr : Row w g 9 (([] : List Value) ++ (strCells ss ++ cur.toList.drop ss.length)).toArray := by rw [← hcur]; exact hg
    have hcell : ∀ i, i < ss.length → w.cell? ⟨g, 0 + i, none⟩ = some (.string ((fun i => (⟨(ss.getD i []).toArray⟩ : ByteArray)) i)) := by
      intro i hi
      rw [Nat.zero_add, hr.cell i]
      simp [strCells, List.getElem?_append, hi, bs, List.getD]
    refine (Tryd.slices_Reverse_string_cells g 0 ss.length cap (fun i => ⟨(ss.getD i []).toArray⟩) w (by omega) hcell (fun j _ => by rw [Nat.zero_add]; exact hr.free j)).mono ?_
    rintro e w' ⟨he, q, hw⟩
    have e1 : (Lib.strsOf (fun i => (⟨(ss.getD i []).toArray⟩ : ByteArray)) ss.length).reverse.map encStr = strCells ss.reverse := by
      have : Lib.strsOf (fun i => (⟨(ss.getD i []).toArray⟩ : ByteArray)) ss.length = ss := by
        unfold Lib.strsOf
        refine List.ext_getElem (by simp) fun i h5 h6 => ?_
        simp [List.getD, h6]
      rw [this]; rfl
    rw [e1] at hw
    subst hw
    have hrow := row_setCells (strCells ss.reverse) (strCells ss) [] (cur.toList.drop ss.length) (w.drewN q) (by simp [strCells]) hr
    have hk : Keeps (fun k => k = g) w ((w.drewN q).setCells g 0 (strCells ss.reverse)) :=
      (⟨rfl, rfl, rfl, Nat.le_refl _, fun _ _ _ => rfl⟩ : Keeps (fun k => k = g) w (w.drewN q)).trans (keepsCells _ 0 _)
    refine ⟨he, ⟨by simp [strCells], .inr ⟨g, cap, _, rfl, hb, hrow, h1, h2, ?_, ?_⟩⟩, ⟨hk.os, hk.tape, hk.output, hk.size, fun k hk2 hn2 => hk.block k hk2 (fun e => hn2 (by rw [e]; rfl))⟩⟩
    · simp [strCells]; omega
    · rw [Nat.mul_one, List.nil_append, List.take_append_of_le_length (by simp [strCells]), List.take_of_length_le (by simp [strCells])]
end Go.Proofs.YtnbhhhbmeafkaaaDoor
