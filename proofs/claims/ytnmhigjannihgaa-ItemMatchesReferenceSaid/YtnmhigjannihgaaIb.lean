/- Plain mathematics of talk: spells that are put together. -/
import Derived.Test.YtnmhigjannihgaaIa
namespace Go.Proofs.Ytnmhigjannihgaa

def extL (out : List (Int × Int)) (q : Int × Int) : List (Int × Int) :=
  if q.1 = q.2 then out else match out.getLast? with
    | some p => if p.2 = q.1 then out.dropLast ++ [(p.1, q.2)] else out ++ [q]
    | none => out ++ [q]
theorem extL_none {out : List (Int × Int)} {q : Int × Int} (h : q.1 = q.2) : extL out q = out := if_pos h
theorem extL_nil {q : Int × Int} (h : q.1 ≠ q.2) : extL [] q = [q] := if_neg h
theorem extL_join {o : List (Int × Int)} {p q : Int × Int} (h : q.1 ≠ q.2) (h2 : p.2 = q.1) : extL (o ++ [p]) q = o ++ [(p.1, q.2)] := by
  unfold extL
  rw [if_neg h, List.getLast?_concat, List.dropLast_concat]
  simp [h2]
theorem extL_push {o : List (Int × Int)} {p q : Int × Int} (h : q.1 ≠ q.2) (h2 : p.2 ≠ q.1) : extL (o ++ [p]) q = o ++ [p] ++ [q] := by
  unfold extL
  rw [if_neg h, List.getLast?_concat]
  simp [h2]
theorem last_of (out : List (Int × Int)) : out = [] ∨ ∃ o p, out = o ++ [p] := by
  rcases List.eq_nil_or_concat out with h | ⟨o, p, h⟩
  · exact .inl h
  · exact .inr ⟨o, p, by simpa using h⟩
theorem tot_append : ∀ (a b : List (Int × Int)), tot (a ++ b) = tot a + tot b
  | [], b => by simp [tot]
  | q :: a, b => by
    show (q.2 - q.1) + tot (a ++ b) = _
    rw [tot_append a b]; simp only [tot]; omega
theorem inP_append (a b : List (Int × Int)) (s : Int) : inP (a ++ b) s = (inP a s || inP b s) := by
  unfold inP; rw [List.any_append]
theorem inP_one (q : Int × Int) (s : Int) : inP [q] s = (decide (q.1 ≤ s) && decide (s < q.2)) := by
  rw [inP_cons]; exact Bool.or_false _
/-- Spells that ascend and do not touch each other, none of which begins before 0 or ends behind m. -/
structure TI (out : List (Int × Int)) (m : Int) : Prop where
  p : out.Pairwise fun a b => a.2 < b.1
  a : ∀ q ∈ out, 0 ≤ q.1 ∧ q.1 < q.2 ∧ q.2 ≤ m
theorem TI.nil (m : Int) : TI [] m := ⟨List.Pairwise.nil, fun q h => by cases h⟩
theorem TI.more {out : List (Int × Int)} {m n : Int} (h : TI out m) (hm : m ≤ n) : TI out n := ⟨h.p, fun q hq => by have := h.a q hq; exact ⟨this.1, this.2.1, by omega⟩⟩
theorem ext_inv {out : List (Int × Int)} {m : Int} {q : Int × Int} (h : TI out m) (hm : 0 ≤ m) (h1 : m ≤ q.1) (h2 : q.1 ≤ q.2) :
    TI (extL out q) q.2 ∧ (∀ s, inP (extL out q) s = (inP out s || (decide (q.1 ≤ s) && decide (s < q.2)))) ∧ tot (extL out q) = tot out + (q.2 - q.1) := by
  by_cases e : q.1 = q.2
  · rw [extL_none e]
    refine ⟨h.more (by omega), fun s => ?_, by omega⟩
    have : (decide (q.1 ≤ s) && decide (s < q.2)) = false := by
      by_cases c : q.1 ≤ s
      · rw [decide_eq_false (show ¬ s < q.2 by omega)]; simp
      · rw [decide_eq_false c]; rfl
    rw [this, Bool.or_false]
  · rcases last_of out with rfl | ⟨o, p, rfl⟩
    · rw [extL_nil e]
      refine ⟨⟨List.pairwise_singleton _ _, fun r hr => ?_⟩, fun s => ?_, by simp [tot]⟩
      · rw [List.mem_singleton.1 hr]; omega
      · rw [inP_one]; rfl
    · obtain ⟨pp, pa⟩ := h
      obtain ⟨p1, -, p3⟩ := List.pairwise_append.1 pp
      have hp := pa p (by simp)
      by_cases j : p.2 = q.1
      · rw [extL_join e j]
        refine ⟨⟨List.pairwise_append.2 ⟨p1, List.pairwise_singleton _ _, fun a ha b hb => ?_⟩, fun r hr => ?_⟩, fun s => ?_, ?_⟩
        · rw [List.mem_singleton.1 hb]
          exact p3 a ha p (by simp)
        · rcases List.mem_append.1 hr with hr | hr
          · have := pa r (by simp [hr]); omega
          · rw [List.mem_singleton.1 hr]; dsimp only; omega
        · rw [inP_append, inP_append, inP_one, inP_one, Bool.or_assoc]
          congr 1
          dsimp only
          by_cases c1 : p.1 ≤ s
          · by_cases c2 : s < p.2
            · rw [decide_eq_true c1, decide_eq_true c2, decide_eq_true (show s < q.2 by omega)]; simp
            · rw [decide_eq_true c1, decide_eq_false c2, decide_eq_true (show q.1 ≤ s by omega)]; simp
          · rw [decide_eq_false c1, decide_eq_false (show ¬ q.1 ≤ s by omega)]; simp
        · rw [tot_append, tot_append]; simp only [tot]; omega
      · rw [extL_push e j]
        refine ⟨⟨List.pairwise_append.2 ⟨pp, List.pairwise_singleton _ _, fun a ha b hb => ?_⟩, fun r hr => ?_⟩, fun s => ?_, ?_⟩
        · rw [List.mem_singleton.1 hb]
          have h3 := pa a ha
          rcases List.mem_append.1 ha with h4 | h4
          · have := p3 a h4 p (by simp); omega
          · rw [List.mem_singleton.1 h4]; omega
        · rcases List.mem_append.1 hr with hr | hr
          · have := pa r hr; omega
          · rw [List.mem_singleton.1 hr]; omega
        · rw [inP_append _ [q], inP_one]
        · rw [tot_append _ [q]]; simp only [tot]; omega
/-- The talks of the shortened recording. -/
def tkS (gone : List (Int × Int)) (out : List (Int × Int)) (q : Int × Int) : List (Int × Int) := extL out (bef q.1 gone, bef q.2 gone)
def talkL (gone talks : List (Int × Int)) : List (Int × Int) := talks.foldl (tkS gone) []
/-- The seconds of talk. -/
def tks (gone : List (Int × Int)) : List (Int × Int) → Int
  | [] => 0
  | q :: l => (bef q.2 gone - bef q.1 gone) + tks gone l
theorem talk_from {len g : Int} {gone : List (Int × Int)} (hg : partsF len g gone) : ∀ (talks out : List (Int × Int)) (e m : Int), partsF len e talks → TI out m → 0 ≤ m → m ≤ bef e gone →
    TI (talks.foldl (tkS gone) out) (bef len gone) ∧ (∀ s, inP (talks.foldl (tkS gone) out) s = (inP out s || talks.any fun q => decide (bef q.1 gone ≤ s) && decide (s < bef q.2 gone))) ∧ tot (talks.foldl (tkS gone) out) = tot out + tks gone talks ∨ (talks = [] ∧ True)
  | [], out, e, m, _, h, _, _ => .inr ⟨rfl, trivial⟩
  | q :: talks, out, e, m, hp, h, h0, hm => by
    obtain ⟨h1, h2, h3, h4⟩ := hp
    have b1 := bef_le hg h1
    have b2 := bef_le hg (Int.le_of_lt h2)
    obtain ⟨i1, i2, i3⟩ := ext_inv h h0 (q := (bef q.1 gone, bef q.2 gone)) (by dsimp only; omega) b2
    show TI (talks.foldl (tkS gone) (tkS gone out q)) _ ∧ _ ∧ _ ∨ _
    rcases talk_from hg talks (tkS gone out q) q.2 (bef q.2 gone) h4 i1 (by omega) (Int.le_refl _) with ⟨j1, j2, j3⟩ | ⟨rfl, -⟩
    · refine .inl ⟨j1, fun s => ?_, ?_⟩
      · show inP (talks.foldl (tkS gone) (tkS gone out q)) s = _
        rw [j2, show inP (tkS gone out q) s = _ from i2 s, Bool.or_assoc]; rfl
      · show tot (talks.foldl (tkS gone) (tkS gone out q)) = _
        rw [j3, show tot (tkS gone out q) = _ from i3]; simp only [tks]; omega
    · refine .inl ⟨i1.more (bef_le hg h3), fun s => ?_, ?_⟩
      · show inP (tkS gone out q) s = _
        rw [show inP (tkS gone out q) s = _ from i2 s]
        simp
      · show tot (tkS gone out q) = _
        rw [show tot (tkS gone out q) = _ from i3]; simp only [tks]; omega
theorem talk_all {len g : Int} {gone talks : List (Int × Int)} (hg : partsF len g gone) (hz : 0 ≤ g) (ht : partsF len 0 talks) :
    TI (talkL gone talks) (bef len gone) ∧ (∀ s, inP (talkL gone talks) s = talks.any fun q => decide (bef q.1 gone ≤ s) && decide (s < bef q.2 gone)) ∧ tot (talkL gone talks) = tks gone talks := by
  have hb := bef_zero hg hz
  rcases talk_from hg talks [] 0 0 ht (TI.nil 0) (Int.le_refl _) (by omega) with ⟨a, b, c⟩ | ⟨rfl, -⟩
  · exact ⟨a, fun s => (b s).trans rfl, c.trans (by simp [tot])⟩
  · exact ⟨TI.nil _, fun s => rfl, rfl⟩
theorem any_same {α : Type} (f g : α → Bool) : ∀ (l : List α), (∀ q ∈ l, f q = g q) → l.any f = l.any g
  | [], _ => rfl
  | q :: l, h => by
    rw [List.any_cons, List.any_cons, h q (by simp), any_same f g l (fun r hr => h r (by simp [hr]))]
/-- A second of the shortened recording is one of talk exactly if its place is. -/
theorem talk_place {len g : Int} {gone talks : List (Int × Int)} (hg : partsF len g gone) (hz : 0 ≤ g) (ht : partsF len 0 talks) {x : Int} (hx : g ≤ x) : inP (talkL gone talks) x = inP talks (pl gone x) := by
  rw [(talk_all hg hz ht).2.1]
  obtain ⟨h1, h2, h3, h4⟩ := pl_bef hg hx
  unfold inP
  refine any_same _ _ _ (fun q _ => ?_)
  have k1 : bef q.1 gone ≤ x ↔ q.1 ≤ pl gone x := by
    constructor
    · intro h
      by_cases c : q.1 ≤ pl gone x
      · exact c
      · have := bef_le hg (show pl gone x + 1 ≤ q.1 by omega); omega
    · intro h
      have := bef_le hg h; omega
  have k2 : x < bef q.2 gone ↔ pl gone x < q.2 := by
    constructor
    · intro h
      by_cases c : pl gone x < q.2
      · exact c
      · have := bef_le hg (show q.2 ≤ pl gone x by omega); omega
    · intro h
      have := bef_le hg (show pl gone x + 1 ≤ q.2 by omega); omega
  rw [decide_eq_decide.2 k1, decide_eq_decide.2 k2]
end Go.Proofs.Ytnmhigjannihgaa
