/- Plain mathematics of encoded items: one encoding is no beginning of another one. -/
import Derived.Test.YtnmhigjannihgaaId
import Derived.Test.YtnmhigjannihgaaWm
namespace Go.Proofs.Ytnmhigjannihgaa
open Wm

def encZ (n : Int) : List UInt8 := enc (foldZ n)
abbrev SmallZ (n : Int) : Prop := -100000 ≤ n ∧ n ≤ 100000
theorem fold_small {n : Int} (h : SmallZ n) : foldZ n < 9223372036854775808 := by
  have := fold_lt n (by have := h.1; omega) (by have := h.2; omega)
  omega
theorem enc_split {a b : Int} (ha : SmallZ a) (hb : SmallZ b) {x y : List UInt8} (h : encZ a ++ x = encZ b ++ y) : a = b ∧ x = y := by
  have h1 := dec_enc0 (foldZ a) x (fold_small ha)
  have h2 := dec_enc0 (foldZ b) y (fold_small hb)
  have e : dec 0 0 (enc (foldZ a) ++ x) = dec 0 0 (enc (foldZ b) ++ y) := congrArg (dec 0 0) h
  rw [h1, h2] at e
  have e1 : foldZ a = foldZ b := (Prod.mk.inj e).1
  have e2 : a = b := by rw [← unfold_fold a, ← unfold_fold b, e1]
  subst e2
  exact ⟨rfl, List.append_cancel_left h⟩
def numsE : List Int → List UInt8
  | [] => []
  | a :: l => encZ a ++ numsE l
theorem numsE_append : ∀ (a b : List Int), numsE (a ++ b) = numsE a ++ numsE b
  | [], _ => rfl
  | x :: a, b => by
    show encZ x ++ numsE (a ++ b) = encZ x ++ numsE a ++ numsE b
    rw [numsE_append a b, List.append_assoc]
theorem nums_split : ∀ {a b : List Int} {x y : List UInt8}, a.length = b.length → (∀ n ∈ a, SmallZ n) → (∀ n ∈ b, SmallZ n) → numsE a ++ x = numsE b ++ y → a = b ∧ x = y
  | [], [], _, _, _, _, _, h => ⟨rfl, h⟩
  | [], _ :: _, _, _, h, _, _, _ => by cases h
  | _ :: _, [], _, _, h, _, _, _ => by cases h
  | p :: a, q :: b, x, y, hl, ha, hb, h => by
    have h' : encZ p ++ (numsE a ++ x) = encZ q ++ (numsE b ++ y) := by
      have e1 : numsE (p :: a) ++ x = encZ p ++ (numsE a ++ x) := List.append_assoc _ _ _
      have e2 : numsE (q :: b) ++ y = encZ q ++ (numsE b ++ y) := List.append_assoc _ _ _
      rw [← e1, ← e2]; exact h
    obtain ⟨rfl, h2⟩ := enc_split (ha p (by simp)) (hb q (by simp)) h'
    obtain ⟨rfl, h3⟩ := nums_split (by simpa using hl) (fun n hn => ha n (by simp [hn])) (fun n hn => hb n (by simp [hn])) h2
    exact ⟨rfl, h3⟩
/-- A recording. -/
structure ItemP where
  id : Int
  kind : Int
  len : Int
  trims : List (Int × Int)
  talks : List (Int × Int)
  artist : Int
  tempo : Int
  lang : Int
deriving DecidableEq
def flatP (l : List (Int × Int)) : List Int := l.flatMap fun q => [q.1, q.2]
theorem flatP_len : ∀ (l : List (Int × Int)), (flatP l).length = 2 * l.length
  | [] => rfl
  | q :: l => by
    show (flatP l).length + 1 + 1 = _
    rw [flatP_len l]; simp; omega
theorem flatP_inj : ∀ {a b : List (Int × Int)}, flatP a = flatP b → a = b
  | [], [], _ => rfl
  | [], q :: b, h => by cases h
  | q :: a, [], h => by cases h
  | p :: a, q :: b, h => by
    have h' : p.1 :: p.2 :: flatP a = q.1 :: q.2 :: flatP b := h
    injection h' with h1 h2
    injection h2 with h2 h3
    rw [flatP_inj h3, Prod.ext h1 h2]
theorem flatP_small {len : Int} (hl : len ≤ 3600) : ∀ {l : List (Int × Int)} {e : Int}, 0 ≤ e → partsF len e l → ∀ n ∈ flatP l, SmallZ n
  | [], _, _, _, n, h => by cases h
  | q :: l, e, he, h, n, hn => by
    obtain ⟨h1, h2, h3, h4⟩ := h
    have hn' : n ∈ q.1 :: q.2 :: flatP l := hn
    rcases List.mem_cons.1 hn' with rfl | hn'
    · exact ⟨by omega, by omega⟩
    · rcases List.mem_cons.1 hn' with rfl | hn'
      · exact ⟨by omega, by omega⟩
      · exact flatP_small hl (by omega) h4 n hn'
def itemNums (i : ItemP) : List Int := [i.id, i.kind, i.len, i.artist, i.tempo, i.lang, (i.trims.length : Int)] ++ flatP i.trims ++ ((i.talks.length : Int) :: flatP i.talks)
/-- Is an item valid? -/
structure OkItem (i : ItemP) : Prop where
  id : 0 ≤ i.id ∧ i.id < 200
  kind : 1 ≤ i.kind ∧ i.kind ≤ 5
  len : 1 ≤ i.len ∧ i.len ≤ 3600
  n1 : i.trims.length ≤ 4
  p1 : partsF i.len 0 i.trims
  n2 : i.talks.length ≤ 4
  p2 : partsF i.len 0 i.talks
  left : 0 < bef i.len i.trims
  song : i.kind = 1 → 0 ≤ i.artist ∧ i.artist ≤ 99 ∧ 1 ≤ i.tempo ∧ i.tempo ≤ 5 ∧ 1 ≤ i.lang ∧ i.lang ≤ 4
  other : i.kind ≠ 1 → i.artist = 0 ∧ i.tempo = 0 ∧ i.lang = 0
theorem OkItem.small {i : ItemP} (h : OkItem i) : SmallZ i.artist ∧ SmallZ i.tempo ∧ SmallZ i.lang := by
  by_cases k : i.kind = 1
  · have := h.song k; unfold SmallZ; omega
  · have := h.other k; unfold SmallZ; omega
theorem OkItem.head {i : ItemP} (h : OkItem i) : ∀ n ∈ [i.id, i.kind, i.len, i.artist, i.tempo, i.lang, (i.trims.length : Int)], SmallZ n := by
  intro n hn
  have h1 := h.id; have h2 := h.kind; have h3 := h.len; have h4 := h.n1; have h5 := h.small
  simp only [List.mem_cons, List.not_mem_nil, or_false] at hn
  rcases hn with rfl | rfl | rfl | rfl | rfl | rfl | rfl
  · exact ⟨by omega, by omega⟩
  · exact ⟨by omega, by omega⟩
  · exact ⟨by omega, by omega⟩
  · exact h5.1
  · exact h5.2.1
  · exact h5.2.2
  · exact ⟨by omega, by omega⟩
/-- Two items, the encoding of one of which begins that of the other, are equal. -/
theorem item_prefix {i k : ItemP} (hi : OkItem i) (hk : OkItem k) {x y : List UInt8} (h : numsE (itemNums i) ++ x = numsE (itemNums k) ++ y) : i = k ∧ x = y := by
  unfold itemNums at h
  rw [numsE_append, numsE_append, numsE_append, numsE_append, List.append_assoc, List.append_assoc, List.append_assoc, List.append_assoc] at h
  obtain ⟨e1, h⟩ := nums_split (by rfl) hi.head hk.head h
  injection e1 with a1 e1; injection e1 with a2 e1; injection e1 with a3 e1; injection e1 with a4 e1; injection e1 with a5 e1; injection e1 with a6 e1; injection e1 with a7 e1
  have n1 : i.trims.length = k.trims.length := by omega
  obtain ⟨e2, h⟩ := nums_split (by rw [flatP_len, flatP_len, n1]) (flatP_small hi.len.2 (Int.le_refl _) hi.p1) (flatP_small hk.len.2 (Int.le_refl _) hk.p1) h
  have h' : encZ (i.talks.length : Int) ++ (numsE (flatP i.talks) ++ x) = encZ (k.talks.length : Int) ++ (numsE (flatP k.talks) ++ y) := by
    have e1 : numsE ((i.talks.length : Int) :: flatP i.talks) ++ x = _ := List.append_assoc _ _ _
    have e2 : numsE ((k.talks.length : Int) :: flatP k.talks) ++ y = _ := List.append_assoc _ _ _
    exact e1.symm.trans (h.trans e2)
  obtain ⟨e3, h⟩ := enc_split ⟨by omega, by have := hi.n2; omega⟩ ⟨by omega, by have := hk.n2; omega⟩ h'
  have n2 : i.talks.length = k.talks.length := by omega
  obtain ⟨e4, h9⟩ := nums_split (by rw [flatP_len, flatP_len, n2]) (flatP_small hi.len.2 (Int.le_refl _) hi.p2) (flatP_small hk.len.2 (Int.le_refl _) hk.p2) h
  have t1 := flatP_inj e2
  have t2 := flatP_inj e4
  obtain ⟨i1, i2, i3, i4, i5, i6, i7, i8⟩ := i
  obtain ⟨k1, k2, k3, k4, k5, k6, k7, k8⟩ := k
  dsimp only at a1 a2 a3 a4 a5 a6 t1 t2
  subst a1 a2 a3 a4 a5 a6 t1 t2
  exact ⟨rfl, h9⟩
end Go.Proofs.Ytnmhigjannihgaa
