/- Plain mathematics of layer 2: the extension of every beginning is accepted, and is short. -/
import Derived.Test.YtnbhhhbmeafkaaaDoorDx2
import Derived.Test.YtnbhhhbmeafkaaaDoorM1
namespace Go.Proofs.YtnbhhhbmeafkaaaDoor

def fromAt (a : Nat) (fs : List Dm.Fk) : Nat := fs.foldl (fun a f => if f.sec then f.mid else a) a
theorem upto_cons (m : Nat) (f : Dm.Fk) (fs : List Dm.Fk) : upto m (f :: fs) = if f.to = m then [] else f :: upto m fs := by
  unfold upto
  rw [List.takeWhile_cons]
  by_cases h : f.to = m
  · rw [if_pos h, if_neg (by simpa using h)]
  · rw [if_neg h, if_pos (by simpa using h)]
/-- What the digests of an extension lead to. -/
structure ExtOk (l : List (List UInt8)) (m fr to : Nat) (F : List Dm.Fk) : Prop where
  lo : fr ≤ fromAt fr F
  hi : fromAt fr F < m
  new : F.foldr (fun f v => f.join v (Dm.root (f.other l))) (Dm.root ((l.drop (fromAt fr F)).take (m - fromAt fr F))) = Dm.root ((l.drop fr).take (to - fr))
  old : F.foldr (fun f v => if f.sec then f.join v (Dm.root (f.other l)) else v) (Dm.root ((l.drop (fromAt fr F)).take (m - fromAt fr F))) = Dm.root ((l.drop fr).take (m - fr))
theorem ext_none (l : List (List UInt8)) (fr to : Nat) (h : fr < to) : ExtOk l to fr to [] := ⟨Nat.le_refl _, h, rfl, rfl⟩
theorem ext_fold (l : List (List UInt8)) (m : Nat) : ∀ (k fr to : Nat), to - fr ≤ 2 ^ k → fr < m → m ≤ to → to ≤ l.length → ExtOk l m fr to (upto m (Dm.forks k fr to (m - 1)))
  | 0, fr, to, h, h1, h2, h3 => by
    have h4 : to - fr ≤ 1 := by simpa using h
    obtain rfl : m = to := by omega
    exact ext_none l fr m h1
  | k + 1, fr, to, h, h1, h2, h3 => by
    unfold Dm.forks
    by_cases h4 : to - fr ≤ 1
    · obtain rfl : m = to := by omega
      rw [if_pos h4]
      exact ext_none l fr m h1
    rw [if_neg h4, upto_cons]
    by_cases h5 : to = m
    · rw [if_pos h5]; subst h5; exact ext_none l fr to h1
    rw [if_neg h5]
    have g1 := Dm.lft_le (to - fr) k (by omega) h
    have g2 := Dm.lft_rest (to - fr) k (by omega) h
    have g3 := Dm.lft_lt (to - fr) (by omega)
    have g4 := Dm.lft_pos (to - fr)
    have p := Dm.part_two l fr to (by omega) h3
    by_cases h6 : fr + Dm.lft (to - fr) ≤ m - 1
    · rw [if_pos h6]
      have ih := ext_fold l m k (fr + Dm.lft (to - fr)) to (by omega) (by omega) h2 h3
      obtain ⟨F, hF⟩ : ∃ F, upto m (Dm.forks k (fr + Dm.lft (to - fr)) to (m - 1)) = F := ⟨_, rfl⟩
      rw [hF] at ih ⊢
      have e0 : fromAt fr (⟨fr, fr + Dm.lft (to - fr), to, decide (fr + Dm.lft (to - fr) ≤ m - 1)⟩ :: F) = fromAt (fr + Dm.lft (to - fr)) F := by
        show fromAt (if decide (fr + Dm.lft (to - fr) ≤ m - 1) = true then _ else _) F = _
        rw [if_pos (by simpa using h6)]
      have e1 : Dm.lft (m - fr) = Dm.lft (to - fr) := Dm.lft_same _ _ (by omega) (by omega) (by omega)
      have p2 := Dm.part_two l fr m (by omega) (by omega)
      rw [e1] at p2
      refine ⟨by rw [e0]; have := ih.lo; omega, by rw [e0]; exact ih.hi, ?_, ?_⟩
      · rw [e0, List.foldr_cons, ih.new, p]
        unfold Dm.Fk.join Dm.Fk.other
        dsimp only
        rw [if_pos (by simpa using h6), if_pos (by simpa using h6), show fr + Dm.lft (to - fr) - fr = Dm.lft (to - fr) by omega]
      · rw [e0, List.foldr_cons, ih.old, p2]
        unfold Dm.Fk.join Dm.Fk.other
        dsimp only
        rw [if_pos (by simpa using h6), if_pos (by simpa using h6), if_pos (by simpa using h6), show fr + Dm.lft (to - fr) - fr = Dm.lft (to - fr) by omega]
    · rw [if_neg h6]
      have ih := ext_fold l m k fr (fr + Dm.lft (to - fr)) (by omega) h1 (by omega) (by omega)
      obtain ⟨F, hF⟩ : ∃ F, upto m (Dm.forks k fr (fr + Dm.lft (to - fr)) (m - 1)) = F := ⟨_, rfl⟩
      rw [hF] at ih ⊢
      have e0 : fromAt fr (⟨fr, fr + Dm.lft (to - fr), to, decide (fr + Dm.lft (to - fr) ≤ m - 1)⟩ :: F) = fromAt fr F := by
        show fromAt (if decide (fr + Dm.lft (to - fr) ≤ m - 1) = true then _ else _) F = _
        rw [if_neg (by simpa using h6)]
      refine ⟨by rw [e0]; exact ih.lo, by rw [e0]; exact ih.hi, ?_, ?_⟩
      · rw [e0, List.foldr_cons, ih.new, p]
        unfold Dm.Fk.join Dm.Fk.other
        dsimp only
        rw [if_neg (by simpa using h6), if_neg (by simpa using h6), show fr + Dm.lft (to - fr) - fr = Dm.lft (to - fr) by omega]
      · rw [e0, List.foldr_cons, ih.old]
        dsimp only
        rw [if_neg (by simpa using h6)]
theorem climb2_map (fs : List Dm.Fk) (g : Dm.Fk → List UInt8) (v : List UInt8) : climb2 fs.reverse (fs.reverse.map g) v = fs.foldr (fun f v => if f.sec then f.join v (g f) else v) v := by
  have h := Dm.zip_map_foldl g (fun (v : List UInt8) (f : Dm.Fk) (x : List UInt8) => if f.sec then f.join v x else v) fs.reverse v
  unfold climb2
  rw [h, List.foldl_reverse]
theorem vex_accepts (l : List (List UInt8)) (m : Nat) (h1 : 1 ≤ m) (hm : m ≤ l.length) (hn : l.length ≤ 2 ^ 64) : vexIn (Dm.root (l.take m)) (Dm.root l) l.length m (extRow l m) = true := by
  have h := ext_fold l m 64 0 l.length (by omega) (by omega) hm (Nat.le_refl _)
  unfold vexIn extRow
  obtain ⟨F, hF⟩ : ∃ F, upto m (Dm.forks 64 0 l.length (m - 1)) = F := ⟨_, rfl⟩
  rw [hF] at h ⊢
  have hz : fromOf F = fromAt 0 F := rfl
  have hc : ∀ v, Dm.climb F.reverse (rootsOf l F.reverse) v = F.foldr (fun f v => f.join v (Dm.root (f.other l))) v := fun v => Dm.climb_map F _ v
  have hc2 : ∀ v, climb2 F.reverse (rootsOf l F.reverse) v = F.foldr (fun f v => if f.sec then f.join v (Dm.root (f.other l)) else v) v := fun v => climb2_map F _ v
  have h2 := h.new; have h3 := h.old
  rw [List.drop_zero, Nat.sub_zero] at h2 h3
  rw [List.take_length] at h2
  have hl : (rootsOf l F.reverse).length == F.reverse.length := by simp [rootsOf]
  unfold vexWith extHead
  rw [hz]
  by_cases h0 : 0 < fromAt 0 F
  · rw [if_pos h0, if_pos h0]
    show vexEnd _ _ _ _ (rootsOf l F.reverse) = true
    unfold vexEnd
    rw [hc, hc2, h2, h3, hl]; simp
  · rw [if_neg h0, if_neg h0]
    have e : fromAt 0 F = 0 := by omega
    rw [e, List.drop_zero, Nat.sub_zero] at h2 h3
    show vexEnd _ _ _ _ _ = true
    unfold vexEnd
    rw [List.nil_append, hc, hc2, h2, h3, hl]; simp
theorem ext_len (l : List (List UInt8)) (m : Nat) (hn : 0 < l.length) : (extRow l m).length ≤ 2 * Dm.bin l.length := by
  have h1 := Dm.forks_bin l.length (m - 1)
  have h2 : (upto m (Dm.forks 64 0 l.length (m - 1))).length ≤ (Dm.forks 64 0 l.length (m - 1)).length := (List.takeWhile_prefix _).length_le
  have h3 : 1 ≤ Dm.bin l.length := by unfold Dm.bin; rw [if_neg (by omega)]; omega
  have h4 : (extHead l m (fromOf (upto m (Dm.forks 64 0 l.length (m - 1))))).length ≤ 1 := by unfold extHead; split <;> simp
  unfold extRow
  rw [List.length_append]
  simp only [rootsOf, List.length_map, List.length_reverse]
  omega
theorem ext_digs (l : List (List UInt8)) (m : Nat) : Dm.digs (extRow l m) = true := by
  unfold Dm.digs extRow extHead rootsOf
  rw [List.all_eq_true]
  intro x hx
  rcases List.mem_append.1 hx with hx | hx
  · split at hx
    · rw [List.mem_singleton.1 hx]; simp [Dm.root_len]
    · cases hx
  · obtain ⟨f, _, rfl⟩ := List.mem_map.1 hx
    simp [Dm.root_len]
theorem take_all (m : Nat) (l : List (List UInt8)) (hm : m ≤ l.length) : (l.take m).length = m := by rw [List.length_take]; omega
/-- VerifyExtension accepts what Extension gives. -/
theorem vex_of (l : List (List UInt8)) (m : Nat) (hm : m ≤ l.length) (hn : l.length ≤ 2 ^ 64) :
    vex (Dm.root (l.take m)) (m : Int) (Dm.root l) (l.length : Int) (if m = 0 then [] else extRow l m) = true := by
  unfold vex
  rw [if_neg (by omega)]
  by_cases h0 : m = 0
  · subst h0
    rw [if_pos rfl]
    simp [Dm.digs, Dm.root_len]
  · rw [if_neg h0, if_neg (by omega), ext_digs, Int.toNat_natCast, Int.toNat_natCast, vex_accepts l m (by omega) hm hn]
    simp [Dm.digs, Dm.root_len]
end Go.Proofs.YtnbhhhbmeafkaaaDoor
