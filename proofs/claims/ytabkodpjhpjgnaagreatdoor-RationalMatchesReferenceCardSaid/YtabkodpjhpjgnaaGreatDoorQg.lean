/- Make, Of, and the four operations: build at the steps that they take. -/
import Derived.Test.YtabkodpjhpjgnaaGreatDoorQf
namespace Go.Proofs.YtabkodpjhpjgnaaGreatDoor
open Go.RowKit Go.Shelf

theorem first_fail (fs : Nat → Bool) : ∀ n, ∃ k, k ≤ n ∧ (∀ i, i < k → fs i = true) ∧ (k < n → fs k = false) ∧ decide (k = n) = (List.range n).all fs
  | 0 => ⟨0, Nat.le_refl _, fun i h => by omega, fun h => by omega, rfl⟩
  | n + 1 => by
    obtain ⟨k, h1, h2, h3, h4⟩ := first_fail fs n
    rw [List.range_succ, List.all_append]
    by_cases hk : k < n
    · refine ⟨k, by omega, h2, fun _ => h3 hk, ?_⟩
      rw [← h4, decide_eq_false (by omega), decide_eq_false (by omega)]; rfl
    · obtain rfl : k = n := by omega
      rw [← h4, decide_eq_true rfl]
      cases hf : fs k with
      | true => exact ⟨k + 1, by omega, fun i hi => by
          by_cases h : i < k
          · exact h2 i h
          · obtain rfl : i = k := by omega
            exact hf, fun h => by omega, by simp [hf]⟩
      | false => exact ⟨k, by omega, h2, fun _ => hf, by simp [hf]⟩

/-- build at steps that lie in a new slice. -/
theorem build_flags (n : Nat) (gs : Nat → Nat) (cbs : Nat → Array Value) (S T : Nat → ByteArray) (fs : Nat → Bool) (u : World) (ht : TabP u) (hn : n ≤ 1000)
    (eg : ∀ i, i < n → ∀ args w, (callFunc (gs i) args).run Tryz.prog w = .ok (.enter (gs i) args) w) (cs : Array Value) (t : TypeId)
    (hcs : ∀ i, i < n → cs[i]? = some (.func (.func (gs i)) #[] (cbs i)))
    (hs : ∀ i, i < n → (∀ j, j < i → fs j = true) → StepQ u (gs i) (cbs i) (rvB (S i) (T i)) (rvB (S (i + 1)) (T (i + 1))) (fs i)) :
    Calls Tryz.prog 58 #[rvB (S 0) (T 0), .slice (some ⟨u.heap.size, 0, none⟩) n n] (u.alloc (.cells cs t)) (BuildP ((List.range n).all fs) (rvB (S n) (T n)) (u.alloc (.cells cs t))) := by
  obtain ⟨k, h1, h2, h3, h4⟩ := first_fail fs n
  have hb : Below u.heap.size u (u.alloc (.cells cs t)) := (Below.refl _ _).alloc (Nat.le_refl _) _
  rw [← h4]
  refine build_any n k gs cbs S T _ (ht.next hb) u.heap.size (by simp) (fun i hi => ((Row.new u t cs).cell i).trans (hcs i hi)) eg h1 hn (fun i hi => ?_) (fun hk => ?_)
  · have := (hs i (by omega) (fun j hj => h2 j (by omega))).next hb
    rw [h2 i hi] at this; exact this
  · have := (hs k hk (fun j hj => h2 j hj)).next hb
    rw [h3 hk] at this; exact ⟨_, this⟩

/-- build at one step. -/
theorem build1 (g0 : Nat) (b0 : Array Value) (s0 t0 s1 t1 : ByteArray) (f0 : Bool) (u : World) (ht : TabP u) (t : TypeId) (g : Nat) (hg : u.heap.size = g) (e0 : ∀ args w, (callFunc g0 args).run Tryz.prog w = .ok (.enter g0 args) w)
    (h0 : StepQ u g0 b0 (rvB s0 t0) (rvB s1 t1) f0) :
    Calls Tryz.prog 58 #[rvB s0 t0, .slice (some ⟨g, 0, none⟩) 1 1] (u.alloc (.cells #[.func (.func g0) #[] b0] t)) (BuildP (f0) (rvB s1 t1) (u.alloc (.cells #[.func (.func g0) #[] b0] t))) := by
  subst hg
  have h := build_flags 1 (fun i => (#[g0] : Array Nat).getD i g0) (fun i => (#[b0] : Array (Array Value)).getD i b0) (fun i => (#[s0, s1] : Array ByteArray).getD i s1) (fun i => (#[t0, t1] : Array ByteArray).getD i t1) (fun i => (#[f0] : Array Bool).getD i f0) u ht (by decide)
    (fun i hi => by
      rcases i with _|i
      · exact e0
      · omega) #[.func (.func g0) #[] b0] t (fun i hi => by
      rcases i with _|i
      · rfl
      · omega) (fun i hi hj => by
      rcases i with _|i
      · exact h0
      · omega)
  have e : (List.range 1).all (fun i => (#[f0] : Array Bool).getD i f0) = (f0) := by
    cases f0 <;> rfl
  rw [e] at h
  exact h

/-- build at three steps. -/
theorem build3 (g0 g1 g2 : Nat) (b0 b1 b2 : Array Value) (s0 t0 s1 t1 s2 t2 s3 t3 : ByteArray) (f0 f1 f2 : Bool) (u : World) (ht : TabP u) (t : TypeId) (g : Nat) (hg : u.heap.size = g) (e0 : ∀ args w, (callFunc g0 args).run Tryz.prog w = .ok (.enter g0 args) w) (e1 : ∀ args w, (callFunc g1 args).run Tryz.prog w = .ok (.enter g1 args) w) (e2 : ∀ args w, (callFunc g2 args).run Tryz.prog w = .ok (.enter g2 args) w)
    (h0 : StepQ u g0 b0 (rvB s0 t0) (rvB s1 t1) f0)
    (h1 : f0 = true → StepQ u g1 b1 (rvB s1 t1) (rvB s2 t2) f1)
    (h2 : f0 = true → f1 = true → StepQ u g2 b2 (rvB s2 t2) (rvB s3 t3) f2) :
    Calls Tryz.prog 58 #[rvB s0 t0, .slice (some ⟨g, 0, none⟩) 3 3] (u.alloc (.cells #[.func (.func g0) #[] b0, .func (.func g1) #[] b1, .func (.func g2) #[] b2] t)) (BuildP (f0 && f1 && f2) (rvB s3 t3) (u.alloc (.cells #[.func (.func g0) #[] b0, .func (.func g1) #[] b1, .func (.func g2) #[] b2] t))) := by
  subst hg
  have h := build_flags 3 (fun i => (#[g0, g1, g2] : Array Nat).getD i g2) (fun i => (#[b0, b1, b2] : Array (Array Value)).getD i b2) (fun i => (#[s0, s1, s2, s3] : Array ByteArray).getD i s3) (fun i => (#[t0, t1, t2, t3] : Array ByteArray).getD i t3) (fun i => (#[f0, f1, f2] : Array Bool).getD i f2) u ht (by decide)
    (fun i hi => by
      rcases i with _|_|_|i
      · exact e0
      · exact e1
      · exact e2
      · omega) #[.func (.func g0) #[] b0, .func (.func g1) #[] b1, .func (.func g2) #[] b2] t (fun i hi => by
      rcases i with _|_|_|i
      · rfl
      · rfl
      · rfl
      · omega) (fun i hi hj => by
      rcases i with _|_|_|i
      · exact h0
      · exact h1 (hj 0 (by omega))
      · exact h2 (hj 0 (by omega)) (hj 1 (by omega))
      · omega)
  have e : (List.range 3).all (fun i => (#[f0, f1, f2] : Array Bool).getD i f2) = (f0 && f1 && f2) := by
    cases f0 <;> cases f1 <;> cases f2 <;> rfl
  rw [e] at h
  exact h

/-- build at four steps. -/
theorem build4 (g0 g1 g2 g3 : Nat) (b0 b1 b2 b3 : Array Value) (s0 t0 s1 t1 s2 t2 s3 t3 s4 t4 : ByteArray) (f0 f1 f2 f3 : Bool) (u : World) (ht : TabP u) (t : TypeId) (g : Nat) (hg : u.heap.size = g) (e0 : ∀ args w, (callFunc g0 args).run Tryz.prog w = .ok (.enter g0 args) w) (e1 : ∀ args w, (callFunc g1 args).run Tryz.prog w = .ok (.enter g1 args) w) (e2 : ∀ args w, (callFunc g2 args).run Tryz.prog w = .ok (.enter g2 args) w) (e3 : ∀ args w, (callFunc g3 args).run Tryz.prog w = .ok (.enter g3 args) w)
    (h0 : StepQ u g0 b0 (rvB s0 t0) (rvB s1 t1) f0)
    (h1 : f0 = true → StepQ u g1 b1 (rvB s1 t1) (rvB s2 t2) f1)
    (h2 : f0 = true → f1 = true → StepQ u g2 b2 (rvB s2 t2) (rvB s3 t3) f2)
    (h3 : f0 = true → f1 = true → f2 = true → StepQ u g3 b3 (rvB s3 t3) (rvB s4 t4) f3) :
    Calls Tryz.prog 58 #[rvB s0 t0, .slice (some ⟨g, 0, none⟩) 4 4] (u.alloc (.cells #[.func (.func g0) #[] b0, .func (.func g1) #[] b1, .func (.func g2) #[] b2, .func (.func g3) #[] b3] t)) (BuildP (f0 && f1 && f2 && f3) (rvB s4 t4) (u.alloc (.cells #[.func (.func g0) #[] b0, .func (.func g1) #[] b1, .func (.func g2) #[] b2, .func (.func g3) #[] b3] t))) := by
  subst hg
  have h := build_flags 4 (fun i => (#[g0, g1, g2, g3] : Array Nat).getD i g3) (fun i => (#[b0, b1, b2, b3] : Array (Array Value)).getD i b3) (fun i => (#[s0, s1, s2, s3, s4] : Array ByteArray).getD i s4) (fun i => (#[t0, t1, t2, t3, t4] : Array ByteArray).getD i t4) (fun i => (#[f0, f1, f2, f3] : Array Bool).getD i f3) u ht (by decide)
    (fun i hi => by
      rcases i with _|_|_|_|i
      · exact e0
      · exact e1
      · exact e2
      · exact e3
      · omega) #[.func (.func g0) #[] b0, .func (.func g1) #[] b1, .func (.func g2) #[] b2, .func (.func g3) #[] b3] t (fun i hi => by
      rcases i with _|_|_|_|i
      · rfl
      · rfl
      · rfl
      · rfl
      · omega) (fun i hi hj => by
      rcases i with _|_|_|_|i
      · exact h0
      · exact h1 (hj 0 (by omega))
      · exact h2 (hj 0 (by omega)) (hj 1 (by omega))
      · exact h3 (hj 0 (by omega)) (hj 1 (by omega)) (hj 2 (by omega))
      · omega)
  have e : (List.range 4).all (fun i => (#[f0, f1, f2, f3] : Array Bool).getD i f3) = (f0 && f1 && f2 && f3) := by
    cases f0 <;> cases f1 <;> cases f2 <;> cases f3 <;> rfl
  rw [e] at h
  exact h

/-- build at five steps. -/
theorem build5 (g0 g1 g2 g3 g4 : Nat) (b0 b1 b2 b3 b4 : Array Value) (s0 t0 s1 t1 s2 t2 s3 t3 s4 t4 s5 t5 : ByteArray) (f0 f1 f2 f3 f4 : Bool) (u : World) (ht : TabP u) (t : TypeId) (g : Nat) (hg : u.heap.size = g) (e0 : ∀ args w, (callFunc g0 args).run Tryz.prog w = .ok (.enter g0 args) w) (e1 : ∀ args w, (callFunc g1 args).run Tryz.prog w = .ok (.enter g1 args) w) (e2 : ∀ args w, (callFunc g2 args).run Tryz.prog w = .ok (.enter g2 args) w) (e3 : ∀ args w, (callFunc g3 args).run Tryz.prog w = .ok (.enter g3 args) w) (e4 : ∀ args w, (callFunc g4 args).run Tryz.prog w = .ok (.enter g4 args) w)
    (h0 : StepQ u g0 b0 (rvB s0 t0) (rvB s1 t1) f0)
    (h1 : f0 = true → StepQ u g1 b1 (rvB s1 t1) (rvB s2 t2) f1)
    (h2 : f0 = true → f1 = true → StepQ u g2 b2 (rvB s2 t2) (rvB s3 t3) f2)
    (h3 : f0 = true → f1 = true → f2 = true → StepQ u g3 b3 (rvB s3 t3) (rvB s4 t4) f3)
    (h4 : f0 = true → f1 = true → f2 = true → f3 = true → StepQ u g4 b4 (rvB s4 t4) (rvB s5 t5) f4) :
    Calls Tryz.prog 58 #[rvB s0 t0, .slice (some ⟨g, 0, none⟩) 5 5] (u.alloc (.cells #[.func (.func g0) #[] b0, .func (.func g1) #[] b1, .func (.func g2) #[] b2, .func (.func g3) #[] b3, .func (.func g4) #[] b4] t)) (BuildP (f0 && f1 && f2 && f3 && f4) (rvB s5 t5) (u.alloc (.cells #[.func (.func g0) #[] b0, .func (.func g1) #[] b1, .func (.func g2) #[] b2, .func (.func g3) #[] b3, .func (.func g4) #[] b4] t))) := by
  subst hg
  have h := build_flags 5 (fun i => (#[g0, g1, g2, g3, g4] : Array Nat).getD i g4) (fun i => (#[b0, b1, b2, b3, b4] : Array (Array Value)).getD i b4) (fun i => (#[s0, s1, s2, s3, s4, s5] : Array ByteArray).getD i s5) (fun i => (#[t0, t1, t2, t3, t4, t5] : Array ByteArray).getD i t5) (fun i => (#[f0, f1, f2, f3, f4] : Array Bool).getD i f4) u ht (by decide)
    (fun i hi => by
      rcases i with _|_|_|_|_|i
      · exact e0
      · exact e1
      · exact e2
      · exact e3
      · exact e4
      · omega) #[.func (.func g0) #[] b0, .func (.func g1) #[] b1, .func (.func g2) #[] b2, .func (.func g3) #[] b3, .func (.func g4) #[] b4] t (fun i hi => by
      rcases i with _|_|_|_|_|i
      · rfl
      · rfl
      · rfl
      · rfl
      · rfl
      · omega) (fun i hi hj => by
      rcases i with _|_|_|_|_|i
      · exact h0
      · exact h1 (hj 0 (by omega))
      · exact h2 (hj 0 (by omega)) (hj 1 (by omega))
      · exact h3 (hj 0 (by omega)) (hj 1 (by omega)) (hj 2 (by omega))
      · exact h4 (hj 0 (by omega)) (hj 1 (by omega)) (hj 2 (by omega)) (hj 3 (by omega))
      · omega)
  have e : (List.range 5).all (fun i => (#[f0, f1, f2, f3, f4] : Array Bool).getD i f4) = (f0 && f1 && f2 && f3 && f4) := by
    cases f0 <;> cases f1 <;> cases f2 <;> cases f3 <;> cases f4 <;> rfl
  rw [e] at h
  exact h

end Go.Proofs.YtabkodpjhpjgnaaGreatDoor
