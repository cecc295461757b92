/- Contract of VerifyExtension. -/
import Derived.Test.YtnbhhhbmeafkaaaDoorDz
import Derived.StillTailTactics
import Derived.BigQuiet
namespace Go.Proofs.YtnbhhhbmeafkaaaDoor
open Go.RowKit

/-- The old list's root as the proof's steps make it. -/
def climb2 (fs : List Dm.Fk) (xs : List (List UInt8)) (v : List UInt8) : List UInt8 := (fs.zip xs).foldl (fun v p => if p.1.sec then p.1.join v p.2 else v) v
theorem climb2_snoc (fs : List Dm.Fk) (ps : List (List UInt8)) (v : List UInt8) (k : Nat) (h1 : k < fs.length) (h2 : k < ps.length) :
    climb2 (fs.take (k + 1)) (ps.take (k + 1)) v = if fs[k].sec then fs[k].join (climb2 (fs.take k) (ps.take k) v) ps[k] else climb2 (fs.take k) (ps.take k) v := by
  unfold climb2
  rw [List.take_succ_eq_append_getElem h1, List.take_succ_eq_append_getElem h2, List.zip_append (by simp; omega), List.foldl_append]
  rfl
theorem climb2_len (fs : List Dm.Fk) (ps : List (List UInt8)) (v : List UInt8) (hv : v.length = 32) : (climb2 fs ps v).length = 32 := by
  unfold climb2
  refine Dm.foldl_inv (fun x : List UInt8 => x.length = 32) _ _ (fun b a hb => ?_) v hv
  show (if _ then _ else _ : List UInt8).length = 32
  split
  · exact join_len _ _ _
  · exact hb
def vexEnd (old root : List UInt8) (fs : List Dm.Fk) (x : List UInt8) (rs : List (List UInt8)) : Bool := rs.length == fs.length && (climb2 fs rs x == old && Dm.climb fs rs x == root)
def vexWith (old root : List UInt8) (fs : List Dm.Fk) (fm : Nat) (ps : List (List UInt8)) : Bool :=
  if 0 < fm then
    match ps with
    | [] => false
    | p :: rs => vexEnd old root fs p rs
  else vexEnd old root fs old ps
def vexIn (old root : List UInt8) (n m : Nat) (ps : List (List UInt8)) : Bool := vexWith old root (upto m (Dm.forks 64 0 n (m - 1))).reverse (fromOf (upto m (Dm.forks 64 0 n (m - 1)))) ps
def vex (old : List UInt8) (m : Int) (root : List UInt8) (n : Int) (ps : List (List UInt8)) : Bool :=
  if m < 0 ∨ n < m then false
  else (Dm.digs [old, root] && Dm.digs ps) && if m = 0 then ps.length == 0 && old == Dm.root [] else vexIn old root n.toNat m.toNat ps

def VexPost (b : Bool) (w : World) (e : Ending) (w' : World) : Prop := e = .returned (.bool b) ∧ Below w.heap.size w w'
set_option maxRecDepth 100000 in
set_option maxHeartbeats 2000000 in
theorem vex_out (old root : List UInt8) (n m : Int) (v : Value) (ps : List (List UInt8)) (w : World) (hv : Strs w w.heap.size v ps) (hl : ∀ s ∈ ps, s.length ≤ 1000) (ho : old.length ≤ 9223372036854775807) (hr : root.length ≤ 9223372036854775807)
    (h : m < 0 ∨ n < m ∨ Dm.digs [old, root] = false ∨ Dm.digs ps = false) :
    Calls Tryd.prog 31 #[strOf old, .int .i64 m, strOf root, .int .i64 n, v] w (VexPost false w) := by
  have hb1 : Below w.heap.size w (w.alloc (.cells #[strOf old, strOf root] 9)) := (Below.refl _ w).alloc (Nat.le_refl _) _
  have ha1 := areDigs_any _ [old, root] (w.alloc (.cells #[strOf old, strOf root] 9)) (strs_new w [old, root] #[strOf old, strOf root] 2 rfl rfl (by omega)) (fun s hs => by simp at hs; rcases hs with rfl | rfl <;> omega)
  have ha2 := areDigs_any v ps (w.alloc (.cells #[strOf old, strOf root] 9)) (hv.next hb1) (fun s hs => by have := hl s hs; omega)
  by_cases h1 : m < 0
  · clear ha1 ha2
    go_enter Tryd.func31, Tryd.ntmps31
    go_wp2
    go_ret
    exact ⟨rfl, Below.refl _ _⟩
  · by_cases h2 : n < m
    · clear ha1 ha2
      go_enter Tryd.func31, Tryd.ntmps31
      go_wp2
      go_ret
      exact ⟨rfl, Below.refl _ _⟩
    · cases h3 : Dm.digs [old, root] with
      | false =>
        rw [h3] at ha1
        have HA := Lib.hid ha1; have HB := Lib.hid hb1
        clear ha1 ha2 h hv hl hb1
        go_enter Tryd.func31, Tryd.ntmps31
        go_wp2_with (go_at_call 50; refine HA.out.mono ?_; rintro e w' ⟨rfl, rfl⟩)
        go_ret
        exact ⟨rfl, HB.out⟩
      | true =>
        have h4 : Dm.digs ps = false := by
          rcases h with h | h | h | h
          · exact absurd h h1
          · exact absurd h h2
          · rw [h3] at h; cases h
          · exact h
        rw [h3] at ha1; rw [h4] at ha2
        have HA := Lib.hid ha1; have HA2 := Lib.hid ha2; have HB := Lib.hid hb1
        clear ha1 ha2 h hv hl hb1
        go_enter Tryd.func31, Tryd.ntmps31
        go_wp2_with (first | (go_at_call 50; refine HA.out.mono ?_; rintro e w' ⟨rfl, rfl⟩) | (go_at_call 50; refine HA2.out.mono ?_; rintro e w' ⟨rfl, rfl⟩))
        go_ret
        exact ⟨rfl, HB.out⟩
end Go.Proofs.YtnbhhhbmeafkaaaDoor
