/- Grants and uses: isGrant, isUse. -/
import Derived.Test.YtenojfniknjeiaaUb
import Derived.Test.YtenojfniknjeiaaHa
namespace Go.Proofs.Ytenojfniknjeiaa
open Go.RowKit

structure Gr where
  item : Int
  acts : Int
  regions : Int
  plays : Int
  fr : Int
  tw : Int
deriving DecidableEq
structure Us where
  item : Int
  acts : Int
  region : Int
  at_ : Int
deriving DecidableEq
def encG (g : Gr) : List Value := [.int .i64 g.item, .int .i64 g.acts, .int .i64 g.regions, .int .i64 g.plays, .int .i64 g.fr, .int .i64 g.tw]
def encU (u : Us) : List Value := [.int .i64 u.item, .int .i64 u.acts, .int .i64 u.region, .int .i64 u.at_]
def okG (g : Gr) : Bool := decide (0 ≤ g.item) && decide (g.item < 200) && decide (1 ≤ g.acts) && decide (g.acts ≤ 31) && decide (1 ≤ g.regions) && decide (g.regions ≤ 255) && decide (0 ≤ g.plays) && decide (g.plays ≤ 100) && decide (0 ≤ g.fr) && decide (g.fr < g.tw) && decide (g.tw ≤ 10000000)
def okU (u : Us) : Bool := decide (0 ≤ u.item) && decide (u.item < 200) && decide (1 ≤ u.acts) && decide (u.acts ≤ 31) && decide (0 ≤ u.region) && decide (u.region < 8) && decide (0 ≤ u.at_) && decide (u.at_ < 10000000)
def validG (l : List Gr) : Bool := decide (l.length ≤ 12) && l.all okG
def validU (l : List Us) : Bool := decide (l.length ≤ 10) && l.all okU
set_option maxRecDepth 100000 in
set_option maxHeartbeats 8000000 in
theorem isGrant_any (g : Gr) (w : World) : Calls Try.prog 32 #[.agg #[.int .i64 g.item, .int .i64 g.acts, .int .i64 g.regions, .int .i64 g.plays, .int .i64 g.fr, .int .i64 g.tw]] w fun e w' => e = .returned (.bool (okG g)) ∧ Below w.heap.size w w' := by
  obtain ⟨item, acts, regions, plays, fr, tw⟩ := g
  dsimp only
  have HD := Lib.hid (show okG ⟨item, acts, regions, plays, fr, tw⟩ = (decide (0 ≤ item) && decide (item < 200) && decide (1 ≤ acts) && decide (acts ≤ 31) && decide (1 ≤ regions) && decide (regions ≤ 255) && decide (0 ≤ plays) && decide (plays ≤ 100) && decide (0 ≤ fr) && decide (fr < tw) && decide (tw ≤ 10000000)) from rfl)
  rw [HD.out]
  clear HD
  by_cases h0 : 0 ≤ item
  · skip
    by_cases h1 : item < 200
    · skip
      by_cases h2 : 1 ≤ acts
      · skip
        by_cases h3 : acts ≤ 31
        · skip
          by_cases h4 : 1 ≤ regions
          · skip
            by_cases h5 : regions ≤ 255
            · skip
              by_cases h6 : 0 ≤ plays
              · skip
                by_cases h7 : plays ≤ 100
                · skip
                  by_cases h8 : 0 ≤ fr
                  · skip
                    by_cases h9 : fr < tw
                    · skip
                      by_cases h10 : tw ≤ 10000000
                      · skip
                        rw [show (decide (0 ≤ item) && decide (item < 200) && decide (1 ≤ acts) && decide (acts ≤ 31) && decide (1 ≤ regions) && decide (regions ≤ 255) && decide (0 ≤ plays) && decide (plays ≤ 100) && decide (0 ≤ fr) && decide (fr < tw) && decide (tw ≤ 10000000)) = true by simp [h0, h1, h2, h3, h4, h5, h6, h7, h8, h9, h10]]
                        go_enter Try.func32, Try.ntmps32
                        go_wp2
                        go_ret
                        exact ⟨rfl, (Below.refl _ w).alloc (Nat.le_refl _) _⟩
                      · rw [show (decide (0 ≤ item) && decide (item < 200) && decide (1 ≤ acts) && decide (acts ≤ 31) && decide (1 ≤ regions) && decide (regions ≤ 255) && decide (0 ≤ plays) && decide (plays ≤ 100) && decide (0 ≤ fr) && decide (fr < tw) && decide (tw ≤ 10000000)) = false by simp [h10]]
                        go_enter Try.func32, Try.ntmps32
                        go_wp2
                        go_ret
                        exact ⟨rfl, (Below.refl _ w).alloc (Nat.le_refl _) _⟩
                    · rw [show (decide (0 ≤ item) && decide (item < 200) && decide (1 ≤ acts) && decide (acts ≤ 31) && decide (1 ≤ regions) && decide (regions ≤ 255) && decide (0 ≤ plays) && decide (plays ≤ 100) && decide (0 ≤ fr) && decide (fr < tw) && decide (tw ≤ 10000000)) = false by simp [h9]]
                      go_enter Try.func32, Try.ntmps32
                      go_wp2
                      go_ret
                      exact ⟨rfl, (Below.refl _ w).alloc (Nat.le_refl _) _⟩
                  · rw [show (decide (0 ≤ item) && decide (item < 200) && decide (1 ≤ acts) && decide (acts ≤ 31) && decide (1 ≤ regions) && decide (regions ≤ 255) && decide (0 ≤ plays) && decide (plays ≤ 100) && decide (0 ≤ fr) && decide (fr < tw) && decide (tw ≤ 10000000)) = false by simp [h8]]
                    go_enter Try.func32, Try.ntmps32
                    go_wp2
                    go_ret
                    exact ⟨rfl, (Below.refl _ w).alloc (Nat.le_refl _) _⟩
                · rw [show (decide (0 ≤ item) && decide (item < 200) && decide (1 ≤ acts) && decide (acts ≤ 31) && decide (1 ≤ regions) && decide (regions ≤ 255) && decide (0 ≤ plays) && decide (plays ≤ 100) && decide (0 ≤ fr) && decide (fr < tw) && decide (tw ≤ 10000000)) = false by simp [h7]]
                  go_enter Try.func32, Try.ntmps32
                  go_wp2
                  go_ret
                  exact ⟨rfl, (Below.refl _ w).alloc (Nat.le_refl _) _⟩
              · rw [show (decide (0 ≤ item) && decide (item < 200) && decide (1 ≤ acts) && decide (acts ≤ 31) && decide (1 ≤ regions) && decide (regions ≤ 255) && decide (0 ≤ plays) && decide (plays ≤ 100) && decide (0 ≤ fr) && decide (fr < tw) && decide (tw ≤ 10000000)) = false by simp [h6]]
                go_enter Try.func32, Try.ntmps32
                go_wp2
                go_ret
                exact ⟨rfl, (Below.refl _ w).alloc (Nat.le_refl _) _⟩
            · rw [show (decide (0 ≤ item) && decide (item < 200) && decide (1 ≤ acts) && decide (acts ≤ 31) && decide (1 ≤ regions) && decide (regions ≤ 255) && decide (0 ≤ plays) && decide (plays ≤ 100) && decide (0 ≤ fr) && decide (fr < tw) && decide (tw ≤ 10000000)) = false by simp [h5]]
              go_enter Try.func32, Try.ntmps32
              go_wp2
              go_ret
              exact ⟨rfl, (Below.refl _ w).alloc (Nat.le_refl _) _⟩
          · rw [show (decide (0 ≤ item) && decide (item < 200) && decide (1 ≤ acts) && decide (acts ≤ 31) && decide (1 ≤ regions) && decide (regions ≤ 255) && decide (0 ≤ plays) && decide (plays ≤ 100) && decide (0 ≤ fr) && decide (fr < tw) && decide (tw ≤ 10000000)) = false by simp [h4]]
            go_enter Try.func32, Try.ntmps32
            go_wp2
            go_ret
            exact ⟨rfl, (Below.refl _ w).alloc (Nat.le_refl _) _⟩
        · rw [show (decide (0 ≤ item) && decide (item < 200) && decide (1 ≤ acts) && decide (acts ≤ 31) && decide (1 ≤ regions) && decide (regions ≤ 255) && decide (0 ≤ plays) && decide (plays ≤ 100) && decide (0 ≤ fr) && decide (fr < tw) && decide (tw ≤ 10000000)) = false by simp [h3]]
          go_enter Try.func32, Try.ntmps32
          go_wp2
          go_ret
          exact ⟨rfl, (Below.refl _ w).alloc (Nat.le_refl _) _⟩
      · rw [show (decide (0 ≤ item) && decide (item < 200) && decide (1 ≤ acts) && decide (acts ≤ 31) && decide (1 ≤ regions) && decide (regions ≤ 255) && decide (0 ≤ plays) && decide (plays ≤ 100) && decide (0 ≤ fr) && decide (fr < tw) && decide (tw ≤ 10000000)) = false by simp [h2]]
        go_enter Try.func32, Try.ntmps32
        go_wp2
        go_ret
        exact ⟨rfl, (Below.refl _ w).alloc (Nat.le_refl _) _⟩
    · rw [show (decide (0 ≤ item) && decide (item < 200) && decide (1 ≤ acts) && decide (acts ≤ 31) && decide (1 ≤ regions) && decide (regions ≤ 255) && decide (0 ≤ plays) && decide (plays ≤ 100) && decide (0 ≤ fr) && decide (fr < tw) && decide (tw ≤ 10000000)) = false by simp [h1]]
      go_enter Try.func32, Try.ntmps32
      go_wp2
      go_ret
      exact ⟨rfl, (Below.refl _ w).alloc (Nat.le_refl _) _⟩
  · rw [show (decide (0 ≤ item) && decide (item < 200) && decide (1 ≤ acts) && decide (acts ≤ 31) && decide (1 ≤ regions) && decide (regions ≤ 255) && decide (0 ≤ plays) && decide (plays ≤ 100) && decide (0 ≤ fr) && decide (fr < tw) && decide (tw ≤ 10000000)) = false by simp [h0]]
    go_enter Try.func32, Try.ntmps32
    go_wp2
    go_ret
    exact ⟨rfl, (Below.refl _ w).alloc (Nat.le_refl _) _⟩
set_option maxRecDepth 100000 in
set_option maxHeartbeats 8000000 in
theorem isUse_any (u : Us) (w : World) : Calls Try.prog 34 #[.agg #[.int .i64 u.item, .int .i64 u.acts, .int .i64 u.region, .int .i64 u.at_]] w fun e w' => e = .returned (.bool (okU u)) ∧ Below w.heap.size w w' := by
  obtain ⟨item, acts, region, at_⟩ := u
  dsimp only
  have HD := Lib.hid (show okU ⟨item, acts, region, at_⟩ = (decide (0 ≤ item) && decide (item < 200) && decide (1 ≤ acts) && decide (acts ≤ 31) && decide (0 ≤ region) && decide (region < 8) && decide (0 ≤ at_) && decide (at_ < 10000000)) from rfl)
  rw [HD.out]
  clear HD
  by_cases h0 : 0 ≤ item
  · skip
    by_cases h1 : item < 200
    · skip
      by_cases h2 : 1 ≤ acts
      · skip
        by_cases h3 : acts ≤ 31
        · skip
          by_cases h4 : 0 ≤ region
          · skip
            by_cases h5 : region < 8
            · skip
              by_cases h6 : 0 ≤ at_
              · skip
                by_cases h7 : at_ < 10000000
                · skip
                  rw [show (decide (0 ≤ item) && decide (item < 200) && decide (1 ≤ acts) && decide (acts ≤ 31) && decide (0 ≤ region) && decide (region < 8) && decide (0 ≤ at_) && decide (at_ < 10000000)) = true by simp [h0, h1, h2, h3, h4, h5, h6, h7]]
                  go_enter Try.func34, Try.ntmps34
                  go_wp2
                  go_ret
                  exact ⟨rfl, (Below.refl _ w).alloc (Nat.le_refl _) _⟩
                · rw [show (decide (0 ≤ item) && decide (item < 200) && decide (1 ≤ acts) && decide (acts ≤ 31) && decide (0 ≤ region) && decide (region < 8) && decide (0 ≤ at_) && decide (at_ < 10000000)) = false by simp [h7]]
                  go_enter Try.func34, Try.ntmps34
                  go_wp2
                  go_ret
                  exact ⟨rfl, (Below.refl _ w).alloc (Nat.le_refl _) _⟩
              · rw [show (decide (0 ≤ item) && decide (item < 200) && decide (1 ≤ acts) && decide (acts ≤ 31) && decide (0 ≤ region) && decide (region < 8) && decide (0 ≤ at_) && decide (at_ < 10000000)) = false by simp [h6]]
                go_enter Try.func34, Try.ntmps34
                go_wp2
                go_ret
                exact ⟨rfl, (Below.refl _ w).alloc (Nat.le_refl _) _⟩
            · rw [show (decide (0 ≤ item) && decide (item < 200) && decide (1 ≤ acts) && decide (acts ≤ 31) && decide (0 ≤ region) && decide (region < 8) && decide (0 ≤ at_) && decide (at_ < 10000000)) = false by simp [h5]]
              go_enter Try.func34, Try.ntmps34
              go_wp2
              go_ret
              exact ⟨rfl, (Below.refl _ w).alloc (Nat.le_refl _) _⟩
          · rw [show (decide (0 ≤ item) && decide (item < 200) && decide (1 ≤ acts) && decide (acts ≤ 31) && decide (0 ≤ region) && decide (region < 8) && decide (0 ≤ at_) && decide (at_ < 10000000)) = false by simp [h4]]
            go_enter Try.func34, Try.ntmps34
            go_wp2
            go_ret
            exact ⟨rfl, (Below.refl _ w).alloc (Nat.le_refl _) _⟩
        · rw [show (decide (0 ≤ item) && decide (item < 200) && decide (1 ≤ acts) && decide (acts ≤ 31) && decide (0 ≤ region) && decide (region < 8) && decide (0 ≤ at_) && decide (at_ < 10000000)) = false by simp [h3]]
          go_enter Try.func34, Try.ntmps34
          go_wp2
          go_ret
          exact ⟨rfl, (Below.refl _ w).alloc (Nat.le_refl _) _⟩
      · rw [show (decide (0 ≤ item) && decide (item < 200) && decide (1 ≤ acts) && decide (acts ≤ 31) && decide (0 ≤ region) && decide (region < 8) && decide (0 ≤ at_) && decide (at_ < 10000000)) = false by simp [h2]]
        go_enter Try.func34, Try.ntmps34
        go_wp2
        go_ret
        exact ⟨rfl, (Below.refl _ w).alloc (Nat.le_refl _) _⟩
    · rw [show (decide (0 ≤ item) && decide (item < 200) && decide (1 ≤ acts) && decide (acts ≤ 31) && decide (0 ≤ region) && decide (region < 8) && decide (0 ≤ at_) && decide (at_ < 10000000)) = false by simp [h1]]
      go_enter Try.func34, Try.ntmps34
      go_wp2
      go_ret
      exact ⟨rfl, (Below.refl _ w).alloc (Nat.le_refl _) _⟩
  · rw [show (decide (0 ≤ item) && decide (item < 200) && decide (1 ≤ acts) && decide (acts ≤ 31) && decide (0 ≤ region) && decide (region < 8) && decide (0 ≤ at_) && decide (at_ < 10000000)) = false by simp [h0]]
    go_enter Try.func34, Try.ntmps34
    go_wp2
    go_ret
    exact ⟨rfl, (Below.refl _ w).alloc (Nat.le_refl _) _⟩
end Go.Proofs.Ytenojfniknjeiaa
