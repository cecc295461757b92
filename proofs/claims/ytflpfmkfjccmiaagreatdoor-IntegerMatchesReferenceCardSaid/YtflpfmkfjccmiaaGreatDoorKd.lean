/- Contract of the laws' sane. -/
import Derived.Test.YtflpfmkfjccmiaaGreatDoorKc
namespace Go.Proofs.YtflpfmkfjccmiaaGreatDoor
open Go.RowKit

/-- A call that answers v in every world that bears the table. -/
abbrev CallT (f : Nat) (args : Array Value) (v : Value) : Prop := ∀ u, TabP u → Calls Tryz.prog f args u fun e w' => e = .returned v ∧ Below u.heap.size u w'
theorem add_lit (a b : Int) (x y z : List UInt8) (r : Int) (hx : Lib.itoa a = x) (hy : Lib.itoa b = y) (hz : outT (a + b) = z) (hr : errT (a + b) = r) (ha : okz a = true) (hb : okz b = true) : CallT 7 #[strOf x, strOf y] (.tuple #[strOf z, .int .i64 r]) := fun u hu => by
  subst hx hy hz hr; exact Add_ok a b u hu ha hb
theorem sub_lit (a b : Int) (x y z : List UInt8) (r : Int) (hx : Lib.itoa a = x) (hy : Lib.itoa b = y) (hz : outT (a - b) = z) (hr : errT (a - b) = r) (ha : okz a = true) (hb : okz b = true) : CallT 9 #[strOf x, strOf y] (.tuple #[strOf z, .int .i64 r]) := fun u hu => by
  subst hx hy hz hr; exact Sub_ok a b u hu ha hb
theorem mul_lit (a b : Int) (x y z : List UInt8) (r : Int) (hx : Lib.itoa a = x) (hy : Lib.itoa b = y) (hz : outT (a * b) = z) (hr : errT (a * b) = r) (ha : okz a = true) (hb : okz b = true) : CallT 11 #[strOf x, strOf y] (.tuple #[strOf z, .int .i64 r]) := fun u hu => by
  subst hx hy hz hr; exact Mul_ok a b u hu ha hb
theorem gcd_lit (a b : Int) (x y z : List UInt8) (r : Int) (hx : Lib.itoa a = x) (hy : Lib.itoa b = y) (hz : outT ((Nat.gcd a.natAbs b.natAbs : Nat) : Int) = z) (hr : errT ((Nat.gcd a.natAbs b.natAbs : Nat) : Int) = r) (ha : okz a = true) (hb : okz b = true) : CallT 15 #[strOf x, strOf y] (.tuple #[strOf z, .int .i64 r]) := fun u hu => by
  subst hx hy hz hr; exact Gcd_ok a b u hu ha hb
theorem div_lit (a b : Int) (x y z t : List UInt8) (hx : Lib.itoa a = x) (hy : Lib.itoa b = y) (hz : outT (a / b) = z) (ht : outT (a % b) = t) (ha : okz a = true) (hb : okz b = true) (h0 : b ≠ 0) : CallT 13 #[strOf x, strOf y] (.tuple #[strOf z, strOf t, .int .i64 0]) := fun u hu => by
  subst hx hy hz ht; exact div_ok a b u hu ha hb h0
theorem root_lit (a : Int) (x z : List UInt8) (r : Int) (q : Nat) (hx : Lib.itoa a = x) (hq : q * q ≤ a.natAbs) (hq2 : a.natAbs < (q + 1) * (q + 1)) (hz : outT (q : Int) = z) (hr : errT (q : Int) = r) (ha : okz a = true) (hn : ¬ a < 0) : CallT 17 #[strOf x] (.tuple #[strOf z, .int .i64 r]) := fun u hu => by
  subst hx hz hr
  have h := root_ok a u hu ha hn
  rw [Im.isqrt_uniq _ q hq hq2] at h; exact h

theorem sane_H1 : CallT 7 #[.string ⟨#[57, 57, 57]⟩, .string ⟨#[49]⟩] (.tuple #[.string ⟨#[49, 48, 48, 48]⟩, .int .i64 0]) :=
  add_lit 999 1 [57, 57, 57] [49] [49, 48, 48, 48] 0 (by decide +kernel) (by decide +kernel) (by decide +kernel) (by decide +kernel) (by decide +kernel) (by decide +kernel)
theorem sane_H2 : CallT 9 #[.string ⟨#[49]⟩, .string ⟨#[49, 48, 48, 48]⟩] (.tuple #[.string ⟨#[45, 57, 57, 57]⟩, .int .i64 0]) :=
  sub_lit 1 1000 [49] [49, 48, 48, 48] [45, 57, 57, 57] 0 (by decide +kernel) (by decide +kernel) (by decide +kernel) (by decide +kernel) (by decide +kernel) (by decide +kernel)
theorem sane_H3 : CallT 11 #[.string ⟨#[45, 49, 50]⟩, .string ⟨#[49, 50]⟩] (.tuple #[.string ⟨#[45, 49, 52, 52]⟩, .int .i64 0]) :=
  mul_lit (-12) 12 [45, 49, 50] [49, 50] [45, 49, 52, 52] 0 (by decide +kernel) (by decide +kernel) (by decide +kernel) (by decide +kernel) (by decide +kernel) (by decide +kernel)
theorem sane_H4 : CallT 13 #[.string ⟨#[45, 55]⟩, .string ⟨#[50]⟩] (.tuple #[.string ⟨#[45, 52]⟩, .string ⟨#[49]⟩, .int .i64 0]) :=
  div_lit (-7) 2 [45, 55] [50] [45, 52] [49] (by decide +kernel) (by decide +kernel) (by decide +kernel) (by decide +kernel) (by decide +kernel) (by decide +kernel) (by decide)
theorem sane_H5 : CallT 13 #[.string ⟨#[45, 55]⟩, .string ⟨#[45, 50]⟩] (.tuple #[.string ⟨#[52]⟩, .string ⟨#[49]⟩, .int .i64 0]) :=
  div_lit (-7) (-2) [45, 55] [45, 50] [52] [49] (by decide +kernel) (by decide +kernel) (by decide +kernel) (by decide +kernel) (by decide +kernel) (by decide +kernel) (by decide)
theorem sane_H6 : CallT 15 #[.string ⟨#[49, 50]⟩, .string ⟨#[45, 49, 56]⟩] (.tuple #[.string ⟨#[54]⟩, .int .i64 0]) :=
  gcd_lit 12 (-18) [49, 50] [45, 49, 56] [54] 0 (by decide +kernel) (by decide +kernel) (by decide +kernel) (by decide +kernel) (by decide +kernel) (by decide +kernel)
theorem sane_H7 : CallT 17 #[.string ⟨#[57, 57]⟩] (.tuple #[.string ⟨#[57]⟩, .int .i64 0]) :=
  root_lit 99 [57, 57] [57] 0 9 (by decide +kernel) (by decide) (by decide) (by decide +kernel) (by decide +kernel) (by decide +kernel) (by decide)
theorem sane_H8 : CallT 17 #[.string ⟨#[45, 49]⟩] (.tuple #[.string ⟨#[]⟩, .int .i64 30]) :=
  fun u _ => by
    have h := root_neg (-1) u (by decide +kernel) (by decide)
    rw [show Lib.itoa (-1) = [45, 49] from by decide +kernel] at h
    exact h
theorem sane_H9 : CallT 7 #[.string ⟨#[48, 48, 55]⟩, .string ⟨#[49]⟩] (.tuple #[.string ⟨#[]⟩, .int .i64 30]) :=
  fun u _ => Add_bad [48, 48, 55] [49] u (by decide +kernel)
theorem sane_H10 : CallT 21 #[.string ⟨#[45, 55]⟩] (.bool true) :=
  fun u _ => by
    have h := valid_any [45, 55] u
    rw [show Im.vld [45, 55] = true from by decide +kernel] at h
    exact h
theorem sane_H11 : CallT 21 #[.string ⟨#[45, 48]⟩] (.bool false) :=
  fun u _ => by
    have h := valid_any [45, 48] u
    rw [show Im.vld [45, 48] = false from by decide +kernel] at h
    exact h
theorem sane_H12 : CallT 21 #[.string ⟨#[]⟩] (.bool false) :=
  fun u _ => by
    have h := valid_any [] u
    rw [show Im.vld [] = false from by decide +kernel] at h
    exact h
theorem sane_H13 : CallT 23 #[.string ⟨#[45, 56]⟩, .string ⟨#[45, 55]⟩] (.int .i64 (-1)) :=
  fun u _ => by
    have h := cmpI_ok (-8) (-7) u (by decide +kernel) (by decide +kernel)
    rw [show Lib.itoa (-8) = [45, 56] from by decide +kernel, show Lib.itoa (-7) = [45, 55] from by decide +kernel, sg_lt (by decide)] at h
    exact h
end Go.Proofs.YtflpfmkfjccmiaaGreatDoor
