/- The condition of the two rows that call ToInt: the tables and the errors' variables. -/
import Derived.Test.YtflpfmkfjccmiaaGreatDoorKit
import Derived.Test.YtflpfmkfjccmiaaGreatDoorKi
import Derived.Stop.LaidErr
namespace Go.Proofs.YtflpfmkfjccmiaaGreatDoor
open Go.ChangeShapes Go.WideShapes Go.ChangeAt Go.WideMaps Go.WideElems Go.RowKit

abbrev tabLaid5 : List (String × DataW Unit) := [("math/bits.deBruijn32tab", Rows.laid_math_bits_deBruijn32tab), ("math/bits.deBruijn64tab", Rows.laid_math_bits_deBruijn64tab), ("internal/strconv.uint64pow10", Rows.laid_internal_strconv_uint64pow10), ("strconv.ErrRange", Rows.laid_strconv_ErrRange), ("strconv.ErrSyntax", Rows.laid_strconv_ErrSyntax)]
theorem door_met5 (os : Os) (args : Array Value) : laidMetH Tryz.prog tabLaid5 ((World.doorLaid Tryz.prog 400 os).forCall (fun _ _ => 0) ⟨#[], args, []⟩).memory :=
  laidMetH_of_parts3 (fuel := 8) (laidMet_of_run' 8 (by kernel_rfl) (by kernel_rfl)) (by kernel_rfl) (by kernel_rfl)
theorem gER : Tryz.prog.globalNamed "strconv.ErrRange" = some 1 := by kernel_rfl
theorem gERT : (Tryz.prog.globals[1]?).map (·.type) = some 66 := by kernel_rfl
theorem cES : Tryz.prog.cellsOf 133 = 1 := by kernel_rfl
theorem cStr : Tryz.prog.cellsOf 9 = 1 := by kernel_rfl
theorem rowES (u : TypeId) (h : Tryz.prog.typeName? 3 u = some "*errors.errorString") : u = 131 := by
  have e : "*" ++ "errors.errorString" = "*errors.errorString" := by decide
  exact typeName_ptr_named (nm := "errors.errorString") (by rw [e]; kernel_rfl) (by kernel_rfl) (by decide) u (by rw [e]; exact h)
theorem both_of_laid {W : World} (h : laidMetH Tryz.prog tabLaid5 W) : TabP W ∧ ErrP W := by
  rw [MakeChecks.laidMetH_plain _ _ _ (by kernel_rfl)] at h
  have h3 := h.tail.tail
  obtain ⟨a1, s1, hv1, -, -, -⟩ := laid_sentinel h3.tail gER gERT Tryz.underlying66 rowES Tryz.underlying131 Tryz.underlying133 rfl rfl Tryz.underlying9 cES cStr
  exact ⟨Lib.tabIs_of_head (P := Tryz.prog) (W := W) (name := "internal/strconv.uint64pow10") (k := .u64) (zs := Lib.pow10Tab) gTab tTab Tryz.underlying135 Tryz.underlying116 cU64 cTab h3, _, _, hv1⟩
end Go.Proofs.YtflpfmkfjccmiaaGreatDoor
