/- The library's error, out of what a row lays. -/
import Derived.Test.YtplggcfoadjffaaGreatDoorOg
import Derived.Stop.LaidErr
import Derived.MakeChecks
namespace Go.Proofs.YtplggcfoadjffaaGreatDoor
open Go.RowKit
set_option maxRecDepth 100000
set_option linter.unusedVariables false

theorem gES : Tryz.prog.globalNamed "strconv.ErrSyntax" = some (oAtoiC_ren.g 15) := by kernel_rfl
theorem gESType : (Tryz.prog.globals[oAtoiC_ren.g 15]?).map (·.type) = some 73 := by kernel_rfl
theorem cellsES : Tryz.prog.cellsOf 151 = 1 := by kernel_rfl
theorem cells9 : Tryz.prog.cellsOf 9 = 1 := by kernel_rfl
/-- The type's name, out of what is laid. -/
def nameES : String := match (Rows.laid_strconv_ErrSyntax : DataW Unit) with | .iface n _ => n | _ => default
theorem rowES (u : TypeId) (h : Tryz.prog.typeName? 3 u = some nameES) : u = 149 :=
  typeName_ptr_named (nm := "errors.errorString") (by kernel_rfl) (by kernel_rfl) (by decide) u (h.trans (congrArg some (by kernel_rfl)))
theorem err_laid {r : List (String × DataW Unit)} {W : World} (h : laidMet Tryz.prog (("strconv.ErrSyntax", Rows.laid_strconv_ErrSyntax) :: r) W) : ErrAt W := by
  obtain ⟨a0, s0, hv0, -, -, -⟩ := laid_sentinel h gES gESType Tryz.underlying73 rowES Tryz.underlying149 Tryz.underlying151 rfl rfl Tryz.underlying9 cellsES cells9
  exact ⟨_, _, by have h0 := World.var?_cell gES hv0 0; simpa using h0⟩
end Go.Proofs.YtplggcfoadjffaaGreatDoor
