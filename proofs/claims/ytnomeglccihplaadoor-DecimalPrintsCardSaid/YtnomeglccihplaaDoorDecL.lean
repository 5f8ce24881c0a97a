/-
  What decimal's own calls ask of the world: the library's table of powers of 10 reads as it was laid, and the library's other variable that they read holds a number; that it stays so while the world below grows no other way. No conditions.
-/
import Derived.Test.YtnomeglccihplaaDoorRows
import Derived.Lib.AppendIntMem
namespace Go.Proofs.YtnomeglccihplaaDoor
open Go.RowKit
set_option linter.unusedVariables false

/-- The table's name. -/
def pname : String := Rows.decimalPrintsRow.named.headD default
theorem pname_is : Tryd.prog.globalNamed pname = some 0 := by kernel_rfl
/-- The library's variables read as they must. -/
structure Laid (w : World) : Prop where
  tab : Lib.TabIs Tryd.prog w pname .u64 Lib.pow10Tab
  len : ∃ m, w.cell? ⟨1, 0, none⟩ = some (.int .i64 m)
theorem Laid.on {w w' : World} (h : Laid w) (hb : Below w.heap.size w w') : Laid w' := by
  obtain ⟨m, hm⟩ := h.len
  exact ⟨(Lib.tabBelow_of_tabIs h.tab) w' hb, m, (hb.cell (World.block_lt_of_cell? w _ hm)).trans hm⟩
theorem Laid.all {w : World} (h : Laid w) : ∀ w', Below w.heap.size w w' → Laid w' := fun _ hb => h.on hb
end Go.Proofs.YtnomeglccihplaaDoor
