/-
  What scan's own calls ask of the world: the library's table of powers of 10 reads as it was laid, the library's number that they read is one, and the library's error that they read is one; that it stays so while the world below grows no other way. No conditions.
-/
import Derived.Test.YtmmjkbjceocpmaaDoorRows
import Derived.Lib.AppendIntMem
namespace Go.Proofs.YtmmjkbjceocpmaaDoor
open Go.RowKit
set_option linter.unusedVariables false

/-- The table's name, and the error's. -/
def pname : String := Rows.scanTellsRow.named.getD 2 default
theorem pname_is : Tryd.prog.globalNamed pname = some 3 := by kernel_rfl
def ename : String := Rows.scanTellsRow.named.getD 1 default
theorem ename_is : Tryd.prog.globalNamed ename = some 1 := by kernel_rfl
/-- The library's variables read as they must. -/
structure Laid (w : World) : Prop where
  tab : Lib.TabIs Tryd.prog w pname .u64 Lib.pow10Tab
  len : ∃ m, w.cell? ⟨2, 0, none⟩ = some (.int .i64 m)
  err : ∃ te pe, w.cell? ⟨1, 0, none⟩ = some (.iface te pe)
theorem Laid.on {w w' : World} (h : Laid w) (hb : Below w.heap.size w w') : Laid w' := by
  obtain ⟨m, hm⟩ := h.len
  obtain ⟨te, pe, he⟩ := h.err
  exact ⟨(Lib.tabBelow_of_tabIs h.tab) w' hb, ⟨m, (hb.cell (World.block_lt_of_cell? w _ hm)).trans hm⟩, te, pe, (hb.cell (World.block_lt_of_cell? w _ he)).trans he⟩
theorem Laid.all {w : World} (h : Laid w) : ∀ w', Below w.heap.size w w' → Laid w' := fun _ hb => h.on hb
end Go.Proofs.YtmmjkbjceocpmaaDoor
