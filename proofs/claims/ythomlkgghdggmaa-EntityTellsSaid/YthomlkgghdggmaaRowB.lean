/-
  A slice of numbers that came in reads as the walks ask. No Go function is walked here.
-/
import Derived.Test.YthomlkgghdggmaaRowA
import Derived.Test.YthomlkgghdggmaaMath
namespace Go.Proofs.Ythomlkgghdggmaa
theorem reads_of {w : World} {a : Option Addr} {c : Nat} {l : List Int} (h : Go.RowsIn.IntS w a c l) : Reads w a l := by
  refine ⟨fun z hz => ?_, fun i hi => ?_⟩
  · obtain ⟨i, hi, rfl⟩ := List.mem_iff_getElem.1 hz
    obtain ⟨b, off, _, _, hr⟩ := h.2.2 i hi
    rwa [List.getD_eq_getElem?_getD, List.getElem?_eq_getElem hi] at hr
  · obtain ⟨b, off, h1, h2, _⟩ := h.2.2 i hi
    exact ⟨b, off, h1, h2⟩
end Go.Proofs.Ythomlkgghdggmaa
