/-
  WideSums of layer 2 answers true, for whatever wide numbers. No conditions besides.
-/
import Derived.Test.YtclpigmomijliaaWideF
import Derived.Test.YtclpigmomijliaaWideK
namespace Go.Proofs.Ytclpigmomijliaa
open Go.RowKit

theorem sums2_all (h l h' l' : Int) (hh : InR h) (hl : InU l) (hh' : InR h') (hl' : InU l') (w : World) :
    Calls Try.prog 4 #[.agg #[.int .i64 h, .int .u64 l], .agg #[.int .i64 h', .int .u64 l']] w fun e w' => e = .returned (.bool true) ∧ Below w.heap.size w w' := by
  have := sums2_any (wideOf h l) (wideOf h' l') (wide_in hh hl) (wide_in hh' hl') w_awake w
  rwa [vhi_of hh hl, vlo_of hl, vhi_of hh' hl', vlo_of hl'] at this
end Go.Proofs.Ytclpigmomijliaa
