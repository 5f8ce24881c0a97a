/-
  WideTells of layer 2 answers true, for whatever numbers in range. No conditions besides.
-/
import Derived.Test.YtclpigmomijliaaWideF
import Derived.Test.YtclpigmomijliaaWideJ
namespace Go.Proofs.Ytclpigmomijliaa
open Go.RowKit

theorem tells2_all (a b : Int) (ha : InR a) (hb : InR b) (w : World) :
    Calls Try.prog 3 #[.int .i64 a, .int .i64 b] w fun e w' => e = .returned (.bool true) ∧ Below w.heap.size w w' :=
  tells2_any a b ha hb w_awake w
end Go.Proofs.Ytclpigmomijliaa
