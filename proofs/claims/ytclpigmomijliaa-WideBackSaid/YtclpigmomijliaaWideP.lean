/-
  WideProducts and WideBack of layer 2 answer true, for whatever numbers in range and whatever wide numbers. No conditions besides.
-/
import Derived.Test.YtclpigmomijliaaWideF
import Derived.Test.YtclpigmomijliaaWideH
import Derived.Test.YtclpigmomijliaaWideI
namespace Go.Proofs.Ytclpigmomijliaa
open Go.RowKit
set_option linter.unusedSimpArgs false

theorem products_all (a b c : Int) (ha : InR a) (hb : InR b) (hc : InR c) (w : World) :
    Calls Try.prog 6 #[.int .i64 a, .int .i64 b, .int .i64 c] w fun e w' => e = .returned (.bool true) ∧ Below w.heap.size w w' :=
  products_any a b c ha hb hc w_awake w

theorem back_all (n h l h' l' : Int) (hn : InR n) (hh : InR h) (hl : InU l) (hh' : InR h') (hl' : InU l') (w : World) :
    Calls Try.prog 5 #[.int .i64 n, .agg #[.int .i64 h, .int .u64 l], .agg #[.int .i64 h', .int .u64 l']] w fun e w' => e = .returned (.bool true) ∧ Below w.heap.size w w' := by
  have := back2_any n (wideOf h l) (wideOf h' l') hn (wide_in hh hl) (wide_in hh' hl') w_awake w
  rwa [vhi_of hh hl, vlo_of hl, vhi_of hh' hl', vlo_of hl'] at this
end Go.Proofs.Ytclpigmomijliaa
