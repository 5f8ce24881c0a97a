/-
  Plain arithmetic for layer 1 (num), without any Go: what it means that a whole number is in range, and what is told of one (itself, or nought with the error's number). No conditions.
-/
import Derived.WalkKit
import Derived.OpenShut
namespace Go.Proofs.Ytbmjnajajimmmaa

/-- In the range of int. -/
def InR (x : Int) : Prop := -9223372036854775808 ≤ x ∧ x ≤ 9223372036854775807
instance instDecInR (x : Int) : Decidable (InR x) := by unfold InR; infer_instance

/-- The number that is told, and the error's number. -/
def tv (x : Int) : Int := if InR x then x else 0
def te (x : Int) : Int := if InR x then 0 else 10

theorem tv_in {x : Int} (h : InR x) : tv x = x := if_pos h
theorem te_in {x : Int} (h : InR x) : te x = 0 := if_pos h
theorem tv_out {x : Int} (h : ¬ InR x) : tv x = 0 := if_neg h
theorem te_out {x : Int} (h : ¬ InR x) : te x = 10 := if_neg h
theorem inR_of {x : Int} (h : (Lit.int .i64 x).wf = true) : InR x := by
  have := bounds_i64 h
  unfold InR; omega
theorem tv_inR (x : Int) : InR (tv x) := by
  unfold tv; split
  · assumption
  · unfold InR; omega

end Go.Proofs.Ytbmjnajajimmmaa
