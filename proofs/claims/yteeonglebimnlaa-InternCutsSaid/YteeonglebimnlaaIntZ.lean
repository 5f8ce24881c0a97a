/-
  The contracts that the laws of layer 8 ask for, proved: numbers and texts.
-/
import Derived.Test.YteeonglebimnlaaIntP
import Derived.Test.YteeonglebimnlaaIntC
import Derived.Test.YteeonglebimnlaaTblJ
import Derived.Test.YteeonglebimnlaaTblS
namespace Go.Proofs.Yteeonglebimnlaa
def hTI : TabI := tabI
def hTS : TabS := tabS
theorem hNil : NilS := nil_s
end Go.Proofs.Yteeonglebimnlaa
