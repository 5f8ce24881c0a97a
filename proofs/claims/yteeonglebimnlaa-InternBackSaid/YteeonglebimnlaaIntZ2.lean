/-
  The contracts that InternBack asks for, of a table of structs, proved.
-/
import Derived.Test.YteeonglebimnlaaIntL
import Derived.Test.YteeonglebimnlaaIntZ
import Derived.Test.YteeonglebimnlaaTblX
namespace Go.Proofs.Yteeonglebimnlaa
def hTK : TabK := tabK
end Go.Proofs.Yteeonglebimnlaa
