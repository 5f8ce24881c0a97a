/-
  A piece of a string of bytes. No Go function is walked here.
-/
import Derived.Test.YtmmjkbjceocpmaaDoorDecM
namespace Go.Proofs.YtmmjkbjceocpmaaDoor
theorem bs_cut (l : List UInt8) (a b : Nat) : (bs l).extract a b = bs ((l.drop a).take (b - a)) := by
  apply ByteArray.ext
  simp [bs, ByteArray.data_extract, List.extract]
theorem bs_list (a : List UInt8) : (bs a).toList = a := by rw [ByteArray.toList_eq]; simp [bs]
end Go.Proofs.YtmmjkbjceocpmaaDoor
