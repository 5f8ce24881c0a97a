/-
  awake of layer 10 answers true over a queue's contracts. The conditions: the contracts.
-/
import Derived.Test.YtjljjbfeefcnkaaLanT
import Derived.BigQuiet
import Derived.Deep.RegionWith
namespace Go.Proofs.Ytjljjbfeefcnkaa
open Go.RowKit
set_option linter.unusedSimpArgs false
set_option linter.unusedVariables false

set_option maxHeartbeats 8000000 in
set_option maxRecDepth 100000 in
theorem l_awake (T : QueI) (hE : EithC T) (hN : NilTake) (hP : NilPut) (w : World) : Calls Try.prog 6 #[] w fun e w' => e = .returned (.bool true) ∧ Below w.heap.size w w' := by
  have hn1 := One.new (T := T) 1 w (by decide) (by decide)
  have hn0 := fun w => T.new_no 0 w (by decide)
  go_enter Try.func6, Try.ntmps6
  go_wp2_with fail
  refine hn1.mono ?_; rintro e w1 ⟨B, rfl, hO⟩
  have hn2 := hO.new2 2 (by decide) (by decide)
  clear hn1
  go_wp2_with fail
  refine hn2.mono ?_; rintro e w2 ⟨C, rfl, hR2⟩
  clear hn2 hO
  have hc := hR2.putA 7 (by decide)
  rw [show qpe ([] : List Int) 1 = 0 by decide, show qput ([] : List Int) 1 7 = ([7] : List Int) by decide] at hc
  go_wp2_with fail
  refine hc.mono ?_; rintro e w3 ⟨rfl, hR3⟩
  clear hc hR2
  have hc := hR3.putA 8 (by decide)
  rw [show qpe ([7] : List Int) 1 = 3 by decide, show qput ([7] : List Int) 1 8 = ([7] : List Int) by decide] at hc
  go_wp2_with fail
  refine hc.mono ?_; rintro e w4 ⟨rfl, hR4⟩
  clear hc hR3
  have hc := hR4.putB 9 (by decide)
  rw [show qpe ([] : List Int) 2 = 0 by decide, show qput ([] : List Int) 2 9 = ([9] : List Int) by decide] at hc
  go_wp2_with fail
  refine hc.mono ?_; rintro e w5 ⟨rfl, hR5⟩
  clear hc hR4
  have hc := hR5.lenA
  rw [show ((([7] : List Int)).length : Int) = 1 by decide] at hc
  go_wp2_with fail
  refine hc.mono ?_; rintro e w6 ⟨rfl, hq⟩
  have hR6 := hR5.below hq
  clear hc hq hR5
  have hc := hR6.either hE
  rw [show eiv ([7] : List Int) ([9] : List Int) = 7 by decide, show eib ([7] : List Int) ([9] : List Int) = true by decide, show eiL ([7] : List Int) = ([] : List Int) by decide, show eiM ([7] : List Int) ([9] : List Int) = ([9] : List Int) by decide] at hc
  go_wp2_with fail
  refine hc.mono ?_; rintro e w7 ⟨rfl, hR7⟩
  clear hc hR6
  have hc := hR7.either hE
  rw [show eiv ([] : List Int) ([9] : List Int) = 9 by decide, show eib ([] : List Int) ([9] : List Int) = true by decide, show eiL ([] : List Int) = ([] : List Int) by decide, show eiM ([] : List Int) ([9] : List Int) = ([] : List Int) by decide] at hc
  go_wp2_with fail
  refine hc.mono ?_; rintro e w8 ⟨rfl, hR8⟩
  clear hc hR7
  have hc := hR8.either hE
  rw [show eiv ([] : List Int) ([] : List Int) = 0 by decide, show eib ([] : List Int) ([] : List Int) = false by decide, show eiL ([] : List Int) = ([] : List Int) by decide, show eiM ([] : List Int) ([] : List Int) = ([] : List Int) by decide] at hc
  go_wp2_with fail
  refine hc.mono ?_; rintro e w9 ⟨rfl, hR9⟩
  clear hc hR8
  go_wp2_with fail
  refine (hn0 _).mono ?_; rintro e w10 ⟨rfl, hq⟩
  have hR10 := hR9.below hq
  clear hn0 hq hR9
  go_wp2_with fail
  refine (hN _).mono ?_; rintro e w11 ⟨rfl, hq⟩
  have hR11 := hR10.below hq
  clear hN hq hR10
  go_wp2_with fail
  refine (hP _ _).mono ?_; rintro e w12 ⟨rfl, hq⟩
  have hR12 := hR11.below hq
  clear hP hq hR11
  have hc := hR12.roomB
  go_wp2_with fail
  refine hc.mono ?_; rintro e w13 ⟨rfl, hq⟩
  have hR13 := hR12.below hq
  clear hc hq hR12
  have hc := hR13.lenB
  rw [show ((([] : List Int)).length : Int) = 0 by decide] at hc
  go_wp2_with fail
  refine hc.mono ?_; rintro e w14 ⟨rfl, hq⟩
  have hb := (hR13.below hq).hb
  clear hc hq hR13
  go_wp2_with fail
  go_ret
  exact ⟨rfl, hb⟩
end Go.Proofs.Ytjljjbfeefcnkaa
