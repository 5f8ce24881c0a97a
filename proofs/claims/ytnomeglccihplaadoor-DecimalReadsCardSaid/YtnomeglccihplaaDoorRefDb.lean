/-
  What the document's own Print (gavelkindref06) answers, for whatever amount and decimals in range. No conditions besides.
-/
import Derived.Test.YtnomeglccihplaaDoorRefD0
import Derived.Test.YtnomeglccihplaaDoorRefDa
namespace Go.Proofs.YtnomeglccihplaaDoor
open Go.RowKit
set_option linter.unusedSimpArgs false
set_option linter.unusedVariables false

set_option maxHeartbeats 1000000 in
theorem r6print_any (x d : Int) (hx : InR x) (w : World) :
    Calls Tryd.prog 8 #[.int .i64 x, .int .i64 d] w fun e w' => e = .returned (.tuple #[.string (printv x d), .int .i64 (dc d)]) ∧ Below w.heap.size w w' := by
  have hm := r6may_any d
  unfold printv
  by_cases h : OkD d
  · rw [dc_ok h, if_pos h]
    rw [decide_eq_true h] at hm
    have lx := digs_19 hx
    have hO := of_any x hx
    have hd : ((d.toNat : Nat) : Int) = d := Int.toNat_of_nonneg (by unfold OkD at h; omega)
    have hT := fun (w : World) (v : Value) (hv : Big w v x) => r6text_any v x d.toNat w hv (by unfold OkD at h; omega) (by omega)
    rw [hd] at hT
    generalize dtext x d.toNat = T at *
    clear h lx hd hx
    go_enter Tryd.func8, Tryd.ntmps8
    go_wp2_with fail
    refine (hm _).mono ?_; rintro e w0 ⟨rfl, rfl⟩
    go_wp2_with fail
    refine (hO _).mono ?_; rintro e w1 ⟨u1, rfl, hu1, hb1⟩
    go_wp2_with fail
    refine (hT _ _ hu1).mono ?_; rintro e w2 ⟨rfl, hb2⟩
    go_wp2_with fail
    go_ret2
    exact ⟨rfl, hb1.trans (hb2.mono hb1.size)⟩
  · rw [dc_no h, if_neg h]
    rw [decide_eq_false h] at hm
    clear h hx
    go_enter Tryd.func8, Tryd.ntmps8
    go_wp2_with fail
    refine (hm _).mono ?_; rintro e w0 ⟨rfl, rfl⟩
    go_wp2_with fail
    go_ret2
    exact ⟨rfl, Below.refl _ _⟩
end Go.Proofs.YtnomeglccihplaaDoor
