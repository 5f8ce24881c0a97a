/-
  awake of layer 1 answers true: the answers that the document fixes are the program's. No conditions.
-/
import Derived.Test.YtbmjnajajimmmaaNumE
namespace Go.Proofs.Ytbmjnajajimmmaa
open Go.RowKit

theorem aw1 (w : World) : Calls Try.prog 7 #[.int .i64 2, .int .i64 3] w fun e w' => e = .returned (.tuple #[.int .i64 5, .int .i64 0]) ∧ w = w' := by
  have h := add_any 2 3 (by simp [InR]) (by simp [InR]) w
  rw [tv_in (by simp [InR]), te_in (by simp [InR])] at h; exact h
theorem aw2 (w : World) : Calls Try.prog 7 #[.int .i64 9223372036854775807, .int .i64 1] w fun e w' => e = .returned (.tuple #[.int .i64 0, .int .i64 10]) ∧ w = w' := by
  have h := add_any 9223372036854775807 1 (by simp [InR]) (by simp [InR]) w
  rw [tv_out (by simp [InR]), te_out (by simp [InR])] at h; exact h
theorem aw3 (w : World) : Calls Try.prog 11 #[.int .i64 (-5), .int .i64 3] w fun e w' => e = .returned (.tuple #[.int .i64 (-8), .int .i64 0]) ∧ w = w' := by
  have h := sub_any (-5) 3 (by simp [InR]) (by simp [InR]) w
  rw [tv_in (by simp [InR]), te_in (by simp [InR])] at h; exact h
theorem aw4 (w : World) : Calls Try.prog 13 #[.int .i64 (-9223372036854775808)] w fun e w' => e = .returned (.tuple #[.int .i64 0, .int .i64 10]) ∧ w = w' := by
  have h := neg_any (-9223372036854775808) (by simp [InR]) w
  rw [tv_out (by simp [InR]), te_out (by simp [InR])] at h; exact h
theorem aw5 (w : World) : Calls Try.prog 15 #[.int .i64 (-4)] w fun e w' => e = .returned (.tuple #[.int .i64 4, .int .i64 0]) ∧ w = w' := by
  have h := abs_any (-4) (by simp [InR]) w
  rw [tv_in (by simp [InR]), te_in (by simp [InR])] at h; exact h
theorem aw6 (b : Nat) (w : World) (c0 : w.cell? ⟨b, 0, none⟩ = some (.int .i64 9223372036854775807)) (c1 : w.cell? ⟨b, 1, none⟩ = some (.int .i64 1)) (c2 : w.cell? ⟨b, 2, none⟩ = some (.int .i64 (-5))) :
    Calls Try.prog 19 #[.slice (some ⟨b, 0, none⟩) 3 3] w fun e w' => e = .returned (.tuple #[.int .i64 9223372036854775803, .int .i64 0]) ∧ Below w.heap.size w w' := by
  have h := sum_any (some ⟨b, 0, none⟩) [9223372036854775807, 1, -5] 3 w ⟨by simp [InR], fun i hi => ⟨b, 0, rfl, by
    match i, hi with
    | 0, _ => simpa using c0
    | 1, _ => simpa using c1
    | 2, _ => simpa using c2⟩⟩ (by simp)
  rw [tv_in (by simp [InR]), te_in (by simp [InR])] at h; exact h
theorem aw7 (b : Nat) (w : World) (c0 : w.cell? ⟨b, 0, none⟩ = some (.int .i64 9223372036854775807)) (c1 : w.cell? ⟨b, 1, none⟩ = some (.int .i64 1)) :
    Calls Try.prog 19 #[.slice (some ⟨b, 0, none⟩) 2 2] w fun e w' => e = .returned (.tuple #[.int .i64 0, .int .i64 10]) ∧ Below w.heap.size w w' := by
  have h := sum_any (some ⟨b, 0, none⟩) [9223372036854775807, 1] 2 w ⟨by simp [InR], fun i hi => ⟨b, 0, rfl, by
    match i, hi with
    | 0, _ => simpa using c0
    | 1, _ => simpa using c1⟩⟩ (by simp)
  rw [tv_out (by simp [InR]), te_out (by simp [InR])] at h; exact h
theorem aw8 (b c : Nat) (w : World) (c0 : w.cell? ⟨b, 0, none⟩ = some (.int .i64 1)) (c1 : w.cell? ⟨b, 1, none⟩ = some (.int .i64 2)) (d0 : w.cell? ⟨c, 0, none⟩ = some (.int .i64 5)) :
    Calls Try.prog 21 #[.slice (some ⟨b, 0, none⟩) 2 2, .slice (some ⟨c, 0, none⟩) 1 1] w fun e w' => e = .returned (.tuple #[.int .i64 (-2), .int .i64 0]) ∧ Below w.heap.size w w' := by
  have h := net_any (some ⟨b, 0, none⟩) (some ⟨c, 0, none⟩) [1, 2] [5] 2 1 w ⟨by simp [InR], fun i hi => ⟨b, 0, rfl, by
    match i, hi with
    | 0, _ => simpa using c0
    | 1, _ => simpa using c1⟩⟩ ⟨by simp [InR], fun i hi => ⟨c, 0, rfl, by
    match i, hi with
    | 0, _ => simpa using d0⟩⟩ (by simp) (by simp)
  rw [tv_in (by simp [InR]), te_in (by simp [InR])] at h; exact h

theorem aw9 (w : World) : Calls Try.prog 16 #[.int .i64 1, .int .i64 2] w fun e w' => e = .returned (.int .i64 (-1)) ∧ w = w' := by
  have h := cmp_any 1 2 w
  rw [show cmpv 1 2 = (-1) by simp [cmpv]] at h; exact h
theorem aw10 (w : World) : Calls Try.prog 16 #[.int .i64 2, .int .i64 1] w fun e w' => e = .returned (.int .i64 1) ∧ w = w' := by
  have h := cmp_any 2 1 w
  rw [show cmpv 2 1 = 1 by simp [cmpv]] at h; exact h
theorem aw11 (w : World) : Calls Try.prog 16 #[.int .i64 2, .int .i64 2] w fun e w' => e = .returned (.int .i64 0) ∧ w = w' := by
  have h := cmp_any 2 2 w
  rw [show cmpv 2 2 = 0 by simp [cmpv]] at h; exact h
end Go.Proofs.Ytbmjnajajimmmaa
