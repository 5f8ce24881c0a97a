/-
  The library's slices.Sorted over slices.Values, and slices.BinarySearch of a sorted row. The conditions: a row of at most 1000000.
-/
import Derived.Test.YtadbelkckeokjaaEntB
import Derived.Test.YtadbelkckeokjaaSrt
import Derived.Test.YtadbelkckeokjaaSq
import Derived.Lib.SlKeysI
import Derived.Deep.QuietTactic
import Derived.BigQuiet
import Derived.WalkSmall
namespace Go.Proofs.Ytadbelkckeokjaa
open Go.RowKit Go.Sort
set_option linter.unusedSimpArgs false
set_option linter.unusedVariables false

theorem sorted_v (Bs : Nat) (a : Option Addr) (c : Nat) (L : List Int) (hl : L.length ≤ 1000000) (w : World) (hBs : w.cell? ⟨Bs, 0, none⟩ = some (.slice a L.length c)) (hL : Reads w a L) :
    Calls Try.prog 16 #[.func (.func 22) #[] #[.pointer (some ⟨Bs, 0, none⟩)]] w fun e w' => ∃ v, e = .returned v ∧ Own w' w.heap.size v (L.mergeSort fun x y => decide (x ≤ y)) ∧ Below w.heap.size w w' := by
  have h := collect_v Bs a c L hl w hBs hL
  clear hBs hL
  go_enter Try.func16, Try.ntmps16
  go_wp2_with fail
  refine h.mono ?_; rintro e w1 ⟨v, rfl, ho, hb⟩
  have hs := sort_own ho hl hb.size
  clear ho
  go_wp2_with fail
  refine hs.mono ?_; rintro e w2 ⟨rfl, ho, hb2⟩
  have HB := Lib.hid (hb.trans hb2)
  clear hb hb2
  go_wp2_with fail
  go_ret
  exact ⟨v, rfl, ho, HB.out⟩
set_option maxHeartbeats 1000000 in
theorem search_nil (a : Option Addr) (c : Nat) (x : Int) (w : World) :
    Calls Try.prog 19 #[.slice a 0 c, .int .i64 x] w fun e w' => e = .returned (.tuple #[.int .i64 0, .bool false]) ∧ w' = w := by
  go_enter Try.func19, Try.ntmps19
  go_wp2
  go_loopg [7, 8] 0 (fun _ s7 s8 wr => s7 = .int .i64 0 ∧ s8 = .int .i64 0 ∧ wr = w)
  case atStart => exact ⟨rfl, rfl, rfl⟩
  case round =>
    obtain ⟨rfl, rfl, rfl⟩ := hrel
    go_wp2
    go_ret2
    exact ⟨rfl, rfl⟩
theorem search_v (a : Option Addr) (c : Nat) (L : List Int) (x : Int) (hl : L.length ≤ 1000000) (w : World) (hL : Reads w a L) (hs : L.Pairwise (· ≤ ·)) :
    Calls Try.prog 19 #[.slice a L.length c, .int .i64 x] w fun e w' => ∃ i : Int, e = .returned (.tuple #[.int .i64 i, .bool (decide (x ∈ L))]) ∧ Below w.heap.size w w' := by
  rcases Nat.eq_zero_or_pos L.length with h0 | h0
  · have hz : L = [] := List.eq_nil_of_length_eq_zero h0
    subst hz
    refine (search_nil a c x w).mono ?_; rintro e w' ⟨rfl, rfl⟩
    exact ⟨0, by simp, Below.refl _ _⟩
  · obtain ⟨b, off, rfl, -⟩ := hL.2 0 h0
    refine (Try.search_row b off L.length c L x w (Nat.le_refl _) (by omega) (fun j hj => ?_) (by rw [List.take_length]; exact hs)).mono ?_
    · obtain ⟨b', off', q, hc⟩ := hL.2 j hj
      cases q; exact hc
    · rintro e w' ⟨rfl, q, rfl⟩
      rw [List.take_length]
      exact ⟨_, by rw [List.contains_eq_mem], below_drewN (Below.refl _ _) q⟩
end Go.Proofs.Ytadbelkckeokjaa
