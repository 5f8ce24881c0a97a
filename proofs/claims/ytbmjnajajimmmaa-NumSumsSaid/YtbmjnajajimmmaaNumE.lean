/-
  What num's Sum and Net answer: the sum of a list, or of one list less another, or nought with the error. The condition: the lists have at most 2^61 numbers each.
-/
import Derived.Test.YtbmjnajajimmmaaNumD
namespace Go.Proofs.Ytbmjnajajimmmaa
open Go.RowKit

/-- A slice that starts at a reads as the list L of numbers in range. -/
def Reads (w : World) (a : Option Addr) (L : List Int) : Prop :=
  (∀ z ∈ L, InR z) ∧ ∀ i, i < L.length → ∃ b off, a = some ⟨b, off, none⟩ ∧ w.cell? ⟨b, off + i, none⟩ = some (.int .i64 (L.getD i 0))

theorem Reads.below {w w' : World} {a : Option Addr} {L : List Int} (h : Reads w a L) (hb : Below w.heap.size w w') : Reads w' a L := by
  refine ⟨h.1, fun i hi => ?_⟩
  obtain ⟨b, off, ha, hc⟩ := h.2 i hi
  exact ⟨b, off, ha, (hb.cell (World.block_lt_of_cell? w _ hc)).trans hc⟩

theorem Reads.alloc {w : World} {a : Option Addr} {L : List Int} (h : Reads w a L) (o : Obj) : Reads (w.alloc o) a L :=
  h.below ((Below.refl _ _).alloc (Nat.le_refl _) _)

theorem getD_lt (L : List Int) (i : Nat) (hi : i < L.length) : L.getD i 0 = L[i] := by simp [List.getD, hi]

theorem Reads.at {w : World} {a : Option Addr} {L : List Int} (h : Reads w a L) (i : Nat) (hi : i < L.length) : InR (L.getD i 0) := by
  rw [getD_lt _ _ hi]; exact h.1 _ (List.getElem_mem hi)

theorem psum_congr (f g : Nat → Int) : ∀ n, (∀ i, i < n → f i = g i) → psum f n = psum g n
  | 0, _ => rfl
  | n + 1, h => by rw [psum, psum, psum_congr f g n (fun i hi => h i (by omega)), h n (by omega)]

theorem psum_take (L : List Int) : ∀ n, n ≤ L.length → psum (fun i => L.getD i 0) n = (L.take n).sum
  | 0, _ => by simp [psum]
  | n + 1, h => by
    rw [psum, psum_take L n (by omega), List.take_succ_eq_append_getElem (by omega), List.sum_append, getD_lt _ _ (by omega)]; simp

theorem psum_list (L : List Int) : psum (fun i => L.getD i 0) L.length = L.sum := by rw [psum_take L _ (Nat.le_refl _), List.take_length]

theorem psum_app (f g : Nat → Int) (n : Nat) : ∀ m, psum (fun i => if i < n then f i else g (i - n)) (n + m) = psum f n + psum g m
  | 0 => by
    have h : psum (fun i => if i < n then f i else g (i - n)) n = psum f n := psum_congr _ _ _ (fun i hi => by simp [hi])
    rw [Nat.add_zero, h]; simp [psum]
  | m + 1 => by
    have e : n + (m + 1) = (n + m) + 1 := by omega
    rw [e, psum, psum_app f g n m, psum]; simp; omega

theorem psum_neg (f : Nat → Int) : ∀ m, psum (fun i => - f i) m = - psum f m
  | 0 => by simp [psum]
  | m + 1 => by rw [psum, psum, psum_neg f m]; omega

set_option maxHeartbeats 400000 in
theorem sum_any (a : Option Addr) (L : List Int) (cap : Nat) (w : World) (hL : Reads w a L) (hn : L.length ≤ 2305843009213693952) :
    Calls Try.prog 19 #[.slice a L.length cap] w fun e w' => e = .returned (.tuple #[.int .i64 (tv L.sum), .int .i64 (te L.sum)]) ∧ Below w.heap.size w w' := by
  have ht : Tells 28 #[.pointer (some ⟨w.heap.size, 0, none⟩)] L.length (fun i => L.getD i 0) (w.alloc (.cells #[.slice a L.length cap] 27)) := by
    intro i w1 hi hb
    obtain ⟨b, off, rfl, hc⟩ := (hL.alloc (.cells #[.slice a L.length cap] 27)).2 i hi
    exact sum1_any w.heap.size b off L.length cap i _ (hL.at i hi) w1 ((hb.cell (by simp)).trans (by simp [go_sem])) hi ((hb.cell (World.block_lt_of_cell? _ _ hc)).trans hc)
  have hT := total_sum ⟨w.heap.size, 0, none⟩ L.length (fun i => L.getD i 0) _ (by omega) (fun i hi => inS_of (hL.at i hi)) ht
  rw [psum_list] at hT
  have HH := Lib.hid hL; clear hL
  go_enter Try.func19, Try.ntmps19
  go_wp2_with (go_at_call 27; refine hT.mono ?_; rintro e w1 ⟨rfl, hb1⟩)
  go_ret2
  exact ⟨rfl, ((Below.refl _ _).alloc (Nat.le_refl _) _).trans (hb1.mono (by simp))⟩

set_option maxHeartbeats 400000 in
theorem net_any (a b : Option Addr) (L M : List Int) (cap cap' : Nat) (w : World) (hL : Reads w a L) (hM : Reads w b M) (hn : L.length ≤ 2305843009213693952) (hm : M.length ≤ 2305843009213693952) :
    Calls Try.prog 21 #[.slice a L.length cap, .slice b M.length cap'] w fun e w' =>
      e = .returned (.tuple #[.int .i64 (tv (L.sum - M.sum)), .int .i64 (te (L.sum - M.sum))]) ∧ Below w.heap.size w w' := by
  have hf : ∀ i, i < L.length + M.length → InS (if i < L.length then L.getD i 0 else - M.getD (i - L.length) 0) := by
    intro i hi
    split
    · exact inS_of (hL.at i ‹_›)
    · exact inS_neg (hM.at _ (by omega))
  have ht : Tells 31 #[.pointer (some ⟨w.heap.size, 0, none⟩), .pointer (some ⟨w.heap.size + 1, 0, none⟩)] (L.length + M.length) (fun i => if i < L.length then L.getD i 0 else - M.getD (i - L.length) 0)
      ((w.alloc (.cells #[.slice a L.length cap] 27)).alloc (.cells #[.slice b M.length cap'] 27)) := by
    intro i w1 hi hb
    have e1 : w1.cell? ⟨w.heap.size, 0, none⟩ = some (.slice a L.length cap) := (hb.cell (by simp; omega)).trans (by simp [go_sem])
    have e2 : w1.cell? ⟨w.heap.size + 1, 0, none⟩ = some (.slice b M.length cap') := (hb.cell (by simp)).trans (by simp [go_sem])
    have hL' := ((hL.alloc (.cells #[.slice a L.length cap] 27)).alloc (.cells #[.slice b M.length cap'] 27)).below hb
    have hM' := ((hM.alloc (.cells #[.slice a L.length cap] 27)).alloc (.cells #[.slice b M.length cap'] 27)).below hb
    by_cases hlt : i < L.length
    · obtain ⟨c, off, rfl, hc⟩ := hL'.2 i hlt
      simp only [hlt, if_true]
      exact net1_plus w.heap.size (w.heap.size + 1) c off L.length cap i _ (hL.at i hlt) w1 e1 hlt (by unfold maxLen; omega) hc
    · obtain ⟨c, off, rfl, hc⟩ := hM'.2 (i - L.length) (by omega)
      simp only [hlt, if_false]
      have := net1_minus w.heap.size (w.heap.size + 1) c off M.length cap' (i - L.length) L.length cap a _ (hM.at (i - L.length) (by omega)) w1 e1 e2 (by omega) (by unfold maxLen; omega) (by unfold maxLen; omega) hc
      rw [show ((L.length : Nat) : Int) + ((i - L.length : Nat) : Int) = (i : Int) by omega] at this
      exact this
  have hT := total_net ⟨w.heap.size, 0, none⟩ ⟨w.heap.size + 1, 0, none⟩ (L.length + M.length) _ _ (by omega) hf ht
  rw [psum_app (fun i => L.getD i 0) (fun i => - M.getD i 0), psum_neg, psum_list, psum_list, ← Int.sub_eq_add_neg] at hT
  have h1 : ((L.length + M.length : Nat) : Int) = (L.length : Int) + (M.length : Int) := by omega
  rw [h1] at hT
  clear h1 hf ht hL hM
  go_enter Try.func21, Try.ntmps21
  go_wp2_with (go_at_call 27; refine hT.mono ?_; rintro e w1 ⟨rfl, hb1⟩)
  go_ret2
  exact ⟨rfl, (below2 _ _ _).trans (hb1.mono (by simp; omega))⟩
end Go.Proofs.Ytbmjnajajimmmaa
