/-
  What scan's own isPlace, leading (with its closure) and numeral answer. The condition: a text of at most 1000000 bytes.
-/
import Derived.Test.YtmmjkbjceocpmaaDoorScnY
import Derived.Test.YtmmjkbjceocpmaaDoorRefLb0
import Derived.BigQuiet
namespace Go.Proofs.YtmmjkbjceocpmaaDoor
open Go.RowKit
set_option linter.unusedSimpArgs false
set_option linter.unusedVariables false

set_option maxHeartbeats 1000000 in
theorem n_place (l : List UInt8) (a : Int) (w : World) :
    Calls Tryd.prog 16 #[.string (bs l), .int .i64 a] w fun e w' => e = .returned (.bool (decide (OkA l a))) ∧ w = w' := by
  have hsl := bs_size l
  rcases Int.lt_or_le a 0 with h | h
  · rw [decide_eq_false (show ¬ OkA l a by unfold OkA; omega)]
    have d1 : decide (0 ≤ a) = false := decide_eq_false (by omega)
    go_enter Tryd.func16, Tryd.ntmps16
    go_wp2_with fail
    go_ret
    exact ⟨rfl, rfl⟩
  · have d1 : decide (0 ≤ a) = true := decide_eq_true h
    by_cases h' : a ≤ (l.length : Int)
    · rw [decide_eq_true (show OkA l a from ⟨h, h'⟩)]
      have d2 : decide (a ≤ (l.length : Int)) = true := decide_eq_true h'
      go_enter Tryd.func16, Tryd.ntmps16
      go_wp2_with fail
      go_ret
      exact ⟨rfl, rfl⟩
    · rw [decide_eq_false (show ¬ OkA l a from fun q => h' q.2)]
      have d2 : decide (a ≤ (l.length : Int)) = false := decide_eq_false h'
      go_enter Tryd.func16, Tryd.ntmps16
      go_wp2_with fail
      go_ret
      exact ⟨rfl, rfl⟩

set_option maxHeartbeats 1000000 in
theorem n_digit (l : List UInt8) (B k : Nat) (hk : k < l.length) (w : World) (hB : w.cell? ⟨B, 0, none⟩ = some (.string (bs l))) :
    Calls Tryd.prog 40 #[.int .i64 (k : Int), .pointer (some ⟨B, 0, none⟩)] w fun e w' => e = .returned (.bool (isd (l.getD k 0))) ∧ w = w' := by
  have hsl := bs_size l
  have i1 : (0 : Int) ≤ (k : Int) := by omega
  have i2 : (k : Int) < ((bs l).size : Int) := by omega
  have i3 : k < (bs l).size := by omega
  have hby : ∀ q, ((bs l)[k]'q).toNat = (l.getD k 0).toNat := fun q => by simp [bs, List.getD, hk, ByteArray.getElem_eq_getElem_data]
  have hd : isd (l.getD k 0) = (decide (48 ≤ (l.getD k 0).toNat) && decide ((l.getD k 0).toNat ≤ 57)) := rfl
  rw [hd]
  generalize (l.getD k 0).toNat = m at *
  generalize bs l = s at *
  clear hd
  by_cases h1 : 48 ≤ m
  · have d1 : decide (48 ≤ (m : Int)) = true := decide_eq_true (by omega)
    rw [decide_eq_true h1, Bool.true_and]
    have d2 : decide ((m : Int) ≤ 57) = decide (m ≤ 57) := by
      by_cases q : m ≤ 57
      · rw [decide_eq_true q, decide_eq_true (by omega)]
      · rw [decide_eq_false q, decide_eq_false (by omega)]
    go_enter Tryd.func40, Tryd.ntmps40
    go_wp2_with fail
    go_ret
    exact ⟨rfl, rfl⟩
  · have d1 : decide (48 ≤ (m : Int)) = false := decide_eq_false (by omega)
    rw [decide_eq_false h1, Bool.false_and]
    go_enter Tryd.func40, Tryd.ntmps40
    go_wp2_with fail
    go_ret
    exact ⟨rfl, rfl⟩

set_option maxHeartbeats 2000000 in
theorem n_leading (l : List UInt8) (hl : l.length ≤ 1000000) (w : World) :
    Calls Tryd.prog 28 #[.string (bs l)] w fun e w' => e = .returned (.int .i64 ((l.takeWhile isd).length : Int)) ∧ Below w.heap.size w w' := by
  have HE := Lib.hid (digs_end l)
  have hsl := bs_size l
  have hmf : ∀ (fn : Fn) (first cap : Array Value) (w : World), (Instr.makeFunc fn first cap).run Tryd.prog w = .ok (.func fn first cap) w := fun _ _ _ _ => rfl
  have hB : (w.alloc (.cells #[.string (bs l)] 9)).cell? ⟨w.heap.size, 0, none⟩ = some (.string (bs l)) := by simp [go_sem]
  have hD := fun k hk => n_digit l w.heap.size k hk _ hB
  have hb := below1 w (.cells #[.string (bs l)] 9)
  have HD := Lib.hid hD
  clear hD
  generalize (l.takeWhile isd).length = R at *
  generalize bs l = s at *
  go_enter Tryd.func28, Tryd.ntmps28
  go_wp2_with fail
  generalize hW1 : w.alloc (.cells #[.string s] 9) = W1 at *
  go_wp2_with fail
  go_loopw [8] (fun i wr => ∃ k : Nat, k ≤ l.length ∧ i = .int .i64 (k : Int) ∧ (∀ b ∈ l.take k, isd b = true) ∧ W1 = wr) (fun i _ => l.length - (intOf i).toNat)
  case atStart => exact ⟨0, Nat.zero_le _, rfl, by simp, rfl⟩
  case round =>
    obtain ⟨k, hk, rfl, hok, rfl⟩ := hrel
    have HK := Lib.hid (HE.out k hk hok)
    by_cases hlt : k < l.length
    · have hd := HD.out k hlt
      have hstep : ∀ b ∈ l.take (k + 1), b ∈ l.take k ∨ b = l.getD k 0 := by
        intro b hb
        rw [List.take_succ_eq_append_getElem hlt, List.mem_append, List.mem_singleton] at hb
        rcases hb with hb | hb
        · exact Or.inl hb
        · exact Or.inr (by rw [hb]; simp [List.getD, hlt])
      have HM := Lib.hid hstep; have HO := Lib.hid hok
      clear hstep hok
      generalize l.getD k 0 = c at *
      cases hc : isd c
      · have hR := HK.out (fun _ => hc)
        subst hR
        rw [hc] at hd
        go_wp2_with fail
        refine hd.mono ?_; rintro e w1 ⟨rfl, rfl⟩
        go_wp2_with fail
        go_ret
        exact ⟨rfl, hb⟩
      · rw [hc] at hd
        go_wp2_with fail
        refine hd.mono ?_; rintro e w1 ⟨rfl, rfl⟩
        go_wp2_with fail
        go_roundw
        · exact ⟨k + 1, by omega, by go_num, fun b hb => by rcases HM.out b hb with q | q; exact HO.out b q; rw [q]; exact hc, by first | rfl | trivial⟩
        · simp [intOf]; omega
    · obtain rfl : k = l.length := by omega
      have hR := HK.out (fun q => absurd q hlt)
      subst hR
      have hd0 : decide ((l.length : Int) < (l.length : Int)) = false := decide_eq_false (by omega)
      go_wp2_with fail
      go_ret
      exact ⟨rfl, hb⟩
end Go.Proofs.YtmmjkbjceocpmaaDoor
