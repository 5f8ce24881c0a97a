/-
  The library's slices.Grow of the nil slice and slices.Concat of two rows, and the landed Add of layer 17. No conditions besides a row of at most 1000000.
-/
import Derived.Test.YthomlkgghdggmaaEntA
import Derived.Lib.AppendZeros
namespace Go.Proofs.Ythomlkgghdggmaa
open Go.RowKit
set_option linter.unusedSimpArgs false
set_option linter.unusedVariables false

theorem Own.lower {w : World} {base base' : Nat} {v : Value} {L : List Int} (h : Own w base v L) (hb : base' ≤ base) : Own w base' v L := by
  refine ⟨h.1, ?_⟩
  rcases h.2 with q | ⟨g, cap, cur, rfl, h2, h3⟩
  · exact Or.inl q
  · exact Or.inr ⟨g, cap, cur, rfl, Nat.le_trans hb h2, h3⟩
set_option maxHeartbeats 1000000 in
set_option maxRecDepth 100000 in
theorem grow_nil (n : Nat) (h0 : 0 < n) (hn : n ≤ 1000000) (w : World) :
    Calls Try.prog 25 #[.slice none 0 0, .int .i64 (n : Int)] w fun e w' => ∃ v, e = .returned v ∧ Own w' w.heap.size v [] ∧ Below w.heap.size w w' := by
  obtain ⟨i0, hi, hz0, hz1, hz2⟩ := info_parts int_info
  have hr : ∀ ty, (Builtin.append_ #[22, 3] ty #[.slice none 0 0, .int .i64 (n : Int)]).run Try.prog w = .ok (.slice (some ⟨w.heap.size, 0, none⟩) n (grownCap w n 0 3)) (w.drew.alloc (.cells (Builtin.zeroCells #[.int .i64 0] n ++ Builtin.zeroCells #[.int .i64 0] (grownCap w n 0 3 - n)) 3)) := fun ty => by
    have := Lib.run_append_nil_zeros w 22 3 ty 3 i0 (.int .i64 0) .i64 .i64 Try.underlying22 Try.underlying3 hi hz0 n h0 (by rw [hz1]; omega) (by omega) (by rw [hz2]; omega)
    simpa [Value.cells] using this
  have hge := grownCap_ge w n 0 3
  have hle := grownCap_le_maxLen w n 0 3 (by unfold maxLen; omega)
  obtain ⟨cur, hcur⟩ : ∃ cur, Builtin.zeroCells #[Value.int .i64 0] n ++ Builtin.zeroCells #[Value.int .i64 0] (grownCap w n 0 3 - n) = cur := ⟨_, rfl⟩
  have hsz : cur.size = grownCap w n 0 3 := by rw [← hcur]; simp [Builtin.zeroCells]; omega
  rw [hcur] at hr
  generalize grownCap w n 0 3 = cap at *
  clear hcur hi hz0 hz1 hz2 i0
  have d1 : decide ((n : Int) < 0) = false := decide_eq_false (by omega)
  have d2 : decide ((0 : Int) < (n : Int)) = true := decide_eq_true (by omega)
  have d3 : decide (0 < n) = true := decide_eq_true h0
  have HS := Lib.hid (And.intro hsz hle)
  clear hsz hle
  go_enter Try.func25, Try.ntmps25
  go_wp2_with (at_builtin; refine Lib.wpList_append_run _ rfl (.tmp 20) (.tmp 21) 22 3 rfl _ _ rfl rfl _ _ (hr _) ?_)
  go_ret
  exact ⟨_, rfl, ⟨rfl, Or.inr ⟨w.heap.size, cap, cur, rfl, Nat.le_refl _, heap_alloc_new w _, Nat.zero_le _, HS.out.2, by rw [HS.out.1]; omega, rfl⟩⟩, (((Below.refl _ w).drew).alloc (by simp [go_sem]) _)⟩
def catK (L : List Int) (z : Int) : Nat → List Int
  | 0 => []
  | 1 => L
  | _ => L ++ [z]
theorem catK_len (L : List Int) (z : Int) (k : Nat) : (catK L z k).length ≤ L.length + 1 := by
  unfold catK; split <;> simp
set_option maxHeartbeats 4000000 in
set_option maxRecDepth 100000 in
theorem concat_v (pb qb : Nat) (a : Option Addr) (c : Nat) (L : List Int) (z : Int) (hn : L.length ≤ 1000) (w : World) (hL : Reads w a L) (ca : a = none → c = 0) (hz : InR z)
    (hp0 : w.cell? ⟨pb, 0, none⟩ = some (.slice a L.length c)) (hp1 : w.cell? ⟨pb, 1, none⟩ = some (.slice (some ⟨qb, 0, none⟩) 1 1)) (hq : w.cell? ⟨qb, 0, none⟩ = some (.int .i64 z)) :
    Calls Try.prog 20 #[.slice (some ⟨pb, 0, none⟩) 2 2] w fun e w' => ∃ v, e = .returned v ∧ Own w' w.heap.size v (L ++ [z]) ∧ Below w.heap.size w w' := by
  obtain ⟨w0, hw0⟩ : ∃ w0, w0 = w := ⟨_, rfl⟩
  suffices h : Calls Try.prog 20 #[.slice (some ⟨pb, 0, none⟩) 2 2] w fun e w' => ∃ v, e = .returned v ∧ Own w' w0.heap.size v (L ++ [z]) ∧ Below w0.heap.size w0 w' by rw [hw0] at h; exact h
  have hg := grow_nil (L.length + 1) (by omega) (by omega) w
  have hg : Calls Try.prog 25 #[.slice none 0 0, .int .i64 ((L.length : Int) + 1)] w fun e w' => ∃ v, e = .returned v ∧ Own w' w0.heap.size v [] ∧ Below w0.heap.size w0 w' := by rw [hw0]; exact hg
  have HL : Hid (Reads w0 a L) := by rw [hw0]; exact hL
  have HP : Hid (w0.cell? ⟨pb, 0, none⟩ = some (.slice a L.length c) ∧ w0.cell? ⟨pb, 1, none⟩ = some (.slice (some ⟨qb, 0, none⟩) 1 1) ∧ w0.cell? ⟨qb, 0, none⟩ = some (.int .i64 z)) := by rw [hw0]; exact ⟨hp0, hp1, hq⟩
  have HC := Lib.hid (And.intro ca hz)
  clear hL hq ca hz hw0
  have e1 : wrap64 (0 + (L.length : Int)) = (L.length : Int) := by unfold wrap64; omega
  have e2 : wrap64 ((L.length : Int) + 1) = (L.length : Int) + 1 := by unfold wrap64; omega
  have e3 : wrap64 ((L.length : Int)) = (L.length : Int) := by unfold wrap64; omega
  have d1 : decide ((L.length : Int) < 0) = false := decide_eq_false (by omega)
  have d2 : decide ((L.length : Int) + 1 < 0) = false := decide_eq_false (by omega)
  go_enter Try.func20, Try.ntmps20
  go_wp2_with fail
  go_loopw [3, 11] (fun s i wr => wr = w ∧ ((i = .int .i64 0 ∧ s = .int .i64 0) ∨ (i = .int .i64 1 ∧ s = .int .i64 (L.length : Int)) ∨ (i = .int .i64 2 ∧ s = .int .i64 ((L.length : Int) + 1)))) (fun _ i _ => 2 - (RowKit.intOf i).toNat)
  case atStart => exact ⟨rfl, Or.inl ⟨rfl, rfl⟩⟩
  case round =>
    obtain ⟨rfl, ⟨rfl, rfl⟩ | ⟨rfl, rfl⟩ | ⟨rfl, rfl⟩⟩ := hrel
    · go_wp2_with fail
      go_roundw
      · exact ⟨by first | rfl | trivial, Or.inr (Or.inl ⟨rfl, by go_num⟩)⟩
      · simp [RowKit.intOf]
    · go_wp2_with fail
      go_roundw
      · exact ⟨by first | rfl | trivial, Or.inr (Or.inr ⟨rfl, by go_num⟩)⟩
      · simp [RowKit.intOf]
    · go_wp2_with fail
      refine hg.mono ?_; rintro e w1 ⟨v, rfl, ho, hb⟩
      clear hp0 hp1 hg e1 e2 e3 d1 d2
      go_wp2_with fail
      go_loopw [6, 27] (fun u i wr => ∃ k : Nat, k ≤ 2 ∧ i = .int .i64 (k : Int) ∧ Own wr w0.heap.size u (catK L z k) ∧ Below w0.heap.size w0 wr) (fun _ i _ => 2 - (RowKit.intOf i).toNat)
      case atStart => exact ⟨0, by omega, rfl, ho, hb⟩
      case round =>
        clear ho hb
        obtain ⟨k, hk, rfl, ho, hb⟩ := hrel
        have hb0 := hb.size
        have HB := Lib.hid hb; clear hb
        have hL2 := HL.out.below HB.out
        obtain ⟨p0, p1, q0⟩ := HP.out
        have lp : pb < w0.heap.size := World.block_lt_of_cell? w0 _ p0
        have lq : qb < w0.heap.size := World.block_lt_of_cell? w0 _ q0
        have p0 := (HB.out.cell (p := ⟨pb, 0, none⟩) lp).trans p0
        have p1 := (HB.out.cell (p := ⟨pb, 1, none⟩) lp).trans p1
        have q0 := (HB.out.cell (p := ⟨qb, 0, none⟩) lq).trans q0
        have hz2 : Reads wr (some ⟨qb, 0, none⟩) [z] := ⟨fun y hy => by rw [List.mem_singleton.1 hy]; exact HC.out.2, fun i hi => ⟨qb, 0, rfl, by
          obtain rfl : i = 0 := by simpa using hi
          exact q0⟩⟩
        have HZ2 := Lib.hid hz2; have HL2 := Lib.hid hL2
        clear lp lq q0 hz2 hL2
        rcases (by omega : k = 0 ∨ k = 1 ∨ k = 2) with rfl | rfl | rfl
        · obtain ⟨a1, cap1, rfl⟩ := (ho.sl (by intro y hy; cases hy)).form
          go_wp2_with (at_builtin; refine wp_cat wr rfl (.tmp 31) (.tmp 32) rfl w0.heap.size _ [] L a c rfl ho rfl HL2.out HC.out.1 (by simp; omega) hb0 ?_; intro v3 w3 ho3 hb3)
          go_roundw
          · exact ⟨1, by omega, by go_num, by simpa [catK] using ho3, HB.out.trans hb3⟩
          · simp [RowKit.intOf]
        · go_wp2_with (at_builtin; refine wp_cat wr rfl (.tmp 31) (.tmp 32) rfl w0.heap.size _ L [z] (some ⟨qb, 0, none⟩) 1 rfl ho rfl HZ2.out (fun q => by cases q) (by simp; omega) hb0 ?_; intro v3 w3 ho3 hb3)
          go_roundw
          · exact ⟨2, by omega, by go_num, ho3, HB.out.trans hb3⟩
          · simp [RowKit.intOf]
        · go_wp2_with fail
          go_ret
          exact ⟨_, rfl, ho, HB.out⟩
end Go.Proofs.Ythomlkgghdggmaa
