/-
  What num's total answers, over the closures of Sum and of Net: the sum of what they tell, or nought with the error. The condition: at most 2^62 numbers.
-/
import Derived.Test.YtbmjnajajimmmaaNumC
import Derived.Deep.RegionWith
import Derived.Lib.Hide
namespace Go.Proofs.Ytbmjnajajimmmaa
open Go.RowKit

/-- What a closure is held to: for each number below n it tells f of it, and leaves what is there as it is. -/
def Tells (g : FuncId) (caps : Array Value) (n : Nat) (f : Nat → Int) (w : World) : Prop :=
  ∀ (i : Nat) (w1 : World), i < n → Below w.heap.size w w1 → Calls Try.prog g (#[.int .i64 i] ++ caps) w1 fun e w' =>
    e = .returned (.agg #[.int .u64 (wlo (f i)), .int .u64 (whi (f i))]) ∧ Below w1.heap.size w1 w'

/-- What holds of the running sum's block. -/
def Runs (B : Nat) (x : Int) (w : World) : Prop :=
  w.cell? ⟨B, 0, none⟩ = some (.int .u64 (wlo x)) ∧ w.cell? ⟨B, 1, none⟩ = some (.int .u64 (whi x)) ∧ w.frozen? ⟨B, 0, none⟩ = false ∧ w.frozen? ⟨B, 1, none⟩ = false

theorem plus_below (x y : Int) (w : World) :
    Calls Try.prog 35 #[.agg #[.int .u64 (wlo x), .int .u64 (whi x)], .agg #[.int .u64 (wlo y), .int .u64 (whi y)]] w fun e w' =>
      e = .returned (.agg #[.int .u64 (wlo (x + y)), .int .u64 (whi (x + y))]) ∧ Below w.heap.size w w' := by
  refine (plus_any x y w).mono ?_
  rintro e w' ⟨rfl, o1, o2, o3, rfl⟩
  exact ⟨rfl, (below2 w _ _).alloc (by simp; omega) _⟩

theorem runs_on' {B : Nat} {x y : Value} {wr w1 : World} (hs : B < wr.heap.size) (r1 : wr.cell? ⟨B, 0, none⟩ = some x) (r2 : wr.cell? ⟨B, 1, none⟩ = some y)
    (r3 : wr.frozen? ⟨B, 0, none⟩ = false) (r4 : wr.frozen? ⟨B, 1, none⟩ = false) (hb : Below wr.heap.size wr w1) :
    B < w1.heap.size ∧ w1.cell? ⟨B, 0, none⟩ = some x ∧ w1.cell? ⟨B, 1, none⟩ = some y ∧ w1.frozen? ⟨B, 0, none⟩ = false ∧ w1.frozen? ⟨B, 1, none⟩ = false := by
  have h1 := hb.size
  obtain ⟨bc, bf⟩ := bcell hb
  refine ⟨Nat.lt_of_lt_of_le hs h1, ?_, ?_, ?_, ?_⟩
  · rw [bc _ _ hs]; exact r1
  · rw [bc _ _ hs]; exact r2
  · rw [bf _ _ hs]; exact r3
  · rw [bf _ _ hs]; exact r4

theorem runs_on {B : Nat} {x y : Value} {wr w1 : World} (hs : B < wr.heap.size) (r1 : wr.cell? ⟨B, 0, none⟩ = some x) (r2 : wr.cell? ⟨B, 1, none⟩ = some y)
    (r3 : wr.frozen? ⟨B, 0, none⟩ = false) (r4 : wr.frozen? ⟨B, 1, none⟩ = false) (hb : Below wr.drew.heap.size wr.drew w1) :
    B < w1.heap.size ∧ w1.cell? ⟨B, 0, none⟩ = some x ∧ w1.cell? ⟨B, 1, none⟩ = some y ∧ w1.frozen? ⟨B, 0, none⟩ = false ∧ w1.frozen? ⟨B, 1, none⟩ = false := by
  have h1 := hb.size
  obtain ⟨bc, bf⟩ := bcell hb
  refine ⟨Nat.lt_of_lt_of_le hs h1, ?_, ?_, ?_, ?_⟩
  · rw [bc _ _ hs]; exact r1
  · rw [bc _ _ hs]; exact r2
  · rw [bf _ _ hs]; exact r3
  · rw [bf _ _ hs]; exact r4

theorem runs_end {B : Nat} {x : Int} {u v : Value} {w : World} (d0 : w.cell? ⟨B, 0, none⟩ = some u) (d1 : w.cell? ⟨B, 1, none⟩ = some v)
    (g0 : w.frozen? ⟨B, 0, none⟩ = false) (g1 : w.frozen? ⟨B, 1, none⟩ = false) :
    Runs B x ((w.setCell ⟨B, 0, none⟩ (.int .u64 (wlo x))).setCell ⟨B, 1, none⟩ (.int .u64 (whi x))) := by
  refine ⟨?_, ?_, ?_, ?_⟩
  · rw [World.cell?_setCell_other _ _ _ _ (by simp)]; exact World.cell?_setCell_same _ _ _ d0
  · exact World.cell?_setCell_same _ _ _ (u := v) (by rw [World.cell?_setCell_other _ _ _ _ (by simp)]; exact d1)
  · simpa using g0
  · simpa using g1

theorem runs_below {w wr w1 w2 : World} {x y : Value} (hs : w.heap.size < wr.heap.size) (hz : w.heap.size < w1.heap.size) (hb : Below w.heap.size w wr) (hb1 : Below wr.drew.heap.size wr.drew w1) (hb2 : Below w1.heap.size w1 w2) :
    Below w.heap.size w ((w2.setCell ⟨w.heap.size, 0, none⟩ x).setCell ⟨w.heap.size, 1, none⟩ y) :=
  (((hb.drew.trans (hb1.mono (Nat.le_of_lt hs))).trans (hb2.mono (Nat.le_of_lt hz))).setCell (Nat.le_refl _) _).setCell (Nat.le_refl _) _

set_option maxHeartbeats 1000000 in
theorem total_sum (p : Addr) (n : Nat) (f : Nat → Int) (w : World) (hn : n ≤ 4611686018427387904) (hf : ∀ i, i < n → InS (f i)) (ht : Tells 28 #[.pointer (some p)] n f w) :
    Calls Try.prog 27 #[.int .i64 n, .func (.func 28) #[] #[.pointer (some p)]] w fun e w' =>
      e = .returned (.tuple #[.int .i64 (tv (psum f n)), .int .i64 (te (psum f n))]) ∧ Below w.heap.size w w' := by
  go_enter Try.func27, Try.ntmps27
  go_wp2
  go_loopw [9] (fun i wr => ∃ k : Nat, k ≤ n ∧ i = .int .i64 k ∧ Runs w.heap.size (psum f k) wr ∧ w.heap.size < wr.heap.size ∧ Below w.heap.size w wr)
    (fun i _ => n - (intOf i).toNat)
  case atStart =>
    refine ⟨0, Nat.zero_le _, rfl, ⟨?_, ?_, ?_, ?_⟩, by simp, (Below.refl _ _).alloc (Nat.le_refl _) _⟩
    all_goals simp [go_sem, psum, wlo, whi]
  case round =>
    obtain ⟨k, hk, rfl, hr, hs, hb⟩ := hrel
    by_cases hlt : k < n
    · obtain ⟨r1, r2, r3, r4⟩ := hr
      have hcl : Calls Try.prog 28 #[.int .i64 k, .pointer (some p)] wr.drew fun e w' =>
        e = .returned (.agg #[.int .u64 (wlo (f k)), .int .u64 (whi (f k))]) ∧ Below wr.drew.heap.size wr.drew w' := ht k wr.drew hlt hb.drew
      have HT := Lib.hid ht; clear ht
      have HF := Lib.hid hf; clear hf
      go_wp2
      go_region_with (first
        | (go_at_call 28; refine hcl.mono ?_; rintro e w1 ⟨rfl, hb1⟩; obtain ⟨hz, c0, c1, f0, f1⟩ := runs_on hs r1 r2 r3 r4 hb1)
        | (go_at_call 35; refine (plus_below (psum f k) (f k) _).mono ?_; rintro e w2 ⟨rfl, hb2⟩; obtain ⟨hz2, d0, d1, g0, g1⟩ := runs_on' hz c0 c1 f0 f1 hb2; clear c0 c1 f0 f1))
      all_goals go_wp2
      all_goals exact ⟨⟨k + 1, by omega, by go_num, runs_end d0 d1 g0 g1, by simpa using hz2, runs_below hs hz hb hb1 hb2⟩, by simp [intOf]; omega⟩
    · obtain rfl : n = k := by omega
      obtain ⟨r1, r2, r3, r4⟩ := hr
      have hw := psum_inW f n hf (by omega)
      go_wp2_with (go_at_call 36; refine (narrow_any (psum f n) hw _).mono ?_; rintro e w1 ⟨rfl, hb1⟩)
      go_ret2
      exact ⟨rfl, hb.trans (hb1.mono (by omega))⟩
set_option maxHeartbeats 1000000 in
theorem total_net (p q : Addr) (n : Nat) (f : Nat → Int) (w : World) (hn : n ≤ 4611686018427387904) (hf : ∀ i, i < n → InS (f i)) (ht : Tells 31 #[.pointer (some p), .pointer (some q)] n f w) :
    Calls Try.prog 27 #[.int .i64 n, .func (.func 31) #[] #[.pointer (some p), .pointer (some q)]] w fun e w' =>
      e = .returned (.tuple #[.int .i64 (tv (psum f n)), .int .i64 (te (psum f n))]) ∧ Below w.heap.size w w' := by
  go_enter Try.func27, Try.ntmps27
  go_wp2
  go_loopw [9] (fun i wr => ∃ k : Nat, k ≤ n ∧ i = .int .i64 k ∧ Runs w.heap.size (psum f k) wr ∧ w.heap.size < wr.heap.size ∧ Below w.heap.size w wr)
    (fun i _ => n - (intOf i).toNat)
  case atStart =>
    refine ⟨0, Nat.zero_le _, rfl, ⟨?_, ?_, ?_, ?_⟩, by simp, (Below.refl _ _).alloc (Nat.le_refl _) _⟩
    all_goals simp [go_sem, psum, wlo, whi]
  case round =>
    obtain ⟨k, hk, rfl, hr, hs, hb⟩ := hrel
    by_cases hlt : k < n
    · obtain ⟨r1, r2, r3, r4⟩ := hr
      have hcl : Calls Try.prog 31 #[.int .i64 k, .pointer (some p), .pointer (some q)] wr.drew fun e w' =>
        e = .returned (.agg #[.int .u64 (wlo (f k)), .int .u64 (whi (f k))]) ∧ Below wr.drew.heap.size wr.drew w' := ht k wr.drew hlt hb.drew
      have HT := Lib.hid ht; clear ht
      have HF := Lib.hid hf; clear hf
      go_wp2
      go_region_with (first
        | (go_at_call 31; refine hcl.mono ?_; rintro e w1 ⟨rfl, hb1⟩; obtain ⟨hz, c0, c1, f0, f1⟩ := runs_on hs r1 r2 r3 r4 hb1)
        | (go_at_call 35; refine (plus_below (psum f k) (f k) _).mono ?_; rintro e w2 ⟨rfl, hb2⟩; obtain ⟨hz2, d0, d1, g0, g1⟩ := runs_on' hz c0 c1 f0 f1 hb2; clear c0 c1 f0 f1))
      all_goals go_wp2
      all_goals exact ⟨⟨k + 1, by omega, by go_num, runs_end d0 d1 g0 g1, by simpa using hz2, runs_below hs hz hb hb1 hb2⟩, by simp [intOf]; omega⟩
    · obtain rfl : n = k := by omega
      obtain ⟨r1, r2, r3, r4⟩ := hr
      have hw := psum_inW f n hf (by omega)
      go_wp2_with (go_at_call 36; refine (narrow_any (psum f n) hw _).mono ?_; rintro e w1 ⟨rfl, hb1⟩)
      go_ret2
      exact ⟨rfl, hb.trans (hb1.mono (by omega))⟩
end Go.Proofs.Ytbmjnajajimmmaa
