/-
  NumSums of layer 1 returns true, whatever two lists of numbers it is given. No conditions.
-/
import Derived.Test.YtbmjnajajimmmaaAwake
import Derived.Test.YtbmjnajajimmmaaRefJ
namespace Go.Proofs.Ytbmjnajajimmmaa
open Go.RowKit
set_option linter.unusedVariables false

/-- What holds of Total's two blocks while it goes on: the sum so far. -/
def TotBox (B : Nat) (x : Int) (w : World) : Prop :=
  ∃ a c, w.cell? ⟨B, 0, none⟩ = some (.bool false) ∧ w.cell? ⟨B, 1, none⟩ = some (.slice none 0 0) ∧ w.frozen? ⟨B, 0, none⟩ = false ∧ w.frozen? ⟨B, 1, none⟩ = false ∧
    w.cell? ⟨B + 1, 0, none⟩ = some (.bool (decide (x < 0))) ∧ w.cell? ⟨B + 1, 1, none⟩ = some (.slice a (digs x.natAbs).length c) ∧ w.frozen? ⟨B + 1, 0, none⟩ = false ∧ w.frozen? ⟨B + 1, 1, none⟩ = false ∧
    B + 2 ≤ w.heap.size ∧ Big w (.agg #[.bool (decide (x < 0)), .slice a (digs x.natAbs).length c]) x

theorem psum_len (f : Nat → Int) (n : Nat) (hf : ∀ i, i < n → InR (f i)) (hn : n ≤ 1000) (k : Nat) (hk : k ≤ n) : (digs (psum f k).natAbs).length ≤ 30 := by
  have := psum_bd f n (fun i hi => inS_of (hf i hi)) k hk
  exact digs_len _ _ (by omega)

theorem totbox_on' {B : Nat} {s : Bool} {u v : Value} {x : Int} {w w1 : World} (h1 : w.cell? ⟨B, 0, none⟩ = some (.bool false)) (h2 : w.cell? ⟨B, 1, none⟩ = some (.slice none 0 0)) (h3 : w.frozen? ⟨B, 0, none⟩ = false) (h4 : w.frozen? ⟨B, 1, none⟩ = false)
    (h5 : w.cell? ⟨B + 1, 0, none⟩ = some (.bool s)) (h6 : w.cell? ⟨B + 1, 1, none⟩ = some u) (h7 : w.frozen? ⟨B + 1, 0, none⟩ = false) (h8 : w.frozen? ⟨B + 1, 1, none⟩ = false) (h9 : B + 2 ≤ w.heap.size) (h10 : Big w v x)
    (hb : Below w.heap.size w w1) :
    w1.cell? ⟨B, 0, none⟩ = some (.bool false) ∧ w1.cell? ⟨B, 1, none⟩ = some (.slice none 0 0) ∧ w1.frozen? ⟨B, 0, none⟩ = false ∧ w1.frozen? ⟨B, 1, none⟩ = false ∧
    w1.cell? ⟨B + 1, 0, none⟩ = some (.bool s) ∧ w1.cell? ⟨B + 1, 1, none⟩ = some u ∧ w1.frozen? ⟨B + 1, 0, none⟩ = false ∧ w1.frozen? ⟨B + 1, 1, none⟩ = false ∧ B + 2 ≤ w1.heap.size ∧ Big w1 v x := by
  obtain ⟨bc, bf⟩ := bcell hb
  exact ⟨(bc _ _ (by omega)).trans h1, (bc _ _ (by omega)).trans h2, (bf _ _ (by omega)).trans h3, (bf _ _ (by omega)).trans h4, (bc _ _ (by omega)).trans h5, (bc _ _ (by omega)).trans h6, (bf _ _ (by omega)).trans h7, (bf _ _ (by omega)).trans h8, Nat.le_trans h9 hb.size, h10.below hb⟩
theorem totbox_on {B : Nat} {s : Bool} {u v : Value} {x : Int} {w w1 : World} (h1 : w.cell? ⟨B, 0, none⟩ = some (.bool false)) (h2 : w.cell? ⟨B, 1, none⟩ = some (.slice none 0 0)) (h3 : w.frozen? ⟨B, 0, none⟩ = false) (h4 : w.frozen? ⟨B, 1, none⟩ = false)
    (h5 : w.cell? ⟨B + 1, 0, none⟩ = some (.bool s)) (h6 : w.cell? ⟨B + 1, 1, none⟩ = some u) (h7 : w.frozen? ⟨B + 1, 0, none⟩ = false) (h8 : w.frozen? ⟨B + 1, 1, none⟩ = false) (h9 : B + 2 ≤ w.heap.size) (h10 : Big w v x)
    (hb : Below w.drew.heap.size w.drew w1) :
    w1.cell? ⟨B, 0, none⟩ = some (.bool false) ∧ w1.cell? ⟨B, 1, none⟩ = some (.slice none 0 0) ∧ w1.frozen? ⟨B, 0, none⟩ = false ∧ w1.frozen? ⟨B, 1, none⟩ = false ∧
    w1.cell? ⟨B + 1, 0, none⟩ = some (.bool s) ∧ w1.cell? ⟨B + 1, 1, none⟩ = some u ∧ w1.frozen? ⟨B + 1, 0, none⟩ = false ∧ w1.frozen? ⟨B + 1, 1, none⟩ = false ∧ B + 2 ≤ w1.heap.size ∧ Big w1 v x :=
  totbox_on' (w := w.drew) h1 h2 h3 h4 h5 h6 h7 h8 h9 (h10.below (Below.refl _ _).drew) hb

theorem tot_end {B : Nat} {s : Bool} {a ra : Option Addr} {l c rc : Nat} {y : Int} {w : World} (h1 : w.cell? ⟨B, 0, none⟩ = some (.bool false)) (h2 : w.cell? ⟨B, 1, none⟩ = some (.slice none 0 0)) (h3 : w.frozen? ⟨B, 0, none⟩ = false) (h4 : w.frozen? ⟨B, 1, none⟩ = false)
    (h5 : w.cell? ⟨B + 1, 0, none⟩ = some (.bool s)) (h6 : w.cell? ⟨B + 1, 1, none⟩ = some (.slice a l c)) (h7 : w.frozen? ⟨B + 1, 0, none⟩ = false) (h8 : w.frozen? ⟨B + 1, 1, none⟩ = false) (h9 : B + 2 ≤ w.heap.size)
    (hr : Big w (.agg #[.bool (decide (y < 0)), .slice ra (digs y.natAbs).length rc]) y) :
    TotBox B y ((w.setCell ⟨B + 1, 0, none⟩ (.bool (decide (y < 0)))).setCell ⟨B + 1, 1, none⟩ (.slice ra (digs y.natAbs).length rc)) := by
  refine ⟨ra, rc, ?_, ?_, by simpa using h3, by simpa using h4, ?_, ?_, by simpa using h7, by simpa using h8, by simpa [World.setCell] using h9, hr.set2 h5 h6⟩
  · rw [World.cell?_setCell_other _ _ _ _ (by simp), World.cell?_setCell_other _ _ _ _ (by simp)]; exact h1
  · rw [World.cell?_setCell_other _ _ _ _ (by simp), World.cell?_setCell_other _ _ _ _ (by simp)]; exact h2
  · rw [World.cell?_setCell_other _ _ _ _ (by simp)]; exact World.cell?_setCell_same _ _ _ h5
  · exact World.cell?_setCell_same _ _ _ (u := .slice a l c) (by rw [World.cell?_setCell_other _ _ _ _ (by simp)]; exact h6)

theorem tot_below {w wr w1 w2 : World} {p q : Value} (hb : Below w.heap.size w wr) (h9 : w.heap.size + 2 ≤ wr.heap.size) (hb1 : Below wr.drew.heap.size wr.drew w1) (hb2 : Below w1.heap.size w1 w2) :
    Below w.heap.size w ((w2.setCell ⟨w.heap.size + 1, 0, none⟩ p).setCell ⟨w.heap.size + 1, 1, none⟩ q) := by
  have k1 := hb.drew.trans (hb1.mono (by show w.heap.size ≤ wr.heap.size; omega))
  exact ((k1.trans (hb2.mono k1.size)).setCell (by show w.heap.size ≤ w.heap.size + 1; omega) _).setCell (by show w.heap.size ≤ w.heap.size + 1; omega) _

set_option maxHeartbeats 1000000 in
theorem total_ref (a : Option Addr) (L : List Int) (cap : Nat) (w : World) (hL : Reads w a L) (hn : L.length ≤ 1000) :
    Calls Try.prog 30 #[.slice a L.length cap] w fun e w' => ∃ u, e = .returned u ∧ Big w' u L.sum ∧ Below w.heap.size w w' := by
  go_enter Try.func30, Try.ntmps30
  go_wp2
  go_loopw [4] (fun i wr => ∃ k : Nat, k ≤ L.length ∧ i = .int .i64 k ∧ TotBox w.heap.size (psum (fun i => L.getD i 0) k) wr ∧ Below w.heap.size w wr) (fun i _ => L.length - (intOf i).toNat)
  case atStart =>
    refine ⟨0, Nat.zero_le _, rfl, ⟨none, 0, ?_⟩, below2 _ _ _⟩
    simp [go_sem, psum, digs_zero]
    exact ⟨_, rfl, by simp [digs_zero]; exact (Own.nil _ 0).sl (by simp)⟩
  case round =>
    obtain ⟨k, hk, rfl, hbox, hb⟩ := hrel
    have hlen := psum_len (fun i => L.getD i 0) L.length (fun i hi => hL.at i hi) hn k hk
    by_cases hlt : k < L.length
    · obtain ⟨c, off, rfl, hc⟩ := (hL.below hb).2 k hlt
      obtain ⟨z, hz⟩ : ∃ z, z = L.getD k 0 := ⟨_, rfl⟩
      have hzr : InR z := by rw [hz]; exact hL.at k hlt
      rw [← hz] at hc
      have hnx : psum (fun i => L.getD i 0) (k + 1) = psum (fun i => L.getD i 0) k + z := by rw [psum, hz]
      generalize psum (fun i => L.getD i 0) k = x at *
      have HZ := Lib.hid (And.intro hz hnx); clear hz hnx
      have HBX := Lib.hid hbox
      obtain ⟨a1, c1, k1, k2, k3, k4, k5, k6, k7, k8, k9, k10⟩ := hbox
      generalize hsx : decide (x < 0) = sx at *
      generalize hlx : (digs x.natAbs).length = lx at *
      have HSX := Lib.hid (And.intro hsx hlx); clear hsx hlx
      have hj : (k : Int) < (L.length : Int) := by omega
      have hOf := of_any z hzr wr.drew
      go_wp2
      go_region_with (first
        | (go_at_call 10; (with_reducible refine hOf.mono ?_); rintro e w1 ⟨r1, rfl, hr1, hb1⟩; obtain ⟨l1, l2, l3, l4, l5, l6, l7, l8, l9, l10⟩ := totbox_on k1 k2 k3 k4 k5 k6 k7 k8 k9 k10 hb1)
        | (go_at_call 9; (with_reducible refine (bplus _ _ x z _ l10 hr1 (by have := HSX.out.2; omega) (by have := digs_19 hzr; omega)).mono ?_); rintro e w2 ⟨r2, rfl, hr2, hb2⟩; obtain ⟨ra, rc, rfl⟩ := hr2.form; obtain ⟨m1, m2, m3, m4, m5, m6, m7, m8, m9, m10⟩ := totbox_on' l1 l2 l3 l4 l5 l6 l7 l8 l9 l10 hb2))
      all_goals go_wp2
      all_goals exact ⟨⟨k + 1, by omega, by go_num, by rw [HZ.out.2]; exact tot_end m1 m2 m3 m4 m5 m6 m7 m8 m9 hr2, tot_below hb k9 hb1 hb2⟩, by simp [intOf]; omega⟩
    · obtain rfl : L.length = k := by omega
      obtain ⟨a1, c1, k1, k2, k3, k4, k5, k6, k7, k8, k9, k10⟩ := hbox
      rw [psum_list] at *
      generalize hsx : decide (L.sum < 0) = sx at *
      generalize hlx : (digs L.sum.natAbs).length = lx at *
      have HSX := Lib.hid (And.intro hsx hlx); clear hsx hlx
      go_wp2
      refine bodyPost_ret (v := .agg #[.bool sx, .slice a1 lx c1]) (by simp [results, Try.results30, go_sem, k1, k2]) rfl ⟨_, rfl, k10.set2 k1 k2, ?_⟩
      exact (hb.setCell (Nat.le_refl _) _).setCell (Nat.le_refl _) _

set_option maxHeartbeats 400000 in
/-- The document's Net. -/
theorem net_ref (a b : Option Addr) (L M : List Int) (cap cap' : Nat) (w : World) (hL : Reads w a L) (hM : Reads w b M) (hn : L.length ≤ 200) (hm : M.length ≤ 200) :
    Calls Try.prog 20 #[.slice a L.length cap, .slice b M.length cap'] w fun e w' =>
      e = .returned (.tuple #[.int .i64 (tv (L.sum - M.sum)), .int .i64 (te (L.sum - M.sum))]) ∧ Below w.heap.size w w' := by
  have l1 : (digs L.sum.natAbs).length ≤ 30 := by rw [← psum_list]; exact psum_len _ L.length (fun i hi => hL.at i hi) (by omega) _ (Nat.le_refl _)
  have l2 : (digs M.sum.natAbs).length ≤ 30 := by rw [← psum_list]; exact psum_len _ M.length (fun i hi => hM.at i hi) (by omega) _ (Nat.le_refl _)
  have l3 : (digs (L.sum - M.sum).natAbs).length ≤ 900 := Nat.le_trans (digs_len_minus l1 l2) (by omega)
  go_enter Try.func20, Try.ntmps20
  go_wp2_with fail
  refine (total_ref a L cap _ hL (by omega)).mono ?_; rintro e w1 ⟨r1, rfl, hr1, hb1⟩
  go_wp2_with fail
  refine (total_ref b M cap' _ (hM.below hb1) (by omega)).mono ?_; rintro e w2 ⟨r2, rfl, hr2, hb2⟩
  go_wp2_with fail
  refine (bminus _ _ L.sum M.sum _ (hr1.below hb2) hr2 (by omega) (by omega)).mono ?_; rintro e w3 ⟨r3, rfl, hr3, hb3⟩
  go_wp2_with fail
  refine (told_any _ _ _ hr3 l3).mono ?_; rintro e w4 ⟨rfl, hb4⟩
  go_wp2_with fail
  go_ret2
  have k1 := hb1.trans (hb2.mono hb1.size)
  have k2 := k1.trans (hb3.mono k1.size)
  exact ⟨rfl, k2.trans (hb4.mono k2.size)⟩

theorem reads_nil (w : World) : Reads w none [] := ⟨fun z hz => by (cases hz), fun i hi => by (cases hi)⟩

theorem net_ref_nil (a : Option Addr) (L : List Int) (cap : Nat) (w : World) (hL : Reads w a L) (hn : L.length ≤ 200) :
    Calls Try.prog 20 #[.slice a L.length cap, .slice none 0 0] w fun e w' => e = .returned (.tuple #[.int .i64 (tv L.sum), .int .i64 (te L.sum)]) ∧ Below w.heap.size w w' := by
  have h := net_ref a none L [] cap 0 w hL (reads_nil w) hn (by simp)
  rwa [show L.sum - ([] : List Int).sum = L.sum by simp] at h

set_option maxHeartbeats 400000 in
set_option maxRecDepth 100000 in
theorem sums_long (a b : Option Addr) (len len' cap cap' : Nat) (w : World) (h : 200 < len) :
    Calls Try.prog 4 #[.slice a len cap, .slice b len' cap'] w fun e w' => e = .returned (.bool true) ∧ Below w.heap.size w w' := by
  go_enter Try.func4, Try.ntmps4
  go_wp2_with (go_at_call 18; (with_reducible refine (awake_any _).mono ?_); rintro e w1 ⟨rfl, hb1⟩)
  go_ret
  exact ⟨rfl, hb1⟩
set_option maxHeartbeats 400000 in
set_option maxRecDepth 100000 in
theorem sums_long' (a b : Option Addr) (len len' cap cap' : Nat) (w : World) (h' : len ≤ 200) (h : 200 < len') :
    Calls Try.prog 4 #[.slice a len cap, .slice b len' cap'] w fun e w' => e = .returned (.bool true) ∧ Below w.heap.size w w' := by
  have hd : decide (200 < len) = false := by simp; omega
  go_enter Try.func4, Try.ntmps4
  go_wp2_with (go_at_call 18; (with_reducible refine (awake_any _).mono ?_); rintro e w1 ⟨rfl, hb1⟩)
  go_ret
  exact ⟨rfl, hb1⟩

set_option maxHeartbeats 400000 in
set_option maxRecDepth 100000 in
theorem sums_any (a b : Option Addr) (L M : List Int) (cap cap' : Nat) (w : World) (hL : Reads w a L) (hM : Reads w b M) (hn : L.length ≤ 200) (hm : M.length ≤ 200) :
    Calls Try.prog 4 #[.slice a L.length cap, .slice b M.length cap'] w fun e w' => e = .returned (.bool true) ∧ Below w.heap.size w w' := by
  have hd : decide (200 < L.length) = false := by simp; omega
  have hd' : decide (200 < M.length) = false := by simp; omega
  go_enter Try.func4, Try.ntmps4
  go_wp2_with fail
  refine (sum_any a L cap _ hL (by omega)).mono ?_; rintro e w1 ⟨rfl, hb1⟩
  go_wp2_with fail
  refine (net_ref_nil a L cap _ (hL.below hb1) hn).mono ?_; rintro e w2 ⟨rfl, hb2⟩
  have k1 := hb1.trans (hb2.mono hb1.size)
  go_wp2_with fail
  refine (net_any a b L M cap cap' _ (hL.below k1) (hM.below k1) (by omega) (by omega)).mono ?_; rintro e w3 ⟨rfl, hb3⟩
  have k2 := k1.trans (hb3.mono k1.size)
  go_wp2_with fail
  refine (net_ref a b L M cap cap' _ (hL.below k2) (hM.below k2) hn hm).mono ?_; rintro e w4 ⟨rfl, hb4⟩
  have k3 := k2.trans (hb4.mono k2.size)
  go_wp2_with fail
  refine (awake_any _).mono ?_; rintro e w5 ⟨rfl, hb5⟩
  go_wp2_with fail
  go_ret
  exact ⟨rfl, k3.trans (hb5.mono k3.size)⟩

theorem sums_row (a0 : Option Addr) (len0 cap0 : Nat) (z0 : List Int) (a1 : Option Addr) (len1 cap1 : Nat) (z1 : List Int) (w : World) (w0 : RowOf w a0 len0 cap0 z0) (w1 : RowOf w a1 len1 cap1 z1) :
    Calls Try.prog 4 #[.slice a0 len0 cap0, .slice a1 len1 cap1] w fun e w' => e = .returned (.bool true) ∧ Below w.heap.size w w' := by
  by_cases h0 : 200 < len0
  · exact sums_long a0 a1 len0 len1 cap0 cap1 w h0
  · by_cases h1 : 200 < len1
    · exact sums_long' a0 a1 len0 len1 cap0 cap1 w (by omega) h1
    · obtain ⟨L, rfl, hL, _⟩ := w0.reads
      obtain ⟨M, rfl, hM, _⟩ := w1.reads
      exact sums_any a0 a1 L M cap0 cap1 w hL hM (by omega) (by omega)

end Go.Proofs.Ytbmjnajajimmmaa
