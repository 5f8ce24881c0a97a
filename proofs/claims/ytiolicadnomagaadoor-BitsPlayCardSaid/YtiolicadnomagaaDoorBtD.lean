/-
  Layer 11's own 'do' and 'refDo' over the landed set. The conditions: the set's blocks; the row reads as its list.
-/
import Derived.Test.YtiolicadnomagaaDoorBtA
import Derived.Test.YtiolicadnomagaaDoorRatK
namespace Go.Proofs.YtiolicadnomagaaDoor
open Go.RowKit
set_option linter.unusedSimpArgs false
set_option linter.unusedVariables false

theorem sl_nil11 (w : World) : Sl w (.slice none 0 0) [] := ⟨none, 0, rfl, Nat.le_refl _, fun _ => rfl, by simp, fun i hi => by (cases hi)⟩
/-- What a call tells, and leaves. -/
def boE (S : List Int) (d n : Int) : Int := if d = 0 then bputE S n else if d = 1 then bdropE S n else 0
def boK (S : List Int) (d n : Int) : List Int := if d = 0 then bputK S n else if d = 1 then bdropK S n else []
set_option maxHeartbeats 1000000 in
theorem do11 {w : World} {B : Nat} {S : List Int} {F : Nat → Prop} (h : SetR w B S F) (d n : Int) (hn : InR n) :
    Calls Tryd.prog 8 #[.pointer (some ⟨B, 0, none⟩), .agg #[.int .i64 d, .int .i64 n]] w fun e w' => e = .returned (.int .i64 (boE S d n)) ∧ SetR w' B (boK S d n) F ∧ Turn F w w' := by
  have h1 := h.below (below1 w (.cells #[.int .i64 d, .int .i64 n] 29))
  have hb := below1 w (.cells #[.int .i64 d, .int .i64 n] 29)
  obtain ⟨x0, x1, x2⟩ := At2.new w (.int .i64 d) (.int .i64 n) 29
  unfold boE boK
  by_cases h0 : d = 0
  · subst h0
    rw [if_pos rfl, if_pos rfl]
    have hc := put_s h1 n hn
    clear h h1 hn
    go_enter Tryd.func8, Tryd.ntmps8
    go_wp2_with fail
    refine hc.mono ?_; rintro e w1 ⟨rfl, hR, ht⟩
    clear x0 x1 x2
    go_wp2_with fail
    go_ret
    exact ⟨rfl, hR, (Turn.of_below hb).trans ht (fun j q => Or.inl q)⟩
  · rw [if_neg h0, if_neg h0]
    have e0 : (d == 0) = false := by simpa using h0
    by_cases h2 : d = 1
    · subst h2
      rw [if_pos rfl, if_pos rfl]
      have hc := drop_s h1 n hn
      clear h h1 hn h0
      go_enter Tryd.func8, Tryd.ntmps8
      go_wp2_with fail
      refine hc.mono ?_; rintro e w1 ⟨rfl, hR, ht⟩
      clear x0 x1 x2
      go_wp2_with fail
      go_ret
      exact ⟨rfl, hR, (Turn.of_below hb).trans ht (fun j q => Or.inl q)⟩
    · rw [if_neg h2, if_neg h2]
      have e1 : (d == 1) = false := by simpa using h2
      have hc := clear_s h1
      clear h h1 hn h0 h2
      go_enter Tryd.func8, Tryd.ntmps8
      go_wp2_with fail
      refine hc.mono ?_; rintro e w1 ⟨rfl, hR, ht⟩
      clear x0 x1 x2
      go_wp2_with fail
      go_ret
      exact ⟨rfl, hR, (Turn.of_below hb).trans ht (fun j q => Or.inl q)⟩
set_option maxHeartbeats 1000000 in
theorem ref11 (v : Value) (L : List Int) (d n : Int) (w : World) (hv : Sl w v L) (hn : InR n) (hl : L.length ≤ 400000000) :
    Calls Tryd.prog 9 #[v, .agg #[.int .i64 d, .int .i64 n]] w fun e w' => ∃ u, e = .returned (.tuple #[u, .int .i64 (boE L d n)]) ∧ Sl w' u (boK L d n) ∧ Below w.heap.size w w' := by
  have hb := below1 w (.cells #[.int .i64 d, .int .i64 n] 29)
  obtain ⟨x0, x1, x2⟩ := At2.new w (.int .i64 d) (.int .i64 n) 29
  have h1 := hv.below hb
  have hpu := r11put v L n _ h1 hn (by omega)
  have hdr := r11drop v L n _ h1 hl
  obtain ⟨a, c, rfl, _⟩ := hv
  clear h1
  unfold boE boK
  by_cases h0 : d = 0
  · subst h0
    rw [if_pos rfl, if_pos rfl]
    go_enter Tryd.func9, Tryd.ntmps9
    go_wp2_with fail
    refine hpu.mono ?_; rintro e w1 ⟨u, rfl, hu, hb1⟩
    clear x0 x1 x2 hpu hdr
    obtain ⟨a1, c1, rfl, hu1⟩ := hu
    have HU := Lib.hid hu1
    clear hu1
    go_wp2_with fail
    go_ret2
    exact ⟨_, rfl, ⟨a1, c1, rfl, HU.out⟩, hb.trans (hb1.mono hb.size)⟩
  · rw [if_neg h0, if_neg h0]
    have e0 : (d == 0) = false := by simpa using h0
    by_cases h2 : d = 1
    · subst h2
      rw [if_pos rfl, if_pos rfl]
      clear h0
      go_enter Tryd.func9, Tryd.ntmps9
      go_wp2_with fail
      refine hdr.mono ?_; rintro e w1 ⟨u, rfl, hu, hb1⟩
      clear x0 x1 x2 hpu hdr
      obtain ⟨a1, c1, rfl, hu1⟩ := hu
      have HU := Lib.hid hu1
      clear hu1
      go_wp2_with fail
      go_ret2
      exact ⟨_, rfl, ⟨a1, c1, rfl, HU.out⟩, hb.trans (hb1.mono hb.size)⟩
    · rw [if_neg h2, if_neg h2]
      have e1 : (d == 1) = false := by simpa using h2
      clear h0 h2 hpu hdr
      go_enter Tryd.func9, Tryd.ntmps9
      go_wp2_with fail
      go_ret2
      exact ⟨_, rfl, sl_nil11 _, hb⟩
end Go.Proofs.YtiolicadnomagaaDoor
