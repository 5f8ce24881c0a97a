/-
  The pieces of all periods: what the landed Spans and the document's answer. The condition: a row of at most 1000000.
-/
import Derived.Test.YtjanbaecgldjkaaStkB
import Derived.Test.YtjanbaecgldjkaaStkP
import Derived.Deep.QuietTactic
import Derived.BigQuiet
import Derived.WalkSmall
import Derived.Deep.DeepCutAuto
import Derived.Deep.RegionHeld3
namespace Go.Proofs.Ytjanbaecgldjkaa
open Go.RowKit
set_option linter.unusedSimpArgs false
set_option linter.unusedVariables false

theorem ownsRow_low {w : World} {base base' : Nat} {e : TypeId} {size n : Nat} {v : Value} {cs : List Value} (h : w.ownsRow base e size v n cs) (hb : base' ≤ base) : w.ownsRow base' e size v n cs := by
  refine ⟨h.1, ?_⟩
  rcases h.2 with q | ⟨g, cap, cur, rfl, h2, h3⟩
  · exact Or.inl q
  · exact Or.inr ⟨g, cap, cur, rfl, Nat.le_trans hb h2, h3⟩
/-- The last piece is one longer: its cell is laid anew. -/
theorem row4_to (R : List K4) (q : K4) (z : Int) : (row4 (R ++ [q])).set (R.length * 4 + 1) (.int .i64 z) = row4 (R ++ [(q.1, z, q.2.2.1, q.2.2.2)]) := by
  rw [← row4_app, ← row4_app, List.set_append_right _ _ (by rw [row4_len]; omega), row4_len]
  rw [show R.length * 4 + 1 - R.length * 4 = 1 by omega]
  rfl
theorem row4_last (R : List K4) (q : K4) (j : Nat) (hj : j < 4) : (row4 (R ++ [q]))[R.length * 4 + j]? = (cells4 q)[j]? := by
  rw [row4_at _ _ _ (by simp) hj]
  simp [List.getD]
theorem span_info : (Try.prog.info? 49).map (fun i => (i.zero, i.size, i.bytes)) = some (some (.agg #[.int .i64 0, .int .i64 0, .int .i64 0, .int .i64 0]), 4, 32) := by kernel_rfl
theorem rspan_info : (Try.prog.info? 50).map (fun i => (i.zero, i.size, i.bytes)) = some (some (.agg #[.int .i64 0, .int .i64 0, .int .i64 0, .int .i64 0]), 4, 32) := by kernel_rfl
theorem one4t (w : World) (s : K4) (t : TypeId) : SlC (w.alloc (.cells #[.int .i64 s.1, .int .i64 s.2.1, .int .i64 s.2.2.1, .int .i64 s.2.2.2] t)) (.slice (some ⟨w.heap.size, 0, none⟩) 1 1) 4 1 (cells4 s) :=
  ownsRow_slc (World.ownsRow_lit (base := w.heap.size) (e := t) (size := 4) w #[.int .i64 s.1, .int .i64 s.2.1, .int .i64 s.2.2.1, .int .i64 s.2.2.2] 1 (Nat.le_refl _) (by unfold maxLen; omega) rfl)
set_option maxHeartbeats 4000000 in
set_option maxRecDepth 100000 in
theorem spans_s (a : Option Addr) (c : Nat) (L : List K4) (x : Int) (w : World) (hL : RdQ w a L) (hn : L.length ≤ 1000000) :
    Calls Try.prog 19 #[.slice a L.length c, .int .i64 x] w fun e w' => ∃ v, e = .returned v ∧ w'.ownsRow w.heap.size 49 4 v (spn L x 24).length (row4 (spn L x 24)) ∧ Below w.heap.size w w' := by
  have HL := Lib.hid hL; clear hL
  obtain ⟨R0, hR0⟩ : ∃ R0, spn L x 24 = R0 := ⟨_, rfl⟩
  rw [hR0]
  have HR0 := Lib.hid hR0; clear hR0
  go_enter Try.func19, Try.ntmps19
  go_wp2_with fail
  go_loopw [5, 10] (fun u i wr => ∃ k : Nat, k ≤ 24 ∧ i = .int .i64 (k : Int) ∧ wr.ownsRow w.heap.size 49 4 u (spn L x k).length (row4 (spn L x k)) ∧ Below w.heap.size w wr) (fun _ i _ => 24 - (RowKit.intOf i).toNat)
  case atStart => exact ⟨0, by omega, rfl, World.ownsRow_nil _ _ _ _, Below.refl _ _⟩
  case round =>
    obtain ⟨k, hk, rfl, ho, hb⟩ := hrel
    by_cases hlt : k < 24
    · have i0 : decide (k < 24) = true := decide_eq_true hlt
      have i1 : decide ((k : Int) < 24) = true := decide_eq_true (by omega)
      have e1 : wrap64 ((k : Int) + 1) = (k : Int) + 1 := by unfold wrap64; omega
      have hat := at_s a c L x (k : Int) wr (HL.out.below hb) hn
      have HS : Hid (spn L x (k + 1) = pst (spn L x k) k (upv L x (k : Int)) (shv L x (k : Int))) := rfl
      have HLE : Hid ((spn L x k).length ≤ 24) := by have := (spn_cov L x k).le; show _ ≤ _; omega
      have HB := Lib.hid hb
      have HLT := Lib.hid hlt
      generalize upv L x (k : Int) = u at *
      generalize shv L x (k : Int) = s at *
      generalize spn L x k = R at *
      clear hb
      rcases spn_form R with rfl | ⟨R', q, rfl⟩
      · have HS1 : Hid (spn L x (k + 1) = [((k : Int), (k : Int), u, s)]) := HS.out
        obtain ⟨va, vc, rfl⟩ := (ownsRow_slc ho).form
        have HO := Lib.hid ho
        clear ho HLE
        simp only [List.length_nil] at *
        go_wp2_with fail
        refine hat.mono ?_; clear hat; rintro e w4 ⟨rfl, hb4⟩
        have HB4 : Hid (Below w.heap.size w w4) := HB.out.trans (hb4.mono HB.out.size)
        have HO4 := Lib.hid (ownsRow_below HO.out hb4)
        clear hb4
        go_wp2_with (at_builtin; refine wpList_app rfl (.tmp 48) (.tmp 54) 44 rfl w.heap.size 49 4 32 (.agg #[.int .i64 0, .int .i64 0, .int .i64 0, .int .i64 0]) Try.underlying44 span_info rfl (by decide) _ _ _ rfl (HO4.out.alloc _) (.slice (some ⟨w4.heap.size, 0, none⟩) 1 1) 1 [.int .i64 (k : Int), .int .i64 (k : Int), .int .i64 u, .int .i64 s] rfl (one4t w4 ((k : Int), (k : Int), u, s) 49) (cells4_one ((k : Int), (k : Int), u, s)) (by omega) (by decide) (by have := HB4.out.size; simp; omega) ?_; intro v5 w5 ho5 hb5 hg5)
        go_roundw
        · exact ⟨k + 1, HLT.out, by go_num, by rw [HS1.out]; simpa [row4, cells4] using ho5, HB4.out.trans (((below1 w4 _).mono HB4.out.size).trans hb5)⟩
        · have := HLT.out; simp [RowKit.intOf]; omega
      · have hR : (R' ++ [q]).length = R'.length + 1 := by simp
        have hHL := HLE.out
        rw [hR] at hHL
        obtain ⟨g, cap, rfl⟩ : ∃ g cap, u5 = .slice (some ⟨g, 0, none⟩) (R'.length + 1) cap := by
          rcases ho.2 with ⟨_, e⟩ | ⟨g, cap, cur, e, _⟩
          · rw [hR] at e; omega
          · exact ⟨g, cap, by rw [e, hR]⟩
        rw [hR] at ho
        have c2 := World.ownsRow.cellAt ho (R'.length * 4 + 2) (by omega)
        have c3 := World.ownsRow.cellAt ho (R'.length * 4 + 3) (by omega)
        rw [row4_last R' q 2 (by omega)] at c2
        rw [row4_last R' q 3 (by omega)] at c3
        have c2 : wr.cell? ⟨g, R'.length * 4 + 2, none⟩ = some (.int .i64 q.2.2.1) := c2
        have c3 : wr.cell? ⟨g, R'.length * 4 + 3, none⟩ = some (.int .i64 q.2.2.2) := c3
        have z1 := World.ownsRow.frozenAt ho (R'.length * 4 + 1)
        have hgl : g < wr.heap.size := World.block_lt_of_cell? _ _ c2
        have hgb : w.heap.size ≤ g := (World.ownsRow.lt ho g rfl).1
        obtain ⟨c1, hc1⟩ : ∃ y, wr.cell? ⟨g, R'.length * 4 + 1, none⟩ = some y := by
          have := World.ownsRow.cellAt ho (R'.length * 4 + 1) (by omega)
          rw [row4_last R' q 1 (by omega)] at this
          exact ⟨_, this⟩
        have HO := Lib.hid ho
        have hw1 : wrap64 ((R'.length : Int) + 1 - 1) = (R'.length : Int) := by unfold wrap64; omega
        have hw2 : IntKind.i64.wrap ((R'.length : Int) + 1 - 1) = (R'.length : Int) := by simp [IntKind.wrap, IntKind.signed, IntKind.bits]; omega
        have j0 : (0 : Int) ≤ (R'.length : Int) := by omega
        have j1 : (R'.length : Int) < (R'.length : Int) + 1 := by omega
        have j2 : R'.length < R'.length + 1 := by omega
        have dg : decide ((0 : Int) < (R'.length : Int) + 1) = true := decide_eq_true (by omega)
        have dh : decide (0 < R'.length + 1) = true := decide_eq_true (by omega)
        have HSET := fun (w' : World) (h : w'.ownsRow w.heap.size 49 4 (.slice (some ⟨g, 0, none⟩) (R'.length + 1) cap) (R'.length + 1) (row4 (R' ++ [q]))) => World.ownsRow.stored h (R'.length * 4 + 1) (.int .i64 (k : Int))
        have HSET := Lib.hid HSET
        have HRT := Lib.hid (row4_to R' q (k : Int))
        clear ho HLE
        go_upto_region 6 with fail
        refine hat.mono ?_; clear hat; rintro e w4 ⟨rfl, hb4⟩
        have HB4 : Hid (Below w.heap.size w w4) := HB.out.trans (hb4.mono HB.out.size)
        have HO4 := Lib.hid (ownsRow_below HO.out hb4)
        have c2 := (hb4.cell (p := ⟨g, R'.length * 4 + 2, none⟩) hgl).trans c2
        have c3 := (hb4.cell (p := ⟨g, R'.length * 4 + 3, none⟩) hgl).trans c3
        have z1 := (hb4.frozen (p := ⟨g, R'.length * 4 + 1, none⟩) hgl).trans z1
        have hc1 := (hb4.cell (p := ⟨g, R'.length * 4 + 1, none⟩) hgl).trans hc1
        clear hb4 hgl
        by_cases h1 : q.2.2.1 = u
        · have t1 : (q.2.2.1 == u) = true := by simpa using h1
          by_cases h2 : q.2.2.2 = s
          · have t2 : (q.2.2.2 == s) = true := by simpa using h2
            have HS1 : Hid (spn L x (k + 1) = R' ++ [(q.1, (k : Int), q.2.2.1, q.2.2.2)]) := by show _ = _; rw [HS.out, ← h1, ← h2, pst_same]
            clear h1 h2
            go_wp2_with fail
            go_roundw
            · refine ⟨k + 1, HLT.out, by go_num, ?_, HB4.out.setCell (p := ⟨g, R'.length * 4 + 1, none⟩) hgb _⟩
              have := (HSET.out _ HO4.out).1
              rw [HRT.out] at this
              rw [HS1.out]
              simpa using this
            · have := HLT.out; simp [RowKit.intOf]; omega
          · have t2 : (q.2.2.2 == s) = false := by simpa using h2
            have HS1 : Hid (spn L x (k + 1) = (R' ++ [q]) ++ [((k : Int), (k : Int), u, s)]) := by show _ = _; rw [HS.out, pst_new (fun r => h2 r.2)]
            clear h1 h2
            go_wp2_with (at_builtin; refine wpList_app rfl (.tmp 48) (.tmp 54) 44 rfl w.heap.size 49 4 32 (.agg #[.int .i64 0, .int .i64 0, .int .i64 0, .int .i64 0]) Try.underlying44 span_info rfl (by decide) _ _ _ rfl (HO4.out.alloc _) (.slice (some ⟨w4.heap.size, 0, none⟩) 1 1) 1 [.int .i64 (k : Int), .int .i64 (k : Int), .int .i64 u, .int .i64 s] rfl (one4t w4 ((k : Int), (k : Int), u, s) 49) (cells4_one ((k : Int), (k : Int), u, s)) (by omega) (by decide) (by have := HB4.out.size; simp; omega) ?_; intro v5 w5 ho5 hb5 hg5)
            go_roundw
            · exact ⟨k + 1, HLT.out, by go_num, by rw [HS1.out, ← row4_app, List.length_append, List.length_append]; exact ho5, HB4.out.trans (((below1 w4 _).mono HB4.out.size).trans hb5)⟩
            · have := HLT.out; simp [RowKit.intOf]; omega
        · have t1 : (q.2.2.1 == u) = false := by simpa using h1
          have HS1 : Hid (spn L x (k + 1) = (R' ++ [q]) ++ [((k : Int), (k : Int), u, s)]) := by show _ = _; rw [HS.out, pst_new (fun r => h1 r.1)]
          clear h1
          go_wp2_with (at_builtin; refine wpList_app rfl (.tmp 48) (.tmp 54) 44 rfl w.heap.size 49 4 32 (.agg #[.int .i64 0, .int .i64 0, .int .i64 0, .int .i64 0]) Try.underlying44 span_info rfl (by decide) _ _ _ rfl (HO4.out.alloc _) (.slice (some ⟨w4.heap.size, 0, none⟩) 1 1) 1 [.int .i64 (k : Int), .int .i64 (k : Int), .int .i64 u, .int .i64 s] rfl (one4t w4 ((k : Int), (k : Int), u, s) 49) (cells4_one ((k : Int), (k : Int), u, s)) (by omega) (by decide) (by have := HB4.out.size; simp; omega) ?_; intro v5 w5 ho5 hb5 hg5)
          go_roundw
          · exact ⟨k + 1, HLT.out, by go_num, by rw [HS1.out, ← row4_app, List.length_append, List.length_append]; exact ho5, HB4.out.trans (((below1 w4 _).mono HB4.out.size).trans hb5)⟩
          · have := HLT.out; simp [RowKit.intOf]; omega
    · obtain rfl : k = 24 := by omega
      rw [HR0.out] at ho
      have HO := Lib.hid ho
      obtain ⟨va, vc, rfl⟩ := (ownsRow_slc ho).form
      have HB := Lib.hid hb
      clear ho hb
      go_wp2_with fail
      go_ret
      exact ⟨_, rfl, HO.out, HB.out⟩
set_option maxHeartbeats 4000000 in
set_option maxRecDepth 100000 in
theorem r18spans (a : Option Addr) (c : Nat) (L : List K4) (x : Int) (w : World) (hL : RdQ w a L) (hn : L.length ≤ 1000000) :
    Calls Try.prog 20 #[.slice a L.length c, .int .i64 x] w fun e w' => ∃ v, e = .returned v ∧ w'.ownsRow w.heap.size 50 4 v (spn L x 24).length (row4 (spn L x 24)) ∧ Below w.heap.size w w' := by
  have HL := Lib.hid hL; clear hL
  obtain ⟨R0, hR0⟩ : ∃ R0, spn L x 24 = R0 := ⟨_, rfl⟩
  rw [hR0]
  have HR0 := Lib.hid hR0; clear hR0
  go_enter Try.func20, Try.ntmps20
  go_wp2_with fail
  go_loopw [5, 6] (fun u i wr => ∃ k : Nat, k ≤ 24 ∧ i = .int .i64 (k : Int) ∧ wr.ownsRow w.heap.size 50 4 u (spn L x k).length (row4 (spn L x k)) ∧ Below w.heap.size w wr) (fun _ i _ => 24 - (RowKit.intOf i).toNat)
  case atStart => exact ⟨0, by omega, rfl, World.ownsRow_nil _ _ _ _, Below.refl _ _⟩
  case round =>
    obtain ⟨k, hk, rfl, ho, hb⟩ := hrel
    by_cases hlt : k < 24
    · have i0 : decide (k < 24) = true := decide_eq_true hlt
      have i1 : decide ((k : Int) < 24) = true := decide_eq_true (by omega)
      have e1 : wrap64 ((k : Int) + 1) = (k : Int) + 1 := by unfold wrap64; omega
      have hat := r18at a c L x (k : Int) wr (HL.out.below hb) hn
      have HS : Hid (spn L x (k + 1) = pst (spn L x k) k (upv L x (k : Int)) (shv L x (k : Int))) := rfl
      have HLE : Hid ((spn L x k).length ≤ 24) := by have := (spn_cov L x k).le; show _ ≤ _; omega
      have HB := Lib.hid hb
      have HLT := Lib.hid hlt
      generalize upv L x (k : Int) = u at *
      generalize shv L x (k : Int) = s at *
      generalize spn L x k = R at *
      clear hb
      rcases spn_form R with rfl | ⟨R', q, rfl⟩
      · have HS1 : Hid (spn L x (k + 1) = [((k : Int), (k : Int), u, s)]) := HS.out
        obtain ⟨va, vc, rfl⟩ := (ownsRow_slc ho).form
        have HO := Lib.hid ho
        clear ho HLE
        simp only [List.length_nil] at *
        go_wp2_with fail
        refine hat.mono ?_; clear hat; rintro e w4 ⟨rfl, hb4⟩
        have HB4 : Hid (Below w.heap.size w w4) := HB.out.trans (hb4.mono HB.out.size)
        have HO4 := Lib.hid (ownsRow_below HO.out hb4)
        clear hb4
        go_wp2_with (at_builtin; refine wpList_app rfl (.tmp 51) (.tmp 57) 46 rfl w.heap.size 50 4 32 (.agg #[.int .i64 0, .int .i64 0, .int .i64 0, .int .i64 0]) Try.underlying46 rspan_info rfl (by decide) _ _ _ rfl (HO4.out.alloc _) (.slice (some ⟨w4.heap.size, 0, none⟩) 1 1) 1 [.int .i64 (k : Int), .int .i64 (k : Int), .int .i64 u, .int .i64 s] rfl (one4t w4 ((k : Int), (k : Int), u, s) 50) (cells4_one ((k : Int), (k : Int), u, s)) (by omega) (by decide) (by have := HB4.out.size; simp; omega) ?_; intro v5 w5 ho5 hb5 hg5)
        go_roundw
        · exact ⟨k + 1, HLT.out, by go_num, by rw [HS1.out]; simpa [row4, cells4] using ho5, HB4.out.trans (((below1 w4 _).mono HB4.out.size).trans hb5)⟩
        · have := HLT.out; simp [RowKit.intOf]; omega
      · have hR : (R' ++ [q]).length = R'.length + 1 := by simp
        have hHL := HLE.out
        rw [hR] at hHL
        obtain ⟨g, cap, rfl⟩ : ∃ g cap, u5 = .slice (some ⟨g, 0, none⟩) (R'.length + 1) cap := by
          rcases ho.2 with ⟨_, e⟩ | ⟨g, cap, cur, e, _⟩
          · rw [hR] at e; omega
          · exact ⟨g, cap, by rw [e, hR]⟩
        rw [hR] at ho
        have c2 := World.ownsRow.cellAt ho (R'.length * 4 + 2) (by omega)
        have c3 := World.ownsRow.cellAt ho (R'.length * 4 + 3) (by omega)
        rw [row4_last R' q 2 (by omega)] at c2
        rw [row4_last R' q 3 (by omega)] at c3
        have c2 : wr.cell? ⟨g, R'.length * 4 + 2, none⟩ = some (.int .i64 q.2.2.1) := c2
        have c3 : wr.cell? ⟨g, R'.length * 4 + 3, none⟩ = some (.int .i64 q.2.2.2) := c3
        have z1 := World.ownsRow.frozenAt ho (R'.length * 4 + 1)
        have hgl : g < wr.heap.size := World.block_lt_of_cell? _ _ c2
        have hgb : w.heap.size ≤ g := (World.ownsRow.lt ho g rfl).1
        obtain ⟨c1, hc1⟩ : ∃ y, wr.cell? ⟨g, R'.length * 4 + 1, none⟩ = some y := by
          have := World.ownsRow.cellAt ho (R'.length * 4 + 1) (by omega)
          rw [row4_last R' q 1 (by omega)] at this
          exact ⟨_, this⟩
        have HO := Lib.hid ho
        have hw1 : wrap64 ((R'.length : Int) + 1 - 1) = (R'.length : Int) := by unfold wrap64; omega
        have hw2 : IntKind.i64.wrap ((R'.length : Int) + 1 - 1) = (R'.length : Int) := by simp [IntKind.wrap, IntKind.signed, IntKind.bits]; omega
        have j0 : (0 : Int) ≤ (R'.length : Int) := by omega
        have j1 : (R'.length : Int) < (R'.length : Int) + 1 := by omega
        have j2 : R'.length < R'.length + 1 := by omega
        have dg : decide ((0 : Int) < (R'.length : Int) + 1) = true := decide_eq_true (by omega)
        have dh : decide (0 < R'.length + 1) = true := decide_eq_true (by omega)
        have HSET := fun (w' : World) (h : w'.ownsRow w.heap.size 50 4 (.slice (some ⟨g, 0, none⟩) (R'.length + 1) cap) (R'.length + 1) (row4 (R' ++ [q]))) => World.ownsRow.stored h (R'.length * 4 + 1) (.int .i64 (k : Int))
        have HSET := Lib.hid HSET
        have HRT := Lib.hid (row4_to R' q (k : Int))
        clear ho HLE
        go_upto_region 6 with fail
        refine hat.mono ?_; clear hat; rintro e w4 ⟨rfl, hb4⟩
        have HB4 : Hid (Below w.heap.size w w4) := HB.out.trans (hb4.mono HB.out.size)
        have HO4 := Lib.hid (ownsRow_below HO.out hb4)
        have c2 := (hb4.cell (p := ⟨g, R'.length * 4 + 2, none⟩) hgl).trans c2
        have c3 := (hb4.cell (p := ⟨g, R'.length * 4 + 3, none⟩) hgl).trans c3
        have z1 := (hb4.frozen (p := ⟨g, R'.length * 4 + 1, none⟩) hgl).trans z1
        have hc1 := (hb4.cell (p := ⟨g, R'.length * 4 + 1, none⟩) hgl).trans hc1
        clear hb4 hgl
        by_cases h1 : q.2.2.1 = u
        · have t1 : (q.2.2.1 == u) = true := by simpa using h1
          by_cases h2 : q.2.2.2 = s
          · have t2 : (q.2.2.2 == s) = true := by simpa using h2
            have HS1 : Hid (spn L x (k + 1) = R' ++ [(q.1, (k : Int), q.2.2.1, q.2.2.2)]) := by show _ = _; rw [HS.out, ← h1, ← h2, pst_same]
            clear h1 h2
            go_wp2_with fail
            go_roundw
            · refine ⟨k + 1, HLT.out, by go_num, ?_, HB4.out.setCell (p := ⟨g, R'.length * 4 + 1, none⟩) hgb _⟩
              have := (HSET.out _ HO4.out).1
              rw [HRT.out] at this
              rw [HS1.out]
              simpa using this
            · have := HLT.out; simp [RowKit.intOf]; omega
          · have t2 : (q.2.2.2 == s) = false := by simpa using h2
            have HS1 : Hid (spn L x (k + 1) = (R' ++ [q]) ++ [((k : Int), (k : Int), u, s)]) := by show _ = _; rw [HS.out, pst_new (fun r => h2 r.2)]
            clear h1 h2
            go_wp2_with (at_builtin; refine wpList_app rfl (.tmp 51) (.tmp 57) 46 rfl w.heap.size 50 4 32 (.agg #[.int .i64 0, .int .i64 0, .int .i64 0, .int .i64 0]) Try.underlying46 rspan_info rfl (by decide) _ _ _ rfl (HO4.out.alloc _) (.slice (some ⟨w4.heap.size, 0, none⟩) 1 1) 1 [.int .i64 (k : Int), .int .i64 (k : Int), .int .i64 u, .int .i64 s] rfl (one4t w4 ((k : Int), (k : Int), u, s) 50) (cells4_one ((k : Int), (k : Int), u, s)) (by omega) (by decide) (by have := HB4.out.size; simp; omega) ?_; intro v5 w5 ho5 hb5 hg5)
            go_roundw
            · exact ⟨k + 1, HLT.out, by go_num, by rw [HS1.out, ← row4_app, List.length_append, List.length_append]; exact ho5, HB4.out.trans (((below1 w4 _).mono HB4.out.size).trans hb5)⟩
            · have := HLT.out; simp [RowKit.intOf]; omega
        · have t1 : (q.2.2.1 == u) = false := by simpa using h1
          have HS1 : Hid (spn L x (k + 1) = (R' ++ [q]) ++ [((k : Int), (k : Int), u, s)]) := by show _ = _; rw [HS.out, pst_new (fun r => h1 r.1)]
          clear h1
          go_wp2_with (at_builtin; refine wpList_app rfl (.tmp 51) (.tmp 57) 46 rfl w.heap.size 50 4 32 (.agg #[.int .i64 0, .int .i64 0, .int .i64 0, .int .i64 0]) Try.underlying46 rspan_info rfl (by decide) _ _ _ rfl (HO4.out.alloc _) (.slice (some ⟨w4.heap.size, 0, none⟩) 1 1) 1 [.int .i64 (k : Int), .int .i64 (k : Int), .int .i64 u, .int .i64 s] rfl (one4t w4 ((k : Int), (k : Int), u, s) 50) (cells4_one ((k : Int), (k : Int), u, s)) (by omega) (by decide) (by have := HB4.out.size; simp; omega) ?_; intro v5 w5 ho5 hb5 hg5)
          go_roundw
          · exact ⟨k + 1, HLT.out, by go_num, by rw [HS1.out, ← row4_app, List.length_append, List.length_append]; exact ho5, HB4.out.trans (((below1 w4 _).mono HB4.out.size).trans hb5)⟩
          · have := HLT.out; simp [RowKit.intOf]; omega
    · obtain rfl : k = 24 := by omega
      rw [HR0.out] at ho
      have HO := Lib.hid ho
      obtain ⟨va, vc, rfl⟩ := (ownsRow_slc ho).form
      have HB := Lib.hid hb
      clear ho hb
      go_wp2_with fail
      go_ret
      exact ⟨_, rfl, HO.out, HB.out⟩
end Go.Proofs.Ytjanbaecgldjkaa
