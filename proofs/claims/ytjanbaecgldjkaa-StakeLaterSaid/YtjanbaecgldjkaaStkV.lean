/-
  StakeLater of layer 18 returns true, whatever stakes and numbers it is given. No conditions.
-/
import Derived.Test.YtjanbaecgldjkaaStkT
import Derived.Test.YtjanbaecgldjkaaStkX
import Derived.Deep.QuietTactic
import Derived.BigQuiet
import Derived.WalkSmall
import Derived.Deep.DeepCutAuto
import Derived.Deep.RegionHeld3
namespace Go.Proofs.Ytjanbaecgldjkaa
open Go.RowKit
set_option linter.unusedSimpArgs false
set_option linter.unusedVariables false

/-- The least From so far that lies behind the stake's. -/
def NxI (F : List Int) (f : Int) (k : Nat) (v : Int) : Prop := (v = 4611686018427387904 ∨ v ∈ F ∧ f < v) ∧ (∀ z ∈ F.take k, f < z → v ≤ z) ∧ v ≤ 4611686018427387904
theorem NxI.zero (F : List Int) (f : Int) : NxI F f 0 4611686018427387904 := ⟨Or.inl rfl, fun z hz => by simp at hz, Int.le_refl _⟩
theorem NxI.keep {F : List Int} {f v : Int} {k : Nat} (h : NxI F f k v) (hk : k < F.length) (hn : f < F.getD k 0 → v ≤ F.getD k 0) : NxI F f (k + 1) v :=
  ⟨h.1, (take_step hk (fun z => f < z → v ≤ z)).2 ⟨h.2.1, hn⟩, h.2.2⟩
theorem NxI.less {F : List Int} {f v : Int} {k : Nat} (h : NxI F f k v) (hk : k < F.length) (h1 : f < F.getD k 0) (h2 : F.getD k 0 < v) : NxI F f (k + 1) (F.getD k 0) :=
  ⟨Or.inr ⟨by rw [getD_lt _ _ hk]; exact List.getElem_mem hk, h1⟩, (take_step hk (fun z => f < z → F.getD k 0 ≤ z)).2 ⟨fun z hz hf => by have := h.2.1 z hz hf; omega, fun _ => Int.le_refl _⟩, by have := h.2.2; omega⟩
set_option maxHeartbeats 8000000 in
set_option maxRecDepth 100000 in
theorem later18 (a : Option Addr) (c : Nat) (L : List K4) (s : K4) (x0 x1 x2 : Int) (w : World) (hr : Go.RowsIn.QuadS w a c L) (hs : ok4 s) :
    Calls Try.prog 6 #[.slice a L.length c, .agg #[.int .i64 s.1, .int .i64 s.2.1, .int .i64 s.2.2.1, .int .i64 s.2.2.2], .agg #[.int .i64 x0, .int .i64 x1, .int .i64 x2]] w fun e w' => e = .returned (.bool true) ∧ Below w.heap.size w w' := by
  have HL := Lib.hid (rdq_in hr)
  have HSO := Lib.hid hs
  have HBX : Hid (Below w.heap.size w ((w.alloc (.cells #[.int .i64 s.1, .int .i64 s.2.1, .int .i64 s.2.2.1, .int .i64 s.2.2.2] 24)).alloc (.cells #[.int .i64 x0, .int .i64 x1, .int .i64 x2] 42))) := below2 _ _ _
  have HGX : Hid ((∀ wr, Below ((w.alloc (.cells #[.int .i64 s.1, .int .i64 s.2.1, .int .i64 s.2.2.1, .int .i64 s.2.2.2] 24)).alloc (.cells #[.int .i64 x0, .int .i64 x1, .int .i64 x2] 42)).heap.size ((w.alloc (.cells #[.int .i64 s.1, .int .i64 s.2.1, .int .i64 s.2.2.1, .int .i64 s.2.2.2] 24)).alloc (.cells #[.int .i64 x0, .int .i64 x1, .int .i64 x2] 42)) wr → (wr.cell? ⟨w.heap.size, 0, none⟩ = some (.int .i64 s.1) ∧ wr.cell? ⟨w.heap.size, 1, none⟩ = some (.int .i64 s.2.1) ∧ wr.cell? ⟨w.heap.size, 2, none⟩ = some (.int .i64 s.2.2.1) ∧ wr.cell? ⟨w.heap.size, 3, none⟩ = some (.int .i64 s.2.2.2)) ∧ wr.cell? ⟨w.heap.size + 1, 0, none⟩ = some (.int .i64 x0) ∧ wr.cell? ⟨w.heap.size + 1, 1, none⟩ = some (.int .i64 x1) ∧ wr.cell? ⟨w.heap.size + 1, 2, none⟩ = some (.int .i64 x2))) := fun wr h => by
    have hl0 : w.heap.size < ((w.alloc (.cells #[.int .i64 s.1, .int .i64 s.2.1, .int .i64 s.2.2.1, .int .i64 s.2.2.2] 24)).alloc (.cells #[.int .i64 x0, .int .i64 x1, .int .i64 x2] 42)).heap.size := by simp; omega
    have hl1 : w.heap.size + 1 < ((w.alloc (.cells #[.int .i64 s.1, .int .i64 s.2.1, .int .i64 s.2.2.1, .int .i64 s.2.2.2] 24)).alloc (.cells #[.int .i64 x0, .int .i64 x1, .int .i64 x2] 42)).heap.size := by simp
    obtain ⟨g0, g1, g2, g3⟩ := new4 (w := w) (s := s) (below1 _ (.cells #[.int .i64 x0, .int .i64 x1, .int .i64 x2] 42))
    exact ⟨⟨(h.cell (p := ⟨w.heap.size, 0, none⟩) hl0).trans g0, (h.cell (p := ⟨w.heap.size, 1, none⟩) hl0).trans g1, (h.cell (p := ⟨w.heap.size, 2, none⟩) hl0).trans g2, (h.cell (p := ⟨w.heap.size, 3, none⟩) hl0).trans g3⟩, (h.cell (p := ⟨w.heap.size + 1, 0, none⟩) hl1).trans (by simp [go_sem]), (h.cell (p := ⟨w.heap.size + 1, 1, none⟩) hl1).trans (by simp [go_sem]), (h.cell (p := ⟨w.heap.size + 1, 2, none⟩) hl1).trans (by simp [go_sem])⟩
  clear hr hs
  by_cases h1 : 30 < L.length
  · have d1 : decide ((30 : Int) < (L.length : Int)) = true := decide_eq_true (by omega)
    have d2 : decide (30 < L.length) = true := decide_eq_true h1
    clear HL HSO
    go_enter Try.func6, Try.ntmps6
    go_wp2_with fail
    refine (awake18 _).mono ?_; rintro e w2 ⟨rfl, hb2⟩
    go_wp2_with fail
    go_ret
    exact ⟨rfl, HBX.out.trans (hb2.mono HBX.out.size)⟩
  · have d1 : decide ((30 : Int) < (L.length : Int)) = false := decide_eq_false (by omega)
    have d2 : decide (30 < L.length) = false := decide_eq_false h1
    obtain ⟨⟨g0, g1, g2, g3⟩, y0, y1, y2⟩ := HGX.out _ (Below.refl _ _)
    by_cases h2 : 60 < x0
    · have d3 : decide (60 < x0) = true := decide_eq_true h2
      clear HL HSO
      go_enter Try.func6, Try.ntmps6
      go_wp2_with fail
      refine (awake18 _).mono ?_; rintro e w2 ⟨rfl, hb2⟩
      go_wp2_with fail
      go_ret
      exact ⟨rfl, HBX.out.trans (hb2.mono HBX.out.size)⟩
    · have d3 : decide (60 < x0) = false := decide_eq_false h2
      have hn : L.length ≤ 1000000 := by omega
      have HA : Hid (∀ wr, Below w.heap.size w wr → Calls Try.prog 9 #[.slice a L.length c, .agg #[.int .i64 s.1, .int .i64 s.2.1, .int .i64 s.2.2.1, .int .i64 s.2.2.2], .int .i64 x0] wr fun e w' => ∃ v, e = .returned (.tuple #[v, .int .i64 (adE L s x0)]) ∧ OwnS w' wr.heap.size v (adL L s x0) ∧ Below wr.heap.size wr w') := fun wr h => add_s a c L s x0 wr (HL.out.1.below h) hn HL.out.2.1 HL.out.2.2 HSO.out
      have HAE : Hid ((adE L s x0 ≠ 0 → adL L s x0 = []) ∧ (adE L s x0 = 0 → adL L s x0 = L ++ [s])) := by
        unfold adE adL
        rw [if_neg (by omega), if_neg (by omega)]
        exact ⟨fun q => if_neg q, fun q => if_pos q⟩
      generalize adE L s x0 = ae at *
      generalize adL L s x0 = M at *
      by_cases h3 : ae = 0
      · obtain rfl := HAE.out.2 h3
        subst h3
        have HMO : Hid (∀ t ∈ L ++ [s], ok4 t) := ok4_snoc HL.out.1.1 HSO.out
        have hml : (L ++ [s]).length = L.length + 1 := by simp
        have HT1 : Hid (∀ wr, Below w.heap.size w wr → Calls Try.prog 14 #[.slice a L.length c, .int .i64 x1, .int .i64 x2] wr fun e w' => e = .returned (.tuple #[.int .i64 (upv L x1 x2), .int .i64 (shv L x1 x2)]) ∧ Below wr.heap.size wr w') := fun wr h => at_s a c L x1 x2 wr (HL.out.1.below h) hn
        have HT2 : Hid (∀ wr a' c', RdQ wr a' (L ++ [s]) → Calls Try.prog 14 #[.slice a' (L.length + 1) c', .int .i64 x1, .int .i64 x2] wr fun e w' => e = .returned (.tuple #[.int .i64 (upv (L ++ [s]) x1 x2), .int .i64 (shv (L ++ [s]) x1 x2)]) ∧ Below wr.heap.size wr w') := fun wr a' c' h => by
          have := at_s a' c' (L ++ [s]) x1 x2 wr h (by rw [hml]; omega)
          rwa [hml] at this
        have HFR : Hid (∀ wr, Below w.heap.size w wr → Calls Try.prog 17 #[.slice a L.length c, .int .i64 s.1] wr fun e w' => ∃ v, e = .returned v ∧ Sl w' v (frm L s.1) ∧ Below wr.heap.size wr w') := fun wr h => froms_s a c L s.1 wr (HL.out.1.below h) hn
        have HYES : Hid (∀ nxt, NxI (frm L s.1) s.2.2.2 (frm L s.1).length nxt → x1 = s.1 → s.2.2.2 ≤ x2 → x2 < nxt → upv (L ++ [s]) x1 x2 = s.2.1 ∧ shv (L ++ [s]) x1 x2 = s.2.2.1) := fun nxt hi e1 e2 e3 => by
          have := later_yes HL.out.1.1 HSO.out e2 e3 (fun z hz hf => hi.2.1 z (by rw [List.take_length]; exact hz) hf)
          unfold upv shv
          rw [e1, this]
          exact ⟨rfl, rfl⟩
        have HNO : Hid (∀ nxt, NxI (frm L s.1) s.2.2.2 (frm L s.1).length nxt → ¬ (x1 = s.1 ∧ s.2.2.2 ≤ x2 ∧ x2 < nxt) → x2 < 4611686018427387904 → upv (L ++ [s]) x1 x2 = upv L x1 x2 ∧ shv (L ++ [s]) x1 x2 = shv L x1 x2) := fun nxt hi hno hp => by
          have := later_no HL.out.1.1 hp hi.1 hno
          unfold upv shv
          rw [this]
          exact ⟨rfl, rfl⟩
        have HFL : Hid ((frm L s.1).length ≤ 1000) := by have := frm_len L s.1; show _ ≤ _; omega
        generalize upv (L ++ [s]) x1 x2 = um at *
        generalize shv (L ++ [s]) x1 x2 = sm at *
        generalize upv L x1 x2 = ul at *
        generalize shv L x1 x2 = sl at *
        generalize frm L s.1 = F at *
        go_enter Try.func6, Try.ntmps6
        go_wp2_with fail
        generalize hW : ((w.alloc (.cells #[.int .i64 s.1, .int .i64 s.2.1, .int .i64 s.2.2.1, .int .i64 s.2.2.2] 24)).alloc (.cells #[.int .i64 x0, .int .i64 x1, .int .i64 x2] 42)) = W at *
        clear hW d1 d2 d3
        refine (HA.out _ HBX.out).mono ?_; rintro e w2 ⟨v2, rfl, ho2, hb2⟩
        have HB2 : Hid (Below W.heap.size W w2) := hb2
        obtain ⟨a2, c2, hv2, -, -, hr2⟩ := ho2.reads HMO.out
        rw [hml] at hv2
        subst hv2
        have HR2 := Lib.hid hr2
        clear hb2 ho2 hr2 g0 g1 g2 g3 y0 y1 y2
        obtain ⟨⟨g0, g1, g2, g3⟩, y0, y1, y2⟩ := HGX.out _ HB2.out
        go_wp2_with fail
        refine (HT1.out _ (HBX.out.trans (HB2.out.mono HBX.out.size))).mono ?_; rintro e w3 ⟨rfl, hb3⟩
        have HB3 : Hid (Below W.heap.size W w3) := HB2.out.trans (hb3.mono HB2.out.size)
        have HR3 := Lib.hid (HR2.out.below hb3)
        clear hb3 g0 g1 g2 g3 y0 y1 y2
        obtain ⟨⟨g0, g1, g2, g3⟩, y0, y1, y2⟩ := HGX.out _ HB3.out
        go_wp2_with fail
        refine (HT2.out _ a2 c2 HR3.out).mono ?_; rintro e w4 ⟨rfl, hb4⟩
        have HB4 : Hid (Below W.heap.size W w4) := HB3.out.trans (hb4.mono HB3.out.size)
        clear hb4 g0 g1 g2 g3 y0 y1 y2
        obtain ⟨⟨g0, g1, g2, g3⟩, y0, y1, y2⟩ := HGX.out _ HB4.out
        go_wp2_with fail
        refine (HFR.out _ (HBX.out.trans (HB4.out.mono HBX.out.size))).mono ?_; rintro e w5 ⟨v5, rfl, hs5, hb5⟩
        have HB5 : Hid (Below W.heap.size W w5) := HB4.out.trans (hb5.mono HB4.out.size)
        obtain ⟨a5, c5, rfl, -, -, hr5⟩ := hs5
        have HR5 := Lib.hid hr5
        clear hb5 hr5 g0 g1 g2 g3 y0 y1 y2
        go_wp2_with fail
        go_loopw [13, 15] (fun u i wr => ∃ (k : Nat) (nxt : Int), k ≤ F.length ∧ i = .int .i64 (k : Int) ∧ u = .int .i64 nxt ∧ NxI F s.2.2.2 k nxt ∧ Below w5.heap.size w5 wr) (fun _ i _ => F.length - (RowKit.intOf i).toNat)
        case atStart => exact ⟨0, _, Nat.zero_le _, rfl, rfl, NxI.zero _ _, Below.refl _ _⟩
        case round =>
          obtain ⟨k, nxt, hk, rfl, rfl, hi, hb⟩ := hrel
          have HI := Lib.hid hi
          have HBR : Hid (Below W.heap.size W wr) := HB5.out.trans (hb.mono HB5.out.size)
          obtain ⟨⟨g0, g1, g2, g3⟩, y0, y1, y2⟩ := HGX.out _ HBR.out
          by_cases hlt : k < F.length
          · obtain ⟨b, off, rfl, hc⟩ := (HR5.out.below hb).2 k hlt
            have HB := Lib.hid hb
            have i0 : (0 : Int) ≤ (k : Int) := by omega
            have i1 : (k : Int) < (F.length : Int) := by omega
            have hkb : k < 1000 := Nat.lt_of_lt_of_le hlt HFL.out
            have e1 : wrap64 ((k : Int) + 1) = (k : Int) + 1 := by unfold wrap64; omega
            have HKP : Hid ((s.2.2.2 < F.getD k 0 → nxt ≤ F.getD k 0) → NxI F s.2.2.2 (k + 1) nxt) := fun q => HI.out.keep hlt q
            have HLS : Hid (s.2.2.2 < F.getD k 0 → F.getD k 0 < nxt → NxI F s.2.2.2 (k + 1) (F.getD k 0)) := fun q r => HI.out.less hlt q r
            generalize F.getD k 0 = z at *
            clear hi hb
            by_cases m1 : s.2.2.2 < z
            · have t1 : decide (s.2.2.2 < z) = true := decide_eq_true m1
              by_cases m2 : z < nxt
              · have t2 : decide (z < nxt) = true := decide_eq_true m2
                have HI2 := Lib.hid (HLS.out m1 m2)
                clear m1 m2
                go_wp2_with fail
                go_quiet (fail)
                go_wp2_with fail
                go_roundw
                · exact ⟨k + 1, z, by omega, by go_num, rfl, HI2.out, below_drewN HB.out _⟩
                · simp [RowKit.intOf]; omega
              · have t2 : decide (z < nxt) = false := decide_eq_false m2
                have HI2 := Lib.hid (HKP.out (fun _ => Int.not_lt.1 m2))
                clear m1 m2
                go_wp2_with fail
                go_quiet (fail)
                go_wp2_with fail
                go_roundw
                · exact ⟨k + 1, nxt, by omega, by go_num, rfl, HI2.out, below_drewN HB.out _⟩
                · simp [RowKit.intOf]; omega
            · have t1 : decide (s.2.2.2 < z) = false := decide_eq_false m1
              have HI2 := Lib.hid (HKP.out (fun q => absurd q m1))
              clear m1
              go_wp2_with fail
              go_quiet (fail)
              go_wp2_with fail
              go_roundw
              · exact ⟨k + 1, nxt, by omega, by go_num, rfl, HI2.out, below_drewN HB.out _⟩
              · simp [RowKit.intOf]; omega
          · obtain rfl : k = F.length := by omega
            have hd0 : decide ((F.length : Int) < (F.length : Int)) = false := decide_eq_false (by omega)
            clear hi hb hlt
            by_cases f1 : x1 = s.1
            · have t1 : (x1 == s.1) = true := by simpa using f1
              by_cases f2 : s.2.2.2 ≤ x2
              · have t2 : decide (s.2.2.2 ≤ x2) = true := decide_eq_true f2
                by_cases f3 : x2 < nxt
                · have t3 : decide (x2 < nxt) = true := decide_eq_true f3
                  obtain ⟨q1, q2⟩ := HYES.out nxt HI.out f1 f2 f3
                  rw [q1, q2]
                  clear f1 f2 f3 q1 q2
                  go_wp2_with fail
                  refine (awake18 _).mono ?_; rintro e w9 ⟨rfl, hb9⟩
                  have HB9 : Hid (Below W.heap.size W w9) := HBR.out.trans (hb9.mono HBR.out.size)
                  clear hb9
                  go_wp2_with fail
                  go_ret
                  exact ⟨rfl, HBX.out.trans (HB9.out.mono HBX.out.size)⟩
                · have t3 : decide (x2 < nxt) = false := decide_eq_false f3
                  have hno : ¬ (x1 = s.1 ∧ s.2.2.2 ≤ x2 ∧ x2 < nxt) := fun q => f3 q.2.2
                  clear f1 f2 f3
                  by_cases h9 : 4611686018427387904 ≤ x2
                  · have t9 : decide (4611686018427387904 ≤ x2) = true := decide_eq_true h9
                    go_wp2_with fail
                    refine (awake18 _).mono ?_; rintro e w9 ⟨rfl, hb9⟩
                    have HB9 : Hid (Below W.heap.size W w9) := HBR.out.trans (hb9.mono HBR.out.size)
                    clear hb9
                    go_wp2_with fail
                    go_ret
                    exact ⟨rfl, HBX.out.trans (HB9.out.mono HBX.out.size)⟩
                  · have t9 : decide (4611686018427387904 ≤ x2) = false := decide_eq_false h9
                    obtain ⟨q1, q2⟩ := HNO.out nxt HI.out hno (Int.not_le.1 h9)
                    subst q1; subst q2
                    clear h9 hno
                    go_wp2_with fail
                    refine (awake18 _).mono ?_; rintro e w9 ⟨rfl, hb9⟩
                    have HB9 : Hid (Below W.heap.size W w9) := HBR.out.trans (hb9.mono HBR.out.size)
                    clear hb9
                    go_wp2_with fail
                    go_ret
                    exact ⟨rfl, HBX.out.trans (HB9.out.mono HBX.out.size)⟩
              · have t2 : decide (s.2.2.2 ≤ x2) = false := decide_eq_false f2
                have hno : ¬ (x1 = s.1 ∧ s.2.2.2 ≤ x2 ∧ x2 < nxt) := fun q => f2 q.2.1
                clear f1 f2
                by_cases h9 : 4611686018427387904 ≤ x2
                · have t9 : decide (4611686018427387904 ≤ x2) = true := decide_eq_true h9
                  go_wp2_with fail
                  refine (awake18 _).mono ?_; rintro e w9 ⟨rfl, hb9⟩
                  have HB9 : Hid (Below W.heap.size W w9) := HBR.out.trans (hb9.mono HBR.out.size)
                  clear hb9
                  go_wp2_with fail
                  go_ret
                  exact ⟨rfl, HBX.out.trans (HB9.out.mono HBX.out.size)⟩
                · have t9 : decide (4611686018427387904 ≤ x2) = false := decide_eq_false h9
                  obtain ⟨q1, q2⟩ := HNO.out nxt HI.out hno (Int.not_le.1 h9)
                  subst q1; subst q2
                  clear h9 hno
                  go_wp2_with fail
                  refine (awake18 _).mono ?_; rintro e w9 ⟨rfl, hb9⟩
                  have HB9 : Hid (Below W.heap.size W w9) := HBR.out.trans (hb9.mono HBR.out.size)
                  clear hb9
                  go_wp2_with fail
                  go_ret
                  exact ⟨rfl, HBX.out.trans (HB9.out.mono HBX.out.size)⟩
            · have t1 : (x1 == s.1) = false := by simpa using f1
              have hno : ¬ (x1 = s.1 ∧ s.2.2.2 ≤ x2 ∧ x2 < nxt) := fun q => f1 q.1
              clear f1
              by_cases h9 : 4611686018427387904 ≤ x2
              · have t9 : decide (4611686018427387904 ≤ x2) = true := decide_eq_true h9
                go_wp2_with fail
                refine (awake18 _).mono ?_; rintro e w9 ⟨rfl, hb9⟩
                have HB9 : Hid (Below W.heap.size W w9) := HBR.out.trans (hb9.mono HBR.out.size)
                clear hb9
                go_wp2_with fail
                go_ret
                exact ⟨rfl, HBX.out.trans (HB9.out.mono HBX.out.size)⟩
              · have t9 : decide (4611686018427387904 ≤ x2) = false := decide_eq_false h9
                obtain ⟨q1, q2⟩ := HNO.out nxt HI.out hno (Int.not_le.1 h9)
                subst q1; subst q2
                clear h9 hno
                go_wp2_with fail
                refine (awake18 _).mono ?_; rintro e w9 ⟨rfl, hb9⟩
                have HB9 : Hid (Below W.heap.size W w9) := HBR.out.trans (hb9.mono HBR.out.size)
                clear hb9
                go_wp2_with fail
                go_ret
                exact ⟨rfl, HBX.out.trans (HB9.out.mono HBX.out.size)⟩
      · have e0 : (ae != 0) = true := by simpa using h3
        obtain rfl := HAE.out.1 h3
        clear h3
        go_enter Try.func6, Try.ntmps6
        go_wp2_with fail
        generalize hW : ((w.alloc (.cells #[.int .i64 s.1, .int .i64 s.2.1, .int .i64 s.2.2.1, .int .i64 s.2.2.2] 24)).alloc (.cells #[.int .i64 x0, .int .i64 x1, .int .i64 x2] 42)) = W at *
        clear hW d1 d2 d3
        refine (HA.out _ HBX.out).mono ?_; rintro e w2 ⟨v2, rfl, ho2, hb2⟩
        have HBR : Hid (Below W.heap.size W w2) := hb2
        obtain ⟨a2, c2, hv2⟩ := (ownsRow_slc ho2).form
        have hv2 : v2 = .slice a2 0 c2 := hv2
        subst hv2
        clear ho2 hb2 g0 g1 g2 g3 y0 y1 y2
        go_wp2_with fail
        refine (awake18 _).mono ?_; rintro e w9 ⟨rfl, hb9⟩
        have HB9 : Hid (Below W.heap.size W w9) := HBR.out.trans (hb9.mono HBR.out.size)
        clear hb9
        go_wp2_with fail
        go_ret
        exact ⟨rfl, HBX.out.trans (HB9.out.mono HBX.out.size)⟩
end Go.Proofs.Ytjanbaecgldjkaa
