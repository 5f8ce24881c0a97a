/-
  AccountMakes of layer 20 returns true, whatever accounts and numbers it is given. No conditions.
-/
import Derived.Test.YteendpdidkekkaaAccT
import Derived.Deep.QuietTactic
import Derived.BigQuiet
import Derived.WalkSmall
import Derived.Deep.DeepCutAuto
import Derived.Deep.RegionHeld3
namespace Go.Proofs.Yteendpdidkekkaa
open Go.RowKit
set_option linter.unusedSimpArgs false
set_option linter.unusedVariables false

theorem adL_ok {L : List AcT} {s : AcT} (h : ∀ t ∈ L, okA t) (hs : okA s) : ∀ t ∈ adL L s, okA t := fun t ht => by
  unfold adL at ht
  split at ht
  · rcases List.mem_append.1 ht with q | q
    · exact h t q
    · rw [List.mem_singleton.1 q]; exact hs
  · cases ht
theorem mvL_ok {L : List AcT} {y p : Int} (h : ∀ t ∈ L, okA t) (hp : InR p) : ∀ t ∈ mvL L y p, okA t := fun t ht => by
  unfold mvL at ht
  split at ht
  · unfold setP at ht
    rcases List.mem_or_eq_of_mem_set ht with q | q
    · exact h t q
    · rw [q]
      refine ⟨hp, ?_⟩
      show InR (L.getD (y - 1).toNat zA).2.1
      rcases Nat.lt_or_ge (y - 1).toNat L.length with r | r
      · rw [getA r]; exact (h _ (List.getElem_mem r)).2
      · have : L.getD (y - 1).toNat zA = zA := by rw [List.getD_eq_getElem?_getD, List.getElem?_eq_none r]; rfl
        rw [this]; exact ⟨by decide, by decide⟩
  · cases ht
theorem adL_few (L : List AcT) (s : AcT) : (adL L s).length ≤ L.length + 1 := by unfold adL; split <;> simp
theorem mvL_few (L : List AcT) (y p : Int) : (mvL L y p).length ≤ L.length := by unfold mvL; split; rw [setP_len]; exact Nat.le_refl _; exact Nat.zero_le _
theorem same_two (v v' : Value) (L : List AcT) (base base' : Nat) (w : World) (h : OwnA w base v L) (h' : OwnA w base' v' L) (hL : ∀ t ∈ L, okA t) (hn : L.length ≤ 1000) :
    Calls Try.prog 26 #[v, v'] w fun e w' => e = .returned (.bool true) ∧ Below w.heap.size w w' := by
  obtain ⟨a, c, rfl, _, _, r⟩ := h.reads hL
  obtain ⟨a', c', rfl, _, _, r'⟩ := h'.reads hL
  exact sameA20 a a' c c' _ _ L L w r r' rfl rfl rfl hn
set_option maxHeartbeats 16000000 in
set_option maxRecDepth 100000 in
theorem makes20 (a : Option Addr) (c : Nat) (L : List AcT) (s : AcT) (y p : Int) (w : World) (hr : Go.RowsIn.QuadB w a c L) (hs : okA s) (hp : InR p) :
    Calls Try.prog 4 #[.slice a L.length c, .agg #[.int .i64 s.1, .int .i64 s.2.1, .bool s.2.2.1, .bool s.2.2.2], .agg #[.int .i64 y, .int .i64 p]] w fun e w' => e = .returned (.bool true) ∧ Below w.heap.size w w' := by
  have HL := Lib.hid (rdA_in hr)
  have HSO := Lib.hid hs
  have HPI := Lib.hid hp
  have HB0 := Lib.hid (below2 w (.cells #[.int .i64 s.1, .int .i64 s.2.1, .bool s.2.2.1, .bool s.2.2.2] 35) (.cells #[.int .i64 y, .int .i64 p] 36))
  have hsz1 : (w.alloc (.cells #[.int .i64 s.1, .int .i64 s.2.1, .bool s.2.2.1, .bool s.2.2.2] 35)).heap.size = w.heap.size + 1 := by simp
  have hx0 := (Ow4.new w (.int .i64 s.1) (.int .i64 s.2.1) (.bool s.2.2.1) (.bool s.2.2.2) 35).below (below1 (w.alloc (.cells #[.int .i64 s.1, .int .i64 s.2.1, .bool s.2.2.1, .bool s.2.2.2] 35)) (.cells #[.int .i64 y, .int .i64 p] 36))
  have hp0 := Ow2.new (w.alloc (.cells #[.int .i64 s.1, .int .i64 s.2.1, .bool s.2.2.1, .bool s.2.2.2] 35)) (.int .i64 y) (.int .i64 p) 36
  rw [hsz1] at hp0
  have HX := Lib.hid hx0
  have HP := Lib.hid hp0
  have HK0 : Hid (Below w.heap.size w ((w.alloc (.cells #[.int .i64 s.1, .int .i64 s.2.1, .bool s.2.2.1, .bool s.2.2.2] 35)).alloc (.cells #[.int .i64 y, .int .i64 p] 36))) := HB0.out
  clear hr hs hp hsz1 hx0 hp0
  by_cases g1 : 70 < L.length
  · have d1 : decide ((70 : Int) < (L.length : Int)) = true := decide_eq_true (by omega)
    have d2 : decide (70 < L.length) = true := decide_eq_true g1
    clear g1
    go_enter Try.func4, Try.ntmps4
    go_wp2_with fail
    refine (awake20 _).mono ?_; rintro e w99 ⟨rfl, hb99⟩
    go_wp2_with fail
    go_ret
    exact ⟨rfl, HK0.out.trans (hb99.mono HK0.out.size)⟩
  · have d1 : decide ((70 : Int) < (L.length : Int)) = false := decide_eq_false (by omega)
    have d2 : decide (70 < L.length) = false := decide_eq_false g1
    have HN : Hid (L.length ≤ 1000) := by show _ ≤ _; omega
    have HN70 : Hid (L.length ≤ 70) := by show _ ≤ _; omega
    clear g1
    obtain ⟨g0, g1, g2, g3, -⟩ := HX.out
    go_enter Try.func4, Try.ntmps4
    go_wp2_with fail
    refine (add_a a c L s _ (HL.out.1.below HK0.out) HN.out HL.out.2.1 HL.out.2.2 HSO.out).mono ?_; rintro e w1 ⟨v1, rfl, ho1, hb1⟩
    have HK1 : Hid (Below w.heap.size w w1) := HK0.out.trans (hb1.mono HK0.out.size)
    have HO1 := Lib.hid ho1
    obtain ⟨b1, d1, hv1⟩ := (ownsRow_slc ho1).form
    subst hv1
    clear ho1
    have HKX1 := Lib.hid hb1
    clear hb1
    clear g0 g1 g2 g3
    obtain ⟨g0, g1, g2, g3, -⟩ := HX.out.below HKX1.out
    go_wp2_with fail
    refine (r20add a c L s _ (HL.out.1.below HK1.out) HN.out HL.out.2.1 HL.out.2.2 HSO.out).mono ?_; rintro e w2 ⟨v2, rfl, ho2, hb2⟩
    have HK2 : Hid (Below w.heap.size w w2) := HK1.out.trans (hb2.mono HK1.out.size)
    have HO2 := Lib.hid (And.intro (HO1.out.below hb2) ho2)
    obtain ⟨b2, d2, hv2⟩ := (ownsRow_slc ho2).form
    subst hv2
    clear ho2
    have HPX2 : Hid _ := Lib.hid ((HP.out.below HKX1.out).below hb2)
    clear hb2 g0 g1 g2 g3
    obtain ⟨⟨p0, p1, -⟩, -⟩ := HPX2.out
    go_wp2_with fail
    refine (move_a a c L y p _ (HL.out.1.below HK2.out) HN.out HL.out.2.1).mono ?_; rintro e w3 ⟨v3, rfl, ho3, hb3⟩
    have HK3 : Hid (Below w.heap.size w w3) := HK2.out.trans (hb3.mono HK2.out.size)
    have HO3 := Lib.hid ho3
    obtain ⟨b3, d3, hv3⟩ := (ownsRow_slc ho3).form
    subst hv3
    clear ho3
    have HPX3 : Hid _ := Lib.hid (HPX2.out.below hb3)
    have HO2b := Lib.hid (And.intro (HO2.out.1.below hb3) (HO2.out.2.below hb3))
    clear hb3 p0 p1
    obtain ⟨⟨p0, p1, -⟩, -⟩ := HPX3.out
    go_wp2_with fail
    refine (r20move a c L y p _ (HL.out.1.below HK3.out) HN.out HL.out.2.1 HL.out.2.2).mono ?_; rintro e w4 ⟨v4, rfl, ho4, hb4⟩
    have HK4 : Hid (Below w.heap.size w w4) := HK3.out.trans (hb4.mono HK3.out.size)
    have HO4 := Lib.hid (And.intro (HO3.out.below hb4) ho4)
    obtain ⟨b4, d4, hv4⟩ := (ownsRow_slc ho4).form
    subst hv4
    clear ho4
    have HO2c := Lib.hid (And.intro (HO2b.out.1.below hb4) (HO2b.out.2.below hb4))
    clear hb4 p0 p1
    go_wp2_with fail
    refine (same_two _ _ (adL L s) _ _ _ HO2c.out.1 HO2c.out.2 (adL_ok HL.out.1.1 HSO.out) (by have := adL_few L s; have := HN70.out; omega)).mono ?_; rintro e w5 ⟨rfl, hb5⟩
    have HK5 : Hid (Below w.heap.size w w5) := HK4.out.trans (hb5.mono HK4.out.size)
    have HO4b := Lib.hid (And.intro (HO4.out.1.below hb5) (HO4.out.2.below hb5))
    clear hb5
    go_wp2_with fail
    refine (same_two _ _ (mvL L y p) _ _ _ HO4b.out.1 HO4b.out.2 (mvL_ok HL.out.1.1 HPI.out) (by have := mvL_few L y p; have := HN70.out; omega)).mono ?_; rintro e w6 ⟨rfl, hb6⟩
    have HK6 : Hid (Below w.heap.size w w6) := HK5.out.trans (hb6.mono HK5.out.size)
    clear hb6
    go_wp2_with fail
    refine (awake20 _).mono ?_; rintro e w99 ⟨rfl, hb99⟩
    go_wp2_with fail
    go_ret
    exact ⟨rfl, HK6.out.trans (hb99.mono HK6.out.size)⟩
end Go.Proofs.Yteendpdidkekkaa
