/-
  The landed Cross: a rate straight, turned round, or by a third currency. The condition: at most 100000 rates.
-/
import Derived.Test.YtogckefmmjbapaaRtG
import Derived.Test.YtogckefmmjbapaaRatG
import Derived.Test.YtogckefmmjbapaaOw4
namespace Go.Proofs.Ytogckefmmjbapaa
open Go.RowKit
set_option linter.unusedSimpArgs false
set_option linter.unusedVariables false

theorem Ow4.put01 {w : World} {B : Nat} {p q r s : Value} (h : Ow4 w B p q r s) (x y : Value) : Ow4 ((w.setCell ⟨B, 0, none⟩ x).setCell ⟨B, 1, none⟩ y) B x y r s := by
  have hne : ∀ i j, i ≠ j → (⟨B, i, none⟩ : Addr) ≠ ⟨B, j, none⟩ := fun i j hi q => hi (by cases q; rfl)
  have o : ∀ (w : World) (i j : Nat) (u : Value), i ≠ j → (w.setCell ⟨B, i, none⟩ u).cell? ⟨B, j, none⟩ = w.cell? ⟨B, j, none⟩ := fun w i j u q => World.cell?_setCell_other _ _ _ _ (hne i j q)
  refine ⟨?_, ?_, ?_, ?_, by simpa [World.frozen?_setCell] using h.z0, by simpa [World.frozen?_setCell] using h.z1, by simpa [World.frozen?_setCell] using h.z2, by simpa [World.frozen?_setCell] using h.z3, by simpa [World.setCell] using h.lt⟩
  · rw [o _ 1 0 _ (by decide)]; exact World.cell?_setCell_same _ _ _ h.c0
  · exact World.cell?_setCell_same _ _ _ ((o _ 0 1 _ (by decide)).trans h.c1)
  · exact (o _ 1 2 _ (by decide)).trans ((o _ 0 2 _ (by decide)).trans h.c2)
  · exact (o _ 1 3 _ (by decide)).trans ((o _ 0 3 _ (by decide)).trans h.c3)
theorem Ow4.put23 {w : World} {B : Nat} {p q r s : Value} (h : Ow4 w B p q r s) (x y : Value) : Ow4 ((w.setCell ⟨B, 2, none⟩ x).setCell ⟨B, 3, none⟩ y) B p q x y := by
  have hne : ∀ i j, i ≠ j → (⟨B, i, none⟩ : Addr) ≠ ⟨B, j, none⟩ := fun i j hi q => hi (by cases q; rfl)
  have o : ∀ (w : World) (i j : Nat) (u : Value), i ≠ j → (w.setCell ⟨B, i, none⟩ u).cell? ⟨B, j, none⟩ = w.cell? ⟨B, j, none⟩ := fun w i j u q => World.cell?_setCell_other _ _ _ _ (hne i j q)
  refine ⟨?_, ?_, ?_, ?_, by simpa [World.frozen?_setCell] using h.z0, by simpa [World.frozen?_setCell] using h.z1, by simpa [World.frozen?_setCell] using h.z2, by simpa [World.frozen?_setCell] using h.z3, by simpa [World.setCell] using h.lt⟩
  · exact (o _ 3 0 _ (by decide)).trans ((o _ 2 0 _ (by decide)).trans h.c0)
  · exact (o _ 3 1 _ (by decide)).trans ((o _ 2 1 _ (by decide)).trans h.c1)
  · rw [o _ 3 2 _ (by decide)]; exact World.cell?_setCell_same _ _ _ h.c2
  · exact World.cell?_setCell_same _ _ _ ((o _ 2 3 _ (by decide)).trans h.c3)
theorem wrap9 {z : Int} (h1 : 1 ≤ z) (h2 : z ≤ 8) : wrap64 (z + 1) = z + 1 := by unfold wrap64; omega
theorem meas9 {z : Int} (h1 : 1 ≤ z) (h2 : z ≤ 8) : (9 - RowKit.intOf (.int .i64 (z + 1))).toNat < (9 - RowKit.intOf (.int .i64 z)).toNat := by simp [RowKit.intOf]; omega
set_option maxRecDepth 100000 in
theorem ix_zero (a b c d : Value) (w : World) : (Instr.index 61 (.agg #[a, b, c, d]) (.int .i64 0)).run Try.prog w = .ok (.agg #[a, b]) w := by rfl
set_option maxRecDepth 100000 in
theorem ix_one (a b c d : Value) (w : World) : (Instr.index 61 (.agg #[a, b, c, d]) (.int .i64 1)).run Try.prog w = .ok (.agg #[c, d]) w := by rfl
/-- How far the third currencies have come. -/
def ThS (L : List RtT) (k : RtT) (z : Int) : Prop := ∃ n : Nat, n ≤ 8 ∧ z = 9 - (n : Int) ∧ thr L k 8 1 = thr L k n z
theorem ThS.start (L : List RtT) (k : RtT) : ThS L k 1 := ⟨8, Nat.le_refl _, rfl, rfl⟩
theorem ThS.low {L : List RtT} {k : RtT} {z : Int} (h : ThS L k z) : 1 ≤ z ∧ z ≤ 9 := by obtain ⟨n, h1, h2, _⟩ := h; omega
theorem ThS.next {L : List RtT} {k : RtT} {z : Int} (h : ThS L k z) (hz : z ≤ 8) (hm : mid L k z = none) : ThS L k (z + 1) := by
  obtain ⟨n, h1, h2, h3⟩ := h
  obtain ⟨m, rfl⟩ : ∃ m, n = m + 1 := ⟨n - 1, by omega⟩
  exact ⟨m, by omega, by omega, h3.trans (thr_no hm)⟩
theorem ThS.hit {L : List RtT} {k : RtT} {z : Int} {r : Int × Int} (h : ThS L k z) (hz : z ≤ 8) (hm : mid L k z = some r) : thr L k 8 1 = some r := by
  obtain ⟨n, h1, h2, h3⟩ := h
  obtain ⟨m, rfl⟩ : ∃ m, n = m + 1 := ⟨n - 1, by omega⟩
  exact h3.trans (thr_yes hm)
theorem ThS.done {L : List RtT} {k : RtT} {z : Int} (h : ThS L k z) (hz : ¬ z ≤ 8) : thr L k 8 1 = none := by
  obtain ⟨n, h1, h2, h3⟩ := h
  obtain rfl : n = 0 := by omega
  exact h3
set_option maxHeartbeats 16000000 in
set_option maxRecDepth 100000 in
theorem cross_r (a : Option Addr) (c : Nat) (L : List RtT) (k : RtT) (w : World) (hL : RdR w a L) (hn : L.length ≤ 100000) :
    Calls Try.prog 14 #[.slice a L.length c, encR k] w fun e w' => e = .returned (.tuple #[.agg #[.int .i64 ((crs L k).getD (0, 0)).1, .int .i64 ((crs L k).getD (0, 0)).2], .bool (crs L k).isSome]) ∧ Below w.heap.size w w' := by
  have hmf : ∀ (fn : Fn) (first cap : Array Value) (w : World), (Instr.makeFunc fn first cap).run Try.prog w = .ok (.func fn first cap) w := fun _ _ _ _ => rfl
  have hx0 := ix_zero
  have hx1 := ix_one
  have hqc : ∀ args (w : World), (callFunc 27 args).run Try.prog w = .ok (.enter 27 args) w := fun _ _ => rfl
  have hA0 := fun w' (h : RdR w' a L) => alike_r 26 (fun _ _ => rfl) anW (fun r w => anyWay_c r.1 r.2.1 r.2.2.1 r.2.2.2.1 r.2.2.2.2.1 r.2.2.2.2.2 w) a c L k w' h hn
  obtain ⟨k0, k1, k2, k3, k4, k5⟩ := k
  have hA : Calls Try.prog 25 #[.slice a L.length c, .agg #[.int .i64 k0, .int .i64 k1, .int .i64 k2, .int .i64 k3, .int .i64 k4, .int .i64 k5], .func (.func 26) #[] #[]] ((w.alloc (objL k0 k1 k2 k3 k4 k5)).alloc (.cells #[.int .i64 0, .int .i64 0] 24)) fun e w' => ∃ v, e = .returned v ∧ OwnR w' ((w.alloc (objL k0 k1 k2 k3 k4 k5)).alloc (.cells #[.int .i64 0, .int .i64 0] 24)).heap.size v (nrr L (k0, k1, k2, k3, k4, k5)) ∧ Below ((w.alloc (objL k0 k1 k2 k3 k4 k5)).alloc (.cells #[.int .i64 0, .int .i64 0] 24)).heap.size ((w.alloc (objL k0 k1 k2 k3 k4 k5)).alloc (.cells #[.int .i64 0, .int .i64 0] 24)) w' := hA0 _ (hL.below (below2 _ _ _))
  clear hA0
  have HB0 := Lib.hid (below2 w (objL k0 k1 k2 k3 k4 k5) (.cells #[.int .i64 0, .int .i64 0] 24))
  have HK0 := Lib.hid ((Ow6.new' w k0 k1 k2 k3 k4 k5).alloc (.cells #[.int .i64 0, .int .i64 0] 24))
  have HR0 := Lib.hid (Ow2.new2 w (objL k0 k1 k2 k3 k4 k5) (.int .i64 0) (.int .i64 0) 24)
  obtain ⟨c0, c1, c2, c3, c4, c5⟩ := HK0.out.letters
  have HNI : Hid ((∀ s ∈ nrr L (k0, k1, k2, k3, k4, k5), okT s) ∧ (nrr L (k0, k1, k2, k3, k4, k5)).length ≤ 1000000) := ⟨fun s hs => hL.1 s (List.mem_filter.1 hs).1, Nat.le_trans (List.length_filter_le _ _) (by omega)⟩
  have HLN : Hid (∀ f t, lgo (nrr L (k0, k1, k2, k3, k4, k5)) (k0, k1, k2, k3, k4, k5) f t = lgo L (k0, k1, k2, k3, k4, k5) f t) := fun f t => lgo_near L (k0, k1, k2, k3, k4, k5) f t
  generalize nrr L (k0, k1, k2, k3, k4, k5) = N at *
  clear hL
  go_enter Try.func14, Try.ntmps14
  go_wp2_with fail
  go_step3
  go_wp2_with fail
  refine hA.mono ?_; clear hA; rintro e w1 ⟨v, rfl, hv, hb1⟩
  obtain ⟨an, cn, rfl, -, -, hNR⟩ := hv.reads HNI.out.1
  have hbx := below1 w1 (.cells #[.slice an N.length cn] 22)
  have hcn : (w1.alloc (.cells #[.slice an N.length cn] 22)).cell? ⟨w1.heap.size, 0, none⟩ = some (.slice an N.length cn) := by simp
  have HB1 := Lib.hid ((HB0.out.trans (hb1.mono HB0.out.size)).trans (hbx.mono (Nat.le_trans HB0.out.size hb1.size)))
  have HK1 := Lib.hid ((HK0.out.below hb1).below hbx)
  have HR1 := Lib.hid ((HR0.out.below hb1).below hbx)
  have HN1 := Lib.hid (And.intro hcn (hNR.below hbx))
  clear hv hb1 hNR hbx hcn c0 c1 c2 c3 c4 c5 HB0 HK0 HR0
  go_upto_region 2 with fail
  generalize w1.alloc (.cells #[.slice an N.length cn] 22) = Wb at *
  generalize w1.heap.size = bn at *
  have HLEG : Hid (∀ f t W', Below Wb.heap.size Wb W' → Calls Try.prog 27 #[.int .i64 f, .int .i64 t, .pointer (some ⟨bn, 0, none⟩), .pointer (some ⟨w.heap.size, 0, none⟩)] W' fun e w' => e = .returned (.tuple #[.agg #[.int .i64 ((lgo L (k0, k1, k2, k3, k4, k5) f t).getD (0, 0)).1, .int .i64 ((lgo L (k0, k1, k2, k3, k4, k5) f t).getD (0, 0)).2], .bool (lgo L (k0, k1, k2, k3, k4, k5) f t).isSome]) ∧ Below W'.heap.size W' w') := fun f t W' hb => by
    have := leg_c bn w.heap.size an cn N k0 k1 k2 k3 k4 k5 f t W' (HN1.out.2.below hb) HNI.out.2 ((hb.cell (p := ⟨bn, 0, none⟩) (World.block_lt_of_cell? Wb _ HN1.out.1)).trans HN1.out.1) (HK1.out.below hb)
    rw [HLN.out f t] at this
    exact this
  obtain ⟨c0, c1, c2, c3, c4, c5⟩ := HK1.out.letters
  have hl1 := HLEG.out k0 k1 Wb (Below.refl _ _)
  obtain ⟨o1, ho1⟩ : ∃ o, lgo L (k0, k1, k2, k3, k4, k5) k0 k1 = o := ⟨_, rfl⟩
  rw [ho1] at hl1
  cases o1 with
  | some r =>
    obtain ⟨p1, q1⟩ := r
    have HC : Hid (crs L (k0, k1, k2, k3, k4, k5) = some (p1, q1)) := crs_leg (k := (k0, k1, k2, k3, k4, k5)) ho1
    have hl1 : Calls Try.prog 27 #[.int .i64 k0, .int .i64 k1, .pointer (some ⟨bn, 0, none⟩), .pointer (some ⟨w.heap.size, 0, none⟩)] Wb fun e w' => e = .returned (.tuple #[.agg #[.int .i64 p1, .int .i64 q1], .bool true]) ∧ Below Wb.heap.size Wb w' := hl1
    clear ho1
    go_wp2_with fail
    refine hl1.mono ?_; clear hl1; rintro e w2 ⟨rfl, hb2⟩
    have HBE := Lib.hid ((HB1.out.trans (hb2.mono HB1.out.size)).alloc (HB1.out.trans (hb2.mono HB1.out.size)).size (.cells #[.int .i64 p1, .int .i64 q1] 24))
    obtain ⟨⟨r0, r1, r2⟩, f1, f2⟩ := (HR1.out.below hb2).alloc (.cells #[.int .i64 p1, .int .i64 q1] 24)
    clear hb2 c0 c1 c2 c3 c4 c5 HLEG
    go_wp2_with fail
    try rw [Exit.noGoto_ret]
    refine bodyPost_ret (v := .tuple #[.agg #[.int .i64 p1, .int .i64 q1], .bool true]) (by simp [results, Try.results14, go_sem, r0, r1]) rfl ⟨?_, ?_⟩
    · rw [HC.out] <;> rfl
    · exact below_set2 HBE.out (Nat.le_succ _)
  | none =>
    have HC : Hid (crs L (k0, k1, k2, k3, k4, k5) = thr L (k0, k1, k2, k3, k4, k5) 8 1) := crs_thr (k := (k0, k1, k2, k3, k4, k5)) ho1
    have hl1 : Calls Try.prog 27 #[.int .i64 k0, .int .i64 k1, .pointer (some ⟨bn, 0, none⟩), .pointer (some ⟨w.heap.size, 0, none⟩)] Wb fun e w' => e = .returned (.tuple #[.agg #[.int .i64 0, .int .i64 0], .bool false]) ∧ Below Wb.heap.size Wb w' := hl1
    clear ho1
    go_wp2_with fail
    refine hl1.mono ?_; clear hl1; rintro e w2 ⟨rfl, hb2⟩
    have HBW : Hid (Below Wb.heap.size Wb (w2.alloc (.cells #[.int .i64 0, .int .i64 0] 24))) := hb2.alloc hb2.size _
    clear hb2 c0 c1 c2 c3 c4 c5
    go_wp2_with fail
    go_step3
    go_wp2_with fail
    generalize w2.alloc (.cells #[.int .i64 0, .int .i64 0] 24) = W2 at *
    generalize w2.heap.size = b8 at *
    go_loopw [10] (fun i wr => ∃ z, i = .int .i64 z ∧ ThS L (k0, k1, k2, k3, k4, k5) z ∧ Below W2.heap.size W2 wr) (fun i _ => (9 - RowKit.intOf i).toNat)
    case atStart => exact ⟨1, rfl, ThS.start _ _, Below.refl _ _⟩
    case round =>
      obtain ⟨z, rfl, hT, hb⟩ := hrel
      have HBL : Hid (Below Wb.heap.size Wb wr) := HBW.out.trans (hb.mono HBW.out.size)
      have HBR := Lib.hid hb
      have HTD : Hid (¬ z ≤ 8 → crs L (k0, k1, k2, k3, k4, k5) = none) := fun q => HC.out.trans (hT.done q)
      have HLOW := Lib.hid hT.low
      obtain ⟨c0, c1, c2, c3, c4, c5⟩ := (HK1.out.below HBL.out).letters
      by_cases h8 : z ≤ 8
      · have d8 : decide (z ≤ 8) = true := decide_eq_true h8
        have e1 := wrap9 HLOW.out.1 h8
        have HM := Lib.hid (meas9 HLOW.out.1 h8)
        have HNX : Hid (∀ w', Below W2.heap.size W2 w' → mid L (k0, k1, k2, k3, k4, k5) z = none → ∃ z', Value.int .i64 (z + 1) = .int .i64 z' ∧ ThS L (k0, k1, k2, k3, k4, k5) z' ∧ Below W2.heap.size W2 w') := fun w' h q => ⟨_, rfl, hT.next h8 q, h⟩
        have HHIT : Hid (∀ r, mid L (k0, k1, k2, k3, k4, k5) z = some r → crs L (k0, k1, k2, k3, k4, k5) = some r) := fun r q => HC.out.trans (hT.hit h8 q)
        clear hT hb h8
        by_cases q0 : z = k0
        · have t0 : (z == k0) = true := by simpa using q0
          have HS := Lib.hid (HNX.out wr HBR.out (mid_skip (k := (k0, k1, k2, k3, k4, k5)) (Or.inl q0)))
          clear q0
          go_wp2_with fail
          go_roundw
          · first | exact HS.out | (rw [e1]; exact HS.out)
          · first | exact HM.out | (rw [e1]; exact HM.out)
        · have t0 : (z == k0) = false := by simpa using q0
          by_cases q1 : z = k1
          · have t1 : (z == k1) = true := by simpa using q1
            have HS := Lib.hid (HNX.out wr HBR.out (mid_skip (k := (k0, k1, k2, k3, k4, k5)) (Or.inr q1)))
            clear q0 q1
            go_wp2_with fail
            go_roundw
            · first | exact HS.out | (rw [e1]; exact HS.out)
            · first | exact HM.out | (rw [e1]; exact HM.out)
          · have t1 : (z == k1) = false := by simpa using q1
            have hno : ¬ (z = k0 ∨ z = k1) := fun q => q.elim q0 q1
            have hla0 := HLEG.out k0 z
            have hlb0 := HLEG.out z k1
            have HMA : Hid (lgo L (k0, k1, k2, k3, k4, k5) k0 z = none → mid L (k0, k1, k2, k3, k4, k5) z = none) := fun q => mid_one (k := (k0, k1, k2, k3, k4, k5)) q
            have HMB : Hid (lgo L (k0, k1, k2, k3, k4, k5) z k1 = none → mid L (k0, k1, k2, k3, k4, k5) z = none) := fun q => mid_two (k := (k0, k1, k2, k3, k4, k5)) q
            have HMN : Hid (∀ a b, lgo L (k0, k1, k2, k3, k4, k5) k0 z = some a → lgo L (k0, k1, k2, k3, k4, k5) z k1 = some b → mulE a.1 a.2 b.1 b.2 ≠ 0 → mid L (k0, k1, k2, k3, k4, k5) z = none) := fun a b p q r => mid_not (k := (k0, k1, k2, k3, k4, k5)) hno p q r
            have HMY : Hid (∀ a b, lgo L (k0, k1, k2, k3, k4, k5) k0 z = some a → lgo L (k0, k1, k2, k3, k4, k5) z k1 = some b → mulE a.1 a.2 b.1 b.2 = 0 → mid L (k0, k1, k2, k3, k4, k5) z = some (mulN a.1 a.2 b.1 b.2, mulD a.1 a.2 b.1 b.2)) := fun a b p q r => mid_yes (k := (k0, k1, k2, k3, k4, k5)) hno p q r
            obtain ⟨oa, hoa⟩ : ∃ o, lgo L (k0, k1, k2, k3, k4, k5) k0 z = o := ⟨_, rfl⟩
            obtain ⟨ob, hob⟩ : ∃ o, lgo L (k0, k1, k2, k3, k4, k5) z k1 = o := ⟨_, rfl⟩
            rw [hoa] at hla0 HMA HMN HMY
            rw [hob] at hlb0 HMB HMN HMY
            obtain ⟨⟨a1, a2⟩, ha⟩ : ∃ r, oa.getD (0, 0) = r := ⟨_, rfl⟩
            obtain ⟨⟨b1, b2⟩, hbb⟩ : ∃ r, ob.getD (0, 0) = r := ⟨_, rfl⟩
            obtain ⟨sa, hsa⟩ : ∃ s, oa.isSome = s := ⟨_, rfl⟩
            obtain ⟨sb, hsb⟩ : ∃ s, ob.isSome = s := ⟨_, rfl⟩
            have HA : Hid (sa = true → oa = some (a1, a2)) := fun q => by
              cases oa with
              | none => rw [q] at hsa; cases hsa
              | some r => rw [← ha]; rfl
            have HAN : Hid (sa = false → oa = none) := fun q => by
              cases oa with
              | none => rfl
              | some r => rw [q] at hsa; cases hsa
            have HBB : Hid (sb = true → ob = some (b1, b2)) := fun q => by
              cases ob with
              | none => rw [q] at hsb; cases hsb
              | some r => rw [← hbb]; rfl
            have HBN : Hid (sb = false → ob = none) := fun q => by
              cases ob with
              | none => rfl
              | some r => rw [q] at hsb; cases hsb
            rw [ha, hsa] at hla0
            rw [hbb, hsb] at hlb0
            have HLA : Hid (∀ W', Below Wb.heap.size Wb W' → Calls Try.prog 27 #[.int .i64 k0, .int .i64 z, .pointer (some ⟨bn, 0, none⟩), .pointer (some ⟨w.heap.size, 0, none⟩)] W' fun e w' => e = .returned (.tuple #[.agg #[.int .i64 a1, .int .i64 a2], .bool sa]) ∧ Below W'.heap.size W' w') := hla0
            have HLB : Hid (∀ W', Below Wb.heap.size Wb W' → Calls Try.prog 27 #[.int .i64 z, .int .i64 k1, .pointer (some ⟨bn, 0, none⟩), .pointer (some ⟨w.heap.size, 0, none⟩)] W' fun e w' => e = .returned (.tuple #[.agg #[.int .i64 b1, .int .i64 b2], .bool sb]) ∧ Below W'.heap.size W' w') := hlb0
            clear hla0 hlb0 hno ha hbb hsa hsb hoa hob q0 q1
            obtain ⟨W3, hW3⟩ : ∃ W3, wr.alloc (.cells #[.int .i64 0, .int .i64 0, .int .i64 0, .int .i64 0] 59) = W3 := ⟨_, rfl⟩
            have HQ0 : Hid (Ow4 W3 wr.heap.size (.int .i64 0) (.int .i64 0) (.int .i64 0) (.int .i64 0)) := by rw [← hW3]; exact Ow4.new _ _ _ _ _ _
            have HB3 : Hid (Below W2.heap.size W2 W3) := by rw [← hW3]; exact HBR.out.alloc HBR.out.size _
            have HK3 := Lib.hid (HK1.out.below (HBW.out.trans (HB3.out.mono HBW.out.size)))
            have HSB : Hid (W2.heap.size ≤ wr.heap.size) := HBR.out.size
            have HW3 := Lib.hid hW3
            clear hW3
            go_upto_region 11 with fail
            rw [HW3.out]
            clear c0 c1 c2 c3 c4 c5 HW3
            obtain ⟨c0, c1, c2, c3, c4, c5⟩ := HK3.out.letters
            generalize wr.heap.size = bq at *
            go_wp2_with fail
            clear c0 c1 c2 c3 c4 c5 t0 t1
            go_loopw [56] (fun i wy => ((i = .int .i64 0 ∧ Ow4 wy bq (.int .i64 0) (.int .i64 0) (.int .i64 0) (.int .i64 0)) ∨ (i = .int .i64 1 ∧ sa = true ∧ Ow4 wy bq (.int .i64 a1) (.int .i64 a2) (.int .i64 0) (.int .i64 0)) ∨ (i = .int .i64 2 ∧ sa = true ∧ sb = true ∧ Ow4 wy bq (.int .i64 a1) (.int .i64 a2) (.int .i64 b1) (.int .i64 b2))) ∧ Below W2.heap.size W2 wy) (fun i _ => 2 - (RowKit.intOf i).toNat)
            case atStart => exact ⟨Or.inl ⟨rfl, HQ0.out⟩, HB3.out⟩
            case round =>
              clear HQ0 HB3 HK3
              obtain ⟨hj, hby⟩ := hrel
              have HY := Lib.hid hby
              have HYB : Hid (Below Wb.heap.size Wb wr) := HBW.out.trans (hby.mono HBW.out.size)
              clear hby
              rcases hj with ⟨rfl, hq⟩ | ⟨rfl, hsa, hq⟩ | ⟨rfl, hsa, hsb, hq⟩
              · have HQ := Lib.hid hq
                clear hq
                have hb4 := below1 wr (.cells #[.int .i64 k0, .int .i64 z] 60)
                have hla := HLA.out (wr.alloc (.cells #[.int .i64 k0, .int .i64 z] 60)) (HYB.out.trans (hb4.mono HYB.out.size))
                have HY4 := Lib.hid (HY.out.trans (hb4.mono HY.out.size))
                have HQ4 := Lib.hid (HQ.out.below hb4)
                clear hb4
                go_wp2_with fail
                refine hla.mono ?_; clear hla; rintro e w5 ⟨rfl, hb5⟩
                have HY5 := Lib.hid (HY4.out.trans (hb5.mono HY4.out.size))
                have hq5 := (HQ4.out.below hb5).alloc (.cells #[.int .i64 a1, .int .i64 a2] 24)
                have HQ5 := Lib.hid hq5
                have HY6 := Lib.hid (HY5.out.alloc HY5.out.size (.cells #[.int .i64 a1, .int .i64 a2] 24))
                clear hb5
                cases sa with
                | false =>
                  have HS := Lib.hid (HNX.out _ HY6.out (HMA.out (HAN.out rfl)))
                  clear hq5
                  go_wp2_with fail
                  go_roundw
                  · first | exact HS.out | (rw [e1]; exact HS.out)
                  · first | exact HM.out | (rw [e1]; exact HM.out)
                | true =>
                  obtain ⟨q0, q1, q2, q3, z0, z1, z2, z3, -⟩ := hq5
                  go_wp2_with fail
                  go_roundw
                  · exact ⟨Or.inr (Or.inl ⟨by go_num, (by first | rfl | trivial), HQ5.out.put01 _ _⟩), (HY6.out.setCell HSB.out _).setCell HSB.out _⟩
                  · simp [RowKit.intOf]
              · have HQ := Lib.hid hq
                clear hq
                have hb4 := below1 wr (.cells #[.int .i64 z, .int .i64 k1] 60)
                have hlb := HLB.out (wr.alloc (.cells #[.int .i64 z, .int .i64 k1] 60)) (HYB.out.trans (hb4.mono HYB.out.size))
                have HY4 := Lib.hid (HY.out.trans (hb4.mono HY.out.size))
                have HQ4 := Lib.hid (HQ.out.below hb4)
                clear hb4
                go_wp2_with fail
                refine hlb.mono ?_; clear hlb; rintro e w5 ⟨rfl, hb5⟩
                have HY5 := Lib.hid (HY4.out.trans (hb5.mono HY4.out.size))
                have hq5 := (HQ4.out.below hb5).alloc (.cells #[.int .i64 b1, .int .i64 b2] 24)
                have HQ5 := Lib.hid hq5
                have HY6 := Lib.hid (HY5.out.alloc HY5.out.size (.cells #[.int .i64 b1, .int .i64 b2] 24))
                clear hb5
                have HSA := Lib.hid hsa
                clear hsa
                cases sb with
                | false =>
                  have HS := Lib.hid (HNX.out _ HY6.out (HMB.out (HBN.out rfl)))
                  clear hq5
                  go_wp2_with fail
                  go_roundw
                  · first | exact HS.out | (rw [e1]; exact HS.out)
                  · first | exact HM.out | (rw [e1]; exact HM.out)
                | true =>
                  obtain ⟨q0, q1, q2, q3, z0, z1, z2, z3, -⟩ := hq5
                  go_wp2_with fail
                  go_roundw
                  · exact ⟨Or.inr (Or.inr ⟨by go_num, HSA.out, (by first | rfl | trivial), HQ5.out.put23 _ _⟩), (HY6.out.setCell HSB.out _).setCell HSB.out _⟩
                  · simp [RowKit.intOf]
              · have HMN2 : Hid (mulE a1 a2 b1 b2 ≠ 0 → mid L (k0, k1, k2, k3, k4, k5) z = none) := fun q => HMN.out _ _ (HA.out hsa) (HBB.out hsb) q
                have HMY2 : Hid (mulE a1 a2 b1 b2 = 0 → crs L (k0, k1, k2, k3, k4, k5) = some (mulN a1 a2 b1 b2, mulD a1 a2 b1 b2)) := fun q => HHIT.out _ (HMY.out _ _ (HA.out hsa) (HBB.out hsb) q)
                have ht := c_times a1 a2 b1 b2 wr
                generalize mulE a1 a2 b1 b2 = me at *
                generalize mulN a1 a2 b1 b2 = mn at *
                generalize mulD a1 a2 b1 b2 = md at *
                obtain ⟨q0, q1, q2, q3, z0, z1, z2, z3, -⟩ := hq
                clear hsa hsb
                go_wp2_with fail
                refine ht.mono ?_; clear ht; rintro e w5 ⟨rfl, hb5⟩
                have HY5 := Lib.hid (HY.out.trans (hb5.mono HY.out.size))
                have HY6 := Lib.hid (HY5.out.alloc HY5.out.size (.cells #[.int .i64 mn, .int .i64 md] 24))
                clear hb5 q0 q1 q2 q3 z0 z1 z2 z3
                by_cases hm : me = 0
                · have t3 : (me == 0) = true := by simpa using hm
                  have HN := Lib.hid (HMY2.out hm)
                  have HWE := Lib.hid (HBW.out.trans (HY6.out.mono HBW.out.size))
                  have HBE := Lib.hid (HB1.out.trans (HWE.out.mono HB1.out.size))
                  obtain ⟨⟨r0, r1, r2⟩, f1, f2⟩ := HR1.out.below HWE.out
                  clear hm HLEG
                  go_wp2_with fail
                  try rw [Exit.noGoto_ret]
                  refine bodyPost_ret (v := .tuple #[.agg #[.int .i64 mn, .int .i64 md], .bool true]) (by simp [results, Try.results14, go_sem, r0, r1]) rfl ⟨?_, ?_⟩
                  · rw [HN.out] <;> rfl
                  · exact below_set2 HBE.out (Nat.le_succ _)
                · have t3 : (me == 0) = false := by simpa using hm
                  have HS := Lib.hid (HNX.out _ HY6.out (HMN2.out hm))
                  clear hm
                  go_wp2_with fail
                  go_roundw
                  · first | exact HS.out | (rw [e1]; exact HS.out)
                  · first | exact HM.out | (rw [e1]; exact HM.out)
      · have d8 : decide (z ≤ 8) = false := decide_eq_false h8
        have HN := Lib.hid (HTD.out h8)
        clear hT hb h8
        have HBE := Lib.hid (HB1.out.trans (HBL.out.mono HB1.out.size))
        obtain ⟨⟨r0, r1, r2⟩, f1, f2⟩ := HR1.out.below HBL.out
        clear c0 c1 c2 c3 c4 c5 HLEG
        go_wp2_with fail
        try rw [Exit.noGoto_ret]
        refine bodyPost_ret (v := .tuple #[.agg #[.int .i64 0, .int .i64 0], .bool false]) (by simp [results, Try.results14, go_sem, r0, r1]) rfl ⟨?_, ?_⟩
        · rw [HN.out] <;> rfl
        · exact below_set2 HBE.out (Nat.le_succ _)
end Go.Proofs.Ytogckefmmjbapaa
