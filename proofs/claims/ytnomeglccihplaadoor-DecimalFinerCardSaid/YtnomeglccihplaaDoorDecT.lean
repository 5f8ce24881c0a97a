/-
  DecimalFiner of layer 6 answers true, for whatever amount and decimals, out of the contracts of decimal's own calls. The conditions: the contracts.
-/
import Derived.Test.YtnomeglccihplaaDoorDecC
import Derived.Test.YtnomeglccihplaaDoorRefR
import Derived.Test.YtnomeglccihplaaDoorRefDb2
namespace Go.Proofs.YtnomeglccihplaaDoor
open Go.RowKit
set_option linter.unusedSimpArgs false
set_option linter.unusedVariables false

theorem big_abs {w : World} {s : Bool} {u : Value} {z : Int} (h : Big w (.agg #[.bool s, u]) z) : Big w (.agg #[.bool false, u]) (z.natAbs : Int) := by
  obtain ⟨v, hv, hs⟩ := h
  simp at hv
  obtain ⟨_, rfl⟩ := hv
  refine ⟨u, ?_, by simpa using hs⟩
  rw [decide_eq_false (by omega)]
theorem of_w (n : Int) (hn : InR n) (w : World) :
    Calls Tryd.prog 14 #[.int .i64 n] w fun e w' => ∃ a c, e = .returned (.agg #[.bool (decide (n < 0)), .slice a (digs n.natAbs).length c]) ∧ Big w' (.agg #[.bool (decide (n < 0)), .slice a (digs n.natAbs).length c]) n ∧ Below w.heap.size w w' := by
  refine (of_any n hn w).mono ?_
  rintro e w' ⟨u, rfl, hu, hb⟩
  obtain ⟨a, c, rfl⟩ := hu.form
  exact ⟨a, c, rfl, hu, hb⟩
theorem minus_w {x y : Int} (w : World) (v v' : Value) (hv : Big w v x) (hv' : Big w v' y) (hl : (digs x.natAbs).length ≤ 1000) (hl' : (digs y.natAbs).length ≤ 1000) :
    Calls Tryd.prog 16 #[v, v'] w fun e w' => ∃ a c, e = .returned (.agg #[.bool (decide (x - y < 0)), .slice a (digs (x - y).natAbs).length c]) ∧ Big w' (.agg #[.bool (decide (x - y < 0)), .slice a (digs (x - y).natAbs).length c]) (x - y) ∧ Below w.heap.size w w' := by
  refine (bminus v v' x y w hv hv' hl hl').mono ?_
  rintro e w' ⟨u, rfl, hu, hb⟩
  obtain ⟨a, c, rfl⟩ := hu.form
  exact ⟨a, c, rfl, hu, hb⟩

theorem Keeps.head {w0 w : World} {a b : Nat × Value × Value} (h : Keeps w0 w [a, b]) : Keeps w0 w [a] := ⟨h.1, fun c hc => h.2 c (by simp at hc; rw [hc]; simp)⟩
theorem At2.first {w : World} {B : Nat} {p q r : Value} (h : Ow2 w B p q) : Ow2 (w.setCell ⟨B, 0, none⟩ r) B r q := by
  obtain ⟨⟨h1, h2, h3⟩, h4, h5⟩ := h
  refine ⟨⟨?_, ?_, by simpa [World.setCell] using h3⟩, ?_, ?_⟩ <;> simp [go_sem, h1, h2, h4, h5]

set_option maxHeartbeats 8000000 in
set_option maxRecDepth 100000 in
theorem finer6_ok (haw : ∀ w, Laid w → Calls Tryd.prog 11 #[] w fun e w' => e = .returned (.bool true) ∧ Below w.heap.size w w') (x s t u ue q k : Int)
    (hx : InR x) (hq : InR q) (hk : InR k) (h0 : 0 ≤ s) (hst : s ≤ t) (ht : t ≤ 6) (hcm : cmpv (((x - q * k).natAbs : Int) + ((x - q * k).natAbs : Int)) k ≤ 0)
    (h1 : ∀ w, Calls Tryd.prog 9 #[.int .i64 x, .int .i64 s, .int .i64 t] w fun e w' => e = .returned (.tuple #[.int .i64 u, .int .i64 ue]) ∧ Below w.heap.size w w')
    (h2 : ue = 10 ∨ (ue = 0 ∧ ∀ w, Calls Tryd.prog 9 #[.int .i64 u, .int .i64 t, .int .i64 s] w fun e w' => e = .returned (.tuple #[.int .i64 x, .int .i64 0]) ∧ Below w.heap.size w w'))
    (h3 : ∀ w, Calls Tryd.prog 9 #[.int .i64 x, .int .i64 t, .int .i64 s] w fun e w' => e = .returned (.tuple #[.int .i64 q, .int .i64 0]) ∧ Below w.heap.size w w')
    (h4 : ∀ w, Calls Tryd.prog 15 #[.int .i64 (t - s)] w fun e w' => e = .returned (.int .i64 k) ∧ w = w') (w : World) (L : Laid w) :
    Calls Tryd.prog 6 #[.int .i64 x, .agg #[.int .i64 s, .int .i64 t]] w fun e w' => e = .returned (.bool true) ∧ Below w.heap.size w w' := by
  have HLL := Lib.hid L.all
  have lx := digs_19 hx; have lq := digs_19 hq; have lk := digs_19 hk
  have lp := digs_len_times lq lk
  have lz := digs_len_minus (k := 38) (x := x) (y := q * k) (by omega) (by omega)
  have la : (digs (((x - q * k).natAbs : Nat) : Int).natAbs).length ≤ 39 := by rw [Int.natAbs_natCast]; exact lz
  have laa := digs_len_plus la la
  have lc := digs_len_minus (k := 40) laa (Nat.le_trans lk (by omega))
  have hOx := fun w => of_w x hx w
  have hOq := fun w => of_any q hq w
  have hOk := fun w => of_w k hk w
  have hT := fun (w : World) (v v' : Value) (h : Big w v q) (h' : Big w v' k) => btimes v v' q k w h h' (by omega) (by omega)
  have hM := fun (w : World) (v v' : Value) (h : Big w v x) (h' : Big w v' (q * k)) => minus_w w v v' h h' (by omega) (by omega)
  have hP := fun (w : World) (v v' : Value) (h : Big w v (((x - q * k).natAbs : Nat) : Int)) (h' : Big w v' (((x - q * k).natAbs : Nat) : Int)) => bplus v v' _ _ w h h' (by omega) (by omega)
  have hC := fun (w : World) (v v' : Value) (h : Big w v ((((x - q * k).natAbs : Nat) : Int) + (((x - q * k).natAbs : Nat) : Int))) (h' : Big w v' k) => bcmp v v' _ _ w h h' (by omega) (by omega) (by omega)
  have hle : decide (cmpv ((((x - q * k).natAbs : Nat) : Int) + (((x - q * k).natAbs : Nat) : Int)) k ≤ 0) = true := decide_eq_true hcm
  generalize cmpv ((((x - q * k).natAbs : Nat) : Int) + (((x - q * k).natAbs : Nat) : Int)) k = cm at *
  have d1 : decide (s < 0) = false := decide_eq_false (by omega)
  have d2 : decide (t < s) = false := decide_eq_false (by omega)
  have d3 : decide (6 < t) = false := decide_eq_false (by omega)
  have d4 : -9223372036854775808 ≤ t - s := by omega
  have d5 : t - s < 9223372036854775808 := by omega
  have H2 := Lib.hid h2
  clear lx lq lk lp lz la laa lc hx hq hk h0 hst ht hcm h2
  have K := (Keeps.start w).new (.int .i64 s) (.int .i64 t) 22
  obtain ⟨z0, z1, z2⟩ := K.at0
  go_enter Tryd.func6, Tryd.ntmps6
  go_wp2_with fail
  refine (h1 _).mono ?_; rintro e w1 ⟨rfl, hb1⟩
  replace K := K.below hb1; clear hb1 z0 z1 z2 h1
  go_upto_if 39 with fail
  go_cut [] (fun wx => Keeps w wx [(w.heap.size, .int .i64 s, .int .i64 t)])
  case first =>
    rcases H2.out with rfl | ⟨rfl, h2⟩
    · go_wp2_with fail
      go_meet
      exact K
    · obtain ⟨z0, z1, z2⟩ := K.at0
      go_wp2_with fail
      refine (h2 _).mono ?_; rintro e w2 ⟨rfl, hb2⟩
      replace K := K.below hb2
      go_wp2_with fail
      go_meet
      exact K
  case rest =>
    have K := hcut; clear hcut H2
    obtain ⟨z0, z1, z2⟩ := K.at0
    go_wp2_with fail
    refine (h3 _).mono ?_; rintro e w3 ⟨rfl, hb3⟩
    replace K := K.below hb3; clear hb3 z0 z1 z2 h3
    obtain ⟨z0, z1, z2⟩ := K.at0
    go_wp2_with fail
    refine (h4 _).mono ?_; rintro e w4 ⟨rfl, rfl⟩
    go_wp2_with fail
    refine (hOk _).mono ?_; rintro e w5 ⟨ak, ck, rfl, hk5, hb5⟩
    have HBw : Hid (w.heap.size < w5.heap.size) := (K.below hb5).at0.2.2
    replace K := (K.below hb5).new (.bool (decide (k < 0))) (.slice ak (digs k.natAbs).length ck) 40
    have GK := Lib.hid (hk5.alloc (.cells #[.bool (decide (k < 0)), .slice ak (digs k.natAbs).length ck] 40))
    clear hb5 hk5 hOk h4 z0 z1 z2
    have hks : Hid (w5.heap.size < (w5.alloc (.cells #[.bool (decide (k < 0)), .slice ak (digs k.natAbs).length ck] 40)).heap.size) := K.at0.2.2
    go_upto_region 10 with fail
    generalize w5.alloc (.cells #[.bool (decide (k < 0)), .slice ak (digs k.natAbs).length ck] 40) = W at *
    generalize w5.heap.size = B at *
    generalize decide (k < 0) = sk at *; generalize (digs k.natAbs).length = lk at *
    generalize hzz : x - q * k = z at *
    clear hzz
    generalize decide (z < 0) = sz at *; generalize (digs z.natAbs).length = lz at *
    have KH := Lib.hid K
    clear K
    go_cut [12] (fun s12 wx => ∃ B2 a c, s12 = .pointer (some ⟨B2, 0, none⟩) ∧ B < B2 ∧ Keeps w wx [(B, .bool sk, .slice ak lk ck)] ∧ Ow2 wx B2 (.bool sz) (.slice a lz c) ∧ Big wx (.agg #[.bool sk, .slice ak lk ck]) k ∧ Big wx (.agg #[.bool sz, .slice a lz c]) z)
    case first =>
      obtain ⟨y0, y1, y2⟩ := KH.out.at0
      have N0 := Lib.hid (Ow2.new W (.bool false) (.slice none 0 0) 40)
      go_region_held3 (fun w' => w'.cell? ⟨B, 0, none⟩ = some (.bool sk) ∧ w'.cell? ⟨B, 1, none⟩ = some (.slice ak lk ck))
        ((refine (fun (h : Keeps w _ [(B, .bool sk, .slice ak lk ck), (w.heap.size, .int .i64 s, .int .i64 t)]) => (And.intro h.at0.1 h.at0.2.1 : _ ∧ _)) ?_; repeat first | with_reducible exact KK4.out | with_reducible exact KK3.out | with_reducible exact KK2.out | with_reducible exact KK1.out | with_reducible exact KH.out | with_reducible refine Keeps.drew ?_ | with_reducible refine Keeps.alloc ?_ _ | with_reducible refine Keeps.set ?_ KK3.out.size KK3.out.lt | with_reducible refine Keeps.set ?_ KK2.out.size KK2.out.lt | with_reducible refine Keeps.set ?_ KK1.out.size KK1.out.lt | with_reducible refine Keeps.set ?_ KH.out.size KH.out.lt | with_reducible refine Keeps.set ?_ KK4.out.size KK4.out.lt))
        (first
       | (go_at_call 14; (with_reducible first | refine (hOx _).mono ?_); rintro e v1 ⟨ax, cx, rfl, hux, hbn⟩
          have KK1' : Keeps w v1 [(B, .bool sk, .slice ak lk ck), (w.heap.size, .int .i64 s, .int .i64 t)] := by with_reducible first | exact KH.out.drew.below hbn | exact (KH.out.alloc _).drew.below hbn
          have KK1 := Lib.hid KK1'; clear KK1'
          obtain ⟨y0, y1, y2⟩ := KK1.out.at0
          have GK' : Big v1 (.agg #[.bool sk, .slice ak lk ck]) k := by with_reducible first | exact GK.out.drawn.below hbn | exact (GK.out.alloc _).drawn.below hbn
          replace GK := Lib.hid GK'; clear GK'
          have GX : Hid (Big v1 (.agg #[.bool (decide (x < 0)), .slice ax (digs x.natAbs).length cx]) x) := hux
          try (with_reducible first | have n1' := N0.out.drew.below hbn
               have n1 := Lib.hid n1'
               obtain ⟨⟨p0, p1, p2⟩, p3, p4⟩ := n1')
          clear hbn)
       | (go_at_call 14; (with_reducible first | refine (hOq _).mono ?_); rintro e v2 ⟨uq, rfl, huq, hbn⟩
          have KK2' : Keeps w v2 [(B, .bool sk, .slice ak lk ck), (w.heap.size, .int .i64 s, .int .i64 t)] := by with_reducible first | exact KK1.out.below hbn | exact (KK1.out.alloc _).below hbn
          have KK2 := Lib.hid KK2'; clear KK2'
          obtain ⟨y0, y1, y2⟩ := KK2.out.at0
          have GK' : Big v2 (.agg #[.bool sk, .slice ak lk ck]) k := by with_reducible first | exact GK.out.below hbn | exact (GK.out.alloc _).below hbn
          replace GK := Lib.hid GK'; clear GK'
          have GX' : Big v2 (.agg #[.bool (decide (x < 0)), .slice ax (digs x.natAbs).length cx]) x := by with_reducible first | exact GX.out.below hbn | exact (GX.out.alloc _).below hbn
          replace GX := Lib.hid GX'; clear GX'
          have GQ : Hid (Big v2 uq q) := huq
          try (with_reducible first | have n2' := n1.out.below hbn | have n2' := (Ow2.new v1 (.bool false) (.slice none 0 0) 40).below hbn
               have n2 := Lib.hid n2'
               obtain ⟨⟨p0, p1, p2⟩, p3, p4⟩ := n2')
          clear hbn)
       | (go_at_call 17; (with_reducible first | refine (hT _ _ _ GQ.out GK.out).mono ?_ | refine (hT _ _ _ (GQ.out.alloc _) (GK.out.alloc _)).mono ?_); rintro e v3 ⟨up, rfl, hup, hbn⟩
          have KK3' : Keeps w v3 [(B, .bool sk, .slice ak lk ck), (w.heap.size, .int .i64 s, .int .i64 t)] := by with_reducible first | exact KK2.out.below hbn | exact (KK2.out.alloc _).below hbn
          have KK3 := Lib.hid KK3'; clear KK3'
          obtain ⟨y0, y1, y2⟩ := KK3.out.at0
          have GK' : Big v3 (.agg #[.bool sk, .slice ak lk ck]) k := by with_reducible first | exact GK.out.below hbn | exact (GK.out.alloc _).below hbn
          replace GK := Lib.hid GK'; clear GK'
          have GX' : Big v3 (.agg #[.bool (decide (x < 0)), .slice ax (digs x.natAbs).length cx]) x := by with_reducible first | exact GX.out.below hbn | exact (GX.out.alloc _).below hbn
          replace GX := Lib.hid GX'; clear GX'
          have GQ' : Big v3 uq q := by with_reducible first | exact GQ.out.below hbn | exact (GQ.out.alloc _).below hbn
          replace GQ := Lib.hid GQ'; clear GQ'
          have GP : Hid (Big v3 up (q * k)) := hup
          try (with_reducible first | have n3' := n2.out.below hbn | have n3' := (Ow2.new v2 (.bool false) (.slice none 0 0) 40).below hbn
               have n3 := Lib.hid n3'
               obtain ⟨⟨p0, p1, p2⟩, p3, p4⟩ := n3')
          clear hbn)
       | (go_at_call 16; (with_reducible first | refine (hM _ _ _ GX.out GP.out).mono ?_ | refine (hM _ _ _ (GX.out.alloc _) (GP.out.alloc _)).mono ?_); rintro e v4 ⟨az, cz, rfl, huz, hbn⟩
          have KK4' : Keeps w v4 [(B, .bool sk, .slice ak lk ck), (w.heap.size, .int .i64 s, .int .i64 t)] := by with_reducible first | exact KK3.out.below hbn | exact (KK3.out.alloc _).below hbn
          have KK4 := Lib.hid KK4'; clear KK4'
          obtain ⟨y0, y1, y2⟩ := KK4.out.at0
          have GK' : Big v4 (.agg #[.bool sk, .slice ak lk ck]) k := by with_reducible first | exact GK.out.below hbn | exact (GK.out.alloc _).below hbn
          replace GK := Lib.hid GK'; clear GK'
          have GX' : Big v4 (.agg #[.bool (decide (x < 0)), .slice ax (digs x.natAbs).length cx]) x := by with_reducible first | exact GX.out.below hbn | exact (GX.out.alloc _).below hbn
          replace GX := Lib.hid GX'; clear GX'
          have GQ' : Big v4 uq q := by with_reducible first | exact GQ.out.below hbn | exact (GQ.out.alloc _).below hbn
          replace GQ := Lib.hid GQ'; clear GQ'
          have GP' : Big v4 up (q * k) := by with_reducible first | exact GP.out.below hbn | exact (GP.out.alloc _).below hbn
          replace GP := Lib.hid GP'; clear GP'
          have GZ : Hid (Big v4 (.agg #[.bool sz, .slice az lz cz]) z) := huz
          try (with_reducible first | have n4' := n3.out.below hbn | have n4' := (Ow2.new v3 (.bool false) (.slice none 0 0) 40).below hbn
               have n4 := Lib.hid n4'
               obtain ⟨⟨p0, p1, p2⟩, p3, p4⟩ := n4')
          clear hbn))
      all_goals (go_wp2_with fail)
      all_goals go_meet
      all_goals refine ⟨_, az, cz, rfl, ?_, ?_, ?_, ?_, ?_⟩
      all_goals try with_reducible refine Keeps.head (b := (w.heap.size, .int .i64 s, .int .i64 t)) ?_
      all_goals repeat with_reducible first
        | exact KK4.out | exact GK.out | exact GZ.out | exact n4.out | exact n4.out.at | exact Ow2.new _ _ _ _ | exact At2.new _ _ _ _
        | refine Keeps.set ?_ KH.out.size KH.out.lt | refine Keeps.set ?_ KK1.out.size KK1.out.lt | refine Keeps.set ?_ KK2.out.size KK2.out.lt | refine Keeps.set ?_ KK3.out.size KK3.out.lt | refine Keeps.set ?_ KK4.out.size KK4.out.lt
        | refine Keeps.alloc ?_ _
        | refine Ow2.put (p := .bool false) (q := .slice none 0 0) ?_
        | refine Big.alloc ?_ _
        | refine Big.put ?_ (s := false) (a := none) (l := 0) (c := 0) ?_
      all_goals first | exact hks.out | exact KK1.out.at0.2.2 | exact KK2.out.at0.2.2 | exact KK3.out.at0.2.2 | exact KK4.out.at0.2.2
    case rest =>
      obtain ⟨B2, az, cz, rfl, hB2, K, o, gk, gz⟩ := hcut
      have ho := At2.first (r := .bool false) o
      have GK2 := Lib.hid (show Big (wc.setCell ⟨B2, 0, none⟩ (.bool false)) (.agg #[.bool sk, .slice ak lk ck]) k from by
        obtain ⟨u, h1, h2⟩ := gk
        exact ⟨u, h1, h2.set o.1.1 (by simp)⟩)
      have GA := Lib.hid (show Big (wc.setCell ⟨B2, 0, none⟩ (.bool false)) (.agg #[.bool false, .slice az lz cz]) (z.natAbs : Int) from by
        obtain ⟨u, h1, h2⟩ := big_abs gz
        exact ⟨u, h1, h2.set o.1.1 (by simp)⟩)
      have hne : ¬ B = B2 := by omega
      have hk0 : (wc.setCell ⟨B2, 0, none⟩ (.bool false)).cell? ⟨B, 0, none⟩ = some (.bool sk) := by
        rw [World.cell?_setCell_other _ _ _ _ (by simp [hne])]; exact K.at0.1
      have hk1 : (wc.setCell ⟨B2, 0, none⟩ (.bool false)).cell? ⟨B, 1, none⟩ = some (.slice ak lk ck) := by
        rw [World.cell?_setCell_other _ _ _ _ (by simp [hne])]; exact K.at0.2.1
      have KW := Lib.hid (K.1.setCell (p := ⟨B2, 0, none⟩) (by have := HBw.out; show w.heap.size ≤ B2; omega) (.bool false))
      have CL : Hid (∀ wx, Below (wc.setCell ⟨B2, 0, none⟩ (.bool false)).heap.size (wc.setCell ⟨B2, 0, none⟩ (.bool false)) wx → wx.cell? ⟨B2, 0, none⟩ = some (.bool false) ∧ wx.cell? ⟨B2, 1, none⟩ = some (.slice az lz cz) ∧ wx.cell? ⟨B, 0, none⟩ = some (.bool sk) ∧ wx.cell? ⟨B, 1, none⟩ = some (.slice ak lk ck)) := by
        intro wx h
        have h1 := ho.below h
        exact ⟨h1.1.1, h1.1.2.1, (h.cell (p := ⟨B, 0, none⟩) (World.block_lt_of_cell? _ _ hk0)).trans hk0, (h.cell (p := ⟨B, 1, none⟩) (World.block_lt_of_cell? _ _ hk1)).trans hk1⟩
      obtain ⟨⟨o0, o1, o2⟩, o3, o4⟩ := o
      obtain ⟨⟨p0, p1, p2⟩, p3, p4⟩ := ho
      clear K gk gz KH
      go_upto_region 12 with fail
      generalize wc.setCell ⟨B2, 0, none⟩ (.bool false) = V at *
      have hPP := hP _ _ _ GA.out.drawn GA.out.drawn
      have HDR : Hid (∀ v, Below V.drew.heap.size V.drew v → Below V.heap.size V v) := fun v h => ((Below.refl _ V).drew).trans h
      go_region_held3 (fun w' => w'.cell? ⟨B2, 0, none⟩ = some (.bool false) ∧ w'.cell? ⟨B2, 1, none⟩ = some (.slice az lz cz) ∧ w'.cell? ⟨B, 0, none⟩ = some (.bool sk) ∧ w'.cell? ⟨B, 1, none⟩ = some (.slice ak lk ck))
        ((refine CL.out _ ?_; first | exact (Below.refl _ _).drew | exact H5.out | exact H6.out | exact H7.out))
        (first
          | (go_at_call 19; with_reducible refine hPP.mono ?_; rintro e v5 ⟨u5, rfl, hu5, hbn⟩; have H5 := Lib.hid (HDR.out _ hbn); have GA5 := Lib.hid hu5; have GK5 := Lib.hid (GK2.out.drawn.below hbn); clear hbn hu5)
          | (go_at_call 18; with_reducible refine (hC _ _ _ GA5.out GK5.out).mono ?_; rintro e v6 ⟨rfl, hbn⟩; have H6 := Lib.hid (H5.out.trans (hbn.mono H5.out.size)); clear hbn)
          | (go_at_call 11; with_reducible refine (haw _ (HLL.out _ (KW.out.trans (H6.out.mono KW.out.size)))).mono ?_; rintro e v7 ⟨rfl, hbn⟩; have H7 := Lib.hid (H6.out.trans (hbn.mono H6.out.size)); clear hbn))
      all_goals go_wp2_with fail
      all_goals go_ret
      all_goals exact ⟨rfl, KW.out.trans (H7.out.mono KW.out.size)⟩

set_option maxHeartbeats 2000000 in
theorem finer6_all (hP : PrintC) (hQ : ParseC) (hR : RescaleC) (x s t : Int) (hx : InR x) (w : World) (L : Laid w) :
    Calls Tryd.prog 6 #[.int .i64 x, .agg #[.int .i64 s, .int .i64 t]] w fun e w' => e = .returned (.bool true) ∧ Below w.heap.size w w' := by
  have haw := d_awake hP hQ hR
  by_cases h : 0 ≤ s ∧ s ≤ t ∧ t ≤ 6
  · obtain ⟨h0, hst, h6⟩ := h
    have os : OkD s := by unfold OkD; omega
    have ot : OkD t := by unfold OkD; omega
    have od : OkD (t - s) := by unfold OkD; omega
    have h1 := fun w => hR x s t w hx
    rw [(rs_ok os ot).1, (rs_ok os ot).2, fine_up h0 hst] at h1
    have h3 := fun w => hR x t s w hx
    rw [(rs_ok ot os).1, (rs_ok ot os).2, fine_down h0 hst] at h3
    have hk := ten_inR od
    have hq : InR (nearv x (ten (t - s))) := down_in hx hk.2
    rw [tv_in hq, te_in hq] at h3
    have hc := fine_off x (ten (t - s)) hk.2
    rw [show (2 : Int) * ((x - nearv x (ten (t - s)) * ten (t - s)).natAbs : Int) = ((x - nearv x (ten (t - s)) * ten (t - s)).natAbs : Int) + ((x - nearv x (ten (t - s)) * ten (t - s)).natAbs : Int) by omega] at hc
    refine finer6_ok haw x s t _ _ _ _ hx hq hk.1 h0 hst h6 hc h1 ?_ h3 (fun w => r6tens_any (t - s) od w) w L
    by_cases hu : InR (x * ten (t - s))
    · right
      refine ⟨te_in hu, fun w => ?_⟩
      rw [tv_in hu]
      have h2 := hR (x * ten (t - s)) t s w hu
      rw [(rs_ok ot os).1, (rs_ok ot os).2, fine_back h0 hst, tv_in hx, te_in hx] at h2
      exact h2
    · left; exact te_out hu
  · have hq : decide (s < 0) = true ∨ (decide (s < 0) = false ∧ decide (t < s) = true) ∨ (decide (s < 0) = false ∧ decide (t < s) = false ∧ decide (6 < t) = true) := by
      rcases Int.lt_or_le s 0 with q | q
      · exact Or.inl (decide_eq_true q)
      · rcases Int.lt_or_le t s with r | r
        · exact Or.inr (Or.inl ⟨decide_eq_false (by omega), decide_eq_true r⟩)
        · exact Or.inr (Or.inr ⟨decide_eq_false (by omega), decide_eq_false (by omega), decide_eq_true (by omega)⟩)
    clear hP hQ hR h hx
    rcases hq with d1 | ⟨d1, d2⟩ | ⟨d1, d2, d3⟩
    all_goals go_enter Tryd.func6, Tryd.ntmps6
    all_goals go_wp2_with fail
    all_goals (refine (haw _ (L.on (below1 _ _))).mono ?_; rintro e w1 ⟨rfl, hb1⟩)
    all_goals go_wp2_with fail
    all_goals go_ret
    all_goals exact ⟨rfl, (below1 _ _).trans (hb1.mono (by simp))⟩
end Go.Proofs.YtnomeglccihplaaDoor
