/-
  What the document's own Nearest (gavelkindref03) answers: the nearest whole number to a quotient, of two that are as near the even one. The conditions: a divisor in range above 0, a whole number of at most 300 digits.
-/
import Derived.Test.YtnomeglccihplaaDoorRefP
import Derived.Test.YtnomeglccihplaaDoorRefQ
import Derived.Deep.DeepCutAuto
import Derived.Deep.RegionWith
namespace Go.Proofs.YtnomeglccihplaaDoor
open Go.RowKit
set_option linter.unusedSimpArgs false
set_option linter.unusedVariables false

theorem bdiv_w {x d : Int} (w : World) (v v' : Value) (hv : Big w v x) (hv' : Big w v' d) (hd : 0 < d) (hl : (digs x.natAbs).length ≤ 400) (hl' : (digs d.natAbs).length ≤ 400) :
    Calls Tryd.prog 74 #[v, v'] w fun e w' => ∃ a c b f, e = .returned (.tuple #[.agg #[.bool (decide (x / d < 0)), .slice a (digs (x / d).natAbs).length c], .agg #[.bool (decide (x % d < 0)), .slice b (digs (x % d).natAbs).length f]]) ∧
      Big w' (.agg #[.bool (decide (x / d < 0)), .slice a (digs (x / d).natAbs).length c]) (x / d) ∧ Big w' (.agg #[.bool (decide (x % d < 0)), .slice b (digs (x % d).natAbs).length f]) (x % d) ∧ Below w.heap.size w w' := by
  refine (bdiv v v' x d w hv hv' hd hl hl').mono ?_
  rintro e w' ⟨u1, u2, rfl, h1, h2, hb⟩
  obtain ⟨a, c, rfl⟩ := h1.form
  obtain ⟨b, f, rfl⟩ := h2.form
  exact ⟨a, c, b, f, rfl, h1, h2, hb⟩
/-- The least digit, and where it lies. -/
theorem Big.low {w : World} {q : Int} {s : Bool} {a : Option Addr} {l c : Nat} (h : Big w (.agg #[.bool s, .slice a l c]) q) :
    (l = 0 ∧ q % 2 = 0) ∨ (0 < l ∧ ∃ b off D, a = some ⟨b, off, none⟩ ∧ w.cell? ⟨b, off, none⟩ = some (.int .i64 D) ∧ 0 ≤ D ∧ D ≤ 9 ∧ D % 2 = q % 2) := by
  obtain ⟨u, hu, a', cap, h1, h2, h3, h4⟩ := h
  injection hu with hu; injection hu with hu; injection hu with hu1 hu2; injection hu2 with hu2 _
  subst hu2
  injection h1 with ha hl hc
  by_cases hq : q.natAbs = 0
  · left; rw [hq, digs_zero] at hl; exact ⟨by simpa using hl, by omega⟩
  · right
    have hp := digs_pos_len hq
    refine ⟨by omega, ?_⟩
    obtain ⟨b, off, hb, hcell⟩ := h4.2 0 hp
    rw [digs_pos hq, List.getD_cons_zero] at hcell
    exact ⟨b, off, _, ha.trans hb, hcell, by omega, by omega, by omega⟩

set_option maxHeartbeats 8000000 in
set_option maxRecDepth 100000 in
theorem nearest_any (v : Value) (x d : Int) (w : World) (hv : Big w v x) (hd : InR d) (h1 : 0 < d) (hl : (digs x.natAbs).length ≤ 300) :
    Calls Tryd.prog 58 #[v, .int .i64 d] w fun e w' => ∃ u, e = .returned u ∧ Big w' u (nearv x d) ∧ Below w.heap.size w w' := by
  obtain ⟨a0, c0, rfl⟩ := hv.form
  have ld := digs_19 hd
  have lq : (digs (x / d).natAbs).length ≤ 300 := div_len hl
  have lr := mod_len (x := x) hd h1
  have lrr := digs_len_plus lr lr
  have lc : (digs (x % d + x % d - d).natAbs).length ≤ 2000 := Nat.le_trans (digs_len_minus (k := 20) lrr (by omega)) (by omega)
  have hOd := of_any d hd
  have hO1 := of_any 1 (by unfold InR; omega)
  have hDv := fun (w : World) (v v' : Value) (h : Big w v x) (h' : Big w v' d) => bdiv_w w v v' h h' h1 (by omega) (by omega)
  have hPu := fun (w : World) (v v' : Value) (h : Big w v (x / d)) (h' : Big w v' 1) => bplus_w w v v' h h' (by omega) (Nat.le_trans one_len (by omega))
  have hPr := fun (w : World) (v v' : Value) (h : Big w v (x % d)) (h' : Big w v' (x % d)) => bplus v v' _ _ w h h' (by omega) (by omega)
  have hC := fun (w : World) (v v' : Value) (h : Big w v (x % d + x % d)) (h' : Big w v' d) => bcmp v v' _ _ w h h' (by omega) (by omega) lc
  have HC : Hid ((cmpv (x % d + x % d) d = 1 ∧ nearv x d = x / d + 1) ∨ (cmpv (x % d + x % d) d = 0 ∧ (x / d) % 2 = 1 ∧ nearv x d = x / d + 1) ∨ (cmpv (x % d + x % d) d = 0 ∧ ¬ (x / d) % 2 = 1 ∧ nearv x d = x / d) ∨ (cmpv (x % d + x % d) d = -1 ∧ nearv x d = x / d)) := by
    show _ ∨ _
    unfold nearv cmpv
    by_cases h : x % d + x % d < d
    · right; right; right; rw [if_pos h, if_neg (by omega)]; exact ⟨rfl, rfl⟩
    · by_cases h' : d < x % d + x % d
      · left; rw [if_neg h, if_pos h', if_pos (Or.inl h')]; exact ⟨rfl, rfl⟩
      · right
        by_cases ho : (x / d) % 2 = 1
        · left; rw [if_neg h, if_neg h', if_pos (by omega)]; exact ⟨rfl, ho, rfl⟩
        · right; left; rw [if_neg h, if_neg h', if_neg (by omega)]; exact ⟨rfl, ho, rfl⟩
  have HV := Lib.hid hv
  generalize nearv x d = nv at *
  generalize x / d = q at *; generalize x % d = r at *
  generalize cmpv (r + r) d = cm at *
  generalize decide (x < 0) = sx at *; generalize (digs x.natAbs).length = lx at *
  generalize decide (q < 0) = sq at *; generalize (digs q.natAbs).length = lq' at *
  generalize decide (r < 0) = sr at *; generalize (digs r.natAbs).length = lr' at *
  generalize decide (q + 1 < 0) = su at *; generalize (digs (q + 1).natAbs).length = lu at *
  clear hv hl ld lq lr lrr lc hd h1
  go_enter Tryd.func58, Tryd.ntmps58
  have KH := Lib.hid ((Keeps.start w).new2 (.bool sx) (.slice a0 lx c0) (.bool false) (.slice none 0 0) 40 40)
  have N0 := Lib.hid (Ow2.new2 w (.cells #[.bool sx, .slice a0 lx c0] 40) (.bool false) (.slice none 0 0) 40)
  have N1 := Lib.hid (Ow2.new3 w (.cells #[.bool sx, .slice a0 lx c0] 40) (.cells #[.bool false, .slice none 0 0] 40) (.bool false) (.slice none 0 0) 40)
  have N2 := Lib.hid (Ow2.new4 w (.cells #[.bool sx, .slice a0 lx c0] 40) (.cells #[.bool false, .slice none 0 0] 40) (.cells #[.bool false, .slice none 0 0] 40) (.bool false) (.slice none 0 0) 40)
  replace HV := Lib.hid ((HV.out.alloc (.cells #[.bool sx, .slice a0 lx c0] 40)).alloc (.cells #[.bool false, .slice none 0 0] 40))
  go_upto_region 1 with fail
  go_cut [5, 6] (fun s5 s6 wx => ∃ B5 B6 ra ca rb cb, s5 = .pointer (some ⟨B5, 0, none⟩) ∧ s6 = .pointer (some ⟨B6, 0, none⟩) ∧ Keeps w wx [(w.heap.size + 1, .bool false, .slice none 0 0), (w.heap.size, .bool sx, .slice a0 lx c0)] ∧ Ow2 wx (w.heap.size + 1) (.bool false) (.slice none 0 0) ∧
      At2 wx B5 (.bool sq) (.slice ra lq' ca) ∧ At2 wx B6 (.bool sr) (.slice rb lr' cb) ∧ Big wx (.agg #[.bool sq, .slice ra lq' ca]) q ∧ Big wx (.agg #[.bool sr, .slice rb lr' cb]) r)
  case first =>
    go_region_held3 (fun w' => w'.cell? ⟨w.heap.size, 0, none⟩ = some (.bool sx) ∧ w'.cell? ⟨w.heap.size, 1, none⟩ = some (.slice a0 lx c0))
      ((refine (fun (h : Keeps w _ [(w.heap.size + 1, .bool false, .slice none 0 0), (w.heap.size, .bool sx, .slice a0 lx c0)]) => (And.intro h.at1.1 h.at1.2.1 : _ ∧ _)) ?_; repeat first | with_reducible exact KH.out | with_reducible exact KI.out | with_reducible exact K2.out | with_reducible refine Keeps.drew ?_ | with_reducible refine Keeps.alloc ?_ _ | with_reducible refine Keeps.set ?_ (by have := sz.out; omega) (by intro b hb; have := sz.out; simp at hb; rcases hb with rfl | rfl <;> simp <;> omega)))
      (first
        | (go_at_call 14; with_reducible refine (hOd _).mono ?_; rintro e w1 ⟨r1, rfl, hr1, hb1⟩
           have K1 : Keeps w w1 [(w.heap.size + 1, .bool false, .slice none 0 0), (w.heap.size, .bool sx, .slice a0 lx c0)] := by
             with_reducible first | exact KH.out.drew.below hb1 | exact (KH.out.alloc _).drew.below hb1 | exact ((KH.out.alloc _).alloc _).drew.below hb1 | exact (KH.out.drew.alloc _).below hb1 | exact ((KH.out.drew.alloc _).alloc _).below hb1
           obtain ⟨x0, x1, x2⟩ := K1.at1
           have KI := Lib.hid K1
           clear K1
           have v1' : Big w1 (.agg #[.bool sx, .slice a0 lx c0]) x := by
             with_reducible first | exact HV.out.drawn.below hb1 | exact (HV.out.alloc _).drawn.below hb1 | exact ((HV.out.alloc _).alloc _).drawn.below hb1
           have v1 := Lib.hid v1'
           clear v1'
           have o1' : Ow2 w1 (w.heap.size + 1) (.bool false) (.slice none 0 0) := by
             with_reducible first | exact N0.out.drew.below hb1 | exact (N0.out.alloc _).drew.below hb1 | exact ((N0.out.alloc _).alloc _).drew.below hb1
           have o1 := Lib.hid o1'
           clear o1'
           try (have n1' : Ow2 w1 (w.heap.size + 1 + 1) (.bool false) (.slice none 0 0) := by
                  with_reducible first | exact N1.out.drew.below hb1 | exact (N1.out.alloc _).drew.below hb1
                have n1 := Lib.hid n1'
                obtain ⟨⟨n10, n11, n12⟩, n13, n14⟩ := n1')
           try (have n2' : Ow2 w1 (w.heap.size + 1 + 1 + 1) (.bool false) (.slice none 0 0) := by with_reducible exact N2.out.drew.below hb1
                have n2 := Lib.hid n2'
                obtain ⟨⟨n20, n21, n22⟩, n23, n24⟩ := n2'))
        | (go_at_call 74
           (with_reducible first | refine (hDv _ _ _ v1.out hr1).mono ?_ | refine (hDv _ _ _ (v1.out.alloc _) (hr1.alloc _)).mono ?_ | refine (hDv _ _ _ ((v1.out.alloc _).alloc _) ((hr1.alloc _).alloc _)).mono ?_)
           rintro e w2 ⟨ra, ca, rb, cb, rfl, hr2, hr3, hb2⟩
           have K2' : Keeps w w2 [(w.heap.size + 1, .bool false, .slice none 0 0), (w.heap.size, .bool sx, .slice a0 lx c0)] := by
             with_reducible first | exact KI.out.below hb2 | exact (KI.out.alloc _).below hb2 | exact ((KI.out.alloc _).alloc _).below hb2
           have K2 := Lib.hid K2'
           clear K2'
           have R1 := Lib.hid hr2
           have R2 := Lib.hid hr3
           clear hr2 hr3
           have o2' : Ow2 w2 (w.heap.size + 1) (.bool false) (.slice none 0 0) := by
             with_reducible first | exact o1.out.below hb2 | exact (o1.out.alloc _).below hb2 | exact ((o1.out.alloc _).alloc _).below hb2
           have o2 := Lib.hid o2'
           clear o2'
           have szb := hb2.size
           have sz : Hid (w.heap.size + 1 < w1.heap.size ∧ w1.heap.size ≤ w2.heap.size) := by
             refine ⟨(KI.out.at0).2.2, ?_⟩
             first | with_reducible exact szb | (simp at szb; omega)
           clear szb
           try (have m1' : Ow2 w2 (w.heap.size + 1 + 1) (.bool false) (.slice none 0 0) := by
                  with_reducible first | exact n1.out.below hb2 | exact (n1.out.alloc _).below hb2 | exact ((n1.out.alloc _).alloc _).below hb2
                have m1 := Lib.hid m1'
                have l1 := Lib.hid n1.out.at.2.2
                obtain ⟨⟨m10, m11, m12⟩, m13, m14⟩ := m1')
           try (have m2' : Ow2 w2 (w.heap.size + 1 + 1 + 1) (.bool false) (.slice none 0 0) := by
                  with_reducible first | exact n2.out.below hb2 | exact (n2.out.alloc _).below hb2 | exact ((n2.out.alloc _).alloc _).below hb2
                have m2 := Lib.hid m2'
                have l2 := Lib.hid n2.out.at.2.2
                obtain ⟨⟨m20, m21, m22⟩, m23, m24⟩ := m2')
           try (have q1' : Ow2 w2 w1.heap.size (.bool false) (.slice none 0 0) := by
                  with_reducible first | exact (Ow2.new w1 _ _ _).below hb2 | exact ((Ow2.new w1 _ _ _).alloc _).below hb2
                have q1 := Lib.hid q1'
                obtain ⟨⟨q10, q11, q12⟩, q13, q14⟩ := q1')
           try (have q2' : Ow2 w2 (w1.heap.size + 1) (.bool false) (.slice none 0 0) := by with_reducible exact (Ow2.new2 w1 _ _ _ _).below hb2
                have q2 := Lib.hid q2'
                obtain ⟨⟨q20, q21, q22⟩, q23, q24⟩ := q2')))
    all_goals (go_wp2_with fail)
    all_goals go_meet
    all_goals with_reducible refine ⟨_, _, ra, ca, rb, cb, rfl, rfl, ?_, ?_, ?_, ?_, ?_, ?_⟩
    all_goals (obtain ⟨sz1, sz2⟩ := sz.out)
    all_goals (try have z1 := l1.out)
    all_goals (try have z2 := l2.out)
    all_goals repeat with_reducible first
      | exact K2.out | exact R1.out | exact R2.out | exact o2.out | exact m1.out.at | exact m2.out.at | exact q1.out.at | exact q2.out.at
      | refine Keeps.set ?_ (by omega) (by intro b hb; simp at hb; rcases hb with rfl | rfl <;> simp <;> omega)
      | refine Keeps.alloc ?_ _
      | refine Ow2.setne ?_ (by omega)
      | refine Ow2.alloc ?_ _
      | refine At2.put (p := .bool false) (q := .slice none 0 0) ?_
      | refine At2.new' (by simp [World.setCell])
      | refine At2.alloc ?_ _
      | refine At2.setne ?_ (by omega)
      | refine Big.alloc ?_ _
      | refine Big.put ?_ (s := false) (a := none) (l := 0) (c := 0) ?_
  case rest =>
    obtain ⟨B5, B6, ra, ca, rb, cb, rfl, rfl, K, o, a5, a6, r5, r6⟩ := hcut
    clear KH N0 N1 N2 HV
    replace K : Keeps w wc [(B5, .bool sq, .slice ra lq' ca), (B6, .bool sr, .slice rb lr' cb)] := ⟨K.1, by intro b hb; simp at hb; rcases hb with rfl | rfl <;> assumption⟩
    have HO := Lib.hid o
    have HB := Lib.hid (And.intro r5 r6)
    clear a5 a6 r5 r6 o
    obtain ⟨x0, x1, x2⟩ := K.at0
    go_upto_region 2 with fail
    go_cut [7] (fun s7 wx => ∃ B7 ru cu, s7 = .pointer (some ⟨B7, 0, none⟩) ∧ Keeps w wx [(B5, .bool sq, .slice ra lq' ca), (B6, .bool sr, .slice rb lr' cb)] ∧ Ow2 wx (w.heap.size + 1) (.bool false) (.slice none 0 0) ∧ At2 wx B7 (.bool su) (.slice ru lu cu) ∧
        Big wx (.agg #[.bool sq, .slice ra lq' ca]) q ∧ Big wx (.agg #[.bool sr, .slice rb lr' cb]) r ∧ Big wx (.agg #[.bool su, .slice ru lu cu]) (q + 1))
    case first =>
      have KH := Lib.hid K
      have NN := Lib.hid (Ow2.new wc (.bool false) (.slice none 0 0) 40)
      clear K
      go_region_held3 (fun w' => w'.cell? ⟨B5, 0, none⟩ = some (.bool sq) ∧ w'.cell? ⟨B5, 1, none⟩ = some (.slice ra lq' ca))
        ((refine (fun (h : Keeps w _ [(B5, .bool sq, .slice ra lq' ca), (B6, .bool sr, .slice rb lr' cb)]) => (And.intro h.at0.1 h.at0.2.1 : _ ∧ _)) ?_; repeat first | with_reducible exact KH.out | with_reducible exact KI.out | with_reducible exact K2.out | with_reducible refine Keeps.drew ?_ | with_reducible refine Keeps.alloc ?_ _ | with_reducible refine Keeps.set ?_ (by have := sz.out; omega) (by intro b hb; have := sz.out; have := szl.out b hb; omega)))
        (first
          | (go_at_call 14; with_reducible refine (hO1 _).mono ?_; rintro e w1 ⟨r1, rfl, hr1, hb1⟩
             have K1 : Keeps w w1 [(B5, .bool sq, .slice ra lq' ca), (B6, .bool sr, .slice rb lr' cb)] := by
               with_reducible first | exact KH.out.drew.below hb1 | exact (KH.out.alloc _).drew.below hb1
             obtain ⟨y0, y1, y2⟩ := K1.at0
             have KI := Lib.hid K1
             clear K1
             have v1' : Big w1 (.agg #[.bool sq, .slice ra lq' ca]) q ∧ Big w1 (.agg #[.bool sr, .slice rb lr' cb]) r := by
               with_reducible first | exact ⟨HB.out.1.drawn.below hb1, HB.out.2.drawn.below hb1⟩ | exact ⟨(HB.out.1.alloc _).drawn.below hb1, (HB.out.2.alloc _).drawn.below hb1⟩
             have v1 := Lib.hid v1'
             clear v1'
             have o1' : Ow2 w1 (w.heap.size + 1) (.bool false) (.slice none 0 0) := by
               with_reducible first | exact HO.out.drew.below hb1 | exact (HO.out.alloc _).drew.below hb1
             have o1 := Lib.hid o1'
             clear o1'
             try (have n1' : Ow2 w1 wc.heap.size (.bool false) (.slice none 0 0) := by with_reducible exact NN.out.drew.below hb1
                  have n1 := Lib.hid n1'
                  obtain ⟨⟨n10, n11, n12⟩, n13, n14⟩ := n1'))
          | (go_at_call 19
             (with_reducible first | refine (hPu _ _ _ v1.out.1 hr1).mono ?_ | refine (hPu _ _ _ (v1.out.1.alloc _) (hr1.alloc _)).mono ?_)
             rintro e w2 ⟨ru, cu, rfl, hr2, hb2⟩
             have K2' : Keeps w w2 [(B5, .bool sq, .slice ra lq' ca), (B6, .bool sr, .slice rb lr' cb)] := by
               with_reducible first | exact KI.out.below hb2 | exact (KI.out.alloc _).below hb2
             have K2 := Lib.hid K2'
             clear K2'
             have v2' : Big w2 (.agg #[.bool sq, .slice ra lq' ca]) q ∧ Big w2 (.agg #[.bool sr, .slice rb lr' cb]) r := by
               with_reducible first | exact ⟨v1.out.1.below hb2, v1.out.2.below hb2⟩ | exact ⟨(v1.out.1.alloc _).below hb2, (v1.out.2.alloc _).below hb2⟩
             have v2 := Lib.hid v2'
             clear v2'
             have R2 := Lib.hid hr2
             clear hr2
             have o2' : Ow2 w2 (w.heap.size + 1) (.bool false) (.slice none 0 0) := by
               with_reducible first | exact o1.out.below hb2 | exact (o1.out.alloc _).below hb2
             have o2 := Lib.hid o2'
             clear o2'
             have szl : Hid (∀ b ∈ [(B5, Value.bool sq, Value.slice ra lq' ca), (B6, Value.bool sr, Value.slice rb lr' cb)], b.1 < wc.heap.size) := KH.out.lt
             have szh := hb1.size
             have sz : Hid (w.heap.size + 1 < wc.heap.size ∧ wc.heap.size ≤ w1.heap.size) := by
               refine ⟨HO.out.at.2.2, ?_⟩
               first | with_reducible exact szh | (simp at szh; omega)
             clear szh
             try (have m1' : Ow2 w2 wc.heap.size (.bool false) (.slice none 0 0) := by
                    with_reducible exact n1.out.below hb2
                  have m1 := Lib.hid m1'
                  obtain ⟨⟨m10, m11, m12⟩, m13, m14⟩ := m1')
             try (have q1' : Ow2 w2 w1.heap.size (.bool false) (.slice none 0 0) := by with_reducible exact (Ow2.new w1 _ _ _).below hb2
                  have q1 := Lib.hid q1'
                  obtain ⟨⟨q10, q11, q12⟩, q13, q14⟩ := q1')))
      all_goals (go_wp2_with fail)
      all_goals go_meet
      all_goals with_reducible refine ⟨_, ru, cu, rfl, ?_, ?_, ?_, ?_, ?_, ?_⟩
      all_goals (obtain ⟨sz1, sz2⟩ := sz.out)
      all_goals repeat with_reducible first
        | exact K2.out | exact R2.out | exact v2.out.1 | exact v2.out.2 | exact o2.out | exact m1.out.at | exact q1.out.at
        | refine Keeps.set ?_ (by omega) (by intro b hb; have := szl.out b hb; omega)
        | refine Keeps.alloc ?_ _
        | refine Ow2.setne ?_ (by omega)
        | refine Ow2.alloc ?_ _
        | refine At2.put (p := .bool false) (q := .slice none 0 0) ?_
        | refine At2.new' (by simp [World.setCell])
        | refine At2.alloc ?_ _
        | refine At2.setne ?_ (by omega)
        | refine Big.alloc ?_ _
        | refine Big.put ?_ (s := false) (a := none) (l := 0) (c := 0) ?_
    case rest =>
      clear K HO HB x0 x1 x2
      obtain ⟨B7, ru, cu, rfl, K, o, a7, r5, r6, r7⟩ := hcut
      replace K : Keeps w wc [(B5, .bool sq, .slice ra lq' ca), (B6, .bool sr, .slice rb lr' cb), (B7, .bool su, .slice ru lu cu)] := ⟨K.1, by intro b hb; simp at hb; rcases hb with rfl | rfl | rfl; exact K.at0; exact K.at1; exact a7⟩
      have HO := Lib.hid o
      have HB := Lib.hid (And.intro r5 (And.intro r6 r7))
      clear o a7 r5 r6 r7
      obtain ⟨y0, y1, y2⟩ := K.at1
      go_wp2_with fail
      refine (hPr _ _ _ HB.out.2.1 HB.out.2.1).mono ?_; rintro e w3 ⟨u3, rfl, hu3, hb3⟩
      replace K := K.below hb3
      replace HO := Lib.hid (HO.out.below hb3)
      replace HB := Lib.hid (And.intro (HB.out.1.below hb3) (And.intro (HB.out.2.1.below hb3) (HB.out.2.2.below hb3)))
      clear hb3 y0 y1 y2
      go_wp2_with fail
      refine (hOd _).mono ?_; rintro e w4 ⟨u4, rfl, hu4, hb4⟩
      replace K := K.below hb4
      replace HO := Lib.hid (HO.out.below hb4)
      replace HB := Lib.hid (And.intro (HB.out.1.below hb4) (And.intro (HB.out.2.1.below hb4) (HB.out.2.2.below hb4)))
      go_wp2_with fail
      refine (hC _ _ _ (hu3.below hb4) hu4).mono ?_; rintro e w5 ⟨rfl, hb5⟩
      replace K := K.below hb5
      replace HO := Lib.hid (HO.out.below hb5)
      replace HB := Lib.hid (And.intro (HB.out.1.below hb5) (And.intro (HB.out.2.1.below hb5) (HB.out.2.2.below hb5)))
      clear hb4 hb5 hu3 hu4
      go_upto_region 4 with fail
      go_cut [9] (fun s9 wx => ∃ od : Bool, s9 = .bool od ∧ od = decide (q % 2 = 1) ∧ wx = w5)
      case first =>
        obtain ⟨x0, x1, x2⟩ := K.at0
        rcases HB.out.1.low with ⟨hl0, hq⟩ | ⟨hl0, b, off, D, ha, hD, hD0, hD9, hDq⟩
        · subst hl0
          go_wp2_with fail
          go_meet
          exact ⟨false, rfl, (decide_eq_false (by omega)).symm, rfl⟩
        · subst ha
          have HQ := Lib.hid hDq
          clear hDq
          have hpos : decide (lq' = 0) = false := decide_eq_false (by omega)
          by_cases ho : D % 2 = 1
          · have HQ2 : Hid (decide (q % 2 = 1) = true) := decide_eq_true (by have := HQ.out; omega)
            have hm : D.tmod 2 = 1 := by rw [Int.tmod_eq_emod_of_nonneg hD0]; exact ho
            go_wp2_with fail
            go_meet
            exact ⟨true, rfl, HQ2.out.symm, rfl⟩
          · have HQ2 : Hid (decide (q % 2 = 1) = false) := decide_eq_false (by have := HQ.out; omega)
            have hm : D.tmod 2 = 0 := by rw [Int.tmod_eq_emod_of_nonneg hD0]; omega
            go_wp2_with fail
            go_meet
            exact ⟨false, rfl, HQ2.out.symm, rfl⟩
      case rest =>
        obtain ⟨od, rfl, hod, rfl⟩ := hcut
        rcases HC.out with ⟨rfl, rfl⟩ | ⟨rfl, hq, rfl⟩ | ⟨rfl, hq, rfl⟩ | ⟨rfl, rfl⟩
        · clear hod
          obtain ⟨x0, x1, x2⟩ := K.at2
          obtain ⟨⟨o0, o1, o2⟩, f0, f1⟩ := HO.out
          go_wp2_with fail
          refine bodyPost_ret (v := .agg #[.bool su, .slice ru lu cu]) (by simp [results, Tryd.results58, go_sem, o0, o1]) rfl ⟨_, rfl, HB.out.2.2.put HO.out.at, ?_⟩
          exact (K.1.setCell (by show _ ≤ w.heap.size + 1; omega) _).setCell (by show _ ≤ w.heap.size + 1; omega) _
        · rw [decide_eq_true hq] at hod
          subst hod
          clear hq
          obtain ⟨x0, x1, x2⟩ := K.at2
          obtain ⟨⟨o0, o1, o2⟩, f0, f1⟩ := HO.out
          go_wp2_with fail
          refine bodyPost_ret (v := .agg #[.bool su, .slice ru lu cu]) (by simp [results, Tryd.results58, go_sem, o0, o1]) rfl ⟨_, rfl, HB.out.2.2.put HO.out.at, ?_⟩
          exact (K.1.setCell (by show _ ≤ w.heap.size + 1; omega) _).setCell (by show _ ≤ w.heap.size + 1; omega) _
        · rw [decide_eq_false hq] at hod
          subst hod
          clear hq
          obtain ⟨x0, x1, x2⟩ := K.at0
          obtain ⟨⟨o0, o1, o2⟩, f0, f1⟩ := HO.out
          go_wp2_with fail
          refine bodyPost_ret (v := .agg #[.bool sq, .slice ra lq' ca]) (by simp [results, Tryd.results58, go_sem, o0, o1]) rfl ⟨_, rfl, HB.out.1.put HO.out.at, ?_⟩
          exact (K.1.setCell (by show _ ≤ w.heap.size + 1; omega) _).setCell (by show _ ≤ w.heap.size + 1; omega) _
        · clear hod
          obtain ⟨x0, x1, x2⟩ := K.at0
          obtain ⟨⟨o0, o1, o2⟩, f0, f1⟩ := HO.out
          go_wp2_with fail
          refine bodyPost_ret (v := .agg #[.bool sq, .slice ra lq' ca]) (by simp [results, Tryd.results58, go_sem, o0, o1]) rfl ⟨_, rfl, HB.out.1.put HO.out.at, ?_⟩
          exact (K.1.setCell (by show _ ≤ w.heap.size + 1; omega) _).setCell (by show _ ≤ w.heap.size + 1; omega) _
end Go.Proofs.YtnomeglccihplaaDoor
