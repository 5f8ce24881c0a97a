/-
  What the landed wrong of locks answers; the library's Grow of the nil slice and Concat of two rows of locks; the landed Add. The condition: at most 100000 locks.
-/
import Derived.Test.YtadbelkckeokjaaLkA
import Derived.Test.YtadbelkckeokjaaRowG
import Derived.Lib.AppendZeros
import Derived.Deep.QuietTactic
import Derived.BigQuiet
import Derived.WalkSmall
import Derived.Deep.DeepCutAuto
import Derived.Deep.RegionHeld3
namespace Go.Proofs.Ytadbelkckeokjaa
open Go.RowKit
set_option linter.unusedSimpArgs false
set_option linter.unusedVariables false

theorem OwnL.lower {w : World} {base base' : Nat} {v : Value} {L : List LkT} (h : OwnL w base v L) (hb : base' ≤ base) : OwnL w base' v L := by
  refine ⟨h.1, ?_⟩
  rcases h.2 with q | ⟨g, cap, cur, rfl, h2, h3⟩
  · exact Or.inl q
  · exact Or.inr ⟨g, cap, cur, rfl, Nat.le_trans hb h2, h3⟩
set_option maxHeartbeats 4000000 in
set_option maxRecDepth 100000 in
theorem wrong_l (a : Option Addr) (c : Nat) (L : List LkT) (x y n : Int) (w : World) (hL : RdL w a L) (hn : L.length ≤ 100000) (hx : InR x) :
    Calls Try.prog 11 #[.slice a L.length c, .agg #[.int .i64 x, .int .i64 y], .int .i64 n] w fun e w' => e = .returned (.int .i64 (wrL L (x, y) n)) ∧ Below w.heap.size w w' := by
  have HB := Lib.hid (below1 w (objK (x, y)))
  have HO := Lib.hid (Ow2.new w (.int .i64 x) (.int .i64 y) 24)
  have c0 := HO.out.1.1
  have c1 := HO.out.1.2.1
  have HL := Lib.hid hL
  clear hL
  by_cases q1 : x < 1
  · have d1 : decide (x < 1) = true := decide_eq_true q1
    rw [show wrL L (x, y) n = 20 from if_pos (Or.inl q1)]
    clear q1
    go_enter Try.func11, Try.ntmps11
    go_wp2_with fail
    go_ret
    exact ⟨rfl, HB.out⟩
  · have d1 : decide (x < 1) = false := decide_eq_false q1
    by_cases q2 : n < x
    · have d2 : decide (n < x) = true := decide_eq_true q2
      rw [show wrL L (x, y) n = 20 from if_pos (Or.inr q2)]
      clear q1 q2
      go_enter Try.func11, Try.ntmps11
      go_wp2_with fail
      go_ret
      exact ⟨rfl, HB.out⟩
    · have d2 : decide (n < x) = false := decide_eq_false q2
      have e1 : wrL L (x, y) n = if y < 0 ∨ 24 ≤ y then 22 else if y ≤ las L x then 35 else 0 := if_neg (fun h => h.elim q1 q2)
      rw [e1]
      clear q1 q2 e1
      by_cases q3 : y < 0
      · have d3 : decide (y < 0) = true := decide_eq_true q3
        rw [if_pos (Or.inl q3)]
        clear q3
        go_enter Try.func11, Try.ntmps11
        go_wp2_with fail
        go_ret
        exact ⟨rfl, HB.out⟩
      · have d3 : decide (y < 0) = false := decide_eq_false q3
        by_cases q4 : 24 ≤ y
        · have d4 : decide (24 ≤ y) = true := decide_eq_true q4
          rw [if_pos (Or.inr q4)]
          clear q3 q4
          go_enter Try.func11, Try.ntmps11
          go_wp2_with fail
          go_ret
          exact ⟨rfl, HB.out⟩
        · have d4 : decide (24 ≤ y) = false := decide_eq_false q4
          rw [if_neg (fun h => h.elim q3 q4)]
          clear q3 q4
          have HB2 := Lib.hid (HB.out.trans ((below1 (w.alloc (objK (x, y))) (.cells #[.int .i64 x] 3)).mono HB.out.size))
          have hE : Reads ((w.alloc (objK (x, y))).alloc (.cells #[.int .i64 x] 3)) (some ⟨w.heap.size + 1, 0, none⟩) [x] := by
            have e : (w.alloc (objK (x, y))).heap.size = w.heap.size + 1 := by simp
            rw [← e]; exact lit1 (w.alloc (objK (x, y))) x hx
          have hk := locked1_l a c L y (some ⟨w.heap.size + 1, 0, none⟩) 1 x (by omega) _ (HL.out.below HB2.out) hE
          clear hE
          generalize las L x = m at *
          by_cases q5 : y ≤ m
          · rw [decide_eq_true q5] at hk
            rw [if_pos q5]
            clear q5
            go_enter Try.func11, Try.ntmps11
            go_wp2_with fail
            refine hk.mono ?_; clear hk; rintro e w1 ⟨rfl, hb1⟩
            have HB3 := Lib.hid (HB2.out.trans (hb1.mono HB2.out.size))
            clear hb1 c0 c1
            go_wp2_with fail
            go_ret
            exact ⟨rfl, HB3.out⟩
          · rw [decide_eq_false q5] at hk
            rw [if_neg q5]
            clear q5
            go_enter Try.func11, Try.ntmps11
            go_wp2_with fail
            refine hk.mono ?_; clear hk; rintro e w1 ⟨rfl, hb1⟩
            have HB3 := Lib.hid (HB2.out.trans (hb1.mono HB2.out.size))
            clear hb1 c0 c1
            go_wp2_with fail
            go_ret
            exact ⟨rfl, HB3.out⟩
set_option maxHeartbeats 1000000 in
set_option maxRecDepth 100000 in
theorem growL (n : Nat) (h0 : 0 < n) (hn : n ≤ 1000000) (w : World) :
    Calls Try.prog 15 #[.slice none 0 0, .int .i64 (n : Int)] w fun e w' => ∃ v, e = .returned v ∧ OwnL w' w.heap.size v [] ∧ Below w.heap.size w w' := by
  obtain ⟨i0, hi, hz0, hz1, hz2⟩ := info_parts lock_info
  have hr : ∀ ty, (Builtin.append_ #[22, 3] ty #[.slice none 0 0, .int .i64 (n : Int)]).run Try.prog w = .ok (.slice (some ⟨w.heap.size, 0, none⟩) n (grownCap w n 0 24)) (w.drew.alloc (.cells (Builtin.zeroCells #[.int .i64 0, .int .i64 0] n ++ Builtin.zeroCells #[.int .i64 0, .int .i64 0] (grownCap w n 0 24 - n)) 24)) := fun ty => by
    have := Lib.run_append_nil_zeros w 22 3 ty 24 i0 (.agg #[.int .i64 0, .int .i64 0]) .i64 .i64 Try.underlying22 Try.underlying3 hi hz0 n h0 (by rw [hz1]; omega) (by omega) (by rw [hz2]; omega)
    simpa [Value.cells] using this
  have hge := grownCap_ge w n 0 24
  have hle := grownCap_le_maxLen w n 0 24 (by unfold maxLen; omega)
  obtain ⟨cur, hcur⟩ : ∃ cur, Builtin.zeroCells #[Value.int .i64 0, .int .i64 0] n ++ Builtin.zeroCells #[Value.int .i64 0, .int .i64 0] (grownCap w n 0 24 - n) = cur := ⟨_, rfl⟩
  have hsz : cur.size = grownCap w n 0 24 * 2 := by rw [← hcur]; simp [Builtin.zeroCells]; omega
  rw [hcur] at hr
  generalize grownCap w n 0 24 = cap at *
  clear hcur hi hz0 hz1 hz2 i0
  have d1 : decide ((n : Int) < 0) = false := decide_eq_false (by omega)
  have d2 : decide ((0 : Int) < (n : Int)) = true := decide_eq_true (by omega)
  have d3 : decide (0 < n) = true := decide_eq_true h0
  have HS := Lib.hid (And.intro hsz hle)
  clear hsz hle
  go_enter Try.func15, Try.ntmps15
  go_wp2_with (at_builtin; refine Lib.wpList_append_run _ rfl (.tmp 20) (.tmp 21) 22 3 rfl _ _ rfl rfl _ _ (hr _) ?_)
  go_ret
  exact ⟨_, rfl, ⟨rfl, Or.inr ⟨w.heap.size, cap, cur, rfl, Nat.le_refl _, heap_alloc_new w _, Nat.zero_le _, HS.out.2, by rw [HS.out.1], rfl⟩⟩, (((Below.refl _ w).drew).alloc (by simp [go_sem]) _)⟩
def catL (L : List LkT) (s : LkT) : Nat → List LkT
  | 0 => []
  | 1 => L
  | _ => L ++ [s]
/-- append of a row of locks that lies somewhere to one that the call owns. -/
theorem wp_catL {ops : Array Oper} {rest : List Oper} {o : Oper} {a : Act} {Q : Exit → Act → World → Prop} (w : World) (hgd : o.guard = none) (s x : Operand)
    (ho : o.op = .call { callee := .builtin .append, args := #[s, x], argTypes := #[22, 22] })
    (base : Nat) (v : Value) (L M : List LkT) (A : Option Addr) (c : Nat) (hs : a.eval s = v) (hown : OwnL w base v L) (hx : a.eval x = .slice A M.length c) (hr : SlC w (.slice A M.length c) 2 M.length (rowL M))
    (hlen : L.length + M.length ≤ 1000000000) (hbase : base ≤ w.heap.size)
    (h : ∀ v' w', OwnL w' base v' (L ++ M) → Below base w w' → wpList Try.prog ops Q rest (a.put o.dst v') w') :
    wpList Try.prog ops Q (o :: rest) a w := by
  refine wpList_app hgd s x 22 ho base 24 2 16 (.agg #[.int .i64 0, .int .i64 0]) Try.underlying22 lock_info rfl (by decide) v L.length (rowL L) hs hown _ M.length (rowL M) hx hr (rowL_one M) hlen (by decide) hbase ?_
  intro v' w' h1 h2 _
  refine h v' w' ?_ h2
  show World.ownsRow _ _ _ _ _ _ _
  rw [List.length_append, show rowL (L ++ M) = rowL L ++ rowL M by simp [rowL]]
  exact h1
set_option maxHeartbeats 4000000 in
set_option maxRecDepth 100000 in
theorem concatL (pb qb : Nat) (a : Option Addr) (c : Nat) (L : List LkT) (s : LkT) (hn : L.length ≤ 100000) (w : World) (hL : RdL w a L) (hc : L.length ≤ c) (ca : a = none → c = 0) (hz : okL s)
    (hp0 : w.cell? ⟨pb, 0, none⟩ = some (.slice a L.length c)) (hp1 : w.cell? ⟨pb, 1, none⟩ = some (.slice (some ⟨qb, 0, none⟩) 1 1)) (hq : SlC w (.slice (some ⟨qb, 0, none⟩) 1 1) 2 1 (cellsL s)) :
    Calls Try.prog 12 #[.slice (some ⟨pb, 0, none⟩) 2 2] w fun e w' => ∃ v, e = .returned v ∧ OwnL w' w.heap.size v (L ++ [s]) ∧ Below w.heap.size w w' := by
  obtain ⟨w0, hw0⟩ : ∃ w0, w0 = w := ⟨_, rfl⟩
  suffices h : Calls Try.prog 12 #[.slice (some ⟨pb, 0, none⟩) 2 2] w fun e w' => ∃ v, e = .returned v ∧ OwnL w' w0.heap.size v (L ++ [s]) ∧ Below w0.heap.size w0 w' by rw [hw0] at h; exact h
  have hg := growL (L.length + 1) (by omega) (by omega) w
  have hg : Calls Try.prog 15 #[.slice none 0 0, .int .i64 ((L.length : Int) + 1)] w fun e w' => ∃ v, e = .returned v ∧ OwnL w' w0.heap.size v [] ∧ Below w0.heap.size w0 w' := by rw [hw0]; exact hg
  have HL : Hid (SlC w0 (.slice a L.length c) 2 L.length (rowL L)) := by rw [hw0]; exact hL.slc hc ca
  have HQ : Hid (SlC w0 (.slice (some ⟨qb, 0, none⟩) [s].length 1) 2 [s].length (rowL [s])) := by
    show SlC _ _ _ _ _
    rw [hw0]; simpa [rowL] using hq
  have HP : Hid (w0.cell? ⟨pb, 0, none⟩ = some (.slice a L.length c) ∧ w0.cell? ⟨pb, 1, none⟩ = some (.slice (some ⟨qb, 0, none⟩) 1 1)) := by rw [hw0]; exact ⟨hp0, hp1⟩
  clear hL hq hc ca hz hw0
  have e1 : wrap64 (0 + (L.length : Int)) = (L.length : Int) := by unfold wrap64; omega
  have e2 : wrap64 ((L.length : Int) + 1) = (L.length : Int) + 1 := by unfold wrap64; omega
  have e3 : wrap64 ((L.length : Int)) = (L.length : Int) := by unfold wrap64; omega
  have d1 : decide ((L.length : Int) < 0) = false := decide_eq_false (by omega)
  have d2 : decide ((L.length : Int) + 1 < 0) = false := decide_eq_false (by omega)
  go_enter Try.func12, Try.ntmps12
  go_wp2_with fail
  go_loopw [3, 11] (fun s i wr => wr = w ∧ ((i = .int .i64 0 ∧ s = .int .i64 0) ∨ (i = .int .i64 1 ∧ s = .int .i64 (L.length : Int)) ∨ (i = .int .i64 2 ∧ s = .int .i64 ((L.length : Int) + 1)))) (fun _ i _ => 2 - (RowKit.intOf i).toNat)
  case atStart => exact ⟨rfl, Or.inl ⟨rfl, rfl⟩⟩
  case round =>
    obtain ⟨rfl, ⟨rfl, rfl⟩ | ⟨rfl, rfl⟩ | ⟨rfl, rfl⟩⟩ := hrel
    · go_wp2_with fail
      go_roundw
      · exact ⟨by first | rfl | trivial, Or.inr (Or.inl ⟨rfl, by go_num⟩)⟩
      · simp [RowKit.intOf]
    · go_wp2_with fail
      go_roundw
      · exact ⟨by first | rfl | trivial, Or.inr (Or.inr ⟨rfl, by go_num⟩)⟩
      · simp [RowKit.intOf]
    · go_wp2_with fail
      refine hg.mono ?_; rintro e w1 ⟨v, rfl, ho, hb⟩
      clear hp0 hp1 hg e1 e2 e3 d1 d2
      go_wp2_with fail
      go_loopw [6, 27] (fun u i wr => ∃ k : Nat, k ≤ 2 ∧ i = .int .i64 (k : Int) ∧ OwnL wr w0.heap.size u (catL L s k) ∧ Below w0.heap.size w0 wr) (fun _ i _ => 2 - (RowKit.intOf i).toNat)
      case atStart => exact ⟨0, by omega, rfl, ho, hb⟩
      case round =>
        clear ho hb
        obtain ⟨k, hk, rfl, ho, hb⟩ := hrel
        have hb0 := hb.size
        have HB := Lib.hid hb; clear hb
        obtain ⟨p0, p1⟩ := HP.out
        have lp : pb < w0.heap.size := World.block_lt_of_cell? w0 _ p0
        have p0 := (HB.out.cell (p := ⟨pb, 0, none⟩) lp).trans p0
        have p1 := (HB.out.cell (p := ⟨pb, 1, none⟩) lp).trans p1
        have HZ2 := Lib.hid (HQ.out.below HB.out); have HL2 := Lib.hid (HL.out.below HB.out)
        clear lp
        rcases (by omega : k = 0 ∨ k = 1 ∨ k = 2) with rfl | rfl | rfl
        · obtain ⟨a1, cap1, rfl⟩ := (ownsRow_slc ho).form
          go_wp2_with (at_builtin; refine wp_catL wr rfl (.tmp 31) (.tmp 32) rfl w0.heap.size _ [] L a c rfl ho rfl HL2.out (by simp; omega) hb0 ?_; intro v3 w3 ho3 hb3)
          go_roundw
          · exact ⟨1, by omega, by go_num, by simpa [catL] using ho3, HB.out.trans hb3⟩
          · simp [RowKit.intOf]
        · go_wp2_with (at_builtin; refine wp_catL wr rfl (.tmp 31) (.tmp 32) rfl w0.heap.size _ L [s] (some ⟨qb, 0, none⟩) 1 rfl ho rfl HZ2.out (by simp; omega) hb0 ?_; intro v3 w3 ho3 hb3)
          go_roundw
          · exact ⟨2, by omega, by go_num, ho3, HB.out.trans hb3⟩
          · simp [RowKit.intOf]
        · go_wp2_with fail
          go_ret
          exact ⟨_, rfl, ho, HB.out⟩
set_option maxHeartbeats 4000000 in
set_option maxRecDepth 100000 in
theorem add_l (a : Option Addr) (c : Nat) (L : List LkT) (x y n : Int) (w : World) (hL : RdL w a L) (hn : L.length ≤ 100000) (hc : L.length ≤ c) (ca : a = none → c = 0) (hs : okL (x, y)) :
    Calls Try.prog 5 #[.slice a L.length c, .agg #[.int .i64 x, .int .i64 y], .int .i64 n] w fun e w' => ∃ v, e = .returned (.tuple #[v, .int .i64 (adE L (x, y) n)]) ∧ OwnL w' w.heap.size v (adL L (x, y) n) ∧ Below w.heap.size w w' := by
  have HBX := Lib.hid (below1 w (objK (x, y)))
  by_cases h4 : 400 ≤ L.length
  · have d1 : decide (400 ≤ L.length) = true := decide_eq_true h4
    have d2 : decide ((400 : Int) ≤ (L.length : Int)) = true := decide_eq_true (by omega)
    have e1 : adE L (x, y) n = 3 := if_pos h4
    rw [show adL L (x, y) n = [] from if_neg (by rw [e1]; omega), e1]
    clear hL e1
    go_enter Try.func5, Try.ntmps5
    go_wp2_with fail
    go_ret2
    exact ⟨_, rfl, OwnL.nil _ _, HBX.out⟩
  · have d1 : decide (400 ≤ L.length) = false := decide_eq_false h4
    have d2 : decide ((400 : Int) ≤ (L.length : Int)) = false := decide_eq_false (by omega)
    have HO := Lib.hid (Ow2.new w (.int .i64 x) (.int .i64 y) 24)
    have HL := Lib.hid hL
    have hw := wrong_l a c L x y n (w.alloc (objK (x, y))) (hL.below HBX.out) hn hs.1
    have HC := Lib.hid (And.intro hc (And.intro ca (And.intro hs hn)))
    obtain ⟨r, hr⟩ : ∃ r, wrL L (x, y) n = r := ⟨_, rfl⟩
    have e1 : adE L (x, y) n = r := (if_neg h4).trans hr
    have HV : Hid (adL L (x, y) n = if r = 0 then L ++ [(x, y)] else []) := by show _ = _; rw [← e1]; rfl
    rw [hr] at hw
    rw [e1]
    clear hL hc ca hs hr e1
    have g0 := HO.out.1.1
    have g1 := HO.out.1.2.1
    generalize adL L (x, y) n = M at *
    go_enter Try.func5, Try.ntmps5
    go_wp2_with fail
    refine hw.mono ?_; clear hw; rintro e w5 ⟨rfl, hb5⟩
    have HB5 : Hid (Below w.heap.size w w5) := HBX.out.trans (hb5.mono HBX.out.size)
    have HO5 := Lib.hid (HO.out.below hb5)
    clear hb5 g0 g1
    by_cases h0 : r = 0
    · subst h0
      have HAV : Hid (M = L ++ [(x, y)]) := HV.out.trans (if_pos rfl)
      have g0 := HO5.out.1.1
      have g1 := HO5.out.1.2.1
      obtain ⟨X, hX⟩ : ∃ X, X = (w5.alloc (objK (x, y))).alloc (.cells #[.slice a L.length c, .slice (some ⟨w5.heap.size, 0, none⟩) 1 1] 22) := ⟨_, rfl⟩
      have hbX : Below w5.heap.size w5 X := by rw [hX]; exact below2 _ _ _
      have hcc := concatL (w5.heap.size + 1) w5.heap.size a c L (x, y) hn X ((HL.out.below HB5.out).below hbX) HC.out.1 HC.out.2.1 HC.out.2.2.1 (by rw [hX]; simp [go_sem]) (by rw [hX]; simp [go_sem]) (by rw [hX]; exact (oneL w5 (x, y)).below (below1 _ _))
      rw [hX] at hcc
      have HXE := Lib.hid hX
      have HBX5 : Hid (Below w.heap.size w X) := HB5.out.trans (hbX.mono HB5.out.size)
      clear hX hbX
      go_wp2_with fail
      refine hcc.mono ?_; clear hcc; rintro e w6 ⟨v6, rfl, ho6, hb6⟩
      rw [← HXE.out] at ho6 hb6
      have HO6 := Lib.hid (And.intro ho6 hb6)
      obtain ⟨a6, c6, rfl⟩ := (ownsRow_slc ho6).form
      clear ho6 hb6 g0 g1
      go_wp2_with fail
      go_ret2
      rw [HAV.out]
      exact ⟨_, rfl, by simpa using HO6.out.1.lower HBX5.out.size, HBX5.out.trans (HO6.out.2.mono HBX5.out.size)⟩
    · have HAV : Hid (M = []) := HV.out.trans (if_neg h0)
      have e0 : (r != 0) = true := by simpa using h0
      clear h0
      go_wp2_with fail
      go_ret2
      rw [HAV.out]
      exact ⟨_, rfl, OwnL.nil _ _, HB5.out⟩
end Go.Proofs.Ytadbelkckeokjaa
