/-
  The library's Grow of the nil slice, Concat of two rows and Clone over accounts; the landed Add and Move. The condition: at most 1000 accounts.
-/
import Derived.Test.YteendpdidkekkaaAccF
import Derived.Lib.AppendZeros
import Derived.Deep.QuietTactic
import Derived.BigQuiet
import Derived.WalkSmall
import Derived.Deep.DeepCutAuto
import Derived.Deep.RegionHeld3
namespace Go.Proofs.Yteendpdidkekkaa
open Go.RowKit
set_option linter.unusedSimpArgs false
set_option linter.unusedVariables false

set_option maxHeartbeats 1000000 in
set_option maxRecDepth 100000 in
theorem growA (n : Nat) (h0 : 0 < n) (hn : n ≤ 1000000) (w : World) :
    Calls Try.prog 61 #[.slice none 0 0, .int .i64 (n : Int)] w fun e w' => ∃ v, e = .returned v ∧ OwnA w' w.heap.size v [] ∧ Below w.heap.size w w' := by
  obtain ⟨i0, hi, hz0, hz1, hz2⟩ := info_parts acc_info
  have hr : ∀ ty, (Builtin.append_ #[22, 3] ty #[.slice none 0 0, .int .i64 (n : Int)]).run Try.prog w = .ok (.slice (some ⟨w.heap.size, 0, none⟩) n (grownCap w n 0 35)) (w.drew.alloc (.cells (Builtin.zeroCells #[.int .i64 0, .int .i64 0, .bool false, .bool false] n ++ Builtin.zeroCells #[.int .i64 0, .int .i64 0, .bool false, .bool false] (grownCap w n 0 35 - n)) 35)) := fun ty => by
    have := Lib.run_append_nil_zeros w 22 3 ty 35 i0 (.agg #[.int .i64 0, .int .i64 0, .bool false, .bool false]) .i64 .i64 Try.underlying22 Try.underlying3 hi hz0 n h0 (by rw [hz1]; omega) (by omega) (by rw [hz2]; omega)
    simpa [Value.cells] using this
  have hge := grownCap_ge w n 0 35
  have hle := grownCap_le_maxLen w n 0 35 (by unfold maxLen; omega)
  obtain ⟨cur, hcur⟩ : ∃ cur, Builtin.zeroCells #[Value.int .i64 0, .int .i64 0, .bool false, .bool false] n ++ Builtin.zeroCells #[Value.int .i64 0, .int .i64 0, .bool false, .bool false] (grownCap w n 0 35 - n) = cur := ⟨_, rfl⟩
  have hsz : cur.size = grownCap w n 0 35 * 4 := by rw [← hcur]; simp [Builtin.zeroCells]; omega
  rw [hcur] at hr
  generalize grownCap w n 0 35 = cap at *
  clear hcur hi hz0 hz1 hz2 i0
  have d1 : decide ((n : Int) < 0) = false := decide_eq_false (by omega)
  have d2 : decide ((0 : Int) < (n : Int)) = true := decide_eq_true (by omega)
  have d3 : decide (0 < n) = true := decide_eq_true h0
  have HS := Lib.hid (And.intro hsz hle)
  clear hsz hle
  go_enter Try.func61, Try.ntmps61
  go_wp2_with (at_builtin; refine Lib.wpList_append_run _ rfl (.tmp 20) (.tmp 21) 22 3 rfl _ _ rfl rfl _ _ (hr _) ?_)
  go_ret
  exact ⟨_, rfl, ⟨rfl, Or.inr ⟨w.heap.size, cap, cur, rfl, Nat.le_refl _, heap_alloc_new w _, Nat.zero_le _, HS.out.2, by rw [HS.out.1], rfl⟩⟩, (((Below.refl _ w).drew).alloc (by simp [go_sem]) _)⟩
def catA (L : List AcT) (s : AcT) : Nat → List AcT
  | 0 => []
  | 1 => L
  | _ => L ++ [s]
/-- append of a row of stakes that lies somewhere to one that the call owns. -/
theorem wp_catA {ops : Array Oper} {rest : List Oper} {o : Oper} {a : Act} {Q : Exit → Act → World → Prop} (w : World) (hgd : o.guard = none) (s x : Operand)
    (ho : o.op = .call { callee := .builtin .append, args := #[s, x], argTypes := #[22, 22] })
    (base : Nat) (v : Value) (L M : List AcT) (A : Option Addr) (c : Nat) (hs : a.eval s = v) (hown : OwnA w base v L) (hx : a.eval x = .slice A M.length c) (hr : SlC w (.slice A M.length c) 4 M.length (rowA M))
    (hlen : L.length + M.length ≤ 1000000000) (hbase : base ≤ w.heap.size)
    (h : ∀ v' w', OwnA w' base v' (L ++ M) → Below base w w' → wpList Try.prog ops Q rest (a.put o.dst v') w') :
    wpList Try.prog ops Q (o :: rest) a w := by
  refine wpList_app hgd s x 22 ho base 35 4 24 (.agg #[.int .i64 0, .int .i64 0, .bool false, .bool false]) Try.underlying22 acc_info rfl (by decide) v L.length (rowA L) hs hown _ M.length (rowA M) hx hr (rowA_one M) hlen (by decide) hbase ?_
  intro v' w' h1 h2 _
  refine h v' w' ?_ h2
  show World.ownsRow _ _ _ _ _ _ _
  rw [List.length_append, show rowA (L ++ M) = rowA L ++ rowA M by simp [rowA]]
  exact h1
set_option maxHeartbeats 4000000 in
set_option maxRecDepth 100000 in
theorem concatA (pb qb : Nat) (a : Option Addr) (c : Nat) (L : List AcT) (s : AcT) (hn : L.length ≤ 1000) (w : World) (hL : RdA w a L) (hc : L.length ≤ c) (ca : a = none → c = 0) (hz : okA s)
    (hp0 : w.cell? ⟨pb, 0, none⟩ = some (.slice a L.length c)) (hp1 : w.cell? ⟨pb, 1, none⟩ = some (.slice (some ⟨qb, 0, none⟩) 1 1)) (hq : SlC w (.slice (some ⟨qb, 0, none⟩) 1 1) 4 1 (cellsA s)) :
    Calls Try.prog 49 #[.slice (some ⟨pb, 0, none⟩) 2 2] w fun e w' => ∃ v, e = .returned v ∧ OwnA w' w.heap.size v (L ++ [s]) ∧ Below w.heap.size w w' := by
  obtain ⟨w0, hw0⟩ : ∃ w0, w0 = w := ⟨_, rfl⟩
  suffices h : Calls Try.prog 49 #[.slice (some ⟨pb, 0, none⟩) 2 2] w fun e w' => ∃ v, e = .returned v ∧ OwnA w' w0.heap.size v (L ++ [s]) ∧ Below w0.heap.size w0 w' by rw [hw0] at h; exact h
  have hg := growA (L.length + 1) (by omega) (by omega) w
  have hg : Calls Try.prog 61 #[.slice none 0 0, .int .i64 ((L.length : Int) + 1)] w fun e w' => ∃ v, e = .returned v ∧ OwnA w' w0.heap.size v [] ∧ Below w0.heap.size w0 w' := by rw [hw0]; exact hg
  have HL : Hid (SlC w0 (.slice a L.length c) 4 L.length (rowA L)) := by rw [hw0]; exact hL.slc hc ca
  have HQ : Hid (SlC w0 (.slice (some ⟨qb, 0, none⟩) [s].length 1) 4 [s].length (rowA [s])) := by
    show SlC _ _ _ _ _
    rw [hw0]; simpa [rowA] using hq
  have HP : Hid (w0.cell? ⟨pb, 0, none⟩ = some (.slice a L.length c) ∧ w0.cell? ⟨pb, 1, none⟩ = some (.slice (some ⟨qb, 0, none⟩) 1 1)) := by rw [hw0]; exact ⟨hp0, hp1⟩
  clear hL hq hc ca hz hw0
  have e1 : wrap64 (0 + (L.length : Int)) = (L.length : Int) := by unfold wrap64; omega
  have e2 : wrap64 ((L.length : Int) + 1) = (L.length : Int) + 1 := by unfold wrap64; omega
  have e3 : wrap64 ((L.length : Int)) = (L.length : Int) := by unfold wrap64; omega
  have d1 : decide ((L.length : Int) < 0) = false := decide_eq_false (by omega)
  have d2 : decide ((L.length : Int) + 1 < 0) = false := decide_eq_false (by omega)
  go_enter Try.func49, Try.ntmps49
  go_wp2_with fail
  go_loopw [3, 11] (fun s i wr => wr = w ∧ ((i = .int .i64 0 ∧ s = .int .i64 0) ∨ (i = .int .i64 1 ∧ s = .int .i64 (L.length : Int)) ∨ (i = .int .i64 2 ∧ s = .int .i64 ((L.length : Int) + 1)))) (fun _ i _ => 2 - (RowKit.intOf i).toNat)
  case atStart => exact ⟨rfl, Or.inl ⟨rfl, rfl⟩⟩
  case round =>
    obtain ⟨rfl, ⟨rfl, rfl⟩ | ⟨rfl, rfl⟩ | ⟨rfl, rfl⟩⟩ := hrel
    · go_wp2_with fail
      go_roundw
      · exact ⟨by first | rfl | trivial, Or.inr (Or.inl ⟨rfl, by go_num⟩)⟩
      · simp [RowKit.intOf]
    · go_wp2_with fail
      go_roundw
      · exact ⟨by first | rfl | trivial, Or.inr (Or.inr ⟨rfl, by go_num⟩)⟩
      · simp [RowKit.intOf]
    · go_wp2_with fail
      refine hg.mono ?_; rintro e w1 ⟨v, rfl, ho, hb⟩
      clear hp0 hp1 hg e1 e2 e3 d1 d2
      go_wp2_with fail
      go_loopw [6, 27] (fun u i wr => ∃ k : Nat, k ≤ 2 ∧ i = .int .i64 (k : Int) ∧ OwnA wr w0.heap.size u (catA L s k) ∧ Below w0.heap.size w0 wr) (fun _ i _ => 2 - (RowKit.intOf i).toNat)
      case atStart => exact ⟨0, by omega, rfl, ho, hb⟩
      case round =>
        clear ho hb
        obtain ⟨k, hk, rfl, ho, hb⟩ := hrel
        have hb0 := hb.size
        have HB := Lib.hid hb; clear hb
        obtain ⟨p0, p1⟩ := HP.out
        have lp : pb < w0.heap.size := World.block_lt_of_cell? w0 _ p0
        have p0 := (HB.out.cell (p := ⟨pb, 0, none⟩) lp).trans p0
        have p1 := (HB.out.cell (p := ⟨pb, 1, none⟩) lp).trans p1
        have HZ2 := Lib.hid (HQ.out.below HB.out); have HL2 := Lib.hid (HL.out.below HB.out)
        clear lp
        rcases (by omega : k = 0 ∨ k = 1 ∨ k = 2) with rfl | rfl | rfl
        · obtain ⟨a1, cap1, rfl⟩ := (ownsRow_slc ho).form
          go_wp2_with (at_builtin; refine wp_catA wr rfl (.tmp 31) (.tmp 32) rfl w0.heap.size _ [] L a c rfl ho rfl HL2.out (by simp; omega) hb0 ?_; intro v3 w3 ho3 hb3)
          go_roundw
          · exact ⟨1, by omega, by go_num, by simpa [catA] using ho3, HB.out.trans hb3⟩
          · simp [RowKit.intOf]
        · go_wp2_with (at_builtin; refine wp_catA wr rfl (.tmp 31) (.tmp 32) rfl w0.heap.size _ L [s] (some ⟨qb, 0, none⟩) 1 rfl ho rfl HZ2.out (by simp; omega) hb0 ?_; intro v3 w3 ho3 hb3)
          go_roundw
          · exact ⟨2, by omega, by go_num, ho3, HB.out.trans hb3⟩
          · simp [RowKit.intOf]
        · go_wp2_with fail
          go_ret
          exact ⟨_, rfl, ho, HB.out⟩

theorem in_accs (d : Nat) (a : Option Addr) (n c : Nat) (w : World) : (Op.equalIn (d + 1) 22 (.slice a n c) (.slice none 0 0)).run Try.prog w = .ok (a.isNone) w := by
  cases a <;> simp [Op.equalIn, run_underlying Try.underlying22]
theorem eql_accs (a : Option Addr) (n c : Nat) (w : World) : (binOp .eql 22 (.slice a n c) (.slice none 0 0)).run Try.prog w = .ok (.bool a.isNone) w := by
  simp only [binOp]
  simp [Op.equal, Op.maxDepth, in_accs 9999 a n c]
set_option maxHeartbeats 1000000 in
set_option maxRecDepth 100000 in
theorem cloneA (ad : Addr) (c : Nat) (L : List AcT) (w : World) (hL : RdA w (some ad) L) (hc : L.length ≤ c) (hn : L.length ≤ 1000) :
    Calls Try.prog 52 #[.slice (some ad) L.length c] w fun e w' => ∃ v, e = .returned v ∧ OwnA w' w.heap.size v L ∧ Below w.heap.size w w' := by
  have HS := Lib.hid (hL.slc hc (fun q => by cases q))
  have hO : OwnA (w.alloc (.cells #[] 35)) w.heap.size (.slice (some ⟨w.heap.size, 0, none⟩) 0 0) [] := World.ownsRow_lit (base := w.heap.size) (e := 35) (size := 4) w #[] 0 (Nat.le_refl _) (by unfold maxLen; omega) rfl
  have HO := Lib.hid hO
  have he := eql_accs
  clear hL hO
  go_enter Try.func52, Try.ntmps52
  go_wp2_with
    (at_builtin
     refine wp_catA _ rfl (.tmp 5) (.tmp 6) rfl w.heap.size _ [] L (some ad) c rfl HO.out rfl (HS.out.below (below1 _ _)) (by simp; omega) (by simp) ?_
     intro v1 w1 o1 b1)
  go_ret
  exact ⟨_, rfl, by simpa using o1, (below1 w _).trans (b1.mono (Nat.le_refl _))⟩
theorem rowA_set : ∀ (L : List AcT) (k : Nat) (p : Int), k < L.length → (rowA L).set (k * 4) (.int .i64 p) = rowA (setP L k p)
  | [], k, p, h => by cases h
  | x :: L, 0, p, _ => by
    unfold setP
    simp [rowA, cellsA]
  | x :: L, k + 1, p, h => by
    have ih := rowA_set L k p (by simpa using h)
    have e : setP (x :: L) (k + 1) p = x :: setP L k p := by unfold setP; simp
    rw [e, show (k + 1) * 4 = k * 4 + 1 + 1 + 1 + 1 by omega]
    show cellsA x ++ (rowA L).set (k * 4) (.int .i64 p) = cellsA x ++ rowA (setP L k p)
    rw [ih]
theorem OwnA.put {w : World} {base g c : Nat} {L : List AcT} {k : Nat} (h : OwnA w base (.slice (some ⟨g, 0, none⟩) L.length c) L) (hk : k < L.length) (p : Int) : OwnA (w.setCell ⟨g, k * 4, none⟩ (.int .i64 p)) base (.slice (some ⟨g, 0, none⟩) L.length c) (setP L k p) := by
  have := (World.ownsRow.stored h (k * 4) (.int .i64 p)).1
  rw [rowA_set L k p hk] at this
  show World.ownsRow _ _ _ _ _ _ _
  rw [setP_len]; exact this
theorem OwnA.cell {w : World} {base g c : Nat} {L : List AcT} {k : Nat} (h : OwnA w base (.slice (some ⟨g, 0, none⟩) L.length c) L) (hk : k < L.length) : w.cell? ⟨g, k * 4, none⟩ = some (.int .i64 (L.getD k zA).1) ∧ w.frozen? ⟨g, k * 4, none⟩ = false := by
  refine ⟨?_, World.ownsRow.frozenAt h _⟩
  rw [World.ownsRow.cellAt h (k * 4) (by omega)]
  have := rowA_at L k 0 hk (by omega)
  rw [Nat.add_zero] at this
  rw [this]; rfl
set_option maxHeartbeats 4000000 in
set_option maxRecDepth 100000 in
theorem add_a (a : Option Addr) (c : Nat) (L : List AcT) (s : AcT) (w : World) (hL : RdA w a L) (hn : L.length ≤ 1000) (hc : L.length ≤ c) (ca : a = none → c = 0) (hs : okA s) :
    Calls Try.prog 22 #[.slice a L.length c, .agg #[.int .i64 s.1, .int .i64 s.2.1, .bool s.2.2.1, .bool s.2.2.2]] w fun e w' => ∃ v, e = .returned (.tuple #[v, .int .i64 (adE L s)]) ∧ OwnA w' w.heap.size v (adL L s) ∧ Below w.heap.size w w' := by
  have hbx := below1 w (.cells #[.int .i64 s.1, .int .i64 s.2.1, .bool s.2.2.1, .bool s.2.2.2] 35)
  by_cases h60 : 60 ≤ L.length
  · have d1 : decide (60 ≤ L.length) = true := decide_eq_true h60
    have d2 : decide ((60 : Int) ≤ (L.length : Int)) = true := decide_eq_true (by omega)
    have e1 : adE L s = 3 := if_pos h60
    rw [show adL L s = [] from if_neg (by rw [e1]; omega), e1]
    have HB := Lib.hid hbx
    clear hL hbx e1
    go_enter Try.func22, Try.ntmps22
    go_wp2_with fail
    go_ret2
    exact ⟨_, rfl, OwnA.nil _ _, HB.out⟩
  · have d1 : decide (60 ≤ L.length) = false := decide_eq_false h60
    have d2 : decide ((60 : Int) ≤ (L.length : Int)) = false := decide_eq_false (by omega)
    have HO := Lib.hid (Ow4.new w (.int .i64 s.1) (.int .i64 s.2.1) (.bool s.2.2.1) (.bool s.2.2.2) 35)
    have hw := wrong_c s (L.length : Int) (w.alloc (.cells #[.int .i64 s.1, .int .i64 s.2.1, .bool s.2.2.1, .bool s.2.2.2] 35))
    have HL := Lib.hid hL
    have HBX := Lib.hid hbx
    have HC := Lib.hid (And.intro hc (And.intro ca (And.intro hs hn)))
    obtain ⟨r, hr⟩ : ∃ r, wrA s (L.length : Int) = r := ⟨_, rfl⟩
    have e1 : adE L s = r := (if_neg h60).trans hr
    have HV : Hid (adL L s = if r = 0 then L ++ [s] else []) := by show _ = _; rw [← e1]; rfl
    rw [hr] at hw
    rw [e1]
    clear hL hbx hc ca hs hr e1
    obtain ⟨g0, g1, g2, g3, -⟩ := HO.out
    go_enter Try.func22, Try.ntmps22
    go_wp2_with fail
    refine hw.mono ?_; clear hw; rintro e w5 ⟨rfl, hb5⟩
    have HB5 : Hid (Below w.heap.size w w5) := HBX.out.trans (hb5.mono HBX.out.size)
    have HO5 := Lib.hid (HO.out.below hb5)
    clear hb5 g0 g1 g2 g3
    by_cases h0 : r = 0
    · subst h0
      have HAV : Hid (adL L s = L ++ [s]) := HV.out.trans (if_pos rfl)
      obtain ⟨g0, g1, g2, g3, -⟩ := HO5.out
      obtain ⟨X, hX⟩ : ∃ X, X = (w5.alloc (.cells #[.int .i64 s.1, .int .i64 s.2.1, .bool s.2.2.1, .bool s.2.2.2] 35)).alloc (.cells #[.slice a L.length c, .slice (some ⟨w5.heap.size, 0, none⟩) 1 1] 22) := ⟨_, rfl⟩
      have hbX : Below w5.heap.size w5 X := by rw [hX]; exact below2 _ _ _
      have hcc := concatA (w5.heap.size + 1) w5.heap.size a c L s (by omega) X ((HL.out.below HB5.out).below hbX) HC.out.1 HC.out.2.1 HC.out.2.2.1 (by rw [hX]; simp [go_sem]) (by rw [hX]; simp [go_sem]) (by rw [hX]; exact (oneA w5 s).below (below1 _ _))
      rw [hX] at hcc
      have HXE := Lib.hid hX
      have HBX5 : Hid (Below w.heap.size w X) := HB5.out.trans (hbX.mono HB5.out.size)
      clear hX hbX
      go_wp2_with fail
      refine hcc.mono ?_; clear hcc; rintro e w6 ⟨v6, rfl, ho6, hb6⟩
      rw [← HXE.out] at ho6 hb6
      have HO6 := Lib.hid (And.intro ho6 hb6)
      obtain ⟨a6, c6, rfl⟩ := (ownsRow_slc ho6).form
      clear ho6 hb6 g0 g1 g2 g3
      go_wp2_with fail
      go_ret2
      rw [HAV.out]
      exact ⟨_, rfl, by simpa using HO6.out.1.lower HBX5.out.size, HBX5.out.trans (HO6.out.2.mono HBX5.out.size)⟩
    · have HAV : Hid (adL L s = []) := HV.out.trans (if_neg h0)
      have e0 : (r != 0) = true := by simpa using h0
      clear h0
      go_wp2_with fail
      go_ret2
      rw [HAV.out]
      exact ⟨_, rfl, OwnA.nil _ _, HB5.out⟩
set_option maxHeartbeats 8000000 in
set_option maxRecDepth 100000 in
theorem move_a (a : Option Addr) (c : Nat) (L : List AcT) (y p : Int) (w : World) (hL : RdA w a L) (hn : L.length ≤ 1000) (hc : L.length ≤ c) :
    Calls Try.prog 24 #[.slice a L.length c, .int .i64 y, .int .i64 p] w fun e w' => ∃ v, e = .returned (.tuple #[v, .int .i64 (mvE L y p)]) ∧ OwnA w' w.heap.size v (mvL L y p) ∧ Below w.heap.size w w' := by
  have hi1 := isone_c a L.length c y w
  by_cases hy : Ent (L.length : Int) y
  · rw [decide_eq_true hy] at hi1
    by_cases hp0 : p = 0
    · have t0 : (p != 0) = false := by simpa using hp0
      have hm1 : ¬ (¬ Ent (L.length : Int) y ∨ (p ≠ 0 ∧ ¬ Ent (L.length : Int) p)) := fun q => q.elim (fun r => r hy) (fun r => r.1 hp0)
      have ho1 := isown_c y w
      by_cases h1 : 1 ≤ y ∧ y ≤ 3
      · rw [decide_eq_true h1] at ho1
        have HZ : Hid (mvE L y p = 28 ∧ mvL L y p = []) := by
          have e : mvE L y p = 28 := by unfold mvE; rw [if_neg hm1, if_pos (Or.inl h1)]
          exact ⟨e, if_neg (by rw [e]; omega)⟩
        clear hL hm1 h1 hy hp0
        go_enter Try.func24, Try.ntmps24
        go_wp2_with fail
        refine hi1.mono ?_; clear hi1; rintro e wn ⟨rfl, rfl⟩
        go_wp2_with fail
        refine ho1.mono ?_; clear ho1; rintro e wn ⟨rfl, rfl⟩
        go_wp2_with fail
        go_ret2
        rw [HZ.out.1, HZ.out.2]
        exact ⟨_, rfl, OwnA.nil _ _, Below.refl _ _⟩
      · rw [decide_eq_false h1] at ho1
        have ho2 := isown_c p w
        by_cases h2 : 1 ≤ p ∧ p ≤ 3
        · rw [decide_eq_true h2] at ho2
          have HZ : Hid (mvE L y p = 28 ∧ mvL L y p = []) := by
            have e : mvE L y p = 28 := by unfold mvE; rw [if_neg hm1, if_pos (Or.inr h2)]
            exact ⟨e, if_neg (by rw [e]; omega)⟩
          clear hL hm1 h1 h2 hy hp0
          go_enter Try.func24, Try.ntmps24
          go_wp2_with fail
          refine hi1.mono ?_; clear hi1; rintro e wn ⟨rfl, rfl⟩
          go_wp2_with fail
          refine ho1.mono ?_; clear ho1; rintro e wn ⟨rfl, rfl⟩
          go_wp2_with fail
          refine ho2.mono ?_; clear ho2; rintro e wn ⟨rfl, rfl⟩
          go_wp2_with fail
          go_ret2
          rw [HZ.out.1, HZ.out.2]
          exact ⟨_, rfl, OwnA.nil _ _, Below.refl _ _⟩
        · rw [decide_eq_false h2] at ho2
          by_cases h3 : p = y
          · have t3 : (p == y) = true := by simpa using h3
            have HZ : Hid (mvE L y p = 26 ∧ mvL L y p = []) := by
              have e : mvE L y p = 26 := by unfold mvE; rw [if_neg hm1, if_neg (fun q => q.elim h1 h2), if_pos (Or.inl h3)]
              exact ⟨e, if_neg (by rw [e]; omega)⟩
            clear hL hm1 h1 h2 h3 hy hp0
            go_enter Try.func24, Try.ntmps24
            go_wp2_with fail
            refine hi1.mono ?_; clear hi1; rintro e wn ⟨rfl, rfl⟩
            go_wp2_with fail
            refine ho1.mono ?_; clear ho1; rintro e wn ⟨rfl, rfl⟩
            go_wp2_with fail
            refine ho2.mono ?_; clear ho2; rintro e wn ⟨rfl, rfl⟩
            go_wp2_with fail
            go_ret2
            rw [HZ.out.1, HZ.out.2]
            exact ⟨_, rfl, OwnA.nil _ _, Below.refl _ _⟩
          · have t3 : (p == y) = false := by simpa using h3
            have hu := up_a a c L p w hL hn
            have HUI : Hid ((ups L.length (pa L) p).length ≤ 1000 ∧ ∀ z ∈ ups L.length (pa L) p, InR z) := ⟨Nat.le_trans (ups_few _ _ _) hn, ups_in hn⟩
            have HL := Lib.hid hL
            by_cases h4 : y ∈ ups L.length (pa L) p
            · have HZ : Hid (mvE L y p = 26 ∧ mvL L y p = []) := by
                have e : mvE L y p = 26 := by unfold mvE; rw [if_neg hm1, if_neg (fun q => q.elim h1 h2), if_pos (Or.inr h4)]
                exact ⟨e, if_neg (by rw [e]; omega)⟩
              have HI4 := Lib.hid h4
              generalize ups L.length (pa L) p = U at *
              clear hL hm1 h1 h2 h3 h4 hy hp0
              go_enter Try.func24, Try.ntmps24
              go_wp2_with fail
              refine hi1.mono ?_; clear hi1; rintro e wn ⟨rfl, rfl⟩
              go_wp2_with fail
              refine ho1.mono ?_; clear ho1; rintro e wn ⟨rfl, rfl⟩
              go_wp2_with fail
              refine ho2.mono ?_; clear ho2; rintro e wn ⟨rfl, rfl⟩
              go_wp2_with fail
              refine hu.mono ?_; clear hu; rintro e w1 ⟨v, rfl, ho, hb⟩
              have HB := Lib.hid hb
              obtain ⟨ra, rc, rfl, -, hR⟩ := ho.reads HUI.out.2
              have hcn := cont_any ra rc U y w1 hR (by have := HUI.out.1; omega)
              rw [decide_eq_true HI4.out] at hcn
              clear ho hb hR
              go_wp2_with fail
              refine hcn.mono ?_; clear hcn; rintro e wn ⟨rfl, rfl⟩
              go_wp2_with fail
              go_ret2
              rw [HZ.out.1, HZ.out.2]
              exact ⟨_, rfl, OwnA.nil _ _, HB.out⟩
            · have hz : mvE L y p = 0 := by unfold mvE; rw [if_neg hm1, if_neg (fun q => q.elim h1 h2), if_neg (fun q => q.elim h3 h4)]
              have HZ : Hid (mvE L y p = 0 ∧ mvL L y p = setP L (y - 1).toNat p) := ⟨hz, if_pos hz⟩
              have HI4 := Lib.hid h4
              obtain ⟨k, hk⟩ : ∃ k : Nat, y = (k : Int) + 1 := ⟨(y - 1).toNat, by unfold Ent at hy; omega⟩
              have hkl : k < L.length := by unfold Ent at hy; omega
              have hk2 : (y - 1).toNat = k := by omega
              obtain ⟨ab, hab⟩ : ∃ ab, a = some ab := by
                obtain ⟨b, off, q, _⟩ := hL.2 k hkl
                exact ⟨_, q⟩
              rw [hk2] at HZ
              have e1 : wrap64 (y - 1) = (k : Int) := by unfold wrap64; omega
              have i0 : (0 : Int) ≤ (k : Int) := by omega
              have i1 : (k : Int) < (L.length : Int) := by omega
              have HKL := Lib.hid hkl
              have HN := Lib.hid hn
              have HC := Lib.hid hc
              subst hab
              generalize ups L.length (pa L) p = U at *
              clear hL hm1 h1 h2 h3 h4 hz hk hkl hk2 hn hc hy hp0
              go_enter Try.func24, Try.ntmps24
              go_wp2_with fail
              refine hi1.mono ?_; clear hi1; rintro e wn ⟨rfl, rfl⟩
              go_wp2_with fail
              refine ho1.mono ?_; clear ho1; rintro e wn ⟨rfl, rfl⟩
              go_wp2_with fail
              refine ho2.mono ?_; clear ho2; rintro e wn ⟨rfl, rfl⟩
              go_wp2_with fail
              refine hu.mono ?_; clear hu; rintro e w1 ⟨v, rfl, ho, hb⟩
              have HB := Lib.hid hb
              obtain ⟨ra, rc, rfl, -, hR⟩ := ho.reads HUI.out.2
              have hcn := cont_any ra rc U y w1 hR (by have := HUI.out.1; omega)
              rw [decide_eq_false HI4.out] at hcn
              clear ho hb hR
              go_wp2_with fail
              refine hcn.mono ?_; clear hcn; rintro e wn ⟨rfl, rfl⟩
              have hcl := cloneA ab c L w1 (HL.out.below HB.out) HC.out HN.out
              go_wp2_with fail
              refine hcl.mono ?_; clear hcl; rintro e w2 ⟨v2, rfl, ho2, hb2⟩
              obtain ⟨g, cg, rfl⟩ : ∃ g cg, v2 = .slice (some ⟨g, 0, none⟩) L.length cg := by
                rcases ho2.2 with ⟨_, q⟩ | ⟨g, cap, cur, e, _⟩
                · have := HKL.out; omega
                · exact ⟨g, cap, e⟩
              obtain ⟨hck, hfk⟩ := ho2.cell HKL.out
              have hpt := ho2.put HKL.out p
              have htn : Turn (fun i => i = g) w2 (w2.setCell ⟨g, k * 4, none⟩ (.int .i64 p)) := turn_set (F := fun i => i = g) (p := ⟨g, k * 4, none⟩) (Turn.refl _ _) (Or.inl (show g = g from rfl)) _
              have hgb : w1.heap.size ≤ g := (World.ownsRow.lt ho2 g rfl).1
              have HPT : Hid (OwnA (w2.setCell ⟨g, k * 4, none⟩ (.int .i64 p)) w.heap.size (.slice (some ⟨g, 0, none⟩) L.length cg) (setP L k p) ∧ Below w.heap.size w (w2.setCell ⟨g, k * 4, none⟩ (.int .i64 p))) :=
                ⟨hpt.lower HB.out.size, HB.out.trans ((hb2.trans (htn.below (fun i e => by omega) hb2.size)).mono HB.out.size)⟩
              clear ho2 hb2 hpt htn hgb
              go_wp2_with fail
              go_ret2
              rw [HZ.out.1, HZ.out.2]
              exact ⟨_, rfl, HPT.out.1, HPT.out.2⟩
    · have t0 : (p != 0) = true := by simpa using hp0
      have hi2 := isone_c a L.length c p w
      by_cases hp : Ent (L.length : Int) p
      · rw [decide_eq_true hp] at hi2
        have hm1 : ¬ (¬ Ent (L.length : Int) y ∨ (p ≠ 0 ∧ ¬ Ent (L.length : Int) p)) := fun q => q.elim (fun r => r hy) (fun r => r.2 hp)
        have ho1 := isown_c y w
        by_cases h1 : 1 ≤ y ∧ y ≤ 3
        · rw [decide_eq_true h1] at ho1
          have HZ : Hid (mvE L y p = 28 ∧ mvL L y p = []) := by
            have e : mvE L y p = 28 := by unfold mvE; rw [if_neg hm1, if_pos (Or.inl h1)]
            exact ⟨e, if_neg (by rw [e]; omega)⟩
          clear hL hm1 h1 hy hp0 hp
          go_enter Try.func24, Try.ntmps24
          go_wp2_with fail
          refine hi1.mono ?_; clear hi1; rintro e wn ⟨rfl, rfl⟩
          go_wp2_with fail
          refine hi2.mono ?_; clear hi2; rintro e wn ⟨rfl, rfl⟩
          go_wp2_with fail
          refine ho1.mono ?_; clear ho1; rintro e wn ⟨rfl, rfl⟩
          go_wp2_with fail
          go_ret2
          rw [HZ.out.1, HZ.out.2]
          exact ⟨_, rfl, OwnA.nil _ _, Below.refl _ _⟩
        · rw [decide_eq_false h1] at ho1
          have ho2 := isown_c p w
          by_cases h2 : 1 ≤ p ∧ p ≤ 3
          · rw [decide_eq_true h2] at ho2
            have HZ : Hid (mvE L y p = 28 ∧ mvL L y p = []) := by
              have e : mvE L y p = 28 := by unfold mvE; rw [if_neg hm1, if_pos (Or.inr h2)]
              exact ⟨e, if_neg (by rw [e]; omega)⟩
            clear hL hm1 h1 h2 hy hp0 hp
            go_enter Try.func24, Try.ntmps24
            go_wp2_with fail
            refine hi1.mono ?_; clear hi1; rintro e wn ⟨rfl, rfl⟩
            go_wp2_with fail
            refine hi2.mono ?_; clear hi2; rintro e wn ⟨rfl, rfl⟩
            go_wp2_with fail
            refine ho1.mono ?_; clear ho1; rintro e wn ⟨rfl, rfl⟩
            go_wp2_with fail
            refine ho2.mono ?_; clear ho2; rintro e wn ⟨rfl, rfl⟩
            go_wp2_with fail
            go_ret2
            rw [HZ.out.1, HZ.out.2]
            exact ⟨_, rfl, OwnA.nil _ _, Below.refl _ _⟩
          · rw [decide_eq_false h2] at ho2
            by_cases h3 : p = y
            · have t3 : (p == y) = true := by simpa using h3
              have HZ : Hid (mvE L y p = 26 ∧ mvL L y p = []) := by
                have e : mvE L y p = 26 := by unfold mvE; rw [if_neg hm1, if_neg (fun q => q.elim h1 h2), if_pos (Or.inl h3)]
                exact ⟨e, if_neg (by rw [e]; omega)⟩
              clear hL hm1 h1 h2 h3 hy hp0 hp
              go_enter Try.func24, Try.ntmps24
              go_wp2_with fail
              refine hi1.mono ?_; clear hi1; rintro e wn ⟨rfl, rfl⟩
              go_wp2_with fail
              refine hi2.mono ?_; clear hi2; rintro e wn ⟨rfl, rfl⟩
              go_wp2_with fail
              refine ho1.mono ?_; clear ho1; rintro e wn ⟨rfl, rfl⟩
              go_wp2_with fail
              refine ho2.mono ?_; clear ho2; rintro e wn ⟨rfl, rfl⟩
              go_wp2_with fail
              go_ret2
              rw [HZ.out.1, HZ.out.2]
              exact ⟨_, rfl, OwnA.nil _ _, Below.refl _ _⟩
            · have t3 : (p == y) = false := by simpa using h3
              have hu := up_a a c L p w hL hn
              have HUI : Hid ((ups L.length (pa L) p).length ≤ 1000 ∧ ∀ z ∈ ups L.length (pa L) p, InR z) := ⟨Nat.le_trans (ups_few _ _ _) hn, ups_in hn⟩
              have HL := Lib.hid hL
              by_cases h4 : y ∈ ups L.length (pa L) p
              · have HZ : Hid (mvE L y p = 26 ∧ mvL L y p = []) := by
                  have e : mvE L y p = 26 := by unfold mvE; rw [if_neg hm1, if_neg (fun q => q.elim h1 h2), if_pos (Or.inr h4)]
                  exact ⟨e, if_neg (by rw [e]; omega)⟩
                have HI4 := Lib.hid h4
                generalize ups L.length (pa L) p = U at *
                clear hL hm1 h1 h2 h3 h4 hy hp0 hp
                go_enter Try.func24, Try.ntmps24
                go_wp2_with fail
                refine hi1.mono ?_; clear hi1; rintro e wn ⟨rfl, rfl⟩
                go_wp2_with fail
                refine hi2.mono ?_; clear hi2; rintro e wn ⟨rfl, rfl⟩
                go_wp2_with fail
                refine ho1.mono ?_; clear ho1; rintro e wn ⟨rfl, rfl⟩
                go_wp2_with fail
                refine ho2.mono ?_; clear ho2; rintro e wn ⟨rfl, rfl⟩
                go_wp2_with fail
                refine hu.mono ?_; clear hu; rintro e w1 ⟨v, rfl, ho, hb⟩
                have HB := Lib.hid hb
                obtain ⟨ra, rc, rfl, -, hR⟩ := ho.reads HUI.out.2
                have hcn := cont_any ra rc U y w1 hR (by have := HUI.out.1; omega)
                rw [decide_eq_true HI4.out] at hcn
                clear ho hb hR
                go_wp2_with fail
                refine hcn.mono ?_; clear hcn; rintro e wn ⟨rfl, rfl⟩
                go_wp2_with fail
                go_ret2
                rw [HZ.out.1, HZ.out.2]
                exact ⟨_, rfl, OwnA.nil _ _, HB.out⟩
              · have hz : mvE L y p = 0 := by unfold mvE; rw [if_neg hm1, if_neg (fun q => q.elim h1 h2), if_neg (fun q => q.elim h3 h4)]
                have HZ : Hid (mvE L y p = 0 ∧ mvL L y p = setP L (y - 1).toNat p) := ⟨hz, if_pos hz⟩
                have HI4 := Lib.hid h4
                obtain ⟨k, hk⟩ : ∃ k : Nat, y = (k : Int) + 1 := ⟨(y - 1).toNat, by unfold Ent at hy; omega⟩
                have hkl : k < L.length := by unfold Ent at hy; omega
                have hk2 : (y - 1).toNat = k := by omega
                obtain ⟨ab, hab⟩ : ∃ ab, a = some ab := by
                  obtain ⟨b, off, q, _⟩ := hL.2 k hkl
                  exact ⟨_, q⟩
                rw [hk2] at HZ
                have e1 : wrap64 (y - 1) = (k : Int) := by unfold wrap64; omega
                have i0 : (0 : Int) ≤ (k : Int) := by omega
                have i1 : (k : Int) < (L.length : Int) := by omega
                have HKL := Lib.hid hkl
                have HN := Lib.hid hn
                have HC := Lib.hid hc
                subst hab
                generalize ups L.length (pa L) p = U at *
                clear hL hm1 h1 h2 h3 h4 hz hk hkl hk2 hn hc hy hp0 hp
                go_enter Try.func24, Try.ntmps24
                go_wp2_with fail
                refine hi1.mono ?_; clear hi1; rintro e wn ⟨rfl, rfl⟩
                go_wp2_with fail
                refine hi2.mono ?_; clear hi2; rintro e wn ⟨rfl, rfl⟩
                go_wp2_with fail
                refine ho1.mono ?_; clear ho1; rintro e wn ⟨rfl, rfl⟩
                go_wp2_with fail
                refine ho2.mono ?_; clear ho2; rintro e wn ⟨rfl, rfl⟩
                go_wp2_with fail
                refine hu.mono ?_; clear hu; rintro e w1 ⟨v, rfl, ho, hb⟩
                have HB := Lib.hid hb
                obtain ⟨ra, rc, rfl, -, hR⟩ := ho.reads HUI.out.2
                have hcn := cont_any ra rc U y w1 hR (by have := HUI.out.1; omega)
                rw [decide_eq_false HI4.out] at hcn
                clear ho hb hR
                go_wp2_with fail
                refine hcn.mono ?_; clear hcn; rintro e wn ⟨rfl, rfl⟩
                have hcl := cloneA ab c L w1 (HL.out.below HB.out) HC.out HN.out
                go_wp2_with fail
                refine hcl.mono ?_; clear hcl; rintro e w2 ⟨v2, rfl, ho2, hb2⟩
                obtain ⟨g, cg, rfl⟩ : ∃ g cg, v2 = .slice (some ⟨g, 0, none⟩) L.length cg := by
                  rcases ho2.2 with ⟨_, q⟩ | ⟨g, cap, cur, e, _⟩
                  · have := HKL.out; omega
                  · exact ⟨g, cap, e⟩
                obtain ⟨hck, hfk⟩ := ho2.cell HKL.out
                have hpt := ho2.put HKL.out p
                have htn : Turn (fun i => i = g) w2 (w2.setCell ⟨g, k * 4, none⟩ (.int .i64 p)) := turn_set (F := fun i => i = g) (p := ⟨g, k * 4, none⟩) (Turn.refl _ _) (Or.inl (show g = g from rfl)) _
                have hgb : w1.heap.size ≤ g := (World.ownsRow.lt ho2 g rfl).1
                have HPT : Hid (OwnA (w2.setCell ⟨g, k * 4, none⟩ (.int .i64 p)) w.heap.size (.slice (some ⟨g, 0, none⟩) L.length cg) (setP L k p) ∧ Below w.heap.size w (w2.setCell ⟨g, k * 4, none⟩ (.int .i64 p))) :=
                  ⟨hpt.lower HB.out.size, HB.out.trans ((hb2.trans (htn.below (fun i e => by omega) hb2.size)).mono HB.out.size)⟩
                clear ho2 hb2 hpt htn hgb
                go_wp2_with fail
                go_ret2
                rw [HZ.out.1, HZ.out.2]
                exact ⟨_, rfl, HPT.out.1, HPT.out.2⟩
      · rw [decide_eq_false hp] at hi2
        have HZ : Hid (mvE L y p = 21 ∧ mvL L y p = []) := by
          have e : mvE L y p = 21 := by unfold mvE; rw [if_pos (Or.inr ⟨hp0, hp⟩)]
          exact ⟨e, if_neg (by rw [e]; omega)⟩
        clear hL hy hp0 hp
        go_enter Try.func24, Try.ntmps24
        go_wp2_with fail
        refine hi1.mono ?_; clear hi1; rintro e wn ⟨rfl, rfl⟩
        go_wp2_with fail
        refine hi2.mono ?_; clear hi2; rintro e wn ⟨rfl, rfl⟩
        go_wp2_with fail
        go_ret2
        rw [HZ.out.1, HZ.out.2]
        exact ⟨_, rfl, OwnA.nil _ _, Below.refl _ _⟩
  · rw [decide_eq_false hy] at hi1
    have HZ : Hid (mvE L y p = 21 ∧ mvL L y p = []) := by
      have e : mvE L y p = 21 := by unfold mvE; rw [if_pos (Or.inl hy)]
      exact ⟨e, if_neg (by rw [e]; omega)⟩
    clear hL hy
    go_enter Try.func24, Try.ntmps24
    go_wp2_with fail
    refine hi1.mono ?_; clear hi1; rintro e wn ⟨rfl, rfl⟩
    go_wp2_with fail
    go_ret2
    rw [HZ.out.1, HZ.out.2]
    exact ⟨_, rfl, OwnA.nil _ _, Below.refl _ _⟩
end Go.Proofs.Yteendpdidkekkaa
