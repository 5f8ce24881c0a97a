/-
  The library's Grow of the nil slice, Concat of two rows and Clone over rates; the landed Set. The condition: at most 100000 rates.
-/
import Derived.Test.YtogckefmmjbapaaRtD
import Derived.Test.YtogckefmmjbapaaRowG
import Derived.Lib.AppendZeros
import Derived.Deep.QuietTactic
import Derived.BigQuiet
import Derived.WalkSmall
import Derived.Deep.DeepCutAuto
import Derived.Deep.RegionHeld3
namespace Go.Proofs.Ytogckefmmjbapaa
open Go.RowKit
set_option linter.unusedSimpArgs false
set_option linter.unusedVariables false

set_option maxHeartbeats 1000000 in
set_option maxRecDepth 100000 in
theorem growR (n : Nat) (h0 : 0 < n) (hn : n ≤ 1000000) (w : World) :
    Calls Try.prog 40 #[.slice none 0 0, .int .i64 (n : Int)] w fun e w' => ∃ v, e = .returned v ∧ OwnR w' w.heap.size v [] ∧ Below w.heap.size w w' := by
  obtain ⟨i0, hi, hz0, hz1, hz2⟩ := info_parts rate_info
  have hr : ∀ ty, (Builtin.append_ #[22, 3] ty #[.slice none 0 0, .int .i64 (n : Int)]).run Try.prog w = .ok (.slice (some ⟨w.heap.size, 0, none⟩) n (grownCap w n 0 26)) (w.drew.alloc (.cells (Builtin.zeroCells #[.int .i64 0, .int .i64 0, .int .i64 0, .int .i64 0, .int .i64 0, .int .i64 0] n ++ Builtin.zeroCells #[.int .i64 0, .int .i64 0, .int .i64 0, .int .i64 0, .int .i64 0, .int .i64 0] (grownCap w n 0 26 - n)) 26)) := fun ty => by
    have := Lib.run_append_nil_zeros w 22 3 ty 26 i0 (.agg #[.int .i64 0, .int .i64 0, .int .i64 0, .int .i64 0, .int .i64 0, .int .i64 0]) .i64 .i64 Try.underlying22 Try.underlying3 hi hz0 n h0 (by rw [hz1]; omega) (by omega) (by rw [hz2]; omega)
    simpa [Value.cells] using this
  have hge := grownCap_ge w n 0 26
  have hle := grownCap_le_maxLen w n 0 26 (by unfold maxLen; omega)
  obtain ⟨cur, hcur⟩ : ∃ cur, Builtin.zeroCells #[Value.int .i64 0, .int .i64 0, .int .i64 0, .int .i64 0, .int .i64 0, .int .i64 0] n ++ Builtin.zeroCells #[Value.int .i64 0, .int .i64 0, .int .i64 0, .int .i64 0, .int .i64 0, .int .i64 0] (grownCap w n 0 26 - n) = cur := ⟨_, rfl⟩
  have hsz : cur.size = grownCap w n 0 26 * 6 := by rw [← hcur]; simp [Builtin.zeroCells]; omega
  rw [hcur] at hr
  generalize grownCap w n 0 26 = cap at *
  clear hcur hi hz0 hz1 hz2 i0
  have d1 : decide ((n : Int) < 0) = false := decide_eq_false (by omega)
  have d2 : decide ((0 : Int) < (n : Int)) = true := decide_eq_true (by omega)
  have d3 : decide (0 < n) = true := decide_eq_true h0
  have HS := Lib.hid (And.intro hsz hle)
  clear hsz hle
  go_enter Try.func40, Try.ntmps40
  go_wp2_with (at_builtin; refine Lib.wpList_append_run _ rfl (.tmp 20) (.tmp 21) 22 3 rfl _ _ rfl rfl _ _ (hr _) ?_)
  go_ret
  exact ⟨_, rfl, ⟨rfl, Or.inr ⟨w.heap.size, cap, cur, rfl, Nat.le_refl _, heap_alloc_new w _, Nat.zero_le _, HS.out.2, by rw [HS.out.1], rfl⟩⟩, (((Below.refl _ w).drew).alloc (by simp [go_sem]) _)⟩
def catR (L : List RtT) (s : RtT) : Nat → List RtT
  | 0 => []
  | 1 => L
  | _ => L ++ [s]
/-- append of a row of stakes that lies somewhere to one that the call owns. -/
theorem wp_catR {ops : Array Oper} {rest : List Oper} {o : Oper} {a : Act} {Q : Exit → Act → World → Prop} (w : World) (hgd : o.guard = none) (s x : Operand)
    (ho : o.op = .call { callee := .builtin .append, args := #[s, x], argTypes := #[22, 22] })
    (base : Nat) (v : Value) (L M : List RtT) (A : Option Addr) (c : Nat) (hs : a.eval s = v) (hown : OwnR w base v L) (hx : a.eval x = .slice A M.length c) (hr : SlC w (.slice A M.length c) 6 M.length (rowR M))
    (hlen : L.length + M.length ≤ 1000000000) (hbase : base ≤ w.heap.size)
    (h : ∀ v' w', OwnR w' base v' (L ++ M) → Below base w w' → wpList Try.prog ops Q rest (a.put o.dst v') w') :
    wpList Try.prog ops Q (o :: rest) a w := by
  refine wpList_app hgd s x 22 ho base 26 6 48 (.agg #[.int .i64 0, .int .i64 0, .int .i64 0, .int .i64 0, .int .i64 0, .int .i64 0]) Try.underlying22 rate_info rfl (by decide) v L.length (rowR L) hs hown _ M.length (rowR M) hx hr (rowR_one M) hlen (by decide) hbase ?_
  intro v' w' h1 h2 _
  refine h v' w' ?_ h2
  show World.ownsRow _ _ _ _ _ _ _
  rw [List.length_append, show rowR (L ++ M) = rowR L ++ rowR M by simp [rowR]]
  exact h1
set_option maxHeartbeats 4000000 in
set_option maxRecDepth 100000 in
theorem concatR (pb qb : Nat) (a : Option Addr) (c : Nat) (L : List RtT) (s : RtT) (hn : L.length ≤ 100000) (w : World) (hL : RdR w a L) (hc : L.length ≤ c) (ca : a = none → c = 0) (hz : okT s)
    (hp0 : w.cell? ⟨pb, 0, none⟩ = some (.slice a L.length c)) (hp1 : w.cell? ⟨pb, 1, none⟩ = some (.slice (some ⟨qb, 0, none⟩) 1 1)) (hq : SlC w (.slice (some ⟨qb, 0, none⟩) 1 1) 6 1 (cellsR s)) :
    Calls Try.prog 24 #[.slice (some ⟨pb, 0, none⟩) 2 2] w fun e w' => ∃ v, e = .returned v ∧ OwnR w' w.heap.size v (L ++ [s]) ∧ Below w.heap.size w w' := by
  obtain ⟨w0, hw0⟩ : ∃ w0, w0 = w := ⟨_, rfl⟩
  suffices h : Calls Try.prog 24 #[.slice (some ⟨pb, 0, none⟩) 2 2] w fun e w' => ∃ v, e = .returned v ∧ OwnR w' w0.heap.size v (L ++ [s]) ∧ Below w0.heap.size w0 w' by rw [hw0] at h; exact h
  have hg := growR (L.length + 1) (by omega) (by omega) w
  have hg : Calls Try.prog 40 #[.slice none 0 0, .int .i64 ((L.length : Int) + 1)] w fun e w' => ∃ v, e = .returned v ∧ OwnR w' w0.heap.size v [] ∧ Below w0.heap.size w0 w' := by rw [hw0]; exact hg
  have HL : Hid (SlC w0 (.slice a L.length c) 6 L.length (rowR L)) := by rw [hw0]; exact hL.slc hc ca
  have HQ : Hid (SlC w0 (.slice (some ⟨qb, 0, none⟩) [s].length 1) 6 [s].length (rowR [s])) := by
    show SlC _ _ _ _ _
    rw [hw0]; simpa [rowR] using hq
  have HP : Hid (w0.cell? ⟨pb, 0, none⟩ = some (.slice a L.length c) ∧ w0.cell? ⟨pb, 1, none⟩ = some (.slice (some ⟨qb, 0, none⟩) 1 1)) := by rw [hw0]; exact ⟨hp0, hp1⟩
  clear hL hq hc ca hz hw0
  have e1 : wrap64 (0 + (L.length : Int)) = (L.length : Int) := by unfold wrap64; omega
  have e2 : wrap64 ((L.length : Int) + 1) = (L.length : Int) + 1 := by unfold wrap64; omega
  have e3 : wrap64 ((L.length : Int)) = (L.length : Int) := by unfold wrap64; omega
  have d1 : decide ((L.length : Int) < 0) = false := decide_eq_false (by omega)
  have d2 : decide ((L.length : Int) + 1 < 0) = false := decide_eq_false (by omega)
  go_enter Try.func24, Try.ntmps24
  go_wp2_with fail
  go_loopw [3, 11] (fun s i wr => wr = w ∧ ((i = .int .i64 0 ∧ s = .int .i64 0) ∨ (i = .int .i64 1 ∧ s = .int .i64 (L.length : Int)) ∨ (i = .int .i64 2 ∧ s = .int .i64 ((L.length : Int) + 1)))) (fun _ i _ => 2 - (RowKit.intOf i).toNat)
  case atStart => exact ⟨rfl, Or.inl ⟨rfl, rfl⟩⟩
  case round =>
    obtain ⟨rfl, ⟨rfl, rfl⟩ | ⟨rfl, rfl⟩ | ⟨rfl, rfl⟩⟩ := hrel
    · go_wp2_with fail
      go_roundw
      · exact ⟨by first | rfl | trivial, Or.inr (Or.inl ⟨rfl, by go_num⟩)⟩
      · simp [RowKit.intOf]
    · go_wp2_with fail
      go_roundw
      · exact ⟨by first | rfl | trivial, Or.inr (Or.inr ⟨rfl, by go_num⟩)⟩
      · simp [RowKit.intOf]
    · go_wp2_with fail
      refine hg.mono ?_; rintro e w1 ⟨v, rfl, ho, hb⟩
      clear hp0 hp1 hg e1 e2 e3 d1 d2
      go_wp2_with fail
      go_loopw [6, 27] (fun u i wr => ∃ k : Nat, k ≤ 2 ∧ i = .int .i64 (k : Int) ∧ OwnR wr w0.heap.size u (catR L s k) ∧ Below w0.heap.size w0 wr) (fun _ i _ => 2 - (RowKit.intOf i).toNat)
      case atStart => exact ⟨0, by omega, rfl, ho, hb⟩
      case round =>
        clear ho hb
        obtain ⟨k, hk, rfl, ho, hb⟩ := hrel
        have hb0 := hb.size
        have HB := Lib.hid hb; clear hb
        obtain ⟨p0, p1⟩ := HP.out
        have lp : pb < w0.heap.size := World.block_lt_of_cell? w0 _ p0
        have p0 := (HB.out.cell (p := ⟨pb, 0, none⟩) lp).trans p0
        have p1 := (HB.out.cell (p := ⟨pb, 1, none⟩) lp).trans p1
        have HZ2 := Lib.hid (HQ.out.below HB.out); have HL2 := Lib.hid (HL.out.below HB.out)
        clear lp
        rcases (by omega : k = 0 ∨ k = 1 ∨ k = 2) with rfl | rfl | rfl
        · obtain ⟨a1, cap1, rfl⟩ := (ownsRow_slc ho).form
          go_wp2_with (at_builtin; refine wp_catR wr rfl (.tmp 31) (.tmp 32) rfl w0.heap.size _ [] L a c rfl ho rfl HL2.out (by simp; omega) hb0 ?_; intro v3 w3 ho3 hb3)
          go_roundw
          · exact ⟨1, by omega, by go_num, by simpa [catR] using ho3, HB.out.trans hb3⟩
          · simp [RowKit.intOf]
        · go_wp2_with (at_builtin; refine wp_catR wr rfl (.tmp 31) (.tmp 32) rfl w0.heap.size _ L [s] (some ⟨qb, 0, none⟩) 1 rfl ho rfl HZ2.out (by simp; omega) hb0 ?_; intro v3 w3 ho3 hb3)
          go_roundw
          · exact ⟨2, by omega, by go_num, ho3, HB.out.trans hb3⟩
          · simp [RowKit.intOf]
        · go_wp2_with fail
          go_ret
          exact ⟨_, rfl, ho, HB.out⟩

theorem in_rates (d : Nat) (a : Option Addr) (n c : Nat) (w : World) : (Op.equalIn (d + 1) 22 (.slice a n c) (.slice none 0 0)).run Try.prog w = .ok (a.isNone) w := by
  cases a <;> simp [Op.equalIn, run_underlying Try.underlying22]
theorem eql_rates (a : Option Addr) (n c : Nat) (w : World) : (binOp .eql 22 (.slice a n c) (.slice none 0 0)).run Try.prog w = .ok (.bool a.isNone) w := by
  simp only [binOp]
  simp [Op.equal, Op.maxDepth, in_rates 9999 a n c]
set_option maxHeartbeats 1000000 in
set_option maxRecDepth 100000 in
theorem cloneR (ad : Addr) (c : Nat) (L : List RtT) (w : World) (hL : RdR w (some ad) L) (hc : L.length ≤ c) (hn : L.length ≤ 100000) :
    Calls Try.prog 23 #[.slice (some ad) L.length c] w fun e w' => ∃ v, e = .returned v ∧ OwnR w' w.heap.size v L ∧ Below w.heap.size w w' := by
  have HS := Lib.hid (hL.slc hc (fun q => by cases q))
  have hO : OwnR (w.alloc (.cells #[] 26)) w.heap.size (.slice (some ⟨w.heap.size, 0, none⟩) 0 0) [] := World.ownsRow_lit (base := w.heap.size) (e := 26) (size := 6) w #[] 0 (Nat.le_refl _) (by unfold maxLen; omega) rfl
  have HO := Lib.hid hO
  have he := eql_rates
  clear hL hO
  go_enter Try.func23, Try.ntmps23
  go_wp2_with
    (at_builtin
     refine wp_catR _ rfl (.tmp 5) (.tmp 6) rfl w.heap.size _ [] L (some ad) c rfl HO.out rfl (HS.out.below (below1 _ _)) (by simp; omega) (by simp) ?_
     intro v1 w1 o1 b1)
  go_ret
  exact ⟨_, rfl, by simpa using o1, (below1 w _).trans (b1.mono (Nat.le_refl _))⟩
theorem rowR_set : ∀ (L : List RtT) (k : Nat) (s : RtT), k < L.length → ((((((rowR L).set (k * 6) (.int .i64 s.1)).set (k * 6 + 1) (.int .i64 s.2.1)).set (k * 6 + 2) (.int .i64 s.2.2.1)).set (k * 6 + 3) (.int .i64 s.2.2.2.1)).set (k * 6 + 4) (.int .i64 s.2.2.2.2.1)).set (k * 6 + 5) (.int .i64 s.2.2.2.2.2) = rowR (L.set k s)
  | [], k, s, h => by cases h
  | x :: L, 0, s, _ => by simp [rowR, cellsR]
  | x :: L, k + 1, s, h => by
    have ih := rowR_set L k s (by simpa using h)
    rw [show (k + 1) * 6 = k * 6 + 1 + 1 + 1 + 1 + 1 + 1 by omega]
    show cellsR x ++ _ = cellsR x ++ rowR (L.set k s)
    rw [← ih]; rfl
theorem OwnR.put {w : World} {base g c : Nat} {L : List RtT} {k : Nat} (h : OwnR w base (.slice (some ⟨g, 0, none⟩) L.length c) L) (hk : k < L.length) (s : RtT) : OwnR (((((((w).setCell ⟨g, k * 6, none⟩ (.int .i64 s.1)).setCell ⟨g, k * 6 + 1, none⟩ (.int .i64 s.2.1)).setCell ⟨g, k * 6 + 2, none⟩ (.int .i64 s.2.2.1)).setCell ⟨g, k * 6 + 3, none⟩ (.int .i64 s.2.2.2.1)).setCell ⟨g, k * 6 + 4, none⟩ (.int .i64 s.2.2.2.2.1)).setCell ⟨g, k * 6 + 5, none⟩ (.int .i64 s.2.2.2.2.2)) base (.slice (some ⟨g, 0, none⟩) L.length c) (L.set k s) := by
  have h0 : w.ownsRow base 26 6 (.slice (some ⟨g, 0, none⟩) L.length c) L.length (rowR L) := h
  have h1 := (World.ownsRow.stored h0 (k * 6) (.int .i64 s.1)).1
  have h2 := (World.ownsRow.stored h1 (k * 6 + 1) (.int .i64 s.2.1)).1
  have h3 := (World.ownsRow.stored h2 (k * 6 + 2) (.int .i64 s.2.2.1)).1
  have h4 := (World.ownsRow.stored h3 (k * 6 + 3) (.int .i64 s.2.2.2.1)).1
  have h5 := (World.ownsRow.stored h4 (k * 6 + 4) (.int .i64 s.2.2.2.2.1)).1
  have h6 := (World.ownsRow.stored h5 (k * 6 + 5) (.int .i64 s.2.2.2.2.2)).1
  rw [rowR_set L k s hk] at h6
  show World.ownsRow _ _ _ _ _ _ _
  rw [List.length_set]; exact h6
theorem OwnR.cells {w : World} {base g c : Nat} {L : List RtT} {k : Nat} (h : OwnR w base (.slice (some ⟨g, 0, none⟩) L.length c) L) (hk : k < L.length) : (w.cell? ⟨g, k * 6, none⟩ = some (.int .i64 (L.getD k zR).1) ∧ w.cell? ⟨g, k * 6 + 1, none⟩ = some (.int .i64 (L.getD k zR).2.1) ∧ w.cell? ⟨g, k * 6 + 2, none⟩ = some (.int .i64 (L.getD k zR).2.2.1) ∧ w.cell? ⟨g, k * 6 + 3, none⟩ = some (.int .i64 (L.getD k zR).2.2.2.1) ∧ w.cell? ⟨g, k * 6 + 4, none⟩ = some (.int .i64 (L.getD k zR).2.2.2.2.1) ∧ w.cell? ⟨g, k * 6 + 5, none⟩ = some (.int .i64 (L.getD k zR).2.2.2.2.2)) ∧ w.frozen? ⟨g, k * 6, none⟩ = false ∧ w.frozen? ⟨g, k * 6 + 1, none⟩ = false ∧ w.frozen? ⟨g, k * 6 + 2, none⟩ = false ∧ w.frozen? ⟨g, k * 6 + 3, none⟩ = false ∧ w.frozen? ⟨g, k * 6 + 4, none⟩ = false ∧ w.frozen? ⟨g, k * 6 + 5, none⟩ = false := by
  refine ⟨⟨?_, ?_, ?_, ?_, ?_, ?_⟩, World.ownsRow.frozenAt h _, World.ownsRow.frozenAt h _, World.ownsRow.frozenAt h _, World.ownsRow.frozenAt h _, World.ownsRow.frozenAt h _, World.ownsRow.frozenAt h _⟩
  · have := World.ownsRow.cellAt h (k * 6) (by omega); rw [this]; exact rowR_at L k 0 hk (by omega)
  · have := World.ownsRow.cellAt h (k * 6 + 1) (by omega); rw [this]; exact rowR_at L k 1 hk (by omega)
  · have := World.ownsRow.cellAt h (k * 6 + 2) (by omega); rw [this]; exact rowR_at L k 2 hk (by omega)
  · have := World.ownsRow.cellAt h (k * 6 + 3) (by omega); rw [this]; exact rowR_at L k 3 hk (by omega)
  · have := World.ownsRow.cellAt h (k * 6 + 4) (by omega); rw [this]; exact rowR_at L k 4 hk (by omega)
  · have := World.ownsRow.cellAt h (k * 6 + 5) (by omega); rw [this]; exact rowR_at L k 5 hk (by omega)
theorem OwnR.form {w : World} {base : Nat} {v : Value} {L : List RtT} (h : OwnR w base v L) (hn : 0 < L.length) : ∃ g cap, v = .slice (some ⟨g, 0, none⟩) L.length cap ∧ base ≤ g := by
  rcases h.2 with ⟨_, h0⟩ | ⟨g, cap, _, hv, hg, _⟩
  · omega
  · exact ⟨g, cap, hv, hg⟩
set_option maxHeartbeats 4000000 in
set_option maxRecDepth 100000 in
theorem set_r (a : Option Addr) (c : Nat) (L : List RtT) (r : RtT) (w : World) (hL : RdR w a L) (hn : L.length ≤ 100000) (hc : L.length ≤ c) (ca : a = none → c = 0) (hs : okT r) :
    Calls Try.prog 9 #[.slice a L.length c, encR r] w fun e w' => ∃ v, e = .returned (.tuple #[v, .int .i64 (stE L r)]) ∧ OwnR w' w.heap.size v (stL L r) ∧ Below w.heap.size w w' := by
  have hbx := below1 w (objR r)
  have HO := Lib.hid (Ow6.new w r)
  have hw0 := wrong_r r.1 r.2.1 r.2.2.1 r.2.2.2.1 r.2.2.2.2.1 r.2.2.2.2.2 (w.alloc (objR r))
  obtain ⟨z, hz⟩ : ∃ z, wrR r = z := ⟨_, rfl⟩
  have hw : Calls Try.prog 20 #[.agg #[.int .i64 r.1, .int .i64 r.2.1, .int .i64 r.2.2.1, .int .i64 r.2.2.2.1, .int .i64 r.2.2.2.2.1, .int .i64 r.2.2.2.2.2]] (w.alloc (.cells #[.int .i64 r.1, .int .i64 r.2.1, .int .i64 r.2.2.1, .int .i64 r.2.2.2.1, .int .i64 r.2.2.2.2.1, .int .i64 r.2.2.2.2.2] 26)) fun e w' => e = .returned (.int .i64 z) ∧ Below (w.alloc (.cells #[.int .i64 r.1, .int .i64 r.2.1, .int .i64 r.2.2.1, .int .i64 r.2.2.2.1, .int .i64 r.2.2.2.2.1, .int .i64 r.2.2.2.2.2] 26)).heap.size (w.alloc (.cells #[.int .i64 r.1, .int .i64 r.2.1, .int .i64 r.2.2.1, .int .i64 r.2.2.2.1, .int .i64 r.2.2.2.2.1, .int .i64 r.2.2.2.2.2] 26)) w' := by rw [← hz]; exact hw0
  have HL := Lib.hid hL
  have HBX := Lib.hid hbx
  have HC := Lib.hid (And.intro hc (And.intro ca (And.intro hs hn)))
  have HZ := Lib.hid hz
  clear hL hbx hc ca hs hw0 hz
  obtain ⟨c0, c1, c2, c3, c4, c5⟩ := HO.out.cells
  by_cases h0 : z = 0
  · have d0 : (z != 0) = false := by simpa using h0
    have hl0 := fun w5 (hb : Below (w.alloc (objR r)).heap.size (w.alloc (objR r)) w5) => last_r a c L r w5 (HL.out.below (HBX.out.trans (hb.mono HBX.out.size))) (by omega)
    have hlin := lst_in L r
    have HW : Hid (wrR r = 0) := HZ.out.trans h0
    obtain ⟨m, hm⟩ : ∃ m, lst L r = m := ⟨_, rfl⟩
    rw [hm] at hl0 hlin
    by_cases h1 : 0 ≤ m
    · obtain ⟨q, rfl⟩ := Int.eq_ofNat_of_zero_le h1
      have HS : Hid (stE L r = 0 ∧ stL L r = L.set q r) := by
        have := stE_at (L := L) HW.out (by rw [hm]; exact h1)
        rw [hm, Int.toNat_natCast] at this; exact this
      have d1 : decide ((0 : Int) ≤ (q : Int)) = true := decide_eq_true h1
      have hql : q < L.length := by omega
      obtain ⟨ad, rfl⟩ : ∃ ad, a = some ad := by
        obtain ⟨b, off, e, -⟩ := HL.out.2 q hql
        exact ⟨_, e⟩
      have HCL : Hid (∀ w6, Below w.heap.size w w6 → Calls Try.prog 23 #[.slice (some ad) L.length c] w6 fun e w' => ∃ g cap, e = .returned (.slice (some ⟨g, 0, none⟩) L.length cap) ∧ w6.heap.size ≤ g ∧ OwnR w' w6.heap.size (.slice (some ⟨g, 0, none⟩) L.length cap) L ∧ Below w6.heap.size w6 w') := fun w6 hb => (cloneR ad c L w6 (HL.out.below hb) HC.out.1 HC.out.2.2.2).mono fun e w' ⟨v, h1, h2, h3⟩ => by
        obtain ⟨g, cap, rfl, hg⟩ := h2.form (by omega)
        exact ⟨g, cap, h1, hg, h2, h3⟩
      have i0 : (0 : Int) ≤ (q : Int) := by omega
      have i1 : (q : Int) < (L.length : Int) := by omega
      have HQ := Lib.hid hql
      clear hm h0 h1 hlin
      go_enter Try.func9, Try.ntmps9
      go_wp2_with fail
      refine hw.mono ?_; clear hw; rintro e w5 ⟨rfl, hb5⟩
      have hl := hl0 w5 hb5
      have HB5 := Lib.hid (HBX.out.trans (hb5.mono HBX.out.size))
      have HO5 := Lib.hid (HO.out.below hb5)
      clear hb5 hl0 c0 c1 c2 c3 c4 c5
      obtain ⟨c0, c1, c2, c3, c4, c5⟩ := HO5.out.cells
      go_wp2_with fail
      refine hl.mono ?_; clear hl; rintro e w6 ⟨rfl, hb6⟩
      have HB6 := Lib.hid (HB5.out.trans (hb6.mono HB5.out.size))
      have HO6 := Lib.hid (HO5.out.below hb6)
      clear hb6 c0 c1 c2 c3 c4 c5
      have hcl := HCL.out w6 HB6.out
      go_wp2_with fail
      refine hcl.mono ?_; clear hcl; rintro e w7 ⟨g, cap, rfl, hg, ho7, hb7⟩
      have HB7 := Lib.hid (HB6.out.trans (hb7.mono HB6.out.size))
      have HO7 := Lib.hid (HO6.out.below hb7)
      have HW7 := Lib.hid ho7
      have hg : w.heap.size ≤ g := Nat.le_trans HB6.out.size hg
      have hne : g ≠ w.heap.size := by have := HO6.out.lt; omega
      obtain ⟨⟨k0, k1, k2, k3, k4, k5⟩, f0, f1, f2, f3, f4, f5⟩ := ho7.cells hql
      obtain ⟨c0, c1, c2, c3, c4, c5⟩ := HO7.out.cells
      clear hb7 ho7
      go_wp2_with fail
      go_ret2
      rw [HS.out.1, HS.out.2]
      have hb := HB7.out
      exact ⟨_, rfl, (HW7.out.put HQ.out r).lower HB6.out.size, ((((((hb.setCell (p := ⟨g, q * 6, none⟩) hg (.int .i64 r.1)).setCell (p := ⟨g, q * 6 + 1, none⟩) hg (.int .i64 r.2.1)).setCell (p := ⟨g, q * 6 + 2, none⟩) hg (.int .i64 r.2.2.1)).setCell (p := ⟨g, q * 6 + 3, none⟩) hg (.int .i64 r.2.2.2.1)).setCell (p := ⟨g, q * 6 + 4, none⟩) hg (.int .i64 r.2.2.2.2.1)).setCell (p := ⟨g, q * 6 + 5, none⟩) hg (.int .i64 r.2.2.2.2.2))⟩
    · have d1 : decide ((0 : Int) ≤ m) = false := decide_eq_false h1
      by_cases h2 : 2000 ≤ L.length
      · have d2 : decide ((2000 : Int) ≤ (L.length : Int)) = true := decide_eq_true (by omega)
        have d3 : decide (2000 ≤ L.length) = true := decide_eq_true h2
        have HS : Hid (stE L r = 3 ∧ stL L r = []) := stE_full HW.out (by rw [hm]; exact h1) h2
        clear hm h0 h1 h2 hlin
        go_enter Try.func9, Try.ntmps9
        go_wp2_with fail
        refine hw.mono ?_; clear hw; rintro e w5 ⟨rfl, hb5⟩
        have hl := hl0 w5 hb5
        have HB5 := Lib.hid (HBX.out.trans (hb5.mono HBX.out.size))
        have HO5 := Lib.hid (HO.out.below hb5)
        clear hb5 hl0 c0 c1 c2 c3 c4 c5
        obtain ⟨c0, c1, c2, c3, c4, c5⟩ := HO5.out.cells
        go_wp2_with fail
        refine hl.mono ?_; clear hl; rintro e w6 ⟨rfl, hb6⟩
        have HB6 := Lib.hid (HB5.out.trans (hb6.mono HB5.out.size))
        clear hb6 c0 c1 c2 c3 c4 c5
        go_wp2_with fail
        go_ret2
        rw [HS.out.1, HS.out.2]
        exact ⟨_, rfl, OwnR.nil _ _, HB6.out⟩
      · have d2 : decide ((2000 : Int) ≤ (L.length : Int)) = false := decide_eq_false (by omega)
        have d3 : decide (2000 ≤ L.length) = false := decide_eq_false h2
        have HS : Hid (stE L r = 0 ∧ stL L r = L ++ [r]) := stE_new HW.out (by rw [hm]; exact h1) h2
        clear hm h0 h1 h2 hlin
        go_enter Try.func9, Try.ntmps9
        go_wp2_with fail
        refine hw.mono ?_; clear hw; rintro e w5 ⟨rfl, hb5⟩
        have hl := hl0 w5 hb5
        have HB5 := Lib.hid (HBX.out.trans (hb5.mono HBX.out.size))
        have HO5 := Lib.hid (HO.out.below hb5)
        clear hb5 hl0 c0 c1 c2 c3 c4 c5
        obtain ⟨c0, c1, c2, c3, c4, c5⟩ := HO5.out.cells
        go_wp2_with fail
        refine hl.mono ?_; clear hl; rintro e w6 ⟨rfl, hb6⟩
        have HB6 := Lib.hid (HB5.out.trans (hb6.mono HB5.out.size))
        have HO6 := Lib.hid (HO5.out.below hb6)
        clear hb6 c0 c1 c2 c3 c4 c5
        obtain ⟨c0, c1, c2, c3, c4, c5⟩ := HO6.out.cells
        obtain ⟨X, hX⟩ : ∃ X, X = (w6.alloc (.cells #[.int .i64 r.1, .int .i64 r.2.1, .int .i64 r.2.2.1, .int .i64 r.2.2.2.1, .int .i64 r.2.2.2.2.1, .int .i64 r.2.2.2.2.2] 26)).alloc (.cells #[.slice a L.length c, .slice (some ⟨w6.heap.size, 0, none⟩) 1 1] 22) := ⟨_, rfl⟩
        have hbX : Below w6.heap.size w6 X := by rw [hX]; exact below2 _ _ _
        have hcc := concatR (w6.heap.size + 1) w6.heap.size a c L r HC.out.2.2.2 X ((HL.out.below HB6.out).below hbX) HC.out.1 HC.out.2.1 HC.out.2.2.1 (by rw [hX]; simp [go_sem]) (by rw [hX]; simp [go_sem]) (by rw [hX]; exact (oneR w6 r).below (below1 _ _))
        rw [hX] at hcc
        have HXE := Lib.hid hX
        have HBX6 : Hid (Below w.heap.size w X) := HB6.out.trans (hbX.mono HB6.out.size)
        clear hX hbX
        go_wp2_with fail
        refine hcc.mono ?_; clear hcc; rintro e w7 ⟨v7, rfl, ho7, hb7⟩
        rw [← HXE.out] at ho7 hb7
        have HO7 := Lib.hid (And.intro ho7 hb7)
        obtain ⟨a7, c7, rfl⟩ := (ownsRow_slc ho7).form
        clear ho7 hb7 c0 c1 c2 c3 c4 c5
        go_wp2_with fail
        go_ret2
        rw [HS.out.1, HS.out.2]
        exact ⟨_, rfl, by simpa using HO7.out.1.lower HBX6.out.size, HBX6.out.trans (HO7.out.2.mono HBX6.out.size)⟩
  · have d0 : (z != 0) = true := by simpa using h0
    have HS : Hid (stE L r = z ∧ stL L r = []) := by
      have := stE_wr (L := L) (r := r) (by rw [HZ.out]; exact h0)
      rw [HZ.out] at this; exact this
    clear h0
    go_enter Try.func9, Try.ntmps9
    go_wp2_with fail
    refine hw.mono ?_; clear hw; rintro e w5 ⟨rfl, hb5⟩
    have HB5 := Lib.hid (HBX.out.trans (hb5.mono HBX.out.size))
    clear hb5 c0 c1 c2 c3 c4 c5
    go_wp2_with fail
    go_ret2
    rw [HS.out.1, HS.out.2]
    exact ⟨_, rfl, OwnR.nil _ _, HB5.out⟩
end Go.Proofs.Ytogckefmmjbapaa
