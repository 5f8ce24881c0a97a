/-
  The library's slices.Grow of the nil slice and slices.Concat of two rows of stakes, and the landed Add of layer 18. The condition: a row of at most 1000000.
-/
import Derived.Test.YtjanbaecgldjkaaStkI
import Derived.Lib.AppendZeros
namespace Go.Proofs.Ytjanbaecgldjkaa
open Go.RowKit Go.Maps
set_option linter.unusedSimpArgs false
set_option linter.unusedVariables false

set_option maxHeartbeats 1000000 in
set_option maxRecDepth 100000 in
theorem grow_s (n : Nat) (h0 : 0 < n) (hn : n ≤ 1000000) (w : World) :
    Calls Try.prog 32 #[.slice none 0 0, .int .i64 (n : Int)] w fun e w' => ∃ v, e = .returned v ∧ OwnS w' w.heap.size v [] ∧ Below w.heap.size w w' := by
  obtain ⟨i0, hi, hz0, hz1, hz2⟩ := info_parts stake_info
  have hr : ∀ ty, (Builtin.append_ #[22, 3] ty #[.slice none 0 0, .int .i64 (n : Int)]).run Try.prog w = .ok (.slice (some ⟨w.heap.size, 0, none⟩) n (grownCap w n 0 24)) (w.drew.alloc (.cells (Builtin.zeroCells #[.int .i64 0, .int .i64 0, .int .i64 0, .int .i64 0] n ++ Builtin.zeroCells #[.int .i64 0, .int .i64 0, .int .i64 0, .int .i64 0] (grownCap w n 0 24 - n)) 24)) := fun ty => by
    have := Lib.run_append_nil_zeros w 22 3 ty 24 i0 (.agg #[.int .i64 0, .int .i64 0, .int .i64 0, .int .i64 0]) .i64 .i64 Try.underlying22 Try.underlying3 hi hz0 n h0 (by rw [hz1]; omega) (by omega) (by rw [hz2]; omega)
    simpa [Value.cells] using this
  have hge := grownCap_ge w n 0 24
  have hle := grownCap_le_maxLen w n 0 24 (by unfold maxLen; omega)
  obtain ⟨cur, hcur⟩ : ∃ cur, Builtin.zeroCells #[Value.int .i64 0, .int .i64 0, .int .i64 0, .int .i64 0] n ++ Builtin.zeroCells #[Value.int .i64 0, .int .i64 0, .int .i64 0, .int .i64 0] (grownCap w n 0 24 - n) = cur := ⟨_, rfl⟩
  have hsz : cur.size = grownCap w n 0 24 * 4 := by rw [← hcur]; simp [Builtin.zeroCells]; omega
  rw [hcur] at hr
  generalize grownCap w n 0 24 = cap at *
  clear hcur hi hz0 hz1 hz2 i0
  have d1 : decide ((n : Int) < 0) = false := decide_eq_false (by omega)
  have d2 : decide ((0 : Int) < (n : Int)) = true := decide_eq_true (by omega)
  have d3 : decide (0 < n) = true := decide_eq_true h0
  have HS := Lib.hid (And.intro hsz hle)
  clear hsz hle
  go_enter Try.func32, Try.ntmps32
  go_wp2_with (at_builtin; refine Lib.wpList_append_run _ rfl (.tmp 20) (.tmp 21) 22 3 rfl _ _ rfl rfl _ _ (hr _) ?_)
  go_ret
  exact ⟨_, rfl, ⟨rfl, Or.inr ⟨w.heap.size, cap, cur, rfl, Nat.le_refl _, heap_alloc_new w _, Nat.zero_le _, HS.out.2, by rw [HS.out.1], rfl⟩⟩, (((Below.refl _ w).drew).alloc (by simp [go_sem]) _)⟩
def catS (L : List K4) (s : K4) : Nat → List K4
  | 0 => []
  | 1 => L
  | _ => L ++ [s]
/-- append of a row of stakes that lies somewhere to one that the call owns. -/
theorem wp_catS {ops : Array Oper} {rest : List Oper} {o : Oper} {a : Act} {Q : Exit → Act → World → Prop} (w : World) (hgd : o.guard = none) (s x : Operand)
    (ho : o.op = .call { callee := .builtin .append, args := #[s, x], argTypes := #[22, 22] })
    (base : Nat) (v : Value) (L M : List K4) (A : Option Addr) (c : Nat) (hs : a.eval s = v) (hown : OwnS w base v L) (hx : a.eval x = .slice A M.length c) (hr : SlC w (.slice A M.length c) 4 M.length (row4 M))
    (hlen : L.length + M.length ≤ 1000000000) (hbase : base ≤ w.heap.size)
    (h : ∀ v' w', OwnS w' base v' (L ++ M) → Below base w w' → wpList Try.prog ops Q rest (a.put o.dst v') w') :
    wpList Try.prog ops Q (o :: rest) a w := by
  refine wpList_app hgd s x 22 ho base 24 4 32 (.agg #[.int .i64 0, .int .i64 0, .int .i64 0, .int .i64 0]) Try.underlying22 stake_info rfl (by decide) v L.length (row4 L) hs hown _ M.length (row4 M) hx hr (row4_one M) hlen (by decide) hbase ?_
  intro v' w' h1 h2 _
  refine h v' w' ?_ h2
  show World.ownsRow _ _ _ _ _ _ _
  rw [List.length_append, show row4 (L ++ M) = row4 L ++ row4 M by simp [row4]]
  exact h1
set_option maxHeartbeats 4000000 in
set_option maxRecDepth 100000 in
theorem concat_s (pb qb : Nat) (a : Option Addr) (c : Nat) (L : List K4) (s : K4) (hn : L.length ≤ 1000) (w : World) (hL : RdQ w a L) (hc : L.length ≤ c) (ca : a = none → c = 0) (hz : ok4 s)
    (hp0 : w.cell? ⟨pb, 0, none⟩ = some (.slice a L.length c)) (hp1 : w.cell? ⟨pb, 1, none⟩ = some (.slice (some ⟨qb, 0, none⟩) 1 1)) (hq : SlC w (.slice (some ⟨qb, 0, none⟩) 1 1) 4 1 (cells4 s)) :
    Calls Try.prog 24 #[.slice (some ⟨pb, 0, none⟩) 2 2] w fun e w' => ∃ v, e = .returned v ∧ OwnS w' w.heap.size v (L ++ [s]) ∧ Below w.heap.size w w' := by
  obtain ⟨w0, hw0⟩ : ∃ w0, w0 = w := ⟨_, rfl⟩
  suffices h : Calls Try.prog 24 #[.slice (some ⟨pb, 0, none⟩) 2 2] w fun e w' => ∃ v, e = .returned v ∧ OwnS w' w0.heap.size v (L ++ [s]) ∧ Below w0.heap.size w0 w' by rw [hw0] at h; exact h
  have hg := grow_s (L.length + 1) (by omega) (by omega) w
  have hg : Calls Try.prog 32 #[.slice none 0 0, .int .i64 ((L.length : Int) + 1)] w fun e w' => ∃ v, e = .returned v ∧ OwnS w' w0.heap.size v [] ∧ Below w0.heap.size w0 w' := by rw [hw0]; exact hg
  have HL : Hid (SlC w0 (.slice a L.length c) 4 L.length (row4 L)) := by rw [hw0]; exact hL.slc hc ca
  have HQ : Hid (SlC w0 (.slice (some ⟨qb, 0, none⟩) [s].length 1) 4 [s].length (row4 [s])) := by
    show SlC _ _ _ _ _
    rw [hw0]; simpa [row4] using hq
  have HP : Hid (w0.cell? ⟨pb, 0, none⟩ = some (.slice a L.length c) ∧ w0.cell? ⟨pb, 1, none⟩ = some (.slice (some ⟨qb, 0, none⟩) 1 1)) := by rw [hw0]; exact ⟨hp0, hp1⟩
  clear hL hq hc ca hz hw0
  have e1 : wrap64 (0 + (L.length : Int)) = (L.length : Int) := by unfold wrap64; omega
  have e2 : wrap64 ((L.length : Int) + 1) = (L.length : Int) + 1 := by unfold wrap64; omega
  have e3 : wrap64 ((L.length : Int)) = (L.length : Int) := by unfold wrap64; omega
  have d1 : decide ((L.length : Int) < 0) = false := decide_eq_false (by omega)
  have d2 : decide ((L.length : Int) + 1 < 0) = false := decide_eq_false (by omega)
  go_enter Try.func24, Try.ntmps24
  go_wp2_with fail
  go_loopw [3, 11] (fun s i wr => wr = w ∧ ((i = .int .i64 0 ∧ s = .int .i64 0) ∨ (i = .int .i64 1 ∧ s = .int .i64 (L.length : Int)) ∨ (i = .int .i64 2 ∧ s = .int .i64 ((L.length : Int) + 1)))) (fun _ i _ => 2 - (RowKit.intOf i).toNat)
  case atStart => exact ⟨rfl, Or.inl ⟨rfl, rfl⟩⟩
  case round =>
    obtain ⟨rfl, ⟨rfl, rfl⟩ | ⟨rfl, rfl⟩ | ⟨rfl, rfl⟩⟩ := hrel
    · go_wp2_with fail
      go_roundw
      · exact ⟨by first | rfl | trivial, Or.inr (Or.inl ⟨rfl, by go_num⟩)⟩
      · simp [RowKit.intOf]
    · go_wp2_with fail
      go_roundw
      · exact ⟨by first | rfl | trivial, Or.inr (Or.inr ⟨rfl, by go_num⟩)⟩
      · simp [RowKit.intOf]
    · go_wp2_with fail
      refine hg.mono ?_; rintro e w1 ⟨v, rfl, ho, hb⟩
      clear hp0 hp1 hg e1 e2 e3 d1 d2
      go_wp2_with fail
      go_loopw [6, 27] (fun u i wr => ∃ k : Nat, k ≤ 2 ∧ i = .int .i64 (k : Int) ∧ OwnS wr w0.heap.size u (catS L s k) ∧ Below w0.heap.size w0 wr) (fun _ i _ => 2 - (RowKit.intOf i).toNat)
      case atStart => exact ⟨0, by omega, rfl, ho, hb⟩
      case round =>
        clear ho hb
        obtain ⟨k, hk, rfl, ho, hb⟩ := hrel
        have hb0 := hb.size
        have HB := Lib.hid hb; clear hb
        obtain ⟨p0, p1⟩ := HP.out
        have lp : pb < w0.heap.size := World.block_lt_of_cell? w0 _ p0
        have p0 := (HB.out.cell (p := ⟨pb, 0, none⟩) lp).trans p0
        have p1 := (HB.out.cell (p := ⟨pb, 1, none⟩) lp).trans p1
        have HZ2 := Lib.hid (HQ.out.below HB.out); have HL2 := Lib.hid (HL.out.below HB.out)
        clear lp
        rcases (by omega : k = 0 ∨ k = 1 ∨ k = 2) with rfl | rfl | rfl
        · obtain ⟨a1, cap1, rfl⟩ := (ownsRow_slc ho).form
          go_wp2_with (at_builtin; refine wp_catS wr rfl (.tmp 31) (.tmp 32) rfl w0.heap.size _ [] L a c rfl ho rfl HL2.out (by simp; omega) hb0 ?_; intro v3 w3 ho3 hb3)
          go_roundw
          · exact ⟨1, by omega, by go_num, by simpa [catS] using ho3, HB.out.trans hb3⟩
          · simp [RowKit.intOf]
        · go_wp2_with (at_builtin; refine wp_catS wr rfl (.tmp 31) (.tmp 32) rfl w0.heap.size _ L [s] (some ⟨qb, 0, none⟩) 1 rfl ho rfl HZ2.out (by simp; omega) hb0 ?_; intro v3 w3 ho3 hb3)
          go_roundw
          · exact ⟨2, by omega, by go_num, ho3, HB.out.trans hb3⟩
          · simp [RowKit.intOf]
        · go_wp2_with fail
          go_ret
          exact ⟨_, rfl, ho, HB.out⟩

set_option maxHeartbeats 4000000 in
set_option maxRecDepth 100000 in
theorem add_s (a : Option Addr) (c : Nat) (L : List K4) (s : K4) (n : Int) (w : World) (hL : RdQ w a L) (hn : L.length ≤ 1000000) (hc : L.length ≤ c) (ca : a = none → c = 0) (hs : ok4 s) :
    Calls Try.prog 9 #[.slice a L.length c, .agg #[.int .i64 s.1, .int .i64 s.2.1, .int .i64 s.2.2.1, .int .i64 s.2.2.2], .int .i64 n] w fun e w' => ∃ v, e = .returned (.tuple #[v, .int .i64 (adE L s n)]) ∧ OwnS w' w.heap.size v (adL L s n) ∧ Below w.heap.size w w' := by
  have hbx := below1 w (.cells #[.int .i64 s.1, .int .i64 s.2.1, .int .i64 s.2.2.1, .int .i64 s.2.2.2] 24)
  by_cases h40 : 400 ≤ L.length
  · have d1 : decide (400 ≤ L.length) = true := decide_eq_true h40
    have d2 : decide ((400 : Int) ≤ (L.length : Int)) = true := decide_eq_true (by omega)
    rw [show adL L s n = [] from if_pos h40, show adE L s n = 3 from if_pos h40]
    have HB := Lib.hid hbx
    clear hL hbx
    go_enter Try.func9, Try.ntmps9
    go_wp2_with fail
    go_ret2
    exact ⟨_, rfl, OwnS.nil _ _, HB.out⟩
  · have d1 : decide (400 ≤ L.length) = false := decide_eq_false h40
    have d2 : decide ((400 : Int) ≤ (L.length : Int)) = false := decide_eq_false (by omega)
    obtain ⟨g0, g1, g2, g3⟩ := new4 (w := w) (s := s) (Below.refl _ _)
    have hlt : w.heap.size < (w.alloc (.cells #[.int .i64 s.1, .int .i64 s.2.1, .int .i64 s.2.2.1, .int .i64 s.2.2.2] 24)).heap.size := by simp
    have HLW : Hid (RdQ (w.alloc (.cells #[.int .i64 s.1, .int .i64 s.2.1, .int .i64 s.2.2.1, .int .i64 s.2.2.2] 24)) a L) := hL.below hbx
    have HBX := Lib.hid hbx
    have HC := Lib.hid (And.intro hc ca)
    have HSO := Lib.hid hs
    have hln : L.length < 400 := by omega
    have hmm := @run_makeMap Try.prog
    obtain ⟨r, hr⟩ : ∃ r, r = nxe L s n := ⟨_, rfl⟩
    have HV : Hid (adE L s n = r ∧ adL L s n = if r = 0 then L ++ [s] else []) := ⟨(if_neg h40).trans hr.symm, by rw [hr]; exact if_neg h40⟩
    obtain ⟨av, hav⟩ : ∃ x, x = adE L s n := ⟨_, rfl⟩
    obtain ⟨al, hal⟩ : ∃ x, x = adL L s n := ⟨_, rfl⟩
    rw [← hav, ← hal] at HV ⊢
    have HRE := Lib.hid hr
    clear hL hbx hc ca hs hav hal hr
    go_enter Try.func9, Try.ntmps9
    go_wp2_with fail
    have HSZ : Hid ((w.alloc (.cells #[.int .i64 s.1, .int .i64 s.2.1, .int .i64 s.2.2.1, .int .i64 s.2.2.2] 24)).heap.size = w.heap.size + 1) := by show _ = _; simp
    generalize hW0 : w.alloc (.cells #[.int .i64 s.1, .int .i64 s.2.1, .int .i64 s.2.2.1, .int .i64 s.2.2.2] 24) = W0 at *
    clear hW0
    have HM0 : Hid (HoR (W0.alloc (.map #[] 0)) W0.heap.size W0.heap.size []) := HoR.made W0 W0.heap.size (Nat.le_refl _)
    have HB0 := Lib.hid (below1 W0 (.map #[] 0))
    have HG : Hid (∀ wr, Below W0.heap.size W0 wr → wr.cell? ⟨w.heap.size, 0, none⟩ = some (.int .i64 s.1) ∧ wr.cell? ⟨w.heap.size, 1, none⟩ = some (.int .i64 s.2.1) ∧ wr.cell? ⟨w.heap.size, 2, none⟩ = some (.int .i64 s.2.2.1) ∧ wr.cell? ⟨w.heap.size, 3, none⟩ = some (.int .i64 s.2.2.2)) := fun wr h => ⟨(h.cell (p := ⟨w.heap.size, 0, none⟩) hlt).trans g0, (h.cell (p := ⟨w.heap.size, 1, none⟩) hlt).trans g1, (h.cell (p := ⟨w.heap.size, 2, none⟩) hlt).trans g2, (h.cell (p := ⟨w.heap.size, 3, none⟩) hlt).trans g3⟩
    obtain ⟨hb, hhb⟩ : ∃ hb, hb = W0.heap.size := ⟨_, rfl⟩
    have HM0 : Hid (HoR (W0.alloc (.map #[] 0)) W0.heap.size hb []) := by show HoR _ _ _ _; rw [hhb]; exact HM0.out
    rw [← HSZ.out, ← hhb]
    generalize W0.alloc (.map #[] 0) = W at *
    clear d1 d2 h40 hmm g0 g1 g2 g3 hlt hhb
    go_loopw [18] (fun i wr => ∃ k : Nat, k ≤ L.length ∧ i = .int .i64 (k : Int) ∧ HoR wr W0.heap.size hb (L.take k) ∧ Below W0.heap.size W0 wr) (fun i _ => L.length - (RowKit.intOf i).toNat)
    case atStart => exact ⟨0, Nat.zero_le _, rfl, HM0.out, HB0.out⟩
    case round =>
      clear HM0 HB0
      obtain ⟨k, hk, rfl, hm, hb0⟩ := hrel
      by_cases hlt : k < L.length
      · obtain ⟨b, off, rfl, d0, d1, d2, d3⟩ := (HLW.out.below hb0).2 k hlt
        have i0 : (0 : Int) ≤ (k : Int) := by omega
        have i1 : (k : Int) < (L.length : Int) := by omega
        have e1 : wrap64 ((k : Int) + 1) = (k : Int) + 1 := by unfold wrap64; omega
        have HOK : Hid (ok4 (L.getD k z4)) := HLW.out.at hlt
        have HOKS : Hid (∀ t ∈ L.take k, ok4 t) := fun t ht => HLW.out.1 t (List.mem_of_mem_take ht)
        have HT : Hid (L.take (k + 1) = L.take k ++ [L.getD k z4]) := take4 hlt
        have hbx := below1 wr (.cells #[.int .i64 (L.getD k z4).1, .int .i64 (L.getD k z4).2.1, .int .i64 (L.getD k z4).2.2.1, .int .i64 (L.getD k z4).2.2.2] 24)
        obtain ⟨g0, g1, g2, g3⟩ := new4 (w := wr) (s := L.getD k z4) (Below.refl _ _)
        have hnx := put_s (hm.below hbx) (Below.refl _ _) HOKS.out (by rw [List.length_take]; omega) (L.getD k z4) HOK.out
        have HB : Hid (Below W0.heap.size W0 (wr.alloc (.cells #[.int .i64 (L.getD k z4).1, .int .i64 (L.getD k z4).2.1, .int .i64 (L.getD k z4).2.2.1, .int .i64 (L.getD k z4).2.2.2] 24))) := hb0.trans (hbx.mono hb0.size)
        rw [← HT.out] at hnx
        generalize L.getD k z4 = t at *
        clear hm hb0 hbx
        go_wp2_with fail
        generalize hW : wr.alloc (.cells #[.int .i64 t.1, .int .i64 t.2.1, .int .i64 t.2.2.1, .int .i64 t.2.2.2] 24) = W' at *
        clear hW
        refine hnx.mono ?_; clear hnx; rintro e w4 ⟨rfl, hm4, hb4, -⟩
        have HM4 := Lib.hid hm4
        have HB4 : Hid (Below W0.heap.size W0 w4) := HB.out.trans hb4
        clear hb4 hm4 g0 g1 g2 g3 d0 d1 d2 d3
        go_wp2_with fail
        go_roundw
        · exact ⟨k + 1, by omega, by go_num, HM4.out, HB4.out⟩
        · simp [RowKit.intOf]; omega
      · obtain rfl : k = L.length := by omega
        have hd0 : decide ((L.length : Int) < (L.length : Int)) = false := decide_eq_false (by omega)
        rw [List.take_length] at hm
        have hnx := next_s hm hb0.size HLW.out.1 (by omega) s HSO.out n
        rw [← HRE.out] at hnx
        obtain ⟨g0, g1, g2, g3⟩ := HG.out wr hb0
        have HB := Lib.hid hb0
        clear hm hb0
        go_wp2_with fail
        refine hnx.mono ?_; clear hnx; rintro e w5 ⟨rfl, -, hb5⟩
        have HB5 : Hid (Below W0.heap.size W0 w5) := HB.out.trans hb5
        clear hb5 g0 g1 g2 g3
        by_cases h0 : r = 0
        · have HAV : Hid (av = 0 ∧ al = L ++ [s]) := ⟨HV.out.1.trans h0, HV.out.2.trans (if_pos h0)⟩
          obtain ⟨g0, g1, g2, g3⟩ := HG.out w5 HB5.out
          obtain ⟨X, hX⟩ : ∃ X, X = (w5.alloc (.cells #[.int .i64 s.1, .int .i64 s.2.1, .int .i64 s.2.2.1, .int .i64 s.2.2.2] 24)).alloc (.cells #[.slice a L.length c, .slice (some ⟨w5.heap.size, 0, none⟩) 1 1] 22) := ⟨_, rfl⟩
          have hbX : Below w5.heap.size w5 X := by rw [hX]; exact below2 _ _ _
          have hcc := concat_s (w5.heap.size + 1) w5.heap.size a c L s (by omega) X ((HLW.out.below HB5.out).below hbX) HC.out.1 HC.out.2 HSO.out (by rw [hX]; simp [go_sem]) (by rw [hX]; simp [go_sem]) (by rw [hX]; exact (one4 w5 s).below (below1 _ _))
          rw [hX] at hcc
          have HXE := Lib.hid hX
          have HBX5 : Hid (Below W0.heap.size W0 X) := HB5.out.trans (hbX.mono HB5.out.size)
          clear hX hbX
          subst h0
          go_wp2_with fail
          refine hcc.mono ?_; clear hcc; rintro e w6 ⟨v6, rfl, ho6, hb6⟩
          rw [← HXE.out] at ho6 hb6
          have HO6 := Lib.hid (And.intro ho6 hb6)
          obtain ⟨a6, c6, rfl⟩ := (ownsRow_slc ho6).form
          clear ho6 hb6 g0 g1 g2 g3
          go_wp2_with fail
          go_ret2
          rw [HAV.out.1, HAV.out.2]
          have hB6 : Below W0.heap.size W0 w6 := HBX5.out.trans (HO6.out.2.mono HBX5.out.size)
          exact ⟨_, rfl, by simpa using HO6.out.1.lower (Nat.le_trans HBX.out.size HBX5.out.size), HBX.out.trans (hB6.mono HBX.out.size)⟩
        · have HAV : Hid (av = r ∧ al = []) := ⟨HV.out.1, HV.out.2.trans (if_neg h0)⟩
          have e0 : (r != 0) = true := by simpa using h0
          clear h0
          go_wp2_with fail
          go_ret2
          rw [HAV.out.1, HAV.out.2]
          exact ⟨_, rfl, OwnS.nil _ _, HBX.out.trans (HB5.out.mono HBX.out.size)⟩
end Go.Proofs.Ytjanbaecgldjkaa
