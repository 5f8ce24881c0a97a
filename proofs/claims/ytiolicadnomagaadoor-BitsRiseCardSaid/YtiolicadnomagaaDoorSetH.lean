/-
  Layer 11's own 'first' over the landed set: the first ones of its numbers. The conditions: the set's blocks; the library's table lies as it was laid.
-/
import Derived.Test.YtiolicadnomagaaDoorSetG
namespace Go.Proofs.YtiolicadnomagaaDoor
open Go.RowKit Go.Shelf
set_option linter.unusedSimpArgs false
set_option linter.unusedVariables false

theorem seq_under : Tryd.prog.underlying 54 = some (.func #[33] #[] false) := by kernel_rfl
theorem in_seq (d : Nat) (fn : Fn) (a c : Array Value) (w : World) : (Op.equalIn (d + 1) 54 (.func fn a c) .nilFunc).run Tryd.prog w = .ok false w := by
  simp [Op.equalIn, run_underlying seq_under]
theorem eql_seq (fn : Fn) (a c : Array Value) (w : World) : (binOp .eql 54 (.func fn a c) .nilFunc).run Tryd.prog w = .ok (.bool false) w := by
  simp only [binOp]
  simp [Op.equal, Op.maxDepth, in_seq 9999]
set_option maxRecDepth 100000 in
set_option maxHeartbeats 4000000 in
/-- The closure of Each, called with layer 11's own function. -/
theorem each2_s (Bs B G N O M : Nat) (ws : List Nat) (J Jx : List Int → World → Prop) (W : World) (HN : Hid (N = 1024))
    (hJ : ∀ s A C, J s A → Below A.heap.size A C → J s C)
    (hY : ∀ pre x W1, J pre W1 → pre.length < (nums 0 ws).length → Calls Tryd.prog 36 #[.int .i64 x, .pointer (some ⟨O, 0, none⟩), .pointer (some ⟨M, 0, none⟩)] W1 fun e W' =>
      (e = .returned (.bool true) ∧ J (pre ++ [x]) W' ∧ KeepU W1 W') ∨ (e = .returned (.bool false) ∧ Jx (pre ++ [x]) W'))
    (hBs : W.cell? ⟨Bs, 0, none⟩ = some (.pointer (some ⟨B, 0, none⟩))) (hS : SetP W B G ws) (hT : TabD W) (h0 : J [] W) :
    Calls Tryd.prog 38 #[.func (.func 36) #[] #[.pointer (some ⟨O, 0, none⟩), .pointer (some ⟨M, 0, none⟩)], .pointer (some ⟨Bs, 0, none⟩)] W fun e W' => (∃ v, e = .returned v) ∧
      ((∃ ys, ys = nums 0 ws ∧ J ys W') ∨ (∃ pre, pre <+: nums 0 ws ∧ Jx pre W')) := by
  have hey := eql_yfn
  have hrw := row_s hS
  have hwl := Lib.hid hS.len
  have hwb := Lib.hid hS.bd
  rw [← HN.out] at hrw
  have hcl := clone_s G N ws W (by have := HN.out; omega) (by have := HN.out; omega) (by rw [hS.len]; exact HN.out.symm) (fun j hj => hS.row j (by have := HN.out; omega))
  have HJ := Lib.hid hJ; have HY := Lib.hid hY; have H0 := Lib.hid h0; have HT := Lib.hid hT
  clear hJ hY h0 hS hT
  go_enter Tryd.func38, Tryd.ntmps38
  go_wp2_with
    (first
      | (go_at_call 26; refine (hrw).mono ?_; rintro e w1 ⟨rfl, rfl⟩)
      | (go_at_call 39; refine (hcl).mono ?_; rintro e w2 ⟨g, c, cur, rfl, hg, hcur, hge, hb⟩))
  have HJ0 : Hid (J [] w2) := HJ.out _ _ _ H0.out hb
  have HT0 : Hid (TabD w2) := HT.out.below hb
  have HC := Lib.hid hcur
  clear hrw hcl hb H0 HT hcur hBs
  go_loopw [11] (fun i wr => ∃ (k : Nat) (pre : List Int), k ≤ N ∧ i = .int .i64 (k : Int) ∧ nums 0 ws = pre ++ nums k (ws.drop k) ∧ J pre wr ∧ TabD wr ∧ wr.heap[g]? = some (.cells cur 50 (0, 0))) (fun i _ => N - (intOf i).toNat)
  case atStart => exact ⟨0, [], Nat.zero_le _, rfl, by simp, HJ0.out, HT0.out, hg⟩
  case round =>
    clear HJ0 HT0 hg
    obtain ⟨k, pre, hk, rfl, hpre, hJr, hTr, hgr⟩ := hrel
    by_cases hlt : k < N
    · have hc : wr.cell? ⟨g, k, none⟩ = some (.int .u64 (ws.getD k 0 : Nat)) := by simp [World.cell?, hgr, HC.out k hlt]
      have hsp := nums_split ws k (by have := hwl.out; have := HN.out; omega)
      rw [hsp] at hpre
      have HP0 : Hid (nums 0 ws = pre ++ ((wbits (ws.getD k 0)).map (fun b => ((k * 64 + b : Nat) : Int)) ++ nums (k + 1) (ws.drop (k + 1)))) := hpre
      have HX0 : Hid (ws.getD k 0 < 18446744073709551616) := hwb.out k
      have HJr := Lib.hid hJr; have HTr := Lib.hid hTr; have HGr := Lib.hid hgr
      have i0 : (0 : Int) ≤ (k : Int) := by omega
      have i1 : (k : Int) < (N : Int) := by omega
      obtain ⟨hu1, hu2⟩ : wrap64 ((k : Int) + 1) = ((k + 1 : Nat) : Int) ∧ IntKind.i64.wrap ((k : Int) + 1) = ((k + 1 : Nat) : Int) := by
        have := HN.out
        exact ⟨by unfold wrap64; omega, by simp [IntKind.wrap, IntKind.signed, IntKind.bits]; omega⟩
      generalize ws.getD k 0 = x at *
      clear hpre hsp hJr hTr hgr
      go_wp2
      go_loopw [4] (fun y wz => ∃ (y' : Nat) (pr : List Int), y = .int .u64 (y' : Int) ∧ y' < 18446744073709551616 ∧ nums 0 ws = pr ++ ((wbits y').map (fun b => ((k * 64 + b : Nat) : Int)) ++ nums (k + 1) (ws.drop (k + 1))) ∧ J pr wz ∧ TabD wz ∧ wz.heap[g]? = some (.cells cur 50 (0, 0))) (fun y _ => (intOf y).toNat)
      case atStart => exact ⟨x, pre, rfl, HX0.out, HP0.out, HJr.out, HTr.out, HGr.out⟩
      case round =>
        clear HP0 HX0 HJr HTr HGr hc
        obtain ⟨y, pr, rfl, hy64, hpr, hJz, hTz, hgz⟩ := hrel
        by_cases hy0 : y = 0
        · subst hy0
          have hpr' : nums 0 ws = pr ++ nums (k + 1) (ws.drop (k + 1)) := by rw [hpr, wbits_zero]; rfl
          have HR := Lib.hid (And.intro hpr' (And.intro hJz (And.intro hTz hgz)))
          clear hpr hpr' hJz hTz hgz hy64
          go_wp2
          go_roundw
          · exact ⟨k + 1, pr, by omega, by first | with_reducible rfl | go_num, HR.out.1, HR.out.2.1, HR.out.2.2.1, HR.out.2.2.2⟩
          · simp [intOf]; omega
        · obtain ⟨hst, ht64⟩ := ctz_step y hy64 hy0
          have hzr := zeros_s y hy64 hy0 wr hTz
          obtain ⟨n1, n2, n3, n4⟩ := each_num k (Lib.ctz 64 y) (by have := HN.out; omega) ht64
          obtain ⟨ha, ha2, hlt2⟩ := each_and y hy64 hy0
          have hpr2 : nums 0 ws = (pr ++ [((k * 64 + Lib.ctz 64 y : Nat) : Int)]) ++ ((wbits (y &&& (y - 1))).map (fun b => ((k * 64 + b : Nat) : Int)) ++ nums (k + 1) (ws.drop (k + 1))) := by
            rw [hpr, hst]; simp
          have hln : pr.length < (nums 0 ws).length := by rw [hpr2]; simp
          have hR := HY.out pr ((k * 64 + Lib.ctz 64 y : Nat) : Int) wr hJz hln
          have hyn : ((y : Int) != 0) = true := by simp; omega
          have HP2 := Lib.hid hpr2; have HG := Lib.hid hgz; have HTZ := Lib.hid hTz; have HL2 := Lib.hid hlt2
          generalize k * 64 + Lib.ctz 64 y = s at *
          generalize Lib.ctz 64 y = tz at *
          generalize k * 64 = m at *
          generalize y &&& (y - 1) = y2 at *
          clear hst hpr hpr2 hln hJz hTz hgz hlt2
          have HB64 := Lib.hid hy64
          go_wp2_with (go_at_call 40; refine (hzr).mono ?_; rintro e w3 ⟨rfl, rfl⟩)
          refine hR.mono ?_
          rintro e W3 (⟨rfl, hJ3, hk3⟩ | ⟨rfl, hJx3⟩)
          · go_wp2
            go_roundw
            · exact ⟨y2, _, rfl, by have := HL2.out; have := HB64.out; omega, HP2.out, hJ3, HTZ.out.keep hk3, (hk3.1 _ _ HG.out).trans HG.out⟩
            · simp [intOf]; have := HL2.out; omega
          · go_wp2
            refine bodyPost_ret (results_none rfl _ _ _) rfl ?_
            exact ⟨⟨_, rfl⟩, .inr ⟨_, ⟨_, HP2.out.symm⟩, hJx3⟩⟩
    · obtain rfl : k = N := by omega
      have he : nums 0 ws = pre := by
        rw [hpre, List.drop_eq_nil_of_le (by have := hwl.out; have := HN.out; omega)]; simp [nums]
      have hd0 : decide ((k : Int) < (k : Int)) = false := decide_eq_false (by omega)
      have HE := Lib.hid he
      clear hpre hlt hk he hTr hgr
      go_wp2
      go_end0
      exact ⟨⟨_, rfl⟩, .inl ⟨pre, HE.out.symm, hJr⟩⟩

theorem boxed_turn {W W' : World} {B : Nat} {t : TypeId} {v : Value} {F : Nat → Prop} (h : Boxed W B t v) (k : Turn F W W') (hn : ¬ F B) : Boxed W' B t v := (k.block B h.lt hn).trans h
/-- What stands between two calls of the function: the rows told, fewer than so many. -/
structure FstJ (w : World) (O M : Nat) (m : Int) (pre : List Int) (W : World) (v : Value) : Prop where
  o : Boxed W O 26 v
  m : Boxed W M 3 (.int .i64 m)
  row : OwnO (fun j => j = O ∨ j = M) W w.heap.size 3 1 v pre.length (pre.map (Value.int .i64))
  below : Below w.heap.size w W
theorem FstJ.keep {w : World} {O M : Nat} {m : Int} {pre : List Int} {W W' : World} {v : Value} (h : FstJ w O M m pre W v) (hb : Below W.heap.size W W') : FstJ w O M m pre W' v :=
  ⟨boxed_turn (F := fun _ => False) h.o (Turn.of_below hb) (fun q => q), boxed_turn (F := fun _ => False) h.m (Turn.of_below hb) (fun q => q), h.row.below hb, h.below.trans (hb.mono h.below.size)⟩
theorem keepU_turn {W W' : World} {n₀ O : Nat} {v v' u : Value} {k : Nat} {xs : List Value} (hT : 0 < n₀) (hn : n₀ ≤ W.heap.size) (hO : n₀ ≤ O)
    (hv : Boxed W O 26 u) (hrow : W.ownsRow n₀ 3 1 v k xs) (t : Turn (fun j => v.ownBlock = some j) W W') : KeepU W (W'.setCell ⟨O, 0, none⟩ v') := by
  refine ⟨fun j c hj => ?_, ?_⟩
  · have hlt : j < W.heap.size := (Array.getElem?_eq_some_iff.1 hj).1
    have n1 : j ≠ O := fun q => by
      subst q
      have := (show W.heap[j]? = _ from hv).symm.trans hj
      simp at this
    rw [Below.heap_setCell _ _ _ j n1]
    refine t.block j hlt fun q => ?_
    rcases hrow.2 with ⟨rfl, _⟩ | ⟨g, cap, cur, rfl, _, hgb, _⟩
    · cases q
    · obtain rfl : g = j := by simpa [Value.ownBlock] using q
      have := hgb.symm.trans hj
      simp at this
  · rw [Below.heap_setCell _ _ _ _ (show _ ≠ O by omega)]
    refine t.block _ (by omega) fun q => ?_
    have := (World.ownsRow.lt hrow _ q).1
    omega
set_option maxHeartbeats 2000000 in
set_option maxRecDepth 100000 in
theorem first1_s {w : World} {O M : Nat} {m : Int} {pre : List Int} {W : World} {v : Value} (hT : 0 < w.heap.size) (hO : w.heap.size ≤ O) (hOM : O ≠ M) (h : FstJ w O M m pre W v) (hl : pre.length ≤ 100000) (x : Int) :
    Calls Tryd.prog 36 #[.int .i64 x, .pointer (some ⟨O, 0, none⟩), .pointer (some ⟨M, 0, none⟩)] W fun e W' => ∃ v', e = .returned (.bool (decide (((pre.length + 1 : Nat) : Int) < m))) ∧ FstJ w O M m (pre ++ [x]) W' v' ∧ KeepU W W' := by
  have c0 := h.o.cell
  obtain ⟨a, c, rfl⟩ := (ownsRow_slc h.row.1).form
  have H := Lib.hid h
  clear h
  go_enter Tryd.func36, Tryd.ntmps36
  go_wp2_with
    (at_builtin
     refine wpList_push1 rfl (.tmp 5) (.tmp 7) 26 rfl (fun j => j = O ∨ j = M) w.heap.size 3 1 8 (.int .i64 0) Tryd.underlying26 int_info rfl (by decide) [.int .i64 x] rfl _ _ _ rfl H.out.row rfl (by intro u hu; simp at hu; subst hu; rfl) (by omega) (by decide) H.out.below.size (fun j q => q.elim (fun q => q ▸ H.out.o.lt) (fun q => q ▸ H.out.m.lt)) ?_
     intro v1 w1 o1 t1 l1
     obtain ⟨a1, c1, rfl⟩ := (ownsRow_slc o1.1).form
     have hO1 : Boxed w1 O 26 (.slice a pre.length c) := boxed_turn H.out.o t1 (fun q => (H.out.row.2 O q).2 (Or.inl rfl))
     have hM1 : Boxed w1 M 3 (.int .i64 m) := boxed_turn H.out.m t1 (fun q => (H.out.row.2 M q).2 (Or.inr rfl))
     have hO2 := hO1.set (.slice a1 (pre.length + 1) c1)
     have t2 := turn_set (F := fun j => j = O) (Turn.refl _ w1) (p := ⟨O, 0, none⟩) (Or.inl (show O = O from rfl)) (.slice a1 (pre.length + 1) c1)
     have hM2 : Boxed (w1.setCell ⟨O, 0, none⟩ (.slice a1 (pre.length + 1) c1)) M 3 (.int .i64 m) := boxed_turn hM1 t2 (fun q => hOM q.symm)
     have hr2 := o1.turn (F' := fun j => j = O ∨ j = M) t2 (fun b q r => (o1.2 b q).2 (Or.inl r)) (fun j q => Or.inl q)
     have hb2 : Below w.heap.size w (w1.setCell ⟨O, 0, none⟩ (.slice a1 (pre.length + 1) c1)) := (H.out.below.trans (t1.below (fun j q => (World.ownsRow.lt H.out.row.1 j q).1) H.out.below.size)).trans (t2.below (fun j q => by omega) (Nat.le_trans H.out.below.size t1.size))
     have hku := keepU_turn (v' := .slice a1 (pre.length + 1) c1) hT H.out.below.size hO H.out.o H.out.row.1 t1
     have f0 := hO1.frozen; have c1' := hO1.cell; have c2 := hO2.cell; have c3 := hM2.cell
     have HF : Hid (FstJ w O M m (pre ++ [x]) (w1.setCell ⟨O, 0, none⟩ (.slice a1 (pre.length + 1) c1)) (.slice a1 (pre.length + 1) c1) ∧ KeepU W (w1.setCell ⟨O, 0, none⟩ (.slice a1 (pre.length + 1) c1))) := ⟨⟨hO2, hM2, by rw [List.length_append, List.map_append]; exact hr2, hb2⟩, hku⟩
     clear o1 t1 l1 hO1 hM1 hO2 t2 hM2 hr2 hb2 hku)
  go_ret
  exact ⟨_, by simp, HF.out.1, HF.out.2⟩
set_option maxHeartbeats 2000000 in
set_option maxRecDepth 100000 in
theorem first_s {w : World} {B : Nat} {S : List Int} {F : Nat → Prop} (h : SetR w B S F) (hT : TabD w) (m : Int) (hm : 1 ≤ m) :
    Calls Tryd.prog 20 #[.pointer (some ⟨B, 0, none⟩), .int .i64 m] w fun e w' => ∃ u, e = .returned u ∧ Sl w' u (S.take m.toNat) ∧ Below w.heap.size w w' := by
  have hin : ∀ z ∈ S, InR z := fun z hz => by have := h.ok z hz; exact ⟨by have := this.1; omega, by have := this.2; omega⟩
  have hsh := h.short
  obtain ⟨G, ws, hS, rfl, rfl⟩ := h
  have hlt := hT.lt
  have hmf : ∀ (fn : Fn) (first cap : Array Value) (w : World), (Instr.makeFunc fn first cap).run Tryd.prog w = .ok (.func fn first cap) w := fun _ _ _ _ => rfl
  have hes := eql_seq
  have HB := Lib.hid (below2 w (.cells #[.int .i64 m] 3) (.cells #[.slice none 0 0] 26))
  have hea := each_s B ((w.alloc (.cells #[.int .i64 m] 3)).alloc (.cells #[.slice none 0 0] 26))
  have hB3 := (HB.out).alloc (by simp; omega) (.cells #[.pointer (some ⟨B, 0, none⟩)] 23)
  have hbs := (Boxed.new ((w.alloc (.cells #[.int .i64 m] 3)).alloc (.cells #[.slice none 0 0] 26)) 23 (.pointer (some ⟨B, 0, none⟩))).cell
  have hJ0 : FstJ w (w.heap.size + 1) w.heap.size m [] (((w.alloc (.cells #[.int .i64 m] 3)).alloc (.cells #[.slice none 0 0] 26)).alloc (.cells #[.pointer (some ⟨B, 0, none⟩)] 23)) (.slice none 0 0) := by
    have e1 : (w.alloc (.cells #[.int .i64 m] 3)).heap.size = w.heap.size + 1 := by simp
    have b1 := Boxed.new (w.alloc (.cells #[.int .i64 m] 3)) 26 (.slice none 0 0)
    rw [e1] at b1
    exact ⟨b1.alloc _, ((Boxed.new w 3 (.int .i64 m)).alloc _).alloc _, OwnO.nil _ _ _ _ _, hB3⟩
  have hrun := each2_s (((w.alloc (.cells #[.int .i64 m] 3)).alloc (.cells #[.slice none 0 0] 26)).heap.size) B G 1024 (w.heap.size + 1) w.heap.size ws
    (fun pre W => ∃ v, FstJ w (w.heap.size + 1) w.heap.size m pre W v ∧ (pre.length : Int) < m) (fun pre W => ∃ v, FstJ w (w.heap.size + 1) w.heap.size m pre W v ∧ (pre.length : Int) = m) _ rfl
    (fun s A C ⟨v, hs, hl⟩ hb => ⟨v, hs.keep hb, hl⟩)
    (fun pre x W1 ⟨v, hs, hl⟩ hlen => (first1_s hlt (by omega) (by omega) hs (by omega) x).mono fun e W' ⟨v', he, hf, hk⟩ => by
      by_cases hq : ((pre.length + 1 : Nat) : Int) < m
      · exact Or.inl ⟨by rw [he, decide_eq_true hq], ⟨v', hf, by rw [List.length_append]; exact hq⟩, hk⟩
      · exact Or.inr ⟨by rw [he, decide_eq_false hq], ⟨v', hf, by rw [List.length_append, List.length_singleton]; omega⟩⟩)
    hbs (hS.below hB3) (hT.below hB3) ⟨_, hJ0, by simp; omega⟩
  have hrun2 : Calls Tryd.prog 38 #[.func (.func 36) #[] #[.pointer (some ⟨w.heap.size + 1, 0, none⟩), .pointer (some ⟨w.heap.size, 0, none⟩)], .pointer (some ⟨((w.alloc (.cells #[.int .i64 m] 3)).alloc (.cells #[.slice none 0 0] 26)).heap.size, 0, none⟩)] (((w.alloc (.cells #[.int .i64 m] 3)).alloc (.cells #[.slice none 0 0] 26)).alloc (.cells #[.pointer (some ⟨B, 0, none⟩)] 23)) fun e W' =>
      (∃ x, e = .returned x) ∧ ∃ v L, Boxed W' (w.heap.size + 1) 26 v ∧ Sl W' v L ∧ L = (nums 0 ws).take m.toNat ∧ Below w.heap.size w W' := hrun.mono fun e W' ⟨he, hor⟩ => ⟨he, by
    rcases hor with ⟨ys, rfl, v, hf, hl⟩ | ⟨pre, hp, v, hf, hl⟩
    · exact ⟨v, _, hf.o, SlC.sl (ownsRow_slc hf.row.1) hin, (List.take_of_length_le (by omega)).symm, hf.below⟩
    · have e1 : pre = (nums 0 ws).take m.toNat := by
        rw [List.prefix_iff_eq_take.1 hp]; congr 1; omega
      exact ⟨v, _, hf.o, SlC.sl (ownsRow_slc hf.row.1) (fun z hz => hin z (hp.subset hz)), e1, hf.below⟩⟩
  have e2 : ((w.alloc (.cells #[.int .i64 m] 3)).alloc (.cells #[.slice none 0 0] 26)).heap.size = w.heap.size + 1 + 1 := by simp
  rw [e2] at hrun2 hea
  clear hrun hJ0 hS hT hB3 hbs e2
  go_enter Tryd.func20, Tryd.ntmps20
  go_wp2_with fail
  refine hea.mono ?_; rintro e w1 ⟨rfl, rfl⟩
  go_wp2_with fail
  refine hrun2.mono ?_; rintro e w2 ⟨⟨x, rfl⟩, v, L, hbx, hsl, hL, hbl⟩
  have HLL := Lib.hid hL
  clear hL hrun2
  obtain ⟨a, c, rfl, hr1⟩ := hsl
  have c0 := hbx.cell
  have HS := Lib.hid (And.intro hr1 hbl)
  go_wp2_with fail
  go_ret
  exact ⟨_, rfl, by rw [← HLL.out]; exact ⟨a, c, rfl, HS.out.1⟩, HS.out.2⟩
end Go.Proofs.YtiolicadnomagaaDoor
