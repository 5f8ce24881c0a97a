/-
  The landed set's Each, as an iterator: what its closure asks of a loop's body, and gives; slices.Clone on words. The conditions: the set's blocks; the library's table lies as it was laid.
-/
import Derived.Test.YtiolicadnomagaaDoorSetB
import Derived.Test.YtiolicadnomagaaDoorIntB0
import Derived.RangeFuncBox
import Derived.RangeFuncLeaves
import Derived.RangeFuncCalls
import Derived.RangeFuncBound
import Derived.Shelf.Abstract
import Derived.OwnWalkIn
import Derived.TacticsInMore
import Derived.LoopNIn
import Derived.LoopIn
import Derived.Maps.AppendAt
import Derived.Laws.Cover3
namespace Go.Proofs.YtiolicadnomagaaDoor
open Go.RowKit Go.Shelf
set_option linter.unusedSimpArgs false
set_option linter.unusedVariables false
attribute [local go_sem] Oper.semAt_some

/-- Words, cell by cell. -/
def u64s (ws : List Nat) : List Value := ws.map fun (x : Nat) => Value.int .u64 (x : Int)
/-- Blocks of words, and the library's table, are kept. -/
def KeepU (W W' : World) : Prop := (∀ (k : Nat) (c : Array Value), W.heap[k]? = some (.cells c 50 (0, 0)) → W'.heap[k]? = W.heap[k]?) ∧ W'.heap[0]? = W.heap[0]?
theorem KeepU.refl (W : World) : KeepU W W := ⟨fun _ _ _ => rfl, rfl⟩
theorem KeepU.trans {A B C : World} (h : KeepU A B) (k : KeepU B C) : KeepU A C := ⟨fun j c hj => (k.1 j c ((h.1 j c hj).trans hj)).trans (h.1 j c hj), k.2.trans h.2⟩
theorem TabD.keep {w w' : World} (h : TabD w) (k : KeepU w w') : TabD w' := fun j hj => by
  rw [← h j hj]; unfold World.cell?; rw [k.2]
theorem TabD.lt {w : World} (h : TabD w) : 0 < w.heap.size := World.block_lt_of_cell? w _ (h 0 (by omega))
theorem keepU_b {w : World} (ht : 0 < w.heap.size) (W : World) (l : Nat) (o o' : Obj) (hl : w.heap.size ≤ l) (h : W.heap[l]? = some o) (hc : o.isCells = false) (_ : o.isWalk = false) : KeepU W (W.putObj l o') :=
  ⟨fun k c hk => World.putObj_heap_other (fun q => by subst q; rw [hk] at h; cases h; cases hc), World.putObj_heap_other (by omega)⟩
theorem keepU_push {W w1 : World} {n₀ B : Nat} {t e : TypeId} {size : Nat} {v v' : Value} {k : Nat} {xs : List Value} {tmp : Obj} (hT : 0 < n₀) (hn : n₀ ≤ W.heap.size) (hB : n₀ ≤ B)
    (hv : Boxed W B t v) (ht : t ≠ 50) (hrow : W.ownsRow n₀ e size v k xs) (he : e ≠ 50) (hgrow : (W.alloc tmp).grownBy w1 v.ownBlock) : KeepU W (w1.setCell ⟨B, 0, none⟩ v') := by
  have hn2' : ∀ j, v.ownBlock = some j → n₀ ≤ j := by
    intro j q
    rcases hrow.2 with ⟨rfl, _⟩ | ⟨g, cap, cur, rfl, hg, _⟩
    · simp [Value.ownBlock] at q
    · obtain rfl : g = j := by simpa [Value.ownBlock] using q
      exact hg
  refine ⟨fun j c hj => ?_, ?_⟩
  · have hlt : j < W.heap.size := (Array.getElem?_eq_some_iff.1 hj).1
    have n1 : j ≠ B := fun q => by
      subst q
      have := (show W.heap[j]? = _ from hv).symm.trans hj
      simp at this; exact ht this.2
    have n2 : some j ≠ v.ownBlock := by
      rcases hrow.2 with ⟨rfl, _⟩ | ⟨g, cap, cur, rfl, _, hgb, _⟩
      · simp [Value.ownBlock]
      · intro q
        obtain rfl : j = g := by simpa [Value.ownBlock] using q
        have := hgb.symm.trans hj
        simp at this; exact he this.2
    rw [Below.heap_setCell _ _ _ j n1, hgrow.block j (by simp; omega) n2]
    exact Below.heap_alloc W tmp j hlt
  · rw [Below.heap_setCell _ _ _ _ (show _ ≠ B by omega), hgrow.block _ (Nat.lt_of_lt_of_le hT (Nat.le_trans hn (by simp))) (fun q => by have := hn2' _ q.symm; omega)]
    exact Below.heap_alloc W tmp _ (by omega)

set_option maxHeartbeats 1000000 in
theorem clone_s (G N : Nat) (ws : List Nat) (w : World) (hN : 0 < N) (hN2 : N ≤ 2000) (hl : ws.length = N) (hc : ∀ j, j < N → w.cell? ⟨G, j, none⟩ = some (.int .u64 (ws.getD j 0 : Nat))) :
    Calls Tryd.prog 39 #[.slice (some ⟨G, 0, none⟩) N N] w fun e w' => ∃ g c cur, e = .returned (.slice (some ⟨g, 0, none⟩) N c) ∧ w'.heap[g]? = some (.cells cur 50 (0, 0)) ∧ (∀ j, j < N → cur[j]? = some (.int .u64 (ws.getD j 0 : Nat))) ∧ w.heap.size ≤ g ∧ Below w.heap.size w w' := by
  have he := eql_sl
  have hr : SlC w (.slice (some ⟨G, 0, none⟩) N N) 1 N (u64s ws) := ⟨_, _, rfl, Nat.le_refl _, fun q => by (cases q), by simp [u64s, hl], fun j hj => ⟨G, 0, rfl, by
    have hj' : j < ws.length := by simpa [u64s] using hj
    rw [Nat.zero_add, hc j (by omega)]
    simp [u64s, hj', List.getD]⟩⟩
  have hro : (w.alloc (.cells #[] 50)).ownsRow w.heap.size 50 1 (.slice (some ⟨w.heap.size, 0, none⟩) 0 0) 0 [] :=
    World.ownsRow_lit (base := w.heap.size) (e := 50) (size := 1) w #[] 0 (Nat.le_refl _) (by unfold maxLen; omega) rfl
  have hone : ∀ u ∈ u64s ws, u.oneCell' = true := by
    intro u hu
    obtain ⟨z, _, rfl⟩ := List.mem_map.1 hu
    rfl
  have HR := Lib.hid hr; have HO := Lib.hid hro
  clear hc hr hro
  go_enter Tryd.func39, Tryd.ntmps39
  go_wp2_with
    (at_builtin
     refine wpList_app rfl (.tmp 5) (.tmp 6) 43 rfl w.heap.size 50 1 8 (.int .u64 0) Tryd.underlying43 u64_info rfl (by decide) _ 0 [] rfl HO.out _ N (u64s ws) rfl (HR.out.below (below1 _ _)) hone (by omega) (by omega) (by simp) ?_
     intro v1 w1 o1 b1 g1
     obtain ⟨a1, c1, rfl⟩ := (ownsRow_slc o1).form
     have H1 := Lib.hid (And.intro o1 b1)
     clear o1 b1 g1)
  go_ret
  obtain ⟨o1, b1⟩ := H1.out
  refine ?_
  rcases o1.2 with ⟨_, h0⟩ | ⟨g, cap, cur, hv, hb, hg, _, _, _, htk⟩
  · omega
  · cases hv
    refine ⟨g, c1, cur, by simp, hg, fun j hj => ?_, hb, (below1 w _).trans (b1.mono (Nat.le_refl _))⟩
    have h := congrArg (fun l => l[j]?) htk
    simp only [List.getElem?_take, List.nil_append] at h
    rw [if_pos (by omega), Array.getElem?_toList] at h
    rw [h]
    have hj' : j < ws.length := by omega
    simp [u64s, hj', List.getD]

theorem each_s (B : Nat) (w : World) : Calls Tryd.prog 31 #[.pointer (some ⟨B, 0, none⟩)] w fun e w' => e = .returned (.func (.func 38) #[] #[.pointer (some ⟨w.heap.size, 0, none⟩)]) ∧ w' = w.alloc (.cells #[.pointer (some ⟨B, 0, none⟩)] 23) := by
  have hmf : ∀ (fn : Fn) (first cap : Array Value) (w : World), (Instr.makeFunc fn first cap).run Tryd.prog w = .ok (.func fn first cap) w := fun _ _ _ _ => rfl
  go_enter Tryd.func31, Tryd.ntmps31
  go_wp2_with fail
  go_ret
  exact ⟨rfl, rfl⟩
theorem yfn_under : Tryd.prog.underlying 33 = some (.func #[3] #[4] false) := by kernel_rfl
theorem in_yfn (d : Nat) (fn : Fn) (a c : Array Value) (w : World) : (Op.equalIn (d + 1) 33 (.func fn a c) .nilFunc).run Tryd.prog w = .ok false w := by
  simp [Op.equalIn, run_underlying yfn_under]
theorem eql_yfn (fn : Fn) (a c : Array Value) (w : World) : (binOp .eql 33 (.func fn a c) .nilFunc).run Tryd.prog w = .ok (.bool false) w := by
  simp only [binOp]
  simp [Op.equal, Op.maxDepth, in_yfn 9999]
/-- The steps of a word's walk. -/
theorem each_num (k t : Nat) (hk : k < 1024) (ht : t < 64) : IntKind.i64.wrap ((k : Int) * 64) = ((k * 64 : Nat) : Int) ∧ wrap64 ((k : Int) * 64) = ((k * 64 : Nat) : Int) ∧ IntKind.i64.wrap (((k * 64 : Nat) : Int) + (t : Int)) = ((k * 64 + t : Nat) : Int) ∧ wrap64 (((k * 64 : Nat) : Int) + (t : Int)) = ((k * 64 + t : Nat) : Int) := by
  refine ⟨?_, ?_, ?_, ?_⟩
  · simp [IntKind.wrap, IntKind.signed, IntKind.bits]; omega
  · unfold wrap64; omega
  · simp [IntKind.wrap, IntKind.signed, IntKind.bits]; omega
  · unfold wrap64; omega
theorem each_and (y : Nat) (hy : y < 18446744073709551616) (h0 : y ≠ 0) : bits .and .u64 (y : Int) (IntKind.u64.wrap ((y : Int) - 1)) = ((y &&& (y - 1) : Nat) : Int) ∧ bits .and .u64 (y : Int) ((y : Int) - 1) = ((y &&& (y - 1) : Nat) : Int) ∧ y &&& (y - 1) < y := by
  have e : IntKind.u64.wrap ((y : Int) - 1) = ((y - 1 : Nat) : Int) := by rw [IntKind.wrap_u64]; omega
  have h : y &&& (y - 1) ≤ y - 1 := Nat.and_le_right
  have e2 : ((y : Int) - 1) = ((y - 1 : Nat) : Int) := by omega
  exact ⟨by rw [e]; exact bits_and_u64_nat _ _ hy (by omega), by rw [e2]; exact bits_and_u64_nat _ _ hy (by omega), by omega⟩

/-- What is left of the set behind k words. -/
theorem nums_split (ws : List Nat) (k : Nat) (h : k < ws.length) : nums k (ws.drop k) = (wbits (ws.getD k 0)).map (fun b => ((k * 64 + b : Nat) : Int)) ++ nums (k + 1) (ws.drop (k + 1)) := by
  rw [List.drop_eq_getElem_cons h, show ws.getD k 0 = ws[k] by simp [List.getD, h]]
  rfl
set_option maxRecDepth 100000 in
set_option maxHeartbeats 4000000 in
/-- The closure of Each, in a loop over it: for each loop's body that keeps the blocks of words. -/
theorem each1_in (n : Nat) (hn : 3 ≤ n) (l Bs B G N : Nat) (ws : List Nat) (J Jx : List Int → World → Prop) (W : World) (HN : Hid (N = 1024))
    (hJ : ∀ s A C, J s A → Below A.heap.size A C → J s C)
    (hY : ∀ pre x W1, J pre W1 → pre.length < (nums 0 ws).length → YieldAt Fence.wide (n - 1) Tryd.prog l #[.int .i64 x] W1 fun e W' =>
      (e = .returned (.bool true) ∧ J (pre ++ [x]) W' ∧ KeepU W1 W') ∨ (e = .returned (.bool false) ∧ Jx (pre ++ [x]) W'))
    (hBs : W.cell? ⟨Bs, 0, none⟩ = some (.pointer (some ⟨B, 0, none⟩))) (hS : SetP W B G ws) (hT : TabD W) (h0 : J [] W) :
    CallsIn Fence.wide n Tryd.prog 38 #[.func (.yield l) #[] #[], .pointer (some ⟨Bs, 0, none⟩)] W fun e W' => (∃ v, e = .returned v) ∧
      ((∃ ys, ys = nums 0 ws ∧ J ys W') ∨ (∃ pre, pre <+: nums 0 ws ∧ Jx pre W')) := by
  have hey := eql_yfn
  have hrw := row_s hS
  have hwl := Lib.hid hS.len
  have hwb := Lib.hid hS.bd
  rw [← HN.out] at hrw
  have hcl := clone_s G N ws W (by have := HN.out; omega) (by have := HN.out; omega) (by rw [hS.len]; exact HN.out.symm) (fun j hj => hS.row j (by have := HN.out; omega))
  have HJ := Lib.hid hJ; have HY := Lib.hid hY; have H0 := Lib.hid h0; have HT := Lib.hid hT
  clear hJ hY h0 hS hT
  refine callsIn_of_wp Tryd.func38 rfl trivial ?_ rfl
  simp only [Tryd.ntmps38, List.size_toArray, List.length_cons, List.length_nil, Nat.reduceAdd, Nat.reduceSub, Array.replicate_succ, Array.replicate_zero, List.push_toArray, List.append_toArray, List.nil_append, List.cons_append]
  gi_wp2_with
    (first
      | (refine ⟨trivial, fun _ => by omega, ?_⟩; gi_at_call 26; refine (callsIn_wide.2 hrw).mono ?_; rintro e w1 ⟨rfl, rfl⟩)
      | (refine ⟨trivial, fun _ => by omega, ?_⟩; gi_at_call 39; refine (callsIn_wide.2 hcl).mono ?_; rintro e w2 ⟨g, c, cur, rfl, hg, hcur, hge, hb⟩))
  have HJ0 : Hid (J [] w2) := HJ.out _ _ _ H0.out hb
  have HT0 : Hid (TabD w2) := HT.out.below hb
  have HC := Lib.hid hcur
  clear hrw hcl hb H0 HT hcur hBs
  gi_loopw [11] (fun i wr => ∃ (k : Nat) (pre : List Int), k ≤ N ∧ i = .int .i64 (k : Int) ∧ nums 0 ws = pre ++ nums k (ws.drop k) ∧ J pre wr ∧ TabD wr ∧ wr.heap[g]? = some (.cells cur 50 (0, 0))) (fun i _ => N - (intOf i).toNat)
  case atStart => exact ⟨0, [], Nat.zero_le _, rfl, by simp, HJ0.out, HT0.out, hg⟩
  case round =>
    clear HJ0 HT0 hg
    obtain ⟨k, pre, hk, rfl, hpre, hJr, hTr, hgr⟩ := hrel
    by_cases hlt : k < N
    · have hc : wr.cell? ⟨g, k, none⟩ = some (.int .u64 (ws.getD k 0 : Nat)) := by simp [World.cell?, hgr, HC.out k hlt]
      have hsp := nums_split ws k (by have := hwl.out; have := HN.out; omega)
      rw [hsp] at hpre
      have HP0 : Hid (nums 0 ws = pre ++ ((wbits (ws.getD k 0)).map (fun b => ((k * 64 + b : Nat) : Int)) ++ nums (k + 1) (ws.drop (k + 1)))) := hpre
      have HX0 : Hid (ws.getD k 0 < 18446744073709551616) := hwb.out k
      have HJr := Lib.hid hJr; have HTr := Lib.hid hTr; have HGr := Lib.hid hgr
      have i0 : (0 : Int) ≤ (k : Int) := by omega
      have i1 : (k : Int) < (N : Int) := by omega
      obtain ⟨hu1, hu2⟩ : wrap64 ((k : Int) + 1) = ((k + 1 : Nat) : Int) ∧ IntKind.i64.wrap ((k : Int) + 1) = ((k + 1 : Nat) : Int) := by
        have := HN.out
        exact ⟨by unfold wrap64; omega, by simp [IntKind.wrap, IntKind.signed, IntKind.bits]; omega⟩
      generalize ws.getD k 0 = x at *
      clear hpre hsp hJr hTr hgr
      gi_wp2
      gi_loopw [4] (fun y wz => ∃ (y' : Nat) (pr : List Int), y = .int .u64 (y' : Int) ∧ y' < 18446744073709551616 ∧ nums 0 ws = pr ++ ((wbits y').map (fun b => ((k * 64 + b : Nat) : Int)) ++ nums (k + 1) (ws.drop (k + 1))) ∧ J pr wz ∧ TabD wz ∧ wz.heap[g]? = some (.cells cur 50 (0, 0))) (fun y _ => (intOf y).toNat)
      case atStart => exact ⟨x, pre, rfl, HX0.out, HP0.out, HJr.out, HTr.out, HGr.out⟩
      case round =>
        clear HP0 HX0 HJr HTr HGr hc
        obtain ⟨y, pr, rfl, hy64, hpr, hJz, hTz, hgz⟩ := hrel
        by_cases hy0 : y = 0
        · subst hy0
          have hpr' : nums 0 ws = pr ++ nums (k + 1) (ws.drop (k + 1)) := by rw [hpr, wbits_zero]; rfl
          have HR := Lib.hid (And.intro hpr' (And.intro hJz (And.intro hTz hgz)))
          clear hpr hpr' hJz hTz hgz hy64
          gi_wp2
          go_roundw
          · exact ⟨k + 1, pr, by omega, by first | with_reducible rfl | go_num, HR.out.1, HR.out.2.1, HR.out.2.2.1, HR.out.2.2.2⟩
          · simp [intOf]; omega
        · obtain ⟨hst, ht64⟩ := ctz_step y hy64 hy0
          have hzr := zeros_s y hy64 hy0 wr hTz
          obtain ⟨n1, n2, n3, n4⟩ := each_num k (Lib.ctz 64 y) (by have := HN.out; omega) ht64
          obtain ⟨ha, ha2, hlt2⟩ := each_and y hy64 hy0
          have hpr2 : nums 0 ws = (pr ++ [((k * 64 + Lib.ctz 64 y : Nat) : Int)]) ++ ((wbits (y &&& (y - 1))).map (fun b => ((k * 64 + b : Nat) : Int)) ++ nums (k + 1) (ws.drop (k + 1))) := by
            rw [hpr, hst]; simp
          have hln : pr.length < (nums 0 ws).length := by rw [hpr2]; simp
          obtain ⟨fn, tmps, assign, body, hy, hR⟩ := HY.out pr ((k * 64 + Lib.ctz 64 y : Nat) : Int) wr hJz hln
          have hyn : ((y : Int) != 0) = true := by simp; omega
          have HP2 := Lib.hid hpr2; have HG := Lib.hid hgz; have HTZ := Lib.hid hTz; have HL2 := Lib.hid hlt2
          generalize k * 64 + Lib.ctz 64 y = s at *
          generalize Lib.ctz 64 y = tz at *
          generalize k * 64 = m at *
          generalize y &&& (y - 1) = y2 at *
          clear hst hpr hpr2 hln hJz hTz hgz hlt2
          have HB64 := Lib.hid hy64
          gi_wp2_with (refine ⟨trivial, fun _ => by omega, ?_⟩; gi_at_call 40; refine (callsIn_wide.2 hzr).mono ?_; rintro e w3 ⟨rfl, rfl⟩)
          refine ⟨fun _ => by omega, hR.mono ?_⟩
          rintro e W3 (⟨rfl, hJ3, hk3⟩ | ⟨rfl, hJx3⟩)
          · gi_wp2
            go_roundw
            · exact ⟨y2, _, rfl, by have := HL2.out; have := HB64.out; omega, HP2.out, hJ3, HTZ.out.keep hk3, (hk3.1 _ _ HG.out).trans HG.out⟩
            · simp [intOf]; have := HL2.out; omega
          · gi_wp2
            refine bodyPost_ret (results_none rfl _ _ _) rfl ?_
            exact ⟨⟨_, rfl⟩, .inr ⟨_, ⟨_, HP2.out.symm⟩, hJx3⟩⟩
    · obtain rfl : k = N := by omega
      have he : nums 0 ws = pre := by
        rw [hpre, List.drop_eq_nil_of_le (by have := hwl.out; have := HN.out; omega)]; simp [nums]
      have hd0 : decide ((k : Int) < (k : Int)) = false := decide_eq_false (by omega)
      have HE := Lib.hid he
      clear hpre hlt hk he hTr hgr
      gi_wp2
      go_end0
      exact ⟨⟨_, rfl⟩, .inl ⟨pre, HE.out.symm, hJr⟩⟩
end Go.Proofs.YtiolicadnomagaaDoor
