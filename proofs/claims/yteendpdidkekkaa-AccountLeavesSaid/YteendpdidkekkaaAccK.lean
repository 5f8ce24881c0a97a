/-
  The library's slices.Backward over a row of numbers; the landed Walk's closure and Walk. The condition: at most 1000 accounts.
-/
import Derived.Test.YteendpdidkekkaaAccE
import Derived.Test.YteendpdidkekkaaWideM
import Derived.RangeFuncBox
import Derived.RangeFuncLeaves
import Derived.RangeFuncCalls
import Derived.RangeFuncBound
import Derived.Shelf.Abstract
import Derived.OwnWalkIn
import Derived.TacticsInMore
import Derived.LoopNIn
import Derived.LoopIn
import Derived.Maps.AppendAt
import Derived.Maps.OwnIn
import Derived.Laws.Cover3
namespace Go.Proofs.Yteendpdidkekkaa
open Go.RowKit Go.Shelf
set_option linter.unusedSimpArgs false
set_option linter.unusedVariables false
attribute [local go_sem] Oper.semAt_some

/-- A row from its end on, with the places. -/
def bkl (L : List Int) : List (Int × Int) := ((List.range L.length).map fun i : Nat => ((i : Int), L.getD i 0)).reverse
theorem bkl_len (L : List Int) : (bkl L).length = L.length := by simp [bkl]
theorem bkl_at {L : List Int} {k q : Nat} (hq : k + q + 1 = L.length) : (bkl L).take (k + 1) = (bkl L).take k ++ [((q : Int), L.getD q 0)] := by
  have h : (bkl L)[k]? = some ((q : Int), L.getD q 0) := by
    unfold bkl
    rw [List.getElem?_reverse (by simp; omega), List.getElem?_map, List.length_map, List.length_range, show L.length - 1 - k = q by omega, List.getElem?_range (by omega)]
    rfl
  rw [List.take_add_one, h]; rfl
theorem bkl_map (L : List Int) (d : Int) : (bkl L).map (fun x => (x.2, d)) = (L.map fun c => (c, d)).reverse := by
  unfold bkl
  rw [List.map_reverse, List.map_map]
  congr 1
  refine List.ext_getElem (by simp) fun i h1 h2 => ?_
  have hi : i < L.length := by simpa using h2
  simp [List.getD, hi]
theorem backw_c (a : Option Addr) (n c : Nat) (w : World) :
    Calls Try.prog 54 #[.slice a n c] w fun e w' => e = .returned (.func (.func 63) #[] #[.pointer (some ⟨w.heap.size, 0, none⟩)]) ∧ w' = w.alloc (.cells #[.slice a n c] 30) := by
  have hmf : ∀ (fn : Fn) (first cap : Array Value) (w : World), (Instr.makeFunc fn first cap).run Try.prog w = .ok (.func fn first cap) w := fun _ _ _ _ => rfl
  go_enter Try.func54, Try.ntmps54
  go_wp2_with fail
  go_ret
  exact ⟨rfl, rfl⟩
/-- What a loop's body keeps: what lies below n₀, and one block. -/
def Kb (n₀ Bs : Nat) (A B : World) : Prop := Below n₀ A B ∧ B.heap[Bs]? = A.heap[Bs]?
theorem Kb.refl (n₀ Bs : Nat) (A : World) : Kb n₀ Bs A A := ⟨Below.refl _ _, rfl⟩
theorem Kb.trans {n₀ Bs : Nat} {A B C : World} (h : Kb n₀ Bs A B) (k : Kb n₀ Bs B C) : Kb n₀ Bs A C := ⟨h.1.trans k.1, k.2.trans h.2⟩
theorem kb_b {n₀ Bs : Nat} {w : World} (hn : n₀ ≤ w.heap.size) (hB : Bs < w.heap.size) (W : World) (l : Nat) (o o' : Obj) (hl : w.heap.size ≤ l) (h : W.heap[l]? = some o) (h1 : o.isCells = false) (h2 : o.isWalk = false) : Kb n₀ Bs W (W.putObj l o') :=
  ⟨belowK_b hn W l o o' hl h h1 h2, (grownBy_putObj' W l o').block Bs (by have := (Array.getElem?_eq_some_iff.1 h).1; omega) (fun e => by cases e; omega)⟩
theorem cell_same {A B : World} {k i : Nat} {v : Value} (h : B.heap[k]? = A.heap[k]?) (c : A.cell? ⟨k, i, none⟩ = some v) : B.cell? ⟨k, i, none⟩ = some v := by
  unfold World.cell? at *
  simp only [h]; exact c

set_option maxRecDepth 100000 in
set_option maxHeartbeats 4000000 in
/-- Its closure, in a loop over it. -/
theorem backw1_in (n : Nat) (hn : 1 ≤ n) (l Bs n₀ : Nat) (a : Option Addr) (c : Nat) (L : List Int) (hl : L.length ≤ 1000000) (ha : L ≠ [] → ∀ ad, a = some ad → ad.block < n₀) (J Jx : List (Int × Int) → World → Prop) (W : World)
    (hY : ∀ pre x W1, J pre W1 → pre.length < L.length → YieldAt Fence.wide (n - 1) Try.prog l #[.int .i64 x.1, .int .i64 x.2] W1 fun e W' =>
      (e = .returned (.bool true) ∧ J (pre ++ [x]) W' ∧ Kb n₀ Bs W1 W') ∨ (e = .returned (.bool false) ∧ Jx (pre ++ [x]) W'))
    (hBs : W.cell? ⟨Bs, 0, none⟩ = some (.slice a L.length c)) (hL : Reads W a L) (h0 : J [] W) :
    CallsIn Fence.wide n Try.prog 63 #[.func (.yield l) #[] #[], .pointer (some ⟨Bs, 0, none⟩)] W fun e W' => (∃ v, e = .returned v) ∧
      ((∃ ys, ys = bkl L ∧ J ys W') ∨ (∃ pre, pre <+: bkl L ∧ Jx pre W')) := by
  have HY := Lib.hid hY; have H0 := Lib.hid h0; have HL := Lib.hid hL; have HA := Lib.hid ha; have HC := Lib.hid hBs
  have e0 : wrap64 ((L.length : Int) - 1) = (L.length : Int) - 1 := by unfold wrap64; omega
  clear hY h0 hL ha
  refine callsIn_of_wp Try.func63 rfl trivial ?_ rfl
  simp only [Try.ntmps63, List.size_toArray, List.length_cons, List.length_nil, Nat.reduceAdd, Nat.reduceSub, Array.replicate_succ, Array.replicate_zero, List.push_toArray, List.append_toArray, List.nil_append, List.cons_append]
  gi_wp2
  gi_loopw [3] (fun i wr => ∃ (k : Nat) (z : Int), k ≤ L.length ∧ z = (L.length : Int) - 1 - (k : Int) ∧ i = .int .i64 z ∧ J ((bkl L).take k) wr ∧ Kb n₀ Bs W wr) (fun i _ => (intOf i + 1).toNat)
  case atStart => exact ⟨0, _, Nat.zero_le _, by rw [Int.natCast_zero, Int.sub_zero], rfl, by simpa using H0.out, Kb.refl _ _ _⟩
  case round =>
    clear H0 hBs
    obtain ⟨k, z, hk, hz, rfl, hJr, hb⟩ := hrel
    by_cases hlt : 0 ≤ z
    · obtain ⟨q, rfl⟩ := Int.eq_ofNat_of_zero_le hlt
      have hq : k + q + 1 = L.length := by omega
      have hql : q < L.length := by omega
      obtain ⟨b, off, rfl, hc⟩ := HL.out.2 q hql
      have hc2 : wr.cell? ⟨b, off + q, none⟩ = some (.int .i64 (L.getD q 0)) := (hb.1.cell (p := ⟨b, off + q, none⟩) (HA.out (fun e => by rw [e] at hql; cases hql) ⟨b, off, none⟩ rfl)).trans hc
      have hcs := cell_same hb.2 HC.out
      obtain ⟨fn, tmps, assign, body, hy, hR⟩ := HY.out _ ((q : Int), L.getD q 0) wr hJr (by rw [List.length_take, bkl_len]; omega)
      have i0 : (0 : Int) ≤ (q : Int) := by omega
      have i1 : (q : Int) < (L.length : Int) := by omega
      have d0 : decide ((0 : Int) ≤ (q : Int)) = true := decide_eq_true i0
      have e1 : wrap64 ((q : Int) - 1) = (q : Int) - 1 := by unfold wrap64; omega
      have HP : Hid ((bkl L).take k ++ [((q : Int), L.getD q 0)] = (bkl L).take (k + 1)) := (bkl_at hq).symm
      have HB := Lib.hid hb
      have HQ : Hid (k + 1 ≤ L.length ∧ (q : Int) - 1 = (L.length : Int) - 1 - ((k + 1 : Nat) : Int) ∧ (intOf (.int .i64 ((q : Int) - 1)) + 1).toNat < (intOf (.int .i64 (q : Int)) + 1).toNat) := ⟨by omega, by omega, by first | (simp [intOf]; done) | (simp [intOf]; omega)⟩
      generalize L.getD q 0 = z at *
      clear hc hJr hb hz hlt hk
      gi_wp2
      refine hR.mono ?_
      rintro e W3 (⟨rfl, hJ3, hk3⟩ | ⟨rfl, hJx3⟩)
      · gi_wp2
        go_roundw
        · exact ⟨k + 1, _, HQ.out.1, HQ.out.2.1, by first | with_reducible rfl | rw [e1], HP.out ▸ hJ3, HB.out.trans hk3⟩
        · first | exact HQ.out.2.2 | (rw [e1]; exact HQ.out.2.2)
      · gi_wp2
        refine bodyPost_ret (results_none rfl _ _ _) rfl ?_
        exact ⟨⟨_, rfl⟩, .inr ⟨_, HP.out ▸ List.take_prefix _ _, hJx3⟩⟩
    · obtain rfl : k = L.length := by omega
      have hd0 : decide ((0 : Int) ≤ z) = false := decide_eq_false hlt
      have HJ : Hid (J (bkl L) wr) := by have := hJr; rwa [List.take_of_length_le (by rw [bkl_len]; exact Nat.le_refl _)] at this
      clear hJr hz hb
      gi_wp2
      go_end0
      first | exact ⟨⟨_, rfl⟩, .inl ⟨_, rfl, HJ.out⟩⟩ | exact ⟨⟨_, rfl⟩, .inl HJ.out⟩
theorem backw_stops (n : Nat) (hn : 1 ≤ n) (Bs n₀ : Nat) (a : Option Addr) (c : Nat) (L : List Int) (hl : L.length ≤ 1000000) (ha : L ≠ [] → ∀ ad, a = some ad → ad.block < n₀) (w : World) (hBs : w.cell? ⟨Bs, 0, none⟩ = some (.slice a L.length c)) (hL : Reads w a L) :
    SeqStopsK Fence.wide n Try.prog 63 #[.pointer (some ⟨Bs, 0, none⟩)] (fun x : Int × Int => #[Value.int .i64 x.1, Value.int .i64 x.2]) (Kb n₀ Bs) (fun ys => ys = bkl L) (fun pre => pre <+: bkl L) L.length w := fun l J Jx W hW _ _ hY h0 =>
  backw1_in n hn l Bs n₀ a c L hl ha J Jx W hY ((hW.cell (p := ⟨Bs, 0, none⟩) (World.block_lt_of_cell? w _ hBs)).trans hBs) (hL.below hW) h0
theorem node_info : (Try.prog.info? 52).map (fun i => (i.zero, i.size, i.bytes)) = some (some (.agg #[.int .i64 0, .int .i64 0]), 2, 16) := by kernel_rfl
/-- A row of pairs, cell by cell. -/
def row2 (P : List (Int × Int)) : List Value := P.flatMap fun p => [.int .i64 p.1, .int .i64 p.2]
theorem row2_len (P : List (Int × Int)) : (row2 P).length = P.length * 2 := by
  induction P with
  | nil => rfl
  | cons a P ih => simp only [row2, List.flatMap_cons, List.length_append, List.length_cons] at ih ⊢; rw [ih]; simp; omega
theorem row2_app (P Q : List (Int × Int)) : row2 (P ++ Q) = row2 P ++ row2 Q := by simp [row2]
theorem row2_at : ∀ (P : List (Int × Int)) (i : Nat), i < P.length → (row2 P)[i * 2]? = some (.int .i64 (P.getD i (0, 0)).1) ∧ (row2 P)[i * 2 + 1]? = some (.int .i64 (P.getD i (0, 0)).2)
  | [], i, h => by cases h
  | a :: P, 0, _ => ⟨rfl, rfl⟩
  | a :: P, i + 1, h => by
    have := row2_at P i (by simpa using h)
    rw [show (i + 1) * 2 = i * 2 + 1 + 1 by omega]
    exact this
/-- A row of pairs that the call owns. -/
def Own2 (w : World) (base : Nat) (v : Value) (P : List (Int × Int)) : Prop := w.ownsRow base 52 2 v P.length (row2 P)
theorem Own2.nil (w : World) (base : Nat) : Own2 w base (.slice none 0 0) [] := World.ownsRow_nil _ _ _ _
theorem Own2.below {w w' : World} {base : Nat} {v : Value} {P : List (Int × Int)} (h : Own2 w base v P) (hb : Below w.heap.size w w') : Own2 w' base v P := ownsRow_below h hb
theorem cell_two_new (w : World) (p q : Value) (t : TypeId) : ∀ j u, ([p, q] : List Value)[j]? = some u → (w.alloc (.cells #[p, q] t)).cell? ((⟨w.heap.size, 0, none⟩ : Addr).add j) = some u := by
  intro j u hj
  have hn := heap_alloc_new w (.cells #[p, q] t)
  have e0 : (⟨w.heap.size, 0, none⟩ : Addr).add 0 = ⟨w.heap.size, 0, none⟩ := by simp [Addr.add]
  have e1 : (⟨w.heap.size, 0, none⟩ : Addr).add 1 = ⟨w.heap.size, 1, none⟩ := by simp [Addr.add]
  match j, hj with
  | 0, hj => rw [e0]; unfold World.cell?; rw [hn]; exact hj
  | 1, hj => rw [e1]; unfold World.cell?; rw [hn]; exact hj
theorem reads_lo20 {w : World} {a : Option Addr} {L : List Int} (h : Reads w a L) (hn : L ≠ []) : ∀ ad, a = some ad → ad.block < w.heap.size := by
  intro ad q
  obtain ⟨b, off, q2, hc⟩ := h.2 0 (List.length_pos_iff.2 hn)
  rw [q] at q2; cases q2
  exact World.block_lt_of_cell? w _ hc
/-- What is kept while they come to wait. -/
structure WkI (n₀ B5 Bs Bd : Nat) (F : Nat → Prop) (w W : World) (sv : Value) (d : Int) (P : List (Int × Int)) : Prop where
  v : ∃ v, Boxed W B5 47 v ∧ Own2 W n₀ v P ∧ ∀ b, v.ownBlock = some b → F b ∨ w.heap.size ≤ b
  s : Boxed W Bs 30 sv
  d : Boxed W Bd 3 (.int .i64 d)
  t : Turn F w W
theorem boxed_own {W W' : World} {B b₀ : Nat} {t : TypeId} {v : Value} {row : Option Nat} (h : Boxed W B t v) (hg : W.grownBy W' row) (hr : ∀ r, row = some r → b₀ ≤ r ∧ ∃ o : Obj, W.heap[r]? = some o ∧ o.isCells = false) : Boxed W' B t v :=
  h.kept hg fun e => by
    obtain ⟨_, o, ho, hc⟩ := hr B e.symm
    rw [show W.heap[B]? = _ from h] at ho
    cases ho; cases hc
theorem wki_own {β : Type} (n₀ B5 Bs Bd b₀ : Nat) (F : Nat → Prop) (w : World) (sv : Value) (d : Int) (P : β → List (Int × Int)) (hb : w.heap.size ≤ b₀) : OwnFrom b₀ (fun (s : β) W => WkI n₀ B5 Bs Bd F w W sv d (P s)) := by
  intro s W W' row h hg hr
  obtain ⟨v, h1, h2, h3⟩ := h.v
  refine ⟨⟨v, boxed_own h1 hg hr, h2.kept hg ?_, h3⟩, boxed_own h.s hg hr, boxed_own h.d hg hr, h.t.trans (turn_grown hg) fun j e => Or.inr (Nat.le_trans hb (hr j e).1)⟩
  rcases h2.2 with ⟨rfl, _⟩ | ⟨g, cap, cur, rfl, _, hgb, _⟩
  · exact .inl rfl
  · refine .inr fun e' => ?_
    obtain ⟨_, o, ho, hc⟩ := hr g (by simpa [Value.ownBlock] using e'.symm)
    rw [hgb] at ho; cases ho; cases hc
theorem boxed_ne {W : World} {B B' : Nat} {t t' : TypeId} {u u' : Value} (h : Boxed W B t u) (h' : Boxed W B' t' u') (ht : t ≠ t') : B ≠ B' := fun e => by
  subst e
  have := (show W.heap[B]? = _ from h).symm.trans (show W.heap[B]? = _ from h')
  simp at this
  exact ht this.2
theorem wki_push {n₀ B5 Bs Bd : Nat} {F : Nat → Prop} {w W w1 : World} {sv u v' : Value} {d y : Int} {P : List (Int × Int)} (h : WkI n₀ B5 Bs Bd F w W sv d P) (hn₀ : n₀ ≤ W.heap.size) (hB : n₀ ≤ B5) (hF5 : F B5) (hu : Boxed W B5 47 u) (hrow : Own2 W n₀ u P) (hloc : ∀ b, u.ownBlock = some b → F b ∨ w.heap.size ≤ b)
    (hown' : w1.ownsRow n₀ 52 2 v' (P.length + 1) (row2 P ++ [.int .i64 y, .int .i64 d])) (hgrow : (W.alloc (.cells #[.int .i64 y, .int .i64 d] 52)).grownBy w1 u.ownBlock) (hat : v'.ownBlock = u.ownBlock ∨ v'.ownBlock = some (W.alloc (.cells #[.int .i64 y, .int .i64 d] 52)).heap.size) :
    (Boxed w1 B5 47 u ∧ KeepsOthers W (w1.setCell ⟨B5, 0, none⟩ v') ∧ Kb n₀ Bs W (w1.setCell ⟨B5, 0, none⟩ v')) ∧ WkI n₀ B5 Bs Bd F w (w1.setCell ⟨B5, 0, none⟩ v') sv d (P ++ [(y, d)]) := by
  obtain ⟨hv1, hv2, hr2, hk2, hb2⟩ := hu.appended (by decide) hrow hn₀ hB hown' hgrow
  have keep : ∀ {B : Nat} {t : TypeId} {z : Value}, Boxed W B t z → t ≠ 52 → B ≠ B5 → Boxed (w1.setCell ⟨B5, 0, none⟩ v') B t z := fun hz ht hne => ((hz.alloc _).kept hgrow (hz.not_row ht hrow)).kept (grownBy_setCell' w1 B5 v') (fun e => hne (by cases e; rfl))
  have hs2 := keep h.s (by decide) (boxed_ne h.s hu (by decide))
  have hd2 := keep h.d (by decide) (boxed_ne h.d hu (by decide))
  refine ⟨⟨hv1, hk2, hb2, (show _ = _ from hs2).trans (show _ = _ from h.s).symm⟩, ⟨⟨v', hv2, ?_, fun b q => ?_⟩, hs2, hd2, ?_⟩⟩
  · show World.ownsRow _ _ _ _ _ _ _
    rw [List.length_append, row2_app]; exact hr2
  · rcases hat with e | e
    · exact hloc b (e ▸ q)
    · rw [e] at q; cases q
      refine Or.inr ?_
      have := h.t.size
      simp; omega
  · have t1 : Turn (fun _ => False) W (W.alloc (.cells #[.int .i64 y, .int .i64 d] 52)) := Turn.of_below (below1 _ _)
    have t2 := turn_grown hgrow
    have t3 : Turn (fun i => i = B5) w1 (w1.setCell ⟨B5, 0, none⟩ v') := turn_set (F := fun i => i = B5) (p := ⟨B5, 0, none⟩) (Turn.refl _ _) (Or.inl (show B5 = B5 from rfl)) _
    have a1 : Turn F w (W.alloc (.cells #[.int .i64 y, .int .i64 d] 52)) := h.t.trans t1 (fun j q => q.elim)
    have a2 : Turn F w w1 := a1.trans t2 (fun j q => hloc j q)
    exact a2.trans t3 (fun j q => Or.inl (by rw [q]; exact hF5))
set_option maxRecDepth 100000 in
set_option maxHeartbeats 4000000 in
theorem wait_c {wc w : World} {B m j B3 B5 : Nat} {r : Nat → List Int} {v : Value} {W0 : List (Int × Int)} (d : Int) (hj : j < m) (hF : FamR wc B m r) (hB3 : wc.cell? ⟨B3, 0, none⟩ = some (.slice (some ⟨B, 0, none⟩) m m)) (hcw : Below wc.heap.size wc w)
    (h5 : wc.heap.size ≤ B5) (hv : Boxed w B5 47 v) (ho : Own2 w wc.heap.size v W0) (hlen : W0.length + (r j).length ≤ 100000) :
    Calls Try.prog 53 #[.int .i64 (j : Int), .int .i64 d, .pointer (some ⟨B3, 0, none⟩), .pointer (some ⟨B5, 0, none⟩)] w fun e w' => e = .returned (.tuple #[]) ∧ ∃ v', Boxed w' B5 47 v' ∧ Own2 w' wc.heap.size v' (W0 ++ ((r j).map fun c => (c, d)).reverse) ∧ (∀ b, v'.ownBlock = some b → (b = B5 ∨ v.ownBlock = some b) ∨ w.heap.size ≤ b) ∧ Turn (fun i => i = B5 ∨ v.ownBlock = some i) w w' := by
  obtain ⟨i0, hi, hz0, hz1, hz2⟩ := info_parts node_info
  obtain ⟨fv, hfc, hfs⟩ := hF j hj
  obtain ⟨fa, fc, rfl, _, _, hfr⟩ := hfs
  have hlo := reads_lo20 hfr
  have c3 := (hcw.cell (p := ⟨B3, 0, none⟩) (World.block_lt_of_cell? _ _ hB3)).trans hB3
  have cj := (hcw.cell (p := ⟨B, j, none⟩) (World.block_lt_of_cell? _ _ hfc)).trans hfc
  have hfr2 := hfr.below hcw
  have j0 : (0 : Int) ≤ (j : Int) := by omega
  have j1 : (j : Int) < (m : Int) := by omega
  have hsz := hcw.size
  have bD := Boxed.new w 3 (.int .i64 d)
  have bS := Boxed.new (w.alloc (.cells #[.int .i64 d] 3)) 30 (.slice fa (r j).length fc)
  rw [World.size_alloc] at bS
  have hB2 := below2 w (.cells #[.int .i64 d] 3) (.cells #[.slice fa (r j).length fc] 30)
  have hB1 := below1 w (.cells #[.int .i64 d] 3)
  have c3a := (hB1.cell (p := ⟨B3, 0, none⟩) (World.block_lt_of_cell? _ _ c3)).trans c3
  have cja := (hB1.cell (p := ⟨B, j, none⟩) (World.block_lt_of_cell? _ _ cj)).trans cj
  have hRR := hfr2.below hB2
  have c3b := (hB2.cell (p := ⟨B3, 0, none⟩) (World.block_lt_of_cell? _ _ c3)).trans c3
  have hH0 : WkI wc.heap.size B5 (w.heap.size + 1) w.heap.size (fun i => i = B5 ∨ v.ownBlock = some i) w ((w.alloc (.cells #[.int .i64 d] 3)).alloc (.cells #[.slice fa (r j).length fc] 30)) (.slice fa (r j).length fc) d W0 :=
    ⟨⟨v, (hv.alloc _).alloc _, ho.below hB2, fun b q => Or.inl (Or.inr q)⟩, bS, bD.alloc _, Turn.of_below hB2⟩
  have hv5 := hv.lt
  have hcB : wc.heap.size ≤ w.heap.size := hcw.size
  have HFIN : Hid (W0 ++ (bkl (r j)).map (fun x => (x.2, d)) = W0 ++ ((r j).map fun c => (c, d)).reverse) := by show _ = _; rw [bkl_map]
  have hjl : (r j).length ≤ 100000 := by omega
  generalize hR : r j = R at *
  clear hfc hF hR
  refine (callsIn_wide (n := 6)).1 ?_
  refine callsIn_of_wp_marks Try.func53 rfl trivial ?_ rfl
  simp only [Try.ntmps53, List.size_toArray, List.length_cons, List.length_nil, Nat.reduceAdd, Nat.reduceSub, Array.replicate_succ, Array.replicate_zero, List.push_toArray, List.append_toArray, List.nil_append, List.cons_append]
  gi_wp2_with (refine ⟨trivial, ?_⟩; gi_at_call 54; refine (callsIn_wide.2 (backw_c _ _ _ _)).mono ?_; rintro e w' ⟨rfl, rfl⟩)
  have hBsc := bS.cell
  refine wpIn_rangeFunc_ownG rfl (by omega) (gf := 63) (lb := #[.pointer (some ⟨w.heap.size + 1, 0, none⟩)]) rfl trivial (enters_of Try.func63 (by kernel_rfl) rfl)
    (backw_stops (6 - 1) (by omega) (w.heap.size + 1) wc.heap.size fa fc R (by omega) hlo _ hBsc hRR) (fun h k => Kb.trans h k) (kb_b (by simp; omega) (by simp)) (Below.refl _ _) (fun _ => rfl)
    (fun pre W => WkI wc.heap.size B5 (w.heap.size + 1) w.heap.size (fun i => i = B5 ∨ v.ownBlock = some i) w W (.slice fa R.length fc) d (W0 ++ pre.map (fun x => (x.2, d))))
    (fun _ _ _ => False)
    (wki_own _ _ _ _ _ _ _ _ _ (fun pre : List (Int × Int) => W0 ++ pre.map (fun x => (x.2, d))) (by simp; omega))
    (fun _ _ _ _ _ hs _ _ => hs)
    (by simpa using hH0)
    (fun x => { tmps := #[.int .i64 (j : Int), .int .i64 d, .pointer (some ⟨B3, 0, none⟩), .pointer (some ⟨B5, 0, none⟩), undef, .pointer (some ⟨w.heap.size, 0, none⟩), undef, .int .i64 x.2, .slice (some ⟨B, 0, none⟩) m m, .int .i64 (j : Int), .pointer (some ⟨B, j, none⟩), .slice fa R.length fc, .func (.func 63) #[] #[.pointer (some ⟨w.heap.size + 1, 0, none⟩)], .int .i64 x.1, .int .i64 x.2, undef, undef, undef, undef, undef, undef], defers := [] }) ?assign ?body ?done ?stop
  case assign =>
    intro l x W K hK
    gi_wp2
    exact hK
  case body =>
    rintro l pre x W hI hln
    have hI' : WkI wc.heap.size B5 (w.heap.size + 1) w.heap.size (fun i => i = B5 ∨ v.ownBlock = some i) w W (.slice fa R.length fc) d (W0 ++ pre.map (fun x => (x.2, d))) := hI
    have hll : (W0 ++ pre.map (fun x => (x.2, d))).length ≤ 100000 := by rw [List.length_append, List.length_map]; omega
    have HPE : Hid (W0 ++ (pre ++ [x]).map (fun x => (x.2, d)) = (W0 ++ pre.map (fun x => (x.2, d))) ++ [(x.2, d)]) := by show _ = _; rw [List.map_append, ← List.append_assoc]; rfl
    generalize W0 ++ pre.map (fun x => (x.2, d)) = P at *
    clear hI
    obtain ⟨u, hu, hrow, hloc⟩ := hI'.v
    have hc := hu.cell
    have hdc := hI'.d.cell
    have hWs := hI'.t.size
    have hAO := World.ownsRow.alloc hrow (.cells #[.int .i64 x.2, .int .i64 d] 52)
    have hb1 : P.length + 1 ≤ maxLen := by unfold maxLen; omega
    have hb2 : (P.length + 1) * 16 ≤ 140737488355328 := by omega
    have hb3 : wc.heap.size ≤ (W.alloc (.cells #[.int .i64 x.2, .int .i64 d] 52)).heap.size := by simp; omega
    have hone : ∀ z ∈ ([.int .i64 x.2, .int .i64 d] : List Value), z.oneCell' = true := by intro z hz; simp at hz; rcases hz with rfl | rfl <;> rfl
    gi_wp2_with (gi_at_builtin; refine wpListIn_append_own_at _ rfl (.tmp 15) (.tmp 19) 47 rfl wc.heap.size 52 i0 (.agg #[.int .i64 0, .int .i64 0]) 2 16 Try.underlying47 hi hz0 hz1 hz2 rfl (by decide) u _ _ rfl hAO ⟨W.heap.size, 0, none⟩ 1 1 [.int .i64 x.2, .int .i64 d] rfl rfl (cell_two_new _ _ _ _) hone hb1 hb2 hb3 ?_; intro v' w1 hown' hgrow _ hat; obtain ⟨⟨hv1, hk2, hkb⟩, hI2⟩ := wki_push hI' (by omega) h5 (Or.inl rfl) hu hrow hloc hown' hgrow hat; obtain ⟨g', cap', rfl⟩ := ownsRow_succ hown'; have hc1 := hv1.cell; have hf1 := hv1.frozen)
    refine ⟨hk2.from _, hkb, ?_⟩
    show WkI _ _ _ _ _ _ _ _ _ (W0 ++ (pre ++ [x]).map (fun x => (x.2, d)))
    rw [HPE.out]; exact hI2
  case done =>
    rintro D ys W hD rfl hI hK
    obtain ⟨u, hu, hrow, hloc⟩ := hI.v
    have hWs := hI.t.size
    simp at hD
    gi_wp2
    refine ⟨by simp, .inl ⟨_, _, rfl, run_takeDeferred hK, ?_⟩⟩
    refine ⟨_, results_none rfl _ _ _, rfl, u, ?_, ?_, hloc, ?_⟩
    · exact hu.kept (grownBy_putObj' W D _) (fun e => by cases e; rw [show W.heap[_]? = _ from hu] at hK; cases hK)
    · rw [← HFIN.out]; exact ownsRow_putObj hrow _ hK rfl
    · exact hI.t.trans (turn_grown (grownBy_putObj' W D _)) (fun i e => Or.inr (by cases e; omega))
  case stop =>
    rintro D c pre W _ _ h _
    exact h.elim
theorem own2_init {w : World} {base g n cap : Nat} {L : List (Int × Int)} {z : Int × Int} (h : Own2 w base (.slice (some ⟨g, 0, none⟩) n cap) (L ++ [z])) : Own2 w base (.slice (some ⟨g, 0, none⟩) L.length cap) L := by
  have h1 := h.1
  rcases h.2 with ⟨q, _⟩ | ⟨g', cap', cur, e, h2, h3, h4, h5, h6, h7⟩
  · cases q
  · cases e
    refine ⟨by rw [row2_len], Or.inr ⟨g, cap, cur, rfl, h2, h3, ?_, h5, h6, ?_⟩⟩
    · rw [List.length_append, List.length_singleton] at h4; omega
    · have := congrArg (fun l => l.take (L.length * 2)) h7
      simp only [List.take_take] at this
      rw [List.length_append, List.length_singleton, show min (L.length * 2) ((L.length + 1) * 2) = L.length * 2 by omega] at this
      rw [this, row2_app, List.take_append_of_le_length (by rw [row2_len]; exact Nat.le_refl _), List.take_of_length_le (by rw [row2_len]; exact Nat.le_refl _)]
theorem Own2.down {w : World} {base base' : Nat} {v : Value} {P : List (Int × Int)} (h : Own2 w base v P) (hb : base' ≤ base) : Own2 w base' v P := by
  refine ⟨h.1, ?_⟩
  rcases h.2 with q | ⟨g, cap, cur, rfl, h2, h3⟩
  · exact Or.inl q
  · exact Or.inr ⟨g, cap, cur, rfl, Nat.le_trans hb h2, h3⟩
theorem snoc2 {W : List (Int × Int)} (h : 0 < W.length) : ∃ V x, W = V ++ [x] := ⟨W.dropLast, W.getLast (List.ne_nil_of_length_pos h), (List.dropLast_concat_getLast _).symm⟩
/-- What is kept on the walk. -/
structure WkW (wc wr : World) (B5 n : Nat) (f : Int → Int) (T W : List (Int × Int)) (v4 v5 : Value) : Prop where
  s : WkS n f T W
  x : Boxed wr B5 47 v5
  o : Own2 wr wc.heap.size v5 W
  t : OwnO (fun j => j = B5 ∨ v5.ownBlock = some j) wr wc.heap.size 52 2 v4 T.length (row2 T)
  b : Below wc.heap.size wc wr
set_option maxHeartbeats 8000000 in
set_option maxRecDepth 100000 in
theorem walk_a (a : Option Addr) (c : Nat) (L : List AcT) (w : World) (hL : RdA w a L) (hn : L.length ≤ 1000) :
    Calls Try.prog 28 #[.slice a L.length c] w fun e w' => ∃ v, e = .returned v ∧ Own2 w' w.heap.size v (wst L.length (pa L) 0 0) ∧ Below w.heap.size w w' := by
  have hmf : ∀ (fn : Fn) (first cap : Array Value) (w : World), (Instr.makeFunc fn first cap).run Try.prog w = .ok (.func fn first cap) w := fun _ _ _ _ => rfl
  have hq53 : ∀ args (w : World), (callFunc 53 args).run Try.prog w = .ok (.enter 53 args) w := fun _ _ => rfl
  have hf := families_c a c L w hL hn
  obtain ⟨n, hnn⟩ : ∃ n, n = L.length := ⟨_, rfl⟩
  obtain ⟨m, hm⟩ : ∃ m, m = n + 1 := ⟨_, rfl⟩
  rw [← hnn] at hf ⊢
  rw [← hm] at hf
  have HN : Hid (m = n + 1 ∧ n ≤ 1000) := ⟨hm, by omega⟩
  have h0m : 0 < m := by omega
  clear hL hn hm
  generalize pa L = f at *
  clear hnn
  go_enter Try.func28, Try.ntmps28
  go_wp2_with fail
  refine hf.mono ?_; clear hf; rintro e w1 ⟨rfl, hF, hb⟩
  have hbx := below1 w1 (.cells #[.slice (some ⟨w.heap.size, 0, none⟩) m m] 62)
  have c3 : (w1.alloc (.cells #[.slice (some ⟨w.heap.size, 0, none⟩) m m] 62)).cell? ⟨w1.heap.size, 0, none⟩ = some (.slice (some ⟨w.heap.size, 0, none⟩) m m) := by simp
  have HF := Lib.hid (hF.below hbx)
  have HB1 : Hid (Below w.heap.size w (w1.alloc (.cells #[.slice (some ⟨w.heap.size, 0, none⟩) m m] 62))) := hb.trans (hbx.mono hb.size)
  clear hF hb hbx
  go_upto_region 2 with fail
  generalize w1.alloc (.cells #[.slice (some ⟨w.heap.size, 0, none⟩) m m] 62) = wc at *
  generalize w1.heap.size = B3 at *
  have hX := Boxed.new wc 47 (.slice none 0 0)
  have hb5 := below1 wc (.cells #[.slice none 0 0] 47)
  have hw0 := wait_c (B5 := wc.heap.size) (v := .slice none 0 0) (W0 := []) (j := 0) 0 h0m HF.out c3 hb5 (Nat.le_refl _) hX (Own2.nil _ _) (by have := fam_len n f ((0 : Nat) : Int); have := HN.out; show 0 + (fam n f ((0 : Nat) : Int)).length ≤ 100000; omega)
  clear hX
  go_wp2_with fail
  refine hw0.mono ?_; clear hw0; rintro e w2 ⟨rfl, v5, hx5, ho5, hl5, ht5⟩
  have H0 : Hid (WkW wc w2 wc.heap.size n f [] (wpu n f 0 0) (.slice none 0 0) v5) := ⟨WkS.start n f, hx5, by have := ho5; rwa [List.nil_append] at this, OwnO.nil _ _ _ _ _, hb5.trans (ht5.below (fun i e => by rcases e with rfl | e; exact Nat.le_refl _; cases e) hb5.size)⟩
  have HC3 := Lib.hid c3
  have hbs : wc.heap.size < w2.heap.size := hx5.lt
  clear hx5 ho5 hl5 ht5 hb5 c3
  go_wp2_with fail
  go_loopg [4] n (fun k v4 wr => ∃ (T W : List (Int × Int)) (v5 : Value), WkW wc wr wc.heap.size n f T W v4 v5 ∧ n - T.length ≤ k)
  case atStart => exact ⟨_, _, _, H0.out, by simp⟩
  case round =>
    clear H0
    obtain ⟨T, W, v5, hD, hk⟩ := hrel
    have HD := Lib.hid hD
    have hcx := hD.x.cell
    have hfx := hD.x.frozen
    obtain ⟨wa, wn, hv⟩ := (ownsRow_slc hD.o).form
    subst hv
    have hWl := hD.s.len
    rcases Nat.eq_zero_or_pos W.length with hW | hW
    · have hW0 : W = [] := List.eq_nil_of_length_eq_zero hW
      subst hW0
      have HE := Lib.hid hD.s.fin
      clear hD hk hWl hbs
      go_wp2_with fail
      go_ret
      exact ⟨_, rfl, by rw [← HE.out]; exact Own2.down HD.out.t.1 HB1.out.size, HB1.out.trans (HD.out.b.mono HB1.out.size)⟩
    · obtain ⟨V, p, rfl⟩ := snoc2 hW
      have hl : (V ++ [p]).length = V.length + 1 := by simp
      obtain ⟨l, hll⟩ : ∃ l, V.length = l := ⟨_, rfl⟩
      obtain ⟨q, hq⟩ : ∃ q, q = l + 1 := ⟨_, rfl⟩
      have HP := Lib.hid hD.s.last
      obtain ⟨g5, rfl⟩ : ∃ g5, wa = some ⟨g5, 0, none⟩ := by
        rcases hD.o.2 with ⟨e, r⟩ | ⟨g, cap, cur, e, _⟩
        · simp at r
        · cases e; exact ⟨g, rfl⟩
      have hcp : wr.cell? ⟨g5, l * 2, none⟩ = some (.int .i64 p.1) ∧ wr.cell? ⟨g5, l * 2 + 1, none⟩ = some (.int .i64 p.2) := by
        have hr := row2_at (V ++ [p]) l (by omega)
        have hg : (V ++ [p]).getD l (0, 0) = p := by rw [← hll]; simp [List.getD]
        rw [hg] at hr
        exact ⟨(World.ownsRow.cellAt hD.o (l * 2) (by omega)).trans hr.1, (World.ownsRow.cellAt hD.o (l * 2 + 1) (by omega)).trans hr.2⟩
      have HV : Hid (Own2 wr wc.heap.size (.slice (some ⟨g5, 0, none⟩) l wn) V) := by
        have q := hD.o
        have := own2_init q
        rwa [hll] at this
      have hwc : l + 1 ≤ wn := by
        have q := ownsRow_slc hD.o
        obtain ⟨a1, c1, e, h2, _⟩ := q
        cases e
        omega
      have hX2 := hD.x
      simp only [hl, hll, ← hq] at hcx hX2
      have HPOP := Lib.hid hD.s.pop
      have HLL : Hid (V.length = l ∧ l + 1 = q ∧ T.length + (l + 1) ≤ n ∧ n - T.length ≤ gk) := ⟨hll, hq.symm, by rw [hl, hll] at hWl; exact hWl, hk⟩
      have d0 : decide ((0 : Int) < (q : Int)) = true := decide_eq_true (by omega)
      have e1 : wrap64 ((q : Int) - 1) = (l : Int) := by unfold wrap64; have := HN.out; omega
      have i0 : (0 : Int) ≤ (l : Int) := by omega
      have i1 : (l : Int) < (q : Int) := by omega
      have i2 : (l : Int) ≤ (wn : Int) := by omega
      have i3 : l ≤ wn := by omega
      have HX := Lib.hid hD.x
      obtain ⟨hc0, hc1⟩ := hcp
      obtain ⟨j, hj⟩ : ∃ j : Nat, p.1 = (j : Int) := ⟨p.1.toNat, by have := HP.out.1; unfold Ent at this; omega⟩
      obtain ⟨d, hd⟩ : ∃ d : Int, p.2 = d := ⟨_, rfl⟩
      have HPE : Hid (p = ((j : Int), d)) := by rw [← hj, ← hd]; exact rfl
      rw [hj] at hc0
      rw [hd] at hc1
      have HPR : Hid (j < m ∧ 0 ≤ d ∧ d ≤ n) := by have := HP.out; have := HN.out; rw [hj, hd] at *; exact ⟨by unfold Ent at *; omega, by omega, by omega⟩
      have e2 : wrap64 (d + 1) = d + 1 := by unfold wrap64; have := HPR.out; have := HN.out; omega
      have hnb := below1 wr (.cells #[.int .i64 (j : Int), .int .i64 d] 52)
      have hXA := hX2.alloc (.cells #[.int .i64 (j : Int), .int .i64 d] 52)
      have hcx2 := hXA.cell
      have hfx2 := hXA.frozen
      clear hD hk hWl hW hl hll hq hwc hj hd hX2
      obtain ⟨⟨p0, p1, -⟩, -⟩ := Ow2.new wr (.int .i64 (j : Int)) (.int .i64 d) 52
      have hXB := hXA.set (.slice (some ⟨g5, 0, none⟩) l wn)
      have hne : wr.heap.size ≠ wc.heap.size := fun e => by have := HX.out.lt; omega
      have hp0 : ((wr.alloc (.cells #[.int .i64 (j : Int), .int .i64 d] 52)).setCell ⟨wc.heap.size, 0, none⟩ (.slice (some ⟨g5, 0, none⟩) l wn)).cell? ⟨wr.heap.size, 0, none⟩ = some (.int .i64 (j : Int)) := by rw [World.cell?_setCell_other _ _ _ _ (fun e => by first | exact hne (congrArg Addr.block e) | exact hne (congrArg Addr.block e).symm)]; exact p0
      have hp1 : ((wr.alloc (.cells #[.int .i64 (j : Int), .int .i64 d] 52)).setCell ⟨wc.heap.size, 0, none⟩ (.slice (some ⟨g5, 0, none⟩) l wn)).cell? ⟨wr.heap.size, 1, none⟩ = some (.int .i64 d) := by rw [World.cell?_setCell_other _ _ _ _ (fun e => by first | exact hne (congrArg Addr.block e) | exact hne (congrArg Addr.block e).symm)]; exact p1
      have ht1 : Turn (fun i => i = wc.heap.size) (wr.alloc (.cells #[.int .i64 (j : Int), .int .i64 d] 52)) ((wr.alloc (.cells #[.int .i64 (j : Int), .int .i64 d] 52)).setCell ⟨wc.heap.size, 0, none⟩ (.slice (some ⟨g5, 0, none⟩) l wn)) := turn_set (F := fun i => i = wc.heap.size) (p := ⟨wc.heap.size, 0, none⟩) (Turn.refl _ _) (Or.inl (show wc.heap.size = wc.heap.size from rfl)) _
      have hVB : Own2 ((wr.alloc (.cells #[.int .i64 (j : Int), .int .i64 d] 52)).setCell ⟨wc.heap.size, 0, none⟩ (.slice (some ⟨g5, 0, none⟩) l wn)) wc.heap.size (.slice (some ⟨g5, 0, none⟩) l wn) V := own_turn (HV.out.below hnb) ht1 (fun b e r => by subst r; exact (HX.out.not_row (by decide) HV.out) e.symm)
      have hTB : OwnO (fun i => i = wc.heap.size ∨ some g5 = some i) ((wr.alloc (.cells #[.int .i64 (j : Int), .int .i64 d] 52)).setCell ⟨wc.heap.size, 0, none⟩ (.slice (some ⟨g5, 0, none⟩) l wn)) wc.heap.size 52 2 u4 T.length (row2 T) := (HD.out.t.below hnb).turn ht1 (fun b e r => (HD.out.t.2 b e).2 (Or.inl r)) (fun i r => Or.inl r)
      have hbB : Below wc.heap.size wc ((wr.alloc (.cells #[.int .i64 (j : Int), .int .i64 d] 52)).setCell ⟨wc.heap.size, 0, none⟩ (.slice (some ⟨g5, 0, none⟩) l wn)) := (HD.out.b.trans (hnb.mono HD.out.b.size)).trans (ht1.below (fun i e => by omega) (Nat.le_trans HD.out.b.size hnb.size))
      have hg5 : g5 < wr.heap.size := (World.ownsRow.lt HV.out g5 rfl).2
      have HTL : Hid (∀ b, u4.ownBlock = some b → b < wr.heap.size) := fun b e => (HD.out.t.2 b e).1
      have hT1 : T.length + 1 ≤ 1000 := by have := HLL.out; have := HN.out; omega
      have HS := Lib.hid (And.intro hXB (And.intro hVB (And.intro hbB (And.intro hp0 hp1))))
      have hWsz : wr.heap.size < ((wr.alloc (.cells #[.int .i64 (j : Int), .int .i64 d] 52)).setCell ⟨wc.heap.size, 0, none⟩ (.slice (some ⟨g5, 0, none⟩) l wn)).heap.size := by simp [World.setCell]
      have hwcs := hbB.size
      have HTB := Lib.hid hTB
      have HFS : Hid (∀ i, (i = wc.heap.size ∨ some g5 = some i) → i < ((wr.alloc (.cells #[.int .i64 (j : Int), .int .i64 d] 52)).setCell ⟨wc.heap.size, 0, none⟩ (.slice (some ⟨g5, 0, none⟩) l wn)).heap.size) := fun i r => by
        rcases r with r | r
        · have := HX.out.lt; omega
        · cases r; omega
      clear hXB hp0 hp1 ht1 hVB hTB hbB p0 p1 hne hnb hXA
      go_upto_region 9 with fail
      clear hcx2 hfx2 hcx hfx hc0 hc1
      generalize (wr.alloc (.cells #[.int .i64 (j : Int), .int .i64 d] 52)).setCell ⟨wc.heap.size, 0, none⟩ (.slice (some ⟨g5, 0, none⟩) l wn) = WA at *
      obtain ⟨q0, q1⟩ := HS.out.2.2.2
      go_wp2_with
        (at_builtin
         refine wpList_push1 rfl (.tmp 27) (.tmp 29) 47 rfl (fun i => i = wc.heap.size ∨ some g5 = some i) wc.heap.size 52 2 16 (.agg #[.int .i64 0, .int .i64 0]) Try.underlying47 node_info rfl (by decide) [.int .i64 (j : Int), .int .i64 d] rfl _ _ _ rfl HTB.out rfl (by intro z hz; simp at hz; rcases hz with rfl | rfl <;> rfl) (by omega) (by decide) hwcs HFS.out ?_
         intro v6 w6 o6 t6 l6
         have k0 := (t6.cell (a := ⟨wr.heap.size, 0, none⟩) hWsz (fun e => by have := HTL.out _ e; simp at this)).trans q0
         have k1 := (t6.cell (a := ⟨wr.heap.size, 1, none⟩) hWsz (fun e => by have := HTL.out _ e; simp at this)).trans q1
         have hx6 : Boxed w6 wc.heap.size 47 (.slice (some ⟨g5, 0, none⟩) l wn) := (t6.block _ HS.out.1.lt (fun e => (HTB.out.2 _ e).2 (Or.inl rfl))).trans HS.out.1
         have hv6 : Own2 w6 wc.heap.size (.slice (some ⟨g5, 0, none⟩) l wn) V := own_turn HS.out.2.1 t6 (fun b e r => (HTB.out.2 b r).2 (Or.inr e))
         have hb6 : Below wc.heap.size wc w6 := HS.out.2.2.1.trans (t6.below (fun i e => (World.ownsRow.lt HTB.out.1 i e).1) hwcs)
         have hw := wait_c (B5 := wc.heap.size) (d + 1) HPR.out.1 HF.out HC3.out hb6 (Nat.le_refl _) hx6 hv6 (by have := fam_len n f (j : Int); have := HLL.out; have := HN.out; show V.length + (fam n f (j : Int)).length ≤ 100000; omega)
         have H6 := Lib.hid (And.intro o6 hb6)
         clear o6 t6 l6 hx6 hv6 hb6)
      refine hw.mono ?_; clear hw; rintro e w7 ⟨rfl, v7, hx7, ho7, hl7, ht7⟩
      have H7 : Hid (WkW wc w7 wc.heap.size n f (T ++ [p]) (V ++ wpu n f p.1 (p.2 + 1)) v6 v7) := by
        refine ⟨HPOP.out, hx7, by rw [HPE.out]; exact ho7, ?_, H6.out.2.trans (ht7.below (fun i e => ?_) H6.out.2.size)⟩
        · have := H6.out.1.turn ht7 (fun b e r => (H6.out.1.2 b e).2 r) (F' := fun i => i = wc.heap.size ∨ v7.ownBlock = some i) (fun i r => by
            rcases r with r | r
            · exact Or.inl (Or.inl r)
            · exact hl7 i r)
          rw [List.length_append, List.length_singleton, row2_app, HPE.out]
          exact this
        · rcases e with rfl | e
          · exact Nat.le_refl _
          · cases e; exact (World.ownsRow.lt HV.out g5 rfl).1
      clear hx7 ho7 hl7 ht7
      go_wp2_with fail
      go_roundg (gk - 1)
      case measure => have := HLL.out; omega
      case rel =>
        refine ⟨_, _, _, H7.out, ?_⟩
        have := HLL.out
        rw [List.length_append, List.length_singleton]; omega
end Go.Proofs.Yteendpdidkekkaa
