/-
  The library's slices.Backward over a row of rates; the landed last and Find. The condition: a row of at most 1000000.
-/
import Derived.Test.YtogckefmmjbapaaRtC
import Derived.Test.YtogckefmmjbapaaKbt
import Derived.RangeFuncNested
import Derived.Shelf.RegionOpen
import Derived.RegionIn
namespace Go.Proofs.Ytogckefmmjbapaa
open Go.RowKit Go.Shelf
set_option linter.unusedSimpArgs false
set_option linter.unusedVariables false
attribute [local go_sem] Oper.semAt_some

/-- A row from its end on, with the places. -/
def bkR (L : List RtT) : List (Int × RtT) := ((List.range L.length).map fun i : Nat => ((i : Int), L.getD i zR)).reverse
theorem bkR_len (L : List RtT) : (bkR L).length = L.length := by simp [bkR]
theorem bkR_get {L : List RtT} {k q : Nat} (hq : k + q + 1 = L.length) : (bkR L)[k]? = some ((q : Int), L.getD q zR) := by
  unfold bkR
  rw [List.getElem?_reverse (by simp; omega), List.getElem?_map, List.length_map, List.length_range, show L.length - 1 - k = q by omega, List.getElem?_range (by omega)]
  rfl
theorem bkR_at {L : List RtT} {k q : Nat} (hq : k + q + 1 = L.length) : (bkR L).take (k + 1) = (bkR L).take k ++ [((q : Int), L.getD q zR)] := by
  rw [List.take_add_one, bkR_get hq]; rfl
theorem backwR_c (a : Option Addr) (n c : Nat) (w : World) :
    Calls Try.prog 38 #[.slice a n c] w fun e w' => e = .returned (.func (.func 47) #[] #[.pointer (some ⟨w.heap.size, 0, none⟩)]) ∧ w' = w.alloc (.cells #[.slice a n c] 22) := by
  have hmf : ∀ (fn : Fn) (first cap : Array Value) (w : World), (Instr.makeFunc fn first cap).run Try.prog w = .ok (.func fn first cap) w := fun _ _ _ _ => rfl
  go_enter Try.func38, Try.ntmps38
  go_wp2_with fail
  go_ret
  exact ⟨rfl, rfl⟩
set_option maxRecDepth 100000 in
set_option maxHeartbeats 4000000 in
/-- Its closure, in a loop over it. -/
theorem backR1_in (n : Nat) (hn : 1 ≤ n) (l Bs n₀ : Nat) (a : Option Addr) (c : Nat) (L : List RtT) (hl : L.length ≤ 1000000) (ha : L ≠ [] → ∀ ad, a = some ad → ad.block < n₀) (J Jx : List (Int × RtT) → World → Prop) (W : World)
    (hY : ∀ pre x W1, J pre W1 → pre.length < L.length → YieldAt Fence.wide (n - 1) Try.prog l #[.int .i64 x.1, encR x.2] W1 fun e W' =>
      (e = .returned (.bool true) ∧ J (pre ++ [x]) W' ∧ Kb n₀ Bs W1 W') ∨ (e = .returned (.bool false) ∧ Jx (pre ++ [x]) W'))
    (hBs : W.cell? ⟨Bs, 0, none⟩ = some (.slice a L.length c)) (hL : RdR W a L) (h0 : J [] W) :
    CallsIn Fence.wide n Try.prog 47 #[.func (.yield l) #[] #[], .pointer (some ⟨Bs, 0, none⟩)] W fun e W' => (∃ v, e = .returned v) ∧
      ((∃ ys, ys = bkR L ∧ J ys W') ∨ (∃ pre, pre <+: bkR L ∧ Jx pre W')) := by
  have HY := Lib.hid hY; have H0 := Lib.hid h0; have HL := Lib.hid hL; have HA := Lib.hid ha; have HC := Lib.hid hBs
  have e0 : wrap64 ((L.length : Int) - 1) = (L.length : Int) - 1 := by unfold wrap64; omega
  clear hY h0 hL ha
  refine callsIn_of_wp Try.func47 rfl trivial ?_ rfl
  simp only [Try.ntmps47, List.size_toArray, List.length_cons, List.length_nil, Nat.reduceAdd, Nat.reduceSub, Array.replicate_succ, Array.replicate_zero, List.push_toArray, List.append_toArray, List.nil_append, List.cons_append]
  gi_wp2
  gi_loopw [3] (fun i wr => ∃ (k : Nat) (z : Int), k ≤ L.length ∧ z = (L.length : Int) - 1 - (k : Int) ∧ i = .int .i64 z ∧ J ((bkR L).take k) wr ∧ Kb n₀ Bs W wr) (fun i _ => (intOf i + 1).toNat)
  case atStart => exact ⟨0, _, Nat.zero_le _, by rw [Int.natCast_zero, Int.sub_zero], rfl, by simpa using H0.out, Kb.refl _ _ _⟩
  case round =>
    clear H0 hBs
    obtain ⟨k, z, hk, hz, rfl, hJr, hb⟩ := hrel
    by_cases hlt : 0 ≤ z
    · obtain ⟨q, rfl⟩ := Int.eq_ofNat_of_zero_le hlt
      have hq : k + q + 1 = L.length := by omega
      have hql : q < L.length := by omega
      obtain ⟨b, off, rfl, k0, k1, k2, k3, k4, k5⟩ := HL.out.2 q hql
      have hlo := HA.out (fun e => by rw [e] at hql; cases hql) ⟨b, off, none⟩ rfl
      have k0 := (hb.1.cell (p := ⟨b, off + q * 6, none⟩) hlo).trans k0
      have k1 := (hb.1.cell (p := ⟨b, off + q * 6 + 1, none⟩) hlo).trans k1
      have k2 := (hb.1.cell (p := ⟨b, off + q * 6 + 2, none⟩) hlo).trans k2
      have k3 := (hb.1.cell (p := ⟨b, off + q * 6 + 3, none⟩) hlo).trans k3
      have k4 := (hb.1.cell (p := ⟨b, off + q * 6 + 4, none⟩) hlo).trans k4
      have k5 := (hb.1.cell (p := ⟨b, off + q * 6 + 5, none⟩) hlo).trans k5
      have hcs := cell_same hb.2 HC.out
      obtain ⟨fn, tmps, assign, body, hy, hR⟩ := HY.out _ ((q : Int), L.getD q zR) wr hJr (by rw [List.length_take, bkR_len]; omega)
      have i0 : (0 : Int) ≤ (q : Int) := by omega
      have i1 : (q : Int) < (L.length : Int) := by omega
      have d0 : decide ((0 : Int) ≤ (q : Int)) = true := decide_eq_true i0
      have e1 : wrap64 ((q : Int) - 1) = (q : Int) - 1 := by unfold wrap64; omega
      have HP : Hid ((bkR L).take k ++ [((q : Int), L.getD q zR)] = (bkR L).take (k + 1)) := (bkR_at hq).symm
      have HB := Lib.hid hb
      have HQ : Hid (k + 1 ≤ L.length ∧ (q : Int) - 1 = (L.length : Int) - 1 - ((k + 1 : Nat) : Int) ∧ (intOf (.int .i64 ((q : Int) - 1)) + 1).toNat < (intOf (.int .i64 (q : Int)) + 1).toNat) := ⟨by omega, by omega, by first | (simp [intOf]; done) | (simp [intOf]; omega)⟩
      generalize L.getD q zR = z at *
      clear hJr hb hz hlt hk hlo
      gi_wp2
      refine hR.mono ?_
      rintro e W3 (⟨rfl, hJ3, hk3⟩ | ⟨rfl, hJx3⟩)
      · gi_wp2
        go_roundw
        · exact ⟨k + 1, _, HQ.out.1, HQ.out.2.1, by first | with_reducible rfl | rw [e1], HP.out ▸ hJ3, HB.out.trans hk3⟩
        · first | exact HQ.out.2.2 | (rw [e1]; exact HQ.out.2.2)
      · gi_wp2
        refine bodyPost_ret (results_none rfl _ _ _) rfl ?_
        exact ⟨⟨_, rfl⟩, .inr ⟨_, HP.out ▸ List.take_prefix _ _, hJx3⟩⟩
    · obtain rfl : k = L.length := by omega
      have hd0 : decide ((0 : Int) ≤ z) = false := decide_eq_false hlt
      have HJ : Hid (J (bkR L) wr) := by have := hJr; rwa [List.take_of_length_le (by rw [bkR_len]; exact Nat.le_refl _)] at this
      clear hJr hz hb
      gi_wp2
      go_end0
      first | exact ⟨⟨_, rfl⟩, .inl ⟨_, rfl, HJ.out⟩⟩ | exact ⟨⟨_, rfl⟩, .inl HJ.out⟩
theorem backR_stops (n : Nat) (hn : 1 ≤ n) (Bs n₀ : Nat) (a : Option Addr) (c : Nat) (L : List RtT) (hl : L.length ≤ 1000000) (ha : L ≠ [] → ∀ ad, a = some ad → ad.block < n₀) (w : World) (hBs : w.cell? ⟨Bs, 0, none⟩ = some (.slice a L.length c)) (hL : RdR w a L) :
    SeqStopsK Fence.wide n Try.prog 47 #[.pointer (some ⟨Bs, 0, none⟩)] (fun x : Int × RtT => #[Value.int .i64 x.1, encR x.2]) (Kb n₀ Bs) (fun ys => ys = bkR L) (fun pre => pre <+: bkR L) L.length w := fun l J Jx W hW _ _ hY h0 =>
  backR1_in n hn l Bs n₀ a c L hl ha J Jx W hY ((hW.cell (p := ⟨Bs, 0, none⟩) (World.block_lt_of_cell? w _ hBs)).trans hBs) (hL.below hW) h0
/-- Cells stay where something else than cells grows. -/
theorem OwF.kept {W W' : World} {B : Nat} {f : Nat → Value} {row : Option Nat} (h : OwF W B f) (hg : W.grownBy W' row) (hr : ∀ r, row = some r → ∃ o : Obj, W.heap[r]? = some o ∧ o.isCells = false) : OwF W' B f := by
  have e : W'.heap[B]? = W.heap[B]? := hg.block B h.lt fun q => by
    obtain ⟨o, ho, hc⟩ := hr B q.symm
    have := h.c 0 (by omega)
    unfold World.cell? at this
    simp only [ho] at this
    cases o <;> simp_all [Obj.isCells]
  exact ⟨fun i hi => (World.cell?_of_block e).trans (h.c i hi), fun i hi => (World.frozen?_of_block e).trans (h.z i hi), Nat.lt_of_lt_of_le h.lt hg.size⟩
/-- What last's rounds keep. -/
structure LsI (w : World) (k : RtT) (pre : List (Int × RtT)) (W : World) : Prop where
  o : Ow6 W w.heap.size k
  r : Boxed W (w.heap.size + 1) 3 (.int .i64 0)
  b : Below w.heap.size w W
  n : ∀ x ∈ pre, onK x.2 k = false
  s : w.heap.size + 3 ≤ W.heap.size
structure LsX (w : World) (k : RtT) (cd : Code) (pre : List (Int × RtT)) (W : World) : Prop where
  c : cd = .ret
  r : ∃ P x, pre = P ++ [x] ∧ onK x.2 k = true ∧ (∀ y ∈ P, onK y.2 k = false) ∧ Boxed W (w.heap.size + 1) 3 (.int .i64 x.1)
  b : Below w.heap.size w W
theorem boxed_grown {W W' : World} {B : Nat} {t : TypeId} {v : Value} {row : Option Nat} (h : Boxed W B t v) (hg : W.grownBy W' row) (hr : ∀ r, row = some r → ∃ o : Obj, W.heap[r]? = some o ∧ o.isCells = false) : Boxed W' B t v :=
  h.kept hg fun e => by
    obtain ⟨o, ho, hc⟩ := hr B e.symm
    rw [show W.heap[B]? = _ from h] at ho
    cases ho; cases hc
theorem below_grown {w W W' : World} {b₀ : Nat} {row : Option Nat} (h : Below w.heap.size w W) (hg : W.grownBy W' row) (hb : w.heap.size ≤ b₀) (hr : ∀ r, row = some r → b₀ ≤ r) : Below w.heap.size w W' :=
  (h.grown hg h.size (fun j e => by have := hr j e; omega))
theorem lsI_own (w : World) (k : RtT) (b₀ : Nat) (hb : w.heap.size ≤ b₀) : OwnFrom b₀ (fun pre W => LsI w k pre W) := fun pre W W' row h hg hr =>
  ⟨OwF.kept h.o hg (fun r e => (hr r e).2), boxed_grown h.r hg (fun r e => (hr r e).2), below_grown h.b hg hb (fun r e => (hr r e).1), h.n, Nat.le_trans h.s hg.size⟩
theorem lsX_own (w : World) (k : RtT) (cd : Code) (b₀ : Nat) (hb : w.heap.size ≤ b₀) : OwnFrom b₀ (fun pre W => LsX w k cd pre W) := fun pre W W' row h hg hr =>
  ⟨h.c, by obtain ⟨P, x, h1, h2, h3, h4⟩ := h.r; exact ⟨P, x, h1, h2, h3, boxed_grown h4 hg (fun r e => (hr r e).2)⟩, below_grown h.b hg hb (fun r e => (hr r e).1)⟩
theorem boxed_below {W W' : World} {B : Nat} {t : TypeId} {v : Value} (h : Boxed W B t v) (hb : Below W.heap.size W W') : Boxed W' B t v := (hb.block B h.lt).trans h
theorem keeps_below {B : Nat} {W W' : World} (h : Below W.heap.size W W') : KeepsFrom B W W' := ⟨h.size, fun k o _ hk ho => (h.block k (Array.getElem?_eq_some_iff.1 hk).1).trans hk⟩
theorem bkR_mem {L : List RtT} {k : RtT} (h : ∀ x ∈ bkR L, onK x.2 k = false) : lst L k = -1 := by
  refine lst_none fun i hi => ?_
  exact h ((i : Int), L.getD i zR) (by unfold bkR; simp; exact ⟨i, hi, rfl, rfl⟩)
theorem bkR_last {L : List RtT} {k : RtT} {P : List (Int × RtT)} {x : Int × RtT} (hp : P ++ [x] <+: bkR L) (hx : onK x.2 k = true) (hP : ∀ y ∈ P, onK y.2 k = false) : lst L k = x.1 := by
  have hl := hp.length_le
  rw [bkR_len, List.length_append, List.length_singleton] at hl
  obtain ⟨q, hq⟩ : ∃ q, P.length + q + 1 = L.length := ⟨L.length - P.length - 1, by omega⟩
  have e1 := List.prefix_iff_eq_take.1 hp
  rw [List.length_append, List.length_singleton] at e1
  have e2 : (bkR L)[P.length]? = some x := by
    have : (P ++ [x])[P.length]? = some x := by simp
    rw [e1, List.getElem?_take_of_lt (by omega)] at this
    exact this
  rw [bkR_get hq] at e2
  cases e2
  refine lst_at (by omega) hx fun i h1 h2 => ?_
  obtain ⟨j, hj⟩ : ∃ j, j + i + 1 = L.length := ⟨L.length - i - 1, by omega⟩
  have hj2 : j < P.length := by omega
  have e3 : P[j]? = some ((i : Int), L.getD i zR) := by
    have e4 := bkR_get hj
    have : (P ++ [((q : Int), L.getD q zR)])[j]? = (bkR L)[j]? := by rw [e1, List.getElem?_take_of_lt (by omega)]
    rw [e4, List.getElem?_append_left hj2] at this
    exact this
  exact hP _ (List.mem_of_getElem? e3)
set_option maxRecDepth 100000 in
set_option maxHeartbeats 8000000 in
theorem last_r (a : Option Addr) (c : Nat) (L : List RtT) (k : RtT) (w : World) (hL : RdR w a L) (hn : L.length ≤ 1000000) :
    Calls Try.prog 22 #[.slice a L.length c, encR k] w fun e w' => e = .returned (.int .i64 (lst L k)) ∧ Below w.heap.size w w' := by
  have hmx : Try.prog.follows .mixedOrders = true := by kernel_rfl
  have hlo := hL.lo
  have H0 : LsI w k [] (((w.alloc (objR k)).alloc (.cells #[.int .i64 0] 3)).alloc (.cells #[.slice a L.length c] 22)) := by
    have b1 := Boxed.new (w.alloc (objR k)) 3 (.int .i64 0)
    rw [World.size_alloc] at b1
    exact ⟨((Ow6.new w k).alloc _).alloc _, b1.alloc _, ((below2 w _ _).alloc (by simp; omega) _), (fun x hx => (by cases hx)), (by simp)⟩
  have hBS := Boxed.new ((w.alloc (objR k)).alloc (.cells #[.int .i64 0] 3)) 22 (.slice a L.length c)
  rw [World.size_alloc, World.size_alloc] at hBS
  have hBsc := hBS.cell
  have hRR := hL.below H0.b
  have hsz : w.heap.size + 3 = (((w.alloc (objR k)).alloc (.cells #[.int .i64 0] 3)).alloc (.cells #[.slice a L.length c] 22)).heap.size := by simp
  have HOK := Lib.hid hL
  clear hL
  refine (callsIn_wide (n := 6)).1 ?_
  refine callsIn_of_wp_marks Try.func22 rfl trivial ?_ rfl
  simp only [Try.ntmps22, List.size_toArray, List.length_cons, List.length_nil, Nat.reduceAdd, Nat.reduceSub, Array.replicate_succ, Array.replicate_zero, List.push_toArray, List.append_toArray, List.nil_append, List.cons_append]
  gi_wp2_with (refine ⟨trivial, ?_⟩; gi_at_call 38; refine (callsIn_wide.2 (backwR_c _ _ _ _)).mono ?_; rintro e w' ⟨rfl, rfl⟩)
  generalize hW0 : ((w.alloc (objR k)).alloc (.cells #[.int .i64 0] 3)).alloc (.cells #[.slice a L.length c] 22) = W0 at *
  clear hW0
  refine wpIn_rangeFunc_ownH rfl (by omega) (gf := 47) (lb := #[.pointer (some ⟨w.heap.size + 2, 0, none⟩)]) rfl trivial (enters_of Try.func47 (by kernel_rfl) rfl)
    (backR_stops (6 - 1) (by omega) (w.heap.size + 2) w.heap.size a c L hn hlo _ hBsc hRR) (fun h k => Kb.trans h k) (kb_b (by omega) (by omega)) (Below.refl _ _) (fun _ => rfl)
    (fun pre W => LsI w k pre W) (fun cd pre W => LsX w k cd pre W) (lsI_own w k _ (by omega)) (fun cd => lsX_own w k cd _ (by omega)) H0
    (fun x a' W => ∃ B, a' = { tmps := #[.slice a L.length c, encR k, undef, .pointer (some ⟨w.heap.size, 0, none⟩), .pointer (some ⟨w.heap.size + 1, 0, none⟩), .int .i64 x.1, .pointer (some ⟨B, 0, none⟩), .slice a L.length c, .func (.func 47) #[] #[.pointer (some ⟨w.heap.size + 2, 0, none⟩)], .int .i64 x.1, encR x.2, undef, undef, undef, undef, undef, undef], defers := [] } ∧ Ow6 W B x.2)
    (fun x a' s W W' row h hg hr => by obtain ⟨B, h1, h2⟩ := h; exact ⟨B, h1, OwF.kept h2 hg (fun r e => (hr r e).2)⟩) ?assign ?body ?done ?stop
  case assign =>
    intro l pre x W K hI hK
    have hb := below1 W (objR x.2)
    have HF : Hid (∀ a', a' = { tmps := #[.slice a L.length c, encR k, undef, .pointer (some ⟨w.heap.size, 0, none⟩), .pointer (some ⟨w.heap.size + 1, 0, none⟩), .int .i64 x.1, .pointer (some ⟨W.heap.size, 0, none⟩), .slice a L.length c, .func (.func 47) #[] #[.pointer (some ⟨w.heap.size + 2, 0, none⟩)], .int .i64 x.1, encR x.2, undef, undef, undef, undef, undef, undef], defers := [] } → K a' (W.alloc (objR x.2))) := fun a' e =>
      hK a' _ (keeps_below hb) ⟨hb.mono hI.b.size, Below.heap_alloc _ _ _ (by have := hI.s; omega)⟩ ⟨hI.o.alloc _, hI.r.alloc _, hI.b.trans (hb.mono hI.b.size), hI.n, Nat.le_trans hI.s hb.size⟩ ⟨_, e, Ow6.new W x.2⟩
    gi_wp2
    exact HF.out _ rfl
  case body =>
    rintro l pre x a' W hl hr hI ⟨B, rfl, hx⟩ hlen
    have HI := Lib.hid hI
    have HXO := Lib.hid hx
    have HB := Lib.hid ((Below.refl W.heap.size W).drew)
    obtain ⟨c0, c1, c2, c3, c4, c5⟩ := hI.o.cells
    obtain ⟨x0, x1, x2, x3, x4, x5⟩ := hx.cells
    have hrc := hI.r.cell
    have hrf := hI.r.frozen
    have HS : Hid (w.heap.size ≤ W.heap.size) := hI.b.size
    obtain ⟨r, hr⟩ : ∃ r, onK x.2 k = r := ⟨_, rfl⟩
    have he : ∀ W', (Op.equalIn 10000 26 (.agg #[.int .i64 x.2.1, .int .i64 x.2.2.1, .int .i64 x.2.2.2.1, .int .i64 x.2.2.2.2.1, .int .i64 0, .int .i64 0]) (.agg #[.int .i64 k.1, .int .i64 k.2.1, .int .i64 k.2.2.1, .int .i64 k.2.2.2.1, .int .i64 0, .int .i64 0])).run Try.prog W' = .ok r W' := fun W' => (eq_rate (kyR x.2) (kyR k) W').trans (by rw [← hr]; rfl)
    have HR := Lib.hid hr
    clear hr hI hx hlen hBsc hRR H0 hBS hlo
    gi_wp2
    cases r
    · gi_region_with_o (refine ⟨trivial, ?_⟩; gi_at_call 39; refine (CallsIn.inRound l (callsIn_wide.2 (key_c _ _ _ _ _ _ _))).mono ?_; rintro e w' ⟨rfl, hb⟩; have HB := Lib.hid (HB.out.trans (hb.mono HB.out.size)); clear hb; obtain ⟨c0, c1, c2, c3, c4, c5⟩ := (HI.out.o.below HB.out).cells; obtain ⟨x0, x1, x2, x3, x4, x5⟩ := (HXO.out.below HB.out).cells; have hrc := (boxed_below HI.out.r HB.out).cell; have hrf := (boxed_below HI.out.r HB.out).frozen)
      all_goals gi_wp2
      all_goals exact ⟨keeps_below HB.out, ⟨HB.out.mono HS.out, HB.out.block _ (by have := HI.out.s; omega)⟩, HI.out.o.below HB.out, boxed_below HI.out.r HB.out, HI.out.b.trans (HB.out.mono HS.out), (fun y hy => by
        rcases List.mem_append.1 hy with q | q
        · exact HI.out.n y q
        · rw [List.mem_singleton.1 q]; exact HR.out), Nat.le_trans HI.out.s HB.out.size⟩
    · gi_region_with_o (refine ⟨trivial, ?_⟩; gi_at_call 39; refine (CallsIn.inRound l (callsIn_wide.2 (key_c _ _ _ _ _ _ _))).mono ?_; rintro e w' ⟨rfl, hb⟩; have HB := Lib.hid (HB.out.trans (hb.mono HB.out.size)); clear hb; obtain ⟨c0, c1, c2, c3, c4, c5⟩ := (HI.out.o.below HB.out).cells; obtain ⟨x0, x1, x2, x3, x4, x5⟩ := (HXO.out.below HB.out).cells; have hrc := (boxed_below HI.out.r HB.out).cell; have hrf := (boxed_below HI.out.r HB.out).frozen)
      all_goals gi_wp2
      all_goals exact ⟨(keeps_below HB.out).trans ((KeepsOthers.setCell _ _ _).from _), rfl, ⟨pre, x, rfl, HR.out, HI.out.n, (boxed_below HI.out.r HB.out).set _⟩, (HI.out.b.trans (HB.out.mono HS.out)).setCell (Nat.le_succ _) _⟩
  case done =>
    rintro D ys W hD rfl hI hK
    have HI := Lib.hid hI
    have hrc := hI.r.cell
    have hrf := hI.r.frozen
    have HV : Hid (lst L k = -1) := bkR_mem hI.n
    have hX := hI.r.set (.int .i64 (-1))
    have hXc := hX.cell
    clear hI hlo hBsc hRR H0 hBS
    gi_wp2
    have hK2 : (W.setCell ⟨w.heap.size + 1, 0, none⟩ (.int .i64 (-1))).heap[D]? = some (.deferred (some [])) := (Below.heap_setCell W ⟨w.heap.size + 1, 0, none⟩ _ D (by show D ≠ w.heap.size + 1; omega)).trans hK
    have hc2 : ((W.setCell ⟨w.heap.size + 1, 0, none⟩ (.int .i64 (-1))).putObj D (.deferred none)).cell? ⟨w.heap.size + 1, 0, none⟩ = some (.int .i64 (-1)) := (World.cell?_of_block (World.putObj_heap_other (by show w.heap.size + 1 ≠ D; omega))).trans hXc
    refine ⟨by simp, .inl ⟨_, _, rfl, run_takeDeferred hK2, ?_⟩⟩
    refine ⟨.int .i64 (-1), by simp [results, Try.results22, go_sem, hc2], by rw [HV.out], ?_⟩
    exact (HI.out.b.setCell (Nat.le_succ _) _).trans (belowK_b (w := w) (Nat.le_refl _) _ D _ _ (by omega) hK2 rfl rfl)
  case stop =>
    rintro D cd pre W hD hSp hIx hK
    obtain ⟨rfl, ⟨P, x, rfl, hx, hP, hB⟩, hb⟩ := hIx
    have HV : Hid (lst L k = x.1) := bkR_last hSp hx hP
    have HBW := Lib.hid hB; have HBB := Lib.hid hb
    have hrc := hB.cell
    have hrf := hB.frozen
    clear hlo hBsc hRR H0 hBS hx hP hSp hb hB
    gi_wp2
    have hc2 : (W.putObj D (.deferred none)).cell? ⟨w.heap.size + 1, 0, none⟩ = some (.int .i64 x.1) := (World.cell?_of_block (World.putObj_heap_other (by show w.heap.size + 1 ≠ D; omega))).trans hrc
    refine ⟨by simp, .inl ⟨_, _, rfl, run_takeDeferred hK, ?_⟩⟩
    refine ⟨.int .i64 x.1, by simp [results, Try.results22, go_sem, hc2], by rw [HV.out], ?_⟩
    exact HBB.out.trans (belowK_b (w := w) (Nat.le_refl _) _ D _ _ (by omega) hK rfl rfl)
set_option maxRecDepth 100000 in
set_option maxHeartbeats 4000000 in
theorem find_r (a : Option Addr) (c : Nat) (L : List RtT) (k : RtT) (w : World) (hL : RdR w a L) (hn : L.length ≤ 1000000) :
    Calls Try.prog 12 #[.slice a L.length c, encR k] w fun e w' => e = .returned (.tuple #[.agg #[.int .i64 ((fnd L k).getD (0, 0)).1, .int .i64 ((fnd L k).getD (0, 0)).2], .bool (fnd L k).isSome]) ∧ Below w.heap.size w w' := by
  have hl := last_r a c L k ((w.alloc (objR k)).alloc (.cells #[.int .i64 0, .int .i64 0] 24)) (hL.below (below2 _ _ _)) hn
  have HB0 := Lib.hid (below2 w (objR k) (.cells #[.int .i64 0, .int .i64 0] 24))
  have HO := Lib.hid (Ow2.new2 w (objR k) (.int .i64 0) (.int .i64 0) 24)
  obtain ⟨c0, c1, c2, c3, c4, c5⟩ := ((Ow6.new w k).alloc (.cells #[.int .i64 0, .int .i64 0] 24)).cells
  have HL := Lib.hid hL
  have hF := fnd_is L k
  have hin := lst_in L k
  by_cases h0 : 0 ≤ lst L k
  · rw [if_pos h0] at hF
    obtain ⟨q, hq⟩ := Int.eq_ofNat_of_zero_le h0
    rw [hq, Int.toNat_natCast] at hF
    have hql : q < L.length := by omega
    rw [hF]
    rw [hq] at hl
    have i0 : (0 : Int) ≤ (q : Int) := by omega
    have i1 : (q : Int) < (L.length : Int) := by omega
    have d1 : decide ((q : Int) < 0) = false := decide_eq_false (by omega)
    show Calls _ _ _ _ fun e w' => e = .returned (.tuple #[.agg #[.int .i64 (rtn (L.getD q zR)), .int .i64 (rtd (L.getD q zR))], .bool true]) ∧ _
    obtain ⟨b, off, rfl, k0, k1, k2, k3, k4, k5⟩ := HL.out.2 q hql
    have hlo := HL.out.lo (fun e => by rw [e] at hql; cases hql) ⟨b, off, none⟩ rfl
    generalize L.getD q zR = s at *
    clear hL hF hq h0 hin
    go_enter Try.func12, Try.ntmps12
    go_wp2_with fail
    refine hl.mono ?_; clear hl; rintro e w1 ⟨rfl, hb1⟩
    have HB := Lib.hid (HB0.out.trans (hb1.mono HB0.out.size))
    obtain ⟨⟨o0, o1, o2⟩, f1, f2⟩ := HO.out.below hb1
    have k4 := (HB.out.cell (p := ⟨b, off + q * 6 + 4, none⟩) hlo).trans k4
    have k5 := (HB.out.cell (p := ⟨b, off + q * 6 + 5, none⟩) hlo).trans k5
    clear k0 k1 k2 k3 c0 c1 c2 c3 c4 c5 hb1
    go_wp2_with fail
    refine bodyPost_ret (v := .tuple #[.agg #[.int .i64 (rtn s), .int .i64 (rtd s)], .bool true]) (by simp [results, Try.results12, go_sem, o0, o1]) rfl ⟨rfl, ?_⟩
    exact below_set2 HB.out (by omega)
  · rw [if_neg h0] at hF
    rw [hF]
    obtain ⟨z, hz⟩ : ∃ z, lst L k = z := ⟨_, rfl⟩
    rw [hz] at hl h0
    have d1 : decide (z < 0) = true := decide_eq_true (by omega)
    show Calls _ _ _ _ fun e w' => e = .returned (.tuple #[.agg #[.int .i64 0, .int .i64 0], .bool false]) ∧ _
    clear hL hF hin h0 hz
    go_enter Try.func12, Try.ntmps12
    go_wp2_with fail
    refine hl.mono ?_; clear hl; rintro e w1 ⟨rfl, hb1⟩
    have HB := Lib.hid (HB0.out.trans (hb1.mono HB0.out.size))
    obtain ⟨⟨o0, o1, o2⟩, f1, f2⟩ := HO.out.below hb1
    clear c0 c1 c2 c3 c4 c5 hb1
    go_wp2_with fail
    refine bodyPost_ret (v := .tuple #[.agg #[.int .i64 0, .int .i64 0], .bool false]) (by simp [results, Try.results12, go_sem, o0, o1]) rfl ⟨rfl, ?_⟩
    exact below_set2 HB.out (by omega)
end Go.Proofs.Ytogckefmmjbapaa
