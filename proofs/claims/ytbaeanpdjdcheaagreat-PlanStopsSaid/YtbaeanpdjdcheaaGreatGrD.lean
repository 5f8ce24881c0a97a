/-
  What is wrong with a Set of the landed graph. The conditions: the graph's blocks.
-/
import Derived.Test.YtbaeanpdjdcheaaGreatGrC
namespace Go.Proofs.YtbaeanpdjdcheaaGreat
open Go.RowKit MapSets
set_option linter.unusedSimpArgs false
set_option linter.unusedVariables false

theorem any_str (n : Nat) (l : List Int) : (List.range l.length).any (fun k => !decide (gnd n (l.getD k 0))) = !decide (∀ w ∈ l, gnd n w) := by
  by_cases h : ∀ w ∈ l, gnd n w
  · rw [decide_eq_true h]
    refine List.any_eq_false.2 fun k hk => ?_
    have hk' := List.mem_range.1 hk
    rw [decide_eq_true (h _ (by rw [getD_lt _ _ hk']; exact List.getElem_mem hk'))]; simp
  · rw [decide_eq_false h]
    refine List.any_eq_true.2 ?_
    obtain ⟨x, h⟩ := Classical.not_forall.1 h
    obtain ⟨hx, h⟩ := Classical.not_imp.1 h
    obtain ⟨k, hk, rfl⟩ := List.getElem_of_mem hx
    exact ⟨k, List.mem_range.2 hk, by rw [getD_lt _ _ hk, decide_eq_false h]; rfl⟩
theorem any_self (v : Int) (l : List Int) : (List.range l.length).any (fun k => l.getD k 0 == v) = decide (v ∈ l) := by
  by_cases h : v ∈ l
  · rw [decide_eq_true h]
    obtain ⟨k, hk, rfl⟩ := List.getElem_of_mem h
    exact List.any_eq_true.2 ⟨k, List.mem_range.2 hk, by rw [getD_lt _ _ hk]; simp⟩
  · rw [decide_eq_false h]
    refine List.any_eq_false.2 fun k hk => ?_
    have hk' := List.mem_range.1 hk
    rw [getD_lt _ _ hk']
    intro q
    exact h (by rw [← eq_of_beq q]; exact List.getElem_mem hk')
theorem any_seen (l : List Int) : (List.range l.length).any (fun k => decide (l.getD k 0 ∈ l.take k)) = !decide l.Nodup := by
  by_cases h : l.Nodup
  · rw [decide_eq_true h]
    refine List.any_eq_false.2 fun k hk q => ?_
    have hk' := List.mem_range.1 hk
    rw [getD_lt _ _ hk'] at q
    obtain ⟨j, hj, e⟩ := List.getElem_of_mem (of_decide_eq_true q)
    rw [List.length_take] at hj
    rw [List.getElem_take] at e
    have hh := List.pairwise_iff_getElem.1 h j k (by omega) hk' (by omega)
    exact hh e
  · rw [decide_eq_false h]
    refine List.any_eq_true.2 ?_
    by_cases hall : ∀ k, k < l.length → l.getD k 0 ∉ l.take k
    · refine absurd ?_ h
      refine List.pairwise_iff_getElem.2 fun i j hi hj hij e => ?_
      refine hall j hj ?_
      rw [getD_lt _ _ hj, ← e]
      refine List.mem_take_iff_getElem.2 ⟨i, by omega, rfl⟩
    · obtain ⟨k, h1⟩ := Classical.not_forall.1 hall
      obtain ⟨h1, h2⟩ := Classical.not_imp.1 h1
      exact ⟨k, List.mem_range.2 h1, decide_eq_true (Classical.not_not.1 h2)⟩
theorem take_mem {l : List Int} {k : Nat} (hk : k < l.length) (j : Int) : (decide (j = l.getD k 0) || decide (j ∈ l.take k)) = decide (j ∈ l.take (k + 1)) := by
  rw [List.take_succ_eq_append_getElem hk, getD_lt _ _ hk]
  rw [← Bool.decide_or]
  refine decide_eq_decide.2 ?_
  rw [List.mem_append, List.mem_singleton]
  exact Or.comm
set_option maxHeartbeats 4000000 in
theorem fault_n (v : Int) (w : World) : Calls Tryz.prog 31 #[.pointer none, .int .i64 v, .slice none 0 0] w fun e w' => e = .returned (.int .i64 1) ∧ Below w.heap.size w w' := by
  have hmf : ∀ (fn : Fn) (first cap : Array Value) (w : World), (Instr.makeFunc fn first cap).run Tryz.prog w = .ok (.func fn first cap) w := fun _ _ _ _ => rfl
  have hmm := @run_makeMap Tryz.prog
  go_enter Tryz.func31, Tryz.ntmps31
  go_wp2_with fail
  refine (nodes_n _).mono ?_; rintro e w1 ⟨rfl, rfl⟩
  go_wp2_with fail
  go_ret
  exact ⟨rfl, ((((below1 w _).alloc (by simp) _).alloc (by simp; omega) _).alloc (by simp; omega) _).alloc (by simp; omega) _⟩
theorem five_made (w : World) (a b c d e : Obj) : (((((w.alloc a).alloc b).alloc c).alloc d).alloc e).heap[w.heap.size]? = some a ∧ (((((w.alloc a).alloc b).alloc c).alloc d).alloc e).heap[w.heap.size + 1]? = some b ∧ (((((w.alloc a).alloc b).alloc c).alloc d).alloc e).heap[w.heap.size + 1 + 1]? = some c ∧
    (((((w.alloc a).alloc b).alloc c).alloc d).alloc e).heap[w.heap.size + 1 + 1 + 1]? = some d ∧ (((((w.alloc a).alloc b).alloc c).alloc d).alloc e).heap[w.heap.size + 1 + 1 + 1 + 1]? = some e ∧ Below w.heap.size w (((((w.alloc a).alloc b).alloc c).alloc d).alloc e) := by
  have s1 : (w.alloc a).heap.size = w.heap.size + 1 := by simp
  have s2 : ((w.alloc a).alloc b).heap.size = w.heap.size + 1 + 1 := by simp
  have s3 : (((w.alloc a).alloc b).alloc c).heap.size = w.heap.size + 1 + 1 + 1 := by simp
  have s4 : ((((w.alloc a).alloc b).alloc c).alloc d).heap.size = w.heap.size + 1 + 1 + 1 + 1 := by simp
  have e1 := heap_alloc_new w a
  have e2 := heap_alloc_new (w.alloc a) b
  have e3 := heap_alloc_new ((w.alloc a).alloc b) c
  have e4 := heap_alloc_new (((w.alloc a).alloc b).alloc c) d
  have e5 := heap_alloc_new ((((w.alloc a).alloc b).alloc c).alloc d) e
  rw [s1] at e2
  rw [s2] at e3
  rw [s3] at e4
  rw [s4] at e5
  refine ⟨?_, ?_, ?_, ?_, e5, (((below1 w _).alloc (by simp) _).alloc (by simp; omega) _).alloc (by simp; omega) _ |>.alloc (by simp; omega) _⟩
  · rw [heap_alloc_old _ _ (by omega), heap_alloc_old _ _ (by omega), heap_alloc_old _ _ (by omega), heap_alloc_old _ _ (by omega)]; exact e1
  · rw [heap_alloc_old _ _ (by omega), heap_alloc_old _ _ (by omega), heap_alloc_old _ _ (by omega)]; exact e2
  · rw [heap_alloc_old _ _ (by omega), heap_alloc_old _ _ (by omega)]; exact e3
  · rw [heap_alloc_old _ _ (by omega)]; exact e4
set_option maxRecDepth 100000 in
set_option maxHeartbeats 8000000 in
theorem fault_g {w : World} {B A n : Nat} (c0 : w.cell? ⟨B, 0, none⟩ = some (.slice (some ⟨A, 0, none⟩) n n)) (h1 : 1 ≤ n) (h2 : n ≤ 20000) (v : Int) {x : Value} {l : List Int} (hl : Sl w x l) (hn : l.length ≤ 1000000) :
    Calls Tryz.prog 31 #[.pointer (some ⟨B, 0, none⟩), .int .i64 v, x] w fun e w' => e = .returned (.int .i64 (gfault n v l)) ∧ Below w.heap.size w w' := by
  have hmf : ∀ (fn : Fn) (first cap : Array Value) (w : World), (Instr.makeFunc fn first cap).run Tryz.prog w = .ok (.func fn first cap) w := fun _ _ _ _ => rfl
  have hmm := @run_makeMap Tryz.prog
  obtain ⟨a, c, rfl, hlc, hac, hr⟩ := hl
  obtain ⟨k0, k1, k2, k3, k4, hb⟩ := five_made w (.cells #[.pointer (some ⟨B, 0, none⟩)] 29) (.cells #[.int .i64 v] 3) (.cells #[.slice a l.length c] 23) (.map #[] 0) (.cells #[.map (some (w.heap.size + 1 + 1 + 1))] 69)
  have hsz : (((((w.alloc (.cells #[.pointer (some ⟨B, 0, none⟩)] 29)).alloc (.cells #[.int .i64 v] 3)).alloc (.cells #[.slice a l.length c] 23)).alloc (.map #[] 0)).alloc (.cells #[.map (some (w.heap.size + 1 + 1 + 1))] 69)).heap.size = w.heap.size + 5 := by simp
  have hX : Hid ((((((w.alloc (.cells #[.pointer (some ⟨B, 0, none⟩)] 29)).alloc (.cells #[.int .i64 v] 3)).alloc (.cells #[.slice a l.length c] 23)).alloc (.map #[] 0)).alloc (.cells #[.map (some (w.heap.size + 1 + 1 + 1))] 69)) = (((((w.alloc (.cells #[.pointer (some ⟨B, 0, none⟩)] 29)).alloc (.cells #[.int .i64 v] 3)).alloc (.cells #[.slice a l.length c] 23)).alloc (.map #[] 0)).alloc (.cells #[.map (some (w.heap.size + 1 + 1 + 1))] 69))) := Lib.hid rfl
  revert hX
  generalize hXX : (((((w.alloc (.cells #[.pointer (some ⟨B, 0, none⟩)] 29)).alloc (.cells #[.int .i64 v] 3)).alloc (.cells #[.slice a l.length c] 23)).alloc (.map #[] 0)).alloc (.cells #[.map (some (w.heap.size + 1 + 1 + 1))] 69)) = X at *
  intro hX
  have HW := Lib.hid hXX
  clear hXX hX
  have cc : ∀ (b : Nat) (cs : Array Value) (t : TypeId), X.heap[b]? = some (.cells cs t) → X.cell? ⟨b, 0, none⟩ = cs[0]? := fun b cs t h => by simp [World.cell?, h]
  have cg := (cc _ _ _ k0).trans rfl
  have cv := (cc _ _ _ k1).trans rfl
  have cr := (cc _ _ _ k2).trans rfl
  have cm := (cc _ _ _ k4).trans rfl
  have hM : MSet X (w.heap.size + 1 + 1 + 1) (fun _ => false) := by
    refine (MapSets.made (P := Tryz.prog) (kt := 3) (((w.alloc (.cells #[.pointer (some ⟨B, 0, none⟩)] 29)).alloc (.cells #[.int .i64 v] 3)).alloc (.cells #[.slice a l.length c] 23))) |> fun h => ?_
    obtain ⟨D, ⟨es, clock, e1, e2, e3, e4⟩, e5⟩ := h
    have e6 := heap_alloc_new (((w.alloc (.cells #[.pointer (some ⟨B, 0, none⟩)] 29)).alloc (.cells #[.int .i64 v] 3)).alloc (.cells #[.slice a l.length c] 23)) (.map #[] 0)
    rw [e6] at e1
    exact ⟨D, ⟨es, clock, k3.trans e1, e2, e3, e4⟩, e5⟩
  have cB : X.cell? ⟨B, 0, none⟩ = _ := (hb.cell (p := ⟨B, 0, none⟩) (World.block_lt_of_cell? w _ c0)).trans c0
  have n1 := nodes_g cB
  have n2 := str_g cg cB v
  have n3 := some_g 52 (.pointer (some ⟨w.heap.size, 0, none⟩)) (w.heap.size + 1 + 1) (fun _ _ => rfl) a c l X (fun _ W => W = X) (fun k => !decide (gnd n (l.getD k 0))) hn cr
    (fun k W q => by rw [q]; exact hr.below hb) (fun k W hk q => by subst q; exact (str_g cg cB _)) rfl
  have n4 := some_g 53 (.pointer (some ⟨w.heap.size + 1, 0, none⟩)) (w.heap.size + 1 + 1) (fun _ _ => rfl) a c l X (fun _ W => W = X) (fun k => l.getD k 0 == v) hn cr
    (fun k W q => by rw [q]; exact hr.below hb) (fun k W hk q => by subst q; exact (self_g cv _)) rfl
  rw [any_str] at n3
  rw [any_self] at n4
  have n5 : (∀ z ∈ l, gnd n z) → _ := fun hall => some_g 54 (.pointer (some ⟨w.heap.size + 1 + 1 + 1 + 1, 0, none⟩)) (w.heap.size + 1 + 1) (fun _ _ => rfl) a c l X
    (fun k W => MSet W (w.heap.size + 1 + 1 + 1) (fun j => decide (j ∈ l.take k)) ∧ Turn (fun j => j = w.heap.size + 1 + 1 + 1) X W) (fun k => decide (l.getD k 0 ∈ l.take k)) hn cr
    (fun k W q => hr.below (hb.trans (q.2.below (fun j hj => by omega) (by omega)))) (fun k W hk q => by
      have hz : InR (l.getD k 0) := by rw [getD_lt _ _ hk]; exact hr.1 _ (List.getElem_mem hk)
      have cm' := (q.2.cell (a := ⟨w.heap.size + 1 + 1 + 1 + 1, 0, none⟩) (World.block_lt_of_cell? X _ cm) (by show ¬ (w.heap.size + 1 + 1 + 1 + 1 = w.heap.size + 1 + 1 + 1); omega)).trans cm
      refine (seen_g cm' q.1 (n := n) (fun z _ hz => by
        have := hall z (List.mem_of_mem_take (of_decide_eq_true hz)); exact this) h2 _ hz).mono ?_
      rintro e W' ⟨rfl, hm, ht⟩
      refine ⟨rfl, hm.same fun j _ => take_mem hk j, q.2.trans ht fun j hj => Or.inl hj⟩) ⟨hM.same fun j _ => by simp, Turn.refl _ _⟩
  rw [any_seen] at n5
  have HB := Lib.hid hb
  clear cc cg cr cm hM cB hr hb k0 k1 k2 k3 k4 c0 hlc hac
  have hz : ((n : Int) == 0) = false := by simp; omega
  by_cases g1 : gnd n v
  · rw [decide_eq_true g1] at n2
    by_cases g2 : ∀ z ∈ l, gnd n z
    · rw [decide_eq_true g2] at n3
      have n6 := n5 g2
      clear n5
      have g12 : gok n v l := ⟨g1, g2⟩
      by_cases g3 : v ∈ l
      · rw [decide_eq_true g3] at n4
        rw [show gfault n v l = 26 by unfold gfault; rw [if_pos g12, if_pos g3]]
        clear n6 g1 g2 g3 g12
        go_enter Tryz.func31, Tryz.ntmps31
        go_wp2_with fail
        rw [HW.out]
        refine n1.mono ?_; rintro e w1 ⟨rfl, rfl⟩
        go_wp2_with fail
        refine n2.mono ?_; rintro e w1 ⟨rfl, rfl⟩
        go_wp2_with fail
        refine n3.mono ?_; rintro e w1 ⟨rfl, _, rfl⟩
        go_wp2_with fail
        refine n4.mono ?_; rintro e w1 ⟨rfl, _, rfl⟩
        go_wp2_with fail
        go_ret
        exact ⟨rfl, HB.out⟩
      · rw [decide_eq_false g3] at n4
        by_cases g4 : l.Nodup
        · rw [decide_eq_true g4] at n6
          rw [show gfault n v l = 0 by unfold gfault; rw [if_pos g12, if_neg g3, if_pos g4]]
          clear g1 g2 g3 g12 g4
          go_enter Tryz.func31, Tryz.ntmps31
          go_wp2_with fail
          rw [HW.out]
          refine n1.mono ?_; rintro e w1 ⟨rfl, rfl⟩
          go_wp2_with fail
          refine n2.mono ?_; rintro e w1 ⟨rfl, rfl⟩
          go_wp2_with fail
          refine n3.mono ?_; rintro e w1 ⟨rfl, _, rfl⟩
          go_wp2_with fail
          refine n4.mono ?_; rintro e w1 ⟨rfl, _, rfl⟩
          go_wp2_with fail
          refine n6.mono ?_; rintro e w1 ⟨rfl, kk, hkm, hkt⟩
          go_wp2_with fail
          go_ret
          exact ⟨rfl, HB.out.trans (hkt.below (fun j hj => by omega) (by omega))⟩
        · rw [decide_eq_false g4] at n6
          rw [show gfault n v l = 35 by unfold gfault; rw [if_pos g12, if_neg g3, if_neg g4]]
          clear g1 g2 g3 g12 g4
          go_enter Tryz.func31, Tryz.ntmps31
          go_wp2_with fail
          rw [HW.out]
          refine n1.mono ?_; rintro e w1 ⟨rfl, rfl⟩
          go_wp2_with fail
          refine n2.mono ?_; rintro e w1 ⟨rfl, rfl⟩
          go_wp2_with fail
          refine n3.mono ?_; rintro e w1 ⟨rfl, _, rfl⟩
          go_wp2_with fail
          refine n4.mono ?_; rintro e w1 ⟨rfl, _, rfl⟩
          go_wp2_with fail
          refine n6.mono ?_; rintro e w1 ⟨rfl, kk, hkm, hkt⟩
          go_wp2_with fail
          go_ret
          exact ⟨rfl, HB.out.trans (hkt.below (fun j hj => by omega) (by omega))⟩
    · rw [decide_eq_false g2] at n3
      rw [show gfault n v l = 2 by unfold gfault; rw [if_neg (show ¬ gok n v l from fun q => g2 q.2)]]
      clear n5 g1 g2 n4
      go_enter Tryz.func31, Tryz.ntmps31
      go_wp2_with fail
      rw [HW.out]
      refine n1.mono ?_; rintro e w1 ⟨rfl, rfl⟩
      go_wp2_with fail
      refine n2.mono ?_; rintro e w1 ⟨rfl, rfl⟩
      go_wp2_with fail
      refine n3.mono ?_; rintro e w1 ⟨rfl, _, rfl⟩
      go_wp2_with fail
      go_ret
      exact ⟨rfl, HB.out⟩
  · rw [decide_eq_false g1] at n2
    rw [show gfault n v l = 2 by unfold gfault; rw [if_neg (show ¬ gok n v l from fun q => g1 q.1)]]
    clear n5 g1 n3 n4
    go_enter Tryz.func31, Tryz.ntmps31
    go_wp2_with fail
    rw [HW.out]
    refine n1.mono ?_; rintro e w1 ⟨rfl, rfl⟩
    go_wp2_with fail
    refine n2.mono ?_; rintro e w1 ⟨rfl, rfl⟩
    go_wp2_with fail
    go_ret
    exact ⟨rfl, HB.out⟩
end Go.Proofs.YtbaeanpdjdcheaaGreat
