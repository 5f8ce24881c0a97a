/-
  The table of structs of four numbers of the landed code: what the calls that InternBack reaches answer, as the bundle of a table's contracts. No conditions.
-/
import Derived.Test.YteeonglebimnlaaTblT
import Derived.Test.YteeonglebimnlaaMapK
import Derived.Test.YteeonglebimnlaaIntD
import Derived.Test.YteeonglebimnlaaIntK
import Derived.Laws.Cover3
import Derived.Defers
import Derived.Recover
import Derived.WalkSmall
import Derived.BigQuiet
import Derived.Deep.QuietTactic
import Derived.Deep.RegionWith
namespace Go.Proofs.Yteeonglebimnlaa
open Go.RowKit Go.Maps Go.MapFns
set_option linter.unusedSimpArgs false
set_option linter.unusedVariables false

abbrev TabPX := TabP Try.prog 46 3 46 4 ok4 lit4 cells4
abbrev TabHX := TabH Try.prog 46 3 46 4 ok4 lit4 cells4
theorem idle_x (p : Addr) (w : World) :
    CallsD Try.prog 40 #[.pointer (some p)] .returning w fun e u' w' => e = .returned (.tuple #[]) ∧ u' = .returning ∧ w' = w := by
  refine callsD_of_wpS Try.func40 rfl fun c₀ cs hu => ?_
  apply wpS_seq
  apply wpS_region
  simp [wpOpsS, go_sem, recoverD, hu, Try.ntmps40, Exit.thenS]
  refine wpS_cond (t := false) (by simp [Act.eval, Array.replicate]) ?_
  simp only [Bool.false_eq_true, if_false]
  refine wpS_of_wp (wp_skip ?_)
  cases c₀
  simp_all [bodyPostS, results, Try.results40]
theorem found_x (k : K4) (w : World) : Calls Try.prog 32 #[enc4 k] w fun e w' => e = .returned (.bool true) ∧ Below w.heap.size w w' := by
  have hmf : ∀ (fn : Fn) (first cap : Array Value) (w : World), (Instr.makeFunc fn first cap).run Try.prog w = .ok (.func fn first cap) w := fun _ _ _ _ => rfl
  have heq := eq_stake
  unfold enc4
  go_enter_defers Try.func32, Try.ntmps32
  go_wp2
  refine leaves_cons (f := 40) (args := #[.pointer (some ⟨w.heap.size + 1, 0, none⟩)]) (by simp) (by simp [go_sem]) ?_
  refine (idle_x ⟨w.heap.size + 1, 0, none⟩ _).mono ?_
  rintro e u' w'' ⟨rfl, rfl, rfl⟩
  simp [Leaves, settle, results, Try.results32, go_sem]
  exact ((below1 w _).alloc (by simp) _).alloc (by simp; omega) _
theorem made_x {w : World} {B : Nat} {m : Int} (c0 : w.cell? ⟨B, 0, none⟩ = some (.int .i64 m)) (hm : 1 ≤ m) : Calls Try.prog 30 #[.pointer (some ⟨B, 0, none⟩)] w fun e w' => e = .returned (.bool true) ∧ w' = w := by
  have d0 : decide (0 < m) = true := decide_eq_true (by omega)
  go_enter Try.func30, Try.ntmps30
  go_wp2_with fail
  go_ret
  exact ⟨rfl, rfl⟩
theorem len_x {w : World} {B bm : Nat} {m : Int} {K : List K4} {v : Value} (h : TabPX w B m K bm v) (hm : 1 ≤ m) (hl : K.length ≤ 20000) : Calls Try.prog 15 #[.pointer (some ⟨B, 0, none⟩)] w fun e w' => e = .returned (.int .i64 (K.length : Int)) ∧ w' = w := by
  obtain ⟨a, c, rfl⟩ := (ownsRow_slc h.row).form
  have c0 := h.c0
  have c1 := h.c1
  clear h
  go_enter Try.func15, Try.ntmps15
  go_wp2_with fail
  refine (made_x c0 hm).mono ?_; rintro e w1 ⟨rfl, rfl⟩
  go_wp2_with fail
  go_ret
  exact ⟨rfl, rfl⟩
theorem find_x {w : World} {B bm : Nat} {m : Int} {K : List K4} {v : Value} (k : K4) (h : TabPX w B m K bm v) (hm : 1 ≤ m) (hk : ok4 k) : Calls Try.prog 14 #[.pointer (some ⟨B, 0, none⟩), enc4 k] w fun e w' => e = .returned (.tuple #[.int .i64 ((kf K k).getD 0), .bool (kf K k).isSome]) ∧ Below w.heap.size w w' := by
  have hfd := found_x k
  unfold enc4 at hfd ⊢
  have hb0 := below1 w (.cells #[.int .i64 k.1, .int .i64 k.2.1, .int .i64 k.2.2.1, .int .i64 k.2.2.2] 46)
  have hmd := made_x (h.below hb0).c0 hm
  have H := Lib.hid (h.below hb0); have HK := Lib.hid hk
  obtain ⟨b1, b2, b3, b4⟩ := new4 (w := w) (s := k) (Below.refl _ _)
  clear h hk
  go_enter Try.func14, Try.ntmps14
  go_wp2_with fail
  refine hmd.mono ?_; rintro e w1 ⟨rfl, rfl⟩
  go_wp2_with fail
  refine (hfd _).mono ?_; rintro e W ⟨rfl, hb⟩
  have H2 := Lib.hid (H.out.below hb)
  have c2 := H2.out.c2
  obtain ⟨d1, d2, d3, d4⟩ := new4 (w := w) (s := k) hb
  have hb2 : Below w.heap.size w W := hb0.trans (hb.mono hb0.size)
  go_wp2_with fail
  have hlk := run_look (w := W.drew) kitK (H2.out.map.keep rfl) k HK.out
  unfold enc4 at hlk
  go_region_held3 (fun wz => wz.cell? ⟨B, 2, none⟩ = some (.map (some bm)) ∧ wz.cell? ⟨w.heap.size, 0, none⟩ = some (.int .i64 k.1) ∧ wz.cell? ⟨w.heap.size, 1, none⟩ = some (.int .i64 k.2.1) ∧ wz.cell? ⟨w.heap.size, 2, none⟩ = some (.int .i64 k.2.2.1) ∧ wz.cell? ⟨w.heap.size, 3, none⟩ = some (.int .i64 k.2.2.2)) (exact ⟨c2, d1, d2, d3, d4⟩)
    (fail)
  all_goals go_wp2_with fail
  all_goals go_ret2
  all_goals exact ⟨rfl, below_drewN hb2 _⟩
theorem row_x {w : World} {B bm : Nat} {m : Int} {K : List K4} {a : Option Addr} {c n : Nat} (h : TabPX w B m K bm (.slice a K.length c)) (hn : n < K.length) : ∃ b off, a = some ⟨b, off, none⟩ ∧
    w.cell? ⟨b, off + n * 4, none⟩ = some (.int .i64 (K.getD n (0, 0, 0, 0)).1) ∧ w.cell? ⟨b, off + n * 4 + 1, none⟩ = some (.int .i64 (K.getD n (0, 0, 0, 0)).2.1) ∧ w.cell? ⟨b, off + n * 4 + 2, none⟩ = some (.int .i64 (K.getD n (0, 0, 0, 0)).2.2.1) ∧ w.cell? ⟨b, off + n * 4 + 3, none⟩ = some (.int .i64 (K.getD n (0, 0, 0, 0)).2.2.2) := by
  obtain ⟨a', c', e', _, _, _, hr⟩ := ownsRow_slc h.row
  cases e'
  have hl : (K.flatMap cells4).length = K.length * 4 := row4_len K
  have hx : ∀ j, j < 4 → ∃ b off, a = some ⟨b, off, none⟩ ∧ w.cell? ⟨b, off + (n * 4 + j), none⟩ = (cells4 (K.getD n (0, 0, 0, 0)))[j]? := fun j hj => by
    obtain ⟨b, off, e1, e2⟩ := hr (n * 4 + j) (by omega)
    exact ⟨b, off, e1, e2.trans (row4_at K n j hn hj)⟩
  obtain ⟨b, off, e0, z0⟩ := hx 0 (by omega)
  obtain ⟨_, _, e1, z1⟩ := hx 1 (by omega)
  rw [e0] at e1; cases e1
  obtain ⟨_, _, e2, z2⟩ := hx 2 (by omega)
  rw [e0] at e2; cases e2
  obtain ⟨_, _, e3, z3⟩ := hx 3 (by omega)
  rw [e0] at e3; cases e3
  exact ⟨b, off, e0, z0, z1, z2, z3⟩
set_option maxHeartbeats 4000000 in
theorem key_x {w : World} {B bm : Nat} {m : Int} {K : List K4} {v : Value} (i : Int) (h : TabPX w B m K bm v) (hm : 1 ≤ m) (hi : InR i) (hl : K.length ≤ 20000) : Calls Try.prog 16 #[.pointer (some ⟨B, 0, none⟩), .int .i64 i] w fun e w' => e = .returned (.tuple #[enc4 (gkey (0, 0, 0, 0) K i), .bool (gin K i)]) ∧ Below w.heap.size w w' := by
  obtain ⟨a, c, rfl⟩ := (ownsRow_slc h.row).form
  have hb0 := below1 w (.cells #[.int .i64 0, .int .i64 0, .int .i64 0, .int .i64 0] 46)
  have hln := len_x (h.below hb0) hm hl
  have c1 := (hb0.cell (p := ⟨B, 1, none⟩) h.lt).trans h.c1
  unfold enc4
  by_cases h0 : i < 0
  · have hg : gkey (0, 0, 0, 0) K i = (0, 0, 0, 0) ∧ gin K i = false := by unfold gkey gin; rw [if_neg (by omega)]; simp; omega
    rw [hg.1, hg.2]
    clear hg h
    go_enter Try.func16, Try.ntmps16
    go_wp2_with fail
    exact bodyPost_ret (v := .tuple #[.agg #[.int .i64 0, .int .i64 0, .int .i64 0, .int .i64 0], .bool false]) (by simp [results, Try.results16, go_sem]) rfl ⟨rfl, (below1 w _).alloc (by simp) _⟩
  · obtain ⟨n, rfl⟩ := Int.eq_ofNat_of_zero_le (show 0 ≤ i by omega)
    have d0 : decide ((n : Int) < 0) = false := decide_eq_false (by omega)
    by_cases h1 : n < K.length
    · have d1 : decide ((K.length : Int) ≤ (n : Int)) = false := decide_eq_false (by omega)
      have hg : gkey (0, 0, 0, 0) K (n : Int) = K.getD n (0, 0, 0, 0) ∧ gin K (n : Int) = true := by
        unfold gkey gin
        rw [if_pos (by omega), Int.toNat_natCast]
        exact ⟨rfl, by simp; omega⟩
      rw [hg.1, hg.2]
      obtain ⟨b, off, rfl, z0, z1, z2, z3⟩ := row_x h h1
      have hb : b < w.heap.size := World.block_lt_of_cell? w _ z0
      replace z0 := (hb0.cell (p := ⟨b, _, none⟩) hb).trans z0
      replace z1 := (hb0.cell (p := ⟨b, _, none⟩) hb).trans z1
      replace z2 := (hb0.cell (p := ⟨b, _, none⟩) hb).trans z2
      replace z3 := (hb0.cell (p := ⟨b, _, none⟩) hb).trans z3
      generalize K.getD n (0, 0, 0, 0) = z at *
      have i0 : (0 : Int) ≤ (n : Int) := by omega
      have i1 : (n : Int) < (K.length : Int) := by omega
      clear hg h0 h
      go_enter Try.func16, Try.ntmps16
      go_wp2_with fail
      refine hln.mono ?_; rintro e w1 ⟨rfl, rfl⟩
      go_wp2_with fail
      exact bodyPost_ret (v := .tuple #[.agg #[.int .i64 z.1, .int .i64 z.2.1, .int .i64 z.2.2.1, .int .i64 z.2.2.2], .bool true]) (by simp [results, Try.results16, go_sem]) rfl ⟨rfl, below1 w _⟩
    · have d1 : decide ((K.length : Int) ≤ (n : Int)) = true := decide_eq_true (by omega)
      have hg : gkey (0, 0, 0, 0) K (n : Int) = (0, 0, 0, 0) ∧ gin K (n : Int) = false := by
        unfold gkey gin
        rw [if_neg (by omega)]
        exact ⟨rfl, by simp; omega⟩
      rw [hg.1, hg.2]
      clear hg h0 h
      go_enter Try.func16, Try.ntmps16
      go_wp2_with fail
      refine hln.mono ?_; rintro e w1 ⟨rfl, rfl⟩
      go_wp2_with fail
      exact bodyPost_ret (v := .tuple #[.agg #[.int .i64 0, .int .i64 0, .int .i64 0, .int .i64 0], .bool false]) (by simp [results, Try.results16, go_sem]) rfl ⟨rfl, (below1 w _).alloc (by simp) _⟩
set_option maxHeartbeats 4000000 in
set_option maxRecDepth 100000 in
theorem put_x {w : World} {B bm : Nat} {m : Int} {K : List K4} {v : Value} (k : K4) (h : TabPX w B m K bm v) (hk : ok4 k) (hin : ¬ k ∈ K) (hl : K.length < 20000) : Calls Try.prog 31 #[.pointer (some ⟨B, 0, none⟩), enc4 k] w fun e w' =>
    e = .returned (.int .i64 (K.length : Int)) ∧ ∃ v', TabPX w' B m (K ++ [k]) bm v' ∧ Turn (TabF B bm v) w w' ∧ ∀ j, TabF B bm v' j → TabF B bm v j ∨ w.heap.size ≤ j := by
  obtain ⟨a, c, rfl⟩ := (ownsRow_slc h.row).form
  have hfd := found_x k
  unfold enc4 at hfd ⊢
  have hfo := h.foot
  have hb0 := below1 w (.cells #[.int .i64 k.1, .int .i64 k.2.1, .int .i64 k.2.2.1, .int .i64 k.2.2.2] 46)
  replace h := h.below hb0
  have c1 := h.c1
  have z1 := h.z1
  have hn : kf K k = none := by simpa using kf_out hin
  have H := Lib.hid h; have HK := Lib.hid hk; have HN := Lib.hid hn; have HI := Lib.hid hin; have HFO := Lib.hid hfo
  obtain ⟨f1, f2, f3, f4⟩ := new4 (w := w) (s := k) (Below.refl _ _)
  have hfB : B < w.heap.size := hfo B (Or.inl rfl)
  have hfM : bm < w.heap.size := hfo bm (Or.inr (Or.inl rfl))
  have hfv : ¬ (Value.slice a K.length c).ownBlock = some w.heap.size := fun r => Nat.lt_irrefl _ (hfo _ (Or.inr (Or.inr r)))
  clear h hk hn hin hfo
  go_enter Try.func31, Try.ntmps31
  go_wp2_with fail
  generalize hW : w.alloc (.cells #[.int .i64 k.1, .int .i64 k.2.1, .int .i64 k.2.2.1, .int .i64 k.2.2.2] 46) = W at *
  have hsz : w.heap.size < W.heap.size := by rw [← hW]; simp
  have S4 : Hid (∀ wz, Turn (fun j => (Value.slice a K.length c).ownBlock = some j ∨ j = B) W wz → wz.cell? ⟨w.heap.size, 0, none⟩ = some (.int .i64 k.1) ∧ wz.cell? ⟨w.heap.size, 1, none⟩ = some (.int .i64 k.2.1) ∧ wz.cell? ⟨w.heap.size, 2, none⟩ = some (.int .i64 k.2.2.1) ∧ wz.cell? ⟨w.heap.size, 3, none⟩ = some (.int .i64 k.2.2.2)) := by
    intro wz q
    have hc : ∀ i, wz.cell? ⟨w.heap.size, i, none⟩ = W.cell? ⟨w.heap.size, i, none⟩ := fun i => q.cell (a := ⟨w.heap.size, i, none⟩) hsz (by
      rintro (r | r)
      · exact hfv r
      · have r' : w.heap.size = B := r; omega)
    exact ⟨(hc 0).trans f1, (hc 1).trans f2, (hc 2).trans f3, (hc 3).trans f4⟩
  have x1 : (W.alloc (.cells #[.int .i64 k.1, .int .i64 k.2.1, .int .i64 k.2.2.1, .int .i64 k.2.2.2] 46)).cell? ⟨B, 1, none⟩ = some (.slice a K.length c) := ((below1 W _).cell (p := ⟨B, 1, none⟩) H.out.lt).trans c1
  refine wp_region_held_drew (S := (fun wz => wz.cell? ⟨w.heap.size, 0, none⟩ = some (.int .i64 k.1) ∧ wz.cell? ⟨w.heap.size, 1, none⟩ = some (.int .i64 k.2.1) ∧ wz.cell? ⟨w.heap.size, 2, none⟩ = some (.int .i64 k.2.2.1) ∧ wz.cell? ⟨w.heap.size, 3, none⟩ = some (.int .i64 k.2.2.2))) (by kernel_rfl) ((⟨f1, f2, f3, f4⟩)) (fun hHeld => ?_)
  refine wpAnyH_take (i := 0) (v := ?_) rfl (by kernel_rfl) (by kernel_rfl) (by kernel_rfl) (fun _ _ _ h => h) (Or.inl ⟨by rfl, ?y0⟩) (by assumption) ?_
  case y0 => intro w hSw; (try dsimp only at hSw); go_simp; (try with_reducible rfl)
  (try simp only [Act.put, List.setIfInBounds_toArray, List.set_cons_zero, List.set_cons_succ, List.getElem_toArray, List.getElem_cons_zero, List.getElem_cons_succ])
  refine wpAnyH_take (i := 1) (v := ?_) rfl (by kernel_rfl) (by kernel_rfl) (by kernel_rfl) (fun _ _ _ h => h) (Or.inl ⟨by rfl, ?y1⟩) (by assumption) ?_
  case y1 => intro w hSw; (try dsimp only at hSw); go_simp; (try with_reducible rfl)
  (try simp only [Act.put, List.setIfInBounds_toArray, List.set_cons_zero, List.set_cons_succ, List.getElem_toArray, List.getElem_cons_zero, List.getElem_cons_succ])
  refine wpAnyH_take (i := 2) (v := ?_) rfl (by kernel_rfl) (by kernel_rfl) (by kernel_rfl) (fun _ _ _ h => h) (Or.inl ⟨by rfl, ?y2⟩) (by assumption) ?_
  case y2 => intro w hSw; (try dsimp only at hSw); go_simp; (try with_reducible rfl)
  (try simp only [Act.put, List.setIfInBounds_toArray, List.set_cons_zero, List.set_cons_succ, List.getElem_toArray, List.getElem_cons_zero, List.getElem_cons_succ])
  refine wpAnyH_take (i := 3) (v := ?_) rfl (by kernel_rfl) (by kernel_rfl) (by kernel_rfl) (fun _ _ _ h => h) (Or.inl ⟨by rfl, ?y3⟩) (by assumption) ?_
  case y3 => intro w hSw; (try dsimp only at hSw); go_simp; (try with_reducible rfl)
  (try simp only [Act.put, List.setIfInBounds_toArray, List.set_cons_zero, List.set_cons_succ, List.getElem_toArray, List.getElem_cons_zero, List.getElem_cons_succ])
  refine wpAnyH_take (i := 5) (v := ?_) rfl (by kernel_rfl) (by kernel_rfl) (by kernel_rfl) (fun _ _ _ h => h) (Or.inl ⟨by rfl, ?y5⟩) (by assumption) ?_
  case y5 => intro w hSw; (try dsimp only at hSw); go_simp; (try with_reducible rfl)
  (try simp only [Act.put, List.setIfInBounds_toArray, List.set_cons_zero, List.set_cons_succ, List.getElem_toArray, List.getElem_cons_zero, List.getElem_cons_succ])
  refine wpAnyH_ready (rs := [4, 6]) (by kernel_rfl) (by simp) ?_
  refine AllReadyH.cons rfl (fun KK hKK => ?_) (AllReadyH.cons rfl (fun KK hKK => ?_) AllReadyH.nil)
  · go_simp
    refine hKK.out _ _ ?_ (fun hHeld => ?_)
    · first | exact ⟨f1, f2, f3, f4⟩ | exact S4.out _ (Turn.of_below ((below1 W _).drew))
    clear hKK KK
    (try simp only [Act.put, List.setIfInBounds_toArray, List.set_cons_zero, List.set_cons_succ, List.getElem_toArray, List.getElem_cons_zero, List.getElem_cons_succ])
    refine wpAnyH_ready (rs := [6]) (by kernel_rfl) (by simp) ?_
    refine AllReadyH.cons rfl (fun KK hKK => ?_) AllReadyH.nil
    go_simp
    refine hKK.out _ _ (S4.out _ (Turn.of_below ((below1 W _).drew))) (fun hHeld => ?_)
    clear hKK KK
    (try simp only [Act.put, List.setIfInBounds_toArray, List.set_cons_zero, List.set_cons_succ, List.getElem_toArray, List.getElem_cons_zero, List.getElem_cons_succ])
    refine wpAnyH_ready (rs := [7]) (by kernel_rfl) (by simp) ?_
    refine AllReadyH.cons rfl (fun KK hKK => ?_) AllReadyH.nil
    refine step_push1 rfl (.tmp 15) (.tmp 17) 41 rfl (fun j => j = B ∨ j = bm) 0 46 4 32 (.agg #[.int .i64 0, .int .i64 0, .int .i64 0, .int .i64 0]) Try.underlying41 stake_info rfl (by decide) (cells4 k) rfl (.slice a K.length c) K.length (K.flatMap cells4) (by simp [Act.eval, Act.put]) (w := W.drew) ⟨H.out.own.1.drew, H.out.own.2⟩ (by simp [Act.eval, Act.put]) (by intro u hu; simp [cells4] at hu; rcases hu with rfl | rfl | rfl | rfl <;> rfl) (by omega) (by decide) (Nat.zero_le _) (fun j q => q.elim (fun q => q ▸ H.out.lt) (fun q => q ▸ H.out.map.lt)) ?_
    intro v3 w3 o3 t3 l3
    have t3' : Turn (fun j => (Value.slice a K.length c).ownBlock = some j) W w3 := ⟨t3.os, t3.tape, t3.output, t3.size, t3.block⟩
    obtain ⟨a3, q3, rfl⟩ := (ownsRow_slc o3.1).form
    have HP := Lib.hid (H.out.relay (R' := K ++ [k]) (by rw [List.length_append, List.flatMap_append]; simpa using o3) t3' l3)
    have hB3 : w3.heap[B]? = W.heap[B]? := t3'.block B H.out.lt H.out.h2
    have T3 : Hid (Turn (fun j => (Value.slice a K.length c).ownBlock = some j ∨ j = B) W w3) := t3'.mono (fun j q => Or.inl q)
    have T4 : Hid (Turn (fun j => (Value.slice a K.length c).ownBlock = some j ∨ j = B) W (w3.setCell ⟨B, 1, none⟩ (.slice a3 (K.length + 1) q3))) := turn_set T3.out (p := ⟨B, 1, none⟩) (Or.inl (Or.inr rfl)) _
    have y1 : w3.cell? ⟨B, 1, none⟩ = some (.slice a K.length c) := (World.cell?_of_block hB3).trans H.out.c1
    have y2 : w3.frozen? ⟨B, 1, none⟩ = false := (World.frozen?_of_block hB3).trans H.out.z1
    clear hB3 o3 t3 l3 t3'
    refine hKK.out _ _ (S4.out _ T3.out) (fun hHeld => ?_)
    clear hKK KK
    (try simp only [Act.put, List.setIfInBounds_toArray, List.set_cons_zero, List.set_cons_succ, List.getElem_toArray, List.getElem_cons_zero, List.getElem_cons_succ])
    refine wpAnyH_take (i := 8) (v := ?_) rfl (by kernel_rfl) (by kernel_rfl) (by kernel_rfl) (fun _ _ _ h => h) (Or.inl ⟨by rfl, ?y8⟩) (by assumption) ?_
    case y8 => intro w hSw; (try dsimp only at hSw); go_simp; (try with_reducible rfl)
    (try simp only [Act.put, List.setIfInBounds_toArray, List.set_cons_zero, List.set_cons_succ, List.getElem_toArray, List.getElem_cons_zero, List.getElem_cons_succ])
    refine wpAnyH_take (i := 9) (v := ?_) rfl (by kernel_rfl) (by kernel_rfl) (by kernel_rfl) (fun _ _ _ h => h) (Or.inl ⟨by rfl, ?y9⟩) (by assumption) ?_
    case y9 => intro w hSw; (try dsimp only at hSw); go_simp; (try with_reducible rfl)
    (try simp only [Act.put, List.setIfInBounds_toArray, List.set_cons_zero, List.set_cons_succ, List.getElem_toArray, List.getElem_cons_zero, List.getElem_cons_succ])
    refine wpAnyH_ready (rs := [10]) (by kernel_rfl) (by simp) ?_
    refine AllReadyH.cons rfl (fun KK hKK => ?_) AllReadyH.nil
    go_simp
    refine hKK.out _ _ (S4.out _ T4.out) (fun hHeld => ?_)
    clear hKK KK
    (try simp only [Act.put, List.setIfInBounds_toArray, List.set_cons_zero, List.set_cons_succ, List.getElem_toArray, List.getElem_cons_zero, List.getElem_cons_succ])
    refine wpAnyH_done (by kernel_rfl) ?_ _
    generalize hW4 : w3.setCell ⟨B, 1, none⟩ (.slice a3 (K.length + 1) q3) = W4 at *
    obtain ⟨g1, g2, g3, g4⟩ := S4.out _ T4.out
    go_wp2_with fail
    refine (hfd _).mono ?_; rintro e W5 ⟨rfl, hb5⟩
    have H5 := Lib.hid (HP.out.1.below hb5)
    have c2 := H5.out.c2
    obtain ⟨d1, d2, d3, d4⟩ := S4.out _ (T4.out.trans (Turn.of_below hb5 (F := fun _ => False)) (fun j q => q.elim))
    obtain ⟨W6, hst, M6, g6⟩ := Go.MapFns.run_store (w := W5.drew) kitK (H5.out.map.keep rfl) (by unfold maxLen; omega) k HK.out (K.length : Int) (wf_of (by unfold InR; omega)) HN.out
    unfold enc4 at hst
    have g6' : W5.grownBy W6 (some bm) := ⟨g6.os, g6.tape, g6.output, g6.size, g6.block⟩
    have H6 := Lib.hid (H5.out.remap M6 g6')
    have CL : Hid (∀ b i x, b ≠ bm → W5.cell? ⟨b, i, none⟩ = some x → W6.cell? ⟨b, i, none⟩ = some x) := fun b i x hb hx => (World.cell?_of_block (a := ⟨b, i, none⟩) (g6'.block b (World.block_lt_of_cell? W5 _ hx) (fun r => hb (by simpa using r)))).trans hx
    have hBm : B ≠ bm := H.out.h1
    have hNm : w.heap.size ≠ bm := by omega
    have e1 := CL.out _ _ _ hNm d1
    have e2 := CL.out _ _ _ hNm d2
    have e3 := CL.out _ _ _ hNm d3
    have e4 := CL.out _ _ _ hNm d4
    have e5 := CL.out _ _ _ hBm c2
    clear M6 g6 g6'
    go_wp2_with fail
    go_region_held3 (fun wz => wz.cell? ⟨B, 2, none⟩ = some (.map (some bm)) ∧ wz.cell? ⟨w.heap.size, 0, none⟩ = some (.int .i64 k.1) ∧ wz.cell? ⟨w.heap.size, 1, none⟩ = some (.int .i64 k.2.1) ∧ wz.cell? ⟨w.heap.size, 2, none⟩ = some (.int .i64 k.2.2.1) ∧ wz.cell? ⟨w.heap.size, 3, none⟩ = some (.int .i64 k.2.2.2)) (first | exact ⟨c2, d1, d2, d3, d4⟩ | exact ⟨e5, e1, e2, e3, e4⟩)
      (fail)
    all_goals go_wp2_with fail
    all_goals go_ret
    all_goals exact ⟨rfl, _, H6.out.1.same rfl (by simp) (fun j => kf_put HI.out j), (((Turn.of_below hb0).trans HP.out.2.1 (fun j q => Or.inl q)).trans (Turn.of_below hb5 (F := fun _ => False)) (fun j q => q.elim)).trans H6.out.2 (fun j q => (HP.out.2.2 j q).imp id (fun q => Nat.le_trans hb0.size q)), fun j q => (HP.out.2.2 j q).imp id (fun q => Nat.le_trans hb0.size q)⟩
  · go_simp
    refine hKK.out _ _ (S4.out _ (Turn.of_below ((below1 W _).drew))) (fun hHeld => ?_)
    clear hKK KK
    (try simp only [Act.put, List.setIfInBounds_toArray, List.set_cons_zero, List.set_cons_succ, List.getElem_toArray, List.getElem_cons_zero, List.getElem_cons_succ])
    refine wpAnyH_ready (rs := [4]) (by kernel_rfl) (by simp) ?_
    refine AllReadyH.cons rfl (fun KK hKK => ?_) AllReadyH.nil
    go_simp
    refine hKK.out _ _ ?_ (fun hHeld => ?_)
    · first | exact ⟨f1, f2, f3, f4⟩ | exact S4.out _ (Turn.of_below ((below1 W _).drew))
    clear hKK KK
    (try simp only [Act.put, List.setIfInBounds_toArray, List.set_cons_zero, List.set_cons_succ, List.getElem_toArray, List.getElem_cons_zero, List.getElem_cons_succ])
    refine wpAnyH_ready (rs := [7]) (by kernel_rfl) (by simp) ?_
    refine AllReadyH.cons rfl (fun KK hKK => ?_) AllReadyH.nil
    refine step_push1 rfl (.tmp 15) (.tmp 17) 41 rfl (fun j => j = B ∨ j = bm) 0 46 4 32 (.agg #[.int .i64 0, .int .i64 0, .int .i64 0, .int .i64 0]) Try.underlying41 stake_info rfl (by decide) (cells4 k) rfl (.slice a K.length c) K.length (K.flatMap cells4) (by simp [Act.eval, Act.put]) (w := W.drew) ⟨H.out.own.1.drew, H.out.own.2⟩ (by simp [Act.eval, Act.put]) (by intro u hu; simp [cells4] at hu; rcases hu with rfl | rfl | rfl | rfl <;> rfl) (by omega) (by decide) (Nat.zero_le _) (fun j q => q.elim (fun q => q ▸ H.out.lt) (fun q => q ▸ H.out.map.lt)) ?_
    intro v3 w3 o3 t3 l3
    have t3' : Turn (fun j => (Value.slice a K.length c).ownBlock = some j) W w3 := ⟨t3.os, t3.tape, t3.output, t3.size, t3.block⟩
    obtain ⟨a3, q3, rfl⟩ := (ownsRow_slc o3.1).form
    have HP := Lib.hid (H.out.relay (R' := K ++ [k]) (by rw [List.length_append, List.flatMap_append]; simpa using o3) t3' l3)
    have hB3 : w3.heap[B]? = W.heap[B]? := t3'.block B H.out.lt H.out.h2
    have T3 : Hid (Turn (fun j => (Value.slice a K.length c).ownBlock = some j ∨ j = B) W w3) := t3'.mono (fun j q => Or.inl q)
    have T4 : Hid (Turn (fun j => (Value.slice a K.length c).ownBlock = some j ∨ j = B) W (w3.setCell ⟨B, 1, none⟩ (.slice a3 (K.length + 1) q3))) := turn_set T3.out (p := ⟨B, 1, none⟩) (Or.inl (Or.inr rfl)) _
    have y1 : w3.cell? ⟨B, 1, none⟩ = some (.slice a K.length c) := (World.cell?_of_block hB3).trans H.out.c1
    have y2 : w3.frozen? ⟨B, 1, none⟩ = false := (World.frozen?_of_block hB3).trans H.out.z1
    clear hB3 o3 t3 l3 t3'
    refine hKK.out _ _ (S4.out _ T3.out) (fun hHeld => ?_)
    clear hKK KK
    (try simp only [Act.put, List.setIfInBounds_toArray, List.set_cons_zero, List.set_cons_succ, List.getElem_toArray, List.getElem_cons_zero, List.getElem_cons_succ])
    refine wpAnyH_take (i := 8) (v := ?_) rfl (by kernel_rfl) (by kernel_rfl) (by kernel_rfl) (fun _ _ _ h => h) (Or.inl ⟨by rfl, ?y8⟩) (by assumption) ?_
    case y8 => intro w hSw; (try dsimp only at hSw); go_simp; (try with_reducible rfl)
    (try simp only [Act.put, List.setIfInBounds_toArray, List.set_cons_zero, List.set_cons_succ, List.getElem_toArray, List.getElem_cons_zero, List.getElem_cons_succ])
    refine wpAnyH_take (i := 9) (v := ?_) rfl (by kernel_rfl) (by kernel_rfl) (by kernel_rfl) (fun _ _ _ h => h) (Or.inl ⟨by rfl, ?y9⟩) (by assumption) ?_
    case y9 => intro w hSw; (try dsimp only at hSw); go_simp; (try with_reducible rfl)
    (try simp only [Act.put, List.setIfInBounds_toArray, List.set_cons_zero, List.set_cons_succ, List.getElem_toArray, List.getElem_cons_zero, List.getElem_cons_succ])
    refine wpAnyH_ready (rs := [10]) (by kernel_rfl) (by simp) ?_
    refine AllReadyH.cons rfl (fun KK hKK => ?_) AllReadyH.nil
    go_simp
    refine hKK.out _ _ (S4.out _ T4.out) (fun hHeld => ?_)
    clear hKK KK
    (try simp only [Act.put, List.setIfInBounds_toArray, List.set_cons_zero, List.set_cons_succ, List.getElem_toArray, List.getElem_cons_zero, List.getElem_cons_succ])
    refine wpAnyH_done (by kernel_rfl) ?_ _
    generalize hW4 : w3.setCell ⟨B, 1, none⟩ (.slice a3 (K.length + 1) q3) = W4 at *
    obtain ⟨g1, g2, g3, g4⟩ := S4.out _ T4.out
    go_wp2_with fail
    refine (hfd _).mono ?_; rintro e W5 ⟨rfl, hb5⟩
    have H5 := Lib.hid (HP.out.1.below hb5)
    have c2 := H5.out.c2
    obtain ⟨d1, d2, d3, d4⟩ := S4.out _ (T4.out.trans (Turn.of_below hb5 (F := fun _ => False)) (fun j q => q.elim))
    obtain ⟨W6, hst, M6, g6⟩ := Go.MapFns.run_store (w := W5.drew) kitK (H5.out.map.keep rfl) (by unfold maxLen; omega) k HK.out (K.length : Int) (wf_of (by unfold InR; omega)) HN.out
    unfold enc4 at hst
    have g6' : W5.grownBy W6 (some bm) := ⟨g6.os, g6.tape, g6.output, g6.size, g6.block⟩
    have H6 := Lib.hid (H5.out.remap M6 g6')
    have CL : Hid (∀ b i x, b ≠ bm → W5.cell? ⟨b, i, none⟩ = some x → W6.cell? ⟨b, i, none⟩ = some x) := fun b i x hb hx => (World.cell?_of_block (a := ⟨b, i, none⟩) (g6'.block b (World.block_lt_of_cell? W5 _ hx) (fun r => hb (by simpa using r)))).trans hx
    have hBm : B ≠ bm := H.out.h1
    have hNm : w.heap.size ≠ bm := by omega
    have e1 := CL.out _ _ _ hNm d1
    have e2 := CL.out _ _ _ hNm d2
    have e3 := CL.out _ _ _ hNm d3
    have e4 := CL.out _ _ _ hNm d4
    have e5 := CL.out _ _ _ hBm c2
    clear M6 g6 g6'
    go_wp2_with fail
    go_region_held3 (fun wz => wz.cell? ⟨B, 2, none⟩ = some (.map (some bm)) ∧ wz.cell? ⟨w.heap.size, 0, none⟩ = some (.int .i64 k.1) ∧ wz.cell? ⟨w.heap.size, 1, none⟩ = some (.int .i64 k.2.1) ∧ wz.cell? ⟨w.heap.size, 2, none⟩ = some (.int .i64 k.2.2.1) ∧ wz.cell? ⟨w.heap.size, 3, none⟩ = some (.int .i64 k.2.2.2)) (first | exact ⟨c2, d1, d2, d3, d4⟩ | exact ⟨e5, e1, e2, e3, e4⟩)
      (fail)
    all_goals go_wp2_with fail
    all_goals go_ret
    all_goals exact ⟨rfl, _, H6.out.1.same rfl (by simp) (fun j => kf_put HI.out j), (((Turn.of_below hb0).trans HP.out.2.1 (fun j q => Or.inl q)).trans (Turn.of_below hb5 (F := fun _ => False)) (fun j q => q.elim)).trans H6.out.2 (fun j q => (HP.out.2.2 j q).imp id (fun q => Nat.le_trans hb0.size q)), fun j q => (HP.out.2.2 j q).imp id (fun q => Nat.le_trans hb0.size q)⟩
set_option maxHeartbeats 4000000 in
theorem id_x {w : World} {B bm : Nat} {m : Int} {K : List K4} {v : Value} (k : K4) (h : TabPX w B m K bm v) (hk : ok4 k) (hl : (K.length : Int) ≤ m) (hm1 : 1 ≤ m) (hm : m ≤ 20000) : Calls Try.prog 13 #[.pointer (some ⟨B, 0, none⟩), enc4 k] w fun e w' =>
    e = .returned (.tuple #[.int .i64 (gidN K m k), .int .i64 (gidE K m k)]) ∧ ∃ v', TabPX w' B m (gidK K m k) bm v' ∧ Turn (TabF B bm v) w w' ∧ ∀ j, TabF B bm v' j → TabF B bm v j ∨ w.heap.size ≤ j := by
  have hb0 := below1 w (.cells #[.int .i64 k.1, .int .i64 k.2.1, .int .i64 k.2.2.1, .int .i64 k.2.2.2] 46)
  replace h := h.below hb0
  have hmd := made_x h.c0 hm1
  have hfi := find_x k h hm1 hk
  have hpu := fun (w : World) (v : Value) (h : TabPX w B m K bm v) => put_x k h hk
  have H := Lib.hid h
  have hl2 : K.length ≤ 20000 := by omega
  unfold enc4 at hfi hpu ⊢
  have HPU := Lib.hid hpu
  obtain ⟨b1, b2, b3, b4⟩ := new4 (w := w) (s := k) (Below.refl _ _)
  clear h hpu
  by_cases hin : k ∈ K
  · have hg : gidN K m k = gfnd K k ∧ gidE K m k = 0 ∧ gidK K m k = K := by unfold gidN gidE gidK gfnd; simp [hin]
    rw [hg.1, hg.2.1, hg.2.2, ← kf_get]
    rw [kf_in hin] at hfi
    clear hg
    go_enter Try.func13, Try.ntmps13
    go_wp2_with fail
    refine hmd.mono ?_; rintro e w1 ⟨rfl, rfl⟩
    go_wp2_with fail
    refine hfi.mono ?_; rintro e w2 ⟨rfl, hb⟩
    go_wp2_with fail
    go_ret2
    exact ⟨rfl, _, H.out.below hb, Turn.of_below (hb0.trans (hb.mono hb0.size)), fun j q => Or.inl q⟩
  · rw [kf_out hin] at hfi
    by_cases hf : m ≤ (K.length : Int)
    · have hg : gidN K m k = 0 ∧ gidE K m k = 3 ∧ gidK K m k = K := by unfold gidN gidE gidK; simp [hin, hf]
      rw [hg.1, hg.2.1, hg.2.2]
      obtain rfl : m = (K.length : Int) := by omega
      clear hg
      go_enter Try.func13, Try.ntmps13
      go_wp2_with fail
      refine hmd.mono ?_; rintro e w1 ⟨rfl, rfl⟩
      go_wp2_with fail
      refine hfi.mono ?_; rintro e w2 ⟨rfl, hb⟩
      have H2 := Lib.hid (H.out.below hb)
      obtain ⟨a, c, rfl⟩ := (ownsRow_slc H2.out.row).form
      have x0 := H2.out.c0
      have x1 := H2.out.c1
      go_wp2_with fail
      go_region
      go_wp2_with fail
      go_ret2
      exact ⟨rfl, _, H2.out.drewN _, Turn.of_below (below_drewN (hb0.trans (hb.mono hb0.size)) _), fun j q => Or.inl q⟩
    · have hg : gidN K m k = (K.length : Int) ∧ gidE K m k = 0 ∧ gidK K m k = K ++ [k] := by unfold gidN gidE gidK; simp [hin, hf]
      rw [hg.1, hg.2.1, hg.2.2]
      have d1 : ((K.length : Int) == m) = false := by simp; omega
      have HI := Lib.hid hin
      have hl3 : K.length < 20000 := by omega
      clear hg hin
      go_enter Try.func13, Try.ntmps13
      go_wp2_with fail
      refine hmd.mono ?_; rintro e w1 ⟨rfl, rfl⟩
      go_wp2_with fail
      refine hfi.mono ?_; rintro e w2 ⟨rfl, hb⟩
      have H2 := Lib.hid (H.out.below hb)
      obtain ⟨a, c, e1⟩ := (ownsRow_slc H2.out.row).form
      have x0 := H2.out.c0
      have x1 := H2.out.c1
      rw [e1] at x1
      obtain ⟨g1, g2, g3, g4⟩ := new4 (w := w) (s := k) hb
      have hb2 : Below w.heap.size w w2 := hb0.trans (hb.mono hb0.size)
      go_wp2_with fail
      go_region
      go_wp2_with fail
      refine (HPU.out _ _ (H2.out.drewN 1) HI.out hl3).mono ?_; rintro e w3 ⟨rfl, v3, h3, t3, f3⟩
      go_wp2_with fail
      go_ret2
      exact ⟨rfl, _, h3, (Turn.of_below (below_drewN hb2 _)).trans t3 (fun j q => Or.inl q), fun j q => (f3 j q).imp id (fun q => Nat.le_trans hb2.size q)⟩
theorem new_x (m : Int) (w : World) (h1 : 1 ≤ m) (h2 : m ≤ 20000) : Calls Try.prog 12 #[.int .i64 m] w fun e w' =>
    ∃ B bm v, e = .returned (.tuple #[.pointer (some ⟨B, 0, none⟩), .int .i64 0]) ∧ TabPX w' B m [] bm v ∧ Below w.heap.size w w' ∧ ∀ j, TabF B bm v j → w.heap.size ≤ j := by
  have d1 : decide (m < 1) = false := decide_eq_false (by omega)
  have d2 : decide (20000 < m) = false := decide_eq_false (by omega)
  have hmm := @run_makeMap Try.prog
  have HT := Lib.hid (TabP.made (P := Try.prog) (kt := 46) (it := 3) (e := 46) (size := 4) (ok := ok4) (lit := lit4) (cs := cells4) w m 72)
  go_enter Try.func12, Try.ntmps12
  go_wp2_with fail
  go_ret2
  refine ⟨_, _, _, rfl, HT.out, ((Below.refl _ w).alloc (Nat.le_refl _) _).alloc (by simp) _, ?_⟩
  rintro j (rfl | rfl | q)
  · omega
  · omega
  · cases q
theorem new_no_x (m : Int) (w : World) (h : ¬ (1 ≤ m ∧ m ≤ 20000)) : Calls Try.prog 12 #[.int .i64 m] w fun e w' => e = .returned (.tuple #[.pointer none, .int .i64 2]) ∧ Below w.heap.size w w' := by
  by_cases h1 : m < 1
  · go_enter Try.func12, Try.ntmps12
    go_wp2_with fail
    go_ret2
    exact ⟨rfl, Below.refl _ _⟩
  · have d1 : decide (m < 1) = false := decide_eq_false h1
    have d2 : decide (20000 < m) = true := decide_eq_true (by omega)
    go_enter Try.func12, Try.ntmps12
    go_wp2_with fail
    go_ret2
    exact ⟨rfl, Below.refl _ _⟩
/-- The contracts of a table of structs of four numbers. -/
def tabK : TabK where
  Rep := RepT Try.prog 46 3 46 4 ok4 lit4 cells4
  foot h := h.foot
  keep h hs hk := h.keep hs hk
  inv h := h.1
  new_ok m w h1 h2 := (new_x m w h1 h2).mono fun e w' ⟨B, bm, v, he, hT, hb, hF⟩ => ⟨B, TabF B bm v, he, ⟨⟨List.nodup_nil, by simp; omega, h1, h2, fun k hk => by cases hk⟩, bm, v, hT, rfl⟩, hb, hF⟩
  new_no := new_no_x
  id k h hk := by
    obtain ⟨h0, bm, v, hT, rfl⟩ := h
    refine (id_x k hT hk h0.2.1 h0.2.2.1 h0.2.2.2.1).mono fun e w' ⟨he, v', hT', ht, hF⟩ => ⟨he, TabF _ bm v', ⟨⟨?_, ?_, h0.2.2.1, h0.2.2.2.1, ?_⟩, bm, v', hT', rfl⟩, ht, hF⟩
    · unfold gidK; split
      · exact h0.1
      · split
        · exact h0.1
        · rename_i q _; exact List.nodup_append.2 ⟨h0.1, by simp, fun a ha b hb => by simp at hb; subst hb; exact fun r => q (r ▸ ha)⟩
    · have := h0.2.1
      unfold gidK; split
      · exact this
      · split
        · exact this
        · simp; omega
    · intro j hj
      unfold gidK at hj; split at hj
      · exact h0.2.2.2.2 j hj
      · split at hj
        · exact h0.2.2.2.2 j hj
        · rcases List.mem_append.1 hj with hj | hj
          · exact h0.2.2.2.2 j hj
          · rw [List.mem_singleton.1 hj]; exact hk
  find _ {w B m K F} k h hk := by
    obtain ⟨h0, bm, v, hT, rfl⟩ := h
    have := find_x k hT h0.2.2.1 hk
    rw [kf_get, kf_some] at this
    exact this
  key _ {w B m K F} i h hi := by
    obtain ⟨h0, bm, v, hT, rfl⟩ := h
    exact key_x i hT h0.2.2.1 hi (by have := h0.2.1; have := h0.2.2.2.1; omega)
  len h := by
    obtain ⟨h0, bm, v, hT, rfl⟩ := h
    exact (len_x hT h0.2.2.1 (by have := h0.2.1; have := h0.2.2.2.1; omega)).mono fun e w' ⟨q, r⟩ => ⟨q, r ▸ Below.refl _ _⟩
  cut h := h.elim
end Go.Proofs.Yteeonglebimnlaa
