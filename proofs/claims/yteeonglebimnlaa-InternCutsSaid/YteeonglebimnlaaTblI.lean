/-
  The table of numbers of the landed code: what its calls answer, as the bundle of a table's contracts. No conditions.
-/
import Derived.Test.YteeonglebimnlaaTblT
import Derived.Test.YteeonglebimnlaaMapK
import Derived.Test.YteeonglebimnlaaIntD
import Derived.Laws.Cover3
import Derived.Defers
import Derived.Recover
import Derived.WalkSmall
import Derived.BigQuiet
namespace Go.Proofs.Yteeonglebimnlaa
open Go.RowKit Go.Maps Go.MapFns
set_option linter.unusedSimpArgs false
set_option linter.unusedVariables false

abbrev TabPI := TabP Try.prog 3 3 3 1 InR (fun k => Lit.int .i64 k) (fun k : Int => [Value.int .i64 k])
abbrev TabHI := TabH Try.prog 3 3 3 1 InR (fun k => Lit.int .i64 k) (fun k : Int => [Value.int .i64 k])
theorem flat_one (K : List Int) : (K.flatMap fun k : Int => [Value.int .i64 k]) = K.map (fun k => Value.int .i64 k) := by
  induction K with
  | nil => rfl
  | cons a K ih => rw [List.flatMap_cons, ih]; rfl
theorem wrap64_up (k : Nat) (h : k < 20000) : wrap64 ((k : Int) + 1) = (k : Int) + 1 := by unfold wrap64; omega
theorem idle_i (p : Addr) (w : World) :
    CallsD Try.prog 42 #[.pointer (some p)] .returning w fun e u' w' => e = .returned (.tuple #[]) ∧ u' = .returning ∧ w' = w := by
  refine callsD_of_wpS Try.func42 rfl fun c₀ cs hu => ?_
  apply wpS_seq
  apply wpS_region
  simp [wpOpsS, go_sem, recoverD, hu, Try.ntmps42, Exit.thenS]
  refine wpS_cond (t := false) (by simp [Act.eval, Array.replicate]) ?_
  simp only [Bool.false_eq_true, if_false]
  refine wpS_of_wp (wp_skip ?_)
  cases c₀
  simp_all [bodyPostS, results, Try.results42]
theorem found_i (k : Int) (w : World) : Calls Try.prog 38 #[.int .i64 k] w fun e w' => e = .returned (.bool true) ∧ Below w.heap.size w w' := by
  have hmf : ∀ (fn : Fn) (first cap : Array Value) (w : World), (Instr.makeFunc fn first cap).run Try.prog w = .ok (.func fn first cap) w := fun _ _ _ _ => rfl
  go_enter_defers Try.func38, Try.ntmps38
  go_wp2
  refine leaves_cons (f := 42) (args := #[.pointer (some ⟨w.heap.size, 0, none⟩)]) (by simp) (by simp [go_sem]) ?_
  refine (idle_i ⟨w.heap.size, 0, none⟩ _).mono ?_
  rintro e u' w'' ⟨rfl, rfl, rfl⟩
  simp [Leaves, settle, results, Try.results38, go_sem]
  exact below1 w _
theorem made_i {w : World} {B : Nat} {m : Int} (c0 : w.cell? ⟨B, 0, none⟩ = some (.int .i64 m)) (hm : 1 ≤ m) : Calls Try.prog 29 #[.pointer (some ⟨B, 0, none⟩)] w fun e w' => e = .returned (.bool true) ∧ w' = w := by
  have d0 : decide (0 < m) = true := decide_eq_true (by omega)
  go_enter Try.func29, Try.ntmps29
  go_wp2_with fail
  go_ret
  exact ⟨rfl, rfl⟩
theorem len_i {w : World} {B bm : Nat} {m : Int} {K : List Int} {v : Value} (h : TabPI w B m K bm v) (hm : 1 ≤ m) (hl : K.length ≤ 20000) : Calls Try.prog 11 #[.pointer (some ⟨B, 0, none⟩)] w fun e w' => e = .returned (.int .i64 (K.length : Int)) ∧ w' = w := by
  obtain ⟨a, c, rfl⟩ := (ownsRow_slc h.row).form
  have c0 := h.c0
  have c1 := h.c1
  clear h
  go_enter Try.func11, Try.ntmps11
  go_wp2_with fail
  refine (made_i c0 hm).mono ?_; rintro e w1 ⟨rfl, rfl⟩
  go_wp2_with fail
  go_ret
  exact ⟨rfl, rfl⟩
theorem find_i {w : World} {B bm : Nat} {m : Int} {K : List Int} {v : Value} (k : Int) (h : TabPI w B m K bm v) (hm : 1 ≤ m) (hk : InR k) : Calls Try.prog 23 #[.pointer (some ⟨B, 0, none⟩), .int .i64 k] w fun e w' => e = .returned (.tuple #[.int .i64 ((kf K k).getD 0), .bool (kf K k).isSome]) ∧ Below w.heap.size w w' := by
  have c0 := h.c0
  have H := Lib.hid h; have HK := Lib.hid hk; clear h hk
  go_enter Try.func23, Try.ntmps23
  go_wp2_with fail
  refine (made_i c0 hm).mono ?_; rintro e w1 ⟨rfl, rfl⟩
  go_wp2_with fail
  refine (found_i k _).mono ?_; rintro e w2 ⟨rfl, hb⟩
  have H2 := Lib.hid (H.out.below hb)
  have c2 := H2.out.c2
  go_wp2_with (at_lookup; refine wp_look kitI rfl (.tmp 20) (.tmp 21) rfl rfl H2.out.map k HK.out rfl ?_)
  go_ret2
  exact ⟨rfl, hb⟩
theorem key_i {w : World} {B bm : Nat} {m : Int} {K : List Int} {v : Value} (i : Int) (h : TabPI w B m K bm v) (hm : 1 ≤ m) (hi : InR i) (hl : K.length ≤ 20000) : Calls Try.prog 22 #[.pointer (some ⟨B, 0, none⟩), .int .i64 i] w fun e w' => e = .returned (.tuple #[.int .i64 (gkey 0 K i), .bool (gin K i)]) ∧ Below w.heap.size w w' := by
  have hln := len_i h hm hl
  obtain ⟨a, c, rfl⟩ := (ownsRow_slc h.row).form
  have c1 := h.c1
  have HS := Lib.hid (ownsRow_slc h.row)
  clear h
  by_cases h0 : i < 0
  · have hg : gkey 0 K i = 0 ∧ gin K i = false := by unfold gkey gin; rw [if_neg (by omega)]; simp; omega
    rw [hg.1, hg.2]
    clear hg
    go_enter Try.func22, Try.ntmps22
    go_wp2_with fail
    go_ret2
    exact ⟨rfl, Below.refl _ _⟩
  · obtain ⟨n, rfl⟩ := Int.eq_ofNat_of_zero_le (show 0 ≤ i by omega)
    have d0 : decide ((n : Int) < 0) = false := decide_eq_false (by omega)
    by_cases h1 : n < K.length
    · have d1 : decide ((K.length : Int) ≤ (n : Int)) = false := decide_eq_false (by omega)
      have hg : gkey 0 K (n : Int) = K.getD n 0 ∧ gin K (n : Int) = true := by
        unfold gkey gin
        rw [if_pos (by omega), Int.toNat_natCast]
        exact ⟨rfl, by simp; omega⟩
      rw [hg.1, hg.2]
      obtain ⟨a', c', e', _, _, _, hr⟩ := HS.out
      cases e'
      obtain ⟨b, off, rfl, hcell⟩ := hr n (by rw [flat_one, List.length_map]; exact h1)
      have hx : (K.flatMap fun k : Int => [Value.int .i64 k])[n]? = some (.int .i64 (K.getD n 0)) := by
        rw [flat_one]; simp [h1]
      rw [hx] at hcell
      generalize K.getD n 0 = z at *
      have i0 : (0 : Int) ≤ (n : Int) := by omega
      have i1 : (n : Int) < (K.length : Int) := by omega
      clear hg hr hx h0
      go_enter Try.func22, Try.ntmps22
      go_wp2_with fail
      refine hln.mono ?_; rintro e w1 ⟨rfl, rfl⟩
      go_wp2_with fail
      go_ret2
      exact ⟨rfl, Below.refl _ _⟩
    · have d1 : decide ((K.length : Int) ≤ (n : Int)) = true := decide_eq_true (by omega)
      have hg : gkey 0 K (n : Int) = 0 ∧ gin K (n : Int) = false := by
        unfold gkey gin
        rw [if_neg (by omega)]
        exact ⟨rfl, by simp; omega⟩
      rw [hg.1, hg.2]
      clear hg h0
      go_enter Try.func22, Try.ntmps22
      go_wp2_with fail
      refine hln.mono ?_; rintro e w1 ⟨rfl, rfl⟩
      go_wp2_with fail
      go_ret2
      exact ⟨rfl, Below.refl _ _⟩
theorem put_i {w : World} {B bm : Nat} {m : Int} {K : List Int} {v : Value} (k : Int) (h : TabPI w B m K bm v) (hk : InR k) (hin : ¬ k ∈ K) (hl : K.length < 20000) : Calls Try.prog 37 #[.pointer (some ⟨B, 0, none⟩), .int .i64 k] w fun e w' =>
    e = .returned (.int .i64 (K.length : Int)) ∧ ∃ v', TabPI w' B m (K ++ [k]) bm v' ∧ Turn (TabF B bm v) w w' ∧ ∀ j, TabF B bm v' j → TabF B bm v j ∨ w.heap.size ≤ j := by
  obtain ⟨a, c, rfl⟩ := (ownsRow_slc h.row).form
  have c1 := h.c1
  have z1 := h.z1
  have hn : kf K k = none := by simpa using kf_out hin
  have H := Lib.hid h; have HK := Lib.hid hk; have HN := Lib.hid hn; have HI := Lib.hid hin
  clear h hk hn hin
  go_enter Try.func37, Try.ntmps37
  go_wp2_with
    (at_builtin
     refine wpList_push1 rfl (.tmp 15) (.tmp 17) 28 rfl (fun j => j = B ∨ j = bm) 0 3 1 8 (.int .i64 0) Try.underlying28 int_info rfl (by decide) [.int .i64 k] rfl _ _ _ rfl H.out.own rfl (by intro u hu; simp at hu; subst hu; rfl) (by omega) (by decide) (Nat.zero_le _) (fun j q => q.elim (fun q => q ▸ H.out.lt) (fun q => q ▸ H.out.map.lt)) ?_
     intro v3 w3 o3 t3 l3
     obtain ⟨a3, q3, rfl⟩ := (ownsRow_slc o3.1).form
     have HP := Lib.hid (H.out.relay (R' := K ++ [k]) (by rw [List.length_append, List.flatMap_append]; simpa using o3) t3 l3)
     have hB3 : w3.heap[B]? = w.heap[B]? := t3.block B H.out.lt H.out.h2
     have y1 : w3.cell? ⟨B, 1, none⟩ = some (.slice a K.length c) := (World.cell?_of_block hB3).trans c1
     have y2 : w3.frozen? ⟨B, 1, none⟩ = false := (World.frozen?_of_block hB3).trans z1
     clear hB3 o3 t3 l3)
  refine (found_i k _).mono ?_; rintro e w4 ⟨rfl, hb4⟩
  have H4 := Lib.hid (HP.out.1.below hb4)
  have c2 := H4.out.c2
  go_wp2_with
    (at_mapUpdate
     refine wp_store kitI rfl (.tmp 26) (.tmp 27) (.tmp 28) rfl rfl H4.out.map (by unfold maxLen; omega) k HK.out rfl (K.length : Int) rfl (wf_of (by unfold InR; omega)) HN.out ?_
     intro w5 M5 g5
     have H5 := Lib.hid (H4.out.remap M5 g5)
     clear M5 g5)
  go_ret
  exact ⟨rfl, _, H5.out.1.same rfl (by simp) (fun j => kf_put HI.out j), (HP.out.2.1.trans (Turn.of_below hb4 (F := fun _ => False)) (fun j q => q.elim)).trans H5.out.2 HP.out.2.2, HP.out.2.2⟩
theorem id_i {w : World} {B bm : Nat} {m : Int} {K : List Int} {v : Value} (k : Int) (h : TabPI w B m K bm v) (hk : InR k) (hl : (K.length : Int) ≤ m) (hm1 : 1 ≤ m) (hm : m ≤ 20000) : Calls Try.prog 21 #[.pointer (some ⟨B, 0, none⟩), .int .i64 k] w fun e w' =>
    e = .returned (.tuple #[.int .i64 (gidN K m k), .int .i64 (gidE K m k)]) ∧ ∃ v', TabPI w' B m (gidK K m k) bm v' ∧ Turn (TabF B bm v) w w' ∧ ∀ j, TabF B bm v' j → TabF B bm v j ∨ w.heap.size ≤ j := by
  have c0 := h.c0
  have hfi := find_i k h hm1 hk
  have H := Lib.hid h; have HK := Lib.hid hk
  have hl2 : K.length ≤ 20000 := by omega
  clear h
  by_cases hin : k ∈ K
  · have hg : gidN K m k = gfnd K k ∧ gidE K m k = 0 ∧ gidK K m k = K := by unfold gidN gidE gidK gfnd; simp [hin]
    rw [hg.1, hg.2.1, hg.2.2, ← kf_get]
    rw [kf_in hin] at hfi
    clear hg
    go_enter Try.func21, Try.ntmps21
    go_wp2_with fail
    refine (made_i c0 hm1).mono ?_; rintro e w1 ⟨rfl, rfl⟩
    go_wp2_with fail
    refine hfi.mono ?_; rintro e w2 ⟨rfl, hb⟩
    go_wp2_with fail
    go_ret2
    exact ⟨rfl, _, H.out.below hb, Turn.of_below hb, fun j q => Or.inl q⟩
  · rw [kf_out hin] at hfi
    by_cases hf : m ≤ (K.length : Int)
    · have hg : gidN K m k = 0 ∧ gidE K m k = 3 ∧ gidK K m k = K := by unfold gidN gidE gidK; simp [hin, hf]
      rw [hg.1, hg.2.1, hg.2.2]
      obtain rfl : m = (K.length : Int) := by omega
      clear hg
      go_enter Try.func21, Try.ntmps21
      go_wp2_with fail
      refine (made_i c0 hm1).mono ?_; rintro e w1 ⟨rfl, rfl⟩
      go_wp2_with fail
      refine hfi.mono ?_; rintro e w2 ⟨rfl, hb⟩
      have H2 := Lib.hid (H.out.below hb)
      obtain ⟨a, c, rfl⟩ := (ownsRow_slc H2.out.row).form
      have x0 := H2.out.c0
      have x1 := H2.out.c1
      go_wp2_with fail
      go_region
      go_wp2_with fail
      go_ret2
      exact ⟨rfl, _, H2.out.drewN _, Turn.of_below (below_drewN hb _), fun j q => Or.inl q⟩
    · have hg : gidN K m k = (K.length : Int) ∧ gidE K m k = 0 ∧ gidK K m k = K ++ [k] := by unfold gidN gidE gidK; simp [hin, hf]
      rw [hg.1, hg.2.1, hg.2.2]
      have d1 : ((K.length : Int) == m) = false := by simp; omega
      have HI := Lib.hid hin
      have hl3 : K.length < 20000 := by omega
      clear hg hin
      go_enter Try.func21, Try.ntmps21
      go_wp2_with fail
      refine (made_i c0 hm1).mono ?_; rintro e w1 ⟨rfl, rfl⟩
      go_wp2_with fail
      refine hfi.mono ?_; rintro e w2 ⟨rfl, hb⟩
      have H2 := Lib.hid (H.out.below hb)
      obtain ⟨a, c, e1⟩ := (ownsRow_slc H2.out.row).form
      have x0 := H2.out.c0
      have x1 := H2.out.c1
      rw [e1] at x1
      go_wp2_with fail
      go_region
      go_wp2_with fail
      refine (put_i k (H2.out.drewN 1) HK.out HI.out hl3).mono ?_; rintro e w3 ⟨rfl, v3, h3, t3, f3⟩
      go_wp2_with fail
      go_ret2
      exact ⟨rfl, _, h3, (Turn.of_below (below_drewN hb _)).trans t3 (fun j q => Or.inl q), fun j q => (f3 j q).imp id (fun q => Nat.le_trans hb.size q)⟩
theorem new_i (m : Int) (w : World) (h1 : 1 ≤ m) (h2 : m ≤ 20000) : Calls Try.prog 7 #[.int .i64 m] w fun e w' =>
    ∃ B bm v, e = .returned (.tuple #[.pointer (some ⟨B, 0, none⟩), .int .i64 0]) ∧ TabPI w' B m [] bm v ∧ Below w.heap.size w w' ∧ ∀ j, TabF B bm v j → w.heap.size ≤ j := by
  have d1 : decide (m < 1) = false := decide_eq_false (by omega)
  have d2 : decide (20000 < m) = false := decide_eq_false (by omega)
  have hmm := @run_makeMap Try.prog
  have HT := Lib.hid (TabP.made (P := Try.prog) (kt := 3) (it := 3) (e := 3) (size := 1) (ok := InR) (lit := fun k => Lit.int .i64 k) (cs := fun k : Int => [Value.int .i64 k]) w m 65)
  go_enter Try.func7, Try.ntmps7
  go_wp2_with fail
  go_ret2
  refine ⟨_, _, _, rfl, HT.out, ((Below.refl _ w).alloc (Nat.le_refl _) _).alloc (by simp) _, ?_⟩
  rintro j (rfl | rfl | q)
  · omega
  · omega
  · cases q
theorem new_no_i (m : Int) (w : World) (h : ¬ (1 ≤ m ∧ m ≤ 20000)) : Calls Try.prog 7 #[.int .i64 m] w fun e w' => e = .returned (.tuple #[.pointer none, .int .i64 2]) ∧ Below w.heap.size w w' := by
  by_cases h1 : m < 1
  · go_enter Try.func7, Try.ntmps7
    go_wp2_with fail
    go_ret2
    exact ⟨rfl, Below.refl _ _⟩
  · have d1 : decide (m < 1) = false := decide_eq_false h1
    have d2 : decide (20000 < m) = true := decide_eq_true (by omega)
    go_enter Try.func7, Try.ntmps7
    go_wp2_with fail
    go_ret2
    exact ⟨rfl, Below.refl _ _⟩
end Go.Proofs.Yteeonglebimnlaa
