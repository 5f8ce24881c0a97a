/-
  The table of texts of the landed code: what its calls answer, as the bundle of a table's contracts. No conditions.
-/
import Derived.Test.YteeonglebimnlaaTblT
import Derived.Test.YteeonglebimnlaaMapK
import Derived.Test.YteeonglebimnlaaTblJ
import Derived.Test.YteeonglebimnlaaIntA
import Derived.Test.YteeonglebimnlaaIntC
import Derived.Laws.Cover3
import Derived.Defers
import Derived.Recover
import Derived.WalkSmall
import Derived.BigQuiet
namespace Go.Proofs.Yteeonglebimnlaa
open Go.RowKit Go.Maps Go.MapFns
set_option linter.unusedSimpArgs false
set_option linter.unusedVariables false

abbrev okS (k : ByteArray) : Prop := k.size ≤ maxLen
abbrev TabPS := TabP Try.prog 9 3 9 1 okS (fun k => Lit.string k.data.toList) (fun k : ByteArray => [Value.string k])
abbrev TabHS := TabH Try.prog 9 3 9 1 okS (fun k => Lit.string k.data.toList) (fun k : ByteArray => [Value.string k])
theorem str_info : (Try.prog.info? 9).map (fun i => (i.zero, i.size, i.bytes)) = some (some (.string ⟨#[]⟩), 1, 16) := by kernel_rfl
theorem flat_str (K : List ByteArray) : (K.flatMap fun k : ByteArray => [Value.string k]) = K.map (fun k => Value.string k) := by
  induction K with
  | nil => rfl
  | cons a K ih => rw [List.flatMap_cons, ih]; rfl
theorem idle_s (p : Addr) (w : World) :
    CallsD Try.prog 43 #[.pointer (some p)] .returning w fun e u' w' => e = .returned (.tuple #[]) ∧ u' = .returning ∧ w' = w := by
  refine callsD_of_wpS Try.func43 rfl fun c₀ cs hu => ?_
  apply wpS_seq
  apply wpS_region
  simp [wpOpsS, go_sem, recoverD, hu, Try.ntmps43, Exit.thenS]
  refine wpS_cond (t := false) (by simp [Act.eval, Array.replicate]) ?_
  simp only [Bool.false_eq_true, if_false]
  refine wpS_of_wp (wp_skip ?_)
  cases c₀
  simp_all [bodyPostS, results, Try.results43]
theorem found_s (k : ByteArray) (w : World) : Calls Try.prog 41 #[.string k] w fun e w' => e = .returned (.bool true) ∧ Below w.heap.size w w' := by
  have hmf : ∀ (fn : Fn) (first cap : Array Value) (w : World), (Instr.makeFunc fn first cap).run Try.prog w = .ok (.func fn first cap) w := fun _ _ _ _ => rfl
  go_enter_defers Try.func41, Try.ntmps41
  go_wp2
  refine leaves_cons (f := 43) (args := #[.pointer (some ⟨w.heap.size, 0, none⟩)]) (by simp) (by simp [go_sem]) ?_
  refine (idle_s ⟨w.heap.size, 0, none⟩ _).mono ?_
  rintro e u' w'' ⟨rfl, rfl, rfl⟩
  simp [Leaves, settle, results, Try.results41, go_sem]
  exact below1 w _
theorem made_s {w : World} {B : Nat} {m : Int} (c0 : w.cell? ⟨B, 0, none⟩ = some (.int .i64 m)) (hm : 1 ≤ m) : Calls Try.prog 33 #[.pointer (some ⟨B, 0, none⟩)] w fun e w' => e = .returned (.bool true) ∧ w' = w := by
  have d0 : decide (0 < m) = true := decide_eq_true (by omega)
  go_enter Try.func33, Try.ntmps33
  go_wp2_with fail
  go_ret
  exact ⟨rfl, rfl⟩
theorem len_s {w : World} {B bm : Nat} {m : Int} {K : List ByteArray} {v : Value} (h : TabPS w B m K bm v) (hm : 1 ≤ m) (hl : K.length ≤ 20000) : Calls Try.prog 20 #[.pointer (some ⟨B, 0, none⟩)] w fun e w' => e = .returned (.int .i64 (K.length : Int)) ∧ w' = w := by
  obtain ⟨a, c, rfl⟩ := (ownsRow_slc h.row).form
  have c0 := h.c0
  have c1 := h.c1
  clear h
  go_enter Try.func20, Try.ntmps20
  go_wp2_with fail
  refine (made_s c0 hm).mono ?_; rintro e w1 ⟨rfl, rfl⟩
  go_wp2_with fail
  go_ret
  exact ⟨rfl, rfl⟩
theorem find_s {w : World} {B bm : Nat} {m : Int} {K : List ByteArray} {v : Value} (k : ByteArray) (h : TabPS w B m K bm v) (hm : 1 ≤ m) (hk : okS k) : Calls Try.prog 34 #[.pointer (some ⟨B, 0, none⟩), .string k] w fun e w' => e = .returned (.tuple #[.int .i64 ((kf K k).getD 0), .bool (kf K k).isSome]) ∧ Below w.heap.size w w' := by
  have c0 := h.c0
  have H := Lib.hid h; have HK := Lib.hid hk; clear h hk
  go_enter Try.func34, Try.ntmps34
  go_wp2_with fail
  refine (made_s c0 hm).mono ?_; rintro e w1 ⟨rfl, rfl⟩
  go_wp2_with fail
  refine (found_s k _).mono ?_; rintro e w2 ⟨rfl, hb⟩
  have H2 := Lib.hid (H.out.below hb)
  have c2 := H2.out.c2
  go_wp2_with (at_lookup; refine wp_look kitS rfl (.tmp 20) (.tmp 21) rfl rfl H2.out.map k HK.out rfl ?_)
  go_ret2
  exact ⟨rfl, hb⟩
theorem put_s {w : World} {B bm : Nat} {m : Int} {K : List ByteArray} {v : Value} (k : ByteArray) (h : TabPS w B m K bm v) (hk : okS k) (hin : ¬ k ∈ K) (hl : K.length < 20000) : Calls Try.prog 35 #[.pointer (some ⟨B, 0, none⟩), .string k] w fun e w' =>
    e = .returned (.int .i64 (K.length : Int)) ∧ ∃ v', TabPS w' B m (K ++ [k]) bm v' ∧ Turn (TabF B bm v) w w' ∧ ∀ j, TabF B bm v' j → TabF B bm v j ∨ w.heap.size ≤ j := by
  obtain ⟨a, c, rfl⟩ := (ownsRow_slc h.row).form
  have c1 := h.c1
  have z1 := h.z1
  have hn : kf K k = none := by simpa using kf_out hin
  have H := Lib.hid h; have HK := Lib.hid hk; have HN := Lib.hid hn; have HI := Lib.hid hin
  clear h hk hn hin
  go_enter Try.func35, Try.ntmps35
  go_wp2_with
    (at_builtin
     refine wpList_push1 rfl (.tmp 15) (.tmp 17) 54 rfl (fun j => j = B ∨ j = bm) 0 9 1 16 (.string ⟨#[]⟩) Try.underlying54 str_info rfl (by decide) [.string k] rfl _ _ _ rfl H.out.own rfl (by intro u hu; simp at hu; subst hu; rfl) (by omega) (by decide) (Nat.zero_le _) (fun j q => q.elim (fun q => q ▸ H.out.lt) (fun q => q ▸ H.out.map.lt)) ?_
     intro v3 w3 o3 t3 l3
     obtain ⟨a3, q3, rfl⟩ := (ownsRow_slc o3.1).form
     have HP := Lib.hid (H.out.relay (R' := K ++ [k]) (by rw [List.length_append, List.flatMap_append]; simpa using o3) t3 l3)
     have hB3 : w3.heap[B]? = w.heap[B]? := t3.block B H.out.lt H.out.h2
     have y1 : w3.cell? ⟨B, 1, none⟩ = some (.slice a K.length c) := (World.cell?_of_block hB3).trans c1
     have y2 : w3.frozen? ⟨B, 1, none⟩ = false := (World.frozen?_of_block hB3).trans z1
     clear hB3 o3 t3 l3)
  refine (found_s k _).mono ?_; rintro e w4 ⟨rfl, hb4⟩
  have H4 := Lib.hid (HP.out.1.below hb4)
  have c2 := H4.out.c2
  go_wp2_with
    (at_mapUpdate
     refine wp_store kitS rfl (.tmp 26) (.tmp 27) (.tmp 28) rfl rfl H4.out.map (by unfold maxLen; omega) k HK.out rfl (K.length : Int) rfl (wf_of (by unfold InR; omega)) HN.out ?_
     intro w5 M5 g5
     have H5 := Lib.hid (H4.out.remap M5 g5)
     clear M5 g5)
  go_ret
  exact ⟨rfl, _, H5.out.1.same rfl (by simp) (fun j => kf_put HI.out j), (HP.out.2.1.trans (Turn.of_below hb4 (F := fun _ => False)) (fun j q => q.elim)).trans H5.out.2 HP.out.2.2, HP.out.2.2⟩
theorem id_s {w : World} {B bm : Nat} {m : Int} {K : List ByteArray} {v : Value} (k : ByteArray) (h : TabPS w B m K bm v) (hk : okS k) (hl : (K.length : Int) ≤ m) (hm1 : 1 ≤ m) (hm : m ≤ 20000) : Calls Try.prog 18 #[.pointer (some ⟨B, 0, none⟩), .string k] w fun e w' =>
    e = .returned (.tuple #[.int .i64 (gidN K m k), .int .i64 (gidE K m k)]) ∧ ∃ v', TabPS w' B m (gidK K m k) bm v' ∧ Turn (TabF B bm v) w w' ∧ ∀ j, TabF B bm v' j → TabF B bm v j ∨ w.heap.size ≤ j := by
  have c0 := h.c0
  have hfi := find_s k h hm1 hk
  have H := Lib.hid h; have HK := Lib.hid hk
  have hl2 : K.length ≤ 20000 := by omega
  clear h
  by_cases hin : k ∈ K
  · have hg : gidN K m k = gfnd K k ∧ gidE K m k = 0 ∧ gidK K m k = K := by unfold gidN gidE gidK gfnd; simp [hin]
    rw [hg.1, hg.2.1, hg.2.2, ← kf_get]
    rw [kf_in hin] at hfi
    clear hg
    go_enter Try.func18, Try.ntmps18
    go_wp2_with fail
    refine (made_s c0 hm1).mono ?_; rintro e w1 ⟨rfl, rfl⟩
    go_wp2_with fail
    refine hfi.mono ?_; rintro e w2 ⟨rfl, hb⟩
    go_wp2_with fail
    go_ret2
    exact ⟨rfl, _, H.out.below hb, Turn.of_below hb, fun j q => Or.inl q⟩
  · rw [kf_out hin] at hfi
    by_cases hf : m ≤ (K.length : Int)
    · have hg : gidN K m k = 0 ∧ gidE K m k = 3 ∧ gidK K m k = K := by unfold gidN gidE gidK; simp [hin, hf]
      rw [hg.1, hg.2.1, hg.2.2]
      obtain rfl : m = (K.length : Int) := by omega
      clear hg
      go_enter Try.func18, Try.ntmps18
      go_wp2_with fail
      refine (made_s c0 hm1).mono ?_; rintro e w1 ⟨rfl, rfl⟩
      go_wp2_with fail
      refine hfi.mono ?_; rintro e w2 ⟨rfl, hb⟩
      have H2 := Lib.hid (H.out.below hb)
      obtain ⟨a, c, rfl⟩ := (ownsRow_slc H2.out.row).form
      have x0 := H2.out.c0
      have x1 := H2.out.c1
      go_wp2_with fail
      go_region
      go_wp2_with fail
      go_ret2
      exact ⟨rfl, _, H2.out.drewN _, Turn.of_below (below_drewN hb _), fun j q => Or.inl q⟩
    · have hg : gidN K m k = (K.length : Int) ∧ gidE K m k = 0 ∧ gidK K m k = K ++ [k] := by unfold gidN gidE gidK; simp [hin, hf]
      rw [hg.1, hg.2.1, hg.2.2]
      have d1 : ((K.length : Int) == m) = false := by simp; omega
      have HI := Lib.hid hin
      have hl3 : K.length < 20000 := by omega
      clear hg hin
      go_enter Try.func18, Try.ntmps18
      go_wp2_with fail
      refine (made_s c0 hm1).mono ?_; rintro e w1 ⟨rfl, rfl⟩
      go_wp2_with fail
      refine hfi.mono ?_; rintro e w2 ⟨rfl, hb⟩
      have H2 := Lib.hid (H.out.below hb)
      obtain ⟨a, c, e1⟩ := (ownsRow_slc H2.out.row).form
      have x0 := H2.out.c0
      have x1 := H2.out.c1
      rw [e1] at x1
      go_wp2_with fail
      go_region
      go_wp2_with fail
      refine (put_s k (H2.out.drewN 1) HK.out HI.out hl3).mono ?_; rintro e w3 ⟨rfl, v3, h3, t3, f3⟩
      go_wp2_with fail
      go_ret2
      exact ⟨rfl, _, h3, (Turn.of_below (below_drewN hb _)).trans t3 (fun j q => Or.inl q), fun j q => (f3 j q).imp id (fun q => Nat.le_trans hb.size q)⟩
theorem new_s (m : Int) (w : World) (h1 : 1 ≤ m) (h2 : m ≤ 20000) : Calls Try.prog 17 #[.int .i64 m] w fun e w' =>
    ∃ B bm v, e = .returned (.tuple #[.pointer (some ⟨B, 0, none⟩), .int .i64 0]) ∧ TabPS w' B m [] bm v ∧ Below w.heap.size w w' ∧ ∀ j, TabF B bm v j → w.heap.size ≤ j := by
  have d1 : decide (m < 1) = false := decide_eq_false (by omega)
  have d2 : decide (20000 < m) = false := decide_eq_false (by omega)
  have hmm := @run_makeMap Try.prog
  have HT := Lib.hid (TabP.made (P := Try.prog) (kt := 9) (it := 3) (e := 9) (size := 1) (ok := okS) (lit := fun k => Lit.string k.data.toList) (cs := fun k : ByteArray => [Value.string k]) w m 77)
  go_enter Try.func17, Try.ntmps17
  go_wp2_with fail
  go_ret2
  refine ⟨_, _, _, rfl, HT.out, ((Below.refl _ w).alloc (Nat.le_refl _) _).alloc (by simp) _, ?_⟩
  rintro j (rfl | rfl | q)
  · omega
  · omega
  · cases q
theorem new_no_s (m : Int) (w : World) (h : ¬ (1 ≤ m ∧ m ≤ 20000)) : Calls Try.prog 17 #[.int .i64 m] w fun e w' => e = .returned (.tuple #[.pointer none, .int .i64 2]) ∧ Below w.heap.size w w' := by
  by_cases h1 : m < 1
  · go_enter Try.func17, Try.ntmps17
    go_wp2_with fail
    go_ret2
    exact ⟨rfl, Below.refl _ _⟩
  · have d1 : decide (m < 1) = false := decide_eq_false h1
    have d2 : decide (20000 < m) = true := decide_eq_true (by omega)
    go_enter Try.func17, Try.ntmps17
    go_wp2_with fail
    go_ret2
    exact ⟨rfl, Below.refl _ _⟩
theorem wipe_s (w : World) (g q n cap cap2 : Nat) (K : List ByteArray) (h : w.ownsRow 0 9 1 (.slice (some ⟨g, 0, none⟩) K.length cap) K.length (K.flatMap fun k : ByteArray => [Value.string k])) (hq : q + n = K.length) (hn : 0 < n) (ty : TypeId) :
    (Builtin.clear_ #[54] ty #[.slice (some ⟨g, q, none⟩) n cap2]).run Try.prog w = .ok (.tuple #[]) (w.setCells g q (List.replicate n (.string ⟨#[]⟩))) :=
  Lib.run_clear_slice w 54 9 ty (.string ⟨#[]⟩) Try.underlying54 (fun w => by kernel_rfl) rfl rfl g q n cap2 hn (fun j hj => by
    rw [h.cellAt (q + j) (by omega), flat_str]
    simp; omega) (fun j hj => h.frozenAt (q + j))
/-- What holds at the head of drop's loop. -/
structure DropS (w : World) (B : Nat) (m : Int) (bm : Nat) (v : Value) (K : List ByteArray) (n : Nat) (i : Value) (wr : World) : Prop where
  out : ∃ k : Nat, n + k ≤ K.length ∧ i = .int .i64 (k : Int) ∧ TabHS wr B m K (K.length - k) (kc K n (n + k)) bm v ∧ Turn (TabF B bm v) w wr
set_option maxHeartbeats 4000000 in
theorem drop_s {w : World} {B bm g q n cap : Nat} {m : Int} {K : List ByteArray} (h : TabPS w B m K bm (.slice (some ⟨g, 0, none⟩) K.length cap)) (hnd : K.Nodup) (hok : ∀ k ∈ K, okS k) (hl : K.length ≤ 20000) (hq : q + n = K.length) (hn : 0 < n) (cap2 : Nat) : Calls Try.prog 36 #[.pointer (some ⟨B, 0, none⟩), .slice (some ⟨g, q, none⟩) n cap2] w fun e w' =>
    e = .returned (.tuple #[]) ∧ ∃ wr, TabHS wr B m K q (kf (K.take q)) bm (.slice (some ⟨g, 0, none⟩) K.length cap) ∧ Turn (TabF B bm (.slice (some ⟨g, 0, none⟩) K.length cap)) w wr ∧ w' = wr.setCells g q (List.replicate n (.string ⟨#[]⟩)) := by
  have H := Lib.hid h; have HD := Lib.hid hnd; have HO := Lib.hid hok
  clear h hnd hok
  go_enter Try.func36, Try.ntmps36
  go_wp2_with fail
  have H0 : Hid (DropS w B m bm (.slice (some ⟨g, 0, none⟩) K.length cap) K q (.int .i64 0) w) := ⟨⟨0, by omega, rfl, by rw [Nat.sub_zero, Nat.add_zero]; exact H.out.same rfl rfl (fun k => kc_start k), Turn.refl _ _⟩⟩
  go_loopw [8] (fun i wr => DropS w B m bm (.slice (some ⟨g, 0, none⟩) K.length cap) K q i wr) (fun i _ => n - (intOf i).toNat)
  case atStart => exact H0.out
  case round =>
    clear H0
    obtain ⟨k, hk, rfl, hT, ht⟩ := hrel.out
    clear hrel
    by_cases hlt : k < n
    · have d1 : decide ((k : Int) < (n : Int)) = true := decide_eq_true (by omega)
      have i0 : (0 : Int) ≤ (k : Int) := by omega
      have i1 : (k : Int) < (n : Int) := by omega
      have e1 := wrap64_up k (by omega)
      have hcell := hT.row.cellAt (q + k) (by omega)
      have hx : (K.flatMap fun k : ByteArray => [Value.string k])[q + k]? = some (.string (K.getD (q + k) ⟨#[]⟩)) := by
        rw [flat_str]; simp [show q + k < K.length by omega]
      rw [hx] at hcell
      have HZ : Hid (okS (K.getD (q + k) ⟨#[]⟩)) := HO.out _ (by rw [show K.getD (q + k) ⟨#[]⟩ = K[q + k]'(by omega) by simp [List.getD, show q + k < K.length by omega]]; exact List.getElem_mem _)
      have HT1 := Lib.hid (kc_there HD.out (n := q) (i := q + k) (by omega) ⟨#[]⟩)
      have HST : Hid (∀ j, (if j = K.getD (q + k) ⟨#[]⟩ then none else kc K q (q + k) j) = kc K q (q + k + 1) j) := fun j => kc_step HD.out (by omega) (by omega) ⟨#[]⟩ j
      generalize K.getD (q + k) ⟨#[]⟩ = z at *
      have HT := Lib.hid hT; have HW := Lib.hid ht; have HLT := Lib.hid hlt; have HQ := Lib.hid (show q + n = K.length ∧ q + k ≤ K.length from ⟨hq, hk⟩)
      clear hx hT ht hlt hq hk
      go_wp2_with fail
      refine (found_s z _).mono ?_; rintro e w2 ⟨rfl, hb⟩
      have H2 := Lib.hid (HT.out.below hb)
      have x2 := H2.out.c2
      go_wp2_with
        (at_delete
         refine wp_drop kitS rfl (.tmp 17) (.tmp 18) rfl rfl H2.out.map z HZ.out rfl HT1.out ?_
         intro w3 M3 g3
         have H3 := Lib.hid (H2.out.remap M3 g3)
         clear M3 g3)
      go_roundw
      · refine ⟨⟨k + 1, by have := HLT.out; have := HQ.out; omega, by go_num, ?_, (HW.out.trans (Turn.of_below hb (F := fun _ => False)) (fun j q => q.elim)).trans H3.out.2 (fun j q => Or.inl q)⟩⟩
        exact H3.out.1.same rfl (by omega) (fun j => HST.out j)
      · simp only [e1]; exact less_up HLT.out
    · obtain rfl : k = n := by omega
      have d1 : decide ((k : Int) < (k : Int)) = false := decide_eq_false (by omega)
      have hcl := wipe_s wr g q k cap cap2 K hT.row hq hn
      have HT := Lib.hid (hT.same (f' := kf (K.take q)) rfl (show K.length - k = q by omega) (fun j => by rw [hq]; exact kc_end j))
      have HW := Lib.hid ht
      clear hT ht hlt hk
      go_wp2_with (simp only [hcl])
      go_end0
      exact ⟨rfl, wr, HT.out, HW.out, rfl⟩
set_option maxHeartbeats 4000000 in
theorem cut_s {w : World} {B bm : Nat} {m : Int} {K : List ByteArray} {v : Value} (n : Int) (h : TabPS w B m K bm v) (hn : InR n) (hm : 1 ≤ m) (hnd : K.Nodup) (hok : ∀ k ∈ K, okS k) (hl : K.length ≤ 20000) : Calls Try.prog 19 #[.pointer (some ⟨B, 0, none⟩), .int .i64 n] w fun e w' =>
    e = .returned (.tuple #[]) ∧ ∃ v', TabPS w' B m (gcut K n) bm v' ∧ Turn (TabF B bm v) w w' ∧ ∀ j, TabF B bm v' j → TabF B bm v j ∨ w.heap.size ≤ j := by
  have hln := len_s h hm hl
  have H := Lib.hid h; have HD := Lib.hid hnd; have HO := Lib.hid hok
  obtain ⟨q, hq⟩ : ∃ q : Nat, n.toNat = q := ⟨_, rfl⟩
  have hmx : (if n < 0 then (0 : Int) else n) = (q : Int) := by split <;> omega
  have hq2 : (q : Int) ≤ 9223372036854775807 := by unfold InR at hn; omega
  unfold gcut
  rw [hq]
  clear hq hn h hnd hok
  by_cases hlt : q < K.length
  · have d1 : decide ((K.length : Int) ≤ (q : Int)) = false := decide_eq_false (by omega)
    have e0 : ∃ g cap, v = .slice (some ⟨g, 0, none⟩) K.length cap ∧ K.length ≤ cap := by
      rcases H.out.row.2 with ⟨_, r⟩ | ⟨g, cap, cur, r, _, _, r3, _⟩
      · omega
      · exact ⟨g, cap, r, r3⟩
    obtain ⟨g, cap, rfl, hcap⟩ := e0
    have c1 := H.out.c1
    have i0 : (0 : Int) ≤ (q : Int) := by omega
    have i1 : (q : Int) ≤ (K.length : Int) := by omega
    have hdr := drop_s (q := q) (n := K.length - q) H.out HD.out HO.out hl (by omega) (by omega) (cap - q)
    go_enter Try.func19, Try.ntmps19
    go_wp2_with fail
    refine hln.mono ?_; rintro e w1 ⟨rfl, rfl⟩
    go_wp2_with fail
    refine hdr.mono ?_; rintro e w2 ⟨rfl, wr, hT, ht, rfl⟩
    obtain ⟨_, tw⟩ := row_wiped (size := 1) hT.row (k := q) (by omega) (List.replicate (K.length - q) (.string ⟨#[]⟩))
    have HC := Lib.hid (hT.clip (n := q) (fun _ _ => rfl) (by omega) (List.replicate (K.length - q) (.string ⟨#[]⟩)))
    rw [Nat.mul_one] at tw HC
    have hne : ¬ B = g := fun r => hT.h2 (by rw [r]; rfl)
    have y1 := (tw.cell (a := ⟨B, 1, none⟩) hT.lt hne).trans hT.c1
    have y2 := (tw.frozen (a := ⟨B, 1, none⟩) hT.lt hne).trans hT.z1
    have HW := Lib.hid ht
    clear tw hT ht hne hdr
    go_wp2_with fail
    go_end0
    refine ⟨rfl, _, HC.out.1.same rfl (by simp; omega) (fun _ => rfl), HW.out.trans HC.out.2.1 (fun j q => Or.inl q), fun j q => Or.inl (HC.out.2.2 j q)⟩
  · have d1 : decide ((K.length : Int) ≤ (q : Int)) = true := decide_eq_true (by omega)
    have ht : K.take q = K := List.take_of_length_le (by omega)
    rw [ht]
    go_enter Try.func19, Try.ntmps19
    go_wp2_with fail
    refine hln.mono ?_; rintro e w1 ⟨rfl, rfl⟩
    go_wp2_with fail
    refine bodyPost_ret (results_none rfl _ _ _) rfl ?_
    exact ⟨rfl, v, H.out, Turn.refl _ _, fun j q => Or.inl q⟩
theorem nil_s : NilS := by
  intro s w
  have hm : Calls Try.prog 33 #[.pointer none] w fun e w' => e = .returned (.bool false) ∧ w' = w := by
    go_enter Try.func33, Try.ntmps33
    go_wp2_with fail
    go_ret
    exact ⟨rfl, rfl⟩
  go_enter Try.func18, Try.ntmps18
  go_wp2_with fail
  refine hm.mono ?_; rintro e w1 ⟨rfl, rfl⟩
  go_wp2_with fail
  go_ret2
  exact ⟨rfl, Below.refl _ _⟩
/-- The contracts of a table of texts. -/
def tabS : TabS where
  Rep := RepT Try.prog 9 3 9 1 okS (fun k => Lit.string k.data.toList) (fun k : ByteArray => [Value.string k])
  foot h := h.foot
  keep h hs hk := h.keep hs hk
  inv h := h.1
  new_ok m w h1 h2 := (new_s m w h1 h2).mono fun e w' ⟨B, bm, v, he, hT, hb, hF⟩ => ⟨B, TabF B bm v, he, ⟨⟨List.nodup_nil, by simp; omega, h1, h2, fun k hk => by cases hk⟩, bm, v, hT, rfl⟩, hb, hF⟩
  new_no := new_no_s
  id k h hk := by
    obtain ⟨h0, bm, v, hT, rfl⟩ := h
    refine (id_s k hT hk h0.2.1 h0.2.2.1 h0.2.2.2.1).mono fun e w' ⟨he, v', hT', ht, hF⟩ => ⟨he, TabF _ bm v', ⟨⟨?_, ?_, h0.2.2.1, h0.2.2.2.1, ?_⟩, bm, v', hT', rfl⟩, ht, hF⟩
    · unfold gidK; split
      · exact h0.1
      · split
        · exact h0.1
        · rename_i q _; exact List.nodup_append.2 ⟨h0.1, by simp, fun a ha b hb => by simp at hb; subst hb; exact fun r => q (r ▸ ha)⟩
    · have := h0.2.1
      unfold gidK; split
      · exact this
      · split
        · exact this
        · simp; omega
    · intro j hj
      unfold gidK at hj; split at hj
      · exact h0.2.2.2.2 j hj
      · split at hj
        · exact h0.2.2.2.2 j hj
        · rcases List.mem_append.1 hj with hj | hj
          · exact h0.2.2.2.2 j hj
          · rw [List.mem_singleton.1 hj]; exact hk
  find h := h.elim
  key h := h.elim
  len h := by
    obtain ⟨h0, bm, v, hT, rfl⟩ := h
    exact (len_s hT h0.2.2.1 (by have := h0.2.1; have := h0.2.2.2.1; omega)).mono fun e w' ⟨q, r⟩ => ⟨q, r ▸ Below.refl _ _⟩
  cut _ {w B m K F} n h hn := by
    obtain ⟨h0, bm, v, hT, rfl⟩ := h
    refine (cut_s n hT hn h0.2.2.1 h0.1 h0.2.2.2.2 (by have := h0.2.1; have := h0.2.2.2.1; omega)).mono fun e w' ⟨he, v', hT', ht, hF⟩ => ⟨he, TabF _ bm v', ⟨⟨?_, ?_, h0.2.2.1, h0.2.2.2.1, ?_⟩, bm, v', hT', rfl⟩, ht, hF⟩
    · exact h0.1.sublist (List.take_sublist _ _)
    · have := h0.2.1
      unfold gcut; rw [List.length_take]; omega
    · intro j hj
      exact h0.2.2.2.2 j (List.mem_of_mem_take hj)
end Go.Proofs.Yteeonglebimnlaa
