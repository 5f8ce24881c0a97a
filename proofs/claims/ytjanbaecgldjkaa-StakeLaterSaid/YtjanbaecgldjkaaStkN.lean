/-
  At which periods an entity's stakes begin: the library's slices.Compact of a sorted row, the landed Froms and the document's. The condition: a row of at most 1000000.
-/
import Derived.Test.YtjanbaecgldjkaaStkA
import Derived.Test.YtjanbaecgldjkaaRefIc
import Derived.Test.YtjanbaecgldjkaaSrt
namespace Go.Proofs.Ytjanbaecgldjkaa
open Go.RowKit Go.Sort
set_option linter.unusedSimpArgs false
set_option linter.unusedVariables false

theorem cmp_up (d : Array Int) (n : Nat) (hs : ∀ i j, i ≤ j → j < n → d[i]! ≤ d[j]!) : ∀ m, m ≤ n → Rises (Lib.compactUpTo d m) ∧ ∀ z, z ∈ Lib.compactUpTo d m ↔ ∃ j, j < m ∧ d[j]! = z
  | 0, _ => by
    have e : Lib.compactUpTo d 0 = [] := rfl
    rw [e]
    exact ⟨List.Pairwise.nil, fun z => ⟨fun q => (by cases q), fun ⟨j, h, _⟩ => by omega⟩⟩
  | m + 1, h => by
    obtain ⟨h1, h2⟩ := cmp_up d n hs m (by omega)
    rw [Lib.compactUpTo_succ]
    by_cases k : Lib.keeps d m = true
    · rw [if_pos k]
      have hk : m = 0 ∨ d[m]! ≠ d[m - 1]! := by simpa [Lib.keeps] using k
      refine ⟨List.pairwise_append.2 ⟨h1, by simp, fun a ha b hb => ?_⟩, fun z => ?_⟩
      · rw [List.mem_singleton.1 hb]
        obtain ⟨j, hj, rfl⟩ := (h2 a).1 ha
        rcases hk with q | q
        · omega
        · have := hs j (m - 1) (by omega) (by omega)
          have := hs (m - 1) m (by omega) (by omega)
          omega
      · rw [List.mem_append, h2, List.mem_singleton]
        constructor
        · rintro (⟨j, hj, e⟩ | e)
          · exact ⟨j, by omega, e⟩
          · exact ⟨m, by omega, e.symm⟩
        · rintro ⟨j, hj, e⟩
          rcases Nat.lt_or_ge j m with q | q
          · exact Or.inl ⟨j, q, e⟩
          · right; rw [← e, show j = m by omega]
    · rw [if_neg k, List.append_nil]
      have hk : ¬ (m = 0 ∨ d[m]! ≠ d[m - 1]!) := by simpa [Lib.keeps] using k
      have hm : m ≠ 0 := fun q => hk (Or.inl q)
      have he : d[m]! = d[m - 1]! := Classical.byContradiction fun q => hk (Or.inr q)
      refine ⟨h1, fun z => ?_⟩
      rw [h2]
      constructor
      · rintro ⟨j, hj, e⟩; exact ⟨j, by omega, e⟩
      · rintro ⟨j, hj, e⟩
        rcases Nat.lt_or_ge j m with q | q
        · exact ⟨j, q, e⟩
        · exact ⟨m - 1, by omega, by rw [← he, ← e, show j = m by omega]⟩
theorem arr_get (L : List Int) {j : Nat} (h : j < L.length) : L.toArray[j]! = L.getD j 0 := by simp [List.getD, h]
theorem compact_is {L : List Int} (hs : L.Pairwise (· ≤ ·)) : Rises (Lib.compact L) ∧ (∀ z, z ∈ Lib.compact L ↔ z ∈ L) ∧ (Lib.compact L).length ≤ L.length := by
  have h := cmp_up L.toArray L.length (fun i j h1 h2 => by
    rw [arr_get L (by omega), arr_get L h2]
    rcases Nat.lt_or_ge i j with q | q
    · rw [getD_lt _ _ (by omega), getD_lt _ _ h2]; exact List.pairwise_iff_getElem.1 hs i j (by omega) h2 q
    · rw [show i = j by omega]; exact Int.le_refl _) L.length (Nat.le_refl _)
  refine ⟨h.1, fun z => ?_, ?_⟩
  · show z ∈ Lib.compactUpTo L.toArray L.length ↔ _
    rw [h.2]
    constructor
    · rintro ⟨j, hj, e⟩
      rw [arr_get L hj, getD_lt _ _ hj] at e
      rw [← e]; exact List.getElem_mem hj
    · intro hz
      obtain ⟨j, hj, e⟩ := List.getElem_of_mem hz
      exact ⟨j, hj, by rw [arr_get L hj, getD_lt _ _ hj, e]⟩
  · unfold Lib.compact Lib.compactUpTo
    rw [List.length_map]
    exact Nat.le_trans (List.length_filter_le _ _) (by simp)
/-- Sorted, then compacted, is rising. -/
theorem compact_rise (M : List Int) : Lib.compact (M.mergeSort fun x y => decide (x ≤ y)) = rise M := by
  obtain ⟨h1, h2, _⟩ := compact_is (sorted_sort M)
  refine rises_ext h1 (o_rises_rise M [] List.Pairwise.nil) fun z => ?_
  rw [h2, (perm_sort M).mem_iff]
  show _ ↔ z ∈ M.foldl wth []
  rw [o_mem_rise]; simp
set_option maxHeartbeats 1000000 in
theorem compact_own {w1 : World} {base : Nat} {v : Value} {L : List Int} (ho : Own w1 base v L) (hl : L.length ≤ 1000000) (hin : ∀ z ∈ L, InR z) (hs : L.Pairwise (· ≤ ·)) (hb0 : base ≤ w1.heap.size) :
    Calls Try.prog 28 #[v] w1 fun e w' => ∃ v', e = .returned v' ∧ Sl w' v' (Lib.compact L) ∧ Below base w1 w' := by
  obtain ⟨_, hmem, hlen⟩ := compact_is hs
  rcases ho.2 with ⟨rfl, hz⟩ | ⟨g, cap, cur, rfl, hbase, hgb, r1, r2, r3, r4⟩
  · have hss : L = [] := List.eq_nil_of_length_eq_zero hz
    subst hss
    refine (Try.compact_none none 0 w1).mono ?_; rintro e w' ⟨rfl, rfl⟩
    exact ⟨_, rfl, ⟨none, 0, rfl, Nat.le_refl _, fun _ => rfl, fun z hz => (by cases hz), fun i hi => (by cases hi)⟩, Below.refl _ _⟩
  · have hH : Holds (Value.int .i64) w1 g 0 L.toArray := holds_of_block_i hgb (by simpa using r4)
    refine (Try.compact_row g 0 cap L w1 hH (by omega) r1).mono ?_; rintro e w' ⟨rfl, q, rfl⟩
    have hsz : (Lib.compact L ++ List.replicate (L.length - (Lib.compact L).length) 0).toArray.size = L.toArray.size := by simp; omega
    refine ⟨_, rfl, ⟨some ⟨g, 0, none⟩, cap, rfl, by omega, fun q => (by cases q), fun z hz => hin z ((hmem z).1 hz), fun i hi => ⟨g, 0, rfl, ?_⟩⟩, ?_⟩
    · rw [cell?_putRow (Value.int .i64) (Sort.ahead w1 q) g 0 L.toArray _ (holds_ahead _ _ _ _ _ _ hH) hsz i (by simp; omega)]
      rw [arr_get _ (by simp; omega), getD_lt _ _ (by simp; omega), getD_lt _ _ hi, List.getElem_append_left]
    · exact (Below.refl _ _).grown (row := some g) ⟨rfl, rfl, rfl, by simp, fun k hk hne => by
        have : g ≠ k := fun e => hne (by rw [e])
        simp [putRow, mapBlock, Sort.ahead, Array.getElem?_modify, this]⟩ hb0 (fun j hj => by cases hj; exact hbase)
theorem from_take {L : List K4} {k : Nat} (x : Int) (h : k < L.length) : (ofE (L.take (k + 1)) x).map (fun s => s.2.2.2) = if (L.getD k z4).1 = x then (ofE (L.take k) x).map (fun s => s.2.2.2) ++ [(L.getD k z4).2.2.2] else (ofE (L.take k) x).map (fun s => s.2.2.2) := by
  rw [take4 h, ofE_snoc]
  split <;> simp
theorem from_in {L : List K4} (hL : ∀ s ∈ L, ok4 s) (x : Int) (k : Nat) : ∀ z ∈ (ofE (L.take k) x).map (fun s => s.2.2.2), InR z := fun z hz => by
  obtain ⟨s, hs, rfl⟩ := List.mem_map.1 hz
  exact (hL s (List.mem_of_mem_take (mem_ofE.1 hs).1)).2.2.2
theorem from_len (L : List K4) (x : Int) (k : Nat) : ((ofE (L.take k) x).map (fun s => s.2.2.2)).length ≤ L.length := by
  rw [List.length_map]
  exact Nat.le_trans (List.length_filter_le _ _) (by rw [List.length_take]; omega)
set_option maxHeartbeats 4000000 in
set_option maxRecDepth 100000 in
theorem froms_s (a : Option Addr) (c : Nat) (L : List K4) (x : Int) (w : World) (hL : RdQ w a L) (hn : L.length ≤ 1000000) :
    Calls Try.prog 17 #[.slice a L.length c, .int .i64 x] w fun e w' => ∃ v, e = .returned v ∧ Sl w' v (frm L x) ∧ Below w.heap.size w w' := by
  have HL := Lib.hid hL; clear hL
  obtain ⟨F0, hF0⟩ : ∃ F, F = frm L x := ⟨_, rfl⟩
  rw [← hF0]
  have HF0 : Hid (Lib.compact (((ofE L x).map (fun s => s.2.2.2)).mergeSort fun x y => decide (x ≤ y)) = F0) := (compact_rise _).trans hF0.symm
  clear hF0
  go_enter Try.func17, Try.ntmps17
  go_wp2_with fail
  refine (among_c x 9223372036854775807 w).mono ?_; rintro e w2 ⟨rfl, hw2⟩
  have hc0 : w2.cell? ⟨w.heap.size, 0, none⟩ = some (.int .i64 x) := by rw [hw2]; simp
  have hc1 : w2.cell? ⟨w.heap.size + 1, 0, none⟩ = some (.int .i64 9223372036854775807) := by rw [hw2]; simp
  have hb2 : Below w.heap.size w w2 := by rw [hw2]; exact below2 _ _ _
  have HB2 := Lib.hid hb2
  have HC0 := Lib.hid (And.intro hc0 hc1)
  clear hw2 hb2 hc0 hc1
  obtain ⟨b0, hb0⟩ : ∃ b0, b0 = w.heap.size := ⟨_, rfl⟩
  have HC0 : Hid (w2.cell? ⟨b0, 0, none⟩ = some (.int .i64 x) ∧ w2.cell? ⟨b0 + 1, 0, none⟩ = some (.int .i64 9223372036854775807)) := by rw [hb0]; exact HC0.out
  rw [← hb0]
  have HBB := Lib.hid hb0
  clear hb0
  go_wp2_with fail
  go_loopw [5, 13] (fun u i wr => ∃ k : Nat, k ≤ L.length ∧ i = .int .i64 (k : Int) ∧ Own wr w2.heap.size u ((ofE (L.take k) x).map (fun s => s.2.2.2)) ∧ Below w2.heap.size w2 wr) (fun _ i _ => L.length - (RowKit.intOf i).toNat)
  case atStart => exact ⟨0, Nat.zero_le _, rfl, Own.nil _ _, Below.refl _ _⟩
  case round =>
    obtain ⟨k, hk, rfl, ho, hb⟩ := hrel
    by_cases hlt : k < L.length
    · obtain ⟨b, off, rfl, d0, d1, d2, d3⟩ := ((HL.out.below HB2.out).below hb).2 k hlt
      have i0 : (0 : Int) ≤ (k : Int) := by omega
      have i1 : (k : Int) < (L.length : Int) := by omega
      have e1 : wrap64 ((k : Int) + 1) = (k : Int) + 1 := by unfold wrap64; omega
      have HT := Lib.hid (from_take x hlt)
      have HIN : Hid (∀ z ∈ (ofE (L.take k) x).map (fun s => s.2.2.2), InR z) := from_in HL.out.1 x k
      have HLEN : Hid (((ofE (L.take k) x).map (fun s => s.2.2.2)).length ≤ 1000000) := Nat.le_trans (from_len L x k) hn
      have HOK : Hid (ok4 (L.getD k z4)) := HL.out.at hlt
      have hc0 := (hb.cell (p := ⟨b0, 0, none⟩) (World.block_lt_of_cell? w2 _ HC0.out.1)).trans HC0.out.1
      have hc1 := (hb.cell (p := ⟨b0 + 1, 0, none⟩) (World.block_lt_of_cell? w2 _ HC0.out.2)).trans HC0.out.2
      generalize (ofE (L.take k) x).map (fun s => s.2.2.2) = M at *
      generalize L.getD k z4 = s at *
      have hbS := below1 wr (.cells #[.int .i64 s.1, .int .i64 s.2.1, .int .i64 s.2.2.1, .int .i64 s.2.2.2] 24)
      obtain ⟨g0, g1, g2, g3⟩ := new4 (w := wr) (s := s) (Below.refl _ _)
      have hls : wr.heap.size < (wr.alloc (.cells #[.int .i64 s.1, .int .i64 s.2.1, .int .i64 s.2.2.1, .int .i64 s.2.2.2] 24)).heap.size := by simp
      have f0 := (hbS.cell (p := ⟨b0, 0, none⟩) (World.block_lt_of_cell? wr _ hc0)).trans hc0
      have f1 := (hbS.cell (p := ⟨b0 + 1, 0, none⟩) (World.block_lt_of_cell? wr _ hc1)).trans hc1
      have hy := among1 f0 f1 s
      have HBS : Hid (Below w2.heap.size w2 (wr.alloc (.cells #[.int .i64 s.1, .int .i64 s.2.1, .int .i64 s.2.2.1, .int .i64 s.2.2.2] 24))) := hb.trans (hbS.mono hb.size)
      have HOS := Lib.hid (ho.below hbS)
      obtain ⟨a3, c3, rfl⟩ := (ho.sl HIN.out).form
      clear hb ho hc0 hc1 f0 f1 hbS
      by_cases hx : s.1 = x
      · have HT2 : Hid ((ofE (L.take (k + 1)) x).map (fun s => s.2.2.2) = M ++ [s.2.2.2]) := HT.out.trans (if_pos hx)
        have hcn : cnt x 9223372036854775807 s = true := cnt_yes hx HOK.out.2.2.2.2
        rw [hcn] at hy
        clear hcn hx
        go_wp2_with fail
        generalize hW : wr.alloc (.cells #[.int .i64 s.1, .int .i64 s.2.1, .int .i64 s.2.2.1, .int .i64 s.2.2.2] 24) = W at *
        generalize hbs : wr.heap.size = bs at *
        clear hW hbs d0 d1 d2 d3
        refine hy.mono ?_; clear hy; rintro e w4 ⟨rfl, hb4⟩
        have k3 := (hb4.cell (p := ⟨bs, 3, none⟩) hls).trans g3
        have HB4 : Hid (Below w2.heap.size w2 w4) := HBS.out.trans (hb4.mono HBS.out.size)
        have HO4 := Lib.hid (HOS.out.below hb4)
        have hsz := HB4.out.size
        clear hb4 g0 g1 g2 g3 hls
        go_wp2_with (at_builtin; refine wp_push w4 rfl (.tmp 20) (.tmp 23) rfl w2.heap.size _ M s.2.2.2 rfl HO4.out rfl (by have := HLEN.out; omega) hsz ?_; intro v5 w5 ho5 hb5)
        go_roundw
        · exact ⟨k + 1, by omega, by go_num, by rw [HT2.out]; exact ho5, HB4.out.trans hb5⟩
        · simp [RowKit.intOf]; omega
      · have HT2 : Hid ((ofE (L.take (k + 1)) x).map (fun s => s.2.2.2) = M) := HT.out.trans (if_neg hx)
        have hcn : cnt x 9223372036854775807 s = false := cnt_no (fun q => hx q.1)
        rw [hcn] at hy
        clear hcn hx
        go_wp2_with fail
        generalize hW : wr.alloc (.cells #[.int .i64 s.1, .int .i64 s.2.1, .int .i64 s.2.2.1, .int .i64 s.2.2.2] 24) = W at *
        generalize hbs : wr.heap.size = bs at *
        clear hW hbs d0 d1 d2 d3
        refine hy.mono ?_; clear hy; rintro e w4 ⟨rfl, hb4⟩
        have HB4 : Hid (Below w2.heap.size w2 w4) := HBS.out.trans (hb4.mono HBS.out.size)
        have HO4 := Lib.hid (HOS.out.below hb4)
        clear hb4 g0 g1 g2 g3 hls
        go_wp2_with fail
        go_roundw
        · exact ⟨k + 1, by omega, by go_num, by rw [HT2.out]; exact HO4.out, HB4.out⟩
        · simp [RowKit.intOf]; omega
    · obtain rfl : k = L.length := by omega
      have HIN : Hid (∀ z ∈ (ofE (L.take L.length) x).map (fun s => s.2.2.2), InR z) := from_in HL.out.1 x L.length
      have HLEN : Hid (((ofE (L.take L.length) x).map (fun s => s.2.2.2)).length ≤ 1000000) := Nat.le_trans (from_len L x L.length) hn
      rw [List.take_length] at ho HIN HLEN
      have hd0 : decide ((L.length : Int) < (L.length : Int)) = false := decide_eq_false (by omega)
      have hst := sort_own ho HLEN.out hb.size
      have HSI : Hid (∀ z ∈ ((ofE L x).map (fun s => s.2.2.2)).mergeSort (fun x y => decide (x ≤ y)), InR z) := fun z hz => HIN.out z ((perm_sort _).mem_iff.1 hz)
      have HSL : Hid ((((ofE L x).map (fun s => s.2.2.2)).mergeSort fun x y => decide (x ≤ y)).length ≤ 1000000) := by show _ ≤ _; rw [(perm_sort _).length_eq]; exact HLEN.out
      have HSS : Hid ((((ofE L x).map (fun s => s.2.2.2)).mergeSort fun x y => decide (x ≤ y)).Pairwise (· ≤ ·)) := sorted_sort _
      obtain ⟨a3, c3, rfl⟩ := (ho.sl HIN.out).form
      generalize ((ofE L x).map (fun s => s.2.2.2)).mergeSort (fun x y => decide (x ≤ y)) = S at *
      generalize (ofE L x).map (fun s => s.2.2.2) = M at *
      have HB := Lib.hid hb
      clear hb ho
      go_wp2_with fail
      refine hst.mono ?_; clear hst; rintro e w4 ⟨rfl, ho4, hb4⟩
      have HB4 : Hid (Below w2.heap.size w2 w4) := HB.out.trans hb4
      have hcp := compact_own ho4 HSL.out HSI.out HSS.out HB4.out.size
      rw [HF0.out] at hcp
      clear ho4 hb4
      go_wp2_with fail
      refine hcp.mono ?_; clear hcp; rintro e w5 ⟨v5, rfl, hs5, hb5⟩
      have HS5 := Lib.hid hs5
      have HB5 : Hid (Below w2.heap.size w2 w5) := HB4.out.trans hb5
      obtain ⟨a5, c5, rfl⟩ := hs5.form
      clear hs5 hb5
      go_wp2_with fail
      go_ret
      exact ⟨_, rfl, HS5.out, HB2.out.trans (HB5.out.mono HB2.out.size)⟩

theorem rise_snoc (M : List Int) (z : Int) : rise (M ++ [z]) = wth (rise M) z := by simp [rise, List.foldl_append]
theorem rise_in {M : List Int} (h : ∀ z ∈ M, InR z) : ∀ z ∈ rise M, InR z := fun z hz => by
  have : z ∈ M.foldl wth [] := hz
  rw [o_mem_rise] at this
  exact h z (this.elim id (fun q => by cases q))
theorem rise_len (M : List Int) : (rise M).length ≤ M.length := nodup_le _ _ (List.Pairwise.imp (fun {a b} q => by omega) (o_rises_rise M [] List.Pairwise.nil)) (fun z hz => by
  have : z ∈ M.foldl wth [] := hz
  rw [o_mem_rise] at this
  exact this.elim id (fun q => by cases q))
set_option maxHeartbeats 4000000 in
set_option maxRecDepth 100000 in
theorem r18froms (a : Option Addr) (c : Nat) (L : List K4) (x : Int) (w : World) (hL : RdQ w a L) (hn : L.length ≤ 1000000) :
    Calls Try.prog 18 #[.slice a L.length c, .int .i64 x] w fun e w' => ∃ v, e = .returned v ∧ Sl w' v (frm L x) ∧ Below w.heap.size w w' := by
  have HL := Lib.hid hL; clear hL
  obtain ⟨F0, hF0⟩ : ∃ F, F = frm L x := ⟨_, rfl⟩
  rw [← hF0]
  have HF0 : Hid (rise ((ofE L x).map (fun s => s.2.2.2)) = F0) := hF0.symm
  clear hF0
  go_enter Try.func18, Try.ntmps18
  go_wp2_with fail
  go_loopw [5, 6] (fun u i wr => ∃ k : Nat, k ≤ L.length ∧ i = .int .i64 (k : Int) ∧ Sl wr u (rise ((ofE (L.take k) x).map (fun s => s.2.2.2))) ∧ Below w.heap.size w wr) (fun _ i _ => L.length - (RowKit.intOf i).toNat)
  case atStart => exact ⟨0, Nat.zero_le _, rfl, ⟨none, 0, rfl, Nat.le_refl _, fun _ => rfl, fun z hz => (by cases hz), fun i hi => (by cases hi)⟩, Below.refl _ _⟩
  case round =>
    obtain ⟨k, hk, rfl, ho, hb⟩ := hrel
    by_cases hlt : k < L.length
    · obtain ⟨b, off, rfl, d0, d1, d2, d3⟩ := (HL.out.below hb).2 k hlt
      have i0 : (0 : Int) ≤ (k : Int) := by omega
      have i1 : (k : Int) < (L.length : Int) := by omega
      have e1 : wrap64 ((k : Int) + 1) = (k : Int) + 1 := by unfold wrap64; omega
      have HT := Lib.hid (from_take x hlt)
      have HLEN : Hid ((rise ((ofE (L.take k) x).map (fun s => s.2.2.2))).length ≤ 1000000) := Nat.le_trans (rise_len _) (Nat.le_trans (from_len L x k) hn)
      have HOK : Hid (ok4 (L.getD k z4)) := HL.out.at hlt
      generalize (ofE (L.take k) x).map (fun s => s.2.2.2) = M at *
      generalize L.getD k z4 = s at *
      have HB := Lib.hid hb
      by_cases hx : s.1 = x
      · have HT2 : Hid (rise ((ofE (L.take (k + 1)) x).map (fun s => s.2.2.2)) = wth (rise M) s.2.2.2) := by show _ = _; rw [HT.out, if_pos hx, rise_snoc]
        have ex : (s.1 == x) = true := by simpa using hx
        have hwt := r11with u5 (rise M) s.2.2.2 wr ho HOK.out.2.2.2 (by have := HLEN.out; omega)
        obtain ⟨a5, c5, rfl⟩ := ho.form
        clear hb ho hx
        go_wp2_with fail
        refine hwt.mono ?_; clear hwt; rintro e w4 ⟨v4, rfl, hs4, hb4⟩
        have HS4 := Lib.hid hs4
        have HB4 : Hid (Below w.heap.size w w4) := HB.out.trans (hb4.mono HB.out.size)
        obtain ⟨a6, c6, rfl⟩ := hs4.form
        clear hs4 hb4
        go_wp2_with fail
        go_roundw
        · exact ⟨k + 1, by omega, by go_num, by rw [HT2.out]; exact HS4.out, HB4.out⟩
        · simp [RowKit.intOf]; omega
      · have HT2 : Hid (rise ((ofE (L.take (k + 1)) x).map (fun s => s.2.2.2)) = rise M) := by show _ = _; rw [HT.out, if_neg hx]
        have ex : (s.1 == x) = false := by simpa using hx
        have HS := Lib.hid ho
        obtain ⟨a5, c5, rfl⟩ := ho.form
        clear hb ho hx
        go_wp2_with fail
        go_roundw
        · exact ⟨k + 1, by omega, by go_num, by rw [HT2.out]; exact HS.out, HB.out⟩
        · simp [RowKit.intOf]; omega
    · obtain rfl : k = L.length := by omega
      rw [List.take_length] at ho
      have hd0 : decide ((L.length : Int) < (L.length : Int)) = false := decide_eq_false (by omega)
      rw [HF0.out] at ho
      have HS := Lib.hid ho
      obtain ⟨a5, c5, rfl⟩ := ho.form
      have HB := Lib.hid hb
      clear hb ho
      go_wp2_with fail
      go_ret
      exact ⟨_, rfl, HS.out, HB.out⟩
end Go.Proofs.Ytjanbaecgldjkaa
