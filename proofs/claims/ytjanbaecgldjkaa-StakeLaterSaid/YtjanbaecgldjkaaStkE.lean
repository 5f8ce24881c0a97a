/-
  The document's Check, Add and Same of layer 18. The condition: rows of at most 1000000.
-/
import Derived.Test.YtjanbaecgldjkaaStkD
import Derived.Deep.QuietTactic
import Derived.BigQuiet
import Derived.WalkSmall
import Derived.Deep.DeepCutAuto
import Derived.Deep.RegionHeld3
namespace Go.Proofs.Ytjanbaecgldjkaa
open Go.RowKit
set_option linter.unusedSimpArgs false
set_option linter.unusedVariables false

theorem take_eq4 {L M : List K4} {k : Nat} (h : k < L.length) (h' : k < M.length) (he : L.take k = M.take k) (hz : L.getD k z4 = M.getD k z4) : L.take (k + 1) = M.take (k + 1) := by
  rw [take4 h, take4 h', he, hz]
theorem k4_eq (s t : K4) : (s.1 == t.1 && (s.2.1 == t.2.1 && (s.2.2.1 == t.2.2.1 && s.2.2.2 == t.2.2.2))) = decide (s = t) := by
  obtain ⟨a, b, c, d⟩ := s
  obtain ⟨a', b', c', d'⟩ := t
  by_cases h : (a, b, c, d) = (a', b', c', d')
  · rw [decide_eq_true h]
    simp only [Prod.mk.injEq] at h
    obtain ⟨rfl, rfl, rfl, rfl⟩ := h
    simp
  · rw [decide_eq_false h]
    simp only [Prod.mk.injEq] at h
    cases e : (a == a' && (b == b' && (c == c' && d == d'))) with
    | false => rfl
    | true => exact absurd (by simpa using e) h
set_option maxHeartbeats 2000000 in
set_option maxRecDepth 100000 in
theorem r18same (a a' : Option Addr) (c c' : Nat) (L M : List K4) (w : World) (hL : RdQ w a L) (hM : RdQ w a' M) (hn : L.length ≤ 1000000) :
    Calls Try.prog 11 #[.slice a L.length c, .slice a' M.length c'] w fun e w' => e = .returned (.bool (decide (L = M))) ∧ Below w.heap.size w w' := by
  by_cases hl : L.length = M.length
  · have HL := Lib.hid hL; have HM := Lib.hid hM; clear hL hM
    obtain ⟨r, hr⟩ : ∃ r, r = decide (L = M) := ⟨_, rfl⟩
    rw [← hr]
    have HR := Lib.hid hr; clear hr
    rw [← hl]
    have HE := Lib.hid hl; clear hl
    go_enter Try.func11, Try.ntmps11
    go_wp2_with fail
    go_loopw [5] (fun i wr => ∃ k : Nat, k ≤ L.length ∧ i = .int .i64 (k : Int) ∧ L.take k = M.take k ∧ Below w.heap.size w wr) (fun i _ => L.length - (intOf i).toNat)
    case atStart => exact ⟨0, Nat.zero_le _, rfl, by simp, Below.refl _ _⟩
    case round =>
      obtain ⟨k, hk, rfl, hok, hb⟩ := hrel
      by_cases hlt : k < L.length
      · obtain ⟨b, off, rfl, c0, c1, c2, c3⟩ := (HL.out.below hb).2 k hlt
        obtain ⟨b', off', rfl, c0', c1', c2', c3'⟩ := (HM.out.below hb).2 k (by have := HE.out; omega)
        have i0 : (0 : Int) ≤ (k : Int) := by omega
        have i1 : (k : Int) < (L.length : Int) := by omega
        have HK := Lib.hid (take_eq4 (M := M) hlt (by have := HE.out; omega) hok); clear hok
        have HZ : Hid (L.getD k z4 ≠ M.getD k z4 → L ≠ M) := fun q e => q (by rw [e])
        generalize L.getD k z4 = s at *
        generalize M.getD k z4 = t at *
        have he := k4_eq s t
        have hes := fun wx => eq_stake s.1 s.2.1 s.2.2.1 s.2.2.2 t.1 t.2.1 t.2.2.1 t.2.2.2 wx
        have HB := Lib.hid hb; clear hb
        by_cases hs : s = t
        · rw [decide_eq_true hs] at he
          have HS := Lib.hid hs; clear hs
          go_wp2_with fail
          go_quiet (fail)
          have he' : (!(s.1 == t.1 && (s.2.1 == t.2.1 && (s.2.2.1 == t.2.2.1 && s.2.2.2 == t.2.2.2)))) = false := by rw [he]; rfl
          clear he
          go_wp2_with fail
          go_roundw
          · exact ⟨k + 1, by omega, by go_num, HK.out HS.out, below_drewN HB.out _⟩
          · simp [intOf]; omega
        · rw [decide_eq_false hs] at he
          have hr : r = false := by rw [HR.out]; exact decide_eq_false (HZ.out hs)
          subst hr
          clear hs
          go_wp2_with fail
          go_quiet (fail)
          have he' : (!(s.1 == t.1 && (s.2.1 == t.2.1 && (s.2.2.1 == t.2.2.1 && s.2.2.2 == t.2.2.2)))) = true := by rw [he]; rfl
          clear he
          go_wp2_with fail
          go_ret
          exact ⟨rfl, below_drewN HB.out _⟩
      · obtain rfl : k = L.length := by omega
        rw [List.take_length, HE.out, List.take_length] at hok
        have hr : r = true := by rw [HR.out]; exact decide_eq_true hok
        subst hr
        clear hok
        have hd0 : decide ((L.length : Int) < (L.length : Int)) = false := decide_eq_false (by omega)
        have HB := Lib.hid hb; clear hb
        go_wp2_with fail
        go_ret
        exact ⟨rfl, HB.out⟩
  · have hr : decide (L = M) = false := decide_eq_false fun e => hl (by rw [e])
    rw [hr]
    have hne : ((L.length : Int) != (M.length : Int)) = true := by simp; omega
    clear hr hL hM
    go_enter Try.func11, Try.ntmps11
    go_wp2_with fail
    go_ret
    exact ⟨rfl, Below.refl _ _⟩

set_option maxHeartbeats 2000000 in
set_option maxRecDepth 100000 in
theorem r18check (a : Option Addr) (c : Nat) (L : List K4) (n : Int) (w : World) (hL : RdQ w a L) (hn : L.length ≤ 1000000) (hc : L.length ≤ c) :
    Calls Try.prog 13 #[.slice a L.length c, .int .i64 n] w fun e w' => e = .returned (.tuple #[.int .i64 (chV L n), .int .i64 (chE L n)]) ∧ Below w.heap.size w w' := by
  by_cases h40 : 400 < L.length
  · have d1 : decide (400 < L.length) = true := decide_eq_true h40
    have d2 : decide ((400 : Int) < (L.length : Int)) = true := decide_eq_true (by omega)
    rw [show chV L n = 0 from if_pos h40, show chE L n = 3 from if_pos h40]
    clear hL
    go_enter Try.func13, Try.ntmps13
    go_wp2_with fail
    go_ret2
    exact ⟨rfl, Below.refl _ _⟩
  · have d1 : decide (400 < L.length) = false := decide_eq_false h40
    have d2 : decide ((400 : Int) < (L.length : Int)) = false := decide_eq_false (by omega)
    have hV : Hid (chV L n = (fst18 L n : Int) ∧ chE L n = if fst18 L n < L.length then nxe (L.take (fst18 L n)) (L.getD (fst18 L n) z4) n else 0) := ⟨if_neg h40, if_neg h40⟩
    have HL := Lib.hid hL; clear hL
    go_enter Try.func13, Try.ntmps13
    go_wp2_with fail
    clear d1 d2 h40
    go_loopw [6] (fun i wr => ∃ k : Nat, k ≤ L.length ∧ i = .int .i64 (k : Int) ∧ (∀ j, j < k → nxe (L.take j) (L.getD j z4) n = 0) ∧ Below w.heap.size w wr) (fun i _ => L.length - (RowKit.intOf i).toNat)
    case atStart => exact ⟨0, Nat.zero_le _, rfl, fun j hj => by omega, Below.refl _ _⟩
    case round =>
      obtain ⟨k, hk, rfl, hok, hb⟩ := hrel
      have HK := Lib.hid hok; clear hok
      by_cases hlt : k < L.length
      · obtain ⟨b, off, rfl, -⟩ := HL.out.2 k hlt
        have i0 : (0 : Int) ≤ (k : Int) := by omega
        have i1 : (k : Int) < (L.length : Int) := by omega
        have e1 : wrap64 ((k : Int) + 1) = (k : Int) + 1 := by unfold wrap64; omega
        have j0 : (0 : Int) ≤ (k : Int) + 1 := by omega
        have j1 : k + 1 ≤ c := by omega
        have j2 : (k : Int) + 1 ≤ (c : Int) := by omega
        have hla := r18last (some ⟨b, off, none⟩) c (L.take (k + 1)) k n wr ((HL.out.below hb).take (k + 1)) (by rw [List.length_take]; omega) (by rw [List.length_take]; omega)
        have e2 : (L.take (k + 1)).length = k + 1 := by rw [List.length_take]; omega
        have e3 : (L.take (k + 1)).take k = L.take k := by rw [List.take_take]; congr 1; omega
        have e4 : (L.take (k + 1)).getD k z4 = L.getD k z4 := by rw [get4 (by omega), get4 hlt, List.getElem_take]
        rw [e2, e3, e4] at hla
        have HB := Lib.hid hb
        have HLT := Lib.hid hlt
        obtain ⟨x, hx⟩ : ∃ x, x = nxe (L.take k) (L.getD k z4) n := ⟨_, rfl⟩
        rw [← hx] at hla
        have HX := Lib.hid hx
        clear hx hb e2 e3 e4
        by_cases h0 : x = 0
        · subst h0
          go_wp2_with fail
          refine hla.mono ?_; clear hla; rintro e w4 ⟨rfl, hb4⟩
          have HB4 : Hid (Below w.heap.size w w4) := HB.out.trans (hb4.mono HB.out.size)
          clear hb4
          go_wp2_with fail
          go_roundw
          · exact ⟨k + 1, by omega, by go_num, fun j hj => by
              rcases Nat.lt_or_ge j k with q | q
              · exact HK.out j q
              · rw [show j = k by omega]; exact HX.out.symm, HB4.out⟩
          · simp [RowKit.intOf]; omega
        · have e0 : (x != 0) = true := by simpa using h0
          have hk2 : Hid (fst18 L n = k) := fst18_is hk HK.out (Or.inr (fun q => h0 (HX.out.trans q)))
          clear h0
          go_wp2_with fail
          refine hla.mono ?_; clear hla; rintro e w4 ⟨rfl, hb4⟩
          have HB4 : Hid (Below w.heap.size w w4) := HB.out.trans (hb4.mono HB.out.size)
          clear hb4
          go_wp2_with fail
          go_ret2
          exact ⟨by rw [hV.out.1, hV.out.2, hk2.out, if_pos HLT.out, HX.out] <;> rfl, HB4.out⟩
      · obtain rfl : k = L.length := by omega
        have hk2 : Hid (fst18 L n = L.length) := fst18_is (Nat.le_refl _) HK.out (Or.inl rfl)
        have hd0 : decide ((L.length : Int) < (L.length : Int)) = false := decide_eq_false (by omega)
        have HB := Lib.hid hb; clear hb
        go_wp2_with fail
        go_ret2
        exact ⟨by rw [hV.out.1, hV.out.2, hk2.out, if_neg (Nat.lt_irrefl _)] <;> rfl, HB.out⟩

theorem litq (w : World) : (w.alloc (.cells #[] 24)).ownsRow w.heap.size 24 4 (.slice (some ⟨w.heap.size, 0, none⟩) 0 0) 0 [] :=
  World.ownsRow_lit (base := w.heap.size) (e := 24) (size := 4) w #[] 0 (Nat.le_refl _) (by unfold maxLen; omega) rfl
theorem ownsRow_lower {w : World} {base base' : Nat} {e : TypeId} {size n : Nat} {v : Value} {cs : List Value} (h : w.ownsRow base e size v n cs) (hb : base' ≤ base) : w.ownsRow base' e size v n cs := by
  refine ⟨h.1, ?_⟩
  rcases h.2 with q | ⟨g, cap, cur, rfl, h2, h3⟩
  · exact Or.inl q
  · exact Or.inr ⟨g, cap, cur, rfl, Nat.le_trans hb h2, h3⟩
/-- A slice's address and its room. -/
def v6a : Value → Option Addr
  | .slice a _ _ => a
  | _ => none
def v6c : Value → Nat
  | .slice _ _ c => c
  | _ => 0
theorem OwnS.forma {w : World} {base : Nat} {v : Value} {L : List K4} (h : OwnS w base v L) : v = .slice (v6a v) L.length (v6c v) := by
  obtain ⟨a, c, h1, _⟩ := ownsRow_slc h
  rw [h1]; rfl
theorem OwnS.rda {w : World} {base : Nat} {v : Value} {L : List K4} (h : OwnS w base v L) (hL : ∀ s ∈ L, ok4 s) : RdQ w (v6a v) L := by
  obtain ⟨a, c, rfl, _, _, hr⟩ := h.reads hL
  exact hr
set_option maxHeartbeats 8000000 in
set_option maxRecDepth 100000 in
theorem r18add (a : Option Addr) (c : Nat) (L : List K4) (s : K4) (n : Int) (w : World) (hL : RdQ w a L) (hn : L.length ≤ 1000000) (hc : L.length ≤ c) (ca : a = none → c = 0) (hs : ok4 s) :
    Calls Try.prog 10 #[.slice a L.length c, .agg #[.int .i64 s.1, .int .i64 s.2.1, .int .i64 s.2.2.1, .int .i64 s.2.2.2], .int .i64 n] w fun e w' => ∃ v, e = .returned (.tuple #[v, .int .i64 (adE L s n)]) ∧ OwnS w' w.heap.size v (adL L s n) ∧ Below w.heap.size w w' := by
  have hb := below1 w (.cells #[.int .i64 s.1, .int .i64 s.2.1, .int .i64 s.2.2.1, .int .i64 s.2.2.2] 24)
  by_cases h40 : 400 ≤ L.length
  · have d1 : decide (400 ≤ L.length) = true := decide_eq_true h40
    have d2 : decide ((400 : Int) ≤ (L.length : Int)) = true := decide_eq_true (by omega)
    rw [show adL L s n = [] from if_pos h40, show adE L s n = 3 from if_pos h40]
    have HB := Lib.hid hb
    clear hL hb
    go_enter Try.func10, Try.ntmps10
    go_wp2_with fail
    go_ret2
    exact ⟨_, rfl, OwnS.nil _ _, HB.out⟩
  · have d1 : decide (400 ≤ L.length) = false := decide_eq_false h40
    have d2 : decide ((400 : Int) ≤ (L.length : Int)) = false := decide_eq_false (by omega)
    obtain ⟨g0, g1, g2, g3⟩ := new4 (w := w) (s := s) (Below.refl _ _)
    have HOKS : Hid (∀ t ∈ L ++ [s], ok4 t) := fun t ht => by
      rcases List.mem_append.1 ht with q | q
      · exact hL.1 t q
      · rw [List.mem_singleton.1 q]; exact hs
    have HRL0 : Hid (SlC w (.slice a L.length c) 4 L.length (row4 L)) := hL.slc hc ca
    have HBW := Lib.hid hb
    have hlt : w.heap.size < (w.alloc (.cells #[.int .i64 s.1, .int .i64 s.2.1, .int .i64 s.2.2.1, .int .i64 s.2.2.2] 24)).heap.size := by simp
    clear hL hb
    go_enter Try.func10, Try.ntmps10
    go_wp2_with fail
    generalize w.alloc (.cells #[.int .i64 s.1, .int .i64 s.2.1, .int .i64 s.2.2.1, .int .i64 s.2.2.2] 24) = W at *
    obtain ⟨bs, hbs⟩ : ∃ bs, w.heap.size = bs := ⟨_, rfl⟩
    rw [hbs] at g0 g1 g2 g3 hlt ⊢
    have hS : Hid (∀ wz, Below W.heap.size W wz → wz.cell? ⟨bs, 0, none⟩ = some (.int .i64 s.1) ∧ wz.cell? ⟨bs, 1, none⟩ = some (.int .i64 s.2.1) ∧ wz.cell? ⟨bs, 2, none⟩ = some (.int .i64 s.2.2.1) ∧ wz.cell? ⟨bs, 3, none⟩ = some (.int .i64 s.2.2.2)) := fun wz h => ⟨(h.cell (p := ⟨bs, 0, none⟩) hlt).trans g0, (h.cell (p := ⟨bs, 1, none⟩) hlt).trans g1, (h.cell (p := ⟨bs, 2, none⟩) hlt).trans g2, (h.cell (p := ⟨bs, 3, none⟩) hlt).trans g3⟩
    have HRL : Hid (∀ X, Below W.heap.size W X → SlC X (.slice a L.length c) 4 L.length (row4 L)) := fun X h => (HRL0.out.below HBW.out).below h
    have HBSE := Lib.hid hbs
    clear hbs hlt d1 d2
    refine wp_region_held_drew (S := fun wz => wz.cell? ⟨bs, 0, none⟩ = some (.int .i64 s.1) ∧ wz.cell? ⟨bs, 1, none⟩ = some (.int .i64 s.2.1) ∧ wz.cell? ⟨bs, 2, none⟩ = some (.int .i64 s.2.2.1) ∧ wz.cell? ⟨bs, 3, none⟩ = some (.int .i64 s.2.2.2)) (by kernel_rfl) (hS.out _ (Below.refl _ _).drew) (fun hHeld => ?_)
    refine wpAnyH_take (i := 1) (v := ?_) rfl (by kernel_rfl) (by kernel_rfl) (by kernel_rfl) (fun _ _ _ h => h) (Or.inl ⟨by rfl, ?y1⟩) (by assumption) ?_
    case y1 => intro w hSw; (try dsimp only at hSw); go_simp; (try with_reducible rfl)
    (try simp only [Act.put, List.setIfInBounds_toArray, List.set_cons_zero, List.set_cons_succ, List.getElem_toArray, List.getElem_cons_zero, List.getElem_cons_succ])
    refine wpAnyH_take (i := 3) (v := ?_) rfl (by kernel_rfl) (by kernel_rfl) (by kernel_rfl) (fun _ _ _ h => h) (Or.inl ⟨by rfl, ?y3⟩) (by assumption) ?_
    case y3 => intro w hSw; (try dsimp only at hSw); go_simp; (try with_reducible rfl)
    (try simp only [Act.put, List.setIfInBounds_toArray, List.set_cons_zero, List.set_cons_succ, List.getElem_toArray, List.getElem_cons_zero, List.getElem_cons_succ])
    refine wpAnyH_ready (rs := [0, 4]) (by kernel_rfl) (by simp) ?_
    refine AllReadyH.cons rfl (fun KK hKK => ?_) (AllReadyH.cons rfl (fun KK hKK => ?_) AllReadyH.nil)
    · skip
      go_simp
      have HE0 : Hid (Below W.heap.size W (W.alloc (.cells #[] 24)).drew) := ((below1 W (.cells #[] 24)).drew)
      have HO0 : Hid (World.ownsRow (W.alloc (.cells #[] 24)).drew W.heap.size 24 4 (.slice (some ⟨W.heap.size, 0, none⟩) 0 0) 0 []) := ownsRow_lower ((litq W).drew) (Nat.le_refl _)
      refine hKK.out _ _ (hS.out _ HE0.out) (fun hHeld => ?_)
      clear hKK KK
      (try simp only [Act.put, List.setIfInBounds_toArray, List.set_cons_zero, List.set_cons_succ, List.getElem_toArray, List.getElem_cons_zero, List.getElem_cons_succ])
      generalize (W.alloc (.cells #[] 24)).drew = X at *
      refine wpAnyH_ready (rs := [2, 4]) (by kernel_rfl) (by simp) ?_
      refine AllReadyH.cons rfl (fun KK hKK => ?_) (AllReadyH.cons rfl (fun KK hKK => ?_) AllReadyH.nil)
      · skip
        refine step_app rfl (.tmp 13) (.tmp 14) 22 rfl W.heap.size 24 4 32 (.agg #[.int .i64 0, .int .i64 0, .int .i64 0, .int .i64 0]) Try.underlying22 stake_info rfl (by decide) (.slice (some ⟨W.heap.size, 0, none⟩) 0 0) 0 [] (by simp [Act.eval, Act.put]) HO0.out (.slice a L.length c) L.length (row4 L) (by simp [Act.eval, Act.put]) (HRL.out _ HE0.out) (row4_one L) (by omega) (by decide) HE0.out.size ?_
        intro v5 w5 ho5 hb5 hg5
        have HB5 : Hid (Below W.heap.size W w5) := HE0.out.trans hb5
        have HO5 := Lib.hid ho5
        clear ho5 hb5 hg5
        refine hKK.out _ _ (hS.out _ HB5.out) (fun hHeld => ?_)
        clear hKK KK
        (try simp only [Act.put, List.setIfInBounds_toArray, List.set_cons_zero, List.set_cons_succ, List.getElem_toArray, List.getElem_cons_zero, List.getElem_cons_succ])
        refine wpAnyH_ready (rs := [4]) (by kernel_rfl) (by simp) ?_
        refine AllReadyH.cons rfl (fun KK hKK => ?_) AllReadyH.nil
        go_simp
        have HE1 : Hid (Below W.heap.size W (w5.alloc (.cells #[.int .i64 s.1, .int .i64 s.2.1, .int .i64 s.2.2.1, .int .i64 s.2.2.2] 24))) := (HB5.out.trans ((below1 w5 (.cells #[.int .i64 s.1, .int .i64 s.2.1, .int .i64 s.2.2.1, .int .i64 s.2.2.2] 24)).mono HB5.out.size))
        have HN : Hid (SlC (w5.alloc (.cells #[.int .i64 s.1, .int .i64 s.2.1, .int .i64 s.2.2.1, .int .i64 s.2.2.2] 24)) (.slice (some ⟨w5.heap.size, 0, none⟩) 1 1) 4 1 (cells4 s) ∧ w5.heap.size < (w5.alloc (.cells #[.int .i64 s.1, .int .i64 s.2.1, .int .i64 s.2.2.1, .int .i64 s.2.2.2] 24)).heap.size) := ⟨one4 w5 s, by simp⟩
        have HOk : Hid (World.ownsRow (w5.alloc (.cells #[.int .i64 s.1, .int .i64 s.2.1, .int .i64 s.2.2.1, .int .i64 s.2.2.2] 24)) W.heap.size 24 4 v5 (0 + L.length) ([] ++ row4 L)) := ownsRow_below HO5.out (below1 w5 (.cells #[.int .i64 s.1, .int .i64 s.2.1, .int .i64 s.2.2.1, .int .i64 s.2.2.2] 24))
        refine hKK.out _ _ (hS.out _ HE1.out) (fun hHeld => ?_)
        clear hKK KK
        (try simp only [Act.put, List.setIfInBounds_toArray, List.set_cons_zero, List.set_cons_succ, List.getElem_toArray, List.getElem_cons_zero, List.getElem_cons_succ])
        generalize (w5.alloc (.cells #[.int .i64 s.1, .int .i64 s.2.1, .int .i64 s.2.2.1, .int .i64 s.2.2.2] 24)) = Y at *
        refine wpAnyH_ready (rs := [5]) (by kernel_rfl) (by simp) ?_
        refine AllReadyH.cons rfl (fun KK hKK => ?_) AllReadyH.nil
        have HB5 := HE1
        refine step_app rfl (.tmp 15) (.tmp 17) 22 rfl W.heap.size 24 4 32 (.agg #[.int .i64 0, .int .i64 0, .int .i64 0, .int .i64 0]) Try.underlying22 stake_info rfl (by decide) v5 (0 + L.length) ([] ++ row4 L) (by simp [Act.eval, Act.put]) HOk.out (.slice (some ⟨w5.heap.size, 0, none⟩) 1 1) 1 (cells4 s) (by simp [Act.eval, Act.put]) HN.out.1 (cells4_one s) (by omega) (by decide) HE1.out.size ?_
        intro v6 w6 ho6 hb6 hg6
        have HB6 : Hid (Below W.heap.size W w6) := HB5.out.trans hb6
        have HO6 : Hid (OwnS w6 W.heap.size v6 (L ++ [s])) := by
          show World.ownsRow _ _ _ _ _ _ _
          rw [List.length_append, ← row4_app]
          simpa using ho6
        clear ho6 hb6 hg6
        refine hKK.out _ _ (hS.out _ HB6.out) (fun hHeld => ?_)
        clear hKK KK
        (try simp only [Act.put, List.setIfInBounds_toArray, List.set_cons_zero, List.set_cons_succ, List.getElem_toArray, List.getElem_cons_zero, List.getElem_cons_succ])
        refine wpAnyH_take (i := 6) (v := ?_) rfl (by kernel_rfl) (by kernel_rfl) (by kernel_rfl) (fun _ _ _ h => h) (Or.inl ⟨by rfl, ?y6⟩) (by assumption) ?_
        case y6 => intro w hSw; (try dsimp only at hSw); go_simp; (try with_reducible rfl)
        (try simp only [Act.put, List.setIfInBounds_toArray, List.set_cons_zero, List.set_cons_succ, List.getElem_toArray, List.getElem_cons_zero, List.getElem_cons_succ])
        refine wpAnyH_done (by kernel_rfl) ?_ _
        have hR6 : RdQ w6 (v6a v6) (L ++ [s]) := HO6.out.rda HOKS.out
        have hf6 := HO6.out.forma
        generalize v6a v6 = a6 at *
        generalize v6c v6 = c6 at *
        subst hf6
        have hla := r18last a6 c6 (L ++ [s]) L.length n w6 hR6 (by simp; omega) (by simp)
        rw [show (L ++ [s]).take L.length = L by simp, show (L ++ [s]).getD L.length z4 = s by simp [List.getD]] at hla
        rw [show (L ++ [s]).length = L.length + 1 by simp] at hla ⊢
        clear hR6
        go_wp2_with fail
        refine hla.mono ?_; clear hla; rintro e w7 ⟨rfl, hb7⟩
        have HB7 : Hid (Below w.heap.size w w7) := HBW.out.trans ((HB6.out.trans (hb7.mono HB6.out.size)).mono HBW.out.size)
        have HO7 := Lib.hid (HO6.out.below hb7)
        clear hb7
        by_cases h0 : nxe L s n = 0
        · have HV : Hid (adE L s n = 0 ∧ adL L s n = L ++ [s]) := ⟨by unfold adE; rw [if_neg (by omega), h0], by unfold adL; rw [if_neg (by omega), if_pos h0]⟩
          rw [h0]
          clear h0
          go_wp2_with fail
          go_ret2
          rw [HV.out.1, HV.out.2]
          exact ⟨_, rfl, by simpa using HO7.out.lower HBW.out.size, HB7.out⟩
        · have HV : Hid (adE L s n = nxe L s n ∧ adL L s n = []) := ⟨by unfold adE; rw [if_neg (by omega)], by unfold adL; rw [if_neg (by omega), if_neg h0]⟩
          have e0 : (nxe L s n != 0) = true := by simpa using h0
          generalize nxe L s n = x at *
          clear h0
          go_wp2_with fail
          go_ret2
          rw [HV.out.1, HV.out.2]
          exact ⟨_, rfl, OwnS.nil _ _, HB7.out⟩
      · skip
        go_simp
        have HE1 : Hid (Below W.heap.size W (X.alloc (.cells #[.int .i64 s.1, .int .i64 s.2.1, .int .i64 s.2.2.1, .int .i64 s.2.2.2] 24))) := (HE0.out.trans ((below1 X (.cells #[.int .i64 s.1, .int .i64 s.2.1, .int .i64 s.2.2.1, .int .i64 s.2.2.2] 24)).mono HE0.out.size))
        have HN : Hid (SlC (X.alloc (.cells #[.int .i64 s.1, .int .i64 s.2.1, .int .i64 s.2.2.1, .int .i64 s.2.2.2] 24)) (.slice (some ⟨X.heap.size, 0, none⟩) 1 1) 4 1 (cells4 s) ∧ X.heap.size < (X.alloc (.cells #[.int .i64 s.1, .int .i64 s.2.1, .int .i64 s.2.2.1, .int .i64 s.2.2.2] 24)).heap.size) := ⟨one4 X s, by simp⟩
        have HOk : Hid (World.ownsRow (X.alloc (.cells #[.int .i64 s.1, .int .i64 s.2.1, .int .i64 s.2.2.1, .int .i64 s.2.2.2] 24)) W.heap.size 24 4 (.slice (some ⟨W.heap.size, 0, none⟩) 0 0) 0 []) := ownsRow_below HO0.out (below1 X (.cells #[.int .i64 s.1, .int .i64 s.2.1, .int .i64 s.2.2.1, .int .i64 s.2.2.2] 24))
        refine hKK.out _ _ (hS.out _ HE1.out) (fun hHeld => ?_)
        clear hKK KK
        (try simp only [Act.put, List.setIfInBounds_toArray, List.set_cons_zero, List.set_cons_succ, List.getElem_toArray, List.getElem_cons_zero, List.getElem_cons_succ])
        generalize (X.alloc (.cells #[.int .i64 s.1, .int .i64 s.2.1, .int .i64 s.2.2.1, .int .i64 s.2.2.2] 24)) = Y at *
        have HNX : Hid (W.heap.size < X.heap.size) := (World.ownsRow.lt HO0.out _ rfl).2
        refine wpAnyH_ready (rs := [2]) (by kernel_rfl) (by simp) ?_
        refine AllReadyH.cons rfl (fun KK hKK => ?_) AllReadyH.nil
        refine step_app rfl (.tmp 13) (.tmp 14) 22 rfl W.heap.size 24 4 32 (.agg #[.int .i64 0, .int .i64 0, .int .i64 0, .int .i64 0]) Try.underlying22 stake_info rfl (by decide) (.slice (some ⟨W.heap.size, 0, none⟩) 0 0) 0 [] (by simp [Act.eval, Act.put]) HOk.out (.slice a L.length c) L.length (row4 L) (by simp [Act.eval, Act.put]) (HRL.out _ HE1.out) (row4_one L) (by omega) (by decide) HE1.out.size ?_
        intro v5 w5 ho5 hb5 hg5
        have HB5 : Hid (Below W.heap.size W w5) := HE1.out.trans hb5
        have HO5 := Lib.hid ho5
        have HN5 : Hid (SlC w5 (.slice (some ⟨X.heap.size, 0, none⟩) 1 1) 4 1 (cells4 s)) := HN.out.1.grown hg5 (by intro q hq; have := HNX.out; simp [Value.ownBlock] at hq ⊢; omega)
        clear ho5 hb5 hg5
        refine hKK.out _ _ (hS.out _ HB5.out) (fun hHeld => ?_)
        clear hKK KK
        (try simp only [Act.put, List.setIfInBounds_toArray, List.set_cons_zero, List.set_cons_succ, List.getElem_toArray, List.getElem_cons_zero, List.getElem_cons_succ])
        refine wpAnyH_ready (rs := [5]) (by kernel_rfl) (by simp) ?_
        refine AllReadyH.cons rfl (fun KK hKK => ?_) AllReadyH.nil
        refine step_app rfl (.tmp 15) (.tmp 17) 22 rfl W.heap.size 24 4 32 (.agg #[.int .i64 0, .int .i64 0, .int .i64 0, .int .i64 0]) Try.underlying22 stake_info rfl (by decide) v5 (0 + L.length) ([] ++ row4 L) (by simp [Act.eval, Act.put]) HO5.out (.slice (some ⟨X.heap.size, 0, none⟩) 1 1) 1 (cells4 s) (by simp [Act.eval, Act.put]) HN5.out (cells4_one s) (by omega) (by decide) HB5.out.size ?_
        intro v6 w6 ho6 hb6 hg6
        have HB6 : Hid (Below W.heap.size W w6) := HB5.out.trans hb6
        have HO6 : Hid (OwnS w6 W.heap.size v6 (L ++ [s])) := by
          show World.ownsRow _ _ _ _ _ _ _
          rw [List.length_append, ← row4_app]
          simpa using ho6
        clear ho6 hb6 hg6
        refine hKK.out _ _ (hS.out _ HB6.out) (fun hHeld => ?_)
        clear hKK KK
        (try simp only [Act.put, List.setIfInBounds_toArray, List.set_cons_zero, List.set_cons_succ, List.getElem_toArray, List.getElem_cons_zero, List.getElem_cons_succ])
        refine wpAnyH_take (i := 6) (v := ?_) rfl (by kernel_rfl) (by kernel_rfl) (by kernel_rfl) (fun _ _ _ h => h) (Or.inl ⟨by rfl, ?y6⟩) (by assumption) ?_
        case y6 => intro w hSw; (try dsimp only at hSw); go_simp; (try with_reducible rfl)
        (try simp only [Act.put, List.setIfInBounds_toArray, List.set_cons_zero, List.set_cons_succ, List.getElem_toArray, List.getElem_cons_zero, List.getElem_cons_succ])
        refine wpAnyH_done (by kernel_rfl) ?_ _
        have hR6 : RdQ w6 (v6a v6) (L ++ [s]) := HO6.out.rda HOKS.out
        have hf6 := HO6.out.forma
        generalize v6a v6 = a6 at *
        generalize v6c v6 = c6 at *
        subst hf6
        have hla := r18last a6 c6 (L ++ [s]) L.length n w6 hR6 (by simp; omega) (by simp)
        rw [show (L ++ [s]).take L.length = L by simp, show (L ++ [s]).getD L.length z4 = s by simp [List.getD]] at hla
        rw [show (L ++ [s]).length = L.length + 1 by simp] at hla ⊢
        clear hR6
        go_wp2_with fail
        refine hla.mono ?_; clear hla; rintro e w7 ⟨rfl, hb7⟩
        have HB7 : Hid (Below w.heap.size w w7) := HBW.out.trans ((HB6.out.trans (hb7.mono HB6.out.size)).mono HBW.out.size)
        have HO7 := Lib.hid (HO6.out.below hb7)
        clear hb7
        by_cases h0 : nxe L s n = 0
        · have HV : Hid (adE L s n = 0 ∧ adL L s n = L ++ [s]) := ⟨by unfold adE; rw [if_neg (by omega), h0], by unfold adL; rw [if_neg (by omega), if_pos h0]⟩
          rw [h0]
          clear h0
          go_wp2_with fail
          go_ret2
          rw [HV.out.1, HV.out.2]
          exact ⟨_, rfl, by simpa using HO7.out.lower HBW.out.size, HB7.out⟩
        · have HV : Hid (adE L s n = nxe L s n ∧ adL L s n = []) := ⟨by unfold adE; rw [if_neg (by omega)], by unfold adL; rw [if_neg (by omega), if_neg h0]⟩
          have e0 : (nxe L s n != 0) = true := by simpa using h0
          generalize nxe L s n = x at *
          clear h0
          go_wp2_with fail
          go_ret2
          rw [HV.out.1, HV.out.2]
          exact ⟨_, rfl, OwnS.nil _ _, HB7.out⟩
    · skip
      go_simp
      have HE1 : Hid (Below W.heap.size W (W.alloc (.cells #[.int .i64 s.1, .int .i64 s.2.1, .int .i64 s.2.2.1, .int .i64 s.2.2.2] 24)).drew) := ((below1 W (.cells #[.int .i64 s.1, .int .i64 s.2.1, .int .i64 s.2.2.1, .int .i64 s.2.2.2] 24)).drew)
      have HN : Hid (SlC (W.alloc (.cells #[.int .i64 s.1, .int .i64 s.2.1, .int .i64 s.2.2.1, .int .i64 s.2.2.2] 24)).drew (.slice (some ⟨W.heap.size, 0, none⟩) 1 1) 4 1 (cells4 s) ∧ W.heap.size < (W.alloc (.cells #[.int .i64 s.1, .int .i64 s.2.1, .int .i64 s.2.2.1, .int .i64 s.2.2.2] 24)).drew.heap.size) := ⟨(one4 W s).below (Below.refl _ _).drew, by simp⟩
      refine hKK.out _ _ (hS.out _ HE1.out) (fun hHeld => ?_)
      clear hKK KK
      (try simp only [Act.put, List.setIfInBounds_toArray, List.set_cons_zero, List.set_cons_succ, List.getElem_toArray, List.getElem_cons_zero, List.getElem_cons_succ])
      generalize (W.alloc (.cells #[.int .i64 s.1, .int .i64 s.2.1, .int .i64 s.2.2.1, .int .i64 s.2.2.2] 24)).drew = X at *
      have hn1 : W.heap.size < X.heap.size := HN.out.2
      refine wpAnyH_ready (rs := [0]) (by kernel_rfl) (by simp) ?_
      refine AllReadyH.cons rfl (fun KK hKK => ?_) AllReadyH.nil
      go_simp
      have HE0 : Hid (Below W.heap.size W (X.alloc (.cells #[] 24))) := (HE1.out.trans ((below1 X (.cells #[] 24)).mono HE1.out.size))
      have HO0 : Hid (World.ownsRow (X.alloc (.cells #[] 24)) W.heap.size 24 4 (.slice (some ⟨X.heap.size, 0, none⟩) 0 0) 0 []) := ownsRow_lower ((litq X)) HE1.out.size
      have HN1 : Hid (SlC (X.alloc (.cells #[] 24)) (.slice (some ⟨W.heap.size, 0, none⟩) 1 1) 4 1 (cells4 s) ∧ W.heap.size < (X.alloc (.cells #[] 24)).heap.size) := ⟨HN.out.1.below (below1 X (.cells #[] 24)), Nat.lt_of_lt_of_le HN.out.2 ((below1 X (.cells #[] 24))).size⟩
      have HNE : Hid (W.heap.size < X.heap.size) := HN.out.2
      refine hKK.out _ _ (hS.out _ HE0.out) (fun hHeld => ?_)
      clear hKK KK
      (try simp only [Act.put, List.setIfInBounds_toArray, List.set_cons_zero, List.set_cons_succ, List.getElem_toArray, List.getElem_cons_zero, List.getElem_cons_succ])
      generalize (X.alloc (.cells #[] 24)) = Y at *
      refine wpAnyH_ready (rs := [2]) (by kernel_rfl) (by simp) ?_
      refine AllReadyH.cons rfl (fun KK hKK => ?_) AllReadyH.nil
      refine step_app rfl (.tmp 13) (.tmp 14) 22 rfl W.heap.size 24 4 32 (.agg #[.int .i64 0, .int .i64 0, .int .i64 0, .int .i64 0]) Try.underlying22 stake_info rfl (by decide) (.slice (some ⟨X.heap.size, 0, none⟩) 0 0) 0 [] (by simp [Act.eval, Act.put]) HO0.out (.slice a L.length c) L.length (row4 L) (by simp [Act.eval, Act.put]) (HRL.out _ HE0.out) (row4_one L) (by omega) (by decide) HE0.out.size ?_
      intro v5 w5 ho5 hb5 hg5
      have HB5 : Hid (Below W.heap.size W w5) := HE0.out.trans hb5
      have HO5 := Lib.hid ho5
      have HN5 : Hid (SlC w5 (.slice (some ⟨W.heap.size, 0, none⟩) 1 1) 4 1 (cells4 s)) := HN1.out.1.grown hg5 (by intro q hq; have := HNE.out; simp [Value.ownBlock] at hq ⊢; omega)
      clear ho5 hb5 hg5
      refine hKK.out _ _ (hS.out _ HB5.out) (fun hHeld => ?_)
      clear hKK KK
      (try simp only [Act.put, List.setIfInBounds_toArray, List.set_cons_zero, List.set_cons_succ, List.getElem_toArray, List.getElem_cons_zero, List.getElem_cons_succ])
      refine wpAnyH_ready (rs := [5]) (by kernel_rfl) (by simp) ?_
      refine AllReadyH.cons rfl (fun KK hKK => ?_) AllReadyH.nil
      refine step_app rfl (.tmp 15) (.tmp 17) 22 rfl W.heap.size 24 4 32 (.agg #[.int .i64 0, .int .i64 0, .int .i64 0, .int .i64 0]) Try.underlying22 stake_info rfl (by decide) v5 (0 + L.length) ([] ++ row4 L) (by simp [Act.eval, Act.put]) HO5.out (.slice (some ⟨W.heap.size, 0, none⟩) 1 1) 1 (cells4 s) (by simp [Act.eval, Act.put]) HN5.out (cells4_one s) (by omega) (by decide) HB5.out.size ?_
      intro v6 w6 ho6 hb6 hg6
      have HB6 : Hid (Below W.heap.size W w6) := HB5.out.trans hb6
      have HO6 : Hid (OwnS w6 W.heap.size v6 (L ++ [s])) := by
        show World.ownsRow _ _ _ _ _ _ _
        rw [List.length_append, ← row4_app]
        simpa using ho6
      clear ho6 hb6 hg6
      refine hKK.out _ _ (hS.out _ HB6.out) (fun hHeld => ?_)
      clear hKK KK
      (try simp only [Act.put, List.setIfInBounds_toArray, List.set_cons_zero, List.set_cons_succ, List.getElem_toArray, List.getElem_cons_zero, List.getElem_cons_succ])
      refine wpAnyH_take (i := 6) (v := ?_) rfl (by kernel_rfl) (by kernel_rfl) (by kernel_rfl) (fun _ _ _ h => h) (Or.inl ⟨by rfl, ?y6⟩) (by assumption) ?_
      case y6 => intro w hSw; (try dsimp only at hSw); go_simp; (try with_reducible rfl)
      (try simp only [Act.put, List.setIfInBounds_toArray, List.set_cons_zero, List.set_cons_succ, List.getElem_toArray, List.getElem_cons_zero, List.getElem_cons_succ])
      refine wpAnyH_done (by kernel_rfl) ?_ _
      have hR6 : RdQ w6 (v6a v6) (L ++ [s]) := HO6.out.rda HOKS.out
      have hf6 := HO6.out.forma
      generalize v6a v6 = a6 at *
      generalize v6c v6 = c6 at *
      subst hf6
      have hla := r18last a6 c6 (L ++ [s]) L.length n w6 hR6 (by simp; omega) (by simp)
      rw [show (L ++ [s]).take L.length = L by simp, show (L ++ [s]).getD L.length z4 = s by simp [List.getD]] at hla
      rw [show (L ++ [s]).length = L.length + 1 by simp] at hla ⊢
      clear hR6
      go_wp2_with fail
      refine hla.mono ?_; clear hla; rintro e w7 ⟨rfl, hb7⟩
      have HB7 : Hid (Below w.heap.size w w7) := HBW.out.trans ((HB6.out.trans (hb7.mono HB6.out.size)).mono HBW.out.size)
      have HO7 := Lib.hid (HO6.out.below hb7)
      clear hb7
      by_cases h0 : nxe L s n = 0
      · have HV : Hid (adE L s n = 0 ∧ adL L s n = L ++ [s]) := ⟨by unfold adE; rw [if_neg (by omega), h0], by unfold adL; rw [if_neg (by omega), if_pos h0]⟩
        rw [h0]
        clear h0
        go_wp2_with fail
        go_ret2
        rw [HV.out.1, HV.out.2]
        exact ⟨_, rfl, by simpa using HO7.out.lower HBW.out.size, HB7.out⟩
      · have HV : Hid (adE L s n = nxe L s n ∧ adL L s n = []) := ⟨by unfold adE; rw [if_neg (by omega)], by unfold adL; rw [if_neg (by omega), if_neg h0]⟩
        have e0 : (nxe L s n != 0) = true := by simpa using h0
        generalize nxe L s n = x at *
        clear h0
        go_wp2_with fail
        go_ret2
        rw [HV.out.1, HV.out.2]
        exact ⟨_, rfl, OwnS.nil _ _, HB7.out⟩
end Go.Proofs.Ytjanbaecgldjkaa
