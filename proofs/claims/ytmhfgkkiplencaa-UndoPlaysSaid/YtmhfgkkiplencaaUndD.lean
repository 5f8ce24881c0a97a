/-
  The landed book's settle, New, Get, Set, Drop. The conditions: the book's blocks.
-/
import Derived.Test.YtmhfgkkiplencaaUndC
namespace Go.Proofs.Ytmhfgkkiplencaa
open Go.RowKit Go.Maps
set_option linter.unusedSimpArgs false
set_option linter.unusedVariables false

section
variable {w : World} {B mv : Nat} {v : Value} {lv : List (Nat × UH)} {g : Int → Option Int}
theorem changed_a (h : UB w B mv v lv g) (h64 : lv.length ≤ 64) : Calls Try.prog 38 #[.pointer (some ⟨B, 0, none⟩)] w fun e w' => e = .returned (.map (lv.head?.map Prod.fst)) ∧ Below w.heap.size w w' := by
  cases lv with
  | nil => exact changed_no h
  | cons p lv => obtain ⟨m, f⟩ := p; exact changed_u h (by simp at h64; omega)
theorem field_is (a : Int) (b : Bool) (w : World) : (Instr.field 75 (.agg #[.int .i64 a, .bool b]) 1).run Try.prog w = .ok (.bool b) w := by kernel_rfl
set_option maxHeartbeats 1000000 in
theorem settle_u (h : UB w B mv v lv g) (k : Int) (hk : InR k) (h64 : lv.length ≤ 64) :
    Calls Try.prog 32 #[.pointer (some ⟨B, 0, none⟩), .int .i64 k] w (NoteP w B mv v lv (untop (fun f => usettle f k (g k)) lv) g) := by
  have c0 := h.c0
  have hlv := (h.vals.look kitV hk).1
  have hc := changed_a h h64
  have hfd := field_is
  by_cases hg : (g k).isSome = true
  · have e : untop (fun f => usettle f k (g k)) lv = lv := by
      cases lv with
      | nil => rfl
      | cons p lv => show (p.1, usettle p.2 k (g k)) :: lv = _; rw [usettle_same (fun q => by rw [q.1] at hg; cases hg)]
    rw [e]
    rw [hg] at hlv
    have H := Lib.hid h
    generalize Option.map Prod.fst lv.head? = o at *
    generalize (g k).getD 0 = a at *
    clear h e hg
    go_enter Try.func32, Try.ntmps32
    go_wp2_with fail
    refine hc.mono ?_; rintro e w1 ⟨rfl, hb⟩
    go_wp2_with fail
    go_end0
    exact note_end H.out hb (Below.refl _ _)
  · have hg' : g k = none := by cases hq : g k with | none => rfl | some x => rw [hq] at hg; exact absurd rfl hg
    rw [hg'] at hlv ⊢
    simp only [Option.getD_none, Option.isSome_none] at hlv
    have H := Lib.hid h
    cases lv with
    | nil =>
      replace hc := changed_no h
      have hn := fun w : World => (kitH.look_nil (w := w) false hk)
      have hd := fun (w : World) ty => (kitH.drop_nil (w := w) hk ty)
      simp only [encH, Bool.false_eq_true, if_false, Option.getD_none, Option.isSome_none] at hn
      clear h hg hg'
      go_enter Try.func32, Try.ntmps32
      go_wp2_with fail
      refine hc.mono ?_; rintro e w1 ⟨rfl, hb⟩
      go_wp2_with fail
      go_end0
      exact note_end H.out hb (Below.refl _ _)
    | cons p lv =>
      obtain ⟨m, f⟩ := p
      replace hc := changed_u h (by simp at h64; omega)
      have hfm : MpH w m f := h.maps _ List.mem_cons_self
      have HL : Hid (∀ w1, Below w.heap.size w w1 → (Instr.lookup 60 (.map (some m)) (.int .i64 k) false).run Try.prog w1 = .ok (.agg #[.int .i64 (((f k).getD none).getD 0), .bool ((f k).getD none).isSome]) w1) := fun w1 hb => (hfm.keep (hb.block _ hfm.lt)).look1 kitH hk
      by_cases hf : ((f k).getD none).isSome = true
      · rw [show untop (fun f => usettle f k none) ((m, f) :: lv) = (m, f) :: lv by show (m, usettle f k none) :: lv = _; rw [usettle_same (fun q => by rw [q.2] at hf; cases hf)]]
        rw [hf] at HL
        generalize ((f k).getD none).getD 0 = a at *
        clear h hg hg' hfm hf
        go_enter Try.func32, Try.ntmps32
        go_wp2_with fail
        refine hc.mono ?_; rintro e w1 ⟨rfl, hb⟩
        have hlk := HL.out w1 hb
        go_wp2_with fail
        go_end0
        exact note_end H.out hb (Below.refl _ _)
      · have hf' : (f k).getD none = none := by cases hq : (f k).getD none with | none => rfl | some x => rw [hq] at hf; exact absurd rfl hf
        rw [hf'] at HL
        simp only [Option.getD_none, Option.isSome_none] at HL
        have HS : Hid (∀ w1, Below w.heap.size w w1 → ∃ w2, (∀ ty, (Builtin.delete_ #[60, 3] ty #[.map (some m), .int .i64 k]).run Try.prog w1 = .ok (.tuple #[]) w2) ∧ NoteP w B mv v ((m, f) :: lv) (untop (fun f => usettle f k none) ((m, f) :: lv)) g (.returned (.tuple #[])) w2) := fun w1 hb => by
          obtain ⟨w2, h1, h2, h3⟩ := (hfm.keep (hb.block _ hfm.lt)).drop kitH hk
          have t2 := (turn_grown h3).mono (G := fun j => j = m) fun j q => (Option.some.inj q).symm
          refine ⟨w2, h1, rfl, (h.below hb).top t2 (h2.same fun j hj => ?_), (Turn.of_below hb).trans (t2.mono (G := UF B mv v ((m, f) :: lv)) fun j q => Or.inr (Or.inr (Or.inr (by simp [q])))) fun j q => Or.inl q⟩
          show _ = if j = k ∧ none = none ∧ (f k).getD none = none then none else f j
          rw [hf']; simp
        clear h hg hg' hfm hf hf'
        go_enter Try.func32, Try.ntmps32
        go_wp2_with fail
        refine hc.mono ?_; rintro e w1 ⟨rfl, hb⟩
        have hlk := HL.out w1 hb
        obtain ⟨w2, hst, hP⟩ := HS.out _ hb
        have HP := Lib.hid hP
        clear HL HS hc hP
        go_wp2_with fail
        go_end0
        exact HP.out
end
/-- In w, at block B, lies a book with the state s, in the blocks of F; keys are out of U. -/
def URep (w : World) (B : Nat) (U : List Int) (s : USt) (F : Nat → Prop) : Prop := ∃ mv v lv, UB w B mv v lv (ulk s.1) ∧ ULv U s.1 lv s.2 ∧ UOk U s ∧ U.length ≤ 1000000 ∧ F = UF B mv v lv
theorem URep.foot {w : World} {B : Nat} {U : List Int} {s : USt} {F : Nat → Prop} (h : URep w B U s F) : ∀ j, F j → j < w.heap.size := by
  obtain ⟨mv, v, lv, h1, _, _, _, rfl⟩ := h; exact h1.foot
theorem URep.keep {w w' : World} {B : Nat} {U : List Int} {s : USt} {F : Nat → Prop} (h : URep w B U s F) (hk : ∀ j, F j → w'.heap[j]? = w.heap[j]?) : URep w' B U s F := by
  obtain ⟨mv, v, lv, h1, h2, h3, h4, rfl⟩ := h; exact ⟨mv, v, lv, h1.keep hk, h2, h3, h4, rfl⟩
theorem URep.below {w w' : World} {B : Nat} {U : List Int} {s : USt} {F : Nat → Prop} (h : URep w B U s F) (hb : Below w.heap.size w w') : URep w' B U s F := h.keep fun j q => hb.block j (h.foot j q)
theorem UF_top (B mv : Nat) (v : Value) (lv : List (Nat × UH)) (q : UH → UH) : UF B mv v (untop q lv) = UF B mv v lv := by cases lv <;> rfl
theorem new_u (U : List Int) (hU : U.length ≤ 1000000) (w : World) : Calls Try.prog 6 #[] w fun e w' => ∃ B F, e = .returned (.pointer (some ⟨B, 0, none⟩)) ∧ URep w' B U ([], []) F ∧ Below w.heap.size w w' ∧ ∀ j, F j → w.heap.size ≤ j := by
  have hmm := @run_makeMap Try.prog
  have hM := UB.made w 47
  have HM := Lib.hid hM
  clear hM
  go_enter Try.func6, Try.ntmps6
  go_wp2_with fail
  go_ret
  refine ⟨w.heap.size + 1, _, rfl, ⟨_, _, _, HM.out, trivial, UOk.nil U, hU, rfl⟩, below2 w _ _, ?_⟩
  rintro j (q | q | q | q)
  · omega
  · omega
  · simp [Value.ownBlock] at q
  · simp at q
section
variable {w : World} {B : Nat} {U : List Int} {s : USt} {F : Nat → Prop}
theorem get_u (h : URep w B U s F) (k : Int) (hk : InR k) : Calls Try.prog 10 #[.pointer (some ⟨B, 0, none⟩), .int .i64 k] w fun e w' => e = .returned (.tuple #[.int .i64 ((ulk s.1 k).getD 0), .bool (ulk s.1 k).isSome]) ∧ Below w.heap.size w w' := by
  obtain ⟨mv, v, lv, h1, _, _, _, _⟩ := h
  have hm := made_u h1.c0
  have hfo := found_u k w
  have HC : Hid (∀ w1, Below w.heap.size w w1 → w1.cell? ⟨B, 0, none⟩ = some (.map (some mv)) ∧ (Instr.lookup 44 (.map (some mv)) (.int .i64 k) true).run Try.prog w1 = .ok (.tuple #[.int .i64 ((ulk s.1 k).getD 0), .bool (ulk s.1 k).isSome]) w1) := fun w1 hb => ⟨(h1.below hb).c0, ((h1.below hb).vals.look kitV hk).1⟩
  clear h1
  generalize (ulk s.1 k).getD 0 = a at *
  generalize (ulk s.1 k).isSome = b at *
  go_enter Try.func10, Try.ntmps10
  go_wp2_with fail
  refine hm.mono ?_; rintro e w1 ⟨rfl, rfl⟩
  go_wp2_with fail
  refine hfo.mono ?_; rintro e w2 ⟨rfl, hb⟩
  obtain ⟨c0, hl⟩ := HC.out w2 hb
  go_wp2_with fail
  go_ret2
  exact ⟨rfl, hb⟩
/-- What a call leaves: the book with the state s'. -/
def UPost (w : World) (B : Nat) (U : List Int) (s' : USt) (F : Nat → Prop) (w' : World) : Prop := ∃ F', URep w' B U s' F' ∧ Turn F w w' ∧ ∀ j, F' j → F j ∨ w.heap.size ≤ j
theorem set_u (h : URep w B U s F) (k x : Int) (hkU : k ∈ U) (hk : InR k) (hx : InR x) : Calls Try.prog 18 #[.pointer (some ⟨B, 0, none⟩), .int .i64 k, .int .i64 x] w fun e w' => e = .returned (.int .i64 0) ∧ UPost w B U (uset s k x) F w' := by
  obtain ⟨mv, v, lv, h1, h2, h3, h4, rfl⟩ := h
  have hm := made_u h1.c0
  have hfo := found_u k w
  have h64 : lv.length ≤ 64 := by rw [h2.len]; exact h3.2.2
  have hhd : ∀ p ∈ lv.head?, ∀ j, InR j → (p.2 j).isSome = true → j ∈ U := by
    intro p hp
    obtain ⟨N, T⟩ := s
    match lv, T, h2, hp with
    | (m, f) :: lv, t :: T, h2, hp => simp at hp; subst hp; exact h2.2.1
  have HN : Hid (∀ w1, Below w.heap.size w w1 → Calls Try.prog 31 #[.pointer (some ⟨B, 0, none⟩), .int .i64 k] w1 (NoteP w1 B mv v lv (untop (fun f => unote f k (ulk s.1 k)) lv) (ulk s.1))) := fun w1 hb => note_u (h1.below hb) k hk hhd h4 h64
  have HS : Hid (∀ w1 w2 e, Below w.heap.size w w1 → NoteP w1 B mv v lv (untop (fun f => unote f k (ulk s.1 k)) lv) (ulk s.1) e w2 → e = .returned (.tuple #[]) ∧ w2.cell? ⟨B, 0, none⟩ = some (.map (some mv)) ∧ ∃ w3, (Instr.mapUpdate 44 (.map (some mv)) (.int .i64 k) (.int .i64 x)).run Try.prog w2 = .ok () w3 ∧ UPost w B U (uset s k x) (UF B mv v lv) w3) := by
    rintro w1 w2 e hb ⟨rfl, hn, tn⟩
    have hU : ∀ j, InR j → (ulk s.1 j).isSome = true → j ∈ U := fun j hj hs => by
      obtain ⟨p, hp, rfl⟩ := List.mem_map.1 (ulk_some.1 hs)
      exact (h3.1.2 p hp).1
    obtain ⟨w3, r1, r2, r3⟩ := hn.vals.store kitV hU h4 hk hx
    have t3 := (turn_grown r3).mono (G := fun j => j = mv) fun j q => (Option.some.inj q).symm
    have e3 : ∀ j, ulk (uset s k x).1 j = if j = k then some x else ulk s.1 j := fun j => ulk_put s.1 k x j
    refine ⟨rfl, hn.c0, w3, r1, UF B mv v lv, ⟨mv, v, _, (hn.val t3 r2).same fun j hj => (e3 j).symm, (h2.note hkU).turn (k := k) (unote_top _ _ _) (fun j hj => by rw [e3 j, if_neg hj]), h3.set hkU hk hx, h4, (UF_top _ _ _ _ _).symm⟩, ?_, fun j q => Or.inl q⟩
    exact ((Turn.of_below hb).trans tn fun j q => Or.inl q).trans (t3.mono (G := UF B mv v lv) fun j q => Or.inr (Or.inl q)) fun j q => Or.inl q
  clear h1 h2 h3 h4 h64 hhd
  go_enter Try.func18, Try.ntmps18
  go_wp2_with fail
  refine hm.mono ?_; rintro e w1 ⟨rfl, rfl⟩
  go_wp2_with fail
  refine hfo.mono ?_; rintro e w2 ⟨rfl, hb⟩
  have hn := HN.out w2 hb
  go_wp2_with fail
  refine hn.mono ?_; intro e w3 hP
  obtain ⟨rfl, c0, w4, hst, hpo⟩ := HS.out _ _ _ hb hP
  have HP := Lib.hid hpo
  clear HN HS hn hP hpo
  go_wp2_with fail
  go_ret
  exact ⟨rfl, HP.out⟩
theorem drop_u (h : URep w B U s F) (k : Int) (hkU : k ∈ U) (hk : InR k) : Calls Try.prog 19 #[.pointer (some ⟨B, 0, none⟩), .int .i64 k] w fun e w' => e = .returned (.int .i64 (udropE s k)) ∧ UPost w B U (udrop s k) F w' := by
  have hgt := get_u h k hk
  have H0 := Lib.hid h
  obtain ⟨mv, v, lv, h1, h2, h3, h4, rfl⟩ := h
  have hm := made_u h1.c0
  unfold udropE udrop
  by_cases hs : (ulk s.1 k).isSome = true
  · rw [if_pos hs, if_pos hs]
    rw [hs] at hgt
    have h64 : lv.length ≤ 64 := by rw [h2.len]; exact h3.2.2
    have hhd : ∀ p ∈ lv.head?, ∀ j, InR j → (p.2 j).isSome = true → j ∈ U := by
      intro p hp
      obtain ⟨N, T⟩ := s
      match lv, T, h2, hp with
      | (m, f) :: lv, t :: T, h2, hp => simp at hp; subst hp; exact h2.2.1
    have HN : Hid (∀ w1, Below w.heap.size w w1 → Calls Try.prog 31 #[.pointer (some ⟨B, 0, none⟩), .int .i64 k] w1 (NoteP w1 B mv v lv (untop (fun f => unote f k (ulk s.1 k)) lv) (ulk s.1))) := fun w1 hb => note_u (h1.below hb) k hk hhd h4 h64
    have HS : Hid (∀ w1 w2 e, Below w.heap.size w w1 → NoteP w1 B mv v lv (untop (fun f => unote f k (ulk s.1 k)) lv) (ulk s.1) e w2 → e = .returned (.tuple #[]) ∧ w2.cell? ⟨B, 0, none⟩ = some (.map (some mv)) ∧ ∃ w3, (∀ ty, (Builtin.delete_ #[44, 3] ty #[.map (some mv), .int .i64 k]).run Try.prog w2 = .ok (.tuple #[]) w3) ∧
        Calls Try.prog 32 #[.pointer (some ⟨B, 0, none⟩), .int .i64 k] w3 fun e w' => e = .returned (.tuple #[]) ∧ UPost w B U (uwo s.1 k, s.2) (UF B mv v lv) w') := by
      rintro w1 w2 e hb ⟨rfl, hn, tn⟩
      obtain ⟨w3, r1, r2, r3⟩ := hn.vals.drop kitV hk
      have t3 := (turn_grown r3).mono (G := fun j => j = mv) fun j q => (Option.some.inj q).symm
      have e3 : ∀ j, ulk (uwo s.1 k) j = if j = k then none else ulk s.1 j := fun j => ulk_wo s.1 k j
      have hb3 := (hn.val t3 r2).same fun j hj => (e3 j).symm
      refine ⟨rfl, hn.c0, w3, r1, (settle_u hb3 k hk (by cases lv <;> exact h64)).mono ?_⟩
      rintro e w4 ⟨rfl, h5, t5⟩
      have hlv := ((h2.note hkU).turn (N' := uwo s.1 k) (k := k) (unote_top _ _ _) (fun j hj => by rw [e3 j, if_neg hj])).settle k
      refine ⟨rfl, UF B mv v lv, ⟨mv, v, _, h5, hlv, ⟨h3.1.wo k, h3.2⟩, h4, by rw [UF_top, UF_top]⟩, ?_, fun j q => Or.inl q⟩
      rw [UF_top] at t5
      exact (((Turn.of_below hb).trans tn fun j q => Or.inl q).trans (t3.mono (G := UF B mv v lv) fun j q => Or.inr (Or.inl q)) fun j q => Or.inl q).trans t5 fun j q => Or.inl q
    clear h1 h2 h3 h4 h64 hhd H0 hs
    generalize (ulk s.1 k).getD 0 = a at hgt
    go_enter Try.func19, Try.ntmps19
    go_wp2_with fail
    refine hm.mono ?_; rintro e w1 ⟨rfl, rfl⟩
    go_wp2_with fail
    refine hgt.mono ?_; rintro e w2 ⟨rfl, hb⟩
    have hn := HN.out w2 hb
    go_wp2_with fail
    refine hn.mono ?_; intro e w3 hP
    obtain ⟨rfl, c0, w4, hst, hse⟩ := HS.out _ _ _ hb hP
    clear HN HS hn hP
    go_wp2_with fail
    refine hse.mono ?_; rintro e w5 ⟨rfl, hpo⟩
    have HP := Lib.hid hpo
    clear hpo hse hst
    go_wp2_with fail
    go_ret
    exact ⟨rfl, HP.out⟩
  · rw [if_neg hs, if_neg hs]
    have hs' : (ulk s.1 k).isSome = false := by simpa using hs
    rw [hs'] at hgt
    clear h1 h2 h3 h4 hs hs'
    generalize (ulk s.1 k).getD 0 = a at hgt
    go_enter Try.func19, Try.ntmps19
    go_wp2_with fail
    refine hm.mono ?_; rintro e w1 ⟨rfl, rfl⟩
    go_wp2_with fail
    refine hgt.mono ?_; rintro e w2 ⟨rfl, hb⟩
    go_wp2_with fail
    go_ret
    exact ⟨rfl, _, H0.out.below hb, Turn.of_below hb, fun j q => Or.inl q⟩
end
end Go.Proofs.Ytmhfgkkiplencaa
