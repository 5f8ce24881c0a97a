/-
  The landed book's isMade, isFound, Depth, Len, changed, note, settle. The conditions: the book's blocks.
-/
import Derived.Test.YtmhfgkkiplencaaUndB
import Derived.Laws.Cover3
import Derived.Defers
import Derived.Recover
import Derived.WalkSmall
import Derived.BigQuiet
import Derived.Deep.QuietTactic
import Derived.Deep.RegionWith
import Derived.Deep.RegionHeld3
import Derived.Deep.DeepCutAuto
namespace Go.Proofs.Ytmhfgkkiplencaa
open Go.RowKit Go.Maps
set_option linter.unusedSimpArgs false
set_option linter.unusedVariables false

theorem idle_u (p : Addr) (w : World) :
    CallsD Try.prog 37 #[.pointer (some p)] .returning w fun e u' w' => e = .returned (.tuple #[]) ∧ u' = .returning ∧ w' = w := by
  refine callsD_of_wpS Try.func37 rfl fun c₀ cs hu => ?_
  apply wpS_seq
  apply wpS_region
  simp [wpOpsS, go_sem, recoverD, hu, Try.ntmps37, Exit.thenS]
  refine wpS_cond (t := false) (by simp [Act.eval, Array.replicate]) ?_
  simp only [Bool.false_eq_true, if_false]
  refine wpS_of_wp (wp_skip ?_)
  cases c₀
  simp_all [bodyPostS, results, Try.results37]
theorem found_u (k : Int) (w : World) : Calls Try.prog 27 #[.int .i64 k] w fun e w' => e = .returned (.bool true) ∧ Below w.heap.size w w' := by
  have hmf : ∀ (fn : Fn) (first cap : Array Value) (w : World), (Instr.makeFunc fn first cap).run Try.prog w = .ok (.func fn first cap) w := fun _ _ _ _ => rfl
  go_enter_defers Try.func27, Try.ntmps27
  go_wp2
  refine leaves_cons (f := 37) (args := #[.pointer (some ⟨w.heap.size, 0, none⟩)]) (by simp) (by simp [go_sem]) ?_
  refine (idle_u ⟨w.heap.size, 0, none⟩ _).mono ?_
  rintro e u' w'' ⟨rfl, rfl, rfl⟩
  simp [Leaves, settle, results, Try.results27, go_sem]
  exact below1 w _
theorem in_mapv (d : Nat) (o : Option Nat) (w : World) : (Op.equalIn (d + 1) 44 (.map o) (.map none)).run Try.prog w = .ok o.isNone w := by
  cases o <;> simp [Op.equalIn, run_underlying Try.underlying44]
theorem neq_mapv (o : Option Nat) (w : World) : (binOp .neq 44 (.map o) (.map none)).run Try.prog w = .ok (.bool (!o.isNone)) w := by
  simp only [binOp]
  simp [Op.equal, Op.maxDepth, in_mapv 9999]
theorem in_maph (d : Nat) (o : Option Nat) (w : World) : (Op.equalIn (d + 1) 60 (.map o) (.map none)).run Try.prog w = .ok o.isNone w := by
  cases o <;> simp [Op.equalIn, run_underlying Try.underlying60]
theorem eql_maph (o : Option Nat) (w : World) : (binOp .eql 60 (.map o) (.map none)).run Try.prog w = .ok (.bool o.isNone) w := by
  simp only [binOp]
  simp [Op.equal, Op.maxDepth, in_maph 9999]
theorem made_u {w : World} {B mv : Nat} (c0 : w.cell? ⟨B, 0, none⟩ = some (.map (some mv))) : Calls Try.prog 26 #[.pointer (some ⟨B, 0, none⟩)] w fun e w' => e = .returned (.bool true) ∧ w' = w := by
  have he := neq_mapv
  go_enter Try.func26, Try.ntmps26
  go_wp2_with fail
  go_ret
  exact ⟨rfl, rfl⟩
section
variable {w : World} {B mv : Nat} {v : Value} {lv : List (Nat × UH)} {g : Int → Option Int}
theorem depth_u (h : UB w B mv v lv g) : Calls Try.prog 13 #[.pointer (some ⟨B, 0, none⟩)] w fun e w' => e = .returned (.int .i64 (lv.length : Int)) ∧ w' = w := by
  obtain ⟨a, c, rfl⟩ := h.form
  have c2 := h.c2
  have hm := made_u h.c0
  clear h
  go_enter Try.func13, Try.ntmps13
  go_wp2_with fail
  refine hm.mono ?_; rintro e w1 ⟨rfl, rfl⟩
  go_wp2_with fail
  go_ret
  exact ⟨rfl, rfl⟩
theorem len_u {U : List Int} {N : Prs} (h : UB w B mv v lv g) (hg : ∀ k, InR k → (g k).isSome = (ulk N k).isSome) (hN : UG U N) (hl : U.length ≤ 1000000) : Calls Try.prog 12 #[.pointer (some ⟨B, 0, none⟩)] w fun e w' => e = .returned (.int .i64 (N.length : Int)) ∧ Below w.heap.size w w' := by
  have c0 := h.c0
  have c1 := h.c1
  have hm := made_u h.c0
  have hlen : ∀ j ty, (Builtin.len_ #[44] ty #[.map (some mv)]).run Try.prog (w.drewN j) = .ok (.int .i64 (N.length : Int)) (w.drewN j) := fun j ty => (h.vals.keep (w' := w.drewN j) rfl).len kitV hg hN ty
  have hnl : wrap64 (N.length : Int) = (N.length : Int) := by have := hN.len; unfold wrap64; omega
  generalize (N.length : Int) = n at *
  clear h hg hN hl
  go_enter Try.func12, Try.ntmps12
  go_wp2_with fail
  refine hm.mono ?_; rintro e w1 ⟨rfl, rfl⟩
  go_wp2_with (go_quiet (fail))
  go_ret
  refine ⟨?_, ⟨rfl, rfl, rfl, Nat.le_refl _, fun _ _ => rfl⟩⟩
  simp [hnl]
theorem changed_no (h : UB w B mv v [] g) : Calls Try.prog 38 #[.pointer (some ⟨B, 0, none⟩)] w fun e w' => e = .returned (.map none) ∧ Below w.heap.size w w' := by
  obtain ⟨a, c, rfl⟩ := h.form
  have c2 := h.c2
  clear h
  go_enter Try.func38, Try.ntmps38
  go_wp2_with fail
  go_ret
  exact ⟨rfl, Below.refl _ _⟩
theorem changed_u {m : Nat} {f : UH} (h : UB w B mv v ((m, f) :: lv) g) (hl : lv.length ≤ 64) : Calls Try.prog 38 #[.pointer (some ⟨B, 0, none⟩)] w fun e w' => e = .returned (.map (some m)) ∧ Below w.heap.size w w' := by
  obtain ⟨r, cap, rfl⟩ := h.slice (by simp)
  have c2 := h.c2
  have x0 := (UB.last (lv := lv) h).1
  simp only [List.length_cons] at c2
  have i1 : wrap64 (((lv.length + 1 : Nat) : Int) - 1) = (lv.length : Int) := by unfold wrap64; omega
  clear h
  generalize hn : lv.length = n at *
  clear hn
  have e0 : (((n + 1 : Nat) : Int) == 0) = false := by simp; omega
  have i2 : n < n + 1 := by omega
  go_enter Try.func38, Try.ntmps38
  go_wp2_with (go_quiet (fail))
  go_ret
  exact ⟨rfl, ⟨rfl, rfl, rfl, Nat.le_refl _, fun _ _ => rfl⟩⟩
/-- What a call leaves that notes: the book with the beginnings lv', the rest as it was. -/
def NoteP (w : World) (B mv : Nat) (v : Value) (lv lv' : List (Nat × UH)) (g : Int → Option Int) (e : Ending) (w' : World) : Prop := e = .returned (.tuple #[]) ∧ UB w' B mv v lv' g ∧ Turn (UF B mv v lv) w w'
theorem unote_same {f : UH} {k : Int} {n : Option Int} (h : (f k).isSome = true) : unote f k n = f := by
  obtain ⟨x, hx⟩ := Option.isSome_iff_exists.1 h
  funext j
  unfold unote
  by_cases e : j = k
  · subst e; rw [if_pos rfl, hx]; rfl
  · rw [if_neg e]
theorem usettle_same {f : UH} {k : Int} {n : Option Int} (h : ¬ (n = none ∧ (f k).getD none = none)) : usettle f k n = f := by
  funext j
  unfold usettle
  rw [if_neg fun q => h q.2]
end
def FreshE (w : World) (x : Value) (y : Value) : World := w.alloc (.cells #[x, y] 75)
theorem note_end {w w' w1 : World} {B mv : Nat} {v : Value} {lv : List (Nat × UH)} {g : Int → Option Int} (h : UB w B mv v lv g) (hb : Below w.heap.size w w1) (hb2 : Below w1.heap.size w1 w') : NoteP w B mv v lv lv g (.returned (.tuple #[])) w' :=
  have hb' := hb.trans (hb2.mono hb.size)
  ⟨rfl, h.below hb', Turn.of_below hb'⟩
set_option maxHeartbeats 1000000 in
theorem note_u {w : World} {B mv : Nat} {v : Value} {lv : List (Nat × UH)} {g : Int → Option Int} {U : List Int} (h : UB w B mv v lv g) (k : Int) (hk : InR k) (hU : ∀ p ∈ lv.head?, ∀ j, InR j → (p.2 j).isSome = true → j ∈ U) (hl : U.length ≤ 1000000) (h64 : lv.length ≤ 64) :
    Calls Try.prog 31 #[.pointer (some ⟨B, 0, none⟩), .int .i64 k] w (NoteP w B mv v lv (untop (fun f => unote f k (g k)) lv) g) := by
  have he := eql_maph
  cases lv with
  | nil =>
    have hc := changed_no h
    have hn := fun w : World => (kitH.look_nil (w := w) true hk)
    have H := Lib.hid h
    simp only [encH] at hn
    clear h hU
    go_enter Try.func31, Try.ntmps31
    go_wp2_with fail
    refine hc.mono ?_; rintro e w1 ⟨rfl, hb⟩
    go_wp2_with fail
    exact bodyPost_ret (v := .tuple #[]) (by simp [results, Try.results31, go_sem]) rfl (note_end H.out hb (below1 _ _))
  | cons p lv =>
    obtain ⟨m, f⟩ := p
    have hc := changed_u h (by simp at h64; omega)
    have hfm : MpH w m f := h.maps _ List.mem_cons_self
    by_cases hf : (f k).isSome = true
    · have HL : Hid (∀ w1, Below w.heap.size w w1 → (Instr.lookup 60 (.map (some m)) (.int .i64 k) true).run Try.prog w1 = .ok (.tuple #[.agg #[.int .i64 (((f k).getD none).getD 0), .bool ((f k).getD none).isSome], .bool true]) w1) := fun w1 hb => by
        have := ((hfm.keep (hb.block _ hfm.lt)).look kitH hk).1
        rw [hf] at this; exact this
      have e : untop (fun f => unote f k (g k)) ((m, f) :: lv) = (m, f) :: lv := by show (m, unote f k (g k)) :: lv = _; rw [unote_same hf]
      rw [e]
      have H := Lib.hid h
      clear h hU hfm e
      go_enter Try.func31, Try.ntmps31
      go_wp2_with fail
      refine hc.mono ?_; rintro e w1 ⟨rfl, hb⟩
      have hlk := HL.out w1 hb
      go_wp2_with fail
      exact bodyPost_ret (v := .tuple #[]) (by simp [results, Try.results31, go_sem]) rfl (note_end H.out hb (below1 _ _))
    · have hf' : (f k).isSome = false := by simpa using hf
      have HL : Hid (∀ w1, Below w.heap.size w w1 → (Instr.lookup 60 (.map (some m)) (.int .i64 k) true).run Try.prog w1 = .ok (.tuple #[.agg #[.int .i64 0, .bool false], .bool false]) w1) := fun w1 hb => by
        have := ((hfm.keep (hb.block _ hfm.lt)).look kitH hk).1
        rw [hf'] at this
        rw [show f k = none by cases hq : f k with | none => rfl | some x => rw [hq] at hf'; cases hf'] at this
        exact this
      have HV : Hid (∀ w1, Below w.heap.size w w1 → (Instr.lookup 44 (.map (some mv)) (.int .i64 k) true).run Try.prog w1 = .ok (.tuple #[.int .i64 ((g k).getD 0), .bool (g k).isSome]) w1) := fun w1 hb => ((h.vals.keep (hb.block _ h.vals.lt)).look kitV hk).1
      have hok : OkH (g k) := fun z hz => by have := (h.vals.look kitV hk).2; rw [hz] at this; exact this
      have HS : Hid (∀ w1, Below w.heap.size w w1 → ∃ w2, (Instr.mapUpdate 60 (.map (some m)) (.int .i64 k) (.agg #[.int .i64 ((g k).getD 0), .bool (g k).isSome])).run Try.prog w1 = .ok () w2 ∧ NoteP w B mv v ((m, f) :: lv) (untop (fun f => unote f k (g k)) ((m, f) :: lv)) g (.returned (.tuple #[])) w2) := fun w1 hb => by
        obtain ⟨w2, h1, h2, h3⟩ := (hfm.keep (hb.block _ hfm.lt)).store kitH (hU (m, f) rfl) hl hk hok
        have t2 := (turn_grown h3).mono (G := fun j => j = m) fun j q => (Option.some.inj q).symm
        refine ⟨w2, h1, rfl, (h.below hb).top t2 (h2.same fun j hj => ?_), (Turn.of_below hb).trans (t2.mono (G := UF B mv v ((m, f) :: lv)) fun j q => Or.inr (Or.inr (Or.inr (by simp [q])))) fun j q => Or.inl q⟩
        show _ = (if j = k then some ((f k).getD (g k)) else f j)
        rw [show f k = none by cases hq : f k with | none => rfl | some x => rw [hq] at hf'; cases hf']
        rfl
      have c0 := fun w1 hb => (h.below (w' := w1) hb).c0
      have HC := Lib.hid c0
      clear h hU hfm hok hf hf' c0
      go_enter Try.func31, Try.ntmps31
      go_wp2_with fail
      refine hc.mono ?_; rintro e w1 ⟨rfl, hb⟩
      have hlk := HL.out w1 hb
      have hb1 : Below w.heap.size w (w1.alloc (.cells #[.int .i64 0, .bool false] 75)) := hb.trans ((below1 _ _).mono hb.size)
      have c0 := HC.out _ hb1
      have hlv := HV.out _ hb1
      obtain ⟨w2, hst, hP⟩ := HS.out _ hb1
      have HP := Lib.hid hP
      clear HL HV HS HC hc hP
      generalize (g k).getD 0 = a at *
      generalize (g k).isSome = b at *
      go_wp2_with fail
      go_end0
      exact HP.out
end Go.Proofs.Ytmhfgkkiplencaa
