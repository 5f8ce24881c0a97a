/-
  The landed set's Join and Keep, on the sets of the numbers S and T. The conditions: the sets' blocks, which are apart.
-/
import Derived.Test.YtiolicadnomagaaDoorSetJoin
import Derived.Test.YtiolicadnomagaaDoorSetKeep
namespace Go.Proofs.YtiolicadnomagaaDoor
open Go.RowKit
set_option linter.unusedSimpArgs false
set_option linter.unusedVariables false

theorem join_s {w : World} {B C : Nat} {S T : List Int} {F F' : Nat → Prop} (h : SetR w B S F) (h' : SetR w C T F') (hd : ∀ j, F j → ¬ F' j) :
    Calls Tryd.prog 16 #[.pointer (some ⟨B, 0, none⟩), .pointer (some ⟨C, 0, none⟩)] w fun e w' =>
      e = .returned (.int .i64 (((rise (S ++ T)).length : Int) - (S.length : Int))) ∧ SetR w' B (rise (S ++ T)) F ∧ SetR w' C T F' ∧ Turn F w w' := by
  obtain ⟨G, ws, h, rfl, rfl⟩ := h
  obtain ⟨H, vs, h', rfl, rfl⟩ := h'
  have hl := h.len
  have hl' := h'.len
  have hr := remake_Join (N := 1024) rfl h h' (fun q => hd G (Or.inr rfl) (Or.inr q)) (fun q => hd G (Or.inr rfl) (Or.inl q.symm))
  obtain ⟨e1, e2⟩ := nums_or hl hl'
  rw [e2] at hr
  rw [← e1] at hr ⊢
  generalize upd (· ||| ·) ws vs 1024 = us at *
  clear h h' hd e1 e2
  go_enter Tryd.func16, Tryd.ntmps16
  go_wp2_with fail
  refine hr.mono ?_; rintro e w1 ⟨rfl, h1, h2, h3⟩
  go_wp2_with fail
  go_ret
  exact ⟨rfl, ⟨G, us, h1, rfl, rfl⟩, ⟨H, vs, h2, rfl, rfl⟩, h3.mono (fun j q => Or.inr q)⟩

theorem keep_s {w : World} {B C : Nat} {S T : List Int} {F F' : Nat → Prop} (h : SetR w B S F) (h' : SetR w C T F') (hd : ∀ j, F j → ¬ F' j) :
    Calls Tryd.prog 17 #[.pointer (some ⟨B, 0, none⟩), .pointer (some ⟨C, 0, none⟩)] w fun e w' =>
      e = .returned (.int .i64 ((S.length : Int) - ((both S T).length : Int))) ∧ SetR w' B (both S T) F ∧ SetR w' C T F' ∧ Turn F w w' := by
  obtain ⟨G, ws, h, rfl, rfl⟩ := h
  obtain ⟨H, vs, h', rfl, rfl⟩ := h'
  have hl := h.len
  have hl' := h'.len
  have hr := remake_Keep (N := 1024) rfl h h' (fun q => hd G (Or.inr rfl) (Or.inr q)) (fun q => hd G (Or.inr rfl) (Or.inl q.symm))
  obtain ⟨e1, e2⟩ := nums_and hl hl'
  rw [e2] at hr
  rw [← e1] at hr ⊢
  generalize upd (· &&& ·) ws vs 1024 = us at *
  clear h h' hd e1 e2
  go_enter Tryd.func17, Tryd.ntmps17
  go_wp2_with fail
  refine hr.mono ?_; rintro e w1 ⟨rfl, h1, h2, h3⟩
  go_wp2_with fail
  go_ret
  exact ⟨rfl, ⟨G, us, h1, rfl, rfl⟩, ⟨H, vs, h2, rfl, rfl⟩, h3.mono (fun j q => Or.inr q)⟩
end Go.Proofs.YtiolicadnomagaaDoor
