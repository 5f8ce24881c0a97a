/-
  A queue's blocks: a block of one cell that holds a channel, the channel's block, and the blocks that its pointers lead to. No Go function is walked here.
-/
import Derived.Test.YtjljjbfeefcnkaaLanG
import Derived.Conc.LoneCalls
namespace Go.Proofs.Ytjljjbfeefcnkaa
open Go.RowKit Go.Conc
set_option linter.unusedSimpArgs false
set_option linter.unusedVariables false

def F2 {α β : Type} (R : α → β → Prop) : List α → List β → Prop
  | [], [] => True
  | a :: l, b :: m => R a b ∧ F2 R l m
  | _, _ => False
def ptl (p : Nat) : Value := .pointer (some ⟨p, 0, none⟩)
section
variable {κ : Type} {enc : κ → Value} {ok : κ → Prop}
def RepQ (enc : κ → Value) (ok : κ → Prop) (w : World) (B : Nat) (m : Int) (L : List κ) (F : Nat → Prop) : Prop :=
  (1 ≤ m ∧ m ≤ 1000 ∧ (L.length : Int) ≤ m ∧ ∀ x ∈ L, ok x) ∧ (∀ j, F j → j < w.heap.size) ∧ F B ∧ ∃ (c s r : Nat) (ps : List Nat), F c ∧ w.cell? ⟨B, 0, none⟩ = some (.chan (some c)) ∧
    w.heap[c]? = some (.chan m.toNat (ps.map ptl).toArray false s r false) ∧ F2 (fun p x => w.cell? ⟨p, 0, none⟩ = some (enc x) ∧ F p) ps L
theorem cell_same {w w' : World} {a : Addr} (h : w'.heap[a.block]? = w.heap[a.block]?) : w'.cell? a = w.cell? a := by unfold World.cell?; rw [h]
theorem f2_mono {α β : Type} {R S : α → β → Prop} : ∀ {l : List α} {m : List β}, F2 R l m → (∀ a b, R a b → S a b) → F2 S l m
  | [], [], _, _ => trivial
  | _ :: _, _ :: _, h, f => ⟨f _ _ h.1, f2_mono h.2 f⟩
theorem f2_len {α β : Type} {R : α → β → Prop} : ∀ {l : List α} {m : List β}, F2 R l m → l.length = m.length
  | [], [], _ => rfl
  | _ :: _, _ :: _, h => by simp [f2_len h.2]
theorem f2_snoc {α β : Type} {R : α → β → Prop} {a : α} {b : β} : ∀ {l : List α} {m : List β}, F2 R l m → R a b → F2 R (l ++ [a]) (m ++ [b])
  | [], [], _, h' => ⟨h', trivial⟩
  | _ :: _, _ :: _, h, h' => ⟨h.1, f2_snoc h.2 h'⟩
theorem RepQ.keep {w w' : World} {B : Nat} {m : Int} {L : List κ} {F : Nat → Prop} (h : RepQ enc ok w B m L F) (hs : w.heap.size ≤ w'.heap.size) (hk : ∀ j, F j → w'.heap[j]? = w.heap[j]?) : RepQ enc ok w' B m L F := by
  obtain ⟨h1, h2, h3, c, s, r, ps, h4, h5, h6, h7⟩ := h
  exact ⟨h1, fun j q => Nat.lt_of_lt_of_le (h2 j q) hs, h3, c, s, r, ps, h4, (cell_same (a := ⟨B, 0, none⟩) (hk B h3)).trans h5, (hk c h4).trans h6, f2_mono h7 fun p x ⟨q, q'⟩ => ⟨(cell_same (a := ⟨p, 0, none⟩) (hk p q')).trans q, q'⟩⟩
theorem lt_of_get {w : World} {c : Nat} {o : Obj} (h : w.heap[c]? = some o) : c < w.heap.size := by
  by_cases q : c < w.heap.size
  · exact q
  · rw [Array.getElem?_eq_none (by omega)] at h; cases h
theorem set_ne {w : World} {c cap s r b : Nat} {buf : Array Value} {cl tm : Bool} (h : b ≠ c) : (w.setChan c cap buf cl s r tm).heap[b]? = w.heap[b]? := by
  simp only [World.setChan]; rw [Array.getElem?_setIfInBounds_ne (by omega)]
theorem alloc_lt {w : World} {o : Obj} {b : Nat} (h : b < w.heap.size) : (w.alloc o).heap[b]? = w.heap[b]? := ((Below.refl w.heap.size w).alloc (Nat.le_refl _) o).block b h
theorem alloc_new (w : World) (o : Obj) : (w.alloc o).heap[w.heap.size]? = some o := by show (w.heap.push o)[w.heap.size]? = some o; simp
theorem alloc_size (w : World) (o : Obj) : (w.alloc o).heap.size = w.heap.size + 1 := by simp
/-- A block that holds a cell is no channel's. -/
theorem cell_ne {w : World} {c cap s r p : Nat} {buf : Array Value} {cl tm : Bool} {v : Value} (h : w.heap[c]? = some (.chan cap buf cl s r tm)) (h' : w.cell? ⟨p, 0, none⟩ = some v) : p ≠ c := by
  rintro rfl
  simp [World.cell?, h] at h'
theorem turn_chan {F : Nat → Prop} {w w1 : World} (h : Turn F w w1) {c cap s r : Nat} {buf : Array Value} {cl tm : Bool} (hc : F c ∨ w.heap.size ≤ c) : Turn F w (w1.setChan c cap buf cl s r tm) :=
  ⟨h.os, h.tape, h.output, by rw [size_setChan]; exact h.size, fun k h1 h2 => (set_ne (fun q => by subst q; exact hc.elim h2 (fun q => by omega))).trans (h.block k h1 h2)⟩
theorem RepQ.below_alloc {w : World} {B : Nat} {m : Int} {L : List κ} {F : Nat → Prop} (h : RepQ enc ok w B m L F) (o : Obj) : RepQ enc ok (w.alloc o) B m L F := h.keep (by rw [alloc_size]; omega) (fun j q => alloc_lt (h.2.1 j q))
theorem RepQ.made (enc : κ → Value) (ok : κ → Prop) (w : World) (n : Nat) (h1 : 1 ≤ n) (h2 : n ≤ 1000) (t : TypeId) : RepQ enc ok ((w.alloc (.chan n #[] false 0 0 false)).alloc (.cells #[.chan (some w.heap.size)] t)) (w.heap.size + 1) (n : Int) [] (fun j => j = w.heap.size ∨ j = w.heap.size + 1) := by
  have hs := alloc_size w (.chan n #[] false 0 0 false)
  refine ⟨⟨by omega, by omega, by simp, by simp⟩, fun j q => ?_, Or.inr rfl, w.heap.size, 0, 0, [], Or.inl rfl, ?_, ?_, trivial⟩
  · rw [alloc_size, hs]; rcases q with q | q <;> omega
  · have := alloc_new (w.alloc (.chan n #[] false 0 0 false)) (.cells #[.chan (some w.heap.size)] t)
    rw [hs] at this
    unfold World.cell?; rw [this]; rfl
  · rw [alloc_lt (by omega), alloc_new]; simp
theorem RepQ.put {w : World} {B c s r : Nat} {m : Int} {L : List κ} {F : Nat → Prop} {ps : List Nat} (x : κ) (t : TypeId) (h1 : 1 ≤ m ∧ m ≤ 1000 ∧ (L.length : Int) ≤ m ∧ ∀ x ∈ L, ok x) (h2 : ∀ j, F j → j < w.heap.size) (h3 : F B) (h4 : F c)
    (h5 : w.cell? ⟨B, 0, none⟩ = some (.chan (some c))) (h6 : w.heap[c]? = some (.chan m.toNat (ps.map ptl).toArray false s r false)) (h7 : F2 (fun p x => w.cell? ⟨p, 0, none⟩ = some (enc x) ∧ F p) ps L) (hx : ok x) (hroom : (L.length : Int) < m) :
    RepQ enc ok ((w.alloc (.cells #[enc x] t)).setChan c m.toNat ((ps.map ptl).toArray.push (ptl w.heap.size)) false (s + 1) r false) B m (L ++ [x]) (fun j => F j ∨ j = w.heap.size) := by
  have hc := h2 c h4
  have hs := alloc_size w (.cells #[enc x] t)
  have hB : B ≠ c := cell_ne h6 h5
  refine ⟨⟨h1.1, h1.2.1, by simp; omega, fun y hy => ?_⟩, fun j q => ?_, Or.inl h3, c, s + 1, r, ps ++ [w.heap.size], Or.inl h4, ?_, ?_, f2_snoc (f2_mono h7 fun p y ⟨q, q'⟩ => ⟨?_, Or.inl q'⟩) ⟨?_, Or.inr rfl⟩⟩
  · rcases List.mem_append.1 hy with q | q
    · exact h1.2.2.2 y q
    · rw [List.mem_singleton.1 q]; exact hx
  · rw [size_setChan, hs]; rcases q with q | q
    · have := h2 j q; omega
    · omega
  · exact (cell_same (a := ⟨B, 0, none⟩) ((set_ne hB).trans (alloc_lt (h2 B h3)))).trans h5
  · rw [heap_setChan _ _ _ _ _ _ _ _ (by omega)]; simp
  · exact (cell_same (a := ⟨p, 0, none⟩) ((set_ne (cell_ne h6 q)).trans (alloc_lt (h2 p q')))).trans q
  · refine (cell_same (w := w.alloc (.cells #[enc x] t)) (a := ⟨w.heap.size, 0, none⟩) (set_ne (show w.heap.size ≠ c by omega))).trans ?_
    unfold World.cell?; rw [alloc_new]; rfl
theorem RepQ.take {w : World} {B c s r p : Nat} {m : Int} {x : κ} {L : List κ} {F : Nat → Prop} {ps : List Nat} (h1 : 1 ≤ m ∧ m ≤ 1000 ∧ ((x :: L).length : Int) ≤ m ∧ ∀ y ∈ x :: L, ok y) (h2 : ∀ j, F j → j < w.heap.size) (h3 : F B) (h4 : F c)
    (h5 : w.cell? ⟨B, 0, none⟩ = some (.chan (some c))) (h6 : w.heap[c]? = some (.chan m.toNat ((p :: ps).map ptl).toArray false s r false)) (h7 : F2 (fun p x => w.cell? ⟨p, 0, none⟩ = some (enc x) ∧ F p) ps L) :
    RepQ enc ok (w.setChan c m.toNat (((p :: ps).map ptl).toArray.extract 1 ((p :: ps).map ptl).toArray.size) false s (r + 1) false) B m L F := by
  have hc := h2 c h4
  have hB : B ≠ c := cell_ne h6 h5
  refine ⟨⟨h1.1, h1.2.1, by have := h1.2.2.1; simp at this; omega, fun y hy => h1.2.2.2 y (List.mem_cons_of_mem _ hy)⟩, fun j q => by rw [size_setChan]; exact h2 j q, h3, c, s, r + 1, ps, h4, ?_, ?_, f2_mono h7 fun p y ⟨q, q'⟩ => ⟨?_, q'⟩⟩
  · exact (cell_same (a := ⟨B, 0, none⟩) (set_ne hB)).trans h5
  · rw [heap_setChan _ _ _ _ _ _ _ _ hc]; simp [List.take_of_length_le]
  · exact (cell_same (a := ⟨p, 0, none⟩) (set_ne (cell_ne h6 q))).trans q
end
end Go.Proofs.Ytjljjbfeefcnkaa
