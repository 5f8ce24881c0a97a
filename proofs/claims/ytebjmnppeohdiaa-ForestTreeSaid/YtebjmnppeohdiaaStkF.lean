/-
  The landed holding: a map from entities to rows of stakes, each row in a block of its own: what it holds, what a look-up gives, what a stake more leaves. No Go function is walked here. No conditions.
-/
import Derived.Test.YtebjmnppeohdiaaStkA
import Derived.Test.YtebjmnppeohdiaaUndW
namespace Go.Proofs.Ytebjmnppeohdiaa
open Go.RowKit Go.Maps
set_option linter.unusedSimpArgs false
set_option linter.unusedVariables false

/-- A row's slice as the element of a map: its block, how many, how much room. -/
abbrev SV := Option (Nat × Nat × Nat)
def encS : SV → Value
  | none => .slice none 0 0
  | some (b, n, c) => .slice (some ⟨b, 0, none⟩) n c
def datS : SV → DataW Unit
  | none => .nil
  | some (b, n, c) => .agg [.lit (.int .i64 (b : Int)), .lit (.int .i64 (n : Int)), .lit (.int .i64 (c : Int))]
def rowE (v : Value) : Option (DataW Unit × List MemPlace) :=
  match v with
  | .slice none 0 0 => some (datS none, [])
  | .slice (some ⟨b, 0, none⟩) n c => some (datS (some (b, n, c)), [])
  | _ => none
theorem rowE_inv {v : Value} {y : DataW Unit × List MemPlace} (h : rowE v = some y) : ∃ b : SV, v = encS b ∧ y.1 = datS b := by
  unfold rowE at h
  split at h
  · cases h; exact ⟨none, rfl, rfl⟩
  · rename_i b n c
    cases h; exact ⟨some (b, n, c), rfl, rfl⟩
  · cases h
theorem kitS : VKit Try.prog 3 22 77 encS (fun _ => True) rowE datS none where
  int := Try.underlying3
  map := Try.underlying77
  zero w := by kernel_rfl
  okz := trivial
  reads b _ := by
    rcases b with _ | ⟨b, n, c⟩
    · rfl
    · cases n <;> rfl
  inv v y h := by
    obtain ⟨b, h1, h2⟩ := rowE_inv h
    exact ⟨b, trivial, h1, h2⟩
  inj a b h := by
    rcases a with _ | ⟨a, n, c⟩ <;> rcases b with _ | ⟨b, m, d⟩
    · rfl
    · simp [datS] at h
    · simp [datS] at h
    · simp [datS] at h
      obtain ⟨h1, h2, h3⟩ := h
      rw [show a = b by omega, show n = m by omega, show c = d by omega]
abbrev MpS (w : World) (b : Nat) (f : Int → Option SV) : Prop := MpF Try.prog 3 rowE datS none w b f
/-- The block of a row. -/
def blkS (v : SV) : Option Nat := v.map fun p => p.1
theorem blk_enc (v : SV) : (encS v).ownBlock = blkS v := by rcases v with _ | ⟨b, n, c⟩ <;> rfl
/-- A row that is owned has such a form. -/
theorem own_enc {w : World} {base : Nat} {v : Value} {L : List K4} (h : OwnS w base v L) : ∃ x : SV, v = encS x := by
  rcases h.2 with ⟨rfl, _⟩ | ⟨g, cap, cur, rfl, _⟩
  · exact ⟨none, rfl⟩
  · exact ⟨some (g, L.length, cap), rfl⟩

/-- The map hb holds the stakes L, those of each entity by themselves; all rows lie from base on. -/
structure HoF (w : World) (base hb : Nat) (f : Int → Option SV) (L : List K4) : Prop where
  mp : MpS w hb f
  le : base ≤ hb
  row : ∀ x, InR x → OwnS w base (encS ((f x).getD none)) (ofE L x)
  has : ∀ x, InR x → (f x).isSome = decide (x ∈ ents L)
  ap : ∀ x y, InR x → InR y → x ≠ y → ∀ b, blkS ((f x).getD none) = some b → blkS ((f y).getD none) ≠ some b
  ne : ∀ x, InR x → blkS ((f x).getD none) ≠ some hb
def HoR (w : World) (base hb : Nat) (L : List K4) : Prop := ∃ f, HoF w base hb f L
section
variable {w w' : World} {base hb : Nat} {f : Int → Option SV} {L : List K4}
theorem ownS_keep {v : Value} (h : OwnS w base v L) (hk : ∀ b, v.ownBlock = some b → w'.heap[b]? = w.heap[b]?) : OwnS w' base v L := by
  refine ⟨h.1, ?_⟩
  rcases h.2 with q | ⟨g, cap, cur, rfl, h2, h3, h4⟩
  · exact Or.inl q
  · exact Or.inr ⟨g, cap, cur, rfl, h2, (hk g rfl).trans h3, h4⟩
theorem HoF.below (h : HoF w base hb f L) (hB : Below w.heap.size w w') : HoF w' base hb f L :=
  ⟨h.mp.keep (hB.block _ h.mp.lt), h.le, fun x hx => (h.row x hx).below hB, h.has, h.ap, h.ne⟩
theorem HoR.below (h : HoR w base hb L) (hB : Below w.heap.size w w') : HoR w' base hb L := by
  obtain ⟨f, h⟩ := h; exact ⟨f, h.below hB⟩
theorem HoR.made (w : World) (base : Nat) (hB : base ≤ w.heap.size) : HoR (w.alloc (.map #[] 0)) base w.heap.size [] :=
  ⟨fun _ => none, MpF.made w, hB, fun x hx => OwnS.nil _ _, fun x hx => rfl, fun x y hx hy hxy b q => (by cases q), fun x hx q => (by cases q)⟩
/-- How many entities have stakes. -/
theorem HoF.len (h : HoF w base hb f L) (hL : ∀ s ∈ L, ok4 s) (ty : TypeId) : (Builtin.len_ #[77] ty #[.map (some hb)]).run Try.prog w = .ok (.int .i64 ((ents L).length : Int)) w := by
  have hi : ∀ x ∈ ents L, InR x := fun x hx => by
    obtain ⟨s, hs, rfl⟩ := List.mem_map.1 (mem_ents.1 hx)
    exact (hL s hs).1
  refine h.mp.len kitS (U := ents L) (N := (ents L).map fun x => (x, 0)) (fun k hk => ?_) ⟨?_, ?_⟩ ty |>.trans ?_
  · rw [h.has k hk]
    rw [Bool.eq_iff_iff, ulk_some]
    simp
  · rw [List.map_map]
    have : ((ents L).map ((Prod.fst : Int × Int → Int) ∘ fun x => (x, 0))) = ents L := by
      conv => rhs; rw [← List.map_id (ents L)]
      rfl
    rw [this]; exact ents_nodup L
  · intro p hp
    obtain ⟨x, hx, rfl⟩ := List.mem_map.1 hp
    exact ⟨hx, hi x hx, zero_in⟩
  · rw [List.length_map]
end
end Go.Proofs.Ytebjmnppeohdiaa
