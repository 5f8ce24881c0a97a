/-
  Two books, carried through a walk; layer 16's same. No conditions.
-/
import Derived.Test.YtmhfgkkiplencaaUndA
namespace Go.Proofs.Ytmhfgkkiplencaa
open Go.RowKit Go.Maps
set_option linter.unusedSimpArgs false
set_option linter.unusedVariables false

/-- A slice of calls reads so. -/
def ReadsV (w : World) (a : Option Addr) (l : List (Int × Int × Int)) : Prop := ∀ i, i < l.length → ∃ b off, a = some ⟨b, off, none⟩ ∧ w.cell? ⟨b, off + i * 3, none⟩ = some (.int .i64 (l.getD i (0, 0, 0)).1) ∧ w.cell? ⟨b, off + i * 3 + 1, none⟩ = some (.int .i64 (l.getD i (0, 0, 0)).2.1) ∧ w.cell? ⟨b, off + i * 3 + 2, none⟩ = some (.int .i64 (l.getD i (0, 0, 0)).2.2) ∧ InR (l.getD i (0, 0, 0)).1 ∧ InR (l.getD i (0, 0, 0)).2.1 ∧ InR (l.getD i (0, 0, 0)).2.2
theorem ReadsV.below {w w' : World} {a : Option Addr} {l : List (Int × Int × Int)} (h : ReadsV w a l) (hb : Below w.heap.size w w') : ReadsV w' a l := by
  intro i hi
  obtain ⟨b, off, rfl, h1, h2, h3, h4⟩ := h i hi
  have hl := World.block_lt_of_cell? w _ h1
  exact ⟨b, off, rfl, (hb.cell (p := ⟨b, off + i * 3, none⟩) hl).trans h1, (hb.cell (p := ⟨b, off + i * 3 + 1, none⟩) hl).trans h2, (hb.cell (p := ⟨b, off + i * 3 + 2, none⟩) hl).trans h3, h4⟩
/-- The keys of calls. -/
def ukeys (l : List (Int × Int × Int)) : List Int := l.map fun t => t.2.1
theorem ukeys_at {l : List (Int × Int × Int)} {i : Nat} (h : i < l.length) : (l.getD i (0, 0, 0)).2.1 ∈ ukeys l := by
  rw [List.getD_eq_getElem?_getD, List.getElem?_eq_getElem h]
  exact List.mem_map_of_mem (List.getElem_mem h)
/-- Two books, apart. -/
structure TwoU (w0 w : World) (A B : Nat) (U : List Int) (s t : USt) : Prop where
  out : ∃ F G, OneU w0 w A U s F ∧ OneU w0 w B U t G ∧ ∀ j, F j → ¬ G j
section
variable {w0 w w' : World} {A B : Nat} {U : List Int} {s s' t t' : USt} {F G : Nat → Prop}
theorem two_a (ha : OneU w0 w A U s F) (hb : OneU w0 w B U t G) (hd : ∀ j, F j → ¬ G j) (p : UPost w A U s' F w') : TwoU w0 w' A B U s' t := by
  obtain ⟨F', p1, p2, p3⟩ := p
  refine ⟨F', G, ⟨p1, ha.b.trans (p2.below ha.f ha.b.size), fun j q => (p3 j q).elim (ha.f j) fun q => Nat.le_trans ha.b.size q⟩, ⟨hb.r.turn p2 fun j q r => hd j r q, ha.b.trans (p2.below ha.f ha.b.size), hb.f⟩, fun j q r => ?_⟩
  rcases p3 j q with q | q
  · exact hd j q r
  · have := hb.r.foot j r; omega
theorem TwoU.swap (h : TwoU w0 w A B U s t) : TwoU w0 w B A U t s := by
  obtain ⟨F, G, ha, hb, hd⟩ := h.out
  exact ⟨G, F, hb, ha, fun j q r => hd j r q⟩
theorem two_b (ha : OneU w0 w A U s F) (hb : OneU w0 w B U t G) (hd : ∀ j, F j → ¬ G j) (p : UPost w B U t' G w') : TwoU w0 w' A B U s t' := (two_a hb ha (fun j q r => hd j r q) p).swap
theorem TwoU.below (h : TwoU w0 w A B U s t) (hb : Below w.heap.size w w') : TwoU w0 w' A B U s t := by
  obtain ⟨F, G, h1, h2, hd⟩ := h.out
  exact ⟨F, G, h1.below hb, h2.below hb, hd⟩
theorem TwoU.b (h : TwoU w0 w A B U s t) : Below w0.heap.size w0 w := by
  obtain ⟨F, G, h1, h2, hd⟩ := h.out
  exact h1.b
end
set_option maxHeartbeats 4000000 in
theorem same16 {w0 w : World} {A B : Nat} {U : List Int} {s : USt} (h : TwoU w0 w A B U s s) (a : Option Addr) (c : Nat) (l : List (Int × Int × Int)) (hl : ReadsV w a l) (hbig : l.length ≤ 1000000) :
    Calls Try.prog 16 #[.pointer (some ⟨A, 0, none⟩), .pointer (some ⟨B, 0, none⟩), .slice a l.length c] w fun e w' => e = .returned (.bool true) ∧ Below w.heap.size w w' := by
  have H := Lib.hid h; have HL := Lib.hid hl
  clear h hl
  go_enter Try.func16, Try.ntmps16
  go_wp2_with fail
  go_loopw [7] (fun i wr => ∃ k : Nat, k ≤ l.length ∧ i = .int .i64 (k : Int) ∧ Below w.heap.size w wr) (fun i _ => l.length - (intOf i).toNat)
  case atStart => exact ⟨0, Nat.zero_le _, rfl, Below.refl _ _⟩
  case round =>
    obtain ⟨k, hk, rfl, hb⟩ := hrel
    obtain ⟨F, G, ha, hbb, hd⟩ := (H.out.below hb).out
    by_cases hlt : k < l.length
    · obtain ⟨b, off, rfl, c1, c2, c3, r1, r2, r3⟩ := HL.out.below hb k hlt
      have hbl := World.block_lt_of_cell? wr _ c2
      have i0 : (0 : Int) ≤ (k : Int) := by omega
      have i1 : (k : Int) < (l.length : Int) := by omega
      have ga := get_u ha.r _ r2
      have HG := Lib.hid (fun w2 (hb2 : Below wr.heap.size wr w2) => And.intro ((hb2.cell (p := ⟨b, _, none⟩) hbl).trans c2) (get_u (hbb.r.below hb2) _ r2))
      generalize (l.getD k (0, 0, 0)).2.1 = z at *
      have HB := Lib.hid hb; have HLT := Lib.hid hlt
      generalize (ulk s.1 z).getD 0 = x at *
      generalize (ulk s.1 z).isSome = y at *
      clear ha hbb hd c1 c3 r1 r2 r3 hb hk hlt
      go_wp2_with fail
      refine ga.mono ?_; clear ga; rintro e w2 ⟨rfl, hb2⟩
      obtain ⟨c2', gb⟩ := HG.out w2 hb2
      have HB2 := Lib.hid (HB.out.trans (hb2.mono HB.out.size))
      clear HG c2 hb2
      go_wp2_with fail
      refine gb.mono ?_; clear gb; rintro e w3 ⟨rfl, hb3⟩
      have HB3 := Lib.hid (HB2.out.trans (hb3.mono HB2.out.size))
      clear hb3 c2'
      go_wp2_with fail
      go_roundw
      · exact ⟨k + 1, HLT.out, by go_num, HB3.out⟩
      · have := HLT.out; simp [intOf]; omega
    · obtain rfl : k = l.length := by omega
      have hd0 : decide ((l.length : Int) < (l.length : Int)) = false := decide_eq_false (by omega)
      have la := len_r ha.r
      have HG := Lib.hid (fun w2 (hb2 : Below wr.heap.size wr w2) => len_r (hbb.r.below hb2))
      have HB := Lib.hid hb
      clear ha hbb hd hb hk hlt
      go_wp2_with fail
      refine la.mono ?_; clear la; rintro e w2 ⟨rfl, hb2⟩
      have lb := HG.out w2 hb2
      have HB2 := Lib.hid (HB.out.trans (hb2.mono HB.out.size))
      clear HG hb2
      go_wp2_with fail
      refine lb.mono ?_; clear lb; rintro e w3 ⟨rfl, hb3⟩
      go_wp2_with fail
      go_ret
      exact ⟨by simp, HB2.out.trans (hb3.mono HB2.out.size)⟩
end Go.Proofs.Ytmhfgkkiplencaa
