/-
  The document's graph as blocks; its New and missing, for whatever comes in.
-/
import Derived.Test.YtbaeanpdjdcheaaGreatGrJ
namespace Go.Proofs.YtbaeanpdjdcheaaGreat
open Go.RowKit
set_option linter.unusedSimpArgs false
set_option linter.unusedVariables false

/-- The document's graph, as a value, reads as the rows R. -/
def GRef (w : World) (x : Value) (R : List (List Int)) : Prop := ∃ a c us, x = .agg #[.slice a R.length c] ∧ R.length ≤ c ∧ (a = none → c = 0) ∧ us.length = R.length ∧ ReadsC w a us ∧ ∀ v, v < R.length → Sl w (us.getD v undef) (gR R v)
theorem GRef.below {w w' : World} {x : Value} {R : List (List Int)} (h : GRef w x R) (hb : Below w.heap.size w w') : GRef w' x R := by
  obtain ⟨a, c, us, h1, h2, h3, h4, h5, h6⟩ := h
  exact ⟨a, c, us, h1, h2, h3, h4, h5.below hb, fun v hv => (h6 v hv).below hb⟩
/-- .. and its blocks lie outside G. -/
def GRefO (G : Nat → Prop) (w : World) (x : Value) (R : List (List Int)) : Prop := ∃ a c us, x = .agg #[.slice a R.length c] ∧ R.length ≤ c ∧ (a = none → c = 0) ∧ us.length = R.length ∧ ReadsC w a us ∧ (∀ v, v < R.length → SlX G w (us.getD v undef) (gR R v)) ∧ (1 ≤ R.length → ∀ b, (Value.slice a R.length c).ownBlock = some b → Out G w b)
theorem GRefO.ref {G : Nat → Prop} {w : World} {x : Value} {R : List (List Int)} (h : GRefO G w x R) : GRef w x R := by
  obtain ⟨a, c, us, h1, h2, h3, h4, h5, h6, _⟩ := h
  exact ⟨a, c, us, h1, h2, h3, h4, h5, fun v hv => (h6 v hv).1⟩
theorem GRefO.turn {G G' T : Nat → Prop} {w w' : World} {x : Value} {R : List (List Int)} (h : GRefO G w x R) (t : Turn T w w') (hT : ∀ j, T j → G j) (hG : ∀ j, G' j → G j ∨ w.heap.size ≤ j) : GRefO G' w' x R := by
  obtain ⟨a, c, us, rfl, h2, h3, h4, h5, h6, h7⟩ := h
  have t' := t.mono hT
  refine ⟨a, c, us, rfl, h2, h3, h4, fun j hj => ?_, fun v hv => (h6 v hv).turn t' hG, fun h1 b hb => (h7 h1 b hb).turn t' hG⟩
  obtain ⟨d, off, q1, q2⟩ := h5 j hj
  have ho := h7 (by omega) d (by rw [q1]; rfl)
  exact ⟨d, off, q1, (t'.cell (a := ⟨d, off + j, none⟩) ho.1 ho.2).trans q2⟩
theorem GRefO.below {G : Nat → Prop} {w w' : World} {x : Value} {R : List (List Int)} (h : GRefO G w x R) (hb : Below w.heap.size w w') : GRefO G w' x R := h.turn (T := G) (Turn.of_below hb) (fun _ q => q) (fun _ q => Or.inl q)
theorem GRef.at {w : World} {a : Option Addr} {us : List Value} {R : List (List Int)} (h4 : us.length = R.length) (h5 : ReadsC w a us) (h6 : ∀ v, v < R.length → Sl w (us.getD v undef) (gR R v)) {v : Nat} (hv : v < R.length) :
    ∃ b off sa sc, a = some ⟨b, off, none⟩ ∧ w.cell? ⟨b, off + v, none⟩ = some (.slice sa (gR R v).length sc) ∧ (gR R v).length ≤ sc ∧ (sa = none → sc = 0) ∧ Reads w sa (gR R v) := by
  obtain ⟨b, off, h7, h8⟩ := h5 v (by omega)
  obtain ⟨sa, sc, h9, h10, h11, h12⟩ := h6 v hv
  rw [List.getD_eq_getElem?_getD, List.getElem?_eq_getElem (by omega)] at h9
  rw [List.getElem?_eq_getElem (by omega)] at h8
  simp at h9
  exact ⟨b, off, sa, sc, h7, by rw [h8, h9], h10, h11, h12⟩
theorem gmiss_push {l m : List Int} {k : Nat} (hk : k < l.length) : gmiss (l.take (k + 1)) m = gmiss (l.take k) m + if l.getD k 0 ∈ m then 0 else 1 := gmiss_step hk
set_option maxHeartbeats 1000000 in
theorem r12miss (a a' : Option Addr) (c c' : Nat) (l m : List Int) (w : World) (hl : Reads w a l) (hm : Reads w a' m) (h1 : l.length ≤ 1000000) (h2 : m.length ≤ 1000000) :
    Calls Tryz.prog 36 #[.slice a l.length c, .slice a' m.length c'] w fun e w' => e = .returned (.int .i64 (gmiss l m : Nat)) ∧ w' = w := by
  have HL := Lib.hid hl; have HM := Lib.hid hm
  clear hl hm
  go_enter Tryz.func36, Tryz.ntmps36
  go_wp2_with fail
  go_loopw [5, 6] (fun n i wr => ∃ (k N : Nat), k ≤ l.length ∧ i = .int .i64 (k : Int) ∧ n = .int .i64 (N : Int) ∧ N = gmiss (l.take k) m ∧ wr = w) (fun n i _ => l.length - (RowKit.intOf i).toNat)
  case atStart => exact ⟨0, 0, Nat.zero_le _, rfl, rfl, rfl, rfl⟩
  case round =>
    obtain ⟨k, N, hk, rfl, rfl, hN, rfl⟩ := hrel
    have HN := Lib.hid hN
    have hNb : N ≤ 1000000 := by rw [hN]; exact Nat.le_trans (gmiss_le _ _) (by rw [List.length_take]; omega)
    clear hN
    by_cases hlt : k < l.length
    · obtain ⟨b, off, rfl, hc⟩ := HL.out.2 k hlt
      have i0 : (0 : Int) ≤ (k : Int) := by omega
      have i1 : (k : Int) < (l.length : Int) := by omega
      have hh := has_any a' c' m (l.getD k 0) wr HM.out (by omega)
      have HST := Lib.hid (gmiss_push (m := m) hlt)
      generalize l.getD k 0 = z at *
      by_cases hz : z ∈ m
      · rw [decide_eq_true hz] at hh
        go_wp2_with fail
        refine hh.mono ?_; rintro e w1 ⟨rfl, rfl⟩
        go_wp2_with fail
        go_roundw
        · exact ⟨k + 1, N, by omega, by go_num, rfl, by rw [HST.out, if_pos hz, HN.out]; rfl, by first | rfl | trivial⟩
        · simp [RowKit.intOf]; omega
      · rw [decide_eq_false hz] at hh
        go_wp2_with fail
        refine hh.mono ?_; rintro e w1 ⟨rfl, rfl⟩
        go_wp2_with fail
        go_roundw
        · exact ⟨k + 1, N + 1, by omega, by go_num, by go_num, by rw [HST.out, if_neg hz, HN.out], by first | rfl | trivial⟩
        · simp [RowKit.intOf]; omega
    · obtain rfl : k = l.length := by omega
      have hd0 : decide ((l.length : Int) < (l.length : Int)) = false := decide_eq_false (by omega)
      have HE : Hid (N = gmiss l m) := by have := HN.out; rwa [List.take_length] at this
      go_wp2_with fail
      go_ret
      exact ⟨by rw [← HE.out]; rfl, rfl⟩
set_option maxHeartbeats 1000000 in
theorem r12new (m : Int) (w : World) :
    Calls Tryz.prog 20 #[.int .i64 m] w fun e w' => ∃ x, e = .returned (.tuple #[x, .int .i64 (if 1 ≤ m ∧ m ≤ 20000 then 0 else 2)]) ∧ (∀ G : Nat → Prop, (∀ j, G j → j < w.heap.size) → GRefO G w' x (if 1 ≤ m ∧ m ≤ 20000 then List.replicate m.toNat [] else [])) ∧ Below w.heap.size w w' := by
  by_cases h : 1 ≤ m ∧ m ≤ 20000
  · rw [if_pos h, if_pos h]
    obtain ⟨n, rfl⟩ := Int.eq_ofNat_of_zero_le (by omega : 0 ≤ m)
    obtain ⟨ii, hi, hz0, hz1, hz2⟩ := info_parts rows_info
    have hmk : ∀ w, (Instr.makeSlice 30 (.int .i64 n) (.int .i64 n)).run Tryz.prog w = .ok (.slice (some ⟨w.heap.size, 0, none⟩) n n) (w.alloc (.cells (madeCells #[.slice none 0 0] n) 23)) := fun w => by
      have := run_makeSlice (P := Tryz.prog) (w := w) 30 23 ii (.slice none 0 0) Tryz.underlying30 hi hz0 .i64 .i64 n n (by omega) (by omega) (by rw [hz1]; omega) (by rw [hz2]; omega) (by omega)
      rw [hz1] at this; simpa [Value.cells] using this
    have d1 : decide ((n : Int) < 1) = false := decide_eq_false (by omega)
    have d2 : decide (20000 < (n : Int)) = false := decide_eq_false (by omega)
    clear hi hz0 hz1 hz2 ii
    rw [Int.toNat_natCast]
    have HG : ∀ W, Hid (∀ (hW : W.heap[w.heap.size + 1]? = some (.cells (madeCells #[.slice none 0 0] n) 23)), ∀ G : Nat → Prop, (∀ j, G j → j < w.heap.size) → GRefO G W (.agg #[.slice (some ⟨w.heap.size + 1, 0, none⟩) n n]) (List.replicate n [])) := fun W hW G hGs => by
      refine ⟨some ⟨w.heap.size + 1, 0, none⟩, n, List.replicate n (.slice none 0 0), by rw [List.length_replicate], by simp, fun q => by (cases q), by simp, fun j hj => ⟨_, 0, rfl, ?_⟩, fun v hv => ?_, fun _ b hb => ?_⟩
      · have hj' : j < n := by simpa using hj
        have hc : W.cell? ⟨w.heap.size + 1, 0 + j, none⟩ = (madeCells #[Value.slice none 0 0] n)[0 + j]? := by simp [World.cell?, hW]
        rw [hc, Nat.zero_add, ← Array.getElem?_toList, toList_madeCells_one]
      · have hv' : v < n := by simpa using hv
        rw [gR_rep]
        refine ⟨⟨none, 0, ?_, Nat.le_refl _, fun _ => rfl, fun z hz => by (cases hz), fun i hi => by (cases hi)⟩, fun q => absurd rfl q⟩
        simp [List.getD, hv']
      · cases hb
        exact ⟨(Array.getElem?_eq_some_iff.1 hW).1, fun q => by have : w.heap.size + 1 < w.heap.size := hGs _ q; omega⟩
    go_enter Tryz.func20, Tryz.ntmps20
    go_wp2_with fail
    have e8 := heap_alloc_new (w.alloc (.cells #[.slice (some ⟨w.heap.size + 1, 0, none⟩) n n] 32)) (.cells (madeCells #[.slice none 0 0] n) 23)
    rw [show (w.alloc (.cells #[.slice (some ⟨w.heap.size + 1, 0, none⟩) n n] 32)).heap.size = w.heap.size + 1 by simp] at e8
    exact bodyPost_ret (v := .tuple #[.agg #[.slice (some ⟨w.heap.size + 1, 0, none⟩) n n], .int .i64 0]) (by simp [results, Tryz.results20, go_sem]) rfl ⟨_, rfl, (HG _).out e8, below2 _ _ _⟩
  · rw [if_neg h, if_neg h]
    have HG : ∀ W, Hid (∀ G : Nat → Prop, (∀ j, G j → j < w.heap.size) → GRefO G W (.agg #[.slice none 0 0]) []) := fun W G _ => ⟨none, 0, [], rfl, Nat.le_refl _, fun _ => rfl, rfl, fun j hj => by (cases hj), fun v hv => by (cases hv), fun q => by (cases q)⟩
    by_cases h1 : m < 1
    · clear h
      go_enter Tryz.func20, Tryz.ntmps20
      go_wp2_with fail
      refine bodyPost_ret (v := .tuple #[.agg #[.slice none 0 0], .int .i64 2]) (by simp [results, Tryz.results20, go_sem]) rfl ⟨_, rfl, (HG _).out, below1 _ _⟩
    · have d1 : decide (m < 1) = false := decide_eq_false h1
      have d2 : decide (20000 < m) = true := decide_eq_true (by omega)
      clear h
      go_enter Tryz.func20, Tryz.ntmps20
      go_wp2_with fail
      refine bodyPost_ret (v := .tuple #[.agg #[.slice none 0 0], .int .i64 2]) (by simp [results, Tryz.results20, go_sem]) rfl ⟨_, rfl, (HG _).out, below1 _ _⟩
end Go.Proofs.YtbaeanpdjdcheaaGreat
