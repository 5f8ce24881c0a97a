/-
  What layer 16's laws ask of states, in words. No Go function is walked here.
-/
import Derived.Test.YtmhfgkkiplencaaUndS
namespace Go.Proofs.Ytmhfgkkiplencaa
open Go.RowKit Go.Maps
set_option linter.unusedSimpArgs false
set_option linter.unusedVariables false

theorem udo_len (s : USt) (d k v : Int) : (udo s d k v).2.length ≤ s.2.length + 1 := by
  unfold udo
  split
  · exact Nat.le_succ _
  split
  · unfold udrop; split <;> exact Nat.le_succ _
  split
  · unfold ubegin; split
    · exact Nat.le_succ _
    · simp
  split
  · simp only [ukeep, List.length_tail]; omega
  · simp only [uback, List.length_tail]; omega
theorem begin_ok {s : USt} (h : s.2.length < 64) : ubeginE s = 0 ∧ ubegin s = (s.1, s.1 :: s.2) := by
  unfold ubeginE ubegin
  rw [if_neg (by omega), if_neg (by omega)]
  exact ⟨rfl, rfl⟩
/-- A key is set or dropped: what is open plays no part. -/
def unow (N : Prs) (d k v : Int) : Prs := if d = 0 then uwo N k ++ [(k, v)] else if (ulk N k).isSome = true then uwo N k else N
theorem udo_low (N : Prs) (T : List Prs) {d : Int} (hd : d = 0 ∨ d = 1) (k v : Int) : udo (N, T) d k v = (unow N d k v, T) := by
  rcases hd with rfl | rfl
  · rfl
  · unfold udo unow udrop
    simp only [show ¬ (1 : Int) = 0 by decide, if_false, if_true]
    split <;> rfl
theorem udoE_low (N : Prs) (T T' : List Prs) {d : Int} (hd : d = 0 ∨ d = 1) (k : Int) : udoE (N, T) d k = udoE (N, T') d k := by
  rcases hd with rfl | rfl
  · rfl
  · rfl
theorem keep_ok (N t : Prs) (T : List Prs) : uendE (N, t :: T) = 0 ∧ ukeep (N, t :: T) = (N, T) := ⟨by unfold uendE; rw [if_neg (by simp)], rfl⟩
theorem back_ok {s : USt} (h : s.2 ≠ []) : uendE s = 0 := by unfold uendE; rw [if_neg h]
/-- What is done behind a beginning leaves it open, if its own end is let out. -/
theorem udo_on (N N0 : Prs) (S T : List Prs) {d : Int} (hd : (0 ≤ d ∧ d ≤ 2) ∨ S ≠ []) (k v : Int) : ∃ N' S', udo (N, S ++ N0 :: T) d k v = (N', S' ++ N0 :: T) := by
  unfold udo
  by_cases h0 : d = 0
  · rw [if_pos h0]; exact ⟨_, S, rfl⟩
  rw [if_neg h0]
  by_cases h1 : d = 1
  · rw [if_pos h1]; unfold udrop; split
    · exact ⟨_, S, rfl⟩
    · exact ⟨N, S, rfl⟩
  rw [if_neg h1]
  by_cases h2 : d = 2
  · rw [if_pos h2]; unfold ubegin; split
    · exact ⟨N, S, rfl⟩
    · exact ⟨N, N :: S, rfl⟩
  rw [if_neg h2]
  have hS : S ≠ [] := by
    rcases hd with h | h
    · omega
    · exact h
  obtain ⟨t, S', rfl⟩ : ∃ t S', S = t :: S' := by cases S with | nil => exact absurd rfl hS | cons t S' => exact ⟨t, S', rfl⟩
  split
  · exact ⟨N, S', rfl⟩
  · exact ⟨t, S', rfl⟩
theorem TwoU.le {w0 w : World} {A B : Nat} {U : List Int} {s t : USt} (h : TwoU w0 w A B U s t) : s.2.length ≤ 64 ∧ t.2.length ≤ 64 := by
  obtain ⟨F, G, ha, hb, _⟩ := h.out
  obtain ⟨_, _, _, _, _, h3, _⟩ := ha.r
  obtain ⟨_, _, _, _, _, h4, _⟩ := hb.r
  exact ⟨h3.2.2, h4.2.2⟩
/-- The calls of both, one behind the other. -/
theorem two_do {w0 w : World} {A B : Nat} {U : List Int} {s t : USt} (h : TwoU w0 w A B U s t) (d k v : Int) (hkU : k ∈ U) (hk : InR k) (hv : InR v) :
    Calls Try.prog 8 #[.pointer (some ⟨A, 0, none⟩), .agg #[.int .i64 d, .int .i64 k, .int .i64 v]] w fun e w' => e = .returned (.int .i64 (udoE s d k)) ∧ TwoU w0 w' A B U (udo s d k v) t := by
  obtain ⟨F, G, ha, hb, hd⟩ := h.out
  refine (do16 ha.r d k v hkU hk hv).mono ?_
  rintro e w' ⟨rfl, hP⟩
  exact ⟨rfl, two_a ha hb hd hP⟩
theorem two_begin {w0 w : World} {A B : Nat} {U : List Int} {s t : USt} (h : TwoU w0 w A B U s t) :
    Calls Try.prog 14 #[.pointer (some ⟨A, 0, none⟩)] w fun e w' => e = .returned (.int .i64 (ubeginE s)) ∧ TwoU w0 w' A B U (ubegin s) t := by
  obtain ⟨F, G, ha, hb, hd⟩ := h.out
  refine (begin_u ha.r).mono ?_
  rintro e w' ⟨rfl, hP⟩
  exact ⟨rfl, two_a ha hb hd hP⟩
theorem two_keep {w0 w : World} {A B : Nat} {U : List Int} {s t : USt} (h : TwoU w0 w A B U s t) :
    Calls Try.prog 17 #[.pointer (some ⟨A, 0, none⟩)] w fun e w' => e = .returned (.int .i64 (uendE s)) ∧ TwoU w0 w' A B U (ukeep s) t := by
  obtain ⟨F, G, ha, hb, hd⟩ := h.out
  refine (keep_u ha.r).mono ?_
  rintro e w' ⟨rfl, hP⟩
  exact ⟨rfl, two_a ha hb hd hP⟩
theorem two_back {w0 w : World} {A B : Nat} {U : List Int} {s t : USt} (h : TwoU w0 w A B U s t) :
    Calls Try.prog 15 #[.pointer (some ⟨A, 0, none⟩)] w fun e w' => e = .returned (.int .i64 (uendE s)) ∧ TwoU w0 w' A B U (uback s) t := by
  obtain ⟨F, G, ha, hb, hd⟩ := h.out
  refine (back_u ha.r).mono ?_
  rintro e w' ⟨rfl, hP⟩
  exact ⟨rfl, two_a ha hb hd hP⟩
theorem two_depth {w0 w : World} {A B : Nat} {U : List Int} {s t : USt} (h : TwoU w0 w A B U s t) :
    Calls Try.prog 13 #[.pointer (some ⟨A, 0, none⟩)] w fun e w' => e = .returned (.int .i64 (s.2.length : Int)) ∧ w' = w := by
  obtain ⟨F, G, ha, hb, hd⟩ := h.out
  exact depth_r ha.r
/-- Two new books. -/
theorem two_new {w w1 w2 : World} {A B : Nat} {U : List Int} {F G : Nat → Prop} (h1 : URep w1 A U ([], []) F) (h2 : Below w.heap.size w w1) (h3 : ∀ j, F j → w.heap.size ≤ j)
    (k1 : URep w2 B U ([], []) G) (k2 : Below w1.heap.size w1 w2) (k3 : ∀ j, G j → w1.heap.size ≤ j) : TwoU w w2 A B U ([], []) ([], []) :=
  ⟨F, G, ⟨h1.below k2, h2.trans (k2.mono h2.size), h3⟩, ⟨k1, h2.trans (k2.mono h2.size), fun j q => Nat.le_trans h2.size (k3 j q)⟩, fun j q r => by have := h1.foot j q; have := k3 j r; omega⟩
end Go.Proofs.Ytmhfgkkiplencaa
