/-
  The landed package's Reach, Needs, Steps of a graph that was made, and of none. The condition: at most 10^6 numbers.
-/
import Derived.Test.YtpjnpmdpabnjkaaRchD
import Derived.Test.YtpjnpmdpabnjkaaRchN
namespace Go.Proofs.Ytpjnpmdpabnjkaa
open Go.RowKit
set_option linter.unusedSimpArgs false
set_option linter.unusedVariables false

theorem isst_zero {N : Nat → List Int} {L S : List Int} (h : IsSt 0 N L S) : S = [] := List.eq_nil_of_length_eq_zero h.len
theorem isst_inr {n : Nat} {N : Nat → List Int} {L S : List Int} (h : IsSt n N L S) (hn : n ≤ 20000) : ∀ z ∈ S, InR z := fun z hz => by
  obtain ⟨v, hv, e⟩ := List.getElem_of_mem hz
  have hvn : v < n := h.len ▸ hv
  have e1 : S.getD v 0 = z := by simp [List.getD, hv, e]
  unfold InR
  rcases h.at' v hvn with ⟨q, _⟩ | ⟨d, q, hw, hm⟩
  · omega
  · obtain ⟨d2, h1, _, h3, _⟩ := way_short hw
    have := hm d2 h3
    omega
section
variable {w0 w : World} {B : Nat} {R : List (List Int)} {F : Nat → Prop}
theorem up_c {gb : Nat} (h : OneG w0 w B R F) (hc : w.cell? ⟨gb, 0, none⟩ = some (.pointer (some ⟨B, 0, none⟩))) (v : Nat) :
    Calls Try.prog 30 #[.int .i64 ((v : Nat) : Int), .pointer (some ⟨gb, 0, none⟩)] w fun e w' => ∃ u, e = .returned u ∧ Own w' w.heap.size u (nUp R v) ∧ Below w.heap.size w w' := by
  have hr := readers_o h (v : Int)
  clear h
  go_enter Try.func30, Try.ntmps30
  go_wp2_with fail
  refine hr.mono ?_; clear hr; rintro e w1 ⟨u, rfl, ho, _, hb⟩
  go_wp2_with fail
  go_ret
  exact ⟨u, rfl, ho, hb⟩
theorem dn_c {gb : Nat} (h : OneG w0 w B R F) (hc : w.cell? ⟨gb, 0, none⟩ = some (.pointer (some ⟨B, 0, none⟩))) (v : Nat) :
    Calls Try.prog 29 #[.int .i64 ((v : Nat) : Int), .pointer (some ⟨gb, 0, none⟩)] w fun e w' => ∃ u, e = .returned u ∧ Own w' w.heap.size u (nDn R v) ∧ Below w.heap.size w w' := by
  have hr := reads_o h (v : Int)
  clear h
  go_enter Try.func29, Try.ntmps29
  go_wp2_with fail
  refine hr.mono ?_; clear hr; rintro e w1 ⟨u, rfl, ho, _, hb⟩
  go_wp2_with fail
  go_ret
  exact ⟨u, rfl, ho, hb⟩
theorem steps_o (h : OneG w0 w B R F) (a : Option Addr) (c : Nat) (L : List Int) (hr : Reads w a L) (hn : L.length ≤ 1000000) :
    Calls Try.prog 14 #[.pointer (some ⟨B, 0, none⟩), .slice a L.length c] w fun e w' => ∃ u S, e = .returned u ∧ Own w' w.heap.size u S ∧ IsSt R.length (nUp R) L S ∧ Below w.heap.size w w' := by
  have hb := below1 w (.cells #[.pointer (some ⟨B, 0, none⟩)] 26)
  have hc : (w.alloc (.cells #[.pointer (some ⟨B, 0, none⟩)] 26)).cell? ⟨w.heap.size, 0, none⟩ = some (.pointer (some ⟨B, 0, none⟩)) := by simp [go_sem]
  have hI := h.r.1
  have h1 := h.below hb
  have hnd := nodes_o h1
  have hwk := walked_w R.length hI.hi a c L hn (w.alloc (.cells #[.pointer (some ⟨B, 0, none⟩)] 26)) (hr.below hb) 30 (.pointer (some ⟨w.heap.size, 0, none⟩)) (nUp R) (fun _ _ => rfl)
    (fun v hv => ⟨Nat.le_trans (rdrs_len _) (Nat.le_trans hI.hi (by omega)), inr_rdrs hI _⟩) (fun W v hv hW => up_c (h1.below hW) ((hW.cell (p := ⟨w.heap.size, 0, none⟩) (World.block_lt_of_cell? _ _ hc)).trans hc) v)
  have HB := Lib.hid hb
  have hs := hb.size
  clear h h1 hr hb
  go_enter Try.func14, Try.ntmps14
  go_wp2_with fail
  generalize w.alloc (.cells #[.pointer (some ⟨B, 0, none⟩)] 26) = W at *
  refine hnd.mono ?_; rintro e w1 ⟨rfl, rfl⟩
  go_wp2_with fail
  refine hwk.mono ?_; clear hwk; rintro e w2 ⟨u, S, rfl, ho, hS, hb2⟩
  go_wp2_with fail
  go_ret
  exact ⟨u, S, rfl, own_low ho hs, hS, HB.out.trans (hb2.mono hs)⟩
theorem reach_o (h : OneG w0 w B R F) (a : Option Addr) (c : Nat) (L : List Int) (hr : Reads w a L) (hn : L.length ≤ 1000000) :
    Calls Try.prog 10 #[.pointer (some ⟨B, 0, none⟩), .slice a L.length c] w fun e w' => ∃ u S, e = .returned u ∧ Own w' w.heap.size u (fnd S) ∧ IsSt R.length (nUp R) L S ∧ Below w.heap.size w w' := by
  have hst := steps_o h a c L hr hn
  have hI := h.r.1.hi
  clear h hr
  go_enter Try.func10, Try.ntmps10
  go_wp2_with fail
  refine hst.mono ?_; clear hst; rintro e w1 ⟨u, S, rfl, ho, hS, hb⟩
  obtain ⟨ua, uc, rfl, _, hu⟩ := ho.reads (isst_inr hS hI)
  have hf := found_w ua uc S w1 hu (by rw [hS.len]; exact hI)
  have HS := Lib.hid hS; have HB := Lib.hid hb
  clear ho hu hS hb
  go_wp2_with fail
  refine hf.mono ?_; clear hf; rintro e w2 ⟨v, rfl, ho, hb⟩
  go_wp2_with fail
  go_ret
  exact ⟨v, S, rfl, own_low ho HB.out.size, HS.out, HB.out.trans (hb.mono HB.out.size)⟩
theorem needs_o (h : OneG w0 w B R F) (a : Option Addr) (c : Nat) (L : List Int) (hr : Reads w a L) (hn : L.length ≤ 1000000) :
    Calls Try.prog 12 #[.pointer (some ⟨B, 0, none⟩), .slice a L.length c] w fun e w' => ∃ u S, e = .returned u ∧ Own w' w.heap.size u (fnd S) ∧ IsSt R.length (nDn R) L S ∧ Below w.heap.size w w' := by
  have hb := below1 w (.cells #[.pointer (some ⟨B, 0, none⟩)] 26)
  have hc : (w.alloc (.cells #[.pointer (some ⟨B, 0, none⟩)] 26)).cell? ⟨w.heap.size, 0, none⟩ = some (.pointer (some ⟨B, 0, none⟩)) := by simp [go_sem]
  have hI := h.r.1
  have hIh := hI.hi
  have h1 := h.below hb
  have hnd := nodes_o h1
  have hwk := walked_w R.length hI.hi a c L hn (w.alloc (.cells #[.pointer (some ⟨B, 0, none⟩)] 26)) (hr.below hb) 29 (.pointer (some ⟨w.heap.size, 0, none⟩)) (nDn R) (fun _ _ => rfl)
    (fun v hv => ⟨by show (greads R (v : Int)).length ≤ _; unfold greads; split; exact Nat.le_trans (hI.len _) (Nat.le_trans hI.hi (by omega)); exact Nat.zero_le _, inr_greads hI _⟩) (fun W v hv hW => dn_c (h1.below hW) ((hW.cell (p := ⟨w.heap.size, 0, none⟩) (World.block_lt_of_cell? _ _ hc)).trans hc) v)
  have HB := Lib.hid hb
  have hs := hb.size
  clear h h1 hr hb hI
  go_enter Try.func12, Try.ntmps12
  go_wp2_with fail
  generalize w.alloc (.cells #[.pointer (some ⟨B, 0, none⟩)] 26) = W at *
  refine hnd.mono ?_; rintro e w1 ⟨rfl, rfl⟩
  go_wp2_with fail
  refine hwk.mono ?_; clear hwk; rintro e w2 ⟨u, S, rfl, ho, hS, hb2⟩
  obtain ⟨ua, uc, rfl, _, hu⟩ := ho.reads (isst_inr hS hIh)
  have hf := found_w ua uc S w2 hu (by rw [hS.len]; exact hIh)
  have HS := Lib.hid hS; have HB2 := Lib.hid (HB.out.trans (hb2.mono hs))
  clear ho hu hS hb2
  go_wp2_with fail
  refine hf.mono ?_; clear hf; rintro e w3 ⟨v, rfl, ho, hb3⟩
  go_wp2_with fail
  go_ret
  exact ⟨v, S, rfl, own_low ho HB2.out.size, HS.out, HB2.out.trans (hb3.mono HB2.out.size)⟩
theorem steps_n (a : Option Addr) (c : Nat) (L : List Int) (hr : Reads w a L) (hn : L.length ≤ 1000000) :
    Calls Try.prog 14 #[.pointer none, .slice a L.length c] w fun e w' => ∃ u, e = .returned u ∧ Own w' w.heap.size u [] ∧ Below w.heap.size w w' := by
  have hb := below1 w (.cells #[.pointer none] 26)
  have hc : (w.alloc (.cells #[.pointer none] 26)).cell? ⟨w.heap.size, 0, none⟩ = some (.pointer none) := by simp [go_sem]
  have hnd := nodes_n (w.alloc (.cells #[.pointer none] 26))
  have hwk := walked_w 0 (by omega) a c L hn (w.alloc (.cells #[.pointer none] 26)) (hr.below hb) 30 (.pointer (some ⟨w.heap.size, 0, none⟩)) (fun _ => []) (fun _ _ => rfl)
    (fun v hv => absurd hv (Nat.not_lt_zero v)) (fun W v hv hW => absurd hv (Nat.not_lt_zero v))
  rw [show ((0 : Nat) : Int) = 0 from rfl] at hwk
  have HB := Lib.hid hb
  have hs := hb.size
  clear hr hb
  go_enter Try.func14, Try.ntmps14
  go_wp2_with fail
  generalize w.alloc (.cells #[.pointer none] 26) = W at *
  refine hnd.mono ?_; rintro e w1 ⟨rfl, rfl⟩
  go_wp2_with fail
  refine hwk.mono ?_; clear hwk; rintro e w2 ⟨u, S, rfl, ho, hS, hb2⟩
  obtain rfl := isst_zero hS
  go_wp2_with fail
  go_ret
  exact ⟨u, rfl, own_low ho hs, HB.out.trans (hb2.mono hs)⟩
theorem reach_n (a : Option Addr) (c : Nat) (L : List Int) (hr : Reads w a L) (hn : L.length ≤ 1000000) :
    Calls Try.prog 10 #[.pointer none, .slice a L.length c] w fun e w' => ∃ u, e = .returned u ∧ Own w' w.heap.size u [] ∧ Below w.heap.size w w' := by
  have hst := steps_n a c L hr hn
  clear hr
  go_enter Try.func10, Try.ntmps10
  go_wp2_with fail
  refine hst.mono ?_; clear hst; rintro e w1 ⟨u, rfl, ho, hb⟩
  obtain ⟨ua, uc, rfl, _, hu⟩ := ho.reads (fun z hz => by cases hz)
  have hf := found_w ua uc [] w1 hu (by simp)
  have HB := Lib.hid hb
  clear ho hu hb
  go_wp2_with fail
  refine hf.mono ?_; clear hf; rintro e w2 ⟨v, rfl, ho, hb⟩
  go_wp2_with fail
  go_ret
  exact ⟨v, rfl, own_low ho HB.out.size, HB.out.trans (hb.mono HB.out.size)⟩
end
end Go.Proofs.Ytpjnpmdpabnjkaa
