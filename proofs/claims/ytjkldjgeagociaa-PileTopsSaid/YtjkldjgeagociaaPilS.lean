/-
  PileSorts of layer 9 answers true over the contracts of a pile and of sorting, for whatever pairs. The conditions: the contracts.
-/
import Derived.Test.YtjkldjgeagociaaPilP
import Derived.Test.YtjkldjgeagociaaRowA
namespace Go.Proofs.Ytjkldjgeagociaa
open Go.RowKit
set_option linter.unusedSimpArgs false
set_option linter.unusedVariables false

theorem prs_get : ∀ (L : List (Int × Int)) (j : Nat), j < (prs L).length → ∃ k, k < L.length ∧ ((j = k * 2 ∧ (prs L)[j]? = some (.int .i64 (L.getD k (0, 0)).1)) ∨ (j = k * 2 + 1 ∧ (prs L)[j]? = some (.int .i64 (L.getD k (0, 0)).2)))
  | L, j, h => by
    rw [prs_len] at h
    have hk : j / 2 < L.length := by omega
    have := prs_at L (j / 2) hk
    refine ⟨j / 2, hk, ?_⟩
    rcases Nat.mod_two_eq_zero_or_one j with q | q
    · left
      have e : j = j / 2 * 2 := by omega
      exact ⟨e, by rw [← this.1, ← e]⟩
    · right
      have e : j = j / 2 * 2 + 1 := by omega
      exact ⟨e, by rw [← this.2, ← e]⟩
theorem arr_slp {w : World} {a : Option Addr} {c : Nat} {l : List (Int × Int)} (h : Go.RowsIn.ArrS w a c l) : SlP w (.slice a l.length c) l ∧ ∀ p ∈ l, InP p := by
  obtain ⟨h1, h2, h3⟩ := h
  refine ⟨⟨a, c, rfl, h1, h2, prs_len l, fun j hj => ?_⟩, fun p hp => ?_⟩
  · obtain ⟨k, hk, q⟩ := prs_get l j hj
    obtain ⟨b, off, ha, k0, k1, _, _⟩ := h3 k hk
    rcases q with ⟨rfl, q⟩ | ⟨rfl, q⟩
    · exact ⟨b, off, ha, by rw [q]; exact k0⟩
    · exact ⟨b, off, ha, by rw [q, ← Nat.add_assoc]; exact k1⟩
  · obtain ⟨k, hk, e⟩ := List.getElem_of_mem hp
    obtain ⟨b, off, ha, k0, k1, r0, r1⟩ := h3 k hk
    have : l.getD k (0, 0) = p := by simp [List.getD, hk, e]
    rw [this] at r0 r1
    exact ⟨r0, r1⟩

set_option maxHeartbeats 4000000 in
theorem sorts9 (T : PilCon) (hS : SortC) (hO : NilPop) (hU : NilPush) (a : Option Addr) (c : Nat) (l : List (Int × Int)) (w : World) (hl : Go.RowsIn.ArrS w a c l) (hbig : (l.length : Int) ≤ 9223372036854775807) :
    Calls Try.prog 4 #[.slice a l.length c] w fun e w' => e = .returned (.bool true) ∧ Below w.heap.size w w' := by
  have haw := p_awake T hS hO hU
  obtain ⟨hs, hp⟩ := arr_slp hl
  clear hl
  by_cases h100 : 100 < l.length
  · clear hs hp hbig
    go_enter Try.func4, Try.ntmps4
    go_wp2_with fail
    refine (haw _).mono ?_; rintro e w1 ⟨rfl, hb1⟩
    go_wp2_with fail
    go_ret
    exact ⟨rfl, hb1⟩
  · have h1 := hS _ l w hs hp (by omega)
    have HS := Lib.hid hs
    have HN : Hid (l.length ≤ 100) := by show _ ≤ _; omega
    clear hs hp hbig
    go_enter Try.func4, Try.ntmps4
    go_wp2_with fail
    refine h1.mono ?_; rintro e w1 ⟨u, rfl, hu, hb1⟩
    have h2 := r9sorted _ l w1 (HS.out.below hb1) (by have := HN.out; omega)
    have HU := Lib.hid hu; clear hu h1
    go_wp2_with fail
    refine h2.mono ?_; rintro e w2 ⟨v, rfl, hv, hb2⟩
    have h3 := r9same _ _ _ _ w2 (HU.out.below hb2) hv (by have := HN.out; have := (sortAt_len l l.length (Nat.le_refl _)).1; unfold sortv; omega)
    rw [decide_eq_true rfl] at h3
    have HB := Lib.hid (hb1.trans (hb2.mono hb1.size))
    clear h2 hv hb1 hb2 HU HS
    go_wp2_with fail
    refine h3.mono ?_; rintro e w3 ⟨rfl, hb3⟩
    replace HB := Lib.hid (HB.out.trans (hb3.mono HB.out.size)); clear h3 hb3
    go_wp2_with fail
    refine (haw _).mono ?_; rintro e w4 ⟨rfl, hb4⟩
    go_wp2_with fail
    go_ret
    exact ⟨rfl, HB.out.trans (hb4.mono HB.out.size)⟩
end Go.Proofs.Ytjkldjgeagociaa
