/-
  The landed set's remake as Keep calls it. The conditions: the sets' blocks, which are apart.
-/
import Derived.Test.YtiolicadnomagaaDoorSetD
import Derived.Test.YtiolicadnomagaaDoorSetJ
namespace Go.Proofs.YtiolicadnomagaaDoor
open Go.RowKit
set_option linter.unusedSimpArgs false
set_option linter.unusedVariables false


theorem of_Keep (x y : Nat) (hx : x < 18446744073709551616) (hy : y < 18446744073709551616) (w : World) : Calls Tryd.prog 34 #[.int .u64 (x : Int), .int .u64 (y : Int)] w fun e w' => e = .returned (.int .u64 ((x &&& y : Nat) : Int)) ∧ w' = w := by
  have hb : bits .and .u64 (x : Int) (y : Int) = ((x &&& y : Nat) : Int) := bits_and_u64_nat _ _ hx hy
  go_enter Tryd.func34, Tryd.ntmps34
  go_wp2_with fail
  go_ret
  exact ⟨rfl, rfl⟩
theorem lt_Keep {x y : Nat} (hx : x < 18446744073709551616) (hy : y < 18446744073709551616) : x &&& y < 18446744073709551616 ∧ x ^^^ (x &&& y) < 18446744073709551616 := by
  have h1 : x &&& y < 2 ^ 64 := Nat.and_lt_two_pow _ (by simpa using hy)
  exact ⟨by simpa using h1, by have := @Nat.xor_lt_two_pow x (x &&& y) 64 (by simpa using hx) h1; simpa using this⟩
/-- What holds at the loop's head. -/
structure RmKeep (w : World) (B G C H : Nat) (ws vs : List Nat) (i c : Value) (wr : World) : Prop where
  out : ∃ k : Nat, k ≤ 1024 ∧ i = .int .i64 (k : Int) ∧ c = .int .i64 (chs (· &&& ·) ws vs k : Nat) ∧ SetP wr B G (upd (· &&& ·) ws vs k) ∧ SetP wr C H vs ∧ Turn (fun j => j = G) w wr
set_option maxHeartbeats 8000000 in
set_option maxRecDepth 100000 in
theorem remake_Keep {w : World} {B G C H N : Nat} {ws vs : List Nat} (HN : Hid (N = 1024)) (h : SetP w B G ws) (h' : SetP w C H vs) (hGH : G ≠ H) (hCG : C ≠ G) :
    Calls Tryd.prog 32 #[.pointer (some ⟨B, 0, none⟩), .pointer (some ⟨C, 0, none⟩), .func (.func 34) #[] #[]] w fun e w' =>
      e = .returned (.int .i64 (chs (· &&& ·) ws vs N : Nat)) ∧ SetP w' B G (upd (· &&& ·) ws vs N) ∧ SetP w' C H vs ∧ Turn (fun j => j = G) w w' := by
  have hmd := made_s h'
  have hrw := row_s h
  have hwl := Lib.hid h.len
  have hwb := Lib.hid h.bd
  have hvb := Lib.hid h'.bd
  have H0 : Hid (RmKeep w B G C H ws vs (.int .i64 0) (.int .i64 0) w) := ⟨⟨0, by omega, rfl, rfl, h, h', Turn.refl _ _⟩⟩
  rw [← HN.out] at hrw
  have HNE := Lib.hid (And.intro hGH hCG)
  clear h h' hGH hCG
  go_enter Tryd.func32, Tryd.ntmps32
  go_wp2_with fail
  refine hmd.mono ?_; rintro e w1 ⟨rfl, rfl⟩
  go_wp2_with fail
  refine hrw.mono ?_; rintro e w2 ⟨rfl, rfl⟩
  clear hrw hmd
  go_wp2_with fail
  go_loopw [17, 7] (fun i c wr => RmKeep w2 B G C H ws vs i c wr) (fun i _ _ => N - (intOf i).toNat)
  case atStart => exact H0.out
  case round =>
    clear H0
    obtain ⟨k, hk, rfl, rfl, hS, hT, ht⟩ := hrel.out
    clear hrel
    by_cases hlt : k < N
    · have hk4 : k < 1024 := by have := HN.out; omega
      have ux : (upd (· &&& ·) ws vs k).getD k 0 = ws.getD k 0 := by rw [upd_at k (by have := hwl.out; omega), if_neg (by omega)]
      have hcm := hS.row k hk4
      rw [ux] at hcm
      have hlx := lt_Keep (hwb.out k) (hvb.out k)
      have hput := (hS.keep (w' := wr.drew) rfl rfl).put (k := k) (x := ws.getD k 0 &&& vs.getD k 0) hk4 hlx.1
      have hT2 : SetP (wr.drew.setCell ⟨G, k, none⟩ (.int .u64 (ws.getD k 0 &&& vs.getD k 0 : Nat))) C H vs :=
        (hT.keep (w' := wr.drew) rfl rfl).keep (hput.2.block _ (by exact hT.ltB) HNE.out.2) (hput.2.block _ (by exact hT.ltG) (Ne.symm HNE.out.1))
      have hcn : (wr.drew.setCell ⟨G, k, none⟩ (.int .u64 (ws.getD k 0 &&& vs.getD k 0 : Nat))).cell? ⟨G, k, none⟩ = some (.int .u64 (ws.getD k 0 &&& vs.getD k 0 : Nat)) := by
        have := hput.1.row k hk4
        rwa [show ((upd (· &&& ·) ws vs k).set k (ws.getD k 0 &&& vs.getD k 0)).getD k 0 = ws.getD k 0 &&& vs.getD k 0 by
          have : k < (upd (· &&& ·) ws vs k).length := by rw [upd_len]; have := hwl.out; omega
          simp [List.getD, this]] at this
      have tt : Turn (fun j => j = G) w2 (wr.drew.setCell ⟨G, k, none⟩ (.int .u64 (ws.getD k 0 &&& vs.getD k 0 : Nat))) := (ht.trans (Turn.of_below (F := fun _ => False) (Below.refl _ _).drew) (fun j q => q.elim)).trans hput.2 (fun j q => Or.inl q)
      have HP : Hid (SetP (wr.drew.setCell ⟨G, k, none⟩ (.int .u64 (ws.getD k 0 &&& vs.getD k 0 : Nat))) B G (upd (· &&& ·) ws vs (k + 1)) ∧ SetP (wr.drew.setCell ⟨G, k, none⟩ (.int .u64 (ws.getD k 0 &&& vs.getD k 0 : Nat))) C H vs ∧ Turn (fun j => j = G) w2 (wr.drew.setCell ⟨G, k, none⟩ (.int .u64 (ws.getD k 0 &&& vs.getD k 0 : Nat)))) := ⟨hput.1, hT2, tt⟩
      have hcB := hS.c0
      have hcC := hT.c0
      have hcv := hT.row k hk4
      have hfz := hS.fz k hk4
      have hcB2 := hput.1.c0
      have hcC2 := hT2.c0
      have hcv2 := hT2.row k hk4
      rw [← HN.out] at hcB hcC hcB2 hcC2
      have hof := of_Keep (ws.getD k 0) (vs.getD k 0) (hwb.out k) (hvb.out k)
      have hxr : bits .xor .u64 ((ws.getD k 0 : Nat) : Int) ((ws.getD k 0 &&& vs.getD k 0 : Nat) : Int) = ((ws.getD k 0 ^^^ (ws.getD k 0 &&& vs.getD k 0) : Nat) : Int) := bits_xor_u64_nat _ _ (hwb.out k) hlx.1
      have hon := ones_s (ws.getD k 0 ^^^ (ws.getD k 0 &&& vs.getD k 0)) hlx.2
      obtain ⟨hu1, hu2⟩ := wrap_up64 (k := k) (by omega)
      have i0 : (0 : Int) ≤ (k : Int) := by omega
      have i1 : (k : Int) < (N : Int) := by omega
      obtain ⟨hsum, hs2⟩ := chs_sum (· &&& ·) ws vs k hk4
      clear hS hT ht hput hT2 tt hlx ux
      generalize hC1 : chs (· &&& ·) ws vs (k + 1) = c1 at *
      have HC1 := Lib.hid hC1
      clear hC1
      generalize chs (· &&& ·) ws vs k = c0 at *
      generalize hZ : ws.getD k 0 &&& vs.getD k 0 = z at *
      generalize (wbits (ws.getD k 0 ^^^ z)).length = b at *
      generalize hU : ws.getD k 0 ^^^ z = u at *
      generalize ws.getD k 0 = x at *
      generalize vs.getD k 0 = y at *
      clear hZ hU
      go_wp2_with fail
      go_region_held3 (fun wz => wz.cell? ⟨B, 0, none⟩ = some (.slice (some ⟨G, 0, none⟩) N N) ∧ wz.cell? ⟨C, 0, none⟩ = some (.slice (some ⟨H, 0, none⟩) N N) ∧ wz.cell? ⟨H, k, none⟩ = some (.int .u64 (y : Int)))
        (first | exact ⟨hcB, hcC, hcv⟩ | exact ⟨hcB2, hcC2, hcv2⟩)
        ((go_at_call 34; refine (hof wr.drew).mono ?_; rintro e w3 ⟨rfl, rfl⟩))
      all_goals go_wp2_with fail
      all_goals (refine (hon _).mono ?_; rintro e w4 ⟨rfl, rfl⟩)
      all_goals go_wp2_with fail
      all_goals go_roundw
      · exact ⟨⟨k + 1, by omega, by first | with_reducible rfl | go_num, by rw [HC1.out], HP.out.1, HP.out.2.1, HP.out.2.2⟩⟩
      · simp [intOf]; omega
    · obtain rfl : k = N := by have := HN.out; omega
      have hd0 : decide ((k : Int) < (k : Int)) = false := decide_eq_false (by omega)
      have HP : Hid (SetP wr B G (upd (· &&& ·) ws vs k) ∧ SetP wr C H vs ∧ Turn (fun j => j = G) w2 wr) := ⟨hS, hT, ht⟩
      clear hS hT ht hk hlt
      go_wp2_with fail
      go_ret
      exact ⟨rfl, HP.out⟩
end Go.Proofs.YtiolicadnomagaaDoor
