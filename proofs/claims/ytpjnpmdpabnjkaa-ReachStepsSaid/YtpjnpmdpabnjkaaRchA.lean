/-
  The library's Repeat of one number, the product of two words it stands on. The conditions: no more than 20000.
-/
import Derived.Test.YtpjnpmdpabnjkaaRchM
import Derived.Lib.Mul64
import Derived.Laws.Bits64b
import Derived.Laws.CopyOwn
import Derived.Deep.RegionLaw
namespace Go.Proofs.Ytpjnpmdpabnjkaa
open Go.RowKit
set_option linter.unusedSimpArgs false
set_option linter.unusedVariables false

theorem mask_n (a : Nat) (ha : a < 18446744073709551616) : bits .and .u64 (a : Int) 4294967295 = ((a % 4294967296 : Nat) : Int) := by
  have h := bits_and_u64_nat a 4294967295 ha (by omega)
  rw [show a &&& 4294967295 = a % 4294967296 from Nat.and_two_pow_sub_one_eq_mod a 32] at h
  exact h
theorem div_n (a : Nat) : (a : Int) / 4294967296 = ((a / 4294967296 : Nat) : Int) := by omega
theorem mul_n (a b : Nat) : (a : Int) * (b : Int) = ((a * b : Nat) : Int) := (Int.natCast_mul a b).symm
theorem add_n (a b : Nat) : (a : Int) + (b : Int) = ((a + b : Nat) : Int) := (Int.natCast_add a b).symm
theorem wrap_n (a : Nat) (ha : a < 18446744073709551616) : IntKind.u64.wrap (a : Int) = (a : Int) := by rw [IntKind.wrap_u64]; omega
theorem wrap_m (a : Nat) : IntKind.u64.wrap (a : Int) = ((a % 18446744073709551616 : Nat) : Int) := by rw [IntKind.wrap_u64]; omega
set_option maxHeartbeats 1000000 in
theorem mul64_any (x y : Nat) (hx : x < 18446744073709551616) (hy : y < 18446744073709551616) (w : World) :
    Calls Try.prog 54 #[.int .u64 x, .int .u64 y] w fun e w' => e = .returned (.tuple #[.int .u64 ((x * y / 18446744073709551616 : Nat) : Int), .int .u64 ((x * y % 18446744073709551616 : Nat) : Int)]) ∧ w' = w := by
  obtain ⟨bd, bt, bw, hhi⟩ := Lib.mul64_hi x y hx hy
  have ba := Lib.half_mul_le (a := x / 4294967296) (b := y / 4294967296) (by omega) (by omega)
  have bb := Lib.half_mul_le (a := x / 4294967296) (b := y % 4294967296) (by omega) (by omega)
  have bc := Lib.half_mul_le (a := x % 4294967296) (b := y / 4294967296) (by omega) (by omega)
  have ba' : x / 4294967296 * (y / 4294967296) < 18446744073709551616 := by omega
  have bb' : x / 4294967296 * (y % 4294967296) < 18446744073709551616 := by omega
  have bc' : x % 4294967296 * (y / 4294967296) < 18446744073709551616 := by omega
  have bh1 : x / 4294967296 * (y / 4294967296) + (x / 4294967296 * (y % 4294967296) + x % 4294967296 * (y % 4294967296) / 4294967296) / 4294967296 < 18446744073709551616 := by omega
  have bh : x / 4294967296 * (y / 4294967296) + (x / 4294967296 * (y % 4294967296) + x % 4294967296 * (y % 4294967296) / 4294967296) / 4294967296 + ((x / 4294967296 * (y % 4294967296) + x % 4294967296 * (y % 4294967296) / 4294967296) % 4294967296 + x % 4294967296 * (y / 4294967296)) / 4294967296 < 18446744073709551616 := by omega
  go_enter Try.func54, Try.ntmps54
  go_wp2
  simp only [mask_n x hx, mask_n y hy, div_n, mul_n, add_n, wrap_n _ bd, wrap_n _ bb', wrap_n _ bt, mask_n _ bt, wrap_n _ bc', wrap_n _ bw, wrap_n _ ba', wrap_n _ bh1, wrap_n _ bh, wrap_m (x * y)]
  rw [hhi]
  go_ret2
  exact ⟨rfl, rfl⟩
theorem mul_one_n (n : Nat) (hn : n ≤ 1000000) (w : World) :
    Calls Try.prog 48 #[.int .u64 1, .int .u64 (n : Int)] w fun e w' => e = .returned (.tuple #[.int .u64 0, .int .u64 (n : Int)]) ∧ w' = w := by
  have h := mul64_any 1 n (by omega) (by omega) w
  rw [Nat.one_mul, show n / 18446744073709551616 = 0 by omega, show n % 18446744073709551616 = n by omega] at h
  go_enter Try.func48, Try.ntmps48
  go_wp2_with fail
  refine h.mono ?_; rintro e w1 ⟨rfl, rfl⟩
  go_wp2_with fail
  exact bodyPost_ret (v := .tuple #[.int .u64 0, .int .u64 (n : Int)]) (by simp [results, Try.results48, go_sem]) rfl ⟨rfl, rfl⟩

/-- n cells, of which the first k are written. -/
def mcell (n k : Nat) : List Value := List.replicate k (Value.int .i64 (-1)) ++ List.replicate (n - k) (Value.int .i64 0)
theorem mcell_len {n k : Nat} (h : k ≤ n) : (mcell n k).length = n := by simp [mcell]; omega
theorem mcell_at {n k j : Nat} (h : j < k) : (mcell n k)[j]? = some (.int .i64 (-1)) := by
  unfold mcell
  rw [List.getElem?_append_left (by simpa using h), List.getElem?_replicate, if_pos h]
theorem mcell_push {n k m : Nat} (h : k + m ≤ n) : splice (mcell n k) k (List.replicate m (Value.int .i64 (-1))) = mcell n (k + m) := by
  unfold splice mcell
  rw [List.take_left' (by simp), List.length_replicate, List.drop_append, List.length_replicate, List.drop_eq_nil_of_le (by simp), List.nil_append, List.drop_replicate, ← List.append_assoc, List.replicate_append_replicate]
  congr 2
  omega
set_option maxHeartbeats 2000000 in
set_option maxRecDepth 100000 in
theorem repeat_i (n : Nat) (hn : n ≤ 20000) (b : Nat) (w : World) (hc : w.cell? ⟨b, 0, none⟩ = some (.int .i64 (-1))) :
    Calls Try.prog 39 #[.slice (some ⟨b, 0, none⟩) 1 1, .int .i64 (n : Int)] w fun e w' => ∃ g, e = .returned (.slice (some ⟨g, 0, none⟩) n n) ∧ w'.heap[g]? = some (.cells (mcell n n).toArray 3 (0, 0)) ∧ w.heap.size ≤ g ∧ Below w.heap.size w w' := by
  have hm := mul_one_n n (by omega)
  obtain ⟨ii, hi, hz0, hz1, hz2⟩ := info_parts int_info
  have hmk : ∀ w, (Instr.makeSlice 23 (.int .i64 n) (.int .i64 n)).run Try.prog w = .ok (.slice (some ⟨w.heap.size, 0, none⟩) n n) (w.alloc (.cells (madeCells #[.int .i64 0] n) 3)) := fun w => by
    have := run_makeSlice (P := Try.prog) (w := w) 23 3 ii (.int .i64 0) Try.underlying23 hi hz0 .i64 .i64 n n (by omega) (by omega) (by rw [hz1]; omega) (by rw [hz2]; omega) (by omega)
    rw [hz1] at this; simpa [Value.cells] using this
  have hsz : (Try.prog.info? 3).map (·.size) = some 1 := by rw [hi]; simp [hz1]
  clear hi hz0 hz1 hz2 ii
  have d0 : decide ((n : Int) < 0) = false := decide_eq_false (by omega)
  have d1 : decide ((9223372036854775807 : Int) < (n : Int)) = false := decide_eq_false (by omega)
  have d2 : IntKind.u64.wrap (n : Int) = (n : Int) := wrap_n n (by omega)
  have d3 : IntKind.i64.wrap (n : Int) = (n : Int) := by simp [IntKind.wrap, IntKind.signed, IntKind.bits]; omega
  have d4 : wrap64 (n : Int) = (n : Int) := by unfold wrap64; omega
  have hcells : (madeCells #[Value.int .i64 0] n) = (mcell n 0).toArray := by
    apply Array.ext'
    rw [toList_madeCells_one]
    simp [mcell]
  rw [hcells] at hmk
  clear hcells
  have HC := Lib.hid hc
  clear hc
  go_enter Try.func39, Try.ntmps39
  go_wp2_with fail
  refine (hm _).mono ?_; rintro e w1 ⟨rfl, rfl⟩
  obtain ⟨k0, hk0⟩ : ∃ k0, k0 = Nat.min 1 n := ⟨_, rfl⟩
  have hk1 : k0 ≤ n := by rw [hk0]; exact Nat.min_le_right _ _
  have hk2 : k0 = 0 → n = 0 := by rw [hk0]; intro h; have : Nat.min 1 n = min 1 n := rfl; omega
  have HK0 := Lib.hid hk0
  have HO : Hid (∀ v ∈ List.replicate k0 (Value.int .i64 (-1)), v.oneCell' = true) := fun v hv => by rw [(List.mem_replicate.1 hv).2]; rfl
  have HP0 : Hid (∀ j v, (List.replicate k0 (Value.int .i64 (-1)))[j]? = some v → (w1.alloc (.cells (mcell n 0).toArray 3)).cell? ((⟨b, 0, none⟩ : Addr).add j) = some v) := fun j v hv => by
    have h1 : k0 ≤ 1 := by rw [hk0]; exact Nat.min_le_left _ _
    rw [List.getElem?_replicate] at hv
    split at hv
    · cases hv
      obtain rfl : j = 0 := by omega
      have hc := HC.out
      rw [show (⟨b, 0, none⟩ : Addr).add 0 = ⟨b, 0, none⟩ from rfl]
      exact (World.cell?_alloc_old _ _ _ (Nat.ne_of_lt (World.block_lt_of_cell? w1 _ hc))).trans hc
    · cases hv
  clear hk0
  go_wp2_with
    (refine wpList_copy_splice rfl (.tmp 31) (.tmp 32) 23 23 rfl 3 Try.underlying23 hsz _ _ n n 1 1 rfl rfl w1.heap.size 0 (mcell n 0) 3 (heap_alloc_new _ _) (List.replicate k0 (Value.int .i64 (-1))) (by rw [List.length_replicate]; exact HK0.out) (fun _ => ⟨rfl, _, rfl, HP0.out⟩) (by rw [mcell_len (Nat.zero_le _), List.length_replicate]; omega) HO.out w1.heap.size w1 (below1 _ _) (Nat.le_refl _) ?_
     rw [mcell_push (n := n) (k := 0) (m := k0) (by omega), Nat.zero_add]
     intro w2 HG hB
     have hB := Lib.hid hB)
  obtain ⟨g, hge⟩ : ∃ g, g = w1.heap.size := ⟨_, rfl⟩
  rw [← hge] at HG hB ⊢
  have HGE := Lib.hid hge
  clear hge
  clear HK0 HP0 HO hm hmk
  go_loopw [8] (fun i wr => ∃ k : Nat, k ≤ n ∧ (k = 0 → n = 0) ∧ i = .int .i64 (k : Int) ∧ wr.heap[g]? = some (.cells (mcell n k).toArray 3 (0, 0)) ∧ Below g w1 wr) (fun i _ => n - (RowKit.intOf i).toNat)
  case atStart => exact ⟨k0, hk1, hk2, by simp [goInt], HG.out, hB.out⟩
  case round =>
    obtain ⟨k, hk, hk0, rfl, hg, hb⟩ := hrel
    by_cases hlt : k < n
    · obtain ⟨m, hm⟩ : ∃ m, m = Nat.min k (n - k) := ⟨_, rfl⟩
      have hmm : m = min k (n - k) := hm
      have hm1 : 0 < m := by omega
      have hm2 : k + m ≤ n := by omega
      clear hmm
      have HM := Lib.hid hm
      have HG2 := Lib.hid hg
      have HB := Lib.hid hb
      clear hm hg hb hB HG hk1 hk2
      have hne : ¬ n = k := by omega
      have i0 : (0 : Int) ≤ (k : Int) := by omega
      have i1 : (k : Int) < (n : Int) := by omega
      have e1 : wrap64 ((k : Int) + (m : Int)) = ((k + m : Nat) : Int) := by unfold wrap64; omega
      have e2 : IntKind.i64.wrap ((k : Int) + (m : Int)) = (k : Int) + (m : Int) := by simp [IntKind.wrap, IntKind.signed, IntKind.bits]; omega
      have HO : Hid (∀ v ∈ List.replicate m (Value.int .i64 (-1)), v.oneCell' = true) := fun v hv => by rw [(List.mem_replicate.1 hv).2]; rfl
      have HP : Hid (∀ j v, (List.replicate m (Value.int .i64 (-1)))[j]? = some v → wr.cell? ((⟨g, 0, none⟩ : Addr).add j) = some v) := fun j v hv => by
        rw [List.getElem?_replicate] at hv
        split at hv
        · cases hv
          rename_i hj
          have h1 : wr.cell? ⟨g, j, none⟩ = (mcell n k).toArray[j]? := by simp [World.cell?, HG2.out]
          have h2 : m ≤ k := by rw [HM.out]; exact Nat.min_le_left _ _
          rw [List.getElem?_toArray, mcell_at (by omega)] at h1
          by_cases h0 : j = 0
          · subst h0; exact h1
          · simpa [Addr.add, h0] using h1
        · cases hv
      go_wp2_with fail
      go_region_law (refine step_copy_splice rfl (.tmp 41) (.tmp 44) 23 23 rfl 3 Try.underlying23 hsz (some ⟨g, k, none⟩) (some ⟨g, 0, none⟩) (n - k) (n - k) k n (by simp [Act.eval, Act.put, hne]) (by simp [Act.eval, Act.put]) g k (mcell n k) 3 HG2.out (List.replicate m (Value.int .i64 (-1))) (by rw [List.length_replicate]; exact HM.out) (fun _ => ⟨rfl, _, rfl, HP.out⟩) (by rw [mcell_len hk, List.length_replicate]; exact hm2) HO.out g w1 HB.out.drew (Nat.le_refl _) ?_; rw [mcell_push hm2]; intro w4 hg4 hb4)
      all_goals go_wp2_with fail
      all_goals go_roundw
      · (repeat apply Exists.intro)
        refine ⟨?_, rfl⟩
        exact ⟨k + m, hm2, by omega, by simp [Act.put, e2], hg4.out, hb4⟩
      · simp only [Act.put, RowKit.intOf]; simp [e2]; omega
    · obtain rfl : k = n := by omega
      have i1 : decide ((k : Int) < (k : Int)) = false := decide_eq_false (by omega)
      have HG2 := Lib.hid hg
      have HB := Lib.hid hb
      clear hg hb hB HG hk1 hk2
      go_wp2_with fail
      exact bodyPost_ret (v := .slice (some ⟨g, 0, none⟩) k k) (by simp [results, Try.results39, go_sem]) rfl ⟨g, rfl, HG2.out, Nat.le_of_eq HGE.out.symm, HGE.out ▸ HB.out⟩
end Go.Proofs.Ytpjnpmdpabnjkaa
