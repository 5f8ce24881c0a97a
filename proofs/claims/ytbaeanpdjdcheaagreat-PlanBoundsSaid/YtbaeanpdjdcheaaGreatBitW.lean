/-
  Words of 64 bits and the rising rows of numbers that they stand for; how many bits a word has, by the library's own steps. No Go function is walked here. No conditions.
-/
import Derived.Test.YtbaeanpdjdcheaaGreatBitM
import Derived.Laws.Bits64b
namespace Go.Proofs.YtbaeanpdjdcheaaGreat
open Go.RowKit
set_option linter.unusedSimpArgs false
set_option linter.unusedVariables false

/-- The bits of a word that are there, rising. -/
def wbits (x : Nat) : List Nat := (List.range 64).filter fun k => x.testBit k
theorem mem_wbits {x k : Nat} : k ∈ wbits x ↔ k < 64 ∧ x.testBit k = true := by simp [wbits]
theorem wbits_lt {x : Nat} : (wbits x).Pairwise (· < ·) := List.Pairwise.filter _ List.pairwise_lt_range
/-- A rising row. -/
def Rises (L : List Int) : Prop := L.Pairwise (· < ·)
theorem rises_ext : ∀ {L M : List Int}, Rises L → Rises M → (∀ z, z ∈ L ↔ z ∈ M) → L = M
  | [], [], _, _, _ => rfl
  | [], y :: M, _, _, h => by have := (h y).mpr (by simp); cases this
  | x :: L, [], _, _, h => by have := (h x).mp (by simp); cases this
  | x :: L, y :: M, hL, hM, h => by
    have h1 := List.pairwise_cons.1 hL
    have h2 := List.pairwise_cons.1 hM
    have e : x = y := by
      rcases List.mem_cons.1 ((h x).mp (by simp)) with q | q
      · exact q
      · rcases List.mem_cons.1 ((h y).mpr (by simp)) with r | r
        · exact r.symm
        · have := h1.1 y r; have := h2.1 x q; omega
    subst e
    refine congrArg (x :: ·) (rises_ext h1.2 h2.2 fun z => ?_)
    constructor
    · intro q
      rcases List.mem_cons.1 ((h z).mp (by simp [q])) with r | r
      · subst r; have := h1.1 z q; omega
      · exact r
    · intro q
      rcases List.mem_cons.1 ((h z).mpr (by simp [q])) with r | r
      · subst r; have := h2.1 z q; omega
      · exact r
theorem nat_ext : ∀ {L M : List Nat}, L.Pairwise (· < ·) → M.Pairwise (· < ·) → (∀ z, z ∈ L ↔ z ∈ M) → L = M
  | [], [], _, _, _ => rfl
  | [], y :: M, _, _, h => by have := (h y).mpr (by simp); cases this
  | x :: L, [], _, _, h => by have := (h x).mp (by simp); cases this
  | x :: L, y :: M, hL, hM, h => by
    have h1 := List.pairwise_cons.1 hL
    have h2 := List.pairwise_cons.1 hM
    have e : x = y := by
      rcases List.mem_cons.1 ((h x).mp (by simp)) with q | q
      · exact q
      · rcases List.mem_cons.1 ((h y).mpr (by simp)) with r | r
        · exact r.symm
        · have := h1.1 y r; have := h2.1 x q; omega
    subst e
    refine congrArg (x :: ·) (nat_ext h1.2 h2.2 fun z => ?_)
    constructor
    · intro q
      rcases List.mem_cons.1 ((h z).mp (by simp [q])) with r | r
      · subst r; have := h1.1 z q; omega
      · exact r
    · intro q
      rcases List.mem_cons.1 ((h z).mpr (by simp [q])) with r | r
      · subst r; have := h2.1 z q; omega
      · exact r
/-- The numbers of words, from word i on. -/
def nums : Nat → List Nat → List Int
  | _, [] => []
  | i, x :: l => (wbits x).map (fun k => ((i * 64 + k : Nat) : Int)) ++ nums (i + 1) l
theorem mem_nums {z : Int} : ∀ {l : List Nat} {i : Nat}, z ∈ nums i l ↔ ∃ j, j < l.length ∧ ∃ k, k < 64 ∧ (l.getD j 0).testBit k = true ∧ z = (((i + j) * 64 + k : Nat) : Int)
  | [], i => by simp [nums]
  | x :: l, i => by
    unfold nums
    rw [List.mem_append, List.mem_map, mem_nums]
    constructor
    · rintro (⟨k, hk, rfl⟩ | ⟨j, hj, k, h1, h2, rfl⟩)
      · exact ⟨0, by simp, k, (mem_wbits.1 hk).1, by simpa using (mem_wbits.1 hk).2, by simp⟩
      · exact ⟨j + 1, by simpa using hj, k, h1, by simpa using h2, by congr 1; omega⟩
    · rintro ⟨j, hj, k, h1, h2, rfl⟩
      rcases j with _ | j
      · exact Or.inl ⟨k, mem_wbits.2 ⟨h1, by simpa using h2⟩, by simp⟩
      · exact Or.inr ⟨j, by simpa using hj, k, h1, by simpa using h2, by congr 1; omega⟩
theorem nums_rise : ∀ (l : List Nat) (i : Nat), Rises (nums i l)
  | [], i => List.Pairwise.nil
  | x :: l, i => by
    unfold nums
    refine List.pairwise_append.2 ⟨List.pairwise_map.2 (wbits_lt.imp ?_), nums_rise l _, ?_⟩
    · intro a b h; omega
    · intro a ha b hb
      obtain ⟨k, hk, rfl⟩ := List.mem_map.1 ha
      obtain ⟨j, hj, k', h1, h2, rfl⟩ := mem_nums.1 hb
      have := (mem_wbits.1 hk).1
      have : (i + 1 + j) * 64 = i * 64 + 64 + j * 64 := by omega
      omega
theorem nums_app : ∀ (l m : List Nat) (i : Nat), nums i (l ++ m) = nums i l ++ nums (i + l.length) m
  | [], m, i => by simp [nums]
  | x :: l, m, i => by
    show (wbits x).map _ ++ nums (i + 1) (l ++ m) = ((wbits x).map _ ++ nums (i + 1) l) ++ nums (i + (l.length + 1)) m
    rw [nums_app l m (i + 1), List.append_assoc, show i + 1 + l.length = i + (l.length + 1) by omega]
theorem nums_take {l : List Nat} {k : Nat} (h : k < l.length) : nums 0 (l.take (k + 1)) = nums 0 (l.take k) ++ (wbits (l.getD k 0)).map (fun b => ((k * 64 + b : Nat) : Int)) := by
  have e : l.take (k + 1) = l.take k ++ [l.getD k 0] := by
    rw [List.take_add_one]; simp [h, List.getD]
  rw [e, nums_app]
  simp [nums, Nat.min_eq_left (Nat.le_of_lt h)]
theorem mem_nums0 {z : Int} {l : List Nat} (hl : l.length = 1024) : z ∈ nums 0 l ↔ 0 ≤ z ∧ z ≤ 65535 ∧ (l.getD (z.toNat / 64) 0).testBit (z.toNat % 64) = true := by
  rw [mem_nums]
  constructor
  · rintro ⟨j, hj, k, h1, h2, rfl⟩
    have e1 : (((0 + j) * 64 + k : Nat) : Int).toNat / 64 = j := by omega
    have e2 : (((0 + j) * 64 + k : Nat) : Int).toNat % 64 = k := by omega
    rw [e1, e2]
    exact ⟨by omega, by omega, h2⟩
  · rintro ⟨h0, h1, h2⟩
    exact ⟨z.toNat / 64, by omega, z.toNat % 64, by omega, h2, by omega⟩
theorem wbits_zero : wbits 0 = [] := by simp [wbits]
theorem nums_zero (n i : Nat) : nums i (List.replicate n 0) = [] := by
  induction n generalizing i with
  | zero => rfl
  | succ n ih => simp [List.replicate_succ, nums, wbits_zero, ih]
theorem nums_len_le {l : List Nat} : ∀ {i : Nat}, (nums i l).length ≤ l.length * 64 := by
  induction l with
  | nil => intro i; simp [nums]
  | cons x l ih =>
    intro i
    have := @ih (i + 1)
    have h : (wbits x).length ≤ 64 := by
      have := List.length_filter_le (fun k => x.testBit k) (List.range 64)
      simpa [wbits] using this
    simp [nums]; omega
theorem wbits_le (x : Nat) : (wbits x).length ≤ 64 := by
  have := List.length_filter_le (fun k => x.testBit k) (List.range 64)
  simpa [wbits] using this
/-- One word turned at one bit. -/
theorem mem_flip {l : List Nat} (hl : l.length = 1024) {n : Int} (h0 : 0 ≤ n) (h1 : n ≤ 65535) (z : Int) :
    z ∈ nums 0 (l.set (n.toNat / 64) (l.getD (n.toNat / 64) 0 ^^^ 2 ^ (n.toNat % 64))) ↔ (if z = n then ¬ z ∈ nums 0 l else z ∈ nums 0 l) := by
  rw [mem_nums0 (by simpa using hl), mem_nums0 hl]
  have hlt : n.toNat / 64 < l.length := by omega
  by_cases e : z = n
  · subst e
    rw [if_pos rfl]
    have : (l.set (z.toNat / 64) (l.getD (z.toNat / 64) 0 ^^^ 2 ^ (z.toNat % 64))).getD (z.toNat / 64) 0 = l.getD (z.toNat / 64) 0 ^^^ 2 ^ (z.toNat % 64) := by simp [List.getD, hlt]
    rw [this, Nat.testBit_xor, Nat.testBit_two_pow]
    cases (l.getD (z.toNat / 64) 0).testBit (z.toNat % 64) <;> simp [h0, h1]
  · rw [if_neg e]
    by_cases hz : 0 ≤ z ∧ z ≤ 65535
    · by_cases e2 : n.toNat / 64 = z.toNat / 64
      · have : (l.set (n.toNat / 64) (l.getD (n.toNat / 64) 0 ^^^ 2 ^ (n.toNat % 64))).getD (z.toNat / 64) 0 = l.getD (z.toNat / 64) 0 ^^^ 2 ^ (n.toNat % 64) := by rw [← e2]; simp [List.getD, hlt]
        rw [this, Nat.testBit_xor, Nat.testBit_two_pow, decide_eq_false (show ¬ n.toNat % 64 = z.toNat % 64 by omega)]
        simp
      · have : (l.set (n.toNat / 64) (l.getD (n.toNat / 64) 0 ^^^ 2 ^ (n.toNat % 64))).getD (z.toNat / 64) 0 = l.getD (z.toNat / 64) 0 := by simp [List.getD, List.getElem?_set, e2]
        rw [this]
    · constructor
      · rintro ⟨a, b, _⟩; exact absurd ⟨a, b⟩ hz
      · rintro ⟨a, b, _⟩; exact absurd ⟨a, b⟩ hz
/-- A word that is not 0: its lowest bit, and the others. -/
theorem wbits_step {x t m : Nat} (hx : x = 2 ^ t * (2 * m + 1)) (ht : t < 64) : wbits x = t :: wbits (x &&& (x - 1)) := by
  have hp : 0 < 2 ^ t := Nat.two_pow_pos t
  have hb : ∀ k, x.testBit k = if k < t then false else if k = t then true else m.testBit (k - t - 1) := by
    intro k
    rw [hx, Nat.mul_comm, Nat.testBit_mul_two_pow]
    by_cases h1 : k < t
    · rw [if_pos h1, decide_eq_false (by omega)]; rfl
    · rw [if_neg h1, decide_eq_true (by omega), Bool.true_and]
      by_cases h2 : k = t
      · rw [if_pos h2, h2, Nat.sub_self]; simp [Nat.testBit_zero]
      · rw [if_neg h2]
        obtain ⟨j, hj⟩ : ∃ j, k - t = j + 1 := ⟨k - t - 1, by omega⟩
        rw [hj, Nat.testBit_succ, show (2 * m + 1) / 2 = m by omega]; rfl
  have hb1 : ∀ k, (x - 1).testBit k = if k < t then true else if k = t then false else m.testBit (k - t - 1) := by
    intro k
    have e : x - 1 = 2 ^ t * (2 * m) + (2 ^ t - 1) := by
      rw [hx, Nat.mul_add, Nat.mul_one]; omega
    rw [e, Nat.testBit_two_pow_mul_add _ (by omega)]
    by_cases h1 : k < t
    · rw [if_pos h1, if_pos h1]; simp [Nat.testBit_two_pow_sub_one, h1]
    · rw [if_neg h1, if_neg h1]
      by_cases h2 : k = t
      · rw [if_pos h2, h2, Nat.sub_self]; simp [Nat.testBit_zero]
      · rw [if_neg h2]
        obtain ⟨j, hj⟩ : ∃ j, k - t = j + 1 := ⟨k - t - 1, by omega⟩
        rw [hj, Nat.testBit_succ, show 2 * m / 2 = m by omega]; rfl
  refine nat_ext wbits_lt (List.pairwise_cons.2 ⟨?_, wbits_lt⟩) ?_
  · intro k hk
    have h := (mem_wbits.1 hk).2
    rw [Nat.testBit_and, hb, hb1] at h
    by_cases h1 : k < t
    · simp [h1] at h
    · by_cases h2 : k = t
      · simp [h2] at h
      · omega
  · intro k
    rw [List.mem_cons, mem_wbits, mem_wbits, Nat.testBit_and, hb, hb1]
    by_cases h1 : k < t
    · simp [h1]; omega
    · by_cases h2 : k = t
      · subst h2; simp [ht]
      · simp [h1, h2]
/-- Two numbers cut at a byte. -/
theorem and_byte (a b c d : Nat) (ha : a < 256) (hc : c < 256) : (a + 256 * b) &&& (c + 256 * d) = (a &&& c) + 256 * (b &&& d) := by
  have h1 := @Nat.and_mod_two_pow (a + 256 * b) (c + 256 * d) 8
  have h2 := @Nat.and_div_two_pow (a + 256 * b) (c + 256 * d) 8
  rw [show (2 : Nat) ^ 8 = 256 from rfl] at h1 h2
  rw [show (a + 256 * b) % 256 = a by omega, show (c + 256 * d) % 256 = c by omega] at h1
  rw [show (a + 256 * b) / 256 = b by omega, show (c + 256 * d) / 256 = d by omega] at h2
  omega
/-- A byte's mask, byte by byte. -/
def msk (c : Nat) : Nat → Nat
  | 0 => 0
  | n + 1 => c + 256 * msk c n
def bf1 (b : Nat) : Nat := (b / 2 &&& 85) + (b &&& 85)
def bf2 (b : Nat) : Nat := (b / 4 &&& 51) + (b &&& 51)
def pst1 (n x : Nat) : Nat := (x / 2 &&& msk 85 n) + (x &&& msk 85 n)
def pst2 (n x : Nat) : Nat := (x / 4 &&& msk 51 n) + (x &&& msk 51 n)
def pst3 (n x : Nat) : Nat := (x / 16 + x) &&& msk 15 n
theorem bf1_tab : ∀ b : Fin 256, bf1 b.val ≤ 170 := by decide +kernel
theorem bf1_top : ∀ b : Fin 128, (b.val + 128) &&& 85 = b.val &&& 85 := by decide +kernel
theorem bf2_tab : ∀ b : Fin 256, bf2 (bf1 b.val) ≤ 68 ∧ bf2 (bf1 b.val) % 16 ≤ 4 := by decide +kernel
theorem bf2_top : ∀ b : Fin 64, ((b.val + 64) &&& 51 = b.val &&& 51) ∧ ((b.val + 128) &&& 51 = b.val &&& 51) ∧ ((b.val + 192) &&& 51 = b.val &&& 51) := by decide +kernel
theorem pst1_succ (n x : Nat) : pst1 (n + 1) x = bf1 (x % 256) + 256 * pst1 n (x / 256) := by
  unfold pst1 bf1
  have e0 : x = x % 256 + 256 * (x / 256) := by omega
  have e1 : x / 2 = (x % 256 / 2 + 128 * (x / 256 % 2)) + 256 * (x / 256 / 2) := by omega
  have hm : msk 85 (n + 1) = 85 + 256 * msk 85 n := rfl
  have t := bf1_top ⟨x % 256 / 2, by omega⟩
  have a1 : (x / 2) &&& msk 85 (n + 1) = (x % 256 / 2 &&& 85) + 256 * (x / 256 / 2 &&& msk 85 n) := by
    rw [hm, e1, and_byte _ _ _ _ (by omega) (by omega)]
    rcases Nat.mod_two_eq_zero_or_one (x / 256) with h | h
    · rw [h]; rfl
    · rw [h]; rw [show 128 * 1 = 128 from rfl, t]
  have a2 : x &&& msk 85 (n + 1) = (x % 256 &&& 85) + 256 * (x / 256 &&& msk 85 n) := by
    rw [hm]; conv => lhs; rw [e0]
    exact and_byte _ _ _ _ (by omega) (by omega)
  rw [a1, a2]; omega
theorem pst2_succ (n y : Nat) : pst2 (n + 1) y = bf2 (y % 256) + 256 * pst2 n (y / 256) := by
  unfold pst2 bf2
  have e0 : y = y % 256 + 256 * (y / 256) := by omega
  have e1 : y / 4 = (y % 256 / 4 + 64 * (y / 256 % 4)) + 256 * (y / 256 / 4) := by omega
  have hm : msk 51 (n + 1) = 51 + 256 * msk 51 n := rfl
  obtain ⟨t1, t2, t3⟩ := bf2_top ⟨y % 256 / 4, by omega⟩
  have a1 : (y / 4) &&& msk 51 (n + 1) = (y % 256 / 4 &&& 51) + 256 * (y / 256 / 4 &&& msk 51 n) := by
    rw [hm, e1, and_byte _ _ _ _ (by omega) (by omega)]
    have h4 : y / 256 % 4 = 0 ∨ y / 256 % 4 = 1 ∨ y / 256 % 4 = 2 ∨ y / 256 % 4 = 3 := by omega
    rcases h4 with h | h | h | h
    · rw [h]; rfl
    · rw [h, show 64 * 1 = 64 from rfl, t1]
    · rw [h, show 64 * 2 = 128 from rfl, t2]
    · rw [h, show 64 * 3 = 192 from rfl, t3]
  have a2 : y &&& msk 51 (n + 1) = (y % 256 &&& 51) + 256 * (y / 256 &&& msk 51 n) := by
    rw [hm]; conv => lhs; rw [e0]
    exact and_byte _ _ _ _ (by omega) (by omega)
  rw [a1, a2]; omega
theorem pst12 (n x : Nat) : pst2 (n + 1) (pst1 (n + 1) x) = bf2 (bf1 (x % 256)) + 256 * pst2 n (pst1 n (x / 256)) := by
  have h := bf1_tab ⟨x % 256, by omega⟩
  simp only at h
  rw [pst2_succ, pst1_succ, show (bf1 (x % 256) + 256 * pst1 n (x / 256)) % 256 = bf1 (x % 256) by omega, show (bf1 (x % 256) + 256 * pst1 n (x / 256)) / 256 = pst1 n (x / 256) by omega]
theorem pst12_low (n x : Nat) : pst2 n (pst1 n x) % 16 ≤ 4 := by
  rcases n with _ | n
  · simp [pst2, msk]
  · rw [pst12]
    have h := (bf2_tab ⟨x % 256, by omega⟩).2
    simp only at h
    omega
theorem and_15 (a t : Nat) : (a + 16 * t) &&& 15 = a % 16 := by
  rw [show (15 : Nat) = 2 ^ 4 - 1 from rfl, Nat.and_two_pow_sub_one_eq_mod]; omega
def pob (b : Nat) : Nat := (bf2 (bf1 b) / 16 + bf2 (bf1 b)) % 16
def popn (n x : Nat) : Nat := pst3 n (pst2 n (pst1 n x))
theorem popn_succ (n x : Nat) : popn (n + 1) x = pob (x % 256) + 256 * popn n (x / 256) := by
  have h := (bf2_tab ⟨x % 256, by omega⟩).1
  have hl := pst12_low n (x / 256)
  simp only at h
  unfold popn pob
  rw [pst12]
  generalize bf2 (bf1 (x % 256)) = a at *
  generalize pst2 n (pst1 n (x / 256)) = y at *
  unfold pst3
  have e : (a + 256 * y) / 16 + (a + 256 * y) = ((a / 16 + a) + 16 * (y % 16)) + 256 * (y / 16 + y) := by omega
  rw [e, show msk 15 (n + 1) = 15 + 256 * msk 15 n from rfl, and_byte _ _ _ _ (by omega) (by omega), and_15]
theorem popn_zero (x : Nat) : popn 0 x = 0 := by simp [popn, pst3, msk]
/-- How many of the first bits are there. -/
def cntb (n x : Nat) : Nat := ((List.range n).filter fun k => x.testBit k).length
theorem pob_is : ∀ b : Fin 256, pob b.val = cntb 8 b.val ∧ cntb 8 b.val ≤ 8 := by decide +kernel
theorem cntb_add (n x : Nat) : cntb (8 + n) x = cntb 8 (x % 256) + cntb n (x / 256) := by
  unfold cntb
  rw [List.range_add, List.filter_append, List.length_append, List.filter_map, List.length_map]
  congr 1
  · congr 1
    refine List.filter_congr fun k hk => ?_
    have hk := List.mem_range.1 hk
    rw [show (256 : Nat) = 2 ^ 8 from rfl, Nat.testBit_mod_two_pow]; simp [hk]
  · congr 1
    refine List.filter_congr fun k _ => ?_
    simp only [Function.comp]
    rw [show (256 : Nat) = 2 ^ 8 from rfl, Nat.testBit_div_two_pow]; congr 1; omega
/-- What the last three steps come to. -/
def pofin (y : Nat) : Nat :=
  let a := (y + y / 256) % 18446744073709551616
  let b := (a + a / 65536) % 18446744073709551616
  ((b + b / 4294967296) % 18446744073709551616) % 128
theorem tail_2 (a b c u0 u1 u2 : Nat) (h0 : u0 = a + 256 * u1) (h1 : u1 = b + 256 * u2) (ha : a ≤ 32) (hb : b ≤ 32) : u0 / 65536 = u2 := by omega
theorem rsum {a b c d : Nat} (h : a ≤ 8) (k : b ≤ 8) (l : c ≤ 8) (m : d ≤ 8) : a + b + c + d ≤ 32 := by omega
theorem rsum2 {a b : Nat} (h : a ≤ 8) (k : b ≤ 8) : a + b ≤ 32 := by omega
theorem pof_lt (a b : Nat) (h : a ≤ 1100000000000000000) (k : b ≤ a) : a + b < 18446744073709551616 := by omega
theorem pof_end (p0 p1 p2 p3 p4 p5 p6 p7 v0 v1 v4 v5 : Nat) (h : p0 + p1 + p2 + p3 ≤ 32) (k : p4 + p5 + p6 + p7 ≤ 32) (e : v0 = p0 + p1 + p2 + p3 + 256 * v1) (f : v4 = p4 + p5 + p6 + p7 + 256 * v5) : (v0 + v4) % 128 = p0 + p1 + p2 + p3 + p4 + p5 + p6 + p7 := by omega
theorem pofin_t (p0 p1 p2 p3 p4 p5 p6 p7 t0 t1 t2 t3 t4 t5 t6 : Nat) (h0 : p0 ≤ 8) (h1 : p1 ≤ 8) (h2 : p2 ≤ 8) (h3 : p3 ≤ 8) (h4 : p4 ≤ 8) (h5 : p5 ≤ 8) (h6 : p6 ≤ 8) (h7 : p7 ≤ 8)
    (e0 : t0 = p0 + 256 * t1) (e1 : t1 = p1 + 256 * t2) (e2 : t2 = p2 + 256 * t3) (e3 : t3 = p3 + 256 * t4) (e4 : t4 = p4 + 256 * t5) (e5 : t5 = p5 + 256 * t6) (e6 : t6 = p6 + 256 * p7) : pofin t0 = p0 + p1 + p2 + p3 + p4 + p5 + p6 + p7 := by
  have b6 : t6 ≤ 2056 := by omega
  have b5 : t5 ≤ 526344 := by omega
  have b4 : t4 ≤ 134744072 := by omega
  have b3 : t3 ≤ 34494482440 := by omega
  have b2 : t2 ≤ 8830587504648 := by omega
  have b1 : t1 ≤ 2260630401189896 := by omega
  have b0 : t0 ≤ 578721382704613384 := by omega
  have d0 : t0 / 256 = t1 := by omega
  obtain ⟨u0, f0⟩ : ∃ q, q = t0 + t1 := ⟨_, rfl⟩
  obtain ⟨u1, f1⟩ : ∃ q, q = t1 + t2 := ⟨_, rfl⟩
  obtain ⟨u2, f2⟩ : ∃ q, q = t2 + t3 := ⟨_, rfl⟩
  obtain ⟨u3, f3⟩ : ∃ q, q = t3 + t4 := ⟨_, rfl⟩
  obtain ⟨u4, f4⟩ : ∃ q, q = t4 + t5 := ⟨_, rfl⟩
  obtain ⟨u5, f5⟩ : ∃ q, q = t5 + t6 := ⟨_, rfl⟩
  obtain ⟨u6, f6⟩ : ∃ q, q = t6 + p7 := ⟨_, rfl⟩
  have g0 : u0 = (p0 + p1) + 256 * u1 := by omega
  have g1 : u1 = (p1 + p2) + 256 * u2 := by omega
  have g2 : u2 = (p2 + p3) + 256 * u3 := by omega
  have g3 : u3 = (p3 + p4) + 256 * u4 := by omega
  have g4 : u4 = (p4 + p5) + 256 * u5 := by omega
  have g5 : u5 = (p5 + p6) + 256 * u6 := by omega
  have g6 : u6 = (p6 + p7) + 256 * p7 := by omega
  have w0 : (t0 + t1) % 18446744073709551616 = u0 := by rw [← f0, Nat.mod_eq_of_lt (by omega)]
  have x0 : u0 / 65536 = u2 := tail_2 (p0 + p1) (p1 + p2) 0 u0 u1 u2 g0 g1 (rsum2 h0 h1) (rsum2 h1 h2)
  have c0 : u0 ≤ 1000000000000000000 := by omega
  have c2 : u2 ≤ 10000000000000 := by omega
  clear f0 f1 f2 f3 f4 f5 f6 b0 b1 b2 b3 b4 b5 b6 e0 e1 e2 e3 e4 e5 e6
  obtain ⟨v0, k0⟩ : ∃ q, q = u0 + u2 := ⟨_, rfl⟩
  obtain ⟨v1, k1⟩ : ∃ q, q = u1 + u3 := ⟨_, rfl⟩
  obtain ⟨v2, k2⟩ : ∃ q, q = u2 + u4 := ⟨_, rfl⟩
  obtain ⟨v3, k3⟩ : ∃ q, q = u3 + u5 := ⟨_, rfl⟩
  obtain ⟨v4, k4⟩ : ∃ q, q = u4 + u6 := ⟨_, rfl⟩
  obtain ⟨v5, k5⟩ : ∃ q, q = u5 + p7 := ⟨_, rfl⟩
  have n0 : v0 = (p0 + p1 + p2 + p3) + 256 * v1 := by omega
  have n1 : v1 = (p1 + p2 + p3 + p4) + 256 * v2 := by omega
  have n2 : v2 = (p2 + p3 + p4 + p5) + 256 * v3 := by omega
  have n3 : v3 = (p3 + p4 + p5 + p6) + 256 * v4 := by omega
  have n4 : v4 = (p4 + p5 + p6 + p7) + 256 * v5 := by omega
  have w1 : (u0 + u2) % 18446744073709551616 = v0 := by rw [← k0, Nat.mod_eq_of_lt (by omega)]
  have c0 : v0 ≤ 1100000000000000000 := by rw [k0]; exact Nat.le_trans (Nat.add_le_add c0 c2) (by decide)
  clear k0 k1 k2 k3 k4 k5 g0 g1 g2 g3 g4 g5 g6 c2
  have x1 : v0 / 65536 = v2 := tail_2 _ _ 0 v0 v1 v2 n0 n1 (rsum h0 h1 h2 h3) (rsum h1 h2 h3 h4)
  have x2 : v2 / 65536 = v4 := tail_2 _ _ 0 v2 v3 v4 n2 n3 (rsum h2 h3 h4 h5) (rsum h3 h4 h5 h6)
  have x3 : v0 / 4294967296 = v4 := by rw [show (4294967296 : Nat) = 65536 * 65536 from rfl, ← Nat.div_div_eq_div_mul, x1, x2]
  have c4 : v4 ≤ v0 := by rw [← x3]; exact Nat.div_le_self _ _
  have w2 : (v0 + v4) % 18446744073709551616 = v0 + v4 := Nat.mod_eq_of_lt (pof_lt v0 v4 c0 c4)
  unfold pofin
  simp only [d0, w0, x0, w1, x3, w2]
  exact pof_end _ _ _ _ _ _ _ _ v0 v1 v4 v5 (rsum h0 h1 h2 h3) (rsum h4 h5 h6 h7) n0 n4
theorem pofin_is (p0 p1 p2 p3 p4 p5 p6 p7 : Nat) (h0 : p0 ≤ 8) (h1 : p1 ≤ 8) (h2 : p2 ≤ 8) (h3 : p3 ≤ 8) (h4 : p4 ≤ 8) (h5 : p5 ≤ 8) (h6 : p6 ≤ 8) (h7 : p7 ≤ 8) :
    pofin (p0 + 256 * (p1 + 256 * (p2 + 256 * (p3 + 256 * (p4 + 256 * (p5 + 256 * (p6 + 256 * p7))))))) = p0 + p1 + p2 + p3 + p4 + p5 + p6 + p7 :=
  pofin_t p0 p1 p2 p3 p4 p5 p6 p7 _ _ _ _ _ _ _ h0 h1 h2 h3 h4 h5 h6 h7 rfl rfl rfl rfl rfl rfl rfl
theorem popn_is (x : Nat) (hx : x < 18446744073709551616) : pofin (popn 8 x) = (wbits x).length := by
  have hc : (wbits x).length = cntb 64 x := rfl
  have b := fun y => pob_is ⟨y % 256, by omega⟩
  simp only at b
  rw [hc, show (64 : Nat) = 8 + (8 + (8 + (8 + (8 + (8 + (8 + (8 + 0))))))) from rfl]
  simp only [cntb_add]
  simp only [show ∀ y, popn 8 y = pob (y % 256) + 256 * popn 7 (y / 256) from popn_succ 7, show ∀ y, popn 7 y = pob (y % 256) + 256 * popn 6 (y / 256) from popn_succ 6, show ∀ y, popn 6 y = pob (y % 256) + 256 * popn 5 (y / 256) from popn_succ 5,
    show ∀ y, popn 5 y = pob (y % 256) + 256 * popn 4 (y / 256) from popn_succ 4, show ∀ y, popn 4 y = pob (y % 256) + 256 * popn 3 (y / 256) from popn_succ 3, show ∀ y, popn 3 y = pob (y % 256) + 256 * popn 2 (y / 256) from popn_succ 2,
    show ∀ y, popn 2 y = pob (y % 256) + 256 * popn 1 (y / 256) from popn_succ 1, show ∀ y, popn 1 y = pob (y % 256) + 256 * popn 0 (y / 256) from popn_succ 0, popn_zero, (b _).1, Nat.mul_zero, Nat.add_zero]
  have hz : ∀ y, cntb 0 y = 0 := fun y => rfl
  simp only [hz, Nat.add_zero]
  rw [pofin_is _ _ _ _ _ _ _ _ (b _).2 (b _).2 (b _).2 (b _).2 (b _).2 (b _).2 (b _).2 (b _).2]
  omega
end Go.Proofs.YtbaeanpdjdcheaaGreat
