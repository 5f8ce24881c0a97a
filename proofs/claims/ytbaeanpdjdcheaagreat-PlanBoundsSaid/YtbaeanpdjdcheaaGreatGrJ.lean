/-
  Layer 12's Few; rows of acts; GraphTurns. No conditions.
-/
import Derived.Test.YtbaeanpdjdcheaaGreatGrH
import Derived.Test.YtbaeanpdjdcheaaGreatRowN
import Derived.Test.YtbaeanpdjdcheaaGreatRowB
import Derived.Test.YtbaeanpdjdcheaaGreatRfH
namespace Go.Proofs.YtbaeanpdjdcheaaGreat
open Go.RowKit
set_option linter.unusedSimpArgs false
set_option linter.unusedVariables false

abbrev GA := Int × List Int
def gAt (l : List GA) (k : Nat) : GA := l.getD k (0, [])
/-- A row of acts reads so. -/
def ActsG (w : World) (a : Option Addr) (l : List GA) : Prop := ∀ k, k < l.length → ∃ b off u, a = some ⟨b, off, none⟩ ∧ w.cell? ⟨b, off + k * 2, none⟩ = some (.int .i64 (gAt l k).1) ∧ w.cell? ⟨b, off + k * 2 + 1, none⟩ = some u ∧ Sl w u (gAt l k).2 ∧ InR (gAt l k).1
theorem ActsG.below {w w' : World} {a : Option Addr} {l : List GA} (h : ActsG w a l) (hb : Below w.heap.size w w') : ActsG w' a l := fun k hk => by
  obtain ⟨b, off, u, h1, h2, h3, h4, h5⟩ := h k hk
  exact ⟨b, off, u, h1, (hb.cell (World.block_lt_of_cell? w _ h2)).trans h2, (hb.cell (World.block_lt_of_cell? w _ h3)).trans h3, h4.below hb, h5⟩
theorem acts_of {w : World} {a : Option Addr} {l : List GA} (h : Go.RowsIn.NumsS w a l) : ActsG w a l := fun k hk => by
  obtain ⟨b, off, ra, rc, h1, h2, h3, h4, h5⟩ := h k hk
  exact ⟨b, off, _, h1, h2, h3, ⟨ra, rc, rfl, h4.1, h4.2.1, reads_of h4⟩, h5⟩
def gfew (l : List GA) : Bool := decide (l.length ≤ 60) && l.all fun x => decide (x.2.length ≤ 30)
theorem gfew_at {l : List GA} (h : gfew l = true) : l.length ≤ 60 ∧ ∀ k, k < l.length → (gAt l k).2.length ≤ 30 := by
  unfold gfew at h
  rw [Bool.and_eq_true, List.all_eq_true] at h
  refine ⟨of_decide_eq_true h.1, fun k hk => ?_⟩
  have := h.2 l[k] (List.getElem_mem hk)
  simpa [gAt, List.getD, hk] using this
theorem all_step {l : List GA} {k : Nat} (hk : k < l.length) : ((l.take (k + 1)).all fun x => decide (x.2.length ≤ 30)) = (((l.take k).all fun x => decide (x.2.length ≤ 30)) && decide ((gAt l k).2.length ≤ 30)) := by
  have e : gAt l k = l[k] := by simp [gAt, List.getD, hk]
  rw [List.take_succ_eq_append_getElem hk, List.all_append, List.all_cons, List.all_nil, Bool.and_true, e]
set_option maxHeartbeats 1000000 in
theorem few_g (a : Option Addr) (c : Nat) (l : List GA) (w : World) (h : ActsG w a l) (hn : (l.length : Int) ≤ 9223372036854775807) : Calls Tryz.prog 18 #[.slice a l.length c] w fun e w' => e = .returned (.bool (gfew l)) ∧ w' = w := by
  have H := Lib.hid h
  clear h
  by_cases h60 : l.length ≤ 60
  · have d60 : decide (60 < (l.length : Int)) = false := decide_eq_false (by omega)
    go_enter Tryz.func18, Tryz.ntmps18
    go_wp2_with fail
    go_loopw [3] (fun i wr => ∃ k : Nat, k ≤ l.length ∧ i = .int .i64 (k : Int) ∧ ((l.take k).all fun x => decide (x.2.length ≤ 30)) = true ∧ wr = w) (fun i _ => l.length - (RowKit.intOf i).toNat)
    case atStart => exact ⟨0, Nat.zero_le _, rfl, rfl, rfl⟩
    case round =>
      obtain ⟨k, hk, rfl, hall, rfl⟩ := hrel
      have HA := Lib.hid hall; clear hall
      by_cases hlt : k < l.length
      · obtain ⟨b, off, u, rfl, h2, h3, ⟨ra, rc, rfl, _, _, _⟩, _⟩ := H.out k hlt
        have i0 : (0 : Int) ≤ (k : Int) := by omega
        have i1 : (k : Int) < (l.length : Int) := by omega
        have HST := Lib.hid (all_step hlt)
        generalize (gAt l k).2.length = m at *
        by_cases hm : m ≤ 30
        · have dm : decide (30 < (m : Int)) = false := decide_eq_false (by omega)
          go_wp2_with fail
          go_roundw
          · exact ⟨k + 1, by omega, by go_num, by rw [HST.out, HA.out, decide_eq_true hm]; rfl, by first | rfl | trivial⟩
          · simp [RowKit.intOf]; omega
        · have dm : decide (30 < (m : Int)) = true := decide_eq_true (by omega)
          have hF : gfew l = false := by
            refine Bool.eq_false_iff.2 fun q => ?_
            have hh := HST.out
            rw [decide_eq_false hm, Bool.and_false] at hh
            unfold gfew at q
            rw [Bool.and_eq_true] at q
            have : (l.take (k + 1)).all (fun x => decide (x.2.length ≤ 30)) = true := List.all_eq_true.2 fun x hx => List.all_eq_true.1 q.2 x (List.mem_of_mem_take hx)
            rw [this] at hh; cases hh
          go_wp2_with fail
          go_ret
          exact ⟨by rw [hF]; rfl, rfl⟩
      · obtain rfl : k = l.length := by omega
        have hd0 : decide ((l.length : Int) < (l.length : Int)) = false := decide_eq_false (by omega)
        have hT : gfew l = true := by
          have := HA.out
          rw [List.take_length] at this
          unfold gfew
          rw [this, decide_eq_true h60]; rfl
        go_wp2_with fail
        go_ret
        exact ⟨by rw [hT]; rfl, rfl⟩
  · have d60 : decide (60 < (l.length : Int)) = true := decide_eq_true (by omega)
    rw [show gfew l = false by unfold gfew; rw [decide_eq_false h60]; rfl]
    go_enter Tryz.func18, Tryz.ntmps18
    go_wp2_with fail
    go_ret
    exact ⟨rfl, rfl⟩
/-- Sums over the first so many numbers. -/
def sumN : Nat → (Nat → Nat) → Nat
  | 0, _ => 0
  | k + 1, f => sumN k f + f k
theorem sumN_le {f : Nat → Nat} : ∀ {k n : Nat}, k ≤ n → sumN k f ≤ sumN n f
  | k, 0, h => by obtain rfl : k = 0 := by omega
                  exact Nat.le_refl _
  | k, n + 1, h => by
    rcases Nat.lt_or_ge k (n + 1) with q | q
    · have := sumN_le (f := f) (k := k) (n := n) (by omega)
      show _ ≤ sumN n f + f n
      omega
    · obtain rfl : k = n + 1 := by omega
      exact Nat.le_refl _
theorem sumN_congr {f g : Nat → Nat} : ∀ {n : Nat}, (∀ k, k < n → f k = g k) → sumN n f = sumN n g
  | 0, _ => rfl
  | n + 1, h => by
    show sumN n f + f n = sumN n g + g n
    rw [sumN_congr (fun k hk => h k (by omega)), h n (by omega)]
theorem sumN_add (f g : Nat → Nat) : ∀ n, sumN n (fun k => f k + g k) = sumN n f + sumN n g
  | 0 => rfl
  | n + 1 => by
    show sumN n _ + (f n + g n) = (sumN n f + f n) + (sumN n g + g n)
    rw [sumN_add f g n]; omega
theorem sumN_zero : ∀ n, sumN n (fun _ => 0) = 0
  | 0 => rfl
  | n + 1 => by show sumN n _ + 0 = 0; rw [sumN_zero n]
theorem sumN_swap (A : Nat → Nat → Nat) (m : Nat) : ∀ n, sumN n (fun x => sumN m (fun y => A x y)) = sumN m (fun y => sumN n (fun x => A x y))
  | 0 => (sumN_zero m).symm
  | n + 1 => by
    show sumN n _ + sumN m (fun y => A n y) = sumN m (fun y => sumN n (fun x => A x y) + A n y)
    rw [sumN_swap A m n, sumN_add]
theorem len_filter (p : Nat → Bool) : ∀ n, ((List.range n).filter p).length = sumN n (fun u => if p u then 1 else 0)
  | 0 => rfl
  | n + 1 => by
    rw [List.range_succ, List.filter_append, List.length_append, len_filter p n]
    show _ = sumN n _ + _
    cases hp : p n <;> simp [hp]
theorem sum_range : ∀ (R : List (List Int)), (R.map List.length).sum = sumN R.length (fun u => (gR R u).length)
  | R => by
    have key : ∀ n, n ≤ R.length → ((R.take n).map List.length).sum = sumN n (fun u => (gR R u).length) := fun n => by
      induction n with
      | zero => intro _; rfl
      | succ n ih =>
        intro h
        rw [List.take_succ_eq_append_getElem (by omega), List.map_append, List.sum_append, ih (by omega)]
        show _ = sumN n _ + _
        simp [gR, List.getD, show n < R.length by omega]
    have := key R.length (Nat.le_refl _)
    rwa [List.take_length] at this
theorem edges_there (R : List (List Int)) : gedges R = sumN R.length (fun u => (gR R u).length) := sum_range R
theorem edges_back {R : List (List Int)} (hI : GrI R) : gedges R = sumN R.length (fun x => (grdrs R (x : Int)).length) := by
  rw [edges_there]
  have h1 : ∀ x, (grdrs R ((x : Nat) : Int)).length = sumN R.length (fun u => if decide (((x : Nat) : Int) ∈ gR R u) then 1 else 0) := fun x => by
    unfold grdrs
    rw [List.length_map]
    exact len_filter (fun u => decide (((x : Nat) : Int) ∈ gR R u)) _
  have h2 : ∀ u, (gR R u).length = sumN R.length (fun x => if decide (((x : Nat) : Int) ∈ gR R u) then 1 else 0) := fun u => by
    have := (MapSets.perm_range (N := R.length) (f := fun x => decide (x ∈ gR R u)) (hI.nd u) (fun x => by simp) (fun x hx => hI.nodes u x (by simpa using hx))).length_eq
    rw [this, List.length_map]
    exact len_filter (fun x => decide (((x : Nat) : Int) ∈ gR R u)) _
  rw [sumN_congr (fun u _ => h2 u), sumN_congr (fun x _ => h1 x)]
  exact sumN_swap _ _ _
theorem mem_grdrs {R : List (List Int)} {v : Nat} (hv : v < R.length) (w : Int) : ((v : Nat) : Int) ∈ grdrs R w ↔ w ∈ gR R v := by
  unfold grdrs
  rw [List.mem_map]
  constructor
  · rintro ⟨u, hu, e⟩
    obtain rfl : u = v := by omega
    exact of_decide_eq_true (List.mem_filter.1 hu).2
  · intro h
    exact ⟨v, List.mem_filter.2 ⟨List.mem_range.2 hv, decide_eq_true h⟩, rfl⟩
theorem gnd_nat {n k : Nat} (h : k < n) : gnd n (k : Int) := by unfold gnd; omega
theorem greads_nat {R : List (List Int)} {k : Nat} (h : k < R.length) : greads R (k : Int) = gR R k := by unfold greads; rw [if_pos (gnd_nat h), Int.toNat_natCast]
/-- Setting what is there changes nothing. -/
theorem set_same {R : List (List Int)} (hI : GrI R) {k : Nat} (h : k < R.length) : gfault R.length (k : Int) (gR R k) = 0 ∧ gset R (k : Int) (gR R k) = R ∧ gadd R (k : Int) (gR R k) = 0 ∧ gdrop R (k : Int) (gR R k) = 0 := by
  have hf := gfault_is (gnd_nat h) (hI.nodes k) (hI.self k) (hI.nd k)
  have hm : gmiss (gR R k) (gR R k) = 0 := by
    unfold gmiss
    rw [List.length_eq_zero_iff, List.filter_eq_nil_iff]
    intro x hx; simp [hx]
  refine ⟨hf, ?_, ?_, ?_⟩
  · unfold gset; rw [if_pos hf, Int.toNat_natCast]
    have : gR R k = R[k] := by simp [gR, List.getD, h]
    rw [this, List.set_getElem_self]
  · unfold gadd; rw [if_pos hf, Int.toNat_natCast, hm]; rfl
  · unfold gdrop; rw [if_pos hf, Int.toNat_natCast, hm]; rfl
end Go.Proofs.YtbaeanpdjdcheaaGreat
