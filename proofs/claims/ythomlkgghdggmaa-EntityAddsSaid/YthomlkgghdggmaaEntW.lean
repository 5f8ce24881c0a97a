/-
  Layer 17's awake, and contracts as the laws' walks ask them. No conditions.
-/
import Derived.Test.YthomlkgghdggmaaEntE
import Derived.Test.YthomlkgghdggmaaRefHs
namespace Go.Proofs.Ythomlkgghdggmaa
open Go.RowKit
set_option linter.unusedSimpArgs false
set_option linter.unusedVariables false

theorem lit17 (w : World) (L : List Int) (hL : ∀ z ∈ L, InR z) : Reads (w.alloc (.cells (L.map (Value.int .i64)).toArray 3)) (some ⟨w.heap.size, 0, none⟩) L :=
  ⟨hL, fun i hi => ⟨w.heap.size, 0, rfl, by rw [getD_lt _ _ hi]; simp [hi]⟩⟩
theorem same17 (a a' : Option Addr) (c c' n m : Nat) (L M : List Int) (w : World) (hL : Reads w a L) (hM : Reads w a' M) (hn : L.length = n) (hm : M.length = m) (h : L = M) (hl : n ≤ 1000000) :
    Calls Try.prog 13 #[.slice a n c, .slice a' m c'] w fun e w' => e = .returned (.bool true) ∧ Below w.heap.size w w' := by
  subst hn; subst hm
  have := same_any a a' c c' L M w hL hM (by omega)
  rwa [decide_eq_true h] at this
theorem check17 (a : Option Addr) (c n : Nat) (L : List Int) (v e : Int) (w : World) (hL : Reads w a L) (hn : L.length = n) (hl : n ≤ 1000000) (hv : chkV L = v) (he : chkE L = e) :
    Calls Try.prog 7 #[.slice a n c] w fun en w' => en = .returned (.tuple #[.int .i64 v, .int .i64 e]) ∧ Below w.heap.size w w' := by
  subst hn; subst hv; subst he
  exact check_e a c L w hL hl
theorem cur17 (a : Option Addr) (c n : Nat) (L : List Int) (x v e : Int) (w : World) (hL : Reads w a L) (hn : L.length = n) (hl : n ≤ 1000000) (hx : InR x) (hv : curV L x = v) (he : curE L x = e) :
    Calls Try.prog 9 #[.slice a n c, .int .i64 x] w fun en w' => en = .returned (.tuple #[.int .i64 v, .int .i64 e]) ∧ Below w.heap.size w w' := by
  subst hn; subst hv; subst he
  exact cur_e a c L x w hL hl hx
theorem add17 (a : Option Addr) (c n : Nat) (L M : List Int) (x e : Int) (w : World) (hL : Reads w a L) (ca : a = none → c = 0) (hn : L.length = n) (hl : n ≤ 1000000) (hx : InR x) (hv : addL L x = M) (he : addE L x = e) :
    Calls Try.prog 11 #[.slice a n c, .int .i64 x] w fun en w' => ∃ u, en = .returned (.tuple #[u, .int .i64 e]) ∧ Own w' w.heap.size u M ∧ Below w.heap.size w w' := by
  subst hn; subst hv; subst he
  exact add_e a c L x hl w hL ca hx
theorem of17 (a : Option Addr) (c n : Nat) (a' : Option Addr) (c' m : Nat) (L M R : List Int) (w : World) (hL : Reads w a L) (hM : Reads w a' M) (hn : L.length = n) (hm : M.length = m) (hl : n ≤ 1000000) (hl' : m ≤ 1000000) (hv : ofL L M = R) :
    Calls Try.prog 14 #[.slice a n c, .slice a' m c'] w fun en w' => ∃ u, en = .returned u ∧ Own w' w.heap.size u R ∧ Below w.heap.size w w' := by
  subst hn; subst hm; subst hv
  exact of_e a c L a' c' M hl hl' w hL hM
theorem reads_nil17 (w : World) (a : Option Addr) : Reads w a [] := ⟨fun z hz => (by cases hz), fun i hi => absurd hi (by simp)⟩

set_option maxHeartbeats 4000000 in
set_option maxRecDepth 100000 in
theorem awake17 (w : World) : Calls Try.prog 6 #[] w fun e w' => e = .returned (.bool true) ∧ Below w.heap.size w w' := by
  have hR0 : Reads (w.alloc (.cells #[.int .i64 2, .int .i64 1, .int .i64 2] 3)) (some ⟨w.heap.size, 0, none⟩) [2, 1, 2] := lit17 w [2, 1, 2] (by decide)
  have HB0 := Lib.hid (below1 w (.cells #[.int .i64 2, .int .i64 1, .int .i64 2] 3))
  go_enter Try.func6, Try.ntmps6
  go_wp2_with fail
  have HA : Hid ((some ⟨w.heap.size, 0, none⟩ : Option Addr) = none → 3 = 0) := fun q => by cases q
  generalize hW : w.alloc (.cells #[.int .i64 2, .int .i64 1, .int .i64 2] 3) = W at *
  clear hW
  obtain ⟨al, hal⟩ : ∃ al : Option Addr, some ⟨w.heap.size, 0, none⟩ = al := ⟨_, rfl⟩
  rw [hal] at hR0 HA ⊢
  clear hal
  have HR0 := Lib.hid hR0; clear hR0
  refine (check17 al 3 3 [2, 1, 2] 3 0 W HR0.out rfl (by omega) (by decide) (by decide)).mono ?_; rintro e w1 ⟨rfl, hb1⟩
  have HB1 := Lib.hid hb1; clear hb1
  have hR1 : Reads (w1.alloc (.cells #[.int .i64 1, .int .i64 9] 3)) (some ⟨w1.heap.size, 0, none⟩) [1, 9] := lit17 w1 [1, 9] (by decide)
  have HB1' : Hid (Below W.heap.size W (w1.alloc (.cells #[.int .i64 1, .int .i64 9] 3))) := HB1.out.trans ((below1 w1 _).mono HB1.out.size)
  go_wp2_with fail
  refine (check17 _ 2 2 [1, 9] 1 23 _ hR1 rfl (by omega) (by decide) (by decide)).mono ?_; rintro e w2 ⟨rfl, hb2⟩
  have HB2 : Hid (Below W.heap.size W w2) := HB1'.out.trans (hb2.mono HB1'.out.size)
  clear hb2 HB1' hR1 HB1
  go_wp2_with fail
  refine (cur17 al 3 3 [2, 1, 2] 2 1 0 _ (HR0.out.below HB2.out) rfl (by omega) (by decide) (by decide) (by decide)).mono ?_; rintro e w3 ⟨rfl, hb3⟩
  have HB3 : Hid (Below W.heap.size W w3) := HB2.out.trans (hb3.mono HB2.out.size)
  clear hb3
  go_wp2_with fail
  refine (cur17 al 3 3 [2, 1, 2] 4 0 20 _ (HR0.out.below HB3.out) rfl (by omega) (by decide) (by decide) (by decide)).mono ?_; rintro e w4 ⟨rfl, hb4⟩
  have HB4 : Hid (Below W.heap.size W w4) := HB3.out.trans (hb4.mono HB3.out.size)
  clear hb4
  go_wp2_with fail
  refine (add17 al 3 3 [2, 1, 2] [2, 1, 2, 8] 8 0 _ (HR0.out.below HB4.out) HA.out rfl (by omega) (by decide) (by decide) (by decide)).mono ?_; rintro e w5 ⟨v5, rfl, ho5, hb5⟩
  obtain ⟨a5, c5, hv5, -, hR5⟩ := ho5.reads (by decide)
  have hv5 : v5 = .slice a5 4 c5 := hv5
  subst hv5
  have HR5 := Lib.hid hR5
  have HB5 : Hid (Below W.heap.size W w5) := HB4.out.trans (hb5.mono HB4.out.size)
  clear hb5 hR5 ho5
  go_wp2_with fail
  refine (add17 al 3 3 [2, 1, 2] [] 0 23 _ (HR0.out.below HB5.out) HA.out rfl (by omega) (by decide) (by decide) (by decide)).mono ?_; rintro e w6 ⟨v6, rfl, ho6, hb6⟩
  have HR6 : Hid (Reads w6 a5 [2, 1, 2, 8]) := HR5.out.below hb6
  have HB6 : Hid (Below W.heap.size W w6) := HB5.out.trans (hb6.mono HB5.out.size)
  obtain ⟨a6, c6, hv6, -, -⟩ := ho6.reads (by decide)
  have hv6 : v6 = .slice a6 0 c6 := hv6
  subst hv6
  clear hb6 ho6
  have hR7 : Reads (w6.alloc (.cells #[.int .i64 2, .int .i64 1, .int .i64 2, .int .i64 8] 3)) (some ⟨w6.heap.size, 0, none⟩) [2, 1, 2, 8] := lit17 w6 [2, 1, 2, 8] (by decide)
  have hb7 := below1 w6 (.cells #[.int .i64 2, .int .i64 1, .int .i64 2, .int .i64 8] 3)
  have HR7 : Hid (Reads (w6.alloc (.cells #[.int .i64 2, .int .i64 1, .int .i64 2, .int .i64 8] 3)) a5 [2, 1, 2, 8]) := HR6.out.below hb7
  have HB7 : Hid (Below W.heap.size W (w6.alloc (.cells #[.int .i64 2, .int .i64 1, .int .i64 2, .int .i64 8] 3))) := HB6.out.trans (hb7.mono HB6.out.size)
  clear hb7
  go_wp2_with fail
  refine (same17 a5 _ c5 4 4 4 [2, 1, 2, 8] [2, 1, 2, 8] _ HR7.out hR7 rfl rfl rfl (by omega)).mono ?_; rintro e w7 ⟨rfl, hb7⟩
  have HB8 : Hid (Below W.heap.size W w7) := HB7.out.trans (hb7.mono HB7.out.size)
  clear hb7 hR7 HR7 HB7
  have hR8 : Reads (w7.alloc (.cells #[.int .i64 2] 3)) (some ⟨w7.heap.size, 0, none⟩) [2] := lit17 w7 [2] (by decide)
  have HB9 : Hid (Below W.heap.size W (w7.alloc (.cells #[.int .i64 2] 3))) := HB8.out.trans ((below1 w7 _).mono HB8.out.size)
  go_wp2_with fail
  refine (of17 al 3 3 _ 1 1 [2, 1, 2] [2] [1, 3] _ (HR0.out.below HB9.out) hR8 rfl rfl (by omega) (by omega) (by decide)).mono ?_; rintro e w8 ⟨v8, rfl, ho8, hb8⟩
  obtain ⟨a8, c8, hv8, -, hR8b⟩ := ho8.reads (by decide)
  have hv8 : v8 = .slice a8 2 c8 := hv8
  subst hv8
  have HB10 : Hid (Below W.heap.size W w8) := HB9.out.trans (hb8.mono HB9.out.size)
  clear hb8 ho8 hR8 HB9
  have hR9 : Reads (w8.alloc (.cells #[.int .i64 1, .int .i64 3] 3)) (some ⟨w8.heap.size, 0, none⟩) [1, 3] := lit17 w8 [1, 3] (by decide)
  have hb9 := below1 w8 (.cells #[.int .i64 1, .int .i64 3] 3)
  have HR9 : Hid (Reads (w8.alloc (.cells #[.int .i64 1, .int .i64 3] 3)) a8 [1, 3]) := hR8b.below hb9
  have HB11 : Hid (Below W.heap.size W (w8.alloc (.cells #[.int .i64 1, .int .i64 3] 3))) := HB10.out.trans (hb9.mono HB10.out.size)
  clear hb9 hR8b
  go_wp2_with fail
  refine (same17 a8 _ c8 2 2 2 [1, 3] [1, 3] _ HR9.out hR9 rfl rfl rfl (by omega)).mono ?_; rintro e w9 ⟨rfl, hb9⟩
  have HB12 : Hid (Below W.heap.size W w9) := HB11.out.trans (hb9.mono HB11.out.size)
  clear hb9 hR9 HR9 HB11
  go_wp2_with fail
  refine (of17 al 3 3 none 0 0 [2, 1, 2] [] [] _ (HR0.out.below HB12.out) (reads_nil17 _ _) rfl rfl (by omega) (by omega) (by decide)).mono ?_; rintro e w10 ⟨v10, rfl, ho10, hb10⟩
  have HB13 : Hid (Below W.heap.size W w10) := HB12.out.trans (hb10.mono HB12.out.size)
  obtain ⟨a10, c10, hv10, -, -⟩ := ho10.reads (by decide)
  have hv10 : v10 = .slice a10 0 c10 := hv10
  subst hv10
  clear hb10 ho10
  go_wp2_with fail
  go_ret
  exact ⟨rfl, HB0.out.trans (HB13.out.mono HB0.out.size)⟩
end Go.Proofs.Ythomlkgghdggmaa
