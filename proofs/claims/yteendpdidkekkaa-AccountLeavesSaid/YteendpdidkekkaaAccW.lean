/-
  Layer 20's awake, and contracts at written numbers as its walk asks them. No conditions.
-/
import Derived.Test.YteendpdidkekkaaR20d
import Derived.Test.YteendpdidkekkaaR20e
import Derived.Test.YteendpdidkekkaaR20c
import Derived.Test.YteendpdidkekkaaAccK
import Derived.Test.YteendpdidkekkaaRefHs
import Derived.Deep.QuietTactic
import Derived.BigQuiet
import Derived.WalkSmall
import Derived.Deep.DeepCutAuto
import Derived.Deep.RegionHeld3
namespace Go.Proofs.Yteendpdidkekkaa
open Go.RowKit
set_option linter.unusedSimpArgs false
set_option linter.unusedVariables false

def sixL : List AcT := [(0, 1, true, false), (0, 1, false, false), (0, 1, false, false), (0, 1, false, false), (4, 2, true, false), (4, 1, false, true)]
def thrL : List AcT := [(0, 1, false, false), (4, 2, true, false), (4, 1, false, true)]
theorem sixL_ok : ∀ s ∈ sixL, okA s := by
  intro s hs
  simp [sixL] at hs
  rcases hs with rfl | rfl | rfl | rfl <;> exact ⟨by decide, by decide⟩
theorem RdA.drop {w : World} {b off : Nat} {L : List AcT} (h : RdA w (some ⟨b, off, none⟩) L) (k : Nat) : RdA w (some ⟨b, off + k * 4, none⟩) (L.drop k) := by
  refine ⟨fun s hs => h.1 s (List.mem_of_mem_drop hs), fun i hi => ?_⟩
  rw [List.length_drop] at hi
  obtain ⟨b', off', e, c0, c1, c2, c3⟩ := h.2 (k + i) (by omega)
  cases e
  have hg : (L.drop k).getD i zA = L.getD (k + i) zA := by simp [List.getD]
  rw [hg]
  have e : off + (k + i) * 4 = off + k * 4 + i * 4 := by omega
  rw [e] at c0 c1 c2 c3
  exact ⟨b, _, rfl, c0, c1, c2, c3⟩
set_option maxHeartbeats 2000000 in
set_option maxRecDepth 100000 in
theorem six_c (w : World) : Calls Try.prog 30 #[] w fun e w' => ∃ g c : Nat, e = .returned (.slice (some ⟨g, 0, none⟩) 6 c) ∧ 6 ≤ c ∧ RdA w' (some ⟨g, 0, none⟩) sixL ∧ Below w.heap.size w w' := by
  have hw := r20new w
  go_enter Try.func30, Try.ntmps30
  go_wp2_with fail
  refine hw.mono ?_; clear hw; rintro e w1 ⟨b, rfl, ho, hb⟩
  have hb1 := below1 w1 (.cells #[.int .i64 0, .int .i64 1, .bool false, .bool false, .int .i64 4, .int .i64 2, .bool true, .bool false, .int .i64 4, .int .i64 1, .bool false, .bool true] 35)
  have hO : OwnA (w1.alloc (.cells #[.int .i64 0, .int .i64 1, .bool false, .bool false, .int .i64 4, .int .i64 2, .bool true, .bool false, .int .i64 4, .int .i64 1, .bool false, .bool true] 35)) w.heap.size (.slice (some ⟨b, 0, none⟩) ownL.length 3) ownL := ho.below hb1
  have hS : SlC (w1.alloc (.cells #[.int .i64 0, .int .i64 1, .bool false, .bool false, .int .i64 4, .int .i64 2, .bool true, .bool false, .int .i64 4, .int .i64 1, .bool false, .bool true] 35)) (.slice (some ⟨w1.heap.size, 0, none⟩) thrL.length 3) 4 thrL.length (rowA thrL) :=
    ownsRow_slc (World.ownsRow_lit (base := w1.heap.size) (e := 35) (size := 4) w1 #[.int .i64 0, .int .i64 1, .bool false, .bool false, .int .i64 4, .int .i64 2, .bool true, .bool false, .int .i64 4, .int .i64 1, .bool false, .bool true] 3 (Nat.le_refl _) (by unfold maxLen; omega) rfl)
  have HB : Hid (Below w.heap.size w (w1.alloc (.cells #[.int .i64 0, .int .i64 1, .bool false, .bool false, .int .i64 4, .int .i64 2, .bool true, .bool false, .int .i64 4, .int .i64 1, .bool false, .bool true] 35))) := hb.trans (hb1.mono hb.size)
  have HO := Lib.hid hO
  have HS := Lib.hid hS
  have hsz := HB.out.size
  clear ho hb hb1 hO hS
  go_wp2_with
    (at_builtin
     refine wp_catA _ rfl (.tmp 1) (.tmp 5) rfl w.heap.size _ ownL thrL (some ⟨w1.heap.size, 0, none⟩) 3 rfl HO.out rfl HS.out (by decide) hsz ?_
     intro v5 w5 ho5 hb5
     obtain ⟨g, cg, hv⟩ : ∃ g cg, v5 = .slice (some ⟨g, 0, none⟩) 6 cg ∧ 6 ≤ cg := by
       rcases ho5.2 with ⟨_, q⟩ | ⟨g, cap, cur, e, _, _, h6, _⟩
       · cases q
       · exact ⟨g, cap, e, h6⟩
     obtain ⟨rfl, hcg⟩ := hv
     have HR5 : Hid (RdA w5 (some ⟨g, 0, none⟩) sixL) := by
       obtain ⟨a', c', e, _, _, q⟩ := ho5.reads sixL_ok
       injection e with e1
       rw [e1]; exact q
     have HB5 : Hid (Below w.heap.size w w5) := HB.out.trans hb5
     clear ho5 hb5)
  go_ret
  exact ⟨g, cg, rfl, hcg, HR5.out, HB5.out⟩
theorem check20 (a : Option Addr) (c m : Nat) (L : List AcT) (v x : Int) (w : World) (hL : RdA w a L) (hm : L.length = m) (hl : m ≤ 1000) (hc : m ≤ c) (hv : ckV L = v) (hx : ckE L = x) :
    Calls Try.prog 9 #[.slice a m c] w fun e w' => e = .returned (.tuple #[.int .i64 v, .int .i64 x]) ∧ Below w.heap.size w w' := by
  subst hm; subst hv; subst hx
  exact check_a a c L w hL hc hl
theorem add20 (a : Option Addr) (c m : Nat) (L M : List AcT) (s : AcT) (x : Int) (w : World) (hL : RdA w a L) (hm : L.length = m) (hl : m ≤ 1000) (hc : m ≤ c) (ca : a = none → c = 0) (hs : okA s) (hx : adE L s = x) (hM : adL L s = M) :
    Calls Try.prog 22 #[.slice a m c, .agg #[.int .i64 s.1, .int .i64 s.2.1, .bool s.2.2.1, .bool s.2.2.2]] w fun e w' => ∃ v, e = .returned (.tuple #[v, .int .i64 x]) ∧ OwnA w' w.heap.size v M ∧ Below w.heap.size w w' := by
  subst hm; subst hx; subst hM
  exact add_a a c L s w hL hl hc ca hs
theorem move20 (a : Option Addr) (c m : Nat) (L M : List AcT) (y p x : Int) (w : World) (hL : RdA w a L) (hm : L.length = m) (hl : m ≤ 1000) (hc : m ≤ c) (hx : mvE L y p = x) (hM : mvL L y p = M) :
    Calls Try.prog 24 #[.slice a m c, .int .i64 y, .int .i64 p] w fun e w' => ∃ v, e = .returned (.tuple #[v, .int .i64 x]) ∧ OwnA w' w.heap.size v M ∧ Below w.heap.size w w' := by
  subst hm; subst hx; subst hM
  exact move_a a c L y p w hL hl hc
theorem walk20 (a : Option Addr) (c m : Nat) (L : List AcT) (P : List (Int × Int)) (w : World) (hL : RdA w a L) (hm : L.length = m) (hl : m ≤ 1000) (hP : wst L.length (pa L) 0 0 = P) :
    Calls Try.prog 28 #[.slice a m c] w fun e w' => ∃ v, e = .returned v ∧ Own2 w' w.heap.size v P ∧ Below w.heap.size w w' := by
  subst hm; subst hP
  exact walk_a a c L w hL hl
theorem leaves20 (a : Option Addr) (c m : Nat) (L : List AcT) (M : List Int) (w : World) (hL : RdA w a L) (hm : L.length = m) (hl : m ≤ 1000) (hM : lvs L.length (pa L) = M) :
    Calls Try.prog 16 #[.slice a m c] w fun e w' => ∃ v, e = .returned v ∧ Own w' w.heap.size v M ∧ Below w.heap.size w w' := by
  subst hm; subst hM
  exact leaves_a a c L w hL hl
theorem under20 (a : Option Addr) (c m : Nat) (L : List AcT) (y : Int) (M : List Int) (w : World) (hL : RdA w a L) (hm : L.length = m) (hl : m ≤ 1000) (hM : unl L.length (pa L) y = M) :
    Calls Try.prog 20 #[.slice a m c, .int .i64 y] w fun e w' => ∃ v, e = .returned v ∧ Own w' w.heap.size v M ∧ Below w.heap.size w w' := by
  subst hm; subst hM
  exact under_a a c L y w hL hl
theorem up20 (a : Option Addr) (c m : Nat) (L : List AcT) (y : Int) (M : List Int) (w : World) (hL : RdA w a L) (hm : L.length = m) (hl : m ≤ 1000) (hM : ups L.length (pa L) y = M) :
    Calls Try.prog 18 #[.slice a m c, .int .i64 y] w fun e w' => ∃ v, e = .returned v ∧ Own w' w.heap.size v M ∧ Below w.heap.size w w' := by
  subst hm; subst hM
  exact up_a a c L y w hL hl
theorem children20 (a : Option Addr) (c m : Nat) (L : List AcT) (y : Int) (M : List Int) (w : World) (hL : RdA w a L) (hm : L.length = m) (hl : m ≤ 1000) (hM : chs L.length (pa L) y = M) :
    Calls Try.prog 12 #[.slice a m c, .int .i64 y] w fun e w' => ∃ v, e = .returned v ∧ Own w' w.heap.size v M ∧ Below w.heap.size w w' := by
  subst hm; subst hM
  exact children_a a c L y w hL hl
theorem leaf20 (a : Option Addr) (c m : Nat) (L : List AcT) (y : Int) (t : Bool) (w : World) (hL : RdA w a L) (hm : L.length = m) (hl : m ≤ 1000) (ht : lfa L.length (pa L) y = t) :
    Calls Try.prog 14 #[.slice a m c, .int .i64 y] w fun e w' => e = .returned (.bool t) ∧ Below w.heap.size w w' := by
  subst hm; subst ht
  exact leaf_a a c L y w hL hl
theorem same20 (a a' : Option Addr) (c c' n m : Nat) (L M : List Int) (w : World) (hL : Reads w a L) (hM : Reads w a' M) (hn : L.length = n) (hm : M.length = m) (h : L = M) (hl : n ≤ 1000000) :
    Calls Try.prog 11 #[.slice a n c, .slice a' m c'] w fun e w' => e = .returned (.bool true) ∧ Below w.heap.size w w' := by
  subst hn; subst hm
  have := same_any a a' c c' L M w hL hM (by omega)
  rwa [decide_eq_true h] at this
theorem sameA20 (a b : Option Addr) (c d n m : Nat) (L M : List AcT) (w : World) (hL : RdA w a L) (hM : RdA w b M) (hn : L.length = n) (hm : M.length = m) (h : L = M) (hl : n ≤ 1000) :
    Calls Try.prog 26 #[.slice a n c, .slice b m d] w fun e w' => e = .returned (.bool true) ∧ Below w.heap.size w w' := by
  subst hn; subst hm
  have := r20same a b c d L M w hL hM (by omega) (by rw [← h]; omega)
  rwa [decide_eq_true h] at this
theorem lit20 (w : World) (L : List Int) (hL : ∀ z ∈ L, InR z) : Reads (w.alloc (.cells (L.map (Value.int .i64)).toArray 3)) (some ⟨w.heap.size, 0, none⟩) L :=
  ⟨hL, fun i hi => ⟨w.heap.size, 0, rfl, by rw [getD_lt _ _ hi]; simp [hi]⟩⟩
theorem eq_node20 (a b c d : Int) (w : World) : (Op.equalIn 10000 52 (.agg #[.int .i64 a, .int .i64 b]) (.agg #[.int .i64 c, .int .i64 d])).run Try.prog w = .ok (a == c && b == d) w := by
  simp [go_sem]
  by_cases h1 : a = c <;> by_cases h2 : b = d <;> simp [h1, h2]
theorem OwnA.rd {w : World} {base n c : Nat} {a : Option Addr} {L : List AcT} (h : OwnA w base (.slice a n c) L) (hL : ∀ s ∈ L, okA s) : RdA w a L ∧ L.length = n := by
  obtain ⟨a', c', e, _, _, q⟩ := h.reads hL
  injection e with e1 e2
  rw [e1]; exact ⟨q, e2.symm⟩
def sevL : List AcT := sixL ++ [(4, 3, false, false)]
def movL : List AcT := [(0, 1, true, false), (0, 1, false, false), (0, 1, false, false), (0, 1, false, false), (4, 2, true, false), (0, 1, false, true)]
theorem movL_ok : ∀ s ∈ movL, okA s := by
  intro s hs
  simp [movL] at hs
  rcases hs with rfl | rfl | rfl | rfl <;> exact ⟨by decide, by decide⟩
theorem aw20_0 : ckV sixL = 6 := by decide +kernel
theorem aw20_1 : ckE sixL = 0 := by decide +kernel
theorem aw20_2 : ckV (sixL.drop 1) = 0 := by decide +kernel
theorem aw20_3 : ckE (sixL.drop 1) = 28 := by decide +kernel
theorem aw20_4 : adE sixL (4, 3, false, false) = 0 := by decide +kernel
theorem aw20_5 : adL sixL (4, 3, false, false) = sevL := by decide +kernel
theorem aw20_6 : adE sixL (2, 3, false, false) = 28 := by decide +kernel
theorem aw20_7 : adL sixL (2, 3, false, false) = [] := by decide +kernel
theorem aw20_8 : mvE sixL 6 0 = 0 := by decide +kernel
theorem aw20_9 : mvL sixL 6 0 = movL := by decide +kernel
theorem aw20_10 : mvE sixL 4 5 = 26 := by decide +kernel
theorem aw20_11 : mvL sixL 4 5 = [] := by decide +kernel
theorem aw20_12 : mvE sixL 3 4 = 28 := by decide +kernel
theorem aw20_13 : mvL sixL 3 4 = [] := by decide +kernel
theorem aw20_14 : wst sixL.length (pa sixL) 0 0 = [(1, 0), (2, 0), (3, 0), (4, 0), (5, 1), (6, 1)] := by decide +kernel
theorem aw20_15 : lvs sixL.length (pa sixL) = [1, 2, 3, 5, 6] := by decide +kernel
theorem aw20_16 : unl sixL.length (pa sixL) 4 = [5, 6] := by decide +kernel
theorem aw20_17 : ups sixL.length (pa sixL) 6 = [4] := by decide +kernel
theorem aw20_18 : chs sixL.length (pa sixL) 4 = [5, 6] := by decide +kernel
theorem aw20_19 : lfa sixL.length (pa sixL) 5 = true := by decide +kernel
theorem aw20_20 : lfa sixL.length (pa sixL) 4 = false := by decide +kernel
theorem aw20_21 : lfa sixL.length (pa sixL) 7 = false := by decide +kernel
set_option maxHeartbeats 8000000 in
set_option maxRecDepth 100000 in
theorem awake20 (w : World) : Calls Try.prog 8 #[] w fun e w' => e = .returned (.bool true) ∧ Below w.heap.size w w' := by
  have heq := eq_node20
  go_enter Try.func8, Try.ntmps8
  go_wp2_with fail
  refine (six_c _).mono ?_; rintro e w1 ⟨g, c, rfl, hc, hR, hb1⟩
  have HB1 := Lib.hid hb1
  have HR := Lib.hid hR
  have HR1 : Hid (RdA w1 (some ⟨g, 4, none⟩) (sixL.drop 1)) := by show RdA _ _ _; have := hR.drop 1; rwa [Nat.one_mul, Nat.zero_add] at this
  have HK1 : Hid (Below w1.heap.size w1 w1) := Below.refl _ _
  clear hb1 hR
  go_wp2_with fail
  refine (check20 (some ⟨g, 0, none⟩) c 6 sixL 6 0 _ (HR.out.below HK1.out) rfl (by omega) hc aw20_0 aw20_1).mono ?_; rintro e w2 ⟨rfl, hb2⟩
  have HK2 : Hid (Below w1.heap.size w1 w2) := HK1.out.trans (hb2.mono HK1.out.size)
  clear hb2
  have hc5 : 5 ≤ c - 1 := by omega
  have hc1 : (1 : Int) ≤ (c : Int) := by omega
  go_wp2_with fail
  refine (check20 (some ⟨g, 4, none⟩) (c - 1) 5 (sixL.drop 1) 0 28 _ (HR1.out.below HK2.out) rfl (by omega) hc5 aw20_2 aw20_3).mono ?_; rintro e w3 ⟨rfl, hb3⟩
  have HK3 : Hid (Below w1.heap.size w1 w3) := HK2.out.trans (hb3.mono HK2.out.size)
  clear hc5 hc1
  clear hb3
  go_wp2_with fail
  refine (add20 (some ⟨g, 0, none⟩) c 6 sixL sevL (4, 3, false, false) 0 _ (HR.out.below HK3.out) rfl (by omega) hc (fun q => by cases q) ⟨by decide, by decide⟩ aw20_4 aw20_5).mono ?_; rintro e w4 ⟨v4, rfl, ho4, hb4⟩
  have HK4 : Hid (Below w1.heap.size w1 w4) := HK3.out.trans (hb4.mono HK3.out.size)
  obtain ⟨a4, c4, rfl⟩ := (ownsRow_slc ho4).form
  clear ho4
  clear hb4
  go_wp2_with fail
  refine (add20 (some ⟨g, 0, none⟩) c 6 sixL [] (2, 3, false, false) 28 _ (HR.out.below HK4.out) rfl (by omega) hc (fun q => by cases q) ⟨by decide, by decide⟩ aw20_6 aw20_7).mono ?_; rintro e w5 ⟨v5, rfl, ho5, hb5⟩
  have HK5 : Hid (Below w1.heap.size w1 w5) := HK4.out.trans (hb5.mono HK4.out.size)
  obtain ⟨a5, c5, rfl⟩ := (ownsRow_slc ho5).form
  clear ho5
  clear hb5
  go_wp2_with fail
  refine (move20 (some ⟨g, 0, none⟩) c 6 sixL movL 6 0 0 _ (HR.out.below HK5.out) rfl (by omega) hc aw20_8 aw20_9).mono ?_; rintro e w6 ⟨v6, rfl, ho6, hb6⟩
  have HK6 : Hid (Below w1.heap.size w1 w6) := HK5.out.trans (hb6.mono HK5.out.size)
  obtain ⟨gm, cm, rfl⟩ : ∃ gm cm, v6 = .slice (some ⟨gm, 0, none⟩) 6 cm := by
    rcases ho6.2 with ⟨_, q⟩ | ⟨gm, cap, cur, e, _⟩
    · cases q
    · exact ⟨gm, cap, e⟩
  have HM : Hid (w6.cell? ⟨gm, 20, none⟩ = some (.int .i64 0)) := World.ownsRow.cellAt ho6 20 (by decide)
  clear ho6
  clear hb6
  go_wp2_with fail
  refine (move20 (some ⟨g, 0, none⟩) c 6 sixL [] 4 5 26 _ (HR.out.below HK6.out) rfl (by omega) hc aw20_10 aw20_11).mono ?_; rintro e w7 ⟨v7, rfl, ho7, hb7⟩
  have HK7 : Hid (Below w1.heap.size w1 w7) := HK6.out.trans (hb7.mono HK6.out.size)
  have HMQ := Lib.hid ((hb7.cell (p := ⟨gm, 20, none⟩) (World.block_lt_of_cell? _ _ HM.out)).trans HM.out)
  clear HM
  have HM := HMQ
  clear HMQ
  obtain ⟨a7, c7, rfl⟩ := (ownsRow_slc ho7).form
  clear ho7
  clear hb7
  go_wp2_with fail
  refine (move20 (some ⟨g, 0, none⟩) c 6 sixL [] 3 4 28 _ (HR.out.below HK7.out) rfl (by omega) hc aw20_12 aw20_13).mono ?_; rintro e w8 ⟨v8, rfl, ho8, hb8⟩
  have HK8 : Hid (Below w1.heap.size w1 w8) := HK7.out.trans (hb8.mono HK7.out.size)
  have HMQ := Lib.hid ((hb8.cell (p := ⟨gm, 20, none⟩) (World.block_lt_of_cell? _ _ HM.out)).trans HM.out)
  clear HM
  have HM := HMQ
  clear HMQ
  obtain ⟨a8, c8, rfl⟩ := (ownsRow_slc ho8).form
  clear ho8
  clear hb8
  go_wp2_with fail
  refine (walk20 (some ⟨g, 0, none⟩) c 6 sixL [(1, 0), (2, 0), (3, 0), (4, 0), (5, 1), (6, 1)] _ (HR.out.below HK8.out) rfl (by omega) aw20_14).mono ?_; rintro e w9 ⟨v9, rfl, ho9, hb9⟩
  have HK9 : Hid (Below w1.heap.size w1 w9) := HK8.out.trans (hb9.mono HK8.out.size)
  have HMQ := Lib.hid ((hb9.cell (p := ⟨gm, 20, none⟩) (World.block_lt_of_cell? _ _ HM.out)).trans HM.out)
  clear HM
  have HM := HMQ
  clear HMQ
  obtain ⟨gw, cw, rfl⟩ : ∃ gw cw, v9 = .slice (some ⟨gw, 0, none⟩) 6 cw := by
    rcases ho9.2 with ⟨_, q⟩ | ⟨gm, cap, cur, e, _⟩
    · cases q
    · exact ⟨gm, cap, e⟩
  have hw8 : w9.cell? ⟨gw, 8, none⟩ = some (.int .i64 5) := World.ownsRow.cellAt ho9 8 (by decide)
  have hw9 : w9.cell? ⟨gw, 9, none⟩ = some (.int .i64 1) := World.ownsRow.cellAt ho9 9 (by decide)
  clear ho9
  clear hb9
  go_wp2_with fail
  refine (new_c w9).mono ?_; rintro e w10 ⟨b10, rfl, ho10, hb10⟩
  have HK10 : Hid (Below w1.heap.size w1 w10) := HK9.out.trans (hb10.mono HK9.out.size)
  have HMQ := Lib.hid ((hb10.cell (p := ⟨gm, 20, none⟩) (World.block_lt_of_cell? _ _ HM.out)).trans HM.out)
  clear HM
  have HM := HMQ
  clear HMQ
  have HN10 := Lib.hid ho10
  clear ho10 hw8 hw9
  clear hb10
  go_wp2_with fail
  refine (r20new w10).mono ?_; rintro e w11 ⟨b11, rfl, ho11, hb11⟩
  have HK11 : Hid (Below w1.heap.size w1 w11) := HK10.out.trans (hb11.mono HK10.out.size)
  have HMQ := Lib.hid ((hb11.cell (p := ⟨gm, 20, none⟩) (World.block_lt_of_cell? _ _ HM.out)).trans HM.out)
  clear HM
  have HM := HMQ
  clear HMQ
  have HN11 := Lib.hid (And.intro (HN10.out.below hb11) ho11)
  clear ho11
  clear hb11
  go_wp2_with fail
  refine (sameA20 (some ⟨b10, 0, none⟩) (some ⟨b11, 0, none⟩) 3 3 3 3 ownL ownL _ (HN11.out.1.rd ownL_ok).1 (HN11.out.2.rd ownL_ok).1 rfl rfl rfl (by omega)).mono ?_; rintro e w12 ⟨rfl, hb12⟩
  have HK12 : Hid (Below w1.heap.size w1 w12) := HK11.out.trans (hb12.mono HK11.out.size)
  have HMQ := Lib.hid ((hb12.cell (p := ⟨gm, 20, none⟩) (World.block_lt_of_cell? _ _ HM.out)).trans HM.out)
  clear HM
  have HM := HMQ
  clear HMQ
  have hm20 := HM.out
  clear hb12
  go_wp2_with fail
  refine (leaves20 (some ⟨g, 0, none⟩) c 6 sixL [1, 2, 3, 5, 6] _ (HR.out.below HK12.out) rfl (by omega) aw20_15).mono ?_; rintro e w13 ⟨u13, rfl, ho13, hb13⟩
  have HK13 : Hid (Below w1.heap.size w1 w13) := HK12.out.trans (hb13.mono HK12.out.size)
  clear hm20
  clear hb13
  obtain ⟨ra13, rc13, rfl, -, hr13⟩ := ho13.reads (show ∀ z ∈ ([1, 2, 3, 5, 6] : List Int), InR z by decide)
  have hb13b := below1 w13 (.cells #[.int .i64 1, .int .i64 2, .int .i64 3, .int .i64 5, .int .i64 6] 3)
  have HR13 := Lib.hid (And.intro (hr13.below hb13b) (lit20 w13 [1, 2, 3, 5, 6] (by decide)))
  have HK13' : Hid (Below w1.heap.size w1 (w13.alloc (.cells #[.int .i64 1, .int .i64 2, .int .i64 3, .int .i64 5, .int .i64 6] 3))) := HK13.out.trans (hb13b.mono HK13.out.size)
  clear HK13 hb13b ho13 hr13
  have HK13 := HK13'
  clear HK13'
  go_wp2_with fail
  refine (same20 ra13 _ rc13 5 5 5 [1, 2, 3, 5, 6] [1, 2, 3, 5, 6] _ HR13.out.1 HR13.out.2 rfl rfl rfl (by omega)).mono ?_; rintro e w14 ⟨rfl, hb14⟩
  have HK14 : Hid (Below w1.heap.size w1 w14) := HK13.out.trans (hb14.mono HK13.out.size)
  clear hb14
  go_wp2_with fail
  refine (under20 (some ⟨g, 0, none⟩) c 6 sixL 4 [5, 6] _ (HR.out.below HK14.out) rfl (by omega) aw20_16).mono ?_; rintro e w15 ⟨u15, rfl, ho15, hb15⟩
  have HK15 : Hid (Below w1.heap.size w1 w15) := HK14.out.trans (hb15.mono HK14.out.size)
  clear hb15
  obtain ⟨ra15, rc15, rfl, -, hr15⟩ := ho15.reads (show ∀ z ∈ ([5, 6] : List Int), InR z by decide)
  have hb15b := below1 w15 (.cells #[.int .i64 5, .int .i64 6] 3)
  have HR15 := Lib.hid (And.intro (hr15.below hb15b) (lit20 w15 [5, 6] (by decide)))
  have HK15' : Hid (Below w1.heap.size w1 (w15.alloc (.cells #[.int .i64 5, .int .i64 6] 3))) := HK15.out.trans (hb15b.mono HK15.out.size)
  clear HK15 hb15b ho15 hr15
  have HK15 := HK15'
  clear HK15'
  go_wp2_with fail
  refine (same20 ra15 _ rc15 2 2 2 [5, 6] [5, 6] _ HR15.out.1 HR15.out.2 rfl rfl rfl (by omega)).mono ?_; rintro e w16 ⟨rfl, hb16⟩
  have HK16 : Hid (Below w1.heap.size w1 w16) := HK15.out.trans (hb16.mono HK15.out.size)
  clear hb16
  go_wp2_with fail
  refine (up20 (some ⟨g, 0, none⟩) c 6 sixL 6 [4] _ (HR.out.below HK16.out) rfl (by omega) aw20_17).mono ?_; rintro e w17 ⟨u17, rfl, ho17, hb17⟩
  have HK17 : Hid (Below w1.heap.size w1 w17) := HK16.out.trans (hb17.mono HK16.out.size)
  clear hb17
  obtain ⟨ra17, rc17, rfl, -, hr17⟩ := ho17.reads (show ∀ z ∈ ([4] : List Int), InR z by decide)
  have hb17b := below1 w17 (.cells #[.int .i64 4] 3)
  have HR17 := Lib.hid (And.intro (hr17.below hb17b) (lit20 w17 [4] (by decide)))
  have HK17' : Hid (Below w1.heap.size w1 (w17.alloc (.cells #[.int .i64 4] 3))) := HK17.out.trans (hb17b.mono HK17.out.size)
  clear HK17 hb17b ho17 hr17
  have HK17 := HK17'
  clear HK17'
  go_wp2_with fail
  refine (same20 ra17 _ rc17 1 1 1 [4] [4] _ HR17.out.1 HR17.out.2 rfl rfl rfl (by omega)).mono ?_; rintro e w18 ⟨rfl, hb18⟩
  have HK18 : Hid (Below w1.heap.size w1 w18) := HK17.out.trans (hb18.mono HK17.out.size)
  clear hb18
  go_wp2_with fail
  refine (children20 (some ⟨g, 0, none⟩) c 6 sixL 4 [5, 6] _ (HR.out.below HK18.out) rfl (by omega) aw20_18).mono ?_; rintro e w19 ⟨u19, rfl, ho19, hb19⟩
  have HK19 : Hid (Below w1.heap.size w1 w19) := HK18.out.trans (hb19.mono HK18.out.size)
  clear hb19
  obtain ⟨ra19, rc19, rfl, -, hr19⟩ := ho19.reads (show ∀ z ∈ ([5, 6] : List Int), InR z by decide)
  have hb19b := below1 w19 (.cells #[.int .i64 5, .int .i64 6] 3)
  have HR19 := Lib.hid (And.intro (hr19.below hb19b) (lit20 w19 [5, 6] (by decide)))
  have HK19' : Hid (Below w1.heap.size w1 (w19.alloc (.cells #[.int .i64 5, .int .i64 6] 3))) := HK19.out.trans (hb19b.mono HK19.out.size)
  clear HK19 hb19b ho19 hr19
  have HK19 := HK19'
  clear HK19'
  go_wp2_with fail
  refine (same20 ra19 _ rc19 2 2 2 [5, 6] [5, 6] _ HR19.out.1 HR19.out.2 rfl rfl rfl (by omega)).mono ?_; rintro e w20 ⟨rfl, hb20⟩
  have HK20 : Hid (Below w1.heap.size w1 w20) := HK19.out.trans (hb20.mono HK19.out.size)
  clear hb20
  go_wp2_with fail
  refine (leaf20 (some ⟨g, 0, none⟩) c 6 sixL 5 true _ (HR.out.below HK20.out) rfl (by omega) aw20_19).mono ?_; rintro e w21 ⟨rfl, hb21⟩
  have HK21 : Hid (Below w1.heap.size w1 w21) := HK20.out.trans (hb21.mono HK20.out.size)
  clear hb21
  go_wp2_with fail
  refine (leaf20 (some ⟨g, 0, none⟩) c 6 sixL 4 false _ (HR.out.below HK21.out) rfl (by omega) aw20_20).mono ?_; rintro e w22 ⟨rfl, hb22⟩
  have HK22 : Hid (Below w1.heap.size w1 w22) := HK21.out.trans (hb22.mono HK21.out.size)
  clear hb22
  go_wp2_with fail
  refine (leaf20 (some ⟨g, 0, none⟩) c 6 sixL 7 false _ (HR.out.below HK22.out) rfl (by omega) aw20_21).mono ?_; rintro e w23 ⟨rfl, hb23⟩
  have HK23 : Hid (Below w1.heap.size w1 w23) := HK22.out.trans (hb23.mono HK22.out.size)
  clear hb23
  go_wp2_with fail
  go_ret
  exact ⟨rfl, HB1.out.trans (HK23.out.mono HB1.out.size)⟩
end Go.Proofs.Yteendpdidkekkaa
