/-
  Layer 22's awake, and contracts at written numbers as its walk asks them. No conditions.
-/
import Derived.Test.YtadbelkckeokjaaLkC
import Derived.Test.YtadbelkckeokjaaRefHs
namespace Go.Proofs.Ytadbelkckeokjaa
open Go.RowKit
set_option linter.unusedSimpArgs false
set_option linter.unusedVariables false

theorem lit22 (w : World) (L : List Int) (hL : ∀ z ∈ L, InR z) : Reads (w.alloc (.cells (L.map (Value.int .i64)).toArray 3)) (some ⟨w.heap.size, 0, none⟩) L :=
  ⟨hL, fun i hi => ⟨w.heap.size, 0, rfl, by rw [getD_lt _ _ hi]; simp [hi]⟩⟩
theorem nil22 (w : World) (a : Option Addr) : Reads w a [] := ⟨fun z hz => (by cases hz), fun i hi => absurd hi (by simp)⟩
theorem litL (w : World) (s : LkT) (hs : okL s) : RdL (w.alloc (objK s)) (some ⟨w.heap.size, 0, none⟩) [s] :=
  rdL_of (c := 1) (by simpa [rowL] using oneL w s) (fun t ht => by cases List.mem_singleton.1 ht; exact hs)
theorem same22 (a a' : Option Addr) (c c' n m : Nat) (L M : List Int) (w : World) (hL : Reads w a L) (hM : Reads w a' M) (hn : L.length = n) (hm : M.length = m) (h : L = M) (hl : n ≤ 1000000) :
    Calls Try.prog 9 #[.slice a n c, .slice a' m c'] w fun e w' => e = .returned (.bool true) ∧ Below w.heap.size w w' := by
  subst hn; subst hm
  have := same_any a a' c c' L M w hL hM (by omega)
  rwa [decide_eq_true h] at this
theorem check22 (a : Option Addr) (c n : Nat) (L : List LkT) (N v e : Int) (w : World) (hL : RdL w a L) (hn : L.length = n) (hl : n ≤ 100000) (hc : n ≤ c) (hv : chV L N = v) (he : chE L N = e) :
    Calls Try.prog 8 #[.slice a n c, .int .i64 N] w fun en w' => en = .returned (.tuple #[.int .i64 v, .int .i64 e]) ∧ Below w.heap.size w w' := by
  subst hn; subst hv; subst he
  exact check_l a c L N w hL hl hc
theorem add22 (a : Option Addr) (c n m : Nat) (L M : List LkT) (x y N e : Int) (w : World) (hL : RdL w a L) (hn : L.length = n) (hl : n ≤ 100000) (hc : n ≤ c) (ca : a = none → c = 0) (hs : okL (x, y)) (hM : adL L (x, y) N = M) (hm : M.length = m) (he : adE L (x, y) N = e) :
    Calls Try.prog 5 #[.slice a n c, .agg #[.int .i64 x, .int .i64 y], .int .i64 N] w fun en w' => ∃ ma mc, en = .returned (.tuple #[.slice ma m mc, .int .i64 e]) ∧ RdL w' ma M ∧ Below w.heap.size w w' := by
  subst hn; subst he
  have hok : ∀ s ∈ adL L (x, y) N, okL s := fun s h => by
    unfold adL at h
    split at h
    · rcases List.mem_append.1 h with h | h
      · exact hL.1 s h
      · cases List.mem_singleton.1 h; exact hs
    · cases h
  rw [hM] at hok
  refine (add_l a c L x y N w hL hl hc ca hs).mono fun en w' ⟨v, h1, h2, h3⟩ => ?_
  rw [hM] at h2
  obtain ⟨ma, mc, rfl, _, _, q3⟩ := h2.reads hok
  rw [hm] at h1
  exact ⟨ma, mc, h1, q3, h3⟩
theorem last22 (a : Option Addr) (c n : Nat) (L : List LkT) (x v : Int) (w : World) (hL : RdL w a L) (hn : L.length = n) (hl : n ≤ 1000000) (hx : InR x) (hv : las L x = v) :
    Calls Try.prog 7 #[.slice a n c, .int .i64 x] w fun en w' => en = .returned (.int .i64 v) ∧ Below w.heap.size w w' := by
  subst hn; subst hv
  exact last_l a c L x hx hl w hL
theorem lockd22 (a : Option Addr) (c n : Nat) (L : List LkT) (p : Int) (a' : Option Addr) (c' m : Nat) (es : List Int) (r : Bool) (w : World) (hL : RdL w a L) (hE : Reads w a' es) (hn : L.length = n) (hm : es.length = m) (hl : n ≤ 1000000) (hl' : m ≤ 1000000) (hr : lkd L p es = r) :
    Calls Try.prog 6 #[.slice a n c, .int .i64 p, .slice a' m c'] w fun en w' => en = .returned (.bool r) ∧ Below w.heap.size w w' := by
  subst hn; subst hm; subst hr
  exact locked_l a c L p a' c' es hl hl' w hL hE
theorem open22 (a : Option Addr) (c n k : Nat) (L : List LkT) (N p : Int) (F : List Int) (w : World) (hL : RdL w a L) (hn : L.length = n) (hl : n ≤ 100000) (hF : opn L p (min N 40).toNat = F) (hk : F.length = k) (hi : ∀ z ∈ F, InR z) :
    Calls Try.prog 10 #[.slice a n c, .int .i64 N, .int .i64 p] w fun en w' => ∃ fa fc, en = .returned (.slice fa k fc) ∧ Reads w' fa F ∧ Below w.heap.size w w' := by
  subst hn
  refine (open_l a c L N p w hL hl).mono fun en w' ⟨v, h1, h2, h3⟩ => ?_
  rw [hF] at h2
  obtain ⟨fa, fc, rfl, _, hr⟩ := h2.reads hi
  rw [hk] at h1
  exact ⟨fa, fc, h1, hr, h3⟩

set_option maxHeartbeats 8000000 in
set_option maxRecDepth 100000 in
theorem awake22 (w : World) : Calls Try.prog 4 #[] w fun e w' => e = .returned (.bool true) ∧ Below w.heap.size w w' := by
  have hR0 := litL w (2, 3) ⟨by decide, by decide⟩
  have HB0 := Lib.hid (below1 w (objK (2, 3)))
  go_enter Try.func4, Try.ntmps4
  go_wp2_with fail
  have HA : Hid ((some ⟨w.heap.size, 0, none⟩ : Option Addr) = none → 1 = 0) := fun q => by cases q
  generalize hW : w.alloc (objK (2, 3)) = W at *
  clear hW
  obtain ⟨al, hal⟩ : ∃ al : Option Addr, some ⟨w.heap.size, 0, none⟩ = al := ⟨_, rfl⟩
  rw [hal] at hR0 HA ⊢
  clear hal
  have HR0 := Lib.hid hR0; clear hR0
  have HB1 := Lib.hid (Below.refl W.heap.size W)
  refine (check22 al 1 1 [(2, 3)] 2 1 0 W HR0.out rfl (by omega) (by omega) (by decide) (by decide)).mono ?_; rintro e w2 ⟨rfl, hb2⟩
  have HB2 : Hid (Below W.heap.size W w2) := HB1.out.trans (hb2.mono HB1.out.size)
  clear hb2
  go_wp2_with fail
  refine (add22 al 1 1 2 [(2, 3)] [(2, 3), (2, 4)] 2 4 2 0 _ (HR0.out.below HB2.out) rfl (by omega) (by omega) HA.out ⟨by decide, by decide⟩ (by decide) rfl (by decide)).mono ?_; rintro e w3 ⟨ma, mc, rfl, hM, hb3⟩
  have HB3 : Hid (Below W.heap.size W w3) := HB2.out.trans (hb3.mono HB2.out.size)
  clear hb3
  go_wp2_with fail
  refine (add22 al 1 1 0 [(2, 3)] [] 2 1 2 35 _ (HR0.out.below HB3.out) rfl (by omega) (by omega) HA.out ⟨by decide, by decide⟩ (by decide) rfl (by decide)).mono ?_; rintro e w4 ⟨ma2, mc2, rfl, hM2, hb4⟩
  have HB4 : Hid (Below W.heap.size W w4) := HB3.out.trans (hb4.mono HB3.out.size)
  clear hb4
  go_wp2_with fail
  refine (add22 al 1 1 0 [(2, 3)] [] 3 0 2 20 _ (HR0.out.below HB4.out) rfl (by omega) (by omega) HA.out ⟨by decide, by decide⟩ (by decide) rfl (by decide)).mono ?_; rintro e w5 ⟨ma3, mc3, rfl, hM3, hb5⟩
  have HB5 : Hid (Below W.heap.size W w5) := HB4.out.trans (hb5.mono HB4.out.size)
  clear hb5
  go_wp2_with fail
  refine (last22 al 1 1 [(2, 3)] 2 3 _ (HR0.out.below HB5.out) rfl (by omega) (by decide) (by decide)).mono ?_; rintro e w6 ⟨rfl, hb6⟩
  have HB6 : Hid (Below W.heap.size W w6) := HB5.out.trans (hb6.mono HB5.out.size)
  clear hb6
  go_wp2_with fail
  refine (last22 al 1 1 [(2, 3)] 1 (-1) _ (HR0.out.below HB6.out) rfl (by omega) (by decide) (by decide)).mono ?_; rintro e w7 ⟨rfl, hb7⟩
  have HB7 : Hid (Below W.heap.size W w7) := HB6.out.trans (hb7.mono HB6.out.size)
  clear hb7
  have HL8 : Hid (Reads (w7.alloc (.cells #[.int .i64 2] 3)) (some ⟨w7.heap.size, 0, none⟩) [2]) := lit22 w7 [2] (by decide)
  have hb8 := below1 w7 (.cells #[.int .i64 2] 3)
  have HB8 : Hid (Below W.heap.size W (w7.alloc (.cells #[.int .i64 2] 3))) := HB7.out.trans (hb8.mono HB7.out.size)
  clear hb8
  go_wp2_with fail
  refine (lockd22 al 1 1 [(2, 3)] 3 _ 1 1 [2] true _ (HR0.out.below HB8.out) HL8.out rfl rfl (by omega) (by omega) (by decide)).mono ?_; rintro e w9 ⟨rfl, hb9⟩
  have HB9 : Hid (Below W.heap.size W w9) := HB8.out.trans (hb9.mono HB8.out.size)
  clear hb9
  have HL10 : Hid (Reads (w9.alloc (.cells #[.int .i64 2] 3)) (some ⟨w9.heap.size, 0, none⟩) [2]) := lit22 w9 [2] (by decide)
  have hb10 := below1 w9 (.cells #[.int .i64 2] 3)
  have HB10 : Hid (Below W.heap.size W (w9.alloc (.cells #[.int .i64 2] 3))) := HB9.out.trans (hb10.mono HB9.out.size)
  clear hb10
  go_wp2_with fail
  refine (lockd22 al 1 1 [(2, 3)] 4 _ 1 1 [2] false _ (HR0.out.below HB10.out) HL10.out rfl rfl (by omega) (by omega) (by decide)).mono ?_; rintro e w11 ⟨rfl, hb11⟩
  have HB11 : Hid (Below W.heap.size W w11) := HB10.out.trans (hb11.mono HB10.out.size)
  clear hb11
  have HL12 : Hid (Reads (w11.alloc (.cells #[.int .i64 1, .int .i64 2] 3)) (some ⟨w11.heap.size, 0, none⟩) [1, 2]) := lit22 w11 [1, 2] (by decide)
  have hb12 := below1 w11 (.cells #[.int .i64 1, .int .i64 2] 3)
  have HB12 : Hid (Below W.heap.size W (w11.alloc (.cells #[.int .i64 1, .int .i64 2] 3))) := HB11.out.trans (hb12.mono HB11.out.size)
  clear hb12
  go_wp2_with fail
  refine (lockd22 al 1 1 [(2, 3)] 0 _ 2 2 [1, 2] true _ (HR0.out.below HB12.out) HL12.out rfl rfl (by omega) (by omega) (by decide)).mono ?_; rintro e w13 ⟨rfl, hb13⟩
  have HB13 : Hid (Below W.heap.size W w13) := HB12.out.trans (hb13.mono HB12.out.size)
  clear hb13
  go_wp2_with fail
  refine (lockd22 al 1 1 [(2, 3)] 0 none 0 0 [] false _ (HR0.out.below HB13.out) (nil22 _ _) rfl rfl (by omega) (by omega) (by decide)).mono ?_; rintro e w14 ⟨rfl, hb14⟩
  have HB14 : Hid (Below W.heap.size W w14) := HB13.out.trans (hb14.mono HB13.out.size)
  clear hb14
  go_wp2_with fail
  refine (open22 al 1 1 2 [(2, 3)] 3 2 [1, 3] _ (HR0.out.below HB14.out) rfl (by omega) (by decide) rfl (by decide)).mono ?_; rintro e w15 ⟨fa, fc, rfl, hF, hb15⟩
  have HB15 : Hid (Below W.heap.size W w15) := HB14.out.trans (hb15.mono HB14.out.size)
  clear hb15
  have HL16 : Hid (Reads (w15.alloc (.cells #[.int .i64 1, .int .i64 3] 3)) (some ⟨w15.heap.size, 0, none⟩) [1, 3]) := lit22 w15 [1, 3] (by decide)
  have hb16 := below1 w15 (.cells #[.int .i64 1, .int .i64 3] 3)
  have HB16 : Hid (Below W.heap.size W (w15.alloc (.cells #[.int .i64 1, .int .i64 3] 3))) := HB15.out.trans (hb16.mono HB15.out.size)
  have HF : Hid (Reads (w15.alloc (.cells #[.int .i64 1, .int .i64 3] 3)) fa [1, 3]) := hF.below hb16
  clear hb16 hF
  go_wp2_with fail
  refine (same22 fa _ fc 2 2 2 [1, 3] [1, 3] _ HF.out HL16.out rfl rfl rfl (by omega)).mono ?_; rintro e w17 ⟨rfl, hb17⟩
  have HB17 : Hid (Below W.heap.size W w17) := HB16.out.trans (hb17.mono HB16.out.size)
  clear hb17
  go_wp2_with fail
  go_ret
  exact ⟨rfl, HB0.out.trans (HB17.out.mono HB0.out.size)⟩
end Go.Proofs.Ytadbelkckeokjaa
