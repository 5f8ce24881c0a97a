/-
  GraphLast of layer 12. No conditions.
-/
import Derived.Test.YtpnhlfbohchmbaaGrT
namespace Go.Proofs.Ytpnhlfbohchmbaa
open Go.RowKit
set_option linter.unusedSimpArgs false
set_option linter.unusedVariables false

/-- Two graphs that were made behind w0, apart. -/
structure TwoG (w0 w : World) (B : Nat) (R : List (List Int)) (F : Nat → Prop) (C : Nat) (Q : List (List Int)) (G : Nat → Prop) : Prop where
  s : OneG w0 w B R F
  t : OneG w0 w C Q G
  d : ∀ j, F j → ¬ G j
section
variable {w0 w w' : World} {B C : Nat} {R R' Q Q' : List (List Int)} {F F' G G' : Nat → Prop}
theorem TwoG.below (h : TwoG w0 w B R F C Q G) (hb : Below w.heap.size w w') : TwoG w0 w' B R F C Q G := ⟨h.s.below hb, h.t.below hb, h.d⟩
theorem TwoG.turn1 (h : TwoG w0 w B R F C Q G) (hr : GrR w' B R' F') (ht : Turn F w w') (hs : ∀ j, F' j → F j ∨ w.heap.size ≤ j) : TwoG w0 w' B R' F' C Q G := by
  refine ⟨h.s.turn hr ht hs, ⟨h.t.r.turn ht fun j hj hf => h.d j hf hj, h.t.b.trans (ht.below h.s.f h.t.b.size), h.t.f⟩, fun j hj hg => ?_⟩
  rcases hs j hj with q | q
  · exact h.d j q hg
  · have := h.t.r.foot j hg; omega
theorem TwoG.turn2 (h : TwoG w0 w B R F C Q G) (hr : GrR w' C Q' G') (ht : Turn G w w') (hs : ∀ j, G' j → G j ∨ w.heap.size ≤ j) : TwoG w0 w' B R F C Q' G' := by
  refine ⟨⟨h.s.r.turn ht fun j hj hg => h.d j hj hg, h.s.b.trans (ht.below h.t.f h.s.b.size), h.s.f⟩, h.t.turn hr ht hs, fun j hj hg => ?_⟩
  rcases hs j hg with q | q
  · exact h.d j hj q
  · have := h.s.r.foot j hj; omega
end
theorem TwoG.side {w0 w w' : World} {B C La : Nat} {R Q : List (List Int)} {F G : Nat → Prop} (h : TwoG w0 w B R F C Q G) (hF : ¬ F La) (hG : ¬ G La) (hge : w0.heap.size ≤ La) (ht : Turn (fun j => j = La) w w') : TwoG w0 w' B R F C Q G :=
  ⟨⟨h.s.r.turn ht fun j hj e => hF (e ▸ hj), h.s.b.trans (ht.below (fun j hj => by omega) h.s.b.size), h.s.f⟩, ⟨h.t.r.turn ht fun j hj e => hG (e ▸ hj), h.s.b.trans (ht.below (fun j hj => by omega) h.s.b.size), h.t.f⟩, h.d⟩
/-- A row of rows, laid behind w0 at La, that reads as R. -/
structure LastP (w0 w : World) (La n : Nat) (U : Nat → Value) (R : List (List Int)) : Prop where
  c : ∀ v, v < n → w.cell? ⟨La, v, none⟩ = some (U v)
  z : ∀ v, v < n → w.frozen? ⟨La, v, none⟩ = false
  s : ∀ v, v < n → Sl w0 (U v) (gR R v)
theorem LastP.keep {w0 w w' : World} {La n : Nat} {U : Nat → Value} {R : List (List Int)} (h : LastP w0 w La n U R) (hb : w'.heap[La]? = w.heap[La]?) : LastP w0 w' La n U R :=
  ⟨fun v hv => (cell_of hb v).trans (h.c v hv), fun v hv => (frozen_of hb v).trans (h.z v hv), h.s⟩
theorem LastP.put {w0 w : World} {La n : Nat} {U : Nat → Value} {R : List (List Int)} (h : LastP w0 w La n U R) {v : Nat} (hv : v < n) (hR : R.length = n) {u : Value} {l : List Int} (hu : Sl w0 u l) :
    LastP w0 (w.setCell ⟨La, v, none⟩ u) La n (fun x => if x = v then u else U x) (R.set v l) := by
  refine ⟨fun x hx => ?_, fun x hx => ?_, fun x hx => ?_⟩
  · by_cases e : x = v
    · subst e
      simp only [if_pos]
      exact World.cell?_setCell_same _ _ _ (h.c x hx)
    · simp only [if_neg e]
      rw [World.cell?_setCell_other _ _ _ _ (fun r => e (by cases r; rfl))]
      exact h.c x hx
  · rw [World.frozen?_setCell]; exact h.z x hx
  · rw [gR_set (by omega)]
    by_cases e : x = v
    · simp only [if_pos e]; exact hu
    · simp only [if_neg e]; exact h.s x hx
theorem cells_at {w : World} {b : Nat} {cs : Array Value} {t : TypeId} (h : w.heap[b]? = some (.cells cs t)) (i : Nat) : w.cell? ⟨b, i, none⟩ = cs[i]? ∧ w.frozen? ⟨b, i, none⟩ = false := ⟨by simp [World.cell?, h], by simp [World.frozen?, h]⟩
theorem LastP.made {w0 w : World} {n : Nat} {t : TypeId} : LastP w0 (w.alloc (.cells (madeCells #[.slice none 0 0] n) t)) w.heap.size n (fun _ => .slice none 0 0) (List.replicate n []) := by
  have hn := heap_alloc_new w (.cells (madeCells #[.slice none 0 0] n) t)
  refine ⟨fun v hv => ?_, fun v hv => ?_, fun v hv => ?_⟩
  · have : (madeCells #[Value.slice none 0 0] n)[v]? = some (.slice none 0 0) := by rw [← Array.getElem?_toList, toList_madeCells_one, List.getElem?_replicate, if_pos hv]
    exact (cells_at hn v).1.trans this
  · exact (cells_at hn v).2
  · rw [gR_rep]
    exact ⟨none, 0, rfl, Nat.le_refl _, fun _ => rfl, fun z hz => by (cases hz), fun i hi => by (cases hi)⟩
/-- The rows from k on. -/
def hist (R : List (List Int)) (k : Nat) : List (List Int) := (List.range R.length).map fun u => if k ≤ u then gR R u else []
theorem hist_len (R : List (List Int)) (k : Nat) : (hist R k).length = R.length := by simp [hist]
theorem hist_at (R : List (List Int)) (k u : Nat) : gR (hist R k) u = if k ≤ u then gR R u else [] := by
  by_cases h : u < R.length
  · simp [gR, hist, List.getD, h]
  · rw [gR_out (by rw [hist_len]; omega)]
    split
    · rw [gR_out (by omega)]
    · rfl
theorem gR_ext {R Q : List (List Int)} (hl : R.length = Q.length) (h : ∀ u, u < R.length → gR R u = gR Q u) : R = Q := by
  refine List.ext_getElem hl fun u h1 h2 => ?_
  have := h u h1
  simpa [gR, List.getD, h1, h2] using this
theorem hist_all (R : List (List Int)) : hist R R.length = List.replicate R.length [] := by
  refine gR_ext (by rw [hist_len, List.length_replicate]) fun u hu => ?_
  rw [hist_len] at hu
  rw [hist_at, gR_rep, if_neg (by omega)]
theorem hist_zero (R : List (List Int)) : hist R 0 = R := gR_ext (hist_len R 0) fun u hu => by rw [hist_at, if_pos (Nat.zero_le _)]
theorem hist_set {R : List (List Int)} {k : Nat} (hk : k < R.length) : (hist R (k + 1)).set k (gR R k) = hist R k := by
  refine gR_ext (by rw [List.length_set, hist_len, hist_len]) fun u hu => ?_
  rw [gR_set (by rw [hist_len]; exact hk), hist_at, hist_at]
  by_cases e : u = k
  · subst e; rw [if_pos rfl, if_pos (Nat.le_refl _)]
  · rw [if_neg e]
    by_cases h : k ≤ u
    · rw [if_pos (by omega), if_pos h]
    · rw [if_neg (by omega), if_neg h]
theorem hist_step {R : List (List Int)} (hI : GrI R) {k : Nat} (hk : k < R.length) : gfault (hist R (k + 1)).length (k : Int) (gR R k) = 0 ∧ gset (hist R (k + 1)) (k : Int) (gR R k) = hist R k ∧ gadd (hist R (k + 1)) (k : Int) (gR R k) = ((gR R k).length : Nat) := by
  have hf : gfault (hist R (k + 1)).length (k : Int) (gR R k) = 0 := by
    rw [hist_len]; exact gfault_is (gnd_nat hk) (hI.nodes k) (hI.self k) (hI.nd k)
  refine ⟨hf, ?_, ?_⟩
  · unfold gset; rw [if_pos hf, Int.toNat_natCast, hist_set hk]
  · unfold gadd; rw [if_pos hf, Int.toNat_natCast, hist_at, if_neg (by omega)]
    unfold gmiss
    have : (gR R k).filter (fun w => decide (w ∉ ([] : List Int))) = gR R k := List.filter_eq_self.2 fun x _ => by simp
    rw [this]
set_option maxHeartbeats 8000000 in
set_option maxRecDepth 100000 in
theorem last12 (m : Int) (a : Option Addr) (c : Nat) (l : List GA) (w : World) (h : ActsG w a l) (hn : (l.length : Int) ≤ 9223372036854775807) :
    Calls Try.prog 5 #[.int .i64 m, .slice a l.length c] w fun e w' => e = .returned (.bool true) ∧ Below w.heap.size w w' := by
  have hfew := few_g a c l w h hn
  have H := Lib.hid h
  clear h
  cases hf : gfew l with
  | false =>
    rw [hf] at hfew
    go_enter Try.func5, Try.ntmps5
    go_wp2_with fail
    refine hfew.mono ?_; rintro e w1 ⟨rfl, rfl⟩
    go_wp2_with fail
    refine (g_awake _).mono ?_; rintro e w2 ⟨rfl, hb⟩
    go_wp2_with fail
    go_ret
    exact ⟨rfl, hb⟩
  | true =>
    rw [hf] at hfew
    obtain ⟨hl60, hl30⟩ := gfew_at hf
    have HL30 := Lib.hid hl30
    clear hl30 hf
    by_cases hm12 : m ≤ 12
    · have dm : decide (12 < m) = false := decide_eq_false (by omega)
      by_cases hm1 : 1 ≤ m
      · obtain ⟨n, rfl⟩ := Int.eq_ofNat_of_zero_le (by omega : 0 ≤ m)
        obtain ⟨ii, hi, hz0, hz1, hz2⟩ := info_parts rows_info
        have hmk : ∀ w, (Instr.makeSlice 27 (.int .i64 n) (.int .i64 n)).run Try.prog w = .ok (.slice (some ⟨w.heap.size, 0, none⟩) n n) (w.alloc (.cells (madeCells #[.slice none 0 0] n) 36)) := fun w => by
          have := run_makeSlice (P := Try.prog) (w := w) 27 36 ii (.slice none 0 0) Try.underlying27 hi hz0 .i64 .i64 n n (by omega) (by omega) (by rw [hz1]; omega) (by rw [hz2]; omega) (by omega)
          rw [hz1] at this; simpa [Value.cells] using this
        clear hi hz0 hz1 hz2 ii
        go_enter Try.func5, Try.ntmps5
        go_wp2_with fail
        refine hfew.mono ?_; rintro e w1 ⟨rfl, rfl⟩
        go_wp2_with fail
        refine (new_g n _ (by omega) (by omega)).mono ?_; rintro e w2 ⟨B, F, rfl, hr, hb, hF⟩
        have h2 := OneG.new (Below.refl w1.heap.size w1) hr hb hF
        clear hr hb hF hfew
        go_wp2_with fail
        refine (new_g n _ (by omega) (by omega)).mono ?_; rintro e w3 ⟨C, G, rfl, hr, hb, hG⟩
        have h3 : TwoG w1 w3 B (List.replicate n []) F C (List.replicate n []) G := ⟨h2.below hb, OneG.new h2.b hr hb hG, fun j hj hg => by have := h2.r.foot j hj; have := hG j hg; omega⟩
        have hb4 := below1 w3 (.cells (madeCells #[.slice none 0 0] n) 36)
        have h4 := h3.below hb4
        have hL4 : LastP w1 (w3.alloc (.cells (madeCells #[.slice none 0 0] n) 36)) w3.heap.size n (fun _ => .slice none 0 0) (List.replicate n []) := LastP.made
        have hsz4 : w3.heap.size < (w3.alloc (.cells (madeCells #[.slice none 0 0] n) 36)).heap.size := by simp
        have hFa : ¬ F w3.heap.size := fun q => by have := h3.s.r.foot _ q; omega
        have hGa : ¬ G w3.heap.size := fun q => by have := h3.t.r.foot _ q; omega
        have hLge : w1.heap.size ≤ w3.heap.size := h3.s.b.size
        have H4 := Lib.hid (And.intro h4 (And.intro hL4 (And.intro hsz4 (And.intro hFa hGa))))
        clear hr hb hG h2 h3 hb4 h4 hL4 hsz4 hFa hGa
        go_wp2_with fail
        obtain ⟨La, hLa⟩ : ∃ La, La = w3.heap.size := ⟨_, rfl⟩
        rw [← hLa] at H4 hLge ⊢
        clear hLa
        go_loopw [10] (fun i wr => ∃ (k : Nat) (R : List (List Int)) (F : Nat → Prop) (U : Nat → Value), k ≤ l.length ∧ i = .int .i64 (k : Int) ∧ R.length = n ∧ TwoG w1 wr B R F C (List.replicate n []) G ∧ LastP w1 wr La n U R ∧ La < wr.heap.size ∧ ¬ F La ∧ ¬ G La) (fun i _ => l.length - (intOf i).toNat)
        case atStart => exact ⟨0, _, F, _, Nat.zero_le _, rfl, List.length_replicate, H4.out.1, H4.out.2.1, H4.out.2.2.1, H4.out.2.2.2⟩
        case round =>
          obtain ⟨k, R, F1, U, hk, rfl, hRl, hG, hLP, hls, hFL, hGL⟩ := hrel
          by_cases hlt : k < l.length
          · obtain ⟨b, off, u, rfl, hc1, hc2, hsl, hir⟩ := H.out k hlt
            have hlen := HL30.out k hlt
            have hx := slx_act hG.s hsl
            have hbl := World.block_lt_of_cell? _ _ hc1
            have HC1 := Lib.hid hc1; have HC2 := Lib.hid hc2
            have hc1 := (hG.s.b.cell (p := ⟨b, off + k * 2, none⟩) hbl).trans hc1
            have hc2 := (hG.s.b.cell (p := ⟨b, off + k * 2 + 1, none⟩) hbl).trans hc2
            have i0 : (0 : Int) ≤ (k : Int) := by omega
            have i1 : (k : Int) < (l.length : Int) := by omega
            have hset := fun W (hh : OneG w1 W B R F1) (hq : SlX F1 W u (gAt l k).2) => set_o hh (gAt l k).1 hq (by omega)
            have hgl := fun Rn => gset_len Rn (gAt l k).1 (gAt l k).2
            have HSL := Lib.hid hsl
            obtain ⟨ua, uc, rfl, _⟩ := hsl
            generalize (gAt l k).1 = v at *
            generalize (gAt l k).2 = L at *
            have HG := Lib.hid hG; have HX := Lib.hid hx; have HLP := Lib.hid hLP
            clear hG hx hLP
            by_cases hfa : gfault R.length v L = 0
            · simp only [hfa] at hset
              obtain ⟨f1, f2, f3, f4⟩ := gfault_ok hfa
              obtain ⟨q, rfl⟩ := Int.eq_ofNat_of_zero_le f1.1
              have hq : q < n := by have := f1.2; omega
              have j0 : (0 : Int) ≤ (q : Int) := by omega
              have j1 : (q : Int) < (n : Int) := by omega
              have hgs : gset R (q : Int) L = R.set q L := by unfold gset; rw [if_pos hfa, Int.toNat_natCast]
              simp only [hgs] at hset hgl
              go_wp2_with fail
              go_region_held3 (fun wz => wz.cell? ⟨b, off + k * 2, none⟩ = some (.int .i64 (q : Int)) ∧ wz.cell? ⟨b, off + k * 2 + 1, none⟩ = some (.slice ua L.length uc))
                (first | exact ⟨hc1, hc2⟩ | exact ⟨hc3, hc4⟩)
                (first
                  | (go_at_call 18; refine (hset _ (HG.out.s.below ((Below.refl _ _).drew)) (HX.out.below ((Below.refl _ _).drew))).mono ?_; rintro e w4 ⟨rfl, F2, h4, ht4, hs4⟩
                     have hb4 := (ht4.below HG.out.s.f HG.out.s.b.size)
                     have hc3 := (hb4.cell (p := ⟨b, off + k * 2, none⟩) hbl).trans hc1
                     have hc4 := (hb4.cell (p := ⟨b, off + k * 2 + 1, none⟩) hbl).trans hc2))
              have HG4 := Lib.hid ((HG.out.below (Below.refl _ _).drew).turn1 h4.r ht4 hs4)
              have HLP4 := Lib.hid (HLP.out.keep (ht4.block La hls hFL))
              have HLS4 := Lib.hid (Nat.lt_of_lt_of_le hls ht4.size)
              have HFL4 : Hid (¬ F2 La) := fun q => by
                rcases hs4 La q with q | q
                · exact hFL q
                · exact Nat.lt_irrefl _ (Nat.lt_of_lt_of_le hls q)
              clear h4 ht4 hs4 hb4
              have hcU := HLP4.out.c q hq
              have hzU := HLP4.out.z q hq
              have HB4 := Lib.hid HG4.out.s.b
              have hc5 := (HB4.out.cell (p := ⟨b, off + k * 2, none⟩) hbl).trans HC1.out
              have hc6 := (HB4.out.cell (p := ⟨b, off + k * 2 + 1, none⟩) hbl).trans HC2.out
              have HPUT := Lib.hid (HLP4.out.put hq hRl HSL.out)
              go_wp2_with fail
              go_region
              have ht5 : Turn (fun j => j = La) w4 (w4.setCell ⟨La, q, none⟩ (.slice ua L.length uc)).drew := turn_set (F := fun j => j = La) (p := ⟨La, q, none⟩) ⟨rfl, rfl, rfl, Nat.le_refl _, fun _ _ _ => rfl⟩ (Or.inl (show La = La from rfl)) _ |>.trans (G := fun j => j = La) (Turn.of_below ((Below.refl _ _).drew)) (fun j hj => Or.inl hj)
              have HG5 := Lib.hid (HG4.out.side HFL4.out hGL hLge ht5)
              have HLP5 := Lib.hid (HPUT.out.keep (w' := (w4.setCell ⟨La, q, none⟩ (.slice ua L.length uc)).drew) rfl)
              have HLS5 := Lib.hid (Nat.lt_of_lt_of_le HLS4.out ht5.size)
              clear ht5
              go_wp2_with fail
              go_roundw
              · exact ⟨k + 1, _, F2, _, by omega, by go_num, by rw [List.length_set]; exact hRl, HG5.out, HLP5.out, HLS5.out, HFL4.out, hGL⟩
              · simp [intOf]; omega
            · have hne : (gfault R.length v L == 0) = false := by simpa using hfa
              have hgs : gset R v L = R := by unfold gset; rw [if_neg hfa]
              simp only [hgs] at hset
              generalize gfault R.length v L = ef at *
              go_wp2_with fail
              go_region_held3 (fun wz => wz.cell? ⟨b, off + k * 2, none⟩ = some (.int .i64 v) ∧ wz.cell? ⟨b, off + k * 2 + 1, none⟩ = some (.slice ua L.length uc))
                (first | exact ⟨hc1, hc2⟩ | exact ⟨hc3, hc4⟩)
                (first
                  | (go_at_call 18; refine (hset _ (HG.out.s.below ((Below.refl _ _).drew)) (HX.out.below ((Below.refl _ _).drew))).mono ?_; rintro e w4 ⟨rfl, F2, h4, ht4, hs4⟩
                     have hb4 := (ht4.below HG.out.s.f HG.out.s.b.size)
                     have hc3 := (hb4.cell (p := ⟨b, off + k * 2, none⟩) hbl).trans hc1
                     have hc4 := (hb4.cell (p := ⟨b, off + k * 2 + 1, none⟩) hbl).trans hc2))
              have HG4 := Lib.hid ((HG.out.below (Below.refl _ _).drew).turn1 h4.r ht4 hs4)
              have HLP4 := Lib.hid (HLP.out.keep (ht4.block La hls hFL))
              have HLS4 := Lib.hid (Nat.lt_of_lt_of_le hls ht4.size)
              have HFL4 : Hid (¬ F2 La) := fun q => by
                rcases hs4 La q with q | q
                · exact hFL q
                · exact Nat.lt_irrefl _ (Nat.lt_of_lt_of_le hls q)
              clear h4 ht4 hs4 hb4
              go_wp2_with fail
              go_roundw
              · exact ⟨k + 1, R, F2, U, by omega, by go_num, hRl, HG4.out, HLP4.out, HLS4.out, HFL4.out, hGL⟩
              · simp [intOf]; omega
          · obtain rfl : k = l.length := by omega
            have hd0 : decide ((l.length : Int) < (l.length : Int)) = false := decide_eq_false (by omega)
            have HI := Lib.hid hG.s.r.1
            obtain rfl : n = R.length := hRl.symm
            have HG := Lib.hid hG; have HLP := Lib.hid hLP
            have HHA := Lib.hid (hist_all R)
            clear hG hLP
            go_wp2_with fail
            go_loopw [14] (fun i wr => ∃ (k : Nat) (z : Int) (G : Nat → Prop), k ≤ R.length ∧ i = .int .i64 z ∧ z = (k : Int) - 1 ∧ TwoG w1 wr B R F1 C (hist R k) G ∧ LastP w1 wr La R.length U R ∧ La < wr.heap.size ∧ ¬ G La) (fun i _ => (intOf i + 1).toNat)
            case atStart => exact ⟨R.length, _, G, Nat.le_refl _, rfl, rfl, by rw [HHA.out]; exact HG.out, HLP.out, hls, hGL⟩
            case round =>
              obtain ⟨k, z, G1, hk, rfl, hz, hG, hLP, hls, hGL⟩ := hrel
              cases k with
              | zero =>
                obtain rfl : z = -1 := by rw [hz]; rfl
                clear hz
                have dz : decide ((0 : Int) ≤ -1) = false := by decide
                rw [hist_zero] at hG
                have HG := Lib.hid hG
                clear hG hLP
                go_wp2_with fail
                go_loopw [18] (fun j wr => ∃ x : Nat, x ≤ R.length ∧ j = .int .i64 (x : Int) ∧ TwoG w1 wr B R F1 C R G1) (fun j _ => R.length - (intOf j).toNat)
                case atStart => exact ⟨0, Nat.zero_le _, rfl, HG.out⟩
                case round =>
                  obtain ⟨x, hx, rfl, hG⟩ := hrel
                  by_cases hlx : x < R.length
                  · have dx : decide ((x : Int) < (R.length : Int)) = true := decide_eq_true (by omega)
                    have hA := reads_o hG.s (x : Int)
                    rw [greads_nat hlx] at hA
                    go_wp2_with fail
                    refine hA.mono ?_; clear hA; rintro e y1 ⟨s1, rfl, ho1, _, hb1⟩
                    obtain ⟨sa, sc, rfl, _, hr1⟩ := ho1.reads (inr_row HI.out x)
                    have hG1 := hG.below hb1
                    have hA := reads_o hG1.t (x : Int)
                    rw [greads_nat hlx] at hA
                    clear ho1 hb1 hG
                    go_wp2_with fail
                    refine hA.mono ?_; clear hA; rintro e y2 ⟨s2, rfl, ho2, _, hb2⟩
                    obtain ⟨sb, sd, rfl, _, hr2⟩ := ho2.reads (inr_row HI.out x)
                    have q1 := same_any sa sb sc sd (gR R x) (gR R x) y2 (hr1.below hb2) hr2 (by have := HI.out.len x; have := HI.out.hi; omega)
                    rw [decide_eq_true (rfl : gR R x = gR R x)] at q1
                    have hG2 := hG1.below hb2
                    clear ho2 hb2 hr1 hr2 hG1
                    go_wp2_with fail
                    refine q1.mono ?_; clear q1; rintro e y3 ⟨rfl, hb3⟩
                    have hG3 := hG2.below hb3
                    have hA := readers_o hG3.s (x : Int)
                    clear hb3 hG2
                    go_wp2_with fail
                    refine hA.mono ?_; clear hA; rintro e y4 ⟨s1, rfl, ho1, _, hb1⟩
                    obtain ⟨sa, sc, rfl, _, hr1⟩ := ho1.reads (inr_rdrs HI.out x)
                    have hG4 := hG3.below hb1
                    have hA := readers_o hG4.t (x : Int)
                    clear ho1 hb1 hG3
                    go_wp2_with fail
                    refine hA.mono ?_; clear hA; rintro e y5 ⟨s2, rfl, ho2, _, hb2⟩
                    obtain ⟨sb, sd, rfl, _, hr2⟩ := ho2.reads (inr_rdrs HI.out x)
                    have q1 := same_any sa sb sc sd (grdrs R x) (grdrs R x) y5 (hr1.below hb2) hr2 (by have := rdrs_len (R := R) x; have := HI.out.hi; omega)
                    rw [decide_eq_true (rfl : grdrs R x = grdrs R x)] at q1
                    have hG5 := hG4.below hb2
                    clear ho2 hb2 hr1 hr2 hG4
                    go_wp2_with fail
                    refine q1.mono ?_; clear q1; rintro e y6 ⟨rfl, hb3⟩
                    have HG6 := Lib.hid (hG5.below hb3)
                    clear hb3 hG5
                    go_wp2_with fail
                    go_roundw
                    · exact ⟨x + 1, by omega, by go_num, HG6.out⟩
                    · simp [intOf]; omega
                  · obtain rfl : x = R.length := by omega
                    have dx : decide ((R.length : Int) < (R.length : Int)) = false := decide_eq_false (by omega)
                    have q1 := edges_o hG.s
                    have q2 := edges_o hG.t
                    generalize gedges R = E0 at *
                    have HG8 := Lib.hid hG; clear hG
                    go_wp2_with fail
                    refine q1.mono ?_; rintro e y1 ⟨rfl, rfl⟩
                    go_wp2_with fail
                    refine q2.mono ?_; rintro e y1 ⟨rfl, rfl⟩
                    go_wp2_with fail
                    refine (g_awake _).mono ?_; rintro e y2 ⟨rfl, hb⟩
                    have HB := Lib.hid (HG8.out.s.b.trans (hb.mono HG8.out.s.b.size))
                    clear hb
                    go_wp2_with fail
                    go_ret
                    exact ⟨rfl, HB.out⟩
              | succ k =>
                obtain rfl : z = (k : Int) := by rw [hz]; omega
                clear hz
                have hk' : k < R.length := by omega
                have d0 : decide (0 ≤ (k : Int)) = true := decide_eq_true (by omega)
                have j0 : (0 : Int) ≤ (k : Int) := by omega
                have j1 : (k : Int) < (R.length : Int) := by omega
                have hcU := hLP.c k hk'
                have hsU := hLP.s k hk'
                have hx := slx_act hG.t hsU
                have hlenk := HI.out.len k
                have hRhi := HI.out.hi
                have q1 := set_o hG.t (k : Int) hx (by omega)
                obtain ⟨g1, g2, g3⟩ := hist_step HI.out hk'
                rw [g1, g2, g3] at q1
                obtain ⟨ua, uc, hUk, _⟩ := hsU
                rw [hUk] at hcU q1
                have HUk := Lib.hid hUk
                clear hx g1 g2 g3 hUk
                generalize (gR R k).length = p0 at *
                have HG := Lib.hid hG; have HLP := Lib.hid hLP
                clear hG hLP
                go_wp2_with fail
                refine q1.mono ?_; clear q1; rintro e y1 ⟨rfl, G2, h5, ht5, hs5⟩
                have HG5 := Lib.hid (HG.out.turn2 h5.r ht5 hs5)
                have HLP5 := Lib.hid (HLP.out.keep (ht5.block La hls hGL))
                have HLS5 := Lib.hid (Nat.lt_of_lt_of_le hls ht5.size)
                have HGL5 : Hid (¬ G2 La) := fun q => by
                  rcases hs5 La q with q | q
                  · exact hGL q
                  · exact Nat.lt_irrefl _ (Nat.lt_of_lt_of_le hls q)
                have hcU2 := HLP5.out.c k hk'
                rw [HUk.out] at hcU2
                clear h5 ht5 hs5 hcU
                go_wp2_with fail
                go_roundw
                · exact ⟨k, _, G2, by omega, rfl, by go_num, HG5.out, HLP5.out, HLS5.out, HGL5.out⟩
                · simp [intOf]
      · go_enter Try.func5, Try.ntmps5
        go_wp2_with fail
        refine hfew.mono ?_; rintro e w1 ⟨rfl, rfl⟩
        go_wp2_with fail
        refine (new_no_g m _ (by omega)).mono ?_; rintro e w2 ⟨rfl, rfl⟩
        go_wp2_with fail
        refine (new_no_g m _ (by omega)).mono ?_; rintro e w2 ⟨rfl, rfl⟩
        go_wp2_with fail
        refine (g_awake _).mono ?_; rintro e w3 ⟨rfl, hb⟩
        go_wp2_with fail
        go_ret
        exact ⟨rfl, hb⟩
    · have dm : decide (12 < m) = true := decide_eq_true (by omega)
      go_enter Try.func5, Try.ntmps5
      go_wp2_with fail
      refine hfew.mono ?_; rintro e w1 ⟨rfl, rfl⟩
      go_wp2_with fail
      refine (g_awake _).mono ?_; rintro e w3 ⟨rfl, hb⟩
      go_wp2_with fail
      go_ret
      exact ⟨rfl, hb⟩
end Go.Proofs.Ytpnhlfbohchmbaa
