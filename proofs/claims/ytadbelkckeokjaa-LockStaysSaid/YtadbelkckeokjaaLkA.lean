/-
  What the landed of (with its closure), latest (over a function value that only tells), Locked and Last of layer 22 answer. The conditions: rows of at most 1000000.
-/
import Derived.Test.YtadbelkckeokjaaLkR
import Derived.Test.YtadbelkckeokjaaEntC
import Derived.Lib.MinMax
namespace Go.Proofs.Ytadbelkckeokjaa
open Go.RowKit
set_option linter.unusedSimpArgs false
set_option linter.unusedVariables false

set_option maxHeartbeats 1000000 in
set_option maxRecDepth 100000 in
/-- The closure: is it one of those asked? -/
theorem of1_l (pb : Nat) (sa : Option Addr) (sc : Nat) (S : List Int) (x y : Int) (hl : S.length ≤ 1000000) (w : World) (hp : w.cell? ⟨pb, 0, none⟩ = some (.slice sa S.length sc)) (hS : Reads w sa S) (hs : S.Pairwise (· ≤ ·)) :
    Calls Try.prog 18 #[.agg #[.int .i64 x, .int .i64 y], .pointer (some ⟨pb, 0, none⟩)] w fun e w' => e = .returned (.bool (decide (x ∈ S))) ∧ Below w.heap.size w w' := by
  have HB := Lib.hid (below1 w (objK (x, y)))
  have hO := Ow2.new w (.int .i64 x) (.int .i64 y) 24
  have c0 := hO.1.1
  have c1 := hO.1.2.1
  have hp1 := (HB.out.cell (p := ⟨pb, 0, none⟩) (World.block_lt_of_cell? w _ hp)).trans hp
  have hsr := search_v sa sc S x hl (w.alloc (objK (x, y))) (hS.below HB.out) hs
  clear hp hO hS hs
  generalize decide (x ∈ S) = t at *
  go_enter Try.func18, Try.ntmps18
  go_wp2_with fail
  refine hsr.mono ?_; rintro e w1 ⟨i, rfl, hb1⟩
  have HB1 := Lib.hid (HB.out.trans (hb1.mono HB.out.size))
  clear hb1 c0 c1 hp1 hsr
  go_wp2_with fail
  go_ret
  exact ⟨rfl, HB1.out⟩

set_option maxHeartbeats 1000000 in
set_option maxRecDepth 100000 in
/-- What of makes: the closure, and the sorted row that it has captured. -/
theorem of_l (a : Option Addr) (c : Nat) (es : List Int) (hl : es.length ≤ 1000000) (w : World) (hE : Reads w a es) :
    Calls Try.prog 14 #[.slice a es.length c] w fun e w' => ∃ (pb : Nat) (sa : Option Addr) (sc : Nat) (S : List Int), e = .returned (.func (.func 18) #[] #[.pointer (some ⟨pb, 0, none⟩)]) ∧ S.length ≤ 1000000 ∧ (∀ z, decide (z ∈ S) = decide (z ∈ es)) ∧ S.Pairwise (· ≤ ·) ∧ w'.cell? ⟨pb, 0, none⟩ = some (.slice sa S.length sc) ∧ Reads w' sa S ∧ Below w.heap.size w w' := by
  have hmf : ∀ (fn : Fn) (first cap : Array Value) (w : World), (Instr.makeFunc fn first cap).run Try.prog w = .ok (.func fn first cap) w := fun _ _ _ _ => rfl
  have hv := values_c a es.length c w
  have hR := hE.below (below1 w (.cells #[.slice a es.length c] 36))
  have hso := sorted_v w.heap.size a c es hl (w.alloc (.cells #[.slice a es.length c] 36)) (by simp [go_sem]) hR
  have HB := Lib.hid (below1 w (.cells #[.slice a es.length c] 36))
  have HF : Hid ((∀ z ∈ es.mergeSort fun x y => decide (x ≤ y), InR z) ∧ (es.mergeSort fun x y => decide (x ≤ y)).length ≤ 1000000 ∧ (∀ z, decide (z ∈ es.mergeSort fun x y => decide (x ≤ y)) = decide (z ∈ es)) ∧ (es.mergeSort fun x y => decide (x ≤ y)).Pairwise (· ≤ ·)) :=
    ⟨fun z hz => hE.1 z ((perm_sort es).mem_iff.1 hz), by rw [List.length_mergeSort]; exact hl, fun z => decide_eq_decide.2 (perm_sort es).mem_iff, sorted_sort es⟩
  generalize (es.mergeSort fun x y => decide (x ≤ y)) = S at *
  clear hE hR
  go_enter Try.func14, Try.ntmps14
  go_wp2_with fail
  refine hv.mono ?_; rintro e w1 ⟨rfl, rfl⟩
  go_wp2_with fail
  refine hso.mono ?_; rintro e w2 ⟨v, rfl, ho, hb⟩
  obtain ⟨sa, sc, rfl, -, hS⟩ := ho.reads HF.out.1
  have HB2 := Lib.hid (HB.out.trans (hb.mono HB.out.size))
  have HS := Lib.hid hS
  clear hb ho hS hv hso
  go_wp2_with fail
  go_ret
  exact ⟨_, sa, sc, S, rfl, HF.out.2.1, HF.out.2.2.1, HF.out.2.2.2, by simp [go_sem], HS.out.below (below1 _ _), HB2.out.trans ((below1 _ _).mono HB2.out.size)⟩

set_option maxHeartbeats 2000000 in
set_option maxRecDepth 100000 in
/-- latest, over a letter for what counts, with what it has captured. -/
theorem latest_l (F : FuncId) (he : ∀ args w, (callFunc F args).run Try.prog w = .ok (.enter F args) w) (cap : Array Value) (p : Int → Bool) (a : Option Addr) (c : Nat) (L : List LkT) (hn : L.length ≤ 1000000) (w : World) (hL : RdL w a L)
    (hF : ∀ x y wr, Below w.heap.size w wr → Calls Try.prog F (#[.agg #[.int .i64 x, .int .i64 y]] ++ cap) wr fun e w' => e = .returned (.bool (p x)) ∧ Below wr.heap.size wr w') :
    Calls Try.prog 13 #[.slice a L.length c, .func (.func F) #[] cap] w fun e w' => e = .returned (.int .i64 (lat p L)) ∧ Below w.heap.size w w' := by
  have HF := Lib.hid hF
  have HL := Lib.hid hL
  have HN := Lib.hid hn
  clear hF hL
  go_enter Try.func13, Try.ntmps13
  go_wp2_with fail
  go_loopw [5, 10] (fun m i wr => ∃ k : Nat, k ≤ L.length ∧ i = .int .i64 (k : Int) ∧ m = .int .i64 (lat p (L.take k)) ∧ Below w.heap.size w wr) (fun _ i _ => L.length - (RowKit.intOf i).toNat)
  case atStart => exact ⟨0, Nat.zero_le _, rfl, by simp [lat_nil], Below.refl _ _⟩
  case round =>
    obtain ⟨k, hk, rfl, rfl, hb⟩ := hrel
    by_cases hlt : k < L.length
    · obtain ⟨b, off, rfl, e0, e1⟩ := (HL.out.below hb).2 k hlt
      have i0 : (0 : Int) ≤ (k : Int) := by omega
      have i1 : (k : Int) < (L.length : Int) := by omega
      have g1 := wrapL hlt hn
      have HM := Lib.hid (And.intro (show k + 1 ≤ L.length from hlt) (measL hlt))
      have HT : Hid (lat p (L.take (k + 1)) = if p (L.getD k zL).1 then max (lat p (L.take k)) (L.getD k zL).2 else lat p (L.take k)) := by
        show _ = _
        rw [takeL hlt, lat_app]
      generalize lat p (L.take k) = m at *
      generalize L.getD k zL = s at *
      obtain ⟨x, y⟩ := s
      dsimp only at e0 e1 HT
      have hO := Ow2.new wr (.int .i64 x) (.int .i64 y) 24
      have HO := Lib.hid hO
      have c0 := hO.1.1
      have c1 := hO.1.2.1
      have HB := Lib.hid (hb.trans ((below1 wr (objK (x, y))).mono hb.size))
      have hw := HF.out x y (wr.alloc (objK (x, y))) HB.out
      clear hb hk hlt hn hO
      go_wp2_with fail
      refine hw.mono ?_; clear hw; rintro e w1 ⟨rfl, hb1⟩
      have HB1 := Lib.hid (HB.out.trans (hb1.mono HB.out.size))
      have hO1 := HO.out.below hb1
      clear hb1 c0 c1 e0 e1 HO
      have c1 := hO1.1.2.1
      clear hO1
      cases hp : p x with
      | true =>
        rw [hp, if_pos rfl] at HT
        go_wp2_with fail
        go_roundw
        · exact ⟨k + 1, HM.out.1, by go_num, by rw [HT.out], HB1.out⟩
        · first | exact HM.out.2 | (rw [g1]; exact HM.out.2)
      | false =>
        rw [hp, if_neg (by decide)] at HT
        go_wp2_with fail
        go_roundw
        · exact ⟨k + 1, HM.out.1, by go_num, by rw [HT.out], HB1.out⟩
        · first | exact HM.out.2 | (rw [g1]; exact HM.out.2)
    · obtain rfl : k = L.length := by omega
      rw [List.take_length]
      have HB := Lib.hid hb
      clear hb hlt
      go_wp2_with fail
      go_ret
      exact ⟨rfl, HB.out⟩
/-- Is the period at most the last one of those? -/
def lkd (L : List LkT) (p : Int) (es : List Int) : Bool := !es.isEmpty && decide (p ≤ lat (fun z => decide (z ∈ es)) L)
theorem lkd_one (L : List LkT) (p x : Int) : lkd L p [x] = decide (p ≤ las L x) := by
  unfold lkd las
  rw [lat_cong (q := fun z => decide (z = x)) (fun z => by simp)]
  rfl
set_option maxHeartbeats 2000000 in
set_option maxRecDepth 100000 in
theorem locked_l (a : Option Addr) (c : Nat) (L : List LkT) (p : Int) (a' : Option Addr) (c' : Nat) (es : List Int) (hn : L.length ≤ 1000000) (hm : es.length ≤ 1000000) (w : World) (hL : RdL w a L) (hE : Reads w a' es) :
    Calls Try.prog 6 #[.slice a L.length c, .int .i64 p, .slice a' es.length c'] w fun e w' => e = .returned (.bool (lkd L p es)) ∧ Below w.heap.size w w' := by
  rcases Nat.eq_zero_or_pos es.length with h0 | h0
  · have hz : es = [] := List.eq_nil_of_length_eq_zero h0
    subst hz
    rw [show lkd L p [] = false from rfl]
    go_enter Try.func6, Try.ntmps6
    go_wp2_with fail
    go_ret
    exact ⟨rfl, Below.refl _ _⟩
  · have d1 : ((es.length : Int) == 0) = false := by simp; intro q; rw [q] at h0; cases h0
    have d2 : (es.length == 0) = false := by simp; intro q; rw [q] at h0; cases h0
    have HV : Hid (lkd L p es = decide (p ≤ lat (fun z => decide (z ∈ es)) L)) := by
      show _ = _
      unfold lkd
      have : es.isEmpty = false := by cases es with | nil => cases h0 | cons _ _ => rfl
      rw [this]; rfl
    have ho := of_l a' c' es hm w hE
    have HL := Lib.hid hL
    generalize lkd L p es = r at *
    clear hL hE h0
    go_enter Try.func6, Try.ntmps6
    go_wp2_with fail
    refine ho.mono ?_; clear ho; rintro e w1 ⟨pb, sa, sc, S, rfl, h1, h2, h3, h4, h5, hb1⟩
    have HB1 := Lib.hid hb1
    have hla := latest_l 18 (fun _ _ => rfl) #[.pointer (some ⟨pb, 0, none⟩)] (fun z => decide (z ∈ S)) a c L hn w1 (HL.out.below hb1) (fun x y wr hb => of1_l pb sa sc S x y h1 wr ((hb.cell (p := ⟨pb, 0, none⟩) (World.block_lt_of_cell? w1 _ h4)).trans h4) (h5.below hb) h3)
    rw [lat_cong h2 L] at hla
    generalize lat (fun z => decide (z ∈ es)) L = m at *
    clear h1 h2 h3 h4 h5 hb1
    go_wp2_with fail
    refine hla.mono ?_; clear hla; rintro e w2 ⟨rfl, hb2⟩
    have HB2 := Lib.hid (HB1.out.trans (hb2.mono HB1.out.size))
    clear hb2
    go_wp2_with fail
    go_ret
    exact ⟨by rw [HV.out]; rfl, HB2.out⟩
theorem lit1 (w : World) (x : Int) (hx : InR x) : Reads (w.alloc (.cells #[.int .i64 x] 3)) (some ⟨w.heap.size, 0, none⟩) [x] :=
  ⟨fun z hz => by cases List.mem_singleton.1 hz; exact hx, fun i hi => by
    have : i = 0 := by simp at hi; omega
    subst this
    exact ⟨w.heap.size, 0, rfl, by simp [go_sem]⟩⟩
theorem locked1_l (a : Option Addr) (c : Nat) (L : List LkT) (p : Int) (a' : Option Addr) (c' : Nat) (x : Int) (hn : L.length ≤ 1000000) (w : World) (hL : RdL w a L) (hE : Reads w a' [x]) :
    Calls Try.prog 6 #[.slice a L.length c, .int .i64 p, .slice a' 1 c'] w fun e w' => e = .returned (.bool (decide (p ≤ las L x))) ∧ Below w.heap.size w w' := by
  have := locked_l a c L p a' c' [x] hn (by simp) w hL hE
  rwa [lkd_one] at this
set_option maxHeartbeats 2000000 in
set_option maxRecDepth 100000 in
theorem last_l (a : Option Addr) (c : Nat) (L : List LkT) (x : Int) (hx : InR x) (hn : L.length ≤ 1000000) (w : World) (hL : RdL w a L) :
    Calls Try.prog 7 #[.slice a L.length c, .int .i64 x] w fun e w' => e = .returned (.int .i64 (las L x)) ∧ Below w.heap.size w w' := by
  have HV : Hid (las L x = lat (fun z => decide (z ∈ [x])) L) := by
    show _ = _
    exact lat_cong (fun z => by simp) L
  have HB := Lib.hid (below1 w (.cells #[.int .i64 x] 3))
  have ho := of_l (some ⟨w.heap.size, 0, none⟩) 1 [x] (by simp) (w.alloc (.cells #[.int .i64 x] 3)) (lit1 w x hx)
  have ho : Calls Try.prog 14 #[.slice (some ⟨w.heap.size, 0, none⟩) 1 1] (w.alloc (.cells #[.int .i64 x] 3)) _ := ho
  have HL := Lib.hid (hL.below HB.out)
  generalize las L x = r at *
  clear hL
  go_enter Try.func7, Try.ntmps7
  go_wp2_with fail
  refine ho.mono ?_; clear ho; rintro e w1 ⟨pb, sa, sc, S, rfl, h1, h2, h3, h4, h5, hb1⟩
  have HB1 := Lib.hid (HB.out.trans (hb1.mono HB.out.size))
  have hla := latest_l 18 (fun _ _ => rfl) #[.pointer (some ⟨pb, 0, none⟩)] (fun z => decide (z ∈ S)) a c L hn w1 (HL.out.below hb1) (fun x y wr hb => of1_l pb sa sc S x y h1 wr ((hb.cell (p := ⟨pb, 0, none⟩) (World.block_lt_of_cell? w1 _ h4)).trans h4) (h5.below hb) h3)
  rw [lat_cong h2 L, ← HV.out] at hla
  clear h1 h2 h3 h4 h5 hb1
  go_wp2_with fail
  refine hla.mono ?_; clear hla; rintro e w2 ⟨rfl, hb2⟩
  have HB2 := Lib.hid (HB1.out.trans (hb2.mono HB1.out.size))
  clear hb2
  go_wp2_with fail
  go_ret
  exact ⟨rfl, HB2.out⟩
end Go.Proofs.Ytadbelkckeokjaa
