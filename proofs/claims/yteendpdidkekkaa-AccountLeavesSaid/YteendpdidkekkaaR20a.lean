/-
  The document's New, Is, may, Up, round and Check of layer 20. The condition: at most 1000 accounts.
-/
import Derived.Test.YteendpdidkekkaaAccF
import Derived.Test.YteendpdidkekkaaRefHs1
import Derived.Deep.QuietTactic
import Derived.BigQuiet
import Derived.WalkSmall
import Derived.Deep.DeepCutAuto
import Derived.Deep.RegionHeld3
namespace Go.Proofs.Yteendpdidkekkaa
open Go.RowKit
set_option linter.unusedSimpArgs false
set_option linter.unusedVariables false

set_option maxRecDepth 100000 in
theorem r20is (a : Option Addr) (n c : Nat) (x : Int) (w : World) :
    Calls Try.prog 42 #[.slice a n c, .int .i64 x] w fun e w' => e = .returned (.bool (decide (Ent (n : Int) x))) ∧ w = w' := by
  by_cases h1 : 1 ≤ x
  · obtain ⟨r, hr⟩ : ∃ r, decide (x ≤ (n : Int)) = r := ⟨_, rfl⟩
    have hv : decide (Ent (n : Int) x) = r := by rw [← hr, decide_eq_decide]; exact ⟨fun q => q.2, fun q => ⟨h1, q⟩⟩
    have d1 : decide (1 ≤ x) = true := decide_eq_true h1
    rw [hv]
    clear hv h1
    go_enter Try.func42, Try.ntmps42
    go_wp2_with fail
    go_ret
    exact ⟨rfl, rfl⟩
  · have hv : decide (Ent (n : Int) x) = false := decide_eq_false (fun q => h1 q.1)
    have d1 : decide (1 ≤ x) = false := decide_eq_false h1
    rw [hv]
    clear hv h1
    go_enter Try.func42, Try.ntmps42
    go_wp2_with fail
    go_ret
    exact ⟨rfl, rfl⟩
set_option maxRecDepth 100000 in
theorem r20new (w : World) :
    Calls Try.prog 32 #[] w fun e w' => ∃ b : Nat, e = .returned (.slice (some ⟨b, 0, none⟩) 3 3) ∧ OwnA w' w.heap.size (.slice (some ⟨b, 0, none⟩) 3 3) ownL ∧ Below w.heap.size w w' := by
  have HO := Lib.hid (new_info w)
  have HB := Lib.hid (below1 w (.cells #[.int .i64 0, .int .i64 1, .bool true, .bool false, .int .i64 0, .int .i64 1, .bool false, .bool false, .int .i64 0, .int .i64 1, .bool false, .bool false] 35))
  go_enter Try.func32, Try.ntmps32
  go_wp2_with fail
  go_ret
  exact ⟨w.heap.size, rfl, HO.out, HB.out⟩
set_option maxHeartbeats 2000000 in
set_option maxRecDepth 100000 in
theorem r20may (s : AcT) (n : Int) (w : World) :
    Calls Try.prog 36 #[.agg #[.int .i64 s.1, .int .i64 s.2.1, .bool s.2.2.1, .bool s.2.2.2], .int .i64 n] w fun e w' => e = .returned (.int .i64 (wrA s n)) ∧ Below w.heap.size w w' := by
  have HB := Lib.hid (below1 w (.cells #[.int .i64 s.1, .int .i64 s.2.1, .bool s.2.2.1, .bool s.2.2.2] 35))
  obtain ⟨g0, g1, g2, g3, -⟩ := Ow4.new w (.int .i64 s.1) (.int .i64 s.2.1) (.bool s.2.2.1) (.bool s.2.2.2) 35
  have HV : Hid ((tsA s n 0 = true → wrA s n = 21) ∧ (tsA s n 0 = false → tsA s n 1 = true → wrA s n = 28) ∧ (tsA s n 0 = false → tsA s n 1 = false → tsA s n 2 = true → wrA s n = 25) ∧ (tsA s n 0 = false → tsA s n 1 = false → tsA s n 2 = false → wrA s n = 0)) := by
    show _ ∧ _
    unfold wrA
    cases tsA s n 0 <;> cases tsA s n 1 <;> cases tsA s n 2 <;> simp
  have T0 : tsA s n 0 = decide (s.1 < 0 ∨ n < s.1) := rfl
  have T1 : tsA s n 1 = decide (1 ≤ s.1 ∧ s.1 ≤ 3) := rfl
  have T2 : tsA s n 2 = decide (s.2.1 < 1 ∨ 3 < s.2.1 ∨ (s.2.2.1 = true ∧ s.2.2.2 = true)) := rfl
  rw [T0, T1, T2] at HV
  clear T0 T1 T2
  generalize wrA s n = z at *
  generalize s.1 = p at *
  generalize s.2.1 = kd at *
  generalize s.2.2.1 = sp at *
  generalize s.2.2.2 = pt at *
  by_cases h1 : p < 0
  · have d1 : decide (p < 0) = true := decide_eq_true h1
    have HZ := Lib.hid (HV.out.1 (decide_eq_true (by omega)))
    clear HV h1
    go_enter Try.func36, Try.ntmps36
    go_wp2_with fail
    go_ret
    exact ⟨by have q := HZ.out; subst q; rfl, HB.out⟩
  · have d1 : decide (p < 0) = false := decide_eq_false h1
    by_cases h2 : n < p
    · have d2 : decide (n < p) = true := decide_eq_true h2
      have HZ := Lib.hid (HV.out.1 (decide_eq_true (by omega)))
      clear HV h1 h2
      go_enter Try.func36, Try.ntmps36
      go_wp2_with fail
      go_ret
      exact ⟨by have q := HZ.out; subst q; rfl, HB.out⟩
    · have d2 : decide (n < p) = false := decide_eq_false h2
      by_cases h3 : 1 ≤ p
      · have d3 : decide (1 ≤ p) = true := decide_eq_true h3
        by_cases h4 : p ≤ 3
        · have d4 : decide (p ≤ 3) = true := decide_eq_true h4
          have HZ := Lib.hid (HV.out.2.1 (decide_eq_false (by omega)) (decide_eq_true (by omega)))
          clear HV h1 h2 h3 h4
          go_enter Try.func36, Try.ntmps36
          go_wp2_with fail
          go_ret
          exact ⟨by have q := HZ.out; subst q; rfl, HB.out⟩
        · have d4 : decide (p ≤ 3) = false := decide_eq_false h4
          by_cases h5 : kd < 1
          · have d5 : decide (kd < 1) = true := decide_eq_true h5
            have HZ := Lib.hid (HV.out.2.2.1 (decide_eq_false (by omega)) (decide_eq_false (by omega)) (decide_eq_true (Or.inl h5)))
            clear HV h1 h2 h3 h4 h5
            go_enter Try.func36, Try.ntmps36
            go_wp2_with fail
            go_ret
            exact ⟨by have q := HZ.out; subst q; rfl, HB.out⟩
          · have d5 : decide (kd < 1) = false := decide_eq_false h5
            by_cases h6 : 3 < kd
            · have d6 : decide (3 < kd) = true := decide_eq_true h6
              have HZ := Lib.hid (HV.out.2.2.1 (decide_eq_false (by omega)) (decide_eq_false (by omega)) (decide_eq_true (Or.inr (Or.inl h6))))
              clear HV h1 h2 h3 h4 h5 h6
              go_enter Try.func36, Try.ntmps36
              go_wp2_with fail
              go_ret
              exact ⟨by have q := HZ.out; subst q; rfl, HB.out⟩
            · have d6 : decide (3 < kd) = false := decide_eq_false h6
              cases sp with
              | true =>
                cases pt with
                | true =>
                  have HZ := Lib.hid (HV.out.2.2.1 (decide_eq_false (by omega)) (decide_eq_false (by omega)) (decide_eq_true (Or.inr (Or.inr ⟨rfl, rfl⟩))))
                  clear HV h1 h2 h3 h4 h5 h6
                  go_enter Try.func36, Try.ntmps36
                  go_wp2_with fail
                  go_ret
                  exact ⟨by have q := HZ.out; subst q; rfl, HB.out⟩
                | false =>
                  have HZ := Lib.hid (HV.out.2.2.2 (decide_eq_false (by omega)) (decide_eq_false (by omega)) (decide_eq_false (fun q => q.elim h5 (fun r => r.elim h6 (fun t => by cases t.2)))))
                  clear HV h1 h2 h3 h4 h5 h6
                  go_enter Try.func36, Try.ntmps36
                  go_wp2_with fail
                  go_ret
                  exact ⟨by have q := HZ.out; subst q; rfl, HB.out⟩
              | false =>
                have HZ := Lib.hid (HV.out.2.2.2 (decide_eq_false (by omega)) (decide_eq_false (by omega)) (decide_eq_false (fun q => q.elim h5 (fun r => r.elim h6 (fun t => by cases t.1)))))
                clear HV h1 h2 h3 h4 h5 h6
                go_enter Try.func36, Try.ntmps36
                go_wp2_with fail
                go_ret
                exact ⟨by have q := HZ.out; subst q; rfl, HB.out⟩
      · have d3 : decide (1 ≤ p) = false := decide_eq_false h3
        by_cases h5 : kd < 1
        · have d5 : decide (kd < 1) = true := decide_eq_true h5
          have HZ := Lib.hid (HV.out.2.2.1 (decide_eq_false (by omega)) (decide_eq_false (by omega)) (decide_eq_true (Or.inl h5)))
          clear HV h1 h2 h3 h5
          go_enter Try.func36, Try.ntmps36
          go_wp2_with fail
          go_ret
          exact ⟨by have q := HZ.out; subst q; rfl, HB.out⟩
        · have d5 : decide (kd < 1) = false := decide_eq_false h5
          by_cases h6 : 3 < kd
          · have d6 : decide (3 < kd) = true := decide_eq_true h6
            have HZ := Lib.hid (HV.out.2.2.1 (decide_eq_false (by omega)) (decide_eq_false (by omega)) (decide_eq_true (Or.inr (Or.inl h6))))
            clear HV h1 h2 h3 h5 h6
            go_enter Try.func36, Try.ntmps36
            go_wp2_with fail
            go_ret
            exact ⟨by have q := HZ.out; subst q; rfl, HB.out⟩
          · have d6 : decide (3 < kd) = false := decide_eq_false h6
            cases sp with
            | true =>
              cases pt with
              | true =>
                have HZ := Lib.hid (HV.out.2.2.1 (decide_eq_false (by omega)) (decide_eq_false (by omega)) (decide_eq_true (Or.inr (Or.inr ⟨rfl, rfl⟩))))
                clear HV h1 h2 h3 h5 h6
                go_enter Try.func36, Try.ntmps36
                go_wp2_with fail
                go_ret
                exact ⟨by have q := HZ.out; subst q; rfl, HB.out⟩
              | false =>
                have HZ := Lib.hid (HV.out.2.2.2 (decide_eq_false (by omega)) (decide_eq_false (by omega)) (decide_eq_false (fun q => q.elim h5 (fun r => r.elim h6 (fun t => by cases t.2)))))
                clear HV h1 h2 h3 h5 h6
                go_enter Try.func36, Try.ntmps36
                go_wp2_with fail
                go_ret
                exact ⟨by have q := HZ.out; subst q; rfl, HB.out⟩
            | false =>
              have HZ := Lib.hid (HV.out.2.2.2 (decide_eq_false (by omega)) (decide_eq_false (by omega)) (decide_eq_false (fun q => q.elim h5 (fun r => r.elim h6 (fun t => by cases t.1)))))
              clear HV h1 h2 h3 h5 h6
              go_enter Try.func36, Try.ntmps36
              go_wp2_with fail
              go_ret
              exact ⟨by have q := HZ.out; subst q; rfl, HB.out⟩
set_option maxHeartbeats 8000000 in
set_option maxRecDepth 100000 in
theorem r20up_y (a : Option Addr) (c : Nat) (L : List AcT) (y : Int) (w : World) (hL : RdA w a L) (hn : L.length ≤ 1000) (hy : Ent (L.length : Int) y) :
    Calls Try.prog 19 #[.slice a L.length c, .int .i64 y] w fun e w' => ∃ v, e = .returned v ∧ Own w' w.heap.size v (ups L.length (pa L) y) ∧ Below w.heap.size w w' := by
  have hio := r20is a L.length c y w
  rw [decide_eq_true hy] at hio
  have HL := Lib.hid hL
  have HS0 := Lib.hid (UpS.start (f := pa L) hy)
  have HN : Hid (L.length ≤ 1000) := hn
  obtain ⟨k, hk⟩ : ∃ k : Nat, y = (k : Int) + 1 := ⟨(y - 1).toNat, by unfold Ent at hy; omega⟩
  have hkl : k < L.length := by unfold Ent at hy; omega
  obtain ⟨b, off, rfl, d0, _⟩ := hL.2 k hkl
  have hpa : pa L y = (L.getD k zA).1 := by rw [hk]; exact pa_at hkl
  rw [← hpa] at d0
  have e1 : wrap64 (y - 1) = (k : Int) := by unfold wrap64; omega
  have i0 : (0 : Int) ≤ (k : Int) := by omega
  have i1 : (k : Int) < (L.length : Int) := by omega
  clear hL hn hy hk hkl hpa
  go_enter Try.func19, Try.ntmps19
  go_wp2_with fail
  refine hio.mono ?_; clear hio; rintro e w0 ⟨rfl, rfl⟩
  go_wp2_with fail
  clear e1 i0 i1 d0
  go_loopg [5, 6] L.length (fun k vu vx wr => ∃ (out : List Int) (x : Int), vx = .int .i64 x ∧ UpS L.length (pa L) y out x ∧ Own wr w.heap.size vu out ∧ Below w.heap.size w wr ∧ L.length - out.length ≤ k)
  case atStart => exact ⟨_, _, rfl, HS0.out, Own.nil _ _, Below.refl _ _, by simp⟩
  case round =>
    clear HS0
    obtain ⟨out, x, rfl, hS, ho, hb, hk⟩ := hrel
    have hio := r20is (some ⟨b, off, none⟩) L.length c x wr
    have HO := Lib.hid ho
    have HB := Lib.hid hb
    by_cases hx : Ent (L.length : Int) x
    · rw [decide_eq_true hx] at hio
      by_cases hxy : x = y
      · have t1 : (x != y) = false := by simpa using hxy
        have HE : Hid (ups L.length (pa L) y = out) := hS.stop (fun q => q.2.1 hxy)
        clear hS ho hb hk hx hxy
        go_wp2_with fail
        refine hio.mono ?_; clear hio; rintro e w0 ⟨rfl, rfl⟩
        go_wp2_with fail
        go_ret
        exact ⟨_, rfl, by rw [HE.out]; exact HO.out, HB.out⟩
      · have t1 : (x != y) = true := by simpa using hxy
        have hin : ∀ z ∈ out, InR z := fun z hz => by have := hS.ins z hz; have := HN.out; unfold Ent at *; unfold InR; omega
        have hlen := hS.len
        obtain ⟨ra, rc, rfl, -, hR⟩ := ho.reads hin
        have hh := has_any ra rc out x wr hR (by have := HN.out; omega)
        by_cases hxo : x ∈ out
        · rw [decide_eq_true hxo] at hh
          have HE : Hid (ups L.length (pa L) y = out) := hS.stop (fun q => q.2.2 hxo)
          clear hS ho hb hk hx hxy hin hlen hR hxo
          go_wp2_with fail
          refine hio.mono ?_; clear hio; rintro e w0 ⟨rfl, rfl⟩
          go_wp2_with fail
          refine hh.mono ?_; clear hh; rintro e w0 ⟨rfl, rfl⟩
          go_wp2_with fail
          go_ret
          exact ⟨_, rfl, by rw [HE.out]; exact HO.out, HB.out⟩
        · rw [decide_eq_false hxo] at hh
          have HG := Lib.hid (hS.go hx hxy hxo)
          have HK : Hid (L.length - out.length ≤ gk ∧ out.length + 1 ≤ L.length ∧ L.length ≤ 1000) := ⟨hk, hlen, HN.out⟩
          obtain ⟨k, hkx⟩ : ∃ k : Nat, x = (k : Int) + 1 := ⟨(x - 1).toNat, by unfold Ent at hx; omega⟩
          have hkl : k < L.length := by unfold Ent at hx; omega
          have hpa : pa L x = (L.getD k zA).1 := by rw [hkx]; exact pa_at hkl
          have HD : Hid (∀ wz, Below w.heap.size w wz → wz.cell? ⟨b, off + k * 4, none⟩ = some (.int .i64 (pa L x))) := fun wz q => by
            obtain ⟨b', off', e, d0, _⟩ := (HL.out.below q).2 k hkl
            cases e
            rw [hpa]; exact d0
          have e1 : wrap64 (x - 1) = (k : Int) := by unfold wrap64; have := HN.out; omega
          have i0 : (0 : Int) ≤ (k : Int) := by omega
          have i1 : (k : Int) < (L.length : Int) := by omega
          have hol : out.length ≤ 1000 := by have := HN.out; omega
          have hsz := hb.size
          clear hS ho hb hk hx hxy hin hlen hR hxo hkx hkl hpa
          go_wp2_with fail
          refine hio.mono ?_; clear hio; rintro e w0 ⟨rfl, rfl⟩
          go_wp2_with fail
          refine hh.mono ?_; clear hh; rintro e w0 ⟨rfl, rfl⟩
          go_wp2_with (at_builtin; refine wp_push wr rfl (.tmp 32) (.tmp 34) rfl w.heap.size _ out x rfl HO.out rfl (by omega) hsz ?_; intro v5 w5 ho5 hb5; have HO5 := Lib.hid ho5; have HB5 : Hid (Below w.heap.size w w5) := HB.out.trans hb5; have d0 := HD.out w5 HB5.out; clear ho5 hb5 hsz)
          go_roundg (gk - 1)
          case measure => have := HK.out; omega
          case rel => exact ⟨_, _, rfl, HG.out, HO5.out, HB5.out, by have := HK.out; rw [List.length_append, List.length_singleton]; omega⟩
    · rw [decide_eq_false hx] at hio
      have HE : Hid (ups L.length (pa L) y = out) := hS.stop (fun q => hx q.1)
      clear hS ho hb hk hx
      go_wp2_with fail
      refine hio.mono ?_; clear hio; rintro e w0 ⟨rfl, rfl⟩
      go_wp2_with fail
      go_ret
      exact ⟨_, rfl, by rw [HE.out]; exact HO.out, HB.out⟩
set_option maxHeartbeats 1000000 in
set_option maxRecDepth 100000 in
theorem r20up (a : Option Addr) (c : Nat) (L : List AcT) (y : Int) (w : World) (hL : RdA w a L) (hn : L.length ≤ 1000) :
    Calls Try.prog 19 #[.slice a L.length c, .int .i64 y] w fun e w' => ∃ v, e = .returned v ∧ Own w' w.heap.size v (ups L.length (pa L) y) ∧ Below w.heap.size w w' := by
  by_cases hy : Ent (L.length : Int) y
  · exact r20up_y a c L y w hL hn hy
  · have hio := r20is a L.length c y w
    rw [decide_eq_false hy] at hio
    rw [ups_no hy]
    clear hL hn hy
    go_enter Try.func19, Try.ntmps19
    go_wp2_with fail
    refine hio.mono ?_; clear hio; rintro e w0 ⟨rfl, rfl⟩
    go_wp2_with fail
    go_ret
    exact ⟨_, rfl, Own.nil _ _, Below.refl _ _⟩
set_option maxHeartbeats 2000000 in
set_option maxRecDepth 100000 in
theorem r20round (a : Option Addr) (c : Nat) (L : List AcT) (y : Int) (w : World) (hL : RdA w a L) (hn : L.length ≤ 1000) (hy : Ent (L.length : Int) y) :
    Calls Try.prog 37 #[.slice a L.length c, .int .i64 y] w fun e w' => e = .returned (.bool (rnd L.length (pa L) y)) ∧ Below w.heap.size w w' := by
  have hu := r20up a c L y w hL hn
  have HU : Hid ((ups L.length (pa L) y).length ≤ 1000 ∧ ∀ z ∈ ups L.length (pa L) y, InR z) := ⟨Nat.le_trans (ups_few _ _ _) hn, ups_in hn⟩
  have HLE : Hid (Ent (L.length : Int) ((ups L.length (pa L) y).getLastD y)) := last_ent hy
  have HR : Hid (rnd L.length (pa L) y = (pa L ((ups L.length (pa L) y).getLastD y) == y)) := rfl
  have HL := Lib.hid hL
  have HN := Lib.hid hn
  have HLD : Hid (∀ l, (ups L.length (pa L) y).length = l + 1 → (ups L.length (pa L) y).getD l 0 = (ups L.length (pa L) y).getLastD y) := fun l h => by
    generalize ups L.length (pa L) y = U at *
    rcases List.eq_nil_or_concat U with rfl | ⟨V, z, rfl⟩
    · cases h
    · rw [List.concat_eq_append] at *
      rw [List.length_append, List.length_singleton] at h
      rw [List.getLastD_concat, show l = V.length by omega]
      simp [List.getD]
  have HLN : Hid ((ups L.length (pa L) y) = [] → (ups L.length (pa L) y).getLastD y = y) := fun h => by rw [h]; rfl
  generalize ups L.length (pa L) y = U at *
  generalize hz : U.getLastD y = z at *
  have HLDZ : Hid (∀ wz, Below w.heap.size w wz → ∃ (b off k : Nat), a = some ⟨b, off, none⟩ ∧ wrap64 (z - 1) = (k : Int) ∧ k < L.length ∧ wz.cell? ⟨b, off + k * 4, none⟩ = some (.int .i64 (pa L z))) := fun wz q => by
    have h1 := HLE.out
    obtain ⟨k, hk⟩ : ∃ k : Nat, z = (k : Int) + 1 := ⟨(z - 1).toNat, by unfold Ent at h1; omega⟩
    have hkl : k < L.length := by unfold Ent at h1; omega
    obtain ⟨b, off, e, d0, _⟩ := (HL.out.below q).2 k hkl
    refine ⟨b, off, k, e, by unfold wrap64; have := HN.out; omega, hkl, ?_⟩
    rw [hk, pa_at hkl]; exact d0
  rw [HR.out]
  clear hL hn hy HR hz
  go_enter Try.func37, Try.ntmps37
  go_wp2_with fail
  refine hu.mono ?_; clear hu; rintro e w1 ⟨v, rfl, ho, hb⟩
  have HB := Lib.hid hb
  obtain ⟨b, off, k, rfl, e1, hkl, d0⟩ := HLDZ.out w1 hb
  have i0 : (0 : Int) ≤ (k : Int) := by omega
  have i1 : (k : Int) < (L.length : Int) := by omega
  obtain ⟨ra, rc, rfl, -, hR⟩ := ho.reads HU.out.2
  obtain ⟨l, hl⟩ : ∃ l, U.length = l := ⟨_, rfl⟩
  rcases Nat.eq_zero_or_pos l with h0 | h0
  · subst h0
    have hU0 := List.eq_nil_of_length_eq_zero hl
    have hzy := HLN.out hU0
    subst hzy
    rw [hl]
    clear ho hb hR hl hU0 hkl
    go_wp2_with fail
    go_ret
    exact ⟨rfl, HB.out⟩
  · obtain ⟨q, rfl⟩ : ∃ q, l = q + 1 := ⟨l - 1, by omega⟩
    obtain ⟨b', off', rfl, hc⟩ := hR.2 q (by omega)
    rw [HLD.out q hl] at hc
    obtain ⟨m, hm⟩ : ∃ m, m = q + 1 := ⟨_, rfl⟩
    rw [hl, ← hm]
    have hq : q ≤ 1000 := by have := HU.out.1; omega
    have t0 : decide ((0 : Int) < (m : Int)) = true := decide_eq_true (by omega)
    have t0n : decide (0 < m) = true := decide_eq_true (by omega)
    have e2 : wrap64 ((m : Int) - 1) = (q : Int) := by unfold wrap64; omega
    have q0 : (0 : Int) ≤ (q : Int) := by omega
    have q1 : (q : Int) < (m : Int) := by omega
    clear ho hb hR hl hkl h0 hm hq
    go_wp2_with fail
    go_ret
    exact ⟨rfl, HB.out⟩
theorem bg_is {L : List AcT} (h : 3 ≤ L.length) : bgO L = (decide (L.getD 0 zA = (0, 1, true, false)) && (decide (L.getD 1 zA = (0, 1, false, false)) && decide (L.getD 2 zA = (0, 1, false, false)))) := by
  match L, h with
  | a :: b :: c :: L, _ =>
    unfold bgO ownL
    rw [decide_eq_true (by simp : 3 ≤ (a :: b :: c :: L).length), Bool.true_and]
    rw [Bool.eq_iff_iff]
    simp
end Go.Proofs.Yteendpdidkekkaa
