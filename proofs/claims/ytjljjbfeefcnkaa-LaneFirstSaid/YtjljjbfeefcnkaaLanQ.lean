/-
  The landed queue (a channel of pointers in a block of one cell): what New, Put, Take, Len, Room answer, of numbers and of texts, and of a queue that is none. No conditions.
-/
import Derived.Test.YtjljjbfeefcnkaaLanU
import Derived.Test.YtjljjbfeefcnkaaChecked
import Derived.Conc.LoneSelect
import Derived.Conc.LoneSelectN
import Derived.KernelRfl
import Derived.Laws.Rows
namespace Go.Proofs.Ytjljjbfeefcnkaa
open Go.Conc Go.RowKit
set_option linter.unusedSimpArgs false
set_option linter.unusedVariables false

theorem chan_under : Try.prog.underlying 56 = some (.chan .both 68) := by kernel_rfl
theorem in_chan (d : Nat) (o : Option Nat) (w : World) : (Op.equalIn (d + 1) 56 (.chan o) (.chan none)).run Try.prog w = .ok o.isNone w := by
  cases o <;> simp [Op.equalIn, run_underlying chan_under]
theorem eql_chan (o : Option Nat) (w : World) : (binOp .eql 56 (.chan o) (.chan none)).run Try.prog w = .ok (.bool o.isNone) w := by
  simp only [binOp]
  simp [Op.equal, Op.maxDepth, in_chan 9999]
set_option maxRecDepth 100000 in
theorem put_room {w W : World} {B c cap s r : Nat} {buf : Array Value} (x : Int) (hW : w.alloc (.cells #[.int .i64 x] 3) = W) (hq : W.cell? ⟨B, 0, none⟩ = some (.chan (some c))) (hc : W.heap[c]? = some (.chan cap buf false s r false)) (hroom : buf.size < cap) :
    Calls Try.prog 18 #[.pointer (some ⟨B, 0, none⟩), .int .i64 x] w fun e w' => e = .returned (.int .i64 0) ∧ w' = W.setChan c cap (buf.push (.pointer (some ⟨w.heap.size, 0, none⟩))) false (s + 1) r false := by
  have he := eql_chan
  subst hW
  refine calls_of_loneTo fun cs => ?_
  have e : Frame.enter Try.prog 18 #[.pointer (some ⟨B, 0, none⟩), .int .i64 x] .normal = (base 18).at ⟨#[.pointer (some ⟨B, 0, none⟩), .int .i64 x, undef, undef, undef, undef, undef, undef, undef, undef, undef, undef, undef, undef, undef], []⟩ [.code (Try.f18.body.getD .skip)] := by
    simp [Frame.enter, Frame.at, Try.func18, base, Try.f18]
  rw [e]
  clear e
  refine LoneTo.goes (n := 120) ?_
  simp only [Try.f18, Option.getD_some]
  repeat (first | s_c stepG_seq | s_c stepG_block | s_reg | s_c stepG_region_end | s_c stepG_skip | s_c stepG_inBlock | s_op | s_cond true | s_cond false)
  s_call Try.func24 (by kernel_rfl) Try.f24
  repeat (first | s_c stepG_seq | s_c stepG_block | s_reg | s_c stepG_region_end | s_c stepG_skip | s_c stepG_inBlock | s_op | s_cond true | s_cond false)
  s_c stepG_ret'
  s_leave1 Try.func24
  repeat (first | s_c stepG_seq | s_c stepG_block | s_reg | s_c stepG_region_end | s_c stepG_skip | s_c stepG_inBlock | s_op | s_cond true | s_cond false)
  s_stop
  refine LoneTo.step (step_lone_select_send_room (c := c) (cap := cap) (buf := buf) (s := s) (r := r) (tm := false) (stepG_comm (cases := #[scase c (.pointer (some ⟨w.heap.size, 0, none⟩)) (.pointer none)]) (blocking := false) (shape := .select) (w' := w.alloc (.cells #[.int .i64 x] 3)) rfl rfl (by decide) (by simp [go_sem, execOp, scase, Act.eval])) hc hroom) ?_
  rw [Frame.finish_at]
  walk_nrm
  refine LoneTo.goes (n := 120) ?_
  repeat (first | s_c stepG_seq | s_c stepG_block | s_reg | s_c stepG_region_end | s_c stepG_skip | s_c stepG_inBlock | s_op | s_cond true | s_cond false)
  s_c stepG_ret'
  s_stop
  exact LoneTo.done ⟨.returned (.int .i64 0), _, rfl, ⟨rfl, rfl⟩, rfl, rfl, rfl, rfl, _, Try.func18, by simp [results, Try.f18, Frame.at, go_sem]⟩
set_option maxRecDepth 100000 in
theorem put_full {w W : World} {B c cap s r : Nat} {buf : Array Value} (x : Int) (hW : w.alloc (.cells #[.int .i64 x] 3) = W) (hq : W.cell? ⟨B, 0, none⟩ = some (.chan (some c))) (hc : W.heap[c]? = some (.chan cap buf false s r false)) (hfull : cap ≤ buf.size) :
    Calls Try.prog 18 #[.pointer (some ⟨B, 0, none⟩), .int .i64 x] w fun e w' => e = .returned (.int .i64 3) ∧ w' = W := by
  have he := eql_chan
  subst hW
  refine calls_of_loneTo fun cs => ?_
  have e : Frame.enter Try.prog 18 #[.pointer (some ⟨B, 0, none⟩), .int .i64 x] .normal = (base 18).at ⟨#[.pointer (some ⟨B, 0, none⟩), .int .i64 x, undef, undef, undef, undef, undef, undef, undef, undef, undef, undef, undef, undef, undef], []⟩ [.code (Try.f18.body.getD .skip)] := by
    simp [Frame.enter, Frame.at, Try.func18, base, Try.f18]
  rw [e]
  clear e
  refine LoneTo.goes (n := 120) ?_
  simp only [Try.f18, Option.getD_some]
  repeat (first | s_c stepG_seq | s_c stepG_block | s_reg | s_c stepG_region_end | s_c stepG_skip | s_c stepG_inBlock | s_op | s_cond true | s_cond false)
  s_call Try.func24 (by kernel_rfl) Try.f24
  repeat (first | s_c stepG_seq | s_c stepG_block | s_reg | s_c stepG_region_end | s_c stepG_skip | s_c stepG_inBlock | s_op | s_cond true | s_cond false)
  s_c stepG_ret'
  s_leave1 Try.func24
  repeat (first | s_c stepG_seq | s_c stepG_block | s_reg | s_c stepG_region_end | s_c stepG_skip | s_c stepG_inBlock | s_op | s_cond true | s_cond false)
  s_stop
  refine LoneTo.step (step_lone_select_send_full (c := c) (cap := cap) (buf := buf) (s := s) (r := r) (tm := false) (stepG_comm (cases := #[scase c (.pointer (some ⟨w.heap.size, 0, none⟩)) (.pointer none)]) (blocking := false) (shape := .select) (w' := w.alloc (.cells #[.int .i64 x] 3)) rfl rfl (by decide) (by simp [go_sem, execOp, scase, Act.eval])) hc hfull) ?_
  rw [Frame.finish_at]
  walk_nrm
  refine LoneTo.goes (n := 120) ?_
  repeat (first | s_c stepG_seq | s_c stepG_block | s_reg | s_c stepG_region_end | s_c stepG_skip | s_c stepG_inBlock | s_op | s_cond true | s_cond false)
  s_c stepG_ret'
  s_stop
  exact LoneTo.done ⟨.returned (.int .i64 3), _, rfl, ⟨rfl, rfl⟩, rfl, rfl, rfl, rfl, _, Try.func18, by simp [results, Try.f18, Frame.at, go_sem]⟩
set_option maxRecDepth 100000 in
theorem take_some {w : World} {B c cap s r : Nat} {buf : Array Value} {p : Nat} (hq : w.cell? ⟨B, 0, none⟩ = some (.chan (some c))) (hc : w.heap[c]? = some (.chan cap buf false s r false)) (x : Int) (hx : buf.getD 0 undef = .pointer (some ⟨p, 0, none⟩)) (hsome : 0 < buf.size)
    (hp : (w.setChan c cap (buf.extract 1 buf.size) false s (r + 1) false).cell? ⟨p, 0, none⟩ = some (.int .i64 x)) :
    Calls Try.prog 21 #[.pointer (some ⟨B, 0, none⟩)] w fun e w' => e = .returned (.tuple #[.int .i64 x, .bool true]) ∧ w' = w.setChan c cap (buf.extract 1 buf.size) false s (r + 1) false := by
  have he := eql_chan
  refine calls_of_loneTo fun cs => ?_
  have e : Frame.enter Try.prog 21 #[.pointer (some ⟨B, 0, none⟩)] .normal = (base 21).at ⟨#[.pointer (some ⟨B, 0, none⟩), undef, undef, undef, undef, undef, undef, undef, undef, undef, undef, undef, undef, undef, undef, undef], []⟩ [.code (Try.f21.body.getD .skip)] := by
    simp [Frame.enter, Frame.at, Try.func21, base, Try.f21]
  rw [e]
  clear e
  refine LoneTo.goes (n := 120) ?_
  simp only [Try.f21, Option.getD_some]
  repeat (first | s_c stepG_seq | s_c stepG_block | s_reg | s_c stepG_region_end | s_c stepG_skip | s_c stepG_inBlock | s_op | s_cond true | s_cond false)
  s_call Try.func24 (by kernel_rfl) Try.f24
  repeat (first | s_c stepG_seq | s_c stepG_block | s_reg | s_c stepG_region_end | s_c stepG_skip | s_c stepG_inBlock | s_op | s_cond true | s_cond false)
  s_c stepG_ret'
  s_leave1 Try.func24
  repeat (first | s_c stepG_seq | s_c stepG_block | s_reg | s_c stepG_region_end | s_c stepG_skip | s_c stepG_inBlock | s_op | s_cond true | s_cond false)
  s_stop
  refine LoneTo.step (step_lone_select_recv_buf (c := c) (z := .pointer none) (stepG_comm (cases := #[rcase c (.pointer none)]) (blocking := false) (shape := .select) (w' := w) rfl rfl (by decide) (by simp [go_sem, execOp, rcase, Act.eval])) hc hsome) ?_
  rw [hx]
  rw [Frame.finish_at]
  walk_nrm
  refine LoneTo.goes (n := 120) ?_
  repeat (first | s_c stepG_seq | s_c stepG_block | s_reg | s_c stepG_region_end | s_c stepG_skip | s_c stepG_inBlock | s_op | s_cond true | s_cond false)
  s_c stepG_ret'
  s_stop
  exact LoneTo.done ⟨.returned (.tuple #[.int .i64 x, .bool true]), _, rfl, ⟨rfl, rfl⟩, rfl, rfl, rfl, rfl, _, Try.func21, by simp [results, Try.f21, Frame.at, go_sem]⟩
set_option maxRecDepth 100000 in
theorem take_none {w : World} {B c cap s r : Nat} (hq : w.cell? ⟨B, 0, none⟩ = some (.chan (some c))) (hc : w.heap[c]? = some (.chan cap #[] false s r false)) :
    Calls Try.prog 21 #[.pointer (some ⟨B, 0, none⟩)] w fun e w' => e = .returned (.tuple #[.int .i64 0, .bool false]) ∧ w' = w := by
  have he := eql_chan
  refine calls_of_loneTo fun cs => ?_
  have e : Frame.enter Try.prog 21 #[.pointer (some ⟨B, 0, none⟩)] .normal = (base 21).at ⟨#[.pointer (some ⟨B, 0, none⟩), undef, undef, undef, undef, undef, undef, undef, undef, undef, undef, undef, undef, undef, undef, undef], []⟩ [.code (Try.f21.body.getD .skip)] := by
    simp [Frame.enter, Frame.at, Try.func21, base, Try.f21]
  rw [e]
  clear e
  refine LoneTo.goes (n := 120) ?_
  simp only [Try.f21, Option.getD_some]
  repeat (first | s_c stepG_seq | s_c stepG_block | s_reg | s_c stepG_region_end | s_c stepG_skip | s_c stepG_inBlock | s_op | s_cond true | s_cond false)
  s_call Try.func24 (by kernel_rfl) Try.f24
  repeat (first | s_c stepG_seq | s_c stepG_block | s_reg | s_c stepG_region_end | s_c stepG_skip | s_c stepG_inBlock | s_op | s_cond true | s_cond false)
  s_c stepG_ret'
  s_leave1 Try.func24
  repeat (first | s_c stepG_seq | s_c stepG_block | s_reg | s_c stepG_region_end | s_c stepG_skip | s_c stepG_inBlock | s_op | s_cond true | s_cond false)
  s_stop
  refine LoneTo.step (step_lone_select_default (c := c) (z := .pointer none) (stepG_comm (cases := #[rcase c (.pointer none)]) (blocking := false) (shape := .select) (w' := w) rfl rfl (by decide) (by simp [go_sem, execOp, rcase, Act.eval])) hc) ?_
  rw [Frame.finish_at]
  walk_nrm
  refine LoneTo.goes (n := 120) ?_
  repeat (first | s_c stepG_seq | s_c stepG_block | s_reg | s_c stepG_region_end | s_c stepG_skip | s_c stepG_inBlock | s_op | s_cond true | s_cond false)
  s_c stepG_ret'
  s_stop
  exact LoneTo.done ⟨.returned (.tuple #[.int .i64 0, .bool false]), _, rfl, ⟨rfl, rfl⟩, rfl, rfl, rfl, rfl, _, Try.func21, by simp [results, Try.f21, Frame.at, go_sem]⟩
theorem channel_10 {w : World} {B c : Nat} (hq : w.cell? ⟨B, 0, none⟩ = some (.chan (some c))) : Calls Try.prog 24 #[.pointer (some ⟨B, 0, none⟩)] w fun e w' => e = .returned (.chan (some c)) ∧ w' = w := by
  go_enter Try.func24, Try.ntmps24
  go_wp2_with fail
  go_ret
  exact ⟨rfl, rfl⟩
theorem len_10 {w : World} {B c cap s r : Nat} {buf : Array Value} (hq : w.cell? ⟨B, 0, none⟩ = some (.chan (some c))) (hc : w.heap[c]? = some (.chan cap buf false s r false)) :
    Calls Try.prog 11 #[.pointer (some ⟨B, 0, none⟩)] w fun e w' => e = .returned (.int .i64 (buf.size : Int)) ∧ w' = w := by
  have hx := channel_10 hq
  have hl := run_len_chan (P := Try.prog) 56 3 chan_under hc
  simp only [goInt] at hl
  go_enter Try.func11, Try.ntmps11
  go_wp2_with fail
  refine hx.mono ?_; rintro e w1 ⟨rfl, rfl⟩
  go_wp2_with fail
  go_ret
  exact ⟨rfl, rfl⟩
theorem room_10 {w : World} {B c cap s r : Nat} {buf : Array Value} (hq : w.cell? ⟨B, 0, none⟩ = some (.chan (some c))) (hc : w.heap[c]? = some (.chan cap buf false s r false)) :
    Calls Try.prog 12 #[.pointer (some ⟨B, 0, none⟩)] w fun e w' => e = .returned (.int .i64 (cap : Int)) ∧ w' = w := by
  have hx := channel_10 hq
  have hl := run_cap_chan (P := Try.prog) 56 3 chan_under hc
  simp only [goInt] at hl
  go_enter Try.func12, Try.ntmps12
  go_wp2_with fail
  refine hx.mono ?_; rintro e w1 ⟨rfl, rfl⟩
  go_wp2_with fail
  go_ret
  exact ⟨rfl, rfl⟩
theorem new_no10 (m : Int) (w : World) (h : ¬ (1 ≤ m ∧ m ≤ 1000)) : Calls Try.prog 7 #[.int .i64 m] w fun e w' => e = .returned (.tuple #[.pointer none, .int .i64 2]) ∧ Below w.heap.size w w' := by
  by_cases h1 : m < 1
  · clear h
    go_enter Try.func7, Try.ntmps7
    go_wp2_with fail
    go_ret2
    exact ⟨rfl, Below.refl _ _⟩
  · have h2 : (1000 : Int) < m := by omega
    clear h
    go_enter Try.func7, Try.ntmps7
    go_wp2_with fail
    go_ret2
    exact ⟨rfl, Below.refl _ _⟩
theorem new_ok10 (n : Nat) (w : World) (h1 : 1 ≤ n) (h2 : n ≤ 1000) : Calls Try.prog 7 #[.int .i64 (n : Int)] w fun e w' => e = .returned (.tuple #[.pointer (some ⟨w.heap.size + 1, 0, none⟩), .int .i64 0]) ∧ w' = (w.alloc (.chan n #[] false 0 0 false)).alloc (.cells #[.chan (some w.heap.size)] 58) := by
  have hm := fun w : World => run_makeChan (P := Try.prog) (w := w) (i := (Try.prog.info? 68).getD default) chan_under (by kernel_rfl) .i64 n (by omega) (by
    have : (((Try.prog.info? 68).getD default).bytes) = 8 := by kernel_rfl
    rw [this]; omega)
  have i1 : ¬ ((n : Int) < 1) := by omega
  have i2 : ¬ ((1000 : Int) < (n : Int)) := by omega
  go_enter Try.func7, Try.ntmps7
  go_wp2_with fail
  go_ret2
  exact ⟨rfl, rfl⟩
def hQI : QueI where
  Rep := RepQ (fun k : Int => Value.int .i64 k) InR
  foot h := h.2.1
  keep h := h.keep
  inv h := h.1
  new_ok m w h1 h2 := by
    obtain ⟨n, rfl⟩ : ∃ n : Nat, m = (n : Int) := ⟨m.toNat, by omega⟩
    refine (new_ok10 n w (by omega) (by omega)).mono ?_; rintro e w' ⟨rfl, rfl⟩
    exact ⟨_, _, rfl, RepQ.made _ _ w n (by omega) (by omega) _, ((Below.refl _ w).alloc (Nat.le_refl _) _).alloc (by rw [alloc_size]; omega) _, fun j q => by rcases q with q | q <;> omega⟩
  new_no := new_no10
  put := by
    intro w B m L F x h hx
    have hk := h.below_alloc (.cells #[(fun k : Int => Value.int .i64 k) x] 3)
    have h0 := h
    obtain ⟨h1, h2, h3, c, s, r, ps, h4, h5, h6, h7⟩ := h
    have hl := f2_len h7
    have hlt := h2 c h4
    have hq : (w.alloc (.cells #[(fun k : Int => Value.int .i64 k) x] 3)).cell? ⟨B, 0, none⟩ = some (.chan (some c)) := (cell_same (a := ⟨B, 0, none⟩) (alloc_lt (h2 B h3))).trans h5
    have hc : (w.alloc (.cells #[(fun k : Int => Value.int .i64 k) x] 3)).heap[c]? = some (.chan m.toNat (ps.map ptl).toArray false s r false) := (alloc_lt hlt).trans h6
    have hb : Below w.heap.size w (w.alloc (.cells #[(fun k : Int => Value.int .i64 k) x] 3)) := (Below.refl _ w).alloc (Nat.le_refl _) _
    by_cases hf : m ≤ (L.length : Int)
    · refine (put_full x rfl hq hc (by simp; omega)).mono ?_; rintro e w' ⟨rfl, rfl⟩
      rw [qpe, qput, if_pos hf, if_pos hf]
      exact ⟨rfl, F, hk, Turn.of_below hb, fun j q => Or.inl q⟩
    · refine (put_room x rfl hq hc (by simp; omega)).mono ?_; rintro e w' ⟨rfl, rfl⟩
      rw [qpe, qput, if_neg hf, if_neg hf]
      exact ⟨rfl, _, RepQ.put x _ h1 h2 h3 h4 h5 h6 h7 hx (by omega), turn_chan (Turn.of_below hb) (Or.inl h4), fun j q => q.imp id (fun q => by omega)⟩
  take := by
    intro w B m L F h
    have h0 := h
    obtain ⟨h1, h2, h3, c, s, r, ps, h4, h5, h6, h7⟩ := h
    match L, ps, h7 with
    | [], [], _ =>
      refine (take_none h5 h6).mono ?_; rintro e w' ⟨rfl, rfl⟩
      exact ⟨rfl, F, h0, Turn.refl _ _, fun j q => Or.inl q⟩
    | x :: L, p :: ps, h7 =>
      refine (take_some h5 h6 x (by simp [ptl]) (by simp) ((cell_same (a := ⟨p, 0, none⟩) (set_ne (cell_ne h6 h7.1.1))).trans h7.1.1)).mono ?_; rintro e w' ⟨rfl, rfl⟩
      exact ⟨by simp, F, RepQ.take h1 h2 h3 h4 h5 h6 h7.2, turn_chan (Turn.refl _ _) (Or.inl h4), fun j q => Or.inl q⟩
  len := by
    intro w B m L F h
    obtain ⟨h1, h2, h3, c, s, r, ps, h4, h5, h6, h7⟩ := h
    refine (len_10 h5 h6).mono ?_; rintro e w' ⟨rfl, rfl⟩
    exact ⟨by rw [← f2_len h7]; simp, Below.refl _ _⟩
  room := by
    intro w B m L F h
    obtain ⟨h1, h2, h3, c, s, r, ps, h4, h5, h6, h7⟩ := h
    refine (room_10 h5 h6).mono ?_; rintro e w' ⟨rfl, rfl⟩
    exact ⟨by rw [show ((m.toNat : Nat) : Int) = m by omega], Below.refl _ _⟩
set_option maxRecDepth 100000 in
theorem hNT : NilTake := by
  intro w
  have he := eql_chan
  refine Calls.mono (R := fun e w' => e = .returned (.tuple #[.int .i64 0, .bool false]) ∧ w' = w) ?_ (fun e w' ⟨h, h'⟩ => ⟨h, h' ▸ Below.refl _ _⟩)
  refine calls_of_loneTo fun cs => ?_
  have e : Frame.enter Try.prog 21 #[.pointer none] .normal = (base 21).at ⟨#[.pointer none, undef, undef, undef, undef, undef, undef, undef, undef, undef, undef, undef, undef, undef, undef, undef], []⟩ [.code (Try.f21.body.getD .skip)] := by
    simp [Frame.enter, Frame.at, Try.func21, base, Try.f21]
  rw [e]
  clear e
  refine LoneTo.goes (n := 120) ?_
  simp only [Try.f21, Option.getD_some]
  repeat (first | s_c stepG_seq | s_c stepG_block | s_reg | s_c stepG_region_end | s_c stepG_skip | s_c stepG_inBlock | s_op | s_cond true | s_cond false)
  s_call Try.func24 (by kernel_rfl) Try.f24
  repeat (first | s_c stepG_seq | s_c stepG_block | s_reg | s_c stepG_region_end | s_c stepG_skip | s_c stepG_inBlock | s_op | s_cond true | s_cond false)
  s_c stepG_ret'
  s_leave1 Try.func24
  repeat (first | s_c stepG_seq | s_c stepG_block | s_reg | s_c stepG_region_end | s_c stepG_skip | s_c stepG_inBlock | s_op | s_cond true | s_cond false)
  s_stop
  refine LoneTo.step (step_lone_select_recv_nil (z := .pointer none) (stepG_comm (cases := #[rcaseNil (.pointer none)]) (blocking := false) (shape := .select) (w' := w) rfl rfl (by decide) (by simp [go_sem, execOp, rcaseNil, Act.eval]))) ?_
  rw [Frame.finish_at]
  walk_nrm
  refine LoneTo.goes (n := 120) ?_
  repeat (first | s_c stepG_seq | s_c stepG_block | s_reg | s_c stepG_region_end | s_c stepG_skip | s_c stepG_inBlock | s_op | s_cond true | s_cond false)
  s_c stepG_ret'
  s_stop
  exact LoneTo.done ⟨.returned (.tuple #[.int .i64 0, .bool false]), _, rfl, ⟨rfl, rfl⟩, rfl, rfl, rfl, rfl, _, Try.func21, by simp [results, Try.f21, Frame.at, go_sem]⟩
set_option maxRecDepth 100000 in
theorem hNP : NilPut := by
  intro x w
  have he := eql_chan
  refine Calls.mono (R := fun e w' => e = .returned (.int .i64 1) ∧ w' = w.alloc (.cells #[.int .i64 x] 3)) ?_ (fun e w' ⟨h, h'⟩ => ⟨h, h' ▸ (Below.refl _ w).alloc (Nat.le_refl _) _⟩)
  refine calls_of_loneTo fun cs => ?_
  have e : Frame.enter Try.prog 18 #[.pointer none, .int .i64 x] .normal = (base 18).at ⟨#[.pointer none, .int .i64 x, undef, undef, undef, undef, undef, undef, undef, undef, undef, undef, undef, undef, undef], []⟩ [.code (Try.f18.body.getD .skip)] := by
    simp [Frame.enter, Frame.at, Try.func18, base, Try.f18]
  rw [e]
  clear e
  refine LoneTo.goes (n := 120) ?_
  simp only [Try.f18, Option.getD_some]
  repeat (first | s_c stepG_seq | s_c stepG_block | s_reg | s_c stepG_region_end | s_c stepG_skip | s_c stepG_inBlock | s_op | s_cond true | s_cond false)
  s_call Try.func24 (by kernel_rfl) Try.f24
  repeat (first | s_c stepG_seq | s_c stepG_block | s_reg | s_c stepG_region_end | s_c stepG_skip | s_c stepG_inBlock | s_op | s_cond true | s_cond false)
  s_c stepG_ret'
  s_leave1 Try.func24
  repeat (first | s_c stepG_seq | s_c stepG_block | s_reg | s_c stepG_region_end | s_c stepG_skip | s_c stepG_inBlock | s_op | s_cond true | s_cond false)
  s_c stepG_ret'
  s_stop
  exact LoneTo.done ⟨.returned (.int .i64 1), _, rfl, ⟨rfl, rfl⟩, rfl, rfl, rfl, rfl, _, Try.func18, by simp [results, Try.f18, Frame.at, go_sem]⟩
theorem chan_under_s : Try.prog.underlying 63 = some (.chan .both 67) := by kernel_rfl
theorem in_chan_s (d : Nat) (o : Option Nat) (w : World) : (Op.equalIn (d + 1) 63 (.chan o) (.chan none)).run Try.prog w = .ok o.isNone w := by
  cases o <;> simp [Op.equalIn, run_underlying chan_under_s]
theorem eql_chan_s (o : Option Nat) (w : World) : (binOp .eql 63 (.chan o) (.chan none)).run Try.prog w = .ok (.bool o.isNone) w := by
  simp only [binOp]
  simp [Op.equal, Op.maxDepth, in_chan_s 9999]
set_option maxRecDepth 100000 in
theorem put_room_s {w W : World} {B c cap s r : Nat} {buf : Array Value} (x : ByteArray) (hW : w.alloc (.cells #[.string x] 9) = W) (hq : W.cell? ⟨B, 0, none⟩ = some (.chan (some c))) (hc : W.heap[c]? = some (.chan cap buf false s r false)) (hroom : buf.size < cap) :
    Calls Try.prog 14 #[.pointer (some ⟨B, 0, none⟩), .string x] w fun e w' => e = .returned (.int .i64 0) ∧ w' = W.setChan c cap (buf.push (.pointer (some ⟨w.heap.size, 0, none⟩))) false (s + 1) r false := by
  have he := eql_chan_s
  subst hW
  refine calls_of_loneTo fun cs => ?_
  have e : Frame.enter Try.prog 14 #[.pointer (some ⟨B, 0, none⟩), .string x] .normal = (base 14).at ⟨#[.pointer (some ⟨B, 0, none⟩), .string x, undef, undef, undef, undef, undef, undef, undef, undef, undef, undef, undef, undef, undef], []⟩ [.code (Try.f14.body.getD .skip)] := by
    simp [Frame.enter, Frame.at, Try.func14, base, Try.f14]
  rw [e]
  clear e
  refine LoneTo.goes (n := 120) ?_
  simp only [Try.f14, Option.getD_some]
  repeat (first | s_c stepG_seq | s_c stepG_block | s_reg | s_c stepG_region_end | s_c stepG_skip | s_c stepG_inBlock | s_op | s_cond true | s_cond false)
  s_call Try.func25 (by kernel_rfl) Try.f25
  repeat (first | s_c stepG_seq | s_c stepG_block | s_reg | s_c stepG_region_end | s_c stepG_skip | s_c stepG_inBlock | s_op | s_cond true | s_cond false)
  s_c stepG_ret'
  s_leave1 Try.func25
  repeat (first | s_c stepG_seq | s_c stepG_block | s_reg | s_c stepG_region_end | s_c stepG_skip | s_c stepG_inBlock | s_op | s_cond true | s_cond false)
  s_stop
  refine LoneTo.step (step_lone_select_send_room (c := c) (cap := cap) (buf := buf) (s := s) (r := r) (tm := false) (stepG_comm (cases := #[scase c (.pointer (some ⟨w.heap.size, 0, none⟩)) (.pointer none)]) (blocking := false) (shape := .select) (w' := w.alloc (.cells #[.string x] 9)) rfl rfl (by decide) (by simp [go_sem, execOp, scase, Act.eval])) hc hroom) ?_
  rw [Frame.finish_at]
  walk_nrm
  refine LoneTo.goes (n := 120) ?_
  repeat (first | s_c stepG_seq | s_c stepG_block | s_reg | s_c stepG_region_end | s_c stepG_skip | s_c stepG_inBlock | s_op | s_cond true | s_cond false)
  s_c stepG_ret'
  s_stop
  exact LoneTo.done ⟨.returned (.int .i64 0), _, rfl, ⟨rfl, rfl⟩, rfl, rfl, rfl, rfl, _, Try.func14, by simp [results, Try.f14, Frame.at, go_sem]⟩
set_option maxRecDepth 100000 in
theorem put_full_s {w W : World} {B c cap s r : Nat} {buf : Array Value} (x : ByteArray) (hW : w.alloc (.cells #[.string x] 9) = W) (hq : W.cell? ⟨B, 0, none⟩ = some (.chan (some c))) (hc : W.heap[c]? = some (.chan cap buf false s r false)) (hfull : cap ≤ buf.size) :
    Calls Try.prog 14 #[.pointer (some ⟨B, 0, none⟩), .string x] w fun e w' => e = .returned (.int .i64 3) ∧ w' = W := by
  have he := eql_chan_s
  subst hW
  refine calls_of_loneTo fun cs => ?_
  have e : Frame.enter Try.prog 14 #[.pointer (some ⟨B, 0, none⟩), .string x] .normal = (base 14).at ⟨#[.pointer (some ⟨B, 0, none⟩), .string x, undef, undef, undef, undef, undef, undef, undef, undef, undef, undef, undef, undef, undef], []⟩ [.code (Try.f14.body.getD .skip)] := by
    simp [Frame.enter, Frame.at, Try.func14, base, Try.f14]
  rw [e]
  clear e
  refine LoneTo.goes (n := 120) ?_
  simp only [Try.f14, Option.getD_some]
  repeat (first | s_c stepG_seq | s_c stepG_block | s_reg | s_c stepG_region_end | s_c stepG_skip | s_c stepG_inBlock | s_op | s_cond true | s_cond false)
  s_call Try.func25 (by kernel_rfl) Try.f25
  repeat (first | s_c stepG_seq | s_c stepG_block | s_reg | s_c stepG_region_end | s_c stepG_skip | s_c stepG_inBlock | s_op | s_cond true | s_cond false)
  s_c stepG_ret'
  s_leave1 Try.func25
  repeat (first | s_c stepG_seq | s_c stepG_block | s_reg | s_c stepG_region_end | s_c stepG_skip | s_c stepG_inBlock | s_op | s_cond true | s_cond false)
  s_stop
  refine LoneTo.step (step_lone_select_send_full (c := c) (cap := cap) (buf := buf) (s := s) (r := r) (tm := false) (stepG_comm (cases := #[scase c (.pointer (some ⟨w.heap.size, 0, none⟩)) (.pointer none)]) (blocking := false) (shape := .select) (w' := w.alloc (.cells #[.string x] 9)) rfl rfl (by decide) (by simp [go_sem, execOp, scase, Act.eval])) hc hfull) ?_
  rw [Frame.finish_at]
  walk_nrm
  refine LoneTo.goes (n := 120) ?_
  repeat (first | s_c stepG_seq | s_c stepG_block | s_reg | s_c stepG_region_end | s_c stepG_skip | s_c stepG_inBlock | s_op | s_cond true | s_cond false)
  s_c stepG_ret'
  s_stop
  exact LoneTo.done ⟨.returned (.int .i64 3), _, rfl, ⟨rfl, rfl⟩, rfl, rfl, rfl, rfl, _, Try.func14, by simp [results, Try.f14, Frame.at, go_sem]⟩
set_option maxRecDepth 100000 in
theorem take_some_s {w : World} {B c cap s r : Nat} {buf : Array Value} {p : Nat} (hq : w.cell? ⟨B, 0, none⟩ = some (.chan (some c))) (hc : w.heap[c]? = some (.chan cap buf false s r false)) (x : ByteArray) (hx : buf.getD 0 undef = .pointer (some ⟨p, 0, none⟩)) (hsome : 0 < buf.size)
    (hp : (w.setChan c cap (buf.extract 1 buf.size) false s (r + 1) false).cell? ⟨p, 0, none⟩ = some (.string x)) :
    Calls Try.prog 17 #[.pointer (some ⟨B, 0, none⟩)] w fun e w' => e = .returned (.tuple #[.string x, .bool true]) ∧ w' = w.setChan c cap (buf.extract 1 buf.size) false s (r + 1) false := by
  have he := eql_chan_s
  refine calls_of_loneTo fun cs => ?_
  have e : Frame.enter Try.prog 17 #[.pointer (some ⟨B, 0, none⟩)] .normal = (base 17).at ⟨#[.pointer (some ⟨B, 0, none⟩), undef, undef, undef, undef, undef, undef, undef, undef, undef, undef, undef, undef, undef, undef, undef], []⟩ [.code (Try.f17.body.getD .skip)] := by
    simp [Frame.enter, Frame.at, Try.func17, base, Try.f17]
  rw [e]
  clear e
  refine LoneTo.goes (n := 120) ?_
  simp only [Try.f17, Option.getD_some]
  repeat (first | s_c stepG_seq | s_c stepG_block | s_reg | s_c stepG_region_end | s_c stepG_skip | s_c stepG_inBlock | s_op | s_cond true | s_cond false)
  s_call Try.func25 (by kernel_rfl) Try.f25
  repeat (first | s_c stepG_seq | s_c stepG_block | s_reg | s_c stepG_region_end | s_c stepG_skip | s_c stepG_inBlock | s_op | s_cond true | s_cond false)
  s_c stepG_ret'
  s_leave1 Try.func25
  repeat (first | s_c stepG_seq | s_c stepG_block | s_reg | s_c stepG_region_end | s_c stepG_skip | s_c stepG_inBlock | s_op | s_cond true | s_cond false)
  s_stop
  refine LoneTo.step (step_lone_select_recv_buf (c := c) (z := .pointer none) (stepG_comm (cases := #[rcase c (.pointer none)]) (blocking := false) (shape := .select) (w' := w) rfl rfl (by decide) (by simp [go_sem, execOp, rcase, Act.eval])) hc hsome) ?_
  rw [hx]
  rw [Frame.finish_at]
  walk_nrm
  refine LoneTo.goes (n := 120) ?_
  repeat (first | s_c stepG_seq | s_c stepG_block | s_reg | s_c stepG_region_end | s_c stepG_skip | s_c stepG_inBlock | s_op | s_cond true | s_cond false)
  s_c stepG_ret'
  s_stop
  exact LoneTo.done ⟨.returned (.tuple #[.string x, .bool true]), _, rfl, ⟨rfl, rfl⟩, rfl, rfl, rfl, rfl, _, Try.func17, by simp [results, Try.f17, Frame.at, go_sem]⟩
set_option maxRecDepth 100000 in
theorem take_none_s {w : World} {B c cap s r : Nat} (hq : w.cell? ⟨B, 0, none⟩ = some (.chan (some c))) (hc : w.heap[c]? = some (.chan cap #[] false s r false)) :
    Calls Try.prog 17 #[.pointer (some ⟨B, 0, none⟩)] w fun e w' => e = .returned (.tuple #[.string ⟨#[]⟩, .bool false]) ∧ w' = w := by
  have he := eql_chan_s
  refine calls_of_loneTo fun cs => ?_
  have e : Frame.enter Try.prog 17 #[.pointer (some ⟨B, 0, none⟩)] .normal = (base 17).at ⟨#[.pointer (some ⟨B, 0, none⟩), undef, undef, undef, undef, undef, undef, undef, undef, undef, undef, undef, undef, undef, undef, undef], []⟩ [.code (Try.f17.body.getD .skip)] := by
    simp [Frame.enter, Frame.at, Try.func17, base, Try.f17]
  rw [e]
  clear e
  refine LoneTo.goes (n := 120) ?_
  simp only [Try.f17, Option.getD_some]
  repeat (first | s_c stepG_seq | s_c stepG_block | s_reg | s_c stepG_region_end | s_c stepG_skip | s_c stepG_inBlock | s_op | s_cond true | s_cond false)
  s_call Try.func25 (by kernel_rfl) Try.f25
  repeat (first | s_c stepG_seq | s_c stepG_block | s_reg | s_c stepG_region_end | s_c stepG_skip | s_c stepG_inBlock | s_op | s_cond true | s_cond false)
  s_c stepG_ret'
  s_leave1 Try.func25
  repeat (first | s_c stepG_seq | s_c stepG_block | s_reg | s_c stepG_region_end | s_c stepG_skip | s_c stepG_inBlock | s_op | s_cond true | s_cond false)
  s_stop
  refine LoneTo.step (step_lone_select_default (c := c) (z := .pointer none) (stepG_comm (cases := #[rcase c (.pointer none)]) (blocking := false) (shape := .select) (w' := w) rfl rfl (by decide) (by simp [go_sem, execOp, rcase, Act.eval])) hc) ?_
  rw [Frame.finish_at]
  walk_nrm
  refine LoneTo.goes (n := 120) ?_
  repeat (first | s_c stepG_seq | s_c stepG_block | s_reg | s_c stepG_region_end | s_c stepG_skip | s_c stepG_inBlock | s_op | s_cond true | s_cond false)
  s_c stepG_ret'
  s_stop
  exact LoneTo.done ⟨.returned (.tuple #[.string ⟨#[]⟩, .bool false]), _, rfl, ⟨rfl, rfl⟩, rfl, rfl, rfl, rfl, _, Try.func17, by simp [results, Try.f17, Frame.at, go_sem]⟩
theorem channel_10_s {w : World} {B c : Nat} (hq : w.cell? ⟨B, 0, none⟩ = some (.chan (some c))) : Calls Try.prog 25 #[.pointer (some ⟨B, 0, none⟩)] w fun e w' => e = .returned (.chan (some c)) ∧ w' = w := by
  go_enter Try.func25, Try.ntmps25
  go_wp2_with fail
  go_ret
  exact ⟨rfl, rfl⟩
theorem len_10_s {w : World} {B c cap s r : Nat} {buf : Array Value} (hq : w.cell? ⟨B, 0, none⟩ = some (.chan (some c))) (hc : w.heap[c]? = some (.chan cap buf false s r false)) :
    Calls Try.prog 15 #[.pointer (some ⟨B, 0, none⟩)] w fun e w' => e = .returned (.int .i64 (buf.size : Int)) ∧ w' = w := by
  have hx := channel_10_s hq
  have hl := run_len_chan (P := Try.prog) 63 3 chan_under_s hc
  simp only [goInt] at hl
  go_enter Try.func15, Try.ntmps15
  go_wp2_with fail
  refine hx.mono ?_; rintro e w1 ⟨rfl, rfl⟩
  go_wp2_with fail
  go_ret
  exact ⟨rfl, rfl⟩
theorem room_10_s {w : World} {B c cap s r : Nat} {buf : Array Value} (hq : w.cell? ⟨B, 0, none⟩ = some (.chan (some c))) (hc : w.heap[c]? = some (.chan cap buf false s r false)) :
    Calls Try.prog 16 #[.pointer (some ⟨B, 0, none⟩)] w fun e w' => e = .returned (.int .i64 (cap : Int)) ∧ w' = w := by
  have hx := channel_10_s hq
  have hl := run_cap_chan (P := Try.prog) 63 3 chan_under_s hc
  simp only [goInt] at hl
  go_enter Try.func16, Try.ntmps16
  go_wp2_with fail
  refine hx.mono ?_; rintro e w1 ⟨rfl, rfl⟩
  go_wp2_with fail
  go_ret
  exact ⟨rfl, rfl⟩
theorem new_no10_s (m : Int) (w : World) (h : ¬ (1 ≤ m ∧ m ≤ 1000)) : Calls Try.prog 13 #[.int .i64 m] w fun e w' => e = .returned (.tuple #[.pointer none, .int .i64 2]) ∧ Below w.heap.size w w' := by
  by_cases h1 : m < 1
  · clear h
    go_enter Try.func13, Try.ntmps13
    go_wp2_with fail
    go_ret2
    exact ⟨rfl, Below.refl _ _⟩
  · have h2 : (1000 : Int) < m := by omega
    clear h
    go_enter Try.func13, Try.ntmps13
    go_wp2_with fail
    go_ret2
    exact ⟨rfl, Below.refl _ _⟩
theorem new_ok10_s (n : Nat) (w : World) (h1 : 1 ≤ n) (h2 : n ≤ 1000) : Calls Try.prog 13 #[.int .i64 (n : Int)] w fun e w' => e = .returned (.tuple #[.pointer (some ⟨w.heap.size + 1, 0, none⟩), .int .i64 0]) ∧ w' = (w.alloc (.chan n #[] false 0 0 false)).alloc (.cells #[.chan (some w.heap.size)] 65) := by
  have hm := fun w : World => run_makeChan (P := Try.prog) (w := w) (i := (Try.prog.info? 67).getD default) chan_under_s (by kernel_rfl) .i64 n (by omega) (by
    have : (((Try.prog.info? 67).getD default).bytes) = 8 := by kernel_rfl
    rw [this]; omega)
  have i1 : ¬ ((n : Int) < 1) := by omega
  have i2 : ¬ ((1000 : Int) < (n : Int)) := by omega
  go_enter Try.func13, Try.ntmps13
  go_wp2_with fail
  go_ret2
  exact ⟨rfl, rfl⟩
def hQS : QueS where
  Rep := RepQ (fun k : ByteArray => Value.string k) (fun k : ByteArray => k.size ≤ maxLen)
  foot h := h.2.1
  keep h := h.keep
  inv h := h.1
  new_ok m w h1 h2 := by
    obtain ⟨n, rfl⟩ : ∃ n : Nat, m = (n : Int) := ⟨m.toNat, by omega⟩
    refine (new_ok10_s n w (by omega) (by omega)).mono ?_; rintro e w' ⟨rfl, rfl⟩
    exact ⟨_, _, rfl, RepQ.made _ _ w n (by omega) (by omega) _, ((Below.refl _ w).alloc (Nat.le_refl _) _).alloc (by rw [alloc_size]; omega) _, fun j q => by rcases q with q | q <;> omega⟩
  new_no := new_no10_s
  put := by
    intro w B m L F x h hx
    have hk := h.below_alloc (.cells #[(fun k : ByteArray => Value.string k) x] 9)
    have h0 := h
    obtain ⟨h1, h2, h3, c, s, r, ps, h4, h5, h6, h7⟩ := h
    have hl := f2_len h7
    have hlt := h2 c h4
    have hq : (w.alloc (.cells #[(fun k : ByteArray => Value.string k) x] 9)).cell? ⟨B, 0, none⟩ = some (.chan (some c)) := (cell_same (a := ⟨B, 0, none⟩) (alloc_lt (h2 B h3))).trans h5
    have hc : (w.alloc (.cells #[(fun k : ByteArray => Value.string k) x] 9)).heap[c]? = some (.chan m.toNat (ps.map ptl).toArray false s r false) := (alloc_lt hlt).trans h6
    have hb : Below w.heap.size w (w.alloc (.cells #[(fun k : ByteArray => Value.string k) x] 9)) := (Below.refl _ w).alloc (Nat.le_refl _) _
    by_cases hf : m ≤ (L.length : Int)
    · refine (put_full_s x rfl hq hc (by simp; omega)).mono ?_; rintro e w' ⟨rfl, rfl⟩
      rw [qpe, qput, if_pos hf, if_pos hf]
      exact ⟨rfl, F, hk, Turn.of_below hb, fun j q => Or.inl q⟩
    · refine (put_room_s x rfl hq hc (by simp; omega)).mono ?_; rintro e w' ⟨rfl, rfl⟩
      rw [qpe, qput, if_neg hf, if_neg hf]
      exact ⟨rfl, _, RepQ.put x _ h1 h2 h3 h4 h5 h6 h7 hx (by omega), turn_chan (Turn.of_below hb) (Or.inl h4), fun j q => q.imp id (fun q => by omega)⟩
  take := by
    intro w B m L F h
    have h0 := h
    obtain ⟨h1, h2, h3, c, s, r, ps, h4, h5, h6, h7⟩ := h
    match L, ps, h7 with
    | [], [], _ =>
      refine (take_none_s h5 h6).mono ?_; rintro e w' ⟨rfl, rfl⟩
      exact ⟨rfl, F, h0, Turn.refl _ _, fun j q => Or.inl q⟩
    | x :: L, p :: ps, h7 =>
      refine (take_some_s h5 h6 x (by simp [ptl]) (by simp) ((cell_same (a := ⟨p, 0, none⟩) (set_ne (cell_ne h6 h7.1.1))).trans h7.1.1)).mono ?_; rintro e w' ⟨rfl, rfl⟩
      exact ⟨by simp, F, RepQ.take h1 h2 h3 h4 h5 h6 h7.2, turn_chan (Turn.refl _ _) (Or.inl h4), fun j q => Or.inl q⟩
  len := by
    intro w B m L F h
    obtain ⟨h1, h2, h3, c, s, r, ps, h4, h5, h6, h7⟩ := h
    refine (len_10_s h5 h6).mono ?_; rintro e w' ⟨rfl, rfl⟩
    exact ⟨by rw [← f2_len h7]; simp, Below.refl _ _⟩
  room := by
    intro w B m L F h
    obtain ⟨h1, h2, h3, c, s, r, ps, h4, h5, h6, h7⟩ := h
    refine (room_10_s h5 h6).mono ?_; rintro e w' ⟨rfl, rfl⟩
    exact ⟨by rw [show ((m.toNat : Nat) : Int) = m by omega], Below.refl _ _⟩
theorem hEi : EithC hQI := by
  generalize hQI = T
  intro w B C m n L M F G h1 h2 hd
  have ht := T.take h1
  have HD := Lib.hid hd
  clear hd
  by_cases hL : 0 < L.length
  · rw [show decide (0 < L.length) = true from decide_eq_true hL] at ht
    rw [eiv, eib, eiM, if_pos hL, if_pos hL, show decide (0 < L.length) = true from decide_eq_true hL, Bool.true_or]
    clear hL
    unfold eiL
    generalize L.headD 0 = z at *
    go_enter Try.func19, Try.ntmps19
    go_wp2_with fail
    refine ht.mono ?_; rintro e w1 ⟨rfl, F', r, t, f⟩
    clear ht
    go_wp2_with fail
    go_ret2
    exact ⟨rfl, F', G, r, T.turn h2 t (fun j q q' => HD.out j q' q), fun j q q' => (f j q).elim (fun q => HD.out j q q') (fun q => by have := T.foot h2 j q'; omega), t.mono (fun j q => Or.inl q), f, fun j q => Or.inl q⟩
  · rw [show decide (0 < L.length) = false from decide_eq_false hL] at ht
    rw [eiv, eib, eiM, if_neg hL, if_neg hL, show decide (0 < L.length) = false from decide_eq_false hL, Bool.false_or]
    clear hL
    obtain ⟨y, hy⟩ : ∃ y, y = M.headD 0 := ⟨_, rfl⟩
    obtain ⟨bo, hbo⟩ : ∃ bo, bo = decide (0 < M.length) := ⟨_, rfl⟩
    rw [← hy, ← hbo]
    have HY := Lib.hid hy; have HO := Lib.hid hbo
    clear hy hbo
    unfold eiL
    generalize L.headD 0 = z at *
    go_enter Try.func19, Try.ntmps19
    go_wp2_with fail
    refine ht.mono ?_; rintro e w1 ⟨rfl, F', r, t, f⟩
    clear ht
    have h2' := T.turn h2 t (fun j q q' => HD.out j q' q)
    have ht := T.take h2'
    rw [← HY.out, ← HO.out] at ht
    go_wp2_with fail
    refine ht.mono ?_; rintro e w2 ⟨rfl, G', r', t', g⟩
    clear ht
    go_wp2_with fail
    go_ret2
    have hF : ∀ j, F' j → ¬ G j := fun j q q' => (f j q).elim (fun q => HD.out j q q') (fun q => by have := T.foot h2 j q'; omega)
    exact ⟨rfl, F', G', T.turn r t' hF, r', fun j q q' => (g j q').elim (hF j q) (fun q' => by have := T.foot r j q; omega), (t.mono (fun j q => Or.inl q)).trans (t'.mono (fun j q => Or.inr q)) (fun j q => Or.inl q), f, fun j q => (g j q).imp id (fun q => Nat.le_trans t.size q)⟩
end Go.Proofs.Ytjljjbfeefcnkaa
