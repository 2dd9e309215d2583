/- order's sides and its choices: the closures that rules makes, and what they answer. -/
import Derived.Test.YtkhhkjinlkpdlaaOrderMath
import Derived.Test.YtkhhkjinlkpdlaaCallKit
import Derived.Deep.QuietTactic
import Derived.IntWalk
import Derived.BigQuiet
namespace Go.Proofs.Ytkhhkjinlkpdlaa
set_option linter.unusedVariables false
set_option linter.unusedSimpArgs false
set_option maxRecDepth 100000
open Go.ChangeShapes Go.WideShapes Go.ChangeAt Go.RowKit

def idxI (l : List Int) (x : Int) : Int := if l.contains x then (l.idxOf x : Nat) else -1
theorem idxI_has (l : List Int) (x : Int) : decide (0 ≤ idxI l x) = l.contains x := by
  unfold idxI
  rcases h : l.contains x with _ | _
  · rfl
  · simp
theorem idxI_at {l : List Int} {x : Int} {j : Nat} (h : l[j]? = some x) (h0 : ∀ k, k < j → l[k]? ≠ some x) : idxI l x = j := by
  have hm : x ∈ l := List.mem_of_getElem? h
  unfold idxI
  rw [if_pos (List.contains_iff_mem.2 hm)]
  have hj := (List.getElem?_eq_some_iff.1 h).1
  have hi := List.idxOf_lt_length_of_mem hm
  congr 1
  rcases Nat.lt_trichotomy (l.idxOf x) j with q | q | q
  · exact absurd (by rw [List.getElem?_eq_getElem hi, List.getElem_idxOf]) (h0 _ q)
  · exact q
  · exact absurd (show (l[j] == x) = true by rw [(List.getElem?_eq_some_iff.1 h).2]; simp) (by simpa using List.not_of_lt_findIdx q)
theorem idxI_none {l : List Int} {x : Int} (h0 : ∀ k, k < l.length → l[k]? ≠ some x) : idxI l x = -1 := by
  unfold idxI
  rw [if_neg]
  intro h
  obtain ⟨k, hk⟩ := List.getElem?_of_mem (List.contains_iff_mem.1 h)
  exact h0 k (List.getElem?_eq_some_iff.1 hk).1 hk

set_option maxHeartbeats 1000000 in
theorem index_u8 (a : Option Addr) (cap : Nat) (l : List Int) (x : Int) (w : World) (h : RowOf .u8 w w.heap.size a l) (hl : l.length ≤ 1000000) :
    Calls Try.prog 46 #[.slice a l.length cap, .int .u8 x] w fun e w' => e = .returned (.int .i64 (idxI l x)) ∧ w = w' := by
  have HA := Lib.hid h
  clear h
  go_enter Try.func46, Try.ntmps46
  go_wp2
  go_loop [8] (fun i => ∃ j : Nat, j ≤ l.length ∧ i = .int .i64 j ∧ Hid (∀ k, k < j → l[k]? ≠ some x)) (fun i => l.length - (intOf i).toNat)
  case atStart => exact ⟨0, Nat.zero_le _, rfl, Lib.hid fun k hk => by omega⟩
  case round =>
    obtain ⟨j, hj, rfl, HZ⟩ := hrel
    by_cases hlt : j < l.length
    · obtain ⟨y, hy⟩ := at_lt hlt
      obtain ⟨g, off, rfl, hg, hc⟩ := HA.out j y hy
      have HY := Lib.hid hy
      clear hy
      rcases e : (x == y) with _ | _
      · have HE := Lib.hid e
        go_wp2
        go_round
        case rel =>
          refine ⟨j + 1, by omega, by go_num, Lib.hid fun k hk => ?_⟩
          rcases Nat.lt_or_ge k j with q | q
          · exact HZ.out k q
          · obtain rfl : k = j := by omega
            rw [HY.out]
            intro e2
            have := HE.out
            cases e2
            simp at this
        case measure => simp [intOf]; omega
      · have HE : Hid (idxI l x = j) := Lib.hid (idxI_at (by rw [HY.out]; simp at e; rw [e]) HZ.out)
        go_wp2
        go_ret
        exact ⟨by rw [HE.out]; rfl, rfl⟩
    · obtain rfl : j = l.length := by omega
      have HE : Hid (idxI l x = -1) := Lib.hid (idxI_none HZ.out)
      go_wp2
      go_ret
      exact ⟨by rw [HE.out]; rfl, rfl⟩
theorem contains_u8 (a : Option Addr) (cap : Nat) (l : List Int) (x : Int) (w : World) (h : RowOf .u8 w w.heap.size a l) (hl : l.length ≤ 1000000) :
    Calls Try.prog 43 #[.slice a l.length cap, .int .u8 x] w fun e w' => e = .returned (.bool (l.contains x)) ∧ w = w' := by
  have HA := Lib.hid (index_u8 a cap l x w h hl)
  have HE := Lib.hid (idxI_has l x)
  clear h
  generalize l.contains x = b at *
  generalize idxI l x = k at *
  go_enter Try.func43, Try.ntmps43
  go_wp2_with (go_at_call 46; refine HA.out.mono ?_; rintro e w' ⟨rfl, rfl⟩)
  go_ret
  exact ⟨by rw [← HE.out]; rfl, rfl⟩

theorem touch_cell {Y : Nat → Prop} {w u : World} (h : Touch Y w u) {b i : Nat} {v : Value} (hb : ¬ Y b) (hc : w.cell? ⟨b, i, none⟩ = some v) : u.cell? ⟨b, i, none⟩ = some v := (World.cell?_of_block (a := ⟨b, i, none⟩) (h.block b (cell_lt hc) hb)).trans hc
theorem row_touch {Y : Nat → Prop} {w u : World} {k : IntKind} {a : Option Addr} {l : List Int} (hr : RowOf k w w.heap.size a l) (ha : l ≠ [] → ∀ c off, a = some ⟨c, off, none⟩ → ¬ Y c) (h : Touch Y w u) : RowOf k u u.heap.size a l := fun i x hx => by
  obtain ⟨c, off, h1, h2, h3⟩ := hr i x hx
  exact ⟨c, off, h1, Nat.lt_of_lt_of_le h2 h.size, touch_cell h (ha (by intro e; rw [e] at hx; cases hx) c off h1) h3⟩
theorem touch_new {Y : Nat → Prop} {w u : World} (h : Touch Y w u) (o : Obj) : Touch Y w (u.alloc o) := h.trans (Touch.of_below (X := Y) (below_box u o)) fun _ _ h => h
theorem touch_drew {Y : Nat → Prop} {w u : World} (h : Touch Y w u) (n : Nat) : Touch Y w (u.drewN n) := ⟨h.os, h.tape, h.output, h.size, h.block⟩
/-- What a side answers, whatever is done behind its making. -/
def SideV (Y : Nat → Prop) (w : World) (v : Value) (s : Sd) : Prop := ∃ fn cap, v = .func (.func fn) #[] cap ∧ (∀ args u, (callFunc fn args).run Try.prog u = .ok (.enter fn args) u) ∧ ∀ u, Touch Y w u → ∀ e : EvD, Calls Try.prog fn (#[e.v] ++ cap) u fun r u' => r = .returned (.tuple #[.int .i64 (s e).1, .bool (s e).2]) ∧ Below u.heap.size u u'
theorem SideV.touch {Y : Nat → Prop} {w w' : World} {v : Value} {s : Sd} (h : SideV Y w v s) (hT : Touch Y w w') : SideV Y w' v s := by
  obtain ⟨fn, cap, rfl, hc, h⟩ := h
  exact ⟨fn, cap, rfl, hc, fun u hu => h u (hT.trans hu fun _ _ h => h)⟩
theorem SideV.later {Y : Nat → Prop} {w w' : World} {v : Value} {s : Sd} (h : SideV Y w v s) (hB : Below w.heap.size w w') : SideV Y w' v s := h.touch (Touch.of_below hB)
theorem SideV.none {Y : Nat → Prop} {w : World} {v : Value} {s : Sd} (h : SideV Y w v s) : SideV (fun _ => False) w v s := by
  obtain ⟨fn, cap, rfl, hc, h⟩ := h
  exact ⟨fn, cap, rfl, hc, fun u hu => h u (hu.mono fun _ _ h => h.elim)⟩

set_option maxHeartbeats 1000000 in
theorem side_thread (Y : Nat → Prop) (w : World) : SideV Y w (.func (.func 30) #[] #[]) thS := by
  refine ⟨30, #[], rfl, cf_of Try.func30 (by kernel_rfl) (by kernel_rfl), fun u hu e => ?_⟩
  obtain ⟨th, pc, op, obj, val, mode⟩ := e
  show Calls Try.prog 30 #[evV th pc op obj val mode] u _
  go_enter Try.func30, Try.ntmps30
  go_wp2
  go_ret2
  exact ⟨rfl, below_box _ _⟩
set_option maxHeartbeats 1000000 in
theorem side_few (Y : Nat → Prop) (w : World) : SideV Y w (.func (.func 34) #[] #[]) fewS := by
  refine ⟨34, #[], rfl, cf_of Try.func34 (by kernel_rfl) (by kernel_rfl), fun u hu e => ?_⟩
  obtain ⟨th, pc, op, obj, val, mode⟩ := e
  show Calls Try.prog 34 #[evV th pc op obj val mode] u _
  rcases h : (op == 24) with _ | _
  · have HF : Hid (fewS ⟨th, pc, op, obj, val, mode⟩ = (obj, false)) := Lib.hid (by simp [fewS, h])
    go_enter Try.func34, Try.ntmps34
    go_wp2_with fail
    go_quiet (fail)
    go_wp2
    go_ret2
    exact ⟨by rw [HF.out]; rfl, below_draws (below_box _ _) _⟩
  · have HF : Hid (fewS ⟨th, pc, op, obj, val, mode⟩ = (obj, decide (val < 0))) := Lib.hid (by simp [fewS, h])
    go_enter Try.func34, Try.ntmps34
    go_wp2_with fail
    go_quiet (fail)
    go_wp2
    go_ret2
    exact ⟨by rw [HF.out]; rfl, below_draws (below_box _ _) _⟩
set_option maxHeartbeats 1000000 in
theorem side_ops {Y : Nat → Prop} {w : World} {g : Nat} {a : Option Addr} {cap : Nat} {l : List Int} (hYg : ¬ Y g) (hYa : l ≠ [] → ∀ c off, a = some ⟨c, off, none⟩ → ¬ Y c) (hg : w.cell? ⟨g, 0, none⟩ = some (.slice a l.length cap)) (hr : RowOf .u8 w w.heap.size a l) (hl : l.length ≤ 1000000) : SideV Y w (.func (.func 42) #[] #[.pointer (some ⟨g, 0, none⟩)]) (opsS l) := by
  refine ⟨42, _, rfl, cf_of Try.func42 (by kernel_rfl) (by kernel_rfl), fun u hu e => ?_⟩
  obtain ⟨th, pc, op, obj, val, mode⟩ := e
  show Calls Try.prog 42 #[evV th pc op obj val mode, .pointer (some ⟨g, 0, none⟩)] u _
  have hc : ∀ o, (u.alloc o).cell? ⟨g, 0, none⟩ = some (.slice a l.length cap) := fun o => touch_cell (touch_new hu o) hYg hg
  have HR := Lib.hid (fun o n => row_touch hr hYa (touch_drew (touch_new hu o) n))
  clear hg hr hYg hYa
  go_enter Try.func42, Try.ntmps42
  go_wp2_with fail
  go_quiet ((go_at_call 43; exact quiet_eq (contains_u8 a cap l op _ (HR.out _ _) hl)))
  go_wp2
  go_ret2
  exact ⟨rfl, below_draws (below_box _ _) _⟩

theorem ret_pair {x y : Int} {b c : Bool} (h : x = y) (h2 : b = c) : Ending.returned (.tuple #[.int .i64 x, .bool b]) = .returned (.tuple #[.int .i64 y, .bool c]) := by rw [h, h2]
set_option maxHeartbeats 1000000 in
theorem side_mode {Y : Nat → Prop} {w : World} {g gm : Nat} {v : Value} {m : Int} {l : List Int} (hYg : ¬ Y g) (hYm : ¬ Y gm) (hg : w.cell? ⟨g, 0, none⟩ = some v) (hm : w.cell? ⟨gm, 0, none⟩ = some (.int .i64 m)) (hs : SideV Y w v (opsS l)) : SideV Y w (.func (.func 41) #[] #[.pointer (some ⟨g, 0, none⟩), .pointer (some ⟨gm, 0, none⟩)]) (modeS m l) := by
  obtain ⟨fn, cap, rfl, hcf, hs⟩ := hs
  refine ⟨41, _, rfl, cf_of Try.func41 (by kernel_rfl) (by kernel_rfl), fun u hu e => ?_⟩
  obtain ⟨th, pc, op, obj, val, mode⟩ := e
  show Calls Try.prog 41 #[evV th pc op obj val mode, .pointer (some ⟨g, 0, none⟩), .pointer (some ⟨gm, 0, none⟩)] u _
  have hc : ∀ o, (u.alloc o).cell? ⟨g, 0, none⟩ = some (.func (.func fn) #[] cap) := fun o => touch_cell (touch_new hu o) hYg hg
  have HM := Lib.hid (fun u' (h : Touch Y w u') => touch_cell h hYm hm)
  have HS := Lib.hid (fun o => hs _ (touch_new hu o) ⟨th, pc, op, obj, val, mode⟩)
  have HB := Lib.hid (fun o => touch_new hu o)
  clear hg hm hs hYg hYm
  rcases hcon : l.contains op with _ | _
  · have HF : Hid (modeS m l ⟨th, pc, op, obj, val, mode⟩ = (obj, false)) := Lib.hid (by simp only [modeS, hcon, Bool.false_and])
    have HO : Hid (opsS l ⟨th, pc, op, obj, val, mode⟩ = (obj, false)) := Lib.hid (by simp only [opsS, hcon])
    clear hcon
    go_enter Try.func41, Try.ntmps41
    go_wp2_with (refine (HS.out _).mono ?_; rintro e w1 ⟨rfl, hB1⟩; rw [HO.out]; have HB1 := Lib.hid hB1; clear hB1)
    go_quiet (fail)
    go_wp2
    go_ret2
    exact ⟨by rw [HF.out]; rfl, below_draws (below_next (below_box _ _) HB1.out) _⟩
  · have HF : Hid (modeS m l ⟨th, pc, op, obj, val, mode⟩ = (obj, mode == m)) := Lib.hid (by simp only [modeS, hcon, Bool.true_and])
    have HO : Hid (opsS l ⟨th, pc, op, obj, val, mode⟩ = (obj, true)) := Lib.hid (by simp only [opsS, hcon])
    clear hcon
    go_enter Try.func41, Try.ntmps41
    go_wp2_with (refine (HS.out _).mono ?_; rintro e w1 ⟨rfl, hB1⟩; rw [HO.out]; have hm1 := HM.out w1 ((HB.out _).trans (Touch.of_below (X := Y) hB1) fun _ _ h => h); have hN := (hB1.block _ (by simp)).trans (heap_alloc_new u _); obtain ⟨c0, c1, c2, c3, c4, c5⟩ := cells6 hN; clear hN; have HB1 := Lib.hid hB1; clear hB1)
    go_quiet (fail)
    go_wp2
    go_ret2
    exact ⟨by rw [HF.out]; rfl, below_draws (below_next (below_box _ _) HB1.out) _⟩

/-- What a choice answers. -/
def WhV (Y : Nat → Prop) (w : World) (v : Value) : Option Wh → Prop
  | none => v = .nilFunc
  | some f => ∃ fn cap, v = .func (.func fn) #[] cap ∧ (∀ args u, (callFunc fn args).run Try.prog u = .ok (.enter fn args) u) ∧ ∀ u, Touch Y w u → ∀ (x : Int) (a b : Nat), a ≤ 1000000 → b ≤ 1000000 → Calls Try.prog fn (#[.int .i64 x, .int .i64 a, .int .i64 b] ++ cap) u fun r u' => r = .returned (.tuple #[.int .i64 (f x a b).1, .int .i64 (f x a b).2]) ∧ Below u.heap.size u u'
theorem WhV.touch {Y : Nat → Prop} {w w' : World} {v : Value} {o : Option Wh} (h : WhV Y w v o) (hT : Touch Y w w') : WhV Y w' v o := by
  cases o with
  | none => exact h
  | some f =>
    obtain ⟨fn, cap, rfl, hc, h⟩ := h
    exact ⟨fn, cap, rfl, hc, fun u hu => h u (hT.trans hu fun _ _ h => h)⟩
theorem WhV.later {Y : Nat → Prop} {w w' : World} {v : Value} {o : Option Wh} (h : WhV Y w v o) (hB : Below w.heap.size w w') : WhV Y w' v o := h.touch (Touch.of_below hB)
theorem WhV.none {Y : Nat → Prop} {w : World} {v : Value} {o : Option Wh} (h : WhV Y w v o) : WhV (fun _ => False) w v o := by
  cases o with
  | none => exact h
  | some f =>
    obtain ⟨fn, cap, rfl, hc, h⟩ := h
    exact ⟨fn, cap, rfl, hc, fun u hu => h u (hu.mono fun _ _ h => h.elim)⟩
def RoomV (Y : Nat → Prop) (w : World) (v : Value) (f : Int → Int) : Prop := ∃ fn cap, v = .func (.func fn) #[] cap ∧ (∀ args u, (callFunc fn args).run Try.prog u = .ok (.enter fn args) u) ∧ (∀ x, -9223372036854775808 ≤ f x ∧ f x ≤ 9223372036854775807) ∧ ∀ u, Touch Y w u → ∀ x : Int, Calls Try.prog fn (#[.int .i64 x] ++ cap) u fun r u' => r = .returned (.int .i64 (f x)) ∧ Below u.heap.size u u'
set_option maxHeartbeats 1000000 in
theorem wh_last (Y : Nat → Prop) (w : World) : WhV Y w (.func (.func 36) #[] #[]) (some lastW) := by
  refine ⟨36, #[], rfl, cf_of Try.func36 (by kernel_rfl) (by kernel_rfl), fun u hu x a b ha hb => ?_⟩
  show Calls Try.prog 36 #[.int .i64 x, .int .i64 a, .int .i64 b] u _
  go_enter Try.func36, Try.ntmps36
  go_wp2_with fail
  all_goals
    go_wp2
    go_ret2
    exact ⟨by simp [lastW]; omega, Below.refl _ _⟩
set_option maxHeartbeats 1000000 in
theorem room_none (Y : Nat → Prop) (w : World) : RoomV Y w (.func (.func 32) #[] #[]) noRoom := by
  refine ⟨32, #[], rfl, cf_of Try.func32 (by kernel_rfl) (by kernel_rfl), fun x => by simp [noRoom], fun u hu x => ?_⟩
  show Calls Try.prog 32 #[.int .i64 x] u _
  go_enter Try.func32, Try.ntmps32
  go_wp2
  go_ret
  exact ⟨rfl, Below.refl _ _⟩
set_option maxHeartbeats 1000000 in
theorem room_chans {Y : Nat → Prop} {w : World} {g : Nat} {ca : Option Addr} {ccap : Nat} {chans : List Int} (hYg : ¬ Y g) (hYa : chans ≠ [] → ∀ c off, ca = some ⟨c, off, none⟩ → ¬ Y c) (hg : w.cell? ⟨g, 3, none⟩ = some (.slice ca chans.length ccap)) (hr : RowOf .i64 w w.heap.size ca chans) (hl : chans.length ≤ 1000000) (hx : ∀ c ∈ chans, -9223372036854775808 ≤ c ∧ c ≤ 9223372036854775807) : RoomV Y w (.func (.func 33) #[] #[.pointer (some ⟨g, 0, none⟩)]) (roomL chans) := by
  refine ⟨33, _, rfl, cf_of Try.func33 (by kernel_rfl) (by kernel_rfl), fun x => ?_, fun u hu x => ?_⟩
  · unfold roomL
    split
    · omega
    · rename_i h
      obtain ⟨c, hc⟩ := at_lt (l := chans) (k := x.toNat) (by omega)
      rw [hc]
      exact hx c (List.mem_of_getElem? hc)
  show Calls Try.prog 33 #[.int .i64 x, .pointer (some ⟨g, 0, none⟩)] u _
  have hc := touch_cell hu hYg hg
  have HR := Lib.hid (row_touch hr hYa hu)
  clear hg hr hx hYg hYa
  by_cases h0 : x < 0
  · have h0' : decide (x < 0) = true := decide_eq_true h0
    have HF : Hid (roomL chans x = 0) := Lib.hid (by unfold roomL; rw [if_pos (.inl h0)])
    go_enter Try.func33, Try.ntmps33
    go_wp2
    go_ret
    exact ⟨by rw [HF.out]; rfl, Below.refl _ _⟩
  · have h0' : decide (x < 0) = false := decide_eq_false h0
    by_cases h1 : (chans.length : Int) ≤ x
    · have h1' : decide ((chans.length : Int) ≤ x) = true := decide_eq_true h1
      have HF : Hid (roomL chans x = 0) := Lib.hid (by unfold roomL; rw [if_pos (.inr h1)])
      go_enter Try.func33, Try.ntmps33
      go_wp2
      go_ret
      exact ⟨by rw [HF.out]; rfl, Below.refl _ _⟩
    · have h1' : decide ((chans.length : Int) ≤ x) = false := decide_eq_false h1
      obtain ⟨k, rfl⟩ : ∃ k : Nat, x = k := ⟨x.toNat, by omega⟩
      obtain ⟨y, hy⟩ := at_lt (l := chans) (k := k) (by omega)
      have hk : k < chans.length := by omega
      have hk' : (k : Int) < chans.length := by omega
      have HF : Hid (roomL chans k = y) := Lib.hid (by unfold roomL; rw [if_neg (by omega), Int.toNat_natCast, hy]; rfl)
      obtain ⟨gc, off, rfl, hgc, hcc⟩ := HR.out k y hy
      clear hy h1 h0
      go_enter Try.func33, Try.ntmps33
      go_wp2
      go_ret
      exact ⟨by rw [HF.out]; rfl, Below.refl _ _⟩
set_option maxHeartbeats 1000000 in
theorem wh_pair {Y : Nat → Prop} {w : World} {g : Nat} {v : Value} {room : Int → Int} (hYg : ¬ Y g) (hg : w.cell? ⟨g, 0, none⟩ = some v) (hs : RoomV Y w v room) : WhV Y w (.func (.func 44) #[] #[.pointer (some ⟨g, 0, none⟩)]) (some (pairW room)) := by
  obtain ⟨fn, cap, rfl, hcf, hrg, hs⟩ := hs
  refine ⟨44, _, rfl, cf_of Try.func44 (by kernel_rfl) (by kernel_rfl), fun u hu x a b ha hb => ?_⟩
  show Calls Try.prog 44 #[.int .i64 x, .int .i64 a, .int .i64 b, .pointer (some ⟨g, 0, none⟩)] u _
  have hc := touch_cell hu hYg hg
  have HS := Lib.hid (hs u hu x)
  obtain ⟨r1, r2⟩ := hrg x
  clear hg hs hrg hYg
  by_cases hw : (b : Int) - room x ≤ 9223372036854775807
  · have ew : IntKind.i64.wrap ((b : Int) - room x) = (b : Int) - room x := IntWalk.i64_in _ ⟨by omega, by omega⟩
    generalize hr : room x = r at *
    have HRr := Lib.hid hr
    clear hr
    by_cases h0 : (b : Int) - r < 0
    · have h0' : decide ((b : Int) - r < 0) = true := decide_eq_true h0
      have HF : Hid (pairW room x a b = (0, 0)) := Lib.hid (by unfold pairW; rw [HRr.out, if_pos (.inl h0)])
      go_enter Try.func44, Try.ntmps44
      go_wp2_with (refine HS.out.mono ?_; rintro e w1 ⟨rfl, hB1⟩)
      go_ret2
      exact ⟨by rw [HF.out]; rfl, hB1⟩
    · have h0' : decide ((b : Int) - r < 0) = false := decide_eq_false h0
      by_cases h1 : (a : Int) ≤ (b : Int) - r
      · have h1' : decide ((a : Int) ≤ (b : Int) - r) = true := decide_eq_true h1
        have HF : Hid (pairW room x a b = (0, 0)) := Lib.hid (by unfold pairW; rw [HRr.out, if_pos (.inr h1)])
        go_enter Try.func44, Try.ntmps44
        go_wp2_with (refine HS.out.mono ?_; rintro e w1 ⟨rfl, hB1⟩)
        go_ret2
        exact ⟨by rw [HF.out]; rfl, hB1⟩
      · have h1' : decide ((a : Int) ≤ (b : Int) - r) = false := decide_eq_false h1
        have HF : Hid (pairW room x a b = ((b : Int) - r, (b : Int) - r + 1)) := Lib.hid (by unfold pairW; rw [HRr.out, if_neg (by omega)])
        have h2 : (b : Int) - r ≤ 1000000 := by omega
        have h3 : 0 ≤ (b : Int) - r := by omega
        go_enter Try.func44, Try.ntmps44
        go_wp2_with (refine HS.out.mono ?_; rintro e w1 ⟨rfl, hB1⟩)
        go_ret2
        exact ⟨by rw [HF.out]; rfl, hB1⟩
  · have ew : IntKind.i64.wrap ((b : Int) - room x) = (b : Int) - room x - 18446744073709551616 := by rw [IntKind.wrap_i64]; omega
    have HF : Hid (pairW room x a b = (0, 0)) := Lib.hid (by unfold pairW; rw [if_pos (.inr (by omega))])
    have h0' : decide ((b : Int) - room x - 18446744073709551616 < 0) = true := decide_eq_true (by omega)
    go_enter Try.func44, Try.ntmps44
    go_wp2_with (refine HS.out.mono ?_; rintro e w1 ⟨rfl, hB1⟩)
    go_ret2
    exact ⟨by rw [HF.out]; rfl, hB1⟩
end Go.Proofs.Ytkhhkjinlkpdlaa
