/- Race's small questions: what comes from a channel, what touches a variable, how much room there is. -/
import Derived.Test.YtgikoajclkfoiaaRaceMap
import Derived.StillTailTactics
import Derived.BigQuiet
namespace Go.Proofs.Ytgikoajclkfoiaa
set_option linter.unusedVariables false
set_option linter.unusedSimpArgs false
set_option maxRecDepth 100000
open Go.ChangeShapes Go.WideShapes Go.ChangeAt Go.RowKit Go.Maps

def chB (op : Int) : Bool := op == 21 || op == 22
theorem tkB_is (e : EvD) : tkB e = (chB e.op && e.mode == 1) := by simp only [tkB, modeS, chB, List.contains_cons, List.contains_nil, Bool.or_false]
theorem clB_is (e : EvD) : clB e = (chB e.op && e.mode == 2) := by simp only [clB, modeS, chB, List.contains_cons, List.contains_nil, Bool.or_false]
theorem box6R {u : World} {g : Nat} {v0 v1 v2 v3 v4 v5 : Value} {t : TypeId} {fr : Nat × Nat} (h : u.heap[g]? = some (.cells #[v0, v1, v2, v3, v4, v5] t fr)) : u.cell? ⟨g, 0, none⟩ = some v0 ∧ u.cell? ⟨g, 1, none⟩ = some v1 ∧ u.cell? ⟨g, 2, none⟩ = some v2 ∧ u.cell? ⟨g, 3, none⟩ = some v3 ∧ u.cell? ⟨g, 4, none⟩ = some v4 ∧ u.cell? ⟨g, 5, none⟩ = some v5 :=
  ⟨cell_of_row _ _ 0 _ _ _ h, cell_of_row _ _ 1 _ _ _ h, cell_of_row _ _ 2 _ _ _ h, cell_of_row _ _ 3 _ _ _ h, cell_of_row _ _ 4 _ _ _ h, cell_of_row _ _ 5 _ _ _ h⟩
theorem from_any (e : EvD) (w : World) : Calls Try.prog 51 #[e.v] w fun r w' => r = .returned (.bool (chB e.op)) ∧ Below w.heap.size w w' := by
  obtain ⟨th, pc, op, obj, val, mode⟩ := e
  show Calls Try.prog 51 #[evV th pc op obj val mode] w _
  rcases h1 : (op == 21) with _ | _ <;> rcases h2 : (op == 22) with _ | _
  all_goals
    have HF := Lib.hid (show chB op = _ by unfold chB; rw [h1, h2])
    go_enter Try.func51, Try.ntmps51
    go_wp2
    go_ret
    exact ⟨by rw [HF.out]; rfl, below_box _ _⟩
theorem touches_any (e : EvD) (w : World) : Calls Try.prog 26 #[e.v] w fun r w' => r = .returned (.bool (toB e)) ∧ Below w.heap.size w w' := by
  obtain ⟨th, pc, op, obj, val, mode⟩ := e
  show Calls Try.prog 26 #[evV th pc op obj val mode] w _
  rcases h1 : (op == 7) with _ | _ <;> rcases h2 : (op == 8) with _ | _
  all_goals
    have HF := Lib.hid (show toB ⟨th, pc, op, obj, val, mode⟩ = _ by unfold toB; simp only; rw [h1, h2])
    go_enter Try.func26, Try.ntmps26
    go_wp2
    go_ret
    exact ⟨by rw [HF.out]; rfl, below_box _ _⟩
set_option maxHeartbeats 1000000 in
theorem taking8_any (e : EvD) (w : World) : Calls Try.prog 46 #[e.v] w fun r w' => r = .returned (.bool (tkB e)) ∧ Below w.heap.size w w' := by
  rw [tkB_is]
  have HT := Lib.hid (fun W => from_any e W)
  obtain ⟨th, pc, op, obj, val, mode⟩ := e
  show Calls Try.prog 46 #[evV th pc op obj val mode] w _
  rcases h1 : chB op with _ | _
  · simp only [h1] at HT ⊢
    go_enter Try.func46, Try.ntmps46
    go_wp2_with (go_at_call 51; refine (HT.out _).mono ?_; rintro e w1 ⟨rfl, hB1⟩)
    go_ret
    exact ⟨rfl, below_next (below_box _ _) hB1⟩
  · simp only [h1] at HT ⊢
    have HN := Lib.hid (heap_alloc_new w (.cells #[.int .i64 th, .int .i64 pc, .int .u8 op, .int .i64 obj, .int .i64 val, .int .i64 mode] 26))
    rcases h2 : (mode == 1) with _ | _
    all_goals
      go_enter Try.func46, Try.ntmps46
      go_wp2_with (go_at_call 51; refine (HT.out _).mono ?_; rintro e w1 ⟨rfl, hB1⟩; obtain ⟨_, _, _, _, _, c5⟩ := box6R (old_later HN.out hB1))
      go_ret
      exact ⟨rfl, below_next (below_box _ _) hB1⟩
set_option maxHeartbeats 1000000 in
theorem closed8_any (e : EvD) (w : World) : Calls Try.prog 48 #[e.v] w fun r w' => r = .returned (.bool (clB e)) ∧ Below w.heap.size w w' := by
  rw [clB_is]
  have HT := Lib.hid (fun W => from_any e W)
  obtain ⟨th, pc, op, obj, val, mode⟩ := e
  show Calls Try.prog 48 #[evV th pc op obj val mode] w _
  rcases h1 : chB op with _ | _
  · simp only [h1] at HT ⊢
    go_enter Try.func48, Try.ntmps48
    go_wp2_with (go_at_call 51; refine (HT.out _).mono ?_; rintro e w1 ⟨rfl, hB1⟩)
    go_ret
    exact ⟨rfl, below_next (below_box _ _) hB1⟩
  · simp only [h1] at HT ⊢
    have HN := Lib.hid (heap_alloc_new w (.cells #[.int .i64 th, .int .i64 pc, .int .u8 op, .int .i64 obj, .int .i64 val, .int .i64 mode] 26))
    rcases h2 : (mode == 2) with _ | _
    all_goals
      go_enter Try.func48, Try.ntmps48
      go_wp2_with (go_at_call 51; refine (HT.out _).mono ?_; rintro e w1 ⟨rfl, hB1⟩; obtain ⟨_, _, _, _, _, c5⟩ := box6R (old_later HN.out hB1))
      go_ret
      exact ⟨rfl, below_next (below_box _ _) hB1⟩
/-- What race knows, as it lies: the record at gk, the maps at gc, gs, gt. n: how many stores there were at most. -/
structure KnIn (base gk gc gs gt : Nat) (ca : Option Addr) (cc : Nat) (chans : List Int) (n : Nat) (k : KnS) (u : World) : Prop where
  box : u.heap[gk]? = some (.cells #[.slice ca chans.length cc, .map (some gc), .map (some gs), .map (some gt)] 72)
  ch : ChIn u ca chans
  cl : CkM u gc n k.K
  se : CnM u gs n k.S
  ta : CnM u gt n k.T
  cs : gc ≠ gs
  ct : gc ≠ gt
  st : gs ≠ gt
  bk : base ≤ gk ∧ base ≤ gc ∧ base ≤ gs ∧ base ≤ gt
theorem KnIn.later {base gk gc gs gt : Nat} {ca : Option Addr} {cc : Nat} {chans : List Int} {n : Nat} {k : KnS} {u u' : World} (h : KnIn base gk gc gs gt ca cc chans n k u) (hB : Below u.heap.size u u') : KnIn base gk gc gs gt ca cc chans n k u' :=
  ⟨old_later h.box hB, h.ch.later hB, h.cl.later hB, h.se.later hB, h.ta.later hB, h.cs, h.ct, h.st, h.bk⟩
theorem box4R {u : World} {g : Nat} {v0 v1 v2 v3 : Value} {t : TypeId} {fr : Nat × Nat} (h : u.heap[g]? = some (.cells #[v0, v1, v2, v3] t fr)) : u.cell? ⟨g, 0, none⟩ = some v0 ∧ u.cell? ⟨g, 1, none⟩ = some v1 ∧ u.cell? ⟨g, 2, none⟩ = some v2 ∧ u.cell? ⟨g, 3, none⟩ = some v3 :=
  ⟨cell_of_row _ _ 0 _ _ _ h, cell_of_row _ _ 1 _ _ _ h, cell_of_row _ _ 2 _ _ _ h, cell_of_row _ _ 3 _ _ _ h⟩
set_option maxHeartbeats 1000000 in
theorem room8_any {base gk gc gs gt : Nat} {ca : Option Addr} {cc : Nat} {chans : List Int} {n : Nat} {k : KnS} {w : World} (h : KnIn base gk gc gs gt ca cc chans n k w) (x : Int) :
    Calls Try.prog 47 #[.pointer (some ⟨gk, 0, none⟩), .int .i64 x] w fun r w' => r = .returned (.int .i64 (roomL chans x)) ∧ w' = w := by
  obtain ⟨c0, c1, c2, c3⟩ := box4R h.box
  have HC := Lib.hid h.ch
  have hlen := h.ch.len
  clear h
  by_cases h0 : x < 0
  · have h0' : decide (x < 0) = true := decide_eq_true h0
    have HF := Lib.hid (show roomL chans x = 0 by unfold roomL; rw [if_pos (.inl h0)])
    go_enter Try.func47, Try.ntmps47
    go_wp2
    go_ret
    exact ⟨by rw [HF.out]; rfl, rfl⟩
  · have h0' : decide (x < 0) = false := decide_eq_false h0
    by_cases h1 : (chans.length : Int) ≤ x
    · have h1' : decide ((chans.length : Int) ≤ x) = true := decide_eq_true h1
      have HF := Lib.hid (show roomL chans x = 0 by unfold roomL; rw [if_pos (.inr h1)])
      go_enter Try.func47, Try.ntmps47
      go_wp2
      go_ret
      exact ⟨by rw [HF.out]; rfl, rfl⟩
    · have h1' : decide ((chans.length : Int) ≤ x) = false := decide_eq_false h1
      obtain ⟨k, rfl⟩ : ∃ k : Nat, x = k := ⟨x.toNat, by omega⟩
      obtain ⟨y, hy⟩ := at_lt (l := chans) (k := k) (by omega)
      obtain ⟨g, o, rfl, hg, hcell⟩ := HC.out.row k y hy
      have HF := Lib.hid (show roomL chans k = y by unfold roomL; rw [if_neg (by omega)]; simp [hy])
      have hkl : (k : Int) < (chans.length : Int) := by omega
      clear hy
      go_enter Try.func47, Try.ntmps47
      go_wp2
      go_ret
      exact ⟨by rw [HF.out]; rfl, rfl⟩
end Go.Proofs.Ytgikoajclkfoiaa
