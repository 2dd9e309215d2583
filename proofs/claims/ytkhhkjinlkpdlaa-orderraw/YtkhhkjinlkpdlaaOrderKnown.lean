/- The chapter's example of order's laws. -/
import Derived.Test.YtkhhkjinlkpdlaaOrderPast
namespace Go.Proofs.Ytkhhkjinlkpdlaa
set_option linter.unusedVariables false
set_option linter.unusedSimpArgs false
set_option maxRecDepth 100000
open Go.ChangeShapes Go.WideShapes Go.ChangeAt Go.RowKit Go.Maps

def t4 : List EvD := [⟨0, 0, 8, 0, 0, 0⟩, ⟨0, 0, 14, 0, 0, 0⟩, ⟨1, 0, 13, 0, 0, 0⟩, ⟨1, 0, 7, 0, 0, 0⟩]
theorem t4_past : pastI [] t4 3 = [0, 1, 2] := by kernel_rfl
theorem t4_03 : befI [] t4 0 3 = true := by kernel_rfl
theorem t4_30 : befI [] t4 3 0 = false := by kernel_rfl
theorem t4_d03 : dirI [] t4 0 3 = false := by kernel_rfl
theorem t4_d12 : dirI [] t4 1 2 = true := by kernel_rfl
theorem chIn_nil (w : World) : ChIn w none [] := ⟨RowOf.nil _ _ _ _, by simp, by simp⟩
/-- Events in a row of the call's own. -/
theorem evsIn_own {V : World} {base : Nat} {a : Option Addr} {n c : Nat} {t : List EvD} (h : V.ownsRow base 24 6 (.slice a n c) n (evsCells t)) : EvsIn V V.heap.size a t := by
  have hl := h.1
  rw [evsCells_len] at hl
  intro k e hk
  have hkl := (List.getElem?_eq_some_iff.1 hk).1
  rcases h.2 with ⟨_, h0⟩ | ⟨g, cap, cur, e', hb, hh, hle, hcap, hsz, ht⟩
  · omega
  · injection e' with e1 e2 e3
    subst e1
    refine ⟨g, 0, rfl, (Array.getElem?_eq_some_iff.1 hh).1, ?_⟩
    rw [Nat.zero_add]
    refine evAt_of fun j hj => ?_
    rw [cell_of_row _ _ _ _ _ _ hh, ← evsCells_at t k e hk j hj, ← ht, List.getElem?_take_of_lt (by omega)]
    simp
theorem evsIn_lit {V : World} {g : Nat} {t : List EvD} {ty : TypeId} {fr : Nat × Nat} (h : V.heap[g]? = some (.cells (evsCells t).toArray ty fr)) : EvsIn V V.heap.size (some ⟨g, 0, none⟩) t := by
  intro k e hk
  refine ⟨g, 0, rfl, (Array.getElem?_eq_some_iff.1 h).1, ?_⟩
  rw [Nat.zero_add]
  refine evAt_of fun j hj => ?_
  rw [cell_of_row _ _ _ _ _ _ h, ← evsCells_at t k e hk j hj]
  simp
theorem prog0_one : (#[.int .i64 0, .int .i64 0, .int .i64 0, .slice none ([] : List Int).length 0, .int .i64 0, .int .i64 0, .slice none 0 0] : Array Value).all (·.oneCell') = true := by kernel_rfl
abbrev prog0 : Value := .agg #[.int .i64 0, .int .i64 0, .int .i64 0, .slice none 0 0, .int .i64 0, .int .i64 0, .slice none 0 0]
theorem before0 (a : Option Addr) (cap : Nat) (t : List EvD) (i j : Int) (w : World) (he : EvsIn w w.heap.size a t) (hW : ∀ e ∈ t, EvW e) (hl : t.length ≤ 1000) (hcap : t.length ≤ cap) :
    Calls Try.prog 9 #[prog0, .slice a t.length cap, .int .i64 i, .int .i64 j] w fun e w' => e = .returned (.bool (befI [] t i j)) ∧ Below w.heap.size w w' :=
  before_any _ _ _ none 0 [] _ _ _ a cap t i j w (chIn_nil w) he hW hl hcap prog0_one
theorem direct0 (a : Option Addr) (cap : Nat) (t : List EvD) (i j : Int) (w : World) (he : EvsIn w w.heap.size a t) (hl : t.length ≤ 1000) (hcap : t.length ≤ cap) :
    Calls Try.prog 11 #[prog0, .slice a t.length cap, .int .i64 i, .int .i64 j] w fun e w' => e = .returned (.bool (dirI [] t i j)) ∧ Below w.heap.size w w' :=
  direct_any _ _ _ none 0 [] _ _ _ a cap t i j w (chIn_nil w) he (by omega) hcap prog0_one
theorem past0 (a : Option Addr) (cap : Nat) (t : List EvD) (j : Int) (w : World) (he : EvsIn w w.heap.size a t) (hW : ∀ e ∈ t, EvW e) (hl : t.length ≤ 1000) (hcap : t.length ≤ cap) :
    Calls Try.prog 15 #[prog0, .slice a t.length cap, .int .i64 j] w (PastE [] t j w) :=
  past_any _ _ _ none 0 [] _ _ _ a cap t j w (chIn_nil w) he hW hl hcap prog0_one
theorem t4_wf : ∀ e ∈ t4, EvW e := by
  intro e he
  simp only [t4, List.mem_cons, List.not_mem_nil, or_false] at he
  rcases he with rfl | rfl | rfl | rfl <;> exact ⟨by unfold Wf; kernel_rfl, by unfold Wf; kernel_rfl⟩
set_option maxHeartbeats 1000000 in
theorem known7_any (w : World) : Calls Try.prog 8 #[] w fun e w' => e = .returned (.bool true) ∧ Below w.heap.size w w' := by
  go_enter Try.func8, Try.ntmps8
  go_upto_region 2 with (fail)
  generalize hV : World.alloc w _ = V
  have HV := Lib.hid (show Below w.heap.size w V by rw [← hV]; exact below_box _ _)
  have HE := Lib.hid (evsIn_lit (t := t4) (show V.heap[w.heap.size]? = some (.cells (evsCells t4).toArray 24) by rw [← hV]; exact heap_alloc_new _ _))
  clear hV
  have HP := Lib.hid (fun W (hB : Below V.heap.size V W) => past0 (some ⟨w.heap.size, 0, none⟩) 4 t4 3 W (HE.out.later hB) t4_wf (by decide) (by decide))
  have HB := Lib.hid (fun W (hB : Below V.heap.size V W) i j => before0 (some ⟨w.heap.size, 0, none⟩) 4 t4 i j W (HE.out.later hB) t4_wf (by decide) (by decide))
  have HD := Lib.hid (fun W (hB : Below V.heap.size V W) i j => direct0 (some ⟨w.heap.size, 0, none⟩) 4 t4 i j W (HE.out.later hB) (by decide) (by decide))
  go_wp2_with (first
    | (have _g := hB4; go_at_call 9; refine (HB.out _ hB4 3 0).mono ?_; rintro e w5 ⟨rfl, hB⟩; rw [t4_30]; have hB5 := below_next hB4 hB)
    | (have _g := hB3; go_at_call 11; refine (HD.out _ hB3 1 2).mono ?_; rintro e w4 ⟨rfl, hB⟩; rw [t4_d12]; have hB4 := below_next hB3 hB)
    | (have _g := hB2; go_at_call 11; refine (HD.out _ hB2 0 3).mono ?_; rintro e w3 ⟨rfl, hB⟩; rw [t4_d03]; have hB3 := below_next hB2 hB)
    | (have _g := hB1; go_at_call 9; refine (HB.out _ hB1 0 3).mono ?_; rintro e w2 ⟨rfl, hB⟩; rw [t4_03]; have hB2 := below_next hB1 hB)
    | (go_at_call 15; refine (HP.out _ (Below.refl _ _)).mono ?_; rintro e w1 ⟨pa, pc, rfl, hpo, hB1⟩; rw [t4_past]))
  go_ret
  exact ⟨rfl, below_next HV.out hB5⟩
end Go.Proofs.Ytkhhkjinlkpdlaa
