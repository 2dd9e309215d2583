/- The chapter's example of race's laws. -/
import Derived.Test.YtgikoajclkfoiaaRaceKnown
namespace Go.Proofs.Ytgikoajclkfoiaa
set_option linter.unusedVariables false
set_option linter.unusedSimpArgs false
set_option maxRecDepth 100000
open Go.ChangeShapes Go.WideShapes Go.ChangeAt Go.RowKit Go.Maps

theorem own_race1 {V : World} {base : Nat} {v : Value} {x y : Int} (h : V.ownsRow base 43 2 v 1 [.int .i64 x, .int .i64 y]) :
    ∃ g cap, v = .slice (some ⟨g, 0, none⟩) 1 cap ∧ g < V.heap.size ∧ 1 ≤ cap ∧ V.cell? ⟨g, 0, none⟩ = some (.int .i64 x) ∧ V.cell? ⟨g, 1, none⟩ = some (.int .i64 y) := by
  rcases h.2 with ⟨_, h0⟩ | ⟨g, cap, cur, rfl, hb, hh, hle, hcap, hsz, ht⟩
  · omega
  · refine ⟨g, cap, rfl, (Array.getElem?_eq_some_iff.1 hh).1, hle, ?_, ?_⟩
    · rw [cell_of_row _ _ _ _ _ _ hh]
      have := congrArg (fun l => l[0]?) ht
      simpa [List.getElem?_take_of_lt] using this
    · rw [cell_of_row _ _ _ _ _ _ hh]
      have := congrArg (fun l => l[1]?) ht
      simpa [List.getElem?_take_of_lt] using this
set_option maxHeartbeats 1000000 in
theorem known8_any (w : World) : Calls Try.prog 9 #[] w fun e w' => e = .returned (.bool true) ∧ Below w.heap.size w w' := by
  go_enter Try.func9, Try.ntmps9
  go_upto_region 2 with (fail)
  generalize hV : World.alloc w _ = V
  have HV := Lib.hid (show Below w.heap.size w V by rw [← hV]; exact below_box _ _)
  have HE := Lib.hid (evsIn_lit (t := t2) (show V.heap[w.heap.size]? = some (.cells (evsCells t2).toArray 26) by rw [← hV]; exact heap_alloc_new _ _))
  clear hV
  have HF := Lib.hid (find0 (some ⟨w.heap.size, 0, none⟩) 2 t2 V HE.out t2_wf (by decide))
  go_upto_region 4 with (go_at_call 13; refine HF.out.mono ?_; unfold FindE; rintro e w1 ⟨v, rfl, ho, hB1⟩; rw [t2_races] at ho; obtain ⟨g, cap, rfl, hg, hcap, c0, c1⟩ := own_race1 ho; clear ho)
  have HB1 := Lib.hid hB1
  generalize hU : World.alloc w1 _ = U
  have HU := Lib.hid (show Below w1.heap.size w1 U by rw [← hU]; exact below_box _ _)
  have HG := Lib.hid (evsIn_lit (t := u4) (show U.heap[w1.heap.size]? = some (.cells (evsCells u4).toArray 26) by rw [← hU]; exact heap_alloc_new _ _))
  have K0 : U.cell? ⟨g, 0, none⟩ = some (.int .i64 0) := (HU.out.cell (p := ⟨g, 0, none⟩) hg).trans c0
  have K1 : U.cell? ⟨g, 1, none⟩ = some (.int .i64 1) := (HU.out.cell (p := ⟨g, 1, none⟩) hg).trans c1
  clear hU hB1 c0 c1
  have HR1 := Lib.hid (racy0 (some ⟨w.heap.size, 0, none⟩) 2 t2 U (HE.out.later (below_next HB1.out HU.out)) t2_wf (by decide))
  have HR2 := Lib.hid (fun W (hB : Below U.heap.size U W) => racy0 (some ⟨w1.heap.size, 0, none⟩) 4 u4 W (HG.out.later hB) u4_wf (by decide))
  go_wp2_with (first
    | (have _g := hB2; go_at_call 10; refine (HR2.out _ hB2).mono ?_; rintro e w3 ⟨rfl, hB3⟩; rw [u4_racy])
    | (go_at_call 10; refine HR1.out.mono ?_; rintro e w2 ⟨rfl, hB2⟩; rw [t2_racy]))
  go_ret
  exact ⟨rfl, below_next HV.out (below_next HB1.out (below_next HU.out (below_next hB2 hB3)))⟩
end Go.Proofs.Ytgikoajclkfoiaa
