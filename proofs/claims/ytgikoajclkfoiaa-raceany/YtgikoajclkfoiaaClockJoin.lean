/- What Join returns. -/
import Derived.Test.YtgikoajclkfoiaaClockMake2
import Derived.StillTailTactics
import Derived.Lib.SliceRun
namespace Go.Proofs.Ytgikoajclkfoiaa
set_option linter.unusedVariables false
set_option linter.unusedSimpArgs false
set_option maxRecDepth 100000
open Go.ChangeShapes Go.WideShapes Go.ChangeAt Go.RowKit

theorem longer_any (va vb : Option Addr) (n m ca cb g h : Nat) (w : World) (hn : n ≤ 1000) (hm : m ≤ 1000) (c1 : w.cell? ⟨g, 0, none⟩ = some (.slice va n ca)) (c2 : w.cell? ⟨h, 0, none⟩ = some (.slice vb m cb)) :
    Calls Try.prog 49 #[.pointer (some ⟨g, 0, none⟩), .pointer (some ⟨h, 0, none⟩)] w fun e w' => e = .returned (if n < m then .slice vb m cb else .slice va n ca) ∧ w = w' := by
  rcases Nat.lt_or_ge n m with hh | hh
  · rw [if_pos hh]
    go_enter Try.func49, Try.ntmps49
    go_wp2
    go_ret
    exact ⟨rfl, rfl⟩
  · rw [if_neg (by omega)]
    go_enter Try.func49, Try.ntmps49
    go_wp2
    go_ret
    exact ⟨rfl, rfl⟩
theorem cAt_still (l : List Int) (a : Option Addr) (cap B : Nat) (k : Nat) (x : Int) (w : World) (ha : RowOf .i64 w B a l) (hx : atN l k = x) :
    Calls Try.prog 44 #[.slice a l.length cap, .int .i64 k] w fun e w' => e = .returned (.int .i64 x) ∧ w' = w := (cAt_nat l a cap B k x w ha hx).mono fun e w' ⟨h1, h2⟩ => ⟨h1, h2.symm⟩
/-- The row behind k rounds. -/
def midL (l m L : List Int) (k : Nat) : List Int := fill L.length fun j => if j < k then max (atN l j) (atN m j) else atN L j
theorem mid_start (l m L : List Int) : midL l m L 0 = L := (fill_ext rfl fun j hj => by rw [if_neg (by omega), List.getElem?_eq_getElem hj, atN_some (List.getElem?_eq_getElem hj)]).symm
theorem mid_len (l m L : List Int) (k : Nat) : (midL l m L k).length = L.length := fill_len _ _
theorem mid_set (l m L : List Int) (k : Nat) (hk : k < L.length) : (midL l m L k).set k (max (atN l k) (atN m k)) = midL l m L (k + 1) := by
  refine fill_ext (by rw [List.length_set, mid_len]) fun j hj => ?_
  by_cases h : j = k
  · subst h
    rw [List.getElem?_set_self (by rw [mid_len]; omega), if_pos (by omega)]
  · rw [List.getElem?_set_ne (by omega), midL, fill_get _ _ _ hj]
    by_cases h2 : j < k
    · rw [if_pos h2, if_pos (by omega)]
    · rw [if_neg h2, if_neg (by omega)]
theorem mid_end (l m L : List Int) (h : L.length = max l.length m.length) : midL l m L L.length = joinL l m := by
  refine fill_ext (by rw [mid_len, h]) fun j hj => ?_
  rw [midL, fill_get _ _ _ (by omega), if_pos (by omega)]

theorem longer_is (l m : List Int) (a b : Option Addr) (ca cb : Nat) (w : World) (ha : RowOf .i64 w w.heap.size a l) (hb : RowOf .i64 w w.heap.size b m) (hl : l.length ≤ 1000) (hm : m.length ≤ 1000) :
    ∃ N av cv, (if l.length < m.length then Value.slice b m.length cb else .slice a l.length ca) = .slice av (List.length N) cv ∧ N.length = max l.length m.length ∧ RowOf .i64 w w.heap.size av N ∧ N.length ≤ 1000 := by
  rcases Nat.lt_or_ge l.length m.length with hh | hh
  · rw [if_pos hh]; exact ⟨m, b, cb, rfl, by omega, hb, hm⟩
  · rw [if_neg (by omega)]; exact ⟨l, a, ca, rfl, by omega, ha, hl⟩
theorem keep2 {u u' : World} {g h : Nat} {x y : Value} (q : u.cell? ⟨g, 0, none⟩ = some x ∧ u.cell? ⟨h, 0, none⟩ = some y) (hB : Below u.heap.size u u') : u'.cell? ⟨g, 0, none⟩ = some x ∧ u'.cell? ⟨h, 0, none⟩ = some y :=
  ⟨(hB.cell (p := ⟨g, 0, none⟩) (cell_lt q.1)).trans q.1, (hB.cell (p := ⟨h, 0, none⟩) (cell_lt q.2)).trans q.2⟩

set_option maxHeartbeats 1000000 in
theorem join_any (l m : List Int) (a b : Option Addr) (ca cb : Nat) (w : World) (ha : RowOf .i64 w w.heap.size a l) (hb : RowOf .i64 w w.heap.size b m) (hl : l.length ≤ 1000) (hm : m.length ≤ 1000) :
    Calls Try.prog 38 #[.slice a l.length ca, .slice b m.length cb] w fun e w' => Made w w' e (joinL l m) := by
  have hmf : ∀ (fn : Fn) (first cap : Array Value) (w : World), (Instr.makeFunc fn first cap).run Try.prog w = .ok (.func fn first cap) w := fun _ _ _ _ => rfl
  have HA := Lib.hid ha
  have HC := Lib.hid hb
  clear ha hb
  go_enter Try.func38, Try.ntmps38
  go_wp2_with fail
  generalize hV : World.alloc (World.alloc w _) _ = V
  have hBV : Below w.heap.size w V := by rw [← hV]; exact ((Below.refl _ w).alloc (Nat.le_refl _) _).alloc (by simp) _
  have n1 : V.cell? ⟨w.heap.size, 0, none⟩ = some (.slice a l.length ca) := by
    rw [← hV]
    exact Lib.cell?_alloc_some _ (by rw [cell_of_row _ _ _ _ _ _ (heap_alloc_new _ _)]; rfl)
  have n2 : V.cell? ⟨w.heap.size + 1, 0, none⟩ = some (.slice b m.length cb) := by
    rw [← hV]
    have := heap_alloc_new (w.alloc (Obj.cells #[Value.slice a l.length ca] 29)) (Obj.cells #[Value.slice b m.length cb] 29)
    rw [show (w.alloc (Obj.cells #[Value.slice a l.length ca] 29)).heap.size = w.heap.size + 1 by simp] at this
    rw [cell_of_row _ _ _ _ _ _ this]; rfl
  obtain ⟨N, av, cv, hN, hNl, hNr, hN1⟩ := longer_is l m a b ca cb V (HA.out.up hBV) (HC.out.up hBV) hl hm
  have HN := Lib.hid hN
  have HNL := Lib.hid hNl
  have HNR := Lib.hid hNr
  have HBV := Lib.hid hBV
  have HLL : Hid (w.heap.size + 1 < V.heap.size) := Lib.hid (cell_lt n2)
  have HA1 := Lib.hid (HA.out.up hBV)
  have HC1 := Lib.hid (HC.out.up hBV)
  have K := Lib.hid (And.intro n1 n2)
  clear hV hBV hN hNl hNr HA HC
  refine (longer_any a b l.length m.length ca cb _ _ V hl hm n1 n2).mono ?_
  rintro e V' ⟨rfl, rfl⟩
  rw [HN.out]
  clear n1 n2 HN
  go_wp2_with (first
    | (refine (copied_any N av cv 0 V HNR.out hN1 (by omega)).mono ?_; rintro e w1 ⟨g, L, hL, rfl, hown, hB⟩; have HO := Lib.hid hown; have HB := Lib.hid hB; have HLen := Lib.hid (show L.length = max l.length m.length by rw [hL.out, pad_zero]; exact HNL.out); have hL1 : L.length ≤ 1000 := by (rw [hL.out, pad_zero]; exact hN1)))
  clear hown hB
  go_loopw [14] (fun i wr => ∃ k : Nat, k ≤ L.length ∧ i = .int .i64 k ∧ Hid (wr.ownsRow V.heap.size 3 1 (.slice (some ⟨g, 0, none⟩) L.length L.length) L.length ((midL l m L k).map (.int .i64 ·))) ∧ Hid (Below V.heap.size V wr)) (fun i _ => L.length - (intOf i).toNat)
  case atStart => exact ⟨0, Nat.zero_le _, rfl, by rw [mid_start]; exact HO, HB⟩
  case round =>
    obtain ⟨k, hk, rfl, HO2, HB2⟩ := hrel
    by_cases hlt : k < L.length
    · obtain ⟨x, hx⟩ : ∃ x, atN l k = x := ⟨_, rfl⟩
      obtain ⟨y, hy⟩ : ∃ y, atN m k = y := ⟨_, rfl⟩
      obtain ⟨z, hz⟩ := at_len (l := midL l m L k) (k := k) (by rw [mid_len]; exact hlt)
      have c1 : wr.cell? ⟨g, k, none⟩ = some (.int .i64 z) := by rw [HO2.out.cellAt k (by omega), List.getElem?_map, hz]; rfl
      have f1 := HO2.out.frozenAt k
      obtain ⟨d1, d2⟩ := keep2 K.out HB2.out
      have HA2 := Lib.hid (HA1.out.up HB2.out)
      have HC2 := Lib.hid (HC1.out.up HB2.out)
      have HX := Lib.hid hx
      have HY := Lib.hid hy
      have HM := Lib.hid (mid_set l m L k hlt)
      have HG := Lib.hid (own_ge HO2.out)
      clear hx hy hz
      go_wp2_with fail
      rcases Int.lt_or_le x y with hxy | hxy
      · refine wp_region_still_tail 10 (by kernel_rfl) (by kernel_rfl) ?_
        simp only [List.take_succ_cons, List.take_zero, List.drop_succ_cons, List.drop_zero]
        still_step
        still_step
        still_step
        still_step
        still_call (cAt_still l a ca _ k x _ HA2.out HX.out)
        still_step
        still_step
        still_call (cAt_still m b cb _ k y _ HC2.out HY.out)
        still_step
        still_step
        refine wpStill_nil ?_
        have HS := Lib.hid (show wr.drew.ownsRow V.heap.size 3 1 (.slice (some ⟨g, 0, none⟩) L.length L.length) L.length ((midL l m L k).map (.int .i64 ·)) from HO2.out)
        have HD := Lib.hid (show Below V.heap.size V wr.drew from HB2.out.drew)
        change wpList _ _ _ _ _ wr.drew
        have c2 : wr.drew.cell? ⟨g, k, none⟩ = some (.int .i64 z) := c1
        have f2 : wr.drew.frozen? ⟨g, k, none⟩ = false := f1
        generalize wr.drew = U at *
        clear c1 f1
        go_wp2
        go_roundw
        case rel =>
          refine ⟨k + 1, by omega, by go_num, Lib.hid ?_, Lib.hid (HD.out.setCell (p := ⟨g, k, none⟩) HG.out _)⟩
          rw [← HM.out, HX.out, HY.out, show max x y = y by omega, ← map_set]
          exact (HS.out.stored k (.int .i64 y)).1
        case measure => simp [intOf]; omega
      · refine wp_region_still_tail 10 (by kernel_rfl) (by kernel_rfl) ?_
        simp only [List.take_succ_cons, List.take_zero, List.drop_succ_cons, List.drop_zero]
        still_step
        still_step
        still_step
        still_step
        still_call (cAt_still l a ca _ k x _ HA2.out HX.out)
        still_step
        still_step
        still_call (cAt_still m b cb _ k y _ HC2.out HY.out)
        still_step
        still_step
        refine wpStill_nil ?_
        have HS := Lib.hid (show wr.drew.ownsRow V.heap.size 3 1 (.slice (some ⟨g, 0, none⟩) L.length L.length) L.length ((midL l m L k).map (.int .i64 ·)) from HO2.out)
        have HD := Lib.hid (show Below V.heap.size V wr.drew from HB2.out.drew)
        change wpList _ _ _ _ _ wr.drew
        have c2 : wr.drew.cell? ⟨g, k, none⟩ = some (.int .i64 z) := c1
        have f2 : wr.drew.frozen? ⟨g, k, none⟩ = false := f1
        generalize wr.drew = U at *
        clear c1 f1
        go_wp2
        go_roundw
        case rel =>
          refine ⟨k + 1, by omega, by go_num, Lib.hid ?_, Lib.hid (HD.out.setCell (p := ⟨g, k, none⟩) HG.out _)⟩
          rw [← HM.out, HX.out, HY.out, show max x y = x by omega, ← map_set]
          exact (HS.out.stored k (.int .i64 x)).1
        case measure => simp [intOf]; omega
    · obtain rfl : k = L.length := by omega
      have HJ := Lib.hid (mid_end l m L HLen.out)
      go_wp2
      go_ret
      refine ⟨some ⟨g, 0, none⟩, L.length, joinL l m, Lib.hid rfl, ?_, ?_, below_next HBV.out HB2.out⟩
      · rw [join_len, ← HLen.out]; rfl
      · have q := HO2.out
        rw [HJ.out] at q
        exact own_rowI (by rw [join_len, ← HLen.out]; exact q)
end Go.Proofs.Ytgikoajclkfoiaa
