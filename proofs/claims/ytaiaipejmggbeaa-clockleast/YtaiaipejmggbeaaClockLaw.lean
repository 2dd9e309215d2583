/- The chapter's examples (known), and that all calls are what the chapter says (tells). -/
import Derived.Test.YtaiaipejmggbeaaClockRef2
namespace Go.Proofs.Ytaiaipejmggbeaa
set_option linter.unusedVariables false
set_option linter.unusedSimpArgs false
set_option maxRecDepth 100000
open Go.ChangeShapes Go.WideShapes Go.ChangeAt Go.RowKit

theorem built_row {w : World} (l : List Int) : RowOf .i64 (w.alloc (.cells (l.map (Value.int .i64 ·)).toArray 3)) (w.heap.size + 1) (some ⟨w.heap.size, 0, none⟩) l := fun i x hx =>
  ⟨w.heap.size, 0, rfl, by omega, by rw [Nat.zero_add, cell_of_row _ _ _ _ _ _ (heap_alloc_new _ _)]; simp [hx]⟩

set_option maxHeartbeats 1000000 in
theorem tells_any (l m : List Int) (a b : Option Addr) (ca cb : Nat) (i : Int) (w : World) (ha : RowOf .i64 w w.heap.size a l) (hb : RowOf .i64 w w.heap.size b m) (hl : l.length ≤ 900) (hm : m.length ≤ 900) :
    Calls Try.prog 14 #[.slice a l.length ca, .slice b m.length cb, .int .i64 i] w fun e w' => e = .returned (.bool true) ∧ Below w.heap.size w w' := by
  have HA := Lib.hid ha
  have HC := Lib.hid hb
  have HL := Lib.hid (show (joinL l m).length ≤ 1000 by rw [join_len]; omega)
  have HT := Lib.hid (show (tickL l i).length ≤ 1000 by have := tickL_len l i; omega)
  have hl1 : l.length ≤ 1000 := by omega
  have hm1 : m.length ≤ 1000 := by omega
  clear ha hb
  go_enter Try.func14, Try.ntmps14
  go_wp2_with fail
  refine (join_any l m a b ca cb w HA.out HC.out hl1 hm1).mono ?_
  rintro e w1 ⟨a1, c1, J, hJ, rfl, hR1, hB1⟩
  have HJ := Lib.hid hJ.out
  have HA1 := Lib.hid (HA.out.up hB1)
  have HC1 := Lib.hid (HC.out.up hB1)
  have HR1 := Lib.hid hR1
  have HB1 := Lib.hid hB1
  clear hJ hR1 hB1
  go_wp2_with fail
  refine (rJoin_any l m a b ca cb w1 HA1.out HC1.out hl1 hm1).mono ?_
  rintro e w2 ⟨a2, c2, J2, hJ2, rfl, hR2, hB2⟩
  obtain rfl : J2 = J := by rw [hJ2.out, HJ.out]
  have HA2 := Lib.hid (HA1.out.up hB2)
  have HC2 := Lib.hid (HC1.out.up hB2)
  have HR12 := Lib.hid (HR1.out.up hB2)
  have HR2 := Lib.hid hR2
  have HB2 := Lib.hid (below_next HB1.out hB2)
  have hJl : J2.length ≤ 1000 := by rw [hJ2.out]; exact HL.out
  clear hJ2 hR2 hB2
  go_wp2_with fail
  refine (lsame_yes J2 a1 a2 c1 c2 _ _ w2 HR12.out HR2.out hJl).mono ?_
  rintro e w3 ⟨rfl, hB3⟩
  have HA3 := Lib.hid (HA2.out.up hB3)
  have HC3 := Lib.hid (HC2.out.up hB3)
  have HB3 := Lib.hid (below_next HB2.out hB3)
  clear hB3
  go_wp2_with fail
  refine (tick_any l a ca i w3 HA3.out hl).mono ?_
  rintro e w4 ⟨a4, c4, T, hT, rfl, hR4, hB4⟩
  have HTT := Lib.hid hT.out
  have HA4 := Lib.hid (HA3.out.up hB4)
  have HC4 := Lib.hid (HC3.out.up hB4)
  have HR4 := Lib.hid hR4
  have HB4 := Lib.hid (below_next HB3.out hB4)
  clear hT hR4 hB4
  go_wp2_with fail
  refine (rTick_any l a ca i w4 HA4.out hl).mono ?_
  rintro e w5 ⟨a5, c5, T2, hT2, rfl, hR5, hB5⟩
  obtain rfl : T2 = T := by rw [hT2.out, HTT.out]
  have HA5 := Lib.hid (HA4.out.up hB5)
  have HC5 := Lib.hid (HC4.out.up hB5)
  have HR45 := Lib.hid (HR4.out.up hB5)
  have HR5 := Lib.hid hR5
  have HB5 := Lib.hid (below_next HB4.out hB5)
  have hTl : T2.length ≤ 1000 := by rw [hT2.out]; exact HT.out
  clear hT2 hR5 hB5
  go_wp2_with fail
  refine (lsame_yes T2 a4 a5 c4 c5 _ _ w5 HR45.out HR5.out hTl).mono ?_
  rintro e w6 ⟨rfl, hB6⟩
  have HA6 := Lib.hid (HA5.out.up hB6)
  have HC6 := Lib.hid (HC5.out.up hB6)
  have HB6 := Lib.hid (below_next HB5.out hB6)
  clear hB6
  obtain ⟨t, ht⟩ : ∃ t, withinB l m = t := ⟨_, rfl⟩
  obtain ⟨s, hs⟩ : ∃ s, sameB l m = s := ⟨_, rfl⟩
  obtain ⟨x, hx⟩ : ∃ x, atL l i = x := ⟨_, rfl⟩
  have HWt := Lib.hid ht
  have HSs := Lib.hid hs
  have HXx := Lib.hid hx
  clear ht hs hx
  go_wp2_with fail
  refine (cWithin_is t l m a b ca cb _ _ w6 HWt.out HA6.out HC6.out hl1 hm1).mono ?_
  rintro e w' ⟨rfl, rfl⟩
  go_wp2_with fail
  refine (rWithin_is t l m a b ca cb _ _ w6 HWt.out HA6.out HC6.out hl1 hm1).mono ?_
  rintro e w' ⟨rfl, rfl⟩
  go_wp2_with fail
  refine (cSame_is s l m a b ca cb _ _ w6 HSs.out HA6.out HC6.out hl1 hm1).mono ?_
  rintro e w' ⟨rfl, rfl⟩
  go_wp2_with fail
  refine (rSame_is s l m a b ca cb _ _ w6 HSs.out HA6.out HC6.out hl1 hm1).mono ?_
  rintro e w' ⟨rfl, rfl⟩
  go_wp2_with fail
  refine (cAt_any l a ca _ i w6 HA6.out).mono ?_
  rintro e w' ⟨rfl, rfl⟩
  rw [HXx.out]
  go_wp2_with fail
  refine (rAt_any l a ca _ i w6 HA6.out).mono ?_
  rintro e w' ⟨rfl, rfl⟩
  rw [HXx.out]
  go_wp2
  go_ret
  exact ⟨rfl, HB6.out⟩
end Go.Proofs.Ytaiaipejmggbeaa
