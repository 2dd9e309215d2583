/- Race's tell and count: what they write into the maps. -/
import Derived.Test.YtgikoajclkfoiaaRaceKn3
namespace Go.Proofs.Ytgikoajclkfoiaa
set_option linter.unusedVariables false
set_option linter.unusedSimpArgs false
set_option maxRecDepth 100000
open Go.ChangeShapes Go.WideShapes Go.ChangeAt Go.RowKit Go.Maps

theorem CkM.mono {u : World} {g n m : Nat} {K : Ky → List Int} (h : CkM u g n K) (hm : n ≤ m) : CkM u g m K := by
  obtain ⟨D, h1, h2⟩ := h
  exact ⟨D, h1.mono hm, h2⟩
theorem CnM.mono {u : World} {g n m : Nat} {S : Int → Nat} (h : CnM u g n S) (hm : n ≤ m) : CnM u g m S := by
  obtain ⟨D, h1, h2⟩ := h
  exact ⟨D, h1.mono hm, h2⟩
section
variable {base gk gc gs gt : Nat} {ca : Option Addr} {cc : Nat} {chans : List Int} {n : Nat} {k : KnS} {u : World}
theorem CkM.isMap {u : World} {g n : Nat} {K : Ky → List Int} (h : CkM u g n K) : ∃ es c, u.heap[g]? = some (.map es c) := by
  obtain ⟨D, h1, _⟩ := h
  exact map_block h1
theorem CnM.isMap {u : World} {g n : Nat} {S : Int → Nat} (h : CnM u g n S) : ∃ es c, u.heap[g]? = some (.map es c) := by
  obtain ⟨D, h1, _⟩ := h
  exact map_block h1
theorem KnIn.ne {b : Nat} (h : KnIn base gk gc gs gt ca cc chans n k u) (hm : ∃ es c, u.heap[b]? = some (.map es c)) : gk ≠ b := fun e => by
  obtain ⟨es, c, hb⟩ := hm
  rw [← e, h.box] at hb
  cases hb
theorem ch_kept {u' : World} {b : Nat} (h : ChIn u ca chans) (hm : ∃ es c, u.heap[b]? = some (.map es c)) (hg : u.grownBy u' (some b)) : ChIn u' ca chans := by
  obtain ⟨es, c, hb⟩ := hm
  exact ⟨row_kept h.row hb hg, h.len, h.wf⟩
theorem KnIn.putK (h : KnIn base gk gc gs gt ca cc chans n k u) (hn : n < 100000) {x : Ky} (hx : KyW x) {a : Option Addr} {c : Nat} {l : List Int} (hl : RowI u a l) :
    ∃ u', (Instr.mapUpdate 69 (.map (some gc)) (kyV x) (.slice a l.length c)).run Try.prog u = .ok () u' ∧ KnIn base gk gc gs gt ca cc chans (n + 1) ⟨upd k.K x l, k.S, k.T⟩ u' ∧ u.grownBy u' (some gc) := by
  obtain ⟨u', h1, h2, h3⟩ := h.cl.put hx (by unfold maxLen; omega) (c := c) hl
  have hm := h.cl.isMap
  exact ⟨u', h1, ⟨(h3.block gk (Array.getElem?_eq_some_iff.1 h.box).1 (fun e => h.ne hm (Option.some.inj e))).trans h.box, ch_kept h.ch hm h3, h2, (h.se.other h3 (fun e => h.cs e.symm)).mono (by omega), (h.ta.other h3 (fun e => h.ct e.symm)).mono (by omega), h.cs, h.ct, h.st, h.bk⟩, h3⟩
theorem KnIn.putS (h : KnIn base gk gc gs gt ca cc chans n k u) (hn : n < 100000) {x : Int} (hx : Wf x) {y : Nat} (hy : y < 1000000) :
    ∃ u', (Instr.mapUpdate 70 (.map (some gs)) (.int .i64 x) (.int .i64 (y : Nat))).run Try.prog u = .ok () u' ∧ KnIn base gk gc gs gt ca cc chans (n + 1) ⟨k.K, upd k.S x y, k.T⟩ u' ∧ u.grownBy u' (some gs) := by
  obtain ⟨u', h1, h2, h3⟩ := h.se.put hx (by unfold maxLen; omega) (y := y) (WalkArith.wf_i64 (by omega))
  have hm := h.se.isMap
  exact ⟨u', h1, ⟨(h3.block gk (Array.getElem?_eq_some_iff.1 h.box).1 (fun e => h.ne hm (Option.some.inj e))).trans h.box, ch_kept h.ch hm h3, (h.cl.other h3 h.cs hm).mono (by omega), h2, (h.ta.other h3 (fun e => h.st e.symm)).mono (by omega), h.cs, h.ct, h.st, h.bk⟩, h3⟩
theorem KnIn.putT (h : KnIn base gk gc gs gt ca cc chans n k u) (hn : n < 100000) {x : Int} (hx : Wf x) {y : Nat} (hy : y < 1000000) :
    ∃ u', (Instr.mapUpdate 70 (.map (some gt)) (.int .i64 x) (.int .i64 (y : Nat))).run Try.prog u = .ok () u' ∧ KnIn base gk gc gs gt ca cc chans (n + 1) ⟨k.K, k.S, upd k.T x y⟩ u' ∧ u.grownBy u' (some gt) := by
  obtain ⟨u', h1, h2, h3⟩ := h.ta.put hx (by unfold maxLen; omega) (y := y) (WalkArith.wf_i64 (by omega))
  have hm := h.ta.isMap
  exact ⟨u', h1, ⟨(h3.block gk (Array.getElem?_eq_some_iff.1 h.box).1 (fun e => h.ne hm (Option.some.inj e))).trans h.box, ch_kept h.ch hm h3, (h.cl.other h3 h.ct hm).mono (by omega), (h.se.other h3 h.st).mono (by omega), h2, h.cs, h.ct, h.st, h.bk⟩, h3⟩
theorem KnIn.mono {m : Nat} (h : KnIn base gk gc gs gt ca cc chans n k u) (hm : n ≤ m) : KnIn base gk gc gs gt ca cc chans m k u := ⟨h.box, h.ch, h.cl.mono hm, h.se.mono hm, h.ta.mono hm, h.cs, h.ct, h.st, h.bk⟩
end
/-- Blocks of the maps. -/
def KnX (gc gs gt : Nat) : Nat → Prop := fun g => g = gc ∨ g = gs ∨ g = gt
theorem touch_box {X : Nat → Prop} {w V V' : World} (hB : Below w.heap.size w V) (T : Touch X V V') : Touch X w V' := (Touch.of_below hB).trans T fun _ _ h => h
theorem box3R {u : World} {g : Nat} {v0 v1 v2 : Value} {t : TypeId} {fr : Nat × Nat} (h : u.heap[g]? = some (.cells #[v0, v1, v2] t fr)) : u.cell? ⟨g, 0, none⟩ = some v0 ∧ u.cell? ⟨g, 1, none⟩ = some v1 ∧ u.cell? ⟨g, 2, none⟩ = some v2 :=
  ⟨cell_of_row _ _ 0 _ _ _ h, cell_of_row _ _ 1 _ _ _ h, cell_of_row _ _ 2 _ _ _ h⟩
def TellE (base gk gc gs gt : Nat) (ca : Option Addr) (cc : Nat) (chans : List Int) (n : Nat) (k : KnS) (w : World) (e : Ending) (w' : World) : Prop := (∃ v, e = .returned v) ∧ KnIn base gk gc gs gt ca cc chans n k w' ∧ Touch (KnX gc gs gt) w w'
set_option maxHeartbeats 900000 in
theorem tell_any {base gk gc gs gt : Nat} {ca : Option Addr} {cc : Nat} {chans : List Int} {n : Nat} {k : KnS} {w : World} (h : KnIn base gk gc gs gt ca cc chans n k w) (hn : n < 100000) (hlen : ∀ x, (k.K x).length ≤ 64) (x : Ky) (hx : KyW x) (a : Option Addr) (c : Nat) (l : List Int) (hl : RowI w a l) (hll : l.length ≤ 64) :
    Calls Try.prog 41 #[.pointer (some ⟨gk, 0, none⟩), kyV x, .slice a l.length c] w (TellE base gk gc gs gt ca cc chans (n + 1) ⟨tellK k.K x l, k.S, k.T⟩ w) := by
  have HK := Lib.hid h
  have HL := Lib.hid hl
  have HX := Lib.hid hx
  clear h hl hx
  obtain ⟨x1, x2, x3⟩ := x
  show Calls Try.prog 41 #[.pointer (some ⟨gk, 0, none⟩), .agg #[.int .u8 x1, .int .i64 x2, .int .i64 x3], .slice a l.length c] w _
  by_cases h3 : x1 = 3
  · subst h3
    have HT : Hid (tellK k.K (3, x2, x3) l = upd k.K (3, x2, x3) l) := Lib.hid (by simp [tellK])
    rw [HT.out]
    go_enter Try.func41, Try.ntmps41
    go_upto_region 3 with (fail)
    generalize hV : World.alloc w _ = V
    have HB := Lib.hid (show Below w.heap.size w V by rw [← hV]; exact below_box _ _)
    have HN : Hid (V.heap[w.heap.size]? = some (.cells #[.int .u8 3, .int .i64 x2, .int .i64 x3] 75)) := Lib.hid (by rw [← hV]; exact heap_alloc_new _ _)
    clear hV
    obtain ⟨n0, n1, n2⟩ := box3R HN.out
    have HKV := Lib.hid (HK.out.later HB.out)
    obtain ⟨k0, k1, k2, k3⟩ := box4R HKV.out.box
    refine wp_region_still_tail 6 (by kernel_rfl) (by kernel_rfl) ?_
    simp only [List.take_succ_cons, List.take_zero, List.drop_succ_cons, List.drop_zero]
    still_step
    still_step
    still_step
    still_step
    still_step
    still_step
    refine wpStill_nil ?_
    change wpList _ _ _ _ _ V.drew
    have HB3 := Lib.hid (show Below w.heap.size w V.drew from HB.out.drew)
    have HKD := Lib.hid (HK.out.later HB3.out)
    generalize V.drew = U at *
    obtain ⟨u', hrun, hk', hg⟩ := HKD.out.putK hn HX.out (c := c) (HL.out.up HB3.out)
    simp only [kyV] at hrun
    have HK' := Lib.hid hk'
    have HG := Lib.hid hg
    clear hk' hg
    go_wp2
    go_end0
    exact ⟨⟨_, rfl⟩, HK'.out, touch_box HB3.out (Touch.grown HG.out (fun g e => .inl (Option.some.inj e).symm))⟩
  · have h3' : (x1 != 3) = true := by simpa using h3
    have HT : Hid (tellK k.K (x1, x2, x3) l = upd k.K (x1, x2, x3) (joinL (k.K (x1, x2, x3)) l)) := Lib.hid (by simp [tellK, h3])
    rw [HT.out]
    have hxl := hlen (x1, x2, x3)
    go_enter Try.func41, Try.ntmps41
    go_upto_region 2 with (fail)
    generalize hV : World.alloc w _ = V
    have HB := Lib.hid (show Below w.heap.size w V by rw [← hV]; exact below_box _ _)
    have HN : Hid (V.heap[w.heap.size]? = some (.cells #[.int .u8 x1, .int .i64 x2, .int .i64 x3] 75)) := Lib.hid (by rw [← hV]; exact heap_alloc_new _ _)
    clear hV
    have HKV := Lib.hid (HK.out.later HB.out.drew)
    obtain ⟨aK, cK, hlk, hrK⟩ := HKV.out.cl.look HX.out
    simp only [kyV] at hlk
    have HRK := Lib.hid hrK
    clear hrK
    obtain ⟨n0, n1, n2⟩ := box3R (show V.drew.heap[w.heap.size]? = _ from HN.out)
    obtain ⟨k0, k1, k2, k3⟩ := box4R HKV.out.box
    generalize hM0 : k.K (x1, x2, x3) = m at *
    refine wp_region_still_tail 7 (by kernel_rfl) (by kernel_rfl) ?_
    simp only [List.take_succ_cons, List.take_zero, List.drop_succ_cons, List.drop_zero]
    still_step
    still_step
    still_step
    still_step
    still_step
    still_step
    still_step
    refine wpStill_nil ?_
    change wpList _ _ _ _ _ V.drew
    have HB3 := Lib.hid (show Below w.heap.size w V.drew from HB.out.drew)
    have HN3 := Lib.hid (show V.drew.heap[w.heap.size]? = _ from HN.out)
    generalize V.drew = U at *
    have HLU := Lib.hid (HL.out.up HB3.out)
    clear n0 n1 n2 k0 k1 k2 k3 hlk
    go_upto_region 3 with (go_at_call 38; refine (join_any m l aK a cK c U HRK.out.row HLU.out.row (by omega) (by omega)).mono ?_; rintro e w1 ⟨a', c', M, hM, rfl, hr, hB⟩)
    have HRM := Lib.hid hr
    have HM := Lib.hid hM.out
    have HB1 := Lib.hid (below_next HB3.out hB)
    have HN1 := Lib.hid (old_later HN3.out hB)
    clear hr hM hB
    obtain ⟨n0, n1, n2⟩ := box3R HN1.out
    have HKV := Lib.hid (HK.out.later HB1.out)
    obtain ⟨k0, k1, k2, k3⟩ := box4R HKV.out.box
    refine wp_region_still_tail 6 (by kernel_rfl) (by kernel_rfl) ?_
    simp only [List.take_succ_cons, List.take_zero, List.drop_succ_cons, List.drop_zero]
    still_step
    still_step
    still_step
    still_step
    still_step
    still_step
    refine wpStill_nil ?_
    change wpList _ _ _ _ _ w1.drew
    have HB4 := Lib.hid (show Below w.heap.size w w1.drew from HB1.out.drew)
    have HR4 := Lib.hid (show RowI w1.drew a' M from HRM.out)
    have HKD := Lib.hid (HK.out.later HB4.out)
    generalize w1.drew = U2 at *
    obtain ⟨u', hrun, hk', hg⟩ := HKD.out.putK hn HX.out (c := c') HR4.out
    simp only [kyV] at hrun
    have HK' := Lib.hid hk'
    have HG := Lib.hid hg
    clear hk' hg
    go_wp2
    go_end0
    exact ⟨⟨_, rfl⟩, by rw [hM0, ← HM.out]; exact HK'.out, touch_box HB4.out (Touch.grown HG.out (fun g e => .inl (Option.some.inj e).symm))⟩
set_option maxHeartbeats 900000 in
theorem count8_any {base gk gc gs gt : Nat} {ca : Option Addr} {cc : Nat} {chans : List Int} {n : Nat} {k : KnS} {w : World} (h : KnIn base gk gc gs gt ca cc chans n k w) (hn : n < 100000) (hS : ∀ x, k.S x < 100000) (hT : ∀ x, k.T x < 100000) (e : EvD) (hW : Wf e.obj) :
    Calls Try.prog 42 #[.pointer (some ⟨gk, 0, none⟩), e.v] w (TellE base gk gc gs gt ca cc chans (n + 1) (cntK k e) w) := by
  have HK := Lib.hid h
  have HT := Lib.hid (fun W => taking8_any e W)
  clear h
  obtain ⟨th, pc, op, obj, val, mode⟩ := e
  show Calls Try.prog 42 #[.pointer (some ⟨gk, 0, none⟩), evV th pc op obj val mode] w _
  by_cases h20 : op = 20
  · subst h20
    have HF : Hid (cntK k ⟨th, pc, 20, obj, val, mode⟩ = ⟨k.K, upd k.S obj (k.S obj + 1), k.T⟩) := Lib.hid (by simp [cntK])
    rw [HF.out]
    have hso := hS obj
    have hw1 : wrap64 (((k.S obj : Nat) : Int) + 1) = ((k.S obj : Nat) : Int) + 1 := by simp only [wrap64]; omega
    have hw3 : IntKind.i64.wrap (((k.S obj : Nat) : Int) + 1) = ((k.S obj : Nat) : Int) + 1 := IntWalk.i64_in _ ⟨by omega, by omega⟩
    have hw2 : ((k.S obj + 1 : Nat) : Int) = ((k.S obj : Nat) : Int) + 1 := by omega
    go_enter Try.func42, Try.ntmps42
    go_upto_region 2 with (fail)
    generalize hV : World.alloc w _ = V
    have HB := Lib.hid (show Below w.heap.size w V by rw [← hV]; exact below_box _ _)
    have HN : Hid (V.heap[w.heap.size]? = some (.cells #[.int .i64 th, .int .i64 pc, .int .u8 20, .int .i64 obj, .int .i64 val, .int .i64 mode] 26)) := Lib.hid (by rw [← hV]; exact heap_alloc_new _ _)
    clear hV
    obtain ⟨a0, a1, a2, a3, a4, a5⟩ := box6R (show V.drew.heap[w.heap.size]? = _ from HN.out)
    have HKV := Lib.hid (HK.out.later HB.out.drew)
    obtain ⟨k0, k1, k2, k3⟩ := box4R HKV.out.box
    have hl := HKV.out.se.look hW
    refine wp_region_still_tail 8 (by kernel_rfl) (by kernel_rfl) ?_
    simp only [List.take_succ_cons, List.take_zero, List.drop_succ_cons, List.drop_zero]
    still_step
    still_step
    still_step
    still_step
    still_step
    still_step
    still_step
    still_step
    refine wpStill_nil ?_
    change wpList _ _ _ _ _ V.drew
    have HB3 := Lib.hid (show Below w.heap.size w V.drew from HB.out.drew)
    have HKD := Lib.hid (HK.out.later HB3.out)
    generalize V.drew = U at *
    obtain ⟨u', hrun, hk', hg⟩ := HKD.out.putS hn hW (y := k.S obj + 1) (by omega)
    rw [hw2] at hrun
    have HK' := Lib.hid hk'
    have HG := Lib.hid hg
    clear hk' hg
    go_wp2
    go_end0
    exact ⟨⟨_, rfl⟩, HK'.out, touch_box HB3.out (Touch.grown HG.out (fun g e => .inr (.inl (Option.some.inj e).symm)))⟩
  have h20' : (op == 20) = false := by simpa using h20
  rcases ht : tkB ⟨th, pc, op, obj, val, mode⟩ with _ | _
  · have HF : Hid (cntK k ⟨th, pc, op, obj, val, mode⟩ = k) := Lib.hid (by simp [cntK, h20, ht])
    rw [HF.out]
    simp only [ht] at HT
    clear ht
    have HN := Lib.hid (heap_alloc_new w (.cells #[.int .i64 th, .int .i64 pc, .int .u8 op, .int .i64 obj, .int .i64 val, .int .i64 mode] 26))
    go_enter Try.func42, Try.ntmps42
    go_wp2_with (go_at_call 46; refine (HT.out _).mono ?_; rintro e w1 ⟨rfl, hB1⟩)
    go_end0
    have hB2 := below_next (below_box w _) hB1
    exact ⟨⟨_, rfl⟩, (HK.out.later hB2).mono (by omega), Touch.of_below hB2⟩
  · have HF : Hid (cntK k ⟨th, pc, op, obj, val, mode⟩ = ⟨k.K, k.S, upd k.T obj (k.T obj + 1)⟩) := Lib.hid (by simp [cntK, h20, ht])
    rw [HF.out]
    simp only [ht] at HT
    clear ht
    have hto := hT obj
    have hw1 : wrap64 (((k.T obj : Nat) : Int) + 1) = ((k.T obj : Nat) : Int) + 1 := by simp only [wrap64]; omega
    have hw3 : IntKind.i64.wrap (((k.T obj : Nat) : Int) + 1) = ((k.T obj : Nat) : Int) + 1 := IntWalk.i64_in _ ⟨by omega, by omega⟩
    have hw2 : ((k.T obj + 1 : Nat) : Int) = ((k.T obj : Nat) : Int) + 1 := by omega
    have HN := Lib.hid (heap_alloc_new w (.cells #[.int .i64 th, .int .i64 pc, .int .u8 op, .int .i64 obj, .int .i64 val, .int .i64 mode] 26))
    go_enter Try.func42, Try.ntmps42
    go_upto_region 4 with (go_at_call 46; refine (HT.out _).mono ?_; rintro e w1 ⟨rfl, hB1⟩)
    have HB := Lib.hid (below_next (below_box w _) hB1)
    have HN1 := Lib.hid (old_later HN.out hB1)
    clear hB1
    obtain ⟨a0, a1, a2, a3, a4, a5⟩ := box6R (show w1.drew.heap[w.heap.size]? = _ from HN1.out)
    have HKV := Lib.hid (HK.out.later HB.out.drew)
    obtain ⟨k0, k1, k2, k3⟩ := box4R HKV.out.box
    have hl := HKV.out.ta.look hW
    refine wp_region_still_tail 8 (by kernel_rfl) (by kernel_rfl) ?_
    simp only [List.take_succ_cons, List.take_zero, List.drop_succ_cons, List.drop_zero]
    still_step
    still_step
    still_step
    still_step
    still_step
    still_step
    still_step
    still_step
    refine wpStill_nil ?_
    change wpList _ _ _ _ _ w1.drew
    have HB3 := Lib.hid (show Below w.heap.size w w1.drew from HB.out.drew)
    have HKD := Lib.hid (HK.out.later HB3.out)
    generalize w1.drew = U at *
    obtain ⟨u', hrun, hk', hg⟩ := HKD.out.putT hn hW (y := k.T obj + 1) (by omega)
    rw [hw2] at hrun
    have HK' := Lib.hid hk'
    have HG := Lib.hid hg
    clear hk' hg
    go_wp2
    go_end0
    exact ⟨⟨_, rfl⟩, HK'.out, touch_box HB3.out (Touch.grown HG.out (fun g e => .inr (.inr (Option.some.inj e).symm)))⟩
end Go.Proofs.Ytgikoajclkfoiaa
