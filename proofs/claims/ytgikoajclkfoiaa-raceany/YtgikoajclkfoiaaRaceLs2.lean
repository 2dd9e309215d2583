/- Race's note: an event is kept as its thread's last one. -/
import Derived.Test.YtgikoajclkfoiaaRaceLs1
namespace Go.Proofs.Ytgikoajclkfoiaa
set_option linter.unusedVariables false
set_option linter.unusedSimpArgs false
set_option maxRecDepth 100000
open Go.ChangeShapes Go.WideShapes Go.ChangeAt Go.RowKit Go.Maps

theorem info_arr : (Try.prog.info? 88).map (·.size) = some 24 := by kernel_rfl
theorem lsCells_one (f : Nat → Lt) : (lsCells f).toArray.all (·.oneCell') = true := by
  rw [List.all_toArray, List.all_eq_true]
  intro v hv
  obtain ⟨k, _, hv⟩ := List.mem_flatMap.1 hv
  simp only [ltCells, List.mem_cons, List.not_mem_nil, or_false] at hv
  rcases hv with rfl | rfl | rfl | rfl <;> rfl
theorem lsCells_at (f : Nat → Lt) {k j : Nat} (hk : k < 6) (hj : j < 4) : (lsCells f)[k * 4 + j]? = (ltCells (f k))[j]? := by
  match k, hk, j, hj with
  | 0, _, 0, _ => rfl
  | 0, _, 1, _ => rfl
  | 0, _, 2, _ => rfl
  | 0, _, 3, _ => rfl
  | 1, _, 0, _ => rfl
  | 1, _, 1, _ => rfl
  | 1, _, 2, _ => rfl
  | 1, _, 3, _ => rfl
  | 2, _, 0, _ => rfl
  | 2, _, 1, _ => rfl
  | 2, _, 2, _ => rfl
  | 2, _, 3, _ => rfl
  | 3, _, 0, _ => rfl
  | 3, _, 1, _ => rfl
  | 3, _, 2, _ => rfl
  | 3, _, 3, _ => rfl
  | 4, _, 0, _ => rfl
  | 4, _, 1, _ => rfl
  | 4, _, 2, _ => rfl
  | 4, _, 3, _ => rfl
  | 5, _, 0, _ => rfl
  | 5, _, 1, _ => rfl
  | 5, _, 2, _ => rfl
  | 5, _, 3, _ => rfl
theorem ls_touch (f : Nat → Lt) {T : Nat} (hT : T < 6) (x y : Int) : ((lsCells f).toArray.setIfInBounds (T * 4 + 2) (.int .i64 x)).setIfInBounds (T * 4 + 2 + 1) (.int .i64 y) = (lsCells (upd f T ⟨(f T).sp, (f T).sn, x, y⟩)).toArray := by
  match T, hT with
  | 0, _ => rfl
  | 1, _ => rfl
  | 2, _ => rfl
  | 3, _ => rfl
  | 4, _ => rfl
  | 5, _ => rfl
theorem ls_store (f : Nat → Lt) {T : Nat} (hT : T < 6) (x y : Int) : ((lsCells f).toArray.setIfInBounds (T * 4) (.int .i64 x)).setIfInBounds (T * 4 + 1) (.int .i64 y) = (lsCells (upd f T ⟨x, y, (f T).tp, (f T).tn⟩)).toArray := by
  match T, hT with
  | 0, _ => rfl
  | 1, _ => rfl
  | 2, _ => rfl
  | 3, _ => rfl
  | 4, _ => rfl
  | 5, _ => rfl
theorem upd_upd {α β : Type} [DecidableEq α] (f : α → β) (a : α) (x y : β) : upd (upd f a x) a y = upd f a y := by
  funext z; unfold upd; split <;> rfl
theorem upd_same {α β : Type} [DecidableEq α] (f : α → β) (a : α) (x : β) : upd f a x a = x := by simp [upd]
def NoteE (g n : Nat) (ls : LsS) (w : World) (e : Ending) (w' : World) : Prop := (∃ v, e = .returned v) ∧ LsM w' g n ls ∧ Touch (fun b => b = g) w w'
set_option maxHeartbeats 1000000 in
theorem note_any {g n : Nat} {ls : LsS} {w : World} (h : LsM w g n ls) (hn : n < 100000) (i : Nat) (hi : i ≤ 100000) (e : EvD) (hW : Wf e.obj) (T : Nat) (hT : T < 6) (heT : e.th = (T : Int)) (a : Option Addr) (c : Nat) (L : List Int) (hL : RowOf .i64 w w.heap.size a L) :
    Calls Try.prog 28 #[.map (some g), .int .i64 i, e.v, .slice a L.length c] w (NoteE g (n + 1) (noteL ls i e L) w) := by
  have HLM := Lib.hid h
  have HLr := Lib.hid hL
  have HWo := Lib.hid hW
  have HNt : Hid (noteL ls i e L = upd ls e.obj (upd (ls e.obj) e.th.toNat (if e.op = 8 then ⟨i, atL L e.th, i, atL L e.th⟩ else ⟨(ls e.obj e.th.toNat).sp, (ls e.obj e.th.toNat).sn, i, atL L e.th⟩))) := Lib.hid rfl
  obtain ⟨th, pc, op, obj, val, mode⟩ := e
  simp only at heT
  subst heT
  clear h hL hW
  have hT' : (T : Int) < 6 := by omega
  have HAt := Lib.hid (fun (W : World) (hB : Below w.heap.size w W) => cAt_any L a c W.heap.size (T : Int) W (HLr.out.up hB))
  show Calls Try.prog 28 #[.map (some g), .int .i64 i, evV T pc op obj val mode, .slice a L.length c] w _
  simp only [Int.toNat_natCast] at HNt
  generalize noteL ls i ⟨T, pc, op, obj, val, mode⟩ L = ls9 at *
  generalize atL L (T : Int) = num at *
  go_enter Try.func28, Try.ntmps28
  go_upto_region 1 with (fail)
  generalize hV : World.alloc w _ = V
  have HB := Lib.hid (show Below w.heap.size w V by rw [← hV]; exact below_box _ _)
  have HN : Hid (V.heap[w.heap.size]? = some (.cells #[.int .i64 T, .int .i64 pc, .int .u8 op, .int .i64 obj, .int .i64 val, .int .i64 mode] 26)) := Lib.hid (by rw [← hV]; exact heap_alloc_new _ _)
  have HV1 : Hid (V.heap.size = w.heap.size + 1) := Lib.hid (by rw [← hV]; simp)
  clear hV
  obtain ⟨a0, a1, a2, a3, a4, a5⟩ := box6R HN.out
  go_upto_region 2 with (go_at_call 44; refine (HAt.out _ HB.out).mono ?_; rintro e w1 ⟨rfl, rfl⟩)
  generalize hV2 : World.alloc V _ = V2
  have HB2 := Lib.hid (show Below w.heap.size w V2 by rw [← hV2]; exact below_new HB.out _)
  have HN2 := Lib.hid (show V2.heap[w.heap.size]? = some (.cells #[.int .i64 T, .int .i64 pc, .int .u8 op, .int .i64 obj, .int .i64 val, .int .i64 mode] 26) by rw [← hV2]; exact old_alloc HN.out _)
  have HS : Hid (V2.heap[w.heap.size + 1]? = some (.cells #[.int .i64 i, .int .i64 num] 85)) := Lib.hid (by rw [← hV2, ← HV1.out]; exact heap_alloc_new _ _)
  have HZ2 : Hid (V2.heap.size = w.heap.size + 2) := Lib.hid (by rw [← hV2]; simp [HV1.out])
  rw [HV1.out]
  clear hV2 a0 a1 a2 a3 a4 a5
  have HLM2 := Lib.hid (HLM.out.later HB2.out)
  have hlk := HLM2.out.look HWo.out
  obtain ⟨R, hR⟩ : ∃ R, (lsCells (ls obj)).toArray = R := ⟨_, rfl⟩
  have hRs : R.size = 24 := by rw [← hR, List.size_toArray, lsCells_len]
  have hRo : R.all (·.oneCell') = true := by rw [← hR]; exact lsCells_one _
  simp only [lsV, hR] at hlk
  have hSz : (Try.prog.info? 88).map (·.size) = some R.size := by rw [hRs]; exact info_arr
  obtain ⟨a0, a1, a2, a3, a4, a5⟩ := box6R HN2.out
  go_upto_region 3 with (refine wpList_store_row rfl 88 (.tmp 9) (.tmp 20) rfl V2.heap.size R rfl rfl 88 _ (heap_alloc_new _ _) hSz (by rw [hRs]; rfl) hRo ?_)
  rw [HZ2.out]
  generalize hV3 : World.setRow (World.alloc V2 _) _ R = V3
  have HB3 := Lib.hid (show Below w.heap.size w V3 by rw [← hV3]; exact below_row (below_new HB2.out _) (by omega) _)
  have HA3 : Hid (V3.heap[w.heap.size + 2]? = some (.cells R 88)) := Lib.hid (by rw [← hV3, ← HZ2.out]; exact setRow_heap _ _ _ _ _ _ (heap_alloc_new _ _))
  have HN3 : Hid (V3.heap[w.heap.size]? = some (.cells #[.int .i64 T, .int .i64 pc, .int .u8 op, .int .i64 obj, .int .i64 val, .int .i64 mode] 26)) := Lib.hid (by rw [← hV3]; exact (setRow_other _ _ _ _ (by omega)).trans (old_alloc HN2.out _))
  have HS3 : Hid (V3.heap[w.heap.size + 1]? = some (.cells #[.int .i64 i, .int .i64 num] 85)) := Lib.hid (by rw [← hV3]; exact (setRow_other _ _ _ _ (by omega)).trans (old_alloc HS.out _))
  clear hV3 a0 a1 a2 a3 a4 a5 hlk
  obtain ⟨a0, a1, a2, a3, a4, a5⟩ := box6R HN3.out
  go_upto_region 4 with (fail)
  have hat : ∀ j, j < 4 → R[T * 4 + j]? = (ltCells (ls obj T))[j]? := fun j hj => by rw [← hR, List.getElem?_toArray, lsCells_at _ hT hj]
  have c2 : V3.cell? ⟨w.heap.size + 2, T * 4 + 2, none⟩ = some (.int .i64 (ls obj T).tp) := (cell_of_row _ _ _ _ _ _ HA3.out).trans (hat 2 (by omega))
  have c3 : V3.cell? ⟨w.heap.size + 2, T * 4 + 3, none⟩ = some (.int .i64 (ls obj T).tn) := (cell_of_row _ _ _ _ _ _ HA3.out).trans (hat 3 (by omega))
  have f2 : V3.frozen? ⟨w.heap.size + 2, T * 4 + 2, none⟩ = false := frozen_of_row _ _ _ _ _ HA3.out
  have f3 : V3.frozen? ⟨w.heap.size + 2, T * 4 + 3, none⟩ = false := frozen_of_row _ _ _ _ _ HA3.out
  have s0 := cell_of_row _ _ 0 _ _ _ HS3.out
  have s1 := cell_of_row _ _ 1 _ _ _ HS3.out
  simp only [List.getElem?_toArray, List.getElem?_cons_zero, List.getElem?_cons_succ] at s0 s1
  have HAT := Lib.hid hat
  clear hat
  go_upto_region 5 with (fail)
  generalize hV4 : World.setCell (World.setCell V3 _ _) _ _ = V4
  have HB4 := Lib.hid (show Below w.heap.size w V4 by rw [← hV4]; exact (HB3.out.setCell (p := ⟨w.heap.size + 2, T * 4 + 2, none⟩) (by simp) _).setCell (p := ⟨w.heap.size + 2, T * 4 + 2 + 1, none⟩) (by simp) _)
  have HA4 : Hid (V4.heap[w.heap.size + 2]? = some (.cells (lsCells (upd (ls obj) T ⟨(ls obj T).sp, (ls obj T).sn, i, num⟩)).toArray 88)) := Lib.hid (by rw [← hV4, ← ls_touch (ls obj) hT, hR]; exact stSet_block _ _ _ _ (stSet_block _ _ _ _ HA3.out))
  have HN4 : Hid (V4.heap[w.heap.size]? = some (.cells #[.int .i64 T, .int .i64 pc, .int .u8 op, .int .i64 obj, .int .i64 val, .int .i64 mode] 26)) := Lib.hid (by rw [← hV4]; exact (Below.heap_setCell _ ⟨w.heap.size + 2, T * 4 + 2 + 1, none⟩ _ w.heap.size (by simp)).trans ((Below.heap_setCell _ ⟨w.heap.size + 2, T * 4 + 2, none⟩ _ w.heap.size (by simp)).trans HN3.out))
  have HS4 : Hid (V4.heap[w.heap.size + 1]? = some (.cells #[.int .i64 i, .int .i64 num] 85)) := Lib.hid (by rw [← hV4]; exact (Below.heap_setCell _ ⟨w.heap.size + 2, T * 4 + 2 + 1, none⟩ _ (w.heap.size + 1) (by simp)).trans ((Below.heap_setCell _ ⟨w.heap.size + 2, T * 4 + 2, none⟩ _ (w.heap.size + 1) (by simp)).trans HS3.out))
  have HLM4 := Lib.hid (HLM.out.later HB4.out)
  clear hV4 a0 a1 a2 a3 a4 a5 c2 c3 f2 f3 s0 s1 hSz hRs hRo
  obtain ⟨F1, hF1⟩ : ∃ F1, upd (ls obj) T ⟨(ls obj T).sp, (ls obj T).sn, (i : Int), num⟩ = F1 := ⟨_, rfl⟩
  rw [hF1] at HA4
  obtain ⟨a0, a1, a2, a3, a4, a5⟩ := box6R HN4.out
  obtain ⟨R1, hR1⟩ : ∃ R1, (lsCells F1).toArray = R1 := ⟨_, rfl⟩
  rw [hR1] at HA4
  have hRs : R1.size = 24 := by rw [← hR1, List.size_toArray, lsCells_len]
  have hSz : (Try.prog.info? 88).map (·.size) = some R1.size := by rw [hRs]; exact info_arr
  by_cases h8 : op = 8
  · subst h8
    have s0 := cell_of_row _ _ 0 _ _ _ HS4.out
    have s1 := cell_of_row _ _ 1 _ _ _ HS4.out
    simp only [List.getElem?_toArray, List.getElem?_cons_zero, List.getElem?_cons_succ] at s0 s1
    have hat : ∀ j, j < 4 → R1[T * 4 + j]? = (ltCells (F1 T))[j]? := fun j hj => by rw [← hR1, List.getElem?_toArray, lsCells_at _ hT hj]
    have c2 : V4.cell? ⟨w.heap.size + 2, T * 4, none⟩ = some (.int .i64 (F1 T).sp) := (cell_of_row _ _ _ _ _ _ HA4.out).trans (hat 0 (by omega))
    have c3 : V4.cell? ⟨w.heap.size + 2, T * 4 + 1, none⟩ = some (.int .i64 (F1 T).sn) := (cell_of_row _ _ _ _ _ _ HA4.out).trans (hat 1 (by omega))
    have f2 : V4.frozen? ⟨w.heap.size + 2, T * 4, none⟩ = false := frozen_of_row _ _ _ _ _ HA4.out
    have f3 : V4.frozen? ⟨w.heap.size + 2, T * 4 + 1, none⟩ = false := frozen_of_row _ _ _ _ _ HA4.out
    clear hat
    go_upto_region 7 with (fail)
    generalize hV5 : World.setCell (World.setCell V4 _ _) _ _ = V5
    have HB5 := Lib.hid (show Below w.heap.size w V5 by rw [← hV5]; exact (HB4.out.setCell (p := ⟨w.heap.size + 2, T * 4, none⟩) (by simp) _).setCell (p := ⟨w.heap.size + 2, T * 4 + 1, none⟩) (by simp) _)
    have HA5 : Hid (V5.heap[w.heap.size + 2]? = some (.cells (lsCells (upd F1 T ⟨i, num, (F1 T).tp, (F1 T).tn⟩)).toArray 88)) := Lib.hid (by rw [← hV5, ← ls_store F1 hT, hR1]; exact stSet_block _ _ _ _ (stSet_block _ _ _ _ HA4.out))
    have HN5 : Hid (V5.heap[w.heap.size]? = some (.cells #[.int .i64 T, .int .i64 pc, .int .u8 8, .int .i64 obj, .int .i64 val, .int .i64 mode] 26)) := Lib.hid (by rw [← hV5]; exact (Below.heap_setCell _ ⟨w.heap.size + 2, T * 4 + 1, none⟩ _ w.heap.size (by simp)).trans ((Below.heap_setCell _ ⟨w.heap.size + 2, T * 4, none⟩ _ w.heap.size (by simp)).trans HN4.out))
    clear hV5 a0 a1 a2 a3 a4 a5 c2 c3 f2 f3 s0 s1 hSz hRs
    have HLM5 := Lib.hid (HLM.out.later HB5.out)
    obtain ⟨F2, hF2⟩ : ∃ F2, upd F1 T ⟨(i : Int), num, (F1 T).tp, (F1 T).tn⟩ = F2 := ⟨_, rfl⟩
    rw [hF2] at HA5
    have HF2 : Hid (ls9 = upd ls obj F2) := Lib.hid (by rw [HNt.out, if_pos rfl, ← hF2, ← hF1, upd_upd, upd_same])
    obtain ⟨a0, a1, a2, a3, a4, a5⟩ := box6R HN5.out
    obtain ⟨R2, hR2⟩ : ∃ R2, (lsCells F2).toArray = R2 := ⟨_, rfl⟩
    rw [hR2] at HA5
    have hRs : R2.size = 24 := by rw [← hR2, List.size_toArray, lsCells_len]
    have hSz : (Try.prog.info? 88).map (·.size) = some R2.size := by rw [hRs]; exact info_arr
    obtain ⟨u', hrun, hl', hg'⟩ := HLM5.out.put HWo.out hn F2
    simp only [lsV, hR2] at hrun
    have HL' := Lib.hid hl'
    have HG' := Lib.hid hg'
    clear hl' hg'
    go_wp2_with (refine wpList_load_row rfl 88 (.tmp 9) rfl (w.heap.size + 2) rfl 88 R2 (0, 0) _ HA5.out Try.underlying88 rfl hSz ?_)
    go_end0
    exact ⟨⟨_, rfl⟩, by rw [HF2.out]; exact HL'.out, touch_box HB5.out (Touch.grown HG'.out (fun b e => (Option.some.inj e).symm))⟩
  · have h8' : (op == 8) = false := by simpa using h8
    have HF2 : Hid (ls9 = upd ls obj F1) := Lib.hid (by rw [HNt.out, if_neg h8, ← hF1])
    obtain ⟨u', hrun, hl', hg'⟩ := HLM4.out.put HWo.out hn F1
    simp only [lsV, hR1] at hrun
    have HL' := Lib.hid hl'
    have HG' := Lib.hid hg'
    clear hl' hg'
    go_wp2_with (refine wpList_load_row rfl 88 (.tmp 9) rfl (w.heap.size + 2) rfl 88 R1 (0, 0) _ HA4.out Try.underlying88 rfl hSz ?_)
    go_end0
    exact ⟨⟨_, rfl⟩, by rw [HF2.out]; exact HL'.out, touch_box HB4.out (Touch.grown HG'.out (fun b e => (Option.some.inj e).symm))⟩
end Go.Proofs.Ytgikoajclkfoiaa
