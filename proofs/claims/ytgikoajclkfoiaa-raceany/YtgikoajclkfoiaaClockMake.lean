/- What the calls of package clock make: a copy, the join, one more. -/
import Derived.Test.YtgikoajclkfoiaaClockWalks
import Derived.Test.YtgikoajclkfoiaaOwnBase
import Derived.Laws.CopyOwn
import Derived.OwnWalk
import Derived.Deep.RegionHeld3
namespace Go.Proofs.Ytgikoajclkfoiaa
set_option linter.unusedVariables false
set_option linter.unusedSimpArgs false
set_option maxRecDepth 100000
open Go.ChangeShapes Go.WideShapes Go.ChangeAt Go.RowKit

theorem made_int (n : Nat) : (madeCells (Value.int .i64 0).cells (n * 1)).toList = List.replicate n (Value.int .i64 0) := by rw [Nat.mul_one]; exact toList_madeCells_one _ _
theorem hsz_int : (Try.prog.info? 3).map (·.size) = some 1 := by kernel_rfl
theorem splice_pad (l : List Int) (n N : Nat) (hN : N = max l.length n) : splice (List.replicate N (Value.int .i64 0)) 0 (l.map (.int .i64 ·)) = (padL l n).map (.int .i64 ·) := by
  apply List.ext_getElem?
  intro k
  unfold splice
  rw [List.take_zero, List.nil_append, List.length_map, Nat.zero_add, List.getElem?_map]
  by_cases h : k < l.length
  · rw [List.getElem?_append_left (by simpa using h), List.getElem?_map, padL, fill_get _ _ _ (by omega), List.getElem?_eq_getElem h, Option.map_some, Option.map_some, atN_some (List.getElem?_eq_getElem h)]
  · rw [List.getElem?_append_right (by simp; omega), List.length_map, List.getElem?_drop]
    by_cases h2 : k < max l.length n
    · rw [padL, fill_get _ _ _ h2, atN_past (by omega), List.getElem?_replicate, if_pos (by omega)]; rfl
    · rw [padL, List.getElem?_eq_none (l := fill _ _) (by rw [fill_len]; omega), List.getElem?_replicate, if_neg (by omega)]; rfl
theorem own_raw {w : World} {g n : Nat} {xs : List Value} {B : Nat} {t : TypeId} (hB : B ≤ g) (hg : w.heap[g]? = some (.cells xs.toArray t (0, 0))) (hn : xs.length = n) (hm : n ≤ maxLen) : w.ownsRow B t 1 (.slice (some ⟨g, 0, none⟩) n n) n xs :=
  ⟨by omega, .inr ⟨g, n, xs.toArray, rfl, hB, hg, Nat.le_refl _, hm, by simp [hn], by simp [← hn]⟩⟩

theorem raw_own {w : World} {g n : Nat} {xs : List Value} {B : Nat} {t : TypeId} (h : w.ownsRow B t 1 (.slice (some ⟨g, 0, none⟩) n n) n xs) : w.heap[g]? = some (.cells xs.toArray t (0, 0)) := by
  rcases h.2 with ⟨e, _⟩ | ⟨g', cap, cur, e, _, hg, _, _, hs, ht⟩
  · cases e
  · cases e
    rw [List.take_of_length_le (by simp [hs])] at ht
    rw [hg, ← ht]
theorem below_made {w w1 : World} (h : w.grownBy w1 none) : Below w.heap.size w w1 := (Below.refl _ w).grown h (Nat.le_refl _) (by intro k hk; cases hk)
theorem row_cells {w w' : World} {a : Option Addr} {l : List Int} (h : RowOf .i64 w w.heap.size a l) (hB : Below w.heap.size w w') (h0 : 0 < (l.map (Value.int .i64 ·)).length) : ∃ ad, a = some ad ∧ ∀ j v, (l.map (Value.int .i64 ·))[j]? = some v → w'.cell? (ad.add j) = some v := by
  obtain ⟨x, hx⟩ := at_len (l := l) (k := 0) (by simpa using h0)
  obtain ⟨b, off, rfl, hb, hc⟩ := h 0 x hx
  refine ⟨_, rfl, fun j v hv => ?_⟩
  rw [List.getElem?_map] at hv
  cases hy : l[j]? with
  | none => rw [hy] at hv; cases hv
  | some y =>
    rw [hy] at hv
    cases hv
    obtain ⟨b', off', e, hb', hc'⟩ := h j y hy
    cases e
    rw [Addr.add_mid]
    exact (hB.cell (p := ⟨b, off + j, none⟩) hb').trans hc'

set_option maxHeartbeats 400000 in
theorem copied_any (l : List Int) (a : Option Addr) (cap n : Nat) (w : World) (ha : RowOf .i64 w w.heap.size a l) (hl : l.length ≤ 1000) (hn : n ≤ 1000) :
    Calls Try.prog 50 #[.slice a l.length cap, .int .i64 n] w fun e w' => ∃ g L, Hid (L = padL l n) ∧ e = .returned (.slice (some ⟨g, 0, none⟩) L.length L.length) ∧ w'.ownsRow w.heap.size 3 1 (.slice (some ⟨g, 0, none⟩) L.length L.length) L.length (L.map (.int .i64 ·)) ∧ Below w.heap.size w w' := by
  obtain ⟨i0, hi, hz0, hz1, hz2⟩ := info_parts info_intT
  have HA := Lib.hid ha
  clear ha
  rcases Nat.lt_or_ge l.length n with h | h
  · have HM := Lib.hid (show Nat.min l.length n = l.length from Nat.min_eq_left (by omega))
    have HX := Lib.hid (splice_pad l n n (by omega))
    have HL := Lib.hid (show (padL l n).length = n by rw [pad_len]; omega)
    have HF := Lib.hid (show 0 + (l.map (Value.int .i64 ·)).length ≤ (List.replicate n (Value.int .i64 0)).length by simp; omega)
    go_enter Try.func50, Try.ntmps50
    go_wp2_with (first
      | (have _ := HG; refine wpList_copy_splice rfl _ _ 29 29 rfl 3 Try.underlying29 hsz_int (some ⟨w.heap.size, 0, none⟩) a n n l.length cap rfl rfl w.heap.size 0 (List.replicate n (.int .i64 0)) 3 HG.out (l.map (.int .i64 ·)) ((List.length_map _).trans HM.out.symm) (fun h0 => ⟨rfl, row_cells HA.out HB1.out h0⟩) HF.out (ints_one l) w.heap.size w HB1.out (Nat.le_refl _) ?_; intro w2 hg2 hB2)
      | (refine wpList_make_full _ rfl _ _ 29 rfl w.heap.size 3 i0 _ 1 Try.underlying29 hi hz0 hz1 .i64 .i64 _ _ n rfl rfl rfl rfl (by rw [hz2]; omega) (by unfold maxLen; omega) (Nat.le_refl _) ?_; intro w1 hown hgrow; have HG := Lib.hid (raw_own hown); rw [made_int] at HG; have HB1 := Lib.hid (below_made hgrow); clear hown hgrow))
    go_ret
    refine ⟨w.heap.size, padL l n, Lib.hid rfl, by rw [HL.out]; rfl, ?_, hB2⟩
    rw [HL.out]
    have q := hg2.out
    rw [HX.out] at q
    exact own_raw (Nat.le_refl _) q (by rw [List.length_map, HL.out]) (by unfold maxLen; omega)
  · have HM := Lib.hid (show Nat.min l.length l.length = l.length from Nat.min_eq_left (by omega))
    have HX := Lib.hid (splice_pad l n l.length (by omega))
    have HL := Lib.hid (show (padL l n).length = l.length by rw [pad_len]; omega)
    have HF := Lib.hid (show 0 + (l.map (Value.int .i64 ·)).length ≤ (List.replicate l.length (Value.int .i64 0)).length by simp)
    go_enter Try.func50, Try.ntmps50
    go_wp2_with (first
      | (have _ := HG; refine wpList_copy_splice rfl _ _ 29 29 rfl 3 Try.underlying29 hsz_int (some ⟨w.heap.size, 0, none⟩) a l.length l.length l.length cap rfl rfl w.heap.size 0 (List.replicate l.length (.int .i64 0)) 3 HG.out (l.map (.int .i64 ·)) ((List.length_map _).trans HM.out.symm) (fun h0 => ⟨rfl, row_cells HA.out HB1.out h0⟩) HF.out (ints_one l) w.heap.size w HB1.out (Nat.le_refl _) ?_; intro w2 hg2 hB2)
      | (refine wpList_make_full _ rfl _ _ 29 rfl w.heap.size 3 i0 _ 1 Try.underlying29 hi hz0 hz1 .i64 .i64 _ _ l.length rfl rfl rfl rfl (by rw [hz2]; omega) (by unfold maxLen; omega) (Nat.le_refl _) ?_; intro w1 hown hgrow; have HG := Lib.hid (raw_own hown); rw [made_int] at HG; have HB1 := Lib.hid (below_made hgrow); clear hown hgrow))
    go_ret
    refine ⟨w.heap.size, padL l n, Lib.hid rfl, by rw [HL.out]; rfl, ?_, hB2⟩
    rw [HL.out]
    have q := hg2.out
    rw [HX.out] at q
    exact own_raw (Nat.le_refl _) q (by rw [List.length_map, HL.out]) (by unfold maxLen; omega)
end Go.Proofs.Ytgikoajclkfoiaa
