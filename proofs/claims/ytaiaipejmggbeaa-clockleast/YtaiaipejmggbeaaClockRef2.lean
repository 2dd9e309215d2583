/- What the document's Join and Tick return; the law's same, of two that are alike. -/
import Derived.Test.YtaiaipejmggbeaaClockRef
namespace Go.Proofs.Ytaiaipejmggbeaa
set_option linter.unusedVariables false
set_option linter.unusedSimpArgs false
set_option maxRecDepth 100000
open Go.ChangeShapes Go.WideShapes Go.ChangeAt Go.RowKit

set_option maxHeartbeats 1000000 in
theorem lsame_yes (l : List Int) (a b : Option Addr) (ca cb A B : Nat) (w : World) (ha : RowOf .i64 w A a l) (hb : RowOf .i64 w B b l) (hl : l.length ≤ 1000) :
    Calls Try.prog 16 #[.slice a l.length ca, .slice b l.length cb] w fun e w' => e = .returned (.bool true) ∧ Below w.heap.size w w' := by
  have hne : ((l.length : Int) != (l.length : Int)) = false := by simp
  have HA := Lib.hid ha
  have HC := Lib.hid hb
  clear ha hb
  go_enter Try.func16, Try.ntmps16
  go_wp2
  go_loopw [5] (fun i wr => ∃ k n : Nat, k ≤ l.length ∧ i = .int .i64 k ∧ wr = w.drewN n) (fun i _ => l.length - (intOf i).toNat)
  case atStart => exact ⟨0, 0, Nat.zero_le _, rfl, rfl⟩
  case round =>
    obtain ⟨k, n, hk, rfl, rfl⟩ := hrel
    by_cases hlt : k < l.length
    · obtain ⟨x, hx⟩ := at_len hlt
      obtain ⟨b1, o1, rfl, _, hc1⟩ := HA.out k x hx
      obtain ⟨b2, o2, rfl, _, hc2⟩ := HC.out k x hx
      clear hx
      have hlt' : (k : Int) < (l.length : Int) := by omega
      have hxx : (x != x) = false := by simp
      go_wp2
      go_quiet (fail)
      go_wp2
      go_roundw
      case rel => exact ⟨k + 1, _, by omega, by go_num, rfl⟩
      case measure => simp [intOf]; omega
    · obtain rfl : k = l.length := by omega
      go_wp2
      go_ret
      exact ⟨rfl, below_draws (Below.refl _ _) n⟩

set_option maxHeartbeats 1000000 in
theorem rJoin_any (l m : List Int) (a b : Option Addr) (ca cb : Nat) (w : World) (ha : RowOf .i64 w w.heap.size a l) (hb : RowOf .i64 w w.heap.size b m) (hl : l.length ≤ 1000) (hm : m.length ≤ 1000) :
    Calls Try.prog 18 #[.slice a l.length ca, .slice b m.length cb] w fun e w' => Made w w' e (joinL l m) := by
  obtain ⟨i0, hi, hz0, hz1, hz2⟩ := info_parts info_int
  have HA := Lib.hid ha
  have HC := Lib.hid hb
  clear ha hb
  rcases Nat.lt_or_ge l.length m.length with h | h
  · have HF := Lib.hid (show joinL l m = fill m.length (fun k => max (atN l k) (atN m k)) by unfold joinL; rw [show max l.length m.length = m.length by omega])
    go_enter Try.func18, Try.ntmps18
    go_wp2_with fail
    go_loopw [5, 6] (fun v i wr => ∃ k : Nat, k ≤ m.length ∧ i = .int .i64 k ∧ Hid (wr.ownsRow w.heap.size 3 1 v k ((fill k (fun k => max (atN l k) (atN m k))).map (.int .i64 ·))) ∧ Hid (Below w.heap.size w wr)) (fun _ i _ => m.length - (intOf i).toNat)
    case atStart => exact ⟨0, Nat.zero_le _, rfl, Lib.hid (World.ownsRow_nil _ _ _ _), Lib.hid (Below.refl _ _)⟩
    case round =>
      obtain ⟨k, hk, rfl, HO, HB⟩ := hrel
      by_cases hlt : k < m.length
      · obtain ⟨x, hx⟩ : ∃ x, atN l k = x := ⟨_, rfl⟩
        obtain ⟨y, hy⟩ : ∃ y, atN m k = y := ⟨_, rfl⟩
        have HX := Lib.hid hx
        have HY := Lib.hid hy
        clear hx hy
        have HA2 := Lib.hid (HA.out.up HB.out)
        have HC2 := Lib.hid (HC.out.up HB.out)
        rcases Int.lt_or_le x y with hxy | hxy
        · go_wp2_with (first
            | (at_builtin; refine wpList_append_own _ rfl _ _ 24 rfl w.heap.size 3 i0 (.int .i64 0) 1 8 Try.underlying24 hi hz0 hz1 hz2 rfl (by decide) _ _ _ rfl (HO.out.alloc _) ⟨wr.heap.size, 0, none⟩ 1 1 [.int .i64 y] rfl rfl (cell_one_new _ _ _) (by simp [Value.oneCell']) (by unfold maxLen; omega) (by omega) (by have := HB.out.size; simp; omega) ?_; intro v' w1 hown' hgrow _; have HB' := Lib.hid (append_below HB.out HO.out hgrow); have HO' := Lib.hid hown'; clear hown' hgrow)
            | (with_reducible refine (rAt_nat m b cb _ k y wr HC2.out HY.out).mono ?_; rintro e w' ⟨rfl, rfl⟩)
            | (with_reducible refine (rAt_nat l a ca _ k x wr HA2.out HX.out).mono ?_; rintro e w' ⟨rfl, rfl⟩))
          go_roundw
          case rel => exact ⟨k + 1, by omega, by go_num, Lib.hid (by rw [← map_snoc, HX.out, HY.out, show max x y = y by omega]; exact HO'.out), HB'⟩
          case measure => simp [intOf]; omega
        · go_wp2_with (first
            | (at_builtin; refine wpList_append_own _ rfl _ _ 24 rfl w.heap.size 3 i0 (.int .i64 0) 1 8 Try.underlying24 hi hz0 hz1 hz2 rfl (by decide) _ _ _ rfl (HO.out.alloc _) ⟨wr.heap.size, 0, none⟩ 1 1 [.int .i64 x] rfl rfl (cell_one_new _ _ _) (by simp [Value.oneCell']) (by unfold maxLen; omega) (by omega) (by have := HB.out.size; simp; omega) ?_; intro v' w1 hown' hgrow _; have HB' := Lib.hid (append_below HB.out HO.out hgrow); have HO' := Lib.hid hown'; clear hown' hgrow)
            | (with_reducible refine (rAt_nat m b cb _ k y wr HC2.out HY.out).mono ?_; rintro e w' ⟨rfl, rfl⟩)
            | (with_reducible refine (rAt_nat l a ca _ k x wr HA2.out HX.out).mono ?_; rintro e w' ⟨rfl, rfl⟩))
          go_roundw
          case rel => exact ⟨k + 1, by omega, by go_num, Lib.hid (by rw [← map_snoc, HX.out, HY.out, show max x y = x by omega]; exact HO'.out), HB'⟩
          case measure => simp [intOf]; omega
      · obtain rfl : k = m.length := by omega
        go_wp2
        go_ret
        refine own_made ?_ HB.out
        rw [HF.out, fill_len]
        exact HO.out
  · have HF := Lib.hid (show joinL l m = fill l.length (fun k => max (atN l k) (atN m k)) by unfold joinL; rw [show max l.length m.length = l.length by omega])
    go_enter Try.func18, Try.ntmps18
    go_wp2_with fail
    go_loopw [5, 6] (fun v i wr => ∃ k : Nat, k ≤ l.length ∧ i = .int .i64 k ∧ Hid (wr.ownsRow w.heap.size 3 1 v k ((fill k (fun k => max (atN l k) (atN m k))).map (.int .i64 ·))) ∧ Hid (Below w.heap.size w wr)) (fun _ i _ => l.length - (intOf i).toNat)
    case atStart => exact ⟨0, Nat.zero_le _, rfl, Lib.hid (World.ownsRow_nil _ _ _ _), Lib.hid (Below.refl _ _)⟩
    case round =>
      obtain ⟨k, hk, rfl, HO, HB⟩ := hrel
      by_cases hlt : k < l.length
      · obtain ⟨x, hx⟩ : ∃ x, atN l k = x := ⟨_, rfl⟩
        obtain ⟨y, hy⟩ : ∃ y, atN m k = y := ⟨_, rfl⟩
        have HX := Lib.hid hx
        have HY := Lib.hid hy
        clear hx hy
        have HA2 := Lib.hid (HA.out.up HB.out)
        have HC2 := Lib.hid (HC.out.up HB.out)
        rcases Int.lt_or_le x y with hxy | hxy
        · go_wp2_with (first
            | (at_builtin; refine wpList_append_own _ rfl _ _ 24 rfl w.heap.size 3 i0 (.int .i64 0) 1 8 Try.underlying24 hi hz0 hz1 hz2 rfl (by decide) _ _ _ rfl (HO.out.alloc _) ⟨wr.heap.size, 0, none⟩ 1 1 [.int .i64 y] rfl rfl (cell_one_new _ _ _) (by simp [Value.oneCell']) (by unfold maxLen; omega) (by omega) (by have := HB.out.size; simp; omega) ?_; intro v' w1 hown' hgrow _; have HB' := Lib.hid (append_below HB.out HO.out hgrow); have HO' := Lib.hid hown'; clear hown' hgrow)
            | (with_reducible refine (rAt_nat m b cb _ k y wr HC2.out HY.out).mono ?_; rintro e w' ⟨rfl, rfl⟩)
            | (with_reducible refine (rAt_nat l a ca _ k x wr HA2.out HX.out).mono ?_; rintro e w' ⟨rfl, rfl⟩))
          go_roundw
          case rel => exact ⟨k + 1, by omega, by go_num, Lib.hid (by rw [← map_snoc, HX.out, HY.out, show max x y = y by omega]; exact HO'.out), HB'⟩
          case measure => simp [intOf]; omega
        · go_wp2_with (first
            | (at_builtin; refine wpList_append_own _ rfl _ _ 24 rfl w.heap.size 3 i0 (.int .i64 0) 1 8 Try.underlying24 hi hz0 hz1 hz2 rfl (by decide) _ _ _ rfl (HO.out.alloc _) ⟨wr.heap.size, 0, none⟩ 1 1 [.int .i64 x] rfl rfl (cell_one_new _ _ _) (by simp [Value.oneCell']) (by unfold maxLen; omega) (by omega) (by have := HB.out.size; simp; omega) ?_; intro v' w1 hown' hgrow _; have HB' := Lib.hid (append_below HB.out HO.out hgrow); have HO' := Lib.hid hown'; clear hown' hgrow)
            | (with_reducible refine (rAt_nat m b cb _ k y wr HC2.out HY.out).mono ?_; rintro e w' ⟨rfl, rfl⟩)
            | (with_reducible refine (rAt_nat l a ca _ k x wr HA2.out HX.out).mono ?_; rintro e w' ⟨rfl, rfl⟩))
          go_roundw
          case rel => exact ⟨k + 1, by omega, by go_num, Lib.hid (by rw [← map_snoc, HX.out, HY.out, show max x y = x by omega]; exact HO'.out), HB'⟩
          case measure => simp [intOf]; omega
      · obtain rfl : k = l.length := by omega
        go_wp2
        go_ret
        refine own_made ?_ HB.out
        rw [HF.out, fill_len]
        exact HO.out

/-- What the document's Tick fills a place with. -/
def tkF (l : List Int) (i : Int) (k : Nat) : Int := if (k : Int) = i ∧ i < 64 then wrap64 (atN l k + 1) else atN l k
theorem tk_out (l : List Int) (i : Int) (h : i < 0 ∨ 64 ≤ i) : tickL l i = fill l.length (tkF l i) := by
  rw [tick_out l i h]
  refine fill_ext rfl fun k hk => ?_
  rw [tkF, if_neg (by omega), List.getElem?_eq_getElem hk, atN_some (List.getElem?_eq_getElem hk)]
theorem tk_in (l : List Int) (q : Nat) (h : q < 64) : tickL l (q : Int) = fill (max l.length (q + 1)) (tkF l q) := by
  rw [tick_nat l q h]
  refine fill_ext (tickN_len l q) fun k hk => ?_
  rw [tickN, fill_get _ _ _ hk, tkF]
  by_cases hkq : k = q
  · rw [if_pos hkq, if_pos ⟨by omega, by omega⟩]
  · rw [if_neg hkq, if_neg (by omega)]

set_option maxHeartbeats 2000000 in
theorem rTick_any (l : List Int) (a : Option Addr) (cap : Nat) (i : Int) (w : World) (ha : RowOf .i64 w w.heap.size a l) (hl : l.length ≤ 900) :
    Calls Try.prog 19 #[.slice a l.length cap, .int .i64 i] w fun e w' => Made w w' e (tickL l i) := by
  obtain ⟨i0, hi, hz0, hz1, hz2⟩ := info_parts info_int
  have HA := Lib.hid ha
  clear ha
  have hcase : i < 0 ∨ 64 ≤ i ∨ ∃ q : Nat, i = q ∧ q < 64 ∧ (l.length < q + 1 ∨ q + 1 ≤ l.length) := by
    by_cases h0 : i < 0
    · exact .inl h0
    · by_cases h1 : 64 ≤ i
      · exact .inr (.inl h1)
      · exact .inr (.inr ⟨i.toNat, by omega, by omega, by omega⟩)
  rcases hcase with h0 | h0 | ⟨q, rfl, hq, h0 | h0⟩
  · have HF := Lib.hid (show tickL l i = fill l.length (tkF l i) from tk_out l i (.inl h0))
    go_enter Try.func19, Try.ntmps19
    go_wp2_with fail
    go_loopw [6, 7] (fun v i' wr => ∃ k : Nat, k ≤ l.length ∧ i' = .int .i64 k ∧ Hid (wr.ownsRow w.heap.size 3 1 v k ((fill k (tkF l i)).map (.int .i64 ·))) ∧ Hid (Below w.heap.size w wr)) (fun _ i' _ => l.length - (intOf i').toNat)
    case atStart => exact ⟨0, Nat.zero_le _, rfl, Lib.hid (World.ownsRow_nil _ _ _ _), Lib.hid (Below.refl _ _)⟩
    case round =>
      obtain ⟨k, hk, rfl, HO, HB⟩ := hrel
      by_cases hlt : k < l.length
      · obtain ⟨x, hx⟩ : ∃ x, atN l k = x := ⟨_, rfl⟩
        have HX := Lib.hid hx
        clear hx
        have HA2 := Lib.hid (HA.out.up HB.out)
        have hki : ¬ (k : Int) = i := by omega
        have hkb : ((k : Int) == i) = false := by simp; omega
        have HT := Lib.hid (show tkF l i k = x by rw [tkF, if_neg (by omega), HX.out])
        go_wp2_with (first
          | (at_builtin; refine wpList_append_own _ rfl _ _ 24 rfl w.heap.size 3 i0 (.int .i64 0) 1 8 Try.underlying24 hi hz0 hz1 hz2 rfl (by decide) _ _ _ rfl (HO.out.alloc _) ⟨wr.heap.size, 0, none⟩ 1 1 [.int .i64 x] rfl rfl (cell_one_new _ _ _) (by simp [Value.oneCell']) (by unfold maxLen; omega) (by omega) (by have := HB.out.size; simp; omega) ?_; intro v' w1 hown' hgrow _; have HB' := Lib.hid (append_below HB.out HO.out hgrow); have HO' := Lib.hid hown'; clear hown' hgrow)
          | (with_reducible refine (rAt_nat l a cap _ k x wr HA2.out HX.out).mono ?_; rintro e w' ⟨rfl, rfl⟩))
        go_roundw
        case rel => exact ⟨k + 1, by omega, by go_num, Lib.hid (by rw [← map_snoc, HT.out]; exact HO'.out), HB'⟩
        case measure => simp [intOf] <;> omega
      · obtain rfl : k = l.length := by omega
        go_wp2
        go_ret
        refine own_made ?_ HB.out
        rw [HF.out, fill_len]
        exact HO.out
  · have HF := Lib.hid (show tickL l i = fill l.length (tkF l i) from tk_out l i (.inr h0))
    go_enter Try.func19, Try.ntmps19
    go_wp2_with fail
    go_loopw [6, 7] (fun v i' wr => ∃ k : Nat, k ≤ l.length ∧ i' = .int .i64 k ∧ Hid (wr.ownsRow w.heap.size 3 1 v k ((fill k (tkF l i)).map (.int .i64 ·))) ∧ Hid (Below w.heap.size w wr)) (fun _ i' _ => l.length - (intOf i').toNat)
    case atStart => exact ⟨0, Nat.zero_le _, rfl, Lib.hid (World.ownsRow_nil _ _ _ _), Lib.hid (Below.refl _ _)⟩
    case round =>
      obtain ⟨k, hk, rfl, HO, HB⟩ := hrel
      by_cases hlt : k < l.length
      · obtain ⟨x, hx⟩ : ∃ x, atN l k = x := ⟨_, rfl⟩
        have HX := Lib.hid hx
        clear hx
        have HA2 := Lib.hid (HA.out.up HB.out)
        by_cases hki : (k : Int) = i
        · subst hki
          have HT := Lib.hid (show tkF l k k = x by rw [tkF, if_neg (by omega), HX.out])
          go_wp2_with (first
            | (at_builtin; refine wpList_append_own _ rfl _ _ 24 rfl w.heap.size 3 i0 (.int .i64 0) 1 8 Try.underlying24 hi hz0 hz1 hz2 rfl (by decide) _ _ _ rfl (HO.out.alloc _) ⟨wr.heap.size, 0, none⟩ 1 1 [.int .i64 x] rfl rfl (cell_one_new _ _ _) (by simp [Value.oneCell']) (by unfold maxLen; omega) (by omega) (by have := HB.out.size; simp; omega) ?_; intro v' w1 hown' hgrow _; have HB' := Lib.hid (append_below HB.out HO.out hgrow); have HO' := Lib.hid hown'; clear hown' hgrow)
            | (with_reducible refine (rAt_nat l a cap _ k x wr HA2.out HX.out).mono ?_; rintro e w' ⟨rfl, rfl⟩))
          go_roundw
          case rel => exact ⟨k + 1, by omega, by go_num, Lib.hid (by rw [← map_snoc, HT.out]; exact HO'.out), HB'⟩
          case measure => simp [intOf] <;> omega
        · have hkb : ((k : Int) == i) = false := by simp; omega
          have HT := Lib.hid (show tkF l i k = x by rw [tkF, if_neg (by omega), HX.out])
          go_wp2_with (first
            | (at_builtin; refine wpList_append_own _ rfl _ _ 24 rfl w.heap.size 3 i0 (.int .i64 0) 1 8 Try.underlying24 hi hz0 hz1 hz2 rfl (by decide) _ _ _ rfl (HO.out.alloc _) ⟨wr.heap.size, 0, none⟩ 1 1 [.int .i64 x] rfl rfl (cell_one_new _ _ _) (by simp [Value.oneCell']) (by unfold maxLen; omega) (by omega) (by have := HB.out.size; simp; omega) ?_; intro v' w1 hown' hgrow _; have HB' := Lib.hid (append_below HB.out HO.out hgrow); have HO' := Lib.hid hown'; clear hown' hgrow)
            | (with_reducible refine (rAt_nat l a cap _ k x wr HA2.out HX.out).mono ?_; rintro e w' ⟨rfl, rfl⟩))
          go_roundw
          case rel => exact ⟨k + 1, by omega, by go_num, Lib.hid (by rw [← map_snoc, HT.out]; exact HO'.out), HB'⟩
          case measure => simp [intOf] <;> omega
      · obtain rfl : k = l.length := by omega
        go_wp2
        go_ret
        refine own_made ?_ HB.out
        rw [HF.out, fill_len]
        exact HO.out
  · have HF := Lib.hid (show tickL l q = fill (q + 1) (tkF l q) from (tk_in l q hq).trans (by rw [show max l.length (q + 1) = q + 1 by omega]))
    have hq' : (q : Int) < 64 := by omega
    go_enter Try.func19, Try.ntmps19
    go_wp2_with fail
    go_loopw [6, 7] (fun v i' wr => ∃ k : Nat, k ≤ (q + 1) ∧ i' = .int .i64 k ∧ Hid (wr.ownsRow w.heap.size 3 1 v k ((fill k (tkF l q)).map (.int .i64 ·))) ∧ Hid (Below w.heap.size w wr)) (fun _ i' _ => (q + 1) - (intOf i').toNat)
    case atStart => exact ⟨0, Nat.zero_le _, rfl, Lib.hid (World.ownsRow_nil _ _ _ _), Lib.hid (Below.refl _ _)⟩
    case round =>
      obtain ⟨k, hk, rfl, HO, HB⟩ := hrel
      by_cases hlt : k < (q + 1)
      · obtain ⟨x, hx⟩ : ∃ x, atN l k = x := ⟨_, rfl⟩
        have HX := Lib.hid hx
        clear hx
        have HA2 := Lib.hid (HA.out.up HB.out)
        by_cases hki : k = q
        · subst hki
          have HT := Lib.hid (show tkF l k k = (wrap64 (x + 1)) by rw [tkF, if_pos ⟨rfl, by omega⟩, HX.out])
          go_wp2_with (first
            | (at_builtin; refine wpList_append_own _ rfl _ _ 24 rfl w.heap.size 3 i0 (.int .i64 0) 1 8 Try.underlying24 hi hz0 hz1 hz2 rfl (by decide) _ _ _ rfl (HO.out.alloc _) ⟨wr.heap.size, 0, none⟩ 1 1 [.int .i64 (wrap64 (x + 1))] rfl rfl (cell_one_new _ _ _) (by simp [Value.oneCell']) (by unfold maxLen; omega) (by omega) (by have := HB.out.size; simp; omega) ?_; intro v' w1 hown' hgrow _; have HB' := Lib.hid (append_below HB.out HO.out hgrow); have HO' := Lib.hid hown'; clear hown' hgrow)
            | (with_reducible refine (rAt_nat l a cap _ k x wr HA2.out HX.out).mono ?_; rintro e w' ⟨rfl, rfl⟩))
          go_roundw
          case rel => exact ⟨k + 1, by omega, by go_num, Lib.hid (by rw [← map_snoc, HT.out]; exact HO'.out), HB'⟩
          case measure => simp [intOf] <;> omega
        · have hkb : ((k : Int) == (q : Int)) = false := by simp; omega
          have hkc : ¬ (k : Int) = (q : Int) := by omega
          have HT := Lib.hid (show tkF l q k = x by rw [tkF, if_neg (by omega), HX.out])
          go_wp2_with (first
            | (at_builtin; refine wpList_append_own _ rfl _ _ 24 rfl w.heap.size 3 i0 (.int .i64 0) 1 8 Try.underlying24 hi hz0 hz1 hz2 rfl (by decide) _ _ _ rfl (HO.out.alloc _) ⟨wr.heap.size, 0, none⟩ 1 1 [.int .i64 x] rfl rfl (cell_one_new _ _ _) (by simp [Value.oneCell']) (by unfold maxLen; omega) (by omega) (by have := HB.out.size; simp; omega) ?_; intro v' w1 hown' hgrow _; have HB' := Lib.hid (append_below HB.out HO.out hgrow); have HO' := Lib.hid hown'; clear hown' hgrow)
            | (with_reducible refine (rAt_nat l a cap _ k x wr HA2.out HX.out).mono ?_; rintro e w' ⟨rfl, rfl⟩))
          go_roundw
          case rel => exact ⟨k + 1, by omega, by go_num, Lib.hid (by rw [← map_snoc, HT.out]; exact HO'.out), HB'⟩
          case measure => simp [intOf] <;> omega
      · obtain rfl : k = (q + 1) := by omega
        go_wp2
        go_ret
        refine own_made ?_ HB.out
        rw [HF.out, fill_len]
        exact HO.out
  · have HF := Lib.hid (show tickL l q = fill l.length (tkF l q) from (tk_in l q hq).trans (by rw [show max l.length (q + 1) = l.length by omega]))
    have hq' : (q : Int) < 64 := by omega
    go_enter Try.func19, Try.ntmps19
    go_wp2_with fail
    go_loopw [6, 7] (fun v i' wr => ∃ k : Nat, k ≤ l.length ∧ i' = .int .i64 k ∧ Hid (wr.ownsRow w.heap.size 3 1 v k ((fill k (tkF l q)).map (.int .i64 ·))) ∧ Hid (Below w.heap.size w wr)) (fun _ i' _ => l.length - (intOf i').toNat)
    case atStart => exact ⟨0, Nat.zero_le _, rfl, Lib.hid (World.ownsRow_nil _ _ _ _), Lib.hid (Below.refl _ _)⟩
    case round =>
      obtain ⟨k, hk, rfl, HO, HB⟩ := hrel
      by_cases hlt : k < l.length
      · obtain ⟨x, hx⟩ : ∃ x, atN l k = x := ⟨_, rfl⟩
        have HX := Lib.hid hx
        clear hx
        have HA2 := Lib.hid (HA.out.up HB.out)
        by_cases hki : k = q
        · subst hki
          have HT := Lib.hid (show tkF l k k = (wrap64 (x + 1)) by rw [tkF, if_pos ⟨rfl, by omega⟩, HX.out])
          go_wp2_with (first
            | (at_builtin; refine wpList_append_own _ rfl _ _ 24 rfl w.heap.size 3 i0 (.int .i64 0) 1 8 Try.underlying24 hi hz0 hz1 hz2 rfl (by decide) _ _ _ rfl (HO.out.alloc _) ⟨wr.heap.size, 0, none⟩ 1 1 [.int .i64 (wrap64 (x + 1))] rfl rfl (cell_one_new _ _ _) (by simp [Value.oneCell']) (by unfold maxLen; omega) (by omega) (by have := HB.out.size; simp; omega) ?_; intro v' w1 hown' hgrow _; have HB' := Lib.hid (append_below HB.out HO.out hgrow); have HO' := Lib.hid hown'; clear hown' hgrow)
            | (with_reducible refine (rAt_nat l a cap _ k x wr HA2.out HX.out).mono ?_; rintro e w' ⟨rfl, rfl⟩))
          go_roundw
          case rel => exact ⟨k + 1, by omega, by go_num, Lib.hid (by rw [← map_snoc, HT.out]; exact HO'.out), HB'⟩
          case measure => simp [intOf] <;> omega
        · have hkb : ((k : Int) == (q : Int)) = false := by simp; omega
          have hkc : ¬ (k : Int) = (q : Int) := by omega
          have HT := Lib.hid (show tkF l q k = x by rw [tkF, if_neg (by omega), HX.out])
          go_wp2_with (first
            | (at_builtin; refine wpList_append_own _ rfl _ _ 24 rfl w.heap.size 3 i0 (.int .i64 0) 1 8 Try.underlying24 hi hz0 hz1 hz2 rfl (by decide) _ _ _ rfl (HO.out.alloc _) ⟨wr.heap.size, 0, none⟩ 1 1 [.int .i64 x] rfl rfl (cell_one_new _ _ _) (by simp [Value.oneCell']) (by unfold maxLen; omega) (by omega) (by have := HB.out.size; simp; omega) ?_; intro v' w1 hown' hgrow _; have HB' := Lib.hid (append_below HB.out HO.out hgrow); have HO' := Lib.hid hown'; clear hown' hgrow)
            | (with_reducible refine (rAt_nat l a cap _ k x wr HA2.out HX.out).mono ?_; rintro e w' ⟨rfl, rfl⟩))
          go_roundw
          case rel => exact ⟨k + 1, by omega, by go_num, Lib.hid (by rw [← map_snoc, HT.out]; exact HO'.out), HB'⟩
          case measure => simp [intOf] <;> omega
      · obtain rfl : k = l.length := by omega
        go_wp2
        go_ret
        refine own_made ?_ HB.out
        rw [HF.out, fill_len]
        exact HO.out
end Go.Proofs.Ytaiaipejmggbeaa
