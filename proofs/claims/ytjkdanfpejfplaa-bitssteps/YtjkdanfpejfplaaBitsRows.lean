/- What the calls of package bits over lists return (among, With, Without), and the document's own (With, Without, All, List, First, Same), for every list of at most 1000 numbers. -/
import Derived.Test.YtjkdanfpejfplaaBitsWalks1
import Derived.Test.YtjkdanfpejfplaaLawKit
import Derived.Test.YtjkdanfpejfplaaBitsMath2
import Derived.Test.YtjkdanfpejfplaaBitsRange
import Derived.RegionTactic
import Derived.ChangeAlike
import Derived.Deep.QuietTactic
import Derived.BigQuiet
import Derived.Laws.OwnMore
namespace Go.Proofs.Ytjkdanfpejfplaa
set_option linter.unusedVariables false
set_option linter.unusedSimpArgs false
open Go.RowKit

theorem RowOf.nil (k : IntKind) (w : World) (B : Nat) (a : Option Addr) : RowOf k w B a [] := fun i x h => by simp at h
theorem RowOf.below {k : IntKind} {w w' : World} {B : Nat} {a : Option Addr} {l : List Int} (h : RowOf k w B a l) (hb : Below B w w') : RowOf k w' B a l := fun i x hx => by
  obtain ⟨b, off, rfl, hlt, hc⟩ := h i x hx
  exact ⟨b, off, rfl, hlt, (hb.cell (p := ⟨b, off + i, none⟩) hlt).trans hc⟩
theorem RowOf.more {k : IntKind} {w : World} {B B' : Nat} {a : Option Addr} {l : List Int} (h : RowOf k w B a l) (hb : B ≤ B') : RowOf k w B' a l := fun i x hx => by
  obtain ⟨b, off, rfl, hlt, hc⟩ := h i x hx
  exact ⟨b, off, rfl, by omega, hc⟩
theorem RowOf.own {k : IntKind} {w : World} {base : Nat} {e : TypeId} {v : Value} {n : Nat} {l : List Int} (h : w.ownsRow base e 1 v n (l.map (Value.int k))) :
    ∃ a cap, v = .slice a n cap ∧ n = l.length ∧ RowOf k w w.heap.size a l := by
  have hl : l.length = n := by have := h.1; simpa using this
  rcases h.2 with ⟨rfl, hn⟩ | ⟨g, cap, cur, rfl, hg, hh, hn, hcap, hsz, htake⟩
  · subst hn
    obtain rfl : l = [] := List.eq_nil_of_length_eq_zero hl
    exact ⟨none, 0, rfl, rfl, RowOf.nil _ _ _ _⟩
  · refine ⟨some ⟨g, 0, none⟩, cap, rfl, hl.symm, fun i x hx => ⟨g, 0, rfl, (Array.getElem?_eq_some_iff.1 hh).1, ?_⟩⟩
    have hi : i < l.length := by
      rcases Nat.lt_or_ge i l.length with h | h
      · exact h
      · rw [List.getElem?_eq_none h] at hx; cases hx
    rw [Nat.zero_add, h.cellAt i (by omega), List.getElem?_map, hx]
    rfl
theorem at_len {l : List Int} {k : Nat} (h : k < l.length) : ∃ x, l[k]? = some x := ⟨_, List.getElem?_eq_getElem h⟩

theorem append_below {w wr w1 : World} {e : TypeId} {v : Value} {n : Nat} {xs : List Value} {o : Obj} (hB : Below w.heap.size w wr) (hrow : wr.ownsRow w.heap.size e 1 v n xs) (hgrow : (wr.alloc o).grownBy w1 v.ownBlock) : Below w.heap.size w w1 := by
  refine (hB.alloc hB.size o).grown hgrow (by have := hB.size; simp; omega) fun j ej => ?_
  rcases hrow.2 with ⟨rfl, _⟩ | ⟨g, cap, cur, rfl, hb, _, _⟩
  · simp [Value.ownBlock] at ej
  · obtain rfl : g = j := by simpa [Value.ownBlock] using ej
    exact hb

set_option maxHeartbeats 400000 in
theorem among_any (a : Option Addr) (cap : Nat) (l : List Int) (B : Nat) (w : World) (hr : RowOf .i64 w B a l) (hl : l.length ≤ 1000) :
    Calls Try.prog 26 #[.slice a l.length cap] w fun e w' => e = .returned (.int .u64 (putN 0 l : Nat)) ∧ w = w' := by
  go_enter Try.func26, Try.ntmps26
  go_wp2
  go_loop [3, 8] (fun s i => ∃ k A : Nat, k ≤ l.length ∧ i = .int .i64 k ∧ s = .int .u64 A ∧ A = putN 0 (l.take k)) (fun _ i => l.length - (intOf i).toNat)
  case atStart => exact ⟨0, 0, Nat.zero_le _, rfl, rfl, rfl⟩
  case round =>
    obtain ⟨k, A, hk, rfl, rfl, hA⟩ := hrel
    have hAU : A < U := by rw [hA]; exact putN_lt _ _ (by decide)
    by_cases hlt : k < l.length
    · obtain ⟨x, hx⟩ := at_len hlt
      obtain ⟨b, off, rfl, hb, hc⟩ := hr k x hx
      have HX := Lib.hid (show putN 0 (l.take (k + 1)) = stepN A x by rw [take_more hx, putN_snoc, ← hA])
      clear hA hx
      by_cases hf : 0 ≤ x ∧ x < 64
      · obtain ⟨h0, h1⟩ := hf
        have HO := Lib.hid (or_eq A x hAU h0 h1)
        go_wp2_with (first
          | (go_at_call 27; refine (fits_yes x _ h0 h1).mono ?_; rintro e w' ⟨rfl, rfl⟩)
          | (go_at_call 28; refine (one_any x _ h0 h1).mono ?_; rintro e w' ⟨rfl, rfl⟩))
        go_round
        case rel => exact ⟨k + 1, stepN A x, by omega, by go_num, by rw [HO.out], HX.out.symm⟩
        case measure => simp [intOf]; omega
      · have HO := Lib.hid (stepN_no A x hf)
        have hn : x < 0 ∨ 64 ≤ x := by omega
        clear hf
        go_wp2_with (go_at_call 27; refine (fits_no x _ hn).mono ?_; rintro e w' ⟨rfl, rfl⟩)
        go_round
        case rel => exact ⟨k + 1, A, by omega, by go_num, rfl, by rw [HX.out, HO.out]⟩
        case measure => simp [intOf]; omega
    · obtain rfl : k = l.length := by omega
      have HA := Lib.hid (show A = putN 0 l by rw [hA, List.take_length])
      clear hA
      go_wp2
      go_ret
      exact ⟨ret_int (by rw [← HA.out]), rfl⟩

set_option maxHeartbeats 400000 in
theorem with_any (s : Nat) (a : Option Addr) (cap : Nat) (l : List Int) (B : Nat) (w : World) (hs : s < U) (hr : RowOf .i64 w B a l) (hl : l.length ≤ 1000) :
    Calls Try.prog 12 #[.int .u64 s, .slice a l.length cap] w fun e w' => e = .returned (.int .u64 (putN s l : Nat)) ∧ w = w' := by
  have H := Lib.hid (with_eq s l hs)
  go_enter Try.func12, Try.ntmps12
  go_wp2_with (go_at_call 26; refine (among_any a cap l B _ hr hl).mono ?_; rintro e w' ⟨rfl, rfl⟩)
  go_ret
  exact ⟨ret_int H.out, rfl⟩

set_option maxHeartbeats 400000 in
theorem without_any (s : Nat) (a : Option Addr) (cap : Nat) (l : List Int) (B : Nat) (w : World) (hs : s < U) (hr : RowOf .i64 w B a l) (hl : l.length ≤ 1000) :
    Calls Try.prog 13 #[.int .u64 s, .slice a l.length cap] w fun e w' => e = .returned (.int .u64 (cutN s l : Nat)) ∧ w = w' := by
  have H := Lib.hid (without_eq s l hs)
  go_enter Try.func13, Try.ntmps13
  go_wp2_with (go_at_call 26; refine (among_any a cap l B _ hr hl).mono ?_; rintro e w' ⟨rfl, rfl⟩)
  go_ret
  exact ⟨ret_int H.out, rfl⟩

theorem refHas_true (s : Nat) (i : Int) (w : World) (hs : s < U) (h : hasB s i = true) :
    Calls Try.prog 21 #[.int .u64 s, .int .i64 i] w fun e w' => e = .returned (.bool true) ∧ w = w' := by
  have := refHas_any s i w hs
  rwa [h] at this
theorem refHas_false (s : Nat) (i : Int) (w : World) (hs : s < U) (h : hasB s i = false) :
    Calls Try.prog 21 #[.int .u64 s, .int .i64 i] w fun e w' => e = .returned (.bool false) ∧ w = w' := by
  have := refHas_any s i w hs
  rwa [h] at this

set_option maxHeartbeats 800000 in
theorem refWith_any (s : Nat) (a : Option Addr) (cap : Nat) (l : List Int) (B : Nat) (w : World) (hs : s < U) (hr : RowOf .i64 w B a l) (hl : l.length ≤ 1000) :
    Calls Try.prog 23 #[.int .u64 s, .slice a l.length cap] w fun e w' => e = .returned (.int .u64 (putN s l : Nat)) ∧ w = w' := by
  go_enter Try.func23, Try.ntmps23
  go_wp2
  go_loop [0, 5] (fun s' i => ∃ k A : Nat, k ≤ l.length ∧ i = .int .i64 k ∧ s' = .int .u64 A ∧ A = putN s (l.take k)) (fun _ i => l.length - (intOf i).toNat)
  case atStart => exact ⟨0, s, Nat.zero_le _, rfl, rfl, rfl⟩
  case round =>
    obtain ⟨k, A, hk, rfl, rfl, hA⟩ := hrel
    have hAU : A < U := by rw [hA]; exact putN_lt _ _ hs
    by_cases hlt : k < l.length
    · obtain ⟨x, hx⟩ := at_len hlt
      obtain ⟨b, off, rfl, hb, hc⟩ := hr k x hx
      have HX := Lib.hid (show putN s (l.take (k + 1)) = stepN A x by rw [take_more hx, putN_snoc, ← hA])
      clear hA hx
      by_cases hf : 0 ≤ x ∧ x < 64
      · obtain ⟨h0, h1⟩ := hf
        cases hh : hasB A x
        · have HH := Lib.hid hh
          have HO := Lib.hid (add_eq A x hAU h0 h1 hh)
          clear hh
          go_wp2_with (first
            | (go_at_call 21; refine (refHas_false A x _ hAU HH.out).mono ?_; rintro e w' ⟨rfl, rfl⟩)
            | (go_at_call 30; refine (two_any x _ h0 h1).mono ?_; rintro e w' ⟨rfl, rfl⟩))
          go_round
          case rel => exact ⟨k + 1, stepN A x, by omega, by go_num, by rw [HO.out], HX.out.symm⟩
          case measure => simp [intOf]; omega
        · have HH := Lib.hid hh
          have HO := Lib.hid (add_none A x h0 h1 hh)
          clear hh
          go_wp2_with (go_at_call 21; refine (refHas_true A x _ hAU HH.out).mono ?_; rintro e w' ⟨rfl, rfl⟩)
          go_round
          case rel => exact ⟨k + 1, A, by omega, by go_num, rfl, by rw [HX.out, HO.out]⟩
          case measure => simp [intOf]; omega
      · have HO := Lib.hid (stepN_no A x hf)
        by_cases h0 : 0 ≤ x
        · have h1 : 64 ≤ x := by omega
          have hd : decide (x < 64) = false := by simp; omega
          clear hf
          go_wp2
          go_round
          case rel => exact ⟨k + 1, A, by omega, by go_num, rfl, by rw [HX.out, HO.out]⟩
          case measure => simp [intOf]; omega
        · have h1 : x < 0 := by omega
          have hd : decide (0 ≤ x) = false := by simp; omega
          clear hf h0
          go_wp2
          go_round
          case rel => exact ⟨k + 1, A, by omega, by go_num, rfl, by rw [HX.out, HO.out]⟩
          case measure => simp [intOf]; omega
    · obtain rfl : k = l.length := by omega
      have HA := Lib.hid (show A = putN s l by rw [hA, List.take_length])
      clear hA
      go_wp2
      go_ret
      exact ⟨ret_int (by rw [← HA.out]), rfl⟩

set_option maxHeartbeats 800000 in
theorem refWithout_any (s : Nat) (a : Option Addr) (cap : Nat) (l : List Int) (B : Nat) (w : World) (hs : s < U) (hr : RowOf .i64 w B a l) (hl : l.length ≤ 1000) :
    Calls Try.prog 24 #[.int .u64 s, .slice a l.length cap] w fun e w' => e = .returned (.int .u64 (cutN s l : Nat)) ∧ w = w' := by
  go_enter Try.func24, Try.ntmps24
  go_wp2
  go_loop [0, 5] (fun s' i => ∃ k A : Nat, k ≤ l.length ∧ i = .int .i64 k ∧ s' = .int .u64 A ∧ A = cutN s (l.take k)) (fun _ i => l.length - (intOf i).toNat)
  case atStart => exact ⟨0, s, Nat.zero_le _, rfl, rfl, by rw [List.take_zero, cutN_nil s hs]⟩
  case round =>
    obtain ⟨k, A, hk, rfl, rfl, hA⟩ := hrel
    have hAU : A < U := by rw [hA]; exact cutN_lt _ _ hs
    by_cases hlt : k < l.length
    · obtain ⟨x, hx⟩ := at_len hlt
      obtain ⟨b, off, rfl, hb, hc⟩ := hr k x hx
      cases hh : hasB A x
      · have HH := Lib.hid hh
        have HX := Lib.hid (show cutN s (l.take (k + 1)) = A by rw [take_more hx, cutN_snoc_no s _ x hs (by rw [← hA]; exact hh), ← hA])
        clear hh hA hx
        go_wp2_with (go_at_call 21; refine (refHas_false A x _ hAU HH.out).mono ?_; rintro e w' ⟨rfl, rfl⟩)
        go_round
        case rel => exact ⟨k + 1, A, by omega, by go_num, rfl, HX.out.symm⟩
        case measure => simp [intOf]; omega
      · have HH := Lib.hid hh
        have HX := Lib.hid (show IntKind.u64.wrap ((A : Int) - pw x) = ((cutN s (l.take (k + 1)) : Nat) : Int) by rw [take_more hx, hA]; exact sub_eq s _ x hs (by rw [← hA]; exact hh))
        have hb01 : 0 ≤ x ∧ x < 64 := by
          unfold hasB at hh
          simp only [Bool.and_eq_true, decide_eq_true_eq] at hh
          exact hh.1
        obtain ⟨h0, h1⟩ := hb01
        clear hh hA hx
        go_wp2_with (first
          | (go_at_call 21; refine (refHas_true A x _ hAU HH.out).mono ?_; rintro e w' ⟨rfl, rfl⟩)
          | (go_at_call 30; refine (two_any x _ h0 h1).mono ?_; rintro e w' ⟨rfl, rfl⟩))
        go_round
        case rel => exact ⟨k + 1, _, by omega, by go_num, by rw [HX.out], rfl⟩
        case measure => simp [intOf]; omega
    · obtain rfl : k = l.length := by omega
      have HA := Lib.hid (show A = cutN s l by rw [hA, List.take_length])
      clear hA
      go_wp2
      go_ret
      exact ⟨ret_int (by rw [← HA.out]), rfl⟩

set_option maxHeartbeats 800000 in
theorem refAll_any (n : Int) (w : World) :
    Calls Try.prog 25 #[.int .i64 n] w fun e w' => e = .returned (.int .u64 (allN n : Nat)) ∧ w = w' := by
  go_enter Try.func25, Try.ntmps25
  go_wp2
  go_loop [3, 4] (fun s i => ∃ k A : Nat, k ≤ 64 ∧ i = .int .i64 k ∧ s = .int .u64 A ∧ A = allN (min (k : Int) n)) (fun _ i => 64 - (intOf i).toNat)
  case atStart => exact ⟨0, 0, Nat.zero_le _, rfl, rfl, by unfold allN; rw [show (min (max (min ((0 : Nat) : Int) n) 0) 64).toNat = 0 by omega]⟩
  case round =>
    obtain ⟨k, A, hk, rfl, rfl, hA⟩ := hrel
    by_cases hlt : k < 64
    · by_cases hn : (k : Int) < n
      · have HX := Lib.hid (show IntKind.u64.wrap ((A : Int) + pw k) = ((allN (min ((k + 1 : Nat) : Int) n) : Nat) : Int) by rw [hA, show min (k : Int) n = k by omega, show min ((k + 1 : Nat) : Int) n = ((k + 1 : Nat) : Int) by omega]; exact all_step k hlt)
        clear hA
        go_wp2_with (go_at_call 30; refine (two_any _ _ (by omega) (by omega)).mono ?_; rintro e w' ⟨rfl, rfl⟩)
        go_round
        case rel => exact ⟨k + 1, _, by omega, by go_num, by rw [HX.out], rfl⟩
        case measure => simp [intOf]; omega
      · have HX := Lib.hid (show A = allN (min ((k + 1 : Nat) : Int) n) by rw [hA, show min (k : Int) n = n by omega, show min ((k + 1 : Nat) : Int) n = n by omega])
        clear hA
        go_wp2
        go_round
        case rel => exact ⟨k + 1, A, by omega, by go_num, rfl, HX.out⟩
        case measure => simp [intOf]; omega
    · obtain rfl : k = 64 := by omega
      have HA := Lib.hid (show A = allN n by rw [hA]; unfold allN; rw [show (min (max (min ((64 : Nat) : Int) n) 0) 64).toNat = (min (max n 0) 64).toNat by omega])
      clear hA
      go_wp2
      go_ret
      exact ⟨ret_int (by rw [← HA.out]), rfl⟩

set_option maxHeartbeats 1000000 in
theorem refList_any (s : Nat) (w : World) (hs : s < U) :
    Calls Try.prog 17 #[.int .u64 s] w fun e W' => ∃ v, e = .returned v ∧ W'.ownsRow w.heap.size 3 1 v (numsTo s 64).length ((numsTo s 64).map (Value.int .i64)) ∧ Below w.heap.size w W' := by
  obtain ⟨i0, hi, hz0, hz1, hz2⟩ := info_parts info_int
  go_enter Try.func17, Try.ntmps17
  go_wp2
  go_loopw [3, 4] (fun v i wr => ∃ k : Nat, k ≤ 64 ∧ i = .int .i64 k ∧ wr.ownsRow w.heap.size 3 1 v (numsTo s k).length ((numsTo s k).map (Value.int .i64)) ∧ Below w.heap.size w wr) (fun _ i _ => 64 - (intOf i).toNat)
  case atStart => exact ⟨0, Nat.zero_le _, rfl, World.ownsRow_nil _ _ _ _, Below.refl _ _⟩
  case round =>
    obtain ⟨k, hk, rfl, hrow, hB⟩ := hrel
    have hlen := numsTo_len s k
    by_cases hlt : k < 64
    · cases hh : hasB s k
      · have HH := Lib.hid hh
        have HX := Lib.hid (numsTo_miss s k (by rw [hasB_nat] at hh; simpa [hlt] using hh))
        clear hh
        go_wp2_with (go_at_call 21; refine (refHas_false s k _ hs HH.out).mono ?_; rintro e w' ⟨rfl, rfl⟩)
        go_roundw
        case rel => exact ⟨k + 1, by omega, by go_num, by rw [HX.out]; exact hrow, hB⟩
        case measure => simp [intOf]; omega
      · have HH := Lib.hid hh
        have HX := Lib.hid (numsTo_hit s k (by rw [hasB_nat] at hh; simpa [hlt] using hh))
        clear hh
        go_wp2_with (first
          | (go_at_call 21; refine (refHas_true s k _ hs HH.out).mono ?_; rintro e w' ⟨rfl, rfl⟩)
          | (at_builtin; refine wpList_append_own _ rfl _ _ 25 rfl w.heap.size 3 i0 (.int .i64 0) 1 8 Try.underlying25 hi hz0 hz1 hz2 rfl (by decide) _ _ _ rfl (hrow.alloc _) ⟨wr.heap.size, 0, none⟩ 1 1 [.int .i64 k] rfl rfl (cell_one_new _ _ _) (by simp [Value.oneCell']) (by unfold maxLen; omega) (by omega) (by have := hB.size; simp; omega) ?_; intro v' w1 hown' hgrow _))
        have hB' := Lib.hid (append_below hB hrow hgrow)
        have hO' := Lib.hid hown'
        clear hown' hgrow hrow hB
        go_wp2
        go_roundw
        case rel => exact ⟨k + 1, by omega, by go_num, by rw [HX.out]; simpa using hO'.out, hB'.out⟩
        case measure => simp [intOf]; omega
    · obtain rfl : k = 64 := by omega
      go_wp2
      go_ret
      exact ⟨_, rfl, hrow, hB⟩

theorem Same.len (l m : List Int) (h : l = m) : l.length = m.length := by rw [h]

set_option maxHeartbeats 1000000 in
theorem same_yes (a b : Option Addr) (ca cb : Nat) (l : List Int) (A B : Nat) (w : World) (ha : RowOf .i64 w A a l) (hb : RowOf .i64 w B b l) (hl : l.length ≤ 1000) :
    Calls Try.prog 18 #[.slice a l.length ca, .slice b l.length cb] w fun e w' => e = .returned (.bool true) ∧ ∃ n, w' = w.drewN n := by
  have hne : ((l.length : Int) != (l.length : Int)) = false := by simp
  go_enter Try.func18, Try.ntmps18
  go_wp2
  go_loopw [5] (fun i wr => ∃ k n : Nat, k ≤ l.length ∧ i = .int .i64 k ∧ wr = w.drewN n) (fun i _ => l.length - (intOf i).toNat)
  case atStart => exact ⟨0, 0, Nat.zero_le _, rfl, rfl⟩
  case round =>
    obtain ⟨k, n, hk, rfl, rfl⟩ := hrel
    by_cases hlt : k < l.length
    · obtain ⟨x, hx⟩ := at_len hlt
      obtain ⟨b1, o1, rfl, _, hc1⟩ := ha k x hx
      obtain ⟨b2, o2, rfl, _, hc2⟩ := hb k x hx
      clear hx
      have hlt' : (k : Int) < (l.length : Int) := by omega
      have hxx : (x != x) = false := by simp
      go_wp2
      go_quiet (fail)
      go_wp2
      go_roundw
      case rel => exact ⟨k + 1, _, by omega, by go_num, rfl⟩
      case measure => simp [intOf]; omega
    · obtain rfl : k = l.length := by omega
      go_wp2
      go_ret
      exact ⟨rfl, n, rfl⟩

set_option maxHeartbeats 1000000 in
theorem refFirst_any (s : Nat) (m : Int) (w : World) (hs : s < U) :
    Calls Try.prog 22 #[.int .u64 s, .int .i64 m] w fun e W' => e = .returned (.int .i64 (firstOf (numsTo s 64) m)) ∧ Below w.heap.size w W' := by
  have hlen := numsTo_len s 64
  go_enter Try.func22, Try.ntmps22
  go_wp2_with (go_at_call 17; refine (refList_any s _ hs).mono ?_; rintro e w1 ⟨v, rfl, hrow, hB⟩; obtain ⟨a, cap, rfl, _, hr⟩ := RowOf.own hrow; clear hrow)
  generalize hG : numsTo s 64 = l at *
  have HG := Lib.hid hG
  clear hG
  go_loop [6] (fun i => ∃ k : Nat, k ≤ l.length ∧ i = .int .i64 k ∧ Hid (∀ y ∈ l.take k, y < m)) (fun i => l.length - (intOf i).toNat)
  case atStart => exact ⟨0, Nat.zero_le _, rfl, Lib.hid (by simp)⟩
  case round =>
    obtain ⟨k, hk, rfl, HL⟩ := hrel
    by_cases hlt : k < l.length
    · obtain ⟨x, hx⟩ := at_len hlt
      obtain ⟨b, off, rfl, hb, hc⟩ := hr k x hx
      by_cases hm : m ≤ x
      · have HX := Lib.hid (firstOf_some l (l.take k) x m HL.out hm (by rw [← take_more hx]; exact List.take_prefix _ _))
        clear hx
        go_wp2
        go_ret
        exact ⟨ret_int (by rw [HG.out]; exact HX.out.symm), hB⟩
      · have HX := Lib.hid (take_more hx)
        clear hx
        go_wp2
        go_round
        case rel => exact ⟨k + 1, by omega, by go_num, Lib.hid (by rw [HX.out]; intro y hy; rcases List.mem_append.1 hy with h | h; exact HL.out y h; simp at h; omega)⟩
        case measure => simp [intOf]; omega
    · obtain rfl : k = l.length := by omega
      have HX := Lib.hid (firstOf_none l m (by have := HL.out; rwa [List.take_length] at this))
      go_wp2
      go_ret
      exact ⟨ret_int (by rw [HG.out]; exact HX.out.symm), hB⟩

end Go.Proofs.Ytjkdanfpejfplaa
