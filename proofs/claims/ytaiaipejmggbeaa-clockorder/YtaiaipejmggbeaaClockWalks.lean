/- What the calls of package clock return that only read (At, Within, Same), and the document's own. -/
import Derived.Test.YtaiaipejmggbeaaBitsRows
import Derived.Test.YtaiaipejmggbeaaClockMath
namespace Go.Proofs.Ytaiaipejmggbeaa
set_option linter.unusedVariables false
set_option linter.unusedSimpArgs false
set_option maxRecDepth 100000
open Go.ChangeShapes Go.WideShapes Go.ChangeAt Go.RowKit

theorem RowOf.up {k : IntKind} {w w' : World} {a : Option Addr} {l : List Int} (h : RowOf k w w.heap.size a l) (hB : Below w.heap.size w w') : RowOf k w' w'.heap.size a l := (h.below hB).more hB.size

set_option maxHeartbeats 400000 in
theorem cAt_any (l : List Int) (a : Option Addr) (cap B : Nat) (i : Int) (w : World) (ha : RowOf .i64 w B a l) :
    Calls Try.prog 12 #[.slice a l.length cap, .int .i64 i] w fun e w' => e = .returned (.int .i64 (atL l i)) ∧ w = w' := by
  by_cases h0 : i < 0
  · have HX := Lib.hid (show atL l i = 0 by unfold atL; rw [if_pos h0])
    clear ha
    go_enter Try.func12, Try.ntmps12
    go_wp2
    go_ret
    exact ⟨by rw [HX.out]; rfl, rfl⟩
  · obtain ⟨k, rfl⟩ := Int.eq_ofNat_of_zero_le (by omega : 0 ≤ i)
    rw [atL_nat]
    by_cases hk : k < l.length
    · obtain ⟨x, hx⟩ := at_len hk
      obtain ⟨b, off, rfl, _, hc⟩ := ha k x hx
      have HX := Lib.hid (atN_some hx)
      have hk' : ¬ ((l.length : Int) ≤ (k : Int)) := by omega
      clear ha hx h0
      go_enter Try.func12, Try.ntmps12
      go_wp2
      go_ret
      exact ⟨by rw [HX.out]; rfl, rfl⟩
    · have HX := Lib.hid (atN_past (l := l) (k := k) (by omega))
      have hk' : ((l.length : Int) ≤ (k : Int)) := by omega
      clear ha h0
      go_enter Try.func12, Try.ntmps12
      go_wp2
      go_ret
      exact ⟨by rw [HX.out]; rfl, rfl⟩
theorem cAt_nat (l : List Int) (a : Option Addr) (cap B : Nat) (k : Nat) (x : Int) (w : World) (ha : RowOf .i64 w B a l) (hx : atN l k = x) :
    Calls Try.prog 12 #[.slice a l.length cap, .int .i64 k] w fun e w' => e = .returned (.int .i64 x) ∧ w = w' := by
  have := cAt_any l a cap B k w ha
  rwa [atL_nat, hx] at this

set_option maxHeartbeats 400000 in
theorem cWithin_any (l m : List Int) (a b : Option Addr) (ca cb A B : Nat) (w : World) (ha : RowOf .i64 w A a l) (hb : RowOf .i64 w B b m) (hl : l.length ≤ 1000) (hm : m.length ≤ 1000) :
    Calls Try.prog 10 #[.slice a l.length ca, .slice b m.length cb] w fun e w' => e = .returned (.bool (withinB l m)) ∧ w = w' := by
  have HA := Lib.hid ha
  have HC := Lib.hid hb
  clear ha hb
  rcases Nat.lt_or_ge l.length m.length with h | h
  · have HN := Lib.hid (show max l.length m.length = m.length by omega)
    go_enter Try.func10, Try.ntmps10
    go_wp2_with fail
    go_loop [11] (fun i => ∃ k : Nat, k ≤ m.length ∧ i = .int .i64 k ∧ Hid (∀ j, j < k → atN l j ≤ atN m j)) (fun i => m.length - (intOf i).toNat)
    case atStart => exact ⟨0, Nat.zero_le _, rfl, Lib.hid (fun j hj => by omega)⟩
    case round =>
      obtain ⟨k, hk, rfl, HK⟩ := hrel
      by_cases hlt : k < m.length
      · obtain ⟨x, hx⟩ : ∃ x, atN l k = x := ⟨_, rfl⟩
        obtain ⟨y, hy⟩ : ∃ y, atN m k = y := ⟨_, rfl⟩
        have HX := Lib.hid hx
        have HY := Lib.hid hy
        clear hx hy
        by_cases hxy : y < x
        · go_wp2_with (first
            | (with_reducible refine (cAt_nat m b cb B k y w HC.out HY.out).mono ?_; rintro e w' ⟨rfl, rfl⟩)
            | (with_reducible refine (cAt_nat l a ca A k x w HA.out HX.out).mono ?_; rintro e w' ⟨rfl, rfl⟩))
          go_ret
          exact ⟨by rw [within_no (k := k) (by rw [HX.out, HY.out]; exact hxy)]; rfl, rfl⟩
        · go_wp2_with (first
            | (with_reducible refine (cAt_nat m b cb B k y w HC.out HY.out).mono ?_; rintro e w' ⟨rfl, rfl⟩)
            | (with_reducible refine (cAt_nat l a ca A k x w HA.out HX.out).mono ?_; rintro e w' ⟨rfl, rfl⟩))
          go_round
          case rel => exact ⟨k + 1, by omega, by go_num, Lib.hid (fun j hj => by rcases Nat.lt_or_ge j k with q | q; exact HK.out j q; obtain rfl : j = k := by omega
                                                                                 rw [HX.out, HY.out]; omega)⟩
          case measure => simp [intOf]; omega
      · obtain rfl : k = m.length := by omega
        have HW := Lib.hid (within_yes (a := l) (b := m) (by rw [HN.out]; exact HK.out))
        go_wp2
        go_ret
        exact ⟨by rw [HW.out]; rfl, rfl⟩
  · have HN := Lib.hid (show max l.length m.length = l.length by omega)
    go_enter Try.func10, Try.ntmps10
    go_wp2_with fail
    go_loop [11] (fun i => ∃ k : Nat, k ≤ l.length ∧ i = .int .i64 k ∧ Hid (∀ j, j < k → atN l j ≤ atN m j)) (fun i => l.length - (intOf i).toNat)
    case atStart => exact ⟨0, Nat.zero_le _, rfl, Lib.hid (fun j hj => by omega)⟩
    case round =>
      obtain ⟨k, hk, rfl, HK⟩ := hrel
      by_cases hlt : k < l.length
      · obtain ⟨x, hx⟩ : ∃ x, atN l k = x := ⟨_, rfl⟩
        obtain ⟨y, hy⟩ : ∃ y, atN m k = y := ⟨_, rfl⟩
        have HX := Lib.hid hx
        have HY := Lib.hid hy
        clear hx hy
        by_cases hxy : y < x
        · go_wp2_with (first
            | (with_reducible refine (cAt_nat m b cb B k y w HC.out HY.out).mono ?_; rintro e w' ⟨rfl, rfl⟩)
            | (with_reducible refine (cAt_nat l a ca A k x w HA.out HX.out).mono ?_; rintro e w' ⟨rfl, rfl⟩))
          go_ret
          exact ⟨by rw [within_no (k := k) (by rw [HX.out, HY.out]; exact hxy)]; rfl, rfl⟩
        · go_wp2_with (first
            | (with_reducible refine (cAt_nat m b cb B k y w HC.out HY.out).mono ?_; rintro e w' ⟨rfl, rfl⟩)
            | (with_reducible refine (cAt_nat l a ca A k x w HA.out HX.out).mono ?_; rintro e w' ⟨rfl, rfl⟩))
          go_round
          case rel => exact ⟨k + 1, by omega, by go_num, Lib.hid (fun j hj => by rcases Nat.lt_or_ge j k with q | q; exact HK.out j q; obtain rfl : j = k := by omega
                                                                                 rw [HX.out, HY.out]; omega)⟩
          case measure => simp [intOf]; omega
      · obtain rfl : k = l.length := by omega
        have HW := Lib.hid (within_yes (a := l) (b := m) (by rw [HN.out]; exact HK.out))
        go_wp2
        go_ret
        exact ⟨by rw [HW.out]; rfl, rfl⟩

theorem cWithin_is (t : Bool) (l m : List Int) (a b : Option Addr) (ca cb A B : Nat) (w : World) (ht : withinB l m = t) (ha : RowOf .i64 w A a l) (hb : RowOf .i64 w B b m) (hl : l.length ≤ 1000) (hm : m.length ≤ 1000) :
    Calls Try.prog 10 #[.slice a l.length ca, .slice b m.length cb] w fun e w' => e = .returned (.bool t) ∧ w = w' := by
  have := cWithin_any l m a b ca cb A B w ha hb hl hm
  rwa [ht] at this
set_option maxHeartbeats 400000 in
theorem cSame_any (l m : List Int) (a b : Option Addr) (ca cb A B : Nat) (w : World) (ha : RowOf .i64 w A a l) (hb : RowOf .i64 w B b m) (hl : l.length ≤ 1000) (hm : m.length ≤ 1000) :
    Calls Try.prog 11 #[.slice a l.length ca, .slice b m.length cb] w fun e w' => e = .returned (.bool (sameB l m)) ∧ w = w' := by
  have HA := Lib.hid ha
  have HC := Lib.hid hb
  clear ha hb
  unfold sameB
  cases h1 : withinB l m
  · have H1 := Lib.hid h1
    clear h1
    go_enter Try.func11, Try.ntmps11
    go_wp2_with (refine (cWithin_is false l m a b ca cb A B w H1.out HA.out HC.out hl hm).mono ?_; rintro e w' ⟨rfl, rfl⟩)
    go_ret
    exact ⟨rfl, rfl⟩
  · have H1 := Lib.hid h1
    clear h1
    cases h2 : withinB m l
    · have H2 := Lib.hid h2
      clear h2
      go_enter Try.func11, Try.ntmps11
      go_wp2_with (first
        | (with_reducible refine (cWithin_is false m l b a cb ca B A w H2.out HC.out HA.out hm hl).mono ?_; rintro e w' ⟨rfl, rfl⟩)
        | (with_reducible refine (cWithin_is true l m a b ca cb A B w H1.out HA.out HC.out hl hm).mono ?_; rintro e w' ⟨rfl, rfl⟩))
      go_ret
      exact ⟨rfl, rfl⟩
    · have H2 := Lib.hid h2
      clear h2
      go_enter Try.func11, Try.ntmps11
      go_wp2_with (first
        | (with_reducible refine (cWithin_is true m l b a cb ca B A w H2.out HC.out HA.out hm hl).mono ?_; rintro e w' ⟨rfl, rfl⟩)
        | (with_reducible refine (cWithin_is true l m a b ca cb A B w H1.out HA.out HC.out hl hm).mono ?_; rintro e w' ⟨rfl, rfl⟩))
      go_ret
      exact ⟨rfl, rfl⟩
theorem cSame_is (t : Bool) (l m : List Int) (a b : Option Addr) (ca cb A B : Nat) (w : World) (ht : sameB l m = t) (ha : RowOf .i64 w A a l) (hb : RowOf .i64 w B b m) (hl : l.length ≤ 1000) (hm : m.length ≤ 1000) :
    Calls Try.prog 11 #[.slice a l.length ca, .slice b m.length cb] w fun e w' => e = .returned (.bool t) ∧ w = w' := by
  have := cSame_any l m a b ca cb A B w ha hb hl hm
  rwa [ht] at this

set_option maxHeartbeats 400000 in
theorem rAt_any (l : List Int) (a : Option Addr) (cap B : Nat) (i : Int) (w : World) (ha : RowOf .i64 w B a l) :
    Calls Try.prog 22 #[.slice a l.length cap, .int .i64 i] w fun e w' => e = .returned (.int .i64 (atL l i)) ∧ w = w' := by
  by_cases h0 : i < 0
  · have HX := Lib.hid (show atL l i = 0 by unfold atL; rw [if_pos h0])
    clear ha
    go_enter Try.func22, Try.ntmps22
    go_wp2
    go_ret
    exact ⟨by rw [HX.out]; rfl, rfl⟩
  · obtain ⟨k, rfl⟩ := Int.eq_ofNat_of_zero_le (by omega : 0 ≤ i)
    rw [atL_nat]
    by_cases hk : k < l.length
    · obtain ⟨x, hx⟩ := at_len hk
      obtain ⟨b, off, rfl, _, hc⟩ := ha k x hx
      have HX := Lib.hid (atN_some hx)
      have hk' : ¬ ((l.length : Int) ≤ (k : Int)) := by omega
      clear ha hx h0
      go_enter Try.func22, Try.ntmps22
      go_wp2
      go_ret
      exact ⟨by rw [HX.out]; rfl, rfl⟩
    · have HX := Lib.hid (atN_past (l := l) (k := k) (by omega))
      have hk' : ((l.length : Int) ≤ (k : Int)) := by omega
      clear ha h0
      go_enter Try.func22, Try.ntmps22
      go_wp2
      go_ret
      exact ⟨by rw [HX.out]; rfl, rfl⟩
theorem rAt_nat (l : List Int) (a : Option Addr) (cap B : Nat) (k : Nat) (x : Int) (w : World) (ha : RowOf .i64 w B a l) (hx : atN l k = x) :
    Calls Try.prog 22 #[.slice a l.length cap, .int .i64 k] w fun e w' => e = .returned (.int .i64 x) ∧ w = w' := by
  have := rAt_any l a cap B k w ha
  rwa [atL_nat, hx] at this

set_option maxHeartbeats 400000 in
theorem rWithin_any (l m : List Int) (a b : Option Addr) (ca cb A B : Nat) (w : World) (ha : RowOf .i64 w A a l) (hb : RowOf .i64 w B b m) (hl : l.length ≤ 1000) (hm : m.length ≤ 1000) :
    Calls Try.prog 20 #[.slice a l.length ca, .slice b m.length cb] w fun e w' => e = .returned (.bool (withinB l m)) ∧ w = w' := by
  have HA := Lib.hid ha
  have HC := Lib.hid hb
  clear ha hb
  rcases Nat.lt_or_ge l.length m.length with h | h
  · have HN := Lib.hid (show max l.length m.length = m.length by omega)
    go_enter Try.func20, Try.ntmps20
    go_wp2_with fail
    go_loop [5] (fun i => ∃ k : Nat, k ≤ m.length ∧ i = .int .i64 k ∧ Hid (∀ j, j < k → atN l j ≤ atN m j)) (fun i => m.length - (intOf i).toNat)
    case atStart => exact ⟨0, Nat.zero_le _, rfl, Lib.hid (fun j hj => by omega)⟩
    case round =>
      obtain ⟨k, hk, rfl, HK⟩ := hrel
      by_cases hlt : k < m.length
      · obtain ⟨x, hx⟩ : ∃ x, atN l k = x := ⟨_, rfl⟩
        obtain ⟨y, hy⟩ : ∃ y, atN m k = y := ⟨_, rfl⟩
        have HX := Lib.hid hx
        have HY := Lib.hid hy
        clear hx hy
        by_cases hxy : y < x
        · go_wp2_with (first
            | (with_reducible refine (rAt_nat m b cb B k y w HC.out HY.out).mono ?_; rintro e w' ⟨rfl, rfl⟩)
            | (with_reducible refine (rAt_nat l a ca A k x w HA.out HX.out).mono ?_; rintro e w' ⟨rfl, rfl⟩))
          go_ret
          exact ⟨by rw [within_no (k := k) (by rw [HX.out, HY.out]; exact hxy)]; rfl, rfl⟩
        · go_wp2_with (first
            | (with_reducible refine (rAt_nat m b cb B k y w HC.out HY.out).mono ?_; rintro e w' ⟨rfl, rfl⟩)
            | (with_reducible refine (rAt_nat l a ca A k x w HA.out HX.out).mono ?_; rintro e w' ⟨rfl, rfl⟩))
          go_round
          case rel => exact ⟨k + 1, by omega, by go_num, Lib.hid (fun j hj => by rcases Nat.lt_or_ge j k with q | q; exact HK.out j q; obtain rfl : j = k := by omega
                                                                                 rw [HX.out, HY.out]; omega)⟩
          case measure => simp [intOf]; omega
      · obtain rfl : k = m.length := by omega
        have HW := Lib.hid (within_yes (a := l) (b := m) (by rw [HN.out]; exact HK.out))
        go_wp2
        go_ret
        exact ⟨by rw [HW.out]; rfl, rfl⟩
  · have HN := Lib.hid (show max l.length m.length = l.length by omega)
    go_enter Try.func20, Try.ntmps20
    go_wp2_with fail
    go_loop [5] (fun i => ∃ k : Nat, k ≤ l.length ∧ i = .int .i64 k ∧ Hid (∀ j, j < k → atN l j ≤ atN m j)) (fun i => l.length - (intOf i).toNat)
    case atStart => exact ⟨0, Nat.zero_le _, rfl, Lib.hid (fun j hj => by omega)⟩
    case round =>
      obtain ⟨k, hk, rfl, HK⟩ := hrel
      by_cases hlt : k < l.length
      · obtain ⟨x, hx⟩ : ∃ x, atN l k = x := ⟨_, rfl⟩
        obtain ⟨y, hy⟩ : ∃ y, atN m k = y := ⟨_, rfl⟩
        have HX := Lib.hid hx
        have HY := Lib.hid hy
        clear hx hy
        by_cases hxy : y < x
        · go_wp2_with (first
            | (with_reducible refine (rAt_nat m b cb B k y w HC.out HY.out).mono ?_; rintro e w' ⟨rfl, rfl⟩)
            | (with_reducible refine (rAt_nat l a ca A k x w HA.out HX.out).mono ?_; rintro e w' ⟨rfl, rfl⟩))
          go_ret
          exact ⟨by rw [within_no (k := k) (by rw [HX.out, HY.out]; exact hxy)]; rfl, rfl⟩
        · go_wp2_with (first
            | (with_reducible refine (rAt_nat m b cb B k y w HC.out HY.out).mono ?_; rintro e w' ⟨rfl, rfl⟩)
            | (with_reducible refine (rAt_nat l a ca A k x w HA.out HX.out).mono ?_; rintro e w' ⟨rfl, rfl⟩))
          go_round
          case rel => exact ⟨k + 1, by omega, by go_num, Lib.hid (fun j hj => by rcases Nat.lt_or_ge j k with q | q; exact HK.out j q; obtain rfl : j = k := by omega
                                                                                 rw [HX.out, HY.out]; omega)⟩
          case measure => simp [intOf]; omega
      · obtain rfl : k = l.length := by omega
        have HW := Lib.hid (within_yes (a := l) (b := m) (by rw [HN.out]; exact HK.out))
        go_wp2
        go_ret
        exact ⟨by rw [HW.out]; rfl, rfl⟩

theorem rWithin_is (t : Bool) (l m : List Int) (a b : Option Addr) (ca cb A B : Nat) (w : World) (ht : withinB l m = t) (ha : RowOf .i64 w A a l) (hb : RowOf .i64 w B b m) (hl : l.length ≤ 1000) (hm : m.length ≤ 1000) :
    Calls Try.prog 20 #[.slice a l.length ca, .slice b m.length cb] w fun e w' => e = .returned (.bool t) ∧ w = w' := by
  have := rWithin_any l m a b ca cb A B w ha hb hl hm
  rwa [ht] at this
set_option maxHeartbeats 400000 in
theorem rSame_any (l m : List Int) (a b : Option Addr) (ca cb A B : Nat) (w : World) (ha : RowOf .i64 w A a l) (hb : RowOf .i64 w B b m) (hl : l.length ≤ 1000) (hm : m.length ≤ 1000) :
    Calls Try.prog 21 #[.slice a l.length ca, .slice b m.length cb] w fun e w' => e = .returned (.bool (sameB l m)) ∧ w = w' := by
  have HA := Lib.hid ha
  have HC := Lib.hid hb
  clear ha hb
  unfold sameB
  cases h1 : withinB l m
  · have H1 := Lib.hid h1
    clear h1
    go_enter Try.func21, Try.ntmps21
    go_wp2_with (refine (rWithin_is false l m a b ca cb A B w H1.out HA.out HC.out hl hm).mono ?_; rintro e w' ⟨rfl, rfl⟩)
    go_ret
    exact ⟨rfl, rfl⟩
  · have H1 := Lib.hid h1
    clear h1
    cases h2 : withinB m l
    · have H2 := Lib.hid h2
      clear h2
      go_enter Try.func21, Try.ntmps21
      go_wp2_with (first
        | (with_reducible refine (rWithin_is false m l b a cb ca B A w H2.out HC.out HA.out hm hl).mono ?_; rintro e w' ⟨rfl, rfl⟩)
        | (with_reducible refine (rWithin_is true l m a b ca cb A B w H1.out HA.out HC.out hl hm).mono ?_; rintro e w' ⟨rfl, rfl⟩))
      go_ret
      exact ⟨rfl, rfl⟩
    · have H2 := Lib.hid h2
      clear h2
      go_enter Try.func21, Try.ntmps21
      go_wp2_with (first
        | (with_reducible refine (rWithin_is true m l b a cb ca B A w H2.out HC.out HA.out hm hl).mono ?_; rintro e w' ⟨rfl, rfl⟩)
        | (with_reducible refine (rWithin_is true l m a b ca cb A B w H1.out HA.out HC.out hl hm).mono ?_; rintro e w' ⟨rfl, rfl⟩))
      go_ret
      exact ⟨rfl, rfl⟩
theorem rSame_is (t : Bool) (l m : List Int) (a b : Option Addr) (ca cb A B : Nat) (w : World) (ht : sameB l m = t) (ha : RowOf .i64 w A a l) (hb : RowOf .i64 w B b m) (hl : l.length ≤ 1000) (hm : m.length ≤ 1000) :
    Calls Try.prog 21 #[.slice a l.length ca, .slice b m.length cb] w fun e w' => e = .returned (.bool t) ∧ w = w' := by
  have := rSame_any l m a b ca cb A B w ha hb hl hm
  rwa [ht] at this
end Go.Proofs.Ytaiaipejmggbeaa
