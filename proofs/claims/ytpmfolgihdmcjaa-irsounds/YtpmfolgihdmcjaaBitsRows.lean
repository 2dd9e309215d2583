/- What the calls of package bits over lists return (among, With, Without), and the document's own (With, Without, All, List, First, Same), for every list of at most 1000 numbers. -/
import Derived.Test.YtpmfolgihdmcjaaBitsWalks1
import Derived.Test.YtpmfolgihdmcjaaLawKit
import Derived.Test.YtpmfolgihdmcjaaBitsMath2
import Derived.Test.YtpmfolgihdmcjaaBitsRange
import Derived.RegionTactic
import Derived.ChangeAlike
import Derived.Deep.QuietTactic
import Derived.BigQuiet
import Derived.Laws.OwnMore
namespace Go.Proofs.Ytpmfolgihdmcjaa
set_option linter.unusedVariables false
set_option linter.unusedSimpArgs false
open Go.RowKit

theorem RowOf.nil (k : IntKind) (w : World) (B : Nat) (a : Option Addr) : RowOf k w B a [] := fun i x h => by simp at h
theorem RowOf.below {k : IntKind} {w w' : World} {B : Nat} {a : Option Addr} {l : List Int} (h : RowOf k w B a l) (hb : Below B w w') : RowOf k w' B a l := fun i x hx => by
  obtain ⟨b, off, rfl, hlt, hc⟩ := h i x hx
  exact ⟨b, off, rfl, hlt, (hb.cell (p := ⟨b, off + i, none⟩) hlt).trans hc⟩
theorem RowOf.more {k : IntKind} {w : World} {B B' : Nat} {a : Option Addr} {l : List Int} (h : RowOf k w B a l) (hb : B ≤ B') : RowOf k w B' a l := fun i x hx => by
  obtain ⟨b, off, rfl, hlt, hc⟩ := h i x hx
  exact ⟨b, off, rfl, by omega, hc⟩
theorem RowOf.own {k : IntKind} {w : World} {base : Nat} {e : TypeId} {v : Value} {n : Nat} {l : List Int} (h : w.ownsRow base e 1 v n (l.map (Value.int k))) :
    ∃ a cap, v = .slice a n cap ∧ n = l.length ∧ RowOf k w w.heap.size a l := by
  have hl : l.length = n := by have := h.1; simpa using this
  rcases h.2 with ⟨rfl, hn⟩ | ⟨g, cap, cur, rfl, hg, hh, hn, hcap, hsz, htake⟩
  · subst hn
    obtain rfl : l = [] := List.eq_nil_of_length_eq_zero hl
    exact ⟨none, 0, rfl, rfl, RowOf.nil _ _ _ _⟩
  · refine ⟨some ⟨g, 0, none⟩, cap, rfl, hl.symm, fun i x hx => ⟨g, 0, rfl, (Array.getElem?_eq_some_iff.1 hh).1, ?_⟩⟩
    have hi : i < l.length := by
      rcases Nat.lt_or_ge i l.length with h | h
      · exact h
      · rw [List.getElem?_eq_none h] at hx; cases hx
    rw [Nat.zero_add, h.cellAt i (by omega), List.getElem?_map, hx]
    rfl
theorem at_len {l : List Int} {k : Nat} (h : k < l.length) : ∃ x, l[k]? = some x := ⟨_, List.getElem?_eq_getElem h⟩

theorem append_below {w wr w1 : World} {e : TypeId} {v : Value} {n : Nat} {xs : List Value} {o : Obj} (hB : Below w.heap.size w wr) (hrow : wr.ownsRow w.heap.size e 1 v n xs) (hgrow : (wr.alloc o).grownBy w1 v.ownBlock) : Below w.heap.size w w1 := by
  refine (hB.alloc hB.size o).grown hgrow (by have := hB.size; simp; omega) fun j ej => ?_
  rcases hrow.2 with ⟨rfl, _⟩ | ⟨g, cap, cur, rfl, hb, _, _⟩
  · simp [Value.ownBlock] at ej
  · obtain rfl : g = j := by simpa [Value.ownBlock] using ej
    exact hb

set_option maxHeartbeats 400000 in
theorem among_any (a : Option Addr) (cap : Nat) (l : List Int) (B : Nat) (w : World) (hr : RowOf .i64 w B a l) (hl : l.length ≤ 1000) :
    Calls Try.prog 58 #[.slice a l.length cap] w fun e w' => e = .returned (.int .u64 (putN 0 l : Nat)) ∧ w = w' := by
  go_enter Try.func58, Try.ntmps58
  go_wp2
  go_loop [3, 8] (fun s i => ∃ k A : Nat, k ≤ l.length ∧ i = .int .i64 k ∧ s = .int .u64 A ∧ A = putN 0 (l.take k)) (fun _ i => l.length - (intOf i).toNat)
  case atStart => exact ⟨0, 0, Nat.zero_le _, rfl, rfl, rfl⟩
  case round =>
    obtain ⟨k, A, hk, rfl, rfl, hA⟩ := hrel
    have hAU : A < U := by rw [hA]; exact putN_lt _ _ (by decide)
    by_cases hlt : k < l.length
    · obtain ⟨x, hx⟩ := at_len hlt
      obtain ⟨b, off, rfl, hb, hc⟩ := hr k x hx
      have HX := Lib.hid (show putN 0 (l.take (k + 1)) = stepN A x by rw [take_more hx, putN_snoc, ← hA])
      clear hA hx
      by_cases hf : 0 ≤ x ∧ x < 64
      · obtain ⟨h0, h1⟩ := hf
        have HO := Lib.hid (or_eq A x hAU h0 h1)
        go_wp2_with (first
          | (go_at_call 61; refine (fits_yes x _ h0 h1).mono ?_; rintro e w' ⟨rfl, rfl⟩)
          | (go_at_call 62; refine (one_any x _ h0 h1).mono ?_; rintro e w' ⟨rfl, rfl⟩))
        go_round
        case rel => exact ⟨k + 1, stepN A x, by omega, by go_num, by rw [HO.out], HX.out.symm⟩
        case measure => simp [intOf]; omega
      · have HO := Lib.hid (stepN_no A x hf)
        have hn : x < 0 ∨ 64 ≤ x := by omega
        clear hf
        go_wp2_with (go_at_call 61; refine (fits_no x _ hn).mono ?_; rintro e w' ⟨rfl, rfl⟩)
        go_round
        case rel => exact ⟨k + 1, A, by omega, by go_num, rfl, by rw [HX.out, HO.out]⟩
        case measure => simp [intOf]; omega
    · obtain rfl : k = l.length := by omega
      have HA := Lib.hid (show A = putN 0 l by rw [hA, List.take_length])
      clear hA
      go_wp2
      go_ret
      exact ⟨ret_int (by rw [← HA.out]), rfl⟩

set_option maxHeartbeats 400000 in
theorem with_any (s : Nat) (a : Option Addr) (cap : Nat) (l : List Int) (B : Nat) (w : World) (hs : s < U) (hr : RowOf .i64 w B a l) (hl : l.length ≤ 1000) :
    Calls Try.prog 53 #[.int .u64 s, .slice a l.length cap] w fun e w' => e = .returned (.int .u64 (putN s l : Nat)) ∧ w = w' := by
  have H := Lib.hid (with_eq s l hs)
  go_enter Try.func53, Try.ntmps53
  go_wp2_with (go_at_call 58; refine (among_any a cap l B _ hr hl).mono ?_; rintro e w' ⟨rfl, rfl⟩)
  go_ret
  exact ⟨ret_int H.out, rfl⟩

theorem refHas_true (s : Nat) (i : Int) (w : World) (hs : s < U) (h : hasB s i = true) :
    Calls Try.prog 59 #[.int .u64 s, .int .i64 i] w fun e w' => e = .returned (.bool true) ∧ w = w' := by
  have := refHas_any s i w hs
  rwa [h] at this
theorem refHas_false (s : Nat) (i : Int) (w : World) (hs : s < U) (h : hasB s i = false) :
    Calls Try.prog 59 #[.int .u64 s, .int .i64 i] w fun e w' => e = .returned (.bool false) ∧ w = w' := by
  have := refHas_any s i w hs
  rwa [h] at this

set_option maxHeartbeats 800000 in
theorem refWith_any (s : Nat) (a : Option Addr) (cap : Nat) (l : List Int) (B : Nat) (w : World) (hs : s < U) (hr : RowOf .i64 w B a l) (hl : l.length ≤ 1000) :
    Calls Try.prog 54 #[.int .u64 s, .slice a l.length cap] w fun e w' => e = .returned (.int .u64 (putN s l : Nat)) ∧ w = w' := by
  go_enter Try.func54, Try.ntmps54
  go_wp2
  go_loop [0, 5] (fun s' i => ∃ k A : Nat, k ≤ l.length ∧ i = .int .i64 k ∧ s' = .int .u64 A ∧ A = putN s (l.take k)) (fun _ i => l.length - (intOf i).toNat)
  case atStart => exact ⟨0, s, Nat.zero_le _, rfl, rfl, rfl⟩
  case round =>
    obtain ⟨k, A, hk, rfl, rfl, hA⟩ := hrel
    have hAU : A < U := by rw [hA]; exact putN_lt _ _ hs
    by_cases hlt : k < l.length
    · obtain ⟨x, hx⟩ := at_len hlt
      obtain ⟨b, off, rfl, hb, hc⟩ := hr k x hx
      have HX := Lib.hid (show putN s (l.take (k + 1)) = stepN A x by rw [take_more hx, putN_snoc, ← hA])
      clear hA hx
      by_cases hf : 0 ≤ x ∧ x < 64
      · obtain ⟨h0, h1⟩ := hf
        cases hh : hasB A x
        · have HH := Lib.hid hh
          have HO := Lib.hid (add_eq A x hAU h0 h1 hh)
          clear hh
          go_wp2_with (first
            | (go_at_call 59; refine (refHas_false A x _ hAU HH.out).mono ?_; rintro e w' ⟨rfl, rfl⟩)
            | (go_at_call 60; refine (two_any x _ h0 h1).mono ?_; rintro e w' ⟨rfl, rfl⟩))
          go_round
          case rel => exact ⟨k + 1, stepN A x, by omega, by go_num, by rw [HO.out], HX.out.symm⟩
          case measure => simp [intOf]; omega
        · have HH := Lib.hid hh
          have HO := Lib.hid (add_none A x h0 h1 hh)
          clear hh
          go_wp2_with (go_at_call 59; refine (refHas_true A x _ hAU HH.out).mono ?_; rintro e w' ⟨rfl, rfl⟩)
          go_round
          case rel => exact ⟨k + 1, A, by omega, by go_num, rfl, by rw [HX.out, HO.out]⟩
          case measure => simp [intOf]; omega
      · have HO := Lib.hid (stepN_no A x hf)
        by_cases h0 : 0 ≤ x
        · have h1 : 64 ≤ x := by omega
          have hd : decide (x < 64) = false := by simp; omega
          clear hf
          go_wp2
          go_round
          case rel => exact ⟨k + 1, A, by omega, by go_num, rfl, by rw [HX.out, HO.out]⟩
          case measure => simp [intOf]; omega
        · have h1 : x < 0 := by omega
          have hd : decide (0 ≤ x) = false := by simp; omega
          clear hf h0
          go_wp2
          go_round
          case rel => exact ⟨k + 1, A, by omega, by go_num, rfl, by rw [HX.out, HO.out]⟩
          case measure => simp [intOf]; omega
    · obtain rfl : k = l.length := by omega
      have HA := Lib.hid (show A = putN s l by rw [hA, List.take_length])
      clear hA
      go_wp2
      go_ret
      exact ⟨ret_int (by rw [← HA.out]), rfl⟩

theorem Same.len (l m : List Int) (h : l = m) : l.length = m.length := by rw [h]


end Go.Proofs.Ytpmfolgihdmcjaa
