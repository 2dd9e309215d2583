/- What order's below answers: how many of a rising row are less. -/
import Derived.Test.YtkhhkjinlkpdlaaOrderRules
namespace Go.Proofs.Ytkhhkjinlkpdlaa
set_option linter.unusedVariables false
set_option linter.unusedSimpArgs false
set_option maxRecDepth 100000
open Go.ChangeShapes Go.WideShapes Go.ChangeAt Go.RowKit

def ofN (l : List Nat) : List Int := l.map fun k : Nat => (k : Int)
theorem ofN_len (l : List Nat) : (ofN l).length = l.length := by simp [ofN]
theorem ofN_at {l : List Nat} {k x : Nat} (h : l[k]? = some x) : (ofN l)[k]? = some (x : Int) := by simp [ofN, h]
/-- How many are less. -/
def cntLt (l : List Nat) (j : Nat) : Nat := l.countP fun k => decide (k < j)
theorem cntLt_le (l : List Nat) (j : Nat) : cntLt l j ≤ l.length := List.countP_le_length
theorem cntLt_none {l : List Nat} {j : Nat} (h : ∀ x ∈ l, j ≤ x) : cntLt l j = 0 := by
  unfold cntLt
  rw [List.countP_eq_zero]
  intro x hx
  have := h x hx
  simp; omega
theorem rise_lt {l : List Nat} (h : l.Pairwise (· < ·)) (j : Nat) : ∀ k x, l[k]? = some x → (x < j ↔ k < cntLt l j) := by
  induction l with
  | nil => intro k x hx; simp at hx
  | cons y r ih =>
    obtain ⟨h1, h2⟩ := List.pairwise_cons.1 h
    have ih := ih h2
    have e : cntLt (y :: r) j = cntLt r j + (if y < j then 1 else 0) := by simp [cntLt, List.countP_cons]
    intro k x hx
    rw [e]
    by_cases hy : y < j
    · rw [if_pos hy]
      cases k with
      | zero => simp at hx; subst hx; simp [hy]
      | succ k => rw [List.getElem?_cons_succ] at hx; rw [ih k x hx]; omega
    · rw [if_neg hy, cntLt_none (fun z hz => by have := h1 z hz; omega)]
      cases k with
      | zero => simp at hx; subst hx; simp [hy]
      | succ k =>
        rw [List.getElem?_cons_succ] at hx
        have := h1 x (List.mem_of_getElem? hx)
        constructor
        · intro q; omega
        · intro q; omega
set_option maxHeartbeats 400000 in
theorem nan_s (x : Int) (w : World) : Calls Try.prog 49 #[.int .i64 x] w fun e w' => e = .returned (.bool false) ∧ w = w' := by
  go_enter Try.func49, Try.ntmps49
  go_wp2
  go_ret
  exact ⟨rfl, rfl⟩
set_option maxHeartbeats 400000 in
theorem nan_c (x : Int) (w : World) : Calls Try.prog 50 #[.int .i64 x] w fun e w' => e = .returned (.bool false) ∧ w = w' := by
  go_enter Try.func50, Try.ntmps50
  go_wp2
  go_ret
  exact ⟨rfl, rfl⟩
set_option maxHeartbeats 400000 in
theorem less_any (x y : Int) (w : World) : Calls Try.prog 48 #[.int .i64 x, .int .i64 y] w fun e w' => e = .returned (.bool (decide (x < y))) ∧ w = w' := by
  go_enter Try.func48, Try.ntmps48
  go_wp2_with (go_at_call 50; refine (nan_c _ _).mono ?_; rintro e w' ⟨rfl, rfl⟩)
  go_ret
  exact ⟨rfl, rfl⟩
def FoundE (r : Nat) (w : World) (e : Ending) (w' : World) : Prop := ∃ b, e = .returned (.tuple #[.int .i64 r, .bool b]) ∧ w = w'
set_option maxHeartbeats 2000000 in
theorem search_any (a : Option Addr) (cap : Nat) (l : List Nat) (j : Nat) (w : World) (h : RowOf .i64 w w.heap.size a (ofN l)) (hl : l.length ≤ 1000000) (hs : l.Pairwise (· < ·)) :
    Calls Try.prog 47 #[.slice a l.length cap, .int .i64 j] w (FoundE (cntLt l j) w) := by
  have HR := Lib.hid h
  have HS := Lib.hid (rise_lt hs j)
  have hle := cntLt_le l j
  generalize cntLt l j = r at *
  clear h hs
  go_enter Try.func47, Try.ntmps47
  go_wp2
  go_loop [7, 8] (fun i k => ∃ p q : Nat, p ≤ r ∧ r ≤ q ∧ q ≤ l.length ∧ i = .int .i64 p ∧ k = .int .i64 q) (fun i k => (intOf k).toNat - (intOf i).toNat)
  case atStart => exact ⟨0, l.length, Nat.zero_le _, hle, Nat.le_refl _, rfl, rfl⟩
  case round =>
    obtain ⟨p, q, hp, hq, hn, rfl, rfl⟩ := hrel
    by_cases hlt : p < q
    · obtain ⟨x, hx⟩ := at_lt (l := l) (k := (p + q) / 2) (by omega)
      obtain ⟨g, off, rfl, hg, hc⟩ := HR.out _ x (ofN_at hx)
      have HX := HS.out _ x hx
      clear hx
      have hlt' : (p : Int) < (q : Int) := by omega
      have hm' : (p + q) / 2 < l.length := by omega
      have hm'' : ((p : Int) + q) / 2 < (l.length : Int) := by omega
      by_cases hxj : x < j
      · have hxj' : decide ((x : Int) < (j : Int)) = true := decide_eq_true (by omega)
        have hmr := HX.1 hxj
        clear HX
        go_wp2_with (go_at_call 48; refine (less_any _ _ _).mono ?_; rintro e w' ⟨rfl, rfl⟩)
        go_round
        case rel => exact ⟨(p + q) / 2 + 1, q, by omega, hq, hn, by go_num, rfl⟩
        case measure => simp [intOf]; omega
      · have hxj' : decide ((x : Int) < (j : Int)) = false := decide_eq_false (by omega)
        have hmr := mt HX.2 hxj
        clear HX
        go_wp2_with (go_at_call 48; refine (less_any _ _ _).mono ?_; rintro e w' ⟨rfl, rfl⟩)
        go_round
        case rel => exact ⟨p, (p + q) / 2, hp, by omega, by omega, rfl, by go_num⟩
        case measure => simp [intOf]; omega
    · obtain rfl : p = q := by omega
      obtain rfl : p = r := by omega
      by_cases hpl : p < l.length
      · obtain ⟨x, hx⟩ := at_lt (l := l) hpl
        obtain ⟨g, off, rfl, hg, hc⟩ := HR.out _ x (ofN_at hx)
        have hpl' : (p : Int) < (l.length : Int) := by omega
        by_cases hxj : (x : Int) = (j : Int)
        · have hxj' : ((x : Int) == (j : Int)) = true := by simpa using hxj
          go_wp2_with (go_at_call 49; refine (nan_s _ _).mono ?_; rintro e w' ⟨rfl, rfl⟩)
          go_ret2
          exact ⟨_, rfl, rfl⟩
        · have hxj' : ((x : Int) == (j : Int)) = false := by simpa using hxj
          go_wp2_with (go_at_call 49; refine (nan_s _ _).mono ?_; rintro e w' ⟨rfl, rfl⟩)
          go_ret2
          exact ⟨_, rfl, rfl⟩
      · have hpl' : ¬ (p : Int) < (l.length : Int) := by omega
        go_wp2_with fail
        go_ret2
        exact ⟨_, rfl, rfl⟩
set_option maxHeartbeats 400000 in
theorem below_any (a : Option Addr) (cap : Nat) (l : List Nat) (j : Nat) (w : World) (h : RowOf .i64 w w.heap.size a (ofN l)) (hl : l.length ≤ 1000000) (hs : l.Pairwise (· < ·)) :
    Calls Try.prog 45 #[.slice a l.length cap, .int .i64 j] w fun e w' => e = .returned (.int .i64 (cntLt l j)) ∧ w = w' := by
  have HR := Lib.hid h
  clear h
  go_enter Try.func45, Try.ntmps45
  go_wp2_with (go_at_call 47; refine (search_any a cap l j _ HR.out hl hs).mono ?_; rintro e w' ⟨b, rfl, rfl⟩)
  go_ret
  exact ⟨rfl, rfl⟩
end Go.Proofs.Ytkhhkjinlkpdlaa
