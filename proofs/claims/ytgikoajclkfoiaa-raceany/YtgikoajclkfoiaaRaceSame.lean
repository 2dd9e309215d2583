/- The document's comparison of two rows of races. -/
import Derived.Test.YtgikoajclkfoiaaRaceKnown2
namespace Go.Proofs.Ytgikoajclkfoiaa
set_option linter.unusedVariables false
set_option linter.unusedSimpArgs false
set_option maxRecDepth 100000
open Go.ChangeShapes Go.WideShapes Go.ChangeAt Go.RowKit Go.Maps

/-- Races that lie in a row. -/
def RcIn (w : World) (a : Option Addr) (L : List (Int × Int)) : Prop := ∀ k x, L[k]? = some x → ∃ g, a = some ⟨g, 0, none⟩ ∧ g < w.heap.size ∧ w.cell? ⟨g, k * 2, none⟩ = some (.int .i64 x.1) ∧ w.cell? ⟨g, k * 2 + 1, none⟩ = some (.int .i64 x.2)
theorem RcIn.later {w w' : World} {a : Option Addr} {L : List (Int × Int)} (h : RcIn w a L) (hB : Below w.heap.size w w') : RcIn w' a L := fun k x hk => by
  obtain ⟨g, e, hg, c0, c1⟩ := h k x hk
  exact ⟨g, e, Nat.lt_of_lt_of_le hg hB.size, (hB.cell (p := ⟨g, k * 2, none⟩) hg).trans c0, (hB.cell (p := ⟨g, k * 2 + 1, none⟩) hg).trans c1⟩
theorem RcIn.front {w : World} {a : Option Addr} {L M : List (Int × Int)} (h : RcIn w a (L ++ M)) : RcIn w a L := fun k x hk => h k x (by
  rw [List.getElem?_append_left (List.getElem?_eq_some_iff.1 hk).1]; exact hk)
theorem rcCells_at : ∀ (L : List (Int × Int)) (k : Nat) (x : Int × Int), L[k]? = some x → (rcCells L)[k * 2]? = some (.int .i64 x.1) ∧ (rcCells L)[k * 2 + 1]? = some (.int .i64 x.2)
  | [], k, x, h => by simp at h
  | y :: r, 0, x, h => by simp at h; subst h; simp [rcCells]
  | y :: r, k + 1, x, h => by
    have ih := rcCells_at r k x (by simpa using h)
    have e1 : (k + 1) * 2 = k * 2 + 1 + 1 := by omega
    have e2 : (k + 1) * 2 + 1 = k * 2 + 1 + 1 + 1 := by omega
    rw [e2, e1]
    simpa [rcCells] using ih
theorem rcIn_own {V : World} {base : Nat} {v : Value} {L : List (Int × Int)} (h : V.ownsRow base 43 2 v L.length (rcCells L)) :
    ∃ a cap, v = .slice a L.length cap ∧ L.length ≤ cap ∧ RcIn V a L := by
  rcases h.2 with ⟨rfl, h0⟩ | ⟨g, cap, cur, rfl, hb, hh, hle, hcap, hsz, ht⟩
  · refine ⟨none, 0, by rw [h0], by omega, fun k x hk => ?_⟩
    have := (List.getElem?_eq_some_iff.1 hk).1
    omega
  · refine ⟨some ⟨g, 0, none⟩, cap, rfl, hle, fun k x hk => ?_⟩
    have hkl := (List.getElem?_eq_some_iff.1 hk).1
    obtain ⟨r0, r1⟩ := rcCells_at L k x hk
    refine ⟨g, rfl, (Array.getElem?_eq_some_iff.1 hh).1, ?_, ?_⟩
    · rw [cell_of_row _ _ _ _ _ _ hh, ← r0, ← ht, List.getElem?_take_of_lt (by omega)]; simp
    · rw [cell_of_row _ _ _ _ _ _ hh, ← r1, ← ht, List.getElem?_take_of_lt (by omega)]; simp
set_option maxHeartbeats 1000000 in
theorem same8_yes (a b : Option Addr) (ca cb : Nat) (l : List (Int × Int)) (w : World) (ha : RcIn w a l) (hb : RcIn w b l) (hl : l.length ≤ 1000000) :
    Calls Try.prog 12 #[.slice a l.length ca, .slice b l.length cb] w fun e w' => e = .returned (.bool true) ∧ ∃ n, w' = w.drewN n := by
  have hne : ((l.length : Int) != (l.length : Int)) = false := by simp
  go_enter Try.func12, Try.ntmps12
  go_wp2
  go_loopw [5] (fun i wr => ∃ k n : Nat, k ≤ l.length ∧ i = .int .i64 k ∧ wr = w.drewN n) (fun i _ => l.length - (intOf i).toNat)
  case atStart => exact ⟨0, 0, Nat.zero_le _, rfl, rfl⟩
  case round =>
    obtain ⟨k, n, hk, rfl, rfl⟩ := hrel
    by_cases hlt : k < l.length
    · obtain ⟨x, hx⟩ := at_lt hlt
      obtain ⟨b1, rfl, _, hc1, hd1⟩ := ha k x hx
      obtain ⟨b2, rfl, _, hc2, hd2⟩ := hb k x hx
      obtain ⟨x, y⟩ := x
      simp only at hc1 hd1 hc2 hd2
      clear hx
      have hlt' : (k : Int) < (l.length : Int) := by omega
      have hxx : (x != x) = false := by simp
      have hyy : (y != y) = false := by simp
      have hx2 : (x == x) = true := by simp
      have hy2 : (y == y) = true := by simp
      go_wp2
      go_quiet (fail)
      go_wp2
      go_roundw
      case rel => exact ⟨k + 1, _, by omega, by go_num, rfl⟩
      case measure => simp [intOf]; omega
    · obtain rfl : k = l.length := by omega
      go_wp2
      go_ret
      exact ⟨rfl, n, rfl⟩
end Go.Proofs.Ytgikoajclkfoiaa
