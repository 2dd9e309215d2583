/- The chapter's examples hold: 'known' returns true, whatever lies in memory. -/
import Derived.Test.YtjkdanfpejfplaaBitsRows
namespace Go.Proofs.Ytjkdanfpejfplaa
set_option linter.unusedVariables false
set_option linter.unusedSimpArgs false
open Go.RowKit

theorem k_nums : numsTo 22 64 = [1, 2, 4] := by decide
theorem k_list (w : World) : Calls Try.prog 19 #[.int .u64 22] w fun e W' => ∃ g cap, e = .returned (.slice (some ⟨g, 0, none⟩) 3 cap) ∧ W'.cell? ⟨g, 1, none⟩ = some (.int .i64 2) ∧ Below w.heap.size w W' := by
  refine (list_any 22 w (by decide)).mono ?_
  rintro e W' ⟨v, rfl, hrow, hB⟩
  rw [k_nums] at hrow
  obtain ⟨a, cap, rfl, hn, hr⟩ := RowOf.own hrow
  obtain ⟨b, off, rfl, _, hc⟩ := hr 1 2 rfl
  rcases hrow.2 with ⟨h, _⟩ | ⟨g, cap', cur, h, _⟩
  · cases h
  · cases h
    exact ⟨_, _, rfl, by simpa using hc, hB⟩
theorem k_first (m r : Int) (w : World) (h : firstOf (numsTo 22 64) m = r) : Calls Try.prog 16 #[.int .u64 22, .int .i64 m] w fun e W' => e = .returned (.int .i64 r) ∧ Below w.heap.size w W' := by
  rw [← h]; exact first_any 22 m w (by decide)
theorem k_all (w : World) : Calls Try.prog 15 #[.int .i64 3] w fun e w' => e = .returned (.int .u64 7) ∧ w = w' := all_any 3 w
theorem k_has (m : Int) (b : Bool) (w : World) (h : hasB 22 m = b) : Calls Try.prog 14 #[.int .u64 22, .int .i64 m] w fun e w' => e = .returned (.bool b) ∧ w = w' := by
  rw [← h]; exact has_any 22 m w (by decide)
theorem k_count (w : World) : Calls Try.prog 20 #[.int .u64 22] w fun e W' => e = .returned (.int .i64 3) ∧ Below w.heap.size w W' := by
  have := count_any 22 w (by decide)
  rw [k_nums] at this; exact this
theorem row_two (w : World) (g : Nat) (x y : Int) (h0 : w.cell? ⟨g, 0, none⟩ = some (.int .i64 x)) (h1 : w.cell? ⟨g, 1, none⟩ = some (.int .i64 y)) : RowOf .i64 w (g + 1) (some ⟨g, 0, none⟩) [x, y] := by
  intro i z hz
  match i, hz with
  | 0, hz => simp at hz; subst hz; exact ⟨g, 0, rfl, by omega, h0⟩
  | 1, hz => simp at hz; subst hz; exact ⟨g, 0, rfl, by omega, h1⟩
theorem k_with (w : World) (g : Nat) (h0 : w.cell? ⟨g, 0, none⟩ = some (.int .i64 1)) (h1 : w.cell? ⟨g, 1, none⟩ = some (.int .i64 2)) :
    Calls Try.prog 12 #[.int .u64 0, .slice (some ⟨g, 0, none⟩) 2 2] w fun e w' => e = .returned (.int .u64 6) ∧ w = w' :=
  with_any 0 _ 2 [1, 2] _ w (by decide) (row_two w g 1 2 h0 h1) (by decide)
theorem k_without (w : World) (g : Nat) (h0 : w.cell? ⟨g, 0, none⟩ = some (.int .i64 1)) (h1 : w.cell? ⟨g, 1, none⟩ = some (.int .i64 4)) :
    Calls Try.prog 13 #[.int .u64 22, .slice (some ⟨g, 0, none⟩) 2 2] w fun e w' => e = .returned (.int .u64 4) ∧ w = w' :=
  without_any 22 _ 2 [1, 4] _ w (by decide) (row_two w g 1 4 h0 h1) (by decide)

set_option maxHeartbeats 1000000 in
theorem known_any (w : World) : Calls Try.prog 11 #[] w fun e W' => e = .returned (.bool true) ∧ Below w.heap.size w W' := by
  go_enter Try.func11, Try.ntmps11
  go_wp2_with fail
  refine (k_list _).mono ?_
  rintro e w1 ⟨g, cap, rfl, hc, hB1⟩
  go_wp2_with fail
  refine (k_first 3 4 _ (by decide)).mono ?_
  rintro e w2 ⟨rfl, hB2⟩
  go_wp2_with fail
  refine (k_first 5 (-1) _ (by decide)).mono ?_
  rintro e w3 ⟨rfl, hB3⟩
  go_wp2_with fail
  refine (k_all _).mono ?_
  rintro e w4 ⟨rfl, rfl⟩
  go_wp2_with fail
  refine (k_has 1 true _ (by decide)).mono ?_
  rintro e w5 ⟨rfl, rfl⟩
  go_wp2_with fail
  refine (k_has 0 false _ (by decide)).mono ?_
  rintro e w6 ⟨rfl, rfl⟩
  go_wp2_with fail
  refine (k_count _).mono ?_
  rintro e w7 ⟨rfl, hB7⟩
  go_wp2_with fail
  refine (k_with _ _ (by simp) (by simp)).mono ?_
  rintro e w8 ⟨rfl, rfl⟩
  go_wp2_with fail
  refine (k_without _ _ (by simp) (by simp)).mono ?_
  rintro e w9 ⟨rfl, rfl⟩
  go_wp2_with fail
  go_ret
  have h2 := hB2.mono hB1.size
  have h3 := hB3.mono (Nat.le_trans hB1.size hB2.size)
  have h7 := hB7.mono (Nat.le_trans hB1.size (Nat.le_trans hB2.size hB3.size))
  have hz := (((hB1.trans h2).trans h3).trans h7)
  exact ⟨rfl, (hz.alloc hz.size _).alloc (by have := hz.size; simp; omega) _⟩

theorem u64_in {a : Int} (h : (Lit.int .u64 a).wf = true) : ∃ s : Nat, a = (s : Int) ∧ s < U := by
  obtain ⟨h0, h1⟩ := bounds_u64 h
  exact ⟨a.toNat, by omega, by unfold U; omega⟩

end Go.Proofs.Ytjkdanfpejfplaa
