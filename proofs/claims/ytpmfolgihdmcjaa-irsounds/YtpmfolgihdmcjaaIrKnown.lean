/- The chapter's examples of package ir hold: 'known' of the laws returns true, whatever lies in memory. -/
import Derived.Test.YtpmfolgihdmcjaaIrSound2
namespace Go.Proofs.Ytpmfolgihdmcjaa
set_option linter.unusedVariables false
set_option linter.unusedSimpArgs false
open Go.RowKit

theorem k_name (w : World) : Calls Try.prog 21 #[.int .u8 8] w fun e w' => e = .returned (.tuple #[.string ⟨#[115, 116, 111, 114, 101]⟩, .int .i64 2]) ∧ Below w.heap.size w w' := name_any 8 w
theorem k_found : foundN ⟨#[112, 111, 108, 108]⟩ = 22 ∧ foundB ⟨#[112, 111, 108, 108]⟩ = true := by decide
theorem k_find (w : World) : Calls Try.prog 27 #[.string ⟨#[112, 111, 108, 108]⟩] w fun e w' => e = .returned (.tuple #[.int .u8 22, .bool true]) ∧ Below w.heap.size w w' := by
  have := find_any ⟨#[112, 111, 108, 108]⟩ w (by decide)
  rw [k_found.1, k_found.2] at this; exact this
theorem k_uses (w : World) : Calls Try.prog 23 #[.agg #[.int .u8 3, .int .i64 0, .int .i64 1, .int .i64 2]] w fun e w' => e = .returned (.int .u64 6) ∧ Below w.heap.size w w' := uses_any ⟨3, 0, 1, 2⟩ w
theorem k_sets (w : World) : Calls Try.prog 25 #[.agg #[.int .u8 3, .int .i64 0, .int .i64 1, .int .i64 2]] w fun e w' => e = .returned (.int .u64 1) ∧ Below w.heap.size w w' := sets_any ⟨3, 0, 1, 2⟩ w
def noProg : ProgD := ⟨0, 0, 0, [], 0, 0, []⟩
def oneProg : ProgD := ⟨0, 0, 0, [], 0, 0, [[]]⟩
theorem noProg_in (w : World) (B : Nat) : ProgIn w B noProg none none := ⟨fun i x h => by simp [noProg] at h, fun i x h => by simp [noProg] at h, by decide, by decide⟩
theorem oneProg_in (w : World) (B g : Nat) (hg : g < B) (h : w.cell? ⟨g, 0, none⟩ = some (.slice none 0 0)) : ProgIn w B oneProg none (some ⟨g, 0, none⟩) := by
  refine ⟨fun i x h => by simp [oneProg] at h, fun i c hc => ?_, by decide, by decide⟩
  match i, hc with
  | 0, hc => cases hc; exact ⟨g, 0, rfl, hg, none, 0, h, fun k x hx => by simp at hx⟩
  | i + 1, hc => simp [oneProg] at hc
theorem k_none (w : World) : Calls Try.prog 12 #[.agg #[.int .i64 0, .int .i64 0, .int .i64 0, .slice none 0 0, .int .i64 0, .int .i64 0, .slice none 0 0]] w fun e w' => e = .returned (.int .u16 3) ∧ Below w.heap.size w w' :=
  sound_any noProg none 0 none 0 w (noProg_in _ _)
theorem k_one (w : World) (g cap : Nat) (hg : g < w.heap.size) (h : w.cell? ⟨g, 0, none⟩ = some (.slice none 0 0)) : Calls Try.prog 12 #[.agg #[.int .i64 0, .int .i64 0, .int .i64 0, .slice none 0 0, .int .i64 0, .int .i64 0, .slice (some ⟨g, 0, none⟩) 1 cap]] w fun e w' => e = .returned (.int .u16 0) ∧ Below w.heap.size w w' :=
  sound_any oneProg none 0 (some ⟨g, 0, none⟩) cap w (oneProg_in _ _ g hg h)
theorem k_plain (w : World) : Calls Try.prog 15 #[.int .u8 7] w fun e w' => e = .returned (.bool true) ∧ Below w.heap.size w w' := plain_any 7 w
theorem k_acquire (w : World) : Calls Try.prog 17 #[.int .u8 13] w fun e w' => e = .returned (.bool true) ∧ Below w.heap.size w w' := acquire_any 13 w
theorem k_release (w : World) : Calls Try.prog 19 #[.int .u8 14] w fun e w' => e = .returned (.bool true) ∧ Below w.heap.size w w' := release_any 14 w

set_option maxHeartbeats 2000000 in
theorem known_any (w : World) : Calls Try.prog 11 #[] w fun e W' => e = .returned (.bool true) ∧ Below w.heap.size w W' := by
  go_enter Try.func11, Try.ntmps11
  go_wp2_with fail
  refine (k_name _).mono ?_
  rintro e w1 ⟨rfl, hB1⟩
  go_wp2_with fail
  refine (k_find _).mono ?_
  rintro e w2 ⟨rfl, hB2⟩
  go_wp2_with fail
  refine (k_uses _).mono ?_
  rintro e w3 ⟨rfl, hB3⟩
  go_wp2_with fail
  refine (k_sets _).mono ?_
  rintro e w4 ⟨rfl, hB4⟩
  go_wp2_with fail
  refine (k_none _).mono ?_
  rintro e w5 ⟨rfl, hB5⟩
  go_wp2_with fail
  refine (k_one _ _ _ (by simp) (by simp)).mono ?_
  rintro e w6 ⟨rfl, hB6⟩
  go_wp2_with fail
  refine (k_plain _).mono ?_
  rintro e w7 ⟨rfl, hB7⟩
  go_wp2_with fail
  refine (k_acquire _).mono ?_
  rintro e w8 ⟨rfl, hB8⟩
  go_wp2_with fail
  refine (k_release _).mono ?_
  rintro e w9 ⟨rfl, hB9⟩
  go_wp2_with fail
  go_ret
  have h5 := below_next (below_next (below_next (below_next hB1 hB2) hB3) hB4) hB5
  have h6 := below_new h5 (.cells #[.slice none 0 0] 28)
  exact ⟨rfl, below_next (below_next (below_next (h6.trans (hB6.mono (by have := h5.size; simp; omega))) hB7) hB8) hB9⟩

end Go.Proofs.Ytpmfolgihdmcjaa
