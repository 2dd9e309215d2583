/- The chapter's examples of package ir hold: 'known' of the laws returns true, whatever lies in memory. -/
import Derived.Test.YtfcfdneganknjaaIrSound2
namespace Go.Proofs.Ytfcfdneganknjaa
set_option linter.unusedVariables false
set_option linter.unusedSimpArgs false
open Go.RowKit

theorem k_found : foundN ⟨#[112, 111, 108, 108]⟩ = 22 ∧ foundB ⟨#[112, 111, 108, 108]⟩ = true := by decide
def noProg : ProgD := ⟨0, 0, 0, [], 0, 0, []⟩
def oneProg : ProgD := ⟨0, 0, 0, [], 0, 0, [[]]⟩
theorem noProg_in (w : World) (B : Nat) : ProgIn w B noProg none none := ⟨fun i x h => by simp [noProg] at h, fun i x h => by simp [noProg] at h, by decide, by decide⟩
theorem oneProg_in (w : World) (B g : Nat) (hg : g < B) (h : w.cell? ⟨g, 0, none⟩ = some (.slice none 0 0)) : ProgIn w B oneProg none (some ⟨g, 0, none⟩) := by
  refine ⟨fun i x h => by simp [oneProg] at h, fun i c hc => ?_, by decide, by decide⟩
  match i, hc with
  | 0, hc => cases hc; exact ⟨g, 0, rfl, hg, none, 0, h, fun k x hx => by simp at hx⟩
  | i + 1, hc => simp [oneProg] at hc
theorem k_none (w : World) : Calls Try.prog 39 #[.agg #[.int .i64 0, .int .i64 0, .int .i64 0, .slice none 0 0, .int .i64 0, .int .i64 0, .slice none 0 0]] w fun e w' => e = .returned (.int .u16 3) ∧ Below w.heap.size w w' :=
  sound_any noProg none 0 none 0 w (noProg_in _ _)
theorem k_one (w : World) (g cap : Nat) (hg : g < w.heap.size) (h : w.cell? ⟨g, 0, none⟩ = some (.slice none 0 0)) : Calls Try.prog 39 #[.agg #[.int .i64 0, .int .i64 0, .int .i64 0, .slice none 0 0, .int .i64 0, .int .i64 0, .slice (some ⟨g, 0, none⟩) 1 cap]] w fun e w' => e = .returned (.int .u16 0) ∧ Below w.heap.size w w' :=
  sound_any oneProg none 0 (some ⟨g, 0, none⟩) cap w (oneProg_in _ _ g hg h)

end Go.Proofs.Ytfcfdneganknjaa
