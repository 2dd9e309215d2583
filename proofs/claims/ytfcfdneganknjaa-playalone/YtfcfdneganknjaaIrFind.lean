/- What Find of package ir returns, for every name. -/
import Derived.Test.YtfcfdneganknjaaIrRegs
import Derived.Maps.Own
import Derived.Maps.OwnOps
import Derived.Maps.OwnSet
import Derived.Maps.Views
namespace Go.Proofs.Ytfcfdneganknjaa
set_option linter.unusedVariables false
set_option linter.unusedSimpArgs false
open Go.RowKit Go.WideMaps Go.Maps

/-- The last instruction below n of a name. -/
def lastOf (s : List UInt8) : Nat → Option Nat
  | 0 => none
  | k + 1 => if (rowAt k).name.data.toList = s then some k else lastOf s k
/-- The map behind n rounds. -/
def findD : Nat → DataW Unit
  | 0 => .map []
  | k + 1 => (findD k).put (.string (rowAt k).name.data.toList) (.lit (.int .u8 k))
theorem findD_map : ∀ k, IsMap (findD k)
  | 0 => isMap_empty
  | k + 1 => (findD_map k).put _ _
theorem key_lit {s : List UInt8} : WideAt.IsKeyLit (.string s) := by simp [WideAt.IsKeyLit]
theorem findD_at (s : List UInt8) (z : DataW Unit) : ∀ k, (findD k).atKey (.string s) z = match lastOf s k with | some i => .lit (.int .u8 i) | none => z
  | 0 => rfl
  | k + 1 => by
    unfold findD lastOf
    by_cases h : (rowAt k).name.data.toList = s
    · rw [if_pos h, ← h]; exact atKey_put_same (findD_map k) key_lit _ _
    · rw [if_neg h, atKey_put_other (fun e => h (by cases e; rfl))]; exact findD_at s z k
theorem findD_has (s : List UInt8) : ∀ k, Maps.has (findD k) (.string s) = (lastOf s k).isSome
  | 0 => rfl
  | k + 1 => by
    unfold findD lastOf
    by_cases h : (rowAt k).name.data.toList = s
    · rw [if_pos h, ← h]; exact has_put_same (findD_map k) key_lit _
    · rw [if_neg h, has_put_other (fun e => h (by cases e; rfl))]; exact findD_has s k
/-- The number that Find tells. -/
def foundN (s : ByteArray) : Nat := (lastOf s.data.toList 28).getD 0
def foundB (s : ByteArray) : Bool := (lastOf s.data.toList 28).isSome
theorem found_num {s : ByteArray} {c : Int} (h : (findD 28).atKey (.string s.data.toList) (.lit (.int .u8 0)) = .lit (.int .u8 c)) : c = (foundN s : Int) := by
  rw [findD_at] at h
  unfold foundN
  cases hl : lastOf s.data.toList 28 with
  | none => rw [hl] at h; cases h; rfl
  | some i => rw [hl] at h; cases h; rfl

theorem law_string : Keyed Try.prog 9 := string_keyed Try.underlying9
theorem zero_u8 (w : World) : (zeroValue 5).run Try.prog w = .ok (.int .u8 0) w := by kernel_rfl
theorem name_small : (List.range 28).all (fun k => decide ((rowAt k).name.size ≤ 100)) = true := by decide
theorem name_len (k : Nat) (h : k < 28) : (rowAt k).name.size ≤ maxLen := by
  have := List.all_eq_true.1 name_small k (by simpa using h)
  have : (rowAt k).name.size ≤ 100 := by simpa using this
  unfold maxLen; omega
theorem map_later {w w' : World} {P : Program} {k : TypeId} {R : Value → Option (DataW Unit × List MemPlace)} {b n : Nat} {D : DataW Unit} (h : w.ownsMap P k R b n D) (hB : Below w.heap.size w w') : w'.ownsMap P k R b n D := by
  have hlt := h.lt
  obtain ⟨es, clock, hb, F, hs, hD⟩ := h
  exact ⟨es, clock, (hB.block b hlt).trans hb, F, hs, hD⟩
theorem run_index_row (kd : IntKind) (k : Nat) (h : k < 28) (u : World) : (Instr.index 145 (.agg tabCells.toArray) (.int kd k)).run Try.prog u = .ok (.agg #[.string (rowAt k).name, .int .u8 (rowAt k).a, .int .u8 (rowAt k).b, .int .u8 (rowAt k).c, .bool (rowAt k).plain, .bool (rowAt k).acq, .bool (rowAt k).rel]) u := run_index_tab kd k h u


end Go.Proofs.Ytfcfdneganknjaa
