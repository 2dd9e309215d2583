/- What Find of package ir returns, for every name. -/
import Derived.Test.YtpmfolgihdmcjaaIrRegs
import Derived.Maps.Own
import Derived.Maps.OwnOps
import Derived.Maps.OwnSet
import Derived.Maps.Views
namespace Go.Proofs.Ytpmfolgihdmcjaa
set_option linter.unusedVariables false
set_option linter.unusedSimpArgs false
open Go.RowKit Go.WideMaps Go.Maps

/-- The last instruction below n of a name. -/
def lastOf (s : List UInt8) : Nat → Option Nat
  | 0 => none
  | k + 1 => if (rowAt k).name.data.toList = s then some k else lastOf s k
/-- The map behind n rounds. -/
def findD : Nat → DataW Unit
  | 0 => .map []
  | k + 1 => (findD k).put (.string (rowAt k).name.data.toList) (.lit (.int .u8 k))
theorem findD_map : ∀ k, IsMap (findD k)
  | 0 => isMap_empty
  | k + 1 => (findD_map k).put _ _
theorem key_lit {s : List UInt8} : WideAt.IsKeyLit (.string s) := by simp [WideAt.IsKeyLit]
theorem findD_at (s : List UInt8) (z : DataW Unit) : ∀ k, (findD k).atKey (.string s) z = match lastOf s k with | some i => .lit (.int .u8 i) | none => z
  | 0 => rfl
  | k + 1 => by
    unfold findD lastOf
    by_cases h : (rowAt k).name.data.toList = s
    · rw [if_pos h, ← h]; exact atKey_put_same (findD_map k) key_lit _ _
    · rw [if_neg h, atKey_put_other (fun e => h (by cases e; rfl))]; exact findD_at s z k
theorem findD_has (s : List UInt8) : ∀ k, Maps.has (findD k) (.string s) = (lastOf s k).isSome
  | 0 => rfl
  | k + 1 => by
    unfold findD lastOf
    by_cases h : (rowAt k).name.data.toList = s
    · rw [if_pos h, ← h]; exact has_put_same (findD_map k) key_lit _
    · rw [if_neg h, has_put_other (fun e => h (by cases e; rfl))]; exact findD_has s k
/-- The number that Find tells. -/
def foundN (s : ByteArray) : Nat := (lastOf s.data.toList 28).getD 0
def foundB (s : ByteArray) : Bool := (lastOf s.data.toList 28).isSome
theorem found_num {s : ByteArray} {c : Int} (h : (findD 28).atKey (.string s.data.toList) (.lit (.int .u8 0)) = .lit (.int .u8 c)) : c = (foundN s : Int) := by
  rw [findD_at] at h
  unfold foundN
  cases hl : lastOf s.data.toList 28 with
  | none => rw [hl] at h; cases h; rfl
  | some i => rw [hl] at h; cases h; rfl

theorem law_string : Keyed Try.prog 9 := string_keyed Try.underlying9
theorem zero_u8 (w : World) : (zeroValue 5).run Try.prog w = .ok (.int .u8 0) w := by kernel_rfl
theorem name_small : (List.range 28).all (fun k => decide ((rowAt k).name.size ≤ 100)) = true := by decide
theorem name_len (k : Nat) (h : k < 28) : (rowAt k).name.size ≤ maxLen := by
  have := List.all_eq_true.1 name_small k (by simpa using h)
  have : (rowAt k).name.size ≤ 100 := by simpa using this
  unfold maxLen; omega
theorem map_later {w w' : World} {P : Program} {k : TypeId} {R : Value → Option (DataW Unit × List MemPlace)} {b n : Nat} {D : DataW Unit} (h : w.ownsMap P k R b n D) (hB : Below w.heap.size w w') : w'.ownsMap P k R b n D := by
  have hlt := h.lt
  obtain ⟨es, clock, hb, F, hs, hD⟩ := h
  exact ⟨es, clock, (hB.block b hlt).trans hb, F, hs, hD⟩
theorem run_index_row (kd : IntKind) (k : Nat) (h : k < 28) (u : World) : (Instr.index 71 (.agg tabCells.toArray) (.int kd k)).run Try.prog u = .ok (.agg #[.string (rowAt k).name, .int .u8 (rowAt k).a, .int .u8 (rowAt k).b, .int .u8 (rowAt k).c, .bool (rowAt k).plain, .bool (rowAt k).acq, .bool (rowAt k).rel]) u := run_index_tab kd k h u

set_option maxHeartbeats 2000000 in
theorem find_any (s : ByteArray) (w : World) (hs : s.size ≤ maxLen) :
    Calls Try.prog 27 #[.string s] w fun e w' => e = .returned (.tuple #[.int .u8 (foundN s : Nat), .bool (foundB s)]) ∧ Below w.heap.size w w' := by
  have hmm := @run_makeMap Try.prog
  have hkey := keyOf_string_mk Try.underlying9 hs
  have HB := Lib.hid (findD_has s.data.toList 28)
  go_enter Try.func27, Try.ntmps27
  go_wp2_with (first
    | (go_at_call 43; refine (table_any _).mono ?_; rintro e w1 ⟨rfl, hB1⟩))
  have hm1 : w1.ownsMap Try.prog 9 (plainElem Try.prog 5) w.heap.size 0 (findD 0) := map_later (World.ownsMap_made _ _ _ _) hB1
  have hb1 : Below w.heap.size w w1 := ((Below.refl _ _).alloc (Nat.le_refl _) _).trans (hB1.mono (by simp))
  clear hB1
  go_loopw [11] (fun i wr => ∃ k : Nat, k ≤ 28 ∧ i = .int .i64 k ∧ wr.ownsMap Try.prog 9 (plainElem Try.prog 5) w.heap.size k (findD k) ∧ Below w.heap.size w wr) (fun i _ => 28 - (intOf i).toNat)
  case atStart => exact ⟨0, Nat.zero_le _, rfl, hm1, hb1⟩
  case round =>
    obtain ⟨k, hk, rfl, hown, hnx⟩ := hrel
    by_cases hlt : k < 28
    · have hi := run_index_row .i64 k hlt
      have hkk := keyOf_string_mk Try.underlying9 (name_len k hlt)
      have HD := Lib.hid (show (findD k).put (.string (rowAt k).name.data.toList) (.lit (.int .u8 k)) = findD (k + 1) from rfl)
      have hw8 := WalkArith.wf_u8 (n := k) (by omega)
      generalize rowAt k = r at *
      go_wp2_with (first
        | (at_mapUpdate; refine wpList_mapUpdate_own _ rfl _ _ _ 70 rfl 9 5 law_string Try.underlying70 _ w.heap.size k _ rfl (hown.alloc _) (by unfold maxLen; omega) _ _ _ rfl rfl hkk _ [] (plainElem_int Try.underlying5 hw8) ?_; intro w2 hown2 hgrow2))
      have R1 := Lib.hid (HD.out ▸ hown2)
      have R2 := Lib.hid ((hnx.alloc hnx.size _).grown hgrow2 (by have := hnx.size; simp; omega) (fun j hj => by cases hj; exact Nat.le_refl _))
      clear hown2 hgrow2 hown hnx
      go_wp2
      go_roundw
      case rel => exact ⟨k + 1, by omega, by go_num, R1.out, R2.out⟩
      case measure => simp [intOf]; omega
    · obtain rfl : k = 28 := by omega
      go_wp2_with (first
        | (at_lookup; refine wpList_lookup_own_ok_int _ rfl _ _ 70 rfl 9 5 .u8 law_string Try.underlying70 Try.underlying5 (zero_u8 _) w.heap.size 28 _ rfl hown _ _ rfl hkey ?_; intro c hat hwc; obtain rfl := found_num hat; clear hat))
      rw [HB.out]
      go_ret2
      exact ⟨rfl, hnx⟩

end Go.Proofs.Ytpmfolgihdmcjaa
