/- Where a state's parts lie, and what it is for two states to be alike. -/
import Derived.Test.YtfcfdneganknjaaIrSound2
import Derived.Test.YtfcfdneganknjaaOwnKit2
import Derived.BigRegion
import Derived.BigQuiet
import Derived.Deep.QuietTactic
namespace Go.Proofs.Ytfcfdneganknjaa
set_option linter.unusedVariables false
set_option linter.unusedSimpArgs false
open Go.ChangeShapes Go.WideShapes Go.ChangeAt Go.RowKit

/-- Which cells of a state hold yes or no; which hold how far a once has come. -/
def isB (i : Nat) : Bool := (decide (1 ≤ i) && decide (i ≤ 36) && decide ((i - 1) % 6 = 0)) || (decide (49 ≤ i) && decide (i ≤ 56) && decide ((i - 49) % 2 = 0)) || (decide (57 ≤ i) && decide (i ≤ 80) && decide ((i - 57) % 6 = 5)) || decide (i = 90)
def isO (i : Nat) : Bool := decide (85 ≤ i) && decide (i ≤ 88)
/-- A state's cell, by what number it stands for. -/
def valAt (i : Nat) (n : Int) : Value := if isB i then .bool (n == 1) else if isO i then .int .u8 n else .int .i64 n
theorem valAt_b {i : Nat} {n : Int} (h : isB i = true) : valAt i n = .bool (n == 1) := by simp [valAt, h]
theorem valAt_o {i : Nat} {n : Int} (h : 85 ≤ i) (h2 : i ≤ 88) : valAt i n = .int .u8 n := by
  have h1 : isB i = false := by simp [isB]; omega
  have h3 : isO i = true := by simp [isO]; omega
  simp [valAt, h1, h3]
theorem valAt_i {i : Nat} {n : Int} (h : isB i = false) (h2 : i < 85 ∨ 88 < i) : valAt i n = .int .i64 n := by
  have h3 : isO i = false := by simp [isO]; omega
  simp [valAt, h, h3]
def bitN (b : Bool) : Int := if b then 1 else 0
theorem bitN_eq (b : Bool) : (bitN b == 1) = b := by cases b <;> rfl

/-- Code at an address, in blocks from lo on and below hi. -/
def InsIn (w : World) (lo hi : Nat) (a : Option Addr) (c : List InsD) : Prop :=
  ∀ (j : Nat) (x : InsD), c[j]? = some x → ∃ g off, a = some ⟨g, off, none⟩ ∧ lo ≤ g ∧ g < hi ∧ InsAt w g (off + j * 4) x
def RowsIn (w : World) (lo hi : Nat) (a : Option Addr) (cs : List (List InsD)) : Prop :=
  ∀ (k : Nat) (c : List InsD), cs[k]? = some c → ∃ g off, a = some ⟨g, off, none⟩ ∧ lo ≤ g ∧ g < hi ∧ ∃ a' cap, w.cell? ⟨g, off + k, none⟩ = some (.slice a' c.length cap) ∧ InsIn w lo hi a' c

/-- A state: where it lies, its numbers, its code, what it told. -/
structure StIn (u : World) (b lo hi : Nat) (pv : Value) (m : Nat → Int) (code : List (List InsD)) (pr : List Int) : Prop where
  box : ∃ cs a cap, u.heap[b]? = some (.cells cs 103) ∧ cs.size = 91 ∧ cs[0]? = some (.slice a code.length cap) ∧ cs[89]? = some pv ∧ (∀ i, i < 91 → i ≠ 0 → i ≠ 89 → cs[i]? = some (valAt i (m i))) ∧ RowsIn u lo hi a code
  own : u.ownsRow hi 3 1 pv pr.length (pr.map (.int .i64 ·))
  off : b < lo ∨ hi ≤ b
  two : pv.ownBlock ≠ some b
  len : code.length ≤ 6
  lens : ∀ c ∈ code, c.length ≤ 60
  top : hi ≤ u.heap.size

theorem StIn.cell {u : World} {b lo hi : Nat} {pv : Value} {m : Nat → Int} {code : List (List InsD)} {pr : List Int} (h : StIn u b lo hi pv m code pr) (i : Nat) (hi' : i < 91) (h0 : i ≠ 0) (h9 : i ≠ 89) : u.cell? ⟨b, i, none⟩ = some (valAt i (m i)) := by
  obtain ⟨cs, a, cap, h1, h2, h3, h4, h5, h6⟩ := h.box
  rw [cell_of_row _ _ _ _ _ _ h1]; exact h5 i hi' h0 h9
theorem StIn.codeC {u : World} {b lo hi : Nat} {pv : Value} {m : Nat → Int} {code : List (List InsD)} {pr : List Int} (h : StIn u b lo hi pv m code pr) : ∃ a cap, u.cell? ⟨b, 0, none⟩ = some (.slice a code.length cap) ∧ RowsIn u lo hi a code := by
  obtain ⟨cs, a, cap, h1, h2, h3, h4, h5, h6⟩ := h.box
  exact ⟨a, cap, by rw [cell_of_row _ _ _ _ _ _ h1]; exact h3, h6⟩
theorem StIn.lt {u : World} {b lo hi : Nat} {pv : Value} {m : Nat → Int} {code : List (List InsD)} {pr : List Int} (h : StIn u b lo hi pv m code pr) : b < u.heap.size := by
  obtain ⟨cs, a, cap, h1, h2, h3, h4, h5, h6⟩ := h.box
  exact (Array.getElem?_eq_some_iff.1 h1).1
/-- Reading a state's cells, by what they are. -/
theorem StIn.on {u : World} {b lo hi : Nat} {pv : Value} {m : Nat → Int} {code : List (List InsD)} {pr : List Int} (h : StIn u b lo hi pv m code pr) (k : Nat) (hk : k < 6) : u.cell? ⟨b, 1 + k * 6, none⟩ = some (.bool (m (1 + k * 6) == 1)) := by
  rw [h.cell _ (by omega) (by omega) (by omega), valAt_b (by simp [isB]; omega)]
theorem StIn.pc {u : World} {b lo hi : Nat} {pv : Value} {m : Nat → Int} {code : List (List InsD)} {pr : List Int} (h : StIn u b lo hi pv m code pr) (k : Nat) (hk : k < 6) : u.cell? ⟨b, 1 + k * 6 + 1, none⟩ = some (.int .i64 (m (1 + k * 6 + 1))) := by
  rw [h.cell _ (by omega) (by omega) (by omega), valAt_i (by simp [isB]; omega) (by omega)]
theorem StIn.reg {u : World} {b lo hi : Nat} {pv : Value} {m : Nat → Int} {code : List (List InsD)} {pr : List Int} (h : StIn u b lo hi pv m code pr) (k r : Nat) (hk : k < 6) (hr : r < 4) : u.cell? ⟨b, 1 + k * 6 + 2 + r, none⟩ = some (.int .i64 (m (1 + k * 6 + 2 + r))) := by
  rw [h.cell _ (by omega) (by omega) (by omega), valAt_i (by simp [isB]; omega) (by omega)]
theorem StIn.trap {u : World} {b lo hi : Nat} {pv : Value} {m : Nat → Int} {code : List (List InsD)} {pr : List Int} (h : StIn u b lo hi pv m code pr) : u.cell? ⟨b, 90, none⟩ = some (.bool (m 90 == 1)) := by
  rw [h.cell _ (by omega) (by omega) (by omega), valAt_b (by simp [isB])]

/-- Whether there is a thread k. -/
def hasT (n : Nat) (k : Int) : Bool := decide (0 ≤ k) && decide (k < n)

theorem stSet_block (u : World) (b i : Nat) (v : Value) {cs : Array Value} {t : TypeId} {fr : Nat × Nat} (h : u.heap[b]? = some (.cells cs t fr)) : (u.setCell ⟨b, i, none⟩ v).heap[b]? = some (.cells (cs.setIfInBounds i v) t fr) := by
  simp [World.setCell, Array.getElem?_modify, h]
theorem stSet_four {u : World} {b : Nat} {a0 a1 a2 a3 x0 x1 x2 x3 : Value} {t : TypeId} (h : u.heap[b]? = some (.cells #[a0, a1, a2, a3] t)) :
    ((((u.setCell ⟨b, 0, none⟩ x0).setCell ⟨b, 1, none⟩ x1).setCell ⟨b, 2, none⟩ x2).setCell ⟨b, 3, none⟩ x3).heap[b]? = some (.cells #[x0, x1, x2, x3] t) := by
  rw [stSet_block _ b 3 x3 (stSet_block _ b 2 x2 (stSet_block _ b 1 x1 (stSet_block u b 0 x0 h)))]; rfl
theorem stSet_six {u : World} {b : Nat} {a0 a1 a2 a3 a4 a5 x0 x1 x2 x3 x4 x5 : Value} {t : TypeId} (h : u.heap[b]? = some (.cells #[a0, a1, a2, a3, a4, a5] t)) :
    ((((((u.setCell ⟨b, 0, none⟩ x0).setCell ⟨b, 1, none⟩ x1).setCell ⟨b, 2, none⟩ x2).setCell ⟨b, 3, none⟩ x3).setCell ⟨b, 4, none⟩ x4).setCell ⟨b, 5, none⟩ x5).heap[b]? = some (.cells #[x0, x1, x2, x3, x4, x5] t) := by
  rw [stSet_block _ b 5 x5 (stSet_block _ b 4 x4 (stSet_block _ b 3 x3 (stSet_block _ b 2 x2 (stSet_block _ b 1 x1 (stSet_block u b 0 x0 h)))))]; rfl
theorem stBelow_set {w u : World} {B b i : Nat} {v : Value} (h : Below B w u) (hb : B ≤ b) : Below B w (u.setCell ⟨b, i, none⟩ v) := h.setCell (p := ⟨b, i, none⟩) hb _
theorem info_ins4 : (Try.prog.info? 54).map (·.size) = some 4 := by kernel_rfl
theorem info_event : (Try.prog.info? 41).map (·.size) = some 6 := by kernel_rfl
end Go.Proofs.Ytfcfdneganknjaa
