/- Whether a thread of a state can go on. -/
import Derived.Test.YtfcfdneganknjaaStateFit
namespace Go.Proofs.Ytfcfdneganknjaa
set_option linter.unusedVariables false
set_option linter.unusedSimpArgs false
open Go.ChangeShapes Go.WideShapes Go.ChangeAt Go.RowKit

/-- An instruction as a value. -/
abbrev insV (op : Nat) (a b c : Int) : Value := .agg #[.int .u8 op, .int .i64 a, .int .i64 b, .int .i64 c]
abbrev insO (op : Nat) (a b c : Int) : Obj := .cells #[.int .u8 op, .int .i64 a, .int .i64 b, .int .i64 c] 54
theorem below_box (w : World) (o : Obj) : Below w.heap.size w (w.alloc o) := (Below.refl _ _).alloc (Nat.le_refl _) _
theorem below_drewN {B : Nat} {w v : World} (h : Below B w v) (n : Nat) : Below B w (v.drewN n) := below_draws h n

set_option maxHeartbeats 400000 in
theorem blocked_lock (b : Nat) (A : Nat) (y z : Int) (hA : A < 4) (t : Bool) (r : Int) (w : World) (h1 : w.cell? ⟨b, 49 + A * 2, none⟩ = some (.bool t)) (h2 : w.cell? ⟨b, 49 + A * 2 + 1, none⟩ = some (.int .i64 r)) :
    Calls Try.prog 59 #[.pointer (some ⟨b, 0, none⟩), insV 13 A y z] w fun e w' => e = .returned (.bool (t || !(r == 0))) ∧ Below w.heap.size w w' := by
  have hA4 : (A : Int) < 4 := by omega
  have l1 := cell_lt h1
  go_enter Try.func59, Try.ntmps59
  go_wp2_with fail
  generalize hV : World.alloc w _ = V
  have hB : Below w.heap.size w V := by rw [← hV]; exact below_box _ _
  have hN : V.heap[w.heap.size]? = some (insO 13 A y z) := by rw [← hV]; exact heap_alloc_new _ _
  obtain ⟨n0, n1, n2, n3⟩ := cells4 hN
  rw [← hB.cell (p := ⟨b, 49 + A * 2, none⟩) l1] at h1
  rw [← hB.cell (p := ⟨b, 49 + A * 2 + 1, none⟩) l1] at h2
  have HB := Lib.hid hB
  clear hV hB
  go_quiet ((go_at_call 80; exact Calls.quiet_of (free_any b _ t r _ (by exact h1) (by exact h2) _ rfl)))
  go_wp2
  go_ret
  exact ⟨rfl, below_drewN HB.out _⟩
set_option maxHeartbeats 400000 in
theorem blocked_rlock (b : Nat) (A : Nat) (y z : Int) (hA : A < 4) (t : Bool) (w : World) (h1 : w.cell? ⟨b, 49 + A * 2, none⟩ = some (.bool t)) :
    Calls Try.prog 59 #[.pointer (some ⟨b, 0, none⟩), insV 15 A y z] w fun e w' => e = .returned (.bool t) ∧ Below w.heap.size w w' := by
  have hA4 : (A : Int) < 4 := by omega
  have l1 := cell_lt h1
  go_enter Try.func59, Try.ntmps59
  go_wp2_with fail
  generalize hV : World.alloc w _ = V
  have hB : Below w.heap.size w V := by rw [← hV]; exact below_box _ _
  have hN : V.heap[w.heap.size]? = some (insO 15 A y z) := by rw [← hV]; exact heap_alloc_new _ _
  obtain ⟨n0, n1, n2, n3⟩ := cells4 hN
  rw [← hB.cell (p := ⟨b, 49 + A * 2, none⟩) l1] at h1
  have HB := Lib.hid hB
  clear hV hB
  go_quiet (fail)
  go_wp2
  go_ret
  exact ⟨rfl, below_drewN HB.out _⟩
set_option maxHeartbeats 400000 in
theorem blocked_send (b : Nat) (A : Nat) (y z : Int) (hA : A < 4) (t : Bool) (r s : Int) (w : World) (h1 : w.cell? ⟨b, 57 + A * 6 + 3, none⟩ = some (.int .i64 r)) (h2 : w.cell? ⟨b, 57 + A * 6 + 4, none⟩ = some (.int .i64 s)) (h3 : w.cell? ⟨b, 57 + A * 6 + 5, none⟩ = some (.bool t)) :
    Calls Try.prog 59 #[.pointer (some ⟨b, 0, none⟩), insV 20 A y z] w fun e w' => e = .returned (.bool ((r == s) && !t)) ∧ Below w.heap.size w w' := by
  have hA4 : (A : Int) < 4 := by omega
  have l1 := cell_lt h1
  go_enter Try.func59, Try.ntmps59
  go_wp2_with fail
  generalize hV : World.alloc w _ = V
  have hB : Below w.heap.size w V := by rw [← hV]; exact below_box _ _
  have hN : V.heap[w.heap.size]? = some (insO 20 A y z) := by rw [← hV]; exact heap_alloc_new _ _
  obtain ⟨n0, n1, n2, n3⟩ := cells4 hN
  rw [← hB.cell (p := ⟨b, 57 + A * 6 + 3, none⟩) l1] at h1
  rw [← hB.cell (p := ⟨b, 57 + A * 6 + 4, none⟩) l1] at h2
  rw [← hB.cell (p := ⟨b, 57 + A * 6 + 5, none⟩) l1] at h3
  have HB := Lib.hid hB
  clear hV hB
  go_quiet ((go_at_call 81; exact Calls.quiet_of (full_any b _ t r s _ (by exact h1) (by exact h2) (by exact h3) _ rfl)))
  go_wp2
  go_ret
  exact ⟨rfl, below_drewN HB.out _⟩
set_option maxHeartbeats 400000 in
theorem blocked_recv (b : Nat) (A : Nat) (y z : Int) (hA : A < 4) (t : Bool) (r : Int) (w : World) (h1 : w.cell? ⟨b, 57 + A * 6 + 3, none⟩ = some (.int .i64 r)) (h3 : w.cell? ⟨b, 57 + A * 6 + 5, none⟩ = some (.bool t)) :
    Calls Try.prog 59 #[.pointer (some ⟨b, 0, none⟩), insV 21 y A z] w fun e w' => e = .returned (.bool ((r == 0) && !t)) ∧ Below w.heap.size w w' := by
  have hA4 : (A : Int) < 4 := by omega
  have l1 := cell_lt h1
  go_enter Try.func59, Try.ntmps59
  go_wp2_with fail
  generalize hV : World.alloc w _ = V
  have hB : Below w.heap.size w V := by rw [← hV]; exact below_box _ _
  have hN : V.heap[w.heap.size]? = some (insO 21 y A z) := by rw [← hV]; exact heap_alloc_new _ _
  obtain ⟨n0, n1, n2, n3⟩ := cells4 hN
  rw [← hB.cell (p := ⟨b, 57 + A * 6 + 3, none⟩) l1] at h1
  rw [← hB.cell (p := ⟨b, 57 + A * 6 + 5, none⟩) l1] at h3
  have HB := Lib.hid hB
  clear hV hB
  go_quiet ((go_at_call 82; exact Calls.quiet_of (dry_any b _ t r _ (by exact h1) (by exact h3) _ rfl)))
  go_wp2
  go_ret
  exact ⟨rfl, below_drewN HB.out _⟩
set_option maxHeartbeats 400000 in
theorem blocked_wait (b : Nat) (A : Nat) (y z : Int) (hA : A < 4) (r : Int) (w : World) (h1 : w.cell? ⟨b, 81 + A, none⟩ = some (.int .i64 r)) :
    Calls Try.prog 59 #[.pointer (some ⟨b, 0, none⟩), insV 25 A y z] w fun e w' => e = .returned (.bool (decide (0 < r))) ∧ Below w.heap.size w w' := by
  have hA4 : (A : Int) < 4 := by omega
  have l1 := cell_lt h1
  go_enter Try.func59, Try.ntmps59
  go_wp2_with fail
  generalize hV : World.alloc w _ = V
  have hB : Below w.heap.size w V := by rw [← hV]; exact below_box _ _
  have hN : V.heap[w.heap.size]? = some (insO 25 A y z) := by rw [← hV]; exact heap_alloc_new _ _
  obtain ⟨n0, n1, n2, n3⟩ := cells4 hN
  rw [← hB.cell (p := ⟨b, 81 + A, none⟩) l1] at h1
  have HB := Lib.hid hB
  clear hV hB
  go_quiet (fail)
  go_wp2
  go_ret
  exact ⟨rfl, below_drewN HB.out _⟩
set_option maxHeartbeats 400000 in
theorem blocked_begin (b : Nat) (A : Nat) (y z : Int) (hA : A < 4) (r : Int) (w : World) (h1 : w.cell? ⟨b, 85 + A, none⟩ = some (.int .u8 r)) :
    Calls Try.prog 59 #[.pointer (some ⟨b, 0, none⟩), insV 26 y A z] w fun e w' => e = .returned (.bool (r == 1)) ∧ Below w.heap.size w w' := by
  have hA4 : (A : Int) < 4 := by omega
  have l1 := cell_lt h1
  go_enter Try.func59, Try.ntmps59
  go_wp2_with fail
  generalize hV : World.alloc w _ = V
  have hB : Below w.heap.size w V := by rw [← hV]; exact below_box _ _
  have hN : V.heap[w.heap.size]? = some (insO 26 y A z) := by rw [← hV]; exact heap_alloc_new _ _
  obtain ⟨n0, n1, n2, n3⟩ := cells4 hN
  rw [← hB.cell (p := ⟨b, 85 + A, none⟩) l1] at h1
  have HB := Lib.hid hB
  clear hV hB
  go_quiet (fail)
  go_wp2
  go_ret
  exact ⟨rfl, below_drewN HB.out _⟩

set_option maxHeartbeats 400000 in
theorem blocked_none (b op : Nat) (x y z : Int) (w : World) (h13 : op ≠ 13) (h15 : op ≠ 15) (h20 : op ≠ 20) (h21 : op ≠ 21) (h25 : op ≠ 25) (h26 : op ≠ 26) :
    Calls Try.prog 59 #[.pointer (some ⟨b, 0, none⟩), insV op x y z] w fun e w' => e = .returned (.bool false) ∧ Below w.heap.size w w' := by
  have e13 : ((op : Int) == 13) = false := by simp; omega
  have e15 : ((op : Int) == 15) = false := by simp; omega
  have e20 : ((op : Int) == 20) = false := by simp; omega
  have e21 : ((op : Int) == 21) = false := by simp; omega
  have e25 : ((op : Int) == 25) = false := by simp; omega
  have e26 : ((op : Int) == 26) = false := by simp; omega
  clear h13 h15 h20 h21 h25 h26
  go_enter Try.func59, Try.ntmps59
  go_wp2
  go_ret
  exact ⟨rfl, below_box _ _⟩

theorem StIn.cellI {u : World} {b lo hi : Nat} {pv : Value} {m : Nat → Int} {code : List (List InsD)} {pr : List Int} (h : StIn u b lo hi pv m code pr) (i : Nat) (h1 : isB i = false) (h2 : i < 85 ∨ 88 < i) (h3 : 0 < i) (h4 : i < 89) : u.cell? ⟨b, i, none⟩ = some (.int .i64 (m i)) := by
  rw [h.cell _ (by omega) (by omega) (by omega), valAt_i h1 h2]
theorem StIn.cellB {u : World} {b lo hi : Nat} {pv : Value} {m : Nat → Int} {code : List (List InsD)} {pr : List Int} (h : StIn u b lo hi pv m code pr) (i : Nat) (h1 : isB i = true) (h3 : 0 < i) (h4 : i < 89) : u.cell? ⟨b, i, none⟩ = some (.bool (m i == 1)) := by
  rw [h.cell _ (by omega) (by omega) (by omega), valAt_b h1]
theorem StIn.cellO {u : World} {b lo hi : Nat} {pv : Value} {m : Nat → Int} {code : List (List InsD)} {pr : List Int} (h : StIn u b lo hi pv m code pr) (i : Nat) (h3 : 85 ≤ i) (h4 : i ≤ 88) : u.cell? ⟨b, i, none⟩ = some (.int .u8 (m i)) := by
  rw [h.cell _ (by omega) (by omega) (by omega), valAt_o h3 h4]

/-- Whether an instruction must wait. -/
def blockedM (m : Nat → Int) (x : InsD) : Bool :=
  if x.op = 13 then m (49 + x.a.toNat * 2) == 1 || !(m (49 + x.a.toNat * 2 + 1) == 0)
  else if x.op = 15 then m (49 + x.a.toNat * 2) == 1
  else if x.op = 20 then m (57 + x.a.toNat * 6 + 3) == m (57 + x.a.toNat * 6 + 4) && !(m (57 + x.a.toNat * 6 + 5) == 1)
  else if x.op = 21 then m (57 + x.b.toNat * 6 + 3) == 0 && !(m (57 + x.b.toNat * 6 + 5) == 1)
  else if x.op = 25 then decide (0 < m (81 + x.a.toNat))
  else if x.op = 26 then m (85 + x.b.toNat) == 1
  else false
theorem blocked_any {nt n : Nat} {b lo hi : Nat} {pv : Value} {m : Nat → Int} {code : List (List InsD)} {pr : List Int} (x : InsD) (hx : InsFit nt n x) (w : World) (S : StIn w b lo hi pv m code pr) :
    Calls Try.prog 59 #[.pointer (some ⟨b, 0, none⟩), insV x.op x.a x.b x.c] w fun e w' => e = .returned (.bool (blockedM m x)) ∧ Below w.heap.size w w' := by
  obtain ⟨op, a, y, z⟩ := x
  by_cases h13 : op = 13
  · subst h13
    obtain ⟨A, rfl, hA⟩ : Fit 4 a := hx
    exact (blocked_lock b A y z hA _ _ w (S.cellB _ (by simp [isB]; omega) (by omega) (by omega)) (S.cellI _ (by simp [isB]; omega) (by omega) (by omega) (by omega))).mono fun e w' h => by simpa [blockedM] using h
  by_cases h15 : op = 15
  · subst h15
    obtain ⟨A, rfl, hA⟩ : Fit 4 a := hx
    exact (blocked_rlock b A y z hA _ w (S.cellB _ (by simp [isB]; omega) (by omega) (by omega))).mono fun e w' h => by simpa [blockedM] using h
  by_cases h20 : op = 20
  · subst h20
    obtain ⟨A, rfl, hA⟩ : Fit 4 a := hx.1
    exact (blocked_send b A y z hA _ _ _ w (S.cellI _ (by simp [isB]; omega) (by omega) (by omega) (by omega)) (S.cellI _ (by simp [isB]; omega) (by omega) (by omega) (by omega)) (S.cellB _ (by simp [isB]; omega) (by omega) (by omega))).mono fun e w' h => by simpa [blockedM] using h
  by_cases h21 : op = 21
  · subst h21
    obtain ⟨A, rfl, hA⟩ : Fit 4 y := hx.2
    exact (blocked_recv b A a z hA _ _ w (S.cellI _ (by simp [isB]; omega) (by omega) (by omega) (by omega)) (S.cellB _ (by simp [isB]; omega) (by omega) (by omega))).mono fun e w' h => by simpa [blockedM] using h
  by_cases h25 : op = 25
  · subst h25
    obtain ⟨A, rfl, hA⟩ : Fit 4 a := hx
    exact (blocked_wait b A y z hA _ w (S.cellI _ (by simp [isB]; omega) (by omega) (by omega) (by omega))).mono fun e w' h => by simpa [blockedM] using h
  by_cases h26 : op = 26
  · subst h26
    obtain ⟨A, rfl, hA⟩ : Fit 4 y := hx.2
    exact (blocked_begin b A a z hA _ w (S.cellO _ (by omega) (by omega))).mono fun e w' h => by simpa [blockedM] using h
  exact (blocked_none b op a y z w h13 h15 h20 h21 h25 h26).mono fun e w' h => by simpa [blockedM, h13, h15, h20, h21, h25, h26] using h
end Go.Proofs.Ytfcfdneganknjaa
