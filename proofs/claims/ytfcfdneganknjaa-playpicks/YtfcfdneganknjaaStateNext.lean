/- Where a thread of a state is. -/
import Derived.Test.YtfcfdneganknjaaStateRead
namespace Go.Proofs.Ytfcfdneganknjaa
set_option linter.unusedVariables false
set_option linter.unusedSimpArgs false
open Go.ChangeShapes Go.WideShapes Go.ChangeAt Go.RowKit

theorem quiet_eq {P : Program} {f : FuncId} {args : Array Value} {w : World} {n : Nat} {v : Value} (h : Calls P f args (w.drewN n) fun e w' => e = .returned v ∧ w.drewN n = w') :
    Calls P f args (w.drewN n) fun e w'' => e = .returned v ∧ ∃ m, w'' = w.drewN m := Calls.quiet_of_same (h.mono fun _ _ ⟨h1, h2⟩ => ⟨h1, h2.symm⟩)
set_option maxHeartbeats 400000 in
theorem goes_on (b n : Nat) (a : Option Addr) (cap k : Nat) (p : Nat) (g off l cp : Nat) (a' : Option Addr) (w : World) (hc : w.cell? ⟨b, 0, none⟩ = some (.slice (some ⟨g, off, none⟩) n cap)) (hk : k < n) (hn : n ≤ 6) (hx : w.cell? ⟨b, 1 + k * 6, none⟩ = some (.bool true)) (hp : w.cell? ⟨b, 1 + k * 6 + 1, none⟩ = some (.int .i64 p)) (hs : w.cell? ⟨g, off + k, none⟩ = some (.slice a' l cp)) (t : Bool) (ht : decide (p < l) = t) :
    Calls Try.prog 43 #[.pointer (some ⟨b, 0, none⟩), .int .i64 k] w fun e w' => e = .returned (.bool t) ∧ ∃ q, w' = w.drewN q := by
  have hk6 : (k : Int) < 6 := by omega
  have hkn : (k : Int) < n := by omega
  go_enter Try.func43, Try.ntmps43
  go_wp2_with fail
  go_quiet ((go_at_call 60; exact quiet_eq (on_yes b n _ cap k true _ (by simpa using hc) hk hn (by simpa using hx))))
  go_wp2
  go_ret
  subst ht
  exact ⟨rfl, _, rfl⟩
set_option maxHeartbeats 400000 in
theorem goes_off (b n : Nat) (a : Option Addr) (cap k : Nat) (w : World) (hc : w.cell? ⟨b, 0, none⟩ = some (.slice a n cap)) (hk : k < n) (hn : n ≤ 6) (hx : w.cell? ⟨b, 1 + k * 6, none⟩ = some (.bool false)) :
    Calls Try.prog 43 #[.pointer (some ⟨b, 0, none⟩), .int .i64 k] w fun e w' => e = .returned (.bool false) ∧ ∃ q, w' = w.drewN q := by
  go_enter Try.func43, Try.ntmps43
  go_wp2_with fail
  go_quiet ((go_at_call 60; exact quiet_eq (on_yes b n _ cap k false _ hc hk hn hx)))
  go_wp2
  go_ret
  exact ⟨rfl, _, rfl⟩
set_option maxHeartbeats 400000 in
theorem goes_no (b n : Nat) (a : Option Addr) (cap : Nat) (k : Int) (w : World) (hc : w.cell? ⟨b, 0, none⟩ = some (.slice a n cap)) (hk : hasT n k = false) :
    Calls Try.prog 43 #[.pointer (some ⟨b, 0, none⟩), .int .i64 k] w fun e w' => e = .returned (.bool false) ∧ ∃ q, w' = w.drewN q := by
  have HK := Lib.hid hk
  clear hk
  go_enter Try.func43, Try.ntmps43
  go_wp2_with fail
  go_quiet ((go_at_call 60; exact quiet_eq (on_no b n _ cap k _ hc HK.out)))
  go_wp2
  go_ret
  exact ⟨rfl, _, rfl⟩
set_option maxHeartbeats 400000 in
theorem next_any (b n : Nat) (cap k : Nat) (p : Nat) (g off l cp g' off' : Nat) (x : InsD) (w : World) (hc : w.cell? ⟨b, 0, none⟩ = some (.slice (some ⟨g, off, none⟩) n cap)) (hk : k < n) (hn : n ≤ 6) (hp : w.cell? ⟨b, 1 + k * 6 + 1, none⟩ = some (.int .i64 p)) (hs : w.cell? ⟨g, off + k, none⟩ = some (.slice (some ⟨g', off', none⟩) l cp)) (hl : p < l) (hI : InsAt w g' (off' + p * 4) x) :
    Calls Try.prog 57 #[.pointer (some ⟨b, 0, none⟩), .int .i64 k] w fun e w' => e = .returned (.agg #[.int .u8 x.op, .int .i64 x.a, .int .i64 x.b, .int .i64 x.c]) ∧ Below w.heap.size w w' := by
  have hk6 : (k : Int) < 6 := by omega
  have hkn : (k : Int) < n := by omega
  have hpl : (p : Int) < l := by omega
  go_enter Try.func57, Try.ntmps57
  obtain ⟨i0, i1, i2, i3⟩ := hI
  have l1 := cell_lt hc
  have l2 := cell_lt hs
  have l3 := cell_lt i0
  go_wp2_with fail
  generalize hV : World.alloc w _ = V
  have hB : Below w.heap.size w V := by rw [← hV]; exact (Below.refl _ _).alloc (Nat.le_refl _) _
  have hN : V.heap[w.heap.size]? = some (.cells #[.int .u8 0, .int .i64 0, .int .i64 0, .int .i64 0] 54) := by rw [← hV]; exact heap_alloc_new _ _
  have HV := Lib.hid hV
  clear hV
  rw [← hB.cell (p := ⟨b, 0, none⟩) l1] at hc
  rw [← hB.cell (p := ⟨b, 1 + k * 6 + 1, none⟩) l1] at hp
  rw [← hB.cell (p := ⟨g, off + k, none⟩) l2] at hs
  rw [← hB.cell (p := ⟨g', off' + p * 4, none⟩) l3] at i0
  rw [← hB.cell (p := ⟨g', off' + p * 4 + 1, none⟩) l3] at i1
  rw [← hB.cell (p := ⟨g', off' + p * 4 + 2, none⟩) l3] at i2
  rw [← hB.cell (p := ⟨g', off' + p * 4 + 3, none⟩) l3] at i3
  have HB := Lib.hid hB
  clear hB
  obtain ⟨n0, n1, n2, n3⟩ := cells4 hN
  have f := fun j => frozen_of_row _ _ j _ _ hN
  go_region
  go_wp2
  refine bodyPost_ret (v := .agg #[.int .u8 x.op, .int .i64 x.a, .int .i64 x.b, .int .i64 x.c]) (results_cell_row rfl _ _ w.heap.size 54 _ (0, 0) _ rfl (stSet_four hN) Try.underlying54 rfl info_ins4) rfl ⟨rfl, ?_⟩
  exact (stBelow_set (stBelow_set (stBelow_set (stBelow_set HB.out (Nat.le_refl _)) (Nat.le_refl _)) (Nat.le_refl _)) (Nat.le_refl _)).drew
set_option maxHeartbeats 400000 in
theorem free_any (b o : Nat) (t : Bool) (r : Int) (w : World) (h1 : w.cell? ⟨b, o, none⟩ = some (.bool t)) (h2 : w.cell? ⟨b, o + 1, none⟩ = some (.int .i64 r)) (y : Bool) (hy : (!t && (r == 0)) = y) :
    Calls Try.prog 80 #[.pointer (some ⟨b, o, none⟩)] w fun e w' => e = .returned (.bool y) ∧ ∃ q, w' = w.drewN q := by
  cases t
  all_goals
    go_enter Try.func80, Try.ntmps80
    go_wp2
    go_ret
    subst hy
    exact ⟨by simp, 0, rfl⟩
set_option maxHeartbeats 400000 in
theorem full_any (b o : Nat) (t : Bool) (r s : Int) (w : World) (h1 : w.cell? ⟨b, o + 3, none⟩ = some (.int .i64 r)) (h2 : w.cell? ⟨b, o + 4, none⟩ = some (.int .i64 s)) (h3 : w.cell? ⟨b, o + 5, none⟩ = some (.bool t)) (y : Bool) (hy : ((r == s) && !t) = y) :
    Calls Try.prog 81 #[.pointer (some ⟨b, o, none⟩)] w fun e w' => e = .returned (.bool y) ∧ ∃ q, w' = w.drewN q := by
  cases hr : (r == s)
  all_goals
    go_enter Try.func81, Try.ntmps81
    go_wp2_with fail
    go_quiet (fail)
    go_wp2
    go_ret
    subst hy
    exact ⟨by simp [hr], _, rfl⟩
set_option maxHeartbeats 400000 in
theorem dry_any (b o : Nat) (t : Bool) (r : Int) (w : World) (h1 : w.cell? ⟨b, o + 3, none⟩ = some (.int .i64 r)) (h3 : w.cell? ⟨b, o + 5, none⟩ = some (.bool t)) (y : Bool) (hy : ((r == 0) && !t) = y) :
    Calls Try.prog 82 #[.pointer (some ⟨b, o, none⟩)] w fun e w' => e = .returned (.bool y) ∧ ∃ q, w' = w.drewN q := by
  cases hr : (r == 0)
  all_goals
    go_enter Try.func82, Try.ntmps82
    go_wp2
    go_ret
    subst hy
    exact ⟨by simp [hr], 0, rfl⟩
end Go.Proofs.Ytfcfdneganknjaa
