/- What the laws of this seat stand on, part 5. -/
import Derived.Test.YtglafbajbiengaaGreatPa0
import Derived.Test.YtglafbajbiengaaGreatPa4
set_option linter.unusedVariables false
set_option linter.unusedSimpArgs false
set_option maxRecDepth 100000
set_option maxHeartbeats 40000000
namespace Go.Proofs.YtglafbajbiengaaGreat
open Go.ChangeShapes Go.WideShapes Go.ChangeAt Go.RowKit
theorem has_any (b n : Nat) (a : Option Addr) (cap : Nat) (k : Int) (w : World) (hc : w.cell? ⟨b, 0, none⟩ = some (.slice a n cap)) :
    Calls Tryz.prog 75 #[.pointer (some ⟨b, 0, none⟩), .int .i64 k] w fun e w' => e = .returned (.bool (hasT n k)) ∧ w = w' := by
  go_enter Tryz.func75, Tryz.ntmps75
  go_wp2
  all_goals go_ret
  all_goals (refine ⟨?_, rfl⟩; simp [hasT]; try omega)
theorem has_yes (b n : Nat) (a : Option Addr) (cap k : Nat) (w : World) (hc : w.cell? ⟨b, 0, none⟩ = some (.slice a n cap)) (hk : k < n) :
    Calls Tryz.prog 75 #[.pointer (some ⟨b, 0, none⟩), .int .i64 k] w fun e w' => e = .returned (.bool true) ∧ w = w' := by
  have := has_any b n a cap k w hc
  rwa [show hasT n k = true by simp [hasT]; omega] at this
theorem has_no (b n : Nat) (a : Option Addr) (cap : Nat) (k : Int) (w : World) (hc : w.cell? ⟨b, 0, none⟩ = some (.slice a n cap)) (hk : hasT n k = false) :
    Calls Tryz.prog 75 #[.pointer (some ⟨b, 0, none⟩), .int .i64 k] w fun e w' => e = .returned (.bool false) ∧ w = w' := by
  have := has_any b n a cap k w hc
  rwa [hk] at this
theorem hasT_yes {n : Nat} {k : Int} (h : hasT n k = true) : ∃ j : Nat, k = j ∧ j < n := by
  simp [hasT] at h
  exact ⟨k.toNat, by omega, by omega⟩
theorem on_yes (b n : Nat) (a : Option Addr) (cap k : Nat) (x : Bool) (w : World) (hc : w.cell? ⟨b, 0, none⟩ = some (.slice a n cap)) (hk : k < n) (hn : n ≤ 6) (hx : w.cell? ⟨b, 1 + k * 6, none⟩ = some (.bool x)) :
    Calls Tryz.prog 103 #[.pointer (some ⟨b, 0, none⟩), .int .i64 k] w fun e w' => e = .returned (.bool x) ∧ w = w' := by
  have hk6 : (k : Int) < 6 := by omega
  have HC := Lib.hid hc
  go_enter Tryz.func103, Tryz.ntmps103
  go_wp2_with (first
    | (go_at_call 75; refine (has_yes b n a cap k _ HC.out hk).mono ?_; rintro e w1 ⟨rfl, rfl⟩))
  go_ret
  exact ⟨rfl, rfl⟩
theorem on_no (b n : Nat) (a : Option Addr) (cap : Nat) (k : Int) (w : World) (hc : w.cell? ⟨b, 0, none⟩ = some (.slice a n cap)) (hk : hasT n k = false) :
    Calls Tryz.prog 103 #[.pointer (some ⟨b, 0, none⟩), .int .i64 k] w fun e w' => e = .returned (.bool false) ∧ w = w' := by
  have HC := Lib.hid hc
  have HK := Lib.hid hk
  clear hk
  go_enter Tryz.func103, Tryz.ntmps103
  go_wp2_with (first
    | (go_at_call 75; refine (has_no b n a cap k _ HC.out HK.out).mono ?_; rintro e w1 ⟨rfl, rfl⟩))
  go_ret
  exact ⟨rfl, rfl⟩
theorem register_yes (r : Nat) (hr : r < 4) (w : World) : Calls Tryz.prog 76 #[.int .i64 r] w fun e w' => e = .returned (.bool true) ∧ w = w' := by
  have h1 : (r : Int) < 4 := by omega
  go_enter Tryz.func76, Tryz.ntmps76
  go_wp2
  go_ret
  exact ⟨rfl, rfl⟩
theorem number_any (t : Bool) (w : World) : Calls Tryz.prog 100 #[.bool t] w fun e w' => e = .returned (.int .i64 (bitN t)) ∧ w = w' := by
  cases t
  all_goals
    go_enter Tryz.func100, Tryz.ntmps100
    go_wp2
    go_ret
    exact ⟨rfl, rfl⟩
theorem goes_on (b n : Nat) (a : Option Addr) (cap k : Nat) (p : Nat) (g off l cp : Nat) (a' : Option Addr) (w : World) (hc : w.cell? ⟨b, 0, none⟩ = some (.slice (some ⟨g, off, none⟩) n cap)) (hk : k < n) (hn : n ≤ 6) (hx : w.cell? ⟨b, 1 + k * 6, none⟩ = some (.bool true)) (hp : w.cell? ⟨b, 1 + k * 6 + 1, none⟩ = some (.int .i64 p)) (hs : w.cell? ⟨g, off + k, none⟩ = some (.slice a' l cp)) (t : Bool) (ht : decide (p < l) = t) :
    Calls Tryz.prog 78 #[.pointer (some ⟨b, 0, none⟩), .int .i64 k] w fun e w' => e = .returned (.bool t) ∧ ∃ q, w' = w.drewN q := by
  have hk6 : (k : Int) < 6 := by omega
  have hkn : (k : Int) < n := by omega
  go_enter Tryz.func78, Tryz.ntmps78
  go_wp2_with fail
  go_quiet ((go_at_call 103; exact quiet_eq (on_yes b n _ cap k true _ (by simpa using hc) hk hn (by simpa using hx))))
  go_wp2
  go_ret
  subst ht
  exact ⟨rfl, _, rfl⟩
theorem goes_off (b n : Nat) (a : Option Addr) (cap k : Nat) (w : World) (hc : w.cell? ⟨b, 0, none⟩ = some (.slice a n cap)) (hk : k < n) (hn : n ≤ 6) (hx : w.cell? ⟨b, 1 + k * 6, none⟩ = some (.bool false)) :
    Calls Tryz.prog 78 #[.pointer (some ⟨b, 0, none⟩), .int .i64 k] w fun e w' => e = .returned (.bool false) ∧ ∃ q, w' = w.drewN q := by
  go_enter Tryz.func78, Tryz.ntmps78
  go_wp2_with fail
  go_quiet ((go_at_call 103; exact quiet_eq (on_yes b n _ cap k false _ hc hk hn hx)))
  go_wp2
  go_ret
  exact ⟨rfl, _, rfl⟩
theorem goes_no (b n : Nat) (a : Option Addr) (cap : Nat) (k : Int) (w : World) (hc : w.cell? ⟨b, 0, none⟩ = some (.slice a n cap)) (hk : hasT n k = false) :
    Calls Tryz.prog 78 #[.pointer (some ⟨b, 0, none⟩), .int .i64 k] w fun e w' => e = .returned (.bool false) ∧ ∃ q, w' = w.drewN q := by
  have HK := Lib.hid hk
  clear hk
  go_enter Tryz.func78, Tryz.ntmps78
  go_wp2_with fail
  go_quiet ((go_at_call 103; exact quiet_eq (on_no b n _ cap k _ hc HK.out)))
  go_wp2
  go_ret
  exact ⟨rfl, _, rfl⟩
theorem next_any (b n : Nat) (cap k : Nat) (p : Nat) (g off l cp g' off' : Nat) (x : InsD) (w : World) (hc : w.cell? ⟨b, 0, none⟩ = some (.slice (some ⟨g, off, none⟩) n cap)) (hk : k < n) (hn : n ≤ 6) (hp : w.cell? ⟨b, 1 + k * 6 + 1, none⟩ = some (.int .i64 p)) (hs : w.cell? ⟨g, off + k, none⟩ = some (.slice (some ⟨g', off', none⟩) l cp)) (hl : p < l) (hI : InsAt w g' (off' + p * 4) x) :
    Calls Tryz.prog 73 #[.pointer (some ⟨b, 0, none⟩), .int .i64 k] w fun e w' => e = .returned (.agg #[.int .u8 x.op, .int .i64 x.a, .int .i64 x.b, .int .i64 x.c]) ∧ Below w.heap.size w w' := by
  have hk6 : (k : Int) < 6 := by omega
  have hkn : (k : Int) < n := by omega
  have hpl : (p : Int) < l := by omega
  go_enter Tryz.func73, Tryz.ntmps73
  obtain ⟨i0, i1, i2, i3⟩ := hI
  have l1 := cell_lt hc
  have l2 := cell_lt hs
  have l3 := cell_lt i0
  go_wp2_with fail
  generalize hV : World.alloc w _ = V
  have hB : Below w.heap.size w V := by rw [← hV]; exact (Below.refl _ _).alloc (Nat.le_refl _) _
  have hN : V.heap[w.heap.size]? = some (.cells #[.int .u8 0, .int .i64 0, .int .i64 0, .int .i64 0] 67) := by rw [← hV]; exact heap_alloc_new _ _
  have HV := Lib.hid hV
  clear hV
  rw [← hB.cell (p := ⟨b, 0, none⟩) l1] at hc
  rw [← hB.cell (p := ⟨b, 1 + k * 6 + 1, none⟩) l1] at hp
  rw [← hB.cell (p := ⟨g, off + k, none⟩) l2] at hs
  rw [← hB.cell (p := ⟨g', off' + p * 4, none⟩) l3] at i0
  rw [← hB.cell (p := ⟨g', off' + p * 4 + 1, none⟩) l3] at i1
  rw [← hB.cell (p := ⟨g', off' + p * 4 + 2, none⟩) l3] at i2
  rw [← hB.cell (p := ⟨g', off' + p * 4 + 3, none⟩) l3] at i3
  have HB := Lib.hid hB
  clear hB
  obtain ⟨n0, n1, n2, n3⟩ := cells4 hN
  have f := fun j => frozen_of_row _ _ j _ _ hN
  go_region
  go_wp2
  refine bodyPost_ret (v := .agg #[.int .u8 x.op, .int .i64 x.a, .int .i64 x.b, .int .i64 x.c]) (results_cell_row rfl _ _ w.heap.size 67 _ (0, 0) _ rfl (stSet_four hN) Tryz.underlying67 rfl info_ins4) rfl ⟨rfl, ?_⟩
  exact (stBelow_set (stBelow_set (stBelow_set (stBelow_set HB.out (Nat.le_refl _)) (Nat.le_refl _)) (Nat.le_refl _)) (Nat.le_refl _)).drew
theorem free_any (b o : Nat) (t : Bool) (r : Int) (w : World) (h1 : w.cell? ⟨b, o, none⟩ = some (.bool t)) (h2 : w.cell? ⟨b, o + 1, none⟩ = some (.int .i64 r)) (y : Bool) (hy : (!t && (r == 0)) = y) :
    Calls Tryz.prog 122 #[.pointer (some ⟨b, o, none⟩)] w fun e w' => e = .returned (.bool y) ∧ ∃ q, w' = w.drewN q := by
  cases t
  all_goals
    go_enter Tryz.func122, Tryz.ntmps122
    go_wp2
    go_ret
    subst hy
    exact ⟨by simp, 0, rfl⟩
theorem full_any (b o : Nat) (t : Bool) (r s : Int) (w : World) (h1 : w.cell? ⟨b, o + 3, none⟩ = some (.int .i64 r)) (h2 : w.cell? ⟨b, o + 4, none⟩ = some (.int .i64 s)) (h3 : w.cell? ⟨b, o + 5, none⟩ = some (.bool t)) (y : Bool) (hy : ((r == s) && !t) = y) :
    Calls Tryz.prog 123 #[.pointer (some ⟨b, o, none⟩)] w fun e w' => e = .returned (.bool y) ∧ ∃ q, w' = w.drewN q := by
  cases hr : (r == s)
  all_goals
    go_enter Tryz.func123, Tryz.ntmps123
    go_wp2_with fail
    go_quiet (fail)
    go_wp2
    go_ret
    subst hy
    exact ⟨by simp [hr], _, rfl⟩
theorem dry_any (b o : Nat) (t : Bool) (r : Int) (w : World) (h1 : w.cell? ⟨b, o + 3, none⟩ = some (.int .i64 r)) (h3 : w.cell? ⟨b, o + 5, none⟩ = some (.bool t)) (y : Bool) (hy : ((r == 0) && !t) = y) :
    Calls Tryz.prog 124 #[.pointer (some ⟨b, o, none⟩)] w fun e w' => e = .returned (.bool y) ∧ ∃ q, w' = w.drewN q := by
  cases hr : (r == 0)
  all_goals
    go_enter Tryz.func124, Tryz.ntmps124
    go_wp2
    go_ret
    subst hy
    exact ⟨by simp [hr], 0, rfl⟩
def Fit (hi : Nat) (a : Int) : Prop := ∃ n : Nat, a = n ∧ n < hi
/-- What is known of an instruction of sound code: nt threads, n instructions. -/
def InsFit (nt n : Nat) (x : InsD) : Prop := match x.op with
  | 0 => True
  | 1 => Fit 4 x.a
  | 2 => Fit 4 x.a ∧ Fit 4 x.b
  | 3 => Fit 4 x.a ∧ Fit 4 x.b ∧ Fit 4 x.c
  | 4 => Fit 4 x.a ∧ Fit 4 x.b ∧ Fit 4 x.c
  | 5 => Fit 4 x.a ∧ Fit 4 x.b ∧ Fit 4 x.c
  | 6 => Fit 4 x.a ∧ Fit 4 x.b ∧ Fit 4 x.c
  | 7 => Fit 4 x.a ∧ Fit 8 x.b
  | 8 => Fit 8 x.a ∧ Fit 4 x.b
  | 9 => Fit 4 x.a
  | 10 => Fit (n + 1) x.a
  | 11 => Fit 4 x.a ∧ Fit (n + 1) x.b
  | 12 => Fit nt x.a
  | 13 => Fit 4 x.a
  | 14 => Fit 4 x.a
  | 15 => Fit 4 x.a
  | 16 => Fit 4 x.a
  | 17 => Fit 4 x.a ∧ Fit 4 x.b
  | 18 => Fit 4 x.a ∧ Fit 4 x.b
  | 19 => Fit 4 x.a ∧ Fit 4 x.b ∧ Fit 4 x.c
  | 20 => Fit 4 x.a ∧ Fit 4 x.b
  | 21 => Fit 4 x.a ∧ Fit 4 x.b
  | 22 => Fit 4 x.a ∧ Fit 4 x.b ∧ Fit 4 x.c
  | 23 => Fit 4 x.a
  | 24 => Fit 4 x.a
  | 25 => Fit 4 x.a
  | 26 => Fit 4 x.a ∧ Fit 4 x.b
  | 27 => Fit 4 x.a
  | _ => False
theorem fit_of {hi : Nat} {a : Int} (h1 : 0 ≤ a) (h2 : a < hi) : Fit hi a := ⟨a.toNat, by omega, by omega⟩
theorem insFit_of {p : ProgD} {n : Nat} {x : InsD} (hs : sizesB p = true) (h : insE p n x = 0) : InsFit p.threads.length n x := by
  have hq := sizes_parts hs
  obtain ⟨op, a, b, c⟩ := x
  have hk : knownB ⟨op, a, b, c⟩ = true := by
    rcases hb : knownB ⟨op, a, b, c⟩ with _ | _
    · simp [insE, hb, firstE, unE] at h
    · rfl
  have hf : fitsB p n ⟨op, a, b, c⟩ = true := by
    rcases hb : fitsB p n ⟨op, a, b, c⟩ with _ | _
    · simp [insE, hk, hb, firstE, unE] at h
    · rfl
  clear h
  have hop : op < 28 := by simp [knownB] at hk; exact hk.2
  clear hk
  have key : ∀ op, op < 28 → fitsB p n ⟨op, a, b, c⟩ = true → InsFit p.threads.length n ⟨op, a, b, c⟩ := by
    intro op hop hf
    simp only [fitsB, fitB] at hf
    match op, hop with
    | 0, _ | 1, _ | 2, _ | 3, _ | 4, _ | 5, _ | 6, _ | 7, _ | 8, _ | 9, _ | 10, _ | 11, _ | 12, _ | 13, _ | 14, _ | 15, _ | 16, _ | 17, _ | 18, _ | 19, _ | 20, _ | 21, _ | 22, _ | 23, _ | 24, _ | 25, _ | 26, _ | 27, _ =>
      simp [rowAt, tab, Row.at, InsD.at, canL, canB, wiB] at hf
      simp only [InsFit]
      all_goals first
        | trivial
        | exact fit_of (by omega) (by omega)
        | exact ⟨fit_of (by omega) (by omega), fit_of (by omega) (by omega)⟩
        | exact ⟨fit_of (by omega) (by omega), fit_of (by omega) (by omega), fit_of (by omega) (by omega)⟩
    | (k + 28), h => omega
  exact key op hop hf
/-- An instruction as a value. -/
abbrev insV (op : Nat) (a b c : Int) : Value := .agg #[.int .u8 op, .int .i64 a, .int .i64 b, .int .i64 c]
abbrev insO (op : Nat) (a b c : Int) : Obj := .cells #[.int .u8 op, .int .i64 a, .int .i64 b, .int .i64 c] 67
theorem blocked_lock (b : Nat) (A : Nat) (y z : Int) (hA : A < 4) (t : Bool) (r : Int) (w : World) (h1 : w.cell? ⟨b, 49 + A * 2, none⟩ = some (.bool t)) (h2 : w.cell? ⟨b, 49 + A * 2 + 1, none⟩ = some (.int .i64 r)) :
    Calls Tryz.prog 92 #[.pointer (some ⟨b, 0, none⟩), insV 13 A y z] w fun e w' => e = .returned (.bool (t || !(r == 0))) ∧ Below w.heap.size w w' := by
  have hA4 : (A : Int) < 4 := by omega
  have l1 := cell_lt h1
  go_enter Tryz.func92, Tryz.ntmps92
  go_wp2_with fail
  generalize hV : World.alloc w _ = V
  have hB : Below w.heap.size w V := by rw [← hV]; exact below_box _ _
  have hN : V.heap[w.heap.size]? = some (insO 13 A y z) := by rw [← hV]; exact heap_alloc_new _ _
  obtain ⟨n0, n1, n2, n3⟩ := cells4 hN
  rw [← hB.cell (p := ⟨b, 49 + A * 2, none⟩) l1] at h1
  rw [← hB.cell (p := ⟨b, 49 + A * 2 + 1, none⟩) l1] at h2
  have HB := Lib.hid hB
  clear hV hB
  go_quiet ((go_at_call 122; exact Calls.quiet_of (free_any b _ t r _ (by exact h1) (by exact h2) _ rfl)))
  go_wp2
  go_ret
  exact ⟨rfl, below_drewN HB.out _⟩
theorem blocked_rlock (b : Nat) (A : Nat) (y z : Int) (hA : A < 4) (t : Bool) (w : World) (h1 : w.cell? ⟨b, 49 + A * 2, none⟩ = some (.bool t)) :
    Calls Tryz.prog 92 #[.pointer (some ⟨b, 0, none⟩), insV 15 A y z] w fun e w' => e = .returned (.bool t) ∧ Below w.heap.size w w' := by
  have hA4 : (A : Int) < 4 := by omega
  have l1 := cell_lt h1
  go_enter Tryz.func92, Tryz.ntmps92
  go_wp2_with fail
  generalize hV : World.alloc w _ = V
  have hB : Below w.heap.size w V := by rw [← hV]; exact below_box _ _
  have hN : V.heap[w.heap.size]? = some (insO 15 A y z) := by rw [← hV]; exact heap_alloc_new _ _
  obtain ⟨n0, n1, n2, n3⟩ := cells4 hN
  rw [← hB.cell (p := ⟨b, 49 + A * 2, none⟩) l1] at h1
  have HB := Lib.hid hB
  clear hV hB
  go_quiet (fail)
  go_wp2
  go_ret
  exact ⟨rfl, below_drewN HB.out _⟩
theorem blocked_send (b : Nat) (A : Nat) (y z : Int) (hA : A < 4) (t : Bool) (r s : Int) (w : World) (h1 : w.cell? ⟨b, 57 + A * 6 + 3, none⟩ = some (.int .i64 r)) (h2 : w.cell? ⟨b, 57 + A * 6 + 4, none⟩ = some (.int .i64 s)) (h3 : w.cell? ⟨b, 57 + A * 6 + 5, none⟩ = some (.bool t)) :
    Calls Tryz.prog 92 #[.pointer (some ⟨b, 0, none⟩), insV 20 A y z] w fun e w' => e = .returned (.bool ((r == s) && !t)) ∧ Below w.heap.size w w' := by
  have hA4 : (A : Int) < 4 := by omega
  have l1 := cell_lt h1
  go_enter Tryz.func92, Tryz.ntmps92
  go_wp2_with fail
  generalize hV : World.alloc w _ = V
  have hB : Below w.heap.size w V := by rw [← hV]; exact below_box _ _
  have hN : V.heap[w.heap.size]? = some (insO 20 A y z) := by rw [← hV]; exact heap_alloc_new _ _
  obtain ⟨n0, n1, n2, n3⟩ := cells4 hN
  rw [← hB.cell (p := ⟨b, 57 + A * 6 + 3, none⟩) l1] at h1
  rw [← hB.cell (p := ⟨b, 57 + A * 6 + 4, none⟩) l1] at h2
  rw [← hB.cell (p := ⟨b, 57 + A * 6 + 5, none⟩) l1] at h3
  have HB := Lib.hid hB
  clear hV hB
  go_quiet ((go_at_call 123; exact Calls.quiet_of (full_any b _ t r s _ (by exact h1) (by exact h2) (by exact h3) _ rfl)))
  go_wp2
  go_ret
  exact ⟨rfl, below_drewN HB.out _⟩
theorem blocked_recv (b : Nat) (A : Nat) (y z : Int) (hA : A < 4) (t : Bool) (r : Int) (w : World) (h1 : w.cell? ⟨b, 57 + A * 6 + 3, none⟩ = some (.int .i64 r)) (h3 : w.cell? ⟨b, 57 + A * 6 + 5, none⟩ = some (.bool t)) :
    Calls Tryz.prog 92 #[.pointer (some ⟨b, 0, none⟩), insV 21 y A z] w fun e w' => e = .returned (.bool ((r == 0) && !t)) ∧ Below w.heap.size w w' := by
  have hA4 : (A : Int) < 4 := by omega
  have l1 := cell_lt h1
  go_enter Tryz.func92, Tryz.ntmps92
  go_wp2_with fail
  generalize hV : World.alloc w _ = V
  have hB : Below w.heap.size w V := by rw [← hV]; exact below_box _ _
  have hN : V.heap[w.heap.size]? = some (insO 21 y A z) := by rw [← hV]; exact heap_alloc_new _ _
  obtain ⟨n0, n1, n2, n3⟩ := cells4 hN
  rw [← hB.cell (p := ⟨b, 57 + A * 6 + 3, none⟩) l1] at h1
  rw [← hB.cell (p := ⟨b, 57 + A * 6 + 5, none⟩) l1] at h3
  have HB := Lib.hid hB
  clear hV hB
  go_quiet ((go_at_call 124; exact Calls.quiet_of (dry_any b _ t r _ (by exact h1) (by exact h3) _ rfl)))
  go_wp2
  go_ret
  exact ⟨rfl, below_drewN HB.out _⟩
theorem blocked_wait (b : Nat) (A : Nat) (y z : Int) (hA : A < 4) (r : Int) (w : World) (h1 : w.cell? ⟨b, 81 + A, none⟩ = some (.int .i64 r)) :
    Calls Tryz.prog 92 #[.pointer (some ⟨b, 0, none⟩), insV 25 A y z] w fun e w' => e = .returned (.bool (decide (0 < r))) ∧ Below w.heap.size w w' := by
  have hA4 : (A : Int) < 4 := by omega
  have l1 := cell_lt h1
  go_enter Tryz.func92, Tryz.ntmps92
  go_wp2_with fail
  generalize hV : World.alloc w _ = V
  have hB : Below w.heap.size w V := by rw [← hV]; exact below_box _ _
  have hN : V.heap[w.heap.size]? = some (insO 25 A y z) := by rw [← hV]; exact heap_alloc_new _ _
  obtain ⟨n0, n1, n2, n3⟩ := cells4 hN
  rw [← hB.cell (p := ⟨b, 81 + A, none⟩) l1] at h1
  have HB := Lib.hid hB
  clear hV hB
  go_quiet (fail)
  go_wp2
  go_ret
  exact ⟨rfl, below_drewN HB.out _⟩
theorem blocked_begin (b : Nat) (A : Nat) (y z : Int) (hA : A < 4) (r : Int) (w : World) (h1 : w.cell? ⟨b, 85 + A, none⟩ = some (.int .u8 r)) :
    Calls Tryz.prog 92 #[.pointer (some ⟨b, 0, none⟩), insV 26 y A z] w fun e w' => e = .returned (.bool (r == 1)) ∧ Below w.heap.size w w' := by
  have hA4 : (A : Int) < 4 := by omega
  have l1 := cell_lt h1
  go_enter Tryz.func92, Tryz.ntmps92
  go_wp2_with fail
  generalize hV : World.alloc w _ = V
  have hB : Below w.heap.size w V := by rw [← hV]; exact below_box _ _
  have hN : V.heap[w.heap.size]? = some (insO 26 y A z) := by rw [← hV]; exact heap_alloc_new _ _
  obtain ⟨n0, n1, n2, n3⟩ := cells4 hN
  rw [← hB.cell (p := ⟨b, 85 + A, none⟩) l1] at h1
  have HB := Lib.hid hB
  clear hV hB
  go_quiet (fail)
  go_wp2
  go_ret
  exact ⟨rfl, below_drewN HB.out _⟩
theorem blocked_none (b op : Nat) (x y z : Int) (w : World) (h13 : op ≠ 13) (h15 : op ≠ 15) (h20 : op ≠ 20) (h21 : op ≠ 21) (h25 : op ≠ 25) (h26 : op ≠ 26) :
    Calls Tryz.prog 92 #[.pointer (some ⟨b, 0, none⟩), insV op x y z] w fun e w' => e = .returned (.bool false) ∧ Below w.heap.size w w' := by
  have e13 : ((op : Int) == 13) = false := by simp; omega
  have e15 : ((op : Int) == 15) = false := by simp; omega
  have e20 : ((op : Int) == 20) = false := by simp; omega
  have e21 : ((op : Int) == 21) = false := by simp; omega
  have e25 : ((op : Int) == 25) = false := by simp; omega
  have e26 : ((op : Int) == 26) = false := by simp; omega
  clear h13 h15 h20 h21 h25 h26
  go_enter Tryz.func92, Tryz.ntmps92
  go_wp2
  go_ret
  exact ⟨rfl, below_box _ _⟩
theorem StIn.cellI {u : World} {b lo hi : Nat} {pv : Value} {m : Nat → Int} {code : List (List InsD)} {pr : List Int} (h : StIn u b lo hi pv m code pr) (i : Nat) (h1 : isB i = false) (h2 : i < 85 ∨ 88 < i) (h3 : 0 < i) (h4 : i < 89) : u.cell? ⟨b, i, none⟩ = some (.int .i64 (m i)) := by
  rw [h.cell _ (by omega) (by omega) (by omega), valAt_i h1 h2]
theorem StIn.cellB {u : World} {b lo hi : Nat} {pv : Value} {m : Nat → Int} {code : List (List InsD)} {pr : List Int} (h : StIn u b lo hi pv m code pr) (i : Nat) (h1 : isB i = true) (h3 : 0 < i) (h4 : i < 89) : u.cell? ⟨b, i, none⟩ = some (.bool (m i == 1)) := by
  rw [h.cell _ (by omega) (by omega) (by omega), valAt_b h1]
theorem StIn.cellO {u : World} {b lo hi : Nat} {pv : Value} {m : Nat → Int} {code : List (List InsD)} {pr : List Int} (h : StIn u b lo hi pv m code pr) (i : Nat) (h3 : 85 ≤ i) (h4 : i ≤ 88) : u.cell? ⟨b, i, none⟩ = some (.int .u8 (m i)) := by
  rw [h.cell _ (by omega) (by omega) (by omega), valAt_o h3 h4]
/-- Whether an instruction must wait. -/
def blockedM (m : Nat → Int) (x : InsD) : Bool :=
  if x.op = 13 then m (49 + x.a.toNat * 2) == 1 || !(m (49 + x.a.toNat * 2 + 1) == 0)
  else if x.op = 15 then m (49 + x.a.toNat * 2) == 1
  else if x.op = 20 then m (57 + x.a.toNat * 6 + 3) == m (57 + x.a.toNat * 6 + 4) && !(m (57 + x.a.toNat * 6 + 5) == 1)
  else if x.op = 21 then m (57 + x.b.toNat * 6 + 3) == 0 && !(m (57 + x.b.toNat * 6 + 5) == 1)
  else if x.op = 25 then decide (0 < m (81 + x.a.toNat))
  else if x.op = 26 then m (85 + x.b.toNat) == 1
  else false
theorem blocked_any {nt n : Nat} {b lo hi : Nat} {pv : Value} {m : Nat → Int} {code : List (List InsD)} {pr : List Int} (x : InsD) (hx : InsFit nt n x) (w : World) (S : StIn w b lo hi pv m code pr) :
    Calls Tryz.prog 92 #[.pointer (some ⟨b, 0, none⟩), insV x.op x.a x.b x.c] w fun e w' => e = .returned (.bool (blockedM m x)) ∧ Below w.heap.size w w' := by
  obtain ⟨op, a, y, z⟩ := x
  by_cases h13 : op = 13
  · subst h13
    obtain ⟨A, rfl, hA⟩ : Fit 4 a := hx
    exact (blocked_lock b A y z hA _ _ w (S.cellB _ (by simp [isB]; omega) (by omega) (by omega)) (S.cellI _ (by simp [isB]; omega) (by omega) (by omega) (by omega))).mono fun e w' h => by simpa [blockedM] using h
  by_cases h15 : op = 15
  · subst h15
    obtain ⟨A, rfl, hA⟩ : Fit 4 a := hx
    exact (blocked_rlock b A y z hA _ w (S.cellB _ (by simp [isB]; omega) (by omega) (by omega))).mono fun e w' h => by simpa [blockedM] using h
  by_cases h20 : op = 20
  · subst h20
    obtain ⟨A, rfl, hA⟩ : Fit 4 a := hx.1
    exact (blocked_send b A y z hA _ _ _ w (S.cellI _ (by simp [isB]; omega) (by omega) (by omega) (by omega)) (S.cellI _ (by simp [isB]; omega) (by omega) (by omega) (by omega)) (S.cellB _ (by simp [isB]; omega) (by omega) (by omega))).mono fun e w' h => by simpa [blockedM] using h
  by_cases h21 : op = 21
  · subst h21
    obtain ⟨A, rfl, hA⟩ : Fit 4 y := hx.2
    exact (blocked_recv b A a z hA _ _ w (S.cellI _ (by simp [isB]; omega) (by omega) (by omega) (by omega)) (S.cellB _ (by simp [isB]; omega) (by omega) (by omega))).mono fun e w' h => by simpa [blockedM] using h
  by_cases h25 : op = 25
  · subst h25
    obtain ⟨A, rfl, hA⟩ : Fit 4 a := hx
    exact (blocked_wait b A y z hA _ w (S.cellI _ (by simp [isB]; omega) (by omega) (by omega) (by omega))).mono fun e w' h => by simpa [blockedM] using h
  by_cases h26 : op = 26
  · subst h26
    obtain ⟨A, rfl, hA⟩ : Fit 4 y := hx.2
    exact (blocked_begin b A a z hA _ w (S.cellO _ (by omega) (by omega))).mono fun e w' h => by simpa [blockedM] using h
  exact (blocked_none b op a y z w h13 h15 h20 h21 h25 h26).mono fun e w' h => by simpa [blockedM, h13, h15, h20, h21, h25, h26] using h
theorem InsIn.keep {w w' : World} {lo hi : Nat} {a : Option Addr} {c : List InsD} (h : InsIn w lo hi a c) (hk : ∀ k, lo ≤ k → k < hi → w'.heap[k]? = w.heap[k]?) : InsIn w' lo hi a c := fun j x hx => by
  obtain ⟨g, off, h1, h2, h3, i0, i1, i2, i3⟩ := h j x hx
  have e : ∀ o, w'.cell? ⟨g, o, none⟩ = w.cell? ⟨g, o, none⟩ := fun o => World.cell?_of_block (hk g h2 h3)
  exact ⟨g, off, h1, h2, h3, (e _).trans i0, (e _).trans i1, (e _).trans i2, (e _).trans i3⟩
theorem RowsIn.keep {w w' : World} {lo hi : Nat} {a : Option Addr} {cs : List (List InsD)} (h : RowsIn w lo hi a cs) (hk : ∀ k, lo ≤ k → k < hi → w'.heap[k]? = w.heap[k]?) : RowsIn w' lo hi a cs := fun j c hc => by
  obtain ⟨g, off, h1, h2, h3, a', cap, h4, h5⟩ := h j c hc
  exact ⟨g, off, h1, h2, h3, a', cap, (World.cell?_of_block (hk g h2 h3)).trans h4, h5.keep hk⟩
theorem InsIn.keep2 {w w' : World} {lo hi : Nat} {a : Option Addr} {c : List InsD} (h : InsIn w lo hi a c) (hk : ∀ k, lo ≤ k → k < hi → k < w.heap.size → w'.heap[k]? = w.heap[k]?) : InsIn w' lo hi a c := fun j x hx => by
  obtain ⟨g, off, h1, h2, h3, i0, i1, i2, i3⟩ := h j x hx
  have e : ∀ o, w'.cell? ⟨g, o, none⟩ = w.cell? ⟨g, o, none⟩ := fun o => World.cell?_of_block (hk g h2 h3 (cell_lt i0))
  exact ⟨g, off, h1, h2, h3, (e _).trans i0, (e _).trans i1, (e _).trans i2, (e _).trans i3⟩
theorem RowsIn.keep2 {w w' : World} {lo hi : Nat} {a : Option Addr} {cs : List (List InsD)} (h : RowsIn w lo hi a cs) (hk : ∀ k, lo ≤ k → k < hi → k < w.heap.size → w'.heap[k]? = w.heap[k]?) : RowsIn w' lo hi a cs := fun j c hc => by
  obtain ⟨g, off, h1, h2, h3, a', cap, h4, h5⟩ := h j c hc
  exact ⟨g, off, h1, h2, h3, a', cap, (World.cell?_of_block (hk g h2 h3 (cell_lt h4))).trans h4, h5.keep2 hk⟩
theorem StIn.later {u u' : World} {b lo hi : Nat} {pv : Value} {m : Nat → Int} {code : List (List InsD)} {pr : List Int} (h : StIn u b lo hi pv m code pr) (hB : Below u.heap.size u u') : StIn u' b lo hi pv m code pr := by
  have hl := h.lt
  obtain ⟨cs, a, cap, h1, h2, h3, h4, h5, h6⟩ := h.box
  exact ⟨⟨cs, a, cap, (hB.block _ hl).trans h1, h2, h3, h4, h5, h6.keep2 fun k _ _ hk => hB.block _ hk⟩, own_later h.own hB, h.off, h.two, h.len, h.lens, Nat.le_trans h.top hB.size⟩
/-- What holds of a state's numbers in whatever run. -/
structure Inv (m : Nat → Int) (code : List (List InsD)) : Prop where
  pc : ∀ (k : Nat) (c : List InsD), code[k]? = some c → ∃ p : Nat, m (1 + k * 6 + 1) = p ∧ p ≤ c.length
  fit : ∀ (k : Nat) (c : List InsD), code[k]? = some c → ∀ x ∈ c, InsFit code.length c.length x
  chan : ∀ c, c < 4 → 0 ≤ m (57 + c * 6 + 3) ∧ m (57 + c * 6 + 3) ≤ m (57 + c * 6 + 4) ∧ m (57 + c * 6 + 4) ≤ 3
/-- The instruction that a thread is at. -/
def insM (code : List (List InsD)) (m : Nat → Int) (k : Nat) : Option InsD := (code[k]?).bind fun c => c[(m (1 + k * 6 + 1)).toNat]?
/-- Whether a thread that there is can go on. -/
def canK (code : List (List InsD)) (m : Nat → Int) (k : Nat) : Bool :=
  m (1 + k * 6) == 1 && match insM code m k with
    | none => false
    | some x => !(m 90 == 1) && !blockedM m x
def canM (code : List (List InsD)) (m : Nat → Int) (k : Int) : Bool := hasT code.length k && canK code m k.toNat
theorem can_no {b lo hi : Nat} {pv : Value} {m : Nat → Int} {code : List (List InsD)} {pr : List Int} (k : Int) (w : World) (S : StIn w b lo hi pv m code pr) (hk : hasT code.length k = false) :
    Calls Tryz.prog 72 #[.pointer (some ⟨b, 0, none⟩), .int .i64 k] w fun e w' => e = .returned (.bool false) ∧ Below w.heap.size w w' := by
  obtain ⟨a, cap, hc, hR⟩ := S.codeC
  have HK := Lib.hid hk
  clear hk
  go_enter Tryz.func72, Tryz.ntmps72
  go_wp2_with (first
    | (go_at_call 78; refine (goes_no b _ a cap k _ hc HK.out).mono ?_; rintro e w1 ⟨rfl, q, rfl⟩))
  go_ret
  exact ⟨rfl, below_drewN (Below.refl _ _) _⟩
theorem can_stops {b n : Nat} (k : Nat) (w : World) (hg : Calls Tryz.prog 78 #[.pointer (some ⟨b, 0, none⟩), .int .i64 k] w fun e w' => e = .returned (.bool false) ∧ ∃ q, w' = w.drewN q) :
    Calls Tryz.prog 72 #[.pointer (some ⟨b, 0, none⟩), .int .i64 k] w fun e w' => e = .returned (.bool false) ∧ Below w.heap.size w w' := by
  have HG := Lib.hid hg
  clear hg
  go_enter Tryz.func72, Tryz.ntmps72
  go_wp2_with (first
    | (go_at_call 78; refine HG.out.mono ?_; rintro e w1 ⟨rfl, q, rfl⟩))
  go_ret
  exact ⟨rfl, below_drewN (Below.refl _ _) _⟩
theorem can_trap {b : Nat} (k : Nat) (w : World) (hg : Calls Tryz.prog 78 #[.pointer (some ⟨b, 0, none⟩), .int .i64 k] w fun e w' => e = .returned (.bool true) ∧ ∃ q, w' = w.drewN q) (ht : w.cell? ⟨b, 90, none⟩ = some (.bool true)) :
    Calls Tryz.prog 72 #[.pointer (some ⟨b, 0, none⟩), .int .i64 k] w fun e w' => e = .returned (.bool false) ∧ Below w.heap.size w w' := by
  have HG := Lib.hid hg
  clear hg
  go_enter Tryz.func72, Tryz.ntmps72
  go_wp2_with (first
    | (go_at_call 78; refine HG.out.mono ?_; rintro e w1 ⟨rfl, q, rfl⟩))
  go_ret
  exact ⟨rfl, below_drewN (Below.refl _ _) _⟩
theorem can_at {b : Nat} (k : Nat) (x : InsD) (t : Bool) (w : World) (hg : Calls Tryz.prog 78 #[.pointer (some ⟨b, 0, none⟩), .int .i64 k] w fun e w' => e = .returned (.bool true) ∧ ∃ q, w' = w.drewN q) (ht : w.cell? ⟨b, 90, none⟩ = some (.bool false))
    (hn : ∀ u, Below w.heap.size w u → Calls Tryz.prog 73 #[.pointer (some ⟨b, 0, none⟩), .int .i64 k] u fun e w' => e = .returned (insV x.op x.a x.b x.c) ∧ Below u.heap.size u w')
    (hb : ∀ u, Below w.heap.size w u → Calls Tryz.prog 92 #[.pointer (some ⟨b, 0, none⟩), insV x.op x.a x.b x.c] u fun e w' => e = .returned (.bool t) ∧ Below u.heap.size u w') :
    Calls Tryz.prog 72 #[.pointer (some ⟨b, 0, none⟩), .int .i64 k] w fun e w' => e = .returned (.bool (!t)) ∧ Below w.heap.size w w' := by
  have HG := Lib.hid hg
  have HN := Lib.hid hn
  have HB := Lib.hid hb
  clear hg hn hb
  go_enter Tryz.func72, Tryz.ntmps72
  go_wp2_with (first
    | (go_at_call 78; refine HG.out.mono ?_; rintro e w1 ⟨rfl, q, rfl⟩)
    | (go_at_call 73; refine (HN.out _ (below_drewN (Below.refl _ _) q)).mono ?_; rintro e w2 ⟨rfl, hB2⟩)
    | (go_at_call 92; refine (HB.out _ (below_next (below_drewN (Below.refl _ _) q) hB2)).mono ?_; rintro e w3 ⟨rfl, hB3⟩))
  go_ret
  exact ⟨rfl, below_next (below_next (below_drewN (Below.refl _ _) q) hB2) hB3⟩
theorem StIn.next {b lo hi : Nat} {pv : Value} {m : Nat → Int} {code : List (List InsD)} {pr : List Int} {w : World} (S : StIn w b lo hi pv m code pr) (I : Inv m code) {k : Nat} {x : InsD} (hx : insM code m k = some x) :
    Calls Tryz.prog 73 #[.pointer (some ⟨b, 0, none⟩), .int .i64 k] w fun e w' => e = .returned (insV x.op x.a x.b x.c) ∧ Below w.heap.size w w' := by
  obtain ⟨a, cap, hc, hR⟩ := S.codeC
  rcases hq : code[k]? with _ | c
  · simp [insM, hq] at hx
  simp only [insM, hq, Option.bind_some] at hx
  have hk := (List.getElem?_eq_some_iff.1 hq).1
  obtain ⟨p, hp, hpl⟩ := I.pc k c hq
  rw [hp, Int.toNat_natCast] at hx
  have hl := (List.getElem?_eq_some_iff.1 hx).1
  obtain ⟨g, off, rfl, h2, h3, a', cp, h4, h5⟩ := hR k c hq
  obtain ⟨g', off', rfl, h6, h7, h8⟩ := h5 p x hx
  have h9 := S.pc k (by have := S.len; omega)
  rw [hp] at h9
  exact next_any b _ cap k p g off c.length cp g' off' x w hc hk S.len h9 h4 hl h8
theorem StIn.goes {b lo hi : Nat} {pv : Value} {m : Nat → Int} {code : List (List InsD)} {pr : List Int} {w : World} (S : StIn w b lo hi pv m code pr) (I : Inv m code) {k : Nat} (hk : k < code.length) :
    Calls Tryz.prog 78 #[.pointer (some ⟨b, 0, none⟩), .int .i64 k] w fun e w' => e = .returned (.bool (m (1 + k * 6) == 1 && (insM code m k).isSome)) ∧ ∃ q, w' = w.drewN q := by
  obtain ⟨a, cap, hc, hR⟩ := S.codeC
  have hl := S.len
  have ho := S.on k (by omega)
  rcases hb : (m (1 + k * 6) == 1) with _ | _
  · rw [hb] at ho
    simpa using goes_off b _ a cap k w hc hk hl ho
  · rw [hb] at ho
    have hq : code[k]? = some code[k] := List.getElem?_eq_getElem hk
    obtain ⟨p, hp, hpl⟩ := I.pc k _ hq
    obtain ⟨g, off, rfl, h2, h3, a', cp, h4, h5⟩ := hR k _ hq
    have h9 := S.pc k (by omega)
    rw [hp] at h9
    have e : (insM code m k).isSome = decide (p < (code[k]).length) := by
      simp only [insM, hq, Option.bind_some, hp, Int.toNat_natCast]
      rw [Bool.eq_iff_iff]; simp
    rw [Bool.true_and, e]
    exact goes_on b _ none cap k p g off _ cp a' w hc hk hl ho h9 h4 _ rfl
theorem can_any {b lo hi : Nat} {pv : Value} {m : Nat → Int} {code : List (List InsD)} {pr : List Int} (k : Int) (w : World) (S : StIn w b lo hi pv m code pr) (I : Inv m code) :
    Calls Tryz.prog 72 #[.pointer (some ⟨b, 0, none⟩), .int .i64 k] w fun e w' => e = .returned (.bool (canM code m k)) ∧ Below w.heap.size w w' := by
  rcases hh : hasT code.length k with _ | _
  · simpa [canM, hh] using can_no k w S hh
  obtain ⟨j, rfl, hj⟩ := hasT_yes hh
  have hG := S.goes I hj
  simp only [canM, hh, Bool.true_and, Int.toNat_natCast, canK]
  rcases hb : (m (1 + j * 6) == 1) with _ | _
  · rw [hb] at hG
    simpa using can_stops (n := 0) j w hG
  rcases hx : insM code m j with _ | x
  · rw [hb, hx] at hG
    simpa using can_stops (n := 0) j w hG
  rw [hb, hx] at hG
  have hT := S.trap
  rcases ht : (m 90 == 1) with _ | _
  · rw [ht] at hT
    have hfit : ∃ n, InsFit code.length n x := by
      rcases hq : code[j]? with _ | c
      · simp [insM, hq] at hx
      simp only [insM, hq, Option.bind_some] at hx
      exact ⟨_, I.fit j c hq x (List.mem_of_getElem? hx)⟩
    obtain ⟨n, hf⟩ := hfit
    simpa using can_at j x (blockedM m x) w hG hT (fun u hB => (S.later hB).next I hx) (fun u hB => blocked_any x hf u (S.later hB))
  · rw [ht] at hT
    simpa using can_trap j w hG hT
end Go.Proofs.YtglafbajbiengaaGreat
