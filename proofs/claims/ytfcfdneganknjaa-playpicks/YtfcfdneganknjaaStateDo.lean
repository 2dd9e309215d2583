/- What an instruction does, by calls. -/
import Derived.Test.YtfcfdneganknjaaStatePass2
namespace Go.Proofs.Ytfcfdneganknjaa
set_option linter.unusedVariables false
set_option linter.unusedSimpArgs false
set_option maxRecDepth 100000
open Go.ChangeShapes Go.WideShapes Go.ChangeAt Go.RowKit

set_option maxHeartbeats 1000000 in
theorem do_1 (b eb : Nat) (t : Addr) (x y z : Int) (w : World) (F : World → World) (hF : ∀ B u v, Below B u v → Below B (F u) (F v))
    (hc : ∀ u, Below w.heap.size w u → Calls Try.prog 70 #[.pointer (some t), insV 1 x y z] u fun e u' => e = .returned (.tuple #[]) ∧ Below u.heap.size (F u) u') :
    Calls Try.prog 58 #[.pointer (some ⟨b, 0, none⟩), .pointer (some t), insV 1 x y z, .pointer (some ⟨eb, 0, none⟩)] w fun e w' => e = .returned (.bool true) ∧ Below w.heap.size (F w) w' := by
  have HC := Lib.hid hc
  have HF := Lib.hid hF
  clear hc hF
  go_enter Try.func58, Try.ntmps58
  go_wp2_with (first
    | (go_at_call 70; refine (HC.out _ (below_box _ _)).mono ?_; rintro e u ⟨rfl, hu⟩))
  go_ret
  exact ⟨rfl, (HF.out _ _ _ (below_box _ _)).trans (hu.mono (below_box _ _).size)⟩
set_option maxHeartbeats 1000000 in
theorem do_2 (b eb : Nat) (t : Addr) (x y z : Int) (w : World) (F : World → World) (hF : ∀ B u v, Below B u v → Below B (F u) (F v))
    (hc : ∀ u, Below w.heap.size w u → Calls Try.prog 70 #[.pointer (some t), insV 2 x y z] u fun e u' => e = .returned (.tuple #[]) ∧ Below u.heap.size (F u) u') :
    Calls Try.prog 58 #[.pointer (some ⟨b, 0, none⟩), .pointer (some t), insV 2 x y z, .pointer (some ⟨eb, 0, none⟩)] w fun e w' => e = .returned (.bool true) ∧ Below w.heap.size (F w) w' := by
  have HC := Lib.hid hc
  have HF := Lib.hid hF
  clear hc hF
  go_enter Try.func58, Try.ntmps58
  go_wp2_with (first
    | (go_at_call 70; refine (HC.out _ (below_box _ _)).mono ?_; rintro e u ⟨rfl, hu⟩))
  go_ret
  exact ⟨rfl, (HF.out _ _ _ (below_box _ _)).trans (hu.mono (below_box _ _).size)⟩
set_option maxHeartbeats 1000000 in
theorem do_3 (b eb : Nat) (t : Addr) (x y z : Int) (w : World) (F : World → World) (hF : ∀ B u v, Below B u v → Below B (F u) (F v))
    (hc : ∀ u, Below w.heap.size w u → Calls Try.prog 70 #[.pointer (some t), insV 3 x y z] u fun e u' => e = .returned (.tuple #[]) ∧ Below u.heap.size (F u) u') :
    Calls Try.prog 58 #[.pointer (some ⟨b, 0, none⟩), .pointer (some t), insV 3 x y z, .pointer (some ⟨eb, 0, none⟩)] w fun e w' => e = .returned (.bool true) ∧ Below w.heap.size (F w) w' := by
  have HC := Lib.hid hc
  have HF := Lib.hid hF
  clear hc hF
  go_enter Try.func58, Try.ntmps58
  go_wp2_with (first
    | (go_at_call 70; refine (HC.out _ (below_box _ _)).mono ?_; rintro e u ⟨rfl, hu⟩))
  go_ret
  exact ⟨rfl, (HF.out _ _ _ (below_box _ _)).trans (hu.mono (below_box _ _).size)⟩
set_option maxHeartbeats 1000000 in
theorem do_4 (b eb : Nat) (t : Addr) (x y z : Int) (w : World) (F : World → World) (hF : ∀ B u v, Below B u v → Below B (F u) (F v))
    (hc : ∀ u, Below w.heap.size w u → Calls Try.prog 70 #[.pointer (some t), insV 4 x y z] u fun e u' => e = .returned (.tuple #[]) ∧ Below u.heap.size (F u) u') :
    Calls Try.prog 58 #[.pointer (some ⟨b, 0, none⟩), .pointer (some t), insV 4 x y z, .pointer (some ⟨eb, 0, none⟩)] w fun e w' => e = .returned (.bool true) ∧ Below w.heap.size (F w) w' := by
  have HC := Lib.hid hc
  have HF := Lib.hid hF
  clear hc hF
  go_enter Try.func58, Try.ntmps58
  go_wp2_with (first
    | (go_at_call 70; refine (HC.out _ (below_box _ _)).mono ?_; rintro e u ⟨rfl, hu⟩))
  go_ret
  exact ⟨rfl, (HF.out _ _ _ (below_box _ _)).trans (hu.mono (below_box _ _).size)⟩
set_option maxHeartbeats 1000000 in
theorem do_5 (b eb : Nat) (t : Addr) (x y z : Int) (w : World) (F : World → World) (hF : ∀ B u v, Below B u v → Below B (F u) (F v))
    (hc : ∀ u, Below w.heap.size w u → Calls Try.prog 70 #[.pointer (some t), insV 5 x y z] u fun e u' => e = .returned (.tuple #[]) ∧ Below u.heap.size (F u) u') :
    Calls Try.prog 58 #[.pointer (some ⟨b, 0, none⟩), .pointer (some t), insV 5 x y z, .pointer (some ⟨eb, 0, none⟩)] w fun e w' => e = .returned (.bool true) ∧ Below w.heap.size (F w) w' := by
  have HC := Lib.hid hc
  have HF := Lib.hid hF
  clear hc hF
  go_enter Try.func58, Try.ntmps58
  go_wp2_with (first
    | (go_at_call 70; refine (HC.out _ (below_box _ _)).mono ?_; rintro e u ⟨rfl, hu⟩))
  go_ret
  exact ⟨rfl, (HF.out _ _ _ (below_box _ _)).trans (hu.mono (below_box _ _).size)⟩
set_option maxHeartbeats 1000000 in
theorem do_6 (b eb : Nat) (t : Addr) (x y z : Int) (w : World) (F : World → World) (hF : ∀ B u v, Below B u v → Below B (F u) (F v))
    (hc : ∀ u, Below w.heap.size w u → Calls Try.prog 70 #[.pointer (some t), insV 6 x y z] u fun e u' => e = .returned (.tuple #[]) ∧ Below u.heap.size (F u) u') :
    Calls Try.prog 58 #[.pointer (some ⟨b, 0, none⟩), .pointer (some t), insV 6 x y z, .pointer (some ⟨eb, 0, none⟩)] w fun e w' => e = .returned (.bool true) ∧ Below w.heap.size (F w) w' := by
  have HC := Lib.hid hc
  have HF := Lib.hid hF
  clear hc hF
  go_enter Try.func58, Try.ntmps58
  go_wp2_with (first
    | (go_at_call 70; refine (HC.out _ (below_box _ _)).mono ?_; rintro e u ⟨rfl, hu⟩))
  go_ret
  exact ⟨rfl, (HF.out _ _ _ (below_box _ _)).trans (hu.mono (below_box _ _).size)⟩
set_option maxHeartbeats 1000000 in
theorem do_10 (b eb : Nat) (t : Addr) (x y z : Int) (w : World) (F : World → World) (hF : ∀ B u v, Below B u v → Below B (F u) (F v))
    (hc : ∀ u, Below w.heap.size w u → Calls Try.prog 71 #[.pointer (some t), insV 10 x y z] u fun e u' => e = .returned (.tuple #[]) ∧ Below u.heap.size (F u) u') :
    Calls Try.prog 58 #[.pointer (some ⟨b, 0, none⟩), .pointer (some t), insV 10 x y z, .pointer (some ⟨eb, 0, none⟩)] w fun e w' => e = .returned (.bool true) ∧ Below w.heap.size (F w) w' := by
  have HC := Lib.hid hc
  have HF := Lib.hid hF
  clear hc hF
  go_enter Try.func58, Try.ntmps58
  go_wp2_with (first
    | (go_at_call 71; refine (HC.out _ (below_box _ _)).mono ?_; rintro e u ⟨rfl, hu⟩))
  go_ret
  exact ⟨rfl, (HF.out _ _ _ (below_box _ _)).trans (hu.mono (below_box _ _).size)⟩
set_option maxHeartbeats 1000000 in
theorem do_11 (b eb : Nat) (t : Addr) (x y z : Int) (w : World) (F : World → World) (hF : ∀ B u v, Below B u v → Below B (F u) (F v))
    (hc : ∀ u, Below w.heap.size w u → Calls Try.prog 71 #[.pointer (some t), insV 11 x y z] u fun e u' => e = .returned (.tuple #[]) ∧ Below u.heap.size (F u) u') :
    Calls Try.prog 58 #[.pointer (some ⟨b, 0, none⟩), .pointer (some t), insV 11 x y z, .pointer (some ⟨eb, 0, none⟩)] w fun e w' => e = .returned (.bool true) ∧ Below w.heap.size (F w) w' := by
  have HC := Lib.hid hc
  have HF := Lib.hid hF
  clear hc hF
  go_enter Try.func58, Try.ntmps58
  go_wp2_with (first
    | (go_at_call 71; refine (HC.out _ (below_box _ _)).mono ?_; rintro e u ⟨rfl, hu⟩))
  go_ret
  exact ⟨rfl, (HF.out _ _ _ (below_box _ _)).trans (hu.mono (below_box _ _).size)⟩
set_option maxHeartbeats 1000000 in
theorem do_7 (b eb : Nat) (t : Addr) (x y z : Int) (w : World) (F : World → World) (hF : ∀ B u v, Below B u v → Below B (F u) (F v))
    (hc : ∀ u, Below w.heap.size w u → Calls Try.prog 72 #[.pointer (some ⟨b, 0, none⟩), .pointer (some t), insV 7 x y z, .pointer (some ⟨eb, 0, none⟩)] u fun e u' => e = .returned (.tuple #[]) ∧ Below u.heap.size (F u) u') :
    Calls Try.prog 58 #[.pointer (some ⟨b, 0, none⟩), .pointer (some t), insV 7 x y z, .pointer (some ⟨eb, 0, none⟩)] w fun e w' => e = .returned (.bool true) ∧ Below w.heap.size (F w) w' := by
  have HC := Lib.hid hc
  have HF := Lib.hid hF
  clear hc hF
  go_enter Try.func58, Try.ntmps58
  go_wp2_with (first
    | (go_at_call 72; refine (HC.out _ (below_box _ _)).mono ?_; rintro e u ⟨rfl, hu⟩))
  go_ret
  exact ⟨rfl, (HF.out _ _ _ (below_box _ _)).trans (hu.mono (below_box _ _).size)⟩
set_option maxHeartbeats 1000000 in
theorem do_8 (b eb : Nat) (t : Addr) (x y z : Int) (w : World) (F : World → World) (hF : ∀ B u v, Below B u v → Below B (F u) (F v))
    (hc : ∀ u, Below w.heap.size w u → Calls Try.prog 72 #[.pointer (some ⟨b, 0, none⟩), .pointer (some t), insV 8 x y z, .pointer (some ⟨eb, 0, none⟩)] u fun e u' => e = .returned (.tuple #[]) ∧ Below u.heap.size (F u) u') :
    Calls Try.prog 58 #[.pointer (some ⟨b, 0, none⟩), .pointer (some t), insV 8 x y z, .pointer (some ⟨eb, 0, none⟩)] w fun e w' => e = .returned (.bool true) ∧ Below w.heap.size (F w) w' := by
  have HC := Lib.hid hc
  have HF := Lib.hid hF
  clear hc hF
  go_enter Try.func58, Try.ntmps58
  go_wp2_with (first
    | (go_at_call 72; refine (HC.out _ (below_box _ _)).mono ?_; rintro e u ⟨rfl, hu⟩))
  go_ret
  exact ⟨rfl, (HF.out _ _ _ (below_box _ _)).trans (hu.mono (below_box _ _).size)⟩
set_option maxHeartbeats 1000000 in
theorem do_17 (b eb : Nat) (t : Addr) (x y z : Int) (w : World) (F : World → World) (hF : ∀ B u v, Below B u v → Below B (F u) (F v))
    (hc : ∀ u, Below w.heap.size w u → Calls Try.prog 72 #[.pointer (some ⟨b, 0, none⟩), .pointer (some t), insV 17 x y z, .pointer (some ⟨eb, 0, none⟩)] u fun e u' => e = .returned (.tuple #[]) ∧ Below u.heap.size (F u) u') :
    Calls Try.prog 58 #[.pointer (some ⟨b, 0, none⟩), .pointer (some t), insV 17 x y z, .pointer (some ⟨eb, 0, none⟩)] w fun e w' => e = .returned (.bool true) ∧ Below w.heap.size (F w) w' := by
  have HC := Lib.hid hc
  have HF := Lib.hid hF
  clear hc hF
  go_enter Try.func58, Try.ntmps58
  go_wp2_with (first
    | (go_at_call 72; refine (HC.out _ (below_box _ _)).mono ?_; rintro e u ⟨rfl, hu⟩))
  go_ret
  exact ⟨rfl, (HF.out _ _ _ (below_box _ _)).trans (hu.mono (below_box _ _).size)⟩
set_option maxHeartbeats 1000000 in
theorem do_18 (b eb : Nat) (t : Addr) (x y z : Int) (w : World) (F : World → World) (hF : ∀ B u v, Below B u v → Below B (F u) (F v))
    (hc : ∀ u, Below w.heap.size w u → Calls Try.prog 72 #[.pointer (some ⟨b, 0, none⟩), .pointer (some t), insV 18 x y z, .pointer (some ⟨eb, 0, none⟩)] u fun e u' => e = .returned (.tuple #[]) ∧ Below u.heap.size (F u) u') :
    Calls Try.prog 58 #[.pointer (some ⟨b, 0, none⟩), .pointer (some t), insV 18 x y z, .pointer (some ⟨eb, 0, none⟩)] w fun e w' => e = .returned (.bool true) ∧ Below w.heap.size (F w) w' := by
  have HC := Lib.hid hc
  have HF := Lib.hid hF
  clear hc hF
  go_enter Try.func58, Try.ntmps58
  go_wp2_with (first
    | (go_at_call 72; refine (HC.out _ (below_box _ _)).mono ?_; rintro e u ⟨rfl, hu⟩))
  go_ret
  exact ⟨rfl, (HF.out _ _ _ (below_box _ _)).trans (hu.mono (below_box _ _).size)⟩
set_option maxHeartbeats 1000000 in
theorem do_19 (b eb : Nat) (t : Addr) (x y z : Int) (w : World) (F : World → World) (hF : ∀ B u v, Below B u v → Below B (F u) (F v))
    (hc : ∀ u, Below w.heap.size w u → Calls Try.prog 72 #[.pointer (some ⟨b, 0, none⟩), .pointer (some t), insV 19 x y z, .pointer (some ⟨eb, 0, none⟩)] u fun e u' => e = .returned (.tuple #[]) ∧ Below u.heap.size (F u) u') :
    Calls Try.prog 58 #[.pointer (some ⟨b, 0, none⟩), .pointer (some t), insV 19 x y z, .pointer (some ⟨eb, 0, none⟩)] w fun e w' => e = .returned (.bool true) ∧ Below w.heap.size (F w) w' := by
  have HC := Lib.hid hc
  have HF := Lib.hid hF
  clear hc hF
  go_enter Try.func58, Try.ntmps58
  go_wp2_with (first
    | (go_at_call 72; refine (HC.out _ (below_box _ _)).mono ?_; rintro e u ⟨rfl, hu⟩))
  go_ret
  exact ⟨rfl, (HF.out _ _ _ (below_box _ _)).trans (hu.mono (below_box _ _).size)⟩
set_option maxHeartbeats 1000000 in
theorem do_20 (b eb : Nat) (t : Addr) (x y z : Int) (w : World) (F : World → World) (hF : ∀ B u v, Below B u v → Below B (F u) (F v)) (r : Bool)
    (hc : ∀ u, Below w.heap.size w u → Calls Try.prog 75 #[.pointer (some ⟨b, 0, none⟩), .pointer (some t), insV 20 x y z, .pointer (some ⟨eb, 0, none⟩)] u fun e u' => e = .returned (.bool r) ∧ Below u.heap.size (F u) u') :
    Calls Try.prog 58 #[.pointer (some ⟨b, 0, none⟩), .pointer (some t), insV 20 x y z, .pointer (some ⟨eb, 0, none⟩)] w fun e w' => e = .returned (.bool r) ∧ Below w.heap.size (F w) w' := by
  have HC := Lib.hid hc
  have HF := Lib.hid hF
  clear hc hF
  go_enter Try.func58, Try.ntmps58
  go_wp2_with (first
    | (go_at_call 75; refine (HC.out _ (below_box _ _)).mono ?_; rintro e u ⟨rfl, hu⟩))
  go_ret
  exact ⟨rfl, (HF.out _ _ _ (below_box _ _)).trans (hu.mono (below_box _ _).size)⟩
set_option maxHeartbeats 1000000 in
theorem do_21 (b eb : Nat) (t : Addr) (x y z : Int) (w : World) (F : World → World) (hF : ∀ B u v, Below B u v → Below B (F u) (F v)) (r : Bool)
    (hc : ∀ u, Below w.heap.size w u → Calls Try.prog 75 #[.pointer (some ⟨b, 0, none⟩), .pointer (some t), insV 21 x y z, .pointer (some ⟨eb, 0, none⟩)] u fun e u' => e = .returned (.bool r) ∧ Below u.heap.size (F u) u') :
    Calls Try.prog 58 #[.pointer (some ⟨b, 0, none⟩), .pointer (some t), insV 21 x y z, .pointer (some ⟨eb, 0, none⟩)] w fun e w' => e = .returned (.bool r) ∧ Below w.heap.size (F w) w' := by
  have HC := Lib.hid hc
  have HF := Lib.hid hF
  clear hc hF
  go_enter Try.func58, Try.ntmps58
  go_wp2_with (first
    | (go_at_call 75; refine (HC.out _ (below_box _ _)).mono ?_; rintro e u ⟨rfl, hu⟩))
  go_ret
  exact ⟨rfl, (HF.out _ _ _ (below_box _ _)).trans (hu.mono (below_box _ _).size)⟩
set_option maxHeartbeats 1000000 in
theorem do_22 (b eb : Nat) (t : Addr) (x y z : Int) (w : World) (F : World → World) (hF : ∀ B u v, Below B u v → Below B (F u) (F v)) (r : Bool)
    (hc : ∀ u, Below w.heap.size w u → Calls Try.prog 75 #[.pointer (some ⟨b, 0, none⟩), .pointer (some t), insV 22 x y z, .pointer (some ⟨eb, 0, none⟩)] u fun e u' => e = .returned (.bool r) ∧ Below u.heap.size (F u) u') :
    Calls Try.prog 58 #[.pointer (some ⟨b, 0, none⟩), .pointer (some t), insV 22 x y z, .pointer (some ⟨eb, 0, none⟩)] w fun e w' => e = .returned (.bool r) ∧ Below w.heap.size (F w) w' := by
  have HC := Lib.hid hc
  have HF := Lib.hid hF
  clear hc hF
  go_enter Try.func58, Try.ntmps58
  go_wp2_with (first
    | (go_at_call 75; refine (HC.out _ (below_box _ _)).mono ?_; rintro e u ⟨rfl, hu⟩))
  go_ret
  exact ⟨rfl, (HF.out _ _ _ (below_box _ _)).trans (hu.mono (below_box _ _).size)⟩
set_option maxHeartbeats 1000000 in
theorem do_23 (b eb : Nat) (t : Addr) (x y z : Int) (w : World) (F : World → World) (hF : ∀ B u v, Below B u v → Below B (F u) (F v)) (r : Bool)
    (hc : ∀ u, Below w.heap.size w u → Calls Try.prog 75 #[.pointer (some ⟨b, 0, none⟩), .pointer (some t), insV 23 x y z, .pointer (some ⟨eb, 0, none⟩)] u fun e u' => e = .returned (.bool r) ∧ Below u.heap.size (F u) u') :
    Calls Try.prog 58 #[.pointer (some ⟨b, 0, none⟩), .pointer (some t), insV 23 x y z, .pointer (some ⟨eb, 0, none⟩)] w fun e w' => e = .returned (.bool r) ∧ Below w.heap.size (F w) w' := by
  have HC := Lib.hid hc
  have HF := Lib.hid hF
  clear hc hF
  go_enter Try.func58, Try.ntmps58
  go_wp2_with (first
    | (go_at_call 75; refine (HC.out _ (below_box _ _)).mono ?_; rintro e u ⟨rfl, hu⟩))
  go_ret
  exact ⟨rfl, (HF.out _ _ _ (below_box _ _)).trans (hu.mono (below_box _ _).size)⟩
end Go.Proofs.Ytfcfdneganknjaa
