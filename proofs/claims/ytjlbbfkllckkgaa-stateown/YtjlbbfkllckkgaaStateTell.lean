/- Status, Prints, Copy. -/
import Derived.Test.YtjlbbfkllckkgaaStateCan2
import Derived.Test.YtjlbbfkllckkgaaLawKit
import Derived.ProofKit
import Derived.Test.YtjlbbfkllckkgaaStateDo5
import Derived.Test.YtjlbbfkllckkgaaStateClone
namespace Go.Proofs.Ytjlbbfkllckkgaa
set_option linter.unusedVariables false
set_option linter.unusedSimpArgs false
set_option maxRecDepth 100000
open Go.ChangeShapes Go.WideShapes Go.ChangeAt Go.RowKit

def goesM (code : List (List InsD)) (m : Nat → Int) (k : Nat) : Bool := m (1 + k * 6) == 1 && (insM code m k).isSome
/-- Whether a thread below n goes; whether one can go on. -/
def goesTo (code : List (List InsD)) (m : Nat → Int) (n : Nat) : Bool := (List.range n).any (goesM code m)
def canTo (code : List (List InsD)) (m : Nat → Int) (n : Nat) : Bool := (List.range n).any (fun k => canM code m k)
theorem goesTo_succ (code : List (List InsD)) (m : Nat → Int) (n : Nat) : goesTo code m (n + 1) = (goesTo code m n || goesM code m n) := by simp [goesTo, List.range_succ]
theorem canTo_succ (code : List (List InsD)) (m : Nat → Int) (n : Nat) : canTo code m (n + 1) = (canTo code m n || canM code m n) := by simp [canTo, List.range_succ]
theorem canTo_at {code : List (List InsD)} {m : Nat → Int} {n k : Nat} (hk : k < n) (h : canM code m k = true) : canTo code m n = true := by
  simp only [canTo, List.any_eq_true]; exact ⟨k, by simp [hk], h⟩
def goesN (t : Bool) : Int := if t then 2 else 1
/-- What a state has come to. -/
def statusM (code : List (List InsD)) (m : Nat → Int) : Int :=
  if m 90 == 1 then 3 else if canTo code m code.length then 0 else goesN (goesTo code m code.length)

set_option maxHeartbeats 1000000 in
theorem status_trap {b lo hi : Nat} {pv : Value} {m : Nat → Int} {code : List (List InsD)} {pr : List Int} (w : World) (S : StIn w b lo hi pv m code pr) (ht : (m 90 == 1) = true) :
    Calls Try.prog 14 #[.pointer (some ⟨b, 0, none⟩)] w fun e w' => e = .returned (.int .u8 3) ∧ Below w.heap.size w w' := by
  have t90 := S.trap
  rw [ht] at t90
  go_enter Try.func14, Try.ntmps14
  go_wp2_with fail
  go_ret
  exact ⟨rfl, Below.refl _ _⟩
set_option maxHeartbeats 1000000 in
theorem status_runs {b lo hi : Nat} {pv : Value} {m : Nat → Int} {code : List (List InsD)} {pr : List Int} (w : World) (S : StIn w b lo hi pv m code pr) (I : Inv m code) (ht : (m 90 == 1) = false) :
    Calls Try.prog 14 #[.pointer (some ⟨b, 0, none⟩)] w fun e w' => e = .returned (.int .u8 (statusM code m)) ∧ Below w.heap.size w w' := by
  have t90 := S.trap
  rw [ht] at t90
  have hl := S.len
  obtain ⟨a, cap, hc, hR⟩ := S.codeC
  have HS := Lib.hid S
  have HI := Lib.hid I
  have HT := Lib.hid ht
  clear S I ht hR
  go_enter Try.func14, Try.ntmps14
  go_wp2
  go_loopw [14, 3] (fun i st wr => ∃ k : Nat, k ≤ code.length ∧ i = .int .i64 k ∧ st = .int .u8 (goesN (goesTo code m k)) ∧ Below w.heap.size w wr ∧ Hid (canTo code m k = false)) (fun i _ _ => code.length - (intOf i).toNat)
  case atStart => exact ⟨0, Nat.zero_le _, rfl, rfl, Below.refl _ _, Lib.hid rfl⟩
  case round =>
    obtain ⟨k, hk, rfl, rfl, hB, HZ⟩ := hrel
    by_cases hlt : k < code.length
    · have HC := Lib.hid (can_any (k : Int) wr (HS.out.later hB) HI.out)
      rcases hcan : canM code m k with _ | _
      · rw [hcan] at HC
        have HCan := Lib.hid hcan
        clear hcan
        generalize hgo : goesTo code m k = gk
        have HGo := Lib.hid hgo
        clear hgo
        rcases hgm : goesM code m k with _ | _
        all_goals
          have HGm := Lib.hid hgm
          clear hgm
          go_wp2_with (first
            | (go_at_call 18; refine HC.out.mono ?_; rintro e w1 ⟨rfl, hB1⟩)
            | (go_at_call 26; refine ((HS.out.later (below_next hB hB1)).goes HI.out hlt).mono ?_; rintro e w2 ⟨rfl, q, rfl⟩; rw [show (m (1 + k * 6) == 1 && (insM code m k).isSome) = goesM code m k from rfl, HGm.out]))
          go_roundw
          case rel => exact ⟨k + 1, by omega, by go_num, by rw [goesTo_succ, HGo.out, HGm.out]; simp [goesN], below_drewN (below_next hB hB1) _, Lib.hid (by rw [canTo_succ, HZ.out, HCan.out]; rfl)⟩
          case measure => simp [intOf]; omega
      · rw [hcan] at HC
        have HCan := Lib.hid (canTo_at hlt hcan)
        clear hcan
        go_wp2_with (first
            | (go_at_call 18; refine HC.out.mono ?_; rintro e w1 ⟨rfl, hB1⟩))
        go_ret
        exact ⟨by simp [statusM, HT.out, HCan.out], below_next hB hB1⟩
    · obtain rfl : k = code.length := by omega
      generalize hgo : goesTo code m code.length = gk
      have HGo := Lib.hid hgo
      clear hgo
      go_wp2
      go_ret
      exact ⟨by simp [statusM, HT.out, HZ.out, HGo.out], hB⟩
theorem status_any {b lo hi : Nat} {pv : Value} {m : Nat → Int} {code : List (List InsD)} {pr : List Int} (w : World) (S : StIn w b lo hi pv m code pr) (I : Inv m code) :
    Calls Try.prog 14 #[.pointer (some ⟨b, 0, none⟩)] w fun e w' => e = .returned (.int .u8 (statusM code m)) ∧ Below w.heap.size w w' := by
  rcases ht : (m 90 == 1) with _ | _
  · exact status_runs w S I ht
  · simpa [statusM, ht] using status_trap w S ht
end Go.Proofs.Ytjlbbfkllckkgaa

namespace Go.Proofs.Ytjlbbfkllckkgaa
set_option linter.unusedVariables false
set_option linter.unusedSimpArgs false
set_option maxRecDepth 100000
open Go.ChangeShapes Go.WideShapes Go.ChangeAt Go.RowKit

set_option maxHeartbeats 1000000 in
theorem prints_any {b lo hi : Nat} {pv : Value} {m : Nat → Int} {code : List (List InsD)} {pr : List Int} (w : World) (S : StIn w b lo hi pv m code pr) (hpl : pr.length ≤ 2000000) :
    Calls Try.prog 15 #[.pointer (some ⟨b, 0, none⟩)] w fun e w' => ∃ v, e = .returned v ∧ w'.ownsRow w.heap.size 3 1 v pr.length (pr.map (.int .i64 ·)) ∧ Below w.heap.size w w' := by
  have t89 := S.told89
  have HO := Lib.hid S.own
  go_enter Try.func15, Try.ntmps15
  go_wp2_with (first
    | (go_at_call 27; refine (cloneInt_any pv pr w HO.out hpl).mono ?_; rintro e w1 ⟨v, rfl, hown, hB⟩))
  go_ret
  exact ⟨_, rfl, hown, hB⟩

theorem info_state : (Try.prog.info? 73).map (·.size) = some 91 := by kernel_rfl
theorem valAt_one (i : Nat) (n : Int) : (valAt i n).oneCell' = true := by
  unfold valAt
  split
  · rfl
  · split <;> rfl
theorem box_one {cs : Array Value} {a : Option Addr} {n cap : Nat} {pv : Value} {m : Nat → Int} (h2 : cs.size = 91) (h3 : cs[0]? = some (.slice a n cap)) (h4 : cs[89]? = some pv) (h5 : ∀ i, i < 91 → i ≠ 0 → i ≠ 89 → cs[i]? = some (valAt i (m i))) (hp : pv.oneCell' = true) : cs.all (·.oneCell') = true := by
  rw [Array.all_eq_true]
  intro i hi
  by_cases e0 : i = 0
  · subst e0; rw [Array.getElem?_eq_getElem hi] at h3; rw [Option.some.inj h3]; rfl
  by_cases e9 : i = 89
  · subst e9; rw [Array.getElem?_eq_getElem hi] at h4; rw [Option.some.inj h4]; exact hp
  have h := h5 i (by omega) e0 e9
  rw [Array.getElem?_eq_getElem hi] at h
  rw [Option.some.inj h]; exact valAt_one _ _

theorem ownsRow_newer {w : World} {base : Nat} {e : TypeId} {s : Nat} {v : Value} {n : Nat} {xs : List Value} (h : w.ownsRow base e s v n xs) {b i : Nat} {x : Value} (hb : b < base) : (w.setCell ⟨b, i, none⟩ x).ownsRow base e s v n xs := by
  refine ⟨h.1, ?_⟩
  rcases h.2 with q | ⟨g, cap, cur, rfl, h1, hh, hr⟩
  · exact .inl q
  · exact .inr ⟨g, cap, cur, rfl, h1, (Below.heap_setCell _ _ _ _ (by show g ≠ b; omega)).trans hh, hr⟩

set_option maxHeartbeats 1000000 in
theorem copy_any {b lo hi : Nat} {pv : Value} {m : Nat → Int} {code : List (List InsD)} {pr : List Int} (w : World) (S : StIn w b lo hi pv m code pr) (hpl : pr.length ≤ 2000000) :
    Calls Try.prog 19 #[.pointer (some ⟨b, 0, none⟩)] w fun e w' => e = .returned (.pointer (some ⟨w.heap.size, 0, none⟩)) ∧ Below w.heap.size w w' ∧ ∃ pv', StIn w' w.heap.size lo hi pv' m code pr ∧ ∀ g, pv'.ownBlock = some g → w.heap.size < g := by
  have hlt := S.lt
  have HS := Lib.hid S
  obtain ⟨cs, a, cap, h1, h2, h3, h4, h5, h6⟩ := S.box
  have hone := Lib.hid (box_one h2 h3 h4 h5 (by obtain ⟨ao, cp, rfl⟩ := st_slice S.own; rfl))
  have H1 := Lib.hid h1
  have H2 := Lib.hid h2
  have HR := Lib.hid (And.intro h3 (And.intro h5 h6))
  have HI := Lib.hid (show (Try.prog.info? 73).map (·.size) = some cs.size by rw [h2]; exact info_state)
  clear h1 h2 h3 h4 h5 h6 S
  go_enter Try.func19, Try.ntmps19
  go_wp2_with (first
    | (refine wpList_load_row rfl 73 (.tmp 5) rfl b rfl 73 cs (0, 0) _ H1.out Try.underlying73 rfl HI.out ?_)
    | (refine wpList_store_row rfl 73 (.tmp 3) (.tmp 6) rfl w.heap.size cs rfl rfl 73 _ (heap_alloc_new _ _) HI.out (by rw [H2.out]; rfl) hone.out ?_
       generalize hV : World.setRow _ _ _ = V
       have hB : Below w.heap.size w V := by rw [← hV]; exact below_setRow ((Below.refl _ _).alloc (Nat.le_refl _) _) (Nat.le_refl _) _
       have hN : V.heap[w.heap.size]? = some (.cells cs 73) := by rw [← hV]; exact setRow_heap _ _ _ _ _ _ (heap_alloc_new _ _)
       have SV := HS.out.later hB
       have t89 := SV.told89
       have HB := Lib.hid hB
       have HN := Lib.hid hN
       have HSV := Lib.hid SV
       clear hV hB hN SV)
    | (go_at_call 27; refine (cloneInt_any pv pr V HSV.out.own hpl).mono ?_; rintro e w1 ⟨v, rfl, hown, hB1⟩; have hN1 := (hB1.block _ (Array.getElem?_eq_some_iff.1 HN.out).1).trans HN.out; have c89 : w1.cell? ⟨w.heap.size, 89, none⟩ = some pv := (cell_of_row _ _ _ _ _ _ hN1).trans ((cell_of_row _ _ _ _ _ _ H1.out).symm.trans (HS.out.told89)); have f89 : w1.frozen? ⟨w.heap.size, 89, none⟩ = false := frozen_of_row _ _ _ _ _ hN1; have HN1 := Lib.hid hN1; have HO := Lib.hid hown; have HB1 := Lib.hid hB1; clear hN1 hB1; obtain ⟨va, vcap, rfl⟩ := st_slice hown; clear hown))
  go_ret
  have hVs : w.heap.size < V.heap.size := (Array.getElem?_eq_some_iff.1 HN.out).1
  obtain ⟨g3, g5, g6⟩ := HR.out
  have g2 := H2.out
  have hsz := HB1.out.size
  have htop := HS.out.top
  refine ⟨rfl, stBelow_set (HB.out.trans (HB1.out.mono HB.out.size)) (Nat.le_refl _), .slice va pr.length vcap, ⟨⟨cs.setIfInBounds 89 (.slice va pr.length vcap), a, cap, stSet_block w1 _ 89 _ HN1.out, by simpa using g2, ?_, ?_, fun j hj j0 j9 => ?_, ?_⟩, ?_, ?_, ?_, HS.out.len, HS.out.lens, ?_⟩, ?_⟩
  · rw [Array.getElem?_setIfInBounds_ne (by omega)]; exact g3
  · rw [Array.getElem?_setIfInBounds_self_of_lt (by omega)]
  · rw [Array.getElem?_setIfInBounds_ne (by omega)]; exact g5 j hj j0 j9
  · exact g6.keep2 fun k k1 k2 k3 => (Below.heap_setCell _ _ _ _ (by show k ≠ w.heap.size; omega)).trans ((HB1.out.block k (by omega)).trans (HB.out.block k k3))
  · exact own_base (ownsRow_newer HO.out hVs) (by omega)
  · exact .inr htop
  · intro e
    have := (own_lt HO.out _ e).2
    omega
  · rw [size_setCell]; omega
  · intro g e
    have := (own_lt HO.out _ e).2
    omega
end Go.Proofs.Ytjlbbfkllckkgaa
