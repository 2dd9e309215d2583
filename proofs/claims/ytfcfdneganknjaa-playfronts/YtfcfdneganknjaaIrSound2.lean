/- What Sound of package ir returns, for every program. -/
import Derived.Test.YtfcfdneganknjaaIrThreads
namespace Go.Proofs.Ytfcfdneganknjaa
set_option linter.unusedVariables false
set_option linter.unusedSimpArgs false
open Go.RowKit

/-- A program's box. -/
abbrev boxOf (p : ProgD) (ca : Option Addr) (ccap : Nat) (ta : Option Addr) (tcap : Nat) : Obj := .cells #[.int .i64 p.vars, .int .i64 p.atoms, .int .i64 p.locks, .slice ca p.chans.length ccap, .int .i64 p.groups, .int .i64 p.onces, .slice ta p.threads.length tcap] 26

set_option maxHeartbeats 1000000 in
theorem sound1_any (b : Nat) (p : ProgD) (ca : Option Addr) (ccap : Nat) (ta : Option Addr) (tcap : Nat) (w : World) (h : w.heap[b]? = some (boxOf p ca ccap ta tcap)) (hp : ProgIn w w.heap.size p ca ta) :
    Calls Try.prog 50 #[.pointer (some ⟨b, 0, none⟩)] w fun e w' => e = .returned (.int .u16 (unE (sizesB p) 3)) ∧ Below w.heap.size w w' := by
  have H := Lib.hid h
  have HP := Lib.hid hp
  clear h hp
  go_enter Try.func50, Try.ntmps50
  go_wp2_with (first
    | (refine wpList_load_row rfl 26 (.tmp 0) rfl b rfl 26 _ (0, 0) _ H.out Try.underlying26 rfl info_prog ?_)
    | (go_at_call 52; refine (sizes_any p ca ccap ta tcap _ HP.out).mono ?_; rintro e w1 ⟨rfl, hB1⟩)
    | (go_at_call 51; refine (unless_any _ _ _).mono ?_; rintro e w2 ⟨rfl, rfl⟩))
  go_ret
  exact ⟨rfl, hB1⟩

set_option maxHeartbeats 1000000 in
theorem sound2_any (b : Nat) (p : ProgD) (ca : Option Addr) (ccap : Nat) (ta : Option Addr) (tcap : Nat) (w : World) (h : w.heap[b]? = some (boxOf p ca ccap ta tcap)) (hp : ProgIn w w.heap.size p ca ta) :
    Calls Try.prog 53 #[.pointer (some ⟨b, 0, none⟩)] w fun e w' => e = .returned (.int .u16 (unE (capsB p.chans) 21)) ∧ Below w.heap.size w w' := by
  have hc : w.cell? ⟨b, 3, none⟩ = some (.slice ca p.chans.length ccap) := cell_of_row _ _ _ _ _ _ h
  have HP := Lib.hid hp
  clear h hp
  go_enter Try.func53, Try.ntmps53
  go_wp2_with (first
    | (go_at_call 54; refine (capacities_any p.chans ca ccap _ _ HP.out.chans HP.out.clen).mono ?_; rintro e w1 ⟨rfl, rfl⟩)
    | (go_at_call 51; refine (unless_any _ _ _).mono ?_; rintro e w2 ⟨rfl, rfl⟩))
  go_ret
  exact ⟨rfl, Below.refl _ _⟩

set_option maxHeartbeats 1000000 in
theorem sound3_any (b : Nat) (p : ProgD) (ca : Option Addr) (ccap : Nat) (ta : Option Addr) (tcap : Nat) (w : World) (h : w.heap[b]? = some (boxOf p ca ccap ta tcap)) (hp : ProgIn w w.heap.size p ca ta) (hs : sizesB p = true) :
    Calls Try.prog 55 #[.pointer (some ⟨b, 0, none⟩)] w fun e w' => e = .returned (.int .u16 (threadsE p)) ∧ Below w.heap.size w w' := by
  have H := Lib.hid h
  have HP := Lib.hid hp
  have HS := Lib.hid hs
  clear h hp hs
  go_enter Try.func55, Try.ntmps55
  go_wp2_with (first
    | (refine wpList_load_row rfl 26 (.tmp 0) rfl b rfl 26 _ (0, 0) _ H.out Try.underlying26 rfl info_prog ?_)
    | (go_at_call 56; refine (threads_any p ca ccap ta tcap _ HP.out HS.out).mono ?_; rintro e w1 ⟨rfl, hB1⟩))
  go_ret
  exact ⟨rfl, hB1⟩

/-- What is wrong with a program. -/
def soundE (p : ProgD) : Int := firstE [unE (sizesB p) 3, unE (capsB p.chans) 21, threadsE p]

theorem ProgIn.wide {w : World} {B B' : Nat} {p : ProgD} {ca ta : Option Addr} (h : ProgIn w B p ca ta) (hB : B ≤ B') : ProgIn w B' p ca ta := by
  refine ⟨fun i x hx => ?_, fun k c hc => ?_, h.clen, h.tlen⟩
  · obtain ⟨b, off, h1, h2, h3⟩ := h.chans i x hx
    exact ⟨b, off, h1, by omega, h3⟩
  · obtain ⟨b, off, h1, h2, a', cap', h3, h4⟩ := h.threads k c hc
    refine ⟨b, off, h1, by omega, a', cap', h3, fun j x hx => ?_⟩
    obtain ⟨b, off, h1, h2, h3⟩ := h4 j x hx
    exact ⟨b, off, h1, by omega, h3⟩

abbrev soundFs (g : Nat) : Array Value := #[.func (.func 50) #[] #[.pointer (some ⟨g, 0, none⟩)], .func (.func 53) #[] #[.pointer (some ⟨g, 0, none⟩)], .func (.func 55) #[] #[.pointer (some ⟨g, 0, none⟩)]]

theorem first_sound (p : ProgD) (ca : Option Addr) (ccap : Nat) (ta : Option Addr) (tcap : Nat) (u : World) (hp : ProgIn u u.heap.size p ca ta) :
    Calls Try.prog 49 #[.slice (some ⟨u.heap.size + 1, 0, none⟩) 3 3] ((u.alloc (boxOf p ca ccap ta tcap)).alloc (.cells (soundFs u.heap.size) 113))
      fun e w' => e = .returned (.int .u16 (soundE p)) ∧ Below ((u.alloc (boxOf p ca ccap ta tcap)).alloc (.cells (soundFs u.heap.size) 113)).heap.size ((u.alloc (boxOf p ca ccap ta tcap)).alloc (.cells (soundFs u.heap.size) 113)) w' := by
  refine first_any [.func (.func 50) #[] #[.pointer (some ⟨u.heap.size, 0, none⟩)], .func (.func 53) #[] #[.pointer (some ⟨u.heap.size, 0, none⟩)], .func (.func 55) #[] #[.pointer (some ⟨u.heap.size, 0, none⟩)]] [unE (sizesB p) 3, unE (capsB p.chans) 21, threadsE p] _ 3 _ rfl (by simp) ?_ ?_
  · intro i f hf
    refine ⟨u.heap.size + 1, 0, rfl, by simp, ?_⟩
    rw [cell_of_row _ _ _ _ _ _ (heap_alloc2_new _ _ _)]
    simpa using hf
  · intro i f e hf he hz
    have hbelow : Below u.heap.size u ((u.alloc (boxOf p ca ccap ta tcap)).alloc (.cells (soundFs u.heap.size) 113)) := ((Below.refl _ _).alloc (Nat.le_refl _) _).alloc (by simp) _
    have hP : ∀ v, Below ((u.alloc (boxOf p ca ccap ta tcap)).alloc (.cells (soundFs u.heap.size) 113)).heap.size ((u.alloc (boxOf p ca ccap ta tcap)).alloc (.cells (soundFs u.heap.size) 113)) v → ProgIn v v.heap.size p ca ta := fun v hv => by
      have hv' : Below u.heap.size u v := hbelow.trans (hv.mono (by simp; omega))
      exact (hp.below hv').wide hv'.size
    match i, hf, he with
    | 0, hf, he =>
      cases hf; cases he
      exact ⟨_, _, rfl, fun u => by kernel_rfl, fun v hv => sound1_any _ p ca ccap ta tcap v (kept_two hv).1 (hP v hv)⟩
    | 1, hf, he =>
      cases hf; cases he
      exact ⟨_, _, rfl, fun u => by kernel_rfl, fun v hv => sound2_any _ p ca ccap ta tcap v (kept_two hv).1 (hP v hv)⟩
    | 2, hf, he =>
      cases hf; cases he
      have h0 := hz 0 _ (by omega) rfl
      have hs : sizesB p = true := by
        cases h : sizesB p
        · rw [h] at h0; exact absurd h0 (by decide)
        · rfl
      exact ⟨_, _, rfl, fun u => by kernel_rfl, fun v hv => sound3_any _ p ca ccap ta tcap v (kept_two hv).1 (hP v hv) hs⟩
    | i + 3, hf, he => simp at hf

set_option maxHeartbeats 1000000 in
theorem sound_any (p : ProgD) (ca : Option Addr) (ccap : Nat) (ta : Option Addr) (tcap : Nat) (w : World) (hp : ProgIn w w.heap.size p ca ta) :
    Calls Try.prog 39 #[p.val ca ccap ta tcap] w fun e w' => e = .returned (.int .u16 (soundE p)) ∧ Below w.heap.size w w' := by
  have HF := Lib.hid (first_sound p ca ccap ta tcap w hp)
  clear hp
  go_enter Try.func39, Try.ntmps39
  go_wp2_with fail
  refine (HF.out).mono ?_
  rintro e w1 ⟨rfl, hB1⟩
  go_wp2
  go_ret
  exact ⟨rfl, (((Below.refl _ _).alloc (Nat.le_refl _) _).alloc (by simp) _).trans (hB1.mono (by simp; omega))⟩

end Go.Proofs.Ytfcfdneganknjaa
