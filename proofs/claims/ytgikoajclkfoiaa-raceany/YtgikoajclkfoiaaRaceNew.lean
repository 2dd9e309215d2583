/- What race's newKnown makes. -/
import Derived.Test.YtgikoajclkfoiaaRaceFits
namespace Go.Proofs.Ytgikoajclkfoiaa
set_option linter.unusedVariables false
set_option linter.unusedSimpArgs false
set_option maxRecDepth 100000
open Go.ChangeShapes Go.WideShapes Go.ChangeAt Go.RowKit Go.Maps

def NewE (ca : Option Addr) (cc : Nat) (chans : List Int) (w : World) (e : Ending) (w' : World) : Prop := ∃ gk gc gs gt, e = .returned (.pointer (some ⟨gk, 0, none⟩)) ∧ KnIn w.heap.size gk gc gs gt ca cc chans 0 kn0 w' ∧ Below w.heap.size w w'
theorem ckM_new (w : World) (g : Nat) (h : w.heap[g]? = some (.map #[] 0)) : CkM w g 0 kn0.K :=
  ⟨.map [], ⟨#[], 0, h, ⟨by simp, MapKept.stamped_empty 0, by simp⟩, Nat.le_refl _, rfl⟩, isMap_empty, fun x _ => ⟨none, 0, rfl, fun i y hy => by simp [kn0] at hy⟩⟩
theorem cnM_new (w : World) (g : Nat) (h : w.heap[g]? = some (.map #[] 0)) : CnM w g 0 (fun _ => 0) :=
  ⟨.map [], ⟨#[], 0, h, ⟨by simp, MapKept.stamped_empty 0, by simp⟩, Nat.le_refl _, rfl⟩, isMap_empty, fun x _ => rfl⟩
theorem lsM_new (w : World) (g : Nat) (h : w.heap[g]? = some (.map #[] 0)) : LsM w g 0 (fun _ _ => lt0) :=
  ⟨.map [], ⟨#[], 0, h, ⟨by simp, MapKept.stamped_empty 0, by simp⟩, Nat.le_refl _, rfl⟩, isMap_empty, fun x _ => rfl⟩
theorem known_new (ca : Option Addr) (cc : Nat) (chans : List Int) (w : World) (hc : ChIn w ca chans) : Calls Try.prog 24 #[.slice ca chans.length cc] w (NewE ca cc chans w) := by
  have HC := Lib.hid hc
  clear hc
  go_enter Try.func24, Try.ntmps24
  have h1 : ∀ w, (Instr.makeMap 69 none).run Try.prog w = .ok (.map (some w.heap.size)) (w.alloc (.map #[] 0)) := fun w => rfl
  have h2 : ∀ w, (Instr.makeMap 70 none).run Try.prog w = .ok (.map (some w.heap.size)) (w.alloc (.map #[] 0)) := fun w => rfl
  go_wp2
  go_ret
  have e1 : ∀ (w : World) (o o1 o2 o3 : Obj), ((((w.alloc o).alloc o1).alloc o2).alloc o3).heap[w.heap.size]? = some o ∧ ((((w.alloc o).alloc o1).alloc o2).alloc o3).heap[w.heap.size + 1]? = some o1 ∧ ((((w.alloc o).alloc o1).alloc o2).alloc o3).heap[w.heap.size + 2]? = some o2 ∧ ((((w.alloc o).alloc o1).alloc o2).alloc o3).heap[w.heap.size + 3]? = some o3 := by
    intro w o o1 o2 o3
    refine ⟨?_, ?_, ?_, ?_⟩
    · exact old_alloc (old_alloc (old_alloc (heap_alloc_new _ _) _) _) _
    · exact old_alloc (old_alloc (heap_alloc2_new _ _ _) _) _
    · exact old_alloc (alloc_atR _ _ (by simp)) _
    · exact alloc_atR _ _ (by simp)
  obtain ⟨q0, q1, q2, q3⟩ := e1 w (.map #[] 0) (.map #[] 0) (.map #[] 0) (.cells #[.slice ca chans.length cc, .map (some w.heap.size), .map (some (w.heap.size + 1)), .map (some (w.heap.size + 2))] 72)
  have hB : Below w.heap.size w ((((w.alloc (.map #[] 0)).alloc (.map #[] 0)).alloc (.map #[] 0)).alloc (.cells #[.slice ca chans.length cc, .map (some w.heap.size), .map (some (w.heap.size + 1)), .map (some (w.heap.size + 2))] 72)) := below_new (below_new (below_two _ _ _) _) _
  exact ⟨w.heap.size + 3, w.heap.size, w.heap.size + 1, w.heap.size + 2, rfl, ⟨q3, HC.out.later hB, ckM_new _ _ q0, cnM_new _ _ q1, cnM_new _ _ q2, by omega, by omega, by omega, by omega, by omega, by omega, by omega⟩, hB⟩
end Go.Proofs.Ytgikoajclkfoiaa
