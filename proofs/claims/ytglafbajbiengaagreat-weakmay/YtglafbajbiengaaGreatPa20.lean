/- What the laws of this seat stand on, part 20. -/
import Derived.Test.YtglafbajbiengaaGreatPa0
import Derived.Test.YtglafbajbiengaaGreatPa19
set_option linter.unusedVariables false
set_option linter.unusedSimpArgs false
set_option maxRecDepth 100000
set_option maxHeartbeats 40000000
namespace Go.Proofs.YtglafbajbiengaaGreat
open Go.ChangeShapes Go.WideShapes Go.ChangeAt Go.RowKit Go.Maps
theorem arr30 {R : Array Value} (h : R.size = 30) : ∃ r0 r1 r2 r3 r4 r5 r6 r7 r8 r9 r10 r11 r12 r13 r14 r15 r16 r17 r18 r19 r20 r21 r22 r23 r24 r25 r26 r27 r28 r29, R = #[r0, r1, r2, r3, r4, r5, r6, r7, r8, r9, r10, r11, r12, r13, r14, r15, r16, r17, r18, r19, r20, r21, r22, r23, r24, r25, r26, r27, r28, r29] := by
  obtain ⟨l⟩ := R
  simp only [List.size_toArray] at h
  rcases l with _ | ⟨r0, l⟩
  · simp at h
  rcases l with _ | ⟨r1, l⟩
  · simp at h
  rcases l with _ | ⟨r2, l⟩
  · simp at h
  rcases l with _ | ⟨r3, l⟩
  · simp at h
  rcases l with _ | ⟨r4, l⟩
  · simp at h
  rcases l with _ | ⟨r5, l⟩
  · simp at h
  rcases l with _ | ⟨r6, l⟩
  · simp at h
  rcases l with _ | ⟨r7, l⟩
  · simp at h
  rcases l with _ | ⟨r8, l⟩
  · simp at h
  rcases l with _ | ⟨r9, l⟩
  · simp at h
  rcases l with _ | ⟨r10, l⟩
  · simp at h
  rcases l with _ | ⟨r11, l⟩
  · simp at h
  rcases l with _ | ⟨r12, l⟩
  · simp at h
  rcases l with _ | ⟨r13, l⟩
  · simp at h
  rcases l with _ | ⟨r14, l⟩
  · simp at h
  rcases l with _ | ⟨r15, l⟩
  · simp at h
  rcases l with _ | ⟨r16, l⟩
  · simp at h
  rcases l with _ | ⟨r17, l⟩
  · simp at h
  rcases l with _ | ⟨r18, l⟩
  · simp at h
  rcases l with _ | ⟨r19, l⟩
  · simp at h
  rcases l with _ | ⟨r20, l⟩
  · simp at h
  rcases l with _ | ⟨r21, l⟩
  · simp at h
  rcases l with _ | ⟨r22, l⟩
  · simp at h
  rcases l with _ | ⟨r23, l⟩
  · simp at h
  rcases l with _ | ⟨r24, l⟩
  · simp at h
  rcases l with _ | ⟨r25, l⟩
  · simp at h
  rcases l with _ | ⟨r26, l⟩
  · simp at h
  rcases l with _ | ⟨r27, l⟩
  · simp at h
  rcases l with _ | ⟨r28, l⟩
  · simp at h
  rcases l with _ | ⟨r29, l⟩
  · simp at h
  rcases l with _ | ⟨x, l⟩
  · exact ⟨r0, r1, r2, r3, r4, r5, r6, r7, r8, r9, r10, r11, r12, r13, r14, r15, r16, r17, r18, r19, r20, r21, r22, r23, r24, r25, r26, r27, r28, r29, rfl⟩
  · simp at h
theorem built_walk {R : Array Value} (h : R.size = 30) (gm : Nat) (a : Option Addr) (n c : Nat) (u : World) : (Instr.build 161 #[(0, .agg R), (2, .map (some gm)), (3, .slice a n c)]).run Tryz.prog u = .ok (.agg (R ++ #[.slice none 0 0, .map (some gm), .slice a n c, .slice none 0 0])) u := by
  obtain ⟨r0, r1, r2, r3, r4, r5, r6, r7, r8, r9, r10, r11, r12, r13, r14, r15, r16, r17, r18, r19, r20, r21, r22, r23, r24, r25, r26, r27, r28, r29, rfl⟩ := arr30 h
  exact run_build u 161 _ _ (by kernel_rfl)
theorem RulesV.widen {Y Y' : Nat → Prop} {w : World} {R : Array Value} {chans : List Int} (h : RulesV Y w R chans) (hy : ∀ g, g < w.heap.size → Y' g → Y g) : RulesV Y' w R chans :=
  ⟨h.size, h.one, fun k r hr => by
    obtain ⟨va, vb, vw, h1, h2, h3, h4, h5, h6⟩ := h.get k r hr
    refine ⟨va, vb, vw, h1, h2, h3, ?_, ?_, ?_⟩
    · obtain ⟨fn, cap, rfl, hc, q⟩ := h4
      exact ⟨fn, cap, rfl, hc, fun u hu => q u (hu.mono hy)⟩
    · obtain ⟨fn, cap, rfl, hc, q⟩ := h5
      exact ⟨fn, cap, rfl, hc, fun u hu => q u (hu.mono hy)⟩
    · rcases hw : r.wh with _ | f
      · rw [hw] at h6; exact h6
      · rw [hw] at h6
        obtain ⟨fn, cap, rfl, hc, q⟩ := h6
        exact ⟨fn, cap, rfl, hc, fun u hu => q u (hu.mono hy)⟩⟩
/-- All new blocks but those of the rules' closures. -/
def XB (b c d g : Nat) : Prop := b ≤ g ∧ ¬ (c ≤ g ∧ g < d)
theorem info_boolT : (Tryz.prog.info? 4).map (fun i => (i.zero, i.size, i.bytes)) = some (some (.bool false), 1, 1) := by kernel_rfl
theorem made_bool (n : Nat) : (madeCells (Value.bool false).cells (n * 1)).toList = List.replicate n (Value.bool false) := by rw [Nat.mul_one]; exact toList_madeCells_one _ _
structure BkI (W : World) (f0 : Nat → Value) (pv : Array Value) (ta : Option Addr) (tc n : Nat) (chans : List Int) (R : Array Value) (c d gm gs g0 : Nat) (L : Nat → Bool) (f : Nat → Value) (u : World) : Prop where
  bel : Below W.heap.size W u
  keep : ∀ t, t ≠ 10 → t ≠ 11 → t ≠ 12 → t ≠ 13 → t ≠ 14 → t ≠ 15 → t ≠ 16 → t ≠ 17 → t ≠ 5 → f t = f0 t
  v0 : L 0 = true → f 10 = .agg pv
  v1 : L 1 = true → f 11 = .agg R ∧ W.heap.size ≤ c ∧ d ≤ u.heap.size ∧ RulesV (XB W.heap.size c d) u R chans
  v2 : L 2 = true → f 12 = .map (some gm) ∧ W.heap.size ≤ gm ∧ u.heap[gm]? = some (.map #[] 0)
  v3 : L 3 = true → f 13 = .slice ta n tc
  v4 : L 4 = true → f 14 = .int .i64 n
  v5 : L 5 = true → f 15 = .slice (some ⟨gs, 0, none⟩) n n ∧ W.heap.size ≤ gs ∧ u.ownsRow W.heap.size 4 1 (.slice (some ⟨gs, 0, none⟩) n n) n (List.replicate n (.bool false))
  x12 : L 1 = true → L 2 = true → ¬ (c ≤ gm ∧ gm < d)
  x15 : L 1 = true → L 5 = true → ¬ (c ≤ gs ∧ gs < d)
  x25 : L 2 = true → L 5 = true → gm ≠ gs
  v6 : L 6 = true → f 16 = .agg (R ++ #[.slice none 0 0, .map (some gm), .slice (some ⟨gs, 0, none⟩) n n, .slice none 0 0])
  v7 : L 7 = true → f 17 = .pointer (some ⟨g0, 0, none⟩) ∧ d ≤ g0 ∧ gm < g0 ∧ gs < g0 ∧ u.heap[g0]? = some (.cells (R ++ #[.slice none 0 0, .map (some gm), .slice (some ⟨gs, 0, none⟩) n n, .slice none 0 0]) 161)
  v8 : L 8 = true → f 5 = .pointer (some ⟨g0, 0, none⟩)
  d6 : L 6 = true → L 1 = true ∧ L 2 = true ∧ L 5 = true
  d7 : L 7 = true → L 6 = true
  d8 : L 8 = true → L 7 = true
section
variable {W : World} {f0 f : Nat → Value} {pv : Array Value} {ta : Option Addr} {tc n : Nat} {chans : List Int} {R : Array Value} {c d gm gs g0 : Nat} {L : Nat → Bool} {u u' : World}
/-- Other slots, a later world. -/
theorem BkI.next (h : BkI W f0 pv ta tc n chans R c d gm gs g0 L f u) (hB : Below u.heap.size u u') {f' : Nat → Value} {L' : Nat → Bool} {j s : Nat} (hf : ∀ t, t ≠ s → f' t = f t) (hL : ∀ i, i ≠ j → L' i = L i)
    (hs : (j, s) ∈ [(0, 10), (1, 11), (2, 12), (3, 13), (4, 14), (5, 15), (6, 16), (7, 17), (8, 5)])
    (n0 : j = 0 → f' 10 = .agg pv) (n3 : j = 3 → f' 13 = .slice ta n tc) (n4 : j = 4 → f' 14 = .int .i64 n)
    (n6 : j = 6 → f' 16 = .agg (R ++ #[.slice none 0 0, .map (some gm), .slice (some ⟨gs, 0, none⟩) n n, .slice none 0 0]))
    (n8 : j = 8 → f' 5 = .pointer (some ⟨g0, 0, none⟩))
    (n1 : j = 1 → f' 11 = .agg R ∧ W.heap.size ≤ c ∧ d ≤ u'.heap.size ∧ RulesV (XB W.heap.size c d) u' R chans)
    (n2 : j = 2 → f' 12 = .map (some gm) ∧ W.heap.size ≤ gm ∧ u'.heap[gm]? = some (.map #[] 0))
    (n5 : j = 5 → f' 15 = .slice (some ⟨gs, 0, none⟩) n n ∧ W.heap.size ≤ gs ∧ u'.ownsRow W.heap.size 4 1 (.slice (some ⟨gs, 0, none⟩) n n) n (List.replicate n (.bool false)))
    (n7 : j = 7 → f' 17 = .pointer (some ⟨g0, 0, none⟩) ∧ d ≤ g0 ∧ gm < g0 ∧ gs < g0 ∧ u'.heap[g0]? = some (.cells (R ++ #[.slice none 0 0, .map (some gm), .slice (some ⟨gs, 0, none⟩) n n, .slice none 0 0]) 161))
    (y12 : j = 1 ∨ j = 2 → L' 1 = true → L' 2 = true → ¬ (c ≤ gm ∧ gm < d)) (y15 : j = 1 ∨ j = 5 → L' 1 = true → L' 5 = true → ¬ (c ≤ gs ∧ gs < d)) (y25 : j = 2 ∨ j = 5 → L' 2 = true → L' 5 = true → gm ≠ gs)
    (hd : (j = 6 → L 1 = true ∧ L 2 = true ∧ L 5 = true) ∧ (j = 7 → L 6 = true) ∧ (j = 8 → L 7 = true)) (hj : L' j = true) : BkI W f0 pv ta tc n chans R c d gm gs g0 L' f' u' := by
  have hz := hB.size
  have key : ∀ i t, (i, t) ∈ [(0, 10), (1, 11), (2, 12), (3, 13), (4, 14), (5, 15), (6, 16), (7, 17), (8, 5)] → i ≠ j → f' t = f t := fun i t hm hi => hf t (by
    intro e; subst e
    simp only [List.mem_cons, Prod.mk.injEq, List.not_mem_nil, or_false] at hs hm
    omega)
  refine ⟨below_next h.bel hB, fun t a0 a1 a2 a3 a4 a5 a6 a7 a8 => (hf t ?_).trans (h.keep t a0 a1 a2 a3 a4 a5 a6 a7 a8), fun q => ?_, fun q => ?_, fun q => ?_, fun q => ?_, fun q => ?_, fun q => ?_, fun q q2 => ?_, fun q q2 => ?_, fun q q2 => ?_, fun q => ?_, fun q => ?_, fun q => ?_, fun q => ?_, fun q => ?_, fun q => ?_⟩
  · intro e; subst e
    simp only [List.mem_cons, Prod.mk.injEq, List.not_mem_nil, or_false] at hs
    omega
  · by_cases e : j = 0
    · exact n0 e
    · rw [key 0 10 (by simp) (fun z => e z.symm)]; exact h.v0 (by rw [← hL 0 (fun z => e z.symm)]; exact q)
  · by_cases e : j = 1
    · exact n1 e
    · rw [hL 1 (fun z => e z.symm)] at q
      obtain ⟨h1, h2, h3, h4⟩ := h.v1 q
      exact ⟨by rw [key 1 11 (by simp) (fun z => e z.symm)]; exact h1, h2, by omega, h4.later hB⟩
  · by_cases e : j = 2
    · exact n2 e
    · rw [hL 2 (fun z => e z.symm)] at q
      obtain ⟨h1, h2, h3⟩ := h.v2 q
      exact ⟨by rw [key 2 12 (by simp) (fun z => e z.symm)]; exact h1, h2, old_later h3 hB⟩
  · by_cases e : j = 3
    · exact n3 e
    · rw [key 3 13 (by simp) (fun z => e z.symm)]; exact h.v3 (by rw [← hL 3 (fun z => e z.symm)]; exact q)
  · by_cases e : j = 4
    · exact n4 e
    · rw [key 4 14 (by simp) (fun z => e z.symm)]; exact h.v4 (by rw [← hL 4 (fun z => e z.symm)]; exact q)
  · by_cases e : j = 5
    · exact n5 e
    · rw [hL 5 (fun z => e z.symm)] at q
      obtain ⟨h1, h2, h3⟩ := h.v5 q
      exact ⟨by rw [key 5 15 (by simp) (fun z => e z.symm)]; exact h1, h2, own_later h3 hB⟩
  · by_cases e : j = 1 ∨ j = 2
    · exact y12 e q q2
    · rw [hL 1 (fun z => e (.inl z.symm))] at q
      rw [hL 2 (fun z => e (.inr z.symm))] at q2
      exact h.x12 q q2
  · by_cases e : j = 1 ∨ j = 5
    · exact y15 e q q2
    · rw [hL 1 (fun z => e (.inl z.symm))] at q
      rw [hL 5 (fun z => e (.inr z.symm))] at q2
      exact h.x15 q q2
  · by_cases e : j = 2 ∨ j = 5
    · exact y25 e q q2
    · rw [hL 2 (fun z => e (.inl z.symm))] at q
      rw [hL 5 (fun z => e (.inr z.symm))] at q2
      exact h.x25 q q2
  · by_cases e : j = 6
    · exact n6 e
    · rw [key 6 16 (by simp) (fun z => e z.symm)]; exact h.v6 (by rw [← hL 6 (fun z => e z.symm)]; exact q)
  · by_cases e : j = 7
    · exact n7 e
    · rw [hL 7 (fun z => e z.symm)] at q
      obtain ⟨h1, h2, h3, h4, h5⟩ := h.v7 q
      exact ⟨by rw [key 7 17 (by simp) (fun z => e z.symm)]; exact h1, h2, h3, h4, old_later h5 hB⟩
  · by_cases e : j = 8
    · exact n8 e
    · rw [key 8 5 (by simp) (fun z => e z.symm)]; exact h.v8 (by rw [← hL 8 (fun z => e z.symm)]; exact q)
  · have up : ∀ i, L i = true → L' i = true := fun i z => by
      by_cases e : i = j
      · subst e; exact hj
      · rw [hL i e]; exact z
    by_cases e : j = 6
    · obtain ⟨z1, z2, z3⟩ := hd.1 e
      exact ⟨up _ z1, up _ z2, up _ z3⟩
    · obtain ⟨z1, z2, z3⟩ := h.d6 (by rw [← hL 6 (fun z => e z.symm)]; exact q)
      exact ⟨up _ z1, up _ z2, up _ z3⟩
  · have up : ∀ i, L i = true → L' i = true := fun i z => by
      by_cases e : i = j
      · subst e; exact hj
      · rw [hL i e]; exact z
    by_cases e : j = 7
    · exact up _ (hd.2.1 e)
    · exact up _ (h.d7 (by rw [← hL 7 (fun z => e z.symm)]; exact q))
  · have up : ∀ i, L i = true → L' i = true := fun i z => by
      by_cases e : i = j
      · subst e; exact hj
      · rw [hL i e]; exact z
    by_cases e : j = 8
    · exact up _ (hd.2.2 e)
    · exact up _ (h.d8 (by rw [← hL 8 (fun z => e z.symm)]; exact q))
theorem BkI.reRules (h : BkI W f0 pv ta tc n chans R c d gm gs g0 L f u) (hL : L 1 = false) (R' : Array Value) (c' d' : Nat) : BkI W f0 pv ta tc n chans R' c' d' gm gs g0 L f u := by
  have h6 : ¬ L 6 = true := fun q => by have := (h.d6 q).1; rw [hL] at this; cases this
  have h7 : ¬ L 7 = true := fun q => h6 (h.d7 q)
  have h8 : ¬ L 8 = true := fun q => h7 (h.d8 q)
  have h1 : ¬ L 1 = true := by rw [hL]; simp
  exact ⟨h.bel, h.keep, h.v0, fun q => absurd q h1, h.v2, h.v3, h.v4, h.v5, fun q => absurd q h1, fun q => absurd q h1, h.x25, fun q => absurd q h6, fun q => absurd q h7, fun q => absurd q h8, h.d6, h.d7, h.d8⟩
theorem BkI.reMap (h : BkI W f0 pv ta tc n chans R c d gm gs g0 L f u) (hL : L 2 = false) (gm' : Nat) : BkI W f0 pv ta tc n chans R c d gm' gs g0 L f u := by
  have h6 : ¬ L 6 = true := fun q => by have := (h.d6 q).2.1; rw [hL] at this; cases this
  have h7 : ¬ L 7 = true := fun q => h6 (h.d7 q)
  have h8 : ¬ L 8 = true := fun q => h7 (h.d8 q)
  have h1 : ¬ L 2 = true := by rw [hL]; simp
  exact ⟨h.bel, h.keep, h.v0, h.v1, fun q => absurd q h1, h.v3, h.v4, h.v5, fun _ q => absurd q h1, h.x15, fun q => absurd q h1, fun q => absurd q h6, fun q => absurd q h7, fun q => absurd q h8, h.d6, h.d7, h.d8⟩
theorem BkI.reSeen (h : BkI W f0 pv ta tc n chans R c d gm gs g0 L f u) (hL : L 5 = false) (gs' : Nat) : BkI W f0 pv ta tc n chans R c d gm gs' g0 L f u := by
  have h6 : ¬ L 6 = true := fun q => by have := (h.d6 q).2.2; rw [hL] at this; cases this
  have h7 : ¬ L 7 = true := fun q => h6 (h.d7 q)
  have h8 : ¬ L 8 = true := fun q => h7 (h.d8 q)
  have h1 : ¬ L 5 = true := by rw [hL]; simp
  exact ⟨h.bel, h.keep, h.v0, h.v1, h.v2, h.v3, h.v4, fun q => absurd q h1, h.x12, fun _ q => absurd q h1, fun _ q => absurd q h1, fun q => absurd q h6, fun q => absurd q h7, fun q => absurd q h8, h.d6, h.d7, h.d8⟩
theorem BkI.reBox (h : BkI W f0 pv ta tc n chans R c d gm gs g0 L f u) (hL : L 7 = false) (g0' : Nat) : BkI W f0 pv ta tc n chans R c d gm gs g0' L f u := by
  have h7 : ¬ L 7 = true := by rw [hL]; simp
  have h8 : ¬ L 8 = true := fun q => h7 (h.d8 q)
  exact ⟨h.bel, h.keep, h.v0, h.v1, h.v2, h.v3, h.v4, h.v5, h.x12, h.x15, h.x25, h.v6, fun q => absurd q h7, fun q => absurd q h8, h.d6, h.d7, h.d8⟩
end
end Go.Proofs.YtglafbajbiengaaGreat
