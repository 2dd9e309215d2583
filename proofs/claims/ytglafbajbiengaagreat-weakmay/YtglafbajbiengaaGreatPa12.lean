/- What the laws of this seat stand on, part 12. -/
import Derived.Test.YtglafbajbiengaaGreatPa0
import Derived.Test.YtglafbajbiengaaGreatPa1
set_option linter.unusedVariables false
set_option linter.unusedSimpArgs false
set_option maxRecDepth 100000
set_option maxHeartbeats 40000000
namespace Go.Proofs.YtglafbajbiengaaGreat
open Go.ChangeShapes Go.WideShapes Go.ChangeAt Go.RowKit Go.Maps Go.Shelf
attribute [local go_sem] Oper.semAt_some
/-- What a round must keep: all below B0, and the iterator's box. -/
def KpW (B0 bx : Nat) (W W' : World) : Prop := (∀ g, g < B0 → W'.heap[g]? = W.heap[g]?) ∧ W'.heap[bx]? = W.heap[bx]?
theorem KpW.trans {B0 bx : Nat} {X Y Z : World} (h : KpW B0 bx X Y) (k : KpW B0 bx Y Z) : KpW B0 bx X Z := ⟨fun g hg => (k.1 g hg).trans (h.1 g hg), k.2.trans h.2⟩
theorem KpW.obj {w : World} {B0 bx : Nat} (hB : B0 ≤ w.heap.size) (hx : bx < w.heap.size) (W : World) (l : Nat) (o o' : Obj) (hl : w.heap.size ≤ l) (_ : W.heap[l]? = some o) (_ : o.isCells = false) (_ : o.isWalk = false) : KpW B0 bx W (W.putObj l o') :=
  ⟨fun g hg => World.putObj_heap_other (by omega), World.putObj_heap_other (by omega)⟩
theorem KpW.below {B0 bx : Nat} {W W' : World} (hB : B0 ≤ W.heap.size) (hx : bx < W.heap.size) (h : Below W.heap.size W W') : KpW B0 bx W W' := ⟨fun g hg => h.block g (by omega), h.block bx hx⟩
theorem KpW.touch {X : Nat → Prop} {B0 bx : Nat} {W W' : World} (hB : B0 ≤ W.heap.size) (hx : bx < W.heap.size) (T : Touch X W W') (h0 : ∀ g, g < B0 → ¬ X g) (h1 : ¬ X bx) : KpW B0 bx W W' := ⟨fun g hg => T.block g (by omega) (h0 g hg), T.block bx hx h1⟩
theorem ko_below {W W' : World} (h : Below W.heap.size W W') : KeepsOthers W W' := ⟨h.size, fun k o hk _ => old_later hk h⟩
theorem rangeSeq {α : Type} {g : Operand} {ps : Array Tmp} {assign body : Code} {Q : Exit → Act → World → Prop} {a : Act} {w : World} (n : Nat) (h1 : 1 ≤ n) {gf : Nat} {lb : Array Value}
    (hg : a.eval g = .func (.func gf) #[] lb) (eg : ∀ args w, (callFunc gf args).run Tryz.prog w = .ok (.enter gf args) w)
    {encs : α → Array Value} {Kp : World → World → Prop} {S Sp : List α → Prop} {N : Nat} (hseq : SeqStopsK Fence.wide (n - 1) Tryz.prog gf lb encs Kp S Sp N w)
    (hKt : ∀ {A B C : World}, Kp A B → Kp B C → Kp A C) (hKb : ∀ (W : World) (l : Nat) (o o' : Obj), w.heap.size ≤ l → W.heap[l]? = some o → o.isCells = false → o.isWalk = false → Kp W (W.putObj l o')) (hps : ∀ x, (encs x).size = ps.size)
    (I : List α → World → Prop) (Ix : Code → List α → World → Prop) (hI : OwnFrom w.heap.size I) (hIx : ∀ c, OwnFrom w.heap.size (Ix c)) (h0 : I [] w)
    (fA : α → World → World) (hfA : ∀ x W, Below W.heap.size W (fA x W)) (hfK : ∀ pre x W, I pre W → Kp W (fA x W)) (hfI : ∀ pre x W, I pre W → I pre (fA x W)) (a₁ : α → World → Act)
    (hassign : ∀ (l : Nat) (x : α) (W : World) (K : Act → World → Prop), K (a₁ x W) (fA x W) →
      assign.wpIn (Fence.wide.inRound l) (n - 1 - 1) Tryz.prog (Exit.then K (fun _ _ _ => False)) { tmps := (ps.zip (encs x)).foldl (fun t (p, v) => t.setIfInBounds p v) a.tmps, defers := [] } W)
    (hbody : ∀ (l : Nat) (pre : List α) (x : α) (W0 W : World), I pre W → I pre W0 → pre.length < N → W.heap.size = (fA x W0).heap.size → (∀ (g : Nat) (cs : Array Value) (t : TypeId) (fr : Nat × Nat), (fA x W0).heap[g]? = some (Obj.cells cs t fr) → W.heap[g]? = some (Obj.cells cs t fr)) → body.wpIn (Fence.wide.inRound l) (n - 1 - 1) Tryz.prog (ownPostK Kp I Ix (pre ++ [x]) W) (a₁ x W0) W)
    (hdone : ∀ (D : Nat) (xs : List α) (W : World), w.heap.size ≤ D → S xs → I xs W → W.heap[D]? = some (.deferred (some [])) → Q .normal { a with defers := { target := .collected D, args := #[] } :: a.defers } W)
    (hstop : ∀ (D : Nat) (c : Code) (pre : List α) (W : World), w.heap.size ≤ D → Sp pre → Ix c pre W → W.heap[D]? = some (.deferred (some [])) → c.wpIn Fence.wide n Tryz.prog Q { a with defers := { target := .collected D, args := #[] } :: a.defers } W) :
    (Code.rangeFunc g ps assign body).wpIn Fence.wide n Tryz.prog Q a w := by
  refine wpIn_rangeFunc ?_
  intro fn hfn
  obtain ⟨rec, hrec⟩ : ∃ rec : LoopState → Option Code → Loop, rec = fun st pe => { state := st, pending := pe, fn, tmps := a.tmps, params := ps, assign, body, defers := w.heap.size } := ⟨_, rfl⟩
  obtain ⟨W1, hW1⟩ : ∃ W1, (w.alloc (.deferred (some []))).alloc (.loop (rec .ready none)) = W1 := ⟨_, rfl⟩
  have hL1 : W1.heap[w.heap.size + 1]? = some (.loop (rec .ready none)) := by
    rw [← hW1]; have := World.alloc_heap_new (w.alloc (.deferred (some []))) (.loop (rec .ready none)); rwa [World.size_alloc] at this
  have hK1 : W1.heap[w.heap.size]? = some (.deferred (some [])) := by
    rw [← hW1]; exact (Below.heap_alloc _ _ _ (by simp)).trans (World.alloc_heap_new w _)
  have hI1 : I [] W1 := by rw [← hW1]; exact hI.alloc _ (hI.alloc _ h0)
  have hb1 : Below w.heap.size w W1 := by
    rw [← hW1]; exact ((Below.refl _ w).alloc (Nat.le_refl _) _).alloc (by simp) _
  refine ⟨w.heap.size + 1, [{ target := .collected w.heap.size, args := #[] }], W1, { target := .fn (.func gf) lb, args := #[.func (.yield (w.heap.size + 1)) #[] #[]] }, W1, gf,
    #[.func (.yield (w.heap.size + 1)) #[] #[]] ++ lb, W1, ?_, ?_, ?_, ?_, fun _ => h1, ?_⟩
  · rw [← hW1, hrec]; exact run_enterLoop_outer _ _ _ _ _
  · simp only [resolve, hg]
    simp [go_sem]
  · intro f' hf'; trivial
  · simp [invoke, go_sem, eg]
  · have hnw : ∀ {A B : World} {row : Option Nat}, (∀ r, row = some r → W1.heap.size ≤ r ∧ ∃ o : Obj, A.heap[r]? = some o ∧ o.isWalk = true) → (∀ r, row = some r → w.heap.size ≤ r ∧ ∃ o : Obj, A.heap[r]? = some o ∧ o.isCells = false) :=
      fun hr r e => by obtain ⟨hB, o, ho, hw⟩ := hr r e; exact ⟨by rw [← hW1] at hB; simp at hB; omega, o, ho, Obj.not_cells_of_walk hw⟩
    refine (hseq (w.heap.size + 1)
      (fun pre W => I pre W ∧ W.heap[w.heap.size + 1]? = some (.loop (rec .ready none)) ∧ W.heap[w.heap.size]? = some (.deferred (some [])))
      (fun pre W => ∃ c, Ix c pre W ∧ W.heap[w.heap.size + 1]? = some (.loop (rec .done (some c))) ∧ W.heap[w.heap.size]? = some (.deferred (some [])))
      W1 hb1
      (fun s A B row hs hg' hr => ⟨hI s A B row hs.1 hg' (hnw (B := B) hr), (grownBy_keeps hg' (fun r e => (hr r e).2) hs.2.1 rfl).trans hs.2.1, (grownBy_keeps hg' (fun r e => (hr r e).2) hs.2.2 rfl).trans hs.2.2⟩)
      (fun s A B row hs hg' hr => by
        obtain ⟨c, hc, hl, hk⟩ := hs
        exact ⟨c, hIx c s A B row hc hg' (hnw (B := B) hr), (grownBy_keeps hg' (fun r e => (hr r e).2) hl rfl).trans hl, (grownBy_keeps hg' (fun r e => (hr r e).2) hk rfl).trans hk⟩)
      ?_ ⟨hI1, hL1, hK1⟩).mono ?_
    · rintro pre x W0 ⟨hi0, hl0, hk0⟩ hlen
      have hy := run_yield (P := Tryz.prog) (args := encs x) hl0 (by rw [hrec]; exact hps x)
      have hasg := hassign (w.heap.size + 1) x W0
      have hbd := fun (W2 : World) => hbody (w.heap.size + 1) pre x W0 W2
      have hkp0 := hfK pre x W0 hi0
      have hi := hfI pre x W0 hi0
      have hl := old_later hl0 (hfA x W0)
      have hk := old_later hk0 (hfA x W0)
      obtain ⟨a1, ha1⟩ : ∃ a1, a₁ x W0 = a1 := ⟨_, rfl⟩
      rw [ha1] at hasg hbd
      rw [hrec] at hy
      refine ⟨fn, _, assign, body, hy, roundIn_of_wpIn hfn (hasg _ ?_)⟩
      generalize fA x W0 = W at *
      have hlt : w.heap.size + 1 < W.heap.size := (Array.getElem?_eq_some_iff.1 hl).1
      refine ⟨_, run_beginRound hl (by rw [hrec]), ?_⟩
      have hl2 : (W.putObj (w.heap.size + 1) (.loop { rec .ready none with state := .busy })).heap[w.heap.size + 1]? = some (.loop { rec .ready none with state := .busy }) := World.putObj_heap_same hlt
      have hk2 : (W.putObj (w.heap.size + 1) (.loop { rec .ready none with state := .busy })).heap[w.heap.size]? = some (.deferred (some [])) := (World.putObj_heap_other (by omega)).trans hk
      have hw2 : Kp W (W.putObj (w.heap.size + 1) (.loop { rec .ready none with state := .busy })) := hKb _ _ _ _ (by omega) hl rfl rfl
      refine wpIn_mono (hbd _ (hI.putObj _ hi (by omega) hl rfl) hi0 hlen (by simp) (fun g cs t fr hc => (World.putObj_heap_other (fun e => by subst e; rw [hl] at hc; cases hc)).trans hc)) ?_
      have fin : ∀ (jump : Option Code) (W3 : World), KeepsOthers (W.putObj (w.heap.size + 1) (.loop { rec .ready none with state := .busy })) W3 →
          (Instr.endRound (w.heap.size + 1) jump).run Tryz.prog W3 = .ok (.bool jump.isNone) (W3.putObj (w.heap.size + 1) (.loop (rec (if jump.isNone then .ready else .done) jump))) ∧
          W3.heap[w.heap.size + 1]? = some (.loop { rec .ready none with state := .busy }) ∧
          (W3.putObj (w.heap.size + 1) (.loop (rec (if jump.isNone then .ready else .done) jump))).heap[w.heap.size + 1]? = some (.loop (rec (if jump.isNone then .ready else .done) jump)) ∧
          (W3.putObj (w.heap.size + 1) (.loop (rec (if jump.isNone then .ready else .done) jump))).heap[w.heap.size]? = some (.deferred (some [])) := fun jump W3 hk3 => by
        have hl3 := hk3.same _ _ hl2 rfl
        have h9 := run_endRound (P := Tryz.prog) jump hl3
        rw [hrec] at h9 ⊢
        exact ⟨h9, by rw [hrec] at hl3; exact hl3, World.putObj_heap_same (Array.getElem?_eq_some_iff.1 hl3).1, (World.putObj_heap_other (by omega)).trans (hk3.same _ _ hk2 rfl)⟩
      rintro e a3 W3 hp
      cases e with
      | normal =>
        obtain ⟨hk3, hkp3, hi3⟩ := hp
        obtain ⟨hr, hl3, hl4, hk4⟩ := fin none W3 hk3
        exact ⟨_, _, hr, .inl ⟨rfl, ⟨hI.putObj _ hi3 (by omega) hl3 rfl, hl4, hk4⟩, hKt (hKt (hKt hkp0 hw2) hkp3) (hKb _ _ _ _ (by omega) hl3 rfl rfl)⟩⟩
      | ret =>
        obtain ⟨hk3, hi3⟩ := hp
        obtain ⟨hr, hl3, hl4, hk4⟩ := fin (some .ret) W3 hk3
        exact ⟨_, _, hr, .inr ⟨rfl, .ret, (hIx _).putObj _ hi3 (by omega) hl3 rfl, hl4, hk4⟩⟩
      | exit id =>
        obtain ⟨hk3, hi3⟩ := hp
        obtain ⟨hr, hl3, hl4, hk4⟩ := fin (some (.exit id)) W3 hk3
        exact ⟨_, _, hr, .inr ⟨rfl, .exit id, (hIx _).putObj _ hi3 (by omega) hl3 rfl, hl4, hk4⟩⟩
      | goto t =>
        obtain ⟨hk3, hi3⟩ := hp
        obtain ⟨hr, hl3, hl4, hk4⟩ := fin (some (.goto t)) W3 hk3
        exact ⟨_, _, hr, .inr ⟨rfl, .goto t, (hIx _).putObj _ hi3 (by omega) hl3 rfl, hl4, hk4⟩⟩
      | panic ch => exact hp.elim
      | outgrown => exact hp.elim
    · rintro e W2 ⟨⟨v, rfl⟩, (⟨xs, hS, hi, hl, hk⟩ | ⟨pre, hSp, c, hi, hl, hk⟩)⟩
      · exact ⟨none, _, by have h9 := run_endLoop (P := Tryz.prog) hl (by rw [hrec]; simp); rw [hrec] at h9; exact h9, hdone _ xs _ (Nat.le_refl _) hS (hI.putObj _ hi (by omega) hl rfl) ((World.putObj_heap_other (by omega)).trans hk)⟩
      · exact ⟨some c, _, by have h9 := run_endLoop (P := Tryz.prog) hl (by rw [hrec]; simp); rw [hrec] at h9; exact h9, hstop _ c pre _ (Nat.le_refl _) hSp ((hIx c).putObj _ hi (by omega) hl rfl) ((World.putObj_heap_other (by omega)).trans hk)⟩
end Go.Proofs.YtglafbajbiengaaGreat
namespace Go.Proofs.YtglafbajbiengaaGreat
/-- i is ahead of j, through others. -/
inductive Bef (D : Nat → Nat → Bool) (j : Nat) : Nat → Prop
  | one {i : Nat} : D i j = true → Bef D j i
  | more {i k : Nat} : D i k = true → Bef D j k → Bef D j i
/-- All that are ahead of j, of the last d below it, rising. -/
def mks (D : Nat → Nat → Bool) (j : Nat) : Nat → List Nat
  | 0 => []
  | d + 1 => if D (j - (d + 1)) j || (mks D j d).any (fun k => D (j - (d + 1)) k) then (j - (d + 1)) :: mks D j d else mks D j d
/-- Its first one is earlier. -/
def Up (D : Nat → Nat → Bool) : Prop := ∀ i j, D i j = true → i < j
theorem Bef.lt {D : Nat → Nat → Bool} (hD : Up D) {j i : Nat} (h : Bef D j i) : i < j := by
  induction h with
  | one h => exact hD _ _ h
  | more h _ ih => exact Nat.lt_trans (hD _ _ h) ih
theorem Bef.trans {D : Nat → Nat → Bool} {j k i : Nat} (h : Bef D k i) (g : Bef D j k) : Bef D j i := by
  induction h with
  | one h => exact .more h g
  | more h _ ih => exact .more h ih
theorem mks_mem {D : Nat → Nat → Bool} (hD : Up D) (j : Nat) : ∀ d, d ≤ j → ∀ i, i ∈ mks D j d ↔ j - d ≤ i ∧ Bef D j i := by
  intro d
  induction d with
  | zero =>
    intro _ i
    refine ⟨fun h => by simp [mks] at h, fun ⟨h1, h2⟩ => ?_⟩
    have := h2.lt hD
    omega
  | succ d ih =>
    intro hd i
    have ih := ih (by omega)
    have key : (D (j - (d + 1)) j || (mks D j d).any (fun k => D (j - (d + 1)) k)) = true ↔ Bef D j (j - (d + 1)) := by
      rw [Bool.or_eq_true, List.any_eq_true]
      constructor
      · rintro (h | ⟨k, hk, h⟩)
        · exact .one h
        · exact .more h ((ih k).1 hk).2
      · intro h
        cases h with
        | one h => exact .inl h
        | more h g =>
          rename_i k
          have := hD _ _ h
          exact .inr ⟨k, (ih k).2 ⟨by omega, g⟩, h⟩
    unfold mks
    by_cases hc : (D (j - (d + 1)) j || (mks D j d).any (fun k => D (j - (d + 1)) k)) = true
    · rw [if_pos hc, List.mem_cons, ih i]
      constructor
      · rintro (rfl | ⟨h1, h2⟩)
        · exact ⟨Nat.le_refl _, key.1 hc⟩
        · exact ⟨by omega, h2⟩
      · rintro ⟨h1, h2⟩
        by_cases e : i = j - (d + 1)
        · exact .inl e
        · exact .inr ⟨by omega, h2⟩
    · rw [if_neg hc, ih i]
      constructor
      · rintro ⟨h1, h2⟩; exact ⟨by omega, h2⟩
      · rintro ⟨h1, h2⟩
        by_cases e : i = j - (d + 1)
        · subst e; exact absurd (key.2 h2) hc
        · exact ⟨by omega, h2⟩
theorem mks_rise {D : Nat → Nat → Bool} (hD : Up D) (j : Nat) : ∀ d, d ≤ j → (mks D j d).Pairwise (· < ·) := by
  intro d
  induction d with
  | zero => intro _; exact List.Pairwise.nil
  | succ d ih =>
    intro hd
    unfold mks
    split
    · refine List.pairwise_cons.2 ⟨fun i hi => ?_, ih (by omega)⟩
      have := ((mks_mem hD j d (by omega) i).1 hi).1
      omega
    · exact ih (by omega)
def pastL (D : Nat → Nat → Bool) (j : Nat) : List Nat := mks D j j
def befB (D : Nat → Nat → Bool) (i j : Nat) : Bool := (pastL D j).contains i
theorem befB_iff {D : Nat → Nat → Bool} (hD : Up D) {i j : Nat} : befB D i j = true ↔ Bef D j i := by
  unfold befB pastL
  rw [List.contains_iff_mem, mks_mem hD j j (Nat.le_refl _)]
  exact ⟨fun h => h.2, fun h => ⟨by omega, h⟩⟩
theorem past_mem {D : Nat → Nat → Bool} (hD : Up D) {i j : Nat} : i ∈ pastL D j ↔ Bef D j i := by
  rw [← befB_iff hD]; unfold befB; rw [List.contains_iff_mem]
theorem rise_eq {l l' : List Nat} (h : l.Pairwise (· < ·)) (h' : l'.Pairwise (· < ·)) (e : ∀ x, x ∈ l ↔ x ∈ l') : l = l' := by
  induction l generalizing l' with
  | nil =>
    cases l' with
    | nil => rfl
    | cons y r => exact absurd ((e y).2 (by simp)) (by simp)
  | cons x r ih =>
    cases l' with
    | nil => exact absurd ((e x).1 (by simp)) (by simp)
    | cons y s =>
      obtain ⟨h1, h2⟩ := List.pairwise_cons.1 h
      obtain ⟨k1, k2⟩ := List.pairwise_cons.1 h'
      have hxy : x = y := by
        rcases List.mem_cons.1 ((e x).1 (by simp)) with q | q
        · exact q
        · rcases List.mem_cons.1 ((e y).2 (by simp)) with q' | q'
          · exact q'.symm
          · have := k1 x q; have := h1 y q'; omega
      subst hxy
      congr 1
      refine ih h2 k2 fun z => ?_
      have := e z
      simp only [List.mem_cons] at this
      constructor
      · intro hz
        rcases this.1 (.inr hz) with q | q
        · have := h1 z hz; omega
        · exact q
      · intro hz
        rcases this.2 (.inr hz) with q | q
        · have := k1 z hz; omega
        · exact q
/-- The places that are marked, rising, are what is ahead. -/
theorem past_of {D : Nat → Nat → Bool} (hD : Up D) {j : Nat} (s : Nat → Bool) (h : ∀ i, i < j + 1 → (s i = true ↔ Bef D j i)) : (List.range (j + 1)).filter s = pastL D j := by
  refine rise_eq (List.Pairwise.filter _ List.pairwise_lt_range) (mks_rise hD j j (Nat.le_refl _)) fun x => ?_
  rw [List.mem_filter, List.mem_range, past_mem hD]
  constructor
  · rintro ⟨h1, h2⟩; exact (h x h1).1 h2
  · intro h2
    have := h2.lt hD
    exact ⟨by omega, (h x (by omega)).2 h2⟩
/-- A set that is sound, and closed, is what is ahead. -/
theorem bef_of_closed {D : Nat → Nat → Bool} {j : Nat} {s : Nat → Bool} (hs : ∀ i, s i = true → Bef D j i) (hj : ∀ i, D i j = true → s i = true) (hc : ∀ i k, s k = true → D i k = true → s i = true) (i : Nat) : s i = true ↔ Bef D j i := by
  refine ⟨hs i, fun h => ?_⟩
  induction h with
  | one h => exact hj _ h
  | more h _ ih => exact hc _ _ ih h
/-- Of two tests that are alike up to a place all is alike there. -/
theorem Bef.congr {D D' : Nat → Nat → Bool} {j : Nat} (h : ∀ i k, k ≤ j → D i k = D' i k) (hD : Up D) {i : Nat} (g : Bef D j i) : Bef D' j i := by
  induction g with
  | one q => rw [h _ _ (Nat.le_refl _)] at q; exact .one q
  | more q g ih =>
    have := g.lt hD
    rw [h _ _ (by omega)] at q
    exact .more q ih
theorem pastL_congr {D D' : Nat → Nat → Bool} (hD : Up D) (hD' : Up D') {j : Nat} (h : ∀ i k, k ≤ j → D i k = D' i k) : pastL D j = pastL D' j :=
  rise_eq (mks_rise hD j j (Nat.le_refl _)) (mks_rise hD' j j (Nat.le_refl _)) fun x => by
    rw [past_mem hD, past_mem hD']
    exact ⟨fun g => g.congr h hD, fun g => g.congr (fun i k hk => (h i k hk).symm) hD'⟩
/-- A side of a rule: what it is of, and whether it is. -/
abbrev Sd := EvD → Int × Bool
def opsS (l : List Int) : Sd := fun e => (e.obj, l.contains e.op)
def modeS (m : Int) (l : List Int) : Sd := fun e => (e.obj, l.contains e.op && e.mode == m)
def thS : Sd := fun e => (e.th, true)
def fewS : Sd := fun e => (e.obj, e.op == 24 && decide (e.val < 0))
/-- Which of them, by how many are ahead. -/
abbrev Wh := Int → Nat → Nat → Int × Int
def lastW : Wh := fun _ a _ => (max ((a : Int) - 1) 0, a)
def pairW (room : Int → Int) : Wh := fun x a b => if (b : Int) - room x < 0 ∨ (a : Int) ≤ (b : Int) - room x then (0, 0) else ((b : Int) - room x, (b : Int) - room x + 1)
def roomL (chans : List Int) : Int → Int := fun x => if x < 0 ∨ (chans.length : Int) ≤ x then 0 else (chans[x.toNat]?).getD 0
def noRoom : Int → Int := fun _ => 0
structure RuD where
  a : Sd
  b : Sd
  wh : Option Wh
def rulesL (chans : List Int) : List RuD :=
  [⟨thS, thS, none⟩, ⟨opsS [12], thS, none⟩, ⟨opsS [14], opsS [13, 15], none⟩, ⟨opsS [16], opsS [13], none⟩, ⟨opsS [18, 19], opsS [17, 19], some lastW⟩,
   ⟨opsS [20], modeS 1 [21, 22], some (pairW noRoom)⟩, ⟨modeS 1 [21, 22], opsS [20], some (pairW (roomL chans))⟩, ⟨opsS [23], modeS 2 [21, 22], none⟩, ⟨fewS, opsS [25], none⟩, ⟨opsS [27], modeS 0 [26], none⟩]
/-- Is it of the side, and of x? -/
def isS (s : Sd) (x : Int) (e : EvD) : Bool := (s e).2 && (s e).1 == x
def cntS (s : Sd) (x : Int) (t : List EvD) : Nat := t.countP (isS s x)
def whB : Option Wh → Int → Nat → Nat → Nat → Bool
  | none, _, _, _, _ => true
  | some f, x, a, b, n => decide ((f x a b).1 ≤ (n : Int)) && decide ((n : Int) < (f x a b).2)
def holdsB (r : RuD) (t : List EvD) (i j : Nat) : Bool := match t[i]?, t[j]? with
  | some e, some e' => isS r.a (r.b e').1 e && (r.b e').2 && whB r.wh (r.b e').1 (cntS r.a (r.b e').1 (t.take j)) (cntS r.b (r.b e').1 (t.take j)) (cntS r.a (r.b e').1 (t.take i))
  | _, _ => false
def dirB (chans : List Int) (t : List EvD) (i j : Nat) : Bool := decide (i < j) && (rulesL chans).any fun r => holdsB r t i j
theorem dirB_up (chans : List Int) (t : List EvD) : Up (dirB chans t) := fun i j h => by
  simp only [dirB, Bool.and_eq_true, decide_eq_true_eq] at h; exact h.1
theorem holds_take {r : RuD} {t : List EvD} {i j n : Nat} (hi : i < j) (hj : j < n) : holdsB r (t.take n) i j = holdsB r t i j := by
  unfold holdsB
  rw [List.getElem?_take_of_lt (by omega), List.getElem?_take_of_lt (by omega), List.take_take, List.take_take, Nat.min_eq_left (by omega), Nat.min_eq_left (by omega)]
theorem dir_take {chans : List Int} {t : List EvD} {i j n : Nat} (hj : j < n) : dirB chans (t.take n) i j = dirB chans t i j := by
  unfold dirB
  by_cases h : i < j
  · congr 1
    congr 1
    funext r
    exact holds_take h hj
  · rw [decide_eq_false h]; rfl
/-- What is ahead of the j-th, by a trace that ends there. -/
theorem past_take {chans : List Int} {t : List EvD} {j : Nat} : pastL (dirB chans (t.take (j + 1))) j = pastL (dirB chans t) j :=
  pastL_congr (dirB_up _ _) (dirB_up _ _) fun i k hk => dir_take (by omega)
theorem bef_take {chans : List Int} {t : List EvD} {i j : Nat} : befB (dirB chans (t.take (j + 1))) i j = befB (dirB chans t) i j := by
  unfold befB; rw [past_take]
def plS (s : Sd) (x : Int) : List EvD → Nat → List Nat
  | [], _ => []
  | e :: t, i => if isS s x e then i :: plS s x t (i + 1) else plS s x t (i + 1)
theorem plS_snoc (s : Sd) (x : Int) : ∀ (t : List EvD) (i : Nat) (e : EvD), plS s x (t ++ [e]) i = plS s x t i ++ (if isS s x e then [i + t.length] else [])
  | [], i, e => by simp [plS]
  | a :: t, i, e => by
    have ih := plS_snoc s x t (i + 1) e
    simp only [List.cons_append, plS, ih, List.length_cons, show i + 1 + t.length = i + (t.length + 1) by omega]
    split <;> simp
theorem plS_len (s : Sd) (x : Int) : ∀ (t : List EvD) (i : Nat), (plS s x t i).length = cntS s x t
  | [], i => by simp [plS, cntS]
  | a :: t, i => by
    have ih := plS_len s x t (i + 1)
    unfold cntS at ih ⊢
    simp only [plS, List.countP_cons]
    rcases isS s x a <;> simp [ih]
theorem plS_mem (s : Sd) (x : Int) : ∀ (t : List EvD) (i k : Nat), k ∈ plS s x t i ↔ i ≤ k ∧ ∃ e, t[k - i]? = some e ∧ isS s x e = true
  | [], i, k => by simp [plS]
  | a :: t, i, k => by
    have ih := plS_mem s x t (i + 1) k
    have hk : ∀ e, i + 1 ≤ k → ((a :: t)[k - i]? = some e ↔ t[k - (i + 1)]? = some e) := fun e h => by
      rw [show k - i = k - (i + 1) + 1 by omega, List.getElem?_cons_succ]
    unfold plS
    split
    · rename_i ha
      rw [List.mem_cons, ih]
      constructor
      · rintro (rfl | ⟨h, e, h1, h2⟩)
        · exact ⟨Nat.le_refl _, a, by simp, ha⟩
        · exact ⟨by omega, e, (hk e h).2 h1, h2⟩
      · rintro ⟨h, e, h1, h2⟩
        by_cases q : k = i
        · exact .inl q
        · exact .inr ⟨by omega, e, (hk e (by omega)).1 h1, h2⟩
    · rename_i ha
      rw [ih]
      constructor
      · rintro ⟨h, e, h1, h2⟩; exact ⟨by omega, e, (hk e h).2 h1, h2⟩
      · rintro ⟨h, e, h1, h2⟩
        by_cases q : k = i
        · subst q; simp at h1; subst h1; exact absurd h2 ha
        · exact ⟨by omega, e, (hk e (by omega)).1 h1, h2⟩
theorem plS_rise (s : Sd) (x : Int) : ∀ (t : List EvD) (i : Nat), (plS s x t i).Pairwise (· < ·)
  | [], i => List.Pairwise.nil
  | a :: t, i => by
    have ih := plS_rise s x t (i + 1)
    unfold plS
    split
    · refine List.pairwise_cons.2 ⟨fun k hk => ?_, ih⟩
      have := ((plS_mem s x t (i + 1) k).1 hk).1
      omega
    · exact ih
/-- The n-th of them has n ahead. -/
theorem plS_at (s : Sd) (x : Int) : ∀ (t : List EvD) (i n k : Nat), (plS s x t i)[n]? = some k → i ≤ k ∧ k < i + t.length ∧ cntS s x (t.take (k - i)) = n ∧ ∃ e, t[k - i]? = some e ∧ isS s x e = true
  | [], i, n, k, h => by simp [plS] at h
  | a :: t, i, n, k, h => by
    unfold plS at h
    have hk : i + 1 ≤ k → ((a :: t)[k - i]? = t[k - (i + 1)]?) ∧ (a :: t).take (k - i) = a :: t.take (k - (i + 1)) := fun h => by
      rw [show k - i = k - (i + 1) + 1 by omega, List.getElem?_cons_succ, List.take_succ_cons]; exact ⟨rfl, rfl⟩
    rcases ha : isS s x a with _ | _
    · rw [ha] at h
      simp only [Bool.false_eq_true, if_false] at h
      obtain ⟨h1, h2, h3, e, h4, h5⟩ := plS_at s x t (i + 1) n k h
      obtain ⟨k1, k2⟩ := hk h1
      refine ⟨by omega, by simp only [List.length_cons]; omega, ?_, e, k1.trans h4, h5⟩
      rw [k2]
      unfold cntS at h3 ⊢
      rw [List.countP_cons, ha, h3]; rfl
    · rw [ha] at h
      simp only [if_true] at h
      cases n with
      | zero =>
        simp at h
        subst h
        exact ⟨Nat.le_refl _, by simp, by simp [cntS], a, by simp, ha⟩
      | succ n =>
        rw [List.getElem?_cons_succ] at h
        obtain ⟨h1, h2, h3, e, h4, h5⟩ := plS_at s x t (i + 1) n k h
        obtain ⟨k1, k2⟩ := hk h1
        refine ⟨by omega, by simp only [List.length_cons]; omega, ?_, e, k1.trans h4, h5⟩
        rw [k2]
        unfold cntS at h3 ⊢
        rw [List.countP_cons, ha, h3]; rfl
theorem plS_take (s : Sd) (x : Int) (t : List EvD) (j : Nat) : plS s x (t.take j) 0 = (plS s x t 0).filter (· < j) := by
  refine rise_eq (plS_rise s x _ 0) ((plS_rise s x t 0).filter _) fun k => ?_
  rw [List.mem_filter, plS_mem, plS_mem, decide_eq_true_eq]
  simp only [Nat.sub_zero]
  constructor
  · rintro ⟨_, e, h1, h2⟩
    have hk := (List.getElem?_eq_some_iff.1 h1).1
    rw [List.length_take] at hk
    rw [List.getElem?_take_of_lt (by omega)] at h1
    exact ⟨⟨Nat.zero_le _, e, h1, h2⟩, by omega⟩
  · rintro ⟨⟨_, e, h1, h2⟩, h3⟩
    exact ⟨Nat.zero_le _, e, by rw [List.getElem?_take_of_lt h3]; exact h1, h2⟩
theorem cf_of {P : Program} {fn : FuncId} {f : Func} (h : P.funcs[fn]? = some f) (hn : (f.name == "runtime.NumGoroutine") = false) (hb : f.body.isNone = false) (args : Array Value) (w : World) : (callFunc fn args).run P w = .ok (.enter fn args) w := by
  have hn' : ¬ f.name = "runtime.NumGoroutine" := by simpa using hn
  have hb' : ¬ f.body = none := by intro e; rw [e] at hb; cases hb
  simp [callFunc, h, hn', hb']
end Go.Proofs.YtglafbajbiengaaGreat
namespace Go.Proofs.YtglafbajbiengaaGreat
open Go.ChangeShapes Go.WideShapes Go.ChangeAt Go.RowKit
def idxI (l : List Int) (x : Int) : Int := if l.contains x then (l.idxOf x : Nat) else -1
theorem idxI_has (l : List Int) (x : Int) : decide (0 ≤ idxI l x) = l.contains x := by
  unfold idxI
  rcases h : l.contains x with _ | _
  · rfl
  · simp
theorem idxI_at {l : List Int} {x : Int} {j : Nat} (h : l[j]? = some x) (h0 : ∀ k, k < j → l[k]? ≠ some x) : idxI l x = j := by
  have hm : x ∈ l := List.mem_of_getElem? h
  unfold idxI
  rw [if_pos (List.contains_iff_mem.2 hm)]
  have hj := (List.getElem?_eq_some_iff.1 h).1
  have hi := List.idxOf_lt_length_of_mem hm
  congr 1
  rcases Nat.lt_trichotomy (l.idxOf x) j with q | q | q
  · exact absurd (by rw [List.getElem?_eq_getElem hi, List.getElem_idxOf]) (h0 _ q)
  · exact q
  · exact absurd (show (l[j] == x) = true by rw [(List.getElem?_eq_some_iff.1 h).2]; simp) (by simpa using List.not_of_lt_findIdx q)
theorem idxI_none {l : List Int} {x : Int} (h0 : ∀ k, k < l.length → l[k]? ≠ some x) : idxI l x = -1 := by
  unfold idxI
  rw [if_neg]
  intro h
  obtain ⟨k, hk⟩ := List.getElem?_of_mem (List.contains_iff_mem.1 h)
  exact h0 k (List.getElem?_eq_some_iff.1 hk).1 hk
theorem index_u8 (a : Option Addr) (cap : Nat) (l : List Int) (x : Int) (w : World) (h : RowOf .u8 w w.heap.size a l) (hl : l.length ≤ 1000000) :
    Calls Tryz.prog 134 #[.slice a l.length cap, .int .u8 x] w fun e w' => e = .returned (.int .i64 (idxI l x)) ∧ w = w' := by
  have HA := Lib.hid h
  clear h
  go_enter Tryz.func134, Tryz.ntmps134
  go_wp2
  go_loop [8] (fun i => ∃ j : Nat, j ≤ l.length ∧ i = .int .i64 j ∧ Hid (∀ k, k < j → l[k]? ≠ some x)) (fun i => l.length - (intOf i).toNat)
  case atStart => exact ⟨0, Nat.zero_le _, rfl, Lib.hid fun k hk => by omega⟩
  case round =>
    obtain ⟨j, hj, rfl, HZ⟩ := hrel
    by_cases hlt : j < l.length
    · obtain ⟨y, hy⟩ := at_lt hlt
      obtain ⟨g, off, rfl, hg, hc⟩ := HA.out j y hy
      have HY := Lib.hid hy
      clear hy
      rcases e : (x == y) with _ | _
      · have HE := Lib.hid e
        go_wp2
        go_round
        case rel =>
          refine ⟨j + 1, by omega, by go_num, Lib.hid fun k hk => ?_⟩
          rcases Nat.lt_or_ge k j with q | q
          · exact HZ.out k q
          · obtain rfl : k = j := by omega
            rw [HY.out]
            intro e2
            have := HE.out
            cases e2
            simp at this
        case measure => simp [intOf]; omega
      · have HE : Hid (idxI l x = j) := Lib.hid (idxI_at (by rw [HY.out]; simp at e; rw [e]) HZ.out)
        go_wp2
        go_ret
        exact ⟨by rw [HE.out]; rfl, rfl⟩
    · obtain rfl : j = l.length := by omega
      have HE : Hid (idxI l x = -1) := Lib.hid (idxI_none HZ.out)
      go_wp2
      go_ret
      exact ⟨by rw [HE.out]; rfl, rfl⟩
theorem contains_u8 (a : Option Addr) (cap : Nat) (l : List Int) (x : Int) (w : World) (h : RowOf .u8 w w.heap.size a l) (hl : l.length ≤ 1000000) :
    Calls Tryz.prog 130 #[.slice a l.length cap, .int .u8 x] w fun e w' => e = .returned (.bool (l.contains x)) ∧ w = w' := by
  have HA := Lib.hid (index_u8 a cap l x w h hl)
  have HE := Lib.hid (idxI_has l x)
  clear h
  generalize l.contains x = b at *
  generalize idxI l x = k at *
  go_enter Tryz.func130, Tryz.ntmps130
  go_wp2_with (go_at_call 134; refine HA.out.mono ?_; rintro e w' ⟨rfl, rfl⟩)
  go_ret
  exact ⟨by rw [← HE.out]; rfl, rfl⟩
theorem touch_cell {Y : Nat → Prop} {w u : World} (h : Touch Y w u) {b i : Nat} {v : Value} (hb : ¬ Y b) (hc : w.cell? ⟨b, i, none⟩ = some v) : u.cell? ⟨b, i, none⟩ = some v := (World.cell?_of_block (a := ⟨b, i, none⟩) (h.block b (cell_lt hc) hb)).trans hc
theorem row_touch {Y : Nat → Prop} {w u : World} {k : IntKind} {a : Option Addr} {l : List Int} (hr : RowOf k w w.heap.size a l) (ha : l ≠ [] → ∀ c off, a = some ⟨c, off, none⟩ → ¬ Y c) (h : Touch Y w u) : RowOf k u u.heap.size a l := fun i x hx => by
  obtain ⟨c, off, h1, h2, h3⟩ := hr i x hx
  exact ⟨c, off, h1, Nat.lt_of_lt_of_le h2 h.size, touch_cell h (ha (by intro e; rw [e] at hx; cases hx) c off h1) h3⟩
theorem touch_new {Y : Nat → Prop} {w u : World} (h : Touch Y w u) (o : Obj) : Touch Y w (u.alloc o) := h.trans (Touch.of_below (X := Y) (below_box u o)) fun _ _ h => h
theorem touch_drew {Y : Nat → Prop} {w u : World} (h : Touch Y w u) (n : Nat) : Touch Y w (u.drewN n) := ⟨h.os, h.tape, h.output, h.size, h.block⟩
/-- What a side answers, whatever is done behind its making. -/
def SideV (Y : Nat → Prop) (w : World) (v : Value) (s : Sd) : Prop := ∃ fn cap, v = .func (.func fn) #[] cap ∧ (∀ args u, (callFunc fn args).run Tryz.prog u = .ok (.enter fn args) u) ∧ ∀ u, Touch Y w u → ∀ e : EvD, Calls Tryz.prog fn (#[e.v] ++ cap) u fun r u' => r = .returned (.tuple #[.int .i64 (s e).1, .bool (s e).2]) ∧ Below u.heap.size u u'
theorem SideV.touch {Y : Nat → Prop} {w w' : World} {v : Value} {s : Sd} (h : SideV Y w v s) (hT : Touch Y w w') : SideV Y w' v s := by
  obtain ⟨fn, cap, rfl, hc, h⟩ := h
  exact ⟨fn, cap, rfl, hc, fun u hu => h u (hT.trans hu fun _ _ h => h)⟩
theorem SideV.later {Y : Nat → Prop} {w w' : World} {v : Value} {s : Sd} (h : SideV Y w v s) (hB : Below w.heap.size w w') : SideV Y w' v s := h.touch (Touch.of_below hB)
theorem side_thread (Y : Nat → Prop) (w : World) : SideV Y w (.func (.func 107) #[] #[]) thS := by
  refine ⟨107, #[], rfl, cf_of Tryz.func107 (by kernel_rfl) (by kernel_rfl), fun u hu e => ?_⟩
  obtain ⟨th, pc, op, obj, val, mode⟩ := e
  show Calls Tryz.prog 107 #[evV th pc op obj val mode] u _
  go_enter Tryz.func107, Tryz.ntmps107
  go_wp2
  go_ret2
  exact ⟨rfl, below_box _ _⟩
theorem side_few (Y : Nat → Prop) (w : World) : SideV Y w (.func (.func 111) #[] #[]) fewS := by
  refine ⟨111, #[], rfl, cf_of Tryz.func111 (by kernel_rfl) (by kernel_rfl), fun u hu e => ?_⟩
  obtain ⟨th, pc, op, obj, val, mode⟩ := e
  show Calls Tryz.prog 111 #[evV th pc op obj val mode] u _
  rcases h : (op == 24) with _ | _
  · have HF : Hid (fewS ⟨th, pc, op, obj, val, mode⟩ = (obj, false)) := Lib.hid (by simp [fewS, h])
    go_enter Tryz.func111, Tryz.ntmps111
    go_wp2_with fail
    go_quiet (fail)
    go_wp2
    go_ret2
    exact ⟨by rw [HF.out]; rfl, below_draws (below_box _ _) _⟩
  · have HF : Hid (fewS ⟨th, pc, op, obj, val, mode⟩ = (obj, decide (val < 0))) := Lib.hid (by simp [fewS, h])
    go_enter Tryz.func111, Tryz.ntmps111
    go_wp2_with fail
    go_quiet (fail)
    go_wp2
    go_ret2
    exact ⟨by rw [HF.out]; rfl, below_draws (below_box _ _) _⟩
theorem side_ops {Y : Nat → Prop} {w : World} {g : Nat} {a : Option Addr} {cap : Nat} {l : List Int} (hYg : ¬ Y g) (hYa : l ≠ [] → ∀ c off, a = some ⟨c, off, none⟩ → ¬ Y c) (hg : w.cell? ⟨g, 0, none⟩ = some (.slice a l.length cap)) (hr : RowOf .u8 w w.heap.size a l) (hl : l.length ≤ 1000000) : SideV Y w (.func (.func 129) #[] #[.pointer (some ⟨g, 0, none⟩)]) (opsS l) := by
  refine ⟨129, _, rfl, cf_of Tryz.func129 (by kernel_rfl) (by kernel_rfl), fun u hu e => ?_⟩
  obtain ⟨th, pc, op, obj, val, mode⟩ := e
  show Calls Tryz.prog 129 #[evV th pc op obj val mode, .pointer (some ⟨g, 0, none⟩)] u _
  have hc : ∀ o, (u.alloc o).cell? ⟨g, 0, none⟩ = some (.slice a l.length cap) := fun o => touch_cell (touch_new hu o) hYg hg
  have HR := Lib.hid (fun o n => row_touch hr hYa (touch_drew (touch_new hu o) n))
  clear hg hr hYg hYa
  go_enter Tryz.func129, Tryz.ntmps129
  go_wp2_with fail
  go_quiet ((go_at_call 130; exact quiet_eq (contains_u8 a cap l op _ (HR.out _ _) hl)))
  go_wp2
  go_ret2
  exact ⟨rfl, below_draws (below_box _ _) _⟩
theorem side_mode {Y : Nat → Prop} {w : World} {g gm : Nat} {v : Value} {m : Int} {l : List Int} (hYg : ¬ Y g) (hYm : ¬ Y gm) (hg : w.cell? ⟨g, 0, none⟩ = some v) (hm : w.cell? ⟨gm, 0, none⟩ = some (.int .i64 m)) (hs : SideV Y w v (opsS l)) : SideV Y w (.func (.func 128) #[] #[.pointer (some ⟨g, 0, none⟩), .pointer (some ⟨gm, 0, none⟩)]) (modeS m l) := by
  obtain ⟨fn, cap, rfl, hcf, hs⟩ := hs
  refine ⟨128, _, rfl, cf_of Tryz.func128 (by kernel_rfl) (by kernel_rfl), fun u hu e => ?_⟩
  obtain ⟨th, pc, op, obj, val, mode⟩ := e
  show Calls Tryz.prog 128 #[evV th pc op obj val mode, .pointer (some ⟨g, 0, none⟩), .pointer (some ⟨gm, 0, none⟩)] u _
  have hc : ∀ o, (u.alloc o).cell? ⟨g, 0, none⟩ = some (.func (.func fn) #[] cap) := fun o => touch_cell (touch_new hu o) hYg hg
  have HM := Lib.hid (fun u' (h : Touch Y w u') => touch_cell h hYm hm)
  have HS := Lib.hid (fun o => hs _ (touch_new hu o) ⟨th, pc, op, obj, val, mode⟩)
  have HB := Lib.hid (fun o => touch_new hu o)
  clear hg hm hs hYg hYm
  rcases hcon : l.contains op with _ | _
  · have HF : Hid (modeS m l ⟨th, pc, op, obj, val, mode⟩ = (obj, false)) := Lib.hid (by simp only [modeS, hcon, Bool.false_and])
    have HO : Hid (opsS l ⟨th, pc, op, obj, val, mode⟩ = (obj, false)) := Lib.hid (by simp only [opsS, hcon])
    clear hcon
    go_enter Tryz.func128, Tryz.ntmps128
    go_wp2_with (refine (HS.out _).mono ?_; rintro e w1 ⟨rfl, hB1⟩; rw [HO.out]; have HB1 := Lib.hid hB1; clear hB1)
    go_quiet (fail)
    go_wp2
    go_ret2
    exact ⟨by rw [HF.out]; rfl, below_draws (below_next (below_box _ _) HB1.out) _⟩
  · have HF : Hid (modeS m l ⟨th, pc, op, obj, val, mode⟩ = (obj, mode == m)) := Lib.hid (by simp only [modeS, hcon, Bool.true_and])
    have HO : Hid (opsS l ⟨th, pc, op, obj, val, mode⟩ = (obj, true)) := Lib.hid (by simp only [opsS, hcon])
    clear hcon
    go_enter Tryz.func128, Tryz.ntmps128
    go_wp2_with (refine (HS.out _).mono ?_; rintro e w1 ⟨rfl, hB1⟩; rw [HO.out]; have hm1 := HM.out w1 ((HB.out _).trans (Touch.of_below (X := Y) hB1) fun _ _ h => h); have hN := (hB1.block _ (by simp)).trans (heap_alloc_new u _); obtain ⟨c0, c1, c2, c3, c4, c5⟩ := cells6 hN; clear hN; have HB1 := Lib.hid hB1; clear hB1)
    go_quiet (fail)
    go_wp2
    go_ret2
    exact ⟨by rw [HF.out]; rfl, below_draws (below_next (below_box _ _) HB1.out) _⟩
/-- What a choice answers. -/
def WhV (Y : Nat → Prop) (w : World) (v : Value) : Option Wh → Prop
  | none => v = .nilFunc
  | some f => ∃ fn cap, v = .func (.func fn) #[] cap ∧ (∀ args u, (callFunc fn args).run Tryz.prog u = .ok (.enter fn args) u) ∧ ∀ u, Touch Y w u → ∀ (x : Int) (a b : Nat), a ≤ 1000000 → b ≤ 1000000 → Calls Tryz.prog fn (#[.int .i64 x, .int .i64 a, .int .i64 b] ++ cap) u fun r u' => r = .returned (.tuple #[.int .i64 (f x a b).1, .int .i64 (f x a b).2]) ∧ Below u.heap.size u u'
theorem WhV.touch {Y : Nat → Prop} {w w' : World} {v : Value} {o : Option Wh} (h : WhV Y w v o) (hT : Touch Y w w') : WhV Y w' v o := by
  cases o with
  | none => exact h
  | some f =>
    obtain ⟨fn, cap, rfl, hc, h⟩ := h
    exact ⟨fn, cap, rfl, hc, fun u hu => h u (hT.trans hu fun _ _ h => h)⟩
theorem WhV.later {Y : Nat → Prop} {w w' : World} {v : Value} {o : Option Wh} (h : WhV Y w v o) (hB : Below w.heap.size w w') : WhV Y w' v o := h.touch (Touch.of_below hB)
def RoomV (Y : Nat → Prop) (w : World) (v : Value) (f : Int → Int) : Prop := ∃ fn cap, v = .func (.func fn) #[] cap ∧ (∀ args u, (callFunc fn args).run Tryz.prog u = .ok (.enter fn args) u) ∧ (∀ x, -9223372036854775808 ≤ f x ∧ f x ≤ 9223372036854775807) ∧ ∀ u, Touch Y w u → ∀ x : Int, Calls Tryz.prog fn (#[.int .i64 x] ++ cap) u fun r u' => r = .returned (.int .i64 (f x)) ∧ Below u.heap.size u u'
theorem wh_last (Y : Nat → Prop) (w : World) : WhV Y w (.func (.func 113) #[] #[]) (some lastW) := by
  refine ⟨113, #[], rfl, cf_of Tryz.func113 (by kernel_rfl) (by kernel_rfl), fun u hu x a b ha hb => ?_⟩
  show Calls Tryz.prog 113 #[.int .i64 x, .int .i64 a, .int .i64 b] u _
  go_enter Tryz.func113, Tryz.ntmps113
  go_wp2_with fail
  all_goals
    go_wp2
    go_ret2
    exact ⟨by simp [lastW]; omega, Below.refl _ _⟩
theorem room_none (Y : Nat → Prop) (w : World) : RoomV Y w (.func (.func 109) #[] #[]) noRoom := by
  refine ⟨109, #[], rfl, cf_of Tryz.func109 (by kernel_rfl) (by kernel_rfl), fun x => by simp [noRoom], fun u hu x => ?_⟩
  show Calls Tryz.prog 109 #[.int .i64 x] u _
  go_enter Tryz.func109, Tryz.ntmps109
  go_wp2
  go_ret
  exact ⟨rfl, Below.refl _ _⟩
theorem room_chans {Y : Nat → Prop} {w : World} {g : Nat} {ca : Option Addr} {ccap : Nat} {chans : List Int} (hYg : ¬ Y g) (hYa : chans ≠ [] → ∀ c off, ca = some ⟨c, off, none⟩ → ¬ Y c) (hg : w.cell? ⟨g, 3, none⟩ = some (.slice ca chans.length ccap)) (hr : RowOf .i64 w w.heap.size ca chans) (hl : chans.length ≤ 1000000) (hx : ∀ c ∈ chans, -9223372036854775808 ≤ c ∧ c ≤ 9223372036854775807) : RoomV Y w (.func (.func 110) #[] #[.pointer (some ⟨g, 0, none⟩)]) (roomL chans) := by
  refine ⟨110, _, rfl, cf_of Tryz.func110 (by kernel_rfl) (by kernel_rfl), fun x => ?_, fun u hu x => ?_⟩
  · unfold roomL
    split
    · omega
    · rename_i h
      obtain ⟨c, hc⟩ := at_lt (l := chans) (k := x.toNat) (by omega)
      rw [hc]
      exact hx c (List.mem_of_getElem? hc)
  show Calls Tryz.prog 110 #[.int .i64 x, .pointer (some ⟨g, 0, none⟩)] u _
  have hc := touch_cell hu hYg hg
  have HR := Lib.hid (row_touch hr hYa hu)
  clear hg hr hx hYg hYa
  by_cases h0 : x < 0
  · have h0' : decide (x < 0) = true := decide_eq_true h0
    have HF : Hid (roomL chans x = 0) := Lib.hid (by unfold roomL; rw [if_pos (.inl h0)])
    go_enter Tryz.func110, Tryz.ntmps110
    go_wp2
    go_ret
    exact ⟨by rw [HF.out]; rfl, Below.refl _ _⟩
  · have h0' : decide (x < 0) = false := decide_eq_false h0
    by_cases h1 : (chans.length : Int) ≤ x
    · have h1' : decide ((chans.length : Int) ≤ x) = true := decide_eq_true h1
      have HF : Hid (roomL chans x = 0) := Lib.hid (by unfold roomL; rw [if_pos (.inr h1)])
      go_enter Tryz.func110, Tryz.ntmps110
      go_wp2
      go_ret
      exact ⟨by rw [HF.out]; rfl, Below.refl _ _⟩
    · have h1' : decide ((chans.length : Int) ≤ x) = false := decide_eq_false h1
      obtain ⟨k, rfl⟩ : ∃ k : Nat, x = k := ⟨x.toNat, by omega⟩
      obtain ⟨y, hy⟩ := at_lt (l := chans) (k := k) (by omega)
      have hk : k < chans.length := by omega
      have hk' : (k : Int) < chans.length := by omega
      have HF : Hid (roomL chans k = y) := Lib.hid (by unfold roomL; rw [if_neg (by omega), Int.toNat_natCast, hy]; rfl)
      obtain ⟨gc, off, rfl, hgc, hcc⟩ := HR.out k y hy
      clear hy h1 h0
      go_enter Tryz.func110, Tryz.ntmps110
      go_wp2
      go_ret
      exact ⟨by rw [HF.out]; rfl, Below.refl _ _⟩
theorem wh_pair {Y : Nat → Prop} {w : World} {g : Nat} {v : Value} {room : Int → Int} (hYg : ¬ Y g) (hg : w.cell? ⟨g, 0, none⟩ = some v) (hs : RoomV Y w v room) : WhV Y w (.func (.func 131) #[] #[.pointer (some ⟨g, 0, none⟩)]) (some (pairW room)) := by
  obtain ⟨fn, cap, rfl, hcf, hrg, hs⟩ := hs
  refine ⟨131, _, rfl, cf_of Tryz.func131 (by kernel_rfl) (by kernel_rfl), fun u hu x a b ha hb => ?_⟩
  show Calls Tryz.prog 131 #[.int .i64 x, .int .i64 a, .int .i64 b, .pointer (some ⟨g, 0, none⟩)] u _
  have hc := touch_cell hu hYg hg
  have HS := Lib.hid (hs u hu x)
  obtain ⟨r1, r2⟩ := hrg x
  clear hg hs hrg hYg
  by_cases hw : (b : Int) - room x ≤ 9223372036854775807
  · have ew : IntKind.i64.wrap ((b : Int) - room x) = (b : Int) - room x := IntWalk.i64_in _ ⟨by omega, by omega⟩
    generalize hr : room x = r at *
    have HRr := Lib.hid hr
    clear hr
    by_cases h0 : (b : Int) - r < 0
    · have h0' : decide ((b : Int) - r < 0) = true := decide_eq_true h0
      have HF : Hid (pairW room x a b = (0, 0)) := Lib.hid (by unfold pairW; rw [HRr.out, if_pos (.inl h0)])
      go_enter Tryz.func131, Tryz.ntmps131
      go_wp2_with (refine HS.out.mono ?_; rintro e w1 ⟨rfl, hB1⟩)
      go_ret2
      exact ⟨by rw [HF.out]; rfl, hB1⟩
    · have h0' : decide ((b : Int) - r < 0) = false := decide_eq_false h0
      by_cases h1 : (a : Int) ≤ (b : Int) - r
      · have h1' : decide ((a : Int) ≤ (b : Int) - r) = true := decide_eq_true h1
        have HF : Hid (pairW room x a b = (0, 0)) := Lib.hid (by unfold pairW; rw [HRr.out, if_pos (.inr h1)])
        go_enter Tryz.func131, Tryz.ntmps131
        go_wp2_with (refine HS.out.mono ?_; rintro e w1 ⟨rfl, hB1⟩)
        go_ret2
        exact ⟨by rw [HF.out]; rfl, hB1⟩
      · have h1' : decide ((a : Int) ≤ (b : Int) - r) = false := decide_eq_false h1
        have HF : Hid (pairW room x a b = ((b : Int) - r, (b : Int) - r + 1)) := Lib.hid (by unfold pairW; rw [HRr.out, if_neg (by omega)])
        have h2 : (b : Int) - r ≤ 1000000 := by omega
        have h3 : 0 ≤ (b : Int) - r := by omega
        go_enter Tryz.func131, Tryz.ntmps131
        go_wp2_with (refine HS.out.mono ?_; rintro e w1 ⟨rfl, hB1⟩)
        go_ret2
        exact ⟨by rw [HF.out]; rfl, hB1⟩
  · have ew : IntKind.i64.wrap ((b : Int) - room x) = (b : Int) - room x - 18446744073709551616 := by rw [IntKind.wrap_i64]; omega
    have HF : Hid (pairW room x a b = (0, 0)) := Lib.hid (by unfold pairW; rw [if_pos (.inr (by omega))])
    have h0' : decide ((b : Int) - room x - 18446744073709551616 < 0) = true := decide_eq_true (by omega)
    go_enter Tryz.func131, Tryz.ntmps131
    go_wp2_with (refine HS.out.mono ?_; rintro e w1 ⟨rfl, hB1⟩)
    go_ret2
    exact ⟨by rw [HF.out]; rfl, hB1⟩
end Go.Proofs.YtglafbajbiengaaGreat
