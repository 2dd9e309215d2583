/- The loop over a trace's races: a range over race's iterator, which makes maps of its own. -/
import Derived.Test.YtgikoajclkfoiaaRaceIter
import Derived.RangeFuncWrites
namespace Go.Proofs.Ytgikoajclkfoiaa
set_option linter.unusedVariables false
set_option linter.unusedSimpArgs false
set_option maxRecDepth 100000
open Go.ChangeShapes Go.WideShapes Go.ChangeAt Go.RowKit Go.Maps Go.Shelf
attribute [local go_sem] Oper.semAt_some

/-- Whatever is done to what is no cells, from B on, changes nothing of it. -/
def StabO (B : Nat) (J : List (Int × Int) → World → Prop) : Prop := ∀ s A A', J s A → Touch (fun g => B ≤ g ∧ ∃ o, A.heap[g]? = some o ∧ o.isCells = false) A A' → J s A'
theorem StabO.putObj {B : Nat} {J : List (Int × Int) → World → Prop} (h : StabO B J) {s : List (Int × Int)} {W : World} {l : Nat} {o : Obj} (o' : Obj) (hs : J s W) (hB : B ≤ l) (hl : W.heap[l]? = some o) (ho : o.isCells = false) : J s (W.putObj l o') :=
  h s W _ hs ⟨rfl, rfl, rfl, by simp, fun k hk hx => World.putObj_heap_other (fun e => hx (by subst e; exact ⟨hB, o, hl, ho⟩))⟩
theorem StabO.below {B : Nat} {J : List (Int × Int) → World → Prop} (h : StabO B J) {s : List (Int × Int)} {W W' : World} (hs : J s W) (hB : Below W.heap.size W W') : J s W' := h s W W' hs (Touch.of_below hB)
theorem kp_loop {B : Nat} {W : World} {l : Nat} {L : Loop} (o' : Obj) (hB : B ≤ l) (hl : W.heap[l]? = some (.loop L)) : KpR B W (W.putObj l o') :=
  ⟨by simp, fun g o hg ho => (World.putObj_heap_other (by omega)).trans ho, fun g es c hm => (World.putObj_heap_other (fun e => by subst e; rw [hl] at hm; cases hm)).trans hm, fun g cs t fr hc _ _ => (World.putObj_heap_other (fun e => by subst e; rw [hl] at hc; cases hc)).trans hc⟩
set_option maxHeartbeats 1000000 in
theorem rangeRaces {g : Operand} {t1 : Tmp} {assign body : Code} {Q : Exit → Act → World → Prop} {act : Act} {w : World} (n : Nat) (h2 : 2 ≤ n) (bt bp B0 : Nat) (v0 v1 v2 : Value) (ca : Option Addr) (cc : Nat) (chans : List Int) (v4 v5 v6 : Value) (a : Option Addr) (cap : Nat) (t : List EvD)
    (hg : act.eval g = .func (.func 22) #[] #[.pointer (some ⟨bt, 0, none⟩), .pointer (some ⟨bp, 0, none⟩)])
    (hT : w.heap[bt]? = some (.cells #[.slice a t.length cap] 24)) (hP : w.heap[bp]? = some (.cells #[v0, v1, v2, .slice ca chans.length cc, v4, v5, v6] 32))
    (he : EvsIn w B0 a t) (hw : ∀ e ∈ t, Wf e.th ∧ Wf e.obj) (hc : ChB w B0 ca chans) (hl : t.length ≤ 1000000) (hB0 : B0 ≤ w.heap.size)
    (I : List (Int × Int) → World → Prop) (Ix : Code → List (Int × Int) → World → Prop) (hI : StabO w.heap.size I) (hIx : ∀ c, StabO w.heap.size (Ix c)) (h0 : I [] w) (fA : Int × Int → World → World) (hfA : ∀ x W, Below W.heap.size W (fA x W)) (a₁ : Int × Int → World → Act)
    (hassign : ∀ (l : Nat) (x : Int × Int) (W : World) (K : Act → World → Prop), K (a₁ x W) (fA x W) → assign.wpIn (Fence.wide.inRound l) (n - 1 - 1) Try.prog (Exit.then K (fun _ _ _ => False)) { tmps := (#[t1].zip #[raceV x]).foldl (fun t (p, v) => t.setIfInBounds p v) act.tmps, defers := [] } W)
    (hbody : ∀ (l : Nat) (pre : List (Int × Int)) (x : Int × Int) (W0 W : World), I pre W → w.heap.size ≤ W0.heap.size → pre ++ [x] <+: racesL chans t → W.heap.size = (fA x W0).heap.size → (∀ (g : Nat) (cs : Array Value) (t : TypeId) (fr : Nat × Nat), (fA x W0).heap[g]? = some (Obj.cells cs t fr) → W.heap[g]? = some (Obj.cells cs t fr)) → body.wpIn (Fence.wide.inRound l) (n - 1 - 1) Try.prog (ownPostK (KpR B0) I Ix (pre ++ [x]) W) (a₁ x W0) W)
    (hdone : ∀ (D : Nat) (W : World), w.heap.size ≤ D → I (racesL chans t) W → W.heap[D]? = some (.deferred (some [])) → Q .normal { act with defers := { target := .collected D, args := #[] } :: act.defers } W)
    (hstop : ∀ (D : Nat) (c : Code) (pre : List (Int × Int)) (W : World), w.heap.size ≤ D → pre ≠ [] → pre <+: racesL chans t → Ix c pre W → W.heap[D]? = some (.deferred (some [])) → c.wpIn Fence.wide n Try.prog Q { act with defers := { target := .collected D, args := #[] } :: act.defers } W) :
    (Code.rangeFunc g #[t1] assign body).wpIn Fence.wide n Try.prog Q act w := by
  refine wpIn_rangeFunc ?_
  intro fn hfn
  obtain ⟨rec, hrec⟩ : ∃ rec : LoopState → Option Code → Loop, rec = fun st pe => { state := st, pending := pe, fn, tmps := act.tmps, params := #[t1], assign, body, defers := w.heap.size } := ⟨_, rfl⟩
  obtain ⟨W1, hW1⟩ : ∃ W1, (w.alloc (.deferred (some []))).alloc (.loop (rec .ready none)) = W1 := ⟨_, rfl⟩
  have hL1 : W1.heap[w.heap.size + 1]? = some (.loop (rec .ready none)) := by rw [← hW1]; exact heap_alloc2_new _ _ _
  have hK1 : W1.heap[w.heap.size]? = some (.deferred (some [])) := by rw [← hW1]; exact old_alloc (heap_alloc_new _ _) _
  have hb1 : Below w.heap.size w W1 := by rw [← hW1]; exact below_two _ _ _
  have hs1 : W1.heap.size = w.heap.size + 2 := by rw [← hW1]; simp
  have hI1 : I [] W1 := hI.below h0 hb1
  have hx : ∀ {A : World} {g : Nat}, W1.heap.size ≤ g → (∃ es c, A.heap[g]? = some (Obj.map es c)) → w.heap.size ≤ g ∧ ∃ o, A.heap[g]? = some o ∧ o.isCells = false := fun {A g} h1 h2 => by
    obtain ⟨es, c, hm⟩ := h2
    exact ⟨by omega, _, hm, rfl⟩
  have hkeep : ∀ {A A' : World} {k : Nat} {o : Obj}, k < w.heap.size + 2 → A.heap[k]? = some o → Touch (fun g => W1.heap.size ≤ g ∧ ∃ es c, A.heap[g]? = some (Obj.map es c)) A A' → A'.heap[k]? = some o := fun {A A' k o} hk ho T =>
    (T.block k (Array.getElem?_eq_some_iff.1 ho).1 (fun hq => by have := hq.1; omega)).trans ho
  refine ⟨w.heap.size + 1, [{ target := .collected w.heap.size, args := #[] }], W1, { target := .fn (.func 22) #[.pointer (some ⟨bt, 0, none⟩), .pointer (some ⟨bp, 0, none⟩)], args := #[.func (.yield (w.heap.size + 1)) #[] #[]] }, W1, 22,
    #[.func (.yield (w.heap.size + 1)) #[] #[]] ++ #[.pointer (some ⟨bt, 0, none⟩), .pointer (some ⟨bp, 0, none⟩)], W1, ?_, ?_, ?_, ?_, fun _ => by omega, ?_⟩
  · rw [← hW1, hrec]; exact run_enterLoop_outer _ _ _ _ _
  · simp only [resolve, hg]
    simp [go_sem]
  · intro f' hf'; trivial
  · simp [invoke, go_sem, (enters_of Try.func22 (by kernel_rfl) rfl)]
  · have hlow : LowSame B0 w W1 := low_below hb1
    refine (races1_in (n - 1) (by omega) (w.heap.size + 1) bt bp B0 v0 v1 v2 ca cc chans v4 v5 v6 a cap t
      (fun pre W => I pre W ∧ W.heap[w.heap.size + 1]? = some (.loop (rec .ready none)) ∧ W.heap[w.heap.size]? = some (.deferred (some [])))
      (fun pre W => ∃ c, Ix c pre W ∧ W.heap[w.heap.size + 1]? = some (.loop (rec .done (some c))) ∧ W.heap[w.heap.size]? = some (.deferred (some [])))
      W1 (fun s A A' hs T => ⟨hI s A A' hs.1 (T.mono fun g _ hq => hx hq.1 hq.2), hkeep (by omega) hs.2.1 T, hkeep (by omega) hs.2.2 T⟩)
      ?_ (old_later hT hb1) (old_later hP hb1) (he.low hlow) hw (hc.low hlow) hl (by omega) ⟨hI1, hL1, hK1⟩).mono ?_
    · rintro pre x W ⟨hi, hlo, hk⟩ hsz hpx
      have hy0 := run_yield (P := Try.prog) (args := #[raceV x]) hlo (by rw [hrec]; rfl)
      have hkp0 : KpR B0 W (fA x W) := ⟨(hfA x W).size, fun g o _ ho => old_later ho (hfA x W), fun g es c hm => old_later hm (hfA x W), fun g cs t fr hc _ _ => old_later hc (hfA x W)⟩
      have hsz0 : w.heap.size ≤ W.heap.size := by omega
      have hi := hI.below hi (hfA x W)
      have hlo := old_later hlo (hfA x W)
      have hk := old_later hk (hfA x W)
      have hasg := hassign (w.heap.size + 1) x W
      have hbd := fun (W2 : World) => hbody (w.heap.size + 1) pre x W W2
      obtain ⟨a1, ha1⟩ : ∃ a1, a₁ x W = a1 := ⟨_, rfl⟩
      rw [ha1] at hasg hbd
      rw [hrec] at hy0
      refine ⟨fn, _, assign, body, hy0, roundIn_of_wpIn hfn (hasg _ ?_)⟩
      generalize fA x W = Wa at *
      have hlt : w.heap.size + 1 < Wa.heap.size := (Array.getElem?_eq_some_iff.1 hlo).1
      refine ⟨_, run_beginRound hlo (by rw [hrec]), ?_⟩
      have hl2 : (Wa.putObj (w.heap.size + 1) (.loop { rec .ready none with state := .busy })).heap[w.heap.size + 1]? = some (.loop { rec .ready none with state := .busy }) := World.putObj_heap_same hlt
      have hk2 : (Wa.putObj (w.heap.size + 1) (.loop { rec .ready none with state := .busy })).heap[w.heap.size]? = some (.deferred (some [])) := (World.putObj_heap_other (by omega)).trans hk
      have hw2 := kp_loop (B := B0) (.loop { rec .ready none with state := .busy }) (by omega) hlo
      refine wpIn_mono (hbd _ (hI.putObj _ hi (by omega) hlo rfl) hsz0 hpx (by simp) (fun g cs t fr hc => (World.putObj_heap_other (fun e => by subst e; rw [hlo] at hc; cases hc)).trans hc)) ?_
      have fin : ∀ (jump : Option Code) (W3 : World), KeepsOthers (Wa.putObj (w.heap.size + 1) (.loop { rec .ready none with state := .busy })) W3 →
          (Instr.endRound (w.heap.size + 1) jump).run Try.prog W3 = .ok (.bool jump.isNone) (W3.putObj (w.heap.size + 1) (.loop (rec (if jump.isNone then .ready else .done) jump))) ∧
          W3.heap[w.heap.size + 1]? = some (.loop { rec .ready none with state := .busy }) ∧
          (W3.putObj (w.heap.size + 1) (.loop (rec (if jump.isNone then .ready else .done) jump))).heap[w.heap.size + 1]? = some (.loop (rec (if jump.isNone then .ready else .done) jump)) ∧
          (W3.putObj (w.heap.size + 1) (.loop (rec (if jump.isNone then .ready else .done) jump))).heap[w.heap.size]? = some (.deferred (some [])) := fun jump W3 hk3 => by
        have hl3 := hk3.same _ _ hl2 rfl
        have h9 := run_endRound (P := Try.prog) jump hl3
        rw [hrec] at h9 ⊢
        exact ⟨h9, by rw [hrec] at hl3; exact hl3, World.putObj_heap_same (Array.getElem?_eq_some_iff.1 hl3).1, (World.putObj_heap_other (by omega)).trans (hk3.same _ _ hk2 rfl)⟩
      rintro e a3 W3 hp
      cases e with
      | normal =>
        obtain ⟨hk3, hkp3, hi3⟩ := hp
        obtain ⟨hr, hl3, hl4, hk4⟩ := fin none W3 hk3
        exact ⟨_, _, hr, .inl ⟨rfl, ⟨hI.putObj _ hi3 (by omega) hl3 rfl, hl4, hk4⟩, ((hkp0.trans hw2).trans hkp3).trans (kp_loop _ (by omega) hl3)⟩⟩
      | ret =>
        obtain ⟨hk3, hi3⟩ := hp
        obtain ⟨hr, hl3, hl4, hk4⟩ := fin (some .ret) W3 hk3
        exact ⟨_, _, hr, .inr ⟨rfl, .ret, (hIx _).putObj _ hi3 (by omega) hl3 rfl, hl4, hk4⟩⟩
      | exit id =>
        obtain ⟨hk3, hi3⟩ := hp
        obtain ⟨hr, hl3, hl4, hk4⟩ := fin (some (.exit id)) W3 hk3
        exact ⟨_, _, hr, .inr ⟨rfl, .exit id, (hIx _).putObj _ hi3 (by omega) hl3 rfl, hl4, hk4⟩⟩
      | goto t =>
        obtain ⟨hk3, hi3⟩ := hp
        obtain ⟨hr, hl3, hl4, hk4⟩ := fin (some (.goto t)) W3 hk3
        exact ⟨_, _, hr, .inr ⟨rfl, .goto t, (hIx _).putObj _ hi3 (by omega) hl3 rfl, hl4, hk4⟩⟩
      | panic ch => exact hp.elim
      | outgrown => exact hp.elim
    · rintro e W2 ⟨⟨v, rfl⟩, (⟨xs, rfl, hi, hlo, hk⟩ | ⟨pre, hne, hpre, c, hi, hlo, hk⟩)⟩
      · exact ⟨none, _, by have h9 := run_endLoop (P := Try.prog) hlo (by rw [hrec]; simp); rw [hrec] at h9; exact h9, hdone _ _ (Nat.le_refl _) (hI.putObj _ hi (by omega) hlo rfl) ((World.putObj_heap_other (by omega)).trans hk)⟩
      · exact ⟨some c, _, by have h9 := run_endLoop (P := Try.prog) hlo (by rw [hrec]; simp); rw [hrec] at h9; exact h9, hstop _ c pre _ (Nat.le_refl _) hne hpre ((hIx c).putObj _ hi (by omega) hlo rfl) ((World.putObj_heap_other (by omega)).trans hk)⟩
end Go.Proofs.Ytgikoajclkfoiaa
