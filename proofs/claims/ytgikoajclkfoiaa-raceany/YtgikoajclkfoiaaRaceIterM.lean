/- Race's iterator: what its rounds keep. -/
import Derived.Test.YtgikoajclkfoiaaRaceNew
import Derived.RangeFuncBox
import Derived.RangeFuncNested
import Derived.RangeFuncLeaves
import Derived.Shelf.Abstract
import Derived.OwnWalkIn
import Derived.TacticsInMore
import Derived.LoopNIn
import Derived.LoopIn
import Derived.Maps.AppendAt
namespace Go.Proofs.Ytgikoajclkfoiaa
set_option linter.unusedVariables false
set_option linter.unusedSimpArgs false
set_option maxRecDepth 100000
open Go.ChangeShapes Go.WideShapes Go.ChangeAt Go.RowKit Go.Maps Go.Shelf

def raceT : TypeId := 43
def racesT : TypeId := 37
/-- What a round of the caller keeps: all of below B, all maps, all cells but races and lists of them. -/
structure KpR (B : Nat) (W W' : World) : Prop where
  size : W.heap.size ≤ W'.heap.size
  low : ∀ (g : Nat) (o : Obj), g < B → W.heap[g]? = some o → W'.heap[g]? = some o
  map : ∀ (g : Nat) (es : Array MapEntry) (c : Nat), W.heap[g]? = some (Obj.map es c) → W'.heap[g]? = some (Obj.map es c)
  cells : ∀ (g : Nat) (cs : Array Value) (t : TypeId) (fr : Nat × Nat), W.heap[g]? = some (Obj.cells cs t fr) → t ≠ raceT → t ≠ racesT → W'.heap[g]? = some (Obj.cells cs t fr)
theorem KpR.refl (B : Nat) (W : World) : KpR B W W := ⟨Nat.le_refl _, fun _ _ _ h => h, fun _ _ _ h => h, fun _ _ _ _ h _ _ => h⟩
theorem KpR.trans {B : Nat} {X Y Z : World} (h : KpR B X Y) (k : KpR B Y Z) : KpR B X Z :=
  ⟨Nat.le_trans h.size k.size, fun g o hg ho => k.low g o hg (h.low g o hg ho), fun g es c hm => k.map g es c (h.map g es c hm), fun g cs t fr hc h1 h2 => k.cells g cs t fr (h.cells g cs t fr hc h1 h2) h1 h2⟩
/-- Whatever is done to maps from B on changes nothing of it. -/
def StabM (B : Nat) (J : List (Int × Int) → World → Prop) : Prop := ∀ s A A', J s A → Touch (fun g => B ≤ g ∧ ∃ es c, A.heap[g]? = some (Obj.map es c)) A A' → J s A'
def LowSame (B : Nat) (u u' : World) : Prop := ∀ (g : Nat) (o : Obj), g < B → u.heap[g]? = some o → u'.heap[g]? = some o
theorem cell_same {u u' : World} {g o : Nat} {v : Value} (h : u.cell? ⟨g, o, none⟩ = some v) (hs : ∀ x, u.heap[g]? = some x → u'.heap[g]? = some x) : u'.cell? ⟨g, o, none⟩ = some v := by
  obtain ⟨cs, t, fr, hc⟩ := cell_block h
  have h' := hs _ hc
  unfold World.cell? at h ⊢
  simp only [hc, h'] at h ⊢
  exact h
theorem EvAt.same {u u' : World} {g o : Nat} {x : EvD} (h : EvAt u g o x) (hs : ∀ x, u.heap[g]? = some x → u'.heap[g]? = some x) : EvAt u' g o x :=
  ⟨cell_same h.1 hs, cell_same h.2.1 hs, cell_same h.2.2.1 hs, cell_same h.2.2.2.1 hs, cell_same h.2.2.2.2.1 hs, cell_same h.2.2.2.2.2 hs⟩
theorem EvsIn.low {u u' : World} {B : Nat} {a : Option Addr} {t : List EvD} (h : EvsIn u B a t) (hl : LowSame B u u') : EvsIn u' B a t := fun k e hk => by
  obtain ⟨g, o, h1, h2, h3⟩ := h k e hk
  exact ⟨g, o, h1, h2, h3.same fun x hx => hl g x h2 hx⟩
theorem EvsIn.wide {u : World} {B : Nat} {a : Option Addr} {t : List EvD} (h : EvsIn u B a t) (hB : B ≤ u.heap.size) : EvsIn u u.heap.size a t := fun k e hk => by
  obtain ⟨g, o, h1, h2, h3⟩ := h k e hk
  exact ⟨g, o, h1, Nat.lt_of_lt_of_le h2 hB, h3⟩
theorem row_low {u u' : World} {B : Nat} {a : Option Addr} {l : List Int} (h : RowOf .i64 u B a l) (hl : LowSame B u u') : RowOf .i64 u' B a l := fun i x hx => by
  obtain ⟨c, off, h1, h2, h3⟩ := h i x hx
  exact ⟨c, off, h1, h2, cell_same h3 fun o ho => hl c o h2 ho⟩
/-- The channels' rooms, below B. -/
structure ChB (u : World) (B : Nat) (ca : Option Addr) (chans : List Int) : Prop where
  row : RowOf .i64 u B ca chans
  len : chans.length ≤ 1000000
  wf : ∀ c ∈ chans, -9223372036854775808 ≤ c ∧ c ≤ 9223372036854775807
theorem ChB.low {u u' : World} {B : Nat} {ca : Option Addr} {chans : List Int} (h : ChB u B ca chans) (hl : LowSame B u u') : ChB u' B ca chans := ⟨row_low h.row hl, h.len, h.wf⟩
theorem ChB.chIn {u : World} {B : Nat} {ca : Option Addr} {chans : List Int} (h : ChB u B ca chans) (hB : B ≤ u.heap.size) : ChIn u ca chans := ⟨h.row.wide hB, h.len, h.wf⟩
theorem low_below {B : Nat} {u u' : World} (hB : Below u.heap.size u u') : LowSame B u u' := fun g o _ ho => old_later ho hB
theorem low_touch {X : Nat → Prop} {B Bs : Nat} {u u' : World} (T : Touch X u u') (hX : ∀ g, X g → Bs ≤ g) (hB : B ≤ Bs) : LowSame B u u' := fun g o hg ho =>
  (T.block g (Array.getElem?_eq_some_iff.1 ho).1 fun hx => by have := hX g hx; omega).trans ho
theorem RowI.same {u u' : World} {a : Option Addr} {l : List Int} (h : RowI u a l) (hc : ∀ (g : Nat) (cs : Array Value) (t : TypeId) (fr : Nat × Nat), u.heap[g]? = some (Obj.cells cs t fr) → t ≠ raceT → t ≠ racesT → u'.heap[g]? = some (Obj.cells cs t fr)) : RowI u' a l := fun i x hx => by
  obtain ⟨c, off, cs, fr, h1, h2, h3⟩ := h i x hx
  exact ⟨c, off, cs, fr, h1, hc _ _ _ _ h2 (by decide) (by decide), h3⟩
section
variable {base gk gc gs gt : Nat} {ca : Option Addr} {cc : Nat} {chans : List Int} {n : Nat} {k : KnS} {u u' : World}
theorem KnIn.same (h : KnIn base gk gc gs gt ca cc chans n k u) (hc : ∀ (g : Nat) (cs : Array Value) (t : TypeId) (fr : Nat × Nat), u.heap[g]? = some (Obj.cells cs t fr) → t ≠ raceT → t ≠ racesT → u'.heap[g]? = some (Obj.cells cs t fr)) (hm : ∀ (g : Nat) (es : Array MapEntry) (c : Nat), KnX gc gs gt g → u.heap[g]? = some (Obj.map es c) → u'.heap[g]? = some (Obj.map es c)) (hch : ChIn u' ca chans) : KnIn base gk gc gs gt ca cc chans n k u' := by
  refine ⟨hc _ _ _ _ h.box (by decide) (by decide), hch, ?_, ?_, ?_, h.cs, h.ct, h.st, h.bk⟩
  · obtain ⟨D, ⟨es, cl, hb, F, hs, hD⟩, h2, h3⟩ := h.cl
    refine ⟨D, ⟨es, cl, hm _ _ _ (.inl rfl) hb, F, hs, hD⟩, h2, fun x hx => ?_⟩
    obtain ⟨a, c, e, hr⟩ := h3 x hx
    exact ⟨a, c, e, hr.same hc⟩
  · obtain ⟨D, ⟨es, cl, hb, F, hs, hD⟩, h2, h3⟩ := h.se
    exact ⟨D, ⟨es, cl, hm _ _ _ (.inr (.inl rfl)) hb, F, hs, hD⟩, h2, h3⟩
  · obtain ⟨D, ⟨es, cl, hb, F, hs, hD⟩, h2, h3⟩ := h.ta
    exact ⟨D, ⟨es, cl, hm _ _ _ (.inr (.inr rfl)) hb, F, hs, hD⟩, h2, h3⟩
end
theorem LsM.isMap {u : World} {g n : Nat} {ls : LsS} (h : LsM u g n ls) : ∃ es c, u.heap[g]? = some (Obj.map es c) := by
  obtain ⟨D, h1, _⟩ := h
  exact map_block h1
theorem LsM.kp {B : Nat} {u u' : World} {g n : Nat} {ls : LsS} (h : LsM u g n ls) (hk : KpR B u u') : LsM u' g n ls := by
  obtain ⟨D, ⟨es, cl, hb, F, hs, hD⟩, h2, h3⟩ := h
  exact ⟨D, ⟨es, cl, hk.map _ _ _ hb, F, hs, hD⟩, h2, h3⟩
/-- Where the iterator stands behind q events. -/
structure It (B0 Bs gk gc gs gt gl : Nat) (a : Option Addr) (t : List EvD) (ca : Option Addr) (cc : Nat) (chans : List Int) (q : Nat) (k : KnS) (ls : LsS) (u : World) : Prop where
  kn : KnIn Bs gk gc gs gt ca cc chans (3 * q) k u
  ls : LsM u gl q ls
  gl : Bs ≤ gl ∧ ¬ KnX gc gs gt gl
  ev : EvsIn u B0 a t
  ch : ChB u B0 ca chans
  len : ∀ x, (k.K x).length ≤ 64
  sS : ∀ x, k.S x ≤ q
  sT : ∀ x, k.T x ≤ q
  size : B0 ≤ Bs ∧ Bs ≤ u.heap.size
section
variable {B0 Bs gk gc gs gt gl : Nat} {a : Option Addr} {t : List EvD} {ca : Option Addr} {cc : Nat} {chans : List Int} {q : Nat} {k : KnS} {ls : LsS} {u u' : World}
theorem It.later (h : It B0 Bs gk gc gs gt gl a t ca cc chans q k ls u) (hB : Below u.heap.size u u') : It B0 Bs gk gc gs gt gl a t ca cc chans q k ls u' :=
  ⟨h.kn.later hB, h.ls.later hB, h.gl, h.ev.low (low_below hB), h.ch.low (low_below hB), h.len, h.sS, h.sT, h.size.1, Nat.le_trans h.size.2 hB.size⟩
theorem It.kp (h : It B0 Bs gk gc gs gt gl a t ca cc chans q k ls u) (hk : KpR B0 u u') : It B0 Bs gk gc gs gt gl a t ca cc chans q k ls u' := by
  have hl : LowSame B0 u u' := fun g o hg ho => hk.low g o hg ho
  have hs : B0 ≤ u'.heap.size := Nat.le_trans h.size.1 (Nat.le_trans h.size.2 hk.size)
  exact ⟨h.kn.same hk.cells (fun g es c _ hm => hk.map g es c hm) ((h.ch.low hl).chIn hs), h.ls.kp hk, h.gl, h.ev.low hl, h.ch.low hl, h.len, h.sS, h.sT, h.size.1, Nat.le_trans h.size.2 hk.size⟩
theorem It.knx (h : It B0 Bs gk gc gs gt gl a t ca cc chans q k ls u) : ∀ g, KnX gc gs gt g → Bs ≤ g := by
  rintro g (rfl | rfl | rfl)
  · exact h.kn.bk.2.1
  · exact h.kn.bk.2.2.1
  · exact h.kn.bk.2.2.2
theorem It.stab (h : It B0 Bs gk gc gs gt gl a t ca cc chans q k ls u) {J : List (Int × Int) → World → Prop} (hJ : StabM Bs J) {s : List (Int × Int)} (j : J s u) (T : Touch (KnX gc gs gt) u u') : J s u' :=
  hJ s u u' j (T.mono fun g _ hx => ⟨h.knx g hx, by
    rcases hx with rfl | rfl | rfl
    · exact h.kn.cl.isMap
    · exact h.kn.se.isMap
    · exact h.kn.ta.isMap⟩)
theorem stab_below {J : List (Int × Int) → World → Prop} {B : Nat} (hJ : StabM B J) {s : List (Int × Int)} {u u' : World} (j : J s u) (hB : Below u.heap.size u u') : J s u' := hJ s u u' j (Touch.of_below hB)
theorem cntK_le {k : KnS} {e : EvD} {q : Nat} (hS : ∀ x, k.S x ≤ q) (hT : ∀ x, k.T x ≤ q) : (∀ x, (cntK k e).S x ≤ q + 1) ∧ ∀ x, (cntK k e).T x ≤ q + 1 := by
  have hu : ∀ (f : Int → Nat) (z : Int), (∀ x, f x ≤ q) → ∀ x, upd f z (f z + 1) x ≤ q + 1 := fun f z hf x => by
    unfold upd
    split
    · have := hf z; omega
    · have := hf x; omega
  constructor
  · intro x
    unfold cntK
    simp only
    split
    · exact hu _ _ hS x
    · have := hS x; omega
  · intro x
    unfold cntK
    simp only
    split
    · have := hT x; omega
    · split
      · exact hu _ _ hT x
      · have := hT x; omega
/-- Behind a step. -/
theorem It.step (h : It B0 Bs gk gc gs gt gl a t ca cc chans q k ls u) (e : EvD) (hk : KnIn Bs gk gc gs gt ca cc chans (3 * q + 3) (stepK7 chans k e) u') (T : Touch (KnX gc gs gt) u u') : It B0 Bs gk gc gs gt gl a t ca cc chans (q + 1) (stepK7 chans k e) ls u' := by
  have hl : LowSame B0 u u' := low_touch T h.knx h.size.1
  have hc := clock_len (chans := chans) h.len e
  refine ⟨hk.mono (by omega), (h.ls.touch T h.gl.2).mono (by omega), h.gl, h.ev.low hl, h.ch.low hl, fun x => ?_, (cntK_le h.sS h.sT).1, (cntK_le h.sS h.sT).2, h.size.1, Nat.le_trans h.size.2 T.size⟩
  have h1 := upd_len (x := (0, e.th, 0)) h.len hc
  show (toldK (upd k.K (0, e.th, 0) (clockL chans k e)) (tellsL k.S k.T e) (clockL chans k e) x).length ≤ 64
  unfold toldK
  rcases tellsL k.S k.T e with _ | y
  · exact h1 x
  · simp only
    unfold tellK
    refine upd_len h1 ?_ x
    split
    · exact hc
    · rw [join_len]; have := h1 y; omega
/-- Behind a note. -/
theorem It.note {n : Nat} (h : It B0 Bs gk gc gs gt gl a t ca cc chans (q + 1) k ls u) {ls' : LsS} (hl : LsM u' gl n ls') (hn : n ≤ q + 1) (T : Touch (fun b => b = gl) u u') : It B0 Bs gk gc gs gt gl a t ca cc chans (q + 1) k ls' u' := by
  have hlo : LowSame B0 u u' := low_touch T (Bs := Bs) (by rintro g rfl; exact h.gl.1) h.size.1
  have hs : B0 ≤ u'.heap.size := Nat.le_trans h.size.1 (Nat.le_trans h.size.2 T.size)
  obtain ⟨es, c, hm⟩ := h.ls.isMap
  refine ⟨h.kn.same (fun g cs ty fr hg _ _ => (T.block g (Array.getElem?_eq_some_iff.1 hg).1 (by rintro rfl; rw [hm] at hg; cases hg)).trans hg) (fun g es c hx hg => (T.block g (Array.getElem?_eq_some_iff.1 hg).1 (by rintro rfl; exact h.gl.2 hx)).trans hg) ((h.ch.low hlo).chIn hs), hl.mono hn, h.gl, h.ev.low hlo, h.ch.low hlo, h.len, h.sS, h.sT, h.size.1, Nat.le_trans h.size.2 T.size⟩
end
end Go.Proofs.Ytgikoajclkfoiaa
