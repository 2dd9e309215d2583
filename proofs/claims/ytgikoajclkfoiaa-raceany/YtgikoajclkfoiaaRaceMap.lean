/- Race's maps: from things to clocks, from channels to numbers. -/
import Derived.Test.YtgikoajclkfoiaaRaceM
import Derived.Test.YtgikoajclkfoiaaClockJoin
import Derived.Test.YtgikoajclkfoiaaOrderMap
namespace Go.Proofs.Ytgikoajclkfoiaa
set_option linter.unusedVariables false
set_option linter.unusedSimpArgs false
set_option maxRecDepth 100000
open Go.ChangeShapes Go.WideShapes Go.ChangeAt Go.RowKit Go.Maps

theorem wide_kn : (match Try.prog.underlying 75 with | some (.array _ _) | some (.struct _) => true | _ => false) = true := by rw [Try.underlying75]
theorem row_kn : (75 : TypeId) < Try.prog.types.size := of_decide_eq_true (by kernel_rfl)
theorem keyed_kn : Keyed Try.prog 75 := Keyed.of_law (deep_law_laid law_laidOut (m := 2) (by omega) row_kn (by kernel_rfl) wide_kn)
theorem deep_kn : Try.prog.keyType 75 = true := by kernel_rfl
theorem cells_kn : Try.prog.cellsOf 75 = 3 := by kernel_rfl
def kyV (x : Ky) : Value := .agg #[.int .u8 x.1, .int .i64 x.2.1, .int .i64 x.2.2]
theorem formed_kn (x : Ky) : (kyV x).formed Try.prog 75 = true := by simp [kyV, Value.formed, Try.underlying75, cells_kn]
theorem lits_intR (d : Nat) {y : Int} (hy : (Lit.int .i64 y).wf = true) : Try.prog.keyLits (d + 1) 3 [.int .i64 y] = some [.int .i64 y] := by
  simp [Program.keyLits, Try.underlying3, hy]
theorem lits_kind (d : Nat) {y : Int} (hy : (Lit.int .u8 y).wf = true) : Try.prog.keyLits (d + 1) 73 [.int .u8 y] = some [.int .u8 y] := by
  simp [Program.keyLits, Try.underlying73, hy]
theorem lits_three (d : Nat) (a b c : Value) : Try.prog.keyLits (d + 2) 75 [a, b, c] = ((Try.prog.keyLits (d + 1) 73 [a]).bind fun x => (Try.prog.keyLits (d + 1) 3 [b]).bind fun y => (Try.prog.keyLits (d + 1) 3 [c]).bind fun z => some [x, y, z]).map List.flatten := by
  kernel_rfl
def KyW (x : Ky) : Prop := (Lit.int .u8 x.1).wf = true ∧ Wf x.2.1 ∧ Wf x.2.2
theorem lits_kn (d : Nat) {x : Ky} (h : KyW x) : Try.prog.keyLits (d + 2) 75 (kyV x).cells.toList = some [.int .u8 x.1, .int .i64 x.2.1, .int .i64 x.2.2] := by
  show Try.prog.keyLits (d + 2) 75 [.int .u8 x.1, .int .i64 x.2.1, .int .i64 x.2.2] = _
  rw [lits_three, lits_kind d h.1, lits_intR d h.2.1, lits_intR d h.2.2]
  rfl
def kyL (x : Ky) : Lit := .string (keyBytes [.int .u8 x.1, .int .i64 x.2.1, .int .i64 x.2.2])
theorem size_typesR : Try.prog.types.size + 1 = (Try.prog.types.size - 1) + 2 := by
  have := row_kn
  have : 1 ≤ Try.prog.types.size := Nat.le_trans (by decide) (Nat.succ_le_of_lt this)
  omega
theorem kyL_of {x : Ky} (h : KyW x) : keyOf Try.prog 75 (kyV x) = some (kyL x) := by
  unfold keyOf
  rw [Try.underlying75]
  show (if (Try.prog.keyType 75 && (kyV x).formed Try.prog 75) = true then _ else _) = _
  rw [deep_kn, formed_kn, size_typesR, lits_kn _ h]
  rfl
theorem kyL_inj {x y : Ky} (hx : KyW x) (hy : KyW y) (h : kyL x = kyL y) : x = y := by
  have := (keyed_kn).inj (kyL_of hx) (by rw [h]; exact kyL_of hy)
  obtain ⟨a, b, c⟩ := x
  obtain ⟨a', b', c'⟩ := y
  simpa [kyV] using this
theorem kyL_key (x : Ky) : WideAt.IsKeyLit (kyL x) := trivial
/-- A value as it stands. -/
def rawE (v : Value) : Option (DataW Value × List MemPlace) := some (.held v, [])
theorem cell_block {w : World} {a : Addr} {v : Value} (h : w.cell? a = some v) : ∃ cs t fr, w.heap[a.block]? = some (.cells cs t fr) := by
  unfold World.cell? at h
  split at h
  · rename_i c t fr hb
    exact ⟨c, t, fr, hb⟩
  · cases h
theorem row_kept {w w' : World} {a : Option Addr} {l : List Int} {b : Nat} {es : Array MapEntry} {n : Nat} (h : RowOf .i64 w w.heap.size a l) (hb : w.heap[b]? = some (.map es n)) (hg : w.grownBy w' (some b)) : RowOf .i64 w' w'.heap.size a l := fun i x hx => by
  obtain ⟨c, off, h1, h2, h3⟩ := h i x hx
  have hne : some c ≠ some b := fun e => by
    cases e
    obtain ⟨cs, t, fr, hc⟩ := cell_block h3
    rw [hb] at hc; cases hc
  refine ⟨c, off, h1, Nat.lt_of_lt_of_le h2 hg.size, ?_⟩
  have hB := hg.block c h2 hne
  unfold World.cell? at h3 ⊢
  simp only at h3 ⊢
  rw [hB]; exact h3
theorem rowI_kept {w w' : World} {a : Option Addr} {l : List Int} {b : Nat} {es : Array MapEntry} {n : Nat} (h : RowI w a l) (hb : w.heap[b]? = some (.map es n)) (hg : w.grownBy w' (some b)) : RowI w' a l := fun i x hx => by
  obtain ⟨c, off, cs, fr, h1, h2, h3⟩ := h i x hx
  have hne : some c ≠ some b := fun e => by cases e; rw [hb] at h2; cases h2
  exact ⟨c, off, cs, fr, h1, (hg.block c (Array.getElem?_eq_some_iff.1 h2).1 hne).trans h2, h3⟩
theorem map_block {H : Type} {w : World} {k : TypeId} {R : Value → Option (DataW H × List MemPlace)} {b n : Nat} {D : DataW H} (h : w.ownsMap Try.prog k R b n D) : ∃ es c, w.heap[b]? = some (.map es c) := by
  obtain ⟨es, c, hb, _⟩ := h
  exact ⟨es, c, hb⟩
theorem map_later {H : Type} {w w' : World} {k : TypeId} {R : Value → Option (DataW H × List MemPlace)} {b n : Nat} {D : DataW H} (h : w.ownsMap Try.prog k R b n D) (hB : Below w.heap.size w w') : w'.ownsMap Try.prog k R b n D := by
  have hlt := h.lt
  obtain ⟨es, clock, hb, F, hs, hD⟩ := h
  exact ⟨es, clock, (hB.block b hlt).trans hb, F, hs, hD⟩
/-- A map from things to clocks. -/
def CkM (u : World) (g n : Nat) (K : Ky → List Int) : Prop := ∃ D : DataW Value, u.ownsMap Try.prog 75 rawE g n D ∧ IsMap D ∧ ∀ x, KyW x → ∃ a c, D.atKey (kyL x) (.held (.slice none 0 0)) = .held (.slice a (K x).length c) ∧ RowI u a (K x)
/-- A map from numbers to how many. -/
def CnM (u : World) (g n : Nat) (S : Int → Nat) : Prop := ∃ D : DataW Unit, u.ownsMap Try.prog 3 (plainElem Try.prog 3) g n D ∧ IsMap D ∧ ∀ x, Wf x → D.atKey (.int .i64 x) (.lit (.int .i64 0)) = .lit (.int .i64 (S x : Nat))
theorem CkM.later {u u' : World} {g n : Nat} {K : Ky → List Int} (h : CkM u g n K) (hB : Below u.heap.size u u') : CkM u' g n K := by
  obtain ⟨D, h1, h2, h3⟩ := h
  refine ⟨D, map_later h1 hB, h2, fun x hx => ?_⟩
  obtain ⟨a, c, e, hr⟩ := h3 x hx
  exact ⟨a, c, e, hr.up hB⟩
theorem CnM.later {u u' : World} {g n : Nat} {S : Int → Nat} (h : CnM u g n S) (hB : Below u.heap.size u u') : CnM u' g n S := by
  obtain ⟨D, h1, h2, h3⟩ := h
  exact ⟨D, map_later h1 hB, h2, h3⟩
theorem CkM.other {u u' : World} {g n b : Nat} {K : Ky → List Int} (h : CkM u g n K) (hg : u.grownBy u' (some b)) (hne : g ≠ b) (hm : ∃ es c, u.heap[b]? = some (.map es c)) : CkM u' g n K := by
  obtain ⟨D, h1, h2, h3⟩ := h
  obtain ⟨es, c, hb⟩ := hm
  refine ⟨D, h1.kept hg (fun e => hne (Option.some.inj e)), h2, fun x hx => ?_⟩
  obtain ⟨a, c, e, hr⟩ := h3 x hx
  exact ⟨a, c, e, rowI_kept hr hb hg⟩
theorem CnM.other {u u' : World} {g n b : Nat} {S : Int → Nat} (h : CnM u g n S) (hg : u.grownBy u' (some b)) (hne : g ≠ b) : CnM u' g n S := by
  obtain ⟨D, h1, h2, h3⟩ := h
  exact ⟨D, h1.kept hg (fun e => hne (Option.some.inj e)), h2, h3⟩
theorem zero_ints (w : World) : (zeroValue 29).run Try.prog w = .ok (.slice none 0 0) w := by kernel_rfl
/-- What a clock's look-up hands out. -/
theorem CkM.look {u : World} {g n : Nat} {K : Ky → List Int} (h : CkM u g n K) {x : Ky} (hx : KyW x) : ∃ a c, (Instr.lookup 69 (.map (some g)) (kyV x) false).run Try.prog u = .ok (.slice a (K x).length c) u ∧ RowI u a (K x) := by
  obtain ⟨D, h1, h2, h3⟩ := h
  obtain ⟨a, c, e, hr⟩ := h3 x hx
  obtain ⟨v, ps, hrun, hv⟩ := h1.lookup keyed_kn Try.underlying69 (zero_ints u) (zd := .held (.slice none 0 0)) (zp := []) rfl (kyL_of hx)
  rw [e] at hv
  unfold rawE at hv
  injection hv with hv
  injection hv with hv _
  injection hv with hv
  subst hv
  exact ⟨a, c, hrun, hr⟩
theorem CkM.put {u : World} {g n : Nat} {K : Ky → List Int} (h : CkM u g n K) {x : Ky} (hx : KyW x) (hn : n < maxLen) {a : Option Addr} {c : Nat} {l : List Int} (hl : RowI u a l) :
    ∃ u', (Instr.mapUpdate 69 (.map (some g)) (kyV x) (.slice a l.length c)).run Try.prog u = .ok () u' ∧ CkM u' g (n + 1) (upd K x l) ∧ u.grownBy u' (some g) := by
  obtain ⟨D, h1, h2, h3⟩ := h
  obtain ⟨es, cl, hb⟩ := map_block h1
  obtain ⟨u', hrun, ho, hg⟩ := h1.update keyed_kn Try.underlying69 hn (kyL_of hx) (val := .slice a l.length c) (d := .held (.slice a l.length c)) (ps := []) rfl
  refine ⟨u', hrun, ⟨_, ho, h2.put _ _, fun y hy => ?_⟩, hg⟩
  by_cases e : y = x
  · subst e
    refine ⟨a, c, ?_, ?_⟩
    · rw [atKey_put_same h2 (kyL_key _)]; simp [upd]
    · simp only [upd, if_true]; exact rowI_kept hl hb hg
  · obtain ⟨a', c', e', hr⟩ := h3 y hy
    refine ⟨a', c', ?_, ?_⟩
    · rw [atKey_put_other (fun q => e (kyL_inj hy hx q)), e']; simp [upd, e]
    · simp only [upd, if_neg e]; exact rowI_kept hr hb hg
theorem CnM.look {u : World} {g n : Nat} {S : Int → Nat} (h : CnM u g n S) {x : Int} (hx : Wf x) : (Instr.lookup 70 (.map (some g)) (.int .i64 x) false).run Try.prog u = .ok (.int .i64 (S x : Nat)) u := by
  obtain ⟨D, h1, h2, h3⟩ := h
  obtain ⟨c, hrun, hat, _⟩ := h1.lookup_int (int_keyed Try.underlying3) Try.underlying70 Try.underlying3 (zero_int u) (keyOf_int_mk Try.underlying3 hx)
  rw [h3 x hx] at hat
  cases hat
  exact hrun
theorem CnM.put {u : World} {g n : Nat} {S : Int → Nat} (h : CnM u g n S) {x : Int} (hx : Wf x) (hn : n < maxLen) {y : Nat} (hy : Wf (y : Int)) :
    ∃ u', (Instr.mapUpdate 70 (.map (some g)) (.int .i64 x) (.int .i64 (y : Nat))).run Try.prog u = .ok () u' ∧ CnM u' g (n + 1) (upd S x y) ∧ u.grownBy u' (some g) := by
  obtain ⟨D, h1, h2, h3⟩ := h
  obtain ⟨u', hrun, ho, hg⟩ := h1.update (int_keyed Try.underlying3) Try.underlying70 hn (keyOf_int_mk Try.underlying3 hx) (plainElem_int Try.underlying3 hy)
  refine ⟨u', hrun, ⟨_, ho, h2.put _ _, fun z hz => ?_⟩, hg⟩
  by_cases e : z = x
  · subst e
    rw [atKey_put_same h2 (by trivial)]; simp [upd]
  · rw [atKey_put_other (fun q => e (by cases q; rfl)), h3 z hz]; simp [upd, e]
end Go.Proofs.Ytgikoajclkfoiaa
