/- A program of the laws' making, bent in one place: a channel more, an instruction turned, a thread of noughts more. No statement of its own. -/
import Derived.Test.YtpmfolgihdmcjaaSoundsKit
import Derived.Laws.MakeOwn
namespace Go.Proofs.Ytpmfolgihdmcjaa
set_option linter.unusedVariables false
set_option linter.unusedSimpArgs false
open Go.RowKit

theorem info_intT : (Try.prog.info? 3).map (fun i => (i.zero, i.size, i.bytes)) = some (some (.int .i64 0), 1, 8) := by kernel_rfl
theorem chan_own {u : World} {b base : Nat} (h : u.heap[b]? = some (.cells #[.int .i64 1] 3)) (hb : base ≤ b) : u.ownsRow base 3 1 (.slice (some ⟨b, 0, none⟩) 1 1) 1 [.int .i64 1] :=
  ⟨by simp, .inr ⟨b, 1, #[.int .i64 1], rfl, hb, h, Nat.le_refl _, by decide, by simp, by simp⟩⟩
theorem ints_own {u : World} {base b cap n : Nat} {l : List Int} (h : u.ownsRow base 3 1 (.slice (some ⟨b, 0, none⟩) n cap) n (l.map (.int .i64))) : RowOf .i64 u u.heap.size (some ⟨b, 0, none⟩) l := by
  rcases h.2 with ⟨e, _⟩ | ⟨g', cap', cur, e, hb, hh, hle, hm, hs, ht⟩
  · cases e
  · simp only [Value.slice.injEq, Option.some.injEq, Addr.mk.injEq] at e
    obtain ⟨⟨rfl, _⟩, _, rfl⟩ := e
    intro i x hx
    have hl : l.length = n * 1 := by have := h.1; simpa using this
    have hi := (List.getElem?_eq_some_iff.1 hx).1
    refine ⟨b, 0, rfl, (Array.getElem?_eq_some_iff.1 hh).1, ?_⟩
    have e2 : (l.map (Value.int .i64))[i]? = some (.int .i64 x) := by simp [hx]
    rw [Nat.zero_add, cell_of_row _ _ _ _ _ _ hh, ← e2, ← ht, List.getElem?_take_of_lt (by omega)]
    simp
/-- A channel more. -/
theorem chan_push {w u u' : World} {B g qcap g7 cap7 : Nat} {vs : List Value} {cs : List (List InsD)} {n : Int} (h : ProgSt w u B (.slice (some ⟨g, 0, none⟩) cs.length qcap) vs cs) (hl : cs.length ≤ 1000) (hgB : g ≠ B) (hV : ∀ (k : Nat) (b : Value), vs[k]? = some b → b.ownBlock ≠ some B) (hwB : w.heap.size + 3 ≤ B)
    (hown : u'.ownsRow w.heap.size 3 1 (.slice (some ⟨g7, 0, none⟩) 2 cap7) 2 [.int .i64 1, .int .i64 n]) (hg : u.grownBy u' (some (w.heap.size + 1))) (hat : g7 = w.heap.size + 1 ∨ g7 = u.heap.size) :
    (u'.cell? ⟨B, 3, none⟩ = some (.slice (some ⟨w.heap.size + 1, 0, none⟩) 1 1) ∧ u'.frozen? ⟨B, 3, none⟩ = false) ∧ QSt (u'.setCell ⟨B, 3, none⟩ (.slice (some ⟨g7, 0, none⟩) 2 cap7)) B ⟨2, 1, 1, [1, n], 1, 1, cs⟩ (some ⟨g7, 0, none⟩) cap7 (some ⟨g, 0, none⟩) qcap ∧
      Below w.heap.size w (u'.setCell ⟨B, 3, none⟩ (.slice (some ⟨g7, 0, none⟩) 2 cap7)) := by
  have hBl := (Array.getElem?_eq_some_iff.1 h.box).1
  have hbx := (hg.block B hBl (by simp; omega)).trans h.box
  have hgb := own_lt h.own.thr g rfl
  have hT : Apart (.slice (some ⟨g, 0, none⟩) cs.length qcap) (.slice (some ⟨w.heap.size + 1, 0, none⟩) 1 1) := .inr (by simp [Value.ownBlock]; omega)
  have hVa : ∀ (k : Nat) (b : Value), vs[k]? = some b → Apart b (.slice (some ⟨w.heap.size + 1, 0, none⟩) 1 1) := fun k b hb => .inr fun e => by
    obtain ⟨d, _, hd⟩ := h.own.codeOf hb
    have := (own_lt hd (w.heap.size + 1) (by rw [e]; rfl)).2
    omega
  have hO := h.own.beside (v := .slice (some ⟨w.heap.size + 1, 0, none⟩) 1 1) hg hT hVa
  have hO2 := hO.setOff (B := B) (by simp [Value.ownBlock]; exact hgB) hV 3 (.slice (some ⟨g7, 0, none⟩) 2 cap7)
  obtain ⟨ta, tc, e, hth⟩ := hO2.threads_in
  simp only [Value.slice.injEq] at e
  obtain ⟨rfl, _, rfl⟩ := e
  have h7 : g7 ≠ B := by rcases hat with h | h <;> omega
  have hrow := ints_own (l := [1, n]) (ownsRow_setCell_other (a := ⟨B, 3, none⟩) hown (by simp [Value.ownBlock]; exact h7) (.slice (some ⟨g7, 0, none⟩) 2 cap7))
  refine ⟨⟨cell_of_row _ _ _ _ _ _ hbx, frozen_of_row _ _ _ _ _ hbx⟩, ⟨by rw [heap_setCell_same _ _ _ _ _ _ hbx]; rfl, hrow, hth, by show 2 ≤ _; omega, by show cs.length ≤ _; omega⟩, ?_⟩
  exact (h.bel.grown hg (by omega) (fun b e => by simp at e; omega)).setCell (p := ⟨B, 3, none⟩) (by show w.heap.size ≤ B; omega) _

theorem ins_range {u : World} {b o : Nat} {x : InsD} (h : InsAt u b o x) : u.rangeAt b o (insCells x) := fun j v hv => by
  match j, hv with
  | 0, hv => simp [insCells] at hv; subst hv; exact h.1
  | 1, hv => simp [insCells] at hv; subst hv; exact h.2.1
  | 2, hv => simp [insCells] at hv; subst hv; exact h.2.2.1
  | 3, hv => simp [insCells] at hv; subst hv; exact h.2.2.2
  | j + 4, hv => simp [insCells] at hv
theorem range_ins {u : World} {b o : Nat} {x : InsD} (h : u.rangeAt b o (insCells x)) : InsAt u b o x := ⟨h 0 _ rfl, h 1 _ rfl, h 2 _ rfl, h 3 _ rfl⟩
theorem cell_put {u : World} {b' o' b o : Nat} {vs : List Value} {v : Value} (h : u.cell? ⟨b', o', none⟩ = some v) (hb : b' ≠ b) : (u.setCells b o vs).cell? ⟨b', o', none⟩ = some v := by
  rw [World.cell?_setCells_out b vs o u ⟨b', o', none⟩ (fun e _ => absurd e hb)]; exact h
theorem size_put (b : Nat) : ∀ (vs : List Value) (o : Nat) (w : World), (w.setCells b o vs).heap.size = w.heap.size
  | [], _, _ => rfl
  | v :: r, o, w => by
    unfold World.setCells
    rw [size_put b r (o + 1)]
    simp [World.setCell]
theorem heap_put (b k : Nat) (hk : k ≠ b) : ∀ (vs : List Value) (o : Nat) (w : World), (w.setCells b o vs).heap[k]? = w.heap[k]?
  | [], _, _ => rfl
  | v :: r, o, w => by
    unfold World.setCells
    rw [heap_put b k hk r (o + 1)]
    exact heap_setCell_other _ _ _ _ hk
/-- An instruction is turned. -/
theorem put_ins {w u : World} {B g qcap k i b cap : Nat} {vs : List Value} {cs : List (List InsD)} {c : List InsD} {y : InsD} (x : InsD) (h : ProgSt w u B (.slice (some ⟨g, 0, none⟩) cs.length qcap) vs cs) (hl : cs.length ≤ 1000) (hgB : g ≠ B) (hV : ∀ (k : Nat) (b : Value), vs[k]? = some b → b.ownBlock ≠ some B) (hwB : w.heap.size + 3 ≤ B)
    (hc : cs[k]? = some c) (hv : vs[k]? = some (.slice (some ⟨b, 0, none⟩) c.length cap)) (hy : c[i]? = some y) :
    u.there b (i * 4) 4 ∧ QSt (u.setCells b (i * 4) (insCells x)) B ⟨2, 1, 1, [1], 1, 1, cs.set k (c.set i x)⟩ (some ⟨w.heap.size + 1, 0, none⟩) 1 (some ⟨g, 0, none⟩) qcap ∧ Below w.heap.size w (u.setCells b (i * 4) (insCells x)) := by
  have hrow := h.own.code k _ c hv hc
  have hb := own_lt hrow b rfl
  have hgl := own_lt h.own.thr g rfl
  have hbB : b ≠ B := fun e => hV k _ hv (by rw [e]; rfl)
  have hbg : g ≠ b := fun e => by
    rcases h.own.apartT k _ hv with h1 | h1
    · simp [Value.ownBlock] at h1
    · exact h1 (by rw [e]; rfl)
  obtain ⟨a', cap', e, hin⟩ := code_in hrow
  simp only [Value.slice.injEq] at e
  obtain ⟨rfl, _, rfl⟩ := e
  have hthere : u.there b (i * 4) 4 := fun j hj => by
    obtain ⟨b2, o2, e2, _, hi⟩ := hin i y hy
    simp only [Option.some.injEq, Addr.mk.injEq] at e2
    obtain ⟨rfl, rfl, _⟩ := e2
    have hr := ins_range hi
    obtain ⟨v, hv4⟩ : ∃ v, (insCells y)[j]? = some v := at_lt (by simp [insCells]; omega)
    refine ⟨by have := hr j v hv4; rw [Nat.zero_add] at this; rw [this]; rfl, ?_⟩
    rcases hrow.2 with ⟨e, _⟩ | ⟨g', cap2, cur, e, _, hh, _⟩
    · cases e
    · simp only [Value.slice.injEq, Option.some.injEq, Addr.mk.injEq] at e
      obtain ⟨⟨rfl, _⟩, _, rfl⟩ := e
      exact frozen_of_row _ _ _ _ _ hh
  have hcl : k < cs.length := (List.getElem?_eq_some_iff.1 hc).1
  have hbx : (u.setCells b (i * 4) (insCells x)).heap[B]? = _ := (heap_put b B (fun e => hbB e.symm) (insCells x) (i * 4) u).trans h.box
  have hcn := (heap_put b (w.heap.size + 1) (by omega) (insCells x) (i * 4) u).trans h.chn
  refine ⟨hthere, ⟨by rw [hbx]; simp, fun j z hz => ?_, fun j d hd => ?_, by show 1 ≤ _; omega, by show (cs.set k _).length ≤ _; simp; omega⟩, below_setCells b (by omega) _ _ _ h.bel⟩
  · match j, hz with
    | 0, hz => cases hz; exact ⟨w.heap.size + 1, 0, rfl, (Array.getElem?_eq_some_iff.1 hcn).1, cell_of_row _ _ _ _ _ _ hcn⟩
    | j + 1, hz => simp at hz
  · obtain ⟨ta, tc, e, hth⟩ := h.own.threads_in
    simp only [Value.slice.injEq] at e
    obtain ⟨rfl, _, rfl⟩ := e
    rw [size_put]
    rcases set_at hd with ⟨rfl, rfl, _⟩ | ⟨hj, hd'⟩
    · obtain ⟨b1, o1, e1, h1, a2, cap2, h2, h3⟩ := hth j c hc
      simp only [Option.some.injEq, Addr.mk.injEq] at e1
      obtain ⟨rfl, rfl, _⟩ := e1
      have hcell := (h.own.addr (by omega))
      obtain ⟨g2, cap3, e3, _, _, hcells⟩ := hcell
      simp only [Value.slice.injEq, Option.some.injEq, Addr.mk.injEq] at e3
      obtain ⟨⟨rfl, _⟩, _, rfl⟩ := e3
      have hck := (hcells j _ hv).1
      refine ⟨g, 0, rfl, hgl.1, some ⟨b, 0, none⟩, cap, by rw [Nat.zero_add, List.length_set]; exact cell_put hck hbg, fun m z hz => ⟨b, 0, rfl, hb.1, ?_⟩⟩
      rw [Nat.zero_add]
      rcases set_at hz with ⟨rfl, rfl, _⟩ | ⟨hm, hz'⟩
      · exact range_ins (World.rangeAt_setCells_same u b (m * 4) (insCells z) hthere)
      · obtain ⟨b2, o2, e2, _, hi⟩ := hin m z hz'
        simp only [Option.some.injEq, Addr.mk.injEq] at e2
        obtain ⟨rfl, rfl, _⟩ := e2
        rw [Nat.zero_add] at hi
        refine range_ins (World.rangeAt_setCells_apart (ins_range hi) b (i * 4) (insCells x) (.inr ?_))
        simp only [insCells, List.length_cons, List.length_nil]
        omega
    · obtain ⟨b1, o1, e1, h1, a2, cap2, h2, h3⟩ := hth j d hd'
      simp only [Option.some.injEq, Addr.mk.injEq] at e1
      obtain ⟨rfl, rfl, _⟩ := e1
      refine ⟨g, 0, rfl, hgl.1, a2, cap2, cell_put h2 hbg, fun m z hz => ?_⟩
      obtain ⟨b2, o2, e2, hb2, hi⟩ := h3 m z hz
      refine ⟨b2, o2, e2, hb2, range_ins (World.rangeAt_setCells_apart (ins_range hi) b (i * 4) (insCells x) (.inl ?_))⟩
      obtain ⟨v2, hv2, _⟩ := h.own.codeAt hd'
      obtain ⟨g2, cap3, e3, _, _, hcells⟩ := h.own.addr (by omega)
      simp only [Value.slice.injEq, Option.some.injEq, Addr.mk.injEq] at e3
      obtain ⟨⟨rfl, _⟩, _, rfl⟩ := e3
      have hck := (hcells j _ hv2).1
      rw [Nat.zero_add] at h2
      have ev : v2 = .slice a2 d.length cap2 := Option.some.inj (hck.symm.trans h2)
      subst ev
      subst e2
      have hr2 := h.own.codeAt hd'
      rcases h.own.apartV j k _ _ hj hv2 hv with h4 | h4
      · obtain ⟨v3, hv3, hr3⟩ := hr2
        rw [hv2] at hv3
        cases hv3
        rcases hr3.2 with ⟨e5, e6⟩ | ⟨g5, cap5, cur5, e5, _⟩
        · cases e5
        · simp only [Value.slice.injEq, Option.some.injEq, Addr.mk.injEq] at e5
          obtain ⟨⟨rfl, rfl, _⟩, _, _⟩ := e5
          simp [Value.ownBlock] at h4
      · intro e7
        subst e7
        obtain ⟨v3, hv3, hr3⟩ := hr2
        rw [hv2] at hv3
        cases hv3
        rcases hr3.2 with ⟨e5, e6⟩ | ⟨g5, cap5, cur5, e5, _⟩
        · cases e5
        · simp only [Value.slice.injEq, Option.some.injEq, Addr.mk.injEq] at e5
          obtain ⟨⟨rfl, rfl, _⟩, _, _⟩ := e5
          exact h4 rfl

/-- Noughts of instructions. -/
theorem made_zero (m : Nat) : (madeCells (Value.agg #[.int .u8 0, .int .i64 0, .int .i64 0, .int .i64 0]).cells (m * 4)).toList = codeCells (List.replicate m ⟨0, 0, 0, 0⟩) := by
  have key : ∀ n, (madeCells (Value.agg #[.int .u8 0, .int .i64 0, .int .i64 0, .int .i64 0]).cells n).toList = (List.range n).map (fun j => (#[.int .u8 0, .int .i64 0, .int .i64 0, .int .i64 0] : Array Value)[j % 4]!) := fun n => by
    simp [madeCells, Value.cells]
  induction m with
  | zero => rw [key]; rfl
  | succ m ih =>
    rw [key] at ih ⊢
    rw [List.replicate_succ', codeCells_snoc, ← ih, show (m + 1) * 4 = m * 4 + 1 + 1 + 1 + 1 from by omega]
    simp only [List.range_succ, List.map_append, List.map_cons, List.map_nil, List.append_assoc]
    have e0 : (m * 4) % 4 = 0 := by omega
    have e1 : (m * 4 + 1) % 4 = 1 := by omega
    have e2 : (m * 4 + 1 + 1) % 4 = 2 := by omega
    have e3 : (m * 4 + 1 + 1 + 1) % 4 = 3 := by omega
    rw [e0, e1, e2, e3]
    rfl
theorem below_of_none {w w' : World} (h : w.grownBy w' none) : Below w.heap.size w w' := (Below.refl _ _).grown h (Nat.le_refl _) (fun b e => by cases e)

end Go.Proofs.Ytpmfolgihdmcjaa
