/- What the laws of this seat stand on, part 9. -/
import Derived.Test.YtnbpneaiibandaaPa0
import Derived.Test.YtnbpneaiibandaaPa8
set_option linter.unusedVariables false
set_option linter.unusedSimpArgs false
set_option maxRecDepth 100000
set_option maxHeartbeats 40000000
namespace Go.Proofs.Ytnbpneaiibandaa
open Go.ChangeShapes Go.WideShapes Go.ChangeAt Go.RowKit
def updF {α : Type} (f : Nat → α) (i : Nat) (v : α) : Nat → α := fun j => if j = i then v else f j
theorem updF_same {α : Type} (f : Nat → α) (i : Nat) (v : α) : updF f i v i = v := by simp [updF]
theorem updF_ne {α : Type} (f : Nat → α) {i j : Nat} (v : α) (h : j ≠ i) : updF f i v j = f j := by simp [updF, h]
/-- Rows of numbers of the call's own, each in a block of its own. -/
structure Fam (u : World) (base : Nat) (fv : Nat → Value) (fl : Nat → List Int) : Prop where
  row : ∀ i, u.ownsRow base 3 1 (fv i) (fl i).length ((fl i).map (.int .i64 ·))
  ap : ∀ i j, i ≠ j → Apart (fv i) (fv j)
  top : base ≤ u.heap.size
theorem Fam.nil (u : World) : Fam u u.heap.size (fun _ => .slice none 0 0) (fun _ => []) := ⟨fun i => World.ownsRow_nil _ _ _ _, fun i j _ => .inl rfl, Nat.le_refl _⟩
theorem Fam.later {u u' : World} {base : Nat} {fv : Nat → Value} {fl : Nat → List Int} (h : Fam u base fv fl) (hB : Below u.heap.size u u') : Fam u' base fv fl := ⟨fun i => own_later (h.row i) hB, h.ap, Nat.le_trans h.top hB.size⟩
/-- A store elsewhere. -/
theorem Fam.aside {u : World} {base : Nat} {fv : Nat → Value} {fl : Nat → List Int} (h : Fam u base fv fl) {b i : Nat} {v : Value} (hb : b < base) : Fam (u.setCell ⟨b, i, none⟩ v) base fv fl := ⟨fun i => ownsRow_newer (h.row i) hb, h.ap, by rw [size_setCell]; exact h.top⟩
/-- A row more, in new memory. -/
theorem Fam.add {u u' : World} {base : Nat} {fv : Nat → Value} {fl : Nat → List Int} (h : Fam u base fv fl) (hB : Below u.heap.size u u') (i : Nat) {v : Value} {l : List Int} (ho : u'.ownsRow u.heap.size 3 1 v l.length (l.map (.int .i64 ·))) : Fam u' base (updF fv i v) (updF fl i l) := by
  have hv : ∀ j, Apart (fv j) v := fun j => by
    by_cases hn : (fv j).ownBlock = none
    · exact .inl hn
    · refine .inr fun e => ?_
      rcases hg : (fv j).ownBlock with _ | g
      · exact hn hg
      · have h1 := (own_lt (h.row j) g hg).1
        have h2 := (own_lt ho g (e.symm.trans hg)).2
        omega
  refine ⟨fun j => ?_, fun j k hjk => ?_, Nat.le_trans h.top hB.size⟩
  · by_cases e : j = i
    · subst e; rw [updF_same, updF_same]; exact own_base ho h.top
    · rw [updF_ne _ _ e, updF_ne _ _ e]; exact own_later (h.row j) hB
  · by_cases e : j = i
    · subst e
      rw [updF_same, updF_ne _ _ (fun x => hjk x.symm)]
      exact (hv k).symm
    · rw [updF_ne _ _ e]
      by_cases e2 : k = i
      · subst e2; rw [updF_same]; exact hv j
      · rw [updF_ne _ _ e2]; exact h.ap j k hjk
/-- A number of a row. -/
theorem Fam.cell {u : World} {base : Nat} {fv : Nat → Value} {fl : Nat → List Int} (h : Fam u base fv fl) {i k : Nat} {x : Int} (hx : (fl i)[k]? = some x) : ∃ g cap, fv i = .slice (some ⟨g, 0, none⟩) (fl i).length cap ∧ base ≤ g ∧ g < u.heap.size ∧ u.cell? ⟨g, k, none⟩ = some (.int .i64 x) ∧ u.frozen? ⟨g, k, none⟩ = false := by
  obtain ⟨a, cap, e, hc⟩ := own_cells (h.row i)
  obtain ⟨g, rfl, h1, h2, h3⟩ := hc k x hx
  refine ⟨g, cap, e, h1, h2, h3, ?_⟩
  rcases (h.row i).2 with ⟨h0, _⟩ | ⟨g', cap', cur, e', _, hh, _⟩
  · rw [e] at h0; cases h0
  · rw [e] at e'; cases e'
    exact frozen_of_row _ _ _ _ _ hh
/-- A number of a row is put. -/
theorem Fam.put {u : World} {base : Nat} {fv : Nat → Value} {fl : Nat → List Int} (h : Fam u base fv fl) {i k g cap : Nat} (e : fv i = .slice (some ⟨g, 0, none⟩) (fl i).length cap) (hk : k < (fl i).length) (y : Int) : Fam (u.setCell ⟨g, k, none⟩ (.int .i64 y)) base fv (updF fl i ((fl i).set k y)) := by
  have hgo : (fv i).ownBlock = some g := by rw [e]; rfl
  refine ⟨fun j => ?_, h.ap, by rw [size_setCell]; exact h.top⟩
  by_cases ej : j = i
  · subst ej
    rw [updF_same]
    rcases (h.row j).2 with ⟨h0, _⟩ | ⟨g', cap', cur, e', hb, hh, hle, hcap, hsz, ht⟩
    · rw [e] at h0; cases h0
    · have e3 := e
      rw [e'] at e3; cases e3
      refine ⟨by simp, .inr ⟨g, cap, cur.setIfInBounds k (.int .i64 y), by rw [e, List.length_set], hb, stSet_block _ _ _ _ hh, by rw [List.length_set]; exact hle, hcap, by simpa using hsz, ?_⟩⟩
      rw [List.length_set, Array.toList_setIfInBounds, List.take_set, ht, List.map_set]
  · rw [updF_ne _ _ ej]
    refine own_touch (X := fun x => x = g) (h.row j) ((Touch.of_below (Below.refl _ _)).set rfl) ?_
    intro x hx ex
    subst ex
    exact apart_ne (h.ap j i ej) hx hgo
/-- The document's state: its rows may be read. -/
structure Rf (u : World) (fv : Nat → Value) (rs qs : Value) (fl : Nat → List Int) (n c : Nat) : Prop where
  row : ∀ i, ∃ a cap, fv i = .slice a (fl i).length cap ∧ RowOf .i64 u u.heap.size a (fl i)
  regs : ∃ a cap, rs = .slice a n cap ∧ ∀ k, k < n → ∃ g off, a = some ⟨g, off, none⟩ ∧ g < u.heap.size ∧ u.cell? ⟨g, off + k, none⟩ = some (fv (9 + k))
  queue : ∃ a cap, qs = .slice a c cap ∧ ∀ k, k < c → ∃ g off, a = some ⟨g, off, none⟩ ∧ g < u.heap.size ∧ u.cell? ⟨g, off + k, none⟩ = some (fv (15 + k))
theorem Rf.later {u u' : World} {fv : Nat → Value} {rs qs : Value} {fl : Nat → List Int} {n c : Nat} (h : Rf u fv rs qs fl n c) (hB : Below u.heap.size u u') : Rf u' fv rs qs fl n c := by
  have hs := hB.size
  refine ⟨fun i => ?_, ?_, ?_⟩
  · obtain ⟨a, cap, e, hr⟩ := h.row i
    exact ⟨a, cap, e, hr.up hB⟩
  · obtain ⟨a, cap, e, hr⟩ := h.regs
    refine ⟨a, cap, e, fun k hk => ?_⟩
    obtain ⟨g, off, h1, h2, h3⟩ := hr k hk
    exact ⟨g, off, h1, by omega, (hB.cell (p := ⟨g, off + k, none⟩) h2).trans h3⟩
  · obtain ⟨a, cap, e, hr⟩ := h.queue
    refine ⟨a, cap, e, fun k hk => ?_⟩
    obtain ⟨g, off, h1, h2, h3⟩ := hr k hk
    exact ⟨g, off, h1, by omega, (hB.cell (p := ⟨g, off + k, none⟩) h2).trans h3⟩
/- clone. -/
theorem clone_any (a : Option Addr) (cap : Nat) (l : List Int) (w : World) (hr : RowOf .i64 w w.heap.size a l) (hl : l.length ≤ 1000000) :
    Calls Try.prog 79 #[.slice a l.length cap] w fun e w' => ∃ v, e = .returned v ∧ w'.ownsRow w.heap.size 3 1 v l.length (l.map (.int .i64 ·)) ∧ Below w.heap.size w w' := by
  obtain ⟨t0, ti, tz0, tz1, tz2⟩ := info_parts info_intT
  rcases a with _ | ad
  · obtain rfl : l = [] := by
      rcases l with _ | ⟨x, l⟩
      · rfl
      · obtain ⟨c, off, h, _⟩ := hr 0 x rfl; cases h
    go_enter Try.func79, Try.ntmps79
    go_wp2
    go_ret
    exact ⟨_, rfl, World.ownsRow_nil _ _ _ _, Below.refl _ _⟩
  · have hc : ∀ j u, (l.map (Value.int .i64 ·))[j]? = some u → w.cell? (ad.add j) = some u := by
      intro j u hj
      rw [List.getElem?_map] at hj
      rcases hx : l[j]? with _ | x
      · rw [hx] at hj; cases hj
      · rw [hx] at hj; cases hj
        obtain ⟨c, off, h, _, h3⟩ := hr j x hx
        cases h
        rw [Addr.add_mid]; exact h3
    have HC := Lib.hid hc
    clear hc hr
    go_enter Try.func79, Try.ntmps79
    go_wp2_with (first
      | (at_builtin; refine wpList_append_own_at _ rfl _ _ 24 rfl w.heap.size 3 t0 (.int .i64 0) 1 8 Try.underlying24 ti tz0 tz1 tz2 rfl (by decide) (.slice none 0 0) 0 [] rfl (World.ownsRow_nil _ _ _ _) ad l.length cap (l.map (.int .i64 ·)) rfl (by simp) HC.out (ints_one _) (by unfold maxLen; omega) (by omega) (Nat.le_refl _) ?_; intro v5 w5 hown5 hgrow5 _ hat5; rw [Nat.zero_add, List.nil_append] at hown5; have HO5 := Lib.hid hown5; have HV5 := Lib.hid (show Below w.heap.size w w5 from (Below.refl _ _).grown hgrow5 (Nat.le_refl _) (fun g e => by simp [Value.ownBlock] at e)); clear hown5 hgrow5))
    go_ret
    exact ⟨_, rfl, HO5.out, HV5.out⟩
/-- The document's state, all of it in the call's own memory. -/
structure Ow (u : World) (base : Nat) (fv : Nat → Value) (rs qs : Value) (fl : Nat → List Int) (n c : Nat) : Prop where
  fam : Fam u base fv fl
  regs : u.ownsRow base 24 1 rs n ((List.range n).map fun k => fv (9 + k))
  queue : u.ownsRow base 24 1 qs c ((List.range c).map fun k => fv (15 + k))
  apR : ∀ i, Apart (fv i) rs
  apQ : ∀ i, Apart (fv i) qs
  apRQ : Apart rs qs
theorem Ow.later {u u' : World} {base : Nat} {fv : Nat → Value} {rs qs : Value} {fl : Nat → List Int} {n c : Nat} (h : Ow u base fv rs qs fl n c) (hB : Below u.heap.size u u') : Ow u' base fv rs qs fl n c := ⟨h.fam.later hB, own_later h.regs hB, own_later h.queue hB, h.apR, h.apQ, h.apRQ⟩
theorem Ow.aside {u : World} {base : Nat} {fv : Nat → Value} {rs qs : Value} {fl : Nat → List Int} {n c : Nat} (h : Ow u base fv rs qs fl n c) {b i : Nat} {v : Value} (hb : b < base) : Ow (u.setCell ⟨b, i, none⟩ v) base fv rs qs fl n c := ⟨h.fam.aside hb, ownsRow_newer h.regs hb, ownsRow_newer h.queue hb, h.apR, h.apQ, h.apRQ⟩
theorem Ow.row {u : World} {base : Nat} {fv : Nat → Value} {rs qs : Value} {fl : Nat → List Int} {n c : Nat} (h : Ow u (base + 3) fv rs qs fl n c) {g : Nat} (hg : g < base + 3) (r : Array Value) : Ow (u.setRow g r) base fv rs qs fl n c :=
  ⟨⟨fun i => own_base (own_row (h.fam.row i) hg r) (by omega), h.fam.ap, by have := h.fam.top; simp; omega⟩, own_base (own_row h.regs hg r) (by omega), own_base (own_row h.queue hg r) (by omega), h.apR, h.apQ, h.apRQ⟩
theorem fresh_apart {u u' : World} {base B e s n m e' s' : Nat} {x v : Value} {xs ys : List Value} (hx : u.ownsRow base e s x n xs) (hv : u'.ownsRow B e' s' v m ys) (hB : u.heap.size ≤ B) : Apart x v := by
  by_cases hn : x.ownBlock = none
  · exact .inl hn
  · refine .inr fun e => ?_
    rcases hg : x.ownBlock with _ | g
    · exact hn hg
    · have h1 := (own_lt hx g hg).1
      have h2 := (own_lt hv g (e.symm.trans hg)).2
      omega
theorem range_upd {α : Type} (f : Nat → α) (o k : Nat) (v : α) : (List.range (k + 1)).map (fun j => updF f (o + k) v (o + j)) = (List.range k).map (fun j => f (o + j)) ++ [v] := by
  rw [List.range_succ, List.map_append]
  congr 1
  · apply List.map_congr_left
    intro j hj
    exact updF_ne _ _ (by have := List.mem_range.1 hj; omega)
  · simp [updF]
theorem range_off {α : Type} (f : Nat → α) (o i k : Nat) (v : α) (h : ∀ j, j < k → o + j ≠ i) : (List.range k).map (fun j => updF f i v (o + j)) = (List.range k).map (fun j => f (o + j)) := by
  apply List.map_congr_left
  intro j hj
  exact updF_ne _ _ (h j (List.mem_range.1 hj))
theorem Ow.add {u u' : World} {base : Nat} {fv : Nat → Value} {rs qs : Value} {fl : Nat → List Int} {n c : Nat} (h : Ow u base fv rs qs fl n c) (hB : Below u.heap.size u u') (i : Nat) (hi : ∀ j, j < n → 9 + j ≠ i) (hi2 : ∀ j, j < c → 15 + j ≠ i) {v : Value} {l : List Int} (ho : u'.ownsRow u.heap.size 3 1 v l.length (l.map (.int .i64 ·))) : Ow u' base (updF fv i v) rs qs (updF fl i l) n c := by
  refine ⟨h.fam.add hB i ho, ?_, ?_, fun j => ?_, fun j => ?_, h.apRQ⟩
  · rw [range_off _ _ _ _ _ hi]; exact own_later h.regs hB
  · rw [range_off _ _ _ _ _ hi2]; exact own_later h.queue hB
  · by_cases e : j = i
    · subst e; rw [updF_same]; exact (fresh_apart h.regs ho (Nat.le_refl _)).symm
    · rw [updF_ne _ _ e]; exact h.apR j
  · by_cases e : j = i
    · subst e; rw [updF_same]; exact (fresh_apart h.queue ho (Nat.le_refl _)).symm
    · rw [updF_ne _ _ e]; exact h.apQ j
/-- One more row of registers. -/
theorem Ow.pushR {u x x' : World} {base : Nat} {fv : Nat → Value} {rs rs' qs : Value} {fl : Nat → List Int} {n c : Nat} (h : Ow u base fv rs qs fl n c) (hn : n < 6) (hB : Below u.heap.size u x) {v : Value} {l : List Int} (ho : x.ownsRow u.heap.size 3 1 v l.length (l.map (.int .i64 ·)))
    (hrow : x'.ownsRow base 24 1 rs' (n + 1) (((List.range n).map fun k => fv (9 + k)) ++ [v])) (hg : x.grownBy x' rs.ownBlock) (hat : rs'.ownBlock = rs.ownBlock ∨ rs'.ownBlock = some x.heap.size) : Ow x' base (updF fv (9 + n) v) rs' qs (updF fl (9 + n) l) (n + 1) c := by
  have h1 := h.add hB (9 + n) (fun j hj => by omega) (fun j _ => by omega) ho
  refine ⟨⟨fun i => own_beside (h1.fam.row i) hg (h1.apR i), h1.fam.ap, Nat.le_trans h1.fam.top hg.size⟩, ?_, own_beside h1.queue hg h1.apRQ.symm, fun i => apart_append (h1.fam.row i) (h1.apR i) hat, h1.apQ, (apart_append h1.queue h1.apRQ.symm hat).symm⟩
  rw [range_upd]; exact hrow
/-- One more queue. -/
theorem Ow.pushQ {u x x' : World} {base : Nat} {fv : Nat → Value} {rs qs qs' : Value} {fl : Nat → List Int} {n c : Nat} (h : Ow u base fv rs qs fl n c) (hn : n ≤ 6) (hB : Below u.heap.size u x) {v : Value} {l : List Int} (ho : x.ownsRow u.heap.size 3 1 v l.length (l.map (.int .i64 ·)))
    (hrow : x'.ownsRow base 24 1 qs' (c + 1) (((List.range c).map fun k => fv (15 + k)) ++ [v])) (hg : x.grownBy x' qs.ownBlock) (hat : qs'.ownBlock = qs.ownBlock ∨ qs'.ownBlock = some x.heap.size) : Ow x' base (updF fv (15 + c) v) rs qs' (updF fl (15 + c) l) n (c + 1) := by
  have h1 := h.add hB (15 + c) (fun j hj => by omega) (fun j hj => by omega) ho
  refine ⟨⟨fun i => own_beside (h1.fam.row i) hg (h1.apQ i), h1.fam.ap, Nat.le_trans h1.fam.top hg.size⟩, own_beside h1.regs hg h1.apRQ, ?_, h1.apR, fun i => apart_append (h1.fam.row i) (h1.apQ i) hat, apart_append h1.regs h1.apRQ hat⟩
  rw [range_upd]; exact hrow
/-- While a state is copied. -/
structure CpSt (w u : World) (S T : Array Value) (fv : Nat → Value) (rs qs : Value) (fl : Nat → List Int) (n c : Nat) : Prop where
  b0 : u.heap[w.heap.size]? = some (.cells S 72)
  b1 : u.heap[w.heap.size + 1]? = some (.cells #[.int .i64 0, .int .i64 0, .int .i64 0, .slice none 0 0, .int .i64 0, .int .i64 0, .slice none 0 0, .slice none 0 0, .slice none 0 0, .slice none 0 0, .slice none 0 0, .slice none 0 0, .slice none 0 0, .slice none 0 0, .slice none 0 0, .slice none 0 0, .slice none 0 0, .slice none 0 0, .int .i64 0] 72)
  b2 : u.heap[w.heap.size + 1 + 1]? = some (.cells T 72)
  ow : Ow u (w.heap.size + 3) fv rs qs fl n c
  bel : Below w.heap.size w u
theorem CpSt.later {w u u' : World} {S T : Array Value} {fv : Nat → Value} {rs qs : Value} {fl : Nat → List Int} {n c : Nat} (h : CpSt w u S T fv rs qs fl n c) (hB : Below u.heap.size u u') : CpSt w u' S T fv rs qs fl n c := ⟨old_later h.b0 hB, old_later h.b1 hB, old_later h.b2 hB, h.ow.later hB, below_next h.bel hB⟩
theorem CpSt.put {w u : World} {S T : Array Value} {fv fv' : Nat → Value} {rs qs rs' qs' : Value} {fl fl' : Nat → List Int} {n c n' c' : Nat} (h : CpSt w u S T fv rs qs fl n c) (u' : World) (h0 : u'.heap[w.heap.size]? = u.heap[w.heap.size]?) (h1 : u'.heap[w.heap.size + 1]? = u.heap[w.heap.size + 1]?) (h2 : u'.heap[w.heap.size + 1 + 1]? = u.heap[w.heap.size + 1 + 1]?) (ho : Ow u' (w.heap.size + 3) fv' rs' qs' fl' n' c') (hB : Below w.heap.size w u') (j : Nat) (v : Value) : CpSt w (u'.setCell ⟨w.heap.size + 1 + 1, j, none⟩ v) S (T.setIfInBounds j v) fv' rs' qs' fl' n' c' :=
  ⟨(Below.heap_setCell _ _ _ _ (by simp only; omega)).trans (h0.trans h.b0), (Below.heap_setCell _ _ _ _ (by simp only; omega)).trans (h1.trans h.b1), stSet_block _ _ _ _ (h2.trans h.b2), ho.aside (by omega), stBelow_set hB (by omega)⟩
theorem CpSt.clone {w u u' : World} {S T : Array Value} {fv : Nat → Value} {rs qs : Value} {fl : Nat → List Int} {n c : Nat} (h : CpSt w u S T fv rs qs fl n c) (hB : Below u.heap.size u u') (i : Nat) (hi : ∀ j, j < n → 9 + j ≠ i) (hi2 : ∀ j, j < c → 15 + j ≠ i) {v : Value} {l : List Int} (ho : u'.ownsRow u.heap.size 3 1 v l.length (l.map (.int .i64 ·))) (j : Nat) : CpSt w (u'.setCell ⟨w.heap.size + 1 + 1, j, none⟩ v) S (T.setIfInBounds j v) (updF fv i v) rs qs (updF fl i l) n c := by
  have l0 := (Array.getElem?_eq_some_iff.1 h.b0).1
  have l1 := (Array.getElem?_eq_some_iff.1 h.b1).1
  have l2 := (Array.getElem?_eq_some_iff.1 h.b2).1
  exact h.put u' (hB.block _ l0) (hB.block _ l1) (hB.block _ l2) (h.ow.add hB i hi hi2 ho) (below_next h.bel hB) j v
theorem CpSt.c0 {w u : World} {S T : Array Value} {fv : Nat → Value} {rs qs : Value} {fl : Nat → List Int} {n c : Nat} (h : CpSt w u S T fv rs qs fl n c) (j : Nat) {v : Value} (hv : S[j]? = some v) : u.cell? ⟨w.heap.size, j, none⟩ = some v := (cell_of_row _ _ _ _ _ _ h.b0).trans hv
theorem CpSt.c2 {w u : World} {S T : Array Value} {fv : Nat → Value} {rs qs : Value} {fl : Nat → List Int} {n c : Nat} (h : CpSt w u S T fv rs qs fl n c) (j : Nat) {v : Value} (hv : T[j]? = some v) : u.cell? ⟨w.heap.size + 1 + 1, j, none⟩ = some v ∧ u.frozen? ⟨w.heap.size + 1 + 1, j, none⟩ = false := ⟨(cell_of_row _ _ _ _ _ _ h.b2).trans hv, frozen_of_row _ _ _ _ _ h.b2⟩
/-- The rows that are copied so far. -/
def flT (fl : Nat → List Int) (a b : Nat) : Nat → List Int := fun i => if i ≤ 8 then fl i else if i < 15 then (if i < 9 + a then fl i else []) else if i < 15 + b then fl i else []
theorem info_sliceT : (Try.prog.info? 24).map (fun i => (i.zero, i.size, i.bytes)) = some (some (.slice none 0 0), 1, 24) := by kernel_rfl
theorem info_S : (Try.prog.info? 72).map (·.size) = some 19 := by kernel_rfl
theorem CpSt.pushX {w u x x' : World} {S T : Array Value} {fv : Nat → Value} {rs qs : Value} {fl : Nat → List Int} {n c : Nat} (h : CpSt w u S T fv rs qs fl n c) (hB : Below u.heap.size u x) {row : Value} {e sz m : Nat} {ys : List Value} (hr : u.ownsRow (w.heap.size + 3) e sz row m ys) (hg : x.grownBy x' row.ownBlock) :
    x'.heap[w.heap.size]? = u.heap[w.heap.size]? ∧ x'.heap[w.heap.size + 1]? = u.heap[w.heap.size + 1]? ∧ x'.heap[w.heap.size + 1 + 1]? = u.heap[w.heap.size + 1 + 1]? ∧ Below w.heap.size w x' := by
  have l0 := (Array.getElem?_eq_some_iff.1 h.b0).1
  have l1 := (Array.getElem?_eq_some_iff.1 h.b1).1
  have l2 := (Array.getElem?_eq_some_iff.1 h.b2).1
  have hs := hB.size
  have hn : ∀ g, row.ownBlock = some g → w.heap.size + 3 ≤ g := fun g e => (own_lt hr g e).2
  refine ⟨(hg.block _ (by omega) fun e => ?_).trans (hB.block _ l0), (hg.block _ (by omega) fun e => ?_).trans (hB.block _ l1), (hg.block _ (by omega) fun e => ?_).trans (hB.block _ l2), (below_next h.bel hB).grown hg (below_next h.bel hB).size (fun g e => by have := hn g e; omega)⟩
  · have := hn _ e.symm; omega
  · have := hn _ e.symm; omega
  · have := hn _ e.symm; omega
theorem CpSt.pushR {w u x x' : World} {S T : Array Value} {fv : Nat → Value} {rs rs' qs : Value} {fl : Nat → List Int} {n c : Nat} (h : CpSt w u S T fv rs qs fl n c) (hn : n < 6) (hB : Below u.heap.size u x) {v : Value} {l : List Int} (ho : x.ownsRow u.heap.size 3 1 v l.length (l.map (.int .i64 ·)))
    (hrow : x'.ownsRow (w.heap.size + 3) 24 1 rs' (n + 1) (((List.range n).map fun k => fv (9 + k)) ++ [v])) (hg : x.grownBy x' rs.ownBlock) (hat : rs'.ownBlock = rs.ownBlock ∨ rs'.ownBlock = some x.heap.size) {old : Value} (hT : T[9]? = some old) :
    (x'.cell? ⟨w.heap.size + 1 + 1, 9, none⟩ = some old ∧ x'.frozen? ⟨w.heap.size + 1 + 1, 9, none⟩ = false) ∧ CpSt w (x'.setCell ⟨w.heap.size + 1 + 1, 9, none⟩ rs') S (T.setIfInBounds 9 rs') (updF fv (9 + n) v) rs' qs (updF fl (9 + n) l) (n + 1) c := by
  obtain ⟨q0, q1, q2, q3⟩ := h.pushX hB h.ow.regs hg
  exact ⟨⟨(cell_of_row _ _ _ _ _ _ (q2.trans h.b2)).trans hT, frozen_of_row _ _ _ _ _ (q2.trans h.b2)⟩, h.put x' q0 q1 q2 (h.ow.pushR hn hB ho hrow hg hat) q3 9 rs'⟩
theorem CpSt.pushQ {w u x x' : World} {S T : Array Value} {fv : Nat → Value} {rs qs qs' : Value} {fl : Nat → List Int} {n c : Nat} (h : CpSt w u S T fv rs qs fl n c) (hn : n ≤ 6) (hB : Below u.heap.size u x) {v : Value} {l : List Int} (ho : x.ownsRow u.heap.size 3 1 v l.length (l.map (.int .i64 ·)))
    (hrow : x'.ownsRow (w.heap.size + 3) 24 1 qs' (c + 1) (((List.range c).map fun k => fv (15 + k)) ++ [v])) (hg : x.grownBy x' qs.ownBlock) (hat : qs'.ownBlock = qs.ownBlock ∨ qs'.ownBlock = some x.heap.size) {old : Value} (hT : T[13]? = some old) :
    (x'.cell? ⟨w.heap.size + 1 + 1, 13, none⟩ = some old ∧ x'.frozen? ⟨w.heap.size + 1 + 1, 13, none⟩ = false) ∧ CpSt w (x'.setCell ⟨w.heap.size + 1 + 1, 13, none⟩ qs') S (T.setIfInBounds 13 qs') (updF fv (15 + c) v) rs qs' (updF fl (15 + c) l) n (c + 1) := by
  obtain ⟨q0, q1, q2, q3⟩ := h.pushX hB h.ow.queue hg
  exact ⟨⟨(cell_of_row _ _ _ _ _ _ (q2.trans h.b2)).trans hT, frozen_of_row _ _ _ _ _ (q2.trans h.b2)⟩, h.put x' q0 q1 q2 (h.ow.pushQ hn hB ho hrow hg hat) q3 13 qs'⟩
theorem flT_R (fl : Nat → List Int) {a b : Nat} (ha : a < 6) : updF (flT fl a b) (9 + a) (fl (9 + a)) = flT fl (a + 1) b := by
  funext i
  unfold updF flT
  by_cases h1 : i = 9 + a
  · subst h1
    rw [if_pos rfl, if_neg (by omega), if_pos (by omega), if_pos (by omega)]
  · rw [if_neg h1]
    by_cases h2 : i ≤ 8
    · rw [if_pos h2, if_pos h2]
    · rw [if_neg h2, if_neg h2]
      by_cases h3 : i < 15
      · rw [if_pos h3, if_pos h3]
        by_cases h4 : i < 9 + a
        · rw [if_pos h4, if_pos (by omega)]
        · rw [if_neg h4, if_neg (by omega)]
      · rw [if_neg h3, if_neg h3]
theorem flT_Q (fl : Nat → List Int) {a b : Nat} : updF (flT fl a b) (15 + b) (fl (15 + b)) = flT fl a (b + 1) := by
  funext i
  unfold updF flT
  by_cases h1 : i = 15 + b
  · subst h1
    rw [if_pos rfl, if_neg (by omega), if_neg (by omega), if_pos (by omega)]
  · rw [if_neg h1]
    by_cases h2 : i ≤ 8
    · rw [if_pos h2, if_pos h2]
    · rw [if_neg h2, if_neg h2]
      by_cases h3 : i < 15
      · rw [if_pos h3, if_pos h3]
      · rw [if_neg h3, if_neg h3]
        by_cases h4 : i < 15 + b
        · rw [if_pos h4, if_pos (by omega)]
        · rw [if_neg h4, if_neg (by omega)]
theorem flT_all {fl : Nat → List Int} {n c : Nat} (hn : n ≤ 6) (hun : ∀ i, (9 + n ≤ i ∧ i < 15) ∨ 15 + c ≤ i → fl i = []) : flT fl n c = fl := by
  funext i
  unfold flT
  by_cases h2 : i ≤ 8
  · rw [if_pos h2]
  · rw [if_neg h2]
    by_cases h3 : i < 15
    · rw [if_pos h3]
      by_cases h4 : i < 9 + n
      · rw [if_pos h4]
      · rw [if_neg h4, hun i (.inl ⟨by omega, h3⟩)]
    · rw [if_neg h3]
      by_cases h4 : i < 15 + c
      · rw [if_pos h4]
      · rw [if_neg h4, hun i (.inr (by omega))]
theorem copy4_any (p : ProgD) (ca : Option Addr) (ccap : Nat) (ta : Option Addr) (tcap : Nat) (fv : Nat → Value) (rs qs : Value) (fl : Nat → List Int) (n c : Nat) (tp : Int) (w : World) (h : Rf w fv rs qs fl n c) (hl : ∀ i, (fl i).length ≤ 1000000) (hn : n ≤ 6) (hc : c ≤ 4) (hun : ∀ i, (9 + n ≤ i ∧ i < 15) ∨ 15 + c ≤ i → fl i = []) :
    Calls Try.prog 57 #[.agg #[.int .i64 p.vars, .int .i64 p.atoms, .int .i64 p.locks, .slice ca p.chans.length ccap, .int .i64 p.groups, .int .i64 p.onces, .slice ta p.threads.length tcap, fv 0, fv 1, rs, fv 2, fv 3, fv 4, qs, fv 5, fv 6, fv 7, fv 8, .int .i64 tp]] w fun e w' => ∃ fv' rs' qs', e = .returned (.agg #[.int .i64 p.vars, .int .i64 p.atoms, .int .i64 p.locks, .slice ca p.chans.length ccap, .int .i64 p.groups, .int .i64 p.onces, .slice ta p.threads.length tcap, fv' 0, fv' 1, rs', fv' 2, fv' 3, fv' 4, qs', fv' 5, fv' 6, fv' 7, fv' 8, .int .i64 tp]) ∧ Ow w' w.heap.size fv' rs' qs' fl n c ∧ Below w.heap.size w w' := by
  obtain ⟨a0, k0, e0, r0⟩ := h.row 0
  obtain ⟨a1, k1, e1, r1⟩ := h.row 1
  obtain ⟨a2, k2, e2, r2⟩ := h.row 2
  obtain ⟨a3, k3, e3, r3⟩ := h.row 3
  obtain ⟨a4, k4, e4, r4⟩ := h.row 4
  obtain ⟨a5, k5, e5, r5⟩ := h.row 5
  obtain ⟨a6, k6, e6, r6⟩ := h.row 6
  obtain ⟨a7, k7, e7, r7⟩ := h.row 7
  obtain ⟨a8, k8, e8, r8⟩ := h.row 8
  have hl0 := hl 0
  have hl1 := hl 1
  have hl2 := hl 2
  have hl3 := hl 3
  have hl4 := hl 4
  have hl5 := hl 5
  have hl6 := hl 6
  have hl7 := hl 7
  have hl8 := hl 8
  obtain ⟨ra, rc, rfl, hR⟩ := h.regs
  obtain ⟨qa, qc, rfl, hQ⟩ := h.queue
  rw [e0, e1, e2, e3, e4, e5, e6, e7, e8]
  have HR0 := Lib.hid r0
  have HR1 := Lib.hid r1
  have HR2 := Lib.hid r2
  have HR3 := Lib.hid r3
  have HR4 := Lib.hid r4
  have HR5 := Lib.hid r5
  have HR6 := Lib.hid r6
  have HR7 := Lib.hid r7
  have HR8 := Lib.hid r8
  have HH := Lib.hid h
  have HRr := Lib.hid hR
  have HQq := Lib.hid hQ
  have HE := Lib.hid (And.intro e0 (And.intro e1 (And.intro e2 (And.intro e3 (And.intro e4 (And.intro e5 (And.intro e6 (And.intro e7 e8))))))))
  have HLn := Lib.hid hl
  have HUn := Lib.hid hun
  clear h hR hQ hl hun r0 r1 r2 r3 r4 r5 r6 r7 r8 e0 e1 e2 e3 e4 e5 e6 e7 e8
  obtain ⟨S, hS⟩ : ∃ S : Array Value, S = #[.int .i64 p.vars, .int .i64 p.atoms, .int .i64 p.locks, .slice ca p.chans.length ccap, .int .i64 p.groups, .int .i64 p.onces, .slice ta p.threads.length tcap, .slice a0 (fl 0).length k0, .slice a1 (fl 1).length k1, .slice ra n rc, .slice a2 (fl 2).length k2, .slice a3 (fl 3).length k3, .slice a4 (fl 4).length k4, .slice qa c qc, .slice a5 (fl 5).length k5, .slice a6 (fl 6).length k6, .slice a7 (fl 7).length k7, .slice a8 (fl 8).length k8, .int .i64 tp] := ⟨_, rfl⟩
  rw [← hS]
  have hSz : (Try.prog.info? 72).map (·.size) = some S.size := by rw [hS]; exact info_S
  have hS19 : S.size = 19 := by rw [hS]; rfl
  have hS1 : S.all (·.oneCell') = true := by rw [hS]; simp only [List.all_toArray, List.all_cons, List.all_nil, Value.oneCell', Bool.and_true]
  have s7 := Lib.hid (show S[7]? = some (.slice a0 (fl 0).length k0) by rw [hS]; rfl)
  have s8 := Lib.hid (show S[8]? = some (.slice a1 (fl 1).length k1) by rw [hS]; rfl)
  have s10 := Lib.hid (show S[10]? = some (.slice a2 (fl 2).length k2) by rw [hS]; rfl)
  have s11 := Lib.hid (show S[11]? = some (.slice a3 (fl 3).length k3) by rw [hS]; rfl)
  have s12 := Lib.hid (show S[12]? = some (.slice a4 (fl 4).length k4) by rw [hS]; rfl)
  have s14 := Lib.hid (show S[14]? = some (.slice a5 (fl 5).length k5) by rw [hS]; rfl)
  have s15 := Lib.hid (show S[15]? = some (.slice a6 (fl 6).length k6) by rw [hS]; rfl)
  have s16 := Lib.hid (show S[16]? = some (.slice a7 (fl 7).length k7) by rw [hS]; rfl)
  have s17 := Lib.hid (show S[17]? = some (.slice a8 (fl 8).length k8) by rw [hS]; rfl)
  have s9 := Lib.hid (show S[9]? = some (.slice ra n rc) by rw [hS]; rfl)
  have s13 := Lib.hid (show S[13]? = some (.slice qa c qc) by rw [hS]; rfl)
  have s18 := Lib.hid (show S[18]? = some (.int .i64 tp) by rw [hS]; rfl)
  have HS := Lib.hid hS
  clear hS
  go_enter Try.func57, Try.ntmps57
  go_upto_region 2 with (first
    | (refine wpList_load_row rfl 72 (.tmp 1) rfl w.heap.size rfl 72 S (0, 0) _ ((Below.heap_alloc _ _ _ (by simp)).trans (heap_alloc_new _ _)) Try.underlying72 rfl hSz ?_)
    | (refine wpList_store_row rfl 72 (.tmp 3) (.tmp 6) rfl (w.heap.size + 1 + 1) _ rfl rfl 72 _ (alloc_at _ _ (by simp)) hSz (by rw [hS19]; rfl) hS1 ?_))
  generalize hU0 : World.setRow _ _ _ = U0
  have HC0 : Hid (CpSt w U0 S S (fun _ => .slice none 0 0) (.slice none 0 0) (.slice none 0 0) (fun _ => []) 0 0) := Lib.hid (by
    rw [← hU0]
    exact ⟨(setRow_other _ _ _ _ (by omega)).trans ((Below.heap_alloc _ _ _ (by simp; omega)).trans ((Below.heap_alloc _ _ _ (by simp)).trans (heap_alloc_new _ _))), (setRow_other _ _ _ _ (by omega)).trans ((Below.heap_alloc _ _ _ (by simp)).trans (heap_alloc2_new _ _ _)), setRow_heap _ _ _ _ _ _ (alloc_at _ _ (by simp)), ⟨⟨fun i => World.ownsRow_nil _ _ _ _, fun i j _ => .inl rfl, by simp⟩, World.ownsRow_nil _ _ _ _, World.ownsRow_nil _ _ _ _, fun i => .inl rfl, fun i => .inl rfl, .inl rfl⟩, below_row ((((Below.refl _ _).alloc (Nat.le_refl _) _).alloc (by simp) _).alloc (by simp; omega) _) (by omega) _⟩)
  have HT0 := Lib.hid (show S = S from rfl)
  clear hU0
  have HA0 := Lib.hid (show ∀ i, 0 < i ∨ i = 9 ∨ i = 13 → S[i]? = S[i]? from fun _ _ => rfl)
  have c0 := HC0.out.c0 7 s7.out
  go_upto_region 3 with (first
    | (go_at_call 79; refine (clone_any a0 k0 (fl 0) U0 (HR0.out.up HC0.out.bel) hl0).mono ?_; rintro e w1 ⟨v, rfl, ho, hB⟩; obtain ⟨v0, m0, rfl⟩ := st_slice ho; obtain ⟨d0, f0⟩ := (HC0.out.later hB).c2 7 ((HA0.out 7 (by decide)).trans s7.out); have HX0 := Lib.hid (HC0.out.clone hB 0 (fun j hj => by omega) (fun j hj => by omega) ho 7); clear ho hB))
  generalize hU1 : World.setCell w1 _ _ = U1
  rw [hU1] at HX0
  have HA1 : Hid (∀ i, 7 < i ∨ i = 9 ∨ i = 13 → (S.setIfInBounds 7 (.slice v0 (fl 0).length m0))[i]? = S[i]?) := Lib.hid (fun i hi => Array.getElem?_setIfInBounds_ne (by omega))
  generalize hT1 : S.setIfInBounds 7 (.slice v0 (fl 0).length m0) = T1 at HX0 HA1
  have HT1 := Lib.hid hT1.symm
  have HC1 := HX0
  clear hU1 HX0 HC0 HA0 c0 d0 f0 hT1
  have c1 := HC1.out.c0 8 s8.out
  go_upto_region 4 with (first
    | (go_at_call 79; refine (clone_any a1 k1 (fl 1) U1 (HR1.out.up HC1.out.bel) hl1).mono ?_; rintro e w2 ⟨v, rfl, ho, hB⟩; obtain ⟨v1, m1, rfl⟩ := st_slice ho; obtain ⟨d1, f1⟩ := (HC1.out.later hB).c2 8 ((HA1.out 8 (by decide)).trans s8.out); have HX1 := Lib.hid (HC1.out.clone hB 1 (fun j hj => by omega) (fun j hj => by omega) ho 8); clear ho hB))
  generalize hU2 : World.setCell w2 _ _ = U2
  rw [hU2] at HX1
  have HA2 : Hid (∀ i, 8 < i ∨ i = 9 ∨ i = 13 → (T1.setIfInBounds 8 (.slice v1 (fl 1).length m1))[i]? = S[i]?) := Lib.hid (fun i hi => (Array.getElem?_setIfInBounds_ne (by omega)).trans (HA1.out i (by omega)))
  generalize hT2 : T1.setIfInBounds 8 (.slice v1 (fl 1).length m1) = T2 at HX1 HA2
  have HT2 := Lib.hid hT2.symm
  have HC2 := HX1
  clear hU2 HX1 HC1 HA1 c1 d1 f1 hT2
  have c2 := HC2.out.c0 10 s10.out
  go_upto_region 5 with (first
    | (go_at_call 79; refine (clone_any a2 k2 (fl 2) U2 (HR2.out.up HC2.out.bel) hl2).mono ?_; rintro e w3 ⟨v, rfl, ho, hB⟩; obtain ⟨v2, m2, rfl⟩ := st_slice ho; obtain ⟨d2, f2⟩ := (HC2.out.later hB).c2 10 ((HA2.out 10 (by decide)).trans s10.out); have HX2 := Lib.hid (HC2.out.clone hB 2 (fun j hj => by omega) (fun j hj => by omega) ho 10); clear ho hB))
  generalize hU3 : World.setCell w3 _ _ = U3
  rw [hU3] at HX2
  have HA3 : Hid (∀ i, 10 < i ∨ i = 9 ∨ i = 13 → (T2.setIfInBounds 10 (.slice v2 (fl 2).length m2))[i]? = S[i]?) := Lib.hid (fun i hi => (Array.getElem?_setIfInBounds_ne (by omega)).trans (HA2.out i (by omega)))
  generalize hT3 : T2.setIfInBounds 10 (.slice v2 (fl 2).length m2) = T3 at HX2 HA3
  have HT3 := Lib.hid hT3.symm
  have HC3 := HX2
  clear hU3 HX2 HC2 HA2 c2 d2 f2 hT3
  have c3 := HC3.out.c0 11 s11.out
  go_upto_region 6 with (first
    | (go_at_call 79; refine (clone_any a3 k3 (fl 3) U3 (HR3.out.up HC3.out.bel) hl3).mono ?_; rintro e w4 ⟨v, rfl, ho, hB⟩; obtain ⟨v3, m3, rfl⟩ := st_slice ho; obtain ⟨d3, f3⟩ := (HC3.out.later hB).c2 11 ((HA3.out 11 (by decide)).trans s11.out); have HX3 := Lib.hid (HC3.out.clone hB 3 (fun j hj => by omega) (fun j hj => by omega) ho 11); clear ho hB))
  generalize hU4 : World.setCell w4 _ _ = U4
  rw [hU4] at HX3
  have HA4 : Hid (∀ i, 11 < i ∨ i = 9 ∨ i = 13 → (T3.setIfInBounds 11 (.slice v3 (fl 3).length m3))[i]? = S[i]?) := Lib.hid (fun i hi => (Array.getElem?_setIfInBounds_ne (by omega)).trans (HA3.out i (by omega)))
  generalize hT4 : T3.setIfInBounds 11 (.slice v3 (fl 3).length m3) = T4 at HX3 HA4
  have HT4 := Lib.hid hT4.symm
  have HC4 := HX3
  clear hU4 HX3 HC3 HA3 c3 d3 f3 hT4
  have c4 := HC4.out.c0 12 s12.out
  go_upto_region 7 with (first
    | (go_at_call 79; refine (clone_any a4 k4 (fl 4) U4 (HR4.out.up HC4.out.bel) hl4).mono ?_; rintro e w5 ⟨v, rfl, ho, hB⟩; obtain ⟨v4, m4, rfl⟩ := st_slice ho; obtain ⟨d4, f4⟩ := (HC4.out.later hB).c2 12 ((HA4.out 12 (by decide)).trans s12.out); have HX4 := Lib.hid (HC4.out.clone hB 4 (fun j hj => by omega) (fun j hj => by omega) ho 12); clear ho hB))
  generalize hU5 : World.setCell w5 _ _ = U5
  rw [hU5] at HX4
  have HA5 : Hid (∀ i, 12 < i ∨ i = 9 ∨ i = 13 → (T4.setIfInBounds 12 (.slice v4 (fl 4).length m4))[i]? = S[i]?) := Lib.hid (fun i hi => (Array.getElem?_setIfInBounds_ne (by omega)).trans (HA4.out i (by omega)))
  generalize hT5 : T4.setIfInBounds 12 (.slice v4 (fl 4).length m4) = T5 at HX4 HA5
  have HT5 := Lib.hid hT5.symm
  have HC5 := HX4
  clear hU5 HX4 HC4 HA4 c4 d4 f4 hT5
  have c5 := HC5.out.c0 14 s14.out
  go_upto_region 8 with (first
    | (go_at_call 79; refine (clone_any a5 k5 (fl 5) U5 (HR5.out.up HC5.out.bel) hl5).mono ?_; rintro e w6 ⟨v, rfl, ho, hB⟩; obtain ⟨v5, m5, rfl⟩ := st_slice ho; obtain ⟨d5, f5⟩ := (HC5.out.later hB).c2 14 ((HA5.out 14 (by decide)).trans s14.out); have HX5 := Lib.hid (HC5.out.clone hB 5 (fun j hj => by omega) (fun j hj => by omega) ho 14); clear ho hB))
  generalize hU6 : World.setCell w6 _ _ = U6
  rw [hU6] at HX5
  have HA6 : Hid (∀ i, 14 < i ∨ i = 9 ∨ i = 13 → (T5.setIfInBounds 14 (.slice v5 (fl 5).length m5))[i]? = S[i]?) := Lib.hid (fun i hi => (Array.getElem?_setIfInBounds_ne (by omega)).trans (HA5.out i (by omega)))
  generalize hT6 : T5.setIfInBounds 14 (.slice v5 (fl 5).length m5) = T6 at HX5 HA6
  have HT6 := Lib.hid hT6.symm
  have HC6 := HX5
  clear hU6 HX5 HC5 HA5 c5 d5 f5 hT6
  have c6 := HC6.out.c0 15 s15.out
  go_upto_region 9 with (first
    | (go_at_call 79; refine (clone_any a6 k6 (fl 6) U6 (HR6.out.up HC6.out.bel) hl6).mono ?_; rintro e w7 ⟨v, rfl, ho, hB⟩; obtain ⟨v6, m6, rfl⟩ := st_slice ho; obtain ⟨d6, f6⟩ := (HC6.out.later hB).c2 15 ((HA6.out 15 (by decide)).trans s15.out); have HX6 := Lib.hid (HC6.out.clone hB 6 (fun j hj => by omega) (fun j hj => by omega) ho 15); clear ho hB))
  generalize hU7 : World.setCell w7 _ _ = U7
  rw [hU7] at HX6
  have HA7 : Hid (∀ i, 15 < i ∨ i = 9 ∨ i = 13 → (T6.setIfInBounds 15 (.slice v6 (fl 6).length m6))[i]? = S[i]?) := Lib.hid (fun i hi => (Array.getElem?_setIfInBounds_ne (by omega)).trans (HA6.out i (by omega)))
  generalize hT7 : T6.setIfInBounds 15 (.slice v6 (fl 6).length m6) = T7 at HX6 HA7
  have HT7 := Lib.hid hT7.symm
  have HC7 := HX6
  clear hU7 HX6 HC6 HA6 c6 d6 f6 hT7
  have c7 := HC7.out.c0 16 s16.out
  go_upto_region 10 with (first
    | (go_at_call 79; refine (clone_any a7 k7 (fl 7) U7 (HR7.out.up HC7.out.bel) hl7).mono ?_; rintro e w8 ⟨v, rfl, ho, hB⟩; obtain ⟨v7, m7, rfl⟩ := st_slice ho; obtain ⟨d7, f7⟩ := (HC7.out.later hB).c2 16 ((HA7.out 16 (by decide)).trans s16.out); have HX7 := Lib.hid (HC7.out.clone hB 7 (fun j hj => by omega) (fun j hj => by omega) ho 16); clear ho hB))
  generalize hU8 : World.setCell w8 _ _ = U8
  rw [hU8] at HX7
  have HA8 : Hid (∀ i, 16 < i ∨ i = 9 ∨ i = 13 → (T7.setIfInBounds 16 (.slice v7 (fl 7).length m7))[i]? = S[i]?) := Lib.hid (fun i hi => (Array.getElem?_setIfInBounds_ne (by omega)).trans (HA7.out i (by omega)))
  generalize hT8 : T7.setIfInBounds 16 (.slice v7 (fl 7).length m7) = T8 at HX7 HA8
  have HT8 := Lib.hid hT8.symm
  have HC8 := HX7
  clear hU8 HX7 HC7 HA7 c7 d7 f7 hT8
  have c8 := HC8.out.c0 17 s17.out
  go_upto_region 11 with (first
    | (go_at_call 79; refine (clone_any a8 k8 (fl 8) U8 (HR8.out.up HC8.out.bel) hl8).mono ?_; rintro e w9 ⟨v, rfl, ho, hB⟩; obtain ⟨v8, m8, rfl⟩ := st_slice ho; obtain ⟨d8, f8⟩ := (HC8.out.later hB).c2 17 ((HA8.out 17 (by decide)).trans s17.out); have HX8 := Lib.hid (HC8.out.clone hB 8 (fun j hj => by omega) (fun j hj => by omega) ho 17); clear ho hB))
  generalize hU9 : World.setCell w9 _ _ = U9
  rw [hU9] at HX8
  have HA9 : Hid (∀ i, 17 < i ∨ i = 9 ∨ i = 13 → (T8.setIfInBounds 17 (.slice v8 (fl 8).length m8))[i]? = S[i]?) := Lib.hid (fun i hi => (Array.getElem?_setIfInBounds_ne (by omega)).trans (HA8.out i (by omega)))
  generalize hT9 : T8.setIfInBounds 17 (.slice v8 (fl 8).length m8) = T9 at HX8 HA9
  have HT9 := Lib.hid hT9.symm
  have HC9 := HX8
  clear hU9 HX8 HC8 HA8 c8 d8 f8 hT9
  obtain ⟨d9, f9⟩ := HC9.out.c2 9 ((HA9.out 9 (by decide)).trans s9.out)
  go_upto_region 12 with (fail)
  have HX9 := Lib.hid (HC9.out.put U9 rfl rfl rfl HC9.out.ow HC9.out.bel 9 (.slice none 0 0))
  generalize hV0 : World.setCell U9 _ _ = V0
  rw [hV0] at HX9
  generalize hTR : T9.setIfInBounds 9 (.slice none 0 0) = TR at HX9
  have HTR := Lib.hid hTR.symm
  have HSz9 : Hid (T9.size = 19) := Lib.hid (by rw [HT9.out, HT8.out, HT7.out, HT6.out, HT5.out, HT4.out, HT3.out, HT2.out, HT1.out]; simp only [Array.size_setIfInBounds]; exact hS19)
  clear hV0 hTR d9 f9
  have hF0 : (updF (updF (updF (updF (updF (updF (updF (updF (updF (fun _ => []) 0 (fl 0)) 1 (fl 1)) 2 (fl 2)) 3 (fl 3)) 4 (fl 4)) 5 (fl 5)) 6 (fl 6)) 7 (fl 7)) 8 (fl 8)) = flT fl 0 0 := by
    funext i
    rcases Nat.lt_or_ge i 9 with h9 | h9
    · match i, h9 with
      | 0, _ => rfl
      | 1, _ => rfl
      | 2, _ => rfl
      | 3, _ => rfl
      | 4, _ => rfl
      | 5, _ => rfl
      | 6, _ => rfl
      | 7, _ => rfl
      | 8, _ => rfl
    · rw [updF_ne _ _ (by omega), updF_ne _ _ (by omega), updF_ne _ _ (by omega), updF_ne _ _ (by omega), updF_ne _ _ (by omega), updF_ne _ _ (by omega), updF_ne _ _ (by omega), updF_ne _ _ (by omega), updF_ne _ _ (by omega)]
      unfold flT
      rw [if_neg (by omega)]
      by_cases h15 : i < 15
      · rw [if_pos h15, if_neg (by omega)]
      · rw [if_neg h15, if_neg (by omega)]
  rw [hF0] at HX9
  clear hF0
  generalize hFV : ((updF (updF (updF (updF (updF (updF (updF (updF (updF (fun _ => Value.slice none 0 0) 0 (Value.slice v0 (fl 0).length m0)) 1 (Value.slice v1 (fl 1).length m1)) 2 (Value.slice v2 (fl 2).length m2)) 3 (Value.slice v3 (fl 3).length m3)) 4 (Value.slice v4 (fl 4).length m4)) 5 (Value.slice v5 (fl 5).length m5)) 6 (Value.slice v6 (fl 6).length m6)) 7 (Value.slice v7 (fl 7).length m7)) 8 (Value.slice v8 (fl 8).length m8)) : Nat → Value) = fw0 at HX9
  have HFV := Lib.hid hFV.symm
  have q1 : TR[9]? = some (.slice none 0 0) := by rw [HTR.out, Array.getElem?_setIfInBounds_self_of_lt (by rw [HSz9.out]; decide)]
  have q2 : TR.size = 19 := by rw [HTR.out, Array.size_setIfInBounds, HSz9.out]
  have HQ1 := Lib.hid q1
  have HQ2 := Lib.hid q2
  have q3 : TR[13]? = some (.slice qa c qc) := by rw [HTR.out, Array.getElem?_setIfInBounds_ne (by decide)]; exact (HA9.out 13 (by decide)).trans s13.out
  have HQ3 := Lib.hid q3
  have q4 : TR = #[.int .i64 p.vars, .int .i64 p.atoms, .int .i64 p.locks, .slice ca p.chans.length ccap, .int .i64 p.groups, .int .i64 p.onces, .slice ta p.threads.length tcap, .slice v0 (fl 0).length m0, .slice v1 (fl 1).length m1, .slice none 0 0, .slice v2 (fl 2).length m2, .slice v3 (fl 3).length m3, .slice v4 (fl 4).length m4, .slice qa c qc, .slice v5 (fl 5).length m5, .slice v6 (fl 6).length m6, .slice v7 (fl 7).length m7, .slice v8 (fl 8).length m8, .int .i64 tp] := by
    rw [HTR.out, HT9.out, HT8.out, HT7.out, HT6.out, HT5.out, HT4.out, HT3.out, HT2.out, HT1.out, HS.out]
    kernel_rfl
  have HQ4 := Lib.hid q4
  clear q3 q4
  clear hFV q1 q2 HC9 HA9 HTR HSz9 HT1 HT2 HT3 HT4 HT5 HT6 HT7 HT8 HT9
  obtain ⟨t0, ti, tz0, tz1, tz2⟩ := info_parts info_sliceT
  go_wp2_with fail
  go_loopw [4] (fun i u => ∃ (k : Nat) (T : Array Value) (fw : Nat → Value) (rv : Value), k ≤ n ∧ i = .int .i64 k ∧ Hid (CpSt w u S T fw rv (.slice none 0 0) (flT fl k 0) k 0) ∧ Hid (T[9]? = some rv ∧ (∀ i, i ≠ 9 → T[i]? = TR[i]?) ∧ T.size = 19) ∧ Hid (∀ i, i ≤ 8 → fw i = fw0 i)) (fun i _ => n - (intOf i).toNat)
  case atStart => exact ⟨0, TR, fw0, .slice none 0 0, Nat.zero_le _, rfl, HX9, Lib.hid ⟨HQ1.out, fun _ _ => rfl, HQ2.out⟩, Lib.hid fun i _ => rfl⟩
  case round =>
    obtain ⟨k, T, fw, rv, hk, rfl, HZ, HT, HFw⟩ := hrel
    by_cases hlt : k < n
    · obtain ⟨g, off, rfl, hg, hcell⟩ := HRr.out k hlt
      obtain ⟨a', cap', e', r'⟩ := HH.out.row (9 + k)
      rw [e'] at hcell
      have hBw := HZ.out.bel
      have hcell' := (hBw.cell (p := ⟨g, off + k, none⟩) hg).trans hcell
      have hll := HLn.out (9 + k)
      have HX : Hid (∀ u, Below wr.heap.size wr u → Calls Try.prog 79 #[.slice a' (fl (9 + k)).length cap'] u fun e w' => ∃ v, e = .returned v ∧ w'.ownsRow u.heap.size 3 1 v (fl (9 + k)).length ((fl (9 + k)).map (.int .i64 ·)) ∧ Below u.heap.size u w') := Lib.hid (fun u hu => clone_any a' cap' (fl (9 + k)) u (r'.up (below_next hBw hu)) hll)
      obtain ⟨rva, rvc, rfl⟩ := st_slice HZ.out.ow.regs
      have c9 := HZ.out.c0 9 s9.out
      have d9 := (HZ.out.c2 9 HT.out.1).1
      have hlb := cell_lt d9
      have hw3 : w.heap.size + 3 ≤ wr.heap.size := HZ.out.ow.fam.top
      have hk6 : k < 6 := by omega
      clear hcell e' r' hBw
      go_wp2_with fail
      go_region_law (first
        | (go_simp; go_at_call 79; refine (HX.out _ (by first | exact (Below.refl _ _).drew)).mono ?_; rintro e w2 ⟨v, rfl, hown, hB2⟩; have hB3 : Below wr.heap.size wr w2 := (Below.refl _ wr).drew.trans hB2; have d0 : w2.cell? ⟨w.heap.size + 1 + 1, 9, none⟩ = some (.slice rva k rvc) := (hB3.cell (p := ⟨w.heap.size + 1 + 1, 9, none⟩) hlb).trans d9; have d0' : ∀ o, (w2.alloc o).cell? ⟨w.heap.size + 1 + 1, 9, none⟩ = some (.slice rva k rvc) := fun o => Lib.cell?_alloc_some _ d0; have HO := Lib.hid hown; have HB3 := Lib.hid hB3; obtain ⟨va, vc, rfl⟩ := st_slice hown; clear hown hB2 hB3)
        | ((rw [if_pos (by rfl)]); refine wp_append_own_at _ (.tmp 52) (.tmp 59) 70 rfl (w.heap.size + 3) 24 t0 (.slice none 0 0) 1 24 Try.underlying70 ti tz0 tz1 tz2 rfl (by decide) (.slice rva k rvc) k ((List.range k).map fun j => fw (9 + j)) rfl (own_later (own_later HZ.out.ow.regs HB3.out) (by first | exact below_box w2 _ | exact (below_box w2 _).drew)) ⟨w2.heap.size, 0, none⟩ 1 1 [.slice va (fl (9 + k)).length vc] rfl rfl (by first | exact st_one_new0 _ _ _ | exact st_one_new _ _ _) (by simp [Value.oneCell']) (by unfold maxLen; omega) (by omega) (by have := HB3.out.size; simp; omega) ?_; intro rv' w4 hown4 hgrow4 _ hat4; obtain ⟨⟨hcb, hfb⟩, hst⟩ := HZ.out.pushR hk6 (x' := w4) (below_next HB3.out (by first | exact below_box w2 _ | exact (below_box w2 _).drew)) (own_later HO.out (by first | exact below_box w2 _ | exact (below_box w2 _).drew)) hown4 hgrow4 hat4 HT.out.1; have HSt := Lib.hid hst; obtain ⟨ta4, tc4, rfl⟩ := st_slice hown4; clear hst hown4 hgrow4 hat4))
      all_goals
        go_wp2
        go_roundw
        case rel =>
          refine ⟨k + 1, _, _, _, by omega, by go_num, Lib.hid (by have h := HSt.out; rw [flT_R fl hk6] at h; exact h), Lib.hid ⟨?_, ?_, ?_⟩, Lib.hid ?_⟩
          · rw [Array.getElem?_setIfInBounds_self_of_lt (by rw [HT.out.2.2]; decide)]
          · intro i hi
            rw [Array.getElem?_setIfInBounds_ne (fun e => hi e.symm)]; exact HT.out.2.1 i hi
          · rw [Array.size_setIfInBounds]; exact HT.out.2.2
          · intro i hi
            rw [updF_ne _ _ (by omega)]; exact HFw.out i hi
        case measure => simp [intOf]; omega
    · obtain rfl : n = k := by omega
      have c9 := HZ.out.c0 9 s9.out
      obtain ⟨d13, f13⟩ := HZ.out.c2 13 ((HT.out.2.1 13 (by decide)).trans HQ3.out)
      obtain ⟨rva, rvc, rfl⟩ := st_slice HZ.out.ow.regs
      go_upto_region 17 with (fail)
      have HY := Lib.hid (HZ.out.put wr rfl rfl rfl HZ.out.ow HZ.out.bel 13 (.slice none 0 0))
      generalize hV1 : World.setCell wr _ _ = V1
      rw [hV1] at HY
      generalize hTQ : T.setIfInBounds 13 (.slice none 0 0) = TQ at HY
      have g1 : TQ[13]? = some (.slice none 0 0) := by rw [← hTQ, Array.getElem?_setIfInBounds_self_of_lt (by rw [HT.out.2.2]; decide)]
      have g2 : TQ.size = 19 := by rw [← hTQ, Array.size_setIfInBounds]; exact HT.out.2.2
      have g3 : ∀ i, i ≠ 13 → TQ[i]? = T[i]? := fun i hi => by rw [← hTQ, Array.getElem?_setIfInBounds_ne (fun e => hi e.symm)]
      have HG1 := Lib.hid g1
      have HG2 := Lib.hid g2
      have HG3 := Lib.hid g3
      have HK9 := Lib.hid HT.out.1
      have HKo := Lib.hid HT.out.2.1
      clear hV1 hTQ g1 g2 g3 d13 f13 c9
      go_wp2_with fail
      go_loopw [5] (fun i u => ∃ (k : Nat) (T' : Array Value) (fx : Nat → Value) (qv : Value), k ≤ c ∧ i = .int .i64 k ∧ Hid (CpSt w u S T' fx (.slice rva n rvc) qv (flT fl n k) n k) ∧ Hid (T'[13]? = some qv ∧ (∀ i, i ≠ 13 → T'[i]? = TQ[i]?) ∧ T'.size = 19) ∧ Hid (∀ i, i ≤ 8 → fx i = fw i)) (fun i _ => c - (intOf i).toNat)
      case atStart => exact ⟨0, TQ, fw, .slice none 0 0, Nat.zero_le _, rfl, HY, Lib.hid ⟨HG1.out, fun _ _ => rfl, HG2.out⟩, Lib.hid fun i _ => rfl⟩
      case round =>
        clear HT HZ
        obtain ⟨k, T', fx, qv, hk, rfl, HZ, HT, HFx⟩ := hrel
        by_cases hlt : k < c
        · obtain ⟨g, off, rfl, hg, hcell⟩ := HQq.out k hlt
          obtain ⟨a', cap', e', r'⟩ := HH.out.row (15 + k)
          rw [e'] at hcell
          have hBw := HZ.out.bel
          have hcell' := (hBw.cell (p := ⟨g, off + k, none⟩) hg).trans hcell
          have hll := HLn.out (15 + k)
          have HX : Hid (∀ u, Below wr.heap.size wr u → Calls Try.prog 79 #[.slice a' (fl (15 + k)).length cap'] u fun e w' => ∃ v, e = .returned v ∧ w'.ownsRow u.heap.size 3 1 v (fl (15 + k)).length ((fl (15 + k)).map (.int .i64 ·)) ∧ Below u.heap.size u w') := Lib.hid (fun u hu => clone_any a' cap' (fl (15 + k)) u (r'.up (below_next hBw hu)) hll)
          obtain ⟨qva, qvc, rfl⟩ := st_slice HZ.out.ow.queue
          have c13 := HZ.out.c0 13 s13.out
          have d9 := (HZ.out.c2 13 HT.out.1).1
          have hlb := cell_lt d9
          have hw3 : w.heap.size + 3 ≤ wr.heap.size := HZ.out.ow.fam.top
          clear hcell e' r' hBw
          go_wp2_with fail
          go_region_law (first
            | (go_simp; go_at_call 79; refine (HX.out _ (by first | exact (Below.refl _ _).drew)).mono ?_; rintro e w2 ⟨v, rfl, hown, hB2⟩; have hB3 : Below wr.heap.size wr w2 := (Below.refl _ wr).drew.trans hB2; have d0 : w2.cell? ⟨w.heap.size + 1 + 1, 13, none⟩ = some (.slice qva k qvc) := (hB3.cell (p := ⟨w.heap.size + 1 + 1, 13, none⟩) hlb).trans d9; have d0' : ∀ o, (w2.alloc o).cell? ⟨w.heap.size + 1 + 1, 13, none⟩ = some (.slice qva k qvc) := fun o => Lib.cell?_alloc_some _ d0; have HO := Lib.hid hown; have HB3 := Lib.hid hB3; obtain ⟨va, vc, rfl⟩ := st_slice hown; clear hown hB2 hB3)
            | ((rw [if_pos (by rfl)]); refine wp_append_own_at _ (.tmp 71) (.tmp 78) 70 rfl (w.heap.size + 3) 24 t0 (.slice none 0 0) 1 24 Try.underlying70 ti tz0 tz1 tz2 rfl (by decide) (.slice qva k qvc) k ((List.range k).map fun j => fx (15 + j)) rfl (own_later (own_later HZ.out.ow.queue HB3.out) (by first | exact below_box w2 _ | exact (below_box w2 _).drew)) ⟨w2.heap.size, 0, none⟩ 1 1 [.slice va (fl (15 + k)).length vc] rfl rfl (by first | exact st_one_new0 _ _ _ | exact st_one_new _ _ _) (by simp [Value.oneCell']) (by unfold maxLen; omega) (by omega) (by have := HB3.out.size; simp; omega) ?_; intro rv' w4 hown4 hgrow4 _ hat4; obtain ⟨⟨hcb, hfb⟩, hst⟩ := HZ.out.pushQ hn (x' := w4) (below_next HB3.out (by first | exact below_box w2 _ | exact (below_box w2 _).drew)) (own_later HO.out (by first | exact below_box w2 _ | exact (below_box w2 _).drew)) hown4 hgrow4 hat4 HT.out.1; have HSt := Lib.hid hst; obtain ⟨ta4, tc4, rfl⟩ := st_slice hown4; clear hst hown4 hgrow4 hat4))
          all_goals
            go_wp2
            go_roundw
            case rel =>
              refine ⟨k + 1, _, _, _, by omega, by go_num, Lib.hid (by have h := HSt.out; rw [flT_Q fl] at h; exact h), Lib.hid ⟨?_, ?_, ?_⟩, Lib.hid ?_⟩
              · rw [Array.getElem?_setIfInBounds_self_of_lt (by rw [HT.out.2.2]; decide)]
              · intro i hi
                rw [Array.getElem?_setIfInBounds_ne (fun e => hi e.symm)]; exact HT.out.2.1 i hi
              · rw [Array.size_setIfInBounds]; exact HT.out.2.2
              · intro i hi
                rw [updF_ne _ _ (by omega)]; exact HFx.out i hi
            case measure => simp [intOf]; omega
        · obtain rfl : c = k := by omega
          have c13 := HZ.out.c0 13 s13.out
          obtain ⟨qva, qvc, rfl⟩ := st_slice HZ.out.ow.queue
          have hTl : T' = #[.int .i64 p.vars, .int .i64 p.atoms, .int .i64 p.locks, .slice ca p.chans.length ccap, .int .i64 p.groups, .int .i64 p.onces, .slice ta p.threads.length tcap, .slice v0 (fl 0).length m0, .slice v1 (fl 1).length m1, .slice rva n rvc, .slice v2 (fl 2).length m2, .slice v3 (fl 3).length m3, .slice v4 (fl 4).length m4, .slice qva c qvc, .slice v5 (fl 5).length m5, .slice v6 (fl 6).length m6, .slice v7 (fl 7).length m7, .slice v8 (fl 8).length m8, .int .i64 tp] := by
            refine Array.ext_getElem? fun i => ?_
            by_cases e13 : i = 13
            · subst e13; rw [HT.out.1]; rfl
            · rw [HT.out.2.1 i e13, HG3.out i e13]
              by_cases e9 : i = 9
              · subst e9; rw [HK9.out]; rfl
              · rw [HKo.out i e9, HQ4.out]
                match i, e9, e13 with
              | 0, _, _ => rfl
              | 1, _, _ => rfl
              | 2, _, _ => rfl
              | 3, _, _ => rfl
              | 4, _, _ => rfl
              | 5, _, _ => rfl
              | 6, _, _ => rfl
              | 7, _, _ => rfl
              | 8, _, _ => rfl
              | 10, _, _ => rfl
              | 11, _, _ => rfl
              | 12, _, _ => rfl
              | 14, _, _ => rfl
              | 15, _, _ => rfl
              | 16, _, _ => rfl
              | 17, _, _ => rfl
              | 18, _, _ => rfl
              | 9, h, _ => exact absurd rfl h
              | 13, _, h => exact absurd rfl h
              | i + 19, _, _ => rfl
          have hTz : (Try.prog.info? 72).map (·.size) = some T'.size := by rw [hTl]; exact info_S
          have hT1 : T'.all (·.oneCell') = true := by rw [hTl]; simp only [List.all_toArray, List.all_cons, List.all_nil, Value.oneCell', Bool.and_true]
          have hT19 : 19 = T'.size := HT.out.2.2.symm
          have HTl := Lib.hid hTl
          clear hTl
          go_wp2_with (first
            | (refine wpList_load_row rfl 72 (.tmp 3) rfl (w.heap.size + 1 + 1) rfl 72 T' (0, 0) _ HZ.out.b2 Try.underlying72 rfl hTz ?_)
            | (refine wpList_store_row rfl 72 (.tmp 2) (.tmp 81) rfl (w.heap.size + 1) _ rfl rfl 72 _ HZ.out.b1 hTz hT19 hT1 ?_))
          refine bodyPost_ret (v := .agg T') (results_cell_row rfl _ _ (w.heap.size + 1) 72 _ (0, 0) _ rfl (setRow_heap _ _ _ _ _ _ HZ.out.b1) Try.underlying72 rfl hTz) rfl ⟨fx, .slice rva n rvc, .slice qva c qvc, ?_, ?_, below_row HZ.out.bel (by omega) _⟩
          · have e : ∀ i, i ≤ 8 → fx i = fw0 i := fun i hi => (HFx.out i hi).trans (HFw.out i hi)
            rw [e 0 (by decide), e 1 (by decide), e 2 (by decide), e 3 (by decide), e 4 (by decide), e 5 (by decide), e 6 (by decide), e 7 (by decide), e 8 (by decide), HTl.out, HFV.out]
            rfl
          · have h := HZ.out.ow
            rw [flT_all hn HUn.out] at h
            exact h.row (by omega) _
theorem number4_any (b : Bool) (w : World) : Calls Try.prog 58 #[.bool b] w fun e w' => e = .returned (.int .i64 (bitN b)) ∧ w = w' := by
  rcases b with _ | _
  all_goals
    go_enter Try.func58, Try.ntmps58
    go_wp2
    go_ret
    exact ⟨rfl, rfl⟩
/-- The cells of the document's state. -/
structure SV (S : Array Value) (p : ProgD) (ca : Option Addr) (ccap : Nat) (ta : Option Addr) (tcap : Nat) (fv : Nat → Value) (rs qs : Value) (tp : Int) : Prop where
  eq : S = #[.int .i64 p.vars, .int .i64 p.atoms, .int .i64 p.locks, .slice ca p.chans.length ccap, .int .i64 p.groups, .int .i64 p.onces, .slice ta p.threads.length tcap, fv 0, fv 1, rs, fv 2, fv 3, fv 4, qs, fv 5, fv 6, fv 7, fv 8, .int .i64 tp]
/-- Of a state in its box and an instruction in its: their cells. -/
theorem sv_box {w : World} {S : Array Value} {o : Obj} {t : TypeId} : ((w.alloc (.cells S t)).alloc o).heap[w.heap.size]? = some (.cells S t) := (Below.heap_alloc _ _ _ (by simp)).trans (heap_alloc_new _ _)
/-- A number of a row of the state. -/
theorem Rf.num {u : World} {fv : Nat → Value} {rs qs : Value} {fl : Nat → List Int} {n c : Nat} (h : Rf u fv rs qs fl n c) {i k : Nat} {x : Int} (hx : (fl i)[k]? = some x) : ∃ g off cap, fv i = .slice (some ⟨g, off, none⟩) (fl i).length cap ∧ g < u.heap.size ∧ u.cell? ⟨g, off + k, none⟩ = some (.int .i64 x) ∧ k < (fl i).length := by
  obtain ⟨a, cap, e, hr⟩ := h.row i
  obtain ⟨g, off, rfl, h2, h3⟩ := hr k x hx
  exact ⟨g, off, cap, e, h2, h3, (List.getElem?_eq_some_iff.1 hx).1⟩
/-- What it waits for: one number of a row. -/
def blockedF (fl : Nat → List Int) (chans : List Int) (x : InsD) : Bool :=
  match x.op with
  | 13 => ((fl 4)[x.a.toNat]?).getD 0 != 0
  | 15 => ((fl 4)[x.a.toNat]?).getD 0 == -1
  | 20 => ((fl 5)[x.a.toNat]?).getD 0 == 0 && ((fl (15 + x.a.toNat)).length : Int) == (chans[x.a.toNat]?).getD 0
  | 21 => ((fl 5)[x.b.toNat]?).getD 0 == 0 && ((fl (15 + x.b.toNat)).length : Int) == 0
  | 25 => decide (0 < ((fl 6)[x.a.toNat]?).getD 0)
  | 26 => ((fl 7)[x.b.toNat]?).getD 0 == 1
  | _ => false
theorem blocked4_13 (S : Array Value) (p : ProgD) (ca : Option Addr) (ccap : Nat) (ta : Option Addr) (tcap : Nat) (fv : Nat → Value) (rs qs : Value) (fl : Nat → List Int) (n c : Nat) (tp : Int) (w : World) (hS : SV S p ca ccap ta tcap fv rs qs tp) (hR : Rf w fv rs qs fl n c) (A : Nat) (B C v : Int) (hv : (fl 4)[A]? = some v) (hl : (fl 4).length ≤ 1000000) :
    Calls Try.prog 78 #[.agg S, .agg #[.int .u8 13, .int .i64 A, .int .i64 B, .int .i64 C]] w fun e w' => e = .returned (.bool (v != 0)) ∧ Below w.heap.size w w' := by
  obtain ⟨g, off, cap, e, hg, hc, hk⟩ := hR.num hv
  have s0 : S[12]? = some (fv 4) := by rw [hS.eq]; rfl
  rw [e] at s0
  have c0 : ∀ o, ((w.alloc (.cells S 72)).alloc o).cell? ⟨w.heap.size, 12, none⟩ = some (.slice (some ⟨g, off, none⟩) (fl 4).length cap) := fun o => (cell_of_row _ _ _ _ _ _ sv_box).trans s0
  have d : ∀ o o', ((w.alloc o).alloc o').cell? ⟨g, off + A, none⟩ = some (.int .i64 v) := fun o o' => ((below_two w o o').cell (p := ⟨g, off + A, none⟩) hg).trans hc
  clear hS hR hv e s0 hc
  go_enter Try.func78, Try.ntmps78
  go_wp2
  go_ret
  exact ⟨rfl, below_two _ _ _⟩
theorem blocked4_15 (S : Array Value) (p : ProgD) (ca : Option Addr) (ccap : Nat) (ta : Option Addr) (tcap : Nat) (fv : Nat → Value) (rs qs : Value) (fl : Nat → List Int) (n c : Nat) (tp : Int) (w : World) (hS : SV S p ca ccap ta tcap fv rs qs tp) (hR : Rf w fv rs qs fl n c) (A : Nat) (B C v : Int) (hv : (fl 4)[A]? = some v) (hl : (fl 4).length ≤ 1000000) :
    Calls Try.prog 78 #[.agg S, .agg #[.int .u8 15, .int .i64 A, .int .i64 B, .int .i64 C]] w fun e w' => e = .returned (.bool (v == -1)) ∧ Below w.heap.size w w' := by
  obtain ⟨g, off, cap, e, hg, hc, hk⟩ := hR.num hv
  have s0 : S[12]? = some (fv 4) := by rw [hS.eq]; rfl
  rw [e] at s0
  have c0 : ∀ o, ((w.alloc (.cells S 72)).alloc o).cell? ⟨w.heap.size, 12, none⟩ = some (.slice (some ⟨g, off, none⟩) (fl 4).length cap) := fun o => (cell_of_row _ _ _ _ _ _ sv_box).trans s0
  have d : ∀ o o', ((w.alloc o).alloc o').cell? ⟨g, off + A, none⟩ = some (.int .i64 v) := fun o o' => ((below_two w o o').cell (p := ⟨g, off + A, none⟩) hg).trans hc
  clear hS hR hv e s0 hc
  go_enter Try.func78, Try.ntmps78
  go_wp2
  go_ret
  exact ⟨rfl, below_two _ _ _⟩
theorem blocked4_25 (S : Array Value) (p : ProgD) (ca : Option Addr) (ccap : Nat) (ta : Option Addr) (tcap : Nat) (fv : Nat → Value) (rs qs : Value) (fl : Nat → List Int) (n c : Nat) (tp : Int) (w : World) (hS : SV S p ca ccap ta tcap fv rs qs tp) (hR : Rf w fv rs qs fl n c) (A : Nat) (B C v : Int) (hv : (fl 6)[A]? = some v) (hl : (fl 6).length ≤ 1000000) :
    Calls Try.prog 78 #[.agg S, .agg #[.int .u8 25, .int .i64 A, .int .i64 B, .int .i64 C]] w fun e w' => e = .returned (.bool (decide (0 < v))) ∧ Below w.heap.size w w' := by
  obtain ⟨g, off, cap, e, hg, hc, hk⟩ := hR.num hv
  have s0 : S[15]? = some (fv 6) := by rw [hS.eq]; rfl
  rw [e] at s0
  have c0 : ∀ o, ((w.alloc (.cells S 72)).alloc o).cell? ⟨w.heap.size, 15, none⟩ = some (.slice (some ⟨g, off, none⟩) (fl 6).length cap) := fun o => (cell_of_row _ _ _ _ _ _ sv_box).trans s0
  have d : ∀ o o', ((w.alloc o).alloc o').cell? ⟨g, off + A, none⟩ = some (.int .i64 v) := fun o o' => ((below_two w o o').cell (p := ⟨g, off + A, none⟩) hg).trans hc
  clear hS hR hv e s0 hc
  go_enter Try.func78, Try.ntmps78
  go_wp2
  go_ret
  exact ⟨rfl, below_two _ _ _⟩
theorem blocked4_26 (S : Array Value) (p : ProgD) (ca : Option Addr) (ccap : Nat) (ta : Option Addr) (tcap : Nat) (fv : Nat → Value) (rs qs : Value) (fl : Nat → List Int) (n c : Nat) (tp : Int) (w : World) (hS : SV S p ca ccap ta tcap fv rs qs tp) (hR : Rf w fv rs qs fl n c) (A : Int) (B : Nat) (C v : Int) (hv : (fl 7)[B]? = some v) (hl : (fl 7).length ≤ 1000000) :
    Calls Try.prog 78 #[.agg S, .agg #[.int .u8 26, .int .i64 A, .int .i64 B, .int .i64 C]] w fun e w' => e = .returned (.bool (v == 1)) ∧ Below w.heap.size w w' := by
  obtain ⟨g, off, cap, e, hg, hc, hk⟩ := hR.num hv
  have s0 : S[16]? = some (fv 7) := by rw [hS.eq]; rfl
  rw [e] at s0
  have c0 : ∀ o, ((w.alloc (.cells S 72)).alloc o).cell? ⟨w.heap.size, 16, none⟩ = some (.slice (some ⟨g, off, none⟩) (fl 7).length cap) := fun o => (cell_of_row _ _ _ _ _ _ sv_box).trans s0
  have d : ∀ o o', ((w.alloc o).alloc o').cell? ⟨g, off + B, none⟩ = some (.int .i64 v) := fun o o' => ((below_two w o o').cell (p := ⟨g, off + B, none⟩) hg).trans hc
  clear hS hR hv e s0 hc
  go_enter Try.func78, Try.ntmps78
  go_wp2
  go_ret
  exact ⟨rfl, below_two _ _ _⟩
theorem blocked4_20n (S : Array Value) (p : ProgD) (ca : Option Addr) (ccap : Nat) (ta : Option Addr) (tcap : Nat) (fv : Nat → Value) (rs qs : Value) (fl : Nat → List Int) (n c : Nat) (tp : Int) (w : World) (hS : SV S p ca ccap ta tcap fv rs qs tp) (hR : Rf w fv rs qs fl n c) (A : Nat) (B C v : Int) (hv : (fl 5)[A]? = some v) (hl : (fl 5).length ≤ 1000000) (hq : A < c) (hc6 : c ≤ 1000) (hz : v ≠ 0) :
    Calls Try.prog 78 #[.agg S, .agg #[.int .u8 20, .int .i64 A, .int .i64 B, .int .i64 C]] w fun e w' => e = .returned (.bool false) ∧ Below w.heap.size w w' := by
  obtain ⟨g, off, cap, e, hg, hc, hk⟩ := hR.num hv
  have s0 : S[14]? = some (fv 5) := by rw [hS.eq]; rfl
  rw [e] at s0
  have c0 : ∀ o, ((w.alloc (.cells S 72)).alloc o).cell? ⟨w.heap.size, 14, none⟩ = some (.slice (some ⟨g, off, none⟩) (fl 5).length cap) := fun o => (cell_of_row _ _ _ _ _ _ sv_box).trans s0
  have d : ∀ o o', ((w.alloc o).alloc o').cell? ⟨g, off + A, none⟩ = some (.int .i64 v) := fun o o' => ((below_two w o o').cell (p := ⟨g, off + A, none⟩) hg).trans hc
  have hz1 : (v == 0) = false := by simpa using hz
  have hz2 : decide (v = 0) = false := decide_eq_false hz
  clear hS hR hv e s0 hc
  go_enter Try.func78, Try.ntmps78
  go_wp2_with fail
  go_quiet (fail)
  go_wp2
  go_ret
  exact ⟨by first | rfl | simp [hz1], below_draws (below_two _ _ _) _⟩
theorem blocked4_20z (S : Array Value) (p : ProgD) (ca : Option Addr) (ccap : Nat) (ta : Option Addr) (tcap : Nat) (fv : Nat → Value) (rs qs : Value) (fl : Nat → List Int) (n c : Nat) (tp : Int) (w : World) (hS : SV S p ca ccap ta tcap fv rs qs tp) (hR : Rf w fv rs qs fl n c) (A : Nat) (B C v : Int) (hv : (fl 5)[A]? = some v) (hl : (fl 5).length ≤ 1000000) (hq : A < c) (hc6 : c ≤ 1000) (hz : v = 0) (ch : Int) (hP : ProgIn w w.heap.size p ca ta) (hch : p.chans[A]? = some ch) :
    Calls Try.prog 78 #[.agg S, .agg #[.int .u8 20, .int .i64 A, .int .i64 B, .int .i64 C]] w fun e w' => e = .returned (.bool (((fl (15 + A)).length : Int) == ch)) ∧ Below w.heap.size w w' := by
  obtain ⟨g, off, cap, e, hg, hc, hk⟩ := hR.num hv
  have s0 : S[14]? = some (fv 5) := by rw [hS.eq]; rfl
  rw [e] at s0
  have c0 : ∀ o, ((w.alloc (.cells S 72)).alloc o).cell? ⟨w.heap.size, 14, none⟩ = some (.slice (some ⟨g, off, none⟩) (fl 5).length cap) := fun o => (cell_of_row _ _ _ _ _ _ sv_box).trans s0
  have d : ∀ o o', ((w.alloc o).alloc o').cell? ⟨g, off + A, none⟩ = some (.int .i64 v) := fun o o' => ((below_two w o o').cell (p := ⟨g, off + A, none⟩) hg).trans hc
  obtain ⟨qa, qc, rfl, hQ⟩ := hR.queue
  obtain ⟨g2, off2, rfl, hg2, hc2⟩ := hQ A hq
  obtain ⟨a3, cap3, e3, r3⟩ := hR.row (15 + A)
  rw [e3] at hc2
  have s1 : S[13]? = some (.slice (some ⟨g2, off2, none⟩) c qc) := by rw [hS.eq]; rfl
  have c1 : ∀ o, ((w.alloc (.cells S 72)).alloc o).cell? ⟨w.heap.size, 13, none⟩ = some (.slice (some ⟨g2, off2, none⟩) c qc) := fun o => (cell_of_row _ _ _ _ _ _ sv_box).trans s1
  have d1 : ∀ o o', ((w.alloc o).alloc o').cell? ⟨g2, off2 + A, none⟩ = some (.slice a3 (fl (15 + A)).length cap3) := fun o o' => ((below_two w o o').cell (p := ⟨g2, off2 + A, none⟩) hg2).trans hc2
  subst hz
  obtain ⟨g4, off4, rfl, hg4, hc4⟩ := hP.chans A ch hch
  have hkc := (List.getElem?_eq_some_iff.1 hch).1
  have hcl := hP.clen
  have s2 : S[3]? = some (.slice (some ⟨g4, off4, none⟩) p.chans.length ccap) := by rw [hS.eq]; rfl
  have c2 : ∀ o, ((w.alloc (.cells S 72)).alloc o).cell? ⟨w.heap.size, 3, none⟩ = some (.slice (some ⟨g4, off4, none⟩) p.chans.length ccap) := fun o => (cell_of_row _ _ _ _ _ _ sv_box).trans s2
  have d2 : ∀ o o', ((w.alloc o).alloc o').cell? ⟨g4, off4 + A, none⟩ = some (.int .i64 ch) := fun o o' => ((below_two w o o').cell (p := ⟨g4, off4 + A, none⟩) hg4).trans hc4
  clear hS hR hv e s0 hc s1 hc2 hQ e3 r3 s2 hc4 hP hch
  go_enter Try.func78, Try.ntmps78
  go_wp2_with fail
  go_quiet (fail)
  go_wp2
  go_ret
  exact ⟨rfl, below_draws (below_two _ _ _) _⟩
theorem blocked4_21n (S : Array Value) (p : ProgD) (ca : Option Addr) (ccap : Nat) (ta : Option Addr) (tcap : Nat) (fv : Nat → Value) (rs qs : Value) (fl : Nat → List Int) (n c : Nat) (tp : Int) (w : World) (hS : SV S p ca ccap ta tcap fv rs qs tp) (hR : Rf w fv rs qs fl n c) (A : Int) (B : Nat) (C v : Int) (hv : (fl 5)[B]? = some v) (hl : (fl 5).length ≤ 1000000) (hq : B < c) (hc6 : c ≤ 1000) (hz : v ≠ 0) :
    Calls Try.prog 78 #[.agg S, .agg #[.int .u8 21, .int .i64 A, .int .i64 B, .int .i64 C]] w fun e w' => e = .returned (.bool false) ∧ Below w.heap.size w w' := by
  obtain ⟨g, off, cap, e, hg, hc, hk⟩ := hR.num hv
  have s0 : S[14]? = some (fv 5) := by rw [hS.eq]; rfl
  rw [e] at s0
  have c0 : ∀ o, ((w.alloc (.cells S 72)).alloc o).cell? ⟨w.heap.size, 14, none⟩ = some (.slice (some ⟨g, off, none⟩) (fl 5).length cap) := fun o => (cell_of_row _ _ _ _ _ _ sv_box).trans s0
  have d : ∀ o o', ((w.alloc o).alloc o').cell? ⟨g, off + B, none⟩ = some (.int .i64 v) := fun o o' => ((below_two w o o').cell (p := ⟨g, off + B, none⟩) hg).trans hc
  have hz1 : (v == 0) = false := by simpa using hz
  have hz2 : decide (v = 0) = false := decide_eq_false hz
  clear hS hR hv e s0 hc
  go_enter Try.func78, Try.ntmps78
  go_wp2
  go_ret
  exact ⟨rfl, below_two _ _ _⟩
theorem blocked4_21z (S : Array Value) (p : ProgD) (ca : Option Addr) (ccap : Nat) (ta : Option Addr) (tcap : Nat) (fv : Nat → Value) (rs qs : Value) (fl : Nat → List Int) (n c : Nat) (tp : Int) (w : World) (hS : SV S p ca ccap ta tcap fv rs qs tp) (hR : Rf w fv rs qs fl n c) (A : Int) (B : Nat) (C v : Int) (hv : (fl 5)[B]? = some v) (hl : (fl 5).length ≤ 1000000) (hq : B < c) (hc6 : c ≤ 1000) (hz : v = 0) :
    Calls Try.prog 78 #[.agg S, .agg #[.int .u8 21, .int .i64 A, .int .i64 B, .int .i64 C]] w fun e w' => e = .returned (.bool (((fl (15 + B)).length : Int) == 0)) ∧ Below w.heap.size w w' := by
  obtain ⟨g, off, cap, e, hg, hc, hk⟩ := hR.num hv
  have s0 : S[14]? = some (fv 5) := by rw [hS.eq]; rfl
  rw [e] at s0
  have c0 : ∀ o, ((w.alloc (.cells S 72)).alloc o).cell? ⟨w.heap.size, 14, none⟩ = some (.slice (some ⟨g, off, none⟩) (fl 5).length cap) := fun o => (cell_of_row _ _ _ _ _ _ sv_box).trans s0
  have d : ∀ o o', ((w.alloc o).alloc o').cell? ⟨g, off + B, none⟩ = some (.int .i64 v) := fun o o' => ((below_two w o o').cell (p := ⟨g, off + B, none⟩) hg).trans hc
  obtain ⟨qa, qc, rfl, hQ⟩ := hR.queue
  obtain ⟨g2, off2, rfl, hg2, hc2⟩ := hQ B hq
  obtain ⟨a3, cap3, e3, r3⟩ := hR.row (15 + B)
  rw [e3] at hc2
  have s1 : S[13]? = some (.slice (some ⟨g2, off2, none⟩) c qc) := by rw [hS.eq]; rfl
  have c1 : ∀ o, ((w.alloc (.cells S 72)).alloc o).cell? ⟨w.heap.size, 13, none⟩ = some (.slice (some ⟨g2, off2, none⟩) c qc) := fun o => (cell_of_row _ _ _ _ _ _ sv_box).trans s1
  have d1 : ∀ o o', ((w.alloc o).alloc o').cell? ⟨g2, off2 + B, none⟩ = some (.slice a3 (fl (15 + B)).length cap3) := fun o o' => ((below_two w o o').cell (p := ⟨g2, off2 + B, none⟩) hg2).trans hc2
  subst hz
  clear hS hR hv e s0 hc s1 hc2 hQ e3 r3
  go_enter Try.func78, Try.ntmps78
  go_wp2
  go_ret
  exact ⟨rfl, below_two _ _ _⟩
theorem blocked4_else (S : Array Value) (op : Nat) (A B C : Int) (w : World) (h : op ≠ 13 ∧ op ≠ 15 ∧ op ≠ 20 ∧ op ≠ 21 ∧ op ≠ 25 ∧ op ≠ 26) :
    Calls Try.prog 78 #[.agg S, .agg #[.int .u8 op, .int .i64 A, .int .i64 B, .int .i64 C]] w fun e w' => e = .returned (.bool false) ∧ Below w.heap.size w w' := by
  obtain ⟨h1, h2, h3, h4, h5, h6⟩ := h
  have q1 : ((op : Int) == 13) = false := by simp; omega
  have q2 : ((op : Int) == 15) = false := by simp; omega
  have q3 : ((op : Int) == 20) = false := by simp; omega
  have q4 : ((op : Int) == 21) = false := by simp; omega
  have q5 : ((op : Int) == 25) = false := by simp; omega
  have q6 : ((op : Int) == 26) = false := by simp; omega
  clear h1 h2 h3 h4 h5 h6
  go_enter Try.func78, Try.ntmps78
  go_wp2
  go_ret
  exact ⟨rfl, below_two _ _ _⟩
/-- What an instruction names is there. -/
structure FitF (fl : Nat → List Int) (c : Nat) (p : ProgD) (x : InsD) : Prop where
  lock : x.op = 13 ∨ x.op = 15 → ∃ A : Nat, x.a = A ∧ A < (fl 4).length
  send : x.op = 20 → ∃ A : Nat, x.a = A ∧ A < (fl 5).length ∧ A < c ∧ A < p.chans.length
  recv : x.op = 21 → ∃ B : Nat, x.b = B ∧ B < (fl 5).length ∧ B < c
  wait : x.op = 25 → ∃ A : Nat, x.a = A ∧ A < (fl 6).length
  once : x.op = 26 → ∃ B : Nat, x.b = B ∧ B < (fl 7).length
theorem blocked4_any (S : Array Value) (p : ProgD) (ca : Option Addr) (ccap : Nat) (ta : Option Addr) (tcap : Nat) (fv : Nat → Value) (rs qs : Value) (fl : Nat → List Int) (n c : Nat) (tp : Int) (w : World) (hS : SV S p ca ccap ta tcap fv rs qs tp) (hR : Rf w fv rs qs fl n c) (hP : ProgIn w w.heap.size p ca ta) (hl : ∀ i, (fl i).length ≤ 1000000) (hc : c ≤ 1000) (x : InsD) (hF : FitF fl c p x) :
    Calls Try.prog 78 #[.agg S, .agg #[.int .u8 x.op, .int .i64 x.a, .int .i64 x.b, .int .i64 x.c]] w fun e w' => e = .returned (.bool (blockedF fl p.chans x)) ∧ Below w.heap.size w w' := by
  obtain ⟨op, a, b, cc⟩ := x
  by_cases h13 : op = 13
  · subst h13
    obtain ⟨A, rfl, hA⟩ := hF.lock (.inl rfl)
    obtain ⟨v, hv⟩ := at_lt hA
    simpa [blockedF, hv] using blocked4_13 S p ca ccap ta tcap fv rs qs fl n c tp w hS hR A b cc v hv (hl 4)
  by_cases h15 : op = 15
  · subst h15
    obtain ⟨A, rfl, hA⟩ := hF.lock (.inr rfl)
    obtain ⟨v, hv⟩ := at_lt hA
    simpa [blockedF, hv] using blocked4_15 S p ca ccap ta tcap fv rs qs fl n c tp w hS hR A b cc v hv (hl 4)
  by_cases h20 : op = 20
  · subst h20
    obtain ⟨A, rfl, hA, hA2, hA3⟩ := hF.send rfl
    obtain ⟨v, hv⟩ := at_lt hA
    obtain ⟨ch, hch⟩ := at_lt hA3
    by_cases hz : v = 0
    · simpa [blockedF, hv, hz, hch] using blocked4_20z S p ca ccap ta tcap fv rs qs fl n c tp w hS hR A b cc v hv (hl 5) hA2 hc hz ch hP hch
    · have hz1 : (v == 0) = false := by simpa using hz
      simpa [blockedF, hv, hz1, hch] using blocked4_20n S p ca ccap ta tcap fv rs qs fl n c tp w hS hR A b cc v hv (hl 5) hA2 hc hz
  by_cases h21 : op = 21
  · subst h21
    obtain ⟨B, rfl, hB, hB2⟩ := hF.recv rfl
    obtain ⟨v, hv⟩ := at_lt hB
    by_cases hz : v = 0
    · simpa [blockedF, hv, hz] using blocked4_21z S p ca ccap ta tcap fv rs qs fl n c tp w hS hR a B cc v hv (hl 5) hB2 hc hz
    · have hz1 : (v == 0) = false := by simpa using hz
      simpa [blockedF, hv, hz1] using blocked4_21n S p ca ccap ta tcap fv rs qs fl n c tp w hS hR a B cc v hv (hl 5) hB2 hc hz
  by_cases h25 : op = 25
  · subst h25
    obtain ⟨A, rfl, hA⟩ := hF.wait rfl
    obtain ⟨v, hv⟩ := at_lt hA
    simpa [blockedF, hv] using blocked4_25 S p ca ccap ta tcap fv rs qs fl n c tp w hS hR A b cc v hv (hl 6)
  by_cases h26 : op = 26
  · subst h26
    obtain ⟨B, rfl, hB⟩ := hF.once rfl
    obtain ⟨v, hv⟩ := at_lt hB
    simpa [blockedF, hv] using blocked4_26 S p ca ccap ta tcap fv rs qs fl n c tp w hS hR a B cc v hv (hl 7)
  have e : blockedF fl p.chans ⟨op, a, b, cc⟩ = false := by
    unfold blockedF
    split <;> first | rfl | (simp_all; done)
  rw [e]
  exact blocked4_else S op a b cc w ⟨h13, h15, h20, h21, h25, h26⟩
theorem can4_neg (S : Array Value) (p : ProgD) (ca : Option Addr) (ccap : Nat) (ta : Option Addr) (tcap : Nat) (fv : Nat → Value) (rs qs : Value) (fl : Nat → List Int) (n c : Nat) (tp : Int) (w : World) (hS : SV S p ca ccap ta tcap fv rs qs tp) (hR : Rf w fv rs qs fl n c) (hP : ProgIn w w.heap.size p ca ta) (hl : ∀ i, (fl i).length ≤ 1000000) (k : Int) (hk : k < 0) :
    Calls Try.prog 56 #[.agg S, .int .i64 k] w fun e w' => e = .returned (.bool false) ∧ Below w.heap.size w w' := by
  have h1 : decide (k < 0) = true := decide_eq_true hk
  go_enter Try.func56, Try.ntmps56
  go_wp2_with fail
  go_quiet (fail)
  go_wp2
  go_ret
  exact ⟨rfl, below_draws (below_box _ _) _⟩
theorem can4_far (S : Array Value) (p : ProgD) (ca : Option Addr) (ccap : Nat) (ta : Option Addr) (tcap : Nat) (fv : Nat → Value) (rs qs : Value) (fl : Nat → List Int) (n c : Nat) (tp : Int) (w : World) (hS : SV S p ca ccap ta tcap fv rs qs tp) (hR : Rf w fv rs qs fl n c) (hP : ProgIn w w.heap.size p ca ta) (hl : ∀ i, (fl i).length ≤ 1000000) (k : Int) (hk0 : 0 ≤ k) (hk : ((fl 0).length : Int) ≤ k) :
    Calls Try.prog 56 #[.agg S, .int .i64 k] w fun e w' => e = .returned (.bool false) ∧ Below w.heap.size w w' := by
  obtain ⟨a0, k0, e0, r0⟩ := hR.row 0
  have h1 : decide (k < 0) = false := decide_eq_false (by omega)
  have h1' : ¬ k < 0 := by omega
  have h2 : decide (((fl 0).length : Int) ≤ k) = true := decide_eq_true hk
  have s0 : S[7]? = some (.slice a0 (fl 0).length k0) := by rw [← e0, hS.eq]; rfl
  have c0 : (w.alloc (.cells S 72)).cell? ⟨w.heap.size, 7, none⟩ = some (.slice a0 (fl 0).length k0) := (cell_of_row _ _ _ _ _ _ (heap_alloc_new _ _)).trans s0
  go_enter Try.func56, Try.ntmps56
  go_wp2_with fail
  go_quiet (fail)
  go_wp2
  go_ret
  exact ⟨rfl, below_draws (below_box _ _) _⟩
theorem can4_off (S : Array Value) (p : ProgD) (ca : Option Addr) (ccap : Nat) (ta : Option Addr) (tcap : Nat) (fv : Nat → Value) (rs qs : Value) (fl : Nat → List Int) (n c : Nat) (tp : Int) (w : World) (hS : SV S p ca ccap ta tcap fv rs qs tp) (hR : Rf w fv rs qs fl n c) (hP : ProgIn w w.heap.size p ca ta) (hl : ∀ i, (fl i).length ≤ 1000000) (k : Nat) (at' be : Int) (hat : (fl 0)[k]? = some at') (hbe : (fl 1)[k]? = some be) (hz : be = 0) :
    Calls Try.prog 56 #[.agg S, .int .i64 k] w fun e w' => e = .returned (.bool false) ∧ Below w.heap.size w w' := by
  obtain ⟨g0, o0, k0, e0, hg0, hc0, hk0⟩ := hR.num hat
  have h1 : decide ((k : Int) < 0) = false := decide_eq_false (by omega)
  have h1' : ¬ (k : Int) < 0 := by omega
  have h2 : decide (((fl 0).length : Int) ≤ (k : Int)) = false := decide_eq_false (by omega)
  have h2' : ¬ (fl 0).length ≤ k := by omega
  have s0 : S[7]? = some (.slice (some ⟨g0, o0, none⟩) (fl 0).length k0) := by rw [← e0, hS.eq]; rfl
  have c0 : (w.alloc (.cells S 72)).cell? ⟨w.heap.size, 7, none⟩ = some (.slice (some ⟨g0, o0, none⟩) (fl 0).length k0) := (cell_of_row _ _ _ _ _ _ (heap_alloc_new _ _)).trans s0
  have d0 : ∀ o, (w.alloc o).cell? ⟨g0, o0 + k, none⟩ = some (.int .i64 at') := fun o => ((below_box w o).cell (p := ⟨g0, o0 + k, none⟩) hg0).trans hc0
  obtain ⟨g1, o1, k1, e1, hg1, hc1, hk1⟩ := hR.num hbe
  have s1 : S[8]? = some (.slice (some ⟨g1, o1, none⟩) (fl 1).length k1) := by rw [← e1, hS.eq]; rfl
  have c1 : (w.alloc (.cells S 72)).cell? ⟨w.heap.size, 8, none⟩ = some (.slice (some ⟨g1, o1, none⟩) (fl 1).length k1) := (cell_of_row _ _ _ _ _ _ (heap_alloc_new _ _)).trans s1
  have d1 : ∀ o, (w.alloc o).cell? ⟨g1, o1 + k, none⟩ = some (.int .i64 be) := fun o => ((below_box w o).cell (p := ⟨g1, o1 + k, none⟩) hg1).trans hc1
  subst hz
  go_enter Try.func56, Try.ntmps56
  go_wp2_with fail
  go_quiet (fail)
  go_wp2
  go_ret
  exact ⟨rfl, below_draws (below_box _ _) _⟩
theorem can4_end (S : Array Value) (p : ProgD) (ca : Option Addr) (ccap : Nat) (ta : Option Addr) (tcap : Nat) (fv : Nat → Value) (rs qs : Value) (fl : Nat → List Int) (n c : Nat) (tp : Int) (w : World) (hS : SV S p ca ccap ta tcap fv rs qs tp) (hR : Rf w fv rs qs fl n c) (hP : ProgIn w w.heap.size p ca ta) (hl : ∀ i, (fl i).length ≤ 1000000) (k : Nat) (at' be : Int) (hat : (fl 0)[k]? = some at') (hbe : (fl 1)[k]? = some be) (hz : be ≠ 0) (ck : List InsD) (hck : p.threads[k]? = some ck) (he : (ck.length : Int) ≤ at') :
    Calls Try.prog 56 #[.agg S, .int .i64 k] w fun e w' => e = .returned (.bool false) ∧ Below w.heap.size w w' := by
  obtain ⟨g0, o0, k0, e0, hg0, hc0, hk0⟩ := hR.num hat
  have h1 : decide ((k : Int) < 0) = false := decide_eq_false (by omega)
  have h1' : ¬ (k : Int) < 0 := by omega
  have h2 : decide (((fl 0).length : Int) ≤ (k : Int)) = false := decide_eq_false (by omega)
  have h2' : ¬ (fl 0).length ≤ k := by omega
  have s0 : S[7]? = some (.slice (some ⟨g0, o0, none⟩) (fl 0).length k0) := by rw [← e0, hS.eq]; rfl
  have c0 : (w.alloc (.cells S 72)).cell? ⟨w.heap.size, 7, none⟩ = some (.slice (some ⟨g0, o0, none⟩) (fl 0).length k0) := (cell_of_row _ _ _ _ _ _ (heap_alloc_new _ _)).trans s0
  have d0 : ∀ o, (w.alloc o).cell? ⟨g0, o0 + k, none⟩ = some (.int .i64 at') := fun o => ((below_box w o).cell (p := ⟨g0, o0 + k, none⟩) hg0).trans hc0
  obtain ⟨g1, o1, k1, e1, hg1, hc1, hk1⟩ := hR.num hbe
  have s1 : S[8]? = some (.slice (some ⟨g1, o1, none⟩) (fl 1).length k1) := by rw [← e1, hS.eq]; rfl
  have c1 : (w.alloc (.cells S 72)).cell? ⟨w.heap.size, 8, none⟩ = some (.slice (some ⟨g1, o1, none⟩) (fl 1).length k1) := (cell_of_row _ _ _ _ _ _ (heap_alloc_new _ _)).trans s1
  have d1 : ∀ o, (w.alloc o).cell? ⟨g1, o1 + k, none⟩ = some (.int .i64 be) := fun o => ((below_box w o).cell (p := ⟨g1, o1 + k, none⟩) hg1).trans hc1
  have hz1 : (be == 0) = false := by simpa using hz
  have hz2 : decide (be = 0) = false := decide_eq_false hz
  obtain ⟨g2, o2, rfl, hg2, a2, k2, hc2, hcode⟩ := hP.threads k ck hck
  have hkt := (List.getElem?_eq_some_iff.1 hck).1
  have htl := hP.tlen
  have s2 : S[6]? = some (.slice (some ⟨g2, o2, none⟩) p.threads.length tcap) := by rw [hS.eq]; rfl
  have c2 : (w.alloc (.cells S 72)).cell? ⟨w.heap.size, 6, none⟩ = some (.slice (some ⟨g2, o2, none⟩) p.threads.length tcap) := (cell_of_row _ _ _ _ _ _ (heap_alloc_new _ _)).trans s2
  have d2 : ∀ o, (w.alloc o).cell? ⟨g2, o2 + k, none⟩ = some (.slice a2 ck.length k2) := fun o => ((below_box w o).cell (p := ⟨g2, o2 + k, none⟩) hg2).trans hc2
  have h3 : decide ((ck.length : Int) ≤ at') = true := decide_eq_true he
  go_enter Try.func56, Try.ntmps56
  go_wp2_with fail
  go_quiet (fail)
  go_wp2
  go_ret
  exact ⟨rfl, below_draws (below_box _ _) _⟩
theorem can4_trap (S : Array Value) (p : ProgD) (ca : Option Addr) (ccap : Nat) (ta : Option Addr) (tcap : Nat) (fv : Nat → Value) (rs qs : Value) (fl : Nat → List Int) (n c : Nat) (tp : Int) (w : World) (hS : SV S p ca ccap ta tcap fv rs qs tp) (hR : Rf w fv rs qs fl n c) (hP : ProgIn w w.heap.size p ca ta) (hl : ∀ i, (fl i).length ≤ 1000000) (k : Nat) (at' be : Int) (hat : (fl 0)[k]? = some at') (hbe : (fl 1)[k]? = some be) (hz : be ≠ 0) (ck : List InsD) (hck : p.threads[k]? = some ck) (he : at' < (ck.length : Int)) (ht : tp = 1) :
    Calls Try.prog 56 #[.agg S, .int .i64 k] w fun e w' => e = .returned (.bool false) ∧ Below w.heap.size w w' := by
  obtain ⟨g0, o0, k0, e0, hg0, hc0, hk0⟩ := hR.num hat
  have h1 : decide ((k : Int) < 0) = false := decide_eq_false (by omega)
  have h1' : ¬ (k : Int) < 0 := by omega
  have h2 : decide (((fl 0).length : Int) ≤ (k : Int)) = false := decide_eq_false (by omega)
  have h2' : ¬ (fl 0).length ≤ k := by omega
  have s0 : S[7]? = some (.slice (some ⟨g0, o0, none⟩) (fl 0).length k0) := by rw [← e0, hS.eq]; rfl
  have c0 : (w.alloc (.cells S 72)).cell? ⟨w.heap.size, 7, none⟩ = some (.slice (some ⟨g0, o0, none⟩) (fl 0).length k0) := (cell_of_row _ _ _ _ _ _ (heap_alloc_new _ _)).trans s0
  have d0 : ∀ o, (w.alloc o).cell? ⟨g0, o0 + k, none⟩ = some (.int .i64 at') := fun o => ((below_box w o).cell (p := ⟨g0, o0 + k, none⟩) hg0).trans hc0
  obtain ⟨g1, o1, k1, e1, hg1, hc1, hk1⟩ := hR.num hbe
  have s1 : S[8]? = some (.slice (some ⟨g1, o1, none⟩) (fl 1).length k1) := by rw [← e1, hS.eq]; rfl
  have c1 : (w.alloc (.cells S 72)).cell? ⟨w.heap.size, 8, none⟩ = some (.slice (some ⟨g1, o1, none⟩) (fl 1).length k1) := (cell_of_row _ _ _ _ _ _ (heap_alloc_new _ _)).trans s1
  have d1 : ∀ o, (w.alloc o).cell? ⟨g1, o1 + k, none⟩ = some (.int .i64 be) := fun o => ((below_box w o).cell (p := ⟨g1, o1 + k, none⟩) hg1).trans hc1
  have hz1 : (be == 0) = false := by simpa using hz
  have hz2 : decide (be = 0) = false := decide_eq_false hz
  obtain ⟨g2, o2, rfl, hg2, a2, k2, hc2, hcode⟩ := hP.threads k ck hck
  have hkt := (List.getElem?_eq_some_iff.1 hck).1
  have htl := hP.tlen
  have s2 : S[6]? = some (.slice (some ⟨g2, o2, none⟩) p.threads.length tcap) := by rw [hS.eq]; rfl
  have c2 : (w.alloc (.cells S 72)).cell? ⟨w.heap.size, 6, none⟩ = some (.slice (some ⟨g2, o2, none⟩) p.threads.length tcap) := (cell_of_row _ _ _ _ _ _ (heap_alloc_new _ _)).trans s2
  have d2 : ∀ o, (w.alloc o).cell? ⟨g2, o2 + k, none⟩ = some (.slice a2 ck.length k2) := fun o => ((below_box w o).cell (p := ⟨g2, o2 + k, none⟩) hg2).trans hc2
  have h3 : decide ((ck.length : Int) ≤ at') = false := decide_eq_false (by omega)
  have h3' : ¬ (ck.length : Int) ≤ at' := by omega
  have s3 : S[18]? = some (.int .i64 tp) := by rw [hS.eq]; rfl
  have c3 : (w.alloc (.cells S 72)).cell? ⟨w.heap.size, 18, none⟩ = some (.int .i64 tp) := (cell_of_row _ _ _ _ _ _ (heap_alloc_new _ _)).trans s3
  subst ht
  go_enter Try.func56, Try.ntmps56
  go_wp2_with fail
  go_quiet (fail)
  go_wp2
  go_ret
  exact ⟨rfl, below_draws (below_box _ _) _⟩
end Go.Proofs.Ytnbpneaiibandaa
