/- What order's walk back keeps, where it lies. -/
import Derived.Test.YtkhhkjinlkpdlaaOrderMap
import Derived.Test.YtkhhkjinlkpdlaaOrderDirect
import Derived.Maps.Own
namespace Go.Proofs.Ytkhhkjinlkpdlaa
set_option linter.unusedVariables false
set_option linter.unusedSimpArgs false
set_option maxRecDepth 100000
open Go.ChangeShapes Go.WideShapes Go.ChangeAt Go.RowKit Go.Maps

/-- Another row in the place of one. -/
theorem Fam.upd {u u' : World} {base : Nat} {fv : Nat → Value} {fl : Nat → List Int} (h : Fam u base fv fl) {i : Nat} {v : Value} {l : List Int} (T : Touch (fun j => (fv i).ownBlock = some j) u u') (ho : u'.ownsRow base 3 1 v l.length (l.map (.int .i64 ·))) (hw : v.ownBlock = (fv i).ownBlock ∨ v.ownBlock = none ∨ ∃ g, v.ownBlock = some g ∧ u.heap.size ≤ g) : Fam u' base (updF fv i v) (updF fl i l) := by
  have hap : ∀ j, j ≠ i → Apart (fv j) v := fun j hj => by
    by_cases hn : (fv j).ownBlock = none
    · exact .inl hn
    · refine .inr fun e => ?_
      rcases hw with hw | hw | ⟨g, hg, hge⟩
      · rcases h.ap j i hj with q | q
        · exact hn q
        · exact q (e.trans hw)
      · exact hn (e.trans hw)
      · have := (own_lt (h.row j) g (e.trans hg)).1; omega
  refine ⟨fun j => ?_, fun j k hjk => ?_, Nat.le_trans h.top T.size⟩
  · by_cases e : j = i
    · subst e; rw [updF_same, updF_same]; exact ho
    · rw [updF_ne _ _ e, updF_ne _ _ e]
      exact own_touch (h.row j) T fun g hg => apart_ne (h.ap j i e) hg
  · by_cases e : j = i
    · subst e
      rw [updF_same, updF_ne _ _ (fun x => hjk x.symm)]
      exact (hap k (fun x => hjk x.symm)).symm
    · rw [updF_ne _ _ e]
      by_cases e2 : k = i
      · subst e2; rw [updF_same]; exact hap j e
      · rw [updF_ne _ _ e2]; exact h.ap j k hjk

/-- The rows of numbers: 0 the stack; of the k-th thing 1 + 2k, 2 + 2k. -/
def flW (A B : Nat → List Nat) (st : List Nat) : Nat → List Int
  | 0 => ofN st
  | i + 1 => if i % 2 = 0 then ofN (A (i / 2)) else ofN (B (i / 2))
theorem flW_st (A B : Nat → List Nat) (st st' : List Nat) : updF (flW A B st) 0 (ofN st') = flW A B st' := by
  funext i; cases i <;> simp [updF, flW]
theorem flW_A (A B : Nat → List Nat) (st : List Nat) (k : Nat) (l : List Nat) : updF (flW A B st) (1 + 2 * k) (ofN l) = flW (updF A k l) B st := by
  funext i
  cases i with
  | zero => simp [updF, flW]; intro h; omega
  | succ i =>
    simp only [updF, flW]
    by_cases e : i % 2 = 0
    · by_cases e2 : i / 2 = k
      · rw [if_pos (by omega), if_pos e, if_pos e2]
      · rw [if_neg (by omega), if_pos e, if_pos e, if_neg e2]
    · rw [if_neg (by omega), if_neg e, if_neg e]
theorem flW_B (A B : Nat → List Nat) (st : List Nat) (k : Nat) (l : List Nat) : updF (flW A B st) (2 + 2 * k) (ofN l) = flW A (updF B k l) st := by
  funext i
  cases i with
  | zero => simp [updF, flW]; intro h; omega
  | succ i =>
    simp only [updF, flW]
    by_cases e : i % 2 = 0
    · rw [if_neg (by omega), if_pos e, if_pos e]
    · by_cases e2 : i / 2 = k
      · rw [if_pos (by omega), if_neg e, if_pos e2]
      · rw [if_neg (by omega), if_neg e, if_neg e, if_neg e2]
theorem flW_a (A B : Nat → List Nat) (st : List Nat) (k : Nat) : flW A B st (1 + 2 * k) = ofN (A k) := by
  rw [Nat.add_comm]; simp [flW]
theorem flW_b (A B : Nat → List Nat) (st : List Nat) (k : Nat) : flW A B st (2 + 2 * k) = ofN (B k) := by
  rw [show 2 + 2 * k = (2 * k + 1) + 1 by omega]
  simp only [flW]
  rw [if_neg (by omega), show (2 * k + 1) / 2 = k by omega]
/-- The cells of a thing's row. -/
def rowC (fv : Nat → Value) (G : Nat → Nat) (k : Nat) : List Value := [fv (1 + 2 * k), fv (2 + 2 * k), .int .i64 (G k : Nat)]
def rowsC (fv : Nat → Value) (G : Nat → Nat) (n : Nat) : List Value := (List.range n).flatMap (rowC fv G)
theorem rowsC_succ (fv : Nat → Value) (G : Nat → Nat) (n : Nat) : rowsC fv G (n + 1) = rowsC fv G n ++ rowC fv G n := by simp [rowsC, List.range_succ]
theorem rowsC_len (fv : Nat → Value) (G : Nat → Nat) (n : Nat) : (rowsC fv G n).length = n * 3 := by
  induction n with
  | zero => rfl
  | succ n ih => rw [rowsC_succ, List.length_append, ih]; simp [rowC]; omega
theorem rowsC_at (fv : Nat → Value) (G : Nat → Nat) (n : Nat) : ∀ k j, k < n → j < 3 → (rowsC fv G n)[k * 3 + j]? = (rowC fv G k)[j]? := by
  induction n with
  | zero => intro k j h; omega
  | succ n ih =>
    intro k j hk hj
    rw [rowsC_succ]
    by_cases e : k = n
    · subst e
      rw [List.getElem?_append_right (by rw [rowsC_len]; omega), rowsC_len, Nat.add_sub_cancel_left]
    · rw [List.getElem?_append_left (by rw [rowsC_len]; omega)]
      exact ih k j (by omega) hj
theorem rowsC_congr {fv fv' : Nat → Value} {G G' : Nat → Nat} {n : Nat} (h : ∀ k, k < n → rowC fv G k = rowC fv' G' k) : rowsC fv G n = rowsC fv' G' n := by
  induction n with
  | zero => rfl
  | succ n ih => rw [rowsC_succ, rowsC_succ, ih fun k hk => h k (by omega), h n (by omega)]
/-- A cell of a thing's row is put. -/
theorem rowsC_set {fv fv' : Nat → Value} {G G' : Nat → Nat} {n k j : Nat} {v : Value} (hk : k < n) (hj : j < 3) (h0 : ∀ i, i ≠ k → rowC fv' G' i = rowC fv G i) (h1 : rowC fv' G' k = (rowC fv G k).set j v) : (rowsC fv G n).set (k * 3 + j) v = rowsC fv' G' n := by
  induction n with
  | zero => omega
  | succ n ih =>
    rw [rowsC_succ, rowsC_succ]
    by_cases e : k = n
    · subst e
      rw [List.set_append_right _ _ (by rw [rowsC_len]; omega), rowsC_len, Nat.add_sub_cancel_left, h1]
      rw [rowsC_congr fun i hi => h0 i (by omega)]
    · rw [List.set_append_left _ _ (by rw [rowsC_len]; omega), ih (by omega), h0 n (fun q => e q.symm)]

/-- All the blocks that it writes. -/
def Wb (g0 gm : Nat) (fv : Nat → Value) (rv sv : Value) (g : Nat) : Prop := g = g0 ∨ g = gm ∨ (∃ i, (fv i).ownBlock = some g) ∨ rv.ownBlock = some g ∨ sv.ownBlock = some g
structure WkIn (X : Nat → Prop) (chans : List Int) (R : Array Value) (base g0 gm : Nat) (ks : List (Int × Int)) (A B : Nat → List Nat) (G : Nat → Nat) (seen : List Bool) (st : List Nat) (fv : Nat → Value) (rv sv : Value) (u : World) : Prop where
  fam : Fam u base fv (flW A B st)
  rows : u.ownsRow base 73 3 rv ks.length (rowsC fv G ks.length)
  marks : u.ownsRow base 4 1 sv seen.length (seen.map .bool)
  map : u.ownsMap Try.prog 77 (plainElem (H := Unit) Try.prog 3) gm ks.length (mapD ks)
  box : ∃ S, u.heap[g0]? = some (.cells S 61) ∧ S.size = 34 ∧ (∀ j, j < 30 → S[j]? = R[j]?) ∧ S[30]? = some rv ∧ S[31]? = some (.map (some gm)) ∧ S[32]? = some sv ∧ S[33]? = some (fv 0)
  rules : RulesV X u R chans
  apR : ∀ i, Apart (fv i) rv
  apS : ∀ i, Apart (fv i) sv
  apRS : Apart rv sv
  no : ∀ g, g = g0 ∨ g = gm → (∀ i, (fv i).ownBlock ≠ some g) ∧ rv.ownBlock ≠ some g ∧ sv.ownBlock ≠ some g
  gg : g0 ≠ gm
  hb : base ≤ g0 ∧ base ≤ gm
  inX : ∀ g, base ≤ g → Wb g0 gm fv rv sv g → X g
  newX : ∀ g, u.heap.size ≤ g → X g
  nil : ∀ k, ks.length ≤ k → fv (1 + 2 * k) = .slice none 0 0 ∧ fv (2 + 2 * k) = .slice none 0 0 ∧ A k = [] ∧ B k = [] ∧ G k = 0
  wf : KsWf ks
  nodup : ks.Nodup
/-- From a walk's blocks to later ones. -/
structure WkGo (Z Z' : Nat → Prop) (u u' : World) : Prop where
  touch : Touch Z u u'
  grow : ∀ g, Z' g → Z g ∨ u.heap.size ≤ g
theorem WkGo.refl (Z : Nat → Prop) (u : World) : WkGo Z Z u u := ⟨⟨rfl, rfl, rfl, Nat.le_refl _, fun _ _ _ => rfl⟩, fun _ h => .inl h⟩
theorem WkGo.trans {Z Z' Z'' : Nat → Prop} {u u' u'' : World} (h : WkGo Z Z' u u') (h2 : WkGo Z' Z'' u' u'') : WkGo Z Z'' u u'' :=
  ⟨h.touch.trans h2.touch fun k hk hz => (h.grow k hz).resolve_right (by omega), fun g hg => (h2.grow g hg).elim (h.grow g) fun q => .inr (Nat.le_trans h.touch.size q)⟩
theorem WkGo.below {Z Z' : Nat → Prop} {u u' u'' : World} (h : WkGo Z Z' u u') (hB : Below u'.heap.size u' u'') : WkGo Z Z' u u'' := ⟨h.touch.trans (Touch.of_below hB) fun _ _ h => h, h.grow⟩
theorem WkGo.ahead {Z Z' : Nat → Prop} {u u' u'' : World} (hB : Below u.heap.size u u') (h : WkGo Z Z' u' u'') : WkGo Z Z' u u'' := ⟨(Touch.of_below hB).trans h.touch fun _ _ h => h, fun g hg => (h.grow g hg).imp id fun q => Nat.le_trans hB.size q⟩

section
variable {X : Nat → Prop} {chans : List Int} {R : Array Value} {base g0 gm : Nat} {ks : List (Int × Int)} {A B : Nat → List Nat} {G : Nat → Nat} {seen : List Bool} {st : List Nat} {fv : Nat → Value} {rv sv : Value} {u u' : World}
theorem map_touch {Z : Nat → Prop} {n : Nat} {D : DataW Unit} {P : Program} {k : TypeId} {E : Value → Option (DataW Unit × List MemPlace)} (h : u.ownsMap P k E gm n D) (T : Touch Z u u') (hz : ¬ Z gm) : u'.ownsMap P k E gm n D := by
  have hlt := h.lt
  obtain ⟨es, clock, hb, F, hs, hD⟩ := h
  exact ⟨es, clock, (T.block gm hlt hz).trans hb, F, hs, hD⟩
theorem WkIn.touch {Z : Nat → Prop} (h : WkIn X chans R base g0 gm ks A B G seen st fv rv sv u) (T : Touch Z u u') (hz : ∀ g, Wb g0 gm fv rv sv g → ¬ Z g) (hX : ∀ g, Z g → X g) : WkIn X chans R base g0 gm ks A B G seen st fv rv sv u' := by
  refine ⟨h.fam.touch T fun i g e => hz g (.inr (.inr (.inl ⟨i, e⟩))), own_touch h.rows T fun g e => hz g (.inr (.inr (.inr (.inl e)))), own_touch h.marks T fun g e => hz g (.inr (.inr (.inr (.inr e)))), map_touch h.map T (hz _ (.inr (.inl rfl))), ?_, h.rules.touch (T.mono fun g _ q => hX g q), h.apR, h.apS, h.apRS, h.no, h.gg, h.hb, h.inX, fun g hg => h.newX g (Nat.le_trans T.size hg), h.nil, h.wf, h.nodup⟩
  obtain ⟨S, h1, h2⟩ := h.box
  exact ⟨S, (T.block _ (Array.getElem?_eq_some_iff.1 h1).1 (hz _ (.inl rfl))).trans h1, h2⟩
theorem WkIn.later (h : WkIn X chans R base g0 gm ks A B G seen st fv rv sv u) (hB : Below u.heap.size u u') : WkIn X chans R base g0 gm ks A B G seen st fv rv sv u' := h.touch (Z := fun _ => False) (Touch.of_below hB) (fun _ _ h => h) (fun _ h => h.elim)
theorem WkIn.lt (h : WkIn X chans R base g0 gm ks A B G seen st fv rv sv u) {g : Nat} (hg : Wb g0 gm fv rv sv g) : g < u.heap.size ∧ base ≤ g := by
  rcases hg with rfl | rfl | ⟨i, e⟩ | e | e
  · obtain ⟨S, h1, _⟩ := h.box
    exact ⟨(Array.getElem?_eq_some_iff.1 h1).1, h.hb.1⟩
  · exact ⟨h.map.lt, h.hb.2⟩
  · exact own_lt (h.fam.row i) g e
  · exact own_lt h.rows g e
  · exact own_lt h.marks g e
theorem WkIn.cells (h : WkIn X chans R base g0 gm ks A B G seen st fv rv sv u) : u.cell? ⟨g0, 30, none⟩ = some rv ∧ u.cell? ⟨g0, 31, none⟩ = some (.map (some gm)) ∧ u.cell? ⟨g0, 32, none⟩ = some sv ∧ u.cell? ⟨g0, 33, none⟩ = some (fv 0) ∧ ∀ j, u.frozen? ⟨g0, j, none⟩ = false := by
  obtain ⟨S, h1, h2, h3, h4, h5, h6, h7⟩ := h.box
  exact ⟨(cell_of_row _ _ 30 _ _ _ h1).trans h4, (cell_of_row _ _ 31 _ _ _ h1).trans h5, (cell_of_row _ _ 32 _ _ _ h1).trans h6, (cell_of_row _ _ 33 _ _ _ h1).trans h7, fun j => frozen_of_row _ _ j _ _ h1⟩
theorem WkIn.range (h : WkIn X chans R base g0 gm ks A B G seen st fv rv sv u) : u.rangeAt g0 0 R.toList := by
  obtain ⟨S, h1, h2, h3, _⟩ := h.box
  intro j v hv
  have hj : j < 30 := by
    have := (List.getElem?_eq_some_iff.1 hv).1
    have := h.rules.size
    simp at *; omega
  rw [Nat.zero_add, cell_of_row _ _ _ _ _ _ h1, h3 j hj]
  simpa using hv
theorem WkIn.row (h : WkIn X chans R base g0 gm ks A B G seen st fv rv sv u) {k : Nat} (hk : k < ks.length) : ∃ g cap, rv = .slice (some ⟨g, 0, none⟩) ks.length cap ∧ g < u.heap.size ∧ u.cell? ⟨g, k * 3, none⟩ = some (fv (1 + 2 * k)) ∧ u.cell? ⟨g, k * 3 + 1, none⟩ = some (fv (2 + 2 * k)) ∧ u.cell? ⟨g, k * 3 + 2, none⟩ = some (.int .i64 (G k : Nat)) ∧ ∀ j, u.frozen? ⟨g, j, none⟩ = false := by
  rcases h.rows.2 with ⟨_, h0⟩ | ⟨g, cap, cur, rfl, hb, hh, hle, hcap, hsz, ht⟩
  · omega
  · refine ⟨g, cap, rfl, (Array.getElem?_eq_some_iff.1 hh).1, ?_, ?_, ?_, fun j => frozen_of_row _ _ j _ _ hh⟩
    all_goals
      rw [cell_of_row _ _ _ _ _ _ hh]
    · have := rowsC_at fv G ks.length k 0 hk (by omega)
      rw [← ht, List.getElem?_take_of_lt (by omega)] at this
      simpa [rowC] using this
    · have := rowsC_at fv G ks.length k 1 hk (by omega)
      rw [← ht, List.getElem?_take_of_lt (by omega)] at this
      simpa [rowC] using this
    · have := rowsC_at fv G ks.length k 2 hk (by omega)
      rw [← ht, List.getElem?_take_of_lt (by omega)] at this
      simpa [rowC] using this
/-- Where a value lies: where the old one lay, or nowhere, or in a new block. -/
def Whr (u : World) (v old : Value) : Prop := v.ownBlock = old.ownBlock ∨ v.ownBlock = none ∨ ∃ g, v.ownBlock = some g ∧ u.heap.size ≤ g
theorem Whr.refl (u : World) (v : Value) : Whr u v v := .inl rfl
theorem Whr.apart {v old b : Value} (hw : Whr u v old) (h : Apart old b) (hb : ∀ g, b.ownBlock = some g → g < u.heap.size) : Apart v b := by
  rcases hw with e | e | ⟨g, hg, hge⟩
  · rcases h with q | q
    · exact .inl (e.trans q)
    · exact .inr fun x => q (e.symm.trans x)
  · exact .inl e
  · exact .inr fun x => by have := hb g (x.symm.trans hg); omega
theorem own_put {base : Nat} {e : TypeId} {z n : Nat} {v : Value} {xs : List Value} (h : u.ownsRow base e z v n xs) {g cap : Nat} (ev : v = .slice (some ⟨g, 0, none⟩) n cap) {j : Nat} (hj : j < n * z) (y : Value) : (u.setCell ⟨g, j, none⟩ y).ownsRow base e z v n (xs.set j y) := by
  refine ⟨by rw [List.length_set]; exact h.1, ?_⟩
  rcases h.2 with ⟨h0, _⟩ | ⟨g', cap', cur, e', hb, hh, hle, hcap, hsz, ht⟩
  · rw [ev] at h0; cases h0
  · rw [ev] at e'; cases e'
    refine .inr ⟨g, cap, cur.setIfInBounds j y, ev, hb, stSet_block _ _ _ _ hh, hle, hcap, by simpa using hsz, ?_⟩
    rw [Array.toList_setIfInBounds, List.take_set, ht]
theorem WkIn.chg {ks' : List (Int × Int)} {A' B' : Nat → List Nat} {G' : Nat → Nat} {seen' : List Bool} {st' : List Nat} {fv' : Nat → Value} {rv' : Value} {Z : Nat → Prop} (h : WkIn X chans R base g0 gm ks A B G seen st fv rv sv u) (T : Touch Z u u') (hZ : ∀ g, Z g → Wb g0 gm fv rv sv g)
    (fam : Fam u' base fv' (flW A' B' st')) (rows : u'.ownsRow base 73 3 rv' ks'.length (rowsC fv' G' ks'.length)) (marks : u'.ownsRow base 4 1 sv seen'.length (seen'.map .bool))
    (map : u'.ownsMap Try.prog 77 (plainElem (H := Unit) Try.prog 3) gm ks'.length (mapD ks'))
    (box : ∃ S, u'.heap[g0]? = some (.cells S 61) ∧ S.size = 34 ∧ (∀ j, j < 30 → S[j]? = R[j]?) ∧ S[30]? = some rv' ∧ S[31]? = some (.map (some gm)) ∧ S[32]? = some sv ∧ S[33]? = some (fv' 0))
    (hw : ∀ i, Whr u (fv' i) (fv i)) (hr : Whr u rv' rv) (apR : ∀ i, Apart (fv' i) rv')
    (nil : ∀ k, ks'.length ≤ k → fv' (1 + 2 * k) = .slice none 0 0 ∧ fv' (2 + 2 * k) = .slice none 0 0 ∧ A' k = [] ∧ B' k = [] ∧ G' k = 0) (wf : KsWf ks') (nodup : ks'.Nodup) :
    WkIn X chans R base g0 gm ks' A' B' G' seen' st' fv' rv' sv u' ∧ WkGo (Wb g0 gm fv rv sv) (Wb g0 gm fv' rv' sv) u u' := by
  have hsv : ∀ g, sv.ownBlock = some g → g < u.heap.size := fun g e => (h.lt (.inr (.inr (.inr (.inr e))))).1
  have hgo : ∀ g, Wb g0 gm fv' rv' sv g → Wb g0 gm fv rv sv g ∨ u.heap.size ≤ g := by
    rintro g (e | e | ⟨i, e⟩ | e | e)
    · exact .inl (.inl e)
    · exact .inl (.inr (.inl e))
    · rcases hw i with q | q | ⟨g', hg, hge⟩
      · exact .inl (.inr (.inr (.inl ⟨i, q.symm.trans e⟩)))
      · rw [q] at e; cases e
      · rw [hg] at e; cases e; exact .inr hge
    · rcases hr with q | q | ⟨g', hg, hge⟩
      · exact .inl (.inr (.inr (.inr (.inl (q.symm.trans e)))))
      · rw [q] at e; cases e
      · rw [hg] at e; cases e; exact .inr hge
    · exact .inl (.inr (.inr (.inr (.inr e))))
  refine ⟨⟨fam, rows, marks, map, box, ?_, apR, fun i => (hw i).apart (h.apS i) hsv, hr.apart h.apRS hsv, fun g hg => ?_, h.gg, h.hb, fun g hb hg => ?_, fun g hg => h.newX g (Nat.le_trans T.size hg), nil, wf, nodup⟩, T.mono fun g _ q => hZ g q, hgo⟩
  · exact h.rules.touch (T.mono fun g hg q => h.inX g (h.lt (hZ g q)).2 (hZ g q))
  · have hlt : g < u.heap.size := by rcases hg with rfl | rfl; exact (h.lt (.inl rfl)).1; exact (h.lt (.inr (.inl rfl))).1
    obtain ⟨n1, n2, n3⟩ := h.no g hg
    refine ⟨fun i e => ?_, fun e => ?_, n3⟩
    · rcases hw i with q | q | ⟨g', hg', hge⟩
      · exact n1 i (q.symm.trans e)
      · rw [q] at e; cases e
      · rw [hg'] at e; cases e; omega
    · rcases hr with q | q | ⟨g', hg', hge⟩
      · exact n2 (q.symm.trans e)
      · rw [q] at e; cases e
      · rw [hg'] at e; cases e; omega
  · exact (hgo g hg).elim (h.inX g hb) (h.newX g)
theorem WkIn.gone (h : WkIn X chans R base g0 gm ks A B G seen st fv rv sv u) {k : Nat} (hk : k < ks.length) {gr cap : Nat} (e : rv = .slice (some ⟨gr, 0, none⟩) ks.length cap) (y : Nat) :
    WkIn X chans R base g0 gm ks A B (updF G k y) seen st fv rv sv (u.setCell ⟨gr, k * 3 + 2, none⟩ (.int .i64 (y : Nat))) ∧ WkGo (Wb g0 gm fv rv sv) (Wb g0 gm fv rv sv) u (u.setCell ⟨gr, k * 3 + 2, none⟩ (.int .i64 (y : Nat))) := by
  have er : rv.ownBlock = some gr := by rw [e]; rfl
  have T : Touch (fun g => g = gr) u (u.setCell ⟨gr, k * 3 + 2, none⟩ (.int .i64 (y : Nat))) := (Touch.of_below (Below.refl _ _)).set rfl
  have n0 := (h.no g0 (.inl rfl)).2.1
  have nm := (h.no gm (.inr rfl)).2.1
  refine h.chg T (fun g hg => by subst hg; exact .inr (.inr (.inr (.inl er)))) (h.fam.touch T fun i g hg q => ?_) ?_ (own_touch h.marks T fun g hg q => ?_) (map_touch h.map T fun q => nm (by rw [er, q])) ?_ (fun i => .inl rfl) (.inl rfl) h.apR (fun i hi => ?_) h.wf h.nodup
  · subst q; exact apart_ne (h.apR i) hg er
  · have := own_put h.rows e (j := k * 3 + 2) (by omega) (.int .i64 (y : Nat))
    rw [rowsC_set (fv' := fv) (G' := updF G k y) hk (by omega) (fun i hi => by simp [rowC, updF_ne _ _ hi]) (by simp [rowC, updF_same])] at this
    exact this
  · subst q; exact apart_ne h.apRS er hg
  · obtain ⟨S, h1, h2⟩ := h.box
    exact ⟨S, (T.block _ (Array.getElem?_eq_some_iff.1 h1).1 fun q => n0 (by rw [er, q])).trans h1, h2⟩
  · obtain ⟨a, b, c, d, e'⟩ := h.nil i hi
    exact ⟨a, b, c, d, by rw [updF_ne _ _ (by omega)]; exact e'⟩
end
end Go.Proofs.Ytkhhkjinlkpdlaa
