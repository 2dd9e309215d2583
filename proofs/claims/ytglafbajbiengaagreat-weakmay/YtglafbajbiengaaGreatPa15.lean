/- What the laws of this seat stand on, part 15. -/
import Derived.Test.YtglafbajbiengaaGreatPa0
import Derived.Test.YtglafbajbiengaaGreatPa14
set_option linter.unusedVariables false
set_option linter.unusedSimpArgs false
set_option maxRecDepth 100000
set_option maxHeartbeats 40000000
namespace Go.Proofs.YtglafbajbiengaaGreat
open Go.ChangeShapes Go.WideShapes Go.ChangeAt Go.RowKit Go.Maps
/-- Another row in the place of one. -/
theorem Fam.upd {u u' : World} {base : Nat} {fv : Nat → Value} {fl : Nat → List Int} (h : Fam u base fv fl) {i : Nat} {v : Value} {l : List Int} (T : Touch (fun j => (fv i).ownBlock = some j) u u') (ho : u'.ownsRow base 3 1 v l.length (l.map (.int .i64 ·))) (hw : v.ownBlock = (fv i).ownBlock ∨ v.ownBlock = none ∨ ∃ g, v.ownBlock = some g ∧ u.heap.size ≤ g) : Fam u' base (updF fv i v) (updF fl i l) := by
  have hap : ∀ j, j ≠ i → Apart (fv j) v := fun j hj => by
    by_cases hn : (fv j).ownBlock = none
    · exact .inl hn
    · refine .inr fun e => ?_
      rcases hw with hw | hw | ⟨g, hg, hge⟩
      · rcases h.ap j i hj with q | q
        · exact hn q
        · exact q (e.trans hw)
      · exact hn (e.trans hw)
      · have := (own_lt (h.row j) g (e.trans hg)).1; omega
  refine ⟨fun j => ?_, fun j k hjk => ?_, Nat.le_trans h.top T.size⟩
  · by_cases e : j = i
    · subst e; rw [updF_same, updF_same]; exact ho
    · rw [updF_ne _ _ e, updF_ne _ _ e]
      exact own_touch (h.row j) T fun g hg => apart_ne (h.ap j i e) hg
  · by_cases e : j = i
    · subst e
      rw [updF_same, updF_ne _ _ (fun x => hjk x.symm)]
      exact (hap k (fun x => hjk x.symm)).symm
    · rw [updF_ne _ _ e]
      by_cases e2 : k = i
      · subst e2; rw [updF_same]; exact hap j e
      · rw [updF_ne _ _ e2]; exact h.ap j k hjk
/-- The rows of numbers: 0 the stack; of the k-th thing 1 + 2k, 2 + 2k. -/
def flW (A B : Nat → List Nat) (st : List Nat) : Nat → List Int
  | 0 => ofN st
  | i + 1 => if i % 2 = 0 then ofN (A (i / 2)) else ofN (B (i / 2))
theorem flW_st (A B : Nat → List Nat) (st st' : List Nat) : updF (flW A B st) 0 (ofN st') = flW A B st' := by
  funext i; cases i <;> simp [updF, flW]
theorem flW_A (A B : Nat → List Nat) (st : List Nat) (k : Nat) (l : List Nat) : updF (flW A B st) (1 + 2 * k) (ofN l) = flW (updF A k l) B st := by
  funext i
  cases i with
  | zero => simp [updF, flW]; intro h; omega
  | succ i =>
    simp only [updF, flW]
    by_cases e : i % 2 = 0
    · by_cases e2 : i / 2 = k
      · rw [if_pos (by omega), if_pos e, if_pos e2]
      · rw [if_neg (by omega), if_pos e, if_pos e, if_neg e2]
    · rw [if_neg (by omega), if_neg e, if_neg e]
theorem flW_B (A B : Nat → List Nat) (st : List Nat) (k : Nat) (l : List Nat) : updF (flW A B st) (2 + 2 * k) (ofN l) = flW A (updF B k l) st := by
  funext i
  cases i with
  | zero => simp [updF, flW]; intro h; omega
  | succ i =>
    simp only [updF, flW]
    by_cases e : i % 2 = 0
    · rw [if_neg (by omega), if_pos e, if_pos e]
    · by_cases e2 : i / 2 = k
      · rw [if_pos (by omega), if_neg e, if_pos e2]
      · rw [if_neg (by omega), if_neg e, if_neg e, if_neg e2]
theorem flW_a (A B : Nat → List Nat) (st : List Nat) (k : Nat) : flW A B st (1 + 2 * k) = ofN (A k) := by
  rw [Nat.add_comm]; simp [flW]
theorem flW_b (A B : Nat → List Nat) (st : List Nat) (k : Nat) : flW A B st (2 + 2 * k) = ofN (B k) := by
  rw [show 2 + 2 * k = (2 * k + 1) + 1 by omega]
  simp only [flW]
  rw [if_neg (by omega), show (2 * k + 1) / 2 = k by omega]
/-- The cells of a thing's row. -/
def rowC (fv : Nat → Value) (G : Nat → Nat) (k : Nat) : List Value := [fv (1 + 2 * k), fv (2 + 2 * k), .int .i64 (G k : Nat)]
def rowsC (fv : Nat → Value) (G : Nat → Nat) (n : Nat) : List Value := (List.range n).flatMap (rowC fv G)
theorem rowsC_succ (fv : Nat → Value) (G : Nat → Nat) (n : Nat) : rowsC fv G (n + 1) = rowsC fv G n ++ rowC fv G n := by simp [rowsC, List.range_succ]
theorem rowsC_len (fv : Nat → Value) (G : Nat → Nat) (n : Nat) : (rowsC fv G n).length = n * 3 := by
  induction n with
  | zero => rfl
  | succ n ih => rw [rowsC_succ, List.length_append, ih]; simp [rowC]; omega
theorem rowsC_at (fv : Nat → Value) (G : Nat → Nat) (n : Nat) : ∀ k j, k < n → j < 3 → (rowsC fv G n)[k * 3 + j]? = (rowC fv G k)[j]? := by
  induction n with
  | zero => intro k j h; omega
  | succ n ih =>
    intro k j hk hj
    rw [rowsC_succ]
    by_cases e : k = n
    · subst e
      rw [List.getElem?_append_right (by rw [rowsC_len]; omega), rowsC_len, Nat.add_sub_cancel_left]
    · rw [List.getElem?_append_left (by rw [rowsC_len]; omega)]
      exact ih k j (by omega) hj
theorem rowsC_congr {fv fv' : Nat → Value} {G G' : Nat → Nat} {n : Nat} (h : ∀ k, k < n → rowC fv G k = rowC fv' G' k) : rowsC fv G n = rowsC fv' G' n := by
  induction n with
  | zero => rfl
  | succ n ih => rw [rowsC_succ, rowsC_succ, ih fun k hk => h k (by omega), h n (by omega)]
/-- A cell of a thing's row is put. -/
theorem rowsC_set {fv fv' : Nat → Value} {G G' : Nat → Nat} {n k j : Nat} {v : Value} (hk : k < n) (hj : j < 3) (h0 : ∀ i, i ≠ k → rowC fv' G' i = rowC fv G i) (h1 : rowC fv' G' k = (rowC fv G k).set j v) : (rowsC fv G n).set (k * 3 + j) v = rowsC fv' G' n := by
  induction n with
  | zero => omega
  | succ n ih =>
    rw [rowsC_succ, rowsC_succ]
    by_cases e : k = n
    · subst e
      rw [List.set_append_right _ _ (by rw [rowsC_len]; omega), rowsC_len, Nat.add_sub_cancel_left, h1]
      rw [rowsC_congr fun i hi => h0 i (by omega)]
    · rw [List.set_append_left _ _ (by rw [rowsC_len]; omega), ih (by omega), h0 n (fun q => e q.symm)]
/-- All the blocks that it writes. -/
def Wb (g0 gm : Nat) (fv : Nat → Value) (rv sv : Value) (g : Nat) : Prop := g = g0 ∨ g = gm ∨ (∃ i, (fv i).ownBlock = some g) ∨ rv.ownBlock = some g ∨ sv.ownBlock = some g
structure WkIn (X : Nat → Prop) (chans : List Int) (R : Array Value) (base g0 gm : Nat) (ks : List (Int × Int)) (A B : Nat → List Nat) (G : Nat → Nat) (seen : List Bool) (st : List Nat) (fv : Nat → Value) (rv sv : Value) (u : World) : Prop where
  fam : Fam u base fv (flW A B st)
  rows : u.ownsRow base 181 3 rv ks.length (rowsC fv G ks.length)
  marks : u.ownsRow base 4 1 sv seen.length (seen.map .bool)
  map : u.ownsMap Tryz.prog 198 (plainElem (H := Unit) Tryz.prog 3) gm ks.length (mapD ks)
  box : ∃ S, u.heap[g0]? = some (.cells S 161) ∧ S.size = 34 ∧ (∀ j, j < 30 → S[j]? = R[j]?) ∧ S[30]? = some rv ∧ S[31]? = some (.map (some gm)) ∧ S[32]? = some sv ∧ S[33]? = some (fv 0)
  rules : RulesV X u R chans
  apR : ∀ i, Apart (fv i) rv
  apS : ∀ i, Apart (fv i) sv
  apRS : Apart rv sv
  no : ∀ g, g = g0 ∨ g = gm → (∀ i, (fv i).ownBlock ≠ some g) ∧ rv.ownBlock ≠ some g ∧ sv.ownBlock ≠ some g
  gg : g0 ≠ gm
  hb : base ≤ g0 ∧ base ≤ gm
  inX : ∀ g, base ≤ g → Wb g0 gm fv rv sv g → X g
  newX : ∀ g, u.heap.size ≤ g → X g
  nil : ∀ k, ks.length ≤ k → fv (1 + 2 * k) = .slice none 0 0 ∧ fv (2 + 2 * k) = .slice none 0 0 ∧ A k = [] ∧ B k = [] ∧ G k = 0
  wf : KsWf ks
  nodup : ks.Nodup
/-- From a walk's blocks to later ones. -/
structure WkGo (Z Z' : Nat → Prop) (u u' : World) : Prop where
  touch : Touch Z u u'
  grow : ∀ g, Z' g → Z g ∨ u.heap.size ≤ g
theorem WkGo.refl (Z : Nat → Prop) (u : World) : WkGo Z Z u u := ⟨⟨rfl, rfl, rfl, Nat.le_refl _, fun _ _ _ => rfl⟩, fun _ h => .inl h⟩
theorem WkGo.trans {Z Z' Z'' : Nat → Prop} {u u' u'' : World} (h : WkGo Z Z' u u') (h2 : WkGo Z' Z'' u' u'') : WkGo Z Z'' u u'' :=
  ⟨h.touch.trans h2.touch fun k hk hz => (h.grow k hz).resolve_right (by omega), fun g hg => (h2.grow g hg).elim (h.grow g) fun q => .inr (Nat.le_trans h.touch.size q)⟩
theorem WkGo.below {Z Z' : Nat → Prop} {u u' u'' : World} (h : WkGo Z Z' u u') (hB : Below u'.heap.size u' u'') : WkGo Z Z' u u'' := ⟨h.touch.trans (Touch.of_below hB) fun _ _ h => h, h.grow⟩
theorem WkGo.ahead {Z Z' : Nat → Prop} {u u' u'' : World} (hB : Below u.heap.size u u') (h : WkGo Z Z' u' u'') : WkGo Z Z' u u'' := ⟨(Touch.of_below hB).trans h.touch fun _ _ h => h, fun g hg => (h.grow g hg).imp id fun q => Nat.le_trans hB.size q⟩
section
variable {X : Nat → Prop} {chans : List Int} {R : Array Value} {base g0 gm : Nat} {ks : List (Int × Int)} {A B : Nat → List Nat} {G : Nat → Nat} {seen : List Bool} {st : List Nat} {fv : Nat → Value} {rv sv : Value} {u u' : World}
theorem map_touch {Z : Nat → Prop} {n : Nat} {D : DataW Unit} {P : Program} {k : TypeId} {E : Value → Option (DataW Unit × List MemPlace)} (h : u.ownsMap P k E gm n D) (T : Touch Z u u') (hz : ¬ Z gm) : u'.ownsMap P k E gm n D := by
  have hlt := h.lt
  obtain ⟨es, clock, hb, F, hs, hD⟩ := h
  exact ⟨es, clock, (T.block gm hlt hz).trans hb, F, hs, hD⟩
theorem WkIn.touch {Z : Nat → Prop} (h : WkIn X chans R base g0 gm ks A B G seen st fv rv sv u) (T : Touch Z u u') (hz : ∀ g, Wb g0 gm fv rv sv g → ¬ Z g) (hX : ∀ g, Z g → X g) : WkIn X chans R base g0 gm ks A B G seen st fv rv sv u' := by
  refine ⟨h.fam.touch T fun i g e => hz g (.inr (.inr (.inl ⟨i, e⟩))), own_touch h.rows T fun g e => hz g (.inr (.inr (.inr (.inl e)))), own_touch h.marks T fun g e => hz g (.inr (.inr (.inr (.inr e)))), map_touch h.map T (hz _ (.inr (.inl rfl))), ?_, h.rules.touch (T.mono fun g _ q => hX g q), h.apR, h.apS, h.apRS, h.no, h.gg, h.hb, h.inX, fun g hg => h.newX g (Nat.le_trans T.size hg), h.nil, h.wf, h.nodup⟩
  obtain ⟨S, h1, h2⟩ := h.box
  exact ⟨S, (T.block _ (Array.getElem?_eq_some_iff.1 h1).1 (hz _ (.inl rfl))).trans h1, h2⟩
theorem WkIn.later (h : WkIn X chans R base g0 gm ks A B G seen st fv rv sv u) (hB : Below u.heap.size u u') : WkIn X chans R base g0 gm ks A B G seen st fv rv sv u' := h.touch (Z := fun _ => False) (Touch.of_below hB) (fun _ _ h => h) (fun _ h => h.elim)
theorem WkIn.lt (h : WkIn X chans R base g0 gm ks A B G seen st fv rv sv u) {g : Nat} (hg : Wb g0 gm fv rv sv g) : g < u.heap.size ∧ base ≤ g := by
  rcases hg with rfl | rfl | ⟨i, e⟩ | e | e
  · obtain ⟨S, h1, _⟩ := h.box
    exact ⟨(Array.getElem?_eq_some_iff.1 h1).1, h.hb.1⟩
  · exact ⟨h.map.lt, h.hb.2⟩
  · exact own_lt (h.fam.row i) g e
  · exact own_lt h.rows g e
  · exact own_lt h.marks g e
theorem WkIn.cells (h : WkIn X chans R base g0 gm ks A B G seen st fv rv sv u) : u.cell? ⟨g0, 30, none⟩ = some rv ∧ u.cell? ⟨g0, 31, none⟩ = some (.map (some gm)) ∧ u.cell? ⟨g0, 32, none⟩ = some sv ∧ u.cell? ⟨g0, 33, none⟩ = some (fv 0) ∧ ∀ j, u.frozen? ⟨g0, j, none⟩ = false := by
  obtain ⟨S, h1, h2, h3, h4, h5, h6, h7⟩ := h.box
  exact ⟨(cell_of_row _ _ 30 _ _ _ h1).trans h4, (cell_of_row _ _ 31 _ _ _ h1).trans h5, (cell_of_row _ _ 32 _ _ _ h1).trans h6, (cell_of_row _ _ 33 _ _ _ h1).trans h7, fun j => frozen_of_row _ _ j _ _ h1⟩
theorem WkIn.range (h : WkIn X chans R base g0 gm ks A B G seen st fv rv sv u) : u.rangeAt g0 0 R.toList := by
  obtain ⟨S, h1, h2, h3, _⟩ := h.box
  intro j v hv
  have hj : j < 30 := by
    have := (List.getElem?_eq_some_iff.1 hv).1
    have := h.rules.size
    simp at *; omega
  rw [Nat.zero_add, cell_of_row _ _ _ _ _ _ h1, h3 j hj]
  simpa using hv
theorem WkIn.row (h : WkIn X chans R base g0 gm ks A B G seen st fv rv sv u) {k : Nat} (hk : k < ks.length) : ∃ g cap, rv = .slice (some ⟨g, 0, none⟩) ks.length cap ∧ g < u.heap.size ∧ u.cell? ⟨g, k * 3, none⟩ = some (fv (1 + 2 * k)) ∧ u.cell? ⟨g, k * 3 + 1, none⟩ = some (fv (2 + 2 * k)) ∧ u.cell? ⟨g, k * 3 + 2, none⟩ = some (.int .i64 (G k : Nat)) ∧ ∀ j, u.frozen? ⟨g, j, none⟩ = false := by
  rcases h.rows.2 with ⟨_, h0⟩ | ⟨g, cap, cur, rfl, hb, hh, hle, hcap, hsz, ht⟩
  · omega
  · refine ⟨g, cap, rfl, (Array.getElem?_eq_some_iff.1 hh).1, ?_, ?_, ?_, fun j => frozen_of_row _ _ j _ _ hh⟩
    all_goals
      rw [cell_of_row _ _ _ _ _ _ hh]
    · have := rowsC_at fv G ks.length k 0 hk (by omega)
      rw [← ht, List.getElem?_take_of_lt (by omega)] at this
      simpa [rowC] using this
    · have := rowsC_at fv G ks.length k 1 hk (by omega)
      rw [← ht, List.getElem?_take_of_lt (by omega)] at this
      simpa [rowC] using this
    · have := rowsC_at fv G ks.length k 2 hk (by omega)
      rw [← ht, List.getElem?_take_of_lt (by omega)] at this
      simpa [rowC] using this
/-- Where a value lies: where the old one lay, or nowhere, or in a new block. -/
def Whr (u : World) (v old : Value) : Prop := v.ownBlock = old.ownBlock ∨ v.ownBlock = none ∨ ∃ g, v.ownBlock = some g ∧ u.heap.size ≤ g
theorem Whr.refl (u : World) (v : Value) : Whr u v v := .inl rfl
theorem Whr.apart {v old b : Value} (hw : Whr u v old) (h : Apart old b) (hb : ∀ g, b.ownBlock = some g → g < u.heap.size) : Apart v b := by
  rcases hw with e | e | ⟨g, hg, hge⟩
  · rcases h with q | q
    · exact .inl (e.trans q)
    · exact .inr fun x => q (e.symm.trans x)
  · exact .inl e
  · exact .inr fun x => by have := hb g (x.symm.trans hg); omega
theorem own_put {base : Nat} {e : TypeId} {z n : Nat} {v : Value} {xs : List Value} (h : u.ownsRow base e z v n xs) {g cap : Nat} (ev : v = .slice (some ⟨g, 0, none⟩) n cap) {j : Nat} (hj : j < n * z) (y : Value) : (u.setCell ⟨g, j, none⟩ y).ownsRow base e z v n (xs.set j y) := by
  refine ⟨by rw [List.length_set]; exact h.1, ?_⟩
  rcases h.2 with ⟨h0, _⟩ | ⟨g', cap', cur, e', hb, hh, hle, hcap, hsz, ht⟩
  · rw [ev] at h0; cases h0
  · rw [ev] at e'; cases e'
    refine .inr ⟨g, cap, cur.setIfInBounds j y, ev, hb, stSet_block _ _ _ _ hh, hle, hcap, by simpa using hsz, ?_⟩
    rw [Array.toList_setIfInBounds, List.take_set, ht]
theorem WkIn.chg {ks' : List (Int × Int)} {A' B' : Nat → List Nat} {G' : Nat → Nat} {seen' : List Bool} {st' : List Nat} {fv' : Nat → Value} {rv' : Value} {Z : Nat → Prop} (h : WkIn X chans R base g0 gm ks A B G seen st fv rv sv u) (T : Touch Z u u') (hZ : ∀ g, Z g → Wb g0 gm fv rv sv g)
    (fam : Fam u' base fv' (flW A' B' st')) (rows : u'.ownsRow base 181 3 rv' ks'.length (rowsC fv' G' ks'.length)) (marks : u'.ownsRow base 4 1 sv seen'.length (seen'.map .bool))
    (map : u'.ownsMap Tryz.prog 198 (plainElem (H := Unit) Tryz.prog 3) gm ks'.length (mapD ks'))
    (box : ∃ S, u'.heap[g0]? = some (.cells S 161) ∧ S.size = 34 ∧ (∀ j, j < 30 → S[j]? = R[j]?) ∧ S[30]? = some rv' ∧ S[31]? = some (.map (some gm)) ∧ S[32]? = some sv ∧ S[33]? = some (fv' 0))
    (hw : ∀ i, Whr u (fv' i) (fv i)) (hr : Whr u rv' rv) (apR : ∀ i, Apart (fv' i) rv')
    (nil : ∀ k, ks'.length ≤ k → fv' (1 + 2 * k) = .slice none 0 0 ∧ fv' (2 + 2 * k) = .slice none 0 0 ∧ A' k = [] ∧ B' k = [] ∧ G' k = 0) (wf : KsWf ks') (nodup : ks'.Nodup) :
    WkIn X chans R base g0 gm ks' A' B' G' seen' st' fv' rv' sv u' ∧ WkGo (Wb g0 gm fv rv sv) (Wb g0 gm fv' rv' sv) u u' := by
  have hsv : ∀ g, sv.ownBlock = some g → g < u.heap.size := fun g e => (h.lt (.inr (.inr (.inr (.inr e))))).1
  have hgo : ∀ g, Wb g0 gm fv' rv' sv g → Wb g0 gm fv rv sv g ∨ u.heap.size ≤ g := by
    rintro g (e | e | ⟨i, e⟩ | e | e)
    · exact .inl (.inl e)
    · exact .inl (.inr (.inl e))
    · rcases hw i with q | q | ⟨g', hg, hge⟩
      · exact .inl (.inr (.inr (.inl ⟨i, q.symm.trans e⟩)))
      · rw [q] at e; cases e
      · rw [hg] at e; cases e; exact .inr hge
    · rcases hr with q | q | ⟨g', hg, hge⟩
      · exact .inl (.inr (.inr (.inr (.inl (q.symm.trans e)))))
      · rw [q] at e; cases e
      · rw [hg] at e; cases e; exact .inr hge
    · exact .inl (.inr (.inr (.inr (.inr e))))
  refine ⟨⟨fam, rows, marks, map, box, ?_, apR, fun i => (hw i).apart (h.apS i) hsv, hr.apart h.apRS hsv, fun g hg => ?_, h.gg, h.hb, fun g hb hg => ?_, fun g hg => h.newX g (Nat.le_trans T.size hg), nil, wf, nodup⟩, T.mono fun g _ q => hZ g q, hgo⟩
  · exact h.rules.touch (T.mono fun g hg q => h.inX g (h.lt (hZ g q)).2 (hZ g q))
  · have hlt : g < u.heap.size := by rcases hg with rfl | rfl; exact (h.lt (.inl rfl)).1; exact (h.lt (.inr (.inl rfl))).1
    obtain ⟨n1, n2, n3⟩ := h.no g hg
    refine ⟨fun i e => ?_, fun e => ?_, n3⟩
    · rcases hw i with q | q | ⟨g', hg', hge⟩
      · exact n1 i (q.symm.trans e)
      · rw [q] at e; cases e
      · rw [hg'] at e; cases e; omega
    · rcases hr with q | q | ⟨g', hg', hge⟩
      · exact n2 (q.symm.trans e)
      · rw [q] at e; cases e
      · rw [hg'] at e; cases e; omega
  · exact (hgo g hg).elim (h.inX g hb) (h.newX g)
theorem WkIn.gone (h : WkIn X chans R base g0 gm ks A B G seen st fv rv sv u) {k : Nat} (hk : k < ks.length) {gr cap : Nat} (e : rv = .slice (some ⟨gr, 0, none⟩) ks.length cap) (y : Nat) :
    WkIn X chans R base g0 gm ks A B (updF G k y) seen st fv rv sv (u.setCell ⟨gr, k * 3 + 2, none⟩ (.int .i64 (y : Nat))) ∧ WkGo (Wb g0 gm fv rv sv) (Wb g0 gm fv rv sv) u (u.setCell ⟨gr, k * 3 + 2, none⟩ (.int .i64 (y : Nat))) := by
  have er : rv.ownBlock = some gr := by rw [e]; rfl
  have T : Touch (fun g => g = gr) u (u.setCell ⟨gr, k * 3 + 2, none⟩ (.int .i64 (y : Nat))) := (Touch.of_below (Below.refl _ _)).set rfl
  have n0 := (h.no g0 (.inl rfl)).2.1
  have nm := (h.no gm (.inr rfl)).2.1
  refine h.chg T (fun g hg => by subst hg; exact .inr (.inr (.inr (.inl er)))) (h.fam.touch T fun i g hg q => ?_) ?_ (own_touch h.marks T fun g hg q => ?_) (map_touch h.map T fun q => nm (by rw [er, q])) ?_ (fun i => .inl rfl) (.inl rfl) h.apR (fun i hi => ?_) h.wf h.nodup
  · subst q; exact apart_ne (h.apR i) hg er
  · have := own_put h.rows e (j := k * 3 + 2) (by omega) (.int .i64 (y : Nat))
    rw [rowsC_set (fv' := fv) (G' := updF G k y) hk (by omega) (fun i hi => by simp [rowC, updF_ne _ _ hi]) (by simp [rowC, updF_same])] at this
    exact this
  · subst q; exact apart_ne h.apRS er hg
  · obtain ⟨S, h1, h2⟩ := h.box
    exact ⟨S, (T.block _ (Array.getElem?_eq_some_iff.1 h1).1 fun q => n0 (by rw [er, q])).trans h1, h2⟩
  · obtain ⟨a, b, c, d, e'⟩ := h.nil i hi
    exact ⟨a, b, c, d, by rw [updF_ne _ _ (by omega)]; exact e'⟩
end
section
variable {X : Nat → Prop} {chans : List Int} {R : Array Value} {base g0 gm : Nat} {ks : List (Int × Int)} {A B : Nat → List Nat} {G : Nat → Nat} {seen : List Bool} {st : List Nat} {fv : Nat → Value} {rv sv : Value} {u u' : World}
theorem touch_cellset {Z : Nat → Prop} {g i : Nat} {v : Value} (T : Touch Z u u') : Touch (fun j => Z j ∨ j = g) u (u'.setCell ⟨g, i, none⟩ v) := (T.mono fun _ _ h => .inl h).set (.inr rfl)
theorem WkIn.push (h : WkIn X chans R base g0 gm ks A B G seen st fv rv sv u) {k j : Nat} (hk : k < ks.length) (hj : j < 2) {gr cap : Nat} (e : rv = .slice (some ⟨gr, 0, none⟩) ks.length cap) {A' B' : Nat → List Nat} {l : List Nat} {v : Value}
    (hfl : updF (flW A B st) (1 + j + 2 * k) (ofN l) = flW A' B' st) (hoth : ∀ i, i ≠ k → A' i = A i ∧ B' i = B i) (T : Touch (fun q => (fv (1 + j + 2 * k)).ownBlock = some q) u u') (ho : u'.ownsRow base 3 1 v (ofN l).length ((ofN l).map (.int .i64 ·))) (hw : Whr u v (fv (1 + j + 2 * k))) :
    WkIn X chans R base g0 gm ks A' B' G seen st (updF fv (1 + j + 2 * k) v) rv sv (u'.setCell ⟨gr, k * 3 + j, none⟩ v) ∧ WkGo (Wb g0 gm fv rv sv) (Wb g0 gm (updF fv (1 + j + 2 * k) v) rv sv) u (u'.setCell ⟨gr, k * 3 + j, none⟩ v) := by
  have er : rv.ownBlock = some gr := by rw [e]; rfl
  have n0 := (h.no g0 (.inl rfl)).2.1
  have nm := (h.no gm (.inr rfl)).2.1
  have n0i := (h.no g0 (.inl rfl)).1 (1 + j + 2 * k)
  have nmi := (h.no gm (.inr rfl)).1 (1 + j + 2 * k)
  have T2 := touch_cellset (g := gr) (i := k * 3 + j) (v := v) T
  have hF := h.fam.upd T ho hw
  rw [hfl] at hF
  have hrl : ∀ g, rv.ownBlock = some g → g < u.heap.size := fun g hg => (own_lt h.rows g hg).1
  have hap : ∀ i, Apart (updF fv (1 + j + 2 * k) v i) rv := fun i => by
    by_cases q : i = 1 + j + 2 * k
    · subst q; rw [updF_same]; exact Whr.apart hw (h.apR _) hrl
    · rw [updF_ne _ _ q]; exact h.apR i
  have hrows := own_touch h.rows T fun g hg q => apart_ne (h.apR (1 + j + 2 * k)) q hg
  have hdj : ∀ {b : Value}, (∀ i, Apart (fv i) b) → Apart rv b → ∀ g, b.ownBlock = some g → ¬ ((fv (1 + j + 2 * k)).ownBlock = some g ∨ g = gr) := fun {b} ha hb g hg q => by
    rcases q with q | q
    · exact apart_ne (ha _) q hg
    · subst q; exact apart_ne hb er hg
  refine h.chg T2 (fun g hg => ?_) (hF.touch ((Touch.of_below (X := fun q => q = gr) (Below.refl _ _)).set rfl) fun i g hg q => ?_) ?_ (own_touch h.marks T2 fun g hg => hdj h.apS h.apRS g hg) (map_touch h.map T2 fun q => ?_) ?_ (fun i => ?_) (.inl rfl) hap (fun i hi => ?_) h.wf h.nodup
  · rcases hg with hg | hg
    · exact .inr (.inr (.inl ⟨_, hg⟩))
    · subst hg; exact .inr (.inr (.inr (.inl er)))
  · subst q; exact apart_ne (hap i) hg er
  · have := own_put hrows e (j := k * 3 + j) (by omega) v
    rw [rowsC_set (fv' := updF fv (1 + j + 2 * k) v) (G' := G) hk (by omega) (fun i hi => by simp only [rowC]; rw [updF_ne _ _ (by omega), updF_ne _ _ (by omega)]) ?_] at this
    · exact this
    · match j, hj with
      | 0, _ => simp only [rowC]; rw [show 1 + 0 + 2 * k = 1 + 2 * k by omega, updF_same, updF_ne _ _ (by omega)]; rfl
      | 1, _ => simp only [rowC]; rw [show 1 + 1 + 2 * k = 2 + 2 * k by omega, updF_same, updF_ne _ _ (by omega)]; rfl
  · rcases q with q | q
    · exact nmi q
    · exact nm (by rw [er, q])
  · obtain ⟨S, h1, h2, h3, h4, h5, h6, h7⟩ := h.box
    refine ⟨S, (T2.block _ (Array.getElem?_eq_some_iff.1 h1).1 fun q => ?_).trans h1, h2, h3, h4, h5, h6, by rw [updF_ne _ _ (by omega)]; exact h7⟩
    rcases q with q | q
    · exact n0i q
    · exact n0 (by rw [er, q])
  · by_cases q : i = 1 + j + 2 * k
    · subst q; rw [updF_same]; exact hw
    · rw [updF_ne _ _ q]; exact .inl rfl
  · obtain ⟨a, b, c, d, e'⟩ := h.nil i hi
    obtain ⟨o1, o2⟩ := hoth i (by omega)
    exact ⟨by rw [updF_ne _ _ (by omega)]; exact a, by rw [updF_ne _ _ (by omega)]; exact b, by rw [o1]; exact c, by rw [o2]; exact d, e'⟩
/-- A mark is put. -/
theorem WkIn.mark (h : WkIn X chans R base g0 gm ks A B G seen st fv rv sv u) {i : Nat} (hi : i < seen.length) {gs cap : Nat} (e : sv = .slice (some ⟨gs, 0, none⟩) seen.length cap) :
    WkIn X chans R base g0 gm ks A B G (seen.set i true) st fv rv sv (u.setCell ⟨gs, i, none⟩ (.bool true)) ∧ WkGo (Wb g0 gm fv rv sv) (Wb g0 gm fv rv sv) u (u.setCell ⟨gs, i, none⟩ (.bool true)) := by
  have er : sv.ownBlock = some gs := by rw [e]; rfl
  have n0 := (h.no g0 (.inl rfl)).2.2
  have nm := (h.no gm (.inr rfl)).2.2
  have T : Touch (fun g => g = gs) u (u.setCell ⟨gs, i, none⟩ (.bool true)) := (Touch.of_below (Below.refl _ _)).set rfl
  refine h.chg T (fun g hg => by subst hg; exact .inr (.inr (.inr (.inr er)))) (h.fam.touch T fun i g hg q => ?_) (own_touch h.rows T fun g hg q => ?_) ?_ (map_touch h.map T fun q => nm (by rw [er, q])) ?_ (fun i => .inl rfl) (.inl rfl) h.apR h.nil h.wf h.nodup
  · subst q; exact apart_ne (h.apS i) hg er
  · subst q; exact apart_ne h.apRS hg er
  · have := own_put h.marks e (j := i) (by omega) (.bool true)
    rw [List.length_set, List.map_set]
    exact this
  · obtain ⟨S, h1, h2⟩ := h.box
    exact ⟨S, (T.block _ (Array.getElem?_eq_some_iff.1 h1).1 fun q => n0 (by rw [er, q])).trans h1, h2⟩
/-- The stack is another. -/
theorem WkIn.stack (h : WkIn X chans R base g0 gm ks A B G seen st fv rv sv u) {l : List Nat} {v : Value} (T : Touch (fun q => (fv 0).ownBlock = some q) u u') (ho : u'.ownsRow base 3 1 v (ofN l).length ((ofN l).map (.int .i64 ·))) (hw : Whr u v (fv 0)) :
    WkIn X chans R base g0 gm ks A B G seen l (updF fv 0 v) rv sv (u'.setCell ⟨g0, 33, none⟩ v) ∧ WkGo (Wb g0 gm fv rv sv) (Wb g0 gm (updF fv 0 v) rv sv) u (u'.setCell ⟨g0, 33, none⟩ v) := by
  obtain ⟨n0, n0r, n0s⟩ := h.no g0 (.inl rfl)
  obtain ⟨nm, nmr, nms⟩ := h.no gm (.inr rfl)
  have T2 := touch_cellset (g := g0) (i := 33) (v := v) T
  have hF := h.fam.upd T ho hw
  rw [flW_st] at hF
  have hlt := (h.lt (.inl rfl)).1
  have hap : ∀ i, Apart (updF fv 0 v i) rv := fun i => by
    by_cases q : i = 0
    · subst q; rw [updF_same]; exact Whr.apart hw (h.apR _) fun g hg => (own_lt h.rows g hg).1
    · rw [updF_ne _ _ q]; exact h.apR i
  have hn : ∀ i, (updF fv 0 v i).ownBlock ≠ some g0 := fun i q => by
    by_cases e : i = 0
    · subst e
      rw [updF_same] at q
      rcases hw with e | e | ⟨g, hg, hge⟩
      · exact n0 0 (e.symm.trans q)
      · rw [q] at e; cases e
      · rw [q] at hg; cases hg; omega
    · rw [updF_ne _ _ e] at q; exact n0 i q
  refine h.chg T2 (fun g hg => ?_) (hF.touch ((Touch.of_below (X := fun q => q = g0) (Below.refl _ _)).set rfl) fun i g hg q => ?_) ?_ (own_touch h.marks T2 fun g hg q => ?_) (map_touch h.map T2 fun q => ?_) ?_ (fun i => ?_) (.inl rfl) hap (fun i hi => ?_) h.wf h.nodup
  · rcases hg with hg | hg
    · exact .inr (.inr (.inl ⟨_, hg⟩))
    · subst hg; exact .inl rfl
  · subst q; exact hn i hg
  · have := own_touch h.rows T2 fun g hg q => by
      rcases q with q | q
      · exact apart_ne (h.apR 0) q hg
      · subst q; exact n0r hg
    rw [rowsC_congr (fv' := updF fv 0 v) (G' := G) fun k hk => by simp only [rowC]; rw [updF_ne _ _ (by omega), updF_ne _ _ (by omega)]] at this
    exact this
  · rcases q with q | q
    · exact apart_ne (h.apS 0) q hg
    · subst q; exact n0s hg
  · rcases q with q | q
    · exact nm 0 q
    · exact h.gg q.symm
  · obtain ⟨S, h1, h2, h3, h4, h5, h6, h7⟩ := h.box
    have hh : u'.heap[g0]? = some (.cells S 161) := (T.block _ (Array.getElem?_eq_some_iff.1 h1).1 (n0 0)).trans h1
    refine ⟨S.setIfInBounds 33 v, stSet_block _ _ _ _ hh, by simpa using h2, fun j hj => ?_, ?_, ?_, ?_, ?_⟩
    · rw [Array.getElem?_setIfInBounds_ne (by omega)]; exact h3 j hj
    · rw [Array.getElem?_setIfInBounds_ne (by omega)]; exact h4
    · rw [Array.getElem?_setIfInBounds_ne (by omega)]; exact h5
    · rw [Array.getElem?_setIfInBounds_ne (by omega)]; exact h6
    · rw [Array.getElem?_setIfInBounds_self_of_lt (by omega), updF_same]
  · by_cases q : i = 0
    · subst q; rw [updF_same]; exact hw
    · rw [updF_ne _ _ q]; exact .inl rfl
  · obtain ⟨a, b, c, d, e'⟩ := h.nil i hi
    exact ⟨by rw [updF_ne _ _ (by omega)]; exact a, by rw [updF_ne _ _ (by omega)]; exact b, c, d, e'⟩
/-- A thing's row is made. -/
theorem WkIn.newrow (h : WkIn X chans R base g0 gm ks A B G seen st fv rv sv u) {n x : Int} {rv' : Value} {u1 : World} (hn : Wf n) (hx : Wf x) (hk : (n, x) ∉ ks) (hm : u1.ownsMap Tryz.prog 198 (plainElem (H := Unit) Tryz.prog 3) gm (ks.length + 1) (mapD (ks ++ [(n, x)]))) (T1 : Touch (fun g => g = gm) u u1)
    (T : Touch (fun q => rv.ownBlock = some q) u1 u') (ho : u'.ownsRow base 181 3 rv' (ks.length + 1) (rowsC fv G ks.length ++ [.slice none 0 0, .slice none 0 0, .int .i64 0])) (hw : Whr u rv' rv) :
    WkIn X chans R base g0 gm (ks ++ [(n, x)]) A B G seen st fv rv' sv (u'.setCell ⟨g0, 30, none⟩ rv') ∧ WkGo (Wb g0 gm fv rv sv) (Wb g0 gm fv rv' sv) u (u'.setCell ⟨g0, 30, none⟩ rv') := by
  obtain ⟨n0, n0r, n0s⟩ := h.no g0 (.inl rfl)
  obtain ⟨nm, nmr, nms⟩ := h.no gm (.inr rfl)
  have T0 : Touch (fun q => q = gm ∨ rv.ownBlock = some q) u u' := (T1.mono fun _ _ q => .inl q).trans T fun _ _ q => .inr q
  have T2 := touch_cellset (g := g0) (i := 30) (v := rv') T0
  have hlt := (h.lt (.inl rfl)).1
  obtain ⟨b1, b2, b3, b4, b5⟩ := h.nil ks.length (Nat.le_refl _)
  have hap : ∀ i, Apart (fv i) rv' := fun i => (Whr.apart hw (h.apR i).symm fun g hg => (own_lt (h.fam.row i) g hg).1).symm
  have hn0 : rv'.ownBlock ≠ some g0 := fun q => by
    rcases hw with e | e | ⟨g, hg, hge⟩
    · exact n0r (e.symm.trans q)
    · rw [q] at e; cases e
    · rw [q] at hg; cases hg; omega
  refine h.chg T2 (fun g hg => ?_) (h.fam.touch T2 fun i g hg q => ?_) ?_ (own_touch h.marks T2 fun g hg q => ?_) (map_touch (map_touch (by simpa using hm) T fun q => nmr q) ((Touch.of_below (X := fun q => q = g0) (Below.refl _ _)).set rfl) fun q => h.gg q.symm) ?_ (fun i => .inl rfl) hw hap (fun i hi => ?_) ?_ ?_
  · rcases hg with (hg | hg) | hg
    · exact .inr (.inl hg)
    · exact .inr (.inr (.inr (.inl hg)))
    · exact .inl hg
  · rcases q with (q | q) | q
    · subst q; exact nm i hg
    · exact apart_ne (h.apR i) hg q
    · subst q; exact n0 i hg
  · have e1 : rowsC fv G (ks ++ [(n, x)]).length = rowsC fv G ks.length ++ [.slice none 0 0, .slice none 0 0, .int .i64 0] := by
      rw [List.length_append, List.length_singleton, rowsC_succ]
      simp only [rowC, b1, b2, b5]; rfl
    rw [e1, List.length_append, List.length_singleton]
    exact own_touch ho ((Touch.of_below (X := fun q => q = g0) (Below.refl _ _)).set rfl) fun g hg q => hn0 (by rw [hg, q])
  · rcases q with (q | q) | q
    · subst q; exact nms hg
    · exact apart_ne h.apRS q hg
    · subst q; exact n0s hg
  · obtain ⟨S, h1, h2, h3, h4, h5, h6, h7⟩ := h.box
    have hh : u'.heap[g0]? = some (.cells S 161) := (T0.block _ (Array.getElem?_eq_some_iff.1 h1).1 (by rintro (q | q); exact h.gg q; exact n0r q)).trans h1
    refine ⟨S.setIfInBounds 30 rv', stSet_block _ _ _ _ hh, by simpa using h2, fun j hj => ?_, ?_, ?_, ?_, ?_⟩
    · rw [Array.getElem?_setIfInBounds_ne (by omega)]; exact h3 j hj
    · rw [Array.getElem?_setIfInBounds_self_of_lt (by omega)]
    · rw [Array.getElem?_setIfInBounds_ne (by omega)]; exact h5
    · rw [Array.getElem?_setIfInBounds_ne (by omega)]; exact h6
    · rw [Array.getElem?_setIfInBounds_ne (by omega)]; exact h7
  · rw [List.length_append, List.length_singleton] at hi
    exact h.nil i (by omega)
  · intro p hp
    rcases List.mem_append.1 hp with q | q
    · exact h.wf p q
    · obtain rfl := List.mem_singleton.1 q; exact ⟨hn, hx⟩
  · rw [List.nodup_append]
    exact ⟨h.nodup, by simp, fun a ha b hb => by obtain rfl := List.mem_singleton.1 hb; intro q; subst q; exact hk ha⟩
end
theorem info_rowT : (Tryz.prog.info? 181).map (fun i => (i.zero, i.size, i.bytes)) = some (some (.agg #[.slice none 0 0, .slice none 0 0, .int .i64 0]), 3, 56) := by kernel_rfl
theorem cells_row_new (w : World) (a b c : Value) (t : TypeId) : ∀ j u, [a, b, c][j]? = some u → (w.alloc (.cells #[a, b, c] t)).cell? ((⟨w.heap.size, 0, none⟩ : Addr).add j) = some u := by
  intro j u hj
  rw [Addr.add_mid, Nat.zero_add, cell_of_row _ _ _ _ _ _ (heap_alloc_new _ _)]
  simpa using hj
theorem own_slice {w : World} {base : Nat} {e : TypeId} {z n : Nat} {v : Value} {xs : List Value} (h : w.ownsRow base e z v n xs) (hn : 0 < n) : ∃ g cap, v = .slice (some ⟨g, 0, none⟩) n cap := by
  rcases h.2 with ⟨_, h0⟩ | ⟨g, cap, cur, rfl, _⟩
  · omega
  · exact ⟨g, cap, rfl⟩
theorem own_slice0 {w : World} {base : Nat} {e : TypeId} {z n : Nat} {v : Value} {xs : List Value} (h : w.ownsRow base e z v n xs) : ∃ a cap, v = .slice a n cap := by
  rcases h.2 with ⟨rfl, rfl⟩ | ⟨g, cap, cur, rfl, _⟩
  · exact ⟨none, 0, rfl⟩
  · exact ⟨_, cap, rfl⟩
/-- What row hands out. -/
def RowE (X : Nat → Prop) (chans : List Int) (R : Array Value) (base g0 gm : Nat) (ks : List (Int × Int)) (A B : Nat → List Nat) (G : Nat → Nat) (seen : List Bool) (st : List Nat) (fv : Nat → Value) (rv sv : Value) (n x : Int) (u : World) (e : Ending) (u' : World) : Prop :=
  ∃ ks' rv' k gr cap, e = .returned (.pointer (some ⟨gr, k * 3, none⟩)) ∧ (ks' = ks ∨ ((n, x) ∉ ks ∧ ks' = ks ++ [(n, x)])) ∧ ks'[k]? = some (n, x) ∧ rv' = .slice (some ⟨gr, 0, none⟩) ks'.length cap ∧ WkIn X chans R base g0 gm ks' A B G seen st fv rv' sv u' ∧ WkGo (Wb g0 gm fv rv sv) (Wb g0 gm fv rv' sv) u u'
theorem row_any {X : Nat → Prop} {chans : List Int} {R : Array Value} {base g0 gm : Nat} {ks : List (Int × Int)} {A B : Nat → List Nat} {G : Nat → Nat} {seen : List Bool} {st : List Nat} {fv : Nat → Value} {rv sv : Value} {u : World} (h : WkIn X chans R base g0 gm ks A B G seen st fv rv sv u) {n x : Int} (hn : Wf n) (hx : Wf x) (hl : ks.length ≤ 1000000) :
    Calls Tryz.prog 115 #[.pointer (some ⟨g0, 0, none⟩), .int .i64 n, .int .i64 x] u (RowE X chans R base g0 gm ks A B G seen st fv rv sv n x u) := by
  have HK := Lib.hid h
  have HM := Lib.hid h.map
  have HKL := Lib.hid (kL_of hn hx)
  have hhas := mapD_has h.wf hn hx
  obtain ⟨c30, c31, c32, c33, cf⟩ := h.cells
  have cf30 := cf 30
  obtain ⟨i0, hi0, iz0, iz1, iz2⟩ := info_parts info_rowT
  have hbs : base ≤ u.heap.size := h.fam.top
  by_cases hin : (n, x) ∈ ks
  · obtain ⟨k, hk⟩ := List.getElem?_of_mem hin
    have hkl := (List.getElem?_eq_some_iff.1 hk).1
    have hat0 := mapD_at h.wf hk (fun j hj e => absurd ((List.getElem?_inj hkl h.nodup).1 (hk.trans e.symm)) (by omega)) (.lit (.int .i64 0))
    have HH : Hid (Maps.has (mapD ks) (kL n x) = true) := Lib.hid (by rw [hhas]; exact List.contains_iff_mem.2 hin)
    have HA0 := Lib.hid hat0
    have HKk := Lib.hid hk
    obtain ⟨gr, cap, hrv, hgr, _⟩ := h.row hkl
    have HR := Lib.hid hrv
    subst hrv
    have hkl' : (k : Int) < (ks.length : Int) := by omega
    clear h hhas hat0 hk hin c32 c33 cf
    go_enter Tryz.func115, Tryz.ntmps115
    go_wp2_with (at_lookup; refine wpList_lookup_own_ok_int _ rfl _ _ 158 rfl 198 3 .i64 keyed_thing Tryz.underlying158 Tryz.underlying3 (zero_int _) gm _ _ rfl HM.out _ _ rfl HKL.out ?_; intro c hat hwc; rw [HH.out]; obtain rfl : c = k := (by rw [HA0.out] at hat; cases hat; rfl); clear hat hwc)
    go_ret
    exact ⟨ks, _, k, gr, cap, rfl, .inl rfl, HKk.out, rfl, HK.out, WkGo.refl _ _⟩
  · have HH : Hid (Maps.has (mapD ks) (kL n x) = false) := Lib.hid (by rw [hhas]; simpa using hin)
    have HIN := Lib.hid hin
    obtain ⟨ra, rc, hrv⟩ := own_slice0 h.rows
    subst hrv
    clear hhas hin c32 c33 cf
    have HROW := Lib.hid h.rows
    have HNo := Lib.hid h.no
    have HG0 := Lib.hid (h.lt (.inl rfl)).1
    have HGG := Lib.hid h.gg
    have HRlt := Lib.hid (fun g (e : (Value.slice ra ks.length rc).ownBlock = some g) => (own_lt h.rows g e).1)
    clear h
    have hkl : ks.length < 9223372036854775807 := by omega
    go_enter Tryz.func115, Tryz.ntmps115
    go_wp2_with (first
      | (at_lookup; refine wpList_lookup_own_ok_int _ rfl _ _ 158 rfl 198 3 .i64 keyed_thing Tryz.underlying158 Tryz.underlying3 (zero_int _) gm _ _ rfl HM.out _ _ rfl HKL.out ?_; intro c hat hwc; rw [HH.out]; clear hat)
      | (at_mapUpdate; refine wpList_mapUpdate_own _ rfl _ _ _ 158 rfl 198 3 keyed_thing Tryz.underlying158 _ gm ks.length _ rfl HM.out (by unfold maxLen; omega) _ _ _ rfl rfl HKL.out _ [] (plainElem_int Tryz.underlying3 (WalkArith.wf_i64 (by omega))) ?_; intro w1 hown1 hgrow1; have hT1 := Touch.grown (X := fun g => g = gm) hgrow1 (fun k e => (Option.some.inj e).symm); have d30 := (World.cell?_of_block (a := ⟨g0, 30, none⟩) (hT1.block g0 HG0.out HGG.out)).trans c30; rw [← mapD_snoc] at hown1; have HM1 := Lib.hid hown1; have HT1 := Lib.hid hT1; clear hown1 hgrow1 hT1 c30 c31 cf30)
      | (at_builtin; refine wpList_append_own_at _ rfl _ _ 159 rfl base 181 i0 (.agg #[.slice none 0 0, .slice none 0 0, .int .i64 0]) 3 56 Tryz.underlying159 hi0 iz0 iz1 iz2 rfl (by decide) (.slice ra ks.length rc) ks.length (rowsC fv G ks.length) rfl (own_later (own_touch HROW.out HT1.out fun g e q => (HNo.out gm (.inr rfl)).2.1 (by rw [e, q])) (below_box w1 _)) ⟨w1.heap.size, 0, none⟩ 1 1 [.slice none 0 0, .slice none 0 0, .int .i64 0] rfl rfl (cells_row_new w1 _ _ _ _) (by simp [Value.oneCell']) (by unfold maxLen; omega) (by omega) (by have := HT1.out.size; simp; omega) ?_; intro v5 w5 hown5 hgrow5 _ hat5; obtain ⟨g5, cap5, rfl⟩ := own_slice hown5 (by omega)
         have hT5 : Touch (fun q => (Value.slice ra ks.length rc).ownBlock = some q) w1 w5 := (Touch.of_below (below_box w1 (.cells #[.slice none 0 0, .slice none 0 0, .int .i64 0] 181))).trans (Touch.grown (X := fun q => (Value.slice ra ks.length rc).ownBlock = some q) hgrow5 (fun k e => e)) (fun _ _ h => h)
         have hg01 := Nat.lt_of_lt_of_le HG0.out HT1.out.size
         have e30 := (World.cell?_of_block (a := ⟨g0, 30, none⟩) (hT5.block g0 hg01 (HNo.out g0 (.inl rfl)).2.1)).trans d30
         have ef30 : w5.frozen? ⟨g0, 30, none⟩ = false := (World.frozen?_of_block (a := ⟨g0, 30, none⟩) ((hT5.block g0 hg01 (HNo.out g0 (.inl rfl)).2.1).trans (HT1.out.block g0 HG0.out HGG.out))).trans (HK.out.cells.2.2.2.2 30)
         have HW5 : Hid (Whr u (.slice (some ⟨g5, 0, none⟩) (ks.length + 1) cap5) (.slice ra ks.length rc)) := Lib.hid (by
           rcases hat5 with q | q
           · exact .inl q
           · exact .inr (.inr ⟨_, q, by have := HT1.out.size; simp; omega⟩))
         have HO5 := Lib.hid hown5
         have HT5 := Lib.hid hT5
         clear hown5 hgrow5 hat5 hT5 d30 hg01))
    go_ret
    have hN := HK.out.newrow hn hx HIN.out HM1.out HT1.out HT5.out HO5.out HW5.out
    exact ⟨ks ++ [(n, x)], _, ks.length, g5, cap5, rfl, .inr ⟨HIN.out, rfl⟩, by simp, by simp, hN.1, hN.2⟩
end Go.Proofs.YtglafbajbiengaaGreat
