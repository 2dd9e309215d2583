/- What order's walk back keeps: a row grows, a mark is put, the stack. -/
import Derived.Test.YtkhhkjinlkpdlaaOrderWk
namespace Go.Proofs.Ytkhhkjinlkpdlaa
set_option linter.unusedVariables false
set_option linter.unusedSimpArgs false
set_option maxRecDepth 100000
open Go.ChangeShapes Go.WideShapes Go.ChangeAt Go.RowKit Go.Maps

section
variable {X : Nat → Prop} {chans : List Int} {R : Array Value} {base g0 gm : Nat} {ks : List (Int × Int)} {A B : Nat → List Nat} {G : Nat → Nat} {seen : List Bool} {st : List Nat} {fv : Nat → Value} {rv sv : Value} {u u' : World}
theorem touch_cellset {Z : Nat → Prop} {g i : Nat} {v : Value} (T : Touch Z u u') : Touch (fun j => Z j ∨ j = g) u (u'.setCell ⟨g, i, none⟩ v) := (T.mono fun _ _ h => .inl h).set (.inr rfl)
theorem WkIn.push (h : WkIn X chans R base g0 gm ks A B G seen st fv rv sv u) {k j : Nat} (hk : k < ks.length) (hj : j < 2) {gr cap : Nat} (e : rv = .slice (some ⟨gr, 0, none⟩) ks.length cap) {A' B' : Nat → List Nat} {l : List Nat} {v : Value}
    (hfl : updF (flW A B st) (1 + j + 2 * k) (ofN l) = flW A' B' st) (hoth : ∀ i, i ≠ k → A' i = A i ∧ B' i = B i) (T : Touch (fun q => (fv (1 + j + 2 * k)).ownBlock = some q) u u') (ho : u'.ownsRow base 3 1 v (ofN l).length ((ofN l).map (.int .i64 ·))) (hw : Whr u v (fv (1 + j + 2 * k))) :
    WkIn X chans R base g0 gm ks A' B' G seen st (updF fv (1 + j + 2 * k) v) rv sv (u'.setCell ⟨gr, k * 3 + j, none⟩ v) ∧ WkGo (Wb g0 gm fv rv sv) (Wb g0 gm (updF fv (1 + j + 2 * k) v) rv sv) u (u'.setCell ⟨gr, k * 3 + j, none⟩ v) := by
  have er : rv.ownBlock = some gr := by rw [e]; rfl
  have n0 := (h.no g0 (.inl rfl)).2.1
  have nm := (h.no gm (.inr rfl)).2.1
  have n0i := (h.no g0 (.inl rfl)).1 (1 + j + 2 * k)
  have nmi := (h.no gm (.inr rfl)).1 (1 + j + 2 * k)
  have T2 := touch_cellset (g := gr) (i := k * 3 + j) (v := v) T
  have hF := h.fam.upd T ho hw
  rw [hfl] at hF
  have hrl : ∀ g, rv.ownBlock = some g → g < u.heap.size := fun g hg => (own_lt h.rows g hg).1
  have hap : ∀ i, Apart (updF fv (1 + j + 2 * k) v i) rv := fun i => by
    by_cases q : i = 1 + j + 2 * k
    · subst q; rw [updF_same]; exact Whr.apart hw (h.apR _) hrl
    · rw [updF_ne _ _ q]; exact h.apR i
  have hrows := own_touch h.rows T fun g hg q => apart_ne (h.apR (1 + j + 2 * k)) q hg
  have hdj : ∀ {b : Value}, (∀ i, Apart (fv i) b) → Apart rv b → ∀ g, b.ownBlock = some g → ¬ ((fv (1 + j + 2 * k)).ownBlock = some g ∨ g = gr) := fun {b} ha hb g hg q => by
    rcases q with q | q
    · exact apart_ne (ha _) q hg
    · subst q; exact apart_ne hb er hg
  refine h.chg T2 (fun g hg => ?_) (hF.touch ((Touch.of_below (X := fun q => q = gr) (Below.refl _ _)).set rfl) fun i g hg q => ?_) ?_ (own_touch h.marks T2 fun g hg => hdj h.apS h.apRS g hg) (map_touch h.map T2 fun q => ?_) ?_ (fun i => ?_) (.inl rfl) hap (fun i hi => ?_) h.wf h.nodup
  · rcases hg with hg | hg
    · exact .inr (.inr (.inl ⟨_, hg⟩))
    · subst hg; exact .inr (.inr (.inr (.inl er)))
  · subst q; exact apart_ne (hap i) hg er
  · have := own_put hrows e (j := k * 3 + j) (by omega) v
    rw [rowsC_set (fv' := updF fv (1 + j + 2 * k) v) (G' := G) hk (by omega) (fun i hi => by simp only [rowC]; rw [updF_ne _ _ (by omega), updF_ne _ _ (by omega)]) ?_] at this
    · exact this
    · match j, hj with
      | 0, _ => simp only [rowC]; rw [show 1 + 0 + 2 * k = 1 + 2 * k by omega, updF_same, updF_ne _ _ (by omega)]; rfl
      | 1, _ => simp only [rowC]; rw [show 1 + 1 + 2 * k = 2 + 2 * k by omega, updF_same, updF_ne _ _ (by omega)]; rfl
  · rcases q with q | q
    · exact nmi q
    · exact nm (by rw [er, q])
  · obtain ⟨S, h1, h2, h3, h4, h5, h6, h7⟩ := h.box
    refine ⟨S, (T2.block _ (Array.getElem?_eq_some_iff.1 h1).1 fun q => ?_).trans h1, h2, h3, h4, h5, h6, by rw [updF_ne _ _ (by omega)]; exact h7⟩
    rcases q with q | q
    · exact n0i q
    · exact n0 (by rw [er, q])
  · by_cases q : i = 1 + j + 2 * k
    · subst q; rw [updF_same]; exact hw
    · rw [updF_ne _ _ q]; exact .inl rfl
  · obtain ⟨a, b, c, d, e'⟩ := h.nil i hi
    obtain ⟨o1, o2⟩ := hoth i (by omega)
    exact ⟨by rw [updF_ne _ _ (by omega)]; exact a, by rw [updF_ne _ _ (by omega)]; exact b, by rw [o1]; exact c, by rw [o2]; exact d, e'⟩
/-- A mark is put. -/
theorem WkIn.mark (h : WkIn X chans R base g0 gm ks A B G seen st fv rv sv u) {i : Nat} (hi : i < seen.length) {gs cap : Nat} (e : sv = .slice (some ⟨gs, 0, none⟩) seen.length cap) :
    WkIn X chans R base g0 gm ks A B G (seen.set i true) st fv rv sv (u.setCell ⟨gs, i, none⟩ (.bool true)) ∧ WkGo (Wb g0 gm fv rv sv) (Wb g0 gm fv rv sv) u (u.setCell ⟨gs, i, none⟩ (.bool true)) := by
  have er : sv.ownBlock = some gs := by rw [e]; rfl
  have n0 := (h.no g0 (.inl rfl)).2.2
  have nm := (h.no gm (.inr rfl)).2.2
  have T : Touch (fun g => g = gs) u (u.setCell ⟨gs, i, none⟩ (.bool true)) := (Touch.of_below (Below.refl _ _)).set rfl
  refine h.chg T (fun g hg => by subst hg; exact .inr (.inr (.inr (.inr er)))) (h.fam.touch T fun i g hg q => ?_) (own_touch h.rows T fun g hg q => ?_) ?_ (map_touch h.map T fun q => nm (by rw [er, q])) ?_ (fun i => .inl rfl) (.inl rfl) h.apR h.nil h.wf h.nodup
  · subst q; exact apart_ne (h.apS i) hg er
  · subst q; exact apart_ne h.apRS hg er
  · have := own_put h.marks e (j := i) (by omega) (.bool true)
    rw [List.length_set, List.map_set]
    exact this
  · obtain ⟨S, h1, h2⟩ := h.box
    exact ⟨S, (T.block _ (Array.getElem?_eq_some_iff.1 h1).1 fun q => n0 (by rw [er, q])).trans h1, h2⟩
/-- The stack is another. -/
theorem WkIn.stack (h : WkIn X chans R base g0 gm ks A B G seen st fv rv sv u) {l : List Nat} {v : Value} (T : Touch (fun q => (fv 0).ownBlock = some q) u u') (ho : u'.ownsRow base 3 1 v (ofN l).length ((ofN l).map (.int .i64 ·))) (hw : Whr u v (fv 0)) :
    WkIn X chans R base g0 gm ks A B G seen l (updF fv 0 v) rv sv (u'.setCell ⟨g0, 33, none⟩ v) ∧ WkGo (Wb g0 gm fv rv sv) (Wb g0 gm (updF fv 0 v) rv sv) u (u'.setCell ⟨g0, 33, none⟩ v) := by
  obtain ⟨n0, n0r, n0s⟩ := h.no g0 (.inl rfl)
  obtain ⟨nm, nmr, nms⟩ := h.no gm (.inr rfl)
  have T2 := touch_cellset (g := g0) (i := 33) (v := v) T
  have hF := h.fam.upd T ho hw
  rw [flW_st] at hF
  have hlt := (h.lt (.inl rfl)).1
  have hap : ∀ i, Apart (updF fv 0 v i) rv := fun i => by
    by_cases q : i = 0
    · subst q; rw [updF_same]; exact Whr.apart hw (h.apR _) fun g hg => (own_lt h.rows g hg).1
    · rw [updF_ne _ _ q]; exact h.apR i
  have hn : ∀ i, (updF fv 0 v i).ownBlock ≠ some g0 := fun i q => by
    by_cases e : i = 0
    · subst e
      rw [updF_same] at q
      rcases hw with e | e | ⟨g, hg, hge⟩
      · exact n0 0 (e.symm.trans q)
      · rw [q] at e; cases e
      · rw [q] at hg; cases hg; omega
    · rw [updF_ne _ _ e] at q; exact n0 i q
  refine h.chg T2 (fun g hg => ?_) (hF.touch ((Touch.of_below (X := fun q => q = g0) (Below.refl _ _)).set rfl) fun i g hg q => ?_) ?_ (own_touch h.marks T2 fun g hg q => ?_) (map_touch h.map T2 fun q => ?_) ?_ (fun i => ?_) (.inl rfl) hap (fun i hi => ?_) h.wf h.nodup
  · rcases hg with hg | hg
    · exact .inr (.inr (.inl ⟨_, hg⟩))
    · subst hg; exact .inl rfl
  · subst q; exact hn i hg
  · have := own_touch h.rows T2 fun g hg q => by
      rcases q with q | q
      · exact apart_ne (h.apR 0) q hg
      · subst q; exact n0r hg
    rw [rowsC_congr (fv' := updF fv 0 v) (G' := G) fun k hk => by simp only [rowC]; rw [updF_ne _ _ (by omega), updF_ne _ _ (by omega)]] at this
    exact this
  · rcases q with q | q
    · exact apart_ne (h.apS 0) q hg
    · subst q; exact n0s hg
  · rcases q with q | q
    · exact nm 0 q
    · exact h.gg q.symm
  · obtain ⟨S, h1, h2, h3, h4, h5, h6, h7⟩ := h.box
    have hh : u'.heap[g0]? = some (.cells S 61) := (T.block _ (Array.getElem?_eq_some_iff.1 h1).1 (n0 0)).trans h1
    refine ⟨S.setIfInBounds 33 v, stSet_block _ _ _ _ hh, by simpa using h2, fun j hj => ?_, ?_, ?_, ?_, ?_⟩
    · rw [Array.getElem?_setIfInBounds_ne (by omega)]; exact h3 j hj
    · rw [Array.getElem?_setIfInBounds_ne (by omega)]; exact h4
    · rw [Array.getElem?_setIfInBounds_ne (by omega)]; exact h5
    · rw [Array.getElem?_setIfInBounds_ne (by omega)]; exact h6
    · rw [Array.getElem?_setIfInBounds_self_of_lt (by omega), updF_same]
  · by_cases q : i = 0
    · subst q; rw [updF_same]; exact hw
    · rw [updF_ne _ _ q]; exact .inl rfl
  · obtain ⟨a, b, c, d, e'⟩ := h.nil i hi
    exact ⟨by rw [updF_ne _ _ (by omega)]; exact a, by rw [updF_ne _ _ (by omega)]; exact b, c, d, e'⟩
/-- A thing's row is made. -/
theorem WkIn.newrow (h : WkIn X chans R base g0 gm ks A B G seen st fv rv sv u) {n x : Int} {rv' : Value} {u1 : World} (hn : Wf n) (hx : Wf x) (hk : (n, x) ∉ ks) (hm : u1.ownsMap Try.prog 77 (plainElem (H := Unit) Try.prog 3) gm (ks.length + 1) (mapD (ks ++ [(n, x)]))) (T1 : Touch (fun g => g = gm) u u1)
    (T : Touch (fun q => rv.ownBlock = some q) u1 u') (ho : u'.ownsRow base 73 3 rv' (ks.length + 1) (rowsC fv G ks.length ++ [.slice none 0 0, .slice none 0 0, .int .i64 0])) (hw : Whr u rv' rv) :
    WkIn X chans R base g0 gm (ks ++ [(n, x)]) A B G seen st fv rv' sv (u'.setCell ⟨g0, 30, none⟩ rv') ∧ WkGo (Wb g0 gm fv rv sv) (Wb g0 gm fv rv' sv) u (u'.setCell ⟨g0, 30, none⟩ rv') := by
  obtain ⟨n0, n0r, n0s⟩ := h.no g0 (.inl rfl)
  obtain ⟨nm, nmr, nms⟩ := h.no gm (.inr rfl)
  have T0 : Touch (fun q => q = gm ∨ rv.ownBlock = some q) u u' := (T1.mono fun _ _ q => .inl q).trans T fun _ _ q => .inr q
  have T2 := touch_cellset (g := g0) (i := 30) (v := rv') T0
  have hlt := (h.lt (.inl rfl)).1
  obtain ⟨b1, b2, b3, b4, b5⟩ := h.nil ks.length (Nat.le_refl _)
  have hap : ∀ i, Apart (fv i) rv' := fun i => (Whr.apart hw (h.apR i).symm fun g hg => (own_lt (h.fam.row i) g hg).1).symm
  have hn0 : rv'.ownBlock ≠ some g0 := fun q => by
    rcases hw with e | e | ⟨g, hg, hge⟩
    · exact n0r (e.symm.trans q)
    · rw [q] at e; cases e
    · rw [q] at hg; cases hg; omega
  refine h.chg T2 (fun g hg => ?_) (h.fam.touch T2 fun i g hg q => ?_) ?_ (own_touch h.marks T2 fun g hg q => ?_) (map_touch (map_touch (by simpa using hm) T fun q => nmr q) ((Touch.of_below (X := fun q => q = g0) (Below.refl _ _)).set rfl) fun q => h.gg q.symm) ?_ (fun i => .inl rfl) hw hap (fun i hi => ?_) ?_ ?_
  · rcases hg with (hg | hg) | hg
    · exact .inr (.inl hg)
    · exact .inr (.inr (.inr (.inl hg)))
    · exact .inl hg
  · rcases q with (q | q) | q
    · subst q; exact nm i hg
    · exact apart_ne (h.apR i) hg q
    · subst q; exact n0 i hg
  · have e1 : rowsC fv G (ks ++ [(n, x)]).length = rowsC fv G ks.length ++ [.slice none 0 0, .slice none 0 0, .int .i64 0] := by
      rw [List.length_append, List.length_singleton, rowsC_succ]
      simp only [rowC, b1, b2, b5]; rfl
    rw [e1, List.length_append, List.length_singleton]
    exact own_touch ho ((Touch.of_below (X := fun q => q = g0) (Below.refl _ _)).set rfl) fun g hg q => hn0 (by rw [hg, q])
  · rcases q with (q | q) | q
    · subst q; exact nms hg
    · exact apart_ne h.apRS q hg
    · subst q; exact n0s hg
  · obtain ⟨S, h1, h2, h3, h4, h5, h6, h7⟩ := h.box
    have hh : u'.heap[g0]? = some (.cells S 61) := (T0.block _ (Array.getElem?_eq_some_iff.1 h1).1 (by rintro (q | q); exact h.gg q; exact n0r q)).trans h1
    refine ⟨S.setIfInBounds 30 rv', stSet_block _ _ _ _ hh, by simpa using h2, fun j hj => ?_, ?_, ?_, ?_, ?_⟩
    · rw [Array.getElem?_setIfInBounds_ne (by omega)]; exact h3 j hj
    · rw [Array.getElem?_setIfInBounds_self_of_lt (by omega)]
    · rw [Array.getElem?_setIfInBounds_ne (by omega)]; exact h5
    · rw [Array.getElem?_setIfInBounds_ne (by omega)]; exact h6
    · rw [Array.getElem?_setIfInBounds_ne (by omega)]; exact h7
  · rw [List.length_append, List.length_singleton] at hi
    exact h.nil i (by omega)
  · intro p hp
    rcases List.mem_append.1 hp with q | q
    · exact h.wf p q
    · obtain rfl := List.mem_singleton.1 q; exact ⟨hn, hx⟩
  · rw [List.nodup_append]
    exact ⟨h.nodup, by simp, fun a ha b hb => by obtain rfl := List.mem_singleton.1 hb; intro q; subst q; exact hk ha⟩
end
end Go.Proofs.Ytkhhkjinlkpdlaa
