/- What order's rows hold behind so many events. -/
import Derived.Test.YtkhhkjinlkpdlaaOrderRow
import Derived.StillTailTactics
namespace Go.Proofs.Ytkhhkjinlkpdlaa
set_option linter.unusedVariables false
set_option linter.unusedSimpArgs false
set_option maxRecDepth 100000
open Go.ChangeShapes Go.WideShapes Go.ChangeAt Go.RowKit Go.Maps

def whN : Option Wh → Int → Nat → Nat → Int × Int
  | none, _, a, _ => (0, a)
  | some w, x, a, b => w x a b
def goneF (f e g : Nat) : Nat := if f ≤ g then min g e else f
def goneG (f e g : Nat) : Nat := if f ≤ g then max g e else g
section
variable {X : Nat → Prop} {chans : List Int} {R : Array Value} {base g0 gm : Nat} {ks : List (Int × Int)} {A B : Nat → List Nat} {G : Nat → Nat} {seen : List Bool} {st : List Nat} {fv : Nat → Value} {rv sv : Value} {u u' : World}
/-- A thing's two rows, as slices that lie. -/
theorem WkIn.lists (h : WkIn X chans R base g0 gm ks A B G seen st fv rv sv u) (k : Nat) : (∃ a cap, fv (1 + 2 * k) = .slice a (A k).length cap ∧ (A k).length ≤ cap ∧ RowOf .i64 u u.heap.size a (ofN (A k)) ∧ ∀ b off, a = some ⟨b, off, none⟩ → off = 0) ∧ ∃ a cap, fv (2 + 2 * k) = .slice a (B k).length cap ∧ RowOf .i64 u u.heap.size a (ofN (B k)) := by
  have key : ∀ i (l : List Nat), flW A B st i = ofN l → ∃ a cap, fv i = .slice a l.length cap ∧ l.length ≤ cap ∧ RowOf .i64 u u.heap.size a (ofN l) ∧ ∀ b off, a = some ⟨b, off, none⟩ → off = 0 := by
    intro i l hl
    have ho := h.fam.row i
    rw [hl] at ho
    obtain ⟨a, cap, e, hc⟩ := own_cells ho
    rw [ofN_len] at e
    refine ⟨a, cap, e, ?_, fun j y hy => ?_, ?_⟩
    · rcases ho.2 with ⟨q, q0⟩ | ⟨g, cap', cur, q, hb, hh, hle, _⟩
      · rw [ofN_len] at q0; omega
      · rw [q] at e; injection e with e1 e2 e3; rw [ofN_len] at hle; omega
    · obtain ⟨g, rfl, h1, h2, h3⟩ := hc j y hy
      exact ⟨g, 0, rfl, h2, by rw [Nat.zero_add]; exact h3⟩
    · intro b off q
      rcases ho.2 with ⟨q', q0⟩ | ⟨g, cap', cur, q', _⟩
      · rw [q'] at e; injection e with e1 e2 e3; rw [q] at e1; cases e1
      · rw [q'] at e; injection e with e1 e2 e3; rw [q] at e1; cases e1; rfl
  obtain ⟨a, cap, h1, h2, h3, h4⟩ := key (1 + 2 * k) (A k) (flW_a ..)
  obtain ⟨b, cap', k1, k2, k3, _⟩ := key (2 + 2 * k) (B k) (flW_b ..)
  exact ⟨⟨a, cap, h1, h2, h3, h4⟩, b, cap', k1, k3⟩
theorem WkIn.part (h : WkIn X chans R base g0 gm ks A B G seen st fv rv sv u) {k : Nat} {aa : Option Addr} {ac : Nat} (hfa : fv (1 + 2 * k) = .slice aa (A k).length ac) (e m : Nat) : ∀ i y : Nat, (((A k).take e).drop m)[i]? = some y → ∃ g, aa = some ⟨g, 0, none⟩ ∧ (fv (1 + 2 * k)).ownBlock = some g ∧ u.cell? ⟨g, m + i, none⟩ = some (.int .i64 y) := by
  intro i y hy
  obtain ⟨⟨a, cap, h1, _, h3, h4⟩, _⟩ := h.lists k
  rw [hfa] at h1
  injection h1 with e1 e2 e3
  subst e1
  rw [List.getElem?_drop, List.getElem?_take] at hy
  split at hy
  · obtain ⟨b, off, q1, q2, q3⟩ := h3 _ _ (ofN_at hy)
    obtain rfl := h4 b off q1
    rw [Nat.zero_add] at q3
    exact ⟨b, q1, by rw [hfa, q1]; rfl, q3⟩
  · cases hy
end
structure RowsOk (chans : List Int) (t : List EvD) (fa fb : Nat → Nat) (ks : List (Int × Int)) (A B : Nat → List Nat) : Prop where
  at_ : ∀ (k : Nat) (n x : Int), ks[k]? = some (n, x) → ∃ (m : Nat) (r : RuD), n = m ∧ (rulesL chans)[m]? = some r ∧ A k = plS r.a x (t.take (fa m)) 0 ∧ (r.wh ≠ none → B k = plS r.b x (t.take (fb m)) 0)
  out : ∀ (m : Nat) (r : RuD) (x : Int), (rulesL chans)[m]? = some r → ((m : Int), x) ∉ ks → plS r.a x (t.take (fa m)) 0 = [] ∧ (r.wh ≠ none → plS r.b x (t.take (fb m)) 0 = [])
theorem rules_lt {chans : List Int} {m : Nat} {r : RuD} (h : (rulesL chans)[m]? = some r) : m < 10 := by have := (List.getElem?_eq_some_iff.1 h).1; simpa [rulesL] using this
theorem plS_take_succ (s : Sd) (x : Int) {t : List EvD} {i : Nat} {e : EvD} (h : t[i]? = some e) : plS s x (t.take (i + 1)) 0 = plS s x (t.take i) 0 ++ (if isS s x e then [i] else []) := by
  have hl : (t.take i).length = i := by rw [List.length_take]; have := (List.getElem?_eq_some_iff.1 h).1; omega
  rw [List.take_add_one, h, Option.toList_some, plS_snoc, hl, Nat.zero_add]
theorem RowsOk.row {chans : List Int} {t : List EvD} {fa fb : Nat → Nat} {ks : List (Int × Int)} {A B : Nat → List Nat} (h : RowsOk chans t fa fb ks A B) {m : Nat} {r : RuD} {x : Int} (hr : (rulesL chans)[m]? = some r) (hn : ((m : Int), x) ∉ ks) (hA : A ks.length = []) (hB : B ks.length = []) : RowsOk chans t fa fb (ks ++ [((m : Int), x)]) A B := by
  refine ⟨fun k n y hk => ?_, fun m' r' y hr' hn' => h.out m' r' y hr' fun q => hn' (List.mem_append_left _ q)⟩
  rcases Nat.lt_or_ge k ks.length with q | q
  · rw [List.getElem?_append_left q] at hk; exact h.at_ k n y hk
  · obtain rfl : k = ks.length := by have := (List.getElem?_eq_some_iff.1 hk).1; simp at this; omega
    simp at hk
    obtain ⟨rfl, rfl⟩ := hk
    obtain ⟨o1, o2⟩ := h.out m r x hr hn
    exact ⟨m, r, rfl, hr, by rw [hA, o1], fun q => by rw [hB, o2 q]⟩
theorem RowsOk.nota {chans : List Int} {t : List EvD} {fa fb : Nat → Nat} {ks : List (Int × Int)} {A B : Nat → List Nat} (h : RowsOk chans t fa fb ks A B) {m i : Nat} {r : RuD} {e : EvD} (hr : (rulesL chans)[m]? = some r) (hf : fa m = i) (he : t[i]? = some e) (hs : (r.a e).2 = false) : RowsOk chans t (updF fa m (i + 1)) fb ks A B := by
  have key : ∀ (m' : Nat) (r' : RuD) (x : Int), (rulesL chans)[m']? = some r' → plS r'.a x (t.take (updF fa m (i + 1) m')) 0 = plS r'.a x (t.take (fa m')) 0 := by
    intro m' r' x hr'
    by_cases e' : m' = m
    · subst e'; rw [hr] at hr'; cases hr'
      rw [updF_same, plS_take_succ _ _ he, hf]; simp [isS, hs]
    · rw [updF_ne _ _ e']
  refine ⟨fun k n x hk => ?_, fun m' r' x hr' hn => ?_⟩
  · obtain ⟨m', r', h1, h2, h3, h4⟩ := h.at_ k n x hk
    exact ⟨m', r', h1, h2, by rw [key m' r' x h2]; exact h3, h4⟩
  · rw [key m' r' x hr']; exact h.out m' r' x hr' hn
theorem RowsOk.nod {chans : List Int} {t : List EvD} {fa fb : Nat → Nat} {ks : List (Int × Int)} {A B : Nat → List Nat} (h : RowsOk chans t fa fb ks A B) {m i : Nat} {r : RuD} {e : EvD} (hr : (rulesL chans)[m]? = some r) (hf : fb m = i) (he : t[i]? = some e) (hs : r.wh = none ∨ (r.b e).2 = false) : RowsOk chans t fa (updF fb m (i + 1)) ks A B := by
  have key : ∀ (m' : Nat) (r' : RuD) (x : Int), (rulesL chans)[m']? = some r' → r'.wh ≠ none → plS r'.b x (t.take (updF fb m (i + 1) m')) 0 = plS r'.b x (t.take (fb m')) 0 := by
    intro m' r' x hr' hw
    by_cases e' : m' = m
    · subst e'; rw [hr] at hr'; cases hr'
      rw [updF_same, plS_take_succ _ _ he, hf]; simp [isS, hs.resolve_left hw]
    · rw [updF_ne _ _ e']
  refine ⟨fun k n x hk => ?_, fun m' r' x hr' hn => ?_⟩
  · obtain ⟨m', r', h1, h2, h3, h4⟩ := h.at_ k n x hk
    exact ⟨m', r', h1, h2, h3, fun q => by rw [key m' r' x h2 q]; exact h4 q⟩
  · exact ⟨(h.out m' r' x hr' hn).1, fun q => by rw [key m' r' x hr' q]; exact (h.out m' r' x hr' hn).2 q⟩
theorem key_inj {ks : List (Int × Int)} (hd : ks.Nodup) {k k' : Nat} {p : Int × Int} (h : ks[k]? = some p) (h' : ks[k']? = some p) : k = k' :=
  (List.getElem?_inj (List.getElem?_eq_some_iff.1 h).1 hd).1 (h.trans h'.symm)
theorem RowsOk.ahead {chans : List Int} {t : List EvD} {fa fb : Nat → Nat} {ks : List (Int × Int)} {A B : Nat → List Nat} (h : RowsOk chans t fa fb ks A B) (hd : ks.Nodup) {m i k : Nat} {r : RuD} {e : EvD} (hr : (rulesL chans)[m]? = some r) (hf : fa m = i) (he : t[i]? = some e) (hs : (r.a e).2 = true) (hk : ks[k]? = some ((m : Int), (r.a e).1)) : RowsOk chans t (updF fa m (i + 1)) fb ks (updF A k (A k ++ [i])) B := by
  refine ⟨fun k' n x hk' => ?_, fun m' r' x hr' hn => ?_⟩
  · obtain ⟨m', r', rfl, h2, h3, h4⟩ := h.at_ k' n x hk'
    refine ⟨m', r', rfl, h2, ?_, h4⟩
    by_cases em : m' = m
    · subst em; rw [hr] at h2; cases h2
      rw [updF_same, plS_take_succ _ _ he]
      by_cases ex : x = (r.a e).1
      · subst ex
        obtain rfl := key_inj hd hk' hk
        rw [updF_same, h3, hf]; simp [isS, hs]
      · rw [updF_ne _ _ (fun q => ex (by subst q; rw [hk] at hk'; cases hk'; rfl)), h3, hf]
        have : ((r.a e).1 == x) = false := by simpa using fun q => ex q.symm
        simp [isS, hs, this]
    · rw [updF_ne _ _ em, updF_ne _ _ (fun q => em (by subst q; rw [hk] at hk'; cases hk'; rfl)), h3]
  · by_cases em : m' = m
    · subst em; rw [hr] at hr'; cases hr'
      rw [updF_same, plS_take_succ _ _ he, ← hf]
      refine ⟨?_, (h.out m' r x hr hn).2⟩
      have ex : x ≠ (r.a e).1 := fun q => by subst q; exact hn (List.mem_of_getElem? hk)
      have : ((r.a e).1 == x) = false := by simpa using fun q => ex q.symm
      rw [(h.out m' r x hr hn).1]; simp [isS, this]
    · rw [updF_ne _ _ em]; exact h.out m' r' x hr' hn
theorem RowsOk.behind {chans : List Int} {t : List EvD} {fa fb : Nat → Nat} {ks : List (Int × Int)} {A B : Nat → List Nat} (h : RowsOk chans t fa fb ks A B) (hd : ks.Nodup) {m i k : Nat} {r : RuD} {e : EvD} (hr : (rulesL chans)[m]? = some r) (hf : fb m = i) (he : t[i]? = some e) (hw : r.wh ≠ none) (hs : (r.b e).2 = true) (hk : ks[k]? = some ((m : Int), (r.b e).1)) : RowsOk chans t fa (updF fb m (i + 1)) ks A (updF B k (B k ++ [i])) := by
  refine ⟨fun k' n x hk' => ?_, fun m' r' x hr' hn => ?_⟩
  · obtain ⟨m', r', rfl, h2, h3, h4⟩ := h.at_ k' n x hk'
    refine ⟨m', r', rfl, h2, h3, fun q => ?_⟩
    by_cases em : m' = m
    · subst em; rw [hr] at h2; cases h2
      rw [updF_same, plS_take_succ _ _ he]
      by_cases ex : x = (r.b e).1
      · subst ex
        obtain rfl := key_inj hd hk' hk
        rw [updF_same, h4 q, hf]; simp [isS, hs]
      · rw [updF_ne _ _ (fun q => ex (by subst q; rw [hk] at hk'; cases hk'; rfl)), h4 q, hf]
        have : ((r.b e).1 == x) = false := by simpa using fun q => ex q.symm
        simp [isS, hs, this]
    · rw [updF_ne _ _ em, updF_ne _ _ (fun q => em (by subst q; rw [hk] at hk'; cases hk'; rfl)), h4 q]
  · by_cases em : m' = m
    · subst em; rw [hr] at hr'; cases hr'
      refine ⟨(h.out m' r x hr hn).1, fun q => ?_⟩
      rw [updF_same, plS_take_succ _ _ he, ← hf]
      have ex : x ≠ (r.b e).1 := fun q => by subst q; exact hn (List.mem_of_getElem? hk)
      have : ((r.b e).1 == x) = false := by simpa using fun q => ex q.symm
      rw [(h.out m' r x hr hn).2 q]; simp [isS, this]
    · rw [updF_ne _ _ em]; exact h.out m' r' x hr' hn
theorem RowsOk.lens {chans : List Int} {t : List EvD} {fa fb : Nat → Nat} {ks : List (Int × Int)} {A B : Nat → List Nat} (h : RowsOk chans t fa fb ks A B) {k m : Nat} {r : RuD} {x : Int} (hr : (rulesL chans)[m]? = some r) (hk : ks[k]? = some ((m : Int), x)) : (A k).length ≤ t.length ∧ (r.wh ≠ none → (B k).length ≤ t.length) := by
  obtain ⟨m', r', e1, h2, h3, h4⟩ := h.at_ k _ x hk
  obtain rfl : m' = m := by omega
  rw [hr] at h2; cases h2
  have key : ∀ (s : Sd) n, (plS s x (t.take n) 0).length ≤ t.length := fun s n => by
    rw [plS_len]
    exact Nat.le_trans List.countP_le_length (by rw [List.length_take]; omega)
  exact ⟨by rw [h3]; exact key _ _, fun q => by rw [h4 q]; exact key _ _⟩
/-- An event's numbers are ints. -/
def EvW (e : EvD) : Prop := Wf e.th ∧ Wf e.obj
theorem side_wf {chans : List Int} {m : Nat} {r : RuD} (h : (rulesL chans)[m]? = some r) {e : EvD} (he : EvW e) : Wf (r.a e).1 ∧ Wf (r.b e).1 := by
  have key : ∀ q ∈ rulesL chans, Wf (q.a e).1 ∧ Wf (q.b e).1 := by
    intro q hq
    simp only [rulesL, List.mem_cons, List.not_mem_nil, or_false] at hq
    rcases hq with rfl | rfl | rfl | rfl | rfl | rfl | rfl | rfl | rfl | rfl <;> first | exact ⟨he.1, he.1⟩ | exact ⟨he.2, he.1⟩ | exact ⟨he.2, he.2⟩
  exact key r (List.mem_of_getElem? h)
end Go.Proofs.Ytkhhkjinlkpdlaa
