/- What any instruction does. -/
import Derived.Test.YtfcfdneganknjaaStateDo5
namespace Go.Proofs.Ytfcfdneganknjaa
set_option linter.unusedVariables false
set_option linter.unusedSimpArgs false
set_option maxRecDepth 100000
open Go.ChangeShapes Go.WideShapes Go.ChangeAt Go.RowKit

/-- A cell of the event is put, or a cell of the state. -/
inductive Ed where
  | e (i : Nat) (v : Int)
  | m (i : Nat) (v : Int)
def Ed.ok : Ed → Prop
  | .e i _ => 3 ≤ i ∧ i < 6
  | .m i _ => i ≠ 0 ∧ i ≠ 89
def ed (b eb : Nat) : List Ed → World → World
  | [], w => w
  | .e i v :: l, w => ed b eb l (w.setCell ⟨eb, i, none⟩ (.int .i64 v))
  | .m i v :: l, w => ed b eb l (w.setCell ⟨b, i, none⟩ (valAt i v))
def edM : List Ed → (Nat → Int) → Nat → Int
  | [], m => m
  | .e i v :: l, m => edM l m
  | .m i v :: l, m => edM l (upd m i v)
def edE : List Ed → (Nat → Int) → Nat → Int
  | [], m => m
  | .e i v :: l, m => edE l (upd m i v)
  | .m i v :: l, m => edE l m
/-- The event, as it lies. -/
abbrev evO (t0 t1 t2 : Value) (ev : Nat → Int) : Obj := .cells #[t0, t1, t2, .int .i64 (ev 3), .int .i64 (ev 4), .int .i64 (ev 5)] 41

theorem ed_size (b eb : Nat) : ∀ (l : List Ed) (w : World), (ed b eb l w).heap.size = w.heap.size
  | [], _ => rfl
  | .e i v :: l, w => by rw [ed, ed_size b eb l, size_setCell]
  | .m i v :: l, w => by rw [ed, ed_size b eb l, size_setCell]
theorem ed_st {b eb lo hi : Nat} {pv : Value} {code : List (List InsD)} {pr : List Int} (h1 : b ≠ eb) (h2 : pv.ownBlock ≠ some eb) (h3 : eb < lo ∨ hi ≤ eb) : ∀ (l : List Ed) {w : World} {m : Nat → Int}, (∀ x ∈ l, x.ok) → StIn w b lo hi pv m code pr → StIn (ed b eb l w) b lo hi pv (edM l m) code pr
  | [], _, _, _, h => h
  | .e i v :: l, _, _, hl, h => ed_st h1 h2 h3 l (fun x hx => hl x (by simp [hx])) (h.aside h1 h2 h3)
  | .m i v :: l, _, _, hl, h => ed_st h1 h2 h3 l (fun x hx => hl x (by simp [hx])) (h.set i v _ rfl (hl (.m i v) (by simp)).1 (hl (.m i v) (by simp)).2)
theorem ed_ev {b eb : Nat} {t0 t1 t2 : Value} (h1 : b ≠ eb) : ∀ (l : List Ed) {w : World} {ev : Nat → Int}, (∀ x ∈ l, x.ok) → w.heap[eb]? = some (evO t0 t1 t2 ev) → (ed b eb l w).heap[eb]? = some (evO t0 t1 t2 (edE l ev))
  | [], _, _, _, h => h
  | .e i v :: l, w, ev, hl, h => by
    refine ed_ev h1 l (fun x hx => hl x (by simp [hx])) ?_
    have hi : 3 ≤ i ∧ i < 6 := hl (.e i v) (by simp)
    rw [stSet_block w eb i _ h]
    obtain rfl | rfl | rfl : i = 3 ∨ i = 4 ∨ i = 5 := by omega
    · rfl
    · rfl
    · rfl
  | .m i v :: l, w, ev, hl, h => ed_ev h1 l (fun x hx => hl x (by simp [hx])) ((Below.heap_setCell _ _ _ _ h1.symm).trans h)
theorem ed_touch {X : Nat → Prop} {b eb : Nat} (hb : X b) (he : X eb) : ∀ (l : List Ed) {w u : World}, Touch X w u → Touch X w (ed b eb l u)
  | [], _, _, h => h
  | .e i v :: l, _, _, h => ed_touch hb he l (h.set he)
  | .m i v :: l, _, _, h => ed_touch hb he l (h.set hb)

/-- What an instruction leaves. -/
def DoPost (w : World) (b eb lo hi : Nat) (pv : Value) (m : Nat → Int) (code : List (List InsD)) (pr : List Int) (t0 t1 t2 : Value) (ev : Nat → Int) (L : List Ed) (told : List Int) (r : Bool) (e : Ending) (w' : World) : Prop :=
  e = .returned (.bool r) ∧ ∃ pv', StIn w' b lo hi pv' (edM L m) code (pr ++ told) ∧ w'.heap[eb]? = some (evO t0 t1 t2 (edE L ev)) ∧ Touch (fun j => j = b ∨ j = eb ∨ pv.ownBlock = some j) w w' ∧ (pv'.ownBlock = pv.ownBlock ∨ ∃ g, pv'.ownBlock = some g ∧ w.heap.size ≤ g)
theorem do_fin {w : World} {b eb lo hi : Nat} {pv : Value} {m : Nat → Int} {code : List (List InsD)} {pr : List Int} {t0 t1 t2 : Value} {ev : Nat → Int} {r : Bool} (S : StIn w b lo hi pv m code pr) (he : w.heap[eb]? = some (evO t0 t1 t2 ev)) (h1 : b ≠ eb) (h2 : pv.ownBlock ≠ some eb) (h3 : eb < lo ∨ hi ≤ eb)
    (L : List Ed) (hL : ∀ x ∈ L, x.ok) {W : World} (hW : ed b eb L w = W) {e : Ending} {w' : World} (h : e = .returned (.bool r) ∧ Below w.heap.size W w') : DoPost w b eb lo hi pv m code pr t0 t1 t2 ev L [] r e w' := by
  subst hW
  obtain ⟨rfl, hB⟩ := h
  have hs := ed_size b eb L w
  have hB' : Below (ed b eb L w).heap.size (ed b eb L w) w' := by rw [hs]; exact hB
  refine ⟨rfl, pv, ?_, ?_, ?_, .inl rfl⟩
  · simpa using (ed_st h1 h2 h3 L hL S).later hB'
  · exact (hB.block eb (Array.getElem?_eq_some_iff.1 he).1).trans (ed_ev h1 L hL he)
  · exact (ed_touch (.inl rfl) (.inr (.inl rfl)) L (Touch.of_below (Below.refl _ _))).trans (Y := fun _ => False) (Touch.of_below hB') (fun _ _ h => h.elim)

/-- Where a register lies. -/
abbrev rg (k r : Nat) : Nat := 1 + k * 6 + 2 + r
/-- What comes out of a channel at o: the number, how, what is put. -/
def takeE (m : Nat → Int) (o : Nat) : Int × Int × List Ed := match (m (o + 3)).toNat with
  | 0 => (0, if m (o + 5) == 1 then 2 else 0, [])
  | 1 => (m o, 1, [.m (o + 3) 0])
  | 2 => (m o, 1, [.m o (m (o + 1)), .m (o + 3) 1])
  | _ => (m o, 1, [.m o (m (o + 1)), .m (o + 1) (m (o + 2)), .m (o + 3) 2])
/-- What an instruction of thread k puts; whether it may be. -/
def doE (m : Nat → Int) (k : Nat) (x : InsD) : List Ed × Bool := match x.op with
  | 1 => ([.m (rg k x.a.toNat) x.b], true)
  | 2 => ([.m (rg k x.a.toNat) (m (rg k x.b.toNat))], true)
  | 3 => ([.m (rg k x.a.toNat) (wrap64 (m (rg k x.b.toNat) + m (rg k x.c.toNat)))], true)
  | 4 => ([.m (rg k x.a.toNat) (wrap64 (m (rg k x.b.toNat) - m (rg k x.c.toNat)))], true)
  | 5 => ([.m (rg k x.a.toNat) (wrap64 (m (rg k x.b.toNat) * m (rg k x.c.toNat)))], true)
  | 6 => ([.m (rg k x.a.toNat) (bitN (decide (m (rg k x.b.toNat) < m (rg k x.c.toNat))))], true)
  | 7 => ([.e 3 x.b, .e 4 (m (37 + x.b.toNat)), .m (rg k x.a.toNat) (m (37 + x.b.toNat))], true)
  | 8 => ([.e 3 x.a, .e 4 (m (rg k x.b.toNat)), .m (37 + x.a.toNat) (m (rg k x.b.toNat))], true)
  | 9 => ([.e 4 (m (rg k x.a.toNat))], true)
  | 10 => ([.m (1 + k * 6 + 1) x.a], true)
  | 11 => (if m (rg k x.a.toNat) == 0 then [.m (1 + k * 6 + 1) x.b] else [], true)
  | 12 => ([.e 3 x.a, .m (1 + x.a.toNat * 6) 1], !(m (1 + x.a.toNat * 6) == 1))
  | 13 => ([.e 3 x.a, .m (49 + x.a.toNat * 2) 1], true)
  | 14 => if m (49 + x.a.toNat * 2) == 1 then ([.e 3 x.a, .m (49 + x.a.toNat * 2) 0], true) else ([.e 3 x.a], false)
  | 15 => ([.e 3 x.a, .m (49 + x.a.toNat * 2 + 1) (wrap64 (m (49 + x.a.toNat * 2 + 1) + 1))], true)
  | 16 => if m (49 + x.a.toNat * 2 + 1) == 0 then ([.e 3 x.a], false) else ([.e 3 x.a, .m (49 + x.a.toNat * 2 + 1) (wrap64 (m (49 + x.a.toNat * 2 + 1) - 1))], true)
  | 17 => ([.e 3 x.b, .e 4 (m (45 + x.b.toNat)), .m (rg k x.a.toNat) (m (45 + x.b.toNat))], true)
  | 18 => ([.e 3 x.a, .e 4 (m (rg k x.b.toNat)), .m (45 + x.a.toNat) (m (rg k x.b.toNat))], true)
  | 19 => ([.e 3 x.b, .e 4 (m (45 + x.b.toNat)), .m (45 + x.b.toNat) (wrap64 (m (45 + x.b.toNat) + m (rg k x.c.toNat))), .m (rg k x.a.toNat) (m (45 + x.b.toNat))], true)
  | 20 => if m (57 + x.a.toNat * 6 + 5) == 1 then ([.e 3 x.a, .e 4 (m (rg k x.b.toNat))], false) else ([.e 3 x.a, .e 4 (m (rg k x.b.toNat)), .m (57 + x.a.toNat * 6 + (m (57 + x.a.toNat * 6 + 3)).toNat) (m (rg k x.b.toNat)), .m (57 + x.a.toNat * 6 + 3) (m (57 + x.a.toNat * 6 + 3) + 1)], true)
  | 21 => ([.e 3 x.b] ++ (takeE m (57 + x.b.toNat * 6)).2.2 ++ [.e 4 (takeE m (57 + x.b.toNat * 6)).1, .e 5 (takeE m (57 + x.b.toNat * 6)).2.1, .m (rg k x.a.toNat) (takeE m (57 + x.b.toNat * 6)).1], true)
  | 22 => ([.e 3 x.b] ++ (takeE m (57 + x.b.toNat * 6)).2.2 ++ [.e 4 (takeE m (57 + x.b.toNat * 6)).1, .e 5 (takeE m (57 + x.b.toNat * 6)).2.1, .m (rg k x.a.toNat) (takeE m (57 + x.b.toNat * 6)).1, .m (rg k x.c.toNat) (bitN ((takeE m (57 + x.b.toNat * 6)).2.1 == 1))], true)
  | 23 => ([.e 3 x.a, .m (57 + x.a.toNat * 6 + 5) 1], !(m (57 + x.a.toNat * 6 + 5) == 1))
  | 24 => if wrap64 (m (81 + x.a.toNat) + x.b) < 0 then ([.e 3 x.a, .e 4 x.b], false) else ([.e 3 x.a, .e 4 x.b, .m (81 + x.a.toNat) (wrap64 (m (81 + x.a.toNat) + x.b))], true)
  | 25 => ([.e 3 x.a], true)
  | 26 => if m (85 + x.b.toNat) == 0 then ([.m (85 + x.b.toNat) 1, .e 3 x.b, .e 5 1, .m (rg k x.a.toNat) 1], true) else ([.e 3 x.b, .e 5 0, .m (rg k x.a.toNat) 0], true)
  | 27 => if m (85 + x.a.toNat) == 1 then ([.e 3 x.a, .m (85 + x.a.toNat) 2], true) else ([.e 3 x.a], false)
  | _ => ([], true)
/-- What an instruction tells. -/
def doT (m : Nat → Int) (k : Nat) (x : InsD) : List Int := if x.op = 9 then [m (rg k x.a.toNat)] else []
end Go.Proofs.Ytfcfdneganknjaa
