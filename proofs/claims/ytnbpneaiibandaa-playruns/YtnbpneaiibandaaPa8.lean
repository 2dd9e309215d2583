/- What the laws of this seat stand on, part 8. -/
import Derived.Test.YtnbpneaiibandaaPa0
import Derived.Test.YtnbpneaiibandaaPa7
set_option linter.unusedVariables false
set_option linter.unusedSimpArgs false
set_option maxRecDepth 100000
set_option maxHeartbeats 40000000
namespace Go.Proofs.Ytnbpneaiibandaa
open Go.ChangeShapes Go.WideShapes Go.ChangeAt Go.RowKit
/-- An event. -/
structure EvD where
  th : Int
  pc : Int
  op : Int
  obj : Int
  val : Int
  mode : Int
def EvD.v (e : EvD) : Value := evV e.th e.pc e.op e.obj e.val e.mode
def evCells (e : EvD) : List Value := [.int .i64 e.th, .int .i64 e.pc, .int .u8 e.op, .int .i64 e.obj, .int .i64 e.val, .int .i64 e.mode]
def evsCells (l : List EvD) : List Value := l.flatMap evCells
theorem evsCells_snoc (c : List EvD) (x : EvD) : evsCells (c ++ [x]) = evsCells c ++ evCells x := by simp [evsCells]
theorem evsCells_at (c : List EvD) : ∀ (k : Nat) (x : EvD), c[k]? = some x → ∀ j, j < 6 → (evsCells c)[k * 6 + j]? = (evCells x)[j]? := by
  induction c with
  | nil => intro k x h; simp at h
  | cons y r ih =>
    intro k x h j hj
    have e : evsCells (y :: r) = evCells y ++ evsCells r := by simp [evsCells]
    rw [e]
    cases k with
    | zero =>
      simp at h; subst h
      rw [List.getElem?_append_left (by simp [evCells]; omega)]; simp
    | succ k =>
      have h' : r[k]? = some x := by simpa using h
      rw [List.getElem?_append_right (by simp [evCells]; omega)]
      have : (k + 1) * 6 + j - (evCells y).length = k * 6 + j := by simp [evCells]; omega
      rw [this]
      exact ih k x h' j hj
theorem ev_one (x : EvD) : ∀ u ∈ evCells x, u.oneCell' = true := by
  intro u hu
  simp [evCells] at hu
  rcases hu with rfl | rfl | rfl | rfl | rfl | rfl <;> rfl
/-- The event of a step. -/
def evD (m : Nat → Int) (k : Nat) (x : InsD) : EvD := ⟨k, m (1 + k * 6 + 1), x.op, edE (doE (pcUp m k) k x).1 (fun _ => 0) 3, edE (doE (pcUp m k) k x).1 (fun _ => 0) 4, edE (doE (pcUp m k) k x).1 (fun _ => 0) 5⟩
def stepE (code : List (List InsD)) (m : Nat → Int) (k : Int) : EvD := if canM code m k then match insM code m k.toNat with | some x => evD m k.toNat x | none => ⟨0, 0, 0, 0, 0, 0⟩ else ⟨0, 0, 0, 0, 0, 0⟩
theorem stepV_E (code : List (List InsD)) (m : Nat → Int) (k : Int) : stepV code m k = (stepE code m k).v := by
  unfold stepV stepE
  split
  · rcases insM code m k.toNat with _ | x <;> rfl
  · rfl
/-- The picks that are steps; their events. -/
def onePk (code : List (List InsD)) (m : Nat → Int) (k : Int) : List Int := if canM code m k then [k] else []
def oneTr (code : List (List InsD)) (m : Nat → Int) (k : Int) : List EvD := if canM code m k then [stepE code m k] else []
def pkM (code : List (List InsD)) : List Int → (Nat → Int) → List Int
  | [], _ => []
  | k :: l, m => onePk code m k ++ pkM code l (stepM code m k)
def trM (code : List (List InsD)) : List Int → (Nat → Int) → List EvD
  | [], _ => []
  | k :: l, m => oneTr code m k ++ trM code l (stepM code m k)
theorem pkM_snoc (code : List (List InsD)) : ∀ (l : List Int) (m : Nat → Int) (k : Int), pkM code (l ++ [k]) m = pkM code l m ++ onePk code (runM code l m) k
  | [], m, k => by simp [pkM, runM]
  | x :: l, m, k => by simp only [List.cons_append, pkM, runM, List.append_assoc]; rw [pkM_snoc code l _ k]
theorem trM_snoc (code : List (List InsD)) : ∀ (l : List Int) (m : Nat → Int) (k : Int), trM code (l ++ [k]) m = trM code l m ++ oneTr code (runM code l m) k
  | [], m, k => by simp [trM, runM]
  | x :: l, m, k => by simp only [List.cons_append, trM, runM, List.append_assoc]; rw [trM_snoc code l _ k]
theorem pkM_len (code : List (List InsD)) : ∀ (l : List Int) (m : Nat → Int), (pkM code l m).length ≤ l.length
  | [], m => by simp [pkM]
  | x :: l, m => by
    have h2 := pkM_len code l (stepM code m x)
    simp only [pkM, onePk, List.length_append, List.length_cons]
    split <;> simp <;> omega
theorem trM_len (code : List (List InsD)) : ∀ (l : List Int) (m : Nat → Int), (trM code l m).length = (pkM code l m).length
  | [], m => by simp [trM, pkM]
  | x :: l, m => by
    have h2 := trM_len code l (stepM code m x)
    simp only [pkM, trM, onePk, oneTr, List.length_append, h2]
    split <;> simp
/-- A run: where its box lies, its state, its picks, its events; what it leaves alone since u0. -/
structure Pl (u0 u : World) (r b hi : Nat) (pv kv tv : Value) (m : Nat → Int) (code : List (List InsD)) (pr pk : List Int) (tr : List EvD) : Prop where
  st : StIn u b (b + 1) hi pv m code pr
  inv : Inv m code
  box : u.heap[r]? = some (.cells #[.pointer (some ⟨b, 0, none⟩), kv, tv] 65)
  hb : b < hi
  hr : hi ≤ r
  hr0 : r < u0.heap.size
  pvAt : ∀ g, pv.ownBlock = some g → u0.heap.size ≤ g
  picks : u.ownsRow u0.heap.size 3 1 kv pk.length (pk.map (.int .i64 ·))
  trace : u.ownsRow u0.heap.size 45 6 tv tr.length (evsCells tr)
  a1 : Apart kv pv
  a2 : Apart tv pv
  a3 : Apart kv tv
  touch : Touch (fun j => j = b ∨ j = r) u0 u
theorem own_touch {X : Nat → Prop} {w w' : World} {base : Nat} {e : TypeId} {s : Nat} {v : Value} {n : Nat} {xs : List Value} (h : w.ownsRow base e s v n xs) (T : Touch X w w') (hx : ∀ g, v.ownBlock = some g → ¬ X g) : w'.ownsRow base e s v n xs := by
  refine ⟨h.1, ?_⟩
  rcases h.2 with h2 | ⟨g, cap, cur, rfl, hb, hh, hr⟩
  · exact .inl h2
  · exact .inr ⟨g, cap, cur, rfl, hb, (T.block g (Array.getElem?_eq_some_iff.1 hh).1 (hx g rfl)).trans hh, hr⟩
theorem StIn.touch {X : Nat → Prop} {u u' : World} {b lo hi : Nat} {pv : Value} {m : Nat → Int} {code : List (List InsD)} {pr : List Int} (h : StIn u b lo hi pv m code pr) (T : Touch X u u') (h1 : ¬ X b) (h2 : ∀ g, pv.ownBlock = some g → ¬ X g) (h3 : ∀ g, lo ≤ g → g < hi → ¬ X g) : StIn u' b lo hi pv m code pr := by
  have hl := h.lt
  obtain ⟨cs, a, cap, g1, g2, g3, g4, g5, g6⟩ := h.box
  exact ⟨⟨cs, a, cap, (T.block _ hl h1).trans g1, g2, g3, g4, g5, g6.keep2 fun k k1 k2 hk => T.block _ hk (h3 k k1 k2)⟩, own_touch h.own T h2, h.off, h.two, h.len, h.lens, Nat.le_trans h.top T.size⟩
theorem apart_ne {v b : Value} (h : Apart v b) {g : Nat} (hg : v.ownBlock = some g) : b.ownBlock ≠ some g := by
  rcases h with h | h
  · rw [h] at hg; cases hg
  · intro e; exact h (hg.trans e.symm)
theorem Pl.later {u0 u u' : World} {r b hi : Nat} {pv kv tv : Value} {m : Nat → Int} {code : List (List InsD)} {pr pk : List Int} {tr : List EvD} (h : Pl u0 u r b hi pv kv tv m code pr pk tr) (hB : Below u.heap.size u u') : Pl u0 u' r b hi pv kv tv m code pr pk tr :=
  ⟨h.st.later hB, h.inv, (hB.block _ (Nat.lt_of_lt_of_le h.hr0 h.touch.size)).trans h.box, h.hb, h.hr, h.hr0, h.pvAt, own_later h.picks hB, own_later h.trace hB, h.a1, h.a2, h.a3, h.touch.trans (Touch.of_below hB) (fun _ _ h => h)⟩
/-- A step of its state. -/
theorem Pl.stepped {u0 u u' : World} {r b hi : Nat} {pv pv' kv tv : Value} {m m' : Nat → Int} {code : List (List InsD)} {pr pr' pk : List Int} {tr : List EvD} (h : Pl u0 u r b hi pv kv tv m code pr pk tr)
    (S : StIn u' b (b + 1) hi pv' m' code pr') (I : Inv m' code) (T : Touch (fun j => j = b ∨ pv.ownBlock = some j) u u') (ho : pv'.ownBlock = pv.ownBlock ∨ ∃ g, pv'.ownBlock = some g ∧ u.heap.size ≤ g) : Pl u0 u' r b hi pv' kv tv m' code pr' pk tr := by
  have hb := h.hb
  have hr := h.hr
  have hr0 := h.hr0
  have hsz := h.touch.size
  have ap : ∀ {e : TypeId} {s : Nat} {v : Value} {n : Nat} {xs : List Value}, u.ownsRow u0.heap.size e s v n xs → Apart v pv → u'.ownsRow u0.heap.size e s v n xs ∧ Apart v pv' := fun {e s v n xs} hv ha => by
    refine ⟨own_touch hv T ?_, ?_⟩
    · rintro g hg (e1 | e1)
      · have := (own_lt hv g hg).2; omega
      · exact apart_ne ha hg e1
    · rcases ho with e1 | ⟨g, e1, e2⟩
      · unfold Apart; rw [e1]; exact ha
      · by_cases hn : v.ownBlock = none
        · exact .inl hn
        · exact .inr fun e3 => by rw [e1] at e3; have := (own_lt hv g e3).1; omega
  refine ⟨S, I, (T.block r (by omega) ?_).trans h.box, hb, hr, hr0, ?_, (ap h.picks h.a1).1, (ap h.trace h.a2).1, (ap h.picks h.a1).2, (ap h.trace h.a2).2, h.a3, h.touch.trans T ?_⟩
  · rintro (e | e)
    · omega
    · have := h.pvAt r e; omega
  · intro g hg
    rcases ho with e1 | ⟨g', e1, e2⟩
    · exact h.pvAt g (e1.symm.trans hg)
    · rw [e1] at hg; cases hg; omega
  · rintro k hk (e | e)
    · exact .inl e
    · have := h.pvAt k e; omega
/-- One more pick. -/
theorem Pl.pick {u0 u u' : World} {r b hi : Nat} {pv kv kv' tv : Value} {m : Nat → Int} {code : List (List InsD)} {pr pk : List Int} {tr : List EvD} (h : Pl u0 u r b hi pv kv tv m code pr pk tr) (k : Int)
    (hrow : u'.ownsRow u0.heap.size 3 1 kv' (pk.length + 1) (pk.map (.int .i64 ·) ++ [.int .i64 k])) (hg : u.grownBy u' kv.ownBlock) (hat : kv'.ownBlock = kv.ownBlock ∨ kv'.ownBlock = some u.heap.size) :
    Pl u0 (u'.setCell ⟨r, 1, none⟩ kv') r b hi pv kv' tv m code pr (pk ++ [k]) tr := by
  have hb := h.hb
  have hr := h.hr
  have hr0 := h.hr0
  have hsz := h.touch.size
  have hrl : r < u.heap.size := by omega
  have hkr : ∀ g, kv.ownBlock = some g → u0.heap.size ≤ g := fun g e => (own_lt h.picks g e).2
  have hbx := (hg.block r hrl (fun e => by have := hkr r e.symm; omega)).trans h.box
  have T1 : Touch (fun j => j = r ∨ kv.ownBlock = some j) u (u'.setCell ⟨r, 1, none⟩ kv') := (Touch.grown hg fun k e => .inr e).set (.inl rfl)
  have hap := apart_append h.trace h.a3.symm hat
  refine ⟨h.st.touch T1 ?_ ?_ ?_, h.inv, ?_, hb, hr, hr0, h.pvAt, ?_, own_touch h.trace T1 ?_, ?_, h.a2, hap.symm, h.touch.trans T1 ?_⟩
  · rintro (e | e)
    · omega
    · have := hkr b e; omega
  · rintro g hg' (e | e)
    · have := h.pvAt g hg'; omega
    · exact apart_ne h.a1 e hg'
  · rintro g g1 g2 (e | e)
    · omega
    · have := hkr g e; omega
  · rw [stSet_block _ _ _ _ hbx]; rfl
  · rw [show (pk ++ [k]).length = pk.length + 1 by simp, show (pk ++ [k]).map (Value.int .i64 ·) = pk.map (.int .i64 ·) ++ [.int .i64 k] by simp]
    exact own_touch (X := fun j => j = r) hrow ((Touch.of_below (Below.refl _ _)).set rfl) (fun g e e' => by have := (own_lt hrow g e).2; omega)
  · rintro g hg' (e | e)
    · have := (own_lt h.trace g hg').2; omega
    · exact apart_ne h.a3 e hg'
  · rcases hat with e | e
    · unfold Apart; rw [e]; exact h.a1
    · exact .inr fun e1 => by rw [e] at e1; have := (own_lt h.st.own _ e1.symm).1; omega
  · rintro j hj (e | e)
    · exact .inr e
    · have := hkr j e; omega
/-- One more event. -/
theorem Pl.event {u0 u u' : World} {r b hi : Nat} {pv kv tv tv' : Value} {m : Nat → Int} {code : List (List InsD)} {pr pk : List Int} {tr : List EvD} (h : Pl u0 u r b hi pv kv tv m code pr pk tr) (x : EvD)
    (hrow : u'.ownsRow u0.heap.size 45 6 tv' (tr.length + 1) (evsCells tr ++ evCells x)) (hg : u.grownBy u' tv.ownBlock) (hat : tv'.ownBlock = tv.ownBlock ∨ tv'.ownBlock = some u.heap.size) :
    Pl u0 (u'.setCell ⟨r, 2, none⟩ tv') r b hi pv kv tv' m code pr pk (tr ++ [x]) := by
  have hb := h.hb
  have hr := h.hr
  have hr0 := h.hr0
  have hsz := h.touch.size
  have hrl : r < u.heap.size := by omega
  have hkr : ∀ g, tv.ownBlock = some g → u0.heap.size ≤ g := fun g e => (own_lt h.trace g e).2
  have hbx := (hg.block r hrl (fun e => by have := hkr r e.symm; omega)).trans h.box
  have T1 : Touch (fun j => j = r ∨ tv.ownBlock = some j) u (u'.setCell ⟨r, 2, none⟩ tv') := (Touch.grown hg fun k e => .inr e).set (.inl rfl)
  have hap := apart_append h.picks h.a3 hat
  refine ⟨h.st.touch T1 ?_ ?_ ?_, h.inv, ?_, hb, hr, hr0, h.pvAt, own_touch h.picks T1 ?_, ?_, h.a1, ?_, hap, h.touch.trans T1 ?_⟩
  · rintro (e | e)
    · omega
    · have := hkr b e; omega
  · rintro g hg' (e | e)
    · have := h.pvAt g hg'; omega
    · exact apart_ne h.a2 e hg'
  · rintro g g1 g2 (e | e)
    · omega
    · have := hkr g e; omega
  · rw [stSet_block _ _ _ _ hbx]; rfl
  · rintro g hg' (e | e)
    · have := (own_lt h.picks g hg').2; omega
    · exact apart_ne h.a3.symm e hg'
  · rw [show (tr ++ [x]).length = tr.length + 1 by simp, evsCells_snoc]
    exact own_touch (X := fun j => j = r) hrow ((Touch.of_below (Below.refl _ _)).set rfl) (fun g e e' => by have := (own_lt hrow g e).2; omega)
  · rcases hat with e | e
    · unfold Apart; rw [e]; exact h.a2
    · exact .inr fun e1 => by rw [e] at e1; have := (own_lt h.st.own _ e1.symm).1; omega
  · rintro j hj (e | e)
    · exact .inr e
    · have := hkr j e; omega
theorem info_eventT : (Try.prog.info? 45).map (fun i => (i.zero, i.size, i.bytes)) = some (some (evV 0 0 0 0 0 0), 6, 48) := by kernel_rfl
theorem cells_ev_new (w : World) (x : EvD) (t : TypeId) : ∀ j u, (evCells x)[j]? = some u → (w.alloc (.cells #[.int .i64 x.th, .int .i64 x.pc, .int .u8 x.op, .int .i64 x.obj, .int .i64 x.val, .int .i64 x.mode] t)).cell? ((⟨w.heap.size, 0, none⟩ : Addr).add j) = some u := by
  intro j u hj
  rw [Addr.add_mid, Nat.zero_add, cell_of_row _ _ _ _ _ _ (heap_alloc_new _ _)]
  simpa [evCells] using hj
theorem st_one_new2 (w : World) (o : Obj) (v : Value) (t : TypeId) : ∀ j u, [v][j]? = some u → ((w.alloc o).alloc (.cells #[v] t)).cell? ((⟨w.heap.size + 1, 0, none⟩ : Addr).add j) = some u := by
  have h := st_one_new0 (w.alloc o) v t
  rw [show (w.alloc o).heap.size = w.heap.size + 1 by simp] at h
  exact h
theorem cells3 {w : World} {b : Nat} {a0 a1 a2 : Value} {t : TypeId} (h : w.heap[b]? = some (.cells #[a0, a1, a2] t)) :
    w.cell? ⟨b, 0, none⟩ = some a0 ∧ w.cell? ⟨b, 1, none⟩ = some a1 ∧ w.cell? ⟨b, 2, none⟩ = some a2 := by
  refine ⟨?_, ?_, ?_⟩ <;> (rw [cell_of_row _ _ _ _ _ _ h]; rfl)
/-- A run, wherever its rows lie. -/
def Ru (u0 u : World) (r b hi : Nat) (m : Nat → Int) (code : List (List InsD)) (pr pk : List Int) (tr : List EvD) : Prop := ∃ pv kv tv, Pl u0 u r b hi pv kv tv m code pr pk tr
theorem Ru.later {u0 u u' : World} {r b hi : Nat} {m : Nat → Int} {code : List (List InsD)} {pr pk : List Int} {tr : List EvD} (h : Ru u0 u r b hi m code pr pk tr) (hB : Below u.heap.size u u') : Ru u0 u' r b hi m code pr pk tr := by
  obtain ⟨pv, kv, tv, h⟩ := h; exact ⟨pv, kv, tv, h.later hB⟩
theorem take_no {u0 u : World} {r b hi : Nat} {m : Nat → Int} {code : List (List InsD)} {pr pk : List Int} {tr : List EvD} (h : Ru u0 u r b hi m code pr pk tr) (hpl : pr.length ≤ 1000000) (k : Int) (hc : canM code m k = false) :
    Calls Try.prog 52 #[.pointer (some ⟨r, 0, none⟩), .int .i64 k] u fun e w' => e = .returned (.bool false) ∧ Ru u0 w' r b hi m code pr pk tr := by
  obtain ⟨pv, kv, tv, h⟩ := h
  obtain ⟨c0, c1, c2⟩ := cells3 h.box
  have HH := Lib.hid h
  have HC := Lib.hid (step_no k u h.st h.inv hc)
  clear h hc
  go_enter Try.func52, Try.ntmps52
  go_wp2_with (first
    | (go_at_call 73; refine HC.out.mono ?_; rintro e w1 ⟨rfl, hB1⟩; have HB1 := Lib.hid hB1; clear hB1))
  go_ret
  exact ⟨rfl, pv, kv, tv, (HH.out.later HB1.out).later (below_box _ _)⟩
theorem take_yes {u0 u : World} {r b hi : Nat} {m : Nat → Int} {code : List (List InsD)} {pr pk : List Int} {tr : List EvD} (h : Ru u0 u r b hi m code pr pk tr) (hpl : pr.length ≤ 1000000) (hpk : pk.length ≤ 1000000) (htr : tr.length ≤ 1000000) (k : Int) (hc : canM code m k = true) :
    Calls Try.prog 52 #[.pointer (some ⟨r, 0, none⟩), .int .i64 k] u fun e w' => e = .returned (.bool true) ∧ Ru u0 w' r b hi (stepM code m k) code (pr ++ stepT code m k) (pk ++ [k]) (tr ++ [stepE code m k]) := by
  obtain ⟨pv, kv, tv, h⟩ := h
  obtain ⟨c0, c1, c2⟩ := cells3 h.box
  obtain ⟨t0, ti, tz0, tz1, tz2⟩ := info_parts info_intT
  obtain ⟨i0, ii, iz0, iz1, iz2⟩ := info_parts info_eventT
  have hC := st_step h.st h.inv hpl k
  rw [hc, stepV_E] at hC
  generalize stepE code m k = ev at hC ⊢
  obtain ⟨e0, e1, e2, e3, e4, e5⟩ := ev
  simp only [EvD.v] at hC
  have HC := Lib.hid hC
  obtain ⟨ka, kc, rfl⟩ := st_slice h.picks
  obtain ⟨ta, tc, rfl⟩ := st_slice h.trace
  have HH := Lib.hid h
  have hr0 := h.hr0
  have hsz := h.touch.size
  clear h hc hC c1 c2
  go_enter Try.func52, Try.ntmps52
  go_wp2_with (first
    | (at_builtin; refine wpList_append_own_at _ rfl _ _ 24 rfl u0.heap.size 3 t0 (.int .i64 0) 1 8 Try.underlying24 ti tz0 tz1 tz2 rfl (by decide) (.slice ka pk.length kc) pk.length (pk.map (.int .i64 ·)) rfl (own_later HP.out.picks (below_box _ _)) ⟨w1.heap.size + 1, 0, none⟩ 1 1 [.int .i64 k] rfl rfl (st_one_new2 _ _ _ _) (by simp [Value.oneCell']) (by unfold maxLen; omega) (by omega) (by simp; omega) ?_; intro v' w3 hown3 hgrow3 _ hat3; obtain ⟨ka', kc', rfl⟩ := st_slice hown3; have b3 := hgrow3.block r (by simp; omega) (fun e => by have := hka r e.symm; omega); have hbx := b3.trans (HP.out.later (below_box _ _)).box; have c3 := (cells3 hbx).2.1; have f3 := frozen_of_row _ _ 1 _ _ hbx; have he3 := (hgrow3.block w1.heap.size (by simp; omega) (fun e => by have := hka _ e.symm; omega)).trans ((Below.heap_alloc _ _ _ (by simp)).trans (heap_alloc_new w1 _)); have HP3 := Lib.hid ((HP.out.later (below_box _ _)).pick k hown3 hgrow3 hat3); have HE3 := Lib.hid he3; clear hown3 hgrow3 hat3 b3 hbx he3)
    | (go_at_call 73; refine HC.out.mono ?_; rintro e w1 ⟨rfl, I', _, pv', S', T', ho⟩; have hP0 := HH.out.stepped S' I' T' ho; have hka : ∀ g, (Value.slice ka pk.length kc).ownBlock = some g → u0.heap.size ≤ g ∧ g < w1.heap.size := (fun g e => ⟨(own_lt hP0.picks g e).2, (own_lt hP0.picks g e).1⟩); have hw1 := T'.size; have HP := Lib.hid (hP0.later (below_box w1 (evC e0 e1 e2 e3 e4 e5))); have c1 := (cells3 HP.out.box).2.1; clear S' T' ho I' hP0))
  generalize hU : World.setCell w3 _ _ = U
  have hP : Pl u0 U r b hi pv' (.slice ka' (pk.length + 1) kc') (.slice ta tr.length tc) (stepM code m k) code (pr ++ stepT code m k) (pk ++ [k]) tr := by rw [← hU]; exact HP3.out
  have hE : U.heap[w1.heap.size]? = some (evC e0 e1 e2 e3 e4 e5) := by rw [← hU]; exact (Below.heap_setCell _ _ _ _ (by simp only; omega)).trans HE3.out
  clear hU HP3 HE3 c3 f3 HP c0 c1 HC HH
  generalize hg : w1.heap.size = g at *
  have c2 := (cells3 hP.box).2.2
  obtain ⟨v0, v1, v2, v3, v4, v5⟩ := cells6 hE
  have hrl : r < U.heap.size := cell_lt c2
  have hgl : g < U.heap.size := cell_lt v0
  have c2' : ∀ o, (U.alloc o).cell? ⟨r, 2, none⟩ = some (.slice ta tr.length tc) := fun o => ((below_box U o).cell (p := ⟨r, 2, none⟩) hrl).trans c2
  have HP := Lib.hid hP
  clear hP hE
  go_region_law ((rw [if_pos (by rfl)]); refine wp_append_own_at _ (.tmp 31) (.tmp 33) 35 rfl u0.heap.size 45 i0 (evV 0 0 0 0 0 0) 6 48 Try.underlying35 ii iz0 iz1 iz2 rfl (by decide) (.slice ta tr.length tc) tr.length (evsCells tr) rfl (own_later HP.out.trace (below_box U _).drew) ⟨U.heap.size, 0, none⟩ 1 1 (evCells ⟨e0, e1, e2, e3, e4, e5⟩) rfl rfl (cells_ev_new U ⟨e0, e1, e2, e3, e4, e5⟩ _) (ev_one _) (by unfold maxLen; omega) (by omega) (by simp; omega) ?_; intro v' w4 hown' hgrow _ hat; obtain ⟨ta', tc', rfl⟩ := st_slice hown'; have hq := HP.out.later ((below_box U (evC e0 e1 e2 e3 e4 e5)).drew); have b9 := (hgrow.block r (by simp; omega) (fun e => by have := (own_lt HP.out.trace _ e.symm).2; omega)).trans hq.box; have c9 := (cells3 b9).2.2; have f9 := frozen_of_row _ _ 2 _ _ b9)
  all_goals
    have hfin := hq.event ⟨e0, e1, e2, e3, e4, e5⟩ hown' hgrow hat
    go_wp2
    go_ret
    exact ⟨rfl, _, _, _, hfin⟩
theorem onePk_no {code : List (List InsD)} {m : Nat → Int} {k : Int} (h : canM code m k = false) : onePk code m k = [] := by simp [onePk, h]
theorem oneTr_no {code : List (List InsD)} {m : Nat → Int} {k : Int} (h : canM code m k = false) : oneTr code m k = [] := by simp [oneTr, h]
theorem onePk_yes {code : List (List InsD)} {m : Nat → Int} {k : Int} (h : canM code m k = true) : onePk code m k = [k] := by simp [onePk, h]
theorem oneTr_yes {code : List (List InsD)} {m : Nat → Int} {k : Int} (h : canM code m k = true) : oneTr code m k = [stepE code m k] := by simp [oneTr, h]
theorem pkM_take {code : List (List InsD)} {l : List Int} {m : Nat → Int} {i : Nat} {x : Int} (h : l[i]? = some x) : pkM code (l.take (i + 1)) m = pkM code (l.take i) m ++ onePk code (runM code (l.take i) m) x := by
  rw [List.take_add_one, h]; exact pkM_snoc _ _ _ _
theorem trM_take {code : List (List InsD)} {l : List Int} {m : Nat → Int} {i : Nat} {x : Int} (h : l[i]? = some x) : trM code (l.take (i + 1)) m = trM code (l.take i) m ++ oneTr code (runM code (l.take i) m) x := by
  rw [List.take_add_one, h]; exact trM_snoc _ _ _ _
/-- One run behind another. -/
theorem runM_append (code : List (List InsD)) : ∀ (s t : List Int) (m : Nat → Int), runM code (s ++ t) m = runM code t (runM code s m)
  | [], t, m => rfl
  | x :: s, t, m => runM_append code s t _
theorem runT_append (code : List (List InsD)) : ∀ (s t : List Int) (m : Nat → Int), runT code (s ++ t) m = runT code s m ++ runT code t (runM code s m)
  | [], t, m => rfl
  | x :: s, t, m => by simp only [List.cons_append, runT, runM, List.append_assoc]; rw [runT_append code s t _]
theorem pkM_append (code : List (List InsD)) : ∀ (s t : List Int) (m : Nat → Int), pkM code (s ++ t) m = pkM code s m ++ pkM code t (runM code s m)
  | [], t, m => rfl
  | x :: s, t, m => by simp only [List.cons_append, pkM, runM, List.append_assoc]; rw [pkM_append code s t _]
theorem trM_append (code : List (List InsD)) : ∀ (s t : List Int) (m : Nat → Int), trM code (s ++ t) m = trM code s m ++ trM code t (runM code s m)
  | [], t, m => rfl
  | x :: s, t, m => by simp only [List.cons_append, trM, runM, List.append_assoc]; rw [trM_append code s t _]
/-- Where none can go on. -/
def Still (code : List (List InsD)) (m : Nat → Int) : Prop := ∀ k, canM code m k = false
theorem still_run {code : List (List InsD)} {m : Nat → Int} (h : Still code m) : ∀ (l : List Int), runM code l m = m ∧ runT code l m = [] ∧ pkM code l m = [] ∧ trM code l m = []
  | [] => ⟨rfl, rfl, rfl, rfl⟩
  | x :: l => by
    obtain ⟨h1, h2, h3, h4⟩ := still_run h l
    simp only [pkM, runM, runT, trM, onePk_no (h x), oneTr_no (h x), stepM_no (h x), stepT_no (h x), List.nil_append]
    exact ⟨h1, h2, h3, h4⟩
theorem canM_has {code : List (List InsD)} {m : Nat → Int} {k : Int} (h : canM code m k = true) : 0 ≤ k ∧ k < code.length := by
  obtain ⟨j, x, rfl, hj, _⟩ := canM_parts h
  omega
theorem canM_far {code : List (List InsD)} {m : Nat → Int} {k : Int} (h : k < 0 ∨ (code.length : Int) ≤ k) : canM code m k = false := by
  rcases hc : canM code m k with _ | _
  · rfl
  · have := canM_has hc; omega
theorem still_of_status {code : List (List InsD)} {m : Nat → Int} (h : statusM code m ≠ 0) : Still code m := by
  intro k
  rcases hc : canM code m k with _ | _
  · rfl
  · exfalso
    obtain ⟨j, x, rfl, hj, _, _, _, h90⟩ := canM_parts hc
    apply h
    unfold statusM
    rw [if_neg (by simpa using h90), if_pos (canTo_at hj hc)]
/-- Whose turn it is: the first that can go on, from one on, round by round. -/
def turnM (code : List (List InsD)) (n nx : Nat) (m : Nat → Int) : Option Nat := ((List.range n).map fun j => (nx + j) % n).find? fun k => canM code m (k : Nat)
def roundP (code : List (List InsD)) (n : Nat) : Nat → Nat → (Nat → Int) → List Int
  | 0, _, _ => []
  | s + 1, nx, m => match turnM code n nx m with
    | none => []
    | some k => (k : Int) :: roundP code n s (k + 1) (stepM code m k)
theorem turnM_can {code : List (List InsD)} {n nx : Nat} {m : Nat → Int} {k : Nat} (h : turnM code n nx m = some k) : canM code m k = true := by
  have := List.find?_some (p := fun k : Nat => canM code m (k : Nat)) h
  exact this
theorem round_len (code : List (List InsD)) (n : Nat) : ∀ (s nx : Nat) (m : Nat → Int), (roundP code n s nx m).length ≤ s
  | 0, nx, m => by simp [roundP]
  | s + 1, nx, m => by
    unfold roundP
    split
    · simp
    · rename_i k hk
      have := round_len code n s (k + 1) (stepM code m k)
      simp only [List.length_cons]; omega
theorem Ru.cell0 {u0 u : World} {r b hi : Nat} {m : Nat → Int} {code : List (List InsD)} {pr pk : List Int} {tr : List EvD} (h : Ru u0 u r b hi m code pr pk tr) : u.cell? ⟨r, 0, none⟩ = some (.pointer (some ⟨b, 0, none⟩)) := by
  obtain ⟨pv, kv, tv, h⟩ := h; exact (cells3 h.box).1
theorem Ru.kept {u0 u : World} {r b hi : Nat} {m : Nat → Int} {code : List (List InsD)} {pr pk : List Int} {tr : List EvD} (h : Ru u0 u r b hi m code pr pk tr) {g : Nat} (hg : g < b) : u.heap[g]? = u0.heap[g]? := by
  obtain ⟨pv, kv, tv, h⟩ := h
  have := h.hb
  have := h.hr
  have := h.hr0
  exact h.touch.block g (by omega) (by rintro (e | e) <;> omega)
theorem Ru.status {u0 u : World} {r b hi : Nat} {m : Nat → Int} {code : List (List InsD)} {pr pk : List Int} {tr : List EvD} (h : Ru u0 u r b hi m code pr pk tr) :
    Calls Try.prog 53 #[.pointer (some ⟨b, 0, none⟩)] u fun e w' => e = .returned (.int .u8 (statusM code m)) ∧ Below u.heap.size u w' := by
  obtain ⟨pv, kv, tv, h⟩ := h; exact status_any u h.st h.inv
theorem Ru.below {u0 u : World} {r b hi : Nat} {m : Nat → Int} {code : List (List InsD)} {pr pk : List Int} {tr : List EvD} (h : Ru u0 u r b hi m code pr pk tr) {w : World} (hB : Below w.heap.size w u0) (hb : w.heap.size ≤ b) : Below w.heap.size w u := by
  obtain ⟨pv, kv, tv, h⟩ := h
  have := h.hb
  have := h.hr
  exact hB.trans (h.touch.below (fun k hk => by rcases hk with e | e <;> omega) hB.size)
theorem follow_any {u0 : World} {r b hi : Nat} {m : Nat → Int} {code : List (List InsD)} (h : Ru u0 u0 r b hi m code [] [] []) (a : Option Addr) (cap : Nat) (ps : List Int) (hps : RowOf .i64 u0 b a ps) (hl : ps.length ≤ 2000) :
    Calls Try.prog 33 #[.pointer (some ⟨r, 0, none⟩), .slice a ps.length cap] u0 fun e w' => e = .returned (.tuple #[]) ∧ Ru u0 w' r b hi (runM code ps m) code (runT code ps m) (pkM code ps m) (trM code ps m) := by
  have H0 := Lib.hid h
  have HP := Lib.hid hps
  clear h hps
  go_enter Try.func33, Try.ntmps33
  go_wp2
  go_step3
  go_wp2
  go_step3
  go_wp2
  go_loopw [8] (fun i u => ∃ k : Nat, k ≤ ps.length ∧ i = .int .i64 k ∧ Hid (Ru u0 u r b hi (runM code (ps.take k) m) code (runT code (ps.take k) m) (pkM code (ps.take k) m) (trM code (ps.take k) m))) (fun i _ => ps.length - (intOf i).toNat)
  case atStart => exact ⟨0, Nat.zero_le _, rfl, H0⟩
  case round =>
    obtain ⟨k, hk, rfl, HR⟩ := hrel
    by_cases hlk : k < ps.length
    · obtain ⟨x, hx⟩ := at_lt hlk
      obtain ⟨g, off, rfl, hg, hcell⟩ := HP.out k x hx
      have hcell' := (World.cell?_of_block (a := ⟨g, off + k, none⟩) (HR.out.kept hg)).trans hcell
      have q1 := runT_len code (ps.take k) m
      have q2 := pkM_len code (ps.take k) m
      have q3 := trM_len code (ps.take k) m
      rw [List.length_take] at q1 q2
      rcases hc : canM code (runM code (ps.take k) m) x with _ | _
      · have hn : Hid (runM code (ps.take (k + 1)) m = runM code (ps.take k) m ∧ runT code (ps.take (k + 1)) m = runT code (ps.take k) m ∧ pkM code (ps.take (k + 1)) m = pkM code (ps.take k) m ∧ trM code (ps.take (k + 1)) m = trM code (ps.take k) m) := Lib.hid ⟨by rw [runM_take hx, stepM_no hc], by rw [runT_take hx, stepT_no hc, List.append_nil], by rw [pkM_take hx, onePk_no hc, List.append_nil], by rw [trM_take hx, oneTr_no hc, List.append_nil]⟩
        have HT := Lib.hid (take_no HR.out (by omega) x hc)
        clear hx hc hcell
        generalize hst : statusM code (runM code (ps.take k) m) = st
        have HSt := Lib.hid hst
        by_cases hz : st = 0
        · subst hz
          clear hst
          go_wp2_with (first
            | (go_at_call 53; refine HR1.out.status.mono ?_; rintro e w2 ⟨rfl, hB2⟩; rw [HSt.out])
            | (go_at_call 52; refine HT.out.mono ?_; rintro e w1 ⟨rfl, hR1⟩; have HR1 := Lib.hid hR1; have c0 := hR1.cell0; clear hR1))
          go_roundw
          case rel => exact ⟨k + 1, by omega, by go_num, Lib.hid (by rw [hn.out.1, hn.out.2.1, hn.out.2.2.1, hn.out.2.2.2]; exact HR1.out.later hB2)⟩
          case measure => simp [intOf]; omega
        · have hS : Still code (runM code (ps.take k) m) := still_of_status (by rw [hst]; exact hz)
          have HSl := Lib.hid hS
          have hz2 : (st == 0) = false := by simpa using hz
          clear hst hS
          go_wp2_with (first
            | (go_at_call 53; refine HR1.out.status.mono ?_; rintro e w2 ⟨rfl, hB2⟩; rw [HSt.out])
            | (go_at_call 52; refine HT.out.mono ?_; rintro e w1 ⟨rfl, hR1⟩; have HR1 := Lib.hid hR1; have c0 := hR1.cell0; clear hR1))
          rw [Exit.noGoto_normal]; go_wp2; go_end0
          refine ⟨rfl, ?_⟩
          obtain ⟨s1, s2, s3, s4⟩ := still_run HSl.out (ps.drop k)
          have e1 := runM_append code (ps.take k) (ps.drop k) m
          have e2 := runT_append code (ps.take k) (ps.drop k) m
          have e3 := pkM_append code (ps.take k) (ps.drop k) m
          have e4 := trM_append code (ps.take k) (ps.drop k) m
          rw [List.take_append_drop] at e1 e2 e3 e4
          rw [e1, e2, e3, e4, s1, s2, s3, s4, List.append_nil, List.append_nil, List.append_nil]
          exact HR1.out.later hB2
      · have hn : Hid (runM code (ps.take (k + 1)) m = stepM code (runM code (ps.take k) m) x ∧ runT code (ps.take (k + 1)) m = runT code (ps.take k) m ++ stepT code (runM code (ps.take k) m) x ∧ pkM code (ps.take (k + 1)) m = pkM code (ps.take k) m ++ [x] ∧ trM code (ps.take (k + 1)) m = trM code (ps.take k) m ++ [stepE code (runM code (ps.take k) m) x]) := Lib.hid ⟨by rw [runM_take hx], by rw [runT_take hx], by rw [pkM_take hx, onePk_yes hc], by rw [trM_take hx, oneTr_yes hc]⟩
        have HT := Lib.hid (take_yes HR.out (by omega) (by omega) (by omega) x hc)
        clear hx hc hcell
        go_wp2_with (first
          | (go_at_call 52; refine HT.out.mono ?_; rintro e w1 ⟨rfl, hR1⟩; have HR1 := Lib.hid hR1; clear hR1))
        go_roundw
        case rel => exact ⟨k + 1, by omega, by go_num, Lib.hid (by rw [hn.out.1, hn.out.2.1, hn.out.2.2.1, hn.out.2.2.2]; exact HR1.out)⟩
        case measure => simp [intOf]; omega
    · obtain rfl : k = ps.length := by omega
      go_wp2
      rw [Exit.noGoto_normal]; go_wp2; go_end0
      have := HR.out
      rw [List.take_length] at this
      exact ⟨rfl, this⟩
theorem keep3 {u u' : World} {r : Nat} {v0 v1 v2 : Value} (h : u.cell? ⟨r, 0, none⟩ = some v0 ∧ u.cell? ⟨r, 1, none⟩ = some v1 ∧ u.cell? ⟨r, 2, none⟩ = some v2) (hB : Below u.heap.size u u') : u'.cell? ⟨r, 0, none⟩ = some v0 ∧ u'.cell? ⟨r, 1, none⟩ = some v1 ∧ u'.cell? ⟨r, 2, none⟩ = some v2 :=
  ⟨(hB.cell (p := ⟨r, 0, none⟩) (cell_lt h.1)).trans h.1, (hB.cell (p := ⟨r, 1, none⟩) (cell_lt h.1)).trans h.2.1, (hB.cell (p := ⟨r, 2, none⟩) (cell_lt h.1)).trans h.2.2⟩
theorem keep3set {u : World} {r q : Nat} {v0 v1 v2 x0 x1 x2 x3 : Value} (hq : r ≠ q) (h : u.cell? ⟨r, 0, none⟩ = some v0 ∧ u.cell? ⟨r, 1, none⟩ = some v1 ∧ u.cell? ⟨r, 2, none⟩ = some v2) :
    ((((u.setCell ⟨q, 0, none⟩ x0).setCell ⟨q, 1, none⟩ x1).setCell ⟨q, 2, none⟩ x2).setCell ⟨q, 3, none⟩ x3).cell? ⟨r, 0, none⟩ = some v0 ∧ ((((u.setCell ⟨q, 0, none⟩ x0).setCell ⟨q, 1, none⟩ x1).setCell ⟨q, 2, none⟩ x2).setCell ⟨q, 3, none⟩ x3).cell? ⟨r, 1, none⟩ = some v1 ∧ ((((u.setCell ⟨q, 0, none⟩ x0).setCell ⟨q, 1, none⟩ x1).setCell ⟨q, 2, none⟩ x2).setCell ⟨q, 3, none⟩ x3).cell? ⟨r, 2, none⟩ = some v2 := by
  have hk : ((((u.setCell ⟨q, 0, none⟩ x0).setCell ⟨q, 1, none⟩ x1).setCell ⟨q, 2, none⟩ x2).setCell ⟨q, 3, none⟩ x3).heap[r]? = u.heap[r]? := by
    rw [Below.heap_setCell _ _ _ _ hq, Below.heap_setCell _ _ _ _ hq, Below.heap_setCell _ _ _ _ hq, Below.heap_setCell _ _ _ _ hq]
  exact ⟨(World.cell?_of_block (a := ⟨r, 0, none⟩) hk).trans h.1, (World.cell?_of_block (a := ⟨r, 1, none⟩) hk).trans h.2.1, (World.cell?_of_block (a := ⟨r, 2, none⟩) hk).trans h.2.2⟩
/-- A result: its rows are of the call's own. -/
def ResIn (u : World) (base : Nat) (pr : List Int) (pk : List Int) (tr : List EvD) (pv kv tv : Value) : Prop :=
  u.ownsRow base 3 1 pv pr.length (pr.map (.int .i64 ·)) ∧ u.ownsRow base 3 1 kv pk.length (pk.map (.int .i64 ·)) ∧ u.ownsRow base 45 6 tv tr.length (evsCells tr)
theorem ResIn.later {u u' : World} {base : Nat} {pr pk : List Int} {tr : List EvD} {pv kv tv : Value} (h : ResIn u base pr pk tr pv kv tv) (hB : Below u.heap.size u u') : ResIn u' base pr pk tr pv kv tv :=
  ⟨own_later h.1 hB, own_later h.2.1 hB, own_later h.2.2 hB⟩
theorem ResIn.base {u : World} {base base' : Nat} {pr pk : List Int} {tr : List EvD} {pv kv tv : Value} (h : ResIn u base pr pk tr pv kv tv) (hb : base' ≤ base) : ResIn u base' pr pk tr pv kv tv :=
  ⟨own_base h.1 hb, own_base h.2.1 hb, own_base h.2.2 hb⟩
theorem result_any {u0 u : World} {r b hi : Nat} {m : Nat → Int} {code : List (List InsD)} {pr pk : List Int} {tr : List EvD} (h : Ru u0 u r b hi m code pr pk tr) (hpl : pr.length ≤ 2000000) :
    Calls Try.prog 34 #[.pointer (some ⟨r, 0, none⟩)] u fun e w' => ∃ pv kv tv, e = .returned (.agg #[pv, .int .u8 (statusM code m), kv, tv]) ∧ ResIn w' u0.heap.size pr pk tr pv kv tv ∧ Below u.heap.size u w' := by
  obtain ⟨pv, kv, tv, h⟩ := h
  have hr0 := h.hr0
  have hsz := h.touch.size
  have HH := Lib.hid h
  clear h
  go_enter Try.func34, Try.ntmps34
  go_wp2_with fail
  generalize hV : World.alloc u _ = V
  have hB : Below u.heap.size u V := by rw [← hV]; exact below_box _ _
  have hN : V.heap[u.heap.size]? = some (.cells #[.slice none 0 0, .int .u8 0, .slice none 0 0, .slice none 0 0] 37) := by rw [← hV]; exact heap_alloc_new _ _
  obtain ⟨c0, c1, c2⟩ := cells3 (HH.out.later hB).box
  obtain ⟨ka, kc, rfl⟩ := st_slice HH.out.picks
  obtain ⟨ta, tc, rfl⟩ := st_slice HH.out.trace
  have HB := Lib.hid hB
  have HN := Lib.hid hN
  have hru : r ≠ u.heap.size := by omega
  clear hV hB hN
  go_region_held3 (fun u' => u'.cell? ⟨r, 0, none⟩ = some (.pointer (some ⟨b, 0, none⟩)) ∧ u'.cell? ⟨r, 1, none⟩ = some (.slice ka pk.length kc) ∧ u'.cell? ⟨r, 2, none⟩ = some (.slice ta tr.length tc)) (first | exact ⟨c0, c1, c2⟩ | with_reducible exact keep3 (by assumption) hB2 | with_reducible exact keep3 (by assumption) hB1 | with_reducible exact keep3set hru (by assumption))
    (first
      | (go_at_call 53; refine (status_any _ (by first | exact HS1.out | exact HS1.out.later (Below.refl _ _).drew) HH.out.inv).mono ?_; rintro e w2 ⟨rfl, hB2⟩; have hN2 := (hB2.block _ (Array.getElem?_eq_some_iff.1 HN1.out).1).trans HN1.out; obtain ⟨z0, z1, z2, z3⟩ := cells4 hN2; have fz := fun j => frozen_of_row _ _ j _ _ hN2)
      | (go_at_call 54; refine (prints_any _ ((HH.out.later HB.out).st.later (by first | exact (Below.refl _ _) | exact (Below.refl _ _).drew)) hpl).mono ?_; rintro e w1 ⟨v1, rfl, hown1, hB1⟩; obtain ⟨pa, pc, rfl⟩ := st_slice hown1; have HO1 := Lib.hid hown1; have HS1 := Lib.hid ((HH.out.later HB.out).st.later ((Below.refl _ _).drew.trans hB1)); have HN1 := Lib.hid ((hB1.block _ (Array.getElem?_eq_some_iff.1 HN.out).1).trans HN.out); clear hown1))
  have hVs : u.heap.size < V.heap.size := (Array.getElem?_eq_some_iff.1 HN.out).1
  generalize hU : World.setCell _ _ _ = U
  have hbx : U.heap[u.heap.size]? = some (.cells #[.slice pa pr.length pc, .int .u8 (statusM code m), .slice ka pk.length kc, .slice ta tr.length tc] 37) := by rw [← hU]; exact stSet_four hN2
  have hBU : Below u.heap.size u U := by
    rw [← hU]
    have h2 : Below u.heap.size u w2 := (HB.out.drew.trans (by exact hB1.mono (Nat.le_of_lt hVs))).trans (hB2.mono (Nat.le_trans (Nat.le_of_lt hVs) hB1.size))
    exact stBelow_set (stBelow_set (stBelow_set (stBelow_set h2 (Nat.le_refl _)) (Nat.le_refl _)) (Nat.le_refl _)) (Nat.le_refl _)
  have hR : ResIn U u0.heap.size pr pk tr (.slice pa pr.length pc) (.slice ka pk.length kc) (.slice ta tr.length tc) := by
    refine ⟨?_, own_later HH.out.picks hBU, own_later HH.out.trace hBU⟩
    rw [← hU]
    exact own_base (ownsRow_newer (ownsRow_newer (ownsRow_newer (ownsRow_newer (own_later HO1.out hB2) hVs) hVs) hVs) hVs) (by show u0.heap.size ≤ V.heap.size; omega)
  clear hU
  obtain ⟨y0, y1, y2, y3⟩ := cells4 hbx
  go_wp2
  refine bodyPost_ret (v := .agg #[.slice pa pr.length pc, .int .u8 (statusM code m), .slice ka pk.length kc, .slice ta tr.length tc]) (by simp [results, Try.results34, go_sem, y0, y1, y2, y3]) rfl ⟨_, _, _, rfl, hR, hBU⟩
theorem below_two (w : World) (o o' : Obj) : Below w.heap.size w ((w.alloc o).alloc o') := ((Below.refl _ _).alloc (Nat.le_refl _) _).alloc (by simp) _
theorem stSet_three {u : World} {b : Nat} {a0 a1 a2 x0 x1 x2 : Value} {t : TypeId} (h : u.heap[b]? = some (.cells #[a0, a1, a2] t)) :
    (((u.setCell ⟨b, 0, none⟩ x0).setCell ⟨b, 1, none⟩ x1).setCell ⟨b, 2, none⟩ x2).heap[b]? = some (.cells #[x0, x1, x2] t) := by
  rw [stSet_block _ b 2 x2 (stSet_block _ b 1 x1 (stSet_block u b 0 x0 h))]; rfl
theorem info_run : (Try.prog.info? 65).map (·.size) = some 3 := by kernel_rfl
theorem info_result : (Try.prog.info? 37).map (·.size) = some 4 := by kernel_rfl
theorem begin_no (p : ProgD) (ca : Option Addr) (ccap : Nat) (ta : Option Addr) (tcap : Nat) (n : Int) (w : World) (hp : ProgIn w w.heap.size p ca ta) (hs : soundE p ≠ 0) :
    Calls Try.prog 32 #[p.val ca ccap ta tcap, .int .i64 n] w fun e w' => e = .returned (.tuple #[.agg #[.pointer none, .slice none 0 0, .slice none 0 0], .int .u16 1]) ∧ Below w.heap.size w w' := by
  have HP := Lib.hid (fun o o' => ProgIn.wide (hp.below (below_two w o o')) (below_two w o o').size)
  have HS := Lib.hid hs
  clear hp hs
  go_enter Try.func32, Try.ntmps32
  go_wp2_with (first
    | (go_at_call 51; refine (new_no p ca ccap ta tcap _ (HP.out _ _) HS.out).mono ?_; rintro e w1 ⟨rfl, hB1⟩; have hN : w1.heap[w.heap.size + 1]? = some (.cells #[.pointer none, .slice none 0 0, .slice none 0 0] 65) := (hB1.block _ (by simp)).trans (heap_alloc2_new _ _ _); obtain ⟨c0, c1, c2⟩ := cells3 hN; have fz := fun j => frozen_of_row _ _ j _ _ hN; have HB1 := Lib.hid ((below_two w _ _).trans (hB1.mono (below_two w _ _).size)); clear hB1))
  refine bodyPost_ret (v := .tuple #[.agg #[.pointer none, .slice none 0 0, .slice none 0 0], .int .u16 1]) (st_results (p := 4) (u := 5) rfl _ _ (w.heap.size + 1) 65 #[.pointer none, .slice none 0 0, .slice none 0 0] (0, 0) _ rfl (stSet_three hN) Try.underlying65 rfl info_run) rfl ⟨rfl, ?_⟩
  exact stBelow_set (stBelow_set (stBelow_set HB1.out (by omega)) (by omega)) (by omega)
theorem begin_long (p : ProgD) (ca : Option Addr) (ccap : Nat) (ta : Option Addr) (tcap : Nat) (n : Int) (w : World) (hp : ProgIn w w.heap.size p ca ta) (hs : soundE p = 0) (hn : n < 0 ∨ 2000 < n) :
    Calls Try.prog 32 #[p.val ca ccap ta tcap, .int .i64 n] w fun e w' => e = .returned (.tuple #[.agg #[.pointer none, .slice none 0 0, .slice none 0 0], .int .u16 3]) ∧ Below w.heap.size w w' := by
  have HP := Lib.hid (fun o o' => ProgIn.wide (hp.below (below_two w o o')) (below_two w o o').size)
  have HS := Lib.hid hs
  clear hp hs
  go_enter Try.func32, Try.ntmps32
  by_cases h0 : n < 0
  all_goals
    first
      | (have h2 : decide (n < 0) = true := decide_eq_true h0)
      | (have h2 : decide (n < 0) = false := decide_eq_false h0; have h3 : 2000 < n := (by omega); have h4 : decide (2000 < n) = true := decide_eq_true h3)
    go_wp2_with (first
      | (go_at_call 51; refine (new_yes p ca ccap ta tcap _ (HP.out _ _) HS.out).mono ?_; rintro e w1 ⟨b, rfl, hB1, _, _⟩; have hN : w1.heap[w.heap.size + 1]? = some (.cells #[.pointer none, .slice none 0 0, .slice none 0 0] 65) := (hB1.block _ (by simp)).trans (heap_alloc2_new _ _ _); obtain ⟨c0, c1, c2⟩ := cells3 hN; have fz := fun j => frozen_of_row _ _ j _ _ hN; have HB1 := Lib.hid ((below_two w _ _).trans (hB1.mono (below_two w _ _).size)); clear hB1))
    refine bodyPost_ret (v := .tuple #[.agg #[.pointer none, .slice none 0 0, .slice none 0 0], .int .u16 3]) (st_results (p := 4) (u := 5) rfl _ _ (w.heap.size + 1) 65 #[.pointer none, .slice none 0 0, .slice none 0 0] (0, 0) _ rfl (stSet_three hN) Try.underlying65 rfl info_run) rfl ⟨rfl, ?_⟩
    exact stBelow_set (stBelow_set (stBelow_set HB1.out (by omega)) (by omega)) (by omega)
theorem begin_yes (p : ProgD) (ca : Option Addr) (ccap : Nat) (ta : Option Addr) (tcap : Nat) (n : Int) (w : World) (hp : ProgIn w w.heap.size p ca ta) (hs : soundE p = 0) (h0 : 0 ≤ n) (h1 : n ≤ 2000) :
    Calls Try.prog 32 #[p.val ca ccap ta tcap, .int .i64 n] w fun e w' => ∃ b, e = .returned (.tuple #[.agg #[.pointer (some ⟨b, 0, none⟩), .slice none 0 0, .slice none 0 0], .int .u16 0]) ∧ Below w.heap.size w w' ∧ w.heap.size ≤ b ∧ StIn w' b (b + 1) w'.heap.size (.slice none 0 0) (newM p.chans) p.threads [] := by
  have HP := Lib.hid (fun o o' => ProgIn.wide (hp.below (below_two w o o')) (below_two w o o').size)
  have HS := Lib.hid hs
  clear hp hs
  have h2 : decide (n < 0) = false := decide_eq_false (by omega)
  have h2' : ¬ n < 0 := by omega
  have h3 : decide (2000 < n) = false := decide_eq_false (by omega)
  have h3' : ¬ 2000 < n := by omega
  go_enter Try.func32, Try.ntmps32
  go_wp2_with (first
    | (go_at_call 51; refine (new_yes p ca ccap ta tcap _ (HP.out _ _) HS.out).mono ?_; rintro e w1 ⟨b, rfl, hB1, hb1, hS1⟩; have hb2 : w.heap.size + 2 ≤ b := by { simpa using hb1 }; have hN : w1.heap[w.heap.size + 1]? = some (.cells #[.pointer none, .slice none 0 0, .slice none 0 0] 65) := (hB1.block _ (by simp)).trans (heap_alloc2_new _ _ _); obtain ⟨c0, c1, c2⟩ := cells3 hN; have fz := fun j => frozen_of_row _ _ j _ _ hN; have HB1 := Lib.hid ((below_two w _ _).trans (hB1.mono (below_two w _ _).size)); have HS1 := Lib.hid hS1; clear hB1 hS1 hb1))
  refine bodyPost_ret (v := .tuple #[.agg #[.pointer (some ⟨b, 0, none⟩), .slice none 0 0, .slice none 0 0], .int .u16 0]) (st_results (p := 4) (u := 5) rfl _ _ (w.heap.size + 1) 65 #[.pointer (some ⟨b, 0, none⟩), .slice none 0 0, .slice none 0 0] (0, 0) _ rfl (stSet_three hN) Try.underlying65 rfl info_run) rfl ⟨b, rfl, ?_, by omega, ?_⟩
  · exact stBelow_set (stBelow_set (stBelow_set HB1.out (by omega)) (by omega)) (by omega)
  · have h := ((HS1.out.aside (e := w.heap.size + 1) (i := 0) (v := .pointer (some ⟨b, 0, none⟩)) (by omega) (by simp [Value.ownBlock]) (.inl (by omega))).aside (e := w.heap.size + 1) (i := 1) (v := .slice none 0 0) (by omega) (by simp [Value.ownBlock]) (.inl (by omega))).aside (e := w.heap.size + 1) (i := 2) (v := .slice none 0 0) (by omega) (by simp [Value.ownBlock]) (.inl (by omega))
    have e : ∀ u : World, (((u.setCell ⟨w.heap.size + 1, 0, none⟩ (.pointer (some ⟨b, 0, none⟩))).setCell ⟨w.heap.size + 1, 1, none⟩ (.slice none 0 0)).setCell ⟨w.heap.size + 1, 2, none⟩ (.slice none 0 0)).heap.size = u.heap.size := fun u => by rw [size_setCell, size_setCell, size_setCell]
    rw [e]; exact h
/-- A run begins. -/
theorem Ru.start {w1 : World} {b : Nat} {m : Nat → Int} {code : List (List InsD)} (S : StIn w1 b (b + 1) w1.heap.size (.slice none 0 0) m code []) (I : Inv m code) :
    Ru (w1.alloc (.cells #[.pointer (some ⟨b, 0, none⟩), .slice none 0 0, .slice none 0 0] 65)) (w1.alloc (.cells #[.pointer (some ⟨b, 0, none⟩), .slice none 0 0, .slice none 0 0] 65)) w1.heap.size b w1.heap.size m code [] [] [] :=
  ⟨.slice none 0 0, .slice none 0 0, .slice none 0 0, ⟨S.later (below_box _ _), I, heap_alloc_new _ _, S.lt, Nat.le_refl _, by simp, fun g hg => by simp [Value.ownBlock] at hg, World.ownsRow_nil _ _ _ _, World.ownsRow_nil _ _ _ _, .inl rfl, .inl rfl, .inl rfl, Touch.of_below (Below.refl _ _)⟩⟩
theorem RowOf.later {k : IntKind} {w w' : World} {B : Nat} {a : Option Addr} {l : List Int} (h : RowOf k w B a l) (hB : Below B w w') : RowOf k w' B a l := fun i x hx => by
  obtain ⟨c, off, h1, h2, h3⟩ := h i x hx
  exact ⟨c, off, h1, h2, (hB.cell (p := ⟨c, off + i, none⟩) h2).trans h3⟩
theorem RowOf.wide {k : IntKind} {w : World} {B B' : Nat} {a : Option Addr} {l : List Int} (h : RowOf k w B a l) (hB : B ≤ B') : RowOf k w B' a l := fun i x hx => by
  obtain ⟨c, off, h1, h2, h3⟩ := h i x hx
  exact ⟨c, off, h1, by omega, h3⟩
theorem Ru.lt {u0 u : World} {r b hi : Nat} {m : Nat → Int} {code : List (List InsD)} {pr pk : List Int} {tr : List EvD} (h : Ru u0 u r b hi m code pr pk tr) : b < r ∧ r < u0.heap.size := by
  obtain ⟨pv, kv, tv, h⟩ := h
  have := h.hb
  have := h.hr
  exact ⟨by omega, h.hr0⟩
theorem ResIn.set4 {u : World} {base q : Nat} {pr pk : List Int} {tr : List EvD} {pv kv tv x0 x1 x2 x3 : Value} (h : ResIn u base pr pk tr pv kv tv) (hq : q < base) :
    ResIn ((((u.setCell ⟨q, 0, none⟩ x0).setCell ⟨q, 1, none⟩ x1).setCell ⟨q, 2, none⟩ x2).setCell ⟨q, 3, none⟩ x3) base pr pk tr pv kv tv :=
  ⟨ownsRow_newer (ownsRow_newer (ownsRow_newer (ownsRow_newer h.1 hq) hq) hq) hq, ownsRow_newer (ownsRow_newer (ownsRow_newer (ownsRow_newer h.2.1 hq) hq) hq) hq, ownsRow_newer (ownsRow_newer (ownsRow_newer (ownsRow_newer h.2.2 hq) hq) hq) hq⟩
theorem run_yes (p : ProgD) (ca : Option Addr) (ccap : Nat) (ta : Option Addr) (tcap : Nat) (a : Option Addr) (cap : Nat) (ps : List Int) (w : World) (hp : ProgIn w w.heap.size p ca ta) (hs : soundE p = 0) (hps : RowOf .i64 w w.heap.size a ps) (hl : ps.length ≤ 2000) :
    Calls Try.prog 16 #[p.val ca ccap ta tcap, .slice a ps.length cap] w fun e w' => ∃ pv kv tv, e = .returned (.tuple #[.agg #[pv, .int .u8 (statusM p.threads (runM p.threads ps (newM p.chans))), kv, tv], .int .u16 0]) ∧ ResIn w' w.heap.size (runT p.threads ps (newM p.chans)) (pkM p.threads ps (newM p.chans)) (trM p.threads ps (newM p.chans)) pv kv tv ∧ Below w.heap.size w w' := by
  have HP := Lib.hid (fun o o' => ProgIn.wide (hp.below (below_two w o o')) (below_two w o o').size)
  have HS := Lib.hid hs
  have HI := Lib.hid (inv_new hs)
  have HR := Lib.hid hps
  have hT := runT_len p.threads ps (newM p.chans)
  clear hp hs hps
  go_enter Try.func16, Try.ntmps16
  go_wp2_with (first
    | (go_at_call 34; refine (result_any HU2.out (by omega)).mono ?_; rintro e w3 ⟨pv, kv, tv, rfl, hres, hB3⟩; obtain ⟨va, vc, rfl⟩ := st_slice hres.1; obtain ⟨ka, kc, rfl⟩ := st_slice hres.2.1; obtain ⟨xa, xc, rfl⟩ := st_slice hres.2.2; have hN3 := (hB3.block _ (Array.getElem?_eq_some_iff.1 HN2.out).1).trans HN2.out; obtain ⟨z0, z1, z2, z3⟩ := cells4 hN3; have fz := fun j => frozen_of_row _ _ j _ _ hN3; have HRes := Lib.hid hres; have HB3 := Lib.hid (below_next HB2.out hB3); clear hres hB3)
    | (go_at_call 33; refine (follow_any HU.out a cap ps HRu.out hl).mono ?_; rintro e w2 ⟨rfl, hU2⟩; have HU2 := Lib.hid hU2; have HB2 := Lib.hid (hU2.below HBu.out (by omega)); have hN2 := (hU2.kept (g := w.heap.size + 1) (by omega)).trans HNu.out; have HN2 := Lib.hid hN2; clear hU2 hN2)
    | (go_at_call 32; refine (begin_yes p ca ccap ta tcap _ _ (HP.out _ _) HS.out (by omega) (by omega)).mono ?_; rintro e w1 ⟨b, rfl, hB1, hb1, hS1⟩; have hb2 : w.heap.size + 2 ≤ b := by { simpa using hb1 }; have hN : w1.heap[w.heap.size + 1]? = some (.cells #[.slice none 0 0, .int .u8 0, .slice none 0 0, .slice none 0 0] 37) := (hB1.block _ (by simp)).trans (heap_alloc2_new _ _ _); have hB := (below_two w _ _).trans (hB1.mono (below_two w _ _).size); have HU := Lib.hid (Ru.start hS1 HI.out); have HBu := Lib.hid (below_new hB (.cells #[.pointer (some ⟨b, 0, none⟩), .slice none 0 0, .slice none 0 0] 65)); have HNu := Lib.hid ((Below.heap_alloc w1 (.cells #[.pointer (some ⟨b, 0, none⟩), .slice none 0 0, .slice none 0 0] 65) _ (Array.getElem?_eq_some_iff.1 hN).1).trans hN); have HRu := Lib.hid ((HR.out.later HBu.out).wide (show w.heap.size ≤ b by omega)); clear hB1 hS1 hb1 hN hB))
  refine bodyPost_ret (v := .tuple #[.agg #[.slice va (runT p.threads ps (newM p.chans)).length vc, .int .u8 (statusM p.threads (runM p.threads ps (newM p.chans))), .slice ka (pkM p.threads ps (newM p.chans)).length kc, .slice xa (trM p.threads ps (newM p.chans)).length xc], .int .u16 0]) (st_results (p := 4) (u := 5) rfl _ _ (w.heap.size + 1) 37 #[.slice va (runT p.threads ps (newM p.chans)).length vc, .int .u8 (statusM p.threads (runM p.threads ps (newM p.chans))), .slice ka (pkM p.threads ps (newM p.chans)).length kc, .slice xa (trM p.threads ps (newM p.chans)).length xc] (0, 0) _ rfl (stSet_four hN3) Try.underlying37 rfl info_result) rfl ⟨_, _, _, rfl, (HRes.out.set4 (by have := HBu.out.size; have := HU.out.lt; simp at this ⊢; omega)).base (by have := HBu.out.size; exact this), stBelow_set (stBelow_set (stBelow_set (stBelow_set HB3.out (by omega)) (by omega)) (by omega)) (by omega)⟩
theorem run_no (p : ProgD) (ca : Option Addr) (ccap : Nat) (ta : Option Addr) (tcap : Nat) (a : Option Addr) (cap n : Nat) (w : World) (hp : ProgIn w w.heap.size p ca ta) (hs : soundE p ≠ 0) :
    Calls Try.prog 16 #[p.val ca ccap ta tcap, .slice a n cap] w fun e w' => e = .returned (.tuple #[.agg #[.slice none 0 0, .int .u8 0, .slice none 0 0, .slice none 0 0], .int .u16 1]) ∧ Below w.heap.size w w' := by
  have HP := Lib.hid (fun o o' => ProgIn.wide (hp.below (below_two w o o')) (below_two w o o').size)
  have HS := Lib.hid hs
  clear hp hs
  go_enter Try.func16, Try.ntmps16
  go_wp2_with (first
    | (go_at_call 32; refine (begin_no p ca ccap ta tcap _ _ (HP.out _ _) HS.out).mono ?_; rintro e w1 ⟨rfl, hB1⟩; have hN0 : w1.heap[w.heap.size + 1]? = some (.cells #[.slice none 0 0, .int .u8 0, .slice none 0 0, .slice none 0 0] 37) := (hB1.block _ (by simp)).trans (heap_alloc2_new _ _ _); have hN : ∀ o, (w1.alloc o).heap[w.heap.size + 1]? = some (.cells #[.slice none 0 0, .int .u8 0, .slice none 0 0, .slice none 0 0] 37) := (fun o => (Below.heap_alloc w1 o _ (Array.getElem?_eq_some_iff.1 hN0).1).trans hN0); obtain ⟨z0, z1, z2, z3⟩ := cells4 (hN (.cells #[.pointer none, .slice none 0 0, .slice none 0 0] 65)); have fz := fun j => frozen_of_row _ _ j _ _ (hN (.cells #[.pointer none, .slice none 0 0, .slice none 0 0] 65)); have HB := Lib.hid ((below_two w _ _).trans (hB1.mono (below_two w _ _).size)); clear hB1 hN0))
  refine bodyPost_ret (v := .tuple #[.agg #[.slice none 0 0, .int .u8 0, .slice none 0 0, .slice none 0 0], .int .u16 1]) (st_results (p := 4) (u := 5) rfl _ _ (w.heap.size + 1) 37 #[.slice none 0 0, .int .u8 0, .slice none 0 0, .slice none 0 0] (0, 0) _ rfl (stSet_four (hN _)) Try.underlying37 rfl info_result) rfl ⟨rfl, stBelow_set (stBelow_set (stBelow_set (stBelow_set (below_new HB.out _) (by omega)) (by omega)) (by omega)) (by omega)⟩
theorem run_long (p : ProgD) (ca : Option Addr) (ccap : Nat) (ta : Option Addr) (tcap : Nat) (a : Option Addr) (cap n : Nat) (w : World) (hp : ProgIn w w.heap.size p ca ta) (hs : soundE p = 0) (hn : 2000 < n) :
    Calls Try.prog 16 #[p.val ca ccap ta tcap, .slice a n cap] w fun e w' => e = .returned (.tuple #[.agg #[.slice none 0 0, .int .u8 0, .slice none 0 0, .slice none 0 0], .int .u16 3]) ∧ Below w.heap.size w w' := by
  have HP := Lib.hid (fun o o' => ProgIn.wide (hp.below (below_two w o o')) (below_two w o o').size)
  have HS := Lib.hid hs
  clear hp hs
  go_enter Try.func16, Try.ntmps16
  go_wp2_with (first
    | (go_at_call 32; refine (begin_long p ca ccap ta tcap _ _ (HP.out _ _) HS.out (.inr (by omega))).mono ?_; rintro e w1 ⟨rfl, hB1⟩; have hN0 : w1.heap[w.heap.size + 1]? = some (.cells #[.slice none 0 0, .int .u8 0, .slice none 0 0, .slice none 0 0] 37) := (hB1.block _ (by simp)).trans (heap_alloc2_new _ _ _); have hN : ∀ o, (w1.alloc o).heap[w.heap.size + 1]? = some (.cells #[.slice none 0 0, .int .u8 0, .slice none 0 0, .slice none 0 0] 37) := (fun o => (Below.heap_alloc w1 o _ (Array.getElem?_eq_some_iff.1 hN0).1).trans hN0); obtain ⟨z0, z1, z2, z3⟩ := cells4 (hN (.cells #[.pointer none, .slice none 0 0, .slice none 0 0] 65)); have fz := fun j => frozen_of_row _ _ j _ _ (hN (.cells #[.pointer none, .slice none 0 0, .slice none 0 0] 65)); have HB := Lib.hid ((below_two w _ _).trans (hB1.mono (below_two w _ _).size)); clear hB1 hN0))
  refine bodyPost_ret (v := .tuple #[.agg #[.slice none 0 0, .int .u8 0, .slice none 0 0, .slice none 0 0], .int .u16 3]) (st_results (p := 4) (u := 5) rfl _ _ (w.heap.size + 1) 37 #[.slice none 0 0, .int .u8 0, .slice none 0 0, .slice none 0 0] (0, 0) _ rfl (stSet_four (hN _)) Try.underlying37 rfl info_result) rfl ⟨rfl, stBelow_set (stBelow_set (stBelow_set (stBelow_set (below_new HB.out _) (by omega)) (by omega)) (by omega)) (by omega)⟩
theorem find_first {α : Type} {f : Nat → α} {p : α → Bool} : ∀ (n : Nat) {j : Nat}, j < n → (∀ i, i < j → p (f i) = false) → p (f j) = true → ((List.range n).map f).find? p = some (f j)
  | n, j, hj, h, hp => by
    have e : List.range n = List.range j ++ j :: (List.range' (j + 1) (n - j - 1)) := by
      rw [List.range_eq_range', List.range_eq_range', show n = j + (1 + (n - j - 1)) by omega, ← List.range'_append_1, ← List.range'_append_1]
      simp only [Nat.zero_add, List.range'_one, List.singleton_append]
      congr 3
      omega
    rw [e, List.map_append, List.find?_append]
    have hn : ((List.range j).map f).find? p = none := by
      rw [List.find?_eq_none]
      intro x hx
      obtain ⟨i, hi, rfl⟩ := List.mem_map.1 hx
      simp [h i (List.mem_range.1 hi)]
    rw [hn]
    simp [hp]
theorem turn_yes {code : List (List InsD)} {n nx j : Nat} {m : Nat → Int} (hj : j < n) (h : ∀ i, i < j → canM code m ((nx + i) % n : Nat) = false) (hc : canM code m ((nx + j) % n : Nat) = true) : turnM code n nx m = some ((nx + j) % n) :=
  find_first (f := fun j => (nx + j) % n) (p := fun k : Nat => canM code m (k : Nat)) n hj h hc
theorem turn_no {code : List (List InsD)} {n nx : Nat} {m : Nat → Int} (h : ∀ i, i < n → canM code m ((nx + i) % n : Nat) = false) : turnM code n nx m = none := by
  unfold turnM
  rw [List.find?_eq_none]
  intro x hx
  obtain ⟨i, hi, rfl⟩ := List.mem_map.1 hx
  simp only [h i (List.mem_range.1 hi)]; simp
theorem turns_any {u0 : World} {r b hi : Nat} {m : Nat → Int} {code : List (List InsD)} (h : Ru u0 u0 r b hi m code [] [] []) (n most : Nat) (hn : n ≤ 6) (hl : most ≤ 2000) :
    Calls Try.prog 49 #[.pointer (some ⟨r, 0, none⟩), .int .i64 n, .int .i64 most] u0 fun e w' => e = .returned (.tuple #[]) ∧ Ru u0 w' r b hi (runM code (roundP code n most 0 m) m) code (runT code (roundP code n most 0 m) m) (pkM code (roundP code n most 0 m) m) (trM code (roundP code n most 0 m) m) := by
  have H0 := Lib.hid h
  clear h
  go_enter Try.func49, Try.ntmps49
  go_wp2
  go_step3
  go_wp2
  go_step3
  go_wp2
  go_loopg [6, 10] most (fun g s6 s10 wx => ∃ (k nx : Nat) (q : List Int), k + g = most ∧ s10 = .int .i64 k ∧ s6 = .int .i64 nx ∧ nx ≤ n ∧ q.length = k ∧ Hid (Ru u0 wx r b hi (runM code q m) code (runT code q m) (pkM code q m) (trM code q m)) ∧ Hid (q ++ roundP code n g nx (runM code q m) = roundP code n most 0 m))
  case atStart => exact ⟨0, 0, [], by omega, rfl, rfl, by omega, rfl, H0, Lib.hid rfl⟩
  case round =>
    obtain ⟨k, nx, q, hkg, rfl, rfl, hnx, hql, HR, HQ⟩ := hrel
    have q1 := runT_len code q m
    have q2 := pkM_len code q m
    have q3 := trM_len code q m
    cases gk with
    | zero =>
      have hkz : ¬ ((k : Int) < (most : Int)) := by omega
      go_wp2
      first | go_end0 | (rw [Exit.noGoto_normal]; go_wp2; go_end0)
      have hq := HQ.out
      simp only [roundP, List.append_nil] at hq
      rw [← hq]
      exact ⟨rfl, HR.out⟩
    | succ g =>
      have hkz : ((k : Int) < (most : Int)) := by omega
      go_wp2
      go_loopg [6, 13] n (fun g2 s6 s13 wy => ∃ j : Nat, j + g2 = n ∧ s6 = .int .i64 nx ∧ s13 = .int .i64 j ∧ Hid (Ru u0 wy r b hi (runM code q m) code (runT code q m) (pkM code q m) (trM code q m)) ∧ Hid (∀ i, i < j → canM code (runM code q m) ((nx + i) % n : Nat) = false))
      case atStart => exact ⟨0, by omega, rfl, rfl, HR, Lib.hid fun i hi => absurd hi (Nat.not_lt_zero _)⟩
      case round =>
        obtain ⟨j, hjg, rfl, rfl, HR2, HN⟩ := hrel
        cases gk with
        | zero =>
          obtain rfl : j = n := by omega
          have hjz : ¬ ((j : Int) < (j : Int)) := by omega
          have HT := Lib.hid (turn_no HN.out)
          go_wp2
          first | go_end0 | (rw [Exit.noGoto_normal]; go_wp2; go_end0)
          have hq := HQ.out
          simp only [roundP, HT.out, List.append_nil] at hq
          rw [← hq]
          exact ⟨rfl, HR2.out⟩
        | succ g2 =>
          have hjz : ((j : Int) < (n : Int)) := by omega
          have hn0 : ¬ (n : Int) = 0 := by omega
          have hmod : ((nx : Int) + j).tmod n = ((nx + j) % n : Nat) := by rw [Int.tmod_eq_emod_of_nonneg (by omega)]; push_cast; rfl
          have hlt : (nx + j) % n < n := Nat.mod_lt _ (by omega)
          generalize hkk : (nx + j) % n = kk at *
          rcases hc : canM code (runM code q m) kk with _ | _
          · have HT := Lib.hid (take_no HR2.out (by omega) kk hc)
            have HC := Lib.hid hc
            have HK := Lib.hid hkk
            clear hc hkk
            go_wp2_with (first
              | (go_at_call 52; refine HT.out.mono ?_; rintro e w1 ⟨rfl, hR1⟩; have HR1 := Lib.hid hR1; clear hR1))
            go_roundg g2
            case measure => omega
            case rel => exact ⟨j + 1, by omega, rfl, by go_num, HR1, Lib.hid fun i hi => by
              rcases Nat.lt_succ_iff_lt_or_eq.1 hi with h | rfl
              · exact HN.out i h
              · rw [HK.out]; exact HC.out⟩
          · have HT := Lib.hid (take_yes HR2.out (by omega) (by omega) (by omega) kk hc)
            have HY : Hid (turnM code n nx (runM code q m) = some kk) := Lib.hid (by rw [turn_yes (show j < n by omega) HN.out (by rw [hkk]; exact hc), hkk])
            have HC := Lib.hid hc
            clear hc hkk
            go_wp2_with (first
              | (go_at_call 52; refine HT.out.mono ?_; rintro e w1 ⟨rfl, hR1⟩; have HR1 := Lib.hid hR1; clear hR1))
            go_roundg g
            case measure => omega
            case rel =>
              refine ⟨k + 1, kk + 1, q ++ [(kk : Int)], by omega, by go_num, by go_num, by omega, by simp [hql], Lib.hid ?_, Lib.hid ?_⟩
              · rw [runM_snoc, runT_snoc, pkM_snoc, trM_snoc, onePk_yes HC.out, oneTr_yes HC.out]; exact HR1.out
              · have hq := HQ.out
                simp only [roundP, HY.out] at hq
                rw [runM_snoc, ← hq]; simp
theorem round_yes (p : ProgD) (ca : Option Addr) (ccap : Nat) (ta : Option Addr) (tcap : Nat) (most : Nat) (w : World) (hp : ProgIn w w.heap.size p ca ta) (hs : soundE p = 0) (hl : most ≤ 2000) :
    Calls Try.prog 29 #[p.val ca ccap ta tcap, .int .i64 most] w fun e w' => ∃ pv kv tv, e = .returned (.tuple #[.agg #[pv, .int .u8 (statusM p.threads (runM p.threads (roundP p.threads p.threads.length most 0 (newM p.chans)) (newM p.chans))), kv, tv], .int .u16 0]) ∧ ResIn w' w.heap.size (runT p.threads (roundP p.threads p.threads.length most 0 (newM p.chans)) (newM p.chans)) (pkM p.threads (roundP p.threads p.threads.length most 0 (newM p.chans)) (newM p.chans)) (trM p.threads (roundP p.threads p.threads.length most 0 (newM p.chans)) (newM p.chans)) pv kv tv ∧ Below w.heap.size w w' := by
  have HP := Lib.hid (fun o o' => ProgIn.wide (hp.below (below_two w o o')) (below_two w o o').size)
  have HS := Lib.hid hs
  have HI := Lib.hid (inv_new hs)
  have hT := runT_len p.threads (roundP p.threads p.threads.length most 0 (newM p.chans)) (newM p.chans)
  have hT2 := round_len p.threads p.threads.length most 0 (newM p.chans)
  clear hp hs
  generalize hps : roundP p.threads p.threads.length most 0 (newM p.chans) = ps at *
  have HPs := Lib.hid hps
  clear hps
  go_enter Try.func29, Try.ntmps29
  go_wp2_with (first
    | (go_at_call 34; refine (result_any HU2.out (by omega)).mono ?_; rintro e w3 ⟨pv, kv, tv, rfl, hres, hB3⟩; obtain ⟨va, vc, rfl⟩ := st_slice hres.1; obtain ⟨ka, kc, rfl⟩ := st_slice hres.2.1; obtain ⟨xa, xc, rfl⟩ := st_slice hres.2.2; have hN3 := (hB3.block _ (Array.getElem?_eq_some_iff.1 HN2.out).1).trans HN2.out; obtain ⟨z0, z1, z2, z3⟩ := cells4 hN3; have fz := fun j => frozen_of_row _ _ j _ _ hN3; have HRes := Lib.hid hres; have HB3 := Lib.hid (below_next HB2.out hB3); clear hres hB3)
    | (go_at_call 49; refine (turns_any HU.out p.threads.length most h6 hl).mono ?_; rw [HPs.out]; rintro e w2 ⟨rfl, hU2⟩; have HU2 := Lib.hid hU2; have HB2 := Lib.hid (hU2.below HBu.out (by omega)); have hN2 := (hU2.kept (g := w.heap.size + 1) (by omega)).trans HNu.out; have HN2 := Lib.hid hN2; clear hU2 hN2)
    | (go_at_call 32; refine (begin_yes p ca ccap ta tcap _ _ (HP.out _ _) HS.out (by omega) (by omega)).mono ?_; rintro e w1 ⟨b, rfl, hB1, hb1, hS1⟩; have hb2 : w.heap.size + 2 ≤ b := by { simpa using hb1 }; have hN : w1.heap[w.heap.size + 1]? = some (.cells #[.slice none 0 0, .int .u8 0, .slice none 0 0, .slice none 0 0] 37) := (hB1.block _ (by simp)).trans (heap_alloc2_new _ _ _); have hP1 : w1.heap[w.heap.size]? = _ := (hB1.block _ (by simp; omega)).trans ((Below.heap_alloc _ _ _ (by simp)).trans (heap_alloc_new w _)); have hP2 := (Below.heap_alloc w1 (.cells #[.pointer (some ⟨b, 0, none⟩), .slice none 0 0, .slice none 0 0] 65) _ (Array.getElem?_eq_some_iff.1 hP1).1).trans hP1; have c6 := cell_of_row _ _ 6 _ _ _ hP2; simp only [List.getElem?_toArray, List.getElem?_cons_succ, List.getElem?_cons_zero] at c6; have h6 := hS1.len; have hB := (below_two w _ _).trans (hB1.mono (below_two w _ _).size); have HU := Lib.hid (Ru.start hS1 HI.out); have HBu := Lib.hid (below_new hB (.cells #[.pointer (some ⟨b, 0, none⟩), .slice none 0 0, .slice none 0 0] 65)); have HNu := Lib.hid ((Below.heap_alloc w1 (.cells #[.pointer (some ⟨b, 0, none⟩), .slice none 0 0, .slice none 0 0] 65) _ (Array.getElem?_eq_some_iff.1 hN).1).trans hN); clear hB1 hS1 hb1 hN hB hP1 hP2))
  refine bodyPost_ret (v := .tuple #[.agg #[.slice va (runT p.threads ps (newM p.chans)).length vc, .int .u8 (statusM p.threads (runM p.threads ps (newM p.chans))), .slice ka (pkM p.threads ps (newM p.chans)).length kc, .slice xa (trM p.threads ps (newM p.chans)).length xc], .int .u16 0]) (st_results (p := 4) (u := 5) rfl _ _ (w.heap.size + 1) 37 #[.slice va (runT p.threads ps (newM p.chans)).length vc, .int .u8 (statusM p.threads (runM p.threads ps (newM p.chans))), .slice ka (pkM p.threads ps (newM p.chans)).length kc, .slice xa (trM p.threads ps (newM p.chans)).length xc] (0, 0) _ rfl (stSet_four hN3) Try.underlying37 rfl info_result) rfl ⟨_, _, _, rfl, (HRes.out.set4 (by have := HBu.out.size; have := HU.out.lt; simp at this ⊢; omega)).base (by have := HBu.out.size; exact this), stBelow_set (stBelow_set (stBelow_set (stBelow_set HB3.out (by omega)) (by omega)) (by omega)) (by omega)⟩
theorem round_no (p : ProgD) (ca : Option Addr) (ccap : Nat) (ta : Option Addr) (tcap : Nat) (most : Int) (w : World) (hp : ProgIn w w.heap.size p ca ta) (hs : soundE p ≠ 0) :
    Calls Try.prog 29 #[p.val ca ccap ta tcap, .int .i64 most] w fun e w' => e = .returned (.tuple #[.agg #[.slice none 0 0, .int .u8 0, .slice none 0 0, .slice none 0 0], .int .u16 1]) ∧ Below w.heap.size w w' := by
  have HP := Lib.hid (fun o o' => ProgIn.wide (hp.below (below_two w o o')) (below_two w o o').size)
  have HS := Lib.hid hs
  clear hp hs
  go_enter Try.func29, Try.ntmps29
  go_wp2_with (first
    | (go_at_call 32; refine (begin_no p ca ccap ta tcap _ _ (HP.out _ _) HS.out).mono ?_; rintro e w1 ⟨rfl, hB1⟩; have hN0 : w1.heap[w.heap.size + 1]? = some (.cells #[.slice none 0 0, .int .u8 0, .slice none 0 0, .slice none 0 0] 37) := (hB1.block _ (by simp)).trans (heap_alloc2_new _ _ _); have hN : ∀ o, (w1.alloc o).heap[w.heap.size + 1]? = some (.cells #[.slice none 0 0, .int .u8 0, .slice none 0 0, .slice none 0 0] 37) := (fun o => (Below.heap_alloc w1 o _ (Array.getElem?_eq_some_iff.1 hN0).1).trans hN0); obtain ⟨z0, z1, z2, z3⟩ := cells4 (hN (.cells #[.pointer none, .slice none 0 0, .slice none 0 0] 65)); have fz := fun j => frozen_of_row _ _ j _ _ (hN (.cells #[.pointer none, .slice none 0 0, .slice none 0 0] 65)); have HB := Lib.hid ((below_two w _ _).trans (hB1.mono (below_two w _ _).size)); clear hB1 hN0))
  refine bodyPost_ret (v := .tuple #[.agg #[.slice none 0 0, .int .u8 0, .slice none 0 0, .slice none 0 0], .int .u16 1]) (st_results (p := 4) (u := 5) rfl _ _ (w.heap.size + 1) 37 #[.slice none 0 0, .int .u8 0, .slice none 0 0, .slice none 0 0] (0, 0) _ rfl (stSet_four (hN _)) Try.underlying37 rfl info_result) rfl ⟨rfl, stBelow_set (stBelow_set (stBelow_set (stBelow_set (below_new HB.out _) (by omega)) (by omega)) (by omega)) (by omega)⟩
theorem round_long (p : ProgD) (ca : Option Addr) (ccap : Nat) (ta : Option Addr) (tcap : Nat) (most : Int) (w : World) (hp : ProgIn w w.heap.size p ca ta) (hs : soundE p = 0) (hn : most < 0 ∨ 2000 < most) :
    Calls Try.prog 29 #[p.val ca ccap ta tcap, .int .i64 most] w fun e w' => e = .returned (.tuple #[.agg #[.slice none 0 0, .int .u8 0, .slice none 0 0, .slice none 0 0], .int .u16 3]) ∧ Below w.heap.size w w' := by
  have HP := Lib.hid (fun o o' => ProgIn.wide (hp.below (below_two w o o')) (below_two w o o').size)
  have HS := Lib.hid hs
  clear hp hs
  go_enter Try.func29, Try.ntmps29
  go_wp2_with (first
    | (go_at_call 32; refine (begin_long p ca ccap ta tcap _ _ (HP.out _ _) HS.out hn).mono ?_; rintro e w1 ⟨rfl, hB1⟩; have hN0 : w1.heap[w.heap.size + 1]? = some (.cells #[.slice none 0 0, .int .u8 0, .slice none 0 0, .slice none 0 0] 37) := (hB1.block _ (by simp)).trans (heap_alloc2_new _ _ _); have hN : ∀ o, (w1.alloc o).heap[w.heap.size + 1]? = some (.cells #[.slice none 0 0, .int .u8 0, .slice none 0 0, .slice none 0 0] 37) := (fun o => (Below.heap_alloc w1 o _ (Array.getElem?_eq_some_iff.1 hN0).1).trans hN0); obtain ⟨z0, z1, z2, z3⟩ := cells4 (hN (.cells #[.pointer none, .slice none 0 0, .slice none 0 0] 65)); have fz := fun j => frozen_of_row _ _ j _ _ (hN (.cells #[.pointer none, .slice none 0 0, .slice none 0 0] 65)); have HB := Lib.hid ((below_two w _ _).trans (hB1.mono (below_two w _ _).size)); clear hB1 hN0))
  refine bodyPost_ret (v := .tuple #[.agg #[.slice none 0 0, .int .u8 0, .slice none 0 0, .slice none 0 0], .int .u16 3]) (st_results (p := 4) (u := 5) rfl _ _ (w.heap.size + 1) 37 #[.slice none 0 0, .int .u8 0, .slice none 0 0, .slice none 0 0] (0, 0) _ rfl (stSet_four (hN _)) Try.underlying37 rfl info_result) rfl ⟨rfl, stBelow_set (stBelow_set (stBelow_set (stBelow_set (below_new HB.out _) (by omega)) (by omega)) (by omega)) (by omega)⟩
def k5Code : List (List InsD) := [[⟨12, 1, 0, 0⟩, ⟨9, 0, 0, 0⟩], [⟨1, 0, 5, 0⟩, ⟨9, 0, 0, 0⟩]]
def k5D : ProgD := { vars := 0, atoms := 0, locks := 0, chans := [], groups := 0, onces := 0, threads := k5Code }
def k5S : List Int := [0, 1, 1, 0, 1]
theorem k5D_sound : soundE k5D = 0 := by decide
theorem k5_t : runT k5D.threads k5S (newM k5D.chans) = [5, 0] := by kernel_rfl
theorem k5_s : statusM k5D.threads (runM k5D.threads k5S (newM k5D.chans)) = 1 := by kernel_rfl
theorem k5_p : (pkM k5D.threads k5S (newM k5D.chans)).length = 4 := by kernel_rfl
theorem k5_r : (trM k5D.threads k5S (newM k5D.chans)).length = 4 := by rw [trM_len, k5_p]
theorem k5_rs : statusM k5D.threads (runM k5D.threads (roundP k5D.threads 2 9 0 (newM k5D.chans)) (newM k5D.chans)) = 1 := by kernel_rfl
theorem k5_rp : (pkM k5D.threads (roundP k5D.threads 2 9 0 (newM k5D.chans)) (newM k5D.chans)).length = 4 := by kernel_rfl
theorem k5_in (u : World) {g h h' : Nat} (h1 : u.heap[h]? = some (.cells #[.int .u8 12, .int .i64 1, .int .i64 0, .int .i64 0, .int .u8 9, .int .i64 0, .int .i64 0, .int .i64 0] 49)) (h1' : u.heap[h']? = some (.cells #[.int .u8 1, .int .i64 0, .int .i64 5, .int .i64 0, .int .u8 9, .int .i64 0, .int .i64 0, .int .i64 0] 49)) (h2 : u.heap[g]? = some (.cells #[.slice (some ⟨h, 0, none⟩) 2 2, .slice (some ⟨h', 0, none⟩) 2 2] 34)) : ProgIn u u.heap.size k5D none (some ⟨g, 0, none⟩) := by
  refine ⟨fun i x hx => by simp [k5D] at hx, threads_lit (vs := [.slice (some ⟨h, 0, none⟩) 2 2, .slice (some ⟨h', 0, none⟩) 2 2]) h2 fun k c hc => ?_, by decide, by decide⟩
  match k, hc with
  | 0, hc =>
    obtain rfl := Option.some.inj (show some _ = some c from hc)
    exact ⟨_, 2, rfl, code_lit h1⟩
  | 1, hc =>
    obtain rfl := Option.some.inj (show some _ = some c from hc)
    exact ⟨_, 2, rfl, code_lit h1'⟩
  | k + 2, hc => simp [k5D, k5Code] at hc
theorem k5_row (u : World) {g : Nat} (h : u.heap[g]? = some (.cells #[.int .i64 0, .int .i64 1, .int .i64 1, .int .i64 0, .int .i64 1] 3)) : RowOf .i64 u u.heap.size (some ⟨g, 0, none⟩) k5S := by
  intro i x hx
  refine ⟨g, 0, rfl, (Array.getElem?_eq_some_iff.1 h).1, ?_⟩
  rw [cell_of_row _ _ _ _ _ _ h, Nat.zero_add]
  match i, hx with
  | 0, hx => cases hx; rfl
  | 1, hx => cases hx; rfl
  | 2, hx => cases hx; rfl
  | 3, hx => cases hx; rfl
  | 4, hx => cases hx; rfl
  | i + 5, hx => simp [k5S] at hx
theorem k5_none (u : World) : ProgIn u u.heap.size ⟨0, 0, 0, [], 0, 0, []⟩ none none := ⟨fun i x hx => by simp at hx, fun k c hc => by simp at hc, by decide, by decide⟩
theorem box7 {w : World} {g : Nat} {a b c d e f h : Value} {t : TypeId} {fr : Nat × Nat} (hb : w.heap[g]? = some (.cells #[a, b, c, d, e, f, h] t fr)) :
    w.cell? ⟨g, 0, none⟩ = some a ∧ w.cell? ⟨g, 1, none⟩ = some b ∧ w.cell? ⟨g, 2, none⟩ = some c ∧ w.cell? ⟨g, 3, none⟩ = some d ∧ w.cell? ⟨g, 4, none⟩ = some e ∧ w.cell? ⟨g, 5, none⟩ = some f ∧ w.cell? ⟨g, 6, none⟩ = some h := by
  refine ⟨?_, ?_, ?_, ?_, ?_, ?_, ?_⟩ <;> (rw [cell_of_row _ _ _ _ _ _ hb]; rfl)
theorem ProgIn.later {w w' : World} {p : ProgD} {ca ta : Option Addr} (h : ProgIn w w.heap.size p ca ta) (hB : Below w.heap.size w w') : ProgIn w' w'.heap.size p ca ta := ProgIn.wide (h.below hB) hB.size
theorem alloc_at (w : World) (o : Obj) {k : Nat} (h : k = w.heap.size) : (w.alloc o).heap[k]? = some o := by subst h; exact heap_alloc_new w o
theorem known5_any (w : World) : Calls Try.prog 12 #[] w fun e w' => e = .returned (.bool true) ∧ Below w.heap.size w w' := by
  go_enter Try.func12, Try.ntmps12
  go_wp2_with fail
  generalize hU : World.alloc (World.alloc (World.alloc (World.alloc (World.alloc w _) _) _) _) _ = U
  have hBU : Below w.heap.size w U := by rw [← hU]; exact (((((Below.refl _ _).alloc (Nat.le_refl _) _).alloc (by simp) _).alloc (by simp; omega) _).alloc (by simp; omega) _).alloc (by simp; omega) _
  have hP : ProgIn U U.heap.size k5D none (some ⟨w.heap.size + 1 + 1, 0, none⟩) := by
    rw [← hU]
    exact k5_in _ (h := w.heap.size) (h' := w.heap.size + 1) ((Below.heap_alloc _ _ _ (by simp <;> omega)).trans ((Below.heap_alloc _ _ _ (by simp <;> omega)).trans ((Below.heap_alloc _ _ _ (by simp <;> omega)).trans ((Below.heap_alloc _ _ _ (by simp)).trans (alloc_at _ _ rfl)))))
      ((Below.heap_alloc _ _ _ (by simp <;> omega)).trans ((Below.heap_alloc _ _ _ (by simp <;> omega)).trans ((Below.heap_alloc _ _ _ (by simp)).trans (alloc_at _ _ (by simp)))))
      ((Below.heap_alloc _ _ _ (by simp <;> omega)).trans ((Below.heap_alloc _ _ _ (by simp)).trans (alloc_at _ _ (by simp))))
  have hbox : U.heap[w.heap.size + 1 + 1 + 1]? = some (.cells #[.int .i64 0, .int .i64 0, .int .i64 0, .slice none 0 0, .int .i64 0, .int .i64 0, .slice (some ⟨w.heap.size + 1 + 1, 0, none⟩) 2 2] 28) := by
    rw [← hU]; exact (Below.heap_alloc _ _ _ (by simp)).trans (alloc_at _ _ (by simp))
  have hrow : RowOf .i64 U U.heap.size (some ⟨w.heap.size + 1 + 1 + 1 + 1, 0, none⟩) k5S := by rw [← hU]; exact k5_row _ (alloc_at _ _ (by simp))
  clear hU
  refine (run_yes k5D none 0 (some ⟨w.heap.size + 1 + 1, 0, none⟩) 2 (some ⟨w.heap.size + 1 + 1 + 1 + 1, 0, none⟩) 5 k5S U hP k5D_sound hrow (by decide)).mono ?_
  rintro e w2 ⟨pv, kv, tv, rfl, hres, hB2⟩
  rw [k5_t] at hres
  obtain ⟨va, vc, rfl, hcells⟩ := own_cells hres.1
  obtain ⟨vg, rfl, _, hvg, hv0⟩ := hcells 0 5 rfl
  obtain ⟨ka, kc, rfl⟩ := st_slice hres.2.1
  obtain ⟨xa, xc, rfl⟩ := st_slice hres.2.2
  rw [k5_p, k5_r, k5_s]
  have hbox2 := (Below.heap_alloc w2 (.cells #[.slice (some ⟨vg, 0, none⟩) 2 vc, .int .u8 1, .slice ka 4 kc, .slice xa 4 xc] 37) _ (Nat.lt_of_lt_of_le (Array.getElem?_eq_some_iff.1 hbox).1 hB2.size)).trans ((hB2.block _ (Array.getElem?_eq_some_iff.1 hbox).1).trans hbox)
  have HP2 := Lib.hid ((hP.later hB2).later (below_box w2 (.cells #[.slice (some ⟨vg, 0, none⟩) 2 vc, .int .u8 1, .slice ka 4 kc, .slice xa 4 xc] 37)))
  have HB2 := Lib.hid (below_new (below_next hBU hB2) (.cells #[.slice (some ⟨vg, 0, none⟩) 2 vc, .int .u8 1, .slice ka 4 kc, .slice xa 4 xc] 37))
  obtain ⟨b0, b1, b2, b3, b4, b5, b6⟩ := box7 hbox2
  have HN := Lib.hid (heap_alloc_new w2 (.cells #[.slice (some ⟨vg, 0, none⟩) 2 vc, .int .u8 1, .slice ka 4 kc, .slice xa 4 xc] 37))
  have HV := Lib.hid (((below_box w2 (.cells #[.slice (some ⟨vg, 0, none⟩) 2 vc, .int .u8 1, .slice ka 4 kc, .slice xa 4 xc] 37)).cell (p := ⟨vg, 0, none⟩) hvg).trans hv0)
  clear hP hbox hrow hB2 hBU hres hcells hv0 hbox2
  go_wp2_with (first
    | (go_at_call 16; refine (run_no ⟨0, 0, 0, [], 0, 0, []⟩ none 0 none 0 none 0 0 _ (k5_none _) (by decide)).mono ?_; rintro e w4 ⟨rfl, hB4⟩; have HB4 := Lib.hid (below_next (below_new HB3.out _) hB4); have hn4 := (hB4.block _ (Array.getElem?_eq_some_iff.1 (HN3a.out _)).1).trans (HN3a.out _); have hm4 := (hB4.block _ (by simp)).trans (heap_alloc_new w3 _); have hn5 := (Below.heap_alloc w4 (.cells #[.slice none 0 0, .int .u8 0, .slice none 0 0, .slice none 0 0] 37) _ (Array.getElem?_eq_some_iff.1 hn4).1).trans hn4; have hm5 := (Below.heap_alloc w4 (.cells #[.slice none 0 0, .int .u8 0, .slice none 0 0, .slice none 0 0] 37) _ (Array.getElem?_eq_some_iff.1 hm4).1).trans hm4; obtain ⟨d0, d1, d2, d3⟩ := cells4 hn5; obtain ⟨f0, f1, f2, f3⟩ := cells4 hm5; have hv5 := ((below_box w4 (.cells #[.slice none 0 0, .int .u8 0, .slice none 0 0, .slice none 0 0] 37)).cell (p := ⟨vg, 0, none⟩) (by have := cell_lt (HV3.out (.cells #[] 0)); have := hB4.size; simp at *; omega)).trans ((hB4.cell (p := ⟨vg, 0, none⟩) (cell_lt (HV3.out _))).trans (HV3.out _)); clear hB4 hn4 hm4 hn5 hm5)
    | (go_at_call 29; refine (round_yes k5D none 0 (some ⟨w.heap.size + 1 + 1, 0, none⟩) 2 9 _ HP2.out k5D_sound (by decide)).mono ?_; rintro e w3 ⟨pv3, kv3, tv3, rfl, hres3, hB3⟩; obtain ⟨va3, vc3, rfl⟩ := st_slice hres3.1; obtain ⟨ka3, kc3, rfl⟩ := st_slice hres3.2.1; obtain ⟨xa3, xc3, rfl⟩ := st_slice hres3.2.2; rw [show k5D.threads.length = 2 from rfl, k5_rp, k5_rs]; have HB3 := Lib.hid (below_next HB2.out hB3); have hn3 := (hB3.block _ (by simp)).trans HN.out; have HN3a := Lib.hid (fun o => (Below.heap_alloc w3 o _ (Array.getElem?_eq_some_iff.1 hn3).1).trans hn3); have hv3 := (hB3.cell (p := ⟨vg, 0, none⟩) (cell_lt HV.out)).trans HV.out; have HV3 := Lib.hid (fun o => ((below_box w3 o).cell (p := ⟨vg, 0, none⟩) (cell_lt hv3)).trans hv3); clear hB3 hres3 hn3 hv3))
  go_ret
  exact ⟨rfl, below_new HB4.out _⟩
/-- Events of the call's own: their slice, their cells. -/
theorem evs_cells {u : World} {B : Nat} {v : Value} {l : List EvD} (h : u.ownsRow B 45 6 v l.length (evsCells l)) : ∃ a cap, v = .slice a l.length cap ∧ ∀ i x, l[i]? = some x → ∃ g, a = some ⟨g, 0, none⟩ ∧ B ≤ g ∧ g < u.heap.size ∧ ∀ j, j < 6 → u.cell? ⟨g, i * 6 + j, none⟩ = (evCells x)[j]? := by
  rcases h.2 with ⟨rfl, h0⟩ | ⟨g, cap, cur, rfl, hb, hh, hle, hcap, hsz, ht⟩
  · refine ⟨none, 0, by rw [h0], fun i x hx => ?_⟩
    have := (List.getElem?_eq_some_iff.1 hx).1; omega
  · refine ⟨_, cap, rfl, fun i x hx => ⟨g, rfl, hb, (Array.getElem?_eq_some_iff.1 hh).1, fun j hj => ?_⟩⟩
    have hi := (List.getElem?_eq_some_iff.1 hx).1
    rw [cell_of_row _ _ _ _ _ _ hh, ← evsCells_at l i x hx j hj, ← ht, List.getElem?_take_of_lt (by omega)]
    simp
/-- The six cells of an event. -/
def EvAt (u : World) (g o : Nat) (x : EvD) : Prop := u.cell? ⟨g, o, none⟩ = some (.int .i64 x.th) ∧ u.cell? ⟨g, o + 1, none⟩ = some (.int .i64 x.pc) ∧ u.cell? ⟨g, o + 2, none⟩ = some (.int .u8 x.op) ∧ u.cell? ⟨g, o + 3, none⟩ = some (.int .i64 x.obj) ∧ u.cell? ⟨g, o + 4, none⟩ = some (.int .i64 x.val) ∧ u.cell? ⟨g, o + 5, none⟩ = some (.int .i64 x.mode)
theorem evAt_of {u : World} {g i : Nat} {x : EvD} (h : ∀ j, j < 6 → u.cell? ⟨g, i * 6 + j, none⟩ = (evCells x)[j]?) : EvAt u g (i * 6) x := by
  refine ⟨?_, ?_, ?_, ?_, ?_, ?_⟩
  · simpa [evCells] using h 0 (by omega)
  · simpa [evCells] using h 1 (by omega)
  · simpa [evCells] using h 2 (by omega)
  · simpa [evCells] using h 3 (by omega)
  · simpa [evCells] using h 4 (by omega)
  · simpa [evCells] using h 5 (by omega)
theorem EvAt.later {u u' : World} {g o : Nat} {x : EvD} (h : EvAt u g o x) (hB : Below u.heap.size u u') : EvAt u' g o x :=
  ⟨(hB.cell (p := ⟨g, o, none⟩) (cell_lt h.1)).trans h.1, (hB.cell (p := ⟨g, o + 1, none⟩) (cell_lt h.1)).trans h.2.1, (hB.cell (p := ⟨g, o + 2, none⟩) (cell_lt h.1)).trans h.2.2.1, (hB.cell (p := ⟨g, o + 3, none⟩) (cell_lt h.1)).trans h.2.2.2.1, (hB.cell (p := ⟨g, o + 4, none⟩) (cell_lt h.1)).trans h.2.2.2.2.1, (hB.cell (p := ⟨g, o + 5, none⟩) (cell_lt h.1)).trans h.2.2.2.2.2⟩
/-- A result in the world, its rows by their cells. -/
structure Res (u : World) (pr pk : List Int) (tr : List EvD) (va ka xa : Option Addr) : Prop where
  prints : ∀ i x, pr[i]? = some x → ∃ g, va = some ⟨g, 0, none⟩ ∧ g < u.heap.size ∧ u.cell? ⟨g, i, none⟩ = some (.int .i64 x)
  picks : ∀ i x, pk[i]? = some x → ∃ g, ka = some ⟨g, 0, none⟩ ∧ g < u.heap.size ∧ u.cell? ⟨g, i, none⟩ = some (.int .i64 x)
  trace : ∀ i x, tr[i]? = some x → ∃ g, xa = some ⟨g, 0, none⟩ ∧ g < u.heap.size ∧ EvAt u g (i * 6) x
theorem Res.later {u u' : World} {pr pk : List Int} {tr : List EvD} {va ka xa : Option Addr} (h : Res u pr pk tr va ka xa) (hB : Below u.heap.size u u') : Res u' pr pk tr va ka xa := by
  have hs := hB.size
  refine ⟨fun i x hx => ?_, fun i x hx => ?_, fun i x hx => ?_⟩
  · obtain ⟨g, h1, h2, h3⟩ := h.prints i x hx
    exact ⟨g, h1, by omega, (hB.cell (p := ⟨g, i, none⟩) h2).trans h3⟩
  · obtain ⟨g, h1, h2, h3⟩ := h.picks i x hx
    exact ⟨g, h1, by omega, (hB.cell (p := ⟨g, i, none⟩) h2).trans h3⟩
  · obtain ⟨g, h1, h2, h3⟩ := h.trace i x hx
    exact ⟨g, h1, by omega, h3.later hB⟩
theorem ResIn.res {u : World} {base : Nat} {pr pk : List Int} {tr : List EvD} {pv kv tv : Value} (h : ResIn u base pr pk tr pv kv tv) : ∃ va vc ka kc xa xc, pv = .slice va pr.length vc ∧ kv = .slice ka pk.length kc ∧ tv = .slice xa tr.length xc ∧ Res u pr pk tr va ka xa := by
  obtain ⟨va, vc, rfl, h1⟩ := own_cells h.1
  obtain ⟨ka, kc, rfl, h2⟩ := own_cells h.2.1
  obtain ⟨xa, xc, rfl, h3⟩ := evs_cells h.2.2
  refine ⟨va, vc, ka, kc, xa, xc, rfl, rfl, rfl, fun i x hx => ?_, fun i x hx => ?_, fun i x hx => ?_⟩
  · obtain ⟨g, e, _, q, c⟩ := h1 i x hx; exact ⟨g, e, q, c⟩
  · obtain ⟨g, e, _, q, c⟩ := h2 i x hx; exact ⟨g, e, q, c⟩
  · obtain ⟨g, e, _, q, c⟩ := h3 i x hx; exact ⟨g, e, q, evAt_of c⟩
theorem Res.row {u : World} {pr pk : List Int} {tr : List EvD} {va ka xa : Option Addr} (h : Res u pr pk tr va ka xa) : RowOf .i64 u u.heap.size ka pk := fun i x hx => by
  obtain ⟨g, e, q, c⟩ := h.picks i x hx
  exact ⟨g, 0, e, q, by simpa using c⟩
theorem row_own {u : World} {B : Nat} {a : Option Addr} {cap : Nat} {l : List Int} (h : ∀ i x, l[i]? = some x → ∃ g, a = some ⟨g, 0, none⟩ ∧ B ≤ g ∧ g < u.heap.size ∧ u.cell? ⟨g, i, none⟩ = some (.int .i64 x)) : RowOf .i64 u u.heap.size a l := fun i x hx => by
  obtain ⟨g, e, _, q, c⟩ := h i x hx
  exact ⟨g, 0, e, q, by simpa using c⟩
theorem keep4 {u u' : World} {g : Nat} {v0 v1 v2 v3 : Value} (k : u.cell? ⟨g, 0, none⟩ = some v0 ∧ u.cell? ⟨g, 1, none⟩ = some v1 ∧ u.cell? ⟨g, 2, none⟩ = some v2 ∧ u.cell? ⟨g, 3, none⟩ = some v3) (hB : Below u.heap.size u u') : u'.cell? ⟨g, 0, none⟩ = some v0 ∧ u'.cell? ⟨g, 1, none⟩ = some v1 ∧ u'.cell? ⟨g, 2, none⟩ = some v2 ∧ u'.cell? ⟨g, 3, none⟩ = some v3 :=
  ⟨(hB.cell (p := ⟨g, 0, none⟩) (cell_lt k.1)).trans k.1, (hB.cell (p := ⟨g, 1, none⟩) (cell_lt k.1)).trans k.2.1, (hB.cell (p := ⟨g, 2, none⟩) (cell_lt k.1)).trans k.2.2.1, (hB.cell (p := ⟨g, 3, none⟩) (cell_lt k.1)).trans k.2.2.2⟩
theorem picks_later {w w' : World} {l : List Int} {a : Option Addr} (h : RowOf .u8 w w.heap.size a l) (hB : Below w.heap.size w w') : RowOf .u8 w' w'.heap.size a l := (h.later hB).wide hB.size
theorem numbers5_yes (l : List Int) (a b : Option Addr) (ca cb : Nat) (w : World) (ha : RowOf .i64 w w.heap.size a l) (hb : RowOf .i64 w w.heap.size b l) (hl : l.length ≤ 1000000) :
    Calls Try.prog 50 #[.slice a l.length ca, .slice b l.length cb] w fun e w' => e = .returned (.bool true) ∧ Below w.heap.size w w' := by
  have HA := Lib.hid ha
  have HC := Lib.hid hb
  clear ha hb
  go_enter Try.func50, Try.ntmps50
  go_wp2
  go_loopw [5] (fun i wr => ∃ j : Nat, j ≤ l.length ∧ i = .int .i64 j ∧ Below w.heap.size w wr) (fun i _ => l.length - (intOf i).toNat)
  case atStart => exact ⟨0, Nat.zero_le _, rfl, Below.refl _ _⟩
  case round =>
    obtain ⟨j, hj, rfl, hB⟩ := hrel
    by_cases hlt : j < l.length
    · obtain ⟨x, hx⟩ := at_lt hlt
      obtain ⟨g, off, rfl, hg, hc⟩ := HA.out j x hx
      obtain ⟨g', off', rfl, hg', hc'⟩ := HC.out j x hx
      have d := (hB.cell (p := ⟨g, off + j, none⟩) hg).trans hc
      have d' := (hB.cell (p := ⟨g', off' + j, none⟩) hg').trans hc'
      clear hx hc hc'
      go_wp2_with fail
      go_quiet (fail)
      go_wp2
      go_roundw
      case rel => exact ⟨j + 1, by omega, by go_num, below_draws hB _⟩
      case measure => simp [intOf]; omega
    · obtain rfl : j = l.length := by omega
      go_wp2
      go_ret
      exact ⟨rfl, hB⟩
theorem Res.rowP {u : World} {pr pk : List Int} {tr : List EvD} {va ka xa : Option Addr} (h : Res u pr pk tr va ka xa) : RowOf .i64 u u.heap.size va pr := fun i x hx => by
  obtain ⟨g, e, q, c⟩ := h.prints i x hx
  exact ⟨g, 0, e, q, by simpa using c⟩
/-- A program of choices in its box; a result in its box. -/
abbrev pbO (ca ta : Option Addr) (n tcap : Nat) : Obj := .cells #[.int .i64 2, .int .i64 1, .int .i64 1, .slice ca 1 1, .int .i64 1, .int .i64 1, .slice ta n tcap] 28
theorem old_alloc {u : World} {g : Nat} {o : Obj} (h : u.heap[g]? = some o) (o' : Obj) : (u.alloc o').heap[g]? = some o := (Below.heap_alloc _ _ _ (Array.getElem?_eq_some_iff.1 h).1).trans h
theorem old_later {u u' : World} {g : Nat} {o : Obj} (h : u.heap[g]? = some o) (hB : Below u.heap.size u u') : u'.heap[g]? = some o := (hB.block _ (Array.getElem?_eq_some_iff.1 h).1).trans h
theorem keepB {u u' : World} {g : Nat} {v0 v1 v2 v3 v4 v5 v6 : Value} (k : u.cell? ⟨g, 0, none⟩ = some v0 ∧ u.cell? ⟨g, 1, none⟩ = some v1 ∧ u.cell? ⟨g, 2, none⟩ = some v2 ∧ u.cell? ⟨g, 3, none⟩ = some v3 ∧ u.cell? ⟨g, 4, none⟩ = some v4 ∧ u.cell? ⟨g, 5, none⟩ = some v5 ∧ u.cell? ⟨g, 6, none⟩ = some v6) (hB : Below u.heap.size u u') : u'.cell? ⟨g, 0, none⟩ = some v0 ∧ u'.cell? ⟨g, 1, none⟩ = some v1 ∧ u'.cell? ⟨g, 2, none⟩ = some v2 ∧ u'.cell? ⟨g, 3, none⟩ = some v3 ∧ u'.cell? ⟨g, 4, none⟩ = some v4 ∧ u'.cell? ⟨g, 5, none⟩ = some v5 ∧ u'.cell? ⟨g, 6, none⟩ = some v6 :=
  have q : ∀ {i : Nat} {v : Value}, u.cell? ⟨g, i, none⟩ = some v → u'.cell? ⟨g, i, none⟩ = some v := fun {i v} h => (hB.cell (p := ⟨g, i, none⟩) (cell_lt h)).trans h
  ⟨q k.1, q k.2.1, q k.2.2.1, q k.2.2.2.1, q k.2.2.2.2.1, q k.2.2.2.2.2.1, q k.2.2.2.2.2.2⟩
theorem RowOf.up {k : IntKind} {w w' : World} {a : Option Addr} {l : List Int} (h : RowOf k w w.heap.size a l) (hB : Below w.heap.size w w') : RowOf k w' w'.heap.size a l := (h.later hB).wide hB.size
theorem ints_one (l : List Int) : ∀ u ∈ l.map (Value.int .i64 ·), u.oneCell' = true := fun u hu => by obtain ⟨x, _, rfl⟩ := List.mem_map.1 hu; rfl
end Go.Proofs.Ytnbpneaiibandaa
