/- What the laws of this seat stand on, part 11. -/
import Derived.Test.YtglafbajbiengaaGreatPa0
import Derived.Test.YtglafbajbiengaaGreatPa1
import Derived.Test.YtglafbajbiengaaGreatPa4
import Derived.Test.YtglafbajbiengaaGreatPa5
import Derived.Test.YtglafbajbiengaaGreatPa8
import Derived.Test.YtglafbajbiengaaGreatPa10
set_option linter.unusedVariables false
set_option linter.unusedSimpArgs false
set_option maxRecDepth 100000
set_option maxHeartbeats 40000000
namespace Go.Proofs.YtglafbajbiengaaGreat
open Go.ChangeShapes Go.WideShapes Go.ChangeAt Go.RowKit
theorem eql_nil_ins (w : World) (a : Option Addr) (n c : Nat) : (binOp .eql 68 (.slice a n c) (.slice none 0 0)).run Tryz.prog w = .ok (.bool a.isNone) w := by cases a <;> rfl
theorem eql_nil_int (w : World) (a : Option Addr) (n c : Nat) : (binOp .eql 23 (.slice a n c) (.slice none 0 0)).run Tryz.prog w = .ok (.bool a.isNone) w := by cases a <;> rfl
/-- The cells of code that lies somewhere. -/
theorem cells_code {w : World} {B : Nat} {ad : Addr} {c : List InsD} (h : CodeIn w B (some ad) c) : ∀ j u, (codeCells c)[j]? = some u → w.cell? (ad.add j) = some u := by
  intro j u hj
  have hl := (List.getElem?_eq_some_iff.1 hj).1
  rw [codeCells_len] at hl
  obtain ⟨x, hx⟩ := at_lt (l := c) (k := j / 4) (by omega)
  obtain ⟨g, off, e, _, i0, i1, i2, i3⟩ := h _ x hx
  cases e
  have hm : j % 4 < 4 := by omega
  rw [show j = j / 4 * 4 + j % 4 by omega, codeCells_at c _ x hx _ hm] at hj
  rw [Addr.add_mid]
  rcases hr : j % 4 with _ | _ | _ | _ | r
  · rw [show off + j = off + j / 4 * 4 by omega, i0]; simpa [hr, insCells] using hj
  · rw [show off + j = off + j / 4 * 4 + 1 by omega, i1]; simpa [hr, insCells] using hj
  · rw [show off + j = off + j / 4 * 4 + 2 by omega, i2]; simpa [hr, insCells] using hj
  · rw [show off + j = off + j / 4 * 4 + 3 by omega, i3]; simpa [hr, insCells] using hj
  · omega
theorem code_one (c : List InsD) : ∀ u ∈ codeCells c, u.oneCell' = true := by
  intro u hu
  obtain ⟨x, _, hx⟩ := List.mem_flatMap.1 hu
  exact ins_one x u hx
theorem cloneIns_any (a : Option Addr) (cap : Nat) (c : List InsD) (B : Nat) (w : World) (hc : CodeIn w B a c) (hl : c.length ≤ 1000) :
    Calls Tryz.prog 43 #[.slice a c.length cap] w fun e w' => ∃ v, e = .returned v ∧ w'.ownsRow w.heap.size 67 4 v c.length (codeCells c) ∧ Below w.heap.size w w' := by
  obtain ⟨i0, hi, hz0, hz1, hz2⟩ : ∃ i, Tryz.prog.info? 67 = some i ∧ i.zero = some (.agg #[.int .u8 0, .int .i64 0, .int .i64 0, .int .i64 0]) ∧ i.size = 4 ∧ i.bytes = 32 := by
    have := info_insT
    cases h : Tryz.prog.info? 67 with
    | none => simp [h] at this
    | some i => exact ⟨i, rfl, by simpa [h] using congrArg (·.map (·.1)) this, by simpa [h] using congrArg (·.map (·.2.1)) this, by simpa [h] using congrArg (·.map (·.2.2)) this⟩
  have HE := Lib.hid (fun w n c => eql_nil_ins w a n c)
  cases a with
  | none =>
    have h0 : c = [] := by
      rcases c with _ | ⟨x, r⟩
      · rfl
      · obtain ⟨g, off, e, _⟩ := hc 0 x rfl; cases e
    subst h0
    go_enter Tryz.func43, Tryz.ntmps43
    go_wp2_with (first | (rw [eql_nil_ins]; go_simp))
    go_ret
    exact ⟨_, rfl, World.ownsRow_nil _ _ _ _, Below.refl _ _⟩
  | some ad =>
    have HC := Lib.hid (cells_code hc)
    have HL := Lib.hid hl
    clear hc
    go_enter Tryz.func43, Tryz.ntmps43
    go_wp2_with (first | (rw [eql_nil_ins]; go_simp) | (refine wpList_append_own_at _ rfl _ _ 68 rfl w.heap.size 67 i0 _ 4 32 Tryz.underlying68 hi hz0 hz1 hz2 rfl (by decide) _ 0 [] rfl (World.ownsRow_made w #[] 0 (Nat.le_refl _) (Nat.zero_le _) rfl) ad c.length cap (codeCells c) rfl (codeCells_len c) (fun j u hj => Lib.cell?_alloc_some _ (HC.out j u hj)) (code_one c) (by unfold maxLen; omega) (by omega) (by simp) ?_; intro v' w1 hown hgrow hnil hat))
    go_ret
    refine ⟨v', rfl, by simpa using hown, ?_⟩
    exact ((Below.refl _ w).alloc (Nat.le_refl _) _).grown hgrow (by simp) (by intro k hk; cases hk; exact Nat.le_refl _)
theorem cloneInt_any {B : Nat} (pv : Value) (l : List Int) (w : World) (ho : w.ownsRow B 3 1 pv l.length (l.map (.int .i64 ·))) (hl : l.length ≤ 2000000) :
    Calls Tryz.prog 77 #[pv] w fun e w' => ∃ v, e = .returned v ∧ w'.ownsRow w.heap.size 3 1 v l.length (l.map (.int .i64 ·)) ∧ Below w.heap.size w w' := by
  obtain ⟨i0, hi, hz0, hz1, hz2⟩ : ∃ i, Tryz.prog.info? 3 = some i ∧ i.zero = some (.int .i64 0) ∧ i.size = 1 ∧ i.bytes = 8 := by
    have := info_intT
    cases h : Tryz.prog.info? 3 with
    | none => simp [h] at this
    | some i => exact ⟨i, rfl, by simpa [h] using congrArg (·.map (·.1)) this, by simpa [h] using congrArg (·.map (·.2.1)) this, by simpa [h] using congrArg (·.map (·.2.2)) this⟩
  rcases ho.2 with ⟨rfl, h0⟩ | ⟨g, cap, cur, rfl, hb, hh, hle, hcap, hsz, ht⟩
  · obtain rfl : l = [] := List.eq_nil_of_length_eq_zero h0
    clear ho
    go_enter Tryz.func77, Tryz.ntmps77
    go_wp2_with (first | (rw [eql_nil_int]; go_simp))
    go_ret
    exact ⟨_, rfl, World.ownsRow_nil _ _ _ _, Below.refl _ _⟩
  · have hc : ∀ j u, (l.map (Value.int .i64 ·))[j]? = some u → w.cell? ((⟨g, 0, none⟩ : Addr).add j) = some u := by
      intro j u hj
      have hjl := (List.getElem?_eq_some_iff.1 hj).1
      simp at hjl
      rw [Addr.add_mid, Nat.zero_add, cell_of_row _ _ _ _ _ _ hh]
      rw [← ht, List.getElem?_take_of_lt (by omega)] at hj
      simpa using hj
    have HC := Lib.hid hc
    clear hc ho hh ht
    go_enter Tryz.func77, Tryz.ntmps77
    go_wp2_with (first | (rw [eql_nil_int]; go_simp) | (refine wpList_append_own_at _ rfl _ _ 23 rfl w.heap.size 3 i0 _ 1 8 Tryz.underlying23 hi hz0 hz1 hz2 rfl (by decide) _ 0 [] rfl (World.ownsRow_made w #[] 0 (Nat.le_refl _) (Nat.zero_le _) rfl) ⟨g, 0, none⟩ l.length cap (l.map (.int .i64 ·)) rfl (by simp) (fun j u hj => Lib.cell?_alloc_some _ (HC.out j u hj)) (fun u hu => by obtain ⟨x, _, rfl⟩ := List.mem_map.1 hu; rfl) (by unfold maxLen; omega) (by omega) (by simp) ?_; intro v' w1 hown hgrow hnil hat))
    go_ret
    refine ⟨v', rfl, by simpa using hown, ?_⟩
    exact ((Below.refl _ w).alloc (Nat.le_refl _) _).grown hgrow (by simp) (by intro k hk; cases hk; exact Nat.le_refl _)
/-- The numbers behind a pick, what is told then, the event. -/
def stepM (code : List (List InsD)) (m : Nat → Int) (k : Int) : Nat → Int := if canM code m k then match insM code m k.toNat with | some x => stepK m k.toNat x | none => m else m
def stepT (code : List (List InsD)) (m : Nat → Int) (k : Int) : List Int := if canM code m k then match insM code m k.toNat with | some x => doT (pcUp m k.toNat) k.toNat x | none => [] else []
def stepV (code : List (List InsD)) (m : Nat → Int) (k : Int) : Value := if canM code m k then match insM code m k.toNat with | some x => evK m k.toNat x | none => evV 0 0 0 0 0 0 else evV 0 0 0 0 0 0
theorem stepT_len (code : List (List InsD)) (m : Nat → Int) (k : Int) : (stepT code m k).length ≤ 1 := by
  unfold stepT
  split
  · split
    · unfold doT; split <;> simp
    · simp
  · simp
theorem canM_parts {code : List (List InsD)} {m : Nat → Int} {k : Int} (h : canM code m k = true) : ∃ (j : Nat) (x : InsD), k = j ∧ j < code.length ∧ insM code m j = some x ∧ blockedM m x = false ∧ m (1 + j * 6) = 1 ∧ m 90 ≠ 1 := by
  simp only [canM, Bool.and_eq_true] at h
  obtain ⟨h1, h2⟩ := h
  obtain ⟨j, rfl, hj⟩ := hasT_yes h1
  rw [Int.toNat_natCast] at h2
  simp only [canK, Bool.and_eq_true] at h2
  obtain ⟨h3, h4⟩ := h2
  rcases hx : insM code m j with _ | x
  · rw [hx] at h4; simp at h4
  · rw [hx] at h4
    simp at h4
    exact ⟨j, x, rfl, hj, hx, h4.2, by simpa using h3, h4.1⟩
theorem inv_stepM {code : List (List InsD)} {m : Nat → Int} (I : Inv m code) (hl : code.length ≤ 6) (k : Int) : Inv (stepM code m k) code := by
  unfold stepM
  split
  · rename_i h
    obtain ⟨j, x, rfl, hj, hx, hb, _⟩ := canM_parts h
    rw [Int.toNat_natCast, hx]
    exact inv_step I hl hx hb
  · exact I
/-- A state behind some steps from u0 on. -/
def Rn (u0 u : World) (b lo : Nat) (m : Nat → Int) (code : List (List InsD)) (pr : List Int) : Prop :=
  ∃ pv, StIn u b lo u0.heap.size pv m code pr ∧ Inv m code ∧ b < lo ∧ Touch (fun j => j = b) u0 u
theorem Rn.later {u0 u u' : World} {b lo : Nat} {m : Nat → Int} {code : List (List InsD)} {pr : List Int} (h : Rn u0 u b lo m code pr) (hB : Below u.heap.size u u') : Rn u0 u' b lo m code pr := by
  obtain ⟨pv, S, I, hb, T⟩ := h
  exact ⟨pv, S.later hB, I, hb, T.trans (Touch.of_below hB) (fun _ _ h => h)⟩
theorem Rn.below {u0 u : World} {b lo : Nat} {m : Nat → Int} {code : List (List InsD)} {pr : List Int} (h : Rn u0 u b lo m code pr) {w : World} (hB : Below w.heap.size w u0) (hb : w.heap.size ≤ b) : Below w.heap.size w u := by
  obtain ⟨pv, S, I, _, T⟩ := h
  exact hB.trans (T.below (fun k hk => by omega) hB.size)
theorem InsIn.mono {w : World} {lo hi hi' : Nat} {a : Option Addr} {c : List InsD} (h : InsIn w lo hi a c) (hh : hi ≤ hi') : InsIn w lo hi' a c := fun j x hx => by
  obtain ⟨g, off, h1, h2, h3, h4⟩ := h j x hx
  exact ⟨g, off, h1, h2, by omega, h4⟩
theorem RowsIn.mono {w : World} {lo hi hi' : Nat} {a : Option Addr} {cs : List (List InsD)} (h : RowsIn w lo hi a cs) (hh : hi ≤ hi') : RowsIn w lo hi' a cs := fun k c hc => by
  obtain ⟨g, off, h1, h2, h3, a', cap, h4, h5⟩ := h k c hc
  exact ⟨g, off, h1, h2, by omega, a', cap, h4, h5.mono hh⟩
theorem Rn.start {u0 : World} {b lo hi : Nat} {m : Nat → Int} {code : List (List InsD)} (S : StIn u0 b lo hi (.slice none 0 0) m code []) (I : Inv m code) (hb : b < lo) : Rn u0 u0 b lo m code [] := by
  obtain ⟨cs, a, cap, h1, h2, h3, h4, h5, h6⟩ := S.box
  refine ⟨.slice none 0 0, ⟨⟨cs, a, cap, h1, h2, h3, h4, h5, h6.mono S.top⟩, World.ownsRow_nil _ _ _ _, .inl hb, S.two, S.len, S.lens, Nat.le_refl _⟩, I, hb, Touch.of_below (Below.refl _ _)⟩
theorem Rn.step {u0 u : World} {b lo : Nat} {m : Nat → Int} {code : List (List InsD)} {pr : List Int} (h : Rn u0 u b lo m code pr) (hpl : pr.length ≤ 1000000) (k : Int) :
    Calls Tryz.prog 44 #[.pointer (some ⟨b, 0, none⟩), .int .i64 k] u fun e w' => e = .returned (.tuple #[stepV code m k, .bool (canM code m k)]) ∧ Rn u0 w' b lo (stepM code m k) code (pr ++ stepT code m k) ∧ (canM code m k = false → Below u.heap.size u w') := by
  obtain ⟨pv, S, I, hb, T⟩ := h
  have hl := S.len
  have I' := inv_stepM I hl k
  rcases hc : canM code m k with _ | _
  · refine (step_no k u S I hc).mono ?_
    rintro e w' ⟨rfl, hB⟩
    simp only [stepM, stepT, stepV, hc, Bool.false_eq_true, if_false, List.append_nil] at I' ⊢
    exact ⟨trivial, ⟨pv, S.later hB, I', hb, T.trans (Touch.of_below hB) (fun _ _ h => h)⟩, fun _ => hB⟩
  · obtain ⟨j, x, rfl, hj, hx, hbl, _⟩ := canM_parts hc
    rcases hq : code[j]? with _ | ck
    · simp [insM, hq] at hx
    obtain ⟨p, hp, hpl2⟩ := I.pc j ck hq
    have hx2 := hx
    simp only [insM, hq, Option.bind_some] at hx2
    have h60 := S.lens ck (List.mem_of_getElem? hq)
    refine (step_yes j p x u S I hpl hj hc hx hp (by omega) ⟨_, I.fit j ck hq x (List.mem_of_getElem? hx2)⟩ hbl).mono ?_
    rintro e w' ⟨rfl, pv', S', T', ho⟩
    simp only [stepM, stepT, stepV, hc, if_true, Int.toNat_natCast, hx] at I' ⊢
    refine ⟨trivial, ⟨pv', S', I', hb, T.trans T' fun i hi => ?_⟩, by simp⟩
    rintro (e | e)
    · exact e
    · have := (own_lt S.own _ e).2; omega
theorem new_no (p : ProgD) (ca : Option Addr) (ccap : Nat) (ta : Option Addr) (tcap : Nat) (w : World) (hp : ProgIn w w.heap.size p ca ta) (hs : soundE p ≠ 0) :
    Calls Tryz.prog 27 #[p.val ca ccap ta tcap] w fun e w' => e = .returned (.pointer none) ∧ Below w.heap.size w w' := by
  have hb : ∀ o, Below w.heap.size w (w.alloc o) := fun o => (Below.refl _ _).alloc (Nat.le_refl _) _
  have HP := Lib.hid (fun o => ProgIn.wide (hp.below (hb o)) (hb o).size)
  have he : (soundE p != 0) = true := by simpa using hs
  clear hp hs
  generalize hE : soundE p = ee at he
  have HE := Lib.hid hE
  clear hE
  go_enter Tryz.func27, Tryz.ntmps27
  go_wp2_with (first
    | (go_at_call 42; refine (sound_any p ca ccap ta tcap _ (HP.out _)).mono ?_; rintro e w1 ⟨rfl, hB1⟩; rw [HE.out]))
  go_ret
  exact ⟨rfl, (hb _).trans (hB1.mono (by simp))⟩
/-- The numbers of a state that begins, as far as the first k channels are laid. -/
def beginM (chans : List Int) (k : Nat) : Nat → Int := fun i => if 57 ≤ i ∧ i ≤ 80 ∧ (i - 57) % 6 = 4 ∧ (i - 57) / 6 < k then (chans[(i - 57) / 6]?).getD 0 else 0
def newM (chans : List Int) : Nat → Int := upd (beginM chans chans.length) 1 1
theorem beginM_zero (chans : List Int) (i : Nat) : beginM chans 0 i = 0 := by
  unfold beginM; rw [if_neg (by omega)]
theorem beginM_succ {chans : List Int} {k : Nat} {x : Int} (hx : chans[k]? = some x) (hk : k < 4) : beginM chans (k + 1) = upd (beginM chans k) (57 + k * 6 + 4) x := by
  funext i
  unfold upd
  by_cases e : i = 57 + k * 6 + 4
  · subst e
    have h1 : (57 + k * 6 + 4 - 57) / 6 = k := by omega
    rw [if_pos rfl]
    unfold beginM
    rw [if_pos (by omega), h1, hx]; rfl
  · rw [if_neg e]
    unfold beginM
    by_cases h : 57 ≤ i ∧ i ≤ 80 ∧ (i - 57) % 6 = 4 ∧ (i - 57) / 6 < k
    · rw [if_pos h, if_pos (by omega)]
    · rw [if_neg h, if_neg (by omega)]
theorem zero_at : ∀ i, i < 91 → i ≠ 0 → i ≠ 89 → Tryz.zeroCells113[i]? = some (valAt i 0) := by
  have h : Tryz.zeroCells113.toList = (List.range 91).map (fun i => if i = 0 ∨ i = 89 then Value.slice none 0 0 else valAt i 0) := by kernel_rfl
  intro i h1 h2 h3
  rw [← Array.getElem?_toList, h, List.getElem?_map, List.getElem?_range h1]
  simp [h2, h3]
/-- While the code is laid. -/
structure LaySt (w u : World) (b : Nat) (tv : Value) (vs : List Value) (cs : List (List InsD)) : Prop where
  box : ∃ r, u.heap[b]? = some (.cells r 113) ∧ r.size = 91 ∧ r[0]? = some tv ∧ r[89]? = some (.slice none 0 0) ∧ ∀ i, i < 91 → i ≠ 0 → i ≠ 89 → r[i]? = some (valAt i 0)
  own : OwnThreads u (b + 1) tv vs cs
  bel : Below w.heap.size w u
  at_ : w.heap.size ≤ b
  lt : b < u.heap.size
theorem LaySt.later {w u u' : World} {b : Nat} {tv : Value} {vs : List Value} {cs : List (List InsD)} (h : LaySt w u b tv vs cs) (hB : Below u.heap.size u u') : LaySt w u' b tv vs cs := by
  obtain ⟨r, r1, r2⟩ := h.box
  exact ⟨⟨r, (hB.block _ h.lt).trans r1, r2⟩, h.own.later hB, h.bel.trans (hB.mono h.bel.size), h.at_, Nat.lt_of_lt_of_le h.lt hB.size⟩
theorem LaySt.push {w u u' : World} {b : Nat} {tv tv' v : Value} {vs : List Value} {cs : List (List InsD)} {c : List InsD} (h : LaySt w u b tv vs cs)
    (hv : u.ownsRow (b + 1) 67 4 v c.length (codeCells c)) (haT : Apart v tv) (haV : ∀ (k : Nat) (x : Value), vs[k]? = some x → Apart x v)
    (hrow : u'.ownsRow (b + 1) 68 1 tv' (vs.length + 1) (vs ++ [v])) (hg : u.grownBy u' tv.ownBlock) (hat : tv'.ownBlock = tv.ownBlock ∨ tv'.ownBlock = some u.heap.size) :
    (u'.cell? ⟨b, 0, none⟩ = some tv ∧ u'.frozen? ⟨b, 0, none⟩ = false) ∧ LaySt w (u'.setCell ⟨b, 0, none⟩ tv') b tv' (vs ++ [v]) (cs ++ [c]) := by
  obtain ⟨r, r1, r2, r3, r4, r5⟩ := h.box
  have hT : tv.ownBlock ≠ some b := fun e => by have := (own_lt h.own.thr _ e).2; omega
  have hbx := (hg.block b h.lt (fun e => hT e.symm)).trans r1
  have hS := h.own.snoc hv haT haV hrow hg hat
  refine ⟨⟨(cell_of_row _ _ _ _ _ _ hbx).trans r3, frozen_of_row _ _ _ _ _ hbx⟩, ⟨⟨r.setIfInBounds 0 tv', stSet_block u' b 0 tv' hbx, by simpa using r2, ?_, ?_, fun j hj j0 j9 => ?_⟩, hS.setOff ?_ ?_ 0 tv', ?_, h.at_, by rw [size_setCell]; exact Nat.lt_of_lt_of_le h.lt hg.size⟩⟩
  · rw [Array.getElem?_setIfInBounds_self_of_lt (by omega)]
  · rw [Array.getElem?_setIfInBounds_ne (by omega)]; exact r4
  · rw [Array.getElem?_setIfInBounds_ne (by omega)]; exact r5 j hj j0 j9
  · intro e; have := (own_lt hrow _ e).2; omega
  · intro k x hx e
    obtain ⟨d, _, hd⟩ := hS.codeOf hx
    have := (own_lt hd _ e).2; omega
  · exact (h.bel.grown hg h.bel.size (fun k e => by have := (own_lt h.own.thr k e).2; have := h.at_; omega)).setCell (p := ⟨b, 0, none⟩) h.at_ _
theorem LaySt.rows {w u : World} {b : Nat} {tv : Value} {vs : List Value} {cs : List (List InsD)} (h : LaySt w u b tv vs cs) : ∃ a cap, tv = .slice a cs.length cap ∧ RowsIn u (b + 1) u.heap.size a cs := by
  obtain ⟨a, cap, rfl, hT⟩ := h.own.threads_in
  refine ⟨a, cap, rfl, fun k c hc => ?_⟩
  obtain ⟨g, off, rfl, h2, a', cap', h3, h4⟩ := hT k c hc
  have hg := (own_lt h.own.thr g rfl).2
  refine ⟨g, off, rfl, hg, h2, a', cap', h3, fun j x hx => ?_⟩
  obtain ⟨g', off', rfl, h5, h6⟩ := h4 j x hx
  obtain ⟨v, hv, hrow⟩ := h.own.codeAt hc
  have e : v = .slice (some ⟨g', off', none⟩) c.length cap' := by
    rcases h.own.thr.2 with ⟨e1, e2⟩ | ⟨g0, cap0, cur, e1, _, hh, hle, _, hs, ht⟩
    · cases e1
    · injection e1 with e1 e2 e3
      injection e1 with e1
      injection e1 with e1 e4
      subst e1 e4
      have hk := (List.getElem?_eq_some_iff.1 hv).1
      rw [Nat.zero_add, cell_of_row _ _ _ _ _ _ hh] at h3
      rw [← ht, List.getElem?_take_of_lt (by omega)] at hv
      simp at hv
      rw [h3] at hv
      exact (Option.some.inj hv).symm
  subst e
  exact ⟨g', off', rfl, (own_lt hrow g' rfl).2, h5, h6⟩
theorem LaySt.st {w u : World} {b : Nat} {tv : Value} {vs : List Value} {cs : List (List InsD)} (h : LaySt w u b tv vs cs) (chans : List Int) (h6 : cs.length ≤ 6) (hl : ∀ c ∈ cs, c.length ≤ 60) : StIn u b (b + 1) u.heap.size (.slice none 0 0) (beginM chans 0) cs [] := by
  obtain ⟨r, r1, r2, r3, r4, r5⟩ := h.box
  obtain ⟨a, cap, rfl, hR⟩ := h.rows
  exact ⟨⟨r, a, cap, r1, r2, r3, r4, fun i h1 h2 h3 => by rw [beginM_zero]; exact r5 i h1 h2 h3, hR⟩, World.ownsRow_nil _ _ _ _, .inl (by omega), by simp [Value.ownBlock], h6, hl, Nat.le_refl _⟩
theorem st_one_new0 (w : World) (v : Value) (t : TypeId) : ∀ j u, [v][j]? = some u → (w.alloc (.cells #[v] t)).cell? ((⟨w.heap.size, 0, none⟩ : Addr).add j) = some u := fun j u hu => by
  cases j with
  | zero =>
    obtain rfl : v = u := by simpa using hu
    exact cell_of_row _ _ 0 _ _ _ (heap_alloc_new w _)
  | succ j => simp at hu
theorem new_yes (p : ProgD) (ca : Option Addr) (ccap : Nat) (ta : Option Addr) (tcap : Nat) (w : World) (hp : ProgIn w w.heap.size p ca ta) (hs : soundE p = 0) :
    Calls Tryz.prog 27 #[p.val ca ccap ta tcap] w fun e w' => ∃ b, e = .returned (.pointer (some ⟨b, 0, none⟩)) ∧ Below w.heap.size w w' ∧ w.heap.size ≤ b ∧ StIn w' b (b + 1) w'.heap.size (.slice none 0 0) (newM p.chans) p.threads [] := by
  have hb : ∀ o, Below w.heap.size w (w.alloc o) := fun o => (Below.refl _ _).alloc (Nat.le_refl _) _
  have HP := Lib.hid (fun o => ProgIn.wide (hp.below (hb o)) (hb o).size)
  have HT := Lib.hid hp.threads
  have HCh := Lib.hid hp.chans
  have hsz : sizesB p = true := by
    rcases h : sizesB p with _ | _
    · simp [soundE, h, firstE, unE] at hs
    · rfl
  have htl : p.threads.length ≤ 6 := (sizes_parts hsz).2.2.2.2.2.2.1.2
  have HL := Lib.hid (sizes_parts hsz).2.2.2.2.2.2.2
  have hc4 : p.chans.length ≤ 4 := (sizes_parts hsz).2.2.2.2.2.1
  have HE := Lib.hid hs
  clear hp hs hsz
  obtain ⟨j0, hj, hy0, hy1, hy2⟩ := info_parts info_codeT
  go_enter Tryz.func27, Tryz.ntmps27
  go_wp2_with (first
    | (go_at_call 42; refine (sound_any p ca ccap ta tcap _ (HP.out _)).mono ?_; rintro e w1 ⟨rfl, hB1⟩; rw [HE.out]; have hN1 := (hB1.block w.heap.size (by simp)).trans (heap_alloc_new w _); have HN1 := Lib.hid hN1; have HB1 := Lib.hid (show Below w.heap.size w w1 from (hb _).trans (hB1.mono (by simp))); have c6 : (w1.alloc (.cells Tryz.zeroCells113 113)).cell? ⟨w.heap.size, 6, none⟩ = some (.slice ta p.threads.length tcap) := cell_of_row _ _ _ _ _ _ ((Below.heap_alloc _ _ _ (Array.getElem?_eq_some_iff.1 hN1).1).trans hN1); clear hB1 hN1))
  generalize hU : World.alloc w1 _ = U
  have HL0 : Hid (LaySt w1 U w1.heap.size (.slice none 0 0) [] (p.threads.take 0)) := by
    rw [← hU]
    exact ⟨⟨_, heap_alloc_new _ _, rfl, rfl, rfl, zero_at⟩, OwnThreads.nil _ _, (Below.refl _ _).alloc (Nat.le_refl _) _, Nat.le_refl _, by simp⟩
  clear hU c6
  go_loopw [16] (fun i wr => ∃ k : Nat, k ≤ p.threads.length ∧ i = .int .i64 k ∧ ∃ tv vs, Hid (LaySt w1 wr w1.heap.size tv vs (p.threads.take k))) (fun i _ => p.threads.length - (intOf i).toNat)
  case atStart => exact ⟨0, Nat.zero_le _, rfl, _, _, HL0⟩
  case round =>
    obtain ⟨k, hk, rfl, tv, vs, HZ⟩ := hrel
    by_cases hlt : k < p.threads.length
    · obtain ⟨c, hc⟩ := at_lt hlt
      have hcl := HL.out c (List.mem_of_getElem? hc)
      obtain ⟨tb, off, rfl, htb, a', cap', hcell, hcode⟩ := HT.out k c hc
      have hBw : Below w.heap.size w wr := HB1.out.trans (HZ.out.bel.mono HB1.out.size)
      have hcell' := (hBw.cell (p := ⟨tb, off + k, none⟩) htb).trans hcell
      have HX : Hid (∀ u, Below wr.heap.size wr u → Calls Tryz.prog 43 #[.slice a' c.length cap'] u fun e w' => ∃ v, e = .returned v ∧ w'.ownsRow u.heap.size 67 4 v c.length (codeCells c) ∧ Below u.heap.size u w') := Lib.hid (fun u hu => cloneIns_any a' cap' c w.heap.size u (hcode.below (hBw.trans (hu.mono hBw.size))) (by omega))
      obtain ⟨r, r1, r2, r3, r4, r5⟩ := HZ.out.box
      have hc0 : wr.cell? ⟨w1.heap.size, 0, none⟩ = some tv := (cell_of_row _ _ _ _ _ _ r1).trans r3
      obtain ⟨tva, tvc, rfl⟩ := st_slice HZ.out.own.thr
      have hvl : vs.length = k := by rw [HZ.out.own.len, List.length_take]; omega
      have hZlt := HZ.out.lt
      have HVn := Lib.hid hvl
      clear hvl
      have HTl : Hid (∀ g, (Value.slice tva vs.length tvc).ownBlock = some g → g < wr.heap.size) := Lib.hid (fun g e => (own_lt HZ.out.own.thr g e).1)
      have HVl : Hid (∀ (j : Nat) (x : Value), vs[j]? = some x → ∀ g, x.ownBlock = some g → g < wr.heap.size) := Lib.hid (fun j x hx g e => by obtain ⟨d, _, hd⟩ := HZ.out.own.codeOf hx; exact (own_lt hd g e).1)
      have HCc := Lib.hid hc
      clear hcell hcode hc r1 r3 r5 r4
      go_wp2_with fail
      go_region_law (first
        | (go_simp; go_at_call 43; refine (HX.out _ (by first | exact (Below.refl _ _).drew)).mono ?_; rintro e w2 ⟨v, rfl, hown, hB2⟩; have hB3 : Below wr.heap.size wr w2 := (Below.refl _ wr).drew.trans hB2; have hZ2 := HZ.out.later hB3; have d0 : w2.cell? ⟨w1.heap.size, 0, none⟩ = some (.slice tva vs.length tvc) := (hB3.cell (p := ⟨w1.heap.size, 0, none⟩) hZlt).trans hc0; have d0' : ∀ o, (w2.alloc o).cell? ⟨w1.heap.size, 0, none⟩ = some (.slice tva vs.length tvc) := fun o => Lib.cell?_alloc_some _ d0; have HO := Lib.hid hown; have HZ2 := Lib.hid hZ2; have HB3 := Lib.hid hB3; obtain ⟨va, vc, rfl⟩ := st_slice hown; clear hown hB2 hZ2 hB3)
        | ((rw [if_pos (by rfl)]); refine wp_append_own_at _ (.tmp 24) (.tmp 27) 24 rfl (w1.heap.size + 1) 68 j0 (.slice none 0 0) 1 24 Tryz.underlying24 hj hy0 hy1 hy2 rfl (by decide) (.slice tva vs.length tvc) vs.length vs rfl (own_later HZ2.out.own.thr (by first | exact below_box w2 _ | exact (below_box w2 _).drew)) ⟨w2.heap.size, 0, none⟩ 1 1 [.slice va c.length vc] rfl rfl (by first | exact st_one_new0 _ _ _ | exact st_one_new _ _ _) (by simp [Value.oneCell']) (by have := HVn.out; unfold maxLen; omega) (by have := HVn.out; omega) (by have := HB3.out.size; simp; omega) ?_; intro tv' w4 hown4 hgrow4 _ hat4; obtain ⟨⟨hcb, hfb⟩, hst⟩ := LaySt.push (c := c) (HZ2.out.later (by first | exact below_box w2 _ | exact (below_box w2 _).drew)) (own_later (own_base HO.out (by show _ ≤ wr.heap.size; omega)) (by first | exact below_box w2 _ | exact (below_box w2 _).drew)) (apart_new HO.out HTl.out).symm (fun j x hx => apart_new HO.out (HVl.out j x hx)) hown4 hgrow4 hat4; have HSt := Lib.hid hst; obtain ⟨ta4, tc4, rfl⟩ := st_slice hown4; clear hst hown4 hgrow4 hat4))
      all_goals
        go_wp2
        go_roundw
        case rel => exact ⟨k + 1, by omega, by go_num, _, _, by rw [List.take_add_one, HCc.out]; exact HSt⟩
        case measure => simp [intOf]; omega
    · obtain rfl : k = p.threads.length := by omega
      have S0 := HZ.out.st p.chans (by rw [List.take_length]; exact htl) (by rw [List.take_length]; exact HL.out)
      rw [List.take_length] at S0
      have hwz : w.heap.size < w1.heap.size := (Array.getElem?_eq_some_iff.1 HN1.out).1
      have hN2 := (HZ.out.bel.block _ hwz).trans HN1.out
      have c3 : wr.cell? ⟨w.heap.size, 3, none⟩ = some (.slice ca p.chans.length ccap) := cell_of_row _ _ _ _ _ _ hN2
      have HS0 := Lib.hid S0
      clear S0 hN2
      go_wp2
      go_loopw [35] (fun i u => ∃ k : Nat, k ≤ p.chans.length ∧ i = .int .i64 k ∧ Below w1.heap.size w1 u ∧ Hid (StIn u w1.heap.size (w1.heap.size + 1) wr.heap.size (.slice none 0 0) (beginM p.chans k) p.threads [])) (fun i _ => p.chans.length - (intOf i).toNat)
      case atStart => exact ⟨0, Nat.zero_le _, rfl, HZ.out.bel, HS0⟩
      case round =>
        obtain ⟨k, hk, rfl, hBu, HZu⟩ := hrel
        by_cases hlk : k < p.chans.length
        · obtain ⟨x, hx⟩ := at_lt hlk
          obtain ⟨cb, off, rfl, hcb, hcell⟩ := HCh.out k x hx
          have hcell' := ((HB1.out.trans (hBu.mono HB1.out.size)).cell (p := ⟨cb, off + k, none⟩) hcb).trans hcell
          have hm := HZu.out.cellI (57 + k * 6 + 4) (by simp [isB]; omega) (by omega) (by omega) (by omega)
          have hf := HZu.out.frozen (57 + k * 6 + 4)
          have hk4 : (k : Int) < 4 := by omega
          have HX := Lib.hid hx
          clear hcell hx
          go_wp2
          go_roundw
          case rel => exact ⟨k + 1, by omega, by go_num, stBelow_set hBu (Nat.le_refl _), by rw [beginM_succ HX.out (by omega)]; exact HZu.out.set (57 + k * 6 + 4) x _ (valAt_i (by simp [isB]; omega) (by omega)).symm (by omega) (by omega)⟩
          case measure => simp [intOf]; omega
        · obtain rfl : k = p.chans.length := by omega
          have hm := HZu.out.on 0 (by omega)
          have hf := HZu.out.frozen 1
          go_wp2
          go_ret
          have hS := HZu.out.set 1 1 (.bool true) (by rw [valAt_b (by simp [isB])]; rfl) (by omega) (by omega)
          refine ⟨_, rfl, stBelow_set (HB1.out.trans (hBu.mono HB1.out.size)) HB1.out.size, HB1.out.size, ?_⟩
          obtain ⟨cs, a, cap, g1, g2, g3, g4, g5, g6⟩ := hS.box
          exact ⟨⟨cs, a, cap, g1, g2, g3, g4, g5, g6.mono hS.top⟩, World.ownsRow_nil _ _ _ _, .inl (by omega), hS.two, hS.len, hS.lens, Nat.le_refl _⟩
theorem firstE_zero {l : List Int} (h : firstE l = 0) : ∀ e ∈ l, e = 0 := by
  induction l with
  | nil => intro e he; simp at he
  | cons x r ih =>
    unfold firstE at h
    by_cases hx : x = 0
    · rw [if_pos hx] at h
      intro e he
      rcases List.mem_cons.1 he with rfl | he
      · exact hx
      · exact ih h e he
    · rw [if_neg hx] at h; exact absurd h hx
theorem sound_parts {p : ProgD} (h : soundE p = 0) : sizesB p = true ∧ capsB p.chans = true ∧ threadsE p = 0 := by
  have h1 := firstE_zero h
  refine ⟨?_, ?_, h1 _ (by simp)⟩
  · have := h1 (unE (sizesB p) 3) (by simp)
    rcases hq : sizesB p with _ | _
    · simp [hq, unE] at this
    · rfl
  · have := h1 (unE (capsB p.chans) 21) (by simp)
    rcases hq : capsB p.chans with _ | _
    · simp [hq, unE] at this
    · rfl
theorem newM_zero (chans : List Int) {i : Nat} (h1 : i ≠ 1) (h : i < 57 ∨ 80 < i ∨ (i - 57) % 6 ≠ 4) : newM chans i = 0 := by
  unfold newM
  rw [upd_ne _ _ h1]
  unfold beginM
  rw [if_neg (by omega)]
theorem newM_most (chans : List Int) {c : Nat} (hc : c < 4) : newM chans (57 + c * 6 + 4) = (chans[c]?).getD 0 := by
  unfold newM
  rw [upd_ne _ _ (by omega)]
  unfold beginM
  rw [show (57 + c * 6 + 4 - 57) / 6 = c by omega]
  by_cases h : c < chans.length
  · rw [if_pos (by omega)]
  · rw [if_neg (by omega), List.getElem?_eq_none (by omega)]; rfl
theorem inv_new {p : ProgD} (h : soundE p = 0) : Inv (newM p.chans) p.threads := by
  obtain ⟨h1, h2, h3⟩ := sound_parts h
  have htl : p.threads.length ≤ 6 := (sizes_parts h1).2.2.2.2.2.2.1.2
  refine ⟨fun k c hc => ⟨0, ?_, Nat.zero_le _⟩, fun k c hc x hx => ?_, fun c hc => ?_⟩
  · have := (List.getElem?_eq_some_iff.1 hc).1
    rw [newM_zero _ (by omega) (by omega)]; rfl
  · refine insFit_of h1 ?_
    have h4 := firstE_zero h3 (codeE p c) (List.mem_map.2 ⟨c, List.mem_of_getElem? hc, rfl⟩)
    exact firstE_zero h4 _ (List.mem_map.2 ⟨x, hx, rfl⟩)
  · rw [newM_zero _ (by omega) (by omega), newM_most _ hc]
    rcases hq : p.chans[c]? with _ | y
    · simp
    · have h5 : wiB y 1 3 = true := by
        simp only [capsB, List.all_eq_true] at h2
        exact h2 y (List.mem_of_getElem? hq)
      rw [wiB_true] at h5
      simp; omega
def goesM (code : List (List InsD)) (m : Nat → Int) (k : Nat) : Bool := m (1 + k * 6) == 1 && (insM code m k).isSome
/-- Whether a thread below n goes; whether one can go on. -/
def goesTo (code : List (List InsD)) (m : Nat → Int) (n : Nat) : Bool := (List.range n).any (goesM code m)
def canTo (code : List (List InsD)) (m : Nat → Int) (n : Nat) : Bool := (List.range n).any (fun k => canM code m k)
theorem goesTo_succ (code : List (List InsD)) (m : Nat → Int) (n : Nat) : goesTo code m (n + 1) = (goesTo code m n || goesM code m n) := by simp [goesTo, List.range_succ]
theorem canTo_succ (code : List (List InsD)) (m : Nat → Int) (n : Nat) : canTo code m (n + 1) = (canTo code m n || canM code m n) := by simp [canTo, List.range_succ]
theorem canTo_at {code : List (List InsD)} {m : Nat → Int} {n k : Nat} (hk : k < n) (h : canM code m k = true) : canTo code m n = true := by
  simp only [canTo, List.any_eq_true]; exact ⟨k, by simp [hk], h⟩
def goesN (t : Bool) : Int := if t then 2 else 1
/-- What a state has come to. -/
def statusM (code : List (List InsD)) (m : Nat → Int) : Int :=
  if m 90 == 1 then 3 else if canTo code m code.length then 0 else goesN (goesTo code m code.length)
theorem status_trap {b lo hi : Nat} {pv : Value} {m : Nat → Int} {code : List (List InsD)} {pr : List Int} (w : World) (S : StIn w b lo hi pv m code pr) (ht : (m 90 == 1) = true) :
    Calls Tryz.prog 49 #[.pointer (some ⟨b, 0, none⟩)] w fun e w' => e = .returned (.int .u8 3) ∧ Below w.heap.size w w' := by
  have t90 := S.trap
  rw [ht] at t90
  go_enter Tryz.func49, Tryz.ntmps49
  go_wp2_with fail
  go_ret
  exact ⟨rfl, Below.refl _ _⟩
theorem status_runs {b lo hi : Nat} {pv : Value} {m : Nat → Int} {code : List (List InsD)} {pr : List Int} (w : World) (S : StIn w b lo hi pv m code pr) (I : Inv m code) (ht : (m 90 == 1) = false) :
    Calls Tryz.prog 49 #[.pointer (some ⟨b, 0, none⟩)] w fun e w' => e = .returned (.int .u8 (statusM code m)) ∧ Below w.heap.size w w' := by
  have t90 := S.trap
  rw [ht] at t90
  have hl := S.len
  obtain ⟨a, cap, hc, hR⟩ := S.codeC
  have HS := Lib.hid S
  have HI := Lib.hid I
  have HT := Lib.hid ht
  clear S I ht hR
  go_enter Tryz.func49, Tryz.ntmps49
  go_wp2
  go_loopw [14, 3] (fun i st wr => ∃ k : Nat, k ≤ code.length ∧ i = .int .i64 k ∧ st = .int .u8 (goesN (goesTo code m k)) ∧ Below w.heap.size w wr ∧ Hid (canTo code m k = false)) (fun i _ _ => code.length - (intOf i).toNat)
  case atStart => exact ⟨0, Nat.zero_le _, rfl, rfl, Below.refl _ _, Lib.hid rfl⟩
  case round =>
    obtain ⟨k, hk, rfl, rfl, hB, HZ⟩ := hrel
    by_cases hlt : k < code.length
    · have HC := Lib.hid (can_any (k : Int) wr (HS.out.later hB) HI.out)
      rcases hcan : canM code m k with _ | _
      · rw [hcan] at HC
        have HCan := Lib.hid hcan
        clear hcan
        generalize hgo : goesTo code m k = gk
        have HGo := Lib.hid hgo
        clear hgo
        rcases hgm : goesM code m k with _ | _
        all_goals
          have HGm := Lib.hid hgm
          clear hgm
          go_wp2_with (first
            | (go_at_call 72; refine HC.out.mono ?_; rintro e w1 ⟨rfl, hB1⟩)
            | (go_at_call 78; refine ((HS.out.later (below_next hB hB1)).goes HI.out hlt).mono ?_; rintro e w2 ⟨rfl, q, rfl⟩; rw [show (m (1 + k * 6) == 1 && (insM code m k).isSome) = goesM code m k from rfl, HGm.out]))
          go_roundw
          case rel => exact ⟨k + 1, by omega, by go_num, by rw [goesTo_succ, HGo.out, HGm.out]; simp [goesN], below_drewN (below_next hB hB1) _, Lib.hid (by rw [canTo_succ, HZ.out, HCan.out]; rfl)⟩
          case measure => simp [intOf]; omega
      · rw [hcan] at HC
        have HCan := Lib.hid (canTo_at hlt hcan)
        clear hcan
        go_wp2_with (first
            | (go_at_call 72; refine HC.out.mono ?_; rintro e w1 ⟨rfl, hB1⟩))
        go_ret
        exact ⟨by simp [statusM, HT.out, HCan.out], below_next hB hB1⟩
    · obtain rfl : k = code.length := by omega
      generalize hgo : goesTo code m code.length = gk
      have HGo := Lib.hid hgo
      clear hgo
      go_wp2
      go_ret
      exact ⟨by simp [statusM, HT.out, HZ.out, HGo.out], hB⟩
theorem status_any {b lo hi : Nat} {pv : Value} {m : Nat → Int} {code : List (List InsD)} {pr : List Int} (w : World) (S : StIn w b lo hi pv m code pr) (I : Inv m code) :
    Calls Tryz.prog 49 #[.pointer (some ⟨b, 0, none⟩)] w fun e w' => e = .returned (.int .u8 (statusM code m)) ∧ Below w.heap.size w w' := by
  rcases ht : (m 90 == 1) with _ | _
  · exact status_runs w S I ht
  · simpa [statusM, ht] using status_trap w S ht
theorem prints_any {b lo hi : Nat} {pv : Value} {m : Nat → Int} {code : List (List InsD)} {pr : List Int} (w : World) (S : StIn w b lo hi pv m code pr) (hpl : pr.length ≤ 2000000) :
    Calls Tryz.prog 48 #[.pointer (some ⟨b, 0, none⟩)] w fun e w' => ∃ v, e = .returned v ∧ w'.ownsRow w.heap.size 3 1 v pr.length (pr.map (.int .i64 ·)) ∧ Below w.heap.size w w' := by
  have t89 := S.told89
  have HO := Lib.hid S.own
  go_enter Tryz.func48, Tryz.ntmps48
  go_wp2_with (first
    | (go_at_call 77; refine (cloneInt_any pv pr w HO.out hpl).mono ?_; rintro e w1 ⟨v, rfl, hown, hB⟩))
  go_ret
  exact ⟨_, rfl, hown, hB⟩
theorem st_step {w : World} {b lo hi : Nat} {pv : Value} {m : Nat → Int} {code : List (List InsD)} {pr : List Int} (S : StIn w b lo hi pv m code pr) (I : Inv m code) (hpl : pr.length ≤ 1000000) (k : Int) :
    Calls Tryz.prog 44 #[.pointer (some ⟨b, 0, none⟩), .int .i64 k] w fun e w' => e = .returned (.tuple #[stepV code m k, .bool (canM code m k)]) ∧ Inv (stepM code m k) code ∧ (canM code m k = false → Below w.heap.size w w') ∧ ∃ pv', StIn w' b lo hi pv' (stepM code m k) code (pr ++ stepT code m k) ∧ Touch (fun j => j = b ∨ pv.ownBlock = some j) w w' ∧ (pv'.ownBlock = pv.ownBlock ∨ ∃ g, pv'.ownBlock = some g ∧ w.heap.size ≤ g) := by
  have I' := inv_stepM I S.len k
  rcases hc : canM code m k with _ | _
  · refine (step_no k w S I hc).mono ?_
    rintro e w' ⟨rfl, hB⟩
    simp only [stepM, stepT, stepV, hc, Bool.false_eq_true, if_false, List.append_nil] at I' ⊢
    exact ⟨trivial, I', fun _ => hB, pv, S.later hB, Touch.of_below hB, .inl rfl⟩
  · obtain ⟨j, x, rfl, hj, hx, hbl, _⟩ := canM_parts hc
    rcases hq : code[j]? with _ | ck
    · simp [insM, hq] at hx
    obtain ⟨p, hp, hpl2⟩ := I.pc j ck hq
    have hx2 := hx
    simp only [insM, hq, Option.bind_some] at hx2
    have h60 := S.lens ck (List.mem_of_getElem? hq)
    refine (step_yes j p x w S I hpl hj hc hx hp (by omega) ⟨_, I.fit j ck hq x (List.mem_of_getElem? hx2)⟩ hbl).mono ?_
    rintro e w' ⟨rfl, pv', S', T', ho⟩
    simp only [stepM, stepT, stepV, hc, if_true, Int.toNat_natCast, hx] at I' ⊢
    exact ⟨trivial, I', by simp, pv', S', T', ho⟩
theorem Rn.len {u0 u : World} {b lo : Nat} {m : Nat → Int} {code : List (List InsD)} {pr : List Int} (h : Rn u0 u b lo m code pr) : code.length ≤ 6 := by
  obtain ⟨pv, S, _⟩ := h; exact S.len
theorem Rn.inv {u0 u : World} {b lo : Nat} {m : Nat → Int} {code : List (List InsD)} {pr : List Int} (h : Rn u0 u b lo m code pr) : Inv m code := by
  obtain ⟨pv, S, I, _⟩ := h; exact I
theorem Rn.size {u0 u : World} {b lo : Nat} {m : Nat → Int} {code : List (List InsD)} {pr : List Int} (h : Rn u0 u b lo m code pr) : u0.heap.size ≤ u.heap.size := by
  obtain ⟨pv, S, I, _, T⟩ := h; exact T.size
theorem Rn.kept {u0 u : World} {b lo : Nat} {m : Nat → Int} {code : List (List InsD)} {pr : List Int} (h : Rn u0 u b lo m code pr) {j : Nat} (hj : j < u0.heap.size) (hb : j ≠ b) : u.heap[j]? = u0.heap[j]? := by
  obtain ⟨pv, S, I, _, T⟩ := h; exact T.block j hj hb
/-- Code that was laid as a literal. -/
theorem code_lit {u : World} {h : Nat} {c : List InsD} {t : TypeId} {fr : Nat × Nat} (hh : u.heap[h]? = some (.cells (codeCells c).toArray t fr)) : CodeIn u u.heap.size (some ⟨h, 0, none⟩) c := by
  intro j x hx
  refine ⟨h, 0, rfl, (Array.getElem?_eq_some_iff.1 hh).1, ?_⟩
  have key : ∀ i, i < 4 → u.cell? ⟨h, 0 + j * 4 + i, none⟩ = (insCells x)[i]? := fun i hi => by
    rw [cell_of_row _ _ _ _ _ _ hh, ← codeCells_at c j x hx i hi, Nat.zero_add]; simp
  refine ⟨?_, ?_, ?_, ?_⟩
  · have := key 0 (by omega); simpa [insCells] using this
  · have := key 1 (by omega); simpa [insCells] using this
  · have := key 2 (by omega); simpa [insCells] using this
  · have := key 3 (by omega); simpa [insCells] using this
theorem threads_lit {u : World} {g : Nat} {cs : List (List InsD)} {vs : List Value} {t : TypeId} {fr : Nat × Nat} (hg : u.heap[g]? = some (.cells vs.toArray t fr))
    (h : ∀ (k : Nat) (c : List InsD), cs[k]? = some c → ∃ a' cap', vs[k]? = some (.slice a' c.length cap') ∧ CodeIn u u.heap.size a' c) : ThreadsIn u u.heap.size (some ⟨g, 0, none⟩) cs := by
  intro k c hc
  obtain ⟨a', cap', h1, h2⟩ := h k c hc
  refine ⟨g, 0, rfl, (Array.getElem?_eq_some_iff.1 hg).1, a', cap', ?_, h2⟩
  rw [cell_of_row _ _ _ _ _ _ hg, Nat.zero_add]; simpa using h1
/-- The event of a step. -/
def evD (m : Nat → Int) (k : Nat) (x : InsD) : EvD := ⟨k, m (1 + k * 6 + 1), x.op, edE (doE (pcUp m k) k x).1 (fun _ => 0) 3, edE (doE (pcUp m k) k x).1 (fun _ => 0) 4, edE (doE (pcUp m k) k x).1 (fun _ => 0) 5⟩
def stepE (code : List (List InsD)) (m : Nat → Int) (k : Int) : EvD := if canM code m k then match insM code m k.toNat with | some x => evD m k.toNat x | none => ⟨0, 0, 0, 0, 0, 0⟩ else ⟨0, 0, 0, 0, 0, 0⟩
theorem stepV_E (code : List (List InsD)) (m : Nat → Int) (k : Int) : stepV code m k = (stepE code m k).v := by
  unfold stepV stepE
  split
  · rcases insM code m k.toNat with _ | x <;> rfl
  · rfl
theorem StIn.touch {X : Nat → Prop} {u u' : World} {b lo hi : Nat} {pv : Value} {m : Nat → Int} {code : List (List InsD)} {pr : List Int} (h : StIn u b lo hi pv m code pr) (T : Touch X u u') (h1 : ¬ X b) (h2 : ∀ g, pv.ownBlock = some g → ¬ X g) (h3 : ∀ g, lo ≤ g → g < hi → ¬ X g) : StIn u' b lo hi pv m code pr := by
  have hl := h.lt
  obtain ⟨cs, a, cap, g1, g2, g3, g4, g5, g6⟩ := h.box
  exact ⟨⟨cs, a, cap, (T.block _ hl h1).trans g1, g2, g3, g4, g5, g6.keep2 fun k k1 k2 hk => T.block _ hk (h3 k k1 k2)⟩, own_touch h.own T h2, h.off, h.two, h.len, h.lens, Nat.le_trans h.top T.size⟩
end Go.Proofs.YtglafbajbiengaaGreat
namespace Go.Proofs.YtglafbajbiengaaGreat
open Go.ChangeShapes Go.WideShapes Go.ChangeAt Go.RowKit Go.Maps
theorem set_yes {w : World} {b lo hi : Nat} {pv : Value} {m : Nat → Int} {code : List (List InsD)} {pr : List Int} (S : StIn w b lo hi pv m code pr) (k r : Nat) (v : Int) (hk : k < code.length) (hr : r < 4) :
    Calls Tryz.prog 46 #[.pointer (some ⟨b, 0, none⟩), .int .i64 k, .int .i64 r, .int .i64 v] w fun e w' => e = .returned (.tuple #[]) ∧ w' = w.setCell ⟨b, 1 + k * 6 + 2 + r, none⟩ (.int .i64 v) := by
  obtain ⟨a, cap, hc, _⟩ := S.codeC
  have hl := S.len
  have hk6 : (k : Int) < 6 := by omega
  have hr4 : (r : Int) < 4 := by omega
  have hcell := S.reg k r (by omega) hr
  have hfr := S.frozen (1 + k * 6 + 2 + r)
  have HC := Lib.hid hc
  have HR := Lib.hid (register_yes r hr w)
  have HH := Lib.hid (has_yes b code.length a cap k w hc hk)
  clear S hc
  go_enter Tryz.func46, Tryz.ntmps46
  go_wp2_with (first
    | (go_at_call 75; refine HH.out.mono ?_; rintro e w1 ⟨rfl, rfl⟩)
    | (go_at_call 76; refine HR.out.mono ?_; rintro e w1 ⟨rfl, rfl⟩))
  go_end0
  exact ⟨rfl, rfl⟩
/-- Which of what may be read. -/
def bkI (L : List Int) (n : Int) : Nat := ((max n 0) % (L.length : Int)).toNat
theorem back1_any (bx : Nat) (n : Int) (a : Option Addr) (cap : Nat) (L : List Int) (w : World) (hn : Boxed w bx 3 (.int .i64 n)) (hL : RowOf .i64 w w.heap.size a L) (h0 : 0 < L.length) (hl : L.length ≤ 1000000) (hw : -9223372036854775808 ≤ n ∧ n ≤ 9223372036854775807) :
    Calls Tryz.prog 47 #[.slice a L.length cap, .pointer (some ⟨bx, 0, none⟩)] w fun e w' => (∃ x, L[bkI L n]? = some x ∧ e = .returned (.int .i64 x)) ∧ w = w' := by
  have hc := hn.cell
  have hne : ((L.length : Int) == 0) = false := by rw [beq_eq_false_iff_ne]; omega
  have hl0 : (0 : Int) < (L.length : Int) := by omega
  by_cases hneg : n < 0
  · have hb : bkI L n = 0 := by unfold bkI; rw [show max n 0 = 0 by omega]; simp
    obtain ⟨x, hx⟩ := at_lt h0
    obtain ⟨g, o, rfl, hg, c0⟩ := hL _ x hx
    rw [Nat.add_zero] at c0
    have HX := Lib.hid hx
    have HBk := Lib.hid hb
    have hmx : max n 0 = 0 := by omega
    have hng : decide (n < 0) = true := decide_eq_true hneg
    have hng2 : ¬ 0 ≤ n := by omega
    have hng3 : ¬ 0 < n := by omega
    have hng4 : n ≤ 0 := by omega
    clear hx hb hn hL
    go_enter Tryz.func47, Tryz.ntmps47
    go_wp2
    go_ret
    exact ⟨⟨x, by rw [HBk.out]; exact HX.out, rfl⟩, rfl⟩
  · obtain ⟨q, rfl⟩ : ∃ q : Nat, n = (q : Int) := ⟨n.toNat, by omega⟩
    have hb : bkI L q = q % L.length := by unfold bkI; rw [show max (q : Int) 0 = q by omega]; omega
    have hlt : q % L.length < L.length := Nat.mod_lt _ h0
    obtain ⟨x, hx⟩ := at_lt hlt
    obtain ⟨g, o, rfl, hg, c0⟩ := hL _ x hx
    have hm : (q : Int) % (L.length : Int) = ((q % L.length : Nat) : Int) := by simp
    have hm2 : (q : Int).tmod (L.length : Int) = ((q % L.length : Nat) : Int) := by rw [Int.tmod_eq_emod_of_nonneg (by omega)]; simp
    have hlt' : ((q % L.length : Nat) : Int) < (L.length : Int) := by omega
    have HX := Lib.hid hx
    have HBk := Lib.hid hb
    have hmx : max (q : Int) 0 = q := by omega
    generalize q % L.length = z at *
    clear hx hb hn hL
    go_enter Tryz.func47, Tryz.ntmps47
    go_wp2
    all_goals first
      | (go_ret; exact ⟨⟨x, by rw [HBk.out]; exact HX.out, rfl⟩, rfl⟩)
      | (exfalso; omega)
end Go.Proofs.YtglafbajbiengaaGreat
