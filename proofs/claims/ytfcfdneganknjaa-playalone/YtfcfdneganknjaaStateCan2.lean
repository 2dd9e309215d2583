/- Can, of any state. -/
import Derived.Test.YtfcfdneganknjaaStateCan
namespace Go.Proofs.Ytfcfdneganknjaa
set_option linter.unusedVariables false
set_option linter.unusedSimpArgs false
open Go.ChangeShapes Go.WideShapes Go.ChangeAt Go.RowKit

theorem InsIn.keep {w w' : World} {lo hi : Nat} {a : Option Addr} {c : List InsD} (h : InsIn w lo hi a c) (hk : ∀ k, lo ≤ k → k < hi → w'.heap[k]? = w.heap[k]?) : InsIn w' lo hi a c := fun j x hx => by
  obtain ⟨g, off, h1, h2, h3, i0, i1, i2, i3⟩ := h j x hx
  have e : ∀ o, w'.cell? ⟨g, o, none⟩ = w.cell? ⟨g, o, none⟩ := fun o => World.cell?_of_block (hk g h2 h3)
  exact ⟨g, off, h1, h2, h3, (e _).trans i0, (e _).trans i1, (e _).trans i2, (e _).trans i3⟩
theorem RowsIn.keep {w w' : World} {lo hi : Nat} {a : Option Addr} {cs : List (List InsD)} (h : RowsIn w lo hi a cs) (hk : ∀ k, lo ≤ k → k < hi → w'.heap[k]? = w.heap[k]?) : RowsIn w' lo hi a cs := fun j c hc => by
  obtain ⟨g, off, h1, h2, h3, a', cap, h4, h5⟩ := h j c hc
  exact ⟨g, off, h1, h2, h3, a', cap, (World.cell?_of_block (hk g h2 h3)).trans h4, h5.keep hk⟩
theorem InsIn.keep2 {w w' : World} {lo hi : Nat} {a : Option Addr} {c : List InsD} (h : InsIn w lo hi a c) (hk : ∀ k, lo ≤ k → k < hi → k < w.heap.size → w'.heap[k]? = w.heap[k]?) : InsIn w' lo hi a c := fun j x hx => by
  obtain ⟨g, off, h1, h2, h3, i0, i1, i2, i3⟩ := h j x hx
  have e : ∀ o, w'.cell? ⟨g, o, none⟩ = w.cell? ⟨g, o, none⟩ := fun o => World.cell?_of_block (hk g h2 h3 (cell_lt i0))
  exact ⟨g, off, h1, h2, h3, (e _).trans i0, (e _).trans i1, (e _).trans i2, (e _).trans i3⟩
theorem RowsIn.keep2 {w w' : World} {lo hi : Nat} {a : Option Addr} {cs : List (List InsD)} (h : RowsIn w lo hi a cs) (hk : ∀ k, lo ≤ k → k < hi → k < w.heap.size → w'.heap[k]? = w.heap[k]?) : RowsIn w' lo hi a cs := fun j c hc => by
  obtain ⟨g, off, h1, h2, h3, a', cap, h4, h5⟩ := h j c hc
  exact ⟨g, off, h1, h2, h3, a', cap, (World.cell?_of_block (hk g h2 h3 (cell_lt h4))).trans h4, h5.keep2 hk⟩
theorem StIn.later {u u' : World} {b lo hi : Nat} {pv : Value} {m : Nat → Int} {code : List (List InsD)} {pr : List Int} (h : StIn u b lo hi pv m code pr) (hB : Below u.heap.size u u') : StIn u' b lo hi pv m code pr := by
  have hl := h.lt
  obtain ⟨cs, a, cap, h1, h2, h3, h4, h5, h6⟩ := h.box
  exact ⟨⟨cs, a, cap, (hB.block _ hl).trans h1, h2, h3, h4, h5, h6.keep2 fun k _ _ hk => hB.block _ hk⟩, own_later h.own hB, h.off, h.two, h.len, h.lens, Nat.le_trans h.top hB.size⟩

/-- What holds of a state's numbers in whatever run. -/
structure Inv (m : Nat → Int) (code : List (List InsD)) : Prop where
  pc : ∀ (k : Nat) (c : List InsD), code[k]? = some c → ∃ p : Nat, m (1 + k * 6 + 1) = p ∧ p ≤ c.length
  fit : ∀ (k : Nat) (c : List InsD), code[k]? = some c → ∀ x ∈ c, InsFit code.length c.length x
  chan : ∀ c, c < 4 → 0 ≤ m (57 + c * 6 + 3) ∧ m (57 + c * 6 + 3) ≤ m (57 + c * 6 + 4) ∧ m (57 + c * 6 + 4) ≤ 3

/-- The instruction that a thread is at. -/
def insM (code : List (List InsD)) (m : Nat → Int) (k : Nat) : Option InsD := (code[k]?).bind fun c => c[(m (1 + k * 6 + 1)).toNat]?
/-- Whether a thread that there is can go on. -/
def canK (code : List (List InsD)) (m : Nat → Int) (k : Nat) : Bool :=
  m (1 + k * 6) == 1 && match insM code m k with
    | none => false
    | some x => !(m 90 == 1) && !blockedM m x
def canM (code : List (List InsD)) (m : Nat → Int) (k : Int) : Bool := hasT code.length k && canK code m k.toNat

set_option maxHeartbeats 400000 in
theorem can_no {b lo hi : Nat} {pv : Value} {m : Nat → Int} {code : List (List InsD)} {pr : List Int} (k : Int) (w : World) (S : StIn w b lo hi pv m code pr) (hk : hasT code.length k = false) :
    Calls Try.prog 42 #[.pointer (some ⟨b, 0, none⟩), .int .i64 k] w fun e w' => e = .returned (.bool false) ∧ Below w.heap.size w w' := by
  obtain ⟨a, cap, hc, hR⟩ := S.codeC
  have HK := Lib.hid hk
  clear hk
  go_enter Try.func42, Try.ntmps42
  go_wp2_with (first
    | (go_at_call 43; refine (goes_no b _ a cap k _ hc HK.out).mono ?_; rintro e w1 ⟨rfl, q, rfl⟩))
  go_ret
  exact ⟨rfl, below_drewN (Below.refl _ _) _⟩
set_option maxHeartbeats 400000 in
theorem can_stops {b n : Nat} (k : Nat) (w : World) (hg : Calls Try.prog 43 #[.pointer (some ⟨b, 0, none⟩), .int .i64 k] w fun e w' => e = .returned (.bool false) ∧ ∃ q, w' = w.drewN q) :
    Calls Try.prog 42 #[.pointer (some ⟨b, 0, none⟩), .int .i64 k] w fun e w' => e = .returned (.bool false) ∧ Below w.heap.size w w' := by
  have HG := Lib.hid hg
  clear hg
  go_enter Try.func42, Try.ntmps42
  go_wp2_with (first
    | (go_at_call 43; refine HG.out.mono ?_; rintro e w1 ⟨rfl, q, rfl⟩))
  go_ret
  exact ⟨rfl, below_drewN (Below.refl _ _) _⟩
set_option maxHeartbeats 400000 in
theorem can_trap {b : Nat} (k : Nat) (w : World) (hg : Calls Try.prog 43 #[.pointer (some ⟨b, 0, none⟩), .int .i64 k] w fun e w' => e = .returned (.bool true) ∧ ∃ q, w' = w.drewN q) (ht : w.cell? ⟨b, 90, none⟩ = some (.bool true)) :
    Calls Try.prog 42 #[.pointer (some ⟨b, 0, none⟩), .int .i64 k] w fun e w' => e = .returned (.bool false) ∧ Below w.heap.size w w' := by
  have HG := Lib.hid hg
  clear hg
  go_enter Try.func42, Try.ntmps42
  go_wp2_with (first
    | (go_at_call 43; refine HG.out.mono ?_; rintro e w1 ⟨rfl, q, rfl⟩))
  go_ret
  exact ⟨rfl, below_drewN (Below.refl _ _) _⟩
set_option maxHeartbeats 400000 in
theorem can_at {b : Nat} (k : Nat) (x : InsD) (t : Bool) (w : World) (hg : Calls Try.prog 43 #[.pointer (some ⟨b, 0, none⟩), .int .i64 k] w fun e w' => e = .returned (.bool true) ∧ ∃ q, w' = w.drewN q) (ht : w.cell? ⟨b, 90, none⟩ = some (.bool false))
    (hn : ∀ u, Below w.heap.size w u → Calls Try.prog 57 #[.pointer (some ⟨b, 0, none⟩), .int .i64 k] u fun e w' => e = .returned (insV x.op x.a x.b x.c) ∧ Below u.heap.size u w')
    (hb : ∀ u, Below w.heap.size w u → Calls Try.prog 59 #[.pointer (some ⟨b, 0, none⟩), insV x.op x.a x.b x.c] u fun e w' => e = .returned (.bool t) ∧ Below u.heap.size u w') :
    Calls Try.prog 42 #[.pointer (some ⟨b, 0, none⟩), .int .i64 k] w fun e w' => e = .returned (.bool (!t)) ∧ Below w.heap.size w w' := by
  have HG := Lib.hid hg
  have HN := Lib.hid hn
  have HB := Lib.hid hb
  clear hg hn hb
  go_enter Try.func42, Try.ntmps42
  go_wp2_with (first
    | (go_at_call 43; refine HG.out.mono ?_; rintro e w1 ⟨rfl, q, rfl⟩)
    | (go_at_call 57; refine (HN.out _ (below_drewN (Below.refl _ _) q)).mono ?_; rintro e w2 ⟨rfl, hB2⟩)
    | (go_at_call 59; refine (HB.out _ (below_next (below_drewN (Below.refl _ _) q) hB2)).mono ?_; rintro e w3 ⟨rfl, hB3⟩))
  go_ret
  exact ⟨rfl, below_next (below_next (below_drewN (Below.refl _ _) q) hB2) hB3⟩

theorem StIn.next {b lo hi : Nat} {pv : Value} {m : Nat → Int} {code : List (List InsD)} {pr : List Int} {w : World} (S : StIn w b lo hi pv m code pr) (I : Inv m code) {k : Nat} {x : InsD} (hx : insM code m k = some x) :
    Calls Try.prog 57 #[.pointer (some ⟨b, 0, none⟩), .int .i64 k] w fun e w' => e = .returned (insV x.op x.a x.b x.c) ∧ Below w.heap.size w w' := by
  obtain ⟨a, cap, hc, hR⟩ := S.codeC
  rcases hq : code[k]? with _ | c
  · simp [insM, hq] at hx
  simp only [insM, hq, Option.bind_some] at hx
  have hk := (List.getElem?_eq_some_iff.1 hq).1
  obtain ⟨p, hp, hpl⟩ := I.pc k c hq
  rw [hp, Int.toNat_natCast] at hx
  have hl := (List.getElem?_eq_some_iff.1 hx).1
  obtain ⟨g, off, rfl, h2, h3, a', cp, h4, h5⟩ := hR k c hq
  obtain ⟨g', off', rfl, h6, h7, h8⟩ := h5 p x hx
  have h9 := S.pc k (by have := S.len; omega)
  rw [hp] at h9
  exact next_any b _ cap k p g off c.length cp g' off' x w hc hk S.len h9 h4 hl h8
theorem StIn.goes {b lo hi : Nat} {pv : Value} {m : Nat → Int} {code : List (List InsD)} {pr : List Int} {w : World} (S : StIn w b lo hi pv m code pr) (I : Inv m code) {k : Nat} (hk : k < code.length) :
    Calls Try.prog 43 #[.pointer (some ⟨b, 0, none⟩), .int .i64 k] w fun e w' => e = .returned (.bool (m (1 + k * 6) == 1 && (insM code m k).isSome)) ∧ ∃ q, w' = w.drewN q := by
  obtain ⟨a, cap, hc, hR⟩ := S.codeC
  have hl := S.len
  have ho := S.on k (by omega)
  rcases hb : (m (1 + k * 6) == 1) with _ | _
  · rw [hb] at ho
    simpa using goes_off b _ a cap k w hc hk hl ho
  · rw [hb] at ho
    have hq : code[k]? = some code[k] := List.getElem?_eq_getElem hk
    obtain ⟨p, hp, hpl⟩ := I.pc k _ hq
    obtain ⟨g, off, rfl, h2, h3, a', cp, h4, h5⟩ := hR k _ hq
    have h9 := S.pc k (by omega)
    rw [hp] at h9
    have e : (insM code m k).isSome = decide (p < (code[k]).length) := by
      simp only [insM, hq, Option.bind_some, hp, Int.toNat_natCast]
      rw [Bool.eq_iff_iff]; simp
    rw [Bool.true_and, e]
    exact goes_on b _ none cap k p g off _ cp a' w hc hk hl ho h9 h4 _ rfl
theorem can_any {b lo hi : Nat} {pv : Value} {m : Nat → Int} {code : List (List InsD)} {pr : List Int} (k : Int) (w : World) (S : StIn w b lo hi pv m code pr) (I : Inv m code) :
    Calls Try.prog 42 #[.pointer (some ⟨b, 0, none⟩), .int .i64 k] w fun e w' => e = .returned (.bool (canM code m k)) ∧ Below w.heap.size w w' := by
  rcases hh : hasT code.length k with _ | _
  · simpa [canM, hh] using can_no k w S hh
  obtain ⟨j, rfl, hj⟩ := hasT_yes hh
  have hG := S.goes I hj
  simp only [canM, hh, Bool.true_and, Int.toNat_natCast, canK]
  rcases hb : (m (1 + j * 6) == 1) with _ | _
  · rw [hb] at hG
    simpa using can_stops (n := 0) j w hG
  rcases hx : insM code m j with _ | x
  · rw [hb, hx] at hG
    simpa using can_stops (n := 0) j w hG
  rw [hb, hx] at hG
  have hT := S.trap
  rcases ht : (m 90 == 1) with _ | _
  · rw [ht] at hT
    have hfit : ∃ n, InsFit code.length n x := by
      rcases hq : code[j]? with _ | c
      · simp [insM, hq] at hx
      simp only [insM, hq, Option.bind_some] at hx
      exact ⟨_, I.fit j c hq x (List.mem_of_getElem? hx)⟩
    obtain ⟨n, hf⟩ := hfit
    simpa using can_at j x (blockedM m x) w hG hT (fun u hB => (S.later hB).next I hx) (fun u hB => blocked_any x hf u (S.later hB))
  · rw [ht] at hT
    simpa using can_trap j w hG hT
end Go.Proofs.Ytfcfdneganknjaa
