/- A run: steps, one behind another. -/
import Derived.Test.YtjlbbfkllckkgaaStateStep
import Derived.Test.YtjlbbfkllckkgaaStateClone
namespace Go.Proofs.Ytjlbbfkllckkgaa
set_option linter.unusedVariables false
set_option linter.unusedSimpArgs false
set_option maxRecDepth 100000
open Go.ChangeShapes Go.WideShapes Go.ChangeAt Go.RowKit

/-- The numbers behind a pick, what is told then, the event. -/
def stepM (code : List (List InsD)) (m : Nat → Int) (k : Int) : Nat → Int := if canM code m k then match insM code m k.toNat with | some x => stepK m k.toNat x | none => m else m
def stepT (code : List (List InsD)) (m : Nat → Int) (k : Int) : List Int := if canM code m k then match insM code m k.toNat with | some x => doT (pcUp m k.toNat) k.toNat x | none => [] else []
def stepV (code : List (List InsD)) (m : Nat → Int) (k : Int) : Value := if canM code m k then match insM code m k.toNat with | some x => evK m k.toNat x | none => evV 0 0 0 0 0 0 else evV 0 0 0 0 0 0
theorem stepT_len (code : List (List InsD)) (m : Nat → Int) (k : Int) : (stepT code m k).length ≤ 1 := by
  unfold stepT
  split
  · split
    · unfold doT; split <;> simp
    · simp
  · simp
theorem canM_parts {code : List (List InsD)} {m : Nat → Int} {k : Int} (h : canM code m k = true) : ∃ (j : Nat) (x : InsD), k = j ∧ j < code.length ∧ insM code m j = some x ∧ blockedM m x = false ∧ m (1 + j * 6) = 1 ∧ m 90 ≠ 1 := by
  simp only [canM, Bool.and_eq_true] at h
  obtain ⟨h1, h2⟩ := h
  obtain ⟨j, rfl, hj⟩ := hasT_yes h1
  rw [Int.toNat_natCast] at h2
  simp only [canK, Bool.and_eq_true] at h2
  obtain ⟨h3, h4⟩ := h2
  rcases hx : insM code m j with _ | x
  · rw [hx] at h4; simp at h4
  · rw [hx] at h4
    simp at h4
    exact ⟨j, x, rfl, hj, hx, h4.2, by simpa using h3, h4.1⟩
theorem inv_stepM {code : List (List InsD)} {m : Nat → Int} (I : Inv m code) (hl : code.length ≤ 6) (k : Int) : Inv (stepM code m k) code := by
  unfold stepM
  split
  · rename_i h
    obtain ⟨j, x, rfl, hj, hx, hb, _⟩ := canM_parts h
    rw [Int.toNat_natCast, hx]
    exact inv_step I hl hx hb
  · exact I

/-- A state behind some steps from u0 on. -/
def Rn (u0 u : World) (b lo : Nat) (m : Nat → Int) (code : List (List InsD)) (pr : List Int) : Prop :=
  ∃ pv, StIn u b lo u0.heap.size pv m code pr ∧ Inv m code ∧ b < lo ∧ Touch (fun j => j = b) u0 u
theorem Rn.later {u0 u u' : World} {b lo : Nat} {m : Nat → Int} {code : List (List InsD)} {pr : List Int} (h : Rn u0 u b lo m code pr) (hB : Below u.heap.size u u') : Rn u0 u' b lo m code pr := by
  obtain ⟨pv, S, I, hb, T⟩ := h
  exact ⟨pv, S.later hB, I, hb, T.trans (Touch.of_below hB) (fun _ _ h => h)⟩
theorem Rn.below {u0 u : World} {b lo : Nat} {m : Nat → Int} {code : List (List InsD)} {pr : List Int} (h : Rn u0 u b lo m code pr) {w : World} (hB : Below w.heap.size w u0) (hb : w.heap.size ≤ b) : Below w.heap.size w u := by
  obtain ⟨pv, S, I, _, T⟩ := h
  exact hB.trans (T.below (fun k hk => by omega) hB.size)
theorem InsIn.mono {w : World} {lo hi hi' : Nat} {a : Option Addr} {c : List InsD} (h : InsIn w lo hi a c) (hh : hi ≤ hi') : InsIn w lo hi' a c := fun j x hx => by
  obtain ⟨g, off, h1, h2, h3, h4⟩ := h j x hx
  exact ⟨g, off, h1, h2, by omega, h4⟩
theorem RowsIn.mono {w : World} {lo hi hi' : Nat} {a : Option Addr} {cs : List (List InsD)} (h : RowsIn w lo hi a cs) (hh : hi ≤ hi') : RowsIn w lo hi' a cs := fun k c hc => by
  obtain ⟨g, off, h1, h2, h3, a', cap, h4, h5⟩ := h k c hc
  exact ⟨g, off, h1, h2, by omega, a', cap, h4, h5.mono hh⟩
theorem Rn.start {u0 : World} {b lo hi : Nat} {m : Nat → Int} {code : List (List InsD)} (S : StIn u0 b lo hi (.slice none 0 0) m code []) (I : Inv m code) (hb : b < lo) : Rn u0 u0 b lo m code [] := by
  obtain ⟨cs, a, cap, h1, h2, h3, h4, h5, h6⟩ := S.box
  refine ⟨.slice none 0 0, ⟨⟨cs, a, cap, h1, h2, h3, h4, h5, h6.mono S.top⟩, World.ownsRow_nil _ _ _ _, .inl hb, S.two, S.len, S.lens, Nat.le_refl _⟩, I, hb, Touch.of_below (Below.refl _ _)⟩
/-- While nothing is told, what lies now may lie. -/
theorem Rn.again {u0 u : World} {b lo : Nat} {m : Nat → Int} {code : List (List InsD)} {pr : List Int} (h : Rn u0 u b lo m code pr) : ∃ pv, StIn u b lo u0.heap.size pv m code pr ∧ Inv m code := by
  obtain ⟨pv, S, I, _⟩ := h
  exact ⟨pv, S, I⟩

theorem Rn.step {u0 u : World} {b lo : Nat} {m : Nat → Int} {code : List (List InsD)} {pr : List Int} (h : Rn u0 u b lo m code pr) (hpl : pr.length ≤ 1000000) (k : Int) :
    Calls Try.prog 12 #[.pointer (some ⟨b, 0, none⟩), .int .i64 k] u fun e w' => e = .returned (.tuple #[stepV code m k, .bool (canM code m k)]) ∧ Rn u0 w' b lo (stepM code m k) code (pr ++ stepT code m k) ∧ (canM code m k = false → Below u.heap.size u w') := by
  obtain ⟨pv, S, I, hb, T⟩ := h
  have hl := S.len
  have I' := inv_stepM I hl k
  rcases hc : canM code m k with _ | _
  · refine (step_no k u S I hc).mono ?_
    rintro e w' ⟨rfl, hB⟩
    simp only [stepM, stepT, stepV, hc, Bool.false_eq_true, if_false, List.append_nil] at I' ⊢
    exact ⟨trivial, ⟨pv, S.later hB, I', hb, T.trans (Touch.of_below hB) (fun _ _ h => h)⟩, fun _ => hB⟩
  · obtain ⟨j, x, rfl, hj, hx, hbl, _⟩ := canM_parts hc
    rcases hq : code[j]? with _ | ck
    · simp [insM, hq] at hx
    obtain ⟨p, hp, hpl2⟩ := I.pc j ck hq
    have hx2 := hx
    simp only [insM, hq, Option.bind_some] at hx2
    have h60 := S.lens ck (List.mem_of_getElem? hq)
    refine (step_yes j p x u S I hpl hj hc hx hp (by omega) ⟨_, I.fit j ck hq x (List.mem_of_getElem? hx2)⟩ hbl).mono ?_
    rintro e w' ⟨rfl, pv', S', T', ho⟩
    simp only [stepM, stepT, stepV, hc, if_true, Int.toNat_natCast, hx] at I' ⊢
    refine ⟨trivial, ⟨pv', S', I', hb, T.trans T' fun i hi => ?_⟩, by simp⟩
    rintro (e | e)
    · exact e
    · have := (own_lt S.own _ e).2; omega
theorem Rn.can {u0 u : World} {b lo : Nat} {m : Nat → Int} {code : List (List InsD)} {pr : List Int} (h : Rn u0 u b lo m code pr) (k : Int) :
    Calls Try.prog 18 #[.pointer (some ⟨b, 0, none⟩), .int .i64 k] u fun e w' => e = .returned (.bool (canM code m k)) ∧ Below u.heap.size u w' := by
  obtain ⟨pv, S, I, hb, T⟩ := h
  exact can_any k u S I
end Go.Proofs.Ytjlbbfkllckkgaa
