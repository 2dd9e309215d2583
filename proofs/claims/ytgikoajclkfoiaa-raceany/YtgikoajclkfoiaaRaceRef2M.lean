/- The document's races by lists: each thread's last event that conflicts, unless it is marked. No program. -/
import Derived.Test.YtgikoajclkfoiaaRaceRef1
namespace Go.Proofs.Ytgikoajclkfoiaa
set_option linter.unusedVariables false
set_option linter.unusedSimpArgs false
set_option maxRecDepth 100000
open Go.ChangeShapes Go.WideShapes Go.ChangeAt Go.RowKit

/-- Is the i-th an event of the thread k that conflicts with e? -/
def cfP (t : List EvD) (e : EvD) (k : Nat) (i : Nat) : Bool := match t[i]? with
  | some e' => e'.th == (k : Int) && cfB e' e
  | none => false
theorem cfP_at {t : List EvD} {i : Nat} {e' : EvD} (h : t[i]? = some e') (e : EvD) (k : Nat) : cfP t e k i = (e'.th == (k : Int) && cfB e' e) := by unfold cfP; rw [h]
theorem lastP_congr {P Q : Nat → Bool} : ∀ {j : Nat}, (∀ i, i < j → P i = Q i) → lastP P j = lastP Q j
  | 0, _ => rfl
  | j + 1, h => by
    unfold lastP
    rw [h j (by omega), lastP_congr fun i hi => h i (by omega)]
theorem last_none {P : Nat → Bool} : ∀ {j : Nat}, (∀ i, i < j → P i = false) → lastP P j = none
  | 0, _ => rfl
  | j + 1, h => by
    unfold lastP
    rw [h j (by omega), last_none fun i hi => h i (by omega)]
    rfl
theorem lastP_yes {P : Nat → Bool} {j : Nat} (h : P j = true) : lastP P (j + 1) = some j := by
  show (if P j = true then some j else lastP P j) = _
  rw [if_pos h]
theorem lastP_no {P : Nat → Bool} {j : Nat} (h : P j = false) : lastP P (j + 1) = lastP P j := by
  show (if P j = true then some j else lastP P j) = _
  rw [if_neg (by rw [h]; simp)]
/-- The last, as a number: -1, if there is none. -/
def lastI (o : Option Nat) : Int := match o with
  | none => -1
  | some i => (i : Int)
theorem lastI_bounds {P : Nat → Bool} (j : Nat) : -1 ≤ lastI (lastP P j) ∧ lastI (lastP P j) < (j : Int) := by
  rcases h : lastP P j with _ | i
  · exact ⟨Int.le_refl _, by show (-1 : Int) < j; omega⟩
  · have := (lastP_some h).1
    exact ⟨by show (-1 : Int) ≤ (i : Int); omega, by show (i : Int) < (j : Int); omega⟩
def rf1 (chans : List Int) (t : List EvD) (j : Nat) (e : EvD) (k : Nat) : List Int := match lastP (cfP t e k) j with
  | none => []
  | some i => if befB (dirB chans t) i j = true then [] else [(i : Int)]
theorem rf1_doc {chans : List Int} {t : List EvD} {j : Nat} {e : EvD} (hb : toB e = true) (k : Nat) : rf1 chans t j e k = doc1 chans t j e k := by
  unfold rf1 doc1
  by_cases hk : (k : Int) = e.th
  · rw [if_pos hk, last_none fun i _ => ?_]
    rcases h : t[i]? with _ | e'
    · unfold cfP; rw [h]
    · rw [cfP_at h]
      rcases h1 : (e'.th == (k : Int)) with _ | _
      · rfl
      · have h2 : (e'.th != e.th) = false := by
          have := eq_of_beq h1
          rw [this, hk]; simp
        simp [cfB, h2]
  · rw [if_neg hk]
    suffices hp : ∀ i, i < j → cfP t e k i = (if e.op = 8 then tchP t e.obj k else stoP t e.obj k) i by
      rw [lastP_congr hp]
      generalize lastP (if e.op = 8 then tchP t e.obj k else stoP t e.obj k) j = X
      cases X <;> rfl
    intro i _
    rcases h : t[i]? with _ | e'
    · split
      · unfold cfP tchP; rw [h]
      · unfold cfP stoP; rw [h]
    · rw [cfP_at h]
      rcases h1 : (e'.th == (k : Int)) with _ | _
      · split
        · rw [tchP_at h, h1]; simp
        · rw [stoP_at h, h1]; simp
      · have h2 : (e'.th != e.th) = true := by
          have := eq_of_beq h1
          rw [this]; simp; exact hk
        by_cases h8 : e.op = 8
        · rw [if_pos h8, tchP_at h, h1]
          have h9 : (e.op == 8) = true := by simp [h8]
          simp only [cfB, hb, h2, h9, Bool.and_true, Bool.or_true, Bool.true_and]
        · rw [if_neg h8, stoP_at h, h1]
          have h9 : (e.op == 8) = false := by simp [h8]
          simp only [cfB, hb, h2, h9, Bool.and_true, Bool.or_false, Bool.true_and]
          rcases h7 : (e'.op == 8) with _ | _
          · simp
          · have : toB e' = true := by simp [toB, h7]
            rw [this]
            simp
theorem rf1_none {chans : List Int} {t : List EvD} {j : Nat} {e : EvD} {k : Nat} (h : lastP (cfP t e k) j = none) : rf1 chans t j e k = [] := by unfold rf1; rw [h]
theorem rf1_some {chans : List Int} {t : List EvD} {j : Nat} {e : EvD} {k i : Nat} (h : lastP (cfP t e k) j = some i) : rf1 chans t j e k = if befB (dirB chans t) i j = true then [] else [(i : Int)] := by unfold rf1; rw [h]
def docUp (chans : List Int) (t : List EvD) (q : Nat) : List (Int × Int) := (List.range q).flatMap (docAt chans t)
def midUp (chans : List Int) (t : List EvD) (j : Nat) (e : EvD) (m : Nat) : List (Int × Int) := docUp chans t j ++ ((List.range m).flatMap (rf1 chans t j e)).map (fun f => (f, (j : Int)))
theorem midUp_zero (chans : List Int) (t : List EvD) (j : Nat) (e : EvD) : midUp chans t j e 0 = docUp chans t j := by simp [midUp]
theorem midUp_succ (chans : List Int) (t : List EvD) (j : Nat) (e : EvD) (m : Nat) : midUp chans t j e (m + 1) = midUp chans t j e m ++ (rf1 chans t j e m).map (fun f => (f, (j : Int))) := by
  unfold midUp
  rw [List.range_succ, List.flatMap_append, List.map_append, List.append_assoc]
  simp
theorem docUp_succ {chans : List Int} {t : List EvD} {j : Nat} {e : EvD} (he : t[j]? = some e) : docUp chans t (j + 1) = if toB e = true then midUp chans t j e 6 else docUp chans t j := by
  unfold docUp
  rw [List.range_succ, List.flatMap_append, List.flatMap_singleton]
  have : docAt chans t j = if toB e = true then ((List.range 6).flatMap (doc1 chans t j e)).map (fun f => (f, (j : Int))) else [] := by unfold docAt; rw [he]
  rw [this]
  by_cases hb : toB e = true
  · rw [if_pos hb, if_pos hb]
    unfold midUp docUp
    congr 2
    exact congrArg (fun f => (List.range 6).flatMap f) (funext fun k => (rf1_doc hb k).symm)
  · rw [if_neg hb, if_neg hb, List.append_nil]
theorem rf1_len (chans : List Int) (t : List EvD) (j : Nat) (e : EvD) (k : Nat) : (rf1 chans t j e k).length ≤ 1 := by
  unfold rf1
  split
  · simp
  · split <;> simp
theorem midUp_len (chans : List Int) (t : List EvD) (j : Nat) (e : EvD) : ∀ m, (midUp chans t j e m).length ≤ (docUp chans t j).length + m
  | 0 => by rw [midUp_zero]; omega
  | m + 1 => by
    have h1 := midUp_len chans t j e m
    have h2 := rf1_len chans t j e m
    rw [midUp_succ, List.length_append, List.length_map]; omega
theorem docUp_len (chans : List Int) (t : List EvD) : ∀ q, q ≤ t.length → (docUp chans t q).length ≤ 6 * q
  | 0, _ => by simp [docUp]
  | q + 1, h => by
    obtain ⟨e, he⟩ := at_lt (l := t) (k := q) (by omega)
    have h1 := docUp_len chans t q (by omega)
    have h2 := midUp_len chans t q e 6
    rw [docUp_succ he]
    split <;> omega
def rfL (chans : List Int) (t : List EvD) : List (Int × Int) := if fitsB t = true then docL chans t else []
theorem rfL_races {chans : List Int} {t : List EvD} (hc : ∀ c ∈ chans, -9223372036854775808 ≤ c ∧ c ≤ 9223372036854775807) : rfL chans t = racesL chans t := by
  unfold rfL
  by_cases hf : fitsB t = true
  · rw [if_pos hf, races_doc hc hf]
  · rw [if_neg hf]; unfold racesL; rw [if_neg hf]
def thIn (e : EvD) : Bool := decide (0 ≤ e.th) && decide (e.th < 6)
theorem fits_of {t : List EvD} (h1 : 1 ≤ t.length → t.length ≤ 2000) (h : ∀ i e, i < t.length → t[i]? = some e → thIn e = true) : fitsB t = true := by
  unfold fitsB
  rw [Bool.and_eq_true, decide_eq_true_eq, List.all_eq_true]
  refine ⟨by omega, fun e he => ?_⟩
  obtain ⟨i, hi, rfl⟩ := List.mem_iff_getElem.1 he
  exact h i _ hi (List.getElem?_eq_getElem hi)
theorem fits_not {t : List EvD} {i : Nat} {e : EvD} (he : t[i]? = some e) (h : ¬ (t.length ≤ 2000 ∧ thIn e = true)) : ¬ fitsB t = true := fun hf => h (by
  unfold fitsB at hf
  rw [Bool.and_eq_true, decide_eq_true_eq, List.all_eq_true] at hf
  exact ⟨hf.1, hf.2 e (List.mem_of_getElem? he)⟩)
end Go.Proofs.Ytgikoajclkfoiaa
