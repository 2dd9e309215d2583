/- RaceAny by lists: a race is told just if two events that conflict are in no order; each that is told is such a pair. No program. -/
import Derived.Test.YtgikoajclkfoiaaRaceRef2M
import Derived.Test.YtgikoajclkfoiaaRaceFrontsM
namespace Go.Proofs.Ytgikoajclkfoiaa
set_option linter.unusedVariables false
set_option linter.unusedSimpArgs false
set_option maxRecDepth 100000
open Go.ChangeShapes Go.WideShapes Go.ChangeAt Go.RowKit

def cB (t : List EvD) (i j : Nat) : Bool := match t[i]?, t[j]? with
  | some e, some e' => cfB e e'
  | _, _ => false
theorem cB_at {t : List EvD} {i j : Nat} {e e' : EvD} (h : t[i]? = some e) (h' : t[j]? = some e') : cB t i j = cfB e e' := by unfold cB; rw [h, h']
def oneB (chans : List Int) (t : List EvD) (j i : Nat) : Bool := cB t i j && !befB (dirB chans t) i j
def rowB (chans : List Int) (t : List EvD) (j m : Nat) : Bool := (List.range m).any (oneB chans t j)
def anyB (chans : List Int) (t : List EvD) (q : Nat) : Bool := (List.range q).any fun j => rowB chans t j j
theorem rowB_succ (chans : List Int) (t : List EvD) (j m : Nat) : rowB chans t j (m + 1) = (rowB chans t j m || oneB chans t j m) := by unfold rowB; rw [List.range_succ]; simp
theorem anyB_succ (chans : List Int) (t : List EvD) (q : Nat) : anyB chans t (q + 1) = (anyB chans t q || rowB chans t q q) := by unfold anyB; rw [List.range_succ]; simp
theorem lastP_ge {P : Nat → Bool} {i : Nat} (h : P i = true) : ∀ {j : Nat}, i < j → ∃ i', lastP P j = some i' ∧ i ≤ i'
  | 0, hj => by omega
  | j + 1, hj => by
    by_cases hp : P j = true
    · exact ⟨j, lastP_yes hp, by omega⟩
    · have hne : i ≠ j := fun e => hp (e ▸ h)
      obtain ⟨i', h1, h2⟩ := lastP_ge h (j := j) (by omega)
      exact ⟨i', (lastP_no (by simpa using hp)).trans h1, h2⟩
theorem mem_docL {chans : List Int} {t : List EvD} {p : Int × Int} : p ∈ docL chans t ↔ ∃ (j : Nat) (e : EvD) (k i : Nat), t[j]? = some e ∧ toB e = true ∧ k < 6 ∧ lastP (cfP t e k) j = some i ∧ befB (dirB chans t) i j = false ∧ p = ((i : Int), (j : Int)) := by
  unfold docL
  rw [List.mem_flatMap]
  constructor
  · rintro ⟨j, hj, hp⟩
    obtain ⟨e, he⟩ := at_lt (l := t) (k := j) (by simpa using hj)
    have : docAt chans t j = if toB e = true then ((List.range 6).flatMap (doc1 chans t j e)).map (fun f => (f, (j : Int))) else [] := by unfold docAt; rw [he]
    rw [this] at hp
    by_cases hb : toB e = true
    · rw [if_pos hb] at hp
      obtain ⟨f, hf, rfl⟩ := List.mem_map.1 hp
      obtain ⟨k, hk, hf⟩ := List.mem_flatMap.1 hf
      rw [← rf1_doc hb] at hf
      rcases hl : lastP (cfP t e k) j with _ | i
      · rw [rf1_none hl] at hf; simp at hf
      · rw [rf1_some hl] at hf
        rcases hB : befB (dirB chans t) i j with _ | _
        · rw [hB] at hf
          simp at hf
          exact ⟨j, e, k, i, he, hb, by simpa using hk, hl, hB, by rw [hf]⟩
        · rw [hB] at hf; simp at hf
    · rw [if_neg hb] at hp; simp at hp
  · rintro ⟨j, e, k, i, he, hb, hk, hl, hB, rfl⟩
    have hj := (List.getElem?_eq_some_iff.1 he).1
    refine ⟨j, by simpa using hj, ?_⟩
    have : docAt chans t j = if toB e = true then ((List.range 6).flatMap (doc1 chans t j e)).map (fun f => (f, (j : Int))) else [] := by unfold docAt; rw [he]
    rw [this, if_pos hb]
    refine List.mem_map.2 ⟨(i : Int), List.mem_flatMap.2 ⟨k, by simpa using hk, ?_⟩, rfl⟩
    rw [← rf1_doc hb, rf1_some hl, hB]
    simp
/-- Each race that is told is a pair of events that conflict and are in no order. -/
theorem races_each {chans : List Int} {t : List EvD} (hc : ∀ c ∈ chans, -9223372036854775808 ≤ c ∧ c ≤ 9223372036854775807) (hf : fitsB t = true) {p : Int × Int} (hp : p ∈ racesL chans t) :
    ∃ i j : Nat, p = ((i : Int), (j : Int)) ∧ i < j ∧ j < t.length ∧ cB t i j = true ∧ befB (dirB chans t) i j = false := by
  rw [races_doc hc hf] at hp
  obtain ⟨j, e, k, i, he, hb, hk, hl, hB, rfl⟩ := mem_docL.1 hp
  obtain ⟨h1, h2⟩ := lastP_some hl
  have hj := (List.getElem?_eq_some_iff.1 he).1
  obtain ⟨e', he'⟩ := at_lt (l := t) (k := i) (by omega)
  rw [cfP_at he', Bool.and_eq_true] at h2
  exact ⟨i, j, rfl, h1, hj, by rw [cB_at he' he]; exact h2.2, hB⟩
theorem races_any {chans : List Int} {t : List EvD} (hc : ∀ c ∈ chans, -9223372036854775808 ≤ c ∧ c ≤ 9223372036854775807) (hf : fitsB t = true) : decide (racesL chans t ≠ []) = anyB chans t t.length := by
  rw [Bool.eq_iff_iff, decide_eq_true_eq]
  constructor
  · intro h
    obtain ⟨p, hp⟩ := List.exists_mem_of_ne_nil _ h
    obtain ⟨i, j, _, h1, h2, h3, h4⟩ := races_each hc hf hp
    unfold anyB
    rw [List.any_eq_true]
    refine ⟨j, by simpa using h2, ?_⟩
    unfold rowB
    rw [List.any_eq_true]
    exact ⟨i, by simpa using h1, by unfold oneB; rw [h3, h4]; rfl⟩
  · intro h
    have hf' := hf
    unfold fitsB at hf'
    rw [Bool.and_eq_true, List.all_eq_true] at hf'
    have hlen := of_decide_eq_true hf'.1
    unfold anyB at h
    rw [List.any_eq_true] at h
    obtain ⟨j, hj, h⟩ := h
    unfold rowB at h
    rw [List.any_eq_true] at h
    obtain ⟨i, hi, h⟩ := h
    have hj : j < t.length := by simpa using hj
    have hi : i < j := by simpa using hi
    unfold oneB at h
    rw [Bool.and_eq_true] at h
    obtain ⟨e, he⟩ := at_lt hj
    obtain ⟨e', he'⟩ := at_lt (l := t) (k := i) (by omega)
    have hcf := h.1
    rw [cB_at he' he] at hcf
    have hto : toB e = true := by
      unfold cfB at hcf
      simp only [Bool.and_eq_true] at hcf
      exact hcf.1.1.1.2
    have hth := hf'.2 e' (List.mem_of_getElem? he')
    rw [Bool.and_eq_true, decide_eq_true_eq, decide_eq_true_eq] at hth
    have hP : cfP t e e'.th.toNat i = true := by
      rw [cfP_at he', hcf]
      have : ((e'.th.toNat : Nat) : Int) = e'.th := by omega
      rw [this]; simp
    obtain ⟨i', h1, h2⟩ := lastP_ge hP hi
    obtain ⟨h3, h4⟩ := lastP_some h1
    have hB : befB (dirB chans t) i' j = false := by
      rcases hb : befB (dirB chans t) i' j with _ | _
      · rfl
      · exfalso
        have hn : befB (dirB chans t) i j = false := by simpa using h.2
        by_cases hii : i = i'
        · rw [hii, hb] at hn; cases hn
        · obtain ⟨e2, he2⟩ := at_lt (l := t) (k := i') (by omega)
          rw [cfP_at he2, Bool.and_eq_true] at h4
          have ht2 := eq_of_beq h4.1
          have hd : dirB chans t i i' = true := by
            rw [dir_rd he' he2 (by omega) (by omega) hc]
            unfold rdB
            have : e'.th = e2.th := by rw [ht2]; omega
            rw [this]; simp
          have := (befB_iff (dirB_up chans t)).2 (Bef.more hd ((befB_iff (dirB_up chans t)).1 hb))
          rw [this] at hn; cases hn
    have : ((i' : Int), (j : Int)) ∈ racesL chans t := by
      rw [races_doc hc hf]
      exact mem_docL.2 ⟨j, e, e'.th.toNat, i', he, hto, by omega, h1, hB, rfl⟩
    intro e0
    rw [e0] at this
    simp at this
end Go.Proofs.Ytgikoajclkfoiaa
