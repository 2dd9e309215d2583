/- Race's answer is the document's: each thread's last access that conflicts, unless it is ahead. No program. -/
import Derived.Test.YtgikoajclkfoiaaRaceClkE
namespace Go.Proofs.Ytgikoajclkfoiaa
set_option linter.unusedVariables false
set_option linter.unusedSimpArgs false
set_option maxRecDepth 100000
open Go.ChangeShapes Go.WideShapes Go.ChangeAt Go.RowKit

def lastP (P : Nat → Bool) : Nat → Option Nat
  | 0 => none
  | j + 1 => if P j = true then some j else lastP P j
theorem lastP_some {P : Nat → Bool} : ∀ {j i : Nat}, lastP P j = some i → i < j ∧ P i = true
  | 0, i, h => by simp [lastP] at h
  | j + 1, i, h => by
    unfold lastP at h
    by_cases hp : P j = true
    · rw [if_pos hp] at h; cases h; exact ⟨by omega, hp⟩
    · rw [if_neg hp] at h; have := lastP_some h; exact ⟨by omega, this.2⟩
/-- Is the i-th a touch of x by k? A Store? -/
def tchP (t : List EvD) (x : Int) (k : Nat) (i : Nat) : Bool := match t[i]? with
  | some e => toB e && e.obj == x && e.th == (k : Int)
  | none => false
def stoP (t : List EvD) (x : Int) (k : Nat) (i : Nat) : Bool := match t[i]? with
  | some e => e.op == 8 && e.obj == x && e.th == (k : Int)
  | none => false
theorem tchP_at {t : List EvD} {i : Nat} {e : EvD} (h : t[i]? = some e) (x : Int) (k : Nat) : tchP t x k i = (toB e && e.obj == x && e.th == (k : Int)) := by unfold tchP; rw [h]
theorem stoP_at {t : List EvD} {i : Nat} {e : EvD} (h : t[i]? = some e) (x : Int) (k : Nat) : stoP t x k i = (e.op == 8 && e.obj == x && e.th == (k : Int)) := by unfold stoP; rw [h]
def posO : Option Nat → Int
  | none => 0
  | some i => i
def numO (t : List EvD) (k : Nat) : Option Nat → Int
  | none => 0
  | some i => (cnN (thN t.length (thO t) k) (i + 1) : Nat)
def ltO (t : List EvD) (j : Nat) (x : Int) (k : Nat) : Lt := ⟨posO (lastP (stoP t x k) j), numO t k (lastP (stoP t x k) j), posO (lastP (tchP t x k) j), numO t k (lastP (tchP t x k) j)⟩
/-- The thread k's last access that conflicts with the j-th, unless it is ahead. -/
def doc1 (chans : List Int) (t : List EvD) (j : Nat) (e : EvD) (k : Nat) : List Int :=
  if (k : Int) = e.th then [] else match lastP (if e.op = 8 then tchP t e.obj k else stoP t e.obj k) j with
    | none => []
    | some i => if befB (dirB chans t) i j = true then [] else [(i : Int)]
def docAt (chans : List Int) (t : List EvD) (j : Nat) : List (Int × Int) := match t[j]? with
  | none => []
  | some e => if toB e = true then ((List.range 6).flatMap (doc1 chans t j e)).map (fun f => (f, (j : Int))) else []
def docL (chans : List Int) (t : List EvD) : List (Int × Int) := (List.range t.length).flatMap (docAt chans t)
theorem racing_doc {chans : List Int} {t : List EvD} (hl : t.length ≤ 1000000) (hc : ∀ c ∈ chans, -9223372036854775808 ≤ c ∧ c ≤ 9223372036854775807) (h0 : ∀ e ∈ t, 0 ≤ e.th ∧ e.th < 64) {j : Nat} {e : EvD} (he : t[j]? = some e) {c : List Int}
    (hcl : ∀ n, atN c n = (cl (dirB chans t) (thN t.length (thO t) n) j : Int)) {ls : LsS} (hls : ∀ x k, ls x k = ltO t j x k) (k : Nat) : racing1 ls e c k = doc1 chans t j e k := by
  have hjl := (List.getElem?_eq_some_iff.1 he).1
  unfold racing1 doc1
  by_cases hk : (k : Int) = e.th
  · rw [if_pos (.inl hk), if_pos hk]
  rw [if_neg hk]
  have hag : agP e (ls e.obj k) = (posO (lastP (if e.op = 8 then tchP t e.obj k else stoP t e.obj k) j), numO t k (lastP (if e.op = 8 then tchP t e.obj k else stoP t e.obj k) j)) := by
    rw [hls]
    unfold agP ltO
    split <;> rfl
  rw [hag]
  cases hx : lastP (if e.op = 8 then tchP t e.obj k else stoP t e.obj k) j with
  | none => rw [if_pos (.inr rfl)]
  | some i =>
    obtain ⟨hij, hP⟩ := lastP_some hx
    obtain ⟨e2, he2⟩ := at_lt (l := t) (k := i) (by omega)
    have hth : e2.th = (k : Int) := by
      by_cases h8 : e.op = 8
      · rw [if_pos h8, tchP_at he2] at hP; simp at hP; exact hP.2
      · rw [if_neg h8, stoP_at he2] at hP; simp at hP; exact hP.2
    have hN : thN t.length (thO t) k i = true := by
      have := thO_at he2 (h0 e2 (List.mem_of_getElem? he2)).1
      unfold thN
      rw [Bool.and_eq_true, decide_eq_true_eq, beq_iff_eq]
      exact ⟨by omega, by omega⟩
    have hpos : 0 < cnN (thN t.length (thO t) k) (i + 1) := by rw [cnN_succ, if_pos hN]; omega
    have hb := cl_ahead (dirB_up chans t) (thread_order hl hc (fun e he => (h0 e he).1) k) (j := j) hN hij
    rw [if_neg (by
      rintro (h | h)
      · exact hk h
      · have := (Prod.mk.inj h).2; simp only [numO] at this; omega)]
    simp only [numO, posO, hcl]
    by_cases hB : befB (dirB chans t) i j = true
    · rw [if_pos hB, if_neg (by have := hb.1 hB; omega)]
    · rw [if_neg hB, if_pos (by
        have : ¬ cnN (thN t.length (thO t) k) (i + 1) ≤ cl (dirB chans t) (thN t.length (thO t) k) j := fun h => hB (hb.2 h)
        omega)]
theorem note_doc {chans : List Int} {t : List EvD} (hl : t.length ≤ 1000000) (hc : ∀ c ∈ chans, -9223372036854775808 ≤ c ∧ c ≤ 9223372036854775807) (h0 : ∀ e ∈ t, 0 ≤ e.th ∧ e.th < 64) {j : Nat} {e : EvD} (he : t[j]? = some e) {c : List Int}
    (hcl : ∀ n, atN c n = (cl (dirB chans t) (thN t.length (thO t) n) j : Int)) {ls : LsS} (hls : ∀ x k, ls x k = ltO t j x k) (hb : toB e = true) (x : Int) (k : Nat) : noteL ls j e c x k = ltO t (j + 1) x k := by
  have hjl := (List.getElem?_eq_some_iff.1 he).1
  obtain ⟨p0, p1⟩ := h0 e (List.mem_of_getElem? he)
  have hto := thO_at he p0
  have own : atL c e.th = (cnN (thN t.length (thO t) e.th.toNat) (j + 1) : Nat) := by
    obtain ⟨q, hq⟩ : ∃ q : Nat, e.th = q := ⟨e.th.toNat, by omega⟩
    have hN : thN t.length (thO t) q j = true := by
      unfold thN
      rw [Bool.and_eq_true, decide_eq_true_eq, beq_iff_eq]
      exact ⟨hjl, by omega⟩
    rw [hq, atL_nat, hcl, Int.toNat_natCast, cl_own (dirB_up chans t) (thread_order hl hc (fun e he => (h0 e he).1) q) hN]
  by_cases hx : x = e.obj
  · by_cases hk : k = e.th.toNat
    · have hek : e.th = (k : Int) := by omega
      have t1 : tchP t x k j = true := by rw [tchP_at he, hb, hx, hek]; simp
      by_cases h8 : e.op = 8
      · have s1 : stoP t x k j = true := by rw [stoP_at he, h8, hx, hek]; simp
        simp only [noteL, upd, if_pos hx, if_pos hk, if_pos h8, ltO, lastP, if_pos t1, if_pos s1, posO, numO]
        rw [own, hk]
      · have s1 : ¬ stoP t x k j = true := by rw [stoP_at he]; simp [h8]
        simp only [noteL, upd, if_pos hx, if_pos hk, if_neg h8, ltO, lastP, if_pos t1, if_neg s1, posO, numO]
        rw [own, ← hk, ← hx, hls]
        rfl
    · have t1 : ¬ tchP t x k j = true := by rw [tchP_at he]; simp; intro _ _; omega
      have s1 : ¬ stoP t x k j = true := by rw [stoP_at he]; simp; intro _ _; omega
      simp only [noteL, upd, if_pos hx, if_neg hk]
      rw [← hx, hls]
      simp only [ltO, lastP, if_neg t1, if_neg s1]
  · have t1 : ¬ tchP t x k j = true := by rw [tchP_at he]; simp; intro _ g; exact absurd g.symm hx
    have s1 : ¬ stoP t x k j = true := by rw [stoP_at he]; simp; intro _ g; exact absurd g.symm hx
    simp only [noteL, upd, if_neg hx]
    rw [hls]
    simp only [ltO, lastP, if_neg t1, if_neg s1]
theorem go_doc {chans : List Int} {t : List EvD} (hl : t.length ≤ 1000000) (hc : ∀ c ∈ chans, -9223372036854775808 ≤ c ∧ c ≤ 9223372036854775807) (h0 : ∀ e ∈ t, 0 ≤ e.th ∧ e.th < 64) :
    ∀ (d j : Nat) (ls : LsS), j + d = t.length → (∀ x k, ls x k = ltO t j x k) → racesGo chans j (t.drop j) (kst chans t j) ls = (List.range' j d).flatMap (docAt chans t)
  | 0, j, ls, hj, _ => by
    rw [List.drop_eq_nil_of_le (by omega)]; rfl
  | d + 1, j, ls, hj, hls => by
    obtain ⟨e, he⟩ := at_lt (l := t) (k := j) (by omega)
    have hd : t.drop j = e :: t.drop (j + 1) := by
      rw [List.drop_eq_getElem_cons (by omega)]; congr 1; exact (List.getElem?_eq_some_iff.1 he).2
    have hcl := fun n => (clocks hl hc h0 j (by omega)).2 e he n
    rw [hd, List.range'_succ, List.flatMap_cons]
    have hda : docAt chans t j = if toB e = true then ((List.range 6).flatMap (doc1 chans t j e)).map (fun f => (f, (j : Int))) else [] := by unfold docAt; rw [he]
    rw [hda]
    unfold racesGo
    by_cases hb : toB e = true
    · rw [if_pos hb, if_pos hb, ← kst_succ he, go_doc hl hc h0 d (j + 1) _ (by omega) (note_doc hl hc h0 he hcl hls hb)]
      congr 2
      unfold racingL
      exact congrArg (fun f => (List.range 6).flatMap f) (funext fun k => racing_doc hl hc h0 he hcl hls k)
    · rw [if_neg hb, if_neg hb, ← kst_succ he, go_doc hl hc h0 d (j + 1) ls (by omega) (fun x k => ?_)]
      · rfl
      · have t1 : ¬ tchP t x k j = true := by rw [tchP_at he]; simp [hb]
        have s1 : ¬ stoP t x k j = true := by
          rw [stoP_at he]; simp; intro h8; exact absurd (by simp [toB, h8]) hb
        rw [hls]
        simp only [ltO, lastP, if_neg t1, if_neg s1]
/-- What race tells is what the document tells. -/
theorem races_doc {chans : List Int} {t : List EvD} (hc : ∀ c ∈ chans, -9223372036854775808 ≤ c ∧ c ≤ 9223372036854775807) (hf : fitsB t = true) : racesL chans t = docL chans t := by
  have hf' := hf
  unfold fitsB at hf'
  rw [Bool.and_eq_true, List.all_eq_true] at hf'
  have h1 := of_decide_eq_true hf'.1
  have h2 : ∀ e ∈ t, 0 ≤ e.th ∧ e.th < 64 := by
    intro e he
    have := hf'.2 e he
    rw [Bool.and_eq_true, decide_eq_true_eq, decide_eq_true_eq] at this
    exact ⟨this.1, by omega⟩
  unfold racesL docL
  rw [if_pos hf, List.range_eq_range']
  exact go_doc (by omega) hc h2 t.length 0 _ (by omega) (fun x k => rfl)
end Go.Proofs.Ytgikoajclkfoiaa
