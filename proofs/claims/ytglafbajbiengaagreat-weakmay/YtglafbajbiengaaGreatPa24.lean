/- What the laws of this seat stand on, part 24. -/
import Derived.Test.YtglafbajbiengaaGreatPa0
import Derived.Test.YtglafbajbiengaaGreatPa23
set_option linter.unusedVariables false
set_option linter.unusedSimpArgs false
set_option maxRecDepth 100000
set_option maxHeartbeats 40000000
namespace Go.Proofs.YtglafbajbiengaaGreat
open Go.ChangeShapes Go.WideShapes Go.ChangeAt Go.RowKit
def tkS : Sd := modeS 1 [21, 22]
def wrS : Sd := opsS [18, 19]
def sdS : Sd := opsS [20]
def rdO (chans : List Int) (t : List EvD) (i j : Nat) (e e' : EvD) : Bool :=
  if e.op = 14 then (e'.op == 13 || e'.op == 15)
  else if e.op = 16 then e'.op == 13
  else if e.op = 18 ∨ e.op = 19 then (e'.op == 17 || e'.op == 19) && !decide (cntS wrS e.obj (t.take (i + 1)) < cntS wrS e.obj (t.take j))
  else if e.op = 20 then (tkS e').2 && ((cntS sdS e.obj (t.take i) : Int) == (cntS tkS e.obj (t.take j) : Int))
  else if e.op = 23 then (modeS 2 [21, 22] e').2
  else if e.op = 24 then decide (e.val < 0) && e'.op == 25
  else if e.op = 27 then e'.op == 26 && e'.mode == 0
  else (tkS e).2 && (e'.op == 20) && (IntKind.i64.wrap ((cntS tkS e.obj (t.take i) : Int) + roomL chans e.obj) == (cntS sdS e.obj (t.take j) : Int))
def rdB (chans : List Int) (t : List EvD) (i j : Nat) (e e' : EvD) : Bool :=
  (e.th == e'.th) || ((e.op == 12) && (e.obj == e'.th)) || ((e.obj == e'.obj) && rdO chans t i j e e')
theorem cnt_ahead {s : Sd} {x : Int} {t : List EvD} {i j : Nat} {e : EvD} (hi : t[i]? = some e) (hij : i < j) (hs : isS s x e = true) : cntS s x (t.take i) + 1 ≤ cntS s x (t.take j) := by
  have h1 := cnt_snoc s x hi
  rw [if_pos hs] at h1
  have := cnt_mono s x t (show i + 1 ≤ j by omega)
  omega
theorem whR_last {x : Int} {a b n : Nat} (h : n + 1 ≤ a) : whB (some lastW) x a b n = !decide (n + 1 < a) := by
  have e : whB (some lastW) x a b n = (decide (max ((a : Int) - 1) 0 ≤ (n : Int)) && decide ((n : Int) < (a : Int))) := rfl
  rw [e, Bool.eq_iff_iff, Bool.and_eq_true, decide_eq_true_eq, decide_eq_true_eq, Bool.not_eq_true', decide_eq_false_iff_not]
  omega
theorem whR_pair {x : Int} {r : Int → Int} {a b n : Nat} (h : n + 1 ≤ a) : whB (some (pairW r)) x a b n = decide ((n : Int) + r x = (b : Int)) := by
  simp only [whB, pairW]
  rw [Bool.eq_iff_iff]
  split <;> simp <;> omega
theorem room_wf {chans : List Int} (hc : ∀ c ∈ chans, -9223372036854775808 ≤ c ∧ c ≤ 9223372036854775807) (x : Int) : -9223372036854775808 ≤ roomL chans x ∧ roomL chans x ≤ 9223372036854775807 := by
  unfold roomL
  split
  · omega
  · rcases h : chans[x.toNat]? with _ | y
    · simp
    · simpa using hc y (List.mem_of_getElem? h)
theorem wrap_eq {n b : Nat} {r : Int} (h0 : -9223372036854775808 ≤ r) (h1 : r ≤ 9223372036854775807) (hn : n ≤ 1000000) (hb : b ≤ 1000000) : (IntKind.i64.wrap ((n : Int) + r) == (b : Int)) = decide ((n : Int) + r = (b : Int)) := by
  rw [IntKind.wrap_i64, Bool.eq_iff_iff]
  simp
  omega
theorem dir_rd {chans : List Int} {t : List EvD} {i j : Nat} {e e' : EvD} (hi : t[i]? = some e) (hj : t[j]? = some e') (hij : i < j) (hl : t.length ≤ 1000000) (hc : ∀ c ∈ chans, -9223372036854775808 ≤ c ∧ c ≤ 9223372036854775807) :
    dirB chans t i j = rdB chans t i j e e' := by
  have hb : ∀ r : RuD, holdsB r t i j = (isS r.a (r.b e').1 e && (r.b e').2 && whB r.wh (r.b e').1 (cntS r.a (r.b e').1 (t.take j)) (cntS r.b (r.b e').1 (t.take j)) (cntS r.a (r.b e').1 (t.take i))) := by
    intro r; unfold holdsB; rw [hi, hj]
  have hjl := (List.getElem?_eq_some_iff.1 hj).1
  have hw : ∀ x, isS wrS x e = true → whB (some lastW) x (cntS wrS x (t.take j)) (cntS (opsS [17, 19]) x (t.take j)) (cntS wrS x (t.take i)) = !decide (cntS wrS x (t.take (i + 1)) < cntS wrS x (t.take j)) := fun x hx => by
    rw [whR_last (cnt_ahead hi hij hx)]
    have := cnt_snoc wrS x hi
    rw [if_pos hx] at this
    rw [this]
  have hs : ∀ x, isS sdS x e = true → whB (some (pairW noRoom)) x (cntS sdS x (t.take j)) (cntS tkS x (t.take j)) (cntS sdS x (t.take i)) = ((cntS sdS x (t.take i) : Int) == (cntS tkS x (t.take j) : Int)) := fun x hx => by
    rw [whR_pair (cnt_ahead hi hij hx), show noRoom x = 0 from rfl, Int.add_zero, Bool.eq_iff_iff]; simp
  have ht : ∀ x, isS tkS x e = true → whB (some (pairW (roomL chans))) x (cntS tkS x (t.take j)) (cntS sdS x (t.take j)) (cntS tkS x (t.take i)) = (IntKind.i64.wrap ((cntS tkS x (t.take i) : Int) + roomL chans x) == (cntS sdS x (t.take j) : Int)) := fun x hx => by
    obtain ⟨r0, r1⟩ := room_wf hc x
    rw [whR_pair (cnt_ahead hi hij hx), wrap_eq r0 r1 (by have := cnt_le tkS x t i; omega) (by have := cnt_le sdS x t j; omega)]
  have hd : dirB chans t i j = (rulesL chans).any fun r => isS r.a (r.b e').1 e && (r.b e').2 && whB r.wh (r.b e').1 (cntS r.a (r.b e').1 (t.take j)) (cntS r.b (r.b e').1 (t.take j)) (cntS r.a (r.b e').1 (t.take i)) := by
    unfold dirB
    rw [decide_eq_true hij, Bool.true_and]
    congr 1
    funext r
    exact hb r
  rw [hd]
  have hop : ∀ (l : List Int) (x : Int), isS (opsS l) x e = (l.contains e.op && e.obj == x) := fun _ _ => rfl
  have hmo : ∀ (m : Int) (l : List Int) (x : Int), isS (modeS m l) x e = ((l.contains e.op && e.mode == m) && e.obj == x) := fun _ _ _ => rfl
  have hfe : ∀ (x : Int), isS fewS x e = ((e.op == 24 && decide (e.val < 0)) && e.obj == x) := fun _ => rfl
  have hth : ∀ (x : Int), isS thS x e = (e.th == x) := fun x => by simp [isS, thS]
  have o1 : ∀ (l : List Int), (opsS l e').1 = e'.obj := fun _ => rfl
  have o2 : ∀ (l : List Int), (opsS l e').2 = l.contains e'.op := fun _ => rfl
  have m1 : ∀ (m : Int) (l : List Int), (modeS m l e').1 = e'.obj := fun _ _ => rfl
  have m2 : ∀ (m : Int) (l : List Int), (modeS m l e').2 = (l.contains e'.op && e'.mode == m) := fun _ _ => rfl
  have m3 : ∀ (m : Int) (l : List Int), (modeS m l e).2 = (l.contains e.op && e.mode == m) := fun _ _ => rfl
  have t1 : (thS e').1 = e'.th := rfl
  have t2 : (thS e').2 = true := rfl
  have w0 : ∀ x a b n, whB none x a b n = true := fun _ _ _ _ => rfl
  unfold wrS at hw
  unfold sdS tkS at hs ht
  unfold rdB rdO wrS sdS tkS
  simp only [rulesL, List.any_cons, List.any_nil, hop, hmo, hfe, hth, o1, o2, m1, m2, m3, t1, t2, w0, List.contains_cons, List.contains_nil, Bool.or_false, Bool.and_true]
  by_cases ho : e.obj = e'.obj
  · have ho' : (e.obj == e'.obj) = true := by simpa using ho
    rw [← ho]
    have hw := hw e.obj
    have hs := hs e.obj
    have ht := ht e.obj
    simp only [hop, hmo, List.contains_cons, List.contains_nil, Bool.or_false, beq_self_eq_true, Bool.and_true] at hw hs ht ⊢
    by_cases h14 : e.op = 14
    · simp [h14]
    by_cases h16 : e.op = 16
    · simp [h16]
    by_cases h18 : e.op = 18 ∨ e.op = 19
    · have hx : (e.op == 18 || e.op == 19) = true := by rcases h18 with h | h <;> simp [h]
      rw [hw hx]
      rcases h18 with h | h <;> simp [h]
    by_cases h20 : e.op = 20
    · rw [hs (by simp [h20])]
      simp [h20]
    by_cases h23 : e.op = 23
    · simp [h23]
    by_cases h24 : e.op = 24
    · simp [h24]
    by_cases h27 : e.op = 27
    · simp [h27]
    rw [not_or] at h18
    have b14 : (e.op == 14) = false := by simpa using h14
    have b16 : (e.op == 16) = false := by simpa using h16
    have b18 : (e.op == 18) = false := by simpa using h18.1
    have b19 : (e.op == 19) = false := by simpa using h18.2
    have b20 : (e.op == 20) = false := by simpa using h20
    have b23 : (e.op == 23) = false := by simpa using h23
    have b24 : (e.op == 24) = false := by simpa using h24
    have b27 : (e.op == 27) = false := by simpa using h27
    by_cases hk : ((e.op == 21 || e.op == 22) && e.mode == 1) = true
    · rw [ht hk]
      simp only [hk, Bool.true_and]
      simp [h14, h16, h18, h20, h23, h24, h27, b14, b16, b18, b19, b20, b23, b24, b27, Bool.or_assoc]
    · have hk' : ((e.op == 21 || e.op == 22) && e.mode == 1) = false := by simpa using hk
      simp only [hk', b14, b16, b18, b19, b20, b23, b24, b27, Bool.false_and, Bool.or_false, Bool.and_false, Bool.false_or]
      simp [h14, h16, h18, h20, h23, h24, h27]
  · have ho' : (e.obj == e'.obj) = false := by simpa using ho
    simp [ho']
end Go.Proofs.YtglafbajbiengaaGreat
