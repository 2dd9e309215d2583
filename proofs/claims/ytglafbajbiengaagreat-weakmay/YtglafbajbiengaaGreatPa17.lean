/- What the laws of this seat stand on, part 17. -/
import Derived.Test.YtglafbajbiengaaGreatPa0
import Derived.Test.YtglafbajbiengaaGreatPa16
set_option linter.unusedVariables false
set_option linter.unusedSimpArgs false
set_option maxRecDepth 100000
set_option maxHeartbeats 40000000
namespace Go.Proofs.YtglafbajbiengaaGreat
open Go.ChangeShapes Go.WideShapes Go.ChangeAt Go.RowKit Go.Maps
theorem cntLt_plS (s : Sd) (x : Int) (t : List EvD) (j : Nat) : cntLt (plS s x t 0) j = cntS s x (t.take j) := by
  rw [← plS_len s x (t.take j) 0, plS_take]
  unfold cntLt
  rw [List.countP_eq_length_filter]
theorem rules_wh {chans : List Int} {m : Nat} {r : RuD} (h : (rulesL chans)[m]? = some r) (x : Int) (a b : Nat) : ∃ f e : Nat, whN r.wh x a b = ((f : Int), (e : Int)) ∧ f ≤ e ∧ e ≤ a := by
  have hn : ∃ f e : Nat, whN none x a b = ((f : Int), (e : Int)) ∧ f ≤ e ∧ e ≤ a := ⟨0, a, rfl, Nat.zero_le _, Nat.le_refl _⟩
  have hl : ∃ f e : Nat, whN (some lastW) x a b = ((f : Int), (e : Int)) ∧ f ≤ e ∧ e ≤ a := ⟨a - 1, a, by simp only [whN, lastW]; congr 1; omega, by omega, Nat.le_refl _⟩
  have hp : ∀ room, ∃ f e : Nat, whN (some (pairW room)) x a b = ((f : Int), (e : Int)) ∧ f ≤ e ∧ e ≤ a := fun room => by
    simp only [whN, pairW]
    by_cases q : (b : Int) - room x < 0 ∨ (a : Int) ≤ (b : Int) - room x
    · rw [if_pos q]; exact ⟨0, 0, rfl, by omega, by omega⟩
    · rw [if_neg q]
      refine ⟨((b : Int) - room x).toNat, ((b : Int) - room x).toNat + 1, ?_, by omega, by omega⟩
      exact Prod.ext (by simp only; omega) (by simp only; omega)
  have key : ∀ q ∈ rulesL chans, ∃ f e : Nat, whN q.wh x a b = ((f : Int), (e : Int)) ∧ f ≤ e ∧ e ≤ a := by
    intro q hq
    simp only [rulesL, List.mem_cons, List.not_mem_nil, or_false] at hq
    rcases hq with rfl | rfl | rfl | rfl | rfl | rfl | rfl | rfl | rfl | rfl
    · exact hn
    · exact hn
    · exact hn
    · exact hn
    · exact hl
    · exact hp _
    · exact hp _
    · exact hn
    · exact hn
    · exact hn
  exact key r (List.mem_of_getElem? h)
/-- By a rule's row: just those between two numbers. -/
theorem holds_row {r : RuD} {t : List EvD} {i j f e : Nat} {ej : EvD} (hj : t[j]? = some ej) (hb : (r.b ej).2 = true) (hwh : whN r.wh (r.b ej).1 (cntLt (plS r.a (r.b ej).1 t 0) j) (cntLt (plS r.b (r.b ej).1 t 0) j) = ((f : Int), (e : Int))) (he : e ≤ cntLt (plS r.a (r.b ej).1 t 0) j) :
    (i < j ∧ holdsB r t i j = true) ↔ ∃ m, (plS r.a (r.b ej).1 t 0)[m]? = some i ∧ f ≤ m ∧ m < e := by
  rw [cntLt_plS, cntLt_plS] at hwh
  have hrise := rise_lt (plS_rise r.a (r.b ej).1 t 0) j
  constructor
  · rintro ⟨hij, hh⟩
    unfold holdsB at hh
    rcases hi : t[i]? with _ | ei
    · rw [hi] at hh; cases hh
    · rw [hi, hj] at hh
      simp only [hb, Bool.and_true, Bool.and_eq_true] at hh
      obtain ⟨h1, h2⟩ := hh
      have hmem : i ∈ plS r.a (r.b ej).1 t 0 := (plS_mem r.a _ t 0 i).2 ⟨Nat.zero_le _, ei, hi, h1⟩
      obtain ⟨m, hm⟩ := List.getElem?_of_mem hmem
      obtain ⟨_, _, hc, _⟩ := plS_at r.a _ t 0 m i hm
      rw [Nat.sub_zero] at hc
      refine ⟨m, hm, ?_⟩
      rcases hw : r.wh with _ | w
      · rw [hw] at hwh
        simp only [whN] at hwh
        have e1 : (f : Int) = 0 := (congrArg Prod.fst hwh).symm
        have e2 : (cntS r.a (r.b ej).1 (t.take j) : Int) = e := congrArg Prod.snd hwh
        have := (hrise m i hm).1 hij
        rw [cntLt_plS] at this
        omega
      · rw [hw] at hwh h2
        simp only [whN] at hwh
        simp only [whB, hwh, hc, Bool.and_eq_true, decide_eq_true_eq] at h2
        omega
  · rintro ⟨m, hm, hf, hme⟩
    have hij : i < j := (hrise m i hm).2 (by omega)
    refine ⟨hij, ?_⟩
    obtain ⟨_, _, hc, ei, hi, h1⟩ := plS_at r.a _ t 0 m i hm
    rw [Nat.sub_zero] at hc hi
    unfold holdsB
    rw [hi, hj]
    simp only [hb, h1, Bool.and_true, Bool.true_and]
    rcases hw : r.wh with _ | w
    · rfl
    · rw [hw] at hwh
      simp only [whN] at hwh
      simp only [whB, hwh, hc, Bool.and_eq_true, decide_eq_true_eq]
      omega
/-- What has been marked, and put on the stack, from one event. -/
structure Marked (D : Nat → Bool) (seen : List Bool) (st : List Nat) (seen' : List Bool) (st' : List Nat) : Prop where
  len : seen'.length = seen.length
  up : ∀ i : Nat, seen[i]? = some true → seen'[i]? = some true
  new : ∀ i : Nat, seen'[i]? = some true → seen[i]? = some true ∨ D i = true
  st_in : ∀ i ∈ st', i ∈ st ∨ seen'[i]? = some true
  st_up : ∀ i ∈ st, i ∈ st'
  st_new : ∀ i : Nat, seen'[i]? = some true → seen[i]? = some true ∨ i ∈ st'
  cnt : seen'.countP (· == false) + st'.length = seen.countP (· == false) + st.length
  le : st.length ≤ st'.length
theorem Marked.refl (D : Nat → Bool) (seen : List Bool) (st : List Nat) : Marked D seen st seen st := ⟨rfl, fun _ h => h, fun _ h => .inl h, fun _ h => .inl h, fun _ h => h, fun _ h => .inl h, rfl, Nat.le_refl _⟩
theorem Marked.trans {D : Nat → Bool} {s1 s2 s3 : List Bool} {t1 t2 t3 : List Nat} (h : Marked D s1 t1 s2 t2) (k : Marked D s2 t2 s3 t3) : Marked D s1 t1 s3 t3 :=
  ⟨k.len.trans h.len, fun i q => k.up i (h.up i q), fun i q => (k.new i q).elim (h.new i) .inr, fun i q => (k.st_in i q).elim (fun z => (h.st_in i z).imp id (k.up i)) .inr, fun i q => k.st_up i (h.st_up i q), fun i q => (k.st_new i q).elim (fun z => (h.st_new i z).imp id (k.st_up i)) .inr, k.cnt.trans h.cnt, Nat.le_trans h.le k.le⟩
theorem set_count : ∀ (l : List Bool) (i : Nat), l[i]? = some false → (l.set i true).countP (· == false) + 1 = l.countP (· == false)
  | [], i, h => by simp at h
  | b :: l, 0, h => by simp at h; subst h; simp [List.countP_cons]
  | b :: l, i + 1, h => by
    rw [List.getElem?_cons_succ] at h
    have := set_count l i h
    rw [List.set_cons_succ, List.countP_cons, List.countP_cons]
    omega
theorem set_true {l : List Bool} {i k : Nat} (hi : i < l.length) : (l.set i true)[k]? = some true ↔ k = i ∨ l[k]? = some true := by
  by_cases e : k = i
  · subst e; simp [hi]
  · rw [List.getElem?_set_ne (Ne.symm e)]; simp [e]
theorem Marked.one {D : Nat → Bool} {seen : List Bool} {st : List Nat} {i : Nat} (h : seen[i]? = some false) (hD : D i = true) : Marked D seen st (seen.set i true) (st ++ [i]) := by
  have hi := (List.getElem?_eq_some_iff.1 h).1
  refine ⟨by simp, fun k q => (set_true hi).2 (.inr q), fun k q => ((set_true hi).1 q).elim (fun e => .inr (by rw [e]; exact hD)) .inl, fun k q => ?_, fun k q => List.mem_append_left _ q, fun k q => ((set_true hi).1 q).elim (fun e => .inr (by simp [e])) .inl, ?_, by simp⟩
  · rcases List.mem_append.1 q with q | q
    · exact .inl q
    · obtain rfl := List.mem_singleton.1 q; exact .inr ((set_true hi).2 (.inl rfl))
  · have := set_count seen i h
    rw [List.length_append, List.length_singleton]; omega
/-- What is gone is marked. -/
def GoneOk (n : Nat) (A : Nat → List Nat) (G : Nat → Nat) (seen : List Bool) : Prop := ∀ k, k < n → G k ≤ (A k).length ∧ ∀ m i : Nat, m < G k → (A k)[m]? = some i → seen[i]? = some true
theorem GoneOk.up {n : Nat} {A : Nat → List Nat} {G : Nat → Nat} {seen seen' : List Bool} (h : GoneOk n A G seen) (hu : ∀ i : Nat, seen[i]? = some true → seen'[i]? = some true) : GoneOk n A G seen' := fun k hk => ⟨(h k hk).1, fun m i hm hi => hu i ((h k hk).2 m i hm hi)⟩
/-- Behind a rule's row. -/
theorem GoneOk.next {n k f e : Nat} {A : Nat → List Nat} {G : Nat → Nat} {seen : List Bool} (h : GoneOk n A G seen) (hk : k < n) (he : e ≤ (A k).length) (hl : ∀ p i : Nat, (((A k).take e).drop (goneF f e (G k)))[p]? = some i → seen[i]? = some true) :
    GoneOk n A (updF G k (goneG f e (G k))) seen ∧ ∀ m i : Nat, f ≤ m → m < e → (A k)[m]? = some i → seen[i]? = some true := by
  have hin : ∀ m i : Nat, goneF f e (G k) ≤ m → m < e → (A k)[m]? = some i → seen[i]? = some true := fun m i h1 h2 h3 => by
    refine hl (m - goneF f e (G k)) i ?_
    rw [List.getElem?_drop, List.getElem?_take, Nat.add_sub_cancel' h1, if_pos h2]; exact h3
  refine ⟨fun k' hk' => ?_, fun m i h1 h2 h3 => ?_⟩
  · by_cases q : k' = k
    · subst q
      rw [updF_same]
      obtain ⟨g1, g2⟩ := h k' hk'
      unfold goneG
      by_cases hf : f ≤ G k'
      · rw [if_pos hf]
        refine ⟨by omega, fun m i hm hi => ?_⟩
        by_cases hg : m < G k'
        · exact g2 m i hg hi
        · refine hin m i ?_ (by omega) hi
          unfold goneF; rw [if_pos hf]; omega
      · rw [if_neg hf]; exact ⟨g1, g2⟩
    · rw [updF_ne _ _ q]; exact h k' hk'
  · by_cases hg : goneF f e (G k) ≤ m
    · exact hin m i hg h2 h3
    · unfold goneF at hg
      split at hg
      · exact (h k hk).2 m i (by omega) h3
      · omega
end Go.Proofs.YtglafbajbiengaaGreat
