/- Threads of the call's own: one that grows, one that is turned in one place. And: which programs of such threads may be. No statement of its own. -/
import Derived.Test.YtfcfdneganknjaaIrMake
import Derived.OneCell
namespace Go.Proofs.Ytfcfdneganknjaa
set_option linter.unusedVariables false
set_option linter.unusedSimpArgs false
open Go.RowKit

/-- Where threads lie, if there are any. -/
theorem OwnThreads.addr {u : World} {base : Nat} {tv : Value} {vs : List Value} {cs : List (List InsD)} (h : OwnThreads u base tv vs cs) (hn : 0 < cs.length) :
    ∃ g cap, tv = .slice (some ⟨g, 0, none⟩) cs.length cap ∧ base ≤ g ∧ g < u.heap.size ∧ ∀ (k : Nat) (v : Value), vs[k]? = some v → u.cell? ⟨g, k, none⟩ = some v ∧ u.frozen? ⟨g, k, none⟩ = false := by
  have hl := h.len
  rcases h.thr.2 with ⟨rfl, h0⟩ | ⟨g, cap, cur, rfl, hb, hh, hle, _, hs, ht⟩
  · omega
  · refine ⟨g, cap, by rw [hl], hb, (Array.getElem?_eq_some_iff.1 hh).1, fun k v hv => ⟨?_, frozen_of_row _ _ _ _ _ hh⟩⟩
    have hk := (List.getElem?_eq_some_iff.1 hv).1
    rw [cell_of_row _ _ _ _ _ _ hh, ← hv, ← ht, List.getElem?_take_of_lt (by omega)]
    simp
theorem set_at {α : Type} {l : List α} {k j : Nat} {x y : α} (h : (l.set k x)[j]? = some y) : (j = k ∧ y = x ∧ k < l.length) ∨ (j ≠ k ∧ l[j]? = some y) := by
  by_cases e : j = k
  · subst e
    left
    have hk : j < l.length := by have := (List.getElem?_eq_some_iff.1 h).1; simpa using this
    rw [List.getElem?_set_self hk] at h
    exact ⟨rfl, (Option.some.inj h).symm, hk⟩
  · right; rw [List.getElem?_set_ne (fun e' => e e'.symm)] at h; exact ⟨e, h⟩
/-- A thread that an instruction was appended to is laid in its place again. -/
theorem OwnThreads.grow {u u' : World} {base : Nat} {g cap k : Nat} {v v' : Value} {vs : List Value} {cs : List (List InsD)} {c : List InsD} {x : InsD} (h : OwnThreads u base (.slice (some ⟨g, 0, none⟩) cs.length cap) vs cs)
    (hv : vs[k]? = some v) (hc : cs[k]? = some c) (hown : u'.ownsRow base 54 4 v' (c.length + 1) (codeCells c ++ insCells x)) (hg : u.grownBy u' v.ownBlock) (hat : v'.ownBlock = v.ownBlock ∨ v'.ownBlock = some u.heap.size) :
    OwnThreads (u'.setCell ⟨g, k, none⟩ v') base (.slice (some ⟨g, 0, none⟩) cs.length cap) (vs.set k v') (cs.set k (c ++ [x])) := by
  have hkl : k < vs.length := (List.getElem?_eq_some_iff.1 hv).1
  have hl := h.len
  have hthr : u'.ownsRow base 45 1 (.slice (some ⟨g, 0, none⟩) cs.length cap) vs.length vs := own_beside h.thr hg (h.apartT k v hv).symm
  have hTv : Apart (.slice (some ⟨g, 0, none⟩) cs.length cap) v' := apart_append h.thr (h.apartT k v hv).symm hat
  have hgv : v'.ownBlock ≠ some g := fun e => by
    rcases hTv with h1 | h1
    · simp [Value.ownBlock] at h1
    · exact h1 (by rw [e]; rfl)
  have hVv : ∀ (j : Nat) (b : Value), j ≠ k → vs[j]? = some b → Apart b v' := fun j b hj hb => by
    obtain ⟨d, _, hd⟩ := h.codeOf hb
    exact apart_append hd (h.apartV j k b v hj hb hv) hat
  refine ⟨by simp [hl], ?_, fun j b d hb hd => ?_, fun j b hb => ?_, fun i j b b' hij hb hb' => ?_⟩
  · rcases hthr.2 with ⟨e, _⟩ | ⟨g', cap', cur, e, hb, hh, hle, hm, hs, ht⟩
    · cases e
    · simp only [Value.slice.injEq, Option.some.injEq, Addr.mk.injEq] at e
      obtain ⟨⟨rfl, _⟩, _, rfl⟩ := e
      refine ⟨by simp, .inr ⟨g, cap, cur.setIfInBounds k v', by simp [hl], hb, heap_setCell_same _ _ _ _ _ _ hh, by simpa [hl] using hle, hm, by simpa using hs, ?_⟩⟩
      simp only [Array.toList_setIfInBounds, List.length_set, Nat.mul_one] at ht ⊢
      rw [List.take_set, ht]
  · rcases set_at hb with ⟨ej, eb, _⟩ | ⟨hj, hb⟩
    · subst ej; subst eb
      rcases set_at hd with ⟨_, ed, _⟩ | ⟨hj, _⟩
      · subst ed
        rw [codeCells_snoc, List.length_append]
        exact ownsRow_setCell_other (a := ⟨g, j, none⟩) hown hgv b
      · exact absurd rfl hj
    · rcases set_at hd with ⟨e, _, _⟩ | ⟨_, hd⟩
      · exact absurd e hj
      · have h1 := own_beside (h.code j b d hb hd) hg (h.apartV j k b v hj hb hv)
        refine ownsRow_setCell_other (a := ⟨g, k, none⟩) h1 (fun e => ?_) v'
        rcases h.apartT j b hb with h2 | h2
        · rw [h2] at e; cases e
        · exact h2 (by rw [e]; rfl)
  · rcases set_at hb with ⟨rfl, rfl, _⟩ | ⟨hj, hb⟩
    · exact hTv.symm
    · exact h.apartT j b hb
  · rcases set_at hb with ⟨ei, eb, _⟩ | ⟨hi, hb2⟩
    · rcases set_at hb' with ⟨e, _, _⟩ | ⟨hj, hb2'⟩
      · exact absurd (ei.trans e.symm) hij
      · rw [eb]; exact (hVv j b' hj hb2').symm
    · rcases set_at hb' with ⟨e, eb, _⟩ | ⟨hj, hb'⟩
      · rw [eb]; exact hVv i b hi hb2
      · exact h.apartV i j b b' hij hb2 hb'

theorem firstE_mem {l : List Int} (h : ∀ e ∈ l, e = 0) : firstE l = 0 := firstE_all h
/-- An instruction that may be. -/
theorem good_ins {p : ProgD} {n m : Nat} {m' : Int} {x : InsD} (hp : MadeP p) (hT : n ≤ p.threads.length) (hx : GoodIns n m' x) (hm : m' ≤ m) : insE p m x = 0 := by
  rcases hx with ⟨h1, h2⟩ | ⟨k, rfl, h1, h2⟩
  · unfold insE; rw [h1, h2 p m hp hm]; rfl
  · have hk : knownB ⟨12, k, 0, 0⟩ = true := by simp [knownB, wordsB, Row.at, rowAt, tab, InsD.at]
    have hf : fitsB p m ⟨12, k, 0, 0⟩ = true := by
      simp [fitsB, fitB, Row.at, rowAt, tab, InsD.at, canB, canL, wiB]; omega
    unfold insE; rw [hk, hf]; rfl
/-- A program of the laws' making. -/
def madeD (cs : List (List InsD)) : ProgD := ⟨2, 1, 1, [1], 1, 1, cs⟩
theorem madeP (cs : List (List InsD)) : MadeP (madeD cs) := ⟨rfl, rfl, rfl, rfl, rfl, rfl⟩
theorem made_sizes (cs : List (List InsD)) (h1 : 1 ≤ cs.length) (h6 : cs.length ≤ 6) (hl : ∀ c ∈ cs, c.length ≤ 60) : sizesB (madeD cs) = true := by
  unfold sizesB numsB longB
  have ha : ((madeD cs).threads.all fun c => decide (c.length ≤ 60)) = true := List.all_eq_true.2 fun c hc => by simpa using hl c hc
  have hb : wiB (((madeD cs).threads.length : Nat) : Int) 1 6 = true := wiB_true.2 (by show (1 : Int) ≤ (cs.length : Int) ∧ (cs.length : Int) ≤ 6; omega)
  rw [ha, hb]; rfl
theorem made_sound (cs : List (List InsD)) (h1 : 1 ≤ cs.length) (h6 : cs.length ≤ 6) (hl : ∀ c ∈ cs, c.length ≤ 60) : soundE (madeD cs) = threadsE (madeD cs) := by
  unfold soundE
  rw [made_sizes cs h1 h6 hl, show capsB (madeD cs).chans = true from rfl]
  show firstE [0, 0, _] = _
  have : ∀ e : Int, firstE [0, 0, e] = e := fun e => by
    show firstE [e] = e
    unfold firstE firstE; split <;> simp_all
  exact this _
theorem made_ok (cs : List (List InsD)) (n : Nat) (h1 : 1 ≤ cs.length) (h6 : cs.length ≤ 6) (hn : n ≤ cs.length) (hg : ∀ c ∈ cs, c.length ≤ 60 ∧ ∀ x ∈ c, GoodIns n c.length x) : soundE (madeD cs) = 0 := by
  rw [made_sound cs h1 h6 fun c hc => (hg c hc).1]
  refine firstE_map _ _ fun j c hj => firstE_map _ _ fun i x hi => ?_
  exact good_ins (madeP cs) hn ((hg c (List.mem_of_getElem? hj)).2 x (List.mem_of_getElem? hi)) (Int.le_refl _)
/-- The program lies as its value says. -/
theorem made_in {u : World} {base g : Nat} {tv : Value} {vs : List Value} {cs : List (List InsD)} {t : TypeId} {fr : Nat × Nat} (h : OwnThreads u base tv vs cs) (hc : u.heap[g]? = some (.cells #[.int .i64 1] t fr)) (hl : cs.length ≤ 1000) :
    ∃ ta tcap, tv = .slice ta cs.length tcap ∧ ProgIn u u.heap.size (madeD cs) (some ⟨g, 0, none⟩) ta := by
  obtain ⟨ta, tcap, rfl, hin⟩ := h.threads_in
  refine ⟨ta, tcap, rfl, fun i x hx => ?_, hin, by show 1 ≤ _; omega, by show cs.length ≤ _; omega⟩
  match i, hx with
  | 0, hx => cases hx; exact ⟨g, 0, rfl, (Array.getElem?_eq_some_iff.1 hc).1, cell_of_row _ _ _ _ _ _ hc⟩
  | i + 1, hx => simp [madeD] at hx
/-- Sound of it. -/
theorem made_calls {u : World} {base g : Nat} {tv : Value} {vs : List Value} {cs : List (List InsD)} {t : TypeId} {fr : Nat × Nat} (h : OwnThreads u base tv vs cs) (hc : u.heap[g]? = some (.cells #[.int .i64 1] t fr)) (hl : cs.length ≤ 1000) (e : Int) (he : soundE (madeD cs) = e) :
    Calls Try.prog 39 #[.agg #[.int .i64 2, .int .i64 1, .int .i64 1, .slice (some ⟨g, 0, none⟩) 1 1, .int .i64 1, .int .i64 1, tv]] u fun en w' => en = .returned (.int .u16 e) ∧ Below u.heap.size u w' := by
  obtain ⟨ta, tcap, rfl, hp⟩ := made_in h hc hl
  rw [← he]
  exact sound_any (madeD cs) (some ⟨g, 0, none⟩) 1 ta tcap u hp

end Go.Proofs.Ytfcfdneganknjaa
