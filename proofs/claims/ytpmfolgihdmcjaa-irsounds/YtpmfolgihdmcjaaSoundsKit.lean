/- A program that lies in a box of its own, bent in one place. No statement of its own. -/
import Derived.Test.YtpmfolgihdmcjaaProgKit
import Derived.Test.YtpmfolgihdmcjaaOpenProg
import Derived.Test.YtpmfolgihdmcjaaIrRef4
namespace Go.Proofs.Ytpmfolgihdmcjaa
set_option linter.unusedVariables false
set_option linter.unusedSimpArgs false
open Go.RowKit

theorem firstE_in : ∀ l : List Int, firstE l = 0 ∨ firstE l ∈ l
  | [] => .inl rfl
  | e :: r => by
    unfold firstE
    split
    · rcases firstE_in r with h | h
      · exact .inl h
      · exact .inr (List.mem_cons_of_mem _ h)
    · exact .inr (by simp)
theorem unE_in (b : Bool) (e : Int) : unE b e = 0 ∨ unE b e = e := by cases b <;> simp [unE]
theorem insE_in (p : ProgD) (n : Nat) (x : InsD) : 0 ≤ insE p n x ∧ insE p n x ≤ 21 := by
  unfold insE
  rcases firstE_in [unE (knownB x) 20, unE (fitsB p n x) 21] with h | h
  · omega
  · have a := unE_in (knownB x) 20
    have b := unE_in (fitsB p n x) 21
    simp only [List.mem_cons, List.not_mem_nil, or_false] at h
    omega
theorem codeE_in (p : ProgD) (c : List InsD) : 0 ≤ codeE p c ∧ codeE p c ≤ 21 := by
  unfold codeE
  rcases firstE_in (c.map (insE p c.length)) with h | h
  · omega
  · obtain ⟨x, _, e⟩ := List.mem_map.1 h
    rw [← e]; exact insE_in p _ x
theorem soundE_in (p : ProgD) : 0 ≤ soundE p ∧ soundE p ≤ 21 := by
  unfold soundE
  rcases firstE_in [unE (sizesB p) 3, unE (capsB p.chans) 21, threadsE p] with h | h
  · omega
  · have a := unE_in (sizesB p) 3
    have b := unE_in (capsB p.chans) 21
    have c : 0 ≤ threadsE p ∧ threadsE p ≤ 21 := by
      unfold threadsE
      rcases firstE_in (p.threads.map (codeE p)) with h | h
      · omega
      · obtain ⟨x, _, e⟩ := List.mem_map.1 h
        rw [← e]; exact codeE_in p x
    simp only [List.mem_cons, List.not_mem_nil, or_false] at h
    omega
theorem soundE_wrap (p : ProgD) : IntKind.i64.wrap (soundE p) = soundE p := by
  have := soundE_in p
  rw [IntKind.wrap_i64]; omega
/-- A program lies in a box of its own. -/
structure QSt (u : World) (B : Nat) (q : ProgD) (ca : Option Addr) (ccap : Nat) (ta : Option Addr) (tcap : Nat) : Prop where
  box : u.heap[B]? = some (.cells #[.int .i64 q.vars, .int .i64 q.atoms, .int .i64 q.locks, .slice ca q.chans.length ccap, .int .i64 q.groups, .int .i64 q.onces, .slice ta q.threads.length tcap] 26)
  inn : ProgIn u u.heap.size q ca ta
theorem ProgIn.later {u u' : World} {q : ProgD} {ca ta : Option Addr} (h : ProgIn u u.heap.size q ca ta) (hB : Below u.heap.size u u') : ProgIn u' u'.heap.size q ca ta := (h.below hB).wide hB.size
theorem QSt.later {u u' : World} {B : Nat} {q : ProgD} {ca : Option Addr} {ccap : Nat} {ta : Option Addr} {tcap : Nat} (h : QSt u B q ca ccap ta tcap) (hB : Below u.heap.size u u') : QSt u' B q ca ccap ta tcap :=
  ⟨(hB.block _ (Array.getElem?_eq_some_iff.1 h.box).1).trans h.box, h.inn.later hB⟩
theorem QSt.cells {u : World} {B : Nat} {q : ProgD} {ca : Option Addr} {ccap : Nat} {ta : Option Addr} {tcap : Nat} (h : QSt u B q ca ccap ta tcap) :
    u.cell? ⟨B, 0, none⟩ = some (.int .i64 q.vars) ∧ u.cell? ⟨B, 1, none⟩ = some (.int .i64 q.atoms) ∧ u.cell? ⟨B, 2, none⟩ = some (.int .i64 q.locks) ∧ u.cell? ⟨B, 3, none⟩ = some (.slice ca q.chans.length ccap) ∧ u.cell? ⟨B, 4, none⟩ = some (.int .i64 q.groups) ∧ u.cell? ⟨B, 5, none⟩ = some (.int .i64 q.onces) ∧ u.cell? ⟨B, 6, none⟩ = some (.slice ta q.threads.length tcap) :=
  ⟨cell_of_row _ _ 0 _ _ _ h.box, cell_of_row _ _ 1 _ _ _ h.box, cell_of_row _ _ 2 _ _ _ h.box, cell_of_row _ _ 3 _ _ _ h.box, cell_of_row _ _ 4 _ _ _ h.box, cell_of_row _ _ 5 _ _ _ h.box, cell_of_row _ _ 6 _ _ _ h.box⟩
theorem QSt.frozen {u : World} {B : Nat} {q : ProgD} {ca : Option Addr} {ccap : Nat} {ta : Option Addr} {tcap : Nat} (h : QSt u B q ca ccap ta tcap) (j : Nat) : u.frozen? ⟨B, j, none⟩ = false := frozen_of_row _ _ _ _ _ h.box
theorem keep1 {u u' : World} {b o : Nat} {v : Value} (h : u.cell? ⟨b, o, none⟩ = some v) (hB : Below u.heap.size u u') : u'.cell? ⟨b, o, none⟩ = some v := (hB.cell (p := ⟨b, o, none⟩) (cell_lt h)).trans h
theorem keep7 {u u' : World} {g : Nat} {v0 v1 v2 v3 v4 v5 v6 : Value} (k : u.cell? ⟨g, 0, none⟩ = some v0 ∧ u.cell? ⟨g, 1, none⟩ = some v1 ∧ u.cell? ⟨g, 2, none⟩ = some v2 ∧ u.cell? ⟨g, 3, none⟩ = some v3 ∧ u.cell? ⟨g, 4, none⟩ = some v4 ∧ u.cell? ⟨g, 5, none⟩ = some v5 ∧ u.cell? ⟨g, 6, none⟩ = some v6) (hB : Below u.heap.size u u') : u'.cell? ⟨g, 0, none⟩ = some v0 ∧ u'.cell? ⟨g, 1, none⟩ = some v1 ∧ u'.cell? ⟨g, 2, none⟩ = some v2 ∧ u'.cell? ⟨g, 3, none⟩ = some v3 ∧ u'.cell? ⟨g, 4, none⟩ = some v4 ∧ u'.cell? ⟨g, 5, none⟩ = some v5 ∧ u'.cell? ⟨g, 6, none⟩ = some v6 :=
  ⟨keep1 k.1 hB, keep1 k.2.1 hB, keep1 k.2.2.1 hB, keep1 k.2.2.2.1 hB, keep1 k.2.2.2.2.1 hB, keep1 k.2.2.2.2.2.1 hB, keep1 k.2.2.2.2.2.2 hB⟩
/-- A number of it is set. -/
theorem QSt.num {u : World} {B : Nat} {q q' : ProgD} {ca : Option Addr} {ccap : Nat} {ta : Option Addr} {tcap : Nat} (h : QSt u B q ca ccap ta tcap) (hin : ProgIn u B q ca ta) (j : Nat) (v : Value) (hc : q'.chans = q.chans) (ht : q'.threads = q.threads)
    (hbox : (#[.int .i64 q.vars, .int .i64 q.atoms, .int .i64 q.locks, .slice ca q.chans.length ccap, .int .i64 q.groups, .int .i64 q.onces, .slice ta q.threads.length tcap] : Array Value).setIfInBounds j v = #[.int .i64 q'.vars, .int .i64 q'.atoms, .int .i64 q'.locks, .slice ca q'.chans.length ccap, .int .i64 q'.groups, .int .i64 q'.onces, .slice ta q'.threads.length tcap]) :
    QSt (u.setCell ⟨B, j, none⟩ v) B q' ca ccap ta tcap := by
  have hlt := (Array.getElem?_eq_some_iff.1 h.box).1
  refine ⟨by rw [heap_setCell_same _ _ _ _ _ _ h.box, hbox], ?_⟩
  have h1 := hin.below ((Below.refl B u).setCell (p := ⟨B, j, none⟩) (Nat.le_refl _) v)
  have h2 := h1.wide (B' := (u.setCell ⟨B, j, none⟩ v).heap.size) (by simp [World.setCell]; omega)
  exact ⟨by rw [hc]; exact h2.chans, by rw [ht]; exact h2.threads, by rw [hc]; exact h2.clen, by rw [ht]; exact h2.tlen⟩
theorem ProgSt.q {w u : World} {B : Nat} {ta : Option Addr} {tcap : Nat} {vs : List Value} {cs : List (List InsD)} (h : ProgSt w u B (.slice ta cs.length tcap) vs cs) (hl : cs.length ≤ 1000) : QSt u B (madeD cs) (some ⟨w.heap.size + 1, 0, none⟩) 1 ta tcap := by
  obtain ⟨ta', tcap', e, hp⟩ := made_in h.own h.chn hl
  simp only [Value.slice.injEq] at e
  obtain ⟨rfl, _, rfl⟩ := e
  exact ⟨h.box, hp⟩

end Go.Proofs.Ytpmfolgihdmcjaa
