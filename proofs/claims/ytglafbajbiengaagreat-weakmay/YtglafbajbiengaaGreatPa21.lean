/- What the laws of this seat stand on, part 21. -/
import Derived.Test.YtglafbajbiengaaGreatPa0
import Derived.Test.YtglafbajbiengaaGreatPa14
import Derived.Test.YtglafbajbiengaaGreatPa20
set_option linter.unusedVariables false
set_option linter.unusedSimpArgs false
set_option maxRecDepth 100000
set_option maxHeartbeats 40000000
namespace Go.Proofs.YtglafbajbiengaaGreat
open Go.ChangeShapes Go.WideShapes Go.ChangeAt Go.RowKit Go.Maps
theorem eF81 {f : Nat → Value} {t : Nat} {v : Value} (k : f t = v) (h : t < 81 := by omega) : (actF 81 [] f).tmps[t]?.getD undef = v := (actF_get h).trans k
theorem info_progN : (Tryz.prog.info? 26).map (·.size) = some 7 := by kernel_rfl
theorem map_made {u : World} {gm : Nat} (hb : u.heap[gm]? = some (.map #[] 0)) : u.ownsMap Tryz.prog 198 (plainElem (H := Unit) Tryz.prog 3) gm 0 (.map []) := by
  obtain ⟨es, clock, h1, F, h2, h3⟩ := World.ownsMap_made (H := Unit) u Tryz.prog 198 (plainElem (H := Unit) Tryz.prog 3)
  rw [heap_alloc_new] at h1
  cases h1
  exact ⟨#[], 0, hb, F, h2, h3⟩
def BkE (W : World) (f0 : Nat → Value) (pv : Array Value) (ta : Option Addr) (tc n : Nat) (chans : List Int) (L : Nat → Bool) (f : Nat → Value) (u : World) : Prop := ∃ R c d gm gs g0, BkI W f0 pv ta tc n chans R c d gm gs g0 L f u
/-- All has come up: the walk's beginning. -/
theorem BkI.walk {W : World} {f0 f : Nat → Value} {pv : Array Value} {ta : Option Addr} {tc n : Nat} {chans : List Int} {R : Array Value} {c d gm gs g0 : Nat} {u : World} (h : BkI W f0 pv ta tc n chans R c d gm gs g0 (fun _ => true) f u) :
    f 5 = .pointer (some ⟨g0, 0, none⟩) ∧ WkIn (XB W.heap.size c d) chans R W.heap.size g0 gm [] (fun _ => []) (fun _ => []) (fun _ => 0) (List.replicate n false) [] (fun _ => .slice none 0 0) (.slice none 0 0) (.slice (some ⟨gs, 0, none⟩) n n) u := by
  obtain ⟨_, b1, b2, hR⟩ := h.v1 rfl
  obtain ⟨_, m1, m2⟩ := h.v2 rfl
  obtain ⟨_, s1, s2⟩ := h.v5 rfl
  obtain ⟨_, g1, g2, g3, g4⟩ := h.v7 rfl
  have hx1 := h.x12 rfl rfl
  have hx2 := h.x15 rfl rfl
  have hx3 := h.x25 rfl rfl
  have hs := hR.size
  have hz := h.bel.size
  refine ⟨h.v8 rfl, ⟨⟨fun i => ?_, fun _ _ _ => .inl rfl, hz⟩, World.ownsRow_nil _ _ _ _, ?_, map_made m2, ⟨_, g4, by simp [hs], fun j hj => Array.getElem?_append_left (by omega), ?_, ?_, ?_, ?_⟩, hR, fun _ => .inl rfl, fun _ => .inl rfl, .inl rfl, fun g hg => ⟨fun _ q => (by cases q), fun q => (by cases q), fun q => (by have q' : gs = g := Option.some.inj q; rcases hg with e | e <;> omega)⟩, by omega, ⟨by omega, m1⟩, fun g hb hg => ?_, fun g hg => ⟨by omega, by omega⟩, fun _ _ => ⟨rfl, rfl, rfl, rfl, rfl⟩, fun p hp => (by cases hp), List.nodup_nil⟩⟩
  · have : flW (fun _ => []) (fun _ => []) [] i = [] := by cases i <;> simp [flW, ofN]
    rw [this]; exact World.ownsRow_nil _ _ _ _
  · rw [List.length_replicate, List.map_replicate]; exact s2
  · rw [Array.getElem?_append_right (by omega), hs]; rfl
  · rw [Array.getElem?_append_right (by omega), hs]; rfl
  · rw [Array.getElem?_append_right (by omega), hs]; rfl
  · rw [Array.getElem?_append_right (by omega), hs]; rfl
  · refine ⟨hb, ?_⟩
    rcases hg with rfl | rfl | ⟨i, q⟩ | q | q
    · omega
    · exact hx1
    · cases q
    · cases q
    · cases q; exact hx2
/-- What has been gone back to, and what is yet to be. -/
structure BkInv (D : Nat → Nat → Bool) (j0 : Nat) (seen : List Bool) (st : List Nat) : Prop where
  sound : ∀ i : Nat, seen[i]? = some true → Bef D j0 i
  stk : ∀ i ∈ st, i = j0 ∨ seen[i]? = some true
  closed : ∀ k : Nat, (k = j0 ∨ seen[k]? = some true) → k ∉ st → ∀ i : Nat, D i k = true → seen[i]? = some true
theorem BkInv.step {D : Nat → Nat → Bool} {j0 j : Nat} {seen seen' : List Bool} {st st' : List Nat} (h : BkInv D j0 seen (st ++ [j])) (hM : Marked (fun i => D i j) seen st seen' st') (hC : ∀ i : Nat, D i j = true → seen'[i]? = some true) : BkInv D j0 seen' st' := by
  refine ⟨fun i hi => ?_, fun i hi => ?_, fun k hk hn i hd => ?_⟩
  · rcases hM.new i hi with q | q
    · exact h.sound i q
    · rcases h.stk j (by simp) with e | e
      · subst e; exact .one q
      · exact .more q (h.sound j e)
  · rcases hM.st_in i hi with q | q
    · exact (h.stk i (by simp [q])).imp id (hM.up i)
    · exact .inr q
  · by_cases e : k = j
    · subst e; exact hC i hd
    · have hk' : k = j0 ∨ seen[k]? = some true := by
        rcases hk with q | q
        · exact .inl q
        · exact .inr ((hM.st_new k q).resolve_right hn)
      refine hM.up i (h.closed k hk' (fun q => ?_) i hd)
      rcases List.mem_append.1 q with q | q
      · exact hn (hM.st_up k q)
      · exact e (List.mem_singleton.1 q)
theorem BkInv.done {D : Nat → Nat → Bool} (hD : Up D) {j0 : Nat} {seen : List Bool} (h : BkInv D j0 seen []) (i : Nat) (hi : i < seen.length) : seen[i]? = some (befB D i j0) := by
  have key := bef_of_closed (D := D) (j := j0) (s := fun i => seen[i]? == some true) (fun i q => h.sound i (by simpa using q)) (fun i q => by simpa using h.closed j0 (.inl rfl) (by simp) i q) (fun i k q d => by simpa using h.closed k (.inr (by simpa using q)) (by simp) i d) i
  rw [List.getElem?_eq_getElem hi]
  congr 1
  have k2 : (seen[i] = true) ↔ befB D i j0 = true := by
    rw [befB_iff hD, ← key]
    simp [List.getElem?_eq_getElem hi]
  rw [Bool.eq_iff_iff]; exact k2
theorem BkInv.start {D : Nat → Nat → Bool} {j0 n : Nat} : BkInv D j0 (List.replicate n false) [j0] := by
  have z : ∀ i : Nat, (List.replicate n false)[i]? ≠ some true := fun i q => by
    rw [List.getElem?_replicate] at q; split at q <;> cases q
  exact ⟨fun i q => absurd q (z i), fun i q => .inl (List.mem_singleton.1 q), fun k q hn => by
    rcases q with q | q
    · exact absurd (by simp [q]) hn
    · exact absurd q (z k)⟩
/-- A row of the call's own without its last one. -/
theorem own_pop {u : World} {base : Nat} {e : TypeId} {a : Option Addr} {n c : Nat} {xs : List Value} {x : Value} (h : u.ownsRow base e 1 (.slice a (n + 1) c) (n + 1) (xs ++ [x])) : u.ownsRow base e 1 (.slice a n c) n xs := by
  have hl : xs.length = n := by have := h.1; simp at this; omega
  refine ⟨by omega, ?_⟩
  rcases h.2 with ⟨h0, h1⟩ | ⟨g, cap, cur, e', hb, hh, hle, hcap, hsz, ht⟩
  · omega
  · injection e' with e1 e2 e3
    subst e1 e3
    refine .inr ⟨g, c, cur, rfl, hb, hh, by omega, hcap, hsz, ?_⟩
    have e1 : List.take n (List.take ((n + 1) * 1) cur.toList) = List.take n (xs ++ [x]) := by rw [ht]
    rw [List.take_take, show min n ((n + 1) * 1) = n by omega, List.take_left' hl] at e1
    rw [Nat.mul_one]; exact e1
theorem nil_or_snoc {α : Type} (l : List α) : l = [] ∨ ∃ L b, l = L ++ [b] := by
  induction l using snoc_ind with
  | h0 => exact .inl rfl
  | h1 l a _ => exact .inr ⟨l, a, rfl⟩
def NoteL (X : Nat → Prop) (chans : List Int) (R : Array Value) (base g0 gm : Nat) (n : Nat) (sv : Value) (t : List EvD) (w : World) (i : Nat) (V : World) : Prop :=
  ∃ ks A B fv rv, WkIn X chans R base g0 gm ks A B (fun _ => 0) (List.replicate n false) [] fv rv sv V ∧ RowsOk chans t (fun _ => i) (fun _ => i) ks A B ∧ Below w.heap.size w V ∧ ks.length ≤ 20 * i
def BackL (X : Nat → Prop) (chans : List Int) (R : Array Value) (base g0 gm : Nat) (A B : Nat → List Nat) (sv : Value) (t : List EvD) (w : World) (g : Nat) (V : World) : Prop :=
  ∃ ks G seen st fv rv, WkIn X chans R base g0 gm ks A B G seen st fv rv sv V ∧ RowsOk chans t (fun _ => t.length) (fun _ => t.length) ks A B ∧ GoneOk ks.length A G seen ∧ seen.length = t.length ∧ BkInv (dirB chans t) (t.length - 1) seen st ∧ (∀ i ∈ st, i < t.length) ∧ Below w.heap.size w V ∧ 2 * seen.countP (· == false) + st.length = g ∧ ks.length + 10 * g ≤ 20 * t.length + 10 * (2 * t.length + 1)
def BackE (chans : List Int) (t : List EvD) (w : World) (e : Ending) (V : World) : Prop :=
  ∃ (a : Option Addr) (cap : Nat) (seen : List Bool), e = .returned (.slice a t.length cap) ∧ seen.length = t.length ∧ V.ownsRow w.heap.size 4 1 (.slice a t.length cap) t.length (seen.map .bool) ∧ (∀ i, i < t.length → seen[i]? = some (befB (dirB chans t) i (t.length - 1))) ∧ Below w.heap.size w V
theorem back_any (v0 v1 v2 : Value) (ca : Option Addr) (ccap : Nat) (chans : List Int) (v4 v5 v6 : Value) (a : Option Addr) (cap : Nat) (t : List EvD) (w : World) (hc : ChIn w ca chans) (he : EvsIn w w.heap.size a t) (hW : ∀ e ∈ t, EvW e) (hl : t.length ≤ 1000) (h0 : 0 < t.length) (hcap : t.length ≤ cap) (hv : (#[v0, v1, v2, .slice ca chans.length ccap, v4, v5, v6] : Array Value).all (·.oneCell') = true) :
    Calls Tryz.prog 57 #[.agg #[v0, v1, v2, .slice ca chans.length ccap, v4, v5, v6], .slice a t.length cap] w (BackE chans t w) := by
  obtain ⟨tj, hj0, jz0, jz1, jz2⟩ := info_parts info_intT
  obtain ⟨ti, hi0, iz0, iz1, iz2⟩ := info_parts info_boolT
  have HC := Lib.hid hc
  have HE := Lib.hid he
  have HW := Lib.hid hW
  have HV := Lib.hid hv
  clear hc he hW hv
  go_enter Tryz.func57, Tryz.ntmps57
  go_upto_region 1 with (fail)
  generalize hU : World.alloc w _ = U
  have HNU : Hid (U.heap[w.heap.size]? = some (.cells #[v0, v1, v2, .slice ca chans.length ccap, v4, v5, v6] 26)) := Lib.hid (by rw [← hU]; exact heap_alloc_new _ _)
  have HU := Lib.hid (show Below w.heap.size w U by rw [← hU]; exact below_box _ _)
  have HCU := Lib.hid (HC.out.later HU.out)
  clear hU
  refine wp_region_famK (by kernel_rfl) 81 rfl [] rfl (by kernel_rfl) (fun f0 => BkE U.drew f0 #[v0, v1, v2, .slice ca chans.length ccap, v4, v5, v6] a cap t.length chans) ?h0 ?hstep ?hdone
  case h0 =>
    have z : ∀ j, j < 9 → ¬ (decide (9 ≤ j) = true) := fun j hj q => by have := of_decide_eq_true q; omega
    exact ⟨#[], 0, 0, 0, 0, 0, Below.refl _ _, fun t _ _ _ _ _ _ _ _ _ => rfl, fun q => absurd q (z 0 (by omega)), fun q => absurd q (z 1 (by omega)), fun q => absurd q (z 2 (by omega)), fun q => absurd q (z 3 (by omega)), fun q => absurd q (z 4 (by omega)), fun q => absurd q (z 5 (by omega)), fun q => absurd q (z 1 (by omega)), fun q => absurd q (z 1 (by omega)), fun q => absurd q (z 2 (by omega)), fun q => absurd q (z 6 (by omega)), fun q => absurd q (z 7 (by omega)), fun q => absurd q (z 8 (by omega)), fun q => absurd q (z 6 (by omega)), fun q => absurd q (z 7 (by omega)), fun q => absurd q (z 8 (by omega))⟩
  case hstep =>
    intro L f u i o ho hL hd hI
    obtain ⟨R, c, d, gm, gs, g0, hI⟩ := hI
    have hi : i < 9 := (Array.getElem?_eq_some_iff.1 ho).1
    have hBu : Below U.heap.size U u := ⟨hI.bel.os, hI.bel.tape, hI.bel.output, hI.bel.size, hI.bel.block⟩
    have k1 : f 1 = .slice a t.length cap := hI.keep 1 (by omega) (by omega) (by omega) (by omega) (by omega) (by omega) (by omega) (by omega) (by omega)
    have k2 : f 2 = .pointer (some ⟨w.heap.size, 0, none⟩) := hI.keep 2 (by omega) (by omega) (by omega) (by omega) (by omega) (by omega) (by omega) (by omega) (by omega)
    have hpf : ∀ (s : Nat) (v : Value) (t' : Nat), t' ≠ s → putF f (some s) v t' = f t' := fun s v t' h => putF_ne (by intro e; exact h (Option.some.inj e).symm)
    have hlu : ∀ j, ∀ i', i' ≠ j → upL L j i' = L i' := fun j i' h => upL_ne _ h
    have triv : ∀ {α : Prop} {x y : Nat}, x ≠ y → x = y → α := fun h e => absurd e h
    match i, hi, ho, hL, hd with
    | 0, _, ho, hL, hd =>
      have he : _ = o := Option.some.inj ho
      have hop : o.op = Op.load 26 (.tmp 2) := by rw [← he]; rfl
      have hg : o.guard = none := by rw [← he]; rfl
      have hds : o.dst = some 10 := by rw [← he]; rfl
      refine wpOp_fam (v := .agg #[v0, v1, v2, .slice ca chans.length ccap, v4, v5, v6]) (w' := u) ho hg ?_ (by rw [hds]; exact ⟨R, c, d, gm, gs, g0, hI.next (j := 0) (s := 10) (Below.refl _ _) (hpf _ _) (hlu _) (by simp) (fun _ => putF_same) (triv (by omega)) (triv (by omega)) (triv (by omega)) (triv (by omega)) (triv (by omega)) (triv (by omega)) (triv (by omega)) (triv (by omega)) (by omega) (by omega) (by omega) ⟨triv (by omega), triv (by omega), triv (by omega)⟩ (upL_same _ _)⟩)
      have hr := run_loadVar_row (P := Tryz.prog) u w.heap.size 26 26 _ (0, 0) _ (old_later HNU.out hBu) Tryz.underlying26 rfl info_progN
      have e0 := eF81 k2
      clear ho hd he hI; unfold execOp; rw [hop]; simp [Act.eval, e0, Instr.loadAt, Instr.sureAddr, hr, Result.andThen]
    | 1, _, ho, hL, hd =>
      have he : _ = o := Option.some.inj ho
      have hop : o.op = Op.call { callee := .value (.func 83), args := #[.tmp 10], argTypes := #[26] } := by rw [← he]; rfl
      have hg : o.guard = none := by rw [← he]; rfl
      have hds : o.dst = some 11 := by rw [← he]; rfl
      have v10 := hI.v0 (dep_of hd 0 (by rw [← he]; kernel_rfl))
      have hCu := HCU.out.later hBu
      refine wpOp_fam_call (w' := u) (fn := 83) (args := #[.agg #[v0, v1, v2, .slice ca chans.length ccap, v4, v5, v6]]) ho hg ?_ ((rules_any (fun g => U.drew.heap.size ≤ g ∧ g < u.heap.size) v0 v1 v2 ca ccap chans v4 v5 v6 u hCu.row hCu.len hCu.wf (fun g h => h.2) (fun hne ch off e q => ?_)).mono ?_)
      rotate_left
      · obtain ⟨x, hx⟩ := at_lt (l := chans) (k := 0) (by cases chans with | nil => exact absurd rfl hne | cons => simp)
        obtain ⟨g, o', e', hg', _⟩ := HCU.out.row 0 x hx
        rw [e] at e'; cases e'
        have : U.drew.heap.size = U.heap.size := rfl
        omega
      · rintro e w' ⟨R', rfl, hR', hB2⟩
        have hw := hI.reRules hL R' u.heap.size w'.heap.size
        refine ⟨_, rfl, R', u.heap.size, w'.heap.size, gm, gs, g0, ?_⟩
        rw [hds]
        exact hw.next (j := 1) (s := 11) hB2 (hpf _ _) (hlu _) (by simp) (triv (by omega)) (triv (by omega)) (triv (by omega)) (triv (by omega)) (triv (by omega)) (fun _ => ⟨putF_same, hI.bel.size, Nat.le_refl _, hR'.widen fun g hg q => ⟨q.1, by have := q.2; omega⟩⟩) (triv (by omega)) (triv (by omega)) (triv (by omega)) (fun _ _ q => by
          rw [upL_ne _ (by omega)] at q
          have := (Array.getElem?_eq_some_iff.1 (hI.v2 q).2.2).1; omega) (fun _ _ q => by
          rw [upL_ne _ (by omega)] at q
          have := (own_lt (hI.v5 q).2.2 gs rfl).1; omega) (by omega) ⟨triv (by omega), triv (by omega), triv (by omega)⟩ (upL_same _ _)
      · have hcf := cf_of Tryz.func83 (by kernel_rfl) (by kernel_rfl)
        have e0 := eF81 v10
        clear ho hd he hI; unfold execOp; rw [hop]; go_simp
    | 2, _, ho, hL, hd =>
      have he : _ = o := Option.some.inj ho
      have hop : o.op = Op.makeMap 158 none := by rw [← he]; rfl
      have hg : o.guard = none := by rw [← he]; rfl
      have hds : o.dst = some 12 := by rw [← he]; rfl
      have hw := hI.reMap hL u.heap.size
      refine wpOp_fam (v := .map (some u.heap.size)) (w' := u.alloc (.map #[] 0)) ho hg ?_ (by rw [hds]; exact ⟨R, c, d, u.heap.size, gs, g0, hw.next (j := 2) (s := 12) (below_box _ _) (hpf _ _) (hlu _) (by simp) (triv (by omega)) (triv (by omega)) (triv (by omega)) (triv (by omega)) (triv (by omega)) (triv (by omega)) (fun _ => ⟨putF_same, hI.bel.size, heap_alloc_new _ _⟩) (triv (by omega)) (triv (by omega)) (fun _ q _ => by
          rw [upL_ne _ (by omega)] at q
          have := (hI.v1 q).2.2.1; omega) (by omega) (fun _ _ q => by
          rw [upL_ne _ (by omega)] at q
          have := (own_lt (hI.v5 q).2.2 gs rfl).1; omega) ⟨triv (by omega), triv (by omega), triv (by omega)⟩ (upL_same _ _)⟩)
      have hmm := @run_makeMap Tryz.prog
      clear ho hd he hI hw; unfold execOp; rw [hop]; go_simp
    | 3, _, ho, hL, hd =>
      have he : _ = o := Option.some.inj ho
      have hop : o.op = Op.move (.tmp 1) := by rw [← he]; rfl
      have hg : o.guard = none := by rw [← he]; rfl
      have hds : o.dst = some 13 := by rw [← he]; rfl
      refine wpOp_fam (v := .slice a t.length cap) (w' := u) ho hg ?_ (by rw [hds]; exact ⟨R, c, d, gm, gs, g0, hI.next (j := 3) (s := 13) (Below.refl _ _) (hpf _ _) (hlu _) (by simp) (triv (by omega)) (fun _ => putF_same) (triv (by omega)) (triv (by omega)) (triv (by omega)) (triv (by omega)) (triv (by omega)) (triv (by omega)) (triv (by omega)) (by omega) (by omega) (by omega) ⟨triv (by omega), triv (by omega), triv (by omega)⟩ (upL_same _ _)⟩)
      have e0 := eF81 k1
      clear ho hd he hI; unfold execOp; rw [hop]; go_simp
    | 4, _, ho, hL, hd =>
      have he : _ = o := Option.some.inj ho
      have hop : o.op = Op.call { callee := .builtin .len, args := #[.tmp 13], argTypes := #[27] } := by rw [← he]; rfl
      have hg : o.guard = none := by rw [← he]; rfl
      have hds : o.dst = some 14 := by rw [← he]; rfl
      have v13 := hI.v3 (dep_of hd 3 (by rw [← he]; kernel_rfl))
      refine wpOp_fam (v := .int .i64 t.length) (w' := u) ho hg ?_ (by rw [hds]; exact ⟨R, c, d, gm, gs, g0, hI.next (j := 4) (s := 14) (Below.refl _ _) (hpf _ _) (hlu _) (by simp) (triv (by omega)) (triv (by omega)) (fun _ => putF_same) (triv (by omega)) (triv (by omega)) (triv (by omega)) (triv (by omega)) (triv (by omega)) (triv (by omega)) (by omega) (by omega) (by omega) ⟨triv (by omega), triv (by omega), triv (by omega)⟩ (upL_same _ _)⟩)
      have e0 := eF81 v13
      clear ho hd he hI; unfold execOp; rw [hop]; go_simp
    | 5, _, ho, hL, hd =>
      have he : _ = o := Option.some.inj ho
      have hop : o.op = Op.makeSlice 59 (.tmp 14) (.tmp 14) := by rw [← he]; rfl
      have hg : o.guard = none := by rw [← he]; rfl
      have hds : o.dst = some 15 := by rw [← he]; rfl
      have v14 := hI.v4 (dep_of hd 4 (by rw [← he]; kernel_rfl))
      obtain ⟨w2, hrun, r1, r2⟩ := run_make_full (P := Tryz.prog) u u.heap.size 59 4 ti (.bool false) 1 Tryz.underlying59 hi0 iz0 iz1 .i64 .i64 t.length (by rw [iz2]; omega) (by unfold maxLen; omega) (Nat.le_refl _)
      have hB2 : Below u.heap.size u w2 := (Below.refl _ _).grown r2 (Nat.le_refl _) (fun g e => by cases e)
      rw [made_bool] at r1
      have r3 := own_base r1 hI.bel.size
      have hw := hI.reSeen hL u.heap.size
      refine wpOp_fam (v := .slice (some ⟨u.heap.size, 0, none⟩) t.length t.length) (w' := w2) ho hg ?_ (by rw [hds]; exact ⟨R, c, d, gm, u.heap.size, g0, hw.next (j := 5) (s := 15) hB2 (hpf _ _) (hlu _) (by simp) (triv (by omega)) (triv (by omega)) (triv (by omega)) (triv (by omega)) (triv (by omega)) (triv (by omega)) (triv (by omega)) (fun _ => ⟨putF_same, hI.bel.size, r3⟩) (triv (by omega)) (by omega) (fun _ q _ => by
          rw [upL_ne _ (by omega)] at q
          have := (hI.v1 q).2.2.1; omega) (fun _ q _ => by
          rw [upL_ne _ (by omega)] at q
          have := (Array.getElem?_eq_some_iff.1 (hI.v2 q).2.2).1; omega) ⟨triv (by omega), triv (by omega), triv (by omega)⟩ (upL_same _ _)⟩)
      have e0 := eF81 v14
      clear ho hd he hI hw; unfold execOp; rw [hop]; go_simp
    | 6, _, ho, hL, hd =>
      have he : _ = o := Option.some.inj ho
      have hop : o.op = Op.build 161 #[(0, .tmp 11), (2, .tmp 12), (3, .tmp 15)] := by rw [← he]; rfl
      have hg : o.guard = none := by rw [← he]; rfl
      have hds : o.dst = some 16 := by rw [← he]; rfl
      have l1 := dep_of hd 1 (by rw [← he]; kernel_rfl)
      have l2 := dep_of hd 2 (by rw [← he]; kernel_rfl)
      have l5 := dep_of hd 5 (by rw [← he]; kernel_rfl)
      have v11 := hI.v1 l1
      have v12 := hI.v2 l2
      have v15 := hI.v5 l5
      refine wpOp_fam (v := .agg (R ++ #[.slice none 0 0, .map (some gm), .slice (some ⟨gs, 0, none⟩) t.length t.length, .slice none 0 0])) (w' := u) ho hg ?_ (by rw [hds]; exact ⟨R, c, d, gm, gs, g0, hI.next (j := 6) (s := 16) (Below.refl _ _) (hpf _ _) (hlu _) (by simp) (triv (by omega)) (triv (by omega)) (triv (by omega)) (fun _ => putF_same) (triv (by omega)) (triv (by omega)) (triv (by omega)) (triv (by omega)) (triv (by omega)) (by omega) (by omega) (by omega) ⟨fun _ => ⟨l1, l2, l5⟩, triv (by omega), triv (by omega)⟩ (upL_same _ _)⟩)
      have hb := built_walk v11.2.2.2.size gm (some ⟨gs, 0, none⟩) t.length t.length u
      have e0 := eF81 v11.1
      have e1 := eF81 v12.1
      have e2 := eF81 v15.1
      clear ho hd he hI; unfold execOp; rw [hop]; simp [Act.eval, e0, e1, e2, hb, Result.andThen]
    | 7, _, ho, hL, hd =>
      have he : _ = o := Option.some.inj ho
      have hop : o.op = Op.box 161 (.tmp 16) := by rw [← he]; rfl
      have hg : o.guard = none := by rw [← he]; rfl
      have hds : o.dst = some 17 := by rw [← he]; rfl
      have l6 := dep_of hd 6 (by rw [← he]; kernel_rfl)
      obtain ⟨l1, l2, l5⟩ := hI.d6 l6
      have v16 := hI.v6 l6
      have hw := hI.reBox hL u.heap.size
      refine wpOp_fam (v := .pointer (some ⟨u.heap.size, 0, none⟩)) (w' := u.alloc (.cells (R ++ #[.slice none 0 0, .map (some gm), .slice (some ⟨gs, 0, none⟩) t.length t.length, .slice none 0 0]) 161)) ho hg ?_ (by rw [hds]; exact ⟨R, c, d, gm, gs, u.heap.size, hw.next (j := 7) (s := 17) (below_box _ _) (hpf _ _) (hlu _) (by simp) (triv (by omega)) (triv (by omega)) (triv (by omega)) (triv (by omega)) (triv (by omega)) (triv (by omega)) (triv (by omega)) (triv (by omega)) (fun _ => ⟨putF_same, (hI.v1 l1).2.2.1, (Array.getElem?_eq_some_iff.1 (hI.v2 l2).2.2).1, (own_lt (hI.v5 l5).2.2 gs rfl).1, heap_alloc_new _ _⟩) (by omega) (by omega) (by omega) ⟨triv (by omega), fun _ => l6, triv (by omega)⟩ (upL_same _ _)⟩)
      have e0 := eF81 v16
      clear ho hd he hI hw; unfold execOp; rw [hop]; go_simp
    | 8, _, ho, hL, hd =>
      have he : _ = o := Option.some.inj ho
      have hop : o.op = Op.assign (.tmp 17) := by rw [← he]; rfl
      have hg : o.guard = none := by rw [← he]; rfl
      have hds : o.dst = some 5 := by rw [← he]; rfl
      have l7 := dep_of hd 7 (by rw [← he]; kernel_rfl)
      have v17 := (hI.v7 l7).1
      refine wpOp_fam (v := .pointer (some ⟨g0, 0, none⟩)) (w' := u) ho hg ?_ (by rw [hds]; exact ⟨R, c, d, gm, gs, g0, hI.next (j := 8) (s := 5) (Below.refl _ _) (hpf _ _) (hlu _) (by simp) (triv (by omega)) (triv (by omega)) (triv (by omega)) (triv (by omega)) (fun _ => putF_same) (triv (by omega)) (triv (by omega)) (triv (by omega)) (triv (by omega)) (by omega) (by omega) (by omega) ⟨triv (by omega), triv (by omega), fun _ => l7⟩ (upL_same _ _)⟩)
      have e0 := eF81 v17
      clear ho hd he hI; unfold execOp; rw [hop]; go_simp
  case hdone =>
    intro f u hI
    obtain ⟨R, c, d, gm, gs, g0, hI⟩ := hI
    obtain ⟨f5, hK⟩ := hI.walk
    have hke := hI.keep
    rw [actF_puts _ 81 rfl f [5, 10, 11, 12, 13, 14, 15, 16, 17] (fun t _ ht => hke t (fun e => ht (by simp [e])) (fun e => ht (by simp [e])) (fun e => ht (by simp [e])) (fun e => ht (by simp [e])) (fun e => ht (by simp [e])) (fun e => ht (by simp [e])) (fun e => ht (by simp [e])) (fun e => ht (by simp [e])) (fun e => ht (by simp [e])))]
    simp only [List.foldl_cons, List.foldl_nil, Act.put, zz3, zz4, zz5]
    rw [f5]
    have HWu := Lib.hid (below_next HU.out (show Below U.heap.size U u from ⟨hI.bel.os, hI.bel.tape, hI.bel.output, hI.bel.size, hI.bel.block⟩))
    have HK := Lib.hid hK
    clear hI hK hke f5
    generalize hbs : U.drew.heap.size = base at *
    have hbase : w.heap.size ≤ base := by rw [← hbs]; exact HU.out.size
    have HNL : Hid (NoteL (XB base c d) chans R base g0 gm t.length (.slice (some ⟨gs, 0, none⟩) t.length t.length) t w 0 u) := Lib.hid ⟨[], _, _, _, _, HK.out, ⟨fun k n x hk => by simp at hk, fun m r x hr hn => ⟨rfl, fun _ => rfl⟩⟩, HWu.out, by simp⟩
    have hBW : ∀ {ks A B G seen st fv rv sv V Z' V'}, WkIn (XB base c d) chans R base g0 gm ks A B G seen st fv rv sv V → WkGo (Wb g0 gm fv rv sv) Z' V V' → Below w.heap.size w V → Below w.heap.size w V' := fun h go hB => hB.trans (go.touch.below (fun k hk => Nat.le_trans hbase (h.lt hk).2) hB.size)
    clear hbs HK HWu HNU HCU
    go_wp2_with fail
    go_loopw [20] (fun k V => ∃ i : Nat, i ≤ t.length ∧ k = .int .i64 i ∧ NoteL (XB base c d) chans R base g0 gm t.length (.slice (some ⟨gs, 0, none⟩) t.length t.length) t w i V) (fun k _ => t.length - (intOf k).toNat)
    case atStart => exact ⟨0, Nat.zero_le _, rfl, HNL.out⟩
    case round =>
      obtain ⟨i, hi, rfl, ks, A, B, fv, rv, hK, hR, hB, hln⟩ := hrel
      have HK := Lib.hid hK
      have HR := Lib.hid hR
      have HB := Lib.hid hB
      clear hK hR hB HNL
      by_cases hlt : i < t.length
      · obtain ⟨e, he⟩ := at_lt hlt
        have hWe := HW.out e (List.mem_of_getElem? he)
        obtain ⟨g, o, rfl, hg, c0, c1, c2, c3, c4, c5⟩ := (HE.out.later HB.out) i e he
        have hlt' : (i : Int) < (t.length : Int) := by omega
        have HEe := Lib.hid he
        have HWe := Lib.hid hWe
        clear he hWe
        obtain ⟨th, pc, op, obj, val, mode⟩ := e
        go_wp2_with (go_at_call 84; refine (note_any (HK.out.later (below_box wr _)) (t := t) (i := i) (e := ⟨th, pc, op, obj, val, mode⟩) HR.out HEe.out HWe.out (by omega) (by omega)).mono ?_; rintro en w2 ⟨rfl, ks2, A2, B2, fv2, rv2, hK2, hR2, hgo2, hln2⟩)
        have HB2 := Lib.hid (hBW (HK.out.later (below_box wr _)) hgo2 (below_new HB.out _))
        have HK2 := Lib.hid hK2
        have HR2 := Lib.hid hR2
        clear hK2 hR2 hgo2 c0 c1 c2 c3 c4 c5
        go_wp2
        go_roundw
        case rel => exact ⟨i + 1, by omega, by go_num, ks2, A2, B2, fv2, rv2, HK2.out, HR2.out, HB2.out, by omega⟩
        case measure => simp [intOf]; omega
      · obtain rfl : i = t.length := by omega
        have hcst : ((t.length - 1 : Nat) : Int) = (t.length : Int) - 1 := by omega
        obtain ⟨_, _, _, d33, df⟩ := HK.out.cells
        have df33 := df 33
        obtain ⟨sa, sc, hfs, hso⟩ := HK.out.stackOwn
        rw [hfs] at d33
        have HSO := Lib.hid hso
        have HFS := Lib.hid hfs
        have hbs : base ≤ wr.heap.size := HK.out.fam.top
        have Hg0 := Lib.hid (HK.out.lt (.inl rfl)).1
        have Hn0 := Lib.hid ((HK.out.no g0 (.inl rfl)).1 0)
        have HCS := Lib.hid hcst
        clear df hso hfs hcst
        go_wp2_with (first
          | (at_builtin; refine wpList_append_own_at _ rfl _ _ 23 rfl base 3 tj (.int .i64 0) 1 8 Tryz.underlying23 hj0 jz0 jz1 jz2 rfl (by decide) (.slice sa ([] : List Nat).length sc) ([] : List Nat).length ((ofN []).map (.int .i64 ·)) rfl (own_later HSO.out (below_box wr _)) ⟨wr.heap.size, 0, none⟩ 1 1 [.int .i64 ((t.length : Int) - 1)] rfl rfl (cell_one_i wr _ _) (by simp [Value.oneCell']) (by unfold maxLen; simp) (by simp) (by simp; omega) ?_; intro v6 w6 hown6 hgrow6 _ hat6
             have HT6 : Hid (Touch (fun z => (fv 0).ownBlock = some z) wr w6) := Lib.hid (by
               rw [HFS.out]
               exact (Touch.of_below (below_box wr (.cells #[.int .i64 ((t.length : Int) - 1)] 3))).trans (Touch.grown (X := fun z => (Value.slice sa ([] : List Nat).length sc).ownBlock = some z) hgrow6 (fun k e => e)) (fun _ _ h => h))
             have HW6 : Hid (Whr wr v6 (fv 0)) := Lib.hid (by
               rw [HFS.out]
               rcases hat6 with z | z
               · exact .inl z
               · exact .inr (.inr ⟨_, z, by simp⟩))
             have HO6 := Lib.hid hown6
             obtain ⟨g6, cap6, rfl⟩ := own_slice hown6 (by simp)
             have hbk : w6.heap[g0]? = wr.heap[g0]? := HT6.out.block g0 Hg0.out Hn0.out
             have x0 := (World.cell?_of_block (a := ⟨g0, 33, none⟩) hbk).trans d33
             have xf0 := (World.frozen?_of_block (a := ⟨g0, 33, none⟩) hbk).trans df33
             clear hown6 hgrow6 hat6 hbk d33))
        generalize hW7 : World.setCell _ _ _ = W7
        have hP := HK.out.stack (l := [t.length - 1]) HT6.out (by simpa [ofN, HCS.out] using HO6.out) HW6.out
        simp only [List.length_nil, Nat.zero_add] at hP
        rw [hW7] at hP
        have HL : Hid (BackL (XB base c d) chans R base g0 gm A B (.slice (some ⟨gs, 0, none⟩) t.length t.length) t w (2 * t.length + 1) W7) := Lib.hid ⟨ks, _, _, _, _, _, hP.1, HR.out, fun k hk => ⟨Nat.zero_le _, fun m i h => absurd h (Nat.not_lt_zero _)⟩, by simp, BkInv.start, fun i hi => by have := List.mem_singleton.1 hi; omega, hBW HK.out hP.2 HB.out, by simp [List.countP_replicate], by omega⟩
        clear hP hW7 HT6 HO6 HW6 x0 xf0 df33 HK HR HB HSO HFS Hg0 Hn0
        go_loopg [8] (2 * t.length + 1) (fun g v V => BackL (XB base c d) chans R base g0 gm A B (.slice (some ⟨gs, 0, none⟩) t.length t.length) t w g V)
        case atStart => exact HL.out
        case round =>
          obtain ⟨ks2, G2, seen2, st2, fv2, rv2, hK, hR, hG, hsl, hI, hst, hB, hgk, hln2⟩ := hrel
          have HK := Lib.hid hK
          have HR := Lib.hid hR
          have HG := Lib.hid hG
          have HI := Lib.hid hI
          have HB := Lib.hid hB
          have HSt := Lib.hid hst
          obtain ⟨_, _, c32, c33, cf⟩ := HK.out.cells
          have cf33 := cf 33
          clear hK hR hG hI hB hst HL cf
          rcases nil_or_snoc st2 with rfl | ⟨st3, j, rfl⟩
          · obtain ⟨sa, sc, hfs, _⟩ := HK.out.stackOwn
            rw [hfs] at c33
            simp only [List.length_nil] at c33
            have hm := HK.out.marks
            rw [hsl] at hm
            have HM := Lib.hid (own_base hm hbase)
            have HDn := Lib.hid (fun i hi => HI.out.done (dirB_up _ _) i (by rw [hsl]; exact hi))
            clear hm hfs
            go_wp2_with fail
            go_ret
            exact ⟨_, _, seen2, rfl, hsl, HM.out, HDn.out, HB.out⟩
          · have hjl : j < t.length := HSt.out j (by simp)
            have hl3 : (st3 ++ [j]).length = st3.length + 1 := by simp
            obtain ⟨gk0, ck, hfs, hgb, hgl, hcj, _⟩ := HK.out.fam.cell (i := 0) (k := st3.length) (x := (j : Int)) (by show (ofN (st3 ++ [j]))[st3.length]? = _; simp [ofN])
            have hfs : fv2 0 = .slice (some ⟨gk0, 0, none⟩) (st3.length + 1) ck := by rw [hfs]; show Value.slice _ (ofN (st3 ++ [j])).length _ = _; rw [ofN_len, hl3]
            have hrow := HK.out.fam.row 0
            rw [hfs] at hrow c33
            have hrow : wr.ownsRow base 3 1 (.slice (some ⟨gk0, 0, none⟩) (st3.length + 1) ck) (st3.length + 1) ((ofN st3).map (.int .i64 ·) ++ [.int .i64 j]) := by
              have e1 : flW A B (st3 ++ [j]) 0 = ofN (st3 ++ [j]) := rfl
              rw [e1, ofN_len, hl3] at hrow
              simpa [ofN] using hrow
            have hck : st3.length + 1 ≤ ck := by
              rcases hrow.2 with ⟨h0, _⟩ | ⟨g', c', cur, e', _, _, hle, _⟩
              · cases h0
              · injection e' with e1 e2 e3; omega
            have hpop := own_pop hrow
            have HPO := Lib.hid hpop
            have HFS := Lib.hid hfs
            have hst3 : st3.length ≤ 100000 := by rw [hl3] at hgk; omega
            clear hrow hpop hfs c32
            have hlt3 : (0 : Int) < (st3.length : Int) + 1 := by omega
            go_upto_region 12 with (fail)
            generalize hW8 : World.setCell _ _ _ = W8
            have hP := HK.out.stack (u' := wr) (l := st3) (v := .slice (some ⟨gk0, 0, none⟩) st3.length ck) ((Touch.of_below (Below.refl _ _))) (by rw [ofN_len]; exact HPO.out) (.inl (by rw [HFS.out]; rfl))
            rw [hW8] at hP
            have HK8 := Lib.hid hP.1
            have HB8 := Lib.hid (hBW HK.out hP.2 HB.out)
            clear hW8 hP HK HB HPO HFS c33 cf33 hgl hcj
            obtain ⟨e, he⟩ := at_lt hjl
            have hWe := HW.out e (List.mem_of_getElem? he)
            obtain ⟨g, o, rfl, hg, c0, c1, c2, c3, c4, c5⟩ := (HE.out.later HB8.out) j e he
            have hjl' : (j : Int) < (t.length : Int) := by omega
            have HEe := Lib.hid he
            have HWe := Lib.hid hWe
            clear he hWe
            obtain ⟨th, pc, op, obj, val, mode⟩ := e
            go_wp2_with (go_at_call 85; refine (from_any HK8.out (t := t) (j := j) (e := ⟨th, pc, op, obj, val, mode⟩) HR.out HG.out hsl HEe.out HWe.out (by omega) (by omega) hst3).mono ?_; rintro en w9 ⟨rfl, ks9, G9, seen9, st9, fv9, rv9, hK9, hR9, hG9, hM9, hC9, hgo9, hln9⟩)
            have HB9 := Lib.hid (hBW HK8.out hgo9 HB8.out)
            have HI9 := Lib.hid (HI.out.step hM9 hC9)
            have HK9 := Lib.hid hK9
            have HR9 := Lib.hid hR9
            have HG9 := Lib.hid hG9
            have hcnt := hM9.cnt
            have hle := hM9.le
            have hlen9 := hM9.len
            have HS9 : Hid (∀ i ∈ st9, i < t.length) := Lib.hid (fun i hi => by
              rcases hM9.st_in i hi with z | z
              · exact HSt.out i (List.mem_append_left _ z)
              · have := (List.getElem?_eq_some_iff.1 z).1; omega)
            rw [hl3] at hgk
            clear hK9 hR9 hG9 hM9 hC9 hgo9 HK8 HB8 HI HR HG HSt c0 c1 c2 c3 c4 c5
            go_wp2
            go_roundg (2 * seen9.countP (· == false) + st9.length)
            case measure => omega
            case rel => exact ⟨ks9, G9, seen9, st9, fv9, rv9, HK9.out, HR9.out, HG9.out, by omega, HI9.out, HS9.out, HB9.out, rfl, by omega⟩
def befI (chans : List Int) (t : List EvD) (i j : Int) : Bool := riseB i j t.length && befB (dirB chans t) i.toNat j.toNat
theorem own_cellB {V : World} {base : Nat} {e : TypeId} {a : Option Addr} {n c : Nat} {xs : List Value} (h : V.ownsRow base e 1 (.slice a n c) n xs) {i : Nat} {v : Value} (hv : xs[i]? = some v) : ∃ g, a = some ⟨g, 0, none⟩ ∧ V.cell? ⟨g, i, none⟩ = some v := by
  have hl := h.1
  have hi := (List.getElem?_eq_some_iff.1 hv).1
  rcases h.2 with ⟨_, h0⟩ | ⟨g, cap, cur, e', hb, hh, hle, hcap, hsz, ht⟩
  · omega
  · injection e' with e1 e2 e3
    subst e1
    refine ⟨g, rfl, ?_⟩
    rw [cell_of_row _ _ _ _ _ _ hh]
    rw [← ht, List.getElem?_take_of_lt (by omega)] at hv
    simpa using hv
theorem box7 {u : World} {g : Nat} {v0 v1 v2 v3 v4 v5 v6 : Value} {t : TypeId} {fr : Nat × Nat} (h : u.heap[g]? = some (.cells #[v0, v1, v2, v3, v4, v5, v6] t fr)) : u.cell? ⟨g, 0, none⟩ = some v0 ∧ u.cell? ⟨g, 1, none⟩ = some v1 ∧ u.cell? ⟨g, 2, none⟩ = some v2 ∧ u.cell? ⟨g, 3, none⟩ = some v3 ∧ u.cell? ⟨g, 4, none⟩ = some v4 ∧ u.cell? ⟨g, 5, none⟩ = some v5 ∧ u.cell? ⟨g, 6, none⟩ = some v6 :=
  ⟨cell_of_row _ _ 0 _ _ _ h, cell_of_row _ _ 1 _ _ _ h, cell_of_row _ _ 2 _ _ _ h, cell_of_row _ _ 3 _ _ _ h, cell_of_row _ _ 4 _ _ _ h, cell_of_row _ _ 5 _ _ _ h, cell_of_row _ _ 6 _ _ _ h⟩
def pastI (chans : List Int) (t : List EvD) (j : Int) : List Nat := if 0 ≤ j ∧ j < (t.length : Int) then pastL (dirB chans t) j.toNat else []
def PastE (chans : List Int) (t : List EvD) (j : Int) (w : World) (e : Ending) (V : World) : Prop :=
  ∃ (a : Option Addr) (c : Nat), e = .returned (.slice a (pastI chans t j).length c) ∧ V.ownsRow w.heap.size 3 1 (.slice a (pastI chans t j).length c) (pastI chans t j).length ((ofN (pastI chans t j)).map (.int .i64 ·)) ∧ Below w.heap.size w V
def PastR (W : World) (s : Nat → Bool) (n : Nat) (v : Value) (V : World) : Prop := ∃ (a : Option Addr) (c : Nat), v = .slice a ((List.range n).filter s).length c ∧ V.ownsRow W.heap.size 3 1 v ((List.range n).filter s).length ((ofN ((List.range n).filter s)).map (.int .i64 ·)) ∧ Below W.heap.size W V
theorem past_any (v0 v1 v2 : Value) (ca : Option Addr) (ccap : Nat) (chans : List Int) (v4 v5 v6 : Value) (a : Option Addr) (cap : Nat) (t : List EvD) (j : Int) (w : World) (hc : ChIn w ca chans) (he : EvsIn w w.heap.size a t) (hW : ∀ e ∈ t, EvW e) (hl : t.length ≤ 1000) (hcap : t.length ≤ cap) (hv : (#[v0, v1, v2, .slice ca chans.length ccap, v4, v5, v6] : Array Value).all (·.oneCell') = true) :
    Calls Tryz.prog 37 #[.agg #[v0, v1, v2, .slice ca chans.length ccap, v4, v5, v6], .slice a t.length cap, .int .i64 j] w (PastE chans t j w) := by
  obtain ⟨tj, hj0, jz0, jz1, jz2⟩ := info_parts info_intT
  have HC := Lib.hid hc
  have HE := Lib.hid he
  have HW := Lib.hid hW
  have HV := Lib.hid hv
  clear hc he hW
  simp only [List.all_toArray, List.all_cons, List.all_nil, Bool.and_true, Bool.and_eq_true] at hv
  obtain ⟨o0, o1, o2, o3, o4, o5, o6⟩ := hv
  by_cases hn : j < 0
  · have hn' : decide (j < 0) = true := decide_eq_true hn
    have HF : Hid (pastI chans t j = []) := Lib.hid (by unfold pastI; rw [if_neg (by omega)])
    go_enter Tryz.func37, Tryz.ntmps37
    go_wp2
    go_ret
    refine ⟨none, 0, by rw [HF.out]; rfl, ?_, below_box _ _⟩
    rw [HF.out]; exact World.ownsRow_nil _ _ _ _
  have hn' : decide (j < 0) = false := decide_eq_false hn
  by_cases hh : (t.length : Int) ≤ j
  · have hh' : decide ((t.length : Int) ≤ j) = true := decide_eq_true hh
    have HF : Hid (pastI chans t j = []) := Lib.hid (by unfold pastI; rw [if_neg (by omega)])
    go_enter Tryz.func37, Tryz.ntmps37
    go_wp2
    go_ret
    refine ⟨none, 0, by rw [HF.out]; rfl, ?_, below_box _ _⟩
    rw [HF.out]; exact World.ownsRow_nil _ _ _ _
  have hh' : decide ((t.length : Int) ≤ j) = false := decide_eq_false hh
  obtain ⟨j, rfl⟩ : ∃ k : Nat, j = k := ⟨j.toNat, by omega⟩
  have hjl : j < t.length := by omega
  have HF : Hid (pastI chans t j = pastL (dirB chans t) j) := Lib.hid (by unfold pastI; rw [if_pos (by omega)]; simp)
  have hlt : (t.take (j + 1)).length = j + 1 := by rw [List.length_take]; omega
  have hBk := fun W (hB : Below w.heap.size w W) => back_any v0 v1 v2 ca ccap chans v4 v5 v6 a cap (t.take (j + 1)) W (HC.out.later hB) ((HE.out.later hB).take _) (fun e he => HW.out e (List.mem_of_mem_take he)) (by omega) (by omega) (by omega) HV.out
  rw [hlt] at hBk
  have HBk := Lib.hid hBk
  have hjc : ((j : Int) + 1) ≤ (cap : Int) := by omega
  have hjN : j + 1 ≤ cap := by omega
  have hwr : IntKind.i64.wrap ((j : Int) + 1) = (j : Int) + 1 := IntWalk.i64_in _ ⟨by omega, by omega⟩
  have hjT : ((j : Int) + 1).toNat = j + 1 := by omega
  have hj0' : (0 : Int) ≤ (j : Int) + 1 := by omega
  clear hBk
  go_enter Tryz.func37, Tryz.ntmps37
  go_upto_region 4 with (fail)
  generalize hU : World.alloc w _ = U
  have HU := Lib.hid (show Below w.heap.size w U by rw [← hU]; exact below_box _ _)
  have HNU : Hid (U.drew.heap[w.heap.size]? = some (.cells #[v0, v1, v2, .slice ca chans.length ccap, v4, v5, v6] 26)) := Lib.hid (by rw [← hU]; exact heap_alloc_new _ _)
  clear hU
  have KU := box7 HNU.out
  go_region_held3 (fun u => u.cell? ⟨w.heap.size, 0, none⟩ = some v0 ∧ u.cell? ⟨w.heap.size, 1, none⟩ = some v1 ∧ u.cell? ⟨w.heap.size, 2, none⟩ = some v2 ∧ u.cell? ⟨w.heap.size, 3, none⟩ = some (.slice ca chans.length ccap) ∧ u.cell? ⟨w.heap.size, 4, none⟩ = some v4 ∧ u.cell? ⟨w.heap.size, 5, none⟩ = some v5 ∧ u.cell? ⟨w.heap.size, 6, none⟩ = some v6) (first | with_reducible exact KU | with_reducible exact KW | fail)
    (first
      | (go_at_call 57; refine (HBk.out _ HU.out.drew).mono ?_; rintro e w2 ⟨a', cap', seen, rfl, hsl, hown, hsn, hB2⟩; have KW := box7 (old_later HNU.out hB2); rw [hlt] at hsl hsn hown; rw [hlt]))
  have HS := Lib.hid hsn
  have HO := Lib.hid hown
  have HB2 := Lib.hid (below_next HU.out.drew hB2)
  have HP0 : Hid (PastR w2 (fun i => (seen[i]?).getD false) 0 (.slice none 0 0) w2) := Lib.hid ⟨none, 0, rfl, World.ownsRow_nil _ _ _ _, Below.refl _ _⟩
  have HLR : Hid ((List.range (j + 1)).filter (fun i => (seen[i]?).getD false) = pastL (dirB chans t) j) := Lib.hid (by
    rw [← past_take (t := t)]
    refine past_of (dirB_up _ _) _ fun i hi => ?_
    rw [hsn i hi, Nat.add_sub_cancel]
    simp only [Option.getD_some]
    exact befB_iff (dirB_up _ _))
  clear hsn hown hB2 KU KW
  go_wp2_with fail
  go_loopw [25, 7] (fun k v V => ∃ n : Nat, n ≤ j + 1 ∧ k = .int .i64 n ∧ PastR w2 (fun i => (seen[i]?).getD false) n v V) (fun k _ _ => (j + 1) - (intOf k).toNat)
  case atStart => exact ⟨0, Nat.zero_le _, rfl, HP0.out⟩
  case round =>
    obtain ⟨n, hn1, rfl, pa, pc, rfl, hpo, hpB⟩ := hrel
    have HPO := Lib.hid hpo
    have HPB := Lib.hid hpB
    clear hpo hpB
    by_cases hlt1 : n < j + 1
    · have hlt1' : (n : Int) < (j : Int) + 1 := by omega
      obtain ⟨b, hb⟩ := at_lt (l := seen) (k := n) (by omega)
      obtain ⟨g, rfl, hcg⟩ := own_cellB (own_later HO.out HPB.out) (i := n) (v := .bool b) (by rw [List.getElem?_map, hb]; rfl)
      have hfl : (List.range (n + 1)).filter (fun i => (seen[i]?).getD false) = (List.range n).filter (fun i => (seen[i]?).getD false) ++ (if b then [n] else []) := by
        rw [List.range_succ, List.filter_append]
        congr 1
        cases b <;> simp [hb]
      have HFL := Lib.hid hfl
      have hlen : ((List.range n).filter (fun i => (seen[i]?).getD false)).length ≤ n := Nat.le_trans (List.length_filter_le _ _) (by simp)
      clear hfl hb
      rcases b with _ | _
      · have HFL2 := Lib.hid (show (List.range (n + 1)).filter (fun i => (seen[i]?).getD false) = (List.range n).filter (fun i => (seen[i]?).getD false) from by rw [HFL.out]; simp)
        go_wp2_with fail
        go_roundw
        case rel => exact ⟨n + 1, by omega, by go_num, pa, pc, by rw [HFL2.out], by rw [HFL2.out]; exact HPO.out, HPB.out⟩
        case measure => simp [intOf]; omega
      · generalize hfn : (List.range n).filter (fun i => (seen[i]?).getD false) = fl at *
        have hbs : w2.heap.size ≤ wr.heap.size := HPB.out.size
        go_wp2_with (first
          | (at_builtin; refine wpList_append_own_at _ rfl _ _ 23 rfl w2.heap.size 3 tj (.int .i64 0) 1 8 Tryz.underlying23 hj0 jz0 jz1 jz2 rfl (by decide) (.slice pa fl.length pc) fl.length ((ofN fl).map (.int .i64 ·)) rfl (own_later HPO.out (below_box wr _)) ⟨wr.heap.size, 0, none⟩ 1 1 [.int .i64 n] rfl rfl (cell_one_i wr _ _) (by simp [Value.oneCell']) (by unfold maxLen; omega) (by omega) (by simp; omega) ?_; intro v6 w6 hown6 hgrow6 _ hat6
             have HB6 : Hid (Below w2.heap.size w2 w6) := Lib.hid ((below_new HPB.out (.cells #[.int .i64 n] 3)).trans ((Below.refl _ _).grown hgrow6 (by simp; omega) (fun g e => (own_lt HPO.out g e).2)))
             obtain ⟨xa, xc, rfl⟩ := own_slice0 hown6
             have HO6 := Lib.hid hown6
             clear hown6 hgrow6 hat6))
        go_roundw
        case rel => exact ⟨n + 1, by omega, by go_num, xa, xc, by rw [HFL.out]; simp, by rw [HFL.out]; simpa [ofN] using HO6.out, HB6.out⟩
        case measure => simp [intOf]; omega
    · obtain rfl : n = j + 1 := by omega
      go_wp2_with fail
      go_ret
      refine ⟨pa, pc, by rw [HF.out, ← HLR.out]; rfl, ?_, below_next HB2.out HPB.out⟩
      rw [HF.out, ← HLR.out]
      exact own_base HPO.out HB2.out.size
end Go.Proofs.YtglafbajbiengaaGreat
namespace Go.Proofs.YtglafbajbiengaaGreat
open Go.ChangeShapes Go.WideShapes Go.ChangeAt Go.RowKit
theorem pastI_len {ch : List Int} {t : List EvD} {j : Nat} (hj : j < t.length) : (pastI ch t (j : Int)).length ≤ t.length := by
  unfold pastI
  rw [if_pos (by omega)]
  simp only [Int.toNat_natCast]
  rw [← past_of (dirB_up ch t) (fun i => befB (dirB ch t) i j) (fun i hi => befB_iff (dirB_up _ _))]
  refine Nat.le_trans (List.length_filter_le _ _) ?_
  rw [List.length_range]; omega
end Go.Proofs.YtglafbajbiengaaGreat
namespace Go.Proofs.YtglafbajbiengaaGreat
open Go.ChangeShapes Go.WideShapes Go.ChangeAt Go.RowKit Go.Maps
/-- Events in a row of the call's own. -/
theorem evsIn_own {V : World} {base : Nat} {a : Option Addr} {n c : Nat} {t : List EvD} (h : V.ownsRow base 31 6 (.slice a n c) n (evsCells t)) : EvsIn V V.heap.size a t := by
  have hl := h.1
  rw [evsCells_len] at hl
  intro k e hk
  have hkl := (List.getElem?_eq_some_iff.1 hk).1
  rcases h.2 with ⟨_, h0⟩ | ⟨g, cap, cur, e', hb, hh, hle, hcap, hsz, ht⟩
  · omega
  · injection e' with e1 e2 e3
    subst e1
    refine ⟨g, 0, rfl, (Array.getElem?_eq_some_iff.1 hh).1, ?_⟩
    rw [Nat.zero_add]
    refine evAt_of fun j hj => ?_
    rw [cell_of_row _ _ _ _ _ _ hh, ← evsCells_at t k e hk j hj, ← ht, List.getElem?_take_of_lt (by omega)]
    simp
end Go.Proofs.YtglafbajbiengaaGreat
