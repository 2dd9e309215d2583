/- What the laws of this seat stand on, part 16. -/
import Derived.Test.YtglafbajbiengaaGreatPa0
import Derived.Test.YtglafbajbiengaaGreatPa15
set_option linter.unusedVariables false
set_option linter.unusedSimpArgs false
set_option maxRecDepth 100000
set_option maxHeartbeats 40000000
namespace Go.Proofs.YtglafbajbiengaaGreat
open Go.ChangeShapes Go.WideShapes Go.ChangeAt Go.RowKit Go.Maps
def whN : Option Wh → Int → Nat → Nat → Int × Int
  | none, _, a, _ => (0, a)
  | some w, x, a, b => w x a b
def goneF (f e g : Nat) : Nat := if f ≤ g then min g e else f
def goneG (f e g : Nat) : Nat := if f ≤ g then max g e else g
section
variable {X : Nat → Prop} {chans : List Int} {R : Array Value} {base g0 gm : Nat} {ks : List (Int × Int)} {A B : Nat → List Nat} {G : Nat → Nat} {seen : List Bool} {st : List Nat} {fv : Nat → Value} {rv sv : Value} {u u' : World}
/-- A thing's two rows, as slices that lie. -/
theorem WkIn.lists (h : WkIn X chans R base g0 gm ks A B G seen st fv rv sv u) (k : Nat) : (∃ a cap, fv (1 + 2 * k) = .slice a (A k).length cap ∧ (A k).length ≤ cap ∧ RowOf .i64 u u.heap.size a (ofN (A k)) ∧ ∀ b off, a = some ⟨b, off, none⟩ → off = 0) ∧ ∃ a cap, fv (2 + 2 * k) = .slice a (B k).length cap ∧ RowOf .i64 u u.heap.size a (ofN (B k)) := by
  have key : ∀ i (l : List Nat), flW A B st i = ofN l → ∃ a cap, fv i = .slice a l.length cap ∧ l.length ≤ cap ∧ RowOf .i64 u u.heap.size a (ofN l) ∧ ∀ b off, a = some ⟨b, off, none⟩ → off = 0 := by
    intro i l hl
    have ho := h.fam.row i
    rw [hl] at ho
    obtain ⟨a, cap, e, hc⟩ := own_cells ho
    rw [ofN_len] at e
    refine ⟨a, cap, e, ?_, fun j y hy => ?_, ?_⟩
    · rcases ho.2 with ⟨q, q0⟩ | ⟨g, cap', cur, q, hb, hh, hle, _⟩
      · rw [ofN_len] at q0; omega
      · rw [q] at e; injection e with e1 e2 e3; rw [ofN_len] at hle; omega
    · obtain ⟨g, rfl, h1, h2, h3⟩ := hc j y hy
      exact ⟨g, 0, rfl, h2, by rw [Nat.zero_add]; exact h3⟩
    · intro b off q
      rcases ho.2 with ⟨q', q0⟩ | ⟨g, cap', cur, q', _⟩
      · rw [q'] at e; injection e with e1 e2 e3; rw [q] at e1; cases e1
      · rw [q'] at e; injection e with e1 e2 e3; rw [q] at e1; cases e1; rfl
  obtain ⟨a, cap, h1, h2, h3, h4⟩ := key (1 + 2 * k) (A k) (flW_a ..)
  obtain ⟨b, cap', k1, k2, k3, _⟩ := key (2 + 2 * k) (B k) (flW_b ..)
  exact ⟨⟨a, cap, h1, h2, h3, h4⟩, b, cap', k1, k3⟩
theorem WkIn.part (h : WkIn X chans R base g0 gm ks A B G seen st fv rv sv u) {k : Nat} {aa : Option Addr} {ac : Nat} (hfa : fv (1 + 2 * k) = .slice aa (A k).length ac) (e m : Nat) : ∀ i y : Nat, (((A k).take e).drop m)[i]? = some y → ∃ g, aa = some ⟨g, 0, none⟩ ∧ (fv (1 + 2 * k)).ownBlock = some g ∧ u.cell? ⟨g, m + i, none⟩ = some (.int .i64 y) := by
  intro i y hy
  obtain ⟨⟨a, cap, h1, _, h3, h4⟩, _⟩ := h.lists k
  rw [hfa] at h1
  injection h1 with e1 e2 e3
  subst e1
  rw [List.getElem?_drop, List.getElem?_take] at hy
  split at hy
  · obtain ⟨b, off, q1, q2, q3⟩ := h3 _ _ (ofN_at hy)
    obtain rfl := h4 b off q1
    rw [Nat.zero_add] at q3
    exact ⟨b, q1, by rw [hfa, q1]; rfl, q3⟩
  · cases hy
end
structure RowsOk (chans : List Int) (t : List EvD) (fa fb : Nat → Nat) (ks : List (Int × Int)) (A B : Nat → List Nat) : Prop where
  at_ : ∀ (k : Nat) (n x : Int), ks[k]? = some (n, x) → ∃ (m : Nat) (r : RuD), n = m ∧ (rulesL chans)[m]? = some r ∧ A k = plS r.a x (t.take (fa m)) 0 ∧ (r.wh ≠ none → B k = plS r.b x (t.take (fb m)) 0)
  out : ∀ (m : Nat) (r : RuD) (x : Int), (rulesL chans)[m]? = some r → ((m : Int), x) ∉ ks → plS r.a x (t.take (fa m)) 0 = [] ∧ (r.wh ≠ none → plS r.b x (t.take (fb m)) 0 = [])
theorem rules_lt {chans : List Int} {m : Nat} {r : RuD} (h : (rulesL chans)[m]? = some r) : m < 10 := by have := (List.getElem?_eq_some_iff.1 h).1; simpa [rulesL] using this
theorem plS_take_succ (s : Sd) (x : Int) {t : List EvD} {i : Nat} {e : EvD} (h : t[i]? = some e) : plS s x (t.take (i + 1)) 0 = plS s x (t.take i) 0 ++ (if isS s x e then [i] else []) := by
  have hl : (t.take i).length = i := by rw [List.length_take]; have := (List.getElem?_eq_some_iff.1 h).1; omega
  rw [List.take_add_one, h, Option.toList_some, plS_snoc, hl, Nat.zero_add]
theorem RowsOk.row {chans : List Int} {t : List EvD} {fa fb : Nat → Nat} {ks : List (Int × Int)} {A B : Nat → List Nat} (h : RowsOk chans t fa fb ks A B) {m : Nat} {r : RuD} {x : Int} (hr : (rulesL chans)[m]? = some r) (hn : ((m : Int), x) ∉ ks) (hA : A ks.length = []) (hB : B ks.length = []) : RowsOk chans t fa fb (ks ++ [((m : Int), x)]) A B := by
  refine ⟨fun k n y hk => ?_, fun m' r' y hr' hn' => h.out m' r' y hr' fun q => hn' (List.mem_append_left _ q)⟩
  rcases Nat.lt_or_ge k ks.length with q | q
  · rw [List.getElem?_append_left q] at hk; exact h.at_ k n y hk
  · obtain rfl : k = ks.length := by have := (List.getElem?_eq_some_iff.1 hk).1; simp at this; omega
    simp at hk
    obtain ⟨rfl, rfl⟩ := hk
    obtain ⟨o1, o2⟩ := h.out m r x hr hn
    exact ⟨m, r, rfl, hr, by rw [hA, o1], fun q => by rw [hB, o2 q]⟩
theorem RowsOk.nota {chans : List Int} {t : List EvD} {fa fb : Nat → Nat} {ks : List (Int × Int)} {A B : Nat → List Nat} (h : RowsOk chans t fa fb ks A B) {m i : Nat} {r : RuD} {e : EvD} (hr : (rulesL chans)[m]? = some r) (hf : fa m = i) (he : t[i]? = some e) (hs : (r.a e).2 = false) : RowsOk chans t (updF fa m (i + 1)) fb ks A B := by
  have key : ∀ (m' : Nat) (r' : RuD) (x : Int), (rulesL chans)[m']? = some r' → plS r'.a x (t.take (updF fa m (i + 1) m')) 0 = plS r'.a x (t.take (fa m')) 0 := by
    intro m' r' x hr'
    by_cases e' : m' = m
    · subst e'; rw [hr] at hr'; cases hr'
      rw [updF_same, plS_take_succ _ _ he, hf]; simp [isS, hs]
    · rw [updF_ne _ _ e']
  refine ⟨fun k n x hk => ?_, fun m' r' x hr' hn => ?_⟩
  · obtain ⟨m', r', h1, h2, h3, h4⟩ := h.at_ k n x hk
    exact ⟨m', r', h1, h2, by rw [key m' r' x h2]; exact h3, h4⟩
  · rw [key m' r' x hr']; exact h.out m' r' x hr' hn
theorem RowsOk.nod {chans : List Int} {t : List EvD} {fa fb : Nat → Nat} {ks : List (Int × Int)} {A B : Nat → List Nat} (h : RowsOk chans t fa fb ks A B) {m i : Nat} {r : RuD} {e : EvD} (hr : (rulesL chans)[m]? = some r) (hf : fb m = i) (he : t[i]? = some e) (hs : r.wh = none ∨ (r.b e).2 = false) : RowsOk chans t fa (updF fb m (i + 1)) ks A B := by
  have key : ∀ (m' : Nat) (r' : RuD) (x : Int), (rulesL chans)[m']? = some r' → r'.wh ≠ none → plS r'.b x (t.take (updF fb m (i + 1) m')) 0 = plS r'.b x (t.take (fb m')) 0 := by
    intro m' r' x hr' hw
    by_cases e' : m' = m
    · subst e'; rw [hr] at hr'; cases hr'
      rw [updF_same, plS_take_succ _ _ he, hf]; simp [isS, hs.resolve_left hw]
    · rw [updF_ne _ _ e']
  refine ⟨fun k n x hk => ?_, fun m' r' x hr' hn => ?_⟩
  · obtain ⟨m', r', h1, h2, h3, h4⟩ := h.at_ k n x hk
    exact ⟨m', r', h1, h2, h3, fun q => by rw [key m' r' x h2 q]; exact h4 q⟩
  · exact ⟨(h.out m' r' x hr' hn).1, fun q => by rw [key m' r' x hr' q]; exact (h.out m' r' x hr' hn).2 q⟩
theorem key_inj {ks : List (Int × Int)} (hd : ks.Nodup) {k k' : Nat} {p : Int × Int} (h : ks[k]? = some p) (h' : ks[k']? = some p) : k = k' :=
  (List.getElem?_inj (List.getElem?_eq_some_iff.1 h).1 hd).1 (h.trans h'.symm)
theorem RowsOk.ahead {chans : List Int} {t : List EvD} {fa fb : Nat → Nat} {ks : List (Int × Int)} {A B : Nat → List Nat} (h : RowsOk chans t fa fb ks A B) (hd : ks.Nodup) {m i k : Nat} {r : RuD} {e : EvD} (hr : (rulesL chans)[m]? = some r) (hf : fa m = i) (he : t[i]? = some e) (hs : (r.a e).2 = true) (hk : ks[k]? = some ((m : Int), (r.a e).1)) : RowsOk chans t (updF fa m (i + 1)) fb ks (updF A k (A k ++ [i])) B := by
  refine ⟨fun k' n x hk' => ?_, fun m' r' x hr' hn => ?_⟩
  · obtain ⟨m', r', rfl, h2, h3, h4⟩ := h.at_ k' n x hk'
    refine ⟨m', r', rfl, h2, ?_, h4⟩
    by_cases em : m' = m
    · subst em; rw [hr] at h2; cases h2
      rw [updF_same, plS_take_succ _ _ he]
      by_cases ex : x = (r.a e).1
      · subst ex
        obtain rfl := key_inj hd hk' hk
        rw [updF_same, h3, hf]; simp [isS, hs]
      · rw [updF_ne _ _ (fun q => ex (by subst q; rw [hk] at hk'; cases hk'; rfl)), h3, hf]
        have : ((r.a e).1 == x) = false := by simpa using fun q => ex q.symm
        simp [isS, hs, this]
    · rw [updF_ne _ _ em, updF_ne _ _ (fun q => em (by subst q; rw [hk] at hk'; cases hk'; rfl)), h3]
  · by_cases em : m' = m
    · subst em; rw [hr] at hr'; cases hr'
      rw [updF_same, plS_take_succ _ _ he, ← hf]
      refine ⟨?_, (h.out m' r x hr hn).2⟩
      have ex : x ≠ (r.a e).1 := fun q => by subst q; exact hn (List.mem_of_getElem? hk)
      have : ((r.a e).1 == x) = false := by simpa using fun q => ex q.symm
      rw [(h.out m' r x hr hn).1]; simp [isS, this]
    · rw [updF_ne _ _ em]; exact h.out m' r' x hr' hn
theorem RowsOk.behind {chans : List Int} {t : List EvD} {fa fb : Nat → Nat} {ks : List (Int × Int)} {A B : Nat → List Nat} (h : RowsOk chans t fa fb ks A B) (hd : ks.Nodup) {m i k : Nat} {r : RuD} {e : EvD} (hr : (rulesL chans)[m]? = some r) (hf : fb m = i) (he : t[i]? = some e) (hw : r.wh ≠ none) (hs : (r.b e).2 = true) (hk : ks[k]? = some ((m : Int), (r.b e).1)) : RowsOk chans t fa (updF fb m (i + 1)) ks A (updF B k (B k ++ [i])) := by
  refine ⟨fun k' n x hk' => ?_, fun m' r' x hr' hn => ?_⟩
  · obtain ⟨m', r', rfl, h2, h3, h4⟩ := h.at_ k' n x hk'
    refine ⟨m', r', rfl, h2, h3, fun q => ?_⟩
    by_cases em : m' = m
    · subst em; rw [hr] at h2; cases h2
      rw [updF_same, plS_take_succ _ _ he]
      by_cases ex : x = (r.b e).1
      · subst ex
        obtain rfl := key_inj hd hk' hk
        rw [updF_same, h4 q, hf]; simp [isS, hs]
      · rw [updF_ne _ _ (fun q => ex (by subst q; rw [hk] at hk'; cases hk'; rfl)), h4 q, hf]
        have : ((r.b e).1 == x) = false := by simpa using fun q => ex q.symm
        simp [isS, hs, this]
    · rw [updF_ne _ _ em, updF_ne _ _ (fun q => em (by subst q; rw [hk] at hk'; cases hk'; rfl)), h4 q]
  · by_cases em : m' = m
    · subst em; rw [hr] at hr'; cases hr'
      refine ⟨(h.out m' r x hr hn).1, fun q => ?_⟩
      rw [updF_same, plS_take_succ _ _ he, ← hf]
      have ex : x ≠ (r.b e).1 := fun q => by subst q; exact hn (List.mem_of_getElem? hk)
      have : ((r.b e).1 == x) = false := by simpa using fun q => ex q.symm
      rw [(h.out m' r x hr hn).2 q]; simp [isS, this]
    · rw [updF_ne _ _ em]; exact h.out m' r' x hr' hn
theorem RowsOk.lens {chans : List Int} {t : List EvD} {fa fb : Nat → Nat} {ks : List (Int × Int)} {A B : Nat → List Nat} (h : RowsOk chans t fa fb ks A B) {k m : Nat} {r : RuD} {x : Int} (hr : (rulesL chans)[m]? = some r) (hk : ks[k]? = some ((m : Int), x)) : (A k).length ≤ t.length ∧ (r.wh ≠ none → (B k).length ≤ t.length) := by
  obtain ⟨m', r', e1, h2, h3, h4⟩ := h.at_ k _ x hk
  obtain rfl : m' = m := by omega
  rw [hr] at h2; cases h2
  have key : ∀ (s : Sd) n, (plS s x (t.take n) 0).length ≤ t.length := fun s n => by
    rw [plS_len]
    exact Nat.le_trans List.countP_le_length (by rw [List.length_take]; omega)
  exact ⟨by rw [h3]; exact key _ _, fun q => by rw [h4 q]; exact key _ _⟩
/-- An event's numbers are ints. -/
def EvW (e : EvD) : Prop := Wf e.th ∧ Wf e.obj
theorem side_wf {chans : List Int} {m : Nat} {r : RuD} (h : (rulesL chans)[m]? = some r) {e : EvD} (he : EvW e) : Wf (r.a e).1 ∧ Wf (r.b e).1 := by
  have key : ∀ q ∈ rulesL chans, Wf (q.a e).1 ∧ Wf (q.b e).1 := by
    intro q hq
    simp only [rulesL, List.mem_cons, List.not_mem_nil, or_false] at hq
    rcases hq with rfl | rfl | rfl | rfl | rfl | rfl | rfl | rfl | rfl | rfl <;> first | exact ⟨he.1, he.1⟩ | exact ⟨he.2, he.1⟩ | exact ⟨he.2, he.2⟩
  exact key r (List.mem_of_getElem? h)
theorem slice_three (aa : Option Addr) (n ac m e : Nat) (hme : m ≤ e) (he : e ≤ ac) : ∃ a' c, (∀ w : World, (Instr.slice 23 (.slice aa n ac) (some (.int .i64 m)) (some (.int .i64 e)) (some (.int .i64 e))).run Tryz.prog w = .ok (.slice a' (e - m) c) w) ∧ (m < e → ∀ g, aa = some ⟨g, 0, none⟩ → a' = some ⟨g, m, none⟩) := by
  have hu := Tryz.underlying23
  have h1 : (m : Int) ≤ (e : Int) := by omega
  have h2 : (e : Int) ≤ (ac : Int) := by omega
  by_cases h : m = e
  · subst h
    refine ⟨aa, 0, fun w => ?_, fun h => absurd h (by omega)⟩
    simp [Instr.slice, run_underlying hu, Instr.sliceBounds, Instr.sliceBound, asIntOf, go_sem, h2]
    intro h; omega
  · refine ⟨aa.map fun x => x.add m, e - m, fun w => ?_, fun _ g q => by rw [q]; simp [Addr.add_mid]⟩
    simp [Instr.slice, run_underlying hu, Instr.sliceBounds, Instr.sliceBound, asIntOf, go_sem, h1, h2]
    rw [if_pos he, if_pos hme, if_neg (by omega)]
def FreshE (X : Nat → Prop) (chans : List Int) (R : Array Value) (base g0 gm : Nat) (ks : List (Int × Int)) (A B : Nat → List Nat) (G : Nat → Nat) (seen : List Bool) (st : List Nat) (fv : Nat → Value) (rv sv : Value) (k f e : Nat) (u : World) (en : Ending) (u' : World) : Prop :=
  ∃ a cap, en = .returned (.slice a (e - goneF f e (G k)) cap) ∧ (∀ i y : Nat, (((A k).take e).drop (goneF f e (G k)))[i]? = some y → ∃ g, a = some ⟨g, goneF f e (G k), none⟩ ∧ (fv (1 + 2 * k)).ownBlock = some g ∧ u'.cell? ⟨g, goneF f e (G k) + i, none⟩ = some (.int .i64 y)) ∧ WkIn X chans R base g0 gm ks A B (updF G k (goneG f e (G k))) seen st fv rv sv u' ∧ WkGo (Wb g0 gm fv rv sv) (Wb g0 gm fv rv sv) u u'
theorem fresh_none {X : Nat → Prop} {chans : List Int} {R : Array Value} {base g0 gm : Nat} {ks : List (Int × Int)} {A B : Nat → List Nat} {G : Nat → Nat} {seen : List Bool} {st : List Nat} {fv : Nat → Value} {rv sv : Value} {u : World} (h : WkIn X chans R base g0 gm ks A B G seen st fv rv sv u) {k gr cap : Nat} (hk : k < ks.length) (hrv : rv = .slice (some ⟨gr, 0, none⟩) ks.length cap) (va vb : Value) (x : Int) (j e : Nat) (hva : va.oneCell' = true) (hvb : vb.oneCell' = true) (hs : (A k).Pairwise (· < ·)) (hl : (A k).length ≤ 1000000) (hG : G k ≤ 1000000) (he : cntLt (A k) j = e) :
    Calls Tryz.prog 116 #[.pointer (some ⟨gr, k * 3, none⟩), .agg #[va, vb, .nilFunc], .int .i64 x, .int .i64 j] u (FreshE X chans R base g0 gm ks A B G seen st fv rv sv k 0 e u) := by
  obtain ⟨⟨aa, ac, hfa, hac, hra, ha0⟩, ab, bc, hfb, hrb⟩ := h.lists k
  obtain ⟨gr', cap', hrv', hgr, r0, r1, r2, rf⟩ := h.row hk
  rw [hrv] at hrv'; cases hrv'
  rw [hfa] at r0
  rw [hfb] at r1
  have hel : e ≤ (A k).length := by rw [← he]; exact cntLt_le _ _
  have HK := Lib.hid h
  have HRA := Lib.hid hra
  have HE := Lib.hid he
  have HS := Lib.hid hs
  have HRV := Lib.hid hrv
  have hec : e ≤ ac := by omega
  have rf2 := rf (k * 3 + 2)
  have hnil : ∀ u : World, (binOp BinOp.neq 153 .nilFunc .nilFunc).run Tryz.prog u = .ok (.bool false) u := fun _ => by kernel_rfl
  clear h hra hrb hs he rf ha0 hrv
  generalize hgk : G k = gk at *
  have HGK := Lib.hid hgk
  have h0g : decide ((0 : Int) ≤ (gk : Int)) = true := decide_eq_true (by omega)
  clear hgk
  have HFA := Lib.hid hfa
  clear hfa
  rcases Nat.lt_trichotomy gk e with hge | hge | hge
  · have HF1 : Hid (goneF 0 e gk = gk) := Lib.hid (by unfold goneF; rw [if_pos (Nat.zero_le _)]; omega)
    have HF2 : Hid (goneG 0 e gk = e) := Lib.hid (by unfold goneG; rw [if_pos (Nat.zero_le _)]; omega)
    have hge' : (gk : Int) < (e : Int) := by omega
    have hge'' : ¬ (e : Int) < (gk : Int) := by omega
    have hge3 : (gk : Int) ≤ (e : Int) := by omega
    obtain ⟨a', cf, hsl, hsa⟩ := slice_three aa (A k).length ac gk e (by omega) hec
    have HSA := Lib.hid hsa
    clear hsa
    go_enter Tryz.func116, Tryz.ntmps116
    go_upto_region 5 with (go_at_call 132; refine (below_any aa ac (A k) j _ ((HRA.out.below (below_box u _)).more (below_box u _).size) hl HS.out).mono ?_; rintro en w1 ⟨rfl, rfl⟩; rw [HE.out])
    generalize hU : World.alloc u _ = U
    have HU := Lib.hid (show Below u.heap.size u U by rw [← hU]; exact below_box _ _)
    have s0 := (HU.out.cell (p := ⟨gr, k * 3, none⟩) hgr).trans r0
    have s2 := (HU.out.cell (p := ⟨gr, k * 3 + 2, none⟩) hgr).trans r2
    have sf2 : U.frozen? ⟨gr, k * 3 + 2, none⟩ = false := (World.frozen?_of_block (a := ⟨gr, k * 3 + 2, none⟩) (HU.out.block _ hgr)).trans rf2
    clear hU r0 r1 r2 rf2
    go_still_tail 16, (by kernel_rfl)
    go_upto_region 6 with (fail)
    generalize hV : World.drew _ = V
    have HV : Hid (WkIn X chans R base g0 gm ks A B (updF G k (goneG 0 e gk)) seen st fv rv sv V ∧ WkGo (Wb g0 gm fv rv sv) (Wb g0 gm fv rv sv) u V) := Lib.hid (by
      rw [← hV, HF2.out]
      have hW := (HK.out.later HU.out).gone hk HRV.out e
      exact ⟨hW.1.later (Below.refl _ _).drew, (WkGo.ahead HU.out hW.2).below (Below.refl _ _).drew⟩)
    have t0 : V.cell? ⟨gr, k * 3, none⟩ = some (.slice aa (A k).length ac) := by
      obtain ⟨gr', cap', e1, _, q, _⟩ := HV.out.1.row hk
      rw [HRV.out] at e1; cases e1
      rw [q, HFA.out]
    clear hV s0 s2 sf2
    go_wp2_with fail
    go_ret
    exact ⟨a', cf, by rw [HGK.out, HF1.out]; first | rfl | (rw [Nat.sub_self]; rfl), fun i y hy => (by
      rw [HGK.out, HF1.out] at hy ⊢
      obtain ⟨g, q1, q2, q3⟩ := HV.out.1.part HFA.out _ _ i y hy
      have hlt := (List.getElem?_eq_some_iff.1 hy).1
      simp only [List.length_drop, List.length_take] at hlt
      exact ⟨g, HSA.out (by omega) g q1, q2, q3⟩), by rw [HGK.out]; exact HV.out.1, HV.out.2⟩
  · subst hge
    have HF1 : Hid (goneF 0 gk gk = gk) := Lib.hid (by unfold goneF; rw [if_pos (Nat.zero_le _)]; omega)
    have HF2 : Hid (goneG 0 gk gk = gk) := Lib.hid (by unfold goneG; rw [if_pos (Nat.zero_le _)]; omega)
    obtain ⟨a', cf, hsl, hsa⟩ := slice_three aa (A k).length ac gk gk (Nat.le_refl _) hec
    have HSA := Lib.hid hsa
    clear hsa
    go_enter Tryz.func116, Tryz.ntmps116
    go_upto_region 5 with (go_at_call 132; refine (below_any aa ac (A k) j _ ((HRA.out.below (below_box u _)).more (below_box u _).size) hl HS.out).mono ?_; rintro en w1 ⟨rfl, rfl⟩; rw [HE.out])
    generalize hU : World.alloc u _ = U
    have HU := Lib.hid (show Below u.heap.size u U by rw [← hU]; exact below_box _ _)
    have s0 := (HU.out.cell (p := ⟨gr, k * 3, none⟩) hgr).trans r0
    have s2 := (HU.out.cell (p := ⟨gr, k * 3 + 2, none⟩) hgr).trans r2
    have sf2 : U.frozen? ⟨gr, k * 3 + 2, none⟩ = false := (World.frozen?_of_block (a := ⟨gr, k * 3 + 2, none⟩) (HU.out.block _ hgr)).trans rf2
    clear hU r0 r1 r2 rf2
    go_still_tail 16, (by kernel_rfl)
    go_upto_region 6 with (fail)
    generalize hV : World.drew _ = V
    have HV : Hid (WkIn X chans R base g0 gm ks A B (updF G k (goneG 0 gk gk)) seen st fv rv sv V ∧ WkGo (Wb g0 gm fv rv sv) (Wb g0 gm fv rv sv) u V) := Lib.hid (by
      rw [← hV, HF2.out]
      have hW := (HK.out.later HU.out).gone hk HRV.out gk
      exact ⟨hW.1.later (Below.refl _ _).drew, (WkGo.ahead HU.out hW.2).below (Below.refl _ _).drew⟩)
    have t0 : V.cell? ⟨gr, k * 3, none⟩ = some (.slice aa (A k).length ac) := by
      obtain ⟨gr', cap', e1, _, q, _⟩ := HV.out.1.row hk
      rw [HRV.out] at e1; cases e1
      rw [q, HFA.out]
    clear hV s0 s2 sf2
    go_wp2_with fail
    go_ret
    exact ⟨a', cf, by rw [HGK.out, HF1.out]; first | rfl | (rw [Nat.sub_self]; rfl), fun i y hy => (by
      rw [HGK.out, HF1.out] at hy ⊢
      obtain ⟨g, q1, q2, q3⟩ := HV.out.1.part HFA.out _ _ i y hy
      have hlt := (List.getElem?_eq_some_iff.1 hy).1
      simp only [List.length_drop, List.length_take] at hlt
      exact ⟨g, HSA.out (by omega) g q1, q2, q3⟩), by rw [HGK.out]; exact HV.out.1, HV.out.2⟩
  · have HF1 : Hid (goneF 0 e gk = e) := Lib.hid (by unfold goneF; rw [if_pos (Nat.zero_le _)]; omega)
    have HF2 : Hid (goneG 0 e gk = gk) := Lib.hid (by unfold goneG; rw [if_pos (Nat.zero_le _)]; omega)
    have hge' : (e : Int) < (gk : Int) := by omega
    have hge'' : ¬ (gk : Int) < (e : Int) := by omega
    have hge3 : ¬ (gk : Int) ≤ (e : Int) := by omega
    obtain ⟨a', cf, hsl, hsa⟩ := slice_three aa (A k).length ac e e (Nat.le_refl _) hec
    have HSA := Lib.hid hsa
    clear hsa
    go_enter Tryz.func116, Tryz.ntmps116
    go_upto_region 5 with (go_at_call 132; refine (below_any aa ac (A k) j _ ((HRA.out.below (below_box u _)).more (below_box u _).size) hl HS.out).mono ?_; rintro en w1 ⟨rfl, rfl⟩; rw [HE.out])
    generalize hU : World.alloc u _ = U
    have HU := Lib.hid (show Below u.heap.size u U by rw [← hU]; exact below_box _ _)
    have s0 := (HU.out.cell (p := ⟨gr, k * 3, none⟩) hgr).trans r0
    have s2 := (HU.out.cell (p := ⟨gr, k * 3 + 2, none⟩) hgr).trans r2
    have sf2 : U.frozen? ⟨gr, k * 3 + 2, none⟩ = false := (World.frozen?_of_block (a := ⟨gr, k * 3 + 2, none⟩) (HU.out.block _ hgr)).trans rf2
    clear hU r0 r1 r2 rf2
    go_still_tail 16, (by kernel_rfl)
    go_upto_region 6 with (fail)
    generalize hV : World.drew _ = V
    have HV : Hid (WkIn X chans R base g0 gm ks A B (updF G k (goneG 0 e gk)) seen st fv rv sv V ∧ WkGo (Wb g0 gm fv rv sv) (Wb g0 gm fv rv sv) u V) := Lib.hid (by
      rw [← hV, HF2.out]
      have hW := (HK.out.later HU.out).gone hk HRV.out gk
      exact ⟨hW.1.later (Below.refl _ _).drew, (WkGo.ahead HU.out hW.2).below (Below.refl _ _).drew⟩)
    have t0 : V.cell? ⟨gr, k * 3, none⟩ = some (.slice aa (A k).length ac) := by
      obtain ⟨gr', cap', e1, _, q, _⟩ := HV.out.1.row hk
      rw [HRV.out] at e1; cases e1
      rw [q, HFA.out]
    clear hV s0 s2 sf2
    go_wp2_with fail
    go_ret
    exact ⟨a', cf, by rw [HGK.out, HF1.out]; first | rfl | (rw [Nat.sub_self]; rfl), fun i y hy => (by
      rw [HGK.out, HF1.out] at hy ⊢
      obtain ⟨g, q1, q2, q3⟩ := HV.out.1.part HFA.out _ _ i y hy
      have hlt := (List.getElem?_eq_some_iff.1 hy).1
      simp only [List.length_drop, List.length_take] at hlt
      exact ⟨g, HSA.out (by omega) g q1, q2, q3⟩), by rw [HGK.out]; exact HV.out.1, HV.out.2⟩
theorem fresh_some {X : Nat → Prop} {chans : List Int} {R : Array Value} {base g0 gm : Nat} {ks : List (Int × Int)} {A B : Nat → List Nat} {G : Nat → Nat} {seen : List Bool} {st : List Nat} {fv : Nat → Value} {rv sv : Value} {u : World} (h : WkIn X chans R base g0 gm ks A B G seen st fv rv sv u) {k gr cap : Nat} (hk : k < ks.length) (hrv : rv = .slice (some ⟨gr, 0, none⟩) ks.length cap) (va vb vw : Value) (wf : Wh) (x : Int) (j f e : Nat) (hva : va.oneCell' = true) (hvb : vb.oneCell' = true) (hww : WhV X u vw (some wf)) (hs : (A k).Pairwise (· < ·)) (hsB : (B k).Pairwise (· < ·)) (hlB : (B k).length ≤ 1000000) (hl : (A k).length ≤ 1000000) (hG : G k ≤ 1000000) (hwf : wf x (cntLt (A k) j) (cntLt (B k) j) = ((f : Int), (e : Int))) (hfe : f ≤ e) (hel : e ≤ (A k).length) :
    Calls Tryz.prog 116 #[.pointer (some ⟨gr, k * 3, none⟩), .agg #[va, vb, vw], .int .i64 x, .int .i64 j] u (FreshE X chans R base g0 gm ks A B G seen st fv rv sv k f e u) := by
  obtain ⟨fw, cw, rfl, hcfw, hSw⟩ := hww
  obtain ⟨⟨aa, ac, hfa, hac, hra, ha0⟩, ab, bc, hfb, hrb⟩ := h.lists k
  obtain ⟨gr', cap', hrv', hgr, r0, r1, r2, rf⟩ := h.row hk
  rw [hrv] at hrv'; cases hrv'
  rw [hfa] at r0
  rw [hfb] at r1
  have hcA := cntLt_le (A k) j
  have hcB := cntLt_le (B k) j
  generalize hcAe : cntLt (A k) j = cA at *
  generalize hcBe : cntLt (B k) j = cB at *
  have HCA := Lib.hid hcAe
  have HCB := Lib.hid hcBe
  have hW := fun u' (q : Below u.heap.size u u') => hSw u' (Touch.of_below q) x cA cB (by omega) (by omega)
  rw [hwf] at hW
  have HW := Lib.hid hW
  have HRB := Lib.hid hrb
  have HSB := Lib.hid hsB
  clear hW hSw hwf hcAe hcBe hsB
  have HK := Lib.hid h
  have HRA := Lib.hid hra
  have HS := Lib.hid hs
  have HRV := Lib.hid hrv
  have hec : e ≤ ac := by omega
  have rf2 := rf (k * 3 + 2)
  have hnil : ∀ u : World, (binOp BinOp.neq 153 (.func (.func fw) #[] cw) .nilFunc).run Tryz.prog u = .ok (.bool true) u := fun _ => by kernel_rfl
  clear h hra hrb hs rf ha0 hrv
  generalize hgk : G k = gk at *
  have HGK := Lib.hid hgk
  clear hgk
  have HFA := Lib.hid hfa
  clear hfa
  by_cases hfg : f ≤ gk
  · have hfg' : (f : Int) ≤ (gk : Int) := by omega
    rcases Nat.lt_trichotomy gk e with hge | hge | hge
    · have HF1 : Hid (goneF f e gk = gk) := Lib.hid (by unfold goneF; rw [if_pos hfg]; omega)
      have HF2 : Hid (goneG f e gk = e) := Lib.hid (by unfold goneG; rw [if_pos hfg]; omega)
      have hge' : (gk : Int) < (e : Int) := by omega
      have hge'' : ¬ (e : Int) < (gk : Int) := by omega
      have hge3 : (gk : Int) ≤ (e : Int) := by omega
      obtain ⟨a', cf, hsl, hsa⟩ := slice_three aa (A k).length ac gk e (by omega) hec
      have HSA := Lib.hid hsa
      clear hsa
      go_enter Tryz.func116, Tryz.ntmps116
      go_upto_region 1 with (fail)
      generalize hU : World.alloc u _ = U
      have hN := (congrArg (fun x : World => x.heap[u.heap.size]?) hU).symm.trans (heap_alloc_new _ _)
      have HU := Lib.hid (show Below u.heap.size u U by rw [← hU]; exact below_box _ _)
      obtain ⟨k0, k1, k2⟩ := box3 hN
      have s0 := (HU.out.cell (p := ⟨gr, k * 3, none⟩) hgr).trans r0
      have s1 := (HU.out.cell (p := ⟨gr, k * 3 + 1, none⟩) hgr).trans r1
      clear hU r0 r1 r2 hN
      go_upto_region 3 with (go_at_call 132; refine (below_any aa ac (A k) j _ ((HRA.out.below HU.out).more HU.out.size) hl HS.out).mono ?_; rintro en w1 ⟨rfl, rfl⟩; rw [HCA.out])
      have KU : U.drew.cell? ⟨u.heap.size, 2, none⟩ = some (.func (.func fw) #[] cw) ∧ U.drew.cell? ⟨gr, k * 3 + 1, none⟩ = some (.slice ab (B k).length bc) := ⟨k2, s1⟩
      clear k0 k1 k2 s0 s1
      go_region_held3 (fun u' => u'.cell? ⟨u.heap.size, 2, none⟩ = some (.func (.func fw) #[] cw) ∧ u'.cell? ⟨gr, k * 3 + 1, none⟩ = some (.slice ab (B k).length bc)) (first | with_reducible exact KU | with_reducible exact ⟨keepC hB2 KU.1, keepC hB2 KU.2⟩ | fail)
        (first
          | (go_at_call 132; refine (below_any ab bc (B k) j _ (((HRB.out.below HU.out).more HU.out.size).up (Below.refl U.heap.size U).drew) hlB HSB.out).mono ?_; rintro en w1 ⟨rfl, rfl⟩; rw [HCB.out])
          | (refine (HW.out _ HU.out.drew).mono ?_; rintro en w2 ⟨rfl, hB2⟩))
      have HV2 := Lib.hid (below_next HU.out.drew hB2)
      clear KU hB2 HU
      have HK2 := Lib.hid (HK.out.later HV2.out)
      obtain ⟨s0, s2, sf2⟩ : w2.cell? ⟨gr, k * 3, none⟩ = some (.slice aa (A k).length ac) ∧ w2.cell? ⟨gr, k * 3 + 2, none⟩ = some (.int .i64 gk) ∧ w2.frozen? ⟨gr, k * 3 + 2, none⟩ = false := by
        obtain ⟨gr', cap', e1, _, q1, _, q2, q3⟩ := HK2.out.row hk
        rw [HRV.out] at e1; cases e1
        exact ⟨q1.trans (by rw [HFA.out]), q2.trans (by rw [HGK.out]), q3 _⟩
      go_upto_region 5 with (fail)
      go_still_tail 16, (by kernel_rfl)
      go_upto_region 6 with (fail)
      generalize hV : World.drew _ = V
      have HV : Hid (WkIn X chans R base g0 gm ks A B (updF G k (goneG f e gk)) seen st fv rv sv V ∧ WkGo (Wb g0 gm fv rv sv) (Wb g0 gm fv rv sv) u V) := Lib.hid (by
        rw [← hV, HF2.out]
        have hW := HK2.out.gone hk HRV.out e
        exact ⟨hW.1.later (Below.refl _ _).drew, (WkGo.ahead HV2.out hW.2).below (Below.refl _ _).drew⟩)
      have t0 : V.cell? ⟨gr, k * 3, none⟩ = some (.slice aa (A k).length ac) := by
        obtain ⟨gr', cap', e1, _, q, _⟩ := HV.out.1.row hk
        rw [HRV.out] at e1; cases e1
        rw [q, HFA.out]
      clear hV s0 s2 sf2
      go_wp2_with fail
      go_ret
      exact ⟨a', cf, by rw [HGK.out, HF1.out]; first | rfl | (rw [Nat.sub_self]; rfl), fun i y hy => (by
        rw [HGK.out, HF1.out] at hy ⊢
        obtain ⟨g, q1, q2, q3⟩ := HV.out.1.part HFA.out _ _ i y hy
        have hlt := (List.getElem?_eq_some_iff.1 hy).1
        simp only [List.length_drop, List.length_take] at hlt
        exact ⟨g, HSA.out (by omega) g q1, q2, q3⟩), by rw [HGK.out]; exact HV.out.1, HV.out.2⟩
    · subst hge
      have HF1 : Hid (goneF f gk gk = gk) := Lib.hid (by unfold goneF; rw [if_pos hfg]; omega)
      have HF2 : Hid (goneG f gk gk = gk) := Lib.hid (by unfold goneG; rw [if_pos hfg]; omega)
      obtain ⟨a', cf, hsl, hsa⟩ := slice_three aa (A k).length ac gk gk (Nat.le_refl _) hec
      have HSA := Lib.hid hsa
      clear hsa
      go_enter Tryz.func116, Tryz.ntmps116
      go_upto_region 1 with (fail)
      generalize hU : World.alloc u _ = U
      have hN := (congrArg (fun x : World => x.heap[u.heap.size]?) hU).symm.trans (heap_alloc_new _ _)
      have HU := Lib.hid (show Below u.heap.size u U by rw [← hU]; exact below_box _ _)
      obtain ⟨k0, k1, k2⟩ := box3 hN
      have s0 := (HU.out.cell (p := ⟨gr, k * 3, none⟩) hgr).trans r0
      have s1 := (HU.out.cell (p := ⟨gr, k * 3 + 1, none⟩) hgr).trans r1
      clear hU r0 r1 r2 hN
      go_upto_region 3 with (go_at_call 132; refine (below_any aa ac (A k) j _ ((HRA.out.below HU.out).more HU.out.size) hl HS.out).mono ?_; rintro en w1 ⟨rfl, rfl⟩; rw [HCA.out])
      have KU : U.drew.cell? ⟨u.heap.size, 2, none⟩ = some (.func (.func fw) #[] cw) ∧ U.drew.cell? ⟨gr, k * 3 + 1, none⟩ = some (.slice ab (B k).length bc) := ⟨k2, s1⟩
      clear k0 k1 k2 s0 s1
      go_region_held3 (fun u' => u'.cell? ⟨u.heap.size, 2, none⟩ = some (.func (.func fw) #[] cw) ∧ u'.cell? ⟨gr, k * 3 + 1, none⟩ = some (.slice ab (B k).length bc)) (first | with_reducible exact KU | with_reducible exact ⟨keepC hB2 KU.1, keepC hB2 KU.2⟩ | fail)
        (first
          | (go_at_call 132; refine (below_any ab bc (B k) j _ (((HRB.out.below HU.out).more HU.out.size).up (Below.refl U.heap.size U).drew) hlB HSB.out).mono ?_; rintro en w1 ⟨rfl, rfl⟩; rw [HCB.out])
          | (refine (HW.out _ HU.out.drew).mono ?_; rintro en w2 ⟨rfl, hB2⟩))
      have HV2 := Lib.hid (below_next HU.out.drew hB2)
      clear KU hB2 HU
      have HK2 := Lib.hid (HK.out.later HV2.out)
      obtain ⟨s0, s2, sf2⟩ : w2.cell? ⟨gr, k * 3, none⟩ = some (.slice aa (A k).length ac) ∧ w2.cell? ⟨gr, k * 3 + 2, none⟩ = some (.int .i64 gk) ∧ w2.frozen? ⟨gr, k * 3 + 2, none⟩ = false := by
        obtain ⟨gr', cap', e1, _, q1, _, q2, q3⟩ := HK2.out.row hk
        rw [HRV.out] at e1; cases e1
        exact ⟨q1.trans (by rw [HFA.out]), q2.trans (by rw [HGK.out]), q3 _⟩
      go_upto_region 5 with (fail)
      go_still_tail 16, (by kernel_rfl)
      go_upto_region 6 with (fail)
      generalize hV : World.drew _ = V
      have HV : Hid (WkIn X chans R base g0 gm ks A B (updF G k (goneG f gk gk)) seen st fv rv sv V ∧ WkGo (Wb g0 gm fv rv sv) (Wb g0 gm fv rv sv) u V) := Lib.hid (by
        rw [← hV, HF2.out]
        have hW := HK2.out.gone hk HRV.out gk
        exact ⟨hW.1.later (Below.refl _ _).drew, (WkGo.ahead HV2.out hW.2).below (Below.refl _ _).drew⟩)
      have t0 : V.cell? ⟨gr, k * 3, none⟩ = some (.slice aa (A k).length ac) := by
        obtain ⟨gr', cap', e1, _, q, _⟩ := HV.out.1.row hk
        rw [HRV.out] at e1; cases e1
        rw [q, HFA.out]
      clear hV s0 s2 sf2
      go_wp2_with fail
      go_ret
      exact ⟨a', cf, by rw [HGK.out, HF1.out]; first | rfl | (rw [Nat.sub_self]; rfl), fun i y hy => (by
        rw [HGK.out, HF1.out] at hy ⊢
        obtain ⟨g, q1, q2, q3⟩ := HV.out.1.part HFA.out _ _ i y hy
        have hlt := (List.getElem?_eq_some_iff.1 hy).1
        simp only [List.length_drop, List.length_take] at hlt
        exact ⟨g, HSA.out (by omega) g q1, q2, q3⟩), by rw [HGK.out]; exact HV.out.1, HV.out.2⟩
    · have HF1 : Hid (goneF f e gk = e) := Lib.hid (by unfold goneF; rw [if_pos hfg]; omega)
      have HF2 : Hid (goneG f e gk = gk) := Lib.hid (by unfold goneG; rw [if_pos hfg]; omega)
      have hge' : (e : Int) < (gk : Int) := by omega
      have hge'' : ¬ (gk : Int) < (e : Int) := by omega
      have hge3 : ¬ (gk : Int) ≤ (e : Int) := by omega
      obtain ⟨a', cf, hsl, hsa⟩ := slice_three aa (A k).length ac e e (Nat.le_refl _) hec
      have HSA := Lib.hid hsa
      clear hsa
      go_enter Tryz.func116, Tryz.ntmps116
      go_upto_region 1 with (fail)
      generalize hU : World.alloc u _ = U
      have hN := (congrArg (fun x : World => x.heap[u.heap.size]?) hU).symm.trans (heap_alloc_new _ _)
      have HU := Lib.hid (show Below u.heap.size u U by rw [← hU]; exact below_box _ _)
      obtain ⟨k0, k1, k2⟩ := box3 hN
      have s0 := (HU.out.cell (p := ⟨gr, k * 3, none⟩) hgr).trans r0
      have s1 := (HU.out.cell (p := ⟨gr, k * 3 + 1, none⟩) hgr).trans r1
      clear hU r0 r1 r2 hN
      go_upto_region 3 with (go_at_call 132; refine (below_any aa ac (A k) j _ ((HRA.out.below HU.out).more HU.out.size) hl HS.out).mono ?_; rintro en w1 ⟨rfl, rfl⟩; rw [HCA.out])
      have KU : U.drew.cell? ⟨u.heap.size, 2, none⟩ = some (.func (.func fw) #[] cw) ∧ U.drew.cell? ⟨gr, k * 3 + 1, none⟩ = some (.slice ab (B k).length bc) := ⟨k2, s1⟩
      clear k0 k1 k2 s0 s1
      go_region_held3 (fun u' => u'.cell? ⟨u.heap.size, 2, none⟩ = some (.func (.func fw) #[] cw) ∧ u'.cell? ⟨gr, k * 3 + 1, none⟩ = some (.slice ab (B k).length bc)) (first | with_reducible exact KU | with_reducible exact ⟨keepC hB2 KU.1, keepC hB2 KU.2⟩ | fail)
        (first
          | (go_at_call 132; refine (below_any ab bc (B k) j _ (((HRB.out.below HU.out).more HU.out.size).up (Below.refl U.heap.size U).drew) hlB HSB.out).mono ?_; rintro en w1 ⟨rfl, rfl⟩; rw [HCB.out])
          | (refine (HW.out _ HU.out.drew).mono ?_; rintro en w2 ⟨rfl, hB2⟩))
      have HV2 := Lib.hid (below_next HU.out.drew hB2)
      clear KU hB2 HU
      have HK2 := Lib.hid (HK.out.later HV2.out)
      obtain ⟨s0, s2, sf2⟩ : w2.cell? ⟨gr, k * 3, none⟩ = some (.slice aa (A k).length ac) ∧ w2.cell? ⟨gr, k * 3 + 2, none⟩ = some (.int .i64 gk) ∧ w2.frozen? ⟨gr, k * 3 + 2, none⟩ = false := by
        obtain ⟨gr', cap', e1, _, q1, _, q2, q3⟩ := HK2.out.row hk
        rw [HRV.out] at e1; cases e1
        exact ⟨q1.trans (by rw [HFA.out]), q2.trans (by rw [HGK.out]), q3 _⟩
      go_upto_region 5 with (fail)
      go_still_tail 16, (by kernel_rfl)
      go_upto_region 6 with (fail)
      generalize hV : World.drew _ = V
      have HV : Hid (WkIn X chans R base g0 gm ks A B (updF G k (goneG f e gk)) seen st fv rv sv V ∧ WkGo (Wb g0 gm fv rv sv) (Wb g0 gm fv rv sv) u V) := Lib.hid (by
        rw [← hV, HF2.out]
        have hW := HK2.out.gone hk HRV.out gk
        exact ⟨hW.1.later (Below.refl _ _).drew, (WkGo.ahead HV2.out hW.2).below (Below.refl _ _).drew⟩)
      have t0 : V.cell? ⟨gr, k * 3, none⟩ = some (.slice aa (A k).length ac) := by
        obtain ⟨gr', cap', e1, _, q, _⟩ := HV.out.1.row hk
        rw [HRV.out] at e1; cases e1
        rw [q, HFA.out]
      clear hV s0 s2 sf2
      go_wp2_with fail
      go_ret
      exact ⟨a', cf, by rw [HGK.out, HF1.out]; first | rfl | (rw [Nat.sub_self]; rfl), fun i y hy => (by
        rw [HGK.out, HF1.out] at hy ⊢
        obtain ⟨g, q1, q2, q3⟩ := HV.out.1.part HFA.out _ _ i y hy
        have hlt := (List.getElem?_eq_some_iff.1 hy).1
        simp only [List.length_drop, List.length_take] at hlt
        exact ⟨g, HSA.out (by omega) g q1, q2, q3⟩), by rw [HGK.out]; exact HV.out.1, HV.out.2⟩
  · have hfg' : ¬ (f : Int) ≤ (gk : Int) := by omega
    have HF1 : Hid (goneF f e gk = f) := Lib.hid (by unfold goneF; rw [if_neg hfg])
    have HF2 : Hid (goneG f e gk = gk) := Lib.hid (by unfold goneG; rw [if_neg hfg])
    have hfe' : (f : Int) ≤ (e : Int) := by omega
    obtain ⟨a', cf, hsl, hsa⟩ := slice_three aa (A k).length ac f e hfe hec
    have HSA := Lib.hid hsa
    clear hsa
    go_enter Tryz.func116, Tryz.ntmps116
    go_upto_region 1 with (fail)
    generalize hU : World.alloc u _ = U
    have hN := (congrArg (fun x : World => x.heap[u.heap.size]?) hU).symm.trans (heap_alloc_new _ _)
    have HU := Lib.hid (show Below u.heap.size u U by rw [← hU]; exact below_box _ _)
    obtain ⟨k0, k1, k2⟩ := box3 hN
    have s0 := (HU.out.cell (p := ⟨gr, k * 3, none⟩) hgr).trans r0
    have s1 := (HU.out.cell (p := ⟨gr, k * 3 + 1, none⟩) hgr).trans r1
    clear hU r0 r1 r2 hN
    go_upto_region 3 with (go_at_call 132; refine (below_any aa ac (A k) j _ ((HRA.out.below HU.out).more HU.out.size) hl HS.out).mono ?_; rintro en w1 ⟨rfl, rfl⟩; rw [HCA.out])
    have KU : U.drew.cell? ⟨u.heap.size, 2, none⟩ = some (.func (.func fw) #[] cw) ∧ U.drew.cell? ⟨gr, k * 3 + 1, none⟩ = some (.slice ab (B k).length bc) := ⟨k2, s1⟩
    clear k0 k1 k2 s0 s1
    go_region_held3 (fun u' => u'.cell? ⟨u.heap.size, 2, none⟩ = some (.func (.func fw) #[] cw) ∧ u'.cell? ⟨gr, k * 3 + 1, none⟩ = some (.slice ab (B k).length bc)) (first | with_reducible exact KU | with_reducible exact ⟨keepC hB2 KU.1, keepC hB2 KU.2⟩ | fail)
      (first
        | (go_at_call 132; refine (below_any ab bc (B k) j _ (((HRB.out.below HU.out).more HU.out.size).up (Below.refl U.heap.size U).drew) hlB HSB.out).mono ?_; rintro en w1 ⟨rfl, rfl⟩; rw [HCB.out])
        | (refine (HW.out _ HU.out.drew).mono ?_; rintro en w2 ⟨rfl, hB2⟩))
    have HV2 := Lib.hid (below_next HU.out.drew hB2)
    clear KU hB2 HU
    have HK2 := Lib.hid (HK.out.later HV2.out)
    obtain ⟨s0, s2, sf2⟩ : w2.cell? ⟨gr, k * 3, none⟩ = some (.slice aa (A k).length ac) ∧ w2.cell? ⟨gr, k * 3 + 2, none⟩ = some (.int .i64 gk) ∧ w2.frozen? ⟨gr, k * 3 + 2, none⟩ = false := by
      obtain ⟨gr', cap', e1, _, q1, _, q2, q3⟩ := HK2.out.row hk
      rw [HRV.out] at e1; cases e1
      exact ⟨q1.trans (by rw [HFA.out]), q2.trans (by rw [HGK.out]), q3 _⟩
    go_upto_region 6 with (fail)
    generalize hV : w2 = V at *
    have HV : Hid (WkIn X chans R base g0 gm ks A B (updF G k (goneG f e gk)) seen st fv rv sv V ∧ WkGo (Wb g0 gm fv rv sv) (Wb g0 gm fv rv sv) u V) := Lib.hid (by
      rw [HF2.out]
      have : updF G k gk = G := by funext i; by_cases q : i = k; subst q; rw [updF_same, HGK.out]; rw [updF_ne _ _ q]
      rw [this]
      exact ⟨HK2.out, (WkGo.refl _ u).below HV2.out⟩)
    go_wp2_with fail
    go_ret
    exact ⟨a', cf, by rw [HGK.out, HF1.out]; first | rfl | (rw [Nat.sub_self]; rfl), fun i y hy => (by
      rw [HGK.out, HF1.out] at hy ⊢
      obtain ⟨g, q1, q2, q3⟩ := HV.out.1.part HFA.out _ _ i y hy
      have hlt := (List.getElem?_eq_some_iff.1 hy).1
      simp only [List.length_drop, List.length_take] at hlt
      exact ⟨g, HSA.out (by omega) g q1, q2, q3⟩), by rw [HGK.out]; exact HV.out.1, HV.out.2⟩
theorem fresh_any {X : Nat → Prop} {chans : List Int} {R : Array Value} {base g0 gm : Nat} {ks : List (Int × Int)} {A B : Nat → List Nat} {G : Nat → Nat} {seen : List Bool} {st : List Nat} {fv : Nat → Value} {rv sv : Value} {u : World} (h : WkIn X chans R base g0 gm ks A B G seen st fv rv sv u) {k gr cap : Nat} (hk : k < ks.length) (hrv : rv = .slice (some ⟨gr, 0, none⟩) ks.length cap) (va vb vw : Value) (o : Option Wh) (x : Int) (j f e : Nat) (hva : va.oneCell' = true) (hvb : vb.oneCell' = true) (hww : WhV X u vw o) (hs : (A k).Pairwise (· < ·)) (hl : (A k).length ≤ 1000000) (hB : o ≠ none → (B k).Pairwise (· < ·) ∧ (B k).length ≤ 1000000) (hG : G k ≤ 1000000) (hwf : whN o x (cntLt (A k) j) (cntLt (B k) j) = ((f : Int), (e : Int))) (hfe : f ≤ e) (hel : e ≤ (A k).length) :
    Calls Tryz.prog 116 #[.pointer (some ⟨gr, k * 3, none⟩), .agg #[va, vb, vw], .int .i64 x, .int .i64 j] u (FreshE X chans R base g0 gm ks A B G seen st fv rv sv k f e u) := by
  cases o with
  | none =>
    cases hww
    simp only [whN] at hwf
    have e1 : f = 0 := by have := congrArg Prod.fst hwf; simp only at this; omega
    have e2 : cntLt (A k) j = e := by have := congrArg Prod.snd hwf; simp only at this; omega
    subst e1
    exact fresh_none h hk hrv va vb x j e hva hvb hs hl hG e2
  | some w =>
    obtain ⟨b1, b2⟩ := hB (by simp)
    exact fresh_some h hk hrv va vb vw w x j f e hva hvb hww hs b1 b2 hl hG hwf hfe hel
end Go.Proofs.YtglafbajbiengaaGreat
