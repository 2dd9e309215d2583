/- What the laws of this seat stand on, part 23. -/
import Derived.Test.YtglafbajbiengaaPa0
import Derived.Test.YtglafbajbiengaaPa11
import Derived.Test.YtglafbajbiengaaPa22
set_option linter.unusedVariables false
set_option linter.unusedSimpArgs false
set_option maxRecDepth 100000
set_option maxHeartbeats 40000000
namespace Go.Proofs.Ytglafbajbiengaa
open Go.ChangeShapes Go.WideShapes Go.ChangeAt Go.RowKit Go.Maps Go.Shelf
attribute [local go_sem] Oper.semAt_some
theorem backE_fn (n : Nat) (v : Value) (hv : v.oneCell' = true) (w : World) :
    CallsIn Fence.wide n Try.prog 9 #[v] w fun e w' => e = .returned (.func (.func 16) #[] #[.pointer (some ⟨w.heap.size, 0, none⟩)]) ∧ w' = w.alloc (.cells #[v] 23) := by
  refine callsIn_of_wp Try.func9 rfl trivial ?_ rfl
  simp only [Try.ntmps9, List.size_toArray, List.length_cons, List.length_nil, Nat.reduceAdd, Nat.reduceSub, Array.replicate_succ, Array.replicate_zero, List.push_toArray, List.append_toArray, List.nil_append, List.cons_append]
  gi_wp2
  go_ret
  exact ⟨rfl, rfl⟩
/-- What a load may read, by lists: the Stores that are not written over, the last one first; the beginning, if no Store is known. -/
def mayL (chans : List Int) (t : List EvD) (th x : Int) : List Int :=
  (((List.range t.length).reverse.filter fun i => stP t x i && !ovB chans t (knL chans t th x) i).map fun i : Nat => (i : Int)) ++ (if knL chans t th x = [] then [-1] else [])
def MayE (chans : List Int) (t : List EvD) (th x : Int) (w : World) (e : Ending) (W' : World) : Prop := ∃ a cap, e = .returned (.slice a (mayL chans t th x).length cap) ∧ RowOf .i64 W' W'.heap.size a (mayL chans t th x) ∧ Below w.heap.size w W'
theorem info_intW : (Try.prog.info? 3).map (fun i => (i.zero, i.size, i.bytes)) = some (some (.int .i64 0), 1, 8) := by kernel_rfl
theorem knL_below {chans : List Int} {t : List EvD} {th x : Int} : ∀ k ∈ knL chans t th x, k < t.length := fun k hk => by
  unfold knL at hk
  have := pastI_below (List.mem_filter.1 hk).1
  omega
theorem knL_len {chans : List Int} {t : List EvD} {th x : Int} (h : t.length ≤ 899) : (knL chans t th x).length ≤ 900 := by
  unfold knL
  refine Nat.le_trans (List.length_filter_le _ _) ?_
  have := pastI_len (ch := chans) (t := t ++ [ldE th x]) (j := t.length) (by simp)
  simp at this
  omega
def mP (t : List EvD) (x : Int) (ov : Nat → Bool) (pre : List (PlE t)) : List Int := ((pre.map fun y => y.1.1).filter fun i => stP t x i && !ov i).map fun i : Nat => (i : Int)
theorem mP_yes {t : List EvD} {x : Int} {ov : Nat → Bool} {pre : List (PlE t)} {y : PlE t} (h1 : stB x y.1.2 = true) (h2 : ov y.1.1 = false) : mP t x ov (pre ++ [y]) = mP t x ov pre ++ [(y.1.1 : Int)] := by
  have : stP t x y.1.1 = true := (stP_at y.2 x).trans h1
  simp [mP, this, h2]
theorem mP_no {t : List EvD} {x : Int} {ov : Nat → Bool} {pre : List (PlE t)} {y : PlE t} (h : (stB x y.1.2 && !ov y.1.1) = false) : mP t x ov (pre ++ [y]) = mP t x ov pre := by
  have : (stP t x y.1.1 && !ov y.1.1) = false := by rw [stP_at y.2 x]; exact h
  simp only [mP, List.map_append, List.map_cons, List.map_nil, List.filter_append, List.filter_cons, this, Bool.false_eq_true, if_false, List.filter_nil, List.append_nil]
theorem mP_len {t : List EvD} {x : Int} {ov : Nat → Bool} (pre : List (PlE t)) : (mP t x ov pre).length ≤ pre.length := by
  unfold mP
  rw [List.length_map]
  refine Nat.le_trans (List.length_filter_le _ _) ?_
  rw [List.length_map]; exact Nat.le_refl _
theorem mayL_mP {chans : List Int} {t : List EvD} {th x : Int} : mayL chans t th x = mP t x (ovB chans t (knL chans t th x)) (bkE t t.length) ++ (if knL chans t th x = [] then [-1] else []) := by
  unfold mayL mP
  rw [bkE_vals t t.length (Nat.le_refl _), List.take_of_length_le (by simp)]
theorem own_rowW {V : World} {base : Nat} {v : Value} {L : List Int} (h : V.ownsRow base 3 1 v L.length (L.map (.int .i64 ·))) : ∃ a cap, v = .slice a L.length cap ∧ RowOf .i64 V V.heap.size a L := by
  obtain ⟨a, cap, e, h2⟩ := own_cells h
  exact ⟨a, cap, e, fun i x hx => by
    obtain ⟨g, ea, _, hg, hc⟩ := h2 i x hx
    exact ⟨g, 0, ea, hg, by rw [Nat.zero_add]; exact hc⟩⟩
/-- May's memory in its loop. -/
def MyI (w : World) (x : Int) (n : Nat) (ov : Nat → Bool) (a : Option Addr) (cap tn : Nat) (gr b2 : Nat) (L : List Int) (W : World) : Prop :=
  ((∃ v, Boxed W (b2 + 1) 27 v ∧ W.ownsRow (b2 + 1) 3 1 v L.length (L.map (.int .i64 ·)) ∧ True) ∧ (W.heap[gr]? = some (.cells (mkB ov n).toArray 4 (0, 0)) ∧ W.heap[b2]? = some (.cells #[.slice (some ⟨gr, 0, none⟩) n n] 37 (0, 0)) ∧ W.heap[w.heap.size + 1]? = some (.cells #[.int .i64 x] 3 (0, 0)) ∧ Boxed W (b2 + 1 + 1) 23 (.slice a tn cap))) ∧ Below w.heap.size w W
theorem myI_own {β : Type} (w : World) (x : Int) (n : Nat) (ov : Nat → Bool) (a : Option Addr) (cap tn gr b2 B : Nat) (f : β → List Int) (hB : w.heap.size ≤ B) : OwnFrom B (fun (s : β) W => MyI w x n ov a cap tn gr b2 (f s) W) :=
  OwnFrom.and (OwnFrom.and (Own.from (holdsRow_own (b2 + 1) (b2 + 1) 27 3 1 (fun s : β => (f s).length) (fun s => (f s).map (.int .i64 ·)) (fun _ _ => True)) _) (OwnFrom.and (ownFrom_blk B _ (fun _ => _) _) (OwnFrom.and (ownFrom_blk B _ (fun _ => _) _) (OwnFrom.and (ownFrom_blk B _ (fun _ => _) _) (Own.from (boxed_own _ _ (fun _ => _)) _))))) (ownFrom_below (Nat.le_refl _) hB)
theorem MyI.later {w W W' : World} {x : Int} {n : Nat} {ov : Nat → Bool} {a : Option Addr} {cap tn gr b2 : Nat} {L : List Int} (h : MyI w x n ov a cap tn gr b2 L W) (hB : Below W.heap.size W W') : MyI w x n ov a cap tn gr b2 L W' := by
  obtain ⟨⟨⟨v, h1, h2, _⟩, h3, h4, h5, h6⟩, h7⟩ := h
  exact ⟨⟨⟨v, boxed_at h1 hB, own_later h2 hB, trivial⟩, old_later h3 hB, old_later h4 hB, old_later h5 hB, boxed_at h6 hB⟩, below_next h7 hB⟩
/-- One more is appended. -/
theorem MyI.push {w W w1 : World} {x : Int} {n : Nat} {ov : Nat → Bool} {a : Option Addr} {cap tn gr b2 : Nat} {L : List Int} {v v' : Value} {y : Int} {tmp : Obj} (h : MyI w x n ov a cap tn gr b2 L W) (hv : Boxed W (b2 + 1) 27 v) (hr : W.ownsRow (b2 + 1) 3 1 v L.length (L.map (.int .i64 ·)))
    (hlow : w.heap.size + 1 < b2) (hgr : gr < b2) (hown : w1.ownsRow (b2 + 1) 3 1 v' (L.length + 1) (L.map (.int .i64 ·) ++ [.int .i64 y])) (hgrow : (W.alloc tmp).grownBy w1 v.ownBlock) :
    Boxed w1 (b2 + 1) 27 v ∧ MyI w x n ov a cap tn gr b2 (L ++ [y]) (w1.setCell ⟨b2 + 1, 0, none⟩ v') ∧ KeepsOthers W (w1.setCell ⟨b2 + 1, 0, none⟩ v') ∧ KpW w.heap.size (b2 + 1 + 1) W (w1.setCell ⟨b2 + 1, 0, none⟩ v') := by
  obtain ⟨⟨_, h3, h4, h5, h6⟩, h7⟩ := h
  have hs := hv.lt
  obtain ⟨q1, q2, q3, q4, q5⟩ := hv.appended (by decide) hr (by omega) (Nat.le_refl _) hown hgrow
  have q6 : Boxed (w1.setCell ⟨b2 + 1, 0, none⟩ v') (b2 + 1 + 1) 23 (.slice a tn cap) := ((h6.alloc tmp).kept hgrow (h6.not_row (by decide) hr)).other (B' := b2 + 1) (by simp) v'
  refine ⟨q1, ⟨⟨⟨v', q2, by rw [List.length_append, List.map_append]; exact q3, trivial⟩, (q5.block gr (by omega)).trans h3, (q5.block b2 (by omega)).trans h4, (q5.block _ (by omega)).trans h5, q6⟩, h7.trans (q5.mono (by omega))⟩, q4, fun g hg => q5.block g (by omega), Eq.trans q6 h6.symm⟩
theorem may_any (v0 v1 v2 : Value) (ca : Option Addr) (ccap : Nat) (chans : List Int) (v4 v5 v6 : Value) (a : Option Addr) (cap : Nat) (t : List EvD) (th x : Int) (w : World) (hc : ChIn w ca chans) (he : EvsIn w w.heap.size a t) (hW : ∀ e ∈ t, EvW e) (hth : Wf th) (hx : Wf x) (hl : t.length ≤ 899) (hcap : t.length ≤ cap) (hv : (#[v0, v1, v2, .slice ca chans.length ccap, v4, v5, v6] : Array Value).all (·.oneCell') = true) :
    Calls Try.prog 5 #[.agg #[v0, v1, v2, .slice ca chans.length ccap, v4, v5, v6], .slice a t.length cap, .int .i64 th, .int .i64 x] w (MayE chans t th x w) := by
  obtain ⟨i0, hi0, hz0, hz1, hz2⟩ := info_parts info_intW
  have HVV := Lib.hid hv
  have HKn := Lib.hid (fun W (hB : Below w.heap.size w W) => knows_any v0 v1 v2 ca ccap chans v4 v5 v6 a cap t th x W (hc.later hB) (he.later hB) hW hth hx (by omega) hv)
  have HHd := Lib.hid (fun W (hB : Below w.heap.size w W) ka kc hk => hidden_any v0 v1 v2 ca ccap chans v4 v5 v6 a cap t ka kc (knL chans t th x) W (hc.later hB) (he.later hB) hW (by omega) hcap hk knL_below (knL_len hl) hv)
  have HE := Lib.hid he
  clear hc he hW hth hx
  simp only [List.all_toArray, List.all_cons, List.all_nil, Bool.and_true, Bool.and_eq_true] at hv
  obtain ⟨o0, o1, o2, o3, o4, o5, o6⟩ := hv
  unfold KnE at HKn
  refine (callsIn_wide (n := 3)).1 ?_
  refine callsIn_of_wp_marks Try.func5 rfl trivial ?_ rfl
  simp only [Try.ntmps5, List.size_toArray, List.length_cons, List.length_nil, Nat.reduceAdd, Nat.reduceSub, Array.replicate_succ, Array.replicate_zero, List.push_toArray, List.append_toArray, List.nil_append, List.cons_append]
  have hB0 : Below w.heap.size w ((w.alloc (.cells #[v0, v1, v2, .slice ca chans.length ccap, v4, v5, v6] 31)).alloc (.cells #[.int .i64 x] 3)) := below_two _ _ _
  have n1 : ((w.alloc (.cells #[v0, v1, v2, .slice ca chans.length ccap, v4, v5, v6] 31)).alloc (.cells #[.int .i64 x] 3)).heap[w.heap.size]? = some (.cells #[v0, v1, v2, .slice ca chans.length ccap, v4, v5, v6] 31 (0, 0)) := old_alloc (heap_alloc_new _ _) _
  have n2 : ((w.alloc (.cells #[v0, v1, v2, .slice ca chans.length ccap, v4, v5, v6] 31)).alloc (.cells #[.int .i64 x] 3)).heap[w.heap.size + 1]? = some (.cells #[.int .i64 x] 3 (0, 0)) := heap_alloc2_new _ _ _
  gi_wp2_with (first
    | (refine ⟨trivial, ?_⟩; gi_at_call 7; refine (callsIn_wide.2 (HKn.out _ hB0)).mono ?_; rintro e w1 ⟨ka, kc, rfl, hk1, hB1⟩; obtain ⟨p0, p1, p2, p3, p4, p5, p6⟩ := box7 (old_later n1 hB1))
    | (have _g := hk1; refine ⟨trivial, ?_⟩; gi_at_call 8; refine (callsIn_wide.2 (HHd.out _ (below_next hB0 hB1) ka kc hk1)).mono ?_; rintro e w2 ⟨gr, rfl, hr2, hB2⟩)
    | (refine ⟨trivial, ?_⟩; gi_at_call 9; refine (backE_fn _ _ (by simp [Value.oneCell']) _).mono ?_; rintro e w3 ⟨rfl, rfl⟩))
  have hB2' := below_next (below_next hB0 hB1) hB2
  have hgr2 : gr < w2.heap.size := (Array.getElem?_eq_some_iff.1 hr2).1
  have hlow : w.heap.size + 1 < w2.heap.size := by have h1 := hB1.size; have h2 := hB2.size; simp at h1; omega
  have n22 := old_later (old_later n2 hB1) hB2
  have HK1 := Lib.hid (knL_len (chans := chans) (th := th) (x := x) hl)
  clear hk1 p0 p1 p2 p3 p4 p5 p6 n1 n2 hB0 hB1 hB2 HHd HKn
  have HMay := Lib.hid (mayL_mP (chans := chans) (t := t) (th := th) (x := x))
  generalize hOV : ovB chans t (knL chans t th x) = OV at *
  clear hOV
  generalize knL chans t th x = KL at *
  have hB3 : Below w.heap.size w (((w2.alloc (.cells #[.slice (some ⟨gr, 0, none⟩) t.length t.length] 37)).alloc (.cells #[.slice none 0 0] 27)).alloc (.cells #[.slice a t.length cap] 23)) := below_new (below_new (below_new hB2' _) _) _
  have hbx : Boxed (((w2.alloc (.cells #[.slice (some ⟨gr, 0, none⟩) t.length t.length] 37)).alloc (.cells #[.slice none 0 0] 27)).alloc (.cells #[.slice a t.length cap] 23)) (w2.heap.size + 1 + 1) 23 (.slice a t.length cap) := by
    have := Boxed.new ((w2.alloc (.cells #[.slice (some ⟨gr, 0, none⟩) t.length t.length] 37)).alloc (.cells #[.slice none 0 0] 27)) 23 (.slice a t.length cap)
    simpa using this
  have hbm : Boxed (((w2.alloc (.cells #[.slice (some ⟨gr, 0, none⟩) t.length t.length] 37)).alloc (.cells #[.slice none 0 0] 27)).alloc (.cells #[.slice a t.length cap] 23)) (w2.heap.size + 1) 27 (.slice none 0 0) := by
    have := Boxed.new (w2.alloc (.cells #[.slice (some ⟨gr, 0, none⟩) t.length t.length] 37)) 27 (.slice none 0 0)
    rw [World.size_alloc] at this
    exact this.alloc _
  have HS := Lib.hid (fun (e : EvD) V => stores_any e x V)
  refine rangeSeq 3 (by decide) (gf := 16) (lb := #[.pointer (some ⟨w2.heap.size + 1 + 1, 0, none⟩)]) rfl (enters_of Try.func16 (by kernel_rfl) rfl)
    (encs := encE) (Kp := KpW w.heap.size (w2.heap.size + 1 + 1)) (S := fun ys => ys = bkE t t.length) (Sp := fun pre => pre <+: bkE t t.length) (N := t.length)
    (fun l J Jx W hbW _ _ hY h0 => backEv_in 2 (by decide) l (w2.heap.size + 1 + 1) w.heap.size a cap t (by omega) J Jx hY W (boxed_at hbx hbW) (HE.out.same fun g hg => (below_next hB3 hbW).block g hg) h0)
    KpW.trans (KpW.obj (by simp; omega) (by simp)) (fun _ => rfl)
    (fun pre W => MyI w x t.length OV a cap t.length gr w2.heap.size (mP t x OV pre) W) (fun _ _ _ => False) (myI_own _ _ _ _ _ _ _ _ _ _ _ (by simp; omega)) (fun _ _ _ _ _ hs _ _ => hs)
    ⟨⟨⟨_, hbm, World.ownsRow_nil _ _ _ _, trivial⟩, old_alloc (old_alloc (old_alloc hr2 _) _) _, old_alloc (old_alloc (heap_alloc_new _ _) _) _, old_alloc (old_alloc (old_alloc n22 _) _) _, hbx⟩, hB3⟩
    (fun y W => W.alloc (.cells (evCells y.1.2).toArray 26)) (fun y W => below_box W _) (fun pre y W h => KpW.below h.2.size h.1.2.2.2.2.lt (below_box W _)) (fun pre y W h => h.later (below_box W _))
    (fun y W => { tmps := #[.agg #[v0, v1, v2, .slice ca chans.length ccap, v4, v5, v6], .slice a t.length cap, .int .i64 th, .int .i64 x, .pointer (some ⟨w.heap.size, 0, none⟩), undef, undef, .pointer (some ⟨w.heap.size + 1, 0, none⟩), .slice none 0 0, .slice ka KL.length kc, .pointer (some ⟨w2.heap.size, 0, none⟩), .pointer (some ⟨w2.heap.size + 1, 0, none⟩), .int .i64 (y.1.1 : Int), .pointer (some ⟨W.heap.size, 0, none⟩), .agg #[v0, v1, v2, .slice ca chans.length ccap, v4, v5, v6], .slice a t.length cap, .int .i64 th, .int .i64 x, .slice ka KL.length kc, .agg #[v0, v1, v2, .slice ca chans.length ccap, v4, v5, v6], .slice a t.length cap, .slice ka KL.length kc, .slice (some ⟨gr, 0, none⟩) t.length t.length, .slice a t.length cap, .func (.func 16) #[] #[.pointer (some ⟨w2.heap.size + 1 + 1, 0, none⟩)], .int .i64 (y.1.1 : Int), y.1.2.v, undef, undef, undef, undef, undef, undef, undef, undef, undef, undef, undef, undef, undef, undef, undef, undef, undef, undef, undef, undef, undef], defers := [] }) ?assign ?body ?done ?stop
  case assign =>
    rintro l ⟨⟨i, th', pc', op', obj', val', mode'⟩, hy⟩ W K hK
    unfold encE
    show _
    simp only [EvD.v, evV, evCells] at hK ⊢
    gi_wp2
    exact hK
  case body =>
    rintro l pre y W0 W hI hI0 hlen hsz hcl
    have hbox := hcl _ _ _ _ (heap_alloc_new W0 (.cells (evCells y.1.2).toArray 26))
    have hgW := hsz
    rw [World.size_alloc] at hgW
    clear hcl hsz
    obtain ⟨i, hi⟩ : ∃ i, y.1.1 = i := ⟨_, rfl⟩
    obtain ⟨e, he⟩ : ∃ e, y.1.2 = e := ⟨_, rfl⟩
    have hy := y.2
    have HYes : Hid (stB x e = true → OV i = false → ∀ U : World, MyI w x t.length OV a cap t.length gr w2.heap.size (mP t x OV pre ++ [(i : Int)]) U → MyI w x t.length OV a cap t.length gr w2.heap.size (mP t x OV (pre ++ [y])) U) := Lib.hid (fun h1 h2 U h => by
      rw [mP_yes (by rw [he]; exact h1) (by rw [hi]; exact h2), hi]; exact h)
    have HNo : Hid ((stB x e && !OV i) = false → ∀ U : World, MyI w x t.length OV a cap t.length gr w2.heap.size (mP t x OV pre) U → MyI w x t.length OV a cap t.length gr w2.heap.size (mP t x OV (pre ++ [y])) U) := Lib.hid (fun h1 U h => by
      rw [mP_no (by rw [he, hi]; exact h1)]; exact h)
    have hML := mP_len (x := x) (ov := OV) pre
    rw [hi, he] at hy
    rw [he] at hbox
    rw [hi, he]
    clear hi he
    generalize mP t x OV pre = M at *
    have hil := (List.getElem?_eq_some_iff.1 hy).1
    have hil' : (i : Int) < (t.length : Int) := by omega
    have HS1 := Lib.hid (fun V => HS.out e V)
    generalize stB x e = SB at *
    obtain ⟨th', pc', op', obj', val', mode'⟩ := e
    have e0 := cell_of_row _ _ 0 _ _ _ hbox
    have e1 := cell_of_row _ _ 1 _ _ _ hbox
    have e2 := cell_of_row _ _ 2 _ _ _ hbox
    have e3 := cell_of_row _ _ 3 _ _ _ hbox
    have e4 := cell_of_row _ _ 4 _ _ _ hbox
    have e5 := cell_of_row _ _ 5 _ _ _ hbox
    simp only [evCells, List.getElem?_toArray, List.getElem?_cons_zero, List.getElem?_cons_succ] at e0 e1 e2 e3 e4 e5
    have hxc := cell_of_row _ _ 0 _ _ _ hI.1.2.2.2.1
    simp only [List.getElem?_toArray, List.getElem?_cons_zero] at hxc
    have HI := Lib.hid hI
    have hgl := hI.1.2.2.2.2.lt
    clear hI hI0 hy hbox
    simp only [EvD.v, evV]
    generalize W0.heap.size = g0 at *
    have HIw := Lib.hid (fun (V : World) (hB : Below W.heap.size W V) => HI.out.later hB)
    rcases hsb : SB with _ | _
    · have HN := Lib.hid (HNo.out (by rw [hsb]; rfl))
      subst hsb
      gi_wp2_with (first | (refine ⟨trivial, ?_⟩; gi_at_call 10; refine ((callsIn_wide.2 (HS1.out _)).inRound l).mono ?_; rintro e5' w5 ⟨rfl, hB5⟩))
      exact ⟨ko_below hB5, KpW.below HI.out.2.size hgl hB5, HN.out _ (HIw.out _ hB5)⟩
    · rcases hov : OV i with _ | _
      · have HN := Lib.hid (HYes.out hsb hov)
        subst hsb
        have hls : w2.heap.size + 1 ≤ W.heap.size := by omega
        have HOVi := Lib.hid hov
        clear hov
        gi_wp2_with (first
          | (have _g := hB5; gi_at_builtin; refine wpListIn_append_own _ rfl _ _ 27 rfl (w2.heap.size + 1) 3 i0 (.int .i64 0) 1 8 Try.underlying27 hi0 hz0 hz1 hz2 rfl (by decide) _ _ _ rfl (hr.alloc _) ⟨w5.heap.size, 0, none⟩ 1 1 [.int .i64 (i : Int)] rfl rfl (cell_one_new _ _ _) (by simp [Value.oneCell']) (by unfold maxLen; omega) (by omega) (by have := hB5.size; simp; omega) ?_; intro v' w6 hown' hgrow' _; obtain ⟨g', cap', rfl⟩ := ownsRow_succ hown'; obtain ⟨q1, q2, q3, q4⟩ := (HIw.out _ hB5).push hv hr hlow hgr2 hown' hgrow'; have hq1 := q1.cell; have hq2 := q1.frozen)
          | (refine ⟨trivial, ?_⟩; gi_at_call 10; refine ((callsIn_wide.2 (HS1.out _)).inRound l).mono ?_; rintro e5' w5 ⟨rfl, hB5⟩; obtain ⟨⟨⟨v, hv, hr, _⟩, h3, h4, h5, h6⟩, h7⟩ := HIw.out _ hB5; have d1 := cell_of_row _ _ 0 _ _ _ h4; have d2 := cell_of_row _ _ i _ _ _ h3; simp only [List.getElem?_toArray, mkB_at _ hil, List.getElem?_cons_zero, HOVi.out] at d1 d2; have d3 := hv.cell))
        exact ⟨(ko_below hB5).trans q3, (KpW.below HI.out.2.size hgl hB5).trans q4, HN.out _ q2⟩
      · have HN := Lib.hid (HNo.out (by rw [hsb, hov]; rfl))
        subst hsb
        have HOVi := Lib.hid hov
        clear hov
        gi_wp2_with (first
          | (refine ⟨trivial, ?_⟩; gi_at_call 10; refine ((callsIn_wide.2 (HS1.out _)).inRound l).mono ?_; rintro e5' w5 ⟨rfl, hB5⟩; obtain ⟨⟨⟨v, hv, hr, _⟩, h3, h4, h5, h6⟩, h7⟩ := HIw.out _ hB5; have d1 := cell_of_row _ _ 0 _ _ _ h4; have d2 := cell_of_row _ _ i _ _ _ h3; simp only [List.getElem?_toArray, mkB_at _ hil, List.getElem?_cons_zero, HOVi.out] at d1 d2))
        exact ⟨ko_below hB5, KpW.below HI.out.2.size hgl hB5, HN.out _ (HIw.out _ hB5)⟩
  case done =>
    rintro D ys W hD rfl hI hK
    have HI := Lib.hid hI
    have HMl := Lib.hid (mP_len (x := x) (ov := OV) (bkE t t.length))
    have HBl := Lib.hid (bkE_len t t.length (Nat.le_refl _))
    obtain ⟨⟨⟨v, hv, hr, _⟩, h3, h4, h5, h6⟩, h7⟩ := hI
    generalize mP t x OV (bkE t t.length) = M at *
    have hMl : M.length ≤ 900 := by have h1 := HMl.out; have h2 := HBl.out; omega
    have hDl : w2.heap.size + 3 ≤ D := by simpa using hD
    have hgl := h6.lt
    have d3 := hv.cell
    rcases KL with _ | ⟨k0, KR⟩
    · have HM2 : Hid (mayL chans t th x = M ++ [-1]) := Lib.hid (by rw [HMay.out]; rfl)
      clear h3 h4 h5 h6 h7 hD
      gi_wp2_with (first
        | (gi_at_builtin; refine wpListIn_append_own _ rfl _ _ 27 rfl (w2.heap.size + 1) 3 i0 (.int .i64 0) 1 8 Try.underlying27 hi0 hz0 hz1 hz2 rfl (by decide) _ _ _ rfl (hr.alloc _) ⟨W.heap.size, 0, none⟩ 1 1 [.int .i64 (-1)] rfl rfl (cell_one_new _ _ _) (by simp [Value.oneCell']) (by unfold maxLen; omega) (by omega) (by simp; omega) ?_; intro v' w6 hown' hgrow' _; obtain ⟨g', cap', rfl⟩ := ownsRow_succ hown'; obtain ⟨q1, q2, q3, q4⟩ := HI.out.push hv hr hlow hgr2 hown' hgrow'; have hq1 := q1.cell; have hq2 := q1.frozen; have hq3 := (q1.set (.slice (some ⟨g', 0, none⟩) (M.length + 1) cap')).cell; have hK2 := q3.same _ _ hK rfl))
      obtain ⟨⟨⟨v2, hv2, hr2', _⟩, _⟩, h72⟩ := q2
      have hv2' := Eq.trans hv2.cell.symm hq3
      injection hv2' with hv2'
      subst hv2'
      refine ⟨by simp, .inl ⟨_, _, rfl, run_takeDeferred hK2, ?_⟩⟩
      refine ⟨_, results_tmp rfl _ _ _, ?_⟩
      unfold MayE
      rw [HM2.out]
      obtain ⟨a', c', e', hro⟩ := own_rowW (ownsRow_putObj hr2' _ hK2 rfl)
      exact ⟨a', c', congrArg Ending.returned e', hro, h72.trans (belowK_b (w := w) (Nat.le_refl _) _ D _ _ (by omega) hK2 rfl rfl)⟩
    · have HM2 : Hid (mayL chans t th x = M) := Lib.hid (by rw [HMay.out]; simp)
      have hne : (((KR.length : Int) + 1) == 0) = false := by rw [beq_eq_false_iff_ne]; omega
      clear h3 h4 h5 h6 hD
      gi_wp2
      refine ⟨by simp, .inl ⟨_, _, rfl, run_takeDeferred hK, ?_⟩⟩
      refine ⟨_, results_tmp rfl _ _ _, ?_⟩
      unfold MayE
      rw [HM2.out]
      obtain ⟨a', c', e', hro⟩ := own_rowW (ownsRow_putObj hr _ hK rfl)
      exact ⟨a', c', congrArg Ending.returned e', hro, h7.trans (belowK_b (w := w) (Nat.le_refl _) _ D _ _ (by omega) hK rfl rfl)⟩
  case stop =>
    rintro D c pre W _ _ h _
    exact h.elim
end Go.Proofs.Ytglafbajbiengaa
namespace Go.Proofs.Ytglafbajbiengaa
/-- Is it a Store of x by the thread? -/
def ownP (t : List EvD) (th x : Int) (i : Nat) : Bool := match t[i]? with
  | some e => e.th == th && stB x e
  | none => false
theorem ownP_at {t : List EvD} {i : Nat} {e : EvD} (h : t[i]? = some e) (th x : Int) : ownP t th x i = (e.th == th && stB x e) := by unfold ownP; rw [h]
theorem ownP_in {t : List EvD} {th x : Int} {i : Nat} (h : ownP t th x i = true) : ∃ e, t[i]? = some e ∧ e.th = th ∧ stB x e = true := by
  unfold ownP at h
  rcases he : t[i]? with _ | e
  · rw [he] at h; cases h
  · rw [he] at h
    simp only [Bool.and_eq_true, beq_iff_eq] at h
    exact ⟨e, rfl, h.1, h.2⟩
/-- The last one below n; -1 if none is. -/
def lastO (t : List EvD) (th x : Int) : Nat → Int
  | 0 => -1
  | n + 1 => if ownP t th x n then (n : Int) else lastO t th x n
theorem lastO_in {t : List EvD} {th x : Int} : ∀ n, 0 ≤ lastO t th x n → ∃ i : Nat, lastO t th x n = i ∧ i < n ∧ ownP t th x i = true
  | 0, h => by simp [lastO] at h
  | n + 1, h => by
    unfold lastO at h ⊢
    by_cases hn : ownP t th x n = true
    · rw [if_pos hn]; exact ⟨n, rfl, by omega, hn⟩
    · rw [if_neg hn] at h ⊢
      obtain ⟨i, h1, h2, h3⟩ := lastO_in n h
      exact ⟨i, h1, by omega, h3⟩
theorem lastO_bd (t : List EvD) (th x : Int) (n : Nat) : -1 ≤ lastO t th x n ∧ lastO t th x n < (n : Int) ∨ lastO t th x n = -1 := by
  induction n with
  | zero => exact .inr rfl
  | succ n ih =>
    unfold lastO
    split
    · exact .inl ⟨by omega, by omega⟩
    · rcases ih with h | h
      · exact .inl ⟨h.1, by omega⟩
      · exact .inr h
theorem dir_thread {chans : List Int} {t : List EvD} {i j : Nat} {e e' : EvD} (h : i < j) (hi : t[i]? = some e) (hj : t[j]? = some e') (hth : e.th = e'.th) : dirB chans t i j = true := by
  simp only [dirB, Bool.and_eq_true, decide_eq_true_eq, List.any_eq_true]
  refine ⟨h, ⟨thS, thS, none⟩, by simp [rulesL], ?_⟩
  unfold holdsB
  rw [hi, hj]
  simp [isS, thS, whB, hth]
/-- What the thread itself stored last is known. -/
theorem own_known {chans : List Int} {t : List EvD} {th x : Int} {i : Nat} (h : ownP t th x i = true) : i ∈ knL chans t th x := by
  obtain ⟨e, h1, h2, h3⟩ := ownP_in h
  have hl := (List.getElem?_eq_some_iff.1 h1).1
  unfold knL
  rw [List.mem_filter]
  refine ⟨?_, by rw [stP_at h1]; exact h3⟩
  unfold pastI
  rw [if_pos ⟨by omega, by simp; omega⟩, past_mem (dirB_up _ _), Int.toNat_natCast]
  exact .one (dir_thread (e' := ldE th x) hl (by rw [List.getElem?_append_left hl]; exact h1) (by simp) h2)
/-- What may be read, by the thread's own last Store. -/
theorem may_own {chans : List Int} {t : List EvD} {th x : Int} {n : Nat} (hl : 0 ≤ lastO t th x n) {y : Int} (hy : y ∈ mayL chans t th x) (hlt : y < lastO t th x n) :
    ∃ (i : Nat) (e : EvD), y = i ∧ t[i]? = some e ∧ (e.th == th) = false := by
  obtain ⟨z, hz, hzn, ho⟩ := lastO_in n hl
  have hk := own_known (chans := chans) ho
  unfold mayL at hy
  rw [if_neg (List.ne_nil_of_mem hk), List.append_nil] at hy
  obtain ⟨i, hi, rfl⟩ := List.mem_map.1 hy
  obtain ⟨hi1, hi2⟩ := List.mem_filter.1 hi
  have hil : i < t.length := by simpa using hi1
  simp only [Bool.and_eq_true, Bool.not_eq_true'] at hi2
  refine ⟨i, t[i], rfl, List.getElem?_eq_getElem hil, ?_⟩
  rcases hb : (t[i].th == th) with _ | _
  · rfl
  · exfalso
    obtain ⟨e, h1, h2, h3⟩ := ownP_in ho
    have hb' : t[i].th = e.th := by rw [h2]; simpa using hb
    have hov : ovB chans t (knL chans t th x) i = true := by
      unfold ovB
      rw [List.any_eq_true]
      exact ⟨z, hk, (befB_iff (dirB_up _ _)).2 (.one (dir_thread (by omega) (List.getElem?_eq_getElem hil) h1 hb'))⟩
    rw [hi2.2] at hov
    cases hov
theorem may_falls (chans : List Int) (t : List EvD) (th x : Int) : (mayL chans t th x).Pairwise (fun a b => b < a) := by
  have h0 : (((List.range t.length).reverse.filter fun i => stP t x i && !ovB chans t (knL chans t th x) i).map fun i : Nat => (i : Int)).Pairwise (fun a b => b < a) := by
    rw [List.pairwise_map]
    refine (List.Pairwise.imp ?_ ((List.pairwise_reverse.2 (List.pairwise_lt_range (n := t.length))).filter _))
    intro a b h
    omega
  unfold mayL
  rw [List.pairwise_append]
  refine ⟨h0, ?_, ?_⟩
  · split
    · exact List.pairwise_singleton _ _
    · exact List.Pairwise.nil
  · intro a ha b hb
    obtain ⟨i, _, rfl⟩ := List.mem_map.1 ha
    split at hb
    · simp at hb; subst hb; omega
    · simp at hb
theorem may_fall {chans : List Int} {t : List EvD} {th x : Int} {i : Nat} {a b : Int} (ha : (mayL chans t th x)[i]? = some a) (hb : (mayL chans t th x)[i + 1]? = some b) : b < a := by
  have := may_falls chans t th x
  obtain ⟨h1, rfl⟩ := List.getElem?_eq_some_iff.1 ha
  obtain ⟨h2, rfl⟩ := List.getElem?_eq_some_iff.1 hb
  exact List.pairwise_iff_getElem.1 this i (i + 1) h1 h2 (by omega)
theorem may_bd {chans : List Int} {t : List EvD} {th x y : Int} (h : y ∈ mayL chans t th x) : -1 ≤ y ∧ y < (t.length : Int) := by
  unfold mayL at h
  rcases List.mem_append.1 h with h | h
  · obtain ⟨i, hi, rfl⟩ := List.mem_map.1 h
    have := (List.mem_filter.1 hi).1
    simp at this
    omega
  · split at h
    · simp at h; omega
    · simp at h
end Go.Proofs.Ytglafbajbiengaa
namespace Go.Proofs.Ytglafbajbiengaa
open Go.ChangeShapes Go.WideShapes Go.ChangeAt Go.RowKit
/-- A run: where its box lies, its state, its picks, its events; what it leaves alone since u0. -/
structure Pw (q0 q1 q2 q3 q4 q5 q6 : Value) (u0 u : World) (r b hi : Nat) (pv kv tv : Value) (m : Nat → Int) (code : List (List InsD)) (pr pk : List Int) (tr : List EvD) : Prop where
  st : StIn u b (b + 1) hi pv m code pr
  inv : Inv m code
  box : u.heap[r]? = some (.cells #[.pointer (some ⟨b, 0, none⟩), q0, q1, q2, q3, q4, q5, q6, kv, tv] 65)
  hb : b < hi
  hr : hi ≤ r
  hr0 : r < u0.heap.size
  pvAt : ∀ g, pv.ownBlock = some g → u0.heap.size ≤ g
  picks : u.ownsRow u0.heap.size 3 1 kv pk.length (pk.map (.int .i64 ·))
  trace : u.ownsRow u0.heap.size 26 6 tv tr.length (evsCells tr)
  a1 : Apart kv pv
  a2 : Apart tv pv
  a3 : Apart kv tv
  touch : Touch (fun j => j = b ∨ j = r) u0 u
theorem Pw.later {q0 q1 q2 q3 q4 q5 q6 : Value} {u0 u u' : World} {r b hi : Nat} {pv kv tv : Value} {m : Nat → Int} {code : List (List InsD)} {pr pk : List Int} {tr : List EvD} (h : Pw q0 q1 q2 q3 q4 q5 q6 u0 u r b hi pv kv tv m code pr pk tr) (hB : Below u.heap.size u u') : Pw q0 q1 q2 q3 q4 q5 q6 u0 u' r b hi pv kv tv m code pr pk tr :=
  ⟨h.st.later hB, h.inv, (hB.block _ (Nat.lt_of_lt_of_le h.hr0 h.touch.size)).trans h.box, h.hb, h.hr, h.hr0, h.pvAt, own_later h.picks hB, own_later h.trace hB, h.a1, h.a2, h.a3, h.touch.trans (Touch.of_below hB) (fun _ _ h => h)⟩
/-- A step of its state. -/
theorem Pw.stepped {q0 q1 q2 q3 q4 q5 q6 : Value} {u0 u u' : World} {r b hi : Nat} {pv pv' kv tv : Value} {m m' : Nat → Int} {code : List (List InsD)} {pr pr' pk : List Int} {tr : List EvD} (h : Pw q0 q1 q2 q3 q4 q5 q6 u0 u r b hi pv kv tv m code pr pk tr)
    (S : StIn u' b (b + 1) hi pv' m' code pr') (I : Inv m' code) (T : Touch (fun j => j = b ∨ pv.ownBlock = some j) u u') (ho : pv'.ownBlock = pv.ownBlock ∨ ∃ g, pv'.ownBlock = some g ∧ u.heap.size ≤ g) : Pw q0 q1 q2 q3 q4 q5 q6 u0 u' r b hi pv' kv tv m' code pr' pk tr := by
  have hb := h.hb
  have hr := h.hr
  have hr0 := h.hr0
  have hsz := h.touch.size
  have ap : ∀ {e : TypeId} {s : Nat} {v : Value} {n : Nat} {xs : List Value}, u.ownsRow u0.heap.size e s v n xs → Apart v pv → u'.ownsRow u0.heap.size e s v n xs ∧ Apart v pv' := fun {e s v n xs} hv ha => by
    refine ⟨own_touch hv T ?_, ?_⟩
    · rintro g hg (e1 | e1)
      · have := (own_lt hv g hg).2; omega
      · exact apart_ne ha hg e1
    · rcases ho with e1 | ⟨g, e1, e2⟩
      · unfold Apart; rw [e1]; exact ha
      · by_cases hn : v.ownBlock = none
        · exact .inl hn
        · exact .inr fun e3 => by rw [e1] at e3; have := (own_lt hv g e3).1; omega
  refine ⟨S, I, (T.block r (by omega) ?_).trans h.box, hb, hr, hr0, ?_, (ap h.picks h.a1).1, (ap h.trace h.a2).1, (ap h.picks h.a1).2, (ap h.trace h.a2).2, h.a3, h.touch.trans T ?_⟩
  · rintro (e | e)
    · omega
    · have := h.pvAt r e; omega
  · intro g hg
    rcases ho with e1 | ⟨g', e1, e2⟩
    · exact h.pvAt g (e1.symm.trans hg)
    · rw [e1] at hg; cases hg; omega
  · rintro k hk (e | e)
    · exact .inl e
    · have := h.pvAt k e; omega
/-- One more pick. -/
theorem Pw.pick {q0 q1 q2 q3 q4 q5 q6 : Value} {u0 u u' : World} {r b hi : Nat} {pv kv kv' tv : Value} {m : Nat → Int} {code : List (List InsD)} {pr pk : List Int} {tr : List EvD} (h : Pw q0 q1 q2 q3 q4 q5 q6 u0 u r b hi pv kv tv m code pr pk tr) (k : Int)
    (hrow : u'.ownsRow u0.heap.size 3 1 kv' (pk.length + 1) (pk.map (.int .i64 ·) ++ [.int .i64 k])) (hg : u.grownBy u' kv.ownBlock) (hat : kv'.ownBlock = kv.ownBlock ∨ kv'.ownBlock = some u.heap.size) :
    Pw q0 q1 q2 q3 q4 q5 q6 u0 (u'.setCell ⟨r, 8, none⟩ kv') r b hi pv kv' tv m code pr (pk ++ [k]) tr := by
  have hb := h.hb
  have hr := h.hr
  have hr0 := h.hr0
  have hsz := h.touch.size
  have hrl : r < u.heap.size := by omega
  have hkr : ∀ g, kv.ownBlock = some g → u0.heap.size ≤ g := fun g e => (own_lt h.picks g e).2
  have hbx := (hg.block r hrl (fun e => by have := hkr r e.symm; omega)).trans h.box
  have T1 : Touch (fun j => j = r ∨ kv.ownBlock = some j) u (u'.setCell ⟨r, 8, none⟩ kv') := (Touch.grown hg fun k e => .inr e).set (.inl rfl)
  have hap := apart_append h.trace h.a3.symm hat
  refine ⟨h.st.touch T1 ?_ ?_ ?_, h.inv, ?_, hb, hr, hr0, h.pvAt, ?_, own_touch h.trace T1 ?_, ?_, h.a2, hap.symm, h.touch.trans T1 ?_⟩
  · rintro (e | e)
    · omega
    · have := hkr b e; omega
  · rintro g hg' (e | e)
    · have := h.pvAt g hg'; omega
    · exact apart_ne h.a1 e hg'
  · rintro g g1 g2 (e | e)
    · omega
    · have := hkr g e; omega
  · rw [stSet_block _ _ _ _ hbx]; rfl
  · rw [show (pk ++ [k]).length = pk.length + 1 by simp, show (pk ++ [k]).map (Value.int .i64 ·) = pk.map (.int .i64 ·) ++ [.int .i64 k] by simp]
    exact own_touch (X := fun j => j = r) hrow ((Touch.of_below (Below.refl _ _)).set rfl) (fun g e e' => by have := (own_lt hrow g e).2; omega)
  · rintro g hg' (e | e)
    · have := (own_lt h.trace g hg').2; omega
    · exact apart_ne h.a3 e hg'
  · rcases hat with e | e
    · unfold Apart; rw [e]; exact h.a1
    · exact .inr fun e1 => by rw [e] at e1; have := (own_lt h.st.own _ e1.symm).1; omega
  · rintro j hj (e | e)
    · exact .inr e
    · have := hkr j e; omega
/-- One more event. -/
theorem Pw.event {q0 q1 q2 q3 q4 q5 q6 : Value} {u0 u u' : World} {r b hi : Nat} {pv kv tv tv' : Value} {m : Nat → Int} {code : List (List InsD)} {pr pk : List Int} {tr : List EvD} (h : Pw q0 q1 q2 q3 q4 q5 q6 u0 u r b hi pv kv tv m code pr pk tr) (x : EvD)
    (hrow : u'.ownsRow u0.heap.size 26 6 tv' (tr.length + 1) (evsCells tr ++ evCells x)) (hg : u.grownBy u' tv.ownBlock) (hat : tv'.ownBlock = tv.ownBlock ∨ tv'.ownBlock = some u.heap.size) :
    Pw q0 q1 q2 q3 q4 q5 q6 u0 (u'.setCell ⟨r, 9, none⟩ tv') r b hi pv kv tv' m code pr pk (tr ++ [x]) := by
  have hb := h.hb
  have hr := h.hr
  have hr0 := h.hr0
  have hsz := h.touch.size
  have hrl : r < u.heap.size := by omega
  have hkr : ∀ g, tv.ownBlock = some g → u0.heap.size ≤ g := fun g e => (own_lt h.trace g e).2
  have hbx := (hg.block r hrl (fun e => by have := hkr r e.symm; omega)).trans h.box
  have T1 : Touch (fun j => j = r ∨ tv.ownBlock = some j) u (u'.setCell ⟨r, 9, none⟩ tv') := (Touch.grown hg fun k e => .inr e).set (.inl rfl)
  have hap := apart_append h.picks h.a3 hat
  refine ⟨h.st.touch T1 ?_ ?_ ?_, h.inv, ?_, hb, hr, hr0, h.pvAt, own_touch h.picks T1 ?_, ?_, h.a1, ?_, hap, h.touch.trans T1 ?_⟩
  · rintro (e | e)
    · omega
    · have := hkr b e; omega
  · rintro g hg' (e | e)
    · have := h.pvAt g hg'; omega
    · exact apart_ne h.a2 e hg'
  · rintro g g1 g2 (e | e)
    · omega
    · have := hkr g e; omega
  · rw [stSet_block _ _ _ _ hbx]; rfl
  · rintro g hg' (e | e)
    · have := (own_lt h.picks g hg').2; omega
    · exact apart_ne h.a3.symm e hg'
  · rw [show (tr ++ [x]).length = tr.length + 1 by simp, evsCells_snoc]
    exact own_touch (X := fun j => j = r) hrow ((Touch.of_below (Below.refl _ _)).set rfl) (fun g e e' => by have := (own_lt hrow g e).2; omega)
  · rcases hat with e | e
    · unfold Apart; rw [e]; exact h.a2
    · exact .inr fun e1 => by rw [e] at e1; have := (own_lt h.st.own _ e1.symm).1; omega
  · rintro j hj (e | e)
    · exact .inr e
    · have := hkr j e; omega
theorem cells10 {w : World} {b : Nat} {a0 a1 a2 a3 a4 a5 a6 a7 a8 a9 : Value} {t : TypeId} (h : w.heap[b]? = some (.cells #[a0, a1, a2, a3, a4, a5, a6, a7, a8, a9] t)) :
    w.cell? ⟨b, 0, none⟩ = some a0 ∧ w.cell? ⟨b, 1, none⟩ = some a1 ∧ w.cell? ⟨b, 2, none⟩ = some a2 ∧ w.cell? ⟨b, 3, none⟩ = some a3 ∧ w.cell? ⟨b, 4, none⟩ = some a4 ∧ w.cell? ⟨b, 5, none⟩ = some a5 ∧ w.cell? ⟨b, 6, none⟩ = some a6 ∧ w.cell? ⟨b, 7, none⟩ = some a7 ∧ w.cell? ⟨b, 8, none⟩ = some a8 ∧ w.cell? ⟨b, 9, none⟩ = some a9 := by
  refine ⟨?_, ?_, ?_, ?_, ?_, ?_, ?_, ?_, ?_, ?_⟩ <;> (rw [cell_of_row _ _ _ _ _ _ h]; rfl)
theorem info_eventT : (Try.prog.info? 26).map (fun i => (i.zero, i.size, i.bytes)) = some (some (evV 0 0 0 0 0 0), 6, 48) := by kernel_rfl
theorem cells_ev_new (w : World) (x : EvD) (t : TypeId) : ∀ j u, (evCells x)[j]? = some u → (w.alloc (.cells #[.int .i64 x.th, .int .i64 x.pc, .int .u8 x.op, .int .i64 x.obj, .int .i64 x.val, .int .i64 x.mode] t)).cell? ((⟨w.heap.size, 0, none⟩ : Addr).add j) = some u := by
  intro j u hj
  rw [Addr.add_mid, Nat.zero_add, cell_of_row _ _ _ _ _ _ (heap_alloc_new _ _)]
  simpa [evCells] using hj
theorem st_one_newW (w : World) (v : Value) (t : TypeId) : ∀ j u, [v][j]? = some u → (w.alloc (.cells #[v] t)).cell? ((⟨w.heap.size, 0, none⟩ : Addr).add j) = some u := st_one_new0 w v t
/-- A run, wherever its rows lie. -/
def Rw (q0 q1 q2 q3 q4 q5 q6 : Value) (u0 u : World) (r b hi : Nat) (m : Nat → Int) (code : List (List InsD)) (pr pk : List Int) (tr : List EvD) : Prop := ∃ pv kv tv, Pw q0 q1 q2 q3 q4 q5 q6 u0 u r b hi pv kv tv m code pr pk tr
theorem Rw.later {q0 q1 q2 q3 q4 q5 q6 : Value} {u0 u u' : World} {r b hi : Nat} {m : Nat → Int} {code : List (List InsD)} {pr pk : List Int} {tr : List EvD} (h : Rw q0 q1 q2 q3 q4 q5 q6 u0 u r b hi m code pr pk tr) (hB : Below u.heap.size u u') : Rw q0 q1 q2 q3 q4 q5 q6 u0 u' r b hi m code pr pk tr := by
  obtain ⟨pv, kv, tv, h⟩ := h; exact ⟨pv, kv, tv, h.later hB⟩
theorem takeW_no {q0 q1 q2 q3 q4 q5 q6 : Value} {u0 u : World} {r b hi : Nat} {m : Nat → Int} {code : List (List InsD)} {pr pk : List Int} {tr : List EvD} (h : Rw q0 q1 q2 q3 q4 q5 q6 u0 u r b hi m code pr pk tr) (k : Int) (hc : canM code m k = false) (fv : Value) :
    Calls Try.prog 18 #[.pointer (some ⟨r, 0, none⟩), .int .i64 k, fv] u fun e w' => e = .returned (.tuple #[]) ∧ Rw q0 q1 q2 q3 q4 q5 q6 u0 w' r b hi m code pr pk tr := by
  obtain ⟨pv, kv, tv, h⟩ := h
  obtain ⟨c0, _⟩ := cells10 h.box
  have HH := Lib.hid h
  have HC := Lib.hid (step_no k u h.st h.inv hc)
  clear h hc
  go_enter Try.func18, Try.ntmps18
  go_wp2_with (first
    | (go_at_call 26; refine HC.out.mono ?_; rintro e w1 ⟨rfl, hB1⟩; have HB1 := Lib.hid hB1; clear hB1))
  refine bodyPost_ret (results_none rfl _ _ _) rfl ?_
  exact ⟨rfl, pv, kv, tv, (HH.out.later HB1.out).later (below_box _ _)⟩
/-- The end of a pick: it and its event are appended. -/
theorem takeW_plain {q0 q1 q2 q3 q4 q5 q6 : Value} {u0 u : World} {r b hi : Nat} {m : Nat → Int} {code : List (List InsD)} {pr pk : List Int} {tr : List EvD} (h : Rw q0 q1 q2 q3 q4 q5 q6 u0 u r b hi m code pr pk tr) (hpl : pr.length ≤ 1000000) (hpk : pk.length ≤ 1000000) (htr : tr.length ≤ 1000000) (k : Int) (hc : canM code m k = true) (hop : (stepE code m k).op ≠ 7) (fv : Value) :
    Calls Try.prog 18 #[.pointer (some ⟨r, 0, none⟩), .int .i64 k, fv] u fun e w' => e = .returned (.tuple #[]) ∧ Rw q0 q1 q2 q3 q4 q5 q6 u0 w' r b hi (stepM code m k) code (pr ++ stepT code m k) (pk ++ [k]) (tr ++ [stepE code m k]) := by
  obtain ⟨pv, kv, tv, h⟩ := h
  obtain ⟨c0, _⟩ := cells10 h.box
  obtain ⟨t0, ti, tz0, tz1, tz2⟩ := info_parts info_intT
  obtain ⟨i0, ii, iz0, iz1, iz2⟩ := info_parts info_eventT
  have hC := st_step h.st h.inv hpl k
  rw [hc, stepV_E] at hC
  generalize stepE code m k = ev at hC hop ⊢
  obtain ⟨e0, e1, e2, e3, e4, e5⟩ := ev
  simp only [EvD.v] at hC
  have hop' : (e2 == 7) = false := by simpa using hop
  have HC := Lib.hid hC
  obtain ⟨ka, kc, rfl⟩ := st_slice h.picks
  obtain ⟨ta, tc, rfl⟩ := st_slice h.trace
  have HH := Lib.hid h
  have hr0 := h.hr0
  have hsz := h.touch.size
  clear h hc hC hop
  go_enter Try.func18, Try.ntmps18
  go_upto_region 5 with (first
    | (go_at_call 26; refine HC.out.mono ?_; rintro e w1 ⟨rfl, I', _, pv', S', T', ho⟩; have hP0 := HH.out.stepped S' I' T' ho; have hw1 := T'.size; have HW1 : Hid (∀ g, (Value.slice ka pk.length kc).ownBlock = some g → g < w1.heap.size) := Lib.hid (fun g e => (own_lt hP0.picks g e).1); have HP := Lib.hid (hP0.later (below_box w1 (evC e0 e1 e2 e3 e4 e5))); clear S' T' ho I' hP0))
  generalize hV : World.alloc w1 _ = V
  have HE : Hid (V.heap[w1.heap.size]? = some (evC e0 e1 e2 e3 e4 e5)) := Lib.hid (by rw [← hV]; exact heap_alloc_new _ _)
  have HPV : Hid (Pw q0 q1 q2 q3 q4 q5 q6 u0 V r b hi pv' (.slice ka pk.length kc) (.slice ta tr.length tc) (stepM code m k) code (pr ++ stepT code m k) pk tr) := Lib.hid (by rw [← hV]; exact HP.out)
  clear hV HP HC HH c0
  generalize w1.heap.size = g at *
  have HGA0 : Hid ((Value.slice ka pk.length kc).ownBlock ≠ some g) := Lib.hid (fun e => absurd (HW1.out g e) (by omega))
  have hka : ∀ g, (Value.slice ka pk.length kc).ownBlock = some g → u0.heap.size ≤ g ∧ g < V.heap.size := fun g e => ⟨(own_lt HPV.out.picks g e).2, (own_lt HPV.out.picks g e).1⟩
  have hVs := HPV.out.touch.size
  have hgV : g < V.heap.size := (Array.getElem?_eq_some_iff.1 HE.out).1
  obtain ⟨d0, _, _, _, _, _, _, _, d8, _⟩ := cells10 HPV.out.box
  have HGA : Hid ((Value.slice ka pk.length kc).ownBlock ≠ some g) := Lib.hid (HGA0.out)
  go_upto_region 6 with (first
    | (at_builtin; refine wpList_append_own_at _ rfl _ _ 27 rfl u0.heap.size 3 t0 (.int .i64 0) 1 8 Try.underlying27 ti tz0 tz1 tz2 rfl (by decide) (.slice ka pk.length kc) pk.length (pk.map (.int .i64 ·)) rfl (own_later HPV.out.picks (below_box _ _)) ⟨V.heap.size, 0, none⟩ 1 1 [.int .i64 k] rfl rfl (st_one_newW _ _ _) (by simp [Value.oneCell']) (by unfold maxLen; omega) (by omega) (by simp; omega) ?_; intro v' w3 hown3 hgrow3 _ hat3; obtain ⟨ka', kc', rfl⟩ := st_slice hown3; have b3 := hgrow3.block r (by simp; omega) (fun e => by have := hka r e.symm; omega); have hbx := b3.trans (HPV.out.later (below_box _ _)).box; obtain ⟨c30, _, _, _, _, _, _, _, c38, _⟩ := cells10 hbx; have f3 := frozen_of_row _ _ 8 _ _ hbx; have he3 := (hgrow3.block g (by simp; omega) (fun e => HGA.out e.symm)).trans ((Below.heap_alloc _ _ _ hgV).trans HE.out); have HP3 := Lib.hid ((HPV.out.later (below_box _ _)).pick k hown3 hgrow3 hat3); have HE3 := Lib.hid he3; clear hown3 hgrow3 hat3 b3 hbx he3))
  generalize hU : World.setCell w3 _ _ = U
  have hP : Pw q0 q1 q2 q3 q4 q5 q6 u0 U r b hi pv' (.slice ka' (pk.length + 1) kc') (.slice ta tr.length tc) (stepM code m k) code (pr ++ stepT code m k) (pk ++ [k]) tr := by rw [← hU]; exact HP3.out
  have hE : U.heap[g]? = some (evC e0 e1 e2 e3 e4 e5) := by rw [← hU]; exact (Below.heap_setCell _ _ _ _ (by simp only; omega)).trans HE3.out
  clear hU HP3 HE3 f3 HPV HE d0 d8 c30 c38
  obtain ⟨c2, _, _, _, _, _, _, _, _, c9⟩ := cells10 hP.box
  obtain ⟨v0, v1, v2, v3, v4, v5⟩ := cells6 hE
  have hrl : r < U.heap.size := cell_lt c2
  have hgl : g < U.heap.size := cell_lt v0
  have c2' : ∀ o, (U.alloc o).cell? ⟨r, 9, none⟩ = some (.slice ta tr.length tc) := fun o => ((below_box U o).cell (p := ⟨r, 9, none⟩) hrl).trans c9
  have HP := Lib.hid hP
  clear hP hE
  go_region_law ((rw [if_pos (by rfl)]); refine wp_append_own_at _ (.tmp 74) (.tmp 76) 23 rfl u0.heap.size 26 i0 (evV 0 0 0 0 0 0) 6 48 Try.underlying23 ii iz0 iz1 iz2 rfl (by decide) (.slice ta tr.length tc) tr.length (evsCells tr) rfl (own_later HP.out.trace (below_box U _).drew) ⟨U.heap.size, 0, none⟩ 1 1 (evCells ⟨e0, e1, e2, e3, e4, e5⟩) rfl rfl (cells_ev_new U ⟨e0, e1, e2, e3, e4, e5⟩ _) (ev_one _) (by unfold maxLen; omega) (by omega) (by simp; omega) ?_; intro v' w4 hown' hgrow _ hat; obtain ⟨ta', tc', rfl⟩ := st_slice hown'; have hq := HP.out.later ((below_box U (evC e0 e1 e2 e3 e4 e5)).drew); have b9 := (hgrow.block r (by simp; omega) (fun e => by have := (own_lt HP.out.trace _ e.symm).2; omega)).trans hq.box; obtain ⟨_, _, _, _, _, _, _, _, _, c99⟩ := cells10 b9; have f9 := frozen_of_row _ _ 9 _ _ b9)
  all_goals
    have hfin := hq.event ⟨e0, e1, e2, e3, e4, e5⟩ hown' hgrow hat
    go_wp2
    go_end0
    exact ⟨rfl, _, _, _, hfin⟩
end Go.Proofs.Ytglafbajbiengaa
