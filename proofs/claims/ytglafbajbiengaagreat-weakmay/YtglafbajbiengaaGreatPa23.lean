/- What the laws of this seat stand on, part 23. -/
import Derived.Test.YtglafbajbiengaaGreatPa0
import Derived.Test.YtglafbajbiengaaGreatPa14
import Derived.Test.YtglafbajbiengaaGreatPa22
set_option linter.unusedVariables false
set_option linter.unusedSimpArgs false
set_option maxRecDepth 100000
set_option maxHeartbeats 40000000
namespace Go.Proofs.YtglafbajbiengaaGreat
open Go.ChangeShapes Go.WideShapes Go.ChangeAt Go.RowKit Go.Maps Go.Shelf
attribute [local go_sem] Oper.semAt_some
theorem backE_fn (n : Nat) (v : Value) (hv : v.oneCell' = true) (w : World) :
    CallsIn Fence.wide n Tryz.prog 22 #[v] w fun e w' => e = .returned (.func (.func 40) #[] #[.pointer (some ⟨w.heap.size, 0, none⟩)]) ∧ w' = w.alloc (.cells #[v] 27) := by
  refine callsIn_of_wp Tryz.func22 rfl trivial ?_ rfl
  simp only [Tryz.ntmps22, List.size_toArray, List.length_cons, List.length_nil, Nat.reduceAdd, Nat.reduceSub, Array.replicate_succ, Array.replicate_zero, List.push_toArray, List.append_toArray, List.nil_append, List.cons_append]
  gi_wp2
  go_ret
  exact ⟨rfl, rfl⟩
/-- What a load may read, by lists: the Stores that are not written over, the last one first; the beginning, if no Store is known. -/
def mayL (chans : List Int) (t : List EvD) (th x : Int) : List Int :=
  (((List.range t.length).reverse.filter fun i => stP t x i && !ovB chans t (knL chans t th x) i).map fun i : Nat => (i : Int)) ++ (if knL chans t th x = [] then [-1] else [])
def MayE (chans : List Int) (t : List EvD) (th x : Int) (w : World) (e : Ending) (W' : World) : Prop := ∃ a cap, e = .returned (.slice a (mayL chans t th x).length cap) ∧ RowOf .i64 W' W'.heap.size a (mayL chans t th x) ∧ Below w.heap.size w W'
theorem info_intW : (Tryz.prog.info? 3).map (fun i => (i.zero, i.size, i.bytes)) = some (some (.int .i64 0), 1, 8) := by kernel_rfl
theorem knL_below {chans : List Int} {t : List EvD} {th x : Int} : ∀ k ∈ knL chans t th x, k < t.length := fun k hk => by
  unfold knL at hk
  have := pastI_below (List.mem_filter.1 hk).1
  omega
theorem knL_len {chans : List Int} {t : List EvD} {th x : Int} (h : t.length ≤ 899) : (knL chans t th x).length ≤ 900 := by
  unfold knL
  refine Nat.le_trans (List.length_filter_le _ _) ?_
  have := pastI_len (ch := chans) (t := t ++ [ldE th x]) (j := t.length) (by simp)
  simp at this
  omega
def mP (t : List EvD) (x : Int) (ov : Nat → Bool) (pre : List (PlE t)) : List Int := ((pre.map fun y => y.1.1).filter fun i => stP t x i && !ov i).map fun i : Nat => (i : Int)
theorem mP_yes {t : List EvD} {x : Int} {ov : Nat → Bool} {pre : List (PlE t)} {y : PlE t} (h1 : stB x y.1.2 = true) (h2 : ov y.1.1 = false) : mP t x ov (pre ++ [y]) = mP t x ov pre ++ [(y.1.1 : Int)] := by
  have : stP t x y.1.1 = true := (stP_at y.2 x).trans h1
  simp [mP, this, h2]
theorem mP_no {t : List EvD} {x : Int} {ov : Nat → Bool} {pre : List (PlE t)} {y : PlE t} (h : (stB x y.1.2 && !ov y.1.1) = false) : mP t x ov (pre ++ [y]) = mP t x ov pre := by
  have : (stP t x y.1.1 && !ov y.1.1) = false := by rw [stP_at y.2 x]; exact h
  simp only [mP, List.map_append, List.map_cons, List.map_nil, List.filter_append, List.filter_cons, this, Bool.false_eq_true, if_false, List.filter_nil, List.append_nil]
theorem mP_len {t : List EvD} {x : Int} {ov : Nat → Bool} (pre : List (PlE t)) : (mP t x ov pre).length ≤ pre.length := by
  unfold mP
  rw [List.length_map]
  refine Nat.le_trans (List.length_filter_le _ _) ?_
  rw [List.length_map]; exact Nat.le_refl _
theorem mayL_mP {chans : List Int} {t : List EvD} {th x : Int} : mayL chans t th x = mP t x (ovB chans t (knL chans t th x)) (bkE t t.length) ++ (if knL chans t th x = [] then [-1] else []) := by
  unfold mayL mP
  rw [bkE_vals t t.length (Nat.le_refl _), List.take_of_length_le (by simp)]
theorem own_rowW {V : World} {base : Nat} {v : Value} {L : List Int} (h : V.ownsRow base 3 1 v L.length (L.map (.int .i64 ·))) : ∃ a cap, v = .slice a L.length cap ∧ RowOf .i64 V V.heap.size a L := by
  obtain ⟨a, cap, e, h2⟩ := own_cells h
  exact ⟨a, cap, e, fun i x hx => by
    obtain ⟨g, ea, _, hg, hc⟩ := h2 i x hx
    exact ⟨g, 0, ea, hg, by rw [Nat.zero_add]; exact hc⟩⟩
/-- May's memory in its loop. -/
def MyI (w : World) (x : Int) (n : Nat) (ov : Nat → Bool) (a : Option Addr) (cap tn : Nat) (gr b2 : Nat) (L : List Int) (W : World) : Prop :=
  ((∃ v, Boxed W (b2 + 1) 23 v ∧ W.ownsRow (b2 + 1) 3 1 v L.length (L.map (.int .i64 ·)) ∧ True) ∧ (W.heap[gr]? = some (.cells (mkB ov n).toArray 4 (0, 0)) ∧ W.heap[b2]? = some (.cells #[.slice (some ⟨gr, 0, none⟩) n n] 59 (0, 0)) ∧ W.heap[w.heap.size + 1]? = some (.cells #[.int .i64 x] 3 (0, 0)) ∧ Boxed W (b2 + 1 + 1) 27 (.slice a tn cap))) ∧ Below w.heap.size w W
theorem myI_own {β : Type} (w : World) (x : Int) (n : Nat) (ov : Nat → Bool) (a : Option Addr) (cap tn gr b2 B : Nat) (f : β → List Int) (hB : w.heap.size ≤ B) : OwnFrom B (fun (s : β) W => MyI w x n ov a cap tn gr b2 (f s) W) :=
  OwnFrom.and (OwnFrom.and (Own.from (holdsRow_own (b2 + 1) (b2 + 1) 23 3 1 (fun s : β => (f s).length) (fun s => (f s).map (.int .i64 ·)) (fun _ _ => True)) _) (OwnFrom.and (ownFrom_blk B _ (fun _ => _) _) (OwnFrom.and (ownFrom_blk B _ (fun _ => _) _) (OwnFrom.and (ownFrom_blk B _ (fun _ => _) _) (Own.from (boxed_own _ _ (fun _ => _)) _))))) (ownFrom_below (Nat.le_refl _) hB)
theorem MyI.later {w W W' : World} {x : Int} {n : Nat} {ov : Nat → Bool} {a : Option Addr} {cap tn gr b2 : Nat} {L : List Int} (h : MyI w x n ov a cap tn gr b2 L W) (hB : Below W.heap.size W W') : MyI w x n ov a cap tn gr b2 L W' := by
  obtain ⟨⟨⟨v, h1, h2, _⟩, h3, h4, h5, h6⟩, h7⟩ := h
  exact ⟨⟨⟨v, boxed_at h1 hB, own_later h2 hB, trivial⟩, old_later h3 hB, old_later h4 hB, old_later h5 hB, boxed_at h6 hB⟩, below_next h7 hB⟩
/-- One more is appended. -/
theorem MyI.push {w W w1 : World} {x : Int} {n : Nat} {ov : Nat → Bool} {a : Option Addr} {cap tn gr b2 : Nat} {L : List Int} {v v' : Value} {y : Int} {tmp : Obj} (h : MyI w x n ov a cap tn gr b2 L W) (hv : Boxed W (b2 + 1) 23 v) (hr : W.ownsRow (b2 + 1) 3 1 v L.length (L.map (.int .i64 ·)))
    (hlow : w.heap.size + 1 < b2) (hgr : gr < b2) (hown : w1.ownsRow (b2 + 1) 3 1 v' (L.length + 1) (L.map (.int .i64 ·) ++ [.int .i64 y])) (hgrow : (W.alloc tmp).grownBy w1 v.ownBlock) :
    Boxed w1 (b2 + 1) 23 v ∧ MyI w x n ov a cap tn gr b2 (L ++ [y]) (w1.setCell ⟨b2 + 1, 0, none⟩ v') ∧ KeepsOthers W (w1.setCell ⟨b2 + 1, 0, none⟩ v') ∧ KpW w.heap.size (b2 + 1 + 1) W (w1.setCell ⟨b2 + 1, 0, none⟩ v') := by
  obtain ⟨⟨_, h3, h4, h5, h6⟩, h7⟩ := h
  have hs := hv.lt
  obtain ⟨q1, q2, q3, q4, q5⟩ := hv.appended (by decide) hr (by omega) (Nat.le_refl _) hown hgrow
  have q6 : Boxed (w1.setCell ⟨b2 + 1, 0, none⟩ v') (b2 + 1 + 1) 27 (.slice a tn cap) := ((h6.alloc tmp).kept hgrow (h6.not_row (by decide) hr)).other (B' := b2 + 1) (by simp) v'
  refine ⟨q1, ⟨⟨⟨v', q2, by rw [List.length_append, List.map_append]; exact q3, trivial⟩, (q5.block gr (by omega)).trans h3, (q5.block b2 (by omega)).trans h4, (q5.block _ (by omega)).trans h5, q6⟩, h7.trans (q5.mono (by omega))⟩, q4, fun g hg => q5.block g (by omega), Eq.trans q6 h6.symm⟩
theorem may_any (v0 v1 v2 : Value) (ca : Option Addr) (ccap : Nat) (chans : List Int) (v4 v5 v6 : Value) (a : Option Addr) (cap : Nat) (t : List EvD) (th x : Int) (w : World) (hc : ChIn w ca chans) (he : EvsIn w w.heap.size a t) (hW : ∀ e ∈ t, EvW e) (hth : Wf th) (hx : Wf x) (hl : t.length ≤ 899) (hcap : t.length ≤ cap) (hv : (#[v0, v1, v2, .slice ca chans.length ccap, v4, v5, v6] : Array Value).all (·.oneCell') = true) :
    Calls Tryz.prog 8 #[.agg #[v0, v1, v2, .slice ca chans.length ccap, v4, v5, v6], .slice a t.length cap, .int .i64 th, .int .i64 x] w (MayE chans t th x w) := by
  obtain ⟨i0, hi0, hz0, hz1, hz2⟩ := info_parts info_intW
  have HVV := Lib.hid hv
  have HKn := Lib.hid (fun W (hB : Below w.heap.size w W) => knows_any v0 v1 v2 ca ccap chans v4 v5 v6 a cap t th x W (hc.later hB) (he.later hB) hW hth hx (by omega) hv)
  have HHd := Lib.hid (fun W (hB : Below w.heap.size w W) ka kc hk => hidden_any v0 v1 v2 ca ccap chans v4 v5 v6 a cap t ka kc (knL chans t th x) W (hc.later hB) (he.later hB) hW (by omega) hcap hk knL_below (knL_len hl) hv)
  have HE := Lib.hid he
  clear hc he hW hth hx
  simp only [List.all_toArray, List.all_cons, List.all_nil, Bool.and_true, Bool.and_eq_true] at hv
  obtain ⟨o0, o1, o2, o3, o4, o5, o6⟩ := hv
  unfold KnE at HKn
  refine (callsIn_wide (n := 3)).1 ?_
  refine callsIn_of_wp_marks Tryz.func8 rfl trivial ?_ rfl
  simp only [Tryz.ntmps8, List.size_toArray, List.length_cons, List.length_nil, Nat.reduceAdd, Nat.reduceSub, Array.replicate_succ, Array.replicate_zero, List.push_toArray, List.append_toArray, List.nil_append, List.cons_append]
  have hB0 : Below w.heap.size w ((w.alloc (.cells #[v0, v1, v2, .slice ca chans.length ccap, v4, v5, v6] 26)).alloc (.cells #[.int .i64 x] 3)) := below_two _ _ _
  have n1 : ((w.alloc (.cells #[v0, v1, v2, .slice ca chans.length ccap, v4, v5, v6] 26)).alloc (.cells #[.int .i64 x] 3)).heap[w.heap.size]? = some (.cells #[v0, v1, v2, .slice ca chans.length ccap, v4, v5, v6] 26 (0, 0)) := old_alloc (heap_alloc_new _ _) _
  have n2 : ((w.alloc (.cells #[v0, v1, v2, .slice ca chans.length ccap, v4, v5, v6] 26)).alloc (.cells #[.int .i64 x] 3)).heap[w.heap.size + 1]? = some (.cells #[.int .i64 x] 3 (0, 0)) := heap_alloc2_new _ _ _
  gi_wp2_with (first
    | (refine ⟨trivial, ?_⟩; gi_at_call 20; refine (callsIn_wide.2 (HKn.out _ hB0)).mono ?_; rintro e w1 ⟨ka, kc, rfl, hk1, hB1⟩; obtain ⟨p0, p1, p2, p3, p4, p5, p6⟩ := box7 (old_later n1 hB1))
    | (have _g := hk1; refine ⟨trivial, ?_⟩; gi_at_call 21; refine (callsIn_wide.2 (HHd.out _ (below_next hB0 hB1) ka kc hk1)).mono ?_; rintro e w2 ⟨gr, rfl, hr2, hB2⟩)
    | (refine ⟨trivial, ?_⟩; gi_at_call 22; refine (backE_fn _ _ (by simp [Value.oneCell']) _).mono ?_; rintro e w3 ⟨rfl, rfl⟩))
  have hB2' := below_next (below_next hB0 hB1) hB2
  have hgr2 : gr < w2.heap.size := (Array.getElem?_eq_some_iff.1 hr2).1
  have hlow : w.heap.size + 1 < w2.heap.size := by have h1 := hB1.size; have h2 := hB2.size; simp at h1; omega
  have n22 := old_later (old_later n2 hB1) hB2
  have HK1 := Lib.hid (knL_len (chans := chans) (th := th) (x := x) hl)
  clear hk1 p0 p1 p2 p3 p4 p5 p6 n1 n2 hB0 hB1 hB2 HHd HKn
  have HMay := Lib.hid (mayL_mP (chans := chans) (t := t) (th := th) (x := x))
  generalize hOV : ovB chans t (knL chans t th x) = OV at *
  clear hOV
  generalize knL chans t th x = KL at *
  have hB3 : Below w.heap.size w (((w2.alloc (.cells #[.slice (some ⟨gr, 0, none⟩) t.length t.length] 59)).alloc (.cells #[.slice none 0 0] 23)).alloc (.cells #[.slice a t.length cap] 27)) := below_new (below_new (below_new hB2' _) _) _
  have hbx : Boxed (((w2.alloc (.cells #[.slice (some ⟨gr, 0, none⟩) t.length t.length] 59)).alloc (.cells #[.slice none 0 0] 23)).alloc (.cells #[.slice a t.length cap] 27)) (w2.heap.size + 1 + 1) 27 (.slice a t.length cap) := by
    have := Boxed.new ((w2.alloc (.cells #[.slice (some ⟨gr, 0, none⟩) t.length t.length] 59)).alloc (.cells #[.slice none 0 0] 23)) 27 (.slice a t.length cap)
    simpa using this
  have hbm : Boxed (((w2.alloc (.cells #[.slice (some ⟨gr, 0, none⟩) t.length t.length] 59)).alloc (.cells #[.slice none 0 0] 23)).alloc (.cells #[.slice a t.length cap] 27)) (w2.heap.size + 1) 23 (.slice none 0 0) := by
    have := Boxed.new (w2.alloc (.cells #[.slice (some ⟨gr, 0, none⟩) t.length t.length] 59)) 23 (.slice none 0 0)
    rw [World.size_alloc] at this
    exact this.alloc _
  have HS := Lib.hid (fun (e : EvD) V => stores_any e x V)
  refine rangeSeq 3 (by decide) (gf := 40) (lb := #[.pointer (some ⟨w2.heap.size + 1 + 1, 0, none⟩)]) rfl (enters_of Tryz.func40 (by kernel_rfl) rfl)
    (encs := encE) (Kp := KpW w.heap.size (w2.heap.size + 1 + 1)) (S := fun ys => ys = bkE t t.length) (Sp := fun pre => pre <+: bkE t t.length) (N := t.length)
    (fun l J Jx W hbW _ _ hY h0 => backEv_in 2 (by decide) l (w2.heap.size + 1 + 1) w.heap.size a cap t (by omega) J Jx hY W (boxed_at hbx hbW) (HE.out.same fun g hg => (below_next hB3 hbW).block g hg) h0)
    KpW.trans (KpW.obj (by simp; omega) (by simp)) (fun _ => rfl)
    (fun pre W => MyI w x t.length OV a cap t.length gr w2.heap.size (mP t x OV pre) W) (fun _ _ _ => False) (myI_own _ _ _ _ _ _ _ _ _ _ _ (by simp; omega)) (fun _ _ _ _ _ hs _ _ => hs)
    ⟨⟨⟨_, hbm, World.ownsRow_nil _ _ _ _, trivial⟩, old_alloc (old_alloc (old_alloc hr2 _) _) _, old_alloc (old_alloc (heap_alloc_new _ _) _) _, old_alloc (old_alloc (old_alloc n22 _) _) _, hbx⟩, hB3⟩
    (fun y W => W.alloc (.cells (evCells y.1.2).toArray 31)) (fun y W => below_box W _) (fun pre y W h => KpW.below h.2.size h.1.2.2.2.2.lt (below_box W _)) (fun pre y W h => h.later (below_box W _))
    (fun y W => { tmps := #[.agg #[v0, v1, v2, .slice ca chans.length ccap, v4, v5, v6], .slice a t.length cap, .int .i64 th, .int .i64 x, .pointer (some ⟨w.heap.size, 0, none⟩), undef, undef, .pointer (some ⟨w.heap.size + 1, 0, none⟩), .slice none 0 0, .slice ka KL.length kc, .pointer (some ⟨w2.heap.size, 0, none⟩), .pointer (some ⟨w2.heap.size + 1, 0, none⟩), .int .i64 (y.1.1 : Int), .pointer (some ⟨W.heap.size, 0, none⟩), .agg #[v0, v1, v2, .slice ca chans.length ccap, v4, v5, v6], .slice a t.length cap, .int .i64 th, .int .i64 x, .slice ka KL.length kc, .agg #[v0, v1, v2, .slice ca chans.length ccap, v4, v5, v6], .slice a t.length cap, .slice ka KL.length kc, .slice (some ⟨gr, 0, none⟩) t.length t.length, .slice a t.length cap, .func (.func 40) #[] #[.pointer (some ⟨w2.heap.size + 1 + 1, 0, none⟩)], .int .i64 (y.1.1 : Int), y.1.2.v, undef, undef, undef, undef, undef, undef, undef, undef, undef, undef, undef, undef, undef, undef, undef, undef, undef, undef, undef, undef, undef], defers := [] }) ?assign ?body ?done ?stop
  case assign =>
    rintro l ⟨⟨i, th', pc', op', obj', val', mode'⟩, hy⟩ W K hK
    unfold encE
    show _
    simp only [EvD.v, evV, evCells] at hK ⊢
    gi_wp2
    exact hK
  case body =>
    rintro l pre y W0 W hI hI0 hlen hsz hcl
    have hbox := hcl _ _ _ _ (heap_alloc_new W0 (.cells (evCells y.1.2).toArray 31))
    have hgW := hsz
    rw [World.size_alloc] at hgW
    clear hcl hsz
    obtain ⟨i, hi⟩ : ∃ i, y.1.1 = i := ⟨_, rfl⟩
    obtain ⟨e, he⟩ : ∃ e, y.1.2 = e := ⟨_, rfl⟩
    have hy := y.2
    have HYes : Hid (stB x e = true → OV i = false → ∀ U : World, MyI w x t.length OV a cap t.length gr w2.heap.size (mP t x OV pre ++ [(i : Int)]) U → MyI w x t.length OV a cap t.length gr w2.heap.size (mP t x OV (pre ++ [y])) U) := Lib.hid (fun h1 h2 U h => by
      rw [mP_yes (by rw [he]; exact h1) (by rw [hi]; exact h2), hi]; exact h)
    have HNo : Hid ((stB x e && !OV i) = false → ∀ U : World, MyI w x t.length OV a cap t.length gr w2.heap.size (mP t x OV pre) U → MyI w x t.length OV a cap t.length gr w2.heap.size (mP t x OV (pre ++ [y])) U) := Lib.hid (fun h1 U h => by
      rw [mP_no (by rw [he, hi]; exact h1)]; exact h)
    have hML := mP_len (x := x) (ov := OV) pre
    rw [hi, he] at hy
    rw [he] at hbox
    rw [hi, he]
    clear hi he
    generalize mP t x OV pre = M at *
    have hil := (List.getElem?_eq_some_iff.1 hy).1
    have hil' : (i : Int) < (t.length : Int) := by omega
    have HS1 := Lib.hid (fun V => HS.out e V)
    generalize stB x e = SB at *
    obtain ⟨th', pc', op', obj', val', mode'⟩ := e
    have e0 := cell_of_row _ _ 0 _ _ _ hbox
    have e1 := cell_of_row _ _ 1 _ _ _ hbox
    have e2 := cell_of_row _ _ 2 _ _ _ hbox
    have e3 := cell_of_row _ _ 3 _ _ _ hbox
    have e4 := cell_of_row _ _ 4 _ _ _ hbox
    have e5 := cell_of_row _ _ 5 _ _ _ hbox
    simp only [evCells, List.getElem?_toArray, List.getElem?_cons_zero, List.getElem?_cons_succ] at e0 e1 e2 e3 e4 e5
    have hxc := cell_of_row _ _ 0 _ _ _ hI.1.2.2.2.1
    simp only [List.getElem?_toArray, List.getElem?_cons_zero] at hxc
    have HI := Lib.hid hI
    have hgl := hI.1.2.2.2.2.lt
    clear hI hI0 hy hbox
    simp only [EvD.v, evV]
    generalize W0.heap.size = g0 at *
    have HIw := Lib.hid (fun (V : World) (hB : Below W.heap.size W V) => HI.out.later hB)
    rcases hsb : SB with _ | _
    · have HN := Lib.hid (HNo.out (by rw [hsb]; rfl))
      subst hsb
      gi_wp2_with (first | (refine ⟨trivial, ?_⟩; gi_at_call 23; refine ((callsIn_wide.2 (HS1.out _)).inRound l).mono ?_; rintro e5' w5 ⟨rfl, hB5⟩))
      exact ⟨ko_below hB5, KpW.below HI.out.2.size hgl hB5, HN.out _ (HIw.out _ hB5)⟩
    · rcases hov : OV i with _ | _
      · have HN := Lib.hid (HYes.out hsb hov)
        subst hsb
        have hls : w2.heap.size + 1 ≤ W.heap.size := by omega
        have HOVi := Lib.hid hov
        clear hov
        gi_wp2_with (first
          | (have _g := hB5; gi_at_builtin; refine wpListIn_append_own _ rfl _ _ 23 rfl (w2.heap.size + 1) 3 i0 (.int .i64 0) 1 8 Tryz.underlying23 hi0 hz0 hz1 hz2 rfl (by decide) _ _ _ rfl (hr.alloc _) ⟨w5.heap.size, 0, none⟩ 1 1 [.int .i64 (i : Int)] rfl rfl (cell_one_new _ _ _) (by simp [Value.oneCell']) (by unfold maxLen; omega) (by omega) (by have := hB5.size; simp; omega) ?_; intro v' w6 hown' hgrow' _; obtain ⟨g', cap', rfl⟩ := ownsRow_succ hown'; obtain ⟨q1, q2, q3, q4⟩ := (HIw.out _ hB5).push hv hr hlow hgr2 hown' hgrow'; have hq1 := q1.cell; have hq2 := q1.frozen)
          | (refine ⟨trivial, ?_⟩; gi_at_call 23; refine ((callsIn_wide.2 (HS1.out _)).inRound l).mono ?_; rintro e5' w5 ⟨rfl, hB5⟩; obtain ⟨⟨⟨v, hv, hr, _⟩, h3, h4, h5, h6⟩, h7⟩ := HIw.out _ hB5; have d1 := cell_of_row _ _ 0 _ _ _ h4; have d2 := cell_of_row _ _ i _ _ _ h3; simp only [List.getElem?_toArray, mkB_at _ hil, List.getElem?_cons_zero, HOVi.out] at d1 d2; have d3 := hv.cell))
        exact ⟨(ko_below hB5).trans q3, (KpW.below HI.out.2.size hgl hB5).trans q4, HN.out _ q2⟩
      · have HN := Lib.hid (HNo.out (by rw [hsb, hov]; rfl))
        subst hsb
        have HOVi := Lib.hid hov
        clear hov
        gi_wp2_with (first
          | (refine ⟨trivial, ?_⟩; gi_at_call 23; refine ((callsIn_wide.2 (HS1.out _)).inRound l).mono ?_; rintro e5' w5 ⟨rfl, hB5⟩; obtain ⟨⟨⟨v, hv, hr, _⟩, h3, h4, h5, h6⟩, h7⟩ := HIw.out _ hB5; have d1 := cell_of_row _ _ 0 _ _ _ h4; have d2 := cell_of_row _ _ i _ _ _ h3; simp only [List.getElem?_toArray, mkB_at _ hil, List.getElem?_cons_zero, HOVi.out] at d1 d2))
        exact ⟨ko_below hB5, KpW.below HI.out.2.size hgl hB5, HN.out _ (HIw.out _ hB5)⟩
  case done =>
    rintro D ys W hD rfl hI hK
    have HI := Lib.hid hI
    have HMl := Lib.hid (mP_len (x := x) (ov := OV) (bkE t t.length))
    have HBl := Lib.hid (bkE_len t t.length (Nat.le_refl _))
    obtain ⟨⟨⟨v, hv, hr, _⟩, h3, h4, h5, h6⟩, h7⟩ := hI
    generalize mP t x OV (bkE t t.length) = M at *
    have hMl : M.length ≤ 900 := by have h1 := HMl.out; have h2 := HBl.out; omega
    have hDl : w2.heap.size + 3 ≤ D := by simpa using hD
    have hgl := h6.lt
    have d3 := hv.cell
    rcases KL with _ | ⟨k0, KR⟩
    · have HM2 : Hid (mayL chans t th x = M ++ [-1]) := Lib.hid (by rw [HMay.out]; rfl)
      clear h3 h4 h5 h6 h7 hD
      gi_wp2_with (first
        | (gi_at_builtin; refine wpListIn_append_own _ rfl _ _ 23 rfl (w2.heap.size + 1) 3 i0 (.int .i64 0) 1 8 Tryz.underlying23 hi0 hz0 hz1 hz2 rfl (by decide) _ _ _ rfl (hr.alloc _) ⟨W.heap.size, 0, none⟩ 1 1 [.int .i64 (-1)] rfl rfl (cell_one_new _ _ _) (by simp [Value.oneCell']) (by unfold maxLen; omega) (by omega) (by simp; omega) ?_; intro v' w6 hown' hgrow' _; obtain ⟨g', cap', rfl⟩ := ownsRow_succ hown'; obtain ⟨q1, q2, q3, q4⟩ := HI.out.push hv hr hlow hgr2 hown' hgrow'; have hq1 := q1.cell; have hq2 := q1.frozen; have hq3 := (q1.set (.slice (some ⟨g', 0, none⟩) (M.length + 1) cap')).cell; have hK2 := q3.same _ _ hK rfl))
      obtain ⟨⟨⟨v2, hv2, hr2', _⟩, _⟩, h72⟩ := q2
      have hv2' := Eq.trans hv2.cell.symm hq3
      injection hv2' with hv2'
      subst hv2'
      refine ⟨by simp, .inl ⟨_, _, rfl, run_takeDeferred hK2, ?_⟩⟩
      refine ⟨_, results_tmp rfl _ _ _, ?_⟩
      unfold MayE
      rw [HM2.out]
      obtain ⟨a', c', e', hro⟩ := own_rowW (ownsRow_putObj hr2' _ hK2 rfl)
      exact ⟨a', c', congrArg Ending.returned e', hro, h72.trans (belowK_b (w := w) (Nat.le_refl _) _ D _ _ (by omega) hK2 rfl rfl)⟩
    · have HM2 : Hid (mayL chans t th x = M) := Lib.hid (by rw [HMay.out]; simp)
      have hne : (((KR.length : Int) + 1) == 0) = false := by rw [beq_eq_false_iff_ne]; omega
      clear h3 h4 h5 h6 hD
      gi_wp2
      refine ⟨by simp, .inl ⟨_, _, rfl, run_takeDeferred hK, ?_⟩⟩
      refine ⟨_, results_tmp rfl _ _ _, ?_⟩
      unfold MayE
      rw [HM2.out]
      obtain ⟨a', c', e', hro⟩ := own_rowW (ownsRow_putObj hr _ hK rfl)
      exact ⟨a', c', congrArg Ending.returned e', hro, h7.trans (belowK_b (w := w) (Nat.le_refl _) _ D _ _ (by omega) hK rfl rfl)⟩
  case stop =>
    rintro D c pre W _ _ h _
    exact h.elim
end Go.Proofs.YtglafbajbiengaaGreat
namespace Go.Proofs.YtglafbajbiengaaGreat
/-- The order of the events with the load behind them. -/
def dW (chans : List Int) (t : List EvD) (th x : Int) : Nat → Nat → Bool := dirB chans (t ++ [ldE th x])
theorem dW_front {chans : List Int} {t : List EvD} {th x : Int} {i k : Nat} (hk : k < t.length) : befB (dW chans t th x) i k = befB (dirB chans t) i k := by
  unfold dW
  rw [← bef_take (t := t ++ [ldE th x]), ← bef_take (t := t), List.take_append_of_le_length (by omega)]
theorem kn_mem {chans : List Int} {t : List EvD} {th x : Int} {k : Nat} : k ∈ knL chans t th x ↔ stP t x k = true ∧ befB (dW chans t th x) k t.length = true := by
  unfold knL
  rw [List.mem_filter]
  unfold pastI
  rw [if_pos ⟨by omega, by simp; omega⟩, Int.toNat_natCast, past_mem (dirB_up _ _)]
  unfold dW
  rw [befB_iff (dirB_up _ _)]
  exact And.comm
/-- Is it written over, as far as the places below m tell? -/
def ovR (chans : List Int) (t : List EvD) (th x : Int) (i m : Nat) : Bool := (List.range m).any fun k => decide (i < k) && (stP t x k && (befB (dW chans t th x) k t.length && befB (dW chans t th x) i k))
theorem ovR_succ (chans : List Int) (t : List EvD) (th x : Int) (i m : Nat) : ovR chans t th x i (m + 1) = (ovR chans t th x i m || (decide (i < m) && (stP t x m && (befB (dW chans t th x) m t.length && befB (dW chans t th x) i m)))) := by
  unfold ovR; rw [List.range_succ, List.any_append]; simp
theorem ovR_first (chans : List Int) (t : List EvD) (th x : Int) (i : Nat) : ovR chans t th x i (i + 1) = false := by
  unfold ovR
  rw [List.any_eq_false]
  intro k hk
  have : k < i + 1 := by simpa using hk
  have h : decide (i < k) = false := decide_eq_false (by omega)
  rw [h]; simp
theorem ovR_mono {chans : List Int} {t : List EvD} {th x : Int} {i m n : Nat} (h : m ≤ n) (hm : ovR chans t th x i m = true) : ovR chans t th x i n = true := by
  unfold ovR at *
  rw [List.any_eq_true] at *
  obtain ⟨k, hk, h2⟩ := hm
  exact ⟨k, by have : k < m := by simpa using hk
               simpa using (by omega : k < n), h2⟩
theorem ovR_end (chans : List Int) (t : List EvD) (th x : Int) (i : Nat) : ovR chans t th x i t.length = ovB chans t (knL chans t th x) i := by
  rw [Bool.eq_iff_iff]
  unfold ovR ovB
  rw [List.any_eq_true, List.any_eq_true]
  constructor
  · rintro ⟨k, hk, h⟩
    have hk : k < t.length := by simpa using hk
    simp only [Bool.and_eq_true, decide_eq_true_eq] at h
    exact ⟨k, kn_mem.2 ⟨h.2.1, h.2.2.1⟩, by rw [← dW_front hk (th := th) (x := x)]; exact h.2.2.2⟩
  · rintro ⟨k, hk, h⟩
    have hkl := knL_below k hk
    obtain ⟨h1, h2⟩ := kn_mem.1 hk
    refine ⟨k, by simpa using hkl, ?_⟩
    have hlt := ((befB_iff (dirB_up _ _)).1 h).lt (dirB_up _ _)
    simp only [Bool.and_eq_true, decide_eq_true_eq]
    exact ⟨hlt, h1, h2, by rw [dW_front hkl]; exact h⟩
/-- The first j of the places, from the last one down. -/
def dnL (n j : Nat) : List Nat := (List.range n).reverse.take j
theorem dnL_succ {n j : Nat} (h : j < n) : dnL n (j + 1) = dnL n j ++ [n - 1 - j] := by
  unfold dnL
  rw [List.take_add_one, List.getElem?_reverse (by simpa using h)]
  simp
  rw [List.getElem?_range (by omega)]
theorem dnL_all (n : Nat) : dnL n n = (List.range n).reverse := by
  unfold dnL; exact List.take_of_length_le (by simp)
/-- What the document's May has when j of them are through. -/
def rmL (chans : List Int) (t : List EvD) (th x : Int) (j : Nat) : List Int := ((dnL t.length j).filter fun i => stP t x i && !ovB chans t (knL chans t th x) i).map fun i : Nat => (i : Int)
def rmF (chans : List Int) (t : List EvD) (th x : Int) (j : Nat) : Bool := (dnL t.length j).all fun i => !(stP t x i && befB (dW chans t th x) i t.length)
theorem rmL_succ {chans : List Int} {t : List EvD} {th x : Int} {j i : Nat} (h : j < t.length) (hi : i = t.length - 1 - j) : rmL chans t th x (j + 1) = rmL chans t th x j ++ (if stP t x i && !ovB chans t (knL chans t th x) i then [(i : Int)] else []) := by
  subst hi
  unfold rmL
  rw [dnL_succ h, List.filter_append, List.map_append, List.filter_cons, List.filter_nil]
  congr 1
  split <;> rfl
theorem rmF_succ {chans : List Int} {t : List EvD} {th x : Int} {j i : Nat} (h : j < t.length) (hi : i = t.length - 1 - j) : rmF chans t th x (j + 1) = (rmF chans t th x j && !(stP t x i && befB (dW chans t th x) i t.length)) := by
  subst hi
  unfold rmF
  rw [dnL_succ h, List.all_append]
  simp
theorem rm_end (chans : List Int) (t : List EvD) (th x : Int) : rmL chans t th x t.length ++ (if rmF chans t th x t.length then [-1] else []) = mayL chans t th x := by
  have hF : rmF chans t th x t.length = decide (knL chans t th x = []) := by
    rw [Bool.eq_iff_iff, decide_eq_true_eq]
    unfold rmF
    rw [dnL_all, List.all_eq_true]
    constructor
    · intro h
      rw [List.eq_nil_iff_forall_not_mem]
      intro k hk
      have h1 := h k (by simpa using knL_below k hk)
      obtain ⟨h2, h3⟩ := kn_mem.1 hk
      rw [h2, h3] at h1
      cases h1
    · intro h k hk
      rcases hb : (stP t x k && befB (dW chans t th x) k t.length) with _ | _
      · rfl
      · rw [Bool.and_eq_true] at hb
        have := kn_mem.2 ⟨hb.1, hb.2⟩
        rw [h] at this
        cases this
  unfold mayL rmL
  rw [dnL_all, hF]
  by_cases hk : knL chans t th x = []
  · rw [decide_eq_true hk, if_pos hk]; rfl
  · rw [decide_eq_false hk, if_neg hk]; rfl
end Go.Proofs.YtglafbajbiengaaGreat
namespace Go.Proofs.YtglafbajbiengaaGreat
open Go.ChangeShapes Go.WideShapes Go.ChangeAt Go.RowKit
theorem run_append_noneW {P : Program} {w : World} (base : Nat) (t ty e : TypeId) (i : TypeInfo) (size c : Nat) (ht : P.underlying t = some (.slice e)) (hi : P.info? e = some i) (hsize : i.size = size)
    (v : Value) (n : Nat) (xs : List Value) (hown : w.ownsRow base e size v n xs) : (Builtin.append_ #[t, t] ty #[v, .slice none 0 c]).run P w = .ok v w := by
  rcases hown.2 with ⟨rfl, rfl⟩ | ⟨g, cap, cur, rfl, hbg, hg, hnc, hcm, hcs, htake⟩
  · simp [Builtin.append_, run_underlying ht, sizeOf, typeInfo, hi, Builtin.lenOf, Builtin.firstCells, loadCells, loadCellsFrom]
  · simp [Builtin.append_, run_underlying ht, sizeOf, typeInfo, hi, Builtin.lenOf, Builtin.firstCells, loadCells, loadCellsFrom, hnc, storeCells]
/-- append(s, t...): the events that lie there come behind the row. -/
theorem wpList_append_evs {w : World} {ops : Array Oper} {rest : List Oper} {o : Oper} {a : Act} {Q : Exit → Act → World → Prop} (hgd : o.guard = none) (s x : Operand)
    (ho : o.op = .call { callee := .builtin .append, args := #[s, x], argTypes := #[27, 27] })
    (base : Nat) (v : Value) (n : Nat) (xs : List Value) (hs : a.eval s = v) (hown : w.ownsRow base 31 6 v n xs)
    (ea : Option Addr) (cap B : Nat) (t : List EvD) (hx : a.eval x = .slice ea t.length cap) (he : EvsIn w B ea t) (hl : n + t.length ≤ 1000000) (hbase : base ≤ w.heap.size)
    (h : ∀ v' w', w'.ownsRow base 31 6 v' (n + t.length) (xs ++ evsCells t) → w.grownBy w' v.ownBlock → (v'.ownBlock = v.ownBlock ∨ v'.ownBlock = some w.heap.size) → wpList Tryz.prog ops Q rest (a.put o.dst v') w') :
    wpList Tryz.prog ops Q (o :: rest) a w := by
  obtain ⟨ti, hti, iz0, iz1, iz2⟩ := info_parts info_evW
  have go : ∀ ad, a.eval x = .slice (some ad) t.length cap → (∀ j u, (evsCells t)[j]? = some u → w.cell? (ad.add j) = some u) → wpList Tryz.prog ops Q (o :: rest) a w := fun ad hx' hc =>
    wpList_append_own_at w hgd s x 27 ho base 31 ti (evV 0 0 0 0 0 0) 6 48 Tryz.underlying27 hti iz0 iz1 iz2 rfl (by decide) v n xs hs hown ad t.length cap (evsCells t) hx' (evsCells_len t) hc (evs_oneW t) (by unfold maxLen; omega) (by omega) hbase (fun v' w' q1 q2 _ q3 => h v' w' q1 q2 q3)
  by_cases h0 : 0 < t.length
  · obtain ⟨ad, rfl, hc⟩ := evsIn_src he h0
    exact go ad hx hc
  · obtain rfl : t = [] := List.eq_nil_of_length_eq_zero (by omega)
    rcases ea with _ | ad
    · refine wpList_plain hgd fun K hK => ?_
      have hr := run_append_noneW (P := Tryz.prog) (w := w) base 27 o.type 31 ti 6 cap Tryz.underlying27 hti iz1 v n xs hown
      unfold Oper.wp execOp
      simp only [ho, resolve, invoke, builtin, Sem.run_bind, Sem.run_pure, Result.andThen_ok, List.map_toArray, List.map_cons, List.map_nil, hs, hx, List.length_nil, hr]
      exact hK _ _ (h v w (by simpa [evsCells] using hown) ⟨rfl, rfl, rfl, Nat.le_refl _, fun _ _ _ => rfl⟩ (.inl rfl))
    · exact go ad hx (fun j u hj => by simp [evsCells] at hj)
theorem rtaking_any (e : EvD) (w : World) : Calls Tryz.prog 60 #[e.v] w fun r w' => r = .returned (.bool (modeS 1 [21, 22] e).2) ∧ Below w.heap.size w w' := by
  obtain ⟨th, pc, op, obj, val, mode⟩ := e
  show Calls Tryz.prog 60 #[evV th pc op obj val mode] w _
  by_cases hm : mode = 1
  · subst hm
    by_cases h1 : op = 21
    · subst h1
      go_enter Tryz.func60, Tryz.ntmps60
      go_wp2
      go_ret
      exact ⟨rfl, below_box _ _⟩
    · have h1' : (op == 21) = false := by simpa using h1
      rcases h2 : (op == 22) with _ | _
      all_goals
        have HF := Lib.hid (show (modeS 1 [21, 22] ⟨th, pc, op, obj, val, 1⟩).2 = _ by simp only [modeS, List.contains_cons, List.contains_nil, h1', h2, Bool.false_or, Bool.or_false]; rfl)
        go_enter Tryz.func60, Tryz.ntmps60
        go_wp2
        go_ret
        exact ⟨by rw [HF.out]; rfl, below_box _ _⟩
  · have hm' : (mode == 1) = false := by simpa using hm
    have HF := Lib.hid (show (modeS 1 [21, 22] ⟨th, pc, op, obj, val, mode⟩).2 = false by simp only [modeS, hm', Bool.and_false])
    rcases h1 : (op == 21) with _ | _ <;> rcases h2 : (op == 22) with _ | _
    all_goals
      go_enter Tryz.func60, Tryz.ntmps60
      go_wp2
      go_ret
      exact ⟨by rw [HF.out]; rfl, below_box _ _⟩
theorem cnt_le (s : Sd) (x : Int) (t : List EvD) (k : Nat) : cntS s x (t.take k) ≤ k := by
  have := List.countP_le_length (p := isS s x) (l := t.take k)
  rw [List.length_take] at this
  unfold cntS; omega
theorem cnt_mono (s : Sd) (x : Int) (t : List EvD) {k n : Nat} (h : k ≤ n) : cntS s x (t.take k) ≤ cntS s x (t.take n) := by
  unfold cntS
  refine List.Sublist.countP_le ?_
  have e : t.take k = (t.take n).take k := by rw [List.take_take, Nat.min_eq_left h]
  rw [e]; exact List.take_sublist k (t.take n)
theorem rsends_any (a : Option Addr) (cap : Nat) (t : List EvD) (x : Int) (n : Nat) (w : World) (he : EvsIn w w.heap.size a t) (hn : n ≤ t.length) (hl : t.length ≤ 1000000) :
    Calls Tryz.prog 61 #[.slice a t.length cap, .int .i64 x, .int .i64 n] w fun r w' => r = .returned (.int .i64 (cntS (opsS [20]) x (t.take n))) ∧ w = w' := by
  have HE := Lib.hid he
  clear he
  go_enter Tryz.func61, Tryz.ntmps61
  go_wp2_with fail
  go_loopw [7, 8] (fun c i u => ∃ k : Nat, k ≤ n ∧ i = .int .i64 k ∧ c = .int .i64 (cntS (opsS [20]) x (t.take k)) ∧ w = u) (fun c i _ => n - (intOf i).toNat)
  case atStart => exact ⟨0, Nat.zero_le _, rfl, rfl, rfl⟩
  case round =>
    obtain ⟨k, hk, rfl, rfl, rfl⟩ := hrel
    by_cases hlt : k < n
    · obtain ⟨e, hx⟩ := at_lt (l := t) (k := k) (by omega)
      obtain ⟨g, o, rfl, hg, h0, h1, h2, h3, h4, h5⟩ := HE.out k e hx
      have hk1 : (k : Int) < (n : Int) := by omega
      have hkt : (k : Int) < (t.length : Int) := by omega
      have hcn := cnt_le (opsS [20]) x t k
      have hcn2 : cntS (opsS [20]) x (t.take k) < 9223372036854775807 := by omega
      obtain ⟨th, pc, op, obj, val, mode⟩ := e
      have hI := cnt_snoc (opsS [20]) x hx
      simp only at h2 h3
      rcases ho : (op == 20) with _ | _
      · have HI := Lib.hid (show cntS (opsS [20]) x (t.take (k + 1)) = cntS (opsS [20]) x (t.take k) by rw [hI]; simp only [isS, opsS, List.contains_cons, List.contains_nil, ho]; simp)
        clear hI hx
        go_wp2_with fail
        go_roundw
        case rel => exact ⟨k + 1, by omega, by go_num, by rw [HI.out], trivial⟩
        case measure => simp [intOf]; omega
      · rcases hy : (obj == x) with _ | _
        · have HI := Lib.hid (show cntS (opsS [20]) x (t.take (k + 1)) = cntS (opsS [20]) x (t.take k) by rw [hI]; simp only [isS, opsS, List.contains_cons, List.contains_nil, ho, hy]; simp)
          clear hI hx
          go_wp2_with fail
          go_roundw
          case rel => exact ⟨k + 1, by omega, by go_num, by rw [HI.out], trivial⟩
          case measure => simp [intOf]; omega
        · have HI := Lib.hid (show cntS (opsS [20]) x (t.take (k + 1)) = cntS (opsS [20]) x (t.take k) + 1 by rw [hI]; simp only [isS, opsS, List.contains_cons, List.contains_nil, ho, hy]; simp)
          clear hI hx
          go_wp2_with fail
          go_roundw
          case rel => exact ⟨k + 1, by omega, by go_num, by rw [HI.out]; go_num, trivial⟩
          case measure => simp [intOf]; omega
    · obtain rfl : k = n := by omega
      go_wp2
      go_ret
      exact ⟨rfl, rfl⟩
theorem rtakings_any (a : Option Addr) (cap : Nat) (t : List EvD) (x : Int) (n : Nat) (w : World) (he : EvsIn w w.heap.size a t) (hn : n ≤ t.length) (hl : t.length ≤ 1000000) :
    Calls Tryz.prog 62 #[.slice a t.length cap, .int .i64 x, .int .i64 n] w fun r w' => r = .returned (.int .i64 (cntS (modeS 1 [21, 22]) x (t.take n))) ∧ Below w.heap.size w w' := by
  have HE := Lib.hid he
  clear he
  go_enter Tryz.func62, Tryz.ntmps62
  go_wp2_with fail
  go_loopw [7, 8] (fun c i u => ∃ k : Nat, k ≤ n ∧ i = .int .i64 k ∧ c = .int .i64 (cntS (modeS 1 [21, 22]) x (t.take k)) ∧ Below w.heap.size w u) (fun c i _ => n - (intOf i).toNat)
  case atStart => exact ⟨0, Nat.zero_le _, rfl, rfl, Below.refl _ _⟩
  case round =>
    obtain ⟨k, hk, rfl, rfl, hB⟩ := hrel
    have HB := Lib.hid hB
    clear hB
    by_cases hlt : k < n
    · obtain ⟨e, hx⟩ := at_lt (l := t) (k := k) (by omega)
      obtain ⟨g, o, rfl, hg, h0, h1, h2, h3, h4, h5⟩ := (HE.out.later HB.out) k e hx
      have hk1 : (k : Int) < (n : Int) := by omega
      have hkt : (k : Int) < (t.length : Int) := by omega
      have hcn := cnt_le (modeS 1 [21, 22]) x t k
      have hcn2 : cntS (modeS 1 [21, 22]) x (t.take k) < 9223372036854775807 := by omega
      obtain ⟨th, pc, op, obj, val, mode⟩ := e
      have hI := cnt_snoc (modeS 1 [21, 22]) x hx
      have hT := rtaking_any ⟨th, pc, op, obj, val, mode⟩ wr
      simp only at h0 h1 h2 h3 h4 h5
      have HC3 := Lib.hid (fun u (hB : Below wr.heap.size wr u) => (hB.cell (p := ⟨g, o + k * 6 + 3, none⟩) hg).trans h3)
      rcases ho : (modeS 1 [21, 22] ⟨th, pc, op, obj, val, mode⟩).2 with _ | _
      · have HI := Lib.hid (show cntS (modeS 1 [21, 22]) x (t.take (k + 1)) = cntS (modeS 1 [21, 22]) x (t.take k) by rw [hI]; simp [isS, ho])
        rw [ho] at hT
        have HT := Lib.hid hT
        clear hI hx hT ho
        go_wp2_with (go_at_call 60; refine HT.out.mono ?_; rintro e w1 ⟨rfl, hB1⟩; have HB1 := Lib.hid hB1; clear hB1)
        go_roundw
        case rel => exact ⟨k + 1, by omega, by go_num, by rw [HI.out], below_next HB.out HB1.out⟩
        case measure => simp [intOf]; omega
      · rw [ho] at hT
        have HT := Lib.hid hT
        rcases hy : (obj == x) with _ | _
        · have HI := Lib.hid (show cntS (modeS 1 [21, 22]) x (t.take (k + 1)) = cntS (modeS 1 [21, 22]) x (t.take k) by rw [hI]; simp only [isS, ho]; simp [modeS, hy])
          clear hI hx hT ho
          go_wp2_with (go_at_call 60; refine HT.out.mono ?_; rintro e w1 ⟨rfl, hB1⟩; have c3 := HC3.out _ hB1; have HB1 := Lib.hid hB1; clear hB1)
          go_roundw
          case rel => exact ⟨k + 1, by omega, by go_num, by rw [HI.out], below_next HB.out HB1.out⟩
          case measure => simp [intOf]; omega
        · have HI := Lib.hid (show cntS (modeS 1 [21, 22]) x (t.take (k + 1)) = cntS (modeS 1 [21, 22]) x (t.take k) + 1 by rw [hI]; simp only [isS, ho]; simp [modeS, hy])
          clear hI hx hT ho
          go_wp2_with (go_at_call 60; refine HT.out.mono ?_; rintro e w1 ⟨rfl, hB1⟩; have c3 := HC3.out _ hB1; have HB1 := Lib.hid hB1; clear hB1)
          go_roundw
          case rel => exact ⟨k + 1, by omega, by go_num, by rw [HI.out]; go_num, below_next HB.out HB1.out⟩
          case measure => simp [intOf]; omega
    · obtain rfl : k = n := by omega
      go_wp2
      go_ret
      exact ⟨rfl, HB.out⟩
theorem rwrites_any (a : Option Addr) (cap : Nat) (t : List EvD) (i j : Nat) (e : EvD) (w : World) (he : EvsIn w w.heap.size a t) (hi : t[i]? = some e) (hij : i < j) (hj : j < t.length) (hl : t.length ≤ 1000000) :
    Calls Tryz.prog 59 #[.slice a t.length cap, .int .i64 i, .int .i64 j] w fun r w' => r = .returned (.bool (decide (cntS (opsS [18, 19]) e.obj (t.take (i + 1)) < cntS (opsS [18, 19]) e.obj (t.take j)))) ∧ Below w.heap.size w w' := by
  have HE := Lib.hid he
  clear he
  obtain ⟨g, o, rfl, hg, _, _, _, b3, _, _⟩ := HE.out i e hi
  have hit : (i : Int) < (t.length : Int) := by omega
  go_enter Tryz.func59, Tryz.ntmps59
  go_wp2_with fail
  go_loopw [7] (fun i' u => ∃ k d : Nat, i < k ∧ k ≤ j ∧ i' = .int .i64 k ∧ cntS (opsS [18, 19]) e.obj (t.take k) = cntS (opsS [18, 19]) e.obj (t.take (i + 1)) ∧ u = w.drewN d) (fun i _ => j - (intOf i).toNat)
  case atStart => exact ⟨i + 1, 0, by omega, by omega, by go_num, rfl, rfl⟩
  case round =>
    obtain ⟨k, d, hik, hk, rfl, hc, rfl⟩ := hrel
    have HC := Lib.hid hc
    clear hc
    by_cases hlt : k < j
    · obtain ⟨e', hx⟩ := at_lt (l := t) (k := k) (by omega)
      obtain ⟨g', o', he', hg', h0, h1, h2, h3, h4, h5⟩ := HE.out k e' hx
      cases he'
      have hk1 : (k : Int) < (j : Int) := by omega
      have hkt : (k : Int) < (t.length : Int) := by omega
      have hI := cnt_snoc (opsS [18, 19]) e.obj hx
      have HMn := Lib.hid (cnt_mono (opsS [18, 19]) e.obj t (show k + 1 ≤ j by omega))
      obtain ⟨th, pc, op, obj, val, mode⟩ := e'
      simp only at h2 h3
      clear h0 h1 h4 h5
      by_cases ho : op = 18 ∨ op = 19
      · rcases hy : (obj == e.obj) with _ | _
        · have HI := Lib.hid (show cntS (opsS [18, 19]) e.obj (t.take (k + 1)) = cntS (opsS [18, 19]) e.obj (t.take k) by rw [hI]; simp [isS, opsS, hy])
          clear hI hx
          rcases ho with rfl | rfl
          all_goals
            go_upto_region 4 with fail
            go_quiet (fail)
            go_wp2
            go_roundw
            case rel => exact ⟨k + 1, _, by omega, by omega, by go_num, by rw [HI.out]; exact HC.out, rfl⟩
            case measure => simp [intOf]; omega
        · have HI := Lib.hid (show cntS (opsS [18, 19]) e.obj (t.take (k + 1)) = cntS (opsS [18, 19]) e.obj (t.take k) + 1 by rw [hI]; rcases ho with rfl | rfl <;> simp [isS, opsS, hy])
          have HD : Hid (decide (cntS (opsS [18, 19]) e.obj (t.take (i + 1)) < cntS (opsS [18, 19]) e.obj (t.take j)) = true) := Lib.hid (decide_eq_true (by have := HI.out; have := HMn.out; have := HC.out; omega))
          clear hI hx
          rcases ho with rfl | rfl
          all_goals
            go_upto_region 4 with fail
            go_quiet (fail)
            go_wp2
            go_ret
            exact ⟨by rw [HD.out]; rfl, by first | exact below_draws (below_draws (Below.refl _ _) _) _ | exact below_draws (Below.refl _ _) _⟩
      · have h1 : (op == 18) = false := by simp; omega
        have h2' : (op == 19) = false := by simp; omega
        have HI := Lib.hid (show cntS (opsS [18, 19]) e.obj (t.take (k + 1)) = cntS (opsS [18, 19]) e.obj (t.take k) by rw [hI]; simp only [isS, opsS, List.contains_cons, List.contains_nil, h1, h2']; simp)
        clear hI hx
        go_upto_region 4 with fail
        go_quiet (fail)
        go_wp2
        go_roundw
        case rel => exact ⟨k + 1, _, by omega, by omega, by go_num, by rw [HI.out]; exact HC.out, rfl⟩
        case measure => simp [intOf]; omega
    · obtain rfl : k = j := by omega
      have HD : Hid (decide (cntS (opsS [18, 19]) e.obj (t.take (i + 1)) < cntS (opsS [18, 19]) e.obj (t.take k)) = false) := Lib.hid (decide_eq_false (by have := HC.out; omega))
      go_wp2
      go_ret
      exact ⟨by rw [HD.out]; rfl, by first | exact below_draws (below_draws (Below.refl _ _) _) _ | exact below_draws (Below.refl _ _) _⟩
theorem rroom_any (v0 v1 v2 : Value) (ca : Option Addr) (ccap : Nat) (chans : List Int) (v4 v5 v6 : Value) (x : Int) (w : World) (hc : ChIn w ca chans) (hv : (#[v0, v1, v2, .slice ca chans.length ccap, v4, v5, v6] : Array Value).all (·.oneCell') = true) :
    Calls Tryz.prog 63 #[.agg #[v0, v1, v2, .slice ca chans.length ccap, v4, v5, v6], .int .i64 x] w fun r w' => r = .returned (.int .i64 (roomL chans x)) ∧ Below w.heap.size w w' := by
  have hlen := hc.len
  have HC := Lib.hid hc
  clear hc
  simp only [List.all_toArray, List.all_cons, List.all_nil, Bool.and_true, Bool.and_eq_true] at hv
  obtain ⟨o0, o1, o2, o3, o4, o5, o6⟩ := hv
  by_cases h0 : x < 0
  · have h0' : decide (x < 0) = true := decide_eq_true h0
    have HF := Lib.hid (show roomL chans x = 0 by unfold roomL; rw [if_pos (.inl h0)])
    go_enter Tryz.func63, Tryz.ntmps63
    go_wp2
    go_ret
    exact ⟨by rw [HF.out]; rfl, below_box _ _⟩
  · have h0' : decide (x < 0) = false := decide_eq_false h0
    by_cases h1 : (chans.length : Int) ≤ x
    · have h1' : decide ((chans.length : Int) ≤ x) = true := decide_eq_true h1
      have HF := Lib.hid (show roomL chans x = 0 by unfold roomL; rw [if_pos (.inr h1)])
      go_enter Tryz.func63, Tryz.ntmps63
      go_wp2
      go_ret
      exact ⟨by rw [HF.out]; rfl, below_box _ _⟩
    · have h1' : decide ((chans.length : Int) ≤ x) = false := decide_eq_false h1
      obtain ⟨k, rfl⟩ : ∃ k : Nat, x = k := ⟨x.toNat, by omega⟩
      obtain ⟨y, hy⟩ := at_lt (l := chans) (k := k) (by omega)
      obtain ⟨g, o, rfl, hg, hcell⟩ := (HC.out.later (below_box w (.cells #[v0, v1, v2, .slice ca chans.length ccap, v4, v5, v6] 26))).row k y hy
      have HF := Lib.hid (show roomL chans k = y by unfold roomL; rw [if_neg (by omega)]; simp [hy])
      have hkl : (k : Int) < (chans.length : Int) := by omega
      clear hy
      go_enter Tryz.func63, Tryz.ntmps63
      go_wp2
      go_ret
      exact ⟨by rw [HF.out]; rfl, below_box _ _⟩
end Go.Proofs.YtglafbajbiengaaGreat
