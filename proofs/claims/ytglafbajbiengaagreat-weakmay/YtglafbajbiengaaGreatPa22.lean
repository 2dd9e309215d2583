/- What the laws of this seat stand on, part 22. -/
import Derived.Test.YtglafbajbiengaaGreatPa0
import Derived.Test.YtglafbajbiengaaGreatPa14
import Derived.Test.YtglafbajbiengaaGreatPa21
set_option linter.unusedVariables false
set_option linter.unusedSimpArgs false
set_option maxRecDepth 100000
set_option maxHeartbeats 40000000
namespace Go.Proofs.YtglafbajbiengaaGreat
open Go.ChangeShapes Go.WideShapes Go.ChangeAt Go.RowKit Go.Maps
theorem run_copy_z {P : Program} (w : World) (dT sT ty elem : TypeId) (g o dLen dCap : Nat) (a : Addr) (sLen sCap n z : Nat) (cur : Array Value) (t : TypeId) (cs : List Value)
    (hu : P.underlying dT = some (.slice elem)) (hs : (P.info? elem).map (·.size) = some z)
    (hg : w.heap[g]? = some (.cells cur t (0, 0))) (hm : Nat.min sLen dLen = n) (hn : n * z = cs.length)
    (hsrc : ∀ j v, cs[j]? = some v → w.cell? (a.add j) = some v) (hfit : o + cs.length ≤ cur.size) (h1 : ∀ v ∈ cs, v.oneCell' = true) :
    (Builtin.copy_ #[dT, sT] ty #[.slice (some ⟨g, o, none⟩) dLen dCap, .slice (some a) sLen sCap]).run P w =
      .ok (goInt n) (w.setRow g (cur.toList.take o ++ cs ++ cur.toList.drop (o + cs.length)).toArray) := by
  have hl := run_loadCells_list (P := P) w a cs hsrc
  have hst := run_storeCells_at P g o t cs 0 cur w hg (by simpa using hfit) h1
  cases hq : P.info? elem with
  | none => simp [hq] at hs
  | some i =>
    have hi : i.size = z := by simpa [hq] using hs
    simp [Builtin.copy_, run_underlying hu, Builtin.lenOf, Builtin.firstCells, sizeOf, typeInfo, hq, hi, hm, hn, hl, hst]
theorem run_copy_z0 {P : Program} (w : World) (dT sT ty elem : TypeId) (d a : Option Addr) (dLen dCap sLen sCap z : Nat) (hu : P.underlying dT = some (.slice elem)) (hs : (P.info? elem).map (·.size) = some z) (hn : Nat.min sLen dLen = 0) :
    (Builtin.copy_ #[dT, sT] ty #[.slice d dLen dCap, .slice a sLen sCap]).run P w = .ok (goInt 0) w := by
  cases hq : P.info? elem with
  | none => simp [hq] at hs
  | some i =>
    have hl : ∀ (x : Addr), (loadCells x 0).run P w = .ok #[] w := fun x => by simpa using run_loadCells_list (P := P) w x [] (by simp)
    cases d <;> cases a <;> simp [Builtin.copy_, run_underlying hu, Builtin.lenOf, Builtin.firstCells, sizeOf, typeInfo, hq, hn, storeCells, hl]
theorem wpList_copy_z {P : Program} {w : World} {ops : Array Oper} {rest : List Oper} {o : Oper} {a : Act} {Q : Exit → Act → World → Prop} (hgd : o.guard = none) (d s : Operand) (dT sT : TypeId)
    (ho : o.op = .call { callee := .builtin .copy, args := #[d, s], argTypes := #[dT, sT] }) (elem : TypeId) (hu : P.underlying dT = some (.slice elem)) (z : Nat) (hsz : (P.info? elem).map (·.size) = some z)
    (g dLen dCap : Nat) (sp : Option Addr) (sLen sCap : Nat) (hd : a.eval d = .slice (some ⟨g, 0, none⟩) dLen dCap) (hs : a.eval s = .slice sp sLen sCap) (hle : sLen ≤ dLen)
    (cur : List Value) (t : TypeId) (hg : w.heap[g]? = some (.cells cur.toArray t (0, 0))) (cs : List Value) (hn : sLen * z = cs.length)
    (hsrc : 0 < sLen → ∃ ad, sp = some ad ∧ ∀ j v, cs[j]? = some v → w.cell? (ad.add j) = some v) (hfit : cs.length ≤ cur.length) (h1 : ∀ v ∈ cs, v.oneCell' = true) (B : Nat) (w0 : World) (hb : Below B w0 w) (hBg : B ≤ g)
    (h : ∀ w', Hid (w'.heap[g]? = some (.cells (cs ++ cur.drop cs.length).toArray t (0, 0))) → Below B w0 w' → wpList P ops Q rest (a.put o.dst (goInt sLen)) w') : wpList P ops Q (o :: rest) a w := by
  have hmin : Nat.min sLen dLen = sLen := Nat.min_eq_left hle
  by_cases h0 : sLen = 0
  · subst h0
    obtain rfl : cs = [] := List.eq_nil_of_length_eq_zero (by simpa using hn.symm)
    refine wpList_plain hgd fun K hK => ?_
    have hrun := run_copy_z0 (P := P) w dT sT o.type elem (some ⟨g, 0, none⟩) sp dLen dCap 0 sCap z hu hsz hmin
    unfold Oper.wp
    simp [execOp, ho, resolve, invoke, builtin, hd, hs, hrun, Result.andThen]
    exact hK _ _ (h w (by simpa using Lib.hid hg) hb)
  · obtain ⟨ad, rfl, hsr⟩ := hsrc (by omega)
    refine wpList_plain hgd fun K hK => ?_
    have hrun := run_copy_z (P := P) w dT sT o.type elem g 0 dLen dCap ad sLen sCap sLen z cur.toArray t cs hu hsz hg hmin hn hsr (by simpa using hfit) h1
    unfold Oper.wp
    simp [execOp, ho, resolve, invoke, builtin, hd, hs, hrun, Result.andThen]
    refine hK _ _ (h _ (Lib.hid ?_) (below_setRow hb hBg _))
    rw [setRow_heap w g _ _ t _ hg]
/-- A struct's store in the midst of a row. -/
theorem wpList_store_mid {P : Program} {ops : Array Oper} {rest : List Oper} {o : Oper} {a : Act} {w : World} {Q : Exit → Act → World → Prop} (hgd : o.guard = none) (ty : TypeId) (x y : Operand) (ho : o.op = .store ty x y)
    (g off : Nat) (cells : Array Value) (hx : a.eval x = .pointer (some ⟨g, off, none⟩)) (hy : a.eval y = .agg cells)
    (t : TypeId) (cur : List Value) (hg : w.heap[g]? = some (.cells cur.toArray t (0, 0))) (hi : (P.info? ty).map (·.size) = some cells.size)
    (hfit : off + cells.size ≤ cur.length) (h1 : ∀ v ∈ cells.toList, v.oneCell' = true) (B : Nat) (w0 : World) (hb : Below B w0 w) (hBg : B ≤ g)
    (h : ∀ w', Hid (w'.heap[g]? = some (.cells (cur.take off ++ cells.toList ++ cur.drop (off + cells.size)).toArray t (0, 0))) → Below B w0 w' → wpList P ops Q rest (a.put o.dst undef) w') : wpList P ops Q (o :: rest) a w := by
  have hst := run_storeCells_at P g off t cells.toList 0 cur.toArray w hg (by simpa using hfit) h1
  have hrun : (storeVar ty ⟨g, off, none⟩ (.agg cells)).run P w = .ok () (w.setRow g (cur.take off ++ cells.toList ++ cur.drop (off + cells.size)).toArray) := by
    cases hq : P.info? ty with
    | none => simp [hq] at hi
    | some i =>
      have hs : cells.size = i.size := by simp [hq] at hi; omega
      simp [storeVar, sizeOf, typeInfo, hq, Value.cells, hs] at hst ⊢
      exact hst
  refine wpList_plain hgd fun K hK => ?_
  unfold Oper.wp execOp
  simp only [ho, hx, hy, Instr.storeAt, Instr.sureAddr, Sem.run_bind, Sem.run_pure, Result.andThen_ok, hrun]
  exact hK _ _ (h _ (Lib.hid (setRow_heap w g _ _ t _ hg)) (below_setRow hb hBg _))
theorem evsIn_src {W : World} {B : Nat} {a : Option Addr} {t : List EvD} (he : EvsIn W B a t) (hn : 0 < t.length) : ∃ ad, a = some ad ∧ ∀ j v, (evsCells t)[j]? = some v → W.cell? (ad.add j) = some v := by
  obtain ⟨e0, h0⟩ := at_lt hn
  obtain ⟨g, o, rfl, _, _⟩ := he 0 e0 h0
  refine ⟨_, rfl, fun j v hj => ?_⟩
  have hjl := (List.getElem?_eq_some_iff.1 hj).1
  rw [evsCells_len] at hjl
  obtain ⟨e, hk⟩ := at_lt (l := t) (k := j / 6) (by omega)
  obtain ⟨g2, o2, e2, _, c0, c1, c2, c3, c4, c5⟩ := he (j / 6) e hk
  cases e2
  have hc := evsCells_at t (j / 6) e hk (j % 6) (Nat.mod_lt _ (by omega))
  rw [show j / 6 * 6 + j % 6 = j by omega, hj] at hc
  rw [Addr.add_mid]
  have hr : j % 6 = 0 ∨ j % 6 = 1 ∨ j % 6 = 2 ∨ j % 6 = 3 ∨ j % 6 = 4 ∨ j % 6 = 5 := by omega
  rcases hr with h | h | h | h | h | h
  · rw [h] at hc; rw [show o + j = o + j / 6 * 6 by omega, c0]; exact hc.symm
  · rw [h] at hc; rw [show o + j = o + j / 6 * 6 + 1 by omega, c1]; exact hc.symm
  · rw [h] at hc; rw [show o + j = o + j / 6 * 6 + 2 by omega, c2]; exact hc.symm
  · rw [h] at hc; rw [show o + j = o + j / 6 * 6 + 3 by omega, c3]; exact hc.symm
  · rw [h] at hc; rw [show o + j = o + j / 6 * 6 + 4 by omega, c4]; exact hc.symm
  · rw [h] at hc; rw [show o + j = o + j / 6 * 6 + 5 by omega, c5]; exact hc.symm
theorem evs_oneW (t : List EvD) : ∀ u ∈ evsCells t, u.oneCell' = true := by
  intro u hu
  obtain ⟨e, _, he⟩ := List.mem_flatMap.1 hu
  simp only [evCells, List.mem_cons, List.not_mem_nil, or_false] at he
  rcases he with rfl | rfl | rfl | rfl | rfl | rfl <;> rfl
theorem evsIn_blk {V : World} {g : Nat} {t : List EvD} {ty : TypeId} {fr : Nat × Nat} (h : V.heap[g]? = some (.cells (evsCells t).toArray ty fr)) : EvsIn V V.heap.size (some ⟨g, 0, none⟩) t := by
  intro k e hk
  refine ⟨g, 0, rfl, (Array.getElem?_eq_some_iff.1 h).1, ?_⟩
  rw [Nat.zero_add]
  refine evAt_of fun j hj => ?_
  rw [cell_of_row _ _ _ _ _ _ h, ← evsCells_at t k e hk j hj]
  simp
theorem knows1_any (bt bx : Nat) (a : Option Addr) (cap : Nat) (t : List EvD) (x : Int) (k : Nat) (e : EvD) (W : World) (hT : Boxed W bt 27 (.slice a t.length cap)) (hX : Boxed W bx 3 (.int .i64 x)) (he : EvsIn W W.heap.size a t) (hk : t[k]? = some e) :
    Calls Tryz.prog 38 #[.int .i64 (k : Int), .pointer (some ⟨bt, 0, none⟩), .pointer (some ⟨bx, 0, none⟩)] W fun r w' => r = .returned (.bool (!stB x e)) ∧ Below W.heap.size W w' := by
  have hkl := (List.getElem?_eq_some_iff.1 hk).1
  have hkl' : (k : Int) < (t.length : Int) := by omega
  obtain ⟨g, o, rfl, hg, hE⟩ := he k e hk
  have HE := Lib.hid hE
  have HT := Lib.hid hT
  have HX := Lib.hid hX
  have HS := Lib.hid (stores_any e x)
  clear he hk hE hT hX
  generalize stB x e = S at *
  obtain ⟨th, pc, op, obj, val, mode⟩ := e
  have HKX : Hid (∀ u : World, Below W.heap.size W u → (u.cell? ⟨bt, 0, none⟩ = some (.slice (some ⟨g, o, none⟩) t.length cap) ∧ u.cell? ⟨bx, 0, none⟩ = some (.int .i64 x) ∧ u.cell? ⟨g, o + k * 6, none⟩ = some (.int .i64 th) ∧ u.cell? ⟨g, o + k * 6 + 1, none⟩ = some (.int .i64 pc) ∧ u.cell? ⟨g, o + k * 6 + 2, none⟩ = some (.int .u8 op) ∧ u.cell? ⟨g, o + k * 6 + 3, none⟩ = some (.int .i64 obj) ∧ u.cell? ⟨g, o + k * 6 + 4, none⟩ = some (.int .i64 val) ∧ u.cell? ⟨g, o + k * 6 + 5, none⟩ = some (.int .i64 mode))) := Lib.hid (fun u hB => by
    obtain ⟨a0, a1, a2, a3, a4, a5⟩ := HE.out.later hB
    exact ⟨(hB.cell (p := ⟨bt, 0, none⟩) HT.out.lt).trans HT.out.cell, (hB.cell (p := ⟨bx, 0, none⟩) HX.out.lt).trans HX.out.cell, a0, a1, a2, a3, a4, a5⟩)
  have HL := Lib.hid (Below.refl W.heap.size W).drew
  go_enter Tryz.func38, Tryz.ntmps38
  go_upto_region 1 with (fail)
  have KX := HKX.out _ HL.out
  go_region_held3 (fun u => u.cell? ⟨bt, 0, none⟩ = some (.slice (some ⟨g, o, none⟩) t.length cap) ∧ u.cell? ⟨bx, 0, none⟩ = some (.int .i64 x) ∧ u.cell? ⟨g, o + k * 6, none⟩ = some (.int .i64 th) ∧ u.cell? ⟨g, o + k * 6 + 1, none⟩ = some (.int .i64 pc) ∧ u.cell? ⟨g, o + k * 6 + 2, none⟩ = some (.int .u8 op) ∧ u.cell? ⟨g, o + k * 6 + 3, none⟩ = some (.int .i64 obj) ∧ u.cell? ⟨g, o + k * 6 + 4, none⟩ = some (.int .i64 val) ∧ u.cell? ⟨g, o + k * 6 + 5, none⟩ = some (.int .i64 mode)) (first | with_reducible exact KX | fail)
    (first | (go_at_call 23; refine (HS.out _).mono ?_; rintro e5 w5 ⟨rfl, hB⟩; have HL := Lib.hid (below_next HL.out hB); have KX := HKX.out _ HL.out; clear hB))
  go_wp2_with fail
  go_ret
  exact ⟨rfl, HL.out⟩
/-- The Load that stands behind a trace. -/
def ldE (th x : Int) : EvD := ⟨th, 0, 7, x, 0, 0⟩
def knL (chans : List Int) (t : List EvD) (th x : Int) : List Nat := (pastI chans (t ++ [ldE th x]) (t.length : Int)).filter (stP t x)
def KnE (chans : List Int) (t : List EvD) (th x : Int) (w : World) (e : Ending) (W' : World) : Prop := ∃ a cap, e = .returned (.slice a (knL chans t th x).length cap) ∧ RowOf .i64 W' W'.heap.size a (ofN (knL chans t th x)) ∧ Below w.heap.size w W'
theorem pastI_below {chans : List Int} {t : List EvD} {j : Int} {k : Nat} (h : k ∈ pastI chans t j) : (k : Int) < j ∧ j < (t.length : Int) := by
  unfold pastI at h
  by_cases hj : 0 ≤ j ∧ j < (t.length : Int)
  · rw [if_pos hj, past_mem (dirB_up _ _)] at h
    have := h.lt (dirB_up _ _)
    omega
  · rw [if_neg hj] at h; simp at h
theorem pastI_rise (chans : List Int) (t : List EvD) (j : Int) : (pastI chans t j).Pairwise (· < ·) := by
  unfold pastI
  split
  · exact mks_rise (dirB_up _ _) _ _ (Nat.le_refl _)
  · exact List.Pairwise.nil
theorem info_evW : (Tryz.prog.info? 31).map (fun i => (i.zero, i.size, i.bytes)) = some (some (evV 0 0 0 0 0 0), 6, 48) := by kernel_rfl
theorem hsz6 : (Tryz.prog.info? 31).map (·.size) = some 6 := by kernel_rfl
theorem boxed_at {W W' : World} {B : Nat} {t : TypeId} {v : Value} (h : Boxed W B t v) (hW : Below W.heap.size W W') : Boxed W' B t v := (hW.block B h.lt).trans h
theorem box_three {w : World} (o1 o2 o3 : Obj) : Below w.heap.size w (((w.alloc o1).alloc o2).alloc o3) := below_new (below_two _ _ _) _
theorem knows_any (v0 v1 v2 : Value) (ca : Option Addr) (ccap : Nat) (chans : List Int) (v4 v5 v6 : Value) (a : Option Addr) (cap : Nat) (t : List EvD) (th x : Int) (w : World) (hc : ChIn w ca chans) (he : EvsIn w w.heap.size a t) (hW : ∀ e ∈ t, EvW e) (hth : Wf th) (hx : Wf x) (hl : t.length ≤ 900) (hv : (#[v0, v1, v2, .slice ca chans.length ccap, v4, v5, v6] : Array Value).all (·.oneCell') = true) :
    Calls Tryz.prog 20 #[.agg #[v0, v1, v2, .slice ca chans.length ccap, v4, v5, v6], .slice a t.length cap, .int .i64 th, .int .i64 x] w (KnE chans t th x w) := by
  obtain ⟨i0, hi0, hz0, hz1, hz2⟩ := info_parts info_evW
  have HC := Lib.hid hc
  have HE := Lib.hid he
  have HVV := Lib.hid hv
  have HW2 : Hid (∀ e ∈ t ++ [ldE th x], EvW e) := Lib.hid (fun e h => by
    rcases List.mem_append.1 h with h | h
    · exact hW e h
    · simp at h; subst h; exact ⟨hth, hx⟩)
  clear hc he hW hth hx
  simp only [List.all_toArray, List.all_cons, List.all_nil, Bool.and_true, Bool.and_eq_true] at hv
  obtain ⟨o0, o1, o2, o3, o4, o5, o6⟩ := hv
  have hsz : (((w.alloc (.cells #[v0, v1, v2, .slice ca chans.length ccap, v4, v5, v6] 26)).alloc (.cells #[.slice a t.length cap] 27)).alloc (.cells #[.int .i64 x] 3)).heap.size = w.heap.size + 3 := by simp
  go_enter Tryz.func20, Tryz.ntmps20
  go_upto_region 1 with (fail)
  generalize hV : World.alloc (World.alloc (World.alloc w _) _) _ = V
  have HB0 := Lib.hid (show Below w.heap.size w V by rw [← hV]; exact box_three _ _ _)
  have HP0 : Hid (V.heap[w.heap.size]? = some (.cells #[v0, v1, v2, .slice ca chans.length ccap, v4, v5, v6] 26)) := Lib.hid (by rw [← hV]; exact old_alloc (old_alloc (heap_alloc_new _ _) _) _)
  have HT0 : Hid (Boxed V (w.heap.size + 1) 27 (.slice a t.length cap)) := Lib.hid (by
    show V.heap[w.heap.size + 1]? = _
    rw [← hV]; exact old_alloc (heap_alloc2_new _ _ _) _)
  have HX0 : Hid (Boxed V (w.heap.size + 1 + 1) 3 (.int .i64 x)) := Lib.hid (by
    show V.heap[w.heap.size + 1 + 1]? = _
    rw [← hV]
    have := heap_alloc_new ((w.alloc (.cells #[v0, v1, v2, .slice ca chans.length ccap, v4, v5, v6] 26)).alloc (.cells #[.slice a t.length cap] 27)) (.cells #[.int .i64 x] 3)
    simpa using this)
  clear hV hsz
  have c1 := HT0.out.cell
  have c2 := HX0.out.cell
  go_upto_region 2 with (refine wpList_make_full _ rfl _ _ 27 rfl V.heap.size 31 i0 _ 6 Tryz.underlying27 hi0 hz0 hz1 .i64 .i64 _ _ (t.length + 1) rfl rfl (by go_num) (by go_num) (by rw [hz2]; omega) (by unfold maxLen; omega) (Nat.le_refl _) ?_; intro w1 hown hgrow)
  obtain ⟨Z, hZl, hgZ⟩ : ∃ Z : List Value, Z.length = (t.length + 1) * 6 ∧ w1.heap[V.heap.size]? = some (.cells Z.toArray 31 (0, 0)) := by
    rcases hown.2 with ⟨h0, _⟩ | ⟨g', c', cur, e', hb, hh, hle, hcap, hsz, ht⟩
    · cases h0
    · cases e'; exact ⟨cur.toList, by simpa using hsz, by simpa using hh⟩
  have HBv1 : Hid (Below V.heap.size V w1) := Lib.hid ((Below.refl _ V).grown hgrow (Nat.le_refl _) (by intro k hk; cases hk))
  have HSrc := Lib.hid (fun h0 => evsIn_src (HE.out.later (below_next HB0.out HBv1.out)) h0)
  have c1 := (boxed_at HT0.out HBv1.out).cell
  have c2 := (boxed_at HX0.out HBv1.out).cell
  have HgZ := Lib.hid hgZ
  have HZl := Lib.hid hZl
  clear hown hgrow hgZ hZl
  go_upto_region 3 with (refine wpList_copy_z rfl _ _ 27 27 rfl 31 Tryz.underlying27 6 hsz6 V.heap.size (t.length + 1) (t.length + 1) a t.length cap rfl rfl (by omega) Z _ HgZ.out (evsCells t) (evsCells_len t).symm HSrc.out (by rw [evsCells_len]; have := HZl.out; omega) (evs_oneW t) V.heap.size V HBv1.out (Nat.le_refl _) ?_; intro w2 hg2 hB2)
  have HBv2 := Lib.hid hB2
  have c1 := (boxed_at HT0.out HBv2.out).cell
  have c2 := (boxed_at HX0.out HBv2.out).cell
  clear hB2
  have hnl : (t.length : Int) < (t.length : Int) + 1 := by omega
  go_upto_region 4 with (first
    | (refine wpList_store_mid rfl 31 _ _ rfl V.heap.size (t.length * 6) #[.int .i64 th, .int .i64 0, .int .u8 7, .int .i64 x, .int .i64 0, .int .i64 0] rfl rfl _ _ hg2.out hsz6 (by simp only [List.length_append, List.length_drop, evsCells_len]; have := HZl.out; simp; omega) (evs_oneW [ldE th x]) V.heap.size V HBv2.out (Nat.le_refl _) ?_; intro w3 hg3 hB3))
  have HBv3 := Lib.hid hB3
  have HL3 : Hid (w3.heap[V.heap.size]? = some (.cells (evsCells (t ++ [ldE th x])).toArray 31 (0, 0))) := Lib.hid (by
    rw [hg3.out]
    congr 2
    have e1 : (evsCells t).length = t.length * 6 := evsCells_len t
    have e2 := HZl.out
    simp only [evsCells, List.flatMap_append] at e1 ⊢
    rw [List.take_append_of_le_length (by omega), List.take_of_length_le (by omega), List.drop_append]
    rw [List.drop_of_length_le (by omega), List.drop_drop, List.drop_of_length_le (l := Z) (by simp; omega)]
    simp [evCells, ldE])
  clear hB3 hg3 hg2
  have c1 := (boxed_at HT0.out HBv3.out).cell
  have HEl := Lib.hid (evsIn_blk HL3.out)
  have HLen : (t ++ [ldE th x]).length = t.length + 1 := by simp
  have HPa := Lib.hid (past_any v0 v1 v2 ca ccap chans v4 v5 v6 (some ⟨V.heap.size, 0, none⟩) (t.length + 1) (t ++ [ldE th x]) (t.length : Int) w3 (HC.out.later (below_next HB0.out HBv3.out)) HEl.out HW2.out (by omega) (by omega) HVV.out)
  rw [HLen] at HPa
  clear HLen
  obtain ⟨p0, p1, p2, p3, p4, p5, p6⟩ := box7 (old_later HP0.out HBv3.out)
  have HBw3 := Lib.hid (below_next HB0.out HBv3.out)
  have HDl : Hid (∀ (w4 : World) (hB4 : Below w3.heap.size w3 w4) (qa : Option Addr) (qc : Nat) (ho : w4.ownsRow w3.heap.size 3 1 (.slice qa (pastI chans (t ++ [ldE th x]) (t.length : Int)).length qc) (pastI chans (t ++ [ldE th x]) (t.length : Int)).length ((ofN (pastI chans (t ++ [ldE th x]) (t.length : Int))).map (.int .i64 ·))),
      Calls Tryz.prog 36 #[.slice qa (pastI chans (t ++ [ldE th x]) (t.length : Int)).length qc, .func (.func 38) #[] #[.pointer (some ⟨w.heap.size + 1, 0, none⟩), .pointer (some ⟨w.heap.size + 1 + 1, 0, none⟩)]] w4 fun e w' => ∃ a' c', e = .returned (.slice a' (knL chans t th x).length c') ∧ RowOf .i64 w' w'.heap.size a' (ofN (knL chans t th x)) ∧ Below w3.heap.size w3 w') := Lib.hid (fun w4 hB4 qa qc ho => by
    have hbv := below_next HBv3.out hB4
    refine (delete_any _ _ (w.heap.size + 1) (w.heap.size + 1 + 1) (fun k => !stP t x k) w3.heap.size w4 ho (by have := pastI_len (ch := chans) (t := t ++ [ldE th x]) (j := t.length) (by simp); simp at this; omega) (fun W k T hk => ?_)).mono ?_
    · have hkl := pastI_below hk
      obtain ⟨e, he⟩ := at_lt (l := t) (k := k) (by omega)
      have hX : ∀ g, (Value.slice qa (pastI chans (t ++ [ldE th x]) (t.length : Int)).length qc).ownBlock = some g → w3.heap.size ≤ g := fun g hg => (own_lt ho g hg).2
      have hB5 : Below w3.heap.size w3 W := hB4.trans (T.below hX hB4.size)
      have hbv5 := below_next HBv3.out hB5
      have h := knows1_any (w.heap.size + 1) (w.heap.size + 1 + 1) a cap t x k e W (boxed_at HT0.out hbv5) (boxed_at HX0.out hbv5) (HE.out.later (below_next HB0.out hbv5)) he
      rw [← stP_at he] at h
      exact h
    · rintro e w' ⟨a', c', rfl, hr, T⟩
      have hX : ∀ g, (Value.slice qa (pastI chans (t ++ [ldE th x]) (t.length : Int)).length qc).ownBlock = some g → w3.heap.size ≤ g := fun g hg => (own_lt ho g hg).2
      simp only [Bool.not_not] at hr
      simp only [Bool.not_not]
      exact ⟨a', c', rfl, hr, hB4.trans (T.below hX hB4.size)⟩)
  unfold PastE at HPa
  generalize pastI chans (t ++ [ldE th x]) (t.length : Int) = P at *
  go_wp2_with (first
    | (have _g := hB4; go_at_call 36; refine (HDl.out w4 hB4 qa qc ho).mono ?_; rintro e w5 ⟨a', c', rfl, hr, hB5⟩)
    | (go_at_call 37; refine HPa.out.mono ?_; rintro e w4 ⟨qa, qc, rfl, ho, hB4⟩))
  go_ret
  exact ⟨a', c', rfl, hr, below_next HBw3.out hB5⟩
end Go.Proofs.YtglafbajbiengaaGreat
namespace Go.Proofs.YtglafbajbiengaaGreat
open Go.ChangeShapes Go.WideShapes Go.ChangeAt Go.RowKit Go.Maps Go.Shelf
attribute [local go_sem] Oper.semAt_some
theorem ownFrom_blk {β : Type} (B g : Nat) (f : β → Array Value) (t : TypeId) : OwnFrom B (fun s W => W.heap[g]? = some (.cells (f s) t (0, 0))) := fun s W W' row hs hg hr => by
  refine (hg.block g (Array.getElem?_eq_some_iff.1 hs).1 (fun e => ?_)).trans hs
  obtain ⟨_, o, ho, hc⟩ := hr g e.symm
  rw [hs] at ho
  cases ho
  cases hc
def mkB (s : Nat → Bool) (n : Nat) : List Value := (List.range n).map fun i => .bool (s i)
theorem mkB_at (s : Nat → Bool) {n k : Nat} (h : k < n) : (mkB s n)[k]? = some (.bool (s k)) := by simp [mkB, h]
theorem mkB_len (s : Nat → Bool) (n : Nat) : (mkB s n).length = n := by simp [mkB]
theorem mkB_set (s : Nat → Bool) (n q : Nat) : (mkB s n).set q (.bool true) = mkB (fun k => s k || k == q) n := by
  apply List.ext_getElem?
  intro j
  rw [List.getElem?_set]
  by_cases hj : j < n
  · rw [mkB_at _ hj, mkB_at _ hj, mkB_len]
    by_cases e : q = j
    · subst e; simp [hj]
    · have : (j == q) = false := by rw [beq_eq_false_iff_ne]; exact fun h => e h.symm
      rw [if_neg e, this, Bool.or_false]
  · rw [List.getElem?_eq_none (by rw [mkB_len]; omega), List.getElem?_eq_none (by rw [mkB_len]; omega), mkB_len]
    split
    · simp; omega
    · rfl
theorem mkB_congr {s s' : Nat → Bool} {n : Nat} (h : ∀ k, k < n → s k = s' k) : mkB s n = mkB s' n := by
  unfold mkB
  exact List.map_congr_left fun k hk => by rw [h k (List.mem_range.1 hk)]
def ovB (chans : List Int) (t : List EvD) (ks : List Nat) (i : Nat) : Bool := ks.any fun k => befB (dirB chans t) i k
/-- hidden's memory in its loop. -/
def HdI (chans : List Int) (w : World) (vs : Array Value) (a : Option Addr) (cap : Nat) (t : List EvD) (bo : Nat) (ks : List Nat) (W : World) : Prop :=
  (W.heap[w.heap.size + 1 + 1]? = some (.cells (mkB (ovB chans t ks) t.length).toArray 4 (0, 0)) ∧ W.heap[bo]? = some (.cells #[.slice (some ⟨w.heap.size + 1 + 1, 0, none⟩) t.length t.length] 59 (0, 0)) ∧ W.heap[w.heap.size]? = some (.cells vs 26 (0, 0)) ∧ W.heap[w.heap.size + 1]? = some (.cells #[.slice a t.length cap] 27 (0, 0)) ∧ bo + 1 < W.heap.size) ∧ Below w.heap.size w W
def valsN {n : Nat} (pre : List (PlN n)) : List Nat := pre.map fun x => x.2.1
theorem valsN_app {n : Nat} (pre : List (PlN n)) (x : PlN n) : valsN (pre ++ [x]) = valsN pre ++ [x.2.1] := by simp [valsN]
theorem ovB_app (chans : List Int) (t : List EvD) (ks : List Nat) (k i : Nat) : ovB chans t (ks ++ [k]) i = (ovB chans t ks i || befB (dirB chans t) i k) := by simp [ovB]
theorem ovB_skip {chans : List Int} {t : List EvD} {ks : List Nat} {k : Nat} (h : ovB chans t ks k = true) (i : Nat) : ovB chans t (ks ++ [k]) i = ovB chans t ks i := by
  rw [ovB_app]
  rcases hb : befB (dirB chans t) i k with _ | _
  · rw [Bool.or_false]
  · rw [Bool.or_true]
    unfold ovB at h ⊢
    rw [List.any_eq_true] at h
    obtain ⟨k', hk', h⟩ := h
    symm
    rw [List.any_eq_true]
    exact ⟨k', hk', (befB_iff (dirB_up _ _)).2 (((befB_iff (dirB_up _ _)).1 hb).trans ((befB_iff (dirB_up _ _)).1 h))⟩
theorem hdI_own (chans : List Int) (w : World) (vs : Array Value) (a : Option Addr) (cap : Nat) (t : List EvD) (bo B n : Nat) (hB : w.heap.size ≤ B) : OwnFrom B (fun (pre : List (PlN n)) W => HdI chans w vs a cap t bo (valsN pre) W) :=
  OwnFrom.and (OwnFrom.and (ownFrom_blk B _ (fun pre : List (PlN n) => (mkB (ovB chans t (valsN pre)) t.length).toArray) _) (OwnFrom.and (ownFrom_blk B _ (fun _ => _) _) (OwnFrom.and (ownFrom_blk B _ (fun _ => _) _) (OwnFrom.and (ownFrom_blk B _ (fun _ => _) _) (fun s W W' row hs hg _ => Nat.lt_of_lt_of_le hs hg.size))))) (ownFrom_below (Nat.le_refl _) hB)
theorem ko_touch {W W' : World} {g : Nat} {cs : Array Value} {t : TypeId} {fr : Nat × Nat} (hg : W.heap[g]? = some (.cells cs t fr)) (T : Touch (fun q => q = g) W W') : KeepsOthers W W' := ⟨T.size, fun k o hk ho => by
  refine (T.block k (Array.getElem?_eq_some_iff.1 hk).1 (fun e => ?_)).trans hk
  subst e
  rw [hg] at hk
  cases hk
  cases ho⟩
theorem wpListIn_make_full {F : Fence} {n : Nat} {P : Program} (w : World) {ops : Array Oper} {rest : List Oper} {o : Oper} {a : Act} {Q : Exit → Act → World → Prop}
    (hg : o.guard = none) (l c : Operand) (t : TypeId) (hop : o.op = Op.makeSlice t l c)
    (base : Nat) (e : TypeId) (i : TypeInfo) (z : Value) (size : Nat) (h1 : P.underlying t = some (.slice e)) (h2 : P.info? e = some i) (h3 : i.zero = some z) (h4 : i.size = size)
    (kl kc : IntKind) (L C : Int) (m : Nat) (hl : a.eval l = .int kl L) (hc : a.eval c = .int kc C) (hL : L = (m : Int)) (hC : C = (m : Int)) (b2 : i.bytes * m ≤ 281474976710656) (b3 : m ≤ maxLen) (b4 : base ≤ w.heap.size)
    (hK : ∀ w', w'.ownsRow base e size (.slice (some ⟨w.heap.size, 0, none⟩) m m) m (madeCells z.cells (m * size)).toList → w.grownBy w' none → wpListIn F n P ops Q rest (a.put o.dst (.slice (some ⟨w.heap.size, 0, none⟩) m m)) w') :
    wpListIn F n P ops Q (o :: rest) a w := by
  refine wpListIn_plain hg fun K hK' => ?_
  obtain ⟨w', hrun, r1, r2⟩ := run_make_full (P := P) w base t e i z size h1 h2 h3 h4 kl kc m b2 b3 b4
  subst hL
  subst hC
  unfold Oper.wpIn
  refine ⟨?_, ?_⟩
  · simp [Oper.about, hop, resolve, Target.leads, Sem.run_pure]
  · rw [Oper.semAt_plain F _ _ (by rw [hop]; intro c hc'; cases hc')]
    simp [execOp, hop, hl, hc, hrun, Result.andThen]
    exact hK' _ _ (hK w' r1 r2)
theorem info_boolW : (Tryz.prog.info? 4).map (fun i => (i.zero, i.size, i.bytes)) = some (some (.bool false), 1, 1) := by kernel_rfl
theorem backN_fn (n : Nat) (v : Value) (hv : v.oneCell' = true) (w : World) :
    CallsIn Fence.wide n Tryz.prog 39 #[v] w fun e w' => e = .returned (.func (.func 58) #[] #[.pointer (some ⟨w.heap.size, 0, none⟩)]) ∧ w' = w.alloc (.cells #[v] 23) := by
  refine callsIn_of_wp Tryz.func39 rfl trivial ?_ rfl
  simp only [Tryz.ntmps39, List.size_toArray, List.length_cons, List.length_nil, Nat.reduceAdd, Nat.reduceSub, Array.replicate_succ, Array.replicate_zero, List.push_toArray, List.append_toArray, List.nil_append, List.cons_append]
  gi_wp2
  go_ret
  exact ⟨rfl, rfl⟩
theorem hidden_any (v0 v1 v2 : Value) (ca : Option Addr) (ccap : Nat) (chans : List Int) (v4 v5 v6 : Value) (a : Option Addr) (cap : Nat) (t : List EvD) (ka : Option Addr) (kc : Nat) (ks : List Nat) (w : World) (hc : ChIn w ca chans) (he : EvsIn w w.heap.size a t) (hW : ∀ e ∈ t, EvW e) (hl : t.length ≤ 900) (hcap : t.length ≤ cap) (hk : RowOf .i64 w w.heap.size ka (ofN ks)) (hn : ∀ k ∈ ks, k < t.length) (hkl : ks.length ≤ 900) (hv : (#[v0, v1, v2, .slice ca chans.length ccap, v4, v5, v6] : Array Value).all (·.oneCell') = true) :
    Calls Tryz.prog 21 #[.agg #[v0, v1, v2, .slice ca chans.length ccap, v4, v5, v6], .slice a t.length cap, .slice ka ks.length kc] w fun e W' => ∃ g, e = .returned (.slice (some ⟨g, 0, none⟩) t.length t.length) ∧ W'.heap[g]? = some (.cells (mkB (ovB chans t ks) t.length).toArray 4 (0, 0)) ∧ Below w.heap.size w W' := by
  obtain ⟨i0, hi0, hz0, hz1, hz2⟩ := info_parts info_boolW
  have HVV := Lib.hid hv
  simp only [List.all_toArray, List.all_cons, List.all_nil, Bool.and_true, Bool.and_eq_true] at hv
  obtain ⟨o0, o1, o2, o3, o4, o5, o6⟩ := hv
  refine (callsIn_wide (n := 3)).1 ?_
  refine callsIn_of_wp_marks Tryz.func21 rfl trivial ?_ rfl
  simp only [Tryz.ntmps21, List.size_toArray, List.length_cons, List.length_nil, Nat.reduceAdd, Nat.reduceSub, Array.replicate_succ, Array.replicate_zero, List.push_toArray, List.append_toArray, List.nil_append, List.cons_append]
  gi_wp2_with (first
    | (refine wpListIn_make_full _ rfl _ _ 59 rfl (w.heap.size + 1 + 1) 4 i0 _ 1 Tryz.underlying59 hi0 hz0 hz1 .i64 .i64 _ _ t.length rfl rfl rfl rfl (by rw [hz2]; omega) (by unfold maxLen; omega) (by simp) ?_; intro w1 hown hgrow)
    | (refine ⟨trivial, ?_⟩; gi_at_call 39; refine (backN_fn _ _ (by simp [Value.oneCell']) _).mono ?_; rintro e w2 ⟨rfl, rfl⟩))
  obtain ⟨hgr, hw1, hB1⟩ : w1.heap[w.heap.size + 1 + 1]? = some (.cells (mkB (ovB chans t []) t.length).toArray 4 (0, 0)) ∧ w.heap.size + 1 + 1 < w1.heap.size ∧ Below w.heap.size w w1 := by
    have hB : Below w.heap.size w w1 := by
      have h1 : Below w.heap.size w ((w.alloc (.cells #[v0, v1, v2, .slice ca chans.length ccap, v4, v5, v6] 26)).alloc (.cells #[.slice a t.length cap] 27)) := below_two _ _ _
      exact h1.trans ((Below.refl _ _).grown hgrow (by simp; omega) (by intro k hk; cases hk))
    rcases hown.2 with ⟨h0, _⟩ | ⟨g', c', cur, e', hb, hh, hle, hcap, hsz, ht⟩
    · cases h0
    · simp at e'
      obtain ⟨rfl, rfl⟩ := e'
      refine ⟨?_, (Array.getElem?_eq_some_iff.1 hh).1, hB⟩
      rw [hh]
      congr 2
      apply Array.ext'
      have e1 : (madeCells (Value.bool false).cells (t.length * 1)).toList = List.replicate t.length (.bool false) := by rw [Nat.mul_one]; exact toList_madeCells_one _ _
      rw [e1, List.take_of_length_le (by simp; omega)] at ht
      rw [ht]
      apply List.ext_getElem?
      intro j
      by_cases hj : j < t.length
      · rw [show (mkB (ovB chans t []) t.length).toArray.toList = mkB (ovB chans t []) t.length from rfl, mkB_at _ hj]
        simp [hj, ovB]
      · rw [List.getElem?_eq_none (by simp; omega), List.getElem?_eq_none (by simp [mkB_len]; omega)]
  have hpp : w1.heap[w.heap.size]? = some (.cells #[v0, v1, v2, .slice ca chans.length ccap, v4, v5, v6] 26 (0, 0)) := (hgrow.block w.heap.size (by simp; omega) (by simp)).trans (old_alloc (heap_alloc_new _ _) _)
  have htt : w1.heap[w.heap.size + 1]? = some (.cells #[.slice a t.length cap] 27 (0, 0)) := (hgrow.block (w.heap.size + 1) (by simp) (by simp)).trans (heap_alloc2_new _ _ _)
  have HC := Lib.hid hc
  have HE := Lib.hid he
  have HWf := Lib.hid hW
  clear hown hgrow hc he hW
  have hrow0 : RowOf .i64 ((w1.alloc (.cells #[.slice (some ⟨w.heap.size + 1 + 1, 0, none⟩) t.length t.length] 59)).alloc (.cells #[.slice ka ks.length kc] 23)) w.heap.size ka (ofN ks) := hk.same fun g hg => (below_new (below_new hB1 _) _).block g hg
  refine rangeSeq 3 (by decide) (gf := 58) (lb := #[.pointer (some ⟨w1.heap.size + 1, 0, none⟩)]) rfl (enters_of Tryz.func58 (by kernel_rfl) rfl)
    (encs := encN) (Kp := KpW w.heap.size (w1.heap.size + 1)) (S := fun ys => ys = bkN ks hn ks.length) (Sp := fun pre => pre <+: bkN ks hn ks.length) (N := ks.length)
    (fun l J Jx W hbW _ _ hY h0 => backN_in 2 (by decide) l (w1.heap.size + 1) w.heap.size ka kc ks hn (by omega) J Jx hY W (boxed_at (by
      show _ = some _
      have := heap_alloc_new (w1.alloc (.cells #[.slice (some ⟨w.heap.size + 1 + 1, 0, none⟩) t.length t.length] 59)) (.cells #[.slice ka ks.length kc] 23)
      simpa using this) hbW) (hrow0.same fun g hg => hbW.block g (by simp; omega)) h0)
    KpW.trans (KpW.obj (by simp; omega) (by simp)) (fun _ => rfl)
    (fun pre W => HdI chans w #[v0, v1, v2, .slice ca chans.length ccap, v4, v5, v6] a cap t w1.heap.size (valsN pre) W) (fun _ _ _ => False) (hdI_own _ _ _ _ _ _ _ _ _ (by simp; omega)) (fun _ _ _ _ _ hs _ _ => hs)
    ⟨⟨old_alloc (old_alloc hgr _) _, old_alloc (heap_alloc_new _ _) _, old_alloc (old_alloc hpp _) _, old_alloc (old_alloc htt _) _, by simp⟩, below_new (below_new hB1 _) _⟩
    (fun x W => W) (fun x W => Below.refl _ _) (fun _ x W _ => ⟨fun _ _ => rfl, rfl⟩) (fun _ x W h => h)
    (fun x W => { tmps := #[.agg #[v0, v1, v2, .slice ca chans.length ccap, v4, v5, v6], .slice a t.length cap, .slice ka ks.length kc, .pointer (some ⟨w.heap.size, 0, none⟩), .pointer (some ⟨w.heap.size + 1, 0, none⟩), undef, .slice none 0 0, .pointer (some ⟨w1.heap.size, 0, none⟩), undef, .int .i64 (x.2.1 : Int), undef, undef, .slice a t.length cap, .int .i64 t.length, .slice (some ⟨w.heap.size + 1 + 1, 0, none⟩) t.length t.length, .slice ka ks.length kc, .func (.func 58) #[] #[.pointer (some ⟨w1.heap.size + 1, 0, none⟩)], .int .i64 (x.1 : Int), .int .i64 (x.2.1 : Int), undef, undef, undef, undef, undef, undef, undef, undef, undef, undef, undef, undef, undef, undef, undef, undef, undef, undef], defers := [] }) ?assign ?body ?done ?stop
  case assign =>
    intro l x W K hK
    unfold encN
    gi_wp2
    exact hK
  case body =>
    rintro l pre x W0 W ⟨⟨hr, hb, hp, ht, hbs⟩, hB⟩ _ hlen hsz hcl
    clear hsz hcl
    obtain ⟨k, hkx⟩ : ∃ k, x.2.1 = k := ⟨_, rfl⟩
    have hkn : k < t.length := hkx ▸ x.2.2
    have HVA : Hid (∀ {U : World}, HdI chans w #[v0, v1, v2, .slice ca chans.length ccap, v4, v5, v6] a cap t w1.heap.size (valsN pre ++ [k]) U → HdI chans w #[v0, v1, v2, .slice ca chans.length ccap, v4, v5, v6] a cap t w1.heap.size (valsN (pre ++ [x])) U) := Lib.hid (fun h => by rw [valsN_app, hkx]; exact h)
    rw [hkx]
    clear hkx
    have HR := Lib.hid hr
    have HB := Lib.hid hB
    have HT := Lib.hid ht
    have HP := Lib.hid hp
    have HBo := Lib.hid hb
    have hbc := cell_of_row _ _ 0 _ _ _ hb
    have hkc2 := cell_of_row _ _ k _ _ _ hr
    have hkn' : (k : Int) < (t.length : Int) := by omega
    simp only [List.getElem?_toArray, mkB_at _ hkn, List.getElem?_cons_zero] at hbc hkc2
    have hgl : w.heap.size + 1 + 1 < W.heap.size := (Array.getElem?_eq_some_iff.1 hr).1
    rcases hov : ovB chans t (valsN pre) k with _ | _
    · rw [hov] at hkc2
      have HPa := Lib.hid (past_any v0 v1 v2 ca ccap chans v4 v5 v6 a cap t (k : Int) W (HC.out.later hB) (HE.out.later hB) HWf.out (by omega) hcap HVV.out)
      have htc := cell_of_row _ _ 0 _ _ _ ht
      simp only [List.getElem?_toArray, List.getElem?_cons_zero] at htc
      obtain ⟨p0, p1, p2, p3, p4, p5, p6⟩ := box7 hp
      have HPd : Hid (pastI chans t (k : Int) = pastL (dirB chans t) k) := Lib.hid (by unfold pastI; rw [if_pos (by omega)]; simp)
      have HPl := Lib.hid (pastI_len (ch := chans) hkn)
      have HPb := Lib.hid (fun q (h : q ∈ pastI chans t (k : Int)) => (show q < t.length by have := pastI_below h; omega))
      have hwW := HB.out.size
      clear hr hb hp ht hB hov
      unfold PastE at HPa
      generalize pastI chans t (k : Int) = P at *
      have hPl := HPl.out
      gi_wp2_with (first | (refine ⟨trivial, ?_⟩; gi_at_call 37; refine ((callsIn_wide.2 HPa.out).inRound l).mono ?_; rintro e w5 ⟨qa, qc, rfl, ho, hB5⟩))
      have hB5s := hB5.size
      have HO5 := Lib.hid ho
      have HB5 := Lib.hid hB5
      clear ho hB5 p0 p1 p2 p3 p4 p5 p6 hbc hkc2 htc
      gi_loopw [28] (fun iv u => ∃ m : Nat, m ≤ P.length ∧ iv = .int .i64 m ∧ u.heap[w.heap.size + 1 + 1]? = some (.cells (mkB (fun j => ovB chans t (valsN pre) j || (P.take m).contains j) t.length).toArray 4 (0, 0)) ∧ u.ownsRow W.heap.size 3 1 (.slice qa P.length qc) P.length ((ofN P).map (.int .i64 ·)) ∧ Touch (fun q => q = w.heap.size + 1 + 1) W u) (fun iv _ => P.length - (intOf iv).toNat)
      case atStart => exact ⟨0, Nat.zero_le _, rfl, by rw [mkB_congr (s' := ovB chans t (valsN pre)) fun j _ => by simp]; exact old_later HR.out HB5.out, HO5.out, Touch.of_below HB5.out⟩
      case round =>
        obtain ⟨m, hm, rfl, hr, ho, hT⟩ := hrel
        have HR2 := Lib.hid hr
        have HO2 := Lib.hid ho
        have HT2 := Lib.hid hT
        have hbc := cell_of_row _ _ 0 _ _ _ ((hT.block _ (Array.getElem?_eq_some_iff.1 HBo.out).1 (by omega)).trans HBo.out)
        simp only [List.getElem?_toArray, List.getElem?_cons_zero] at hbc
        by_cases hlt : m < P.length
        · have hlt' : (m : Int) < (P.length : Int) := by omega
          obtain ⟨q, hq⟩ := at_lt hlt
          obtain ⟨g, rfl⟩ : ∃ g, qa = some ⟨g, 0, none⟩ := by
            rcases ho.2 with ⟨_, h1⟩ | ⟨g, _, _, h0, _⟩
            · omega
            · injection h0 with h0 _ _; exact ⟨g, h0⟩
          have hcm := ho.cellAt m (by omega)
          rw [List.getElem?_map, ofN, List.getElem?_map, hq] at hcm
          simp only [Option.map_some] at hcm
          have hqn := HPb.out q (List.mem_of_getElem? hq)
          have hqn' : (q : Int) < (t.length : Int) := by omega
          have hcq := cell_of_row _ _ q _ _ _ hr
          simp only [List.getElem?_toArray, mkB_at _ hqn] at hcq
          have hfq := frozen_of_row _ _ q _ _ hr
          have HTk := Lib.hid (show P.take (m + 1) = P.take m ++ [q] by rw [List.take_add_one, hq]; rfl)
          have hgg : w.heap.size + 1 + 1 < W.heap.size := hgl
          clear hr ho hT hq
          gi_wp2
          go_roundw
          case rel =>
            refine ⟨m + 1, by omega, by go_num, ?_, ownsRow_newer HO2.out hgg, HT2.out.set rfl⟩
            rw [stSet_block _ _ _ _ HR2.out]
            congr 2
            rw [List.setIfInBounds_toArray, mkB_set]
            rw [mkB_congr fun j _ => ?_]
            rw [HTk.out, List.contains_append, Bool.or_assoc]
            congr 2
            rw [Bool.eq_iff_iff]
            simp
          case measure => simp [intOf]; omega
        · obtain rfl : m = P.length := by omega
          clear hr ho hT
          gi_wp2
          have hg : HdI chans w #[v0, v1, v2, .slice ca chans.length ccap, v4, v5, v6] a cap t w1.heap.size (valsN pre ++ [k]) wr := by
            refine ⟨⟨?_, (HT2.out.block _ (Array.getElem?_eq_some_iff.1 HBo.out).1 (by omega)).trans HBo.out, (HT2.out.block _ (Array.getElem?_eq_some_iff.1 HP.out).1 (by omega)).trans HP.out, (HT2.out.block _ (Array.getElem?_eq_some_iff.1 HT.out).1 (by omega)).trans HT.out, Nat.lt_of_lt_of_le hbs HT2.out.size⟩, HB.out.trans (HT2.out.below (fun q e => by omega) hwW)⟩
            rw [HR2.out]
            congr 2
            rw [mkB_congr fun j _ => ?_]
            rw [ovB_app, List.take_length, HPd.out]
            rfl
          exact ⟨ko_touch HR.out HT2.out, KpW.touch hwW (by omega) HT2.out (fun g hg => by omega) (by omega), HVA.out hg⟩
    · have HSk := Lib.hid (fun i => ovB_skip hov i)
      rw [hov] at hkc2
      clear hr hb hp ht hB hov
      gi_wp2
      have hg : HdI chans w #[v0, v1, v2, .slice ca chans.length ccap, v4, v5, v6] a cap t w1.heap.size (valsN pre ++ [k]) W := ⟨⟨by
        rw [mkB_congr (s' := ovB chans t (valsN pre)) fun j _ => HSk.out j]
        exact HR.out, HBo.out, HP.out, HT.out, hbs⟩, HB.out⟩
      exact ⟨KeepsOthers.refl _, ⟨fun _ _ => rfl, rfl⟩, HVA.out hg⟩
  case done =>
    rintro D ys W hD rfl ⟨⟨hr, hb, hp, ht, hbs⟩, hB⟩ hK
    have hbc := cell_of_row _ _ 0 _ _ _ hb
    simp only [List.getElem?_toArray, List.getElem?_cons_zero] at hbc
    have HR := Lib.hid hr
    have HB := Lib.hid hB
    have hgl : w.heap.size + 1 + 1 < W.heap.size := (Array.getElem?_eq_some_iff.1 hr).1
    have hDl : w1.heap.size + 2 ≤ D := by simpa using hD
    clear hr hb hp ht hB hD
    gi_wp2
    refine ⟨by simp, .inl ⟨_, _, rfl, run_takeDeferred hK, ?_⟩⟩
    refine ⟨_, results_tmp rfl _ _ _, w.heap.size + 1 + 1, rfl, ?_, HB.out.trans (belowK_b (w := w) (Nat.le_refl _) W D _ _ (by omega) hK rfl rfl)⟩
    rw [World.putObj_heap_other (by omega), HR.out]
    congr 2
    unfold valsN
    rw [bkN_vals ks hn ks.length (Nat.le_refl _), List.take_of_length_le (by simp)]
    rw [mkB_congr (s' := ovB chans t ks) fun j _ => by simp [ovB]]
  case stop =>
    rintro D c pre W _ _ h _
    exact h.elim
end Go.Proofs.YtglafbajbiengaaGreat
