/- What the laws of this seat stand on, part 18. -/
import Derived.Test.YtglafbajbiengaaGreatPa0
import Derived.Test.YtglafbajbiengaaGreatPa16
set_option linter.unusedVariables false
set_option linter.unusedSimpArgs false
set_option maxRecDepth 100000
set_option maxHeartbeats 40000000
namespace Go.Proofs.YtglafbajbiengaaGreat
open Go.ChangeShapes Go.WideShapes Go.ChangeAt Go.RowKit Go.Maps
section
variable {X : Nat → Prop} {chans : List Int} {R : Array Value} {base g0 gm : Nat} {ks : List (Int × Int)} {A B : Nat → List Nat} {G : Nat → Nat} {seen : List Bool} {st : List Nat} {fv : Nat → Value} {rv sv : Value} {u u' : World}
theorem WkGo.toX {Z' : Nat → Prop} (go : WkGo (Wb g0 gm fv rv sv) Z' u u') (h : WkIn X chans R base g0 gm ks A B G seen st fv rv sv u) : Touch X u u' := go.touch.mono fun g _ q => h.inX g (h.lt q).2 q
theorem WkGo.keep {Z Z' : Nat → Prop} (go : WkGo Z Z' u u') {b : Nat} {x : Obj} (hz : ¬ Z b) (hh : u.heap[b]? = some x) : u'.heap[b]? = some x ∧ ¬ Z' b := by
  have hlt := (Array.getElem?_eq_some_iff.1 hh).1
  exact ⟨(go.touch.block b hlt hz).trans hh, fun q => (go.grow b q).elim hz fun h => by omega⟩
theorem WkIn.new (h : WkIn X chans R base g0 gm ks A B G seen st fv rv sv u) : ¬ Wb g0 gm fv rv sv u.heap.size := fun q => Nat.lt_irrefl _ (h.lt q).1
theorem WkIn.pushA (h : WkIn X chans R base g0 gm ks A B G seen st fv rv sv u) {k i : Nat} (hk : k < ks.length) {gr cap : Nat} (e : rv = .slice (some ⟨gr, 0, none⟩) ks.length cap) {v : Value} (T : Touch (fun q => (fv (1 + 2 * k)).ownBlock = some q) u u') (ho : u'.ownsRow base 3 1 v ((A k).length + 1) ((ofN (A k)).map (.int .i64 ·) ++ [.int .i64 i])) (hw : Whr u v (fv (1 + 2 * k))) :
    WkIn X chans R base g0 gm ks (updF A k (A k ++ [i])) B G seen st (updF fv (1 + 2 * k) v) rv sv (u'.setCell ⟨gr, k * 3, none⟩ v) ∧ WkGo (Wb g0 gm fv rv sv) (Wb g0 gm (updF fv (1 + 2 * k) v) rv sv) u (u'.setCell ⟨gr, k * 3, none⟩ v) :=
  h.push (j := 0) hk (by omega) e (l := A k ++ [i]) (flW_A ..) (fun i' hi => ⟨updF_ne _ _ hi, rfl⟩) T (by simpa [ofN] using ho) hw
theorem WkIn.pushB (h : WkIn X chans R base g0 gm ks A B G seen st fv rv sv u) {k i : Nat} (hk : k < ks.length) {gr cap : Nat} (e : rv = .slice (some ⟨gr, 0, none⟩) ks.length cap) {v : Value} (T : Touch (fun q => (fv (2 + 2 * k)).ownBlock = some q) u u') (ho : u'.ownsRow base 3 1 v ((B k).length + 1) ((ofN (B k)).map (.int .i64 ·) ++ [.int .i64 i])) (hw : Whr u v (fv (2 + 2 * k))) :
    WkIn X chans R base g0 gm ks A (updF B k (B k ++ [i])) G seen st (updF fv (2 + 2 * k) v) rv sv (u'.setCell ⟨gr, k * 3 + 1, none⟩ v) ∧ WkGo (Wb g0 gm fv rv sv) (Wb g0 gm (updF fv (2 + 2 * k) v) rv sv) u (u'.setCell ⟨gr, k * 3 + 1, none⟩ v) :=
  h.push (j := 1) hk (by omega) e (l := B k ++ [i]) (flW_B ..) (fun i' hi => ⟨rfl, updF_ne _ _ hi⟩) T (by simpa [ofN] using ho) hw
/-- A thing's rows of places, as rows of the call's own. -/
theorem WkIn.own (h : WkIn X chans R base g0 gm ks A B G seen st fv rv sv u) (k : Nat) : (∃ a cap, fv (1 + 2 * k) = .slice a (A k).length cap ∧ u.ownsRow base 3 1 (.slice a (A k).length cap) (A k).length ((ofN (A k)).map (.int .i64 ·))) ∧ ∃ a cap, fv (2 + 2 * k) = .slice a (B k).length cap ∧ u.ownsRow base 3 1 (.slice a (B k).length cap) (B k).length ((ofN (B k)).map (.int .i64 ·)) := by
  obtain ⟨⟨a, cap, h1, _⟩, b, cap', k1, _⟩ := h.lists k
  have q1 := h.fam.row (1 + 2 * k)
  have q2 := h.fam.row (2 + 2 * k)
  rw [flW_a, ofN_len, h1] at q1
  rw [flW_b, ofN_len, k1] at q2
  exact ⟨⟨a, cap, h1, q1⟩, b, cap', k1, q2⟩
end
theorem cell_one_i (w : World) (v : Value) (t : TypeId) : ∀ j u, [v][j]? = some u → (w.alloc (.cells #[v] t)).cell? ((⟨w.heap.size, 0, none⟩ : Addr).add j) = some u := by
  intro j u hj
  rw [Addr.add_mid, Nat.zero_add, cell_of_row _ _ _ _ _ _ (heap_alloc_new _ _)]
  simpa using hj
/-- So many rules have been gone through. -/
def fQ (i q m : Nat) : Nat := if m < q then i + 1 else i
theorem fQ_next (i q : Nat) : updF (fQ i q) q (i + 1) = fQ i (q + 1) := by
  funext m
  unfold fQ updF
  by_cases e : m = q
  · subst e; rw [if_pos rfl, if_pos (by omega)]
  · rw [if_neg e]
    show (if m < q then i + 1 else i) = _
    by_cases h : m < q
    · rw [if_pos h, if_pos (by omega)]
    · rw [if_neg h, if_neg (by omega)]
theorem fQ_at (i q : Nat) : fQ i q q = i := by simp [fQ]
def NoteI (X : Nat → Prop) (chans : List Int) (R : Array Value) (base g0 gm : Nat) (G : Nat → Nat) (seen : List Bool) (st : List Nat) (sv : Value) (t : List EvD) (i n0 : Nat) (u0 : World) (Z0 : Nat → Prop) (bE : Nat) (o : Obj) (q : Nat) (w : World) : Prop :=
  ∃ ks A B fv rv, WkIn X chans R base g0 gm ks A B G seen st fv rv sv w ∧ RowsOk chans t (fQ i q) (fQ i q) ks A B ∧ WkGo Z0 (Wb g0 gm fv rv sv) u0 w ∧ w.heap[bE]? = some o ∧ ¬ Wb g0 gm fv rv sv bE ∧ ks.length ≤ n0 + 2 * q
def NoteE (X : Nat → Prop) (chans : List Int) (R : Array Value) (base g0 gm : Nat) (G : Nat → Nat) (seen : List Bool) (st : List Nat) (sv : Value) (t : List EvD) (i n0 : Nat) (u0 : World) (Z0 : Nat → Prop) (e : Ending) (w : World) : Prop :=
  e = .returned (.tuple #[]) ∧ ∃ ks A B fv rv, WkIn X chans R base g0 gm ks A B G seen st fv rv sv w ∧ RowsOk chans t (fun _ => i + 1) (fun _ => i + 1) ks A B ∧ WkGo Z0 (Wb g0 gm fv rv sv) u0 w ∧ ks.length ≤ n0 + 20
def evOn (th pc op obj val mode : Int) : Obj := .cells #[.int .i64 th, .int .i64 pc, .int .u8 op, .int .i64 obj, .int .i64 val, .int .i64 mode] 31
theorem note_any {X : Nat → Prop} {chans : List Int} {R : Array Value} {base g0 gm : Nat} {ks : List (Int × Int)} {A B : Nat → List Nat} {G : Nat → Nat} {seen : List Bool} {st : List Nat} {fv : Nat → Value} {rv sv : Value} {u : World} (h : WkIn X chans R base g0 gm ks A B G seen st fv rv sv u) {t : List EvD} {i : Nat} {e : EvD} (hR : RowsOk chans t (fun _ => i) (fun _ => i) ks A B) (he : t[i]? = some e) (hW : EvW e) (hl : ks.length ≤ 100000) (htl : t.length ≤ 100000) :
    Calls Tryz.prog 84 #[.pointer (some ⟨g0, 0, none⟩), .int .i64 i, e.v] u (NoteE X chans R base g0 gm G seen st sv t i ks.length u (Wb g0 gm fv rv sv)) := by
  obtain ⟨ti, hi0, iz0, iz1, iz2⟩ := info_parts info_intT
  have HK := Lib.hid h
  have HR0 := Lib.hid hR
  have HE := Lib.hid he
  have HW := Lib.hid hW
  clear h hR he hW
  obtain ⟨th, pc, op, obj, val, mode⟩ := e
  show Calls Tryz.prog 84 #[.pointer (some ⟨g0, 0, none⟩), .int .i64 i, evV th pc op obj val mode] u _
  go_enter Tryz.func84, Tryz.ntmps84
  go_upto_region 1 with (fail)
  generalize hU : World.alloc u _ = U
  have HNE : Hid (U.heap[u.heap.size]? = some (evOn th pc op obj val mode)) := Lib.hid (by rw [← hU]; exact heap_alloc_new _ _)
  have HU := Lib.hid (show Below u.heap.size u U by rw [← hU]; exact below_box _ _)
  have HI : Hid (NoteI X chans R base g0 gm G seen st sv t i ks.length u (Wb g0 gm fv rv sv) u.heap.size (evOn th pc op obj val mode) 0 U) := Lib.hid ⟨ks, A, B, fv, rv, HK.out.later HU.out, by rw [show fQ i 0 = fun _ => i by funext m; simp [fQ]]; exact HR0.out, (WkGo.refl _ u).below HU.out, HNE.out, HK.out.new, by omega⟩
  have HRs := HK.out.rules.size
  have hrange := (HK.out.later HU.out).range
  clear hU
  go_wp2_with (refine wpList_load_mid rfl 156 (.tmp 16) rfl g0 0 rfl R.toList _ hrange Tryz.underlying156 rfl (by rw [info_rules]; simp [HRs]) ?_)
  clear hrange
  go_loopw [18] (fun k w => ∃ q : Nat, q ≤ 10 ∧ k = .int .i64 q ∧ NoteI X chans R base g0 gm G seen st sv t i ks.length u (Wb g0 gm fv rv sv) u.heap.size (evOn th pc op obj val mode) q w) (fun k _ => 10 - (intOf k).toNat)
  case atStart => exact ⟨0, by omega, rfl, HI.out⟩
  case round =>
    obtain ⟨q, hq, rfl, ks1, A1, B1, fv1, rv1, hK, hR, hgo, hbE, hnE, hln⟩ := hrel
    have HI := Lib.hid hK
    have HRo := Lib.hid hR
    have HGo := Lib.hid hgo
    have HbE := Lib.hid hbE
    have HnE := Lib.hid hnE
    clear hK hR hgo hbE hnE HNE
    by_cases hlt : q < 10
    · obtain ⟨r, va, vb, vw, hr, hidx, hSa, hSb, hWw⟩ := rules_at HI.out.rules hlt
      have hone := (show va.oneCell' = true ∧ vb.oneCell' = true ∧ vw.oneCell' = true from ⟨side_one hSa, side_one hSb, wh_one hWw⟩)
      have hlt' : (q : Int) < 10 := by omega
      have hidx2 : ∀ (u : World), (Instr.index 156 (.agg R.toList.toArray) (.int .i64 q)).run Tryz.prog u = .ok (.agg #[va, vb, vw]) u := fun u => by rw [Array.toArray_toList]; exact hidx .i64 u
      obtain ⟨wfa, wfb⟩ := side_wf hr HW.out
      have HSb := Lib.hid hSb
      have HWw := Lib.hid hWw
      have HRr := Lib.hid hr
      have Hone := Lib.hid hone
      clear hSb hWw hr hone
      obtain ⟨fa, ca, rfl, hcfa, hSa⟩ := hSa
      have hA := fun w (hw : Below wr.heap.size wr w) => hSa w (Touch.of_below hw) ⟨th, pc, op, obj, val, mode⟩
      have Hwfq : Wf (q : Int) := WalkArith.wf_i64 (by omega)
      rcases hsa : r.a ⟨th, pc, op, obj, val, mode⟩ with ⟨xa, isa⟩
      rcases hsb : r.b ⟨th, pc, op, obj, val, mode⟩ with ⟨xb, isb⟩
      rw [hsa] at hA wfa
      rw [hsb] at wfb
      have HA := Lib.hid hA
      have HSA := Lib.hid hsa
      have HSB := Lib.hid hsb
      clear hA hSa hsa hsb
      rcases isa with _ | _
      · rcases hwh : r.wh with _ | wf
        · have HWN : Hid (r.wh = none) := Lib.hid hwh
          obtain rfl : vw = .nilFunc := by have := HWw.out; rw [hwh] at this; exact this
          clear hwh HWw
          have hnil : ∀ u : World, (binOp BinOp.eql 153 .nilFunc .nilFunc).run Tryz.prog u = .ok (.bool true) u := fun _ => by kernel_rfl
          go_upto_region 4 with (refine wpList_store_row rfl 155 (.tmp 7) (.tmp 21) rfl wr.heap.size #[.func (.func fa) #[] ca, vb, .nilFunc] rfl rfl 155 _ (heap_alloc_new _ _) info_rule rfl (by have := Hone.out; simp [this.1, this.2.1, this.2.2]) ?_)
          generalize hV : World.setRow (World.alloc wr _) _ _ = V
          have hNV : V.heap[wr.heap.size]? = some (.cells #[.func (.func fa) #[] ca, vb, .nilFunc] 155) := by rw [← hV]; exact setRow_heap _ _ _ _ _ _ (heap_alloc_new _ _)
          have HV := Lib.hid (show Below wr.heap.size wr V by rw [← hV]; exact below_row (below_box _ _) (Nat.le_refl _) _)
          obtain ⟨k0, k1, k2⟩ := box3 hNV
          have HNV := Lib.hid hNV
          clear hV hNV
          obtain ⟨e0, e1, e2, e3, e4, e5⟩ := cells6 (old_later HbE.out HV.out)
          go_upto_region 5 with (refine (HA.out _ HV.out).mono ?_; rintro e w1 ⟨rfl, hB1⟩; have HB1 := Lib.hid hB1; clear hB1)
          clear k0 k1 k2 e0 e1 e2 e3 e4 e5
          have HK1 := Lib.hid (HI.out.later (below_next HV.out HB1.out))
          have HG1 := Lib.hid (HGo.out.below (below_next HV.out HB1.out))
          have HNR := Lib.hid (old_later HNV.out HB1.out)
          have HbE1 := Lib.hid (old_later HbE.out (below_next HV.out HB1.out))
          have HnR : Hid (¬ Wb g0 gm fv1 rv1 sv wr.heap.size) := Lib.hid HI.out.new
          have HSb1 := Lib.hid (HSb.out.later (below_next HV.out HB1.out))
          clear HI HGo HV HB1 HNV HbE HSb HA
          go_upto_region 8 with (fail)
          have HR3 : Hid (RowsOk chans t (fQ i (q + 1)) (fQ i q) ks1 A1 B1) := Lib.hid (by
            rw [← fQ_next]
            exact HRo.out.nota HRr.out (fQ_at i q) HE.out (by rw [HSA.out]))
          have HG3 := HG1
          have HK3 := HK1
          have HNR3 := HNR
          have HnR3 := HnR
          have HbE3 := HbE1
          have HnE3 := HnE
          have HSb3 := HSb1
          clear HG1 HK1 HNR HnR HbE1 HnE HSb1 HRo
          obtain ⟨k0, k1, k2'⟩ := box3 HNR3.out
          go_wp2_with fail
          go_roundw
          case rel => exact ⟨q + 1, by omega, by go_num, ks1, A1, B1, fv1, rv1, HK3.out, (by have := HR3.out.nod HRr.out (fQ_at i q) HE.out (.inl HWN.out); rw [fQ_next] at this; exact this), HG3.out, HbE3.out, HnE3.out, by omega⟩
          case measure => simp [intOf]; omega
        · rcases isb with _ | _
          · have HWN : Hid (r.wh ≠ none) := Lib.hid (by rw [hwh]; simp)
            have hvw := HWw.out
            rw [hwh] at hvw
            obtain ⟨fw, cw, rfl, hcfw, hSw⟩ := hvw
            clear hwh HWw hSw
            have hnil : ∀ u : World, (binOp BinOp.eql 153 (.func (.func fw) #[] cw) .nilFunc).run Tryz.prog u = .ok (.bool false) u := fun _ => by kernel_rfl
            go_upto_region 4 with (refine wpList_store_row rfl 155 (.tmp 7) (.tmp 21) rfl wr.heap.size #[.func (.func fa) #[] ca, vb, .func (.func fw) #[] cw] rfl rfl 155 _ (heap_alloc_new _ _) info_rule rfl (by have := Hone.out; simp [this.1, this.2.1, this.2.2]) ?_)
            generalize hV : World.setRow (World.alloc wr _) _ _ = V
            have hNV : V.heap[wr.heap.size]? = some (.cells #[.func (.func fa) #[] ca, vb, .func (.func fw) #[] cw] 155) := by rw [← hV]; exact setRow_heap _ _ _ _ _ _ (heap_alloc_new _ _)
            have HV := Lib.hid (show Below wr.heap.size wr V by rw [← hV]; exact below_row (below_box _ _) (Nat.le_refl _) _)
            obtain ⟨k0, k1, k2⟩ := box3 hNV
            have HNV := Lib.hid hNV
            clear hV hNV
            obtain ⟨e0, e1, e2, e3, e4, e5⟩ := cells6 (old_later HbE.out HV.out)
            go_upto_region 5 with (refine (HA.out _ HV.out).mono ?_; rintro e w1 ⟨rfl, hB1⟩; have HB1 := Lib.hid hB1; clear hB1)
            clear k0 k1 k2 e0 e1 e2 e3 e4 e5
            have HK1 := Lib.hid (HI.out.later (below_next HV.out HB1.out))
            have HG1 := Lib.hid (HGo.out.below (below_next HV.out HB1.out))
            have HNR := Lib.hid (old_later HNV.out HB1.out)
            have HbE1 := Lib.hid (old_later HbE.out (below_next HV.out HB1.out))
            have HnR : Hid (¬ Wb g0 gm fv1 rv1 sv wr.heap.size) := Lib.hid HI.out.new
            have HSb1 := Lib.hid (HSb.out.later (below_next HV.out HB1.out))
            clear HI HGo HV HB1 HNV HbE HSb HA
            go_upto_region 8 with (fail)
            have HR3 : Hid (RowsOk chans t (fQ i (q + 1)) (fQ i q) ks1 A1 B1) := Lib.hid (by
              rw [← fQ_next]
              exact HRo.out.nota HRr.out (fQ_at i q) HE.out (by rw [HSA.out]))
            have HG3 := HG1
            have HK3 := HK1
            have HNR3 := HNR
            have HnR3 := HnR
            have HbE3 := HbE1
            have HnE3 := HnE
            have HSb3 := HSb1
            clear HG1 HK1 HNR HnR HbE1 HnE HSb1 HRo
            obtain ⟨k0, k1, k2'⟩ := box3 HNR3.out
            go_upto_region 9 with (fail)
            obtain ⟨e0, e1, e2, e3, e4, e5⟩ := cells6 HbE3.out
            obtain ⟨fb, cb, rfl, hcfb, hSb⟩ := HSb3.out
            have HB := Lib.hid (hSb w1 (Touch.of_below (Below.refl _ _)) ⟨th, pc, op, obj, val, mode⟩)
            rw [HSB.out] at HB
            clear hSb
            go_upto_region 10 with (refine HB.out.mono ?_; rintro e w6 ⟨rfl, hB6⟩; have HB6 := Lib.hid hB6; clear hB6)
            clear k0 k1 k2' e0 e1 e2 e3 e4 e5
            have HK6 := Lib.hid (HK3.out.later HB6.out)
            have HG6 := Lib.hid (HG3.out.below HB6.out)
            have HbE6 := Lib.hid (old_later HbE3.out HB6.out)
            clear HK3 HG3 HbE3 HB HB6 HNR3 HnR3
            go_wp2_with fail
            go_roundw
            case rel => exact ⟨q + 1, by omega, by go_num, ks1, A1, B1, fv1, rv1, HK6.out, (by have := HR3.out.nod HRr.out (fQ_at i q) HE.out (.inr (by rw [HSB.out])); rw [fQ_next] at this; exact this), HG6.out, HbE6.out, HnE3.out, by omega⟩
            case measure => simp [intOf]; omega
          · have HWN : Hid (r.wh ≠ none) := Lib.hid (by rw [hwh]; simp)
            have hvw := HWw.out
            rw [hwh] at hvw
            obtain ⟨fw, cw, rfl, hcfw, hSw⟩ := hvw
            clear hwh HWw hSw
            have hnil : ∀ u : World, (binOp BinOp.eql 153 (.func (.func fw) #[] cw) .nilFunc).run Tryz.prog u = .ok (.bool false) u := fun _ => by kernel_rfl
            go_upto_region 4 with (refine wpList_store_row rfl 155 (.tmp 7) (.tmp 21) rfl wr.heap.size #[.func (.func fa) #[] ca, vb, .func (.func fw) #[] cw] rfl rfl 155 _ (heap_alloc_new _ _) info_rule rfl (by have := Hone.out; simp [this.1, this.2.1, this.2.2]) ?_)
            generalize hV : World.setRow (World.alloc wr _) _ _ = V
            have hNV : V.heap[wr.heap.size]? = some (.cells #[.func (.func fa) #[] ca, vb, .func (.func fw) #[] cw] 155) := by rw [← hV]; exact setRow_heap _ _ _ _ _ _ (heap_alloc_new _ _)
            have HV := Lib.hid (show Below wr.heap.size wr V by rw [← hV]; exact below_row (below_box _ _) (Nat.le_refl _) _)
            obtain ⟨k0, k1, k2⟩ := box3 hNV
            have HNV := Lib.hid hNV
            clear hV hNV
            obtain ⟨e0, e1, e2, e3, e4, e5⟩ := cells6 (old_later HbE.out HV.out)
            go_upto_region 5 with (refine (HA.out _ HV.out).mono ?_; rintro e w1 ⟨rfl, hB1⟩; have HB1 := Lib.hid hB1; clear hB1)
            clear k0 k1 k2 e0 e1 e2 e3 e4 e5
            have HK1 := Lib.hid (HI.out.later (below_next HV.out HB1.out))
            have HG1 := Lib.hid (HGo.out.below (below_next HV.out HB1.out))
            have HNR := Lib.hid (old_later HNV.out HB1.out)
            have HbE1 := Lib.hid (old_later HbE.out (below_next HV.out HB1.out))
            have HnR : Hid (¬ Wb g0 gm fv1 rv1 sv wr.heap.size) := Lib.hid HI.out.new
            have HSb1 := Lib.hid (HSb.out.later (below_next HV.out HB1.out))
            clear HI HGo HV HB1 HNV HbE HSb HA
            go_upto_region 8 with (fail)
            have HR3 : Hid (RowsOk chans t (fQ i (q + 1)) (fQ i q) ks1 A1 B1) := Lib.hid (by
              rw [← fQ_next]
              exact HRo.out.nota HRr.out (fQ_at i q) HE.out (by rw [HSA.out]))
            have HG3 := HG1
            have HK3 := HK1
            have HNR3 := HNR
            have HnR3 := HnR
            have HbE3 := HbE1
            have HnE3 := HnE
            have HSb3 := HSb1
            clear HG1 HK1 HNR HnR HbE1 HnE HSb1 HRo
            obtain ⟨k0, k1, k2'⟩ := box3 HNR3.out
            go_upto_region 9 with (fail)
            obtain ⟨e0, e1, e2, e3, e4, e5⟩ := cells6 HbE3.out
            obtain ⟨fb, cb, rfl, hcfb, hSb⟩ := HSb3.out
            have HB := Lib.hid (hSb w1 (Touch.of_below (Below.refl _ _)) ⟨th, pc, op, obj, val, mode⟩)
            rw [HSB.out] at HB
            clear hSb
            go_upto_region 10 with (refine HB.out.mono ?_; rintro e w6 ⟨rfl, hB6⟩; have HB6 := Lib.hid hB6; clear hB6)
            clear k0 k1 k2' e0 e1 e2 e3 e4 e5
            have HK6 := Lib.hid (HK3.out.later HB6.out)
            have HG6 := Lib.hid (HG3.out.below HB6.out)
            have HbE6 := Lib.hid (old_later HbE3.out HB6.out)
            clear HK3 HG3 HbE3 HB HB6 HNR3 HnR3
            go_upto_region 13 with (first
              | (go_at_call 115; refine (row_any HK6.out Hwfq wfb (by omega)).mono ?_; rintro e w7 ⟨ks7, rv7, k7, gr, cap7, rfl, hks, hk7, hrv7, hK7, hgo7⟩
                 have HRr7 : Hid (RowsOk chans t (fQ i (q + 1)) (fQ i q) ks7 A1 B1) := Lib.hid (by
                   rcases hks with rfl | ⟨hni, rfl⟩
                   · exact HR3.out
                   · exact HR3.out.row HRr.out hni (HK6.out.nil _ (Nat.le_refl _)).2.2.1 (HK6.out.nil _ (Nat.le_refl _)).2.2.2.1)
                 have hln7 : ks7.length ≤ ks.length + 2 * q + 2 := by
                   rcases hks with rfl | ⟨hni, rfl⟩
                   · omega
                   · simp; omega
                 have hkl7 := (List.getElem?_eq_some_iff.1 hk7).1
                 obtain ⟨oa, ob⟩ := hK7.own k7
                 obtain ⟨aa, ac, hfv, hown⟩ := ob
                 obtain ⟨gr', cap', hrv', hgrl, c0, c1, _, cf⟩ := hK7.row hkl7
                 rw [hrv7] at hrv'; cases hrv'
                 have cc := c1
                 rw [hfv] at cc
                 have HCC := Lib.hid cc
                 have HCF := Lib.hid (cf)
                 have hlen := (HRr7.out.lens HRr.out hk7).2 HWN.out
                 have HK7 := Lib.hid hK7
                 have HGO7 := Lib.hid hgo7
                 have Hk7 := Lib.hid hk7
                 have HRV7 := Lib.hid hrv7
                 have HFV := Lib.hid hfv
                 have HOW := Lib.hid hown
                 have HGR := Lib.hid hgrl
                 have hbs : base ≤ w7.heap.size := hK7.fam.top
                 clear hK7 hgo7 hk7 hrv7 hfv hown hks oa c0 c1 cf)
              | (at_builtin; refine wpList_append_own_at _ rfl _ _ 23 rfl base 3 ti (.int .i64 0) 1 8 Tryz.underlying23 hi0 iz0 iz1 iz2 rfl (by decide) (.slice aa (B1 k7).length ac) (B1 k7).length ((ofN (B1 k7)).map (.int .i64 ·)) rfl (own_later HOW.out (below_box w7 _)) ⟨w7.heap.size, 0, none⟩ 1 1 [.int .i64 i] rfl rfl (cell_one_i w7 _ _) (by simp [Value.oneCell']) (by unfold maxLen; omega) (by omega) (by simp; omega) ?_; intro v5 w5 hown5 hgrow5 _ hat5
                 have HT5 : Hid (Touch (fun g => (fv1 (2 + 2 * k7)).ownBlock = some g) w7 w5) := Lib.hid (by
                   rw [HFV.out]
                   exact (Touch.of_below (below_box w7 (.cells #[.int .i64 i] 3))).trans (Touch.grown (X := fun g => (Value.slice aa (B1 k7).length ac).ownBlock = some g) hgrow5 (fun k e => e)) (fun _ _ h => h))
                 have HW5 : Hid (Whr w7 v5 (fv1 (2 + 2 * k7))) := Lib.hid (by
                   rw [HFV.out]
                   rcases hat5 with z | z
                   · exact .inl z
                   · exact .inr (.inr ⟨_, z, by simp⟩))
                 have HO5 := Lib.hid hown5
                 obtain ⟨g5, cap5, rfl⟩ := own_slice hown5 (by omega)
                 have hbk : w5.heap[gr]? = w7.heap[gr]? := HT5.out.block gr HGR.out fun z => apart_ne (HK7.out.apR _) z (by rw [HRV7.out]; rfl)
                 have d0 := (World.cell?_of_block (a := ⟨gr, k7 * 3 + 1, none⟩) hbk).trans HCC.out
                 have df0 := (World.frozen?_of_block (a := ⟨gr, k7 * 3 + 1, none⟩) hbk).trans (HCF.out (k7 * 3 + 1))
                 clear hown5 hgrow5 hat5 hbk cc))
            generalize hW8 : World.setCell _ _ _ = W8
            have HP : Hid (WkIn X chans R base g0 gm ks7 A1 (updF B1 k7 (B1 k7 ++ [i])) G seen st (updF fv1 (2 + 2 * k7) (.slice (some ⟨g5, 0, none⟩) ((B1 k7).length + 1) cap5)) rv7 sv W8 ∧ WkGo (Wb g0 gm fv1 rv7 sv) (Wb g0 gm (updF fv1 (2 + 2 * k7) (.slice (some ⟨g5, 0, none⟩) ((B1 k7).length + 1) cap5)) rv7 sv) w7 W8) := Lib.hid (by rw [← hW8]; exact HK7.out.pushB (i := i) hkl7 HRV7.out HT5.out HO5.out HW5.out)
            have HR8 : Hid (RowsOk chans t (fQ i (q + 1)) (fQ i (q + 1)) ks7 A1 (updF B1 k7 (B1 k7 ++ [i]))) := Lib.hid (by
              have := HRr7.out.behind HK7.out.nodup HRr.out (fQ_at i q) HE.out HWN.out (by rw [HSB.out]) (by rw [HSB.out]; exact Hk7.out)
              rw [fQ_next] at this; exact this)
            have HG8 := Lib.hid ((HG6.out.trans HGO7.out).trans HP.out.2)
            have q3 := HGO7.out.keep HnE3.out HbE6.out
            have q4 := HP.out.2.keep q3.2 q3.1
            have HKE := Lib.hid q4
            clear q3 q4 hW8 d0 df0 HO5 HT5 HW5 HCC HCF HOW HFV HGR
            go_wp2_with fail
            go_roundw
            case rel => exact ⟨q + 1, by omega, by go_num, ks7, A1, updF B1 k7 (B1 k7 ++ [i]), _, rv7, HP.out.1, HR8.out, HG8.out, HKE.out.1, HKE.out.2, by omega⟩
            case measure => simp [intOf]; omega
      · rcases hwh : r.wh with _ | wf
        · have HWN : Hid (r.wh = none) := Lib.hid hwh
          obtain rfl : vw = .nilFunc := by have := HWw.out; rw [hwh] at this; exact this
          clear hwh HWw
          have hnil : ∀ u : World, (binOp BinOp.eql 153 .nilFunc .nilFunc).run Tryz.prog u = .ok (.bool true) u := fun _ => by kernel_rfl
          go_upto_region 4 with (refine wpList_store_row rfl 155 (.tmp 7) (.tmp 21) rfl wr.heap.size #[.func (.func fa) #[] ca, vb, .nilFunc] rfl rfl 155 _ (heap_alloc_new _ _) info_rule rfl (by have := Hone.out; simp [this.1, this.2.1, this.2.2]) ?_)
          generalize hV : World.setRow (World.alloc wr _) _ _ = V
          have hNV : V.heap[wr.heap.size]? = some (.cells #[.func (.func fa) #[] ca, vb, .nilFunc] 155) := by rw [← hV]; exact setRow_heap _ _ _ _ _ _ (heap_alloc_new _ _)
          have HV := Lib.hid (show Below wr.heap.size wr V by rw [← hV]; exact below_row (below_box _ _) (Nat.le_refl _) _)
          obtain ⟨k0, k1, k2⟩ := box3 hNV
          have HNV := Lib.hid hNV
          clear hV hNV
          obtain ⟨e0, e1, e2, e3, e4, e5⟩ := cells6 (old_later HbE.out HV.out)
          go_upto_region 5 with (refine (HA.out _ HV.out).mono ?_; rintro e w1 ⟨rfl, hB1⟩; have HB1 := Lib.hid hB1; clear hB1)
          clear k0 k1 k2 e0 e1 e2 e3 e4 e5
          have HK1 := Lib.hid (HI.out.later (below_next HV.out HB1.out))
          have HG1 := Lib.hid (HGo.out.below (below_next HV.out HB1.out))
          have HNR := Lib.hid (old_later HNV.out HB1.out)
          have HbE1 := Lib.hid (old_later HbE.out (below_next HV.out HB1.out))
          have HnR : Hid (¬ Wb g0 gm fv1 rv1 sv wr.heap.size) := Lib.hid HI.out.new
          have HSb1 := Lib.hid (HSb.out.later (below_next HV.out HB1.out))
          clear HI HGo HV HB1 HNV HbE HSb HA
          go_upto_region 8 with (first
            | (go_at_call 115; refine (row_any HK1.out Hwfq wfa (by omega)).mono ?_; rintro e w2 ⟨ks2, rv2, k2, gr, cap2, rfl, hks, hk2, hrv2, hK2, hgo2⟩
               have HRr2 : Hid (RowsOk chans t (fQ i q) (fQ i q) ks2 A1 B1) := Lib.hid (by
                 rcases hks with rfl | ⟨hni, rfl⟩
                 · exact HRo.out
                 · exact HRo.out.row HRr.out hni (HK1.out.nil _ (Nat.le_refl _)).2.2.1 (HK1.out.nil _ (Nat.le_refl _)).2.2.2.1)
               have hln2 : ks2.length ≤ ks.length + 2 * q + 1 := by
                 rcases hks with rfl | ⟨hni, rfl⟩
                 · omega
                 · simp; omega
               have hkl2 := (List.getElem?_eq_some_iff.1 hk2).1
               obtain ⟨oa, ob⟩ := hK2.own k2
               obtain ⟨aa, ac, hfv, hown⟩ := oa
               obtain ⟨gr', cap', hrv', hgrl, c0, c1, _, cf⟩ := hK2.row hkl2
               rw [hrv2] at hrv'; cases hrv'
               have cc := c0
               rw [hfv] at cc
               have HCC := Lib.hid cc
               have HCF := Lib.hid (cf)
               have hlen := (HRr2.out.lens HRr.out hk2).1
               have HK2 := Lib.hid hK2
               have HGO2 := Lib.hid hgo2
               have Hk2 := Lib.hid hk2
               have HRV2 := Lib.hid hrv2
               have HFV := Lib.hid hfv
               have HOW := Lib.hid hown
               have HGR := Lib.hid hgrl
               have hbs : base ≤ w2.heap.size := hK2.fam.top
               clear hK2 hgo2 hk2 hrv2 hfv hown hks ob c0 c1 cf)
            | (at_builtin; refine wpList_append_own_at _ rfl _ _ 23 rfl base 3 ti (.int .i64 0) 1 8 Tryz.underlying23 hi0 iz0 iz1 iz2 rfl (by decide) (.slice aa (A1 k2).length ac) (A1 k2).length ((ofN (A1 k2)).map (.int .i64 ·)) rfl (own_later HOW.out (below_box w2 _)) ⟨w2.heap.size, 0, none⟩ 1 1 [.int .i64 i] rfl rfl (cell_one_i w2 _ _) (by simp [Value.oneCell']) (by unfold maxLen; omega) (by omega) (by simp; omega) ?_; intro v5 w5 hown5 hgrow5 _ hat5
               have HT5 : Hid (Touch (fun g => (fv1 (1 + 2 * k2)).ownBlock = some g) w2 w5) := Lib.hid (by
                 rw [HFV.out]
                 exact (Touch.of_below (below_box w2 (.cells #[.int .i64 i] 3))).trans (Touch.grown (X := fun g => (Value.slice aa (A1 k2).length ac).ownBlock = some g) hgrow5 (fun k e => e)) (fun _ _ h => h))
               have HW5 : Hid (Whr w2 v5 (fv1 (1 + 2 * k2))) := Lib.hid (by
                 rw [HFV.out]
                 rcases hat5 with z | z
                 · exact .inl z
                 · exact .inr (.inr ⟨_, z, by simp⟩))
               have HO5 := Lib.hid hown5
               obtain ⟨g5, cap5, rfl⟩ := own_slice hown5 (by omega)
               have hbk : w5.heap[gr]? = w2.heap[gr]? := HT5.out.block gr HGR.out fun z => apart_ne (HK2.out.apR _) z (by rw [HRV2.out]; rfl)
               have d0 := (World.cell?_of_block (a := ⟨gr, k2 * 3, none⟩) hbk).trans HCC.out
               have df0 := (World.frozen?_of_block (a := ⟨gr, k2 * 3, none⟩) hbk).trans (HCF.out (k2 * 3))
               clear hown5 hgrow5 hat5 hbk cc))
          generalize hW3 : World.setCell _ _ _ = W3
          have HP : Hid (WkIn X chans R base g0 gm ks2 (updF A1 k2 (A1 k2 ++ [i])) B1 G seen st (updF fv1 (1 + 2 * k2) (.slice (some ⟨g5, 0, none⟩) ((A1 k2).length + 1) cap5)) rv2 sv W3 ∧ WkGo (Wb g0 gm fv1 rv2 sv) (Wb g0 gm (updF fv1 (1 + 2 * k2) (.slice (some ⟨g5, 0, none⟩) ((A1 k2).length + 1) cap5)) rv2 sv) w2 W3) := Lib.hid (by rw [← hW3]; exact HK2.out.pushA (i := i) hkl2 HRV2.out HT5.out HO5.out HW5.out)
          have HR3 : Hid (RowsOk chans t (fQ i (q + 1)) (fQ i q) ks2 (updF A1 k2 (A1 k2 ++ [i])) B1) := Lib.hid (by
            rw [← fQ_next]
            exact HRr2.out.ahead HK2.out.nodup HRr.out (fQ_at i q) HE.out (by rw [HSA.out]) (by rw [HSA.out]; exact Hk2.out))
          have HG3 := Lib.hid ((HG1.out.trans HGO2.out).trans HP.out.2)
          have HK3 := Lib.hid HP.out.1
          have HRoo := HNR.out
          have q1 := HGO2.out.keep HnR.out HNR.out
          have q2 := HP.out.2.keep q1.2 q1.1
          have q3 := HGO2.out.keep HnE.out HbE1.out
          have q4 := HP.out.2.keep q3.2 q3.1
          have HNR3 := Lib.hid q2.1
          have HnR3 := Lib.hid q2.2
          have HbE3 := Lib.hid q4.1
          have HnE3 := Lib.hid q4.2
          have HSb3 := Lib.hid (HSb1.out.touch (((HGO2.out.trans HP.out.2).toX HK1.out)))
          clear q1 q2 q3 q4 HRoo HP hW3 d0 df0 HO5 HT5 HW5 HCC HCF HOW HFV HGR HK2 HGO2 HNR HnR HbE1 HnE HSb1 HK1 HG1 Hk2 HRV2 HRo HRr2
          generalize hAA : updF A1 k2 (A1 k2 ++ [i]) = A3 at *
          generalize hFF : updF fv1 (1 + 2 * k2) (.slice (some ⟨g5, 0, none⟩) ((A1 k2).length + 1) cap5) = fv3 at *
          clear hAA hFF
          obtain ⟨k0, k1, k2'⟩ := box3 HNR3.out
          go_wp2_with fail
          go_roundw
          case rel => exact ⟨q + 1, by omega, by go_num, ks2, A3, B1, fv3, rv2, HK3.out, (by have := HR3.out.nod HRr.out (fQ_at i q) HE.out (.inl HWN.out); rw [fQ_next] at this; exact this), HG3.out, HbE3.out, HnE3.out, by omega⟩
          case measure => simp [intOf]; omega
        · rcases isb with _ | _
          · have HWN : Hid (r.wh ≠ none) := Lib.hid (by rw [hwh]; simp)
            have hvw := HWw.out
            rw [hwh] at hvw
            obtain ⟨fw, cw, rfl, hcfw, hSw⟩ := hvw
            clear hwh HWw hSw
            have hnil : ∀ u : World, (binOp BinOp.eql 153 (.func (.func fw) #[] cw) .nilFunc).run Tryz.prog u = .ok (.bool false) u := fun _ => by kernel_rfl
            go_upto_region 4 with (refine wpList_store_row rfl 155 (.tmp 7) (.tmp 21) rfl wr.heap.size #[.func (.func fa) #[] ca, vb, .func (.func fw) #[] cw] rfl rfl 155 _ (heap_alloc_new _ _) info_rule rfl (by have := Hone.out; simp [this.1, this.2.1, this.2.2]) ?_)
            generalize hV : World.setRow (World.alloc wr _) _ _ = V
            have hNV : V.heap[wr.heap.size]? = some (.cells #[.func (.func fa) #[] ca, vb, .func (.func fw) #[] cw] 155) := by rw [← hV]; exact setRow_heap _ _ _ _ _ _ (heap_alloc_new _ _)
            have HV := Lib.hid (show Below wr.heap.size wr V by rw [← hV]; exact below_row (below_box _ _) (Nat.le_refl _) _)
            obtain ⟨k0, k1, k2⟩ := box3 hNV
            have HNV := Lib.hid hNV
            clear hV hNV
            obtain ⟨e0, e1, e2, e3, e4, e5⟩ := cells6 (old_later HbE.out HV.out)
            go_upto_region 5 with (refine (HA.out _ HV.out).mono ?_; rintro e w1 ⟨rfl, hB1⟩; have HB1 := Lib.hid hB1; clear hB1)
            clear k0 k1 k2 e0 e1 e2 e3 e4 e5
            have HK1 := Lib.hid (HI.out.later (below_next HV.out HB1.out))
            have HG1 := Lib.hid (HGo.out.below (below_next HV.out HB1.out))
            have HNR := Lib.hid (old_later HNV.out HB1.out)
            have HbE1 := Lib.hid (old_later HbE.out (below_next HV.out HB1.out))
            have HnR : Hid (¬ Wb g0 gm fv1 rv1 sv wr.heap.size) := Lib.hid HI.out.new
            have HSb1 := Lib.hid (HSb.out.later (below_next HV.out HB1.out))
            clear HI HGo HV HB1 HNV HbE HSb HA
            go_upto_region 8 with (first
              | (go_at_call 115; refine (row_any HK1.out Hwfq wfa (by omega)).mono ?_; rintro e w2 ⟨ks2, rv2, k2, gr, cap2, rfl, hks, hk2, hrv2, hK2, hgo2⟩
                 have HRr2 : Hid (RowsOk chans t (fQ i q) (fQ i q) ks2 A1 B1) := Lib.hid (by
                   rcases hks with rfl | ⟨hni, rfl⟩
                   · exact HRo.out
                   · exact HRo.out.row HRr.out hni (HK1.out.nil _ (Nat.le_refl _)).2.2.1 (HK1.out.nil _ (Nat.le_refl _)).2.2.2.1)
                 have hln2 : ks2.length ≤ ks.length + 2 * q + 1 := by
                   rcases hks with rfl | ⟨hni, rfl⟩
                   · omega
                   · simp; omega
                 have hkl2 := (List.getElem?_eq_some_iff.1 hk2).1
                 obtain ⟨oa, ob⟩ := hK2.own k2
                 obtain ⟨aa, ac, hfv, hown⟩ := oa
                 obtain ⟨gr', cap', hrv', hgrl, c0, c1, _, cf⟩ := hK2.row hkl2
                 rw [hrv2] at hrv'; cases hrv'
                 have cc := c0
                 rw [hfv] at cc
                 have HCC := Lib.hid cc
                 have HCF := Lib.hid (cf)
                 have hlen := (HRr2.out.lens HRr.out hk2).1
                 have HK2 := Lib.hid hK2
                 have HGO2 := Lib.hid hgo2
                 have Hk2 := Lib.hid hk2
                 have HRV2 := Lib.hid hrv2
                 have HFV := Lib.hid hfv
                 have HOW := Lib.hid hown
                 have HGR := Lib.hid hgrl
                 have hbs : base ≤ w2.heap.size := hK2.fam.top
                 clear hK2 hgo2 hk2 hrv2 hfv hown hks ob c0 c1 cf)
              | (at_builtin; refine wpList_append_own_at _ rfl _ _ 23 rfl base 3 ti (.int .i64 0) 1 8 Tryz.underlying23 hi0 iz0 iz1 iz2 rfl (by decide) (.slice aa (A1 k2).length ac) (A1 k2).length ((ofN (A1 k2)).map (.int .i64 ·)) rfl (own_later HOW.out (below_box w2 _)) ⟨w2.heap.size, 0, none⟩ 1 1 [.int .i64 i] rfl rfl (cell_one_i w2 _ _) (by simp [Value.oneCell']) (by unfold maxLen; omega) (by omega) (by simp; omega) ?_; intro v5 w5 hown5 hgrow5 _ hat5
                 have HT5 : Hid (Touch (fun g => (fv1 (1 + 2 * k2)).ownBlock = some g) w2 w5) := Lib.hid (by
                   rw [HFV.out]
                   exact (Touch.of_below (below_box w2 (.cells #[.int .i64 i] 3))).trans (Touch.grown (X := fun g => (Value.slice aa (A1 k2).length ac).ownBlock = some g) hgrow5 (fun k e => e)) (fun _ _ h => h))
                 have HW5 : Hid (Whr w2 v5 (fv1 (1 + 2 * k2))) := Lib.hid (by
                   rw [HFV.out]
                   rcases hat5 with z | z
                   · exact .inl z
                   · exact .inr (.inr ⟨_, z, by simp⟩))
                 have HO5 := Lib.hid hown5
                 obtain ⟨g5, cap5, rfl⟩ := own_slice hown5 (by omega)
                 have hbk : w5.heap[gr]? = w2.heap[gr]? := HT5.out.block gr HGR.out fun z => apart_ne (HK2.out.apR _) z (by rw [HRV2.out]; rfl)
                 have d0 := (World.cell?_of_block (a := ⟨gr, k2 * 3, none⟩) hbk).trans HCC.out
                 have df0 := (World.frozen?_of_block (a := ⟨gr, k2 * 3, none⟩) hbk).trans (HCF.out (k2 * 3))
                 clear hown5 hgrow5 hat5 hbk cc))
            generalize hW3 : World.setCell _ _ _ = W3
            have HP : Hid (WkIn X chans R base g0 gm ks2 (updF A1 k2 (A1 k2 ++ [i])) B1 G seen st (updF fv1 (1 + 2 * k2) (.slice (some ⟨g5, 0, none⟩) ((A1 k2).length + 1) cap5)) rv2 sv W3 ∧ WkGo (Wb g0 gm fv1 rv2 sv) (Wb g0 gm (updF fv1 (1 + 2 * k2) (.slice (some ⟨g5, 0, none⟩) ((A1 k2).length + 1) cap5)) rv2 sv) w2 W3) := Lib.hid (by rw [← hW3]; exact HK2.out.pushA (i := i) hkl2 HRV2.out HT5.out HO5.out HW5.out)
            have HR3 : Hid (RowsOk chans t (fQ i (q + 1)) (fQ i q) ks2 (updF A1 k2 (A1 k2 ++ [i])) B1) := Lib.hid (by
              rw [← fQ_next]
              exact HRr2.out.ahead HK2.out.nodup HRr.out (fQ_at i q) HE.out (by rw [HSA.out]) (by rw [HSA.out]; exact Hk2.out))
            have HG3 := Lib.hid ((HG1.out.trans HGO2.out).trans HP.out.2)
            have HK3 := Lib.hid HP.out.1
            have HRoo := HNR.out
            have q1 := HGO2.out.keep HnR.out HNR.out
            have q2 := HP.out.2.keep q1.2 q1.1
            have q3 := HGO2.out.keep HnE.out HbE1.out
            have q4 := HP.out.2.keep q3.2 q3.1
            have HNR3 := Lib.hid q2.1
            have HnR3 := Lib.hid q2.2
            have HbE3 := Lib.hid q4.1
            have HnE3 := Lib.hid q4.2
            have HSb3 := Lib.hid (HSb1.out.touch (((HGO2.out.trans HP.out.2).toX HK1.out)))
            clear q1 q2 q3 q4 HRoo HP hW3 d0 df0 HO5 HT5 HW5 HCC HCF HOW HFV HGR HK2 HGO2 HNR HnR HbE1 HnE HSb1 HK1 HG1 Hk2 HRV2 HRo HRr2
            generalize hAA : updF A1 k2 (A1 k2 ++ [i]) = A3 at *
            generalize hFF : updF fv1 (1 + 2 * k2) (.slice (some ⟨g5, 0, none⟩) ((A1 k2).length + 1) cap5) = fv3 at *
            clear hAA hFF
            obtain ⟨k0, k1, k2'⟩ := box3 HNR3.out
            go_upto_region 9 with (fail)
            obtain ⟨e0, e1, e2, e3, e4, e5⟩ := cells6 HbE3.out
            obtain ⟨fb, cb, rfl, hcfb, hSb⟩ := HSb3.out
            have HB := Lib.hid (hSb W3 (Touch.of_below (Below.refl _ _)) ⟨th, pc, op, obj, val, mode⟩)
            rw [HSB.out] at HB
            clear hSb
            go_upto_region 10 with (refine HB.out.mono ?_; rintro e w6 ⟨rfl, hB6⟩; have HB6 := Lib.hid hB6; clear hB6)
            clear k0 k1 k2' e0 e1 e2 e3 e4 e5
            have HK6 := Lib.hid (HK3.out.later HB6.out)
            have HG6 := Lib.hid (HG3.out.below HB6.out)
            have HbE6 := Lib.hid (old_later HbE3.out HB6.out)
            clear HK3 HG3 HbE3 HB HB6 HNR3 HnR3
            go_wp2_with fail
            go_roundw
            case rel => exact ⟨q + 1, by omega, by go_num, ks2, A3, B1, fv3, rv2, HK6.out, (by have := HR3.out.nod HRr.out (fQ_at i q) HE.out (.inr (by rw [HSB.out])); rw [fQ_next] at this; exact this), HG6.out, HbE6.out, HnE3.out, by omega⟩
            case measure => simp [intOf]; omega
          · have HWN : Hid (r.wh ≠ none) := Lib.hid (by rw [hwh]; simp)
            have hvw := HWw.out
            rw [hwh] at hvw
            obtain ⟨fw, cw, rfl, hcfw, hSw⟩ := hvw
            clear hwh HWw hSw
            have hnil : ∀ u : World, (binOp BinOp.eql 153 (.func (.func fw) #[] cw) .nilFunc).run Tryz.prog u = .ok (.bool false) u := fun _ => by kernel_rfl
            go_upto_region 4 with (refine wpList_store_row rfl 155 (.tmp 7) (.tmp 21) rfl wr.heap.size #[.func (.func fa) #[] ca, vb, .func (.func fw) #[] cw] rfl rfl 155 _ (heap_alloc_new _ _) info_rule rfl (by have := Hone.out; simp [this.1, this.2.1, this.2.2]) ?_)
            generalize hV : World.setRow (World.alloc wr _) _ _ = V
            have hNV : V.heap[wr.heap.size]? = some (.cells #[.func (.func fa) #[] ca, vb, .func (.func fw) #[] cw] 155) := by rw [← hV]; exact setRow_heap _ _ _ _ _ _ (heap_alloc_new _ _)
            have HV := Lib.hid (show Below wr.heap.size wr V by rw [← hV]; exact below_row (below_box _ _) (Nat.le_refl _) _)
            obtain ⟨k0, k1, k2⟩ := box3 hNV
            have HNV := Lib.hid hNV
            clear hV hNV
            obtain ⟨e0, e1, e2, e3, e4, e5⟩ := cells6 (old_later HbE.out HV.out)
            go_upto_region 5 with (refine (HA.out _ HV.out).mono ?_; rintro e w1 ⟨rfl, hB1⟩; have HB1 := Lib.hid hB1; clear hB1)
            clear k0 k1 k2 e0 e1 e2 e3 e4 e5
            have HK1 := Lib.hid (HI.out.later (below_next HV.out HB1.out))
            have HG1 := Lib.hid (HGo.out.below (below_next HV.out HB1.out))
            have HNR := Lib.hid (old_later HNV.out HB1.out)
            have HbE1 := Lib.hid (old_later HbE.out (below_next HV.out HB1.out))
            have HnR : Hid (¬ Wb g0 gm fv1 rv1 sv wr.heap.size) := Lib.hid HI.out.new
            have HSb1 := Lib.hid (HSb.out.later (below_next HV.out HB1.out))
            clear HI HGo HV HB1 HNV HbE HSb HA
            go_upto_region 8 with (first
              | (go_at_call 115; refine (row_any HK1.out Hwfq wfa (by omega)).mono ?_; rintro e w2 ⟨ks2, rv2, k2, gr, cap2, rfl, hks, hk2, hrv2, hK2, hgo2⟩
                 have HRr2 : Hid (RowsOk chans t (fQ i q) (fQ i q) ks2 A1 B1) := Lib.hid (by
                   rcases hks with rfl | ⟨hni, rfl⟩
                   · exact HRo.out
                   · exact HRo.out.row HRr.out hni (HK1.out.nil _ (Nat.le_refl _)).2.2.1 (HK1.out.nil _ (Nat.le_refl _)).2.2.2.1)
                 have hln2 : ks2.length ≤ ks.length + 2 * q + 1 := by
                   rcases hks with rfl | ⟨hni, rfl⟩
                   · omega
                   · simp; omega
                 have hkl2 := (List.getElem?_eq_some_iff.1 hk2).1
                 obtain ⟨oa, ob⟩ := hK2.own k2
                 obtain ⟨aa, ac, hfv, hown⟩ := oa
                 obtain ⟨gr', cap', hrv', hgrl, c0, c1, _, cf⟩ := hK2.row hkl2
                 rw [hrv2] at hrv'; cases hrv'
                 have cc := c0
                 rw [hfv] at cc
                 have HCC := Lib.hid cc
                 have HCF := Lib.hid (cf)
                 have hlen := (HRr2.out.lens HRr.out hk2).1
                 have HK2 := Lib.hid hK2
                 have HGO2 := Lib.hid hgo2
                 have Hk2 := Lib.hid hk2
                 have HRV2 := Lib.hid hrv2
                 have HFV := Lib.hid hfv
                 have HOW := Lib.hid hown
                 have HGR := Lib.hid hgrl
                 have hbs : base ≤ w2.heap.size := hK2.fam.top
                 clear hK2 hgo2 hk2 hrv2 hfv hown hks ob c0 c1 cf)
              | (at_builtin; refine wpList_append_own_at _ rfl _ _ 23 rfl base 3 ti (.int .i64 0) 1 8 Tryz.underlying23 hi0 iz0 iz1 iz2 rfl (by decide) (.slice aa (A1 k2).length ac) (A1 k2).length ((ofN (A1 k2)).map (.int .i64 ·)) rfl (own_later HOW.out (below_box w2 _)) ⟨w2.heap.size, 0, none⟩ 1 1 [.int .i64 i] rfl rfl (cell_one_i w2 _ _) (by simp [Value.oneCell']) (by unfold maxLen; omega) (by omega) (by simp; omega) ?_; intro v5 w5 hown5 hgrow5 _ hat5
                 have HT5 : Hid (Touch (fun g => (fv1 (1 + 2 * k2)).ownBlock = some g) w2 w5) := Lib.hid (by
                   rw [HFV.out]
                   exact (Touch.of_below (below_box w2 (.cells #[.int .i64 i] 3))).trans (Touch.grown (X := fun g => (Value.slice aa (A1 k2).length ac).ownBlock = some g) hgrow5 (fun k e => e)) (fun _ _ h => h))
                 have HW5 : Hid (Whr w2 v5 (fv1 (1 + 2 * k2))) := Lib.hid (by
                   rw [HFV.out]
                   rcases hat5 with z | z
                   · exact .inl z
                   · exact .inr (.inr ⟨_, z, by simp⟩))
                 have HO5 := Lib.hid hown5
                 obtain ⟨g5, cap5, rfl⟩ := own_slice hown5 (by omega)
                 have hbk : w5.heap[gr]? = w2.heap[gr]? := HT5.out.block gr HGR.out fun z => apart_ne (HK2.out.apR _) z (by rw [HRV2.out]; rfl)
                 have d0 := (World.cell?_of_block (a := ⟨gr, k2 * 3, none⟩) hbk).trans HCC.out
                 have df0 := (World.frozen?_of_block (a := ⟨gr, k2 * 3, none⟩) hbk).trans (HCF.out (k2 * 3))
                 clear hown5 hgrow5 hat5 hbk cc))
            generalize hW3 : World.setCell _ _ _ = W3
            have HP : Hid (WkIn X chans R base g0 gm ks2 (updF A1 k2 (A1 k2 ++ [i])) B1 G seen st (updF fv1 (1 + 2 * k2) (.slice (some ⟨g5, 0, none⟩) ((A1 k2).length + 1) cap5)) rv2 sv W3 ∧ WkGo (Wb g0 gm fv1 rv2 sv) (Wb g0 gm (updF fv1 (1 + 2 * k2) (.slice (some ⟨g5, 0, none⟩) ((A1 k2).length + 1) cap5)) rv2 sv) w2 W3) := Lib.hid (by rw [← hW3]; exact HK2.out.pushA (i := i) hkl2 HRV2.out HT5.out HO5.out HW5.out)
            have HR3 : Hid (RowsOk chans t (fQ i (q + 1)) (fQ i q) ks2 (updF A1 k2 (A1 k2 ++ [i])) B1) := Lib.hid (by
              rw [← fQ_next]
              exact HRr2.out.ahead HK2.out.nodup HRr.out (fQ_at i q) HE.out (by rw [HSA.out]) (by rw [HSA.out]; exact Hk2.out))
            have HG3 := Lib.hid ((HG1.out.trans HGO2.out).trans HP.out.2)
            have HK3 := Lib.hid HP.out.1
            have HRoo := HNR.out
            have q1 := HGO2.out.keep HnR.out HNR.out
            have q2 := HP.out.2.keep q1.2 q1.1
            have q3 := HGO2.out.keep HnE.out HbE1.out
            have q4 := HP.out.2.keep q3.2 q3.1
            have HNR3 := Lib.hid q2.1
            have HnR3 := Lib.hid q2.2
            have HbE3 := Lib.hid q4.1
            have HnE3 := Lib.hid q4.2
            have HSb3 := Lib.hid (HSb1.out.touch (((HGO2.out.trans HP.out.2).toX HK1.out)))
            clear q1 q2 q3 q4 HRoo HP hW3 d0 df0 HO5 HT5 HW5 HCC HCF HOW HFV HGR HK2 HGO2 HNR HnR HbE1 HnE HSb1 HK1 HG1 Hk2 HRV2 HRo HRr2
            generalize hAA : updF A1 k2 (A1 k2 ++ [i]) = A3 at *
            generalize hFF : updF fv1 (1 + 2 * k2) (.slice (some ⟨g5, 0, none⟩) ((A1 k2).length + 1) cap5) = fv3 at *
            clear hAA hFF
            obtain ⟨k0, k1, k2'⟩ := box3 HNR3.out
            go_upto_region 9 with (fail)
            obtain ⟨e0, e1, e2, e3, e4, e5⟩ := cells6 HbE3.out
            obtain ⟨fb, cb, rfl, hcfb, hSb⟩ := HSb3.out
            have HB := Lib.hid (hSb W3 (Touch.of_below (Below.refl _ _)) ⟨th, pc, op, obj, val, mode⟩)
            rw [HSB.out] at HB
            clear hSb
            go_upto_region 10 with (refine HB.out.mono ?_; rintro e w6 ⟨rfl, hB6⟩; have HB6 := Lib.hid hB6; clear hB6)
            clear k0 k1 k2' e0 e1 e2 e3 e4 e5
            have HK6 := Lib.hid (HK3.out.later HB6.out)
            have HG6 := Lib.hid (HG3.out.below HB6.out)
            have HbE6 := Lib.hid (old_later HbE3.out HB6.out)
            clear HK3 HG3 HbE3 HB HB6 HNR3 HnR3
            go_upto_region 13 with (first
              | (go_at_call 115; refine (row_any HK6.out Hwfq wfb (by omega)).mono ?_; rintro e w7 ⟨ks7, rv7, k7, gr, cap7, rfl, hks, hk7, hrv7, hK7, hgo7⟩
                 have HRr7 : Hid (RowsOk chans t (fQ i (q + 1)) (fQ i q) ks7 A3 B1) := Lib.hid (by
                   rcases hks with rfl | ⟨hni, rfl⟩
                   · exact HR3.out
                   · exact HR3.out.row HRr.out hni (HK6.out.nil _ (Nat.le_refl _)).2.2.1 (HK6.out.nil _ (Nat.le_refl _)).2.2.2.1)
                 have hln7 : ks7.length ≤ ks.length + 2 * q + 2 := by
                   rcases hks with rfl | ⟨hni, rfl⟩
                   · omega
                   · simp; omega
                 have hkl7 := (List.getElem?_eq_some_iff.1 hk7).1
                 obtain ⟨oa, ob⟩ := hK7.own k7
                 obtain ⟨aa, ac, hfv, hown⟩ := ob
                 obtain ⟨gr', cap', hrv', hgrl, c0, c1, _, cf⟩ := hK7.row hkl7
                 rw [hrv7] at hrv'; cases hrv'
                 have cc := c1
                 rw [hfv] at cc
                 have HCC := Lib.hid cc
                 have HCF := Lib.hid (cf)
                 have hlen := (HRr7.out.lens HRr.out hk7).2 HWN.out
                 have HK7 := Lib.hid hK7
                 have HGO7 := Lib.hid hgo7
                 have Hk7 := Lib.hid hk7
                 have HRV7 := Lib.hid hrv7
                 have HFV := Lib.hid hfv
                 have HOW := Lib.hid hown
                 have HGR := Lib.hid hgrl
                 have hbs : base ≤ w7.heap.size := hK7.fam.top
                 clear hK7 hgo7 hk7 hrv7 hfv hown hks oa c0 c1 cf)
              | (at_builtin; refine wpList_append_own_at _ rfl _ _ 23 rfl base 3 ti (.int .i64 0) 1 8 Tryz.underlying23 hi0 iz0 iz1 iz2 rfl (by decide) (.slice aa (B1 k7).length ac) (B1 k7).length ((ofN (B1 k7)).map (.int .i64 ·)) rfl (own_later HOW.out (below_box w7 _)) ⟨w7.heap.size, 0, none⟩ 1 1 [.int .i64 i] rfl rfl (cell_one_i w7 _ _) (by simp [Value.oneCell']) (by unfold maxLen; omega) (by omega) (by simp; omega) ?_; intro v5 w5 hown5 hgrow5 _ hat5
                 have HT5 : Hid (Touch (fun g => (fv3 (2 + 2 * k7)).ownBlock = some g) w7 w5) := Lib.hid (by
                   rw [HFV.out]
                   exact (Touch.of_below (below_box w7 (.cells #[.int .i64 i] 3))).trans (Touch.grown (X := fun g => (Value.slice aa (B1 k7).length ac).ownBlock = some g) hgrow5 (fun k e => e)) (fun _ _ h => h))
                 have HW5 : Hid (Whr w7 v5 (fv3 (2 + 2 * k7))) := Lib.hid (by
                   rw [HFV.out]
                   rcases hat5 with z | z
                   · exact .inl z
                   · exact .inr (.inr ⟨_, z, by simp⟩))
                 have HO5 := Lib.hid hown5
                 obtain ⟨g5, cap5, rfl⟩ := own_slice hown5 (by omega)
                 have hbk : w5.heap[gr]? = w7.heap[gr]? := HT5.out.block gr HGR.out fun z => apart_ne (HK7.out.apR _) z (by rw [HRV7.out]; rfl)
                 have d0 := (World.cell?_of_block (a := ⟨gr, k7 * 3 + 1, none⟩) hbk).trans HCC.out
                 have df0 := (World.frozen?_of_block (a := ⟨gr, k7 * 3 + 1, none⟩) hbk).trans (HCF.out (k7 * 3 + 1))
                 clear hown5 hgrow5 hat5 hbk cc))
            generalize hW8 : World.setCell _ _ _ = W8
            have HP : Hid (WkIn X chans R base g0 gm ks7 A3 (updF B1 k7 (B1 k7 ++ [i])) G seen st (updF fv3 (2 + 2 * k7) (.slice (some ⟨g5, 0, none⟩) ((B1 k7).length + 1) cap5)) rv7 sv W8 ∧ WkGo (Wb g0 gm fv3 rv7 sv) (Wb g0 gm (updF fv3 (2 + 2 * k7) (.slice (some ⟨g5, 0, none⟩) ((B1 k7).length + 1) cap5)) rv7 sv) w7 W8) := Lib.hid (by rw [← hW8]; exact HK7.out.pushB (i := i) hkl7 HRV7.out HT5.out HO5.out HW5.out)
            have HR8 : Hid (RowsOk chans t (fQ i (q + 1)) (fQ i (q + 1)) ks7 A3 (updF B1 k7 (B1 k7 ++ [i]))) := Lib.hid (by
              have := HRr7.out.behind HK7.out.nodup HRr.out (fQ_at i q) HE.out HWN.out (by rw [HSB.out]) (by rw [HSB.out]; exact Hk7.out)
              rw [fQ_next] at this; exact this)
            have HG8 := Lib.hid ((HG6.out.trans HGO7.out).trans HP.out.2)
            have q3 := HGO7.out.keep HnE3.out HbE6.out
            have q4 := HP.out.2.keep q3.2 q3.1
            have HKE := Lib.hid q4
            clear q3 q4 hW8 d0 df0 HO5 HT5 HW5 HCC HCF HOW HFV HGR
            go_wp2_with fail
            go_roundw
            case rel => exact ⟨q + 1, by omega, by go_num, ks7, A3, updF B1 k7 (B1 k7 ++ [i]), _, rv7, HP.out.1, HR8.out, HG8.out, HKE.out.1, HKE.out.2, by omega⟩
            case measure => simp [intOf]; omega
    · obtain rfl : q = 10 := by omega
      have HRE : Hid (RowsOk chans t (fun _ => i + 1) (fun _ => i + 1) ks1 A1 B1) := Lib.hid (by
        have := HRo.out
        refine ⟨fun k n x hk => ?_, fun m r x hr hn => ?_⟩
        · obtain ⟨m, r, h1, h2, h3, h4⟩ := this.at_ k n x hk
          have := rules_lt h2
          unfold fQ at h3 h4
          rw [if_pos this] at h3 h4
          exact ⟨m, r, h1, h2, h3, h4⟩
        · have h5 := this.out m r x hr hn
          have := rules_lt hr
          unfold fQ at h5
          rw [if_pos this] at h5
          exact h5)
      go_wp2_with fail
      go_end0
      exact ⟨rfl, ks1, A1, B1, fv1, rv1, HI.out, HRE.out, HGo.out, hln⟩
end Go.Proofs.YtglafbajbiengaaGreat
