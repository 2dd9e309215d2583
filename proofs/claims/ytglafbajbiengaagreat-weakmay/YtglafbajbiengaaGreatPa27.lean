/- What the laws of this seat stand on, part 27. -/
import Derived.Test.YtglafbajbiengaaGreatPa0
import Derived.Test.YtglafbajbiengaaGreatPa11
import Derived.Test.YtglafbajbiengaaGreatPa21
import Derived.Test.YtglafbajbiengaaGreatPa23
import Derived.Test.YtglafbajbiengaaGreatPa26
set_option linter.unusedVariables false
set_option linter.unusedSimpArgs false
set_option maxRecDepth 100000
set_option maxHeartbeats 40000000
namespace Go.Proofs.YtglafbajbiengaaGreat
open Go.ChangeShapes Go.WideShapes Go.ChangeAt Go.RowKit
theorem befI_lt {chans : List Int} {t : List EvD} {i j : Nat} (hi : i < j) (hj : j < t.length) : befI chans t (i : Nat) (j : Nat) = befB (dirB chans t) i j := by
  unfold befI
  rw [riseB_iff.2 ⟨by omega, by omega, by omega⟩]
  simp
theorem cells_newW (w : World) (l : List Value) (t : TypeId) : ∀ j u, l[j]? = some u → (w.alloc (.cells l.toArray t)).cell? ((⟨w.heap.size, 0, none⟩ : Addr).add j) = some u := by
  intro j u hj
  rw [Addr.add_mid, Nat.zero_add, cell_of_row _ _ _ _ _ _ (heap_alloc_new _ _)]
  simpa using hj
theorem own_rowR {V : World} {base : Nat} {a : Option Addr} {n c : Nat} {L : List Int} (h : V.ownsRow base 3 1 (.slice a n c) L.length (L.map (.int .i64 ·))) : RowOf .i64 V V.heap.size a L := by
  obtain ⟨a', cap', e, h2⟩ := own_rowW h
  cases e
  exact h2
/-- The row of what may be read, as far as it goes. -/
def OuI (w3 u : World) (L : List Int) (v : Value) : Prop := u.ownsRow w3.heap.size 3 1 v L.length (L.map (Value.int .i64 ·)) ∧ Below w3.heap.size w3 u
theorem OuI.later {w3 u u' : World} {L : List Int} {v : Value} (h : OuI w3 u L v) (hB : Below u.heap.size u u') : OuI w3 u' L v := ⟨own_later h.1 hB, below_next h.2 hB⟩
theorem OuI.push {w3 u u' : World} {o : Obj} {L : List Int} {x : Int} {v v' : Value} (h : OuI w3 u L v) (hown : u'.ownsRow w3.heap.size 3 1 v' (L.length + 1) (L.map (Value.int .i64 ·) ++ [.int .i64 x])) (hgrow : (u.alloc o).grownBy u' v.ownBlock) : OuI w3 u' (L ++ [x]) v' := by
  refine ⟨by rw [List.map_append, List.length_append]; exact hown, (below_new h.2 o).trans ((Below.refl _ _).grown hgrow (by have := h.2.size; simp; omega) (fun g e => (own_lt h.1 g e).2))⟩
theorem rmay_any (v0 v1 v2 : Value) (ca : Option Addr) (ccap : Nat) (chans : List Int) (v4 v5 v6 : Value) (a : Option Addr) (cap : Nat) (t : List EvD) (th x : Int) (w : World) (hc : ChIn w ca chans) (he : EvsIn w w.heap.size a t) (hl : t.length ≤ 800) (hv : (#[v0, v1, v2, .slice ca chans.length ccap, v4, v5, v6] : Array Value).all (·.oneCell') = true) :
    Calls Tryz.prog 12 #[.agg #[v0, v1, v2, .slice ca chans.length ccap, v4, v5, v6], .slice a t.length cap, .int .i64 th, .int .i64 x] w (MayE chans t th x w) := by
  obtain ⟨i0, hi0, hzz0, hz1, hz2⟩ := info_parts info_intT
  obtain ⟨ti, hti, iz0, iz1, iz2⟩ := info_parts info_evW
  have HC := Lib.hid hc
  have HE := Lib.hid he
  have HVV := Lib.hid hv
  clear hc he
  simp only [List.all_toArray, List.all_cons, List.all_nil, Bool.and_true, Bool.and_eq_true] at hv
  obtain ⟨o0, o1, o2, o3, o4, o5, o6⟩ := hv
  have hsz : (World.alloc w (.cells #[v0, v1, v2, .slice ca chans.length ccap, v4, v5, v6] 26)).heap.size = w.heap.size + 1 := by simp
  have HBU : Hid (Below w.heap.size w (World.alloc w (.cells #[v0, v1, v2, .slice ca chans.length ccap, v4, v5, v6] 26))) := Lib.hid (below_box _ _)
  have HPB : Hid ((World.alloc w (.cells #[v0, v1, v2, .slice ca chans.length ccap, v4, v5, v6] 26)).heap[w.heap.size]? = some (.cells #[v0, v1, v2, .slice ca chans.length ccap, v4, v5, v6] 26)) := Lib.hid (heap_alloc_new _ _)
  go_enter Tryz.func12, Tryz.ntmps12
  go_upto_region 2 with (fail)
  generalize World.alloc w _ = U at *
  go_upto_region 3 with (at_builtin; refine wpList_append_evs rfl _ _ rfl U.heap.size (.slice none 0 0) 0 [] rfl (World.ownsRow_nil _ _ _ _) a cap U.heap.size t rfl (HE.out.later HBU.out) (by omega) (Nat.le_refl _) ?_; intro v' w1 hown1 hgrow1 _; have HB1 : Hid (Below U.heap.size U w1) := Lib.hid ((Below.refl _ _).grown hgrow1 (Nat.le_refl _) (by intro g e; cases e)); rw [Nat.zero_add, List.nil_append] at hown1; obtain ⟨xa, xc, rfl⟩ := own_slice0 hown1; have HO1 := Lib.hid hown1; clear hown1 hgrow1)
  go_upto_region 4 with (at_builtin; refine wpList_append_own_at _ rfl _ _ 27 rfl U.heap.size 31 ti (evV 0 0 0 0 0 0) 6 48 Tryz.underlying27 hti iz0 iz1 iz2 rfl (by decide) (.slice xa t.length xc) t.length (evsCells t) rfl (own_later HO1.out (below_box w1 _)) ⟨w1.heap.size, 0, none⟩ 1 1 (evCells (ldE th x)) rfl rfl (cells_newW w1 _ _) (ev_one _) (by unfold maxLen; omega) (by omega) (by have := HB1.out.size; simp; omega) ?_; intro v2 w2 hown2 hgrow2 _ hat2; have HB2 : Hid (Below U.heap.size U w2) := Lib.hid ((below_new HB1.out (.cells (evCells (ldE th x)).toArray 31)).trans ((Below.refl _ _).grown hgrow2 (by have := HB1.out.size; simp; omega) (fun g e => (own_lt HO1.out g e).2))); obtain ⟨ya, yc, rfl⟩ := own_slice0 hown2; have HO2 := Lib.hid hown2; clear hown2 hgrow2 hat2)
  have htl : (t ++ [ldE th x]).length = t.length + 1 := by simp
  have hE2 : EvsIn w2 w2.heap.size ya (t ++ [ldE th x]) := by
    have h := HO2.out
    rw [← evsCells_snoc, ← htl] at h
    exact evsIn_own h
  have HE2 := Lib.hid hE2
  have HBw2 := Lib.hid (below_next HBU.out HB2.out)
  have hMk := marks_any v0 v1 v2 ca ccap chans v4 v5 v6 ya yc (t ++ [ldE th x]) (t.length : Int) w2 (HC.out.later HBw2.out) hE2 (by omega) HVV.out
  unfold MarksE at hMk
  rw [htl] at hMk
  have HMk := Lib.hid hMk
  have HPB2 := Lib.hid (old_later HPB.out HB2.out)
  obtain ⟨p0, p1, p2, p3, p4, p5, p6⟩ := box7R HPB2.out
  clear hE2 hMk HO1 HO2 HB1 HPB htl
  go_upto_region 5 with (go_at_call 24; refine HMk.out.mono ?_; rintro e6 w3 ⟨gm, rfl, hom, hBm⟩)
  have HPc : Hid (∀ i, i < t.length → w3.cell? ⟨gm, i, none⟩ = some (.int .i64 (if befB (dW chans t th x) i t.length = true then 1 else 0))) := Lib.hid (fun i hi => by
    have c1 := hom.cellAt i (by omega)
    rw [List.getElem?_map, mkI_at _ (by omega), befI_lt hi (by simp)] at c1
    exact c1)
  have HB3 := Lib.hid (below_next HBw2.out hBm)
  have HPB3 := Lib.hid (old_later HPB2.out hBm)
  have HE3 := Lib.hid (HE2.out.later hBm)
  have HEt := Lib.hid (fun V (hV : Below w3.heap.size w3 V) => HE.out.later (below_next HB3.out hV))
  have HBf := Lib.hid (fun V (hV : Below w3.heap.size w3 V) (i j : Nat) (hi : i < j) (hj : j < t.length) => (show Calls Tryz.prog 9 #[.agg #[v0, v1, v2, .slice ca chans.length ccap, v4, v5, v6], .slice ya (t.length + 1) yc, .int .i64 i, .int .i64 j] V fun e w' => e = .returned (.bool (befB (dW chans t th x) i j)) ∧ Below V.heap.size V w' from by
    have h := rbefore_any v0 v1 v2 ca ccap chans v4 v5 v6 ya yc (t ++ [ldE th x]) (i : Int) (j : Int) V (HC.out.later (below_next HB3.out hV)) (HE3.out.later hV) (by simp; omega) HVV.out
    rw [befI_lt hi (by simp; omega), show (t ++ [ldE th x]).length = t.length + 1 by simp] at h
    exact h))
  have HOu : Hid (OuI w3 w3 (rmL chans t th x 0) (.slice none 0 0)) := Lib.hid ⟨World.ownsRow_nil _ _ _ _, Below.refl _ _⟩
  have hgl : gm < w3.heap.size := by
    have c1 := hom.cellAt 0 (by omega)
    rw [List.getElem?_map, mkI_at _ (by omega)] at c1
    exact cell_lt c1
  clear p0 p1 p2 p3 p4 p5 p6 hom hBm HMk HPB2 HBw2 HE2 HB2 HBU HC HE HVV
  -- the loops
  go_wp2_with fail
  go_loopw [11, 12, 13] (fun ou f i u => ∃ d : Nat, d ≤ t.length ∧ (∃ z : Int, i = .int .i64 z ∧ z = (d : Int) - 1) ∧ f = .bool (rmF chans t th x (t.length - d)) ∧ ∃ oa oc, ou = .slice oa (rmL chans t th x (t.length - d)).length oc ∧ OuI w3 u (rmL chans t th x (t.length - d)) ou) (fun _ _ i _ => ((intOf i) + 1).toNat)
  case atStart => exact ⟨t.length, Nat.le_refl _, ⟨_, rfl, rfl⟩, by rw [Nat.sub_self]; rfl, none, 0, by rw [Nat.sub_self]; rfl, by rw [Nat.sub_self]; exact HOu.out⟩
  case round =>
    obtain ⟨d, hd, ⟨z, rfl, hz⟩, rfl, oa, oc, rfl, hO⟩ := hrel
    have HO := Lib.hid hO
    clear hO
    rcases d with _ | d
    · have hz0 : decide (0 ≤ z) = false := decide_eq_false (by omega)
      have HEnd := Lib.hid (rm_end chans t th x)
      simp only [Nat.sub_zero] at *
      have hLl : (rmL chans t th x t.length).length ≤ 800 := by
        unfold rmL; rw [List.length_map]; refine Nat.le_trans (List.length_filter_le _ _) ?_; unfold dnL; simp; omega
      generalize rmL chans t th x t.length = L at *
      rcases hF : rmF chans t th x t.length with _ | _
      · have HM : Hid (mayL chans t th x = L) := Lib.hid (by rw [← HEnd.out, hF]; simp)
        go_wp2_with fail
        go_ret
        exact ⟨oa, oc, by rw [HM.out]; rfl, by rw [HM.out]; exact own_rowR HO.out.1, below_next HB3.out HO.out.2⟩
      · have HM : Hid (mayL chans t th x = L ++ [-1]) := Lib.hid (by rw [← HEnd.out, hF]; rfl)
        go_wp2_with (first
          | (at_builtin; refine wpList_append_own_at _ rfl _ _ 23 rfl w3.heap.size 3 i0 (.int .i64 0) 1 8 Tryz.underlying23 hi0 hzz0 hz1 hz2 rfl (by decide) (.slice oa L.length oc) L.length (L.map (Value.int .i64 ·)) rfl (own_later HO.out.1 (below_box _ _)) ⟨wr.heap.size, 0, none⟩ 1 1 [.int .i64 (-1)] rfl rfl (cell_one_new _ _ _) (by simp [Value.oneCell']) (by unfold maxLen; omega) (by omega) (by have := HO.out.2.size; simp; omega) ?_; intro v5 w5 hown5 hgrow5 _ _; have HO5 := Lib.hid (HO.out.push hown5 hgrow5); clear hown5 hgrow5))
        go_ret
        obtain ⟨b5, c5, e5⟩ := own_slice0 HO5.out.1
        subst e5
        exact ⟨b5, c5, by rw [HM.out]; rfl, by rw [HM.out]; exact own_rowR HO5.out.1, below_next HB3.out HO5.out.2⟩
    · obtain rfl : z = (d : Int) := by omega
      have hdn : d < t.length := by omega
      have hz0 : decide (0 ≤ (d : Int)) = true := decide_eq_true (by omega)
      clear hz
      have HSL := Lib.hid (rmL_succ (chans := chans) (t := t) (th := th) (x := x) (j := t.length - (d + 1)) (i := d) (by omega) (by omega))
      have HSF := Lib.hid (rmF_succ (chans := chans) (t := t) (th := th) (x := x) (j := t.length - (d + 1)) (i := d) (by omega) (by omega))
      rw [show t.length - (d + 1) + 1 = t.length - d by omega] at HSL HSF
      have hLl : (rmL chans t th x (t.length - (d + 1))).length ≤ 800 := by
        unfold rmL; rw [List.length_map]; refine Nat.le_trans (List.length_filter_le _ _) ?_; unfold dnL; simp; omega
      generalize rmL chans t th x (t.length - (d + 1)) = L at *
      generalize rmF chans t th x (t.length - (d + 1)) = F at *
      obtain ⟨e, hx⟩ := at_lt hdn
      have hdn' : (d : Int) < (t.length : Int) := by omega
      have HX := Lib.hid (show stP t x d = (e.op == 8 && e.obj == x) from stP_at hx x)
      obtain ⟨g, o, rfl, hg, e0, e1, e2, e3, e4, e5⟩ := HEt.out _ HO.out.2 d e hx
      clear hx
      obtain ⟨th', pc', op', obj', val', mode'⟩ := e
      simp only at HX e0 e1 e2 e3 e4 e5
      rcases h1 : (op' == 8) with _ | _
      · have h1n : (op' != 8) = true := by rw [bne, h1]; rfl
        have HSL2 : Hid (rmL chans t th x (t.length - d) = L) := Lib.hid (by rw [HSL.out, HX.out, h1]; simp)
        have HSF2 : Hid (rmF chans t th x (t.length - d) = F) := Lib.hid (by rw [HSF.out, HX.out, h1]; simp)
        go_wp2_with fail
        go_roundw
        case rel => exact ⟨d, by omega, ⟨_, rfl, rfl⟩, by rw [HSF2.out], oa, oc, by rw [HSL2.out], by rw [HSL2.out]; exact HO.out⟩
        case measure => simp [intOf] <;> omega
      · have h1n : (op' != 8) = false := by rw [bne, h1]; rfl
        rcases h3 : (obj' == x) with _ | _
        · have h3n : (obj' != x) = true := by rw [bne, h3]; rfl
          have HSL2 : Hid (rmL chans t th x (t.length - d) = L) := Lib.hid (by rw [HSL.out, HX.out, h1, h3]; simp)
          have HSF2 : Hid (rmF chans t th x (t.length - d) = F) := Lib.hid (by rw [HSF.out, HX.out, h1, h3]; simp)
          go_wp2_with fail
          go_roundw
          case rel => exact ⟨d, by omega, ⟨_, rfl, rfl⟩, by rw [HSF2.out], oa, oc, by rw [HSL2.out], by rw [HSL2.out]; exact HO.out⟩
          case measure => simp [intOf] <;> omega
        · have h3n : (obj' != x) = false := by rw [bne, h3]; rfl
          rw [HX.out, h1, h3] at HSL HSF
          clear e0 e1 e4 e5
          simp only [Bool.true_and] at HSL HSF
          go_wp2_with fail
          go_loopw [14, 15] (fun o k u => ∃ m : Nat, d + 1 ≤ m ∧ m ≤ t.length ∧ k = .int .i64 m ∧ o = .bool (ovR chans t th x d m) ∧ OuI w3 u L (.slice oa L.length oc)) (fun _ k _ => t.length - (intOf k).toNat)
          case atStart => exact ⟨d + 1, Nat.le_refl _, by omega, by go_num, by rw [ovR_first], HO.out⟩
          case round =>
            obtain ⟨m, hm1, hm2, rfl, rfl, hO2⟩ := hrel
            have HO2 := Lib.hid hO2
            clear hO2 HO e2 e3
            rcases hov : ovR chans t th x d m with _ | _
            · by_cases hmn : m < t.length
              · have hmn' : (m : Int) < (t.length : Int) := by omega
                have hdm : decide (d < m) = true := decide_eq_true (by omega)
                obtain ⟨y, hy⟩ := at_lt hmn
                have HY := Lib.hid (show ovR chans t th x d (m + 1) = ((y.op == 8 && y.obj == x) && (befB (dW chans t th x) m t.length && befB (dW chans t th x) d m)) from by rw [ovR_succ, hov, hdm, stP_at hy]; rfl)
                obtain ⟨g', o', hgo', hg', f0, f1, f2, f3, f4, f5⟩ := HEt.out _ HO2.out.2 m y hy
                cases hgo'
                clear hy f0 f1 f4 f5
                obtain ⟨yth, ypc, yop, yobj, yval, ymode⟩ := y
                simp only at HY f2 f3
                rcases g1 : (yop == 8) with _ | _
                · have HN : Hid (ovR chans t th x d (m + 1) = false) := Lib.hid (by rw [HY.out, g1]; rfl)
                  go_wp2_with fail
                  go_roundw
                  case rel => exact ⟨m + 1, by omega, by omega, by go_num, by rw [HN.out], HO2.out⟩
                  case measure => simp [intOf] <;> omega
                · rcases g3 : (yobj == x) with _ | _
                  · have HN : Hid (ovR chans t th x d (m + 1) = false) := Lib.hid (by rw [HY.out, g1, g3]; rfl)
                    go_wp2_with fail
                    go_roundw
                    case rel => exact ⟨m + 1, by omega, by omega, by go_num, by rw [HN.out], HO2.out⟩
                    case measure => simp [intOf] <;> omega
                  · have k2 := ((HO2.out.2.cell (p := ⟨gm, m, none⟩) hgl).trans (HPc.out m hmn))
                    rcases hB : befB (dW chans t th x) m t.length with _ | _
                    · have HN : Hid (ovR chans t th x d (m + 1) = false) := Lib.hid (by rw [HY.out, g1, g3, hB]; rfl)
                      rw [hB] at k2
                      simp only [if_true, if_false, Bool.false_eq_true, reduceIte] at k2
                      go_wp2_with fail
                      go_roundw
                      case rel => exact ⟨m + 1, by omega, by omega, by go_num, by rw [HN.out], HO2.out⟩
                      case measure => simp [intOf] <;> omega
                    · have HN : Hid (ovR chans t th x d (m + 1) = befB (dW chans t th x) d m) := Lib.hid (by rw [HY.out, g1, g3, hB]; rfl)
                      rw [hB] at k2
                      simp only [if_true, if_false, Bool.false_eq_true, reduceIte] at k2
                      have HC9 := Lib.hid (HBf.out _ HO2.out.2 d m (by omega) hmn)
                      obtain ⟨p0, p1, p2, p3, p4, p5, p6⟩ := box7R (old_later HPB3.out HO2.out.2)
                      go_wp2_with (go_at_call 9; refine HC9.out.mono ?_; rintro e9 w9 ⟨rfl, hB9⟩; have HO9 := Lib.hid (HO2.out.later hB9); clear hB9)
                      go_roundw
                      case rel => exact ⟨m + 1, by omega, by omega, by go_num, by rw [HN.out], HO9.out⟩
                      case measure => simp [intOf] <;> omega
              · obtain rfl : m = t.length := by omega
                have HOE : Hid (ovB chans t (knL chans t th x) d = false) := Lib.hid (by rw [← ovR_end, hov])
                clear hmn
                have HSL2 : Hid (rmL chans t th x (t.length - d) = L ++ [(d : Int)]) := Lib.hid (by rw [HSL.out, HOE.out]; simp)
                rcases F with _ | _
                · have HSF2 : Hid (rmF chans t th x (t.length - d) = false) := Lib.hid (by rw [HSF.out]; rfl)
                  go_wp2_with (first
                    | (at_builtin; refine wpList_append_own_at _ rfl _ _ 23 rfl w3.heap.size 3 i0 (.int .i64 0) 1 8 Tryz.underlying23 hi0 hzz0 hz1 hz2 rfl (by decide) (.slice oa L.length oc) L.length (L.map (Value.int .i64 ·)) rfl (own_later HO2.out.1 (below_box _ _)) ⟨wr.heap.size, 0, none⟩ 1 1 [.int .i64 (d : Int)] rfl rfl (cell_one_new _ _ _) (by simp [Value.oneCell']) (by unfold maxLen; omega) (by omega) (by have := HO2.out.2.size; simp; omega) ?_; intro v5 w5 hown5 hgrow5 _ _; have HO5 := Lib.hid (HO2.out.push hown5 hgrow5); have k5 := ((HO5.out.2.cell (p := ⟨gm, d, none⟩) hgl).trans (HPc.out d hdn)); clear k5; clear hown5 hgrow5))
                  have hs5 : ∃ b5 c5, v5 = .slice b5 (L ++ [(d : Int)]).length c5 := by
                    obtain ⟨b5, c5, e5⟩ := own_slice0 HO5.out.1; exact ⟨b5, c5, e5⟩
                  obtain ⟨b5, c5, rfl⟩ := hs5
                  go_roundw
                  case rel => exact ⟨d, by omega, ⟨_, rfl, rfl⟩, by rw [HSF2.out], b5, c5, by rw [HSL2.out], by rw [HSL2.out]; exact HO5.out⟩
                  case measure => simp [intOf] <;> omega
                · have k2 := ((HO2.out.2.cell (p := ⟨gm, d, none⟩) hgl).trans (HPc.out d hdn))
                  rcases hB : befB (dW chans t th x) d t.length with _ | _
                  · have HSF2 : Hid (rmF chans t th x (t.length - d) = true) := Lib.hid (by rw [HSF.out, hB]; rfl)
                    rw [hB] at k2
                    simp only [if_true, if_false, Bool.false_eq_true, reduceIte] at k2
                    go_wp2_with (first
                      | (at_builtin; refine wpList_append_own_at _ rfl _ _ 23 rfl w3.heap.size 3 i0 (.int .i64 0) 1 8 Tryz.underlying23 hi0 hzz0 hz1 hz2 rfl (by decide) (.slice oa L.length oc) L.length (L.map (Value.int .i64 ·)) rfl (own_later HO2.out.1 (below_box _ _)) ⟨wr.heap.size, 0, none⟩ 1 1 [.int .i64 (d : Int)] rfl rfl (cell_one_new _ _ _) (by simp [Value.oneCell']) (by unfold maxLen; omega) (by omega) (by have := HO2.out.2.size; simp; omega) ?_; intro v5 w5 hown5 hgrow5 _ _; have HO5 := Lib.hid (HO2.out.push hown5 hgrow5); have k5 := ((HO5.out.2.cell (p := ⟨gm, d, none⟩) hgl).trans (HPc.out d hdn)); rw [hB] at k5; simp only [if_true, if_false, Bool.false_eq_true, reduceIte] at k5; clear hown5 hgrow5))
                    have hs5 : ∃ b5 c5, v5 = .slice b5 (L ++ [(d : Int)]).length c5 := by
                      obtain ⟨b5, c5, e5⟩ := own_slice0 HO5.out.1; exact ⟨b5, c5, e5⟩
                    obtain ⟨b5, c5, rfl⟩ := hs5
                    go_roundw
                    case rel => exact ⟨d, by omega, ⟨_, rfl, rfl⟩, by rw [HSF2.out], b5, c5, by rw [HSL2.out], by rw [HSL2.out]; exact HO5.out⟩
                    case measure => simp [intOf] <;> omega
                  · have HSF2 : Hid (rmF chans t th x (t.length - d) = false) := Lib.hid (by rw [HSF.out, hB]; rfl)
                    rw [hB] at k2
                    simp only [if_true, if_false, Bool.false_eq_true, reduceIte] at k2
                    go_wp2_with (first
                      | (at_builtin; refine wpList_append_own_at _ rfl _ _ 23 rfl w3.heap.size 3 i0 (.int .i64 0) 1 8 Tryz.underlying23 hi0 hzz0 hz1 hz2 rfl (by decide) (.slice oa L.length oc) L.length (L.map (Value.int .i64 ·)) rfl (own_later HO2.out.1 (below_box _ _)) ⟨wr.heap.size, 0, none⟩ 1 1 [.int .i64 (d : Int)] rfl rfl (cell_one_new _ _ _) (by simp [Value.oneCell']) (by unfold maxLen; omega) (by omega) (by have := HO2.out.2.size; simp; omega) ?_; intro v5 w5 hown5 hgrow5 _ _; have HO5 := Lib.hid (HO2.out.push hown5 hgrow5); have k5 := ((HO5.out.2.cell (p := ⟨gm, d, none⟩) hgl).trans (HPc.out d hdn)); rw [hB] at k5; simp only [if_true, if_false, Bool.false_eq_true, reduceIte] at k5; clear hown5 hgrow5))
                    have hs5 : ∃ b5 c5, v5 = .slice b5 (L ++ [(d : Int)]).length c5 := by
                      obtain ⟨b5, c5, e5⟩ := own_slice0 HO5.out.1; exact ⟨b5, c5, e5⟩
                    obtain ⟨b5, c5, rfl⟩ := hs5
                    go_roundw
                    case rel => exact ⟨d, by omega, ⟨_, rfl, rfl⟩, by rw [HSF2.out], b5, c5, by rw [HSL2.out], by rw [HSL2.out]; exact HO5.out⟩
                    case measure => simp [intOf] <;> omega
            · have HOE : Hid (ovB chans t (knL chans t th x) d = true) := Lib.hid (by rw [← ovR_end]; exact ovR_mono hm2 hov)
              by_cases hmn : m < t.length
              · have hmn' : (m : Int) < (t.length : Int) := by omega
                have HSL2 : Hid (rmL chans t th x (t.length - d) = L) := Lib.hid (by rw [HSL.out, HOE.out]; simp)
                rcases F with _ | _
                · have HSF2 : Hid (rmF chans t th x (t.length - d) = false) := Lib.hid (by rw [HSF.out]; rfl)
                  go_wp2_with fail
                  go_roundw
                  case rel => exact ⟨d, by omega, ⟨_, rfl, rfl⟩, by rw [HSF2.out], oa, oc, by rw [HSL2.out], by rw [HSL2.out]; exact HO2.out⟩
                  case measure => simp [intOf] <;> omega
                · have k2 := ((HO2.out.2.cell (p := ⟨gm, d, none⟩) hgl).trans (HPc.out d hdn))
                  rcases hB : befB (dW chans t th x) d t.length with _ | _
                  · have HSF2 : Hid (rmF chans t th x (t.length - d) = true) := Lib.hid (by rw [HSF.out, hB]; rfl)
                    rw [hB] at k2
                    simp only [if_true, if_false, Bool.false_eq_true, reduceIte] at k2
                    go_wp2_with fail
                    go_roundw
                    case rel => exact ⟨d, by omega, ⟨_, rfl, rfl⟩, by rw [HSF2.out], oa, oc, by rw [HSL2.out], by rw [HSL2.out]; exact HO2.out⟩
                    case measure => simp [intOf] <;> omega
                  · have HSF2 : Hid (rmF chans t th x (t.length - d) = false) := Lib.hid (by rw [HSF.out, hB]; rfl)
                    rw [hB] at k2
                    simp only [if_true, if_false, Bool.false_eq_true, reduceIte] at k2
                    go_wp2_with fail
                    go_roundw
                    case rel => exact ⟨d, by omega, ⟨_, rfl, rfl⟩, by rw [HSF2.out], oa, oc, by rw [HSL2.out], by rw [HSL2.out]; exact HO2.out⟩
                    case measure => simp [intOf] <;> omega
              · obtain rfl : m = t.length := by omega
                clear hmn
                have HSL2 : Hid (rmL chans t th x (t.length - d) = L) := Lib.hid (by rw [HSL.out, HOE.out]; simp)
                rcases F with _ | _
                · have HSF2 : Hid (rmF chans t th x (t.length - d) = false) := Lib.hid (by rw [HSF.out]; rfl)
                  go_wp2_with fail
                  go_roundw
                  case rel => exact ⟨d, by omega, ⟨_, rfl, rfl⟩, by rw [HSF2.out], oa, oc, by rw [HSL2.out], by rw [HSL2.out]; exact HO2.out⟩
                  case measure => simp [intOf] <;> omega
                · have k2 := ((HO2.out.2.cell (p := ⟨gm, d, none⟩) hgl).trans (HPc.out d hdn))
                  rcases hB : befB (dW chans t th x) d t.length with _ | _
                  · have HSF2 : Hid (rmF chans t th x (t.length - d) = true) := Lib.hid (by rw [HSF.out, hB]; rfl)
                    rw [hB] at k2
                    simp only [if_true, if_false, Bool.false_eq_true, reduceIte] at k2
                    go_wp2_with fail
                    go_roundw
                    case rel => exact ⟨d, by omega, ⟨_, rfl, rfl⟩, by rw [HSF2.out], oa, oc, by rw [HSL2.out], by rw [HSL2.out]; exact HO2.out⟩
                    case measure => simp [intOf] <;> omega
                  · have HSF2 : Hid (rmF chans t th x (t.length - d) = false) := Lib.hid (by rw [HSF.out, hB]; rfl)
                    rw [hB] at k2
                    simp only [if_true, if_false, Bool.false_eq_true, reduceIte] at k2
                    go_wp2_with fail
                    go_roundw
                    case rel => exact ⟨d, by omega, ⟨_, rfl, rfl⟩, by rw [HSF2.out], oa, oc, by rw [HSL2.out], by rw [HSL2.out]; exact HO2.out⟩
                    case measure => simp [intOf] <;> omega
end Go.Proofs.YtglafbajbiengaaGreat
namespace Go.Proofs.YtglafbajbiengaaGreat
theorem bI_at {chans : List Int} {t : List EvD} {th x : Int} {i k : Nat} (hk : k ≤ t.length) : befI chans (t ++ [ldE th x]) (i : Nat) (k : Nat) = (decide (i < k) && befB (dW chans t th x) i k) := by
  by_cases h : i < k
  · rw [befI_lt h (by simp; omega), decide_eq_true h, Bool.true_and]; rfl
  · rw [decide_eq_false h, Bool.false_and]
    unfold befI
    rcases hr : riseB (i : Int) (k : Int) (t ++ [ldE th x]).length with _ | _
    · rfl
    · have := riseB_iff.1 hr; omega
/-- Is there a Store below m that is ahead of the load, and behind the i-th? -/
def ovN (chans : List Int) (t : List EvD) (th x : Int) (i m : Nat) : Bool := (List.range m).any fun k => stP t x k && (befI chans (t ++ [ldE th x]) (i : Nat) (k : Nat) && befI chans (t ++ [ldE th x]) (k : Nat) (t.length : Nat))
theorem ovN_succ (chans : List Int) (t : List EvD) (th x : Int) (i m : Nat) : ovN chans t th x i (m + 1) = (ovN chans t th x i m || (stP t x m && (befI chans (t ++ [ldE th x]) (i : Nat) (m : Nat) && befI chans (t ++ [ldE th x]) (m : Nat) (t.length : Nat)))) := by
  unfold ovN; rw [List.range_succ, List.any_append]; simp
theorem ovN_eq {chans : List Int} {t : List EvD} {th x : Int} {i : Nat} : ∀ m, m ≤ t.length → ovN chans t th x i m = ovR chans t th x i m
  | 0, _ => rfl
  | m + 1, h => by
    rw [ovN_succ, ovR_succ, ovN_eq m (by omega), bI_at (by omega), bI_at (by omega), decide_eq_true (show m < t.length by omega), Bool.true_and]
    rcases stP t x m <;> rcases decide (i < m) <;> rcases befB (dW chans t th x) i m <;> rcases befB (dW chans t th x) m t.length <;> rfl
theorem ovN_end (chans : List Int) (t : List EvD) (th x : Int) (i : Nat) : ovN chans t th x i t.length = ovB chans t (knL chans t th x) i := by
  rw [ovN_eq _ (Nat.le_refl _), ovR_end]
/-- Is it among the first m? -/
def thB (M : List Int) (i m : Nat) : Bool := (M.take m).any fun y => y == (i : Int)
theorem thB_succ {M : List Int} {i m : Nat} {y : Int} (h : M[m]? = some y) : thB M i (m + 1) = (thB M i m || y == (i : Int)) := by
  unfold thB; rw [List.take_add_one, h, List.any_append]; simp
theorem thB_end {chans : List Int} {t : List EvD} {th x : Int} {i : Nat} (hi : i < t.length) : thB (mayL chans t th x) i (mayL chans t th x).length = (stP t x i && !ovB chans t (knL chans t th x) i) := by
  unfold thB
  rw [List.take_length, Bool.eq_iff_iff, List.any_eq_true]
  constructor
  · rintro ⟨y, hy, h⟩
    have hyi : y = (i : Int) := by simpa using h
    subst hyi
    unfold mayL at hy
    rcases List.mem_append.1 hy with hy | hy
    · obtain ⟨k, hk, e⟩ := List.mem_map.1 hy
      have : k = i := by omega
      subst this
      exact (List.mem_filter.1 hk).2
    · split at hy
      · have hy := List.mem_singleton.1 hy; omega
      · simp at hy
  · intro h
    refine ⟨(i : Int), ?_, by simp⟩
    unfold mayL
    exact List.mem_append.2 (.inl (List.mem_map.2 ⟨i, List.mem_filter.2 ⟨by simpa using hi, h⟩, rfl⟩))
end Go.Proofs.YtglafbajbiengaaGreat
namespace Go.Proofs.YtglafbajbiengaaGreat
open Go.ChangeShapes Go.WideShapes Go.ChangeAt Go.RowKit
/-- A run: where its box lies, its state, its picks, its events; what it leaves alone since u0. -/
structure Pw (q0 q1 q2 q3 q4 q5 q6 : Value) (u0 u : World) (r b hi : Nat) (pv kv tv : Value) (m : Nat → Int) (code : List (List InsD)) (pr pk : List Int) (tr : List EvD) : Prop where
  st : StIn u b (b + 1) hi pv m code pr
  inv : Inv m code
  box : u.heap[r]? = some (.cells #[.pointer (some ⟨b, 0, none⟩), q0, q1, q2, q3, q4, q5, q6, kv, tv] 74)
  hb : b < hi
  hr : hi ≤ r
  hr0 : r < u0.heap.size
  pvAt : ∀ g, pv.ownBlock = some g → u0.heap.size ≤ g
  picks : u.ownsRow u0.heap.size 3 1 kv pk.length (pk.map (.int .i64 ·))
  trace : u.ownsRow u0.heap.size 31 6 tv tr.length (evsCells tr)
  a1 : Apart kv pv
  a2 : Apart tv pv
  a3 : Apart kv tv
  touch : Touch (fun j => j = b ∨ j = r) u0 u
theorem Pw.later {q0 q1 q2 q3 q4 q5 q6 : Value} {u0 u u' : World} {r b hi : Nat} {pv kv tv : Value} {m : Nat → Int} {code : List (List InsD)} {pr pk : List Int} {tr : List EvD} (h : Pw q0 q1 q2 q3 q4 q5 q6 u0 u r b hi pv kv tv m code pr pk tr) (hB : Below u.heap.size u u') : Pw q0 q1 q2 q3 q4 q5 q6 u0 u' r b hi pv kv tv m code pr pk tr :=
  ⟨h.st.later hB, h.inv, (hB.block _ (Nat.lt_of_lt_of_le h.hr0 h.touch.size)).trans h.box, h.hb, h.hr, h.hr0, h.pvAt, own_later h.picks hB, own_later h.trace hB, h.a1, h.a2, h.a3, h.touch.trans (Touch.of_below hB) (fun _ _ h => h)⟩
/-- A step of its state. -/
theorem Pw.stepped {q0 q1 q2 q3 q4 q5 q6 : Value} {u0 u u' : World} {r b hi : Nat} {pv pv' kv tv : Value} {m m' : Nat → Int} {code : List (List InsD)} {pr pr' pk : List Int} {tr : List EvD} (h : Pw q0 q1 q2 q3 q4 q5 q6 u0 u r b hi pv kv tv m code pr pk tr)
    (S : StIn u' b (b + 1) hi pv' m' code pr') (I : Inv m' code) (T : Touch (fun j => j = b ∨ pv.ownBlock = some j) u u') (ho : pv'.ownBlock = pv.ownBlock ∨ ∃ g, pv'.ownBlock = some g ∧ u.heap.size ≤ g) : Pw q0 q1 q2 q3 q4 q5 q6 u0 u' r b hi pv' kv tv m' code pr' pk tr := by
  have hb := h.hb
  have hr := h.hr
  have hr0 := h.hr0
  have hsz := h.touch.size
  have ap : ∀ {e : TypeId} {s : Nat} {v : Value} {n : Nat} {xs : List Value}, u.ownsRow u0.heap.size e s v n xs → Apart v pv → u'.ownsRow u0.heap.size e s v n xs ∧ Apart v pv' := fun {e s v n xs} hv ha => by
    refine ⟨own_touch hv T ?_, ?_⟩
    · rintro g hg (e1 | e1)
      · have := (own_lt hv g hg).2; omega
      · exact apart_ne ha hg e1
    · rcases ho with e1 | ⟨g, e1, e2⟩
      · unfold Apart; rw [e1]; exact ha
      · by_cases hn : v.ownBlock = none
        · exact .inl hn
        · exact .inr fun e3 => by rw [e1] at e3; have := (own_lt hv g e3).1; omega
  refine ⟨S, I, (T.block r (by omega) ?_).trans h.box, hb, hr, hr0, ?_, (ap h.picks h.a1).1, (ap h.trace h.a2).1, (ap h.picks h.a1).2, (ap h.trace h.a2).2, h.a3, h.touch.trans T ?_⟩
  · rintro (e | e)
    · omega
    · have := h.pvAt r e; omega
  · intro g hg
    rcases ho with e1 | ⟨g', e1, e2⟩
    · exact h.pvAt g (e1.symm.trans hg)
    · rw [e1] at hg; cases hg; omega
  · rintro k hk (e | e)
    · exact .inl e
    · have := h.pvAt k e; omega
/-- One more pick. -/
theorem Pw.pick {q0 q1 q2 q3 q4 q5 q6 : Value} {u0 u u' : World} {r b hi : Nat} {pv kv kv' tv : Value} {m : Nat → Int} {code : List (List InsD)} {pr pk : List Int} {tr : List EvD} (h : Pw q0 q1 q2 q3 q4 q5 q6 u0 u r b hi pv kv tv m code pr pk tr) (k : Int)
    (hrow : u'.ownsRow u0.heap.size 3 1 kv' (pk.length + 1) (pk.map (.int .i64 ·) ++ [.int .i64 k])) (hg : u.grownBy u' kv.ownBlock) (hat : kv'.ownBlock = kv.ownBlock ∨ kv'.ownBlock = some u.heap.size) :
    Pw q0 q1 q2 q3 q4 q5 q6 u0 (u'.setCell ⟨r, 8, none⟩ kv') r b hi pv kv' tv m code pr (pk ++ [k]) tr := by
  have hb := h.hb
  have hr := h.hr
  have hr0 := h.hr0
  have hsz := h.touch.size
  have hrl : r < u.heap.size := by omega
  have hkr : ∀ g, kv.ownBlock = some g → u0.heap.size ≤ g := fun g e => (own_lt h.picks g e).2
  have hbx := (hg.block r hrl (fun e => by have := hkr r e.symm; omega)).trans h.box
  have T1 : Touch (fun j => j = r ∨ kv.ownBlock = some j) u (u'.setCell ⟨r, 8, none⟩ kv') := (Touch.grown hg fun k e => .inr e).set (.inl rfl)
  have hap := apart_append h.trace h.a3.symm hat
  refine ⟨h.st.touch T1 ?_ ?_ ?_, h.inv, ?_, hb, hr, hr0, h.pvAt, ?_, own_touch h.trace T1 ?_, ?_, h.a2, hap.symm, h.touch.trans T1 ?_⟩
  · rintro (e | e)
    · omega
    · have := hkr b e; omega
  · rintro g hg' (e | e)
    · have := h.pvAt g hg'; omega
    · exact apart_ne h.a1 e hg'
  · rintro g g1 g2 (e | e)
    · omega
    · have := hkr g e; omega
  · rw [stSet_block _ _ _ _ hbx]; rfl
  · rw [show (pk ++ [k]).length = pk.length + 1 by simp, show (pk ++ [k]).map (Value.int .i64 ·) = pk.map (.int .i64 ·) ++ [.int .i64 k] by simp]
    exact own_touch (X := fun j => j = r) hrow ((Touch.of_below (Below.refl _ _)).set rfl) (fun g e e' => by have := (own_lt hrow g e).2; omega)
  · rintro g hg' (e | e)
    · have := (own_lt h.trace g hg').2; omega
    · exact apart_ne h.a3 e hg'
  · rcases hat with e | e
    · unfold Apart; rw [e]; exact h.a1
    · exact .inr fun e1 => by rw [e] at e1; have := (own_lt h.st.own _ e1.symm).1; omega
  · rintro j hj (e | e)
    · exact .inr e
    · have := hkr j e; omega
/-- One more event. -/
theorem Pw.event {q0 q1 q2 q3 q4 q5 q6 : Value} {u0 u u' : World} {r b hi : Nat} {pv kv tv tv' : Value} {m : Nat → Int} {code : List (List InsD)} {pr pk : List Int} {tr : List EvD} (h : Pw q0 q1 q2 q3 q4 q5 q6 u0 u r b hi pv kv tv m code pr pk tr) (x : EvD)
    (hrow : u'.ownsRow u0.heap.size 31 6 tv' (tr.length + 1) (evsCells tr ++ evCells x)) (hg : u.grownBy u' tv.ownBlock) (hat : tv'.ownBlock = tv.ownBlock ∨ tv'.ownBlock = some u.heap.size) :
    Pw q0 q1 q2 q3 q4 q5 q6 u0 (u'.setCell ⟨r, 9, none⟩ tv') r b hi pv kv tv' m code pr pk (tr ++ [x]) := by
  have hb := h.hb
  have hr := h.hr
  have hr0 := h.hr0
  have hsz := h.touch.size
  have hrl : r < u.heap.size := by omega
  have hkr : ∀ g, tv.ownBlock = some g → u0.heap.size ≤ g := fun g e => (own_lt h.trace g e).2
  have hbx := (hg.block r hrl (fun e => by have := hkr r e.symm; omega)).trans h.box
  have T1 : Touch (fun j => j = r ∨ tv.ownBlock = some j) u (u'.setCell ⟨r, 9, none⟩ tv') := (Touch.grown hg fun k e => .inr e).set (.inl rfl)
  have hap := apart_append h.picks h.a3 hat
  refine ⟨h.st.touch T1 ?_ ?_ ?_, h.inv, ?_, hb, hr, hr0, h.pvAt, own_touch h.picks T1 ?_, ?_, h.a1, ?_, hap, h.touch.trans T1 ?_⟩
  · rintro (e | e)
    · omega
    · have := hkr b e; omega
  · rintro g hg' (e | e)
    · have := h.pvAt g hg'; omega
    · exact apart_ne h.a2 e hg'
  · rintro g g1 g2 (e | e)
    · omega
    · have := hkr g e; omega
  · rw [stSet_block _ _ _ _ hbx]; rfl
  · rintro g hg' (e | e)
    · have := (own_lt h.picks g hg').2; omega
    · exact apart_ne h.a3.symm e hg'
  · rw [show (tr ++ [x]).length = tr.length + 1 by simp, evsCells_snoc]
    exact own_touch (X := fun j => j = r) hrow ((Touch.of_below (Below.refl _ _)).set rfl) (fun g e e' => by have := (own_lt hrow g e).2; omega)
  · rcases hat with e | e
    · unfold Apart; rw [e]; exact h.a2
    · exact .inr fun e1 => by rw [e] at e1; have := (own_lt h.st.own _ e1.symm).1; omega
  · rintro j hj (e | e)
    · exact .inr e
    · have := hkr j e; omega
theorem cells10 {w : World} {b : Nat} {a0 a1 a2 a3 a4 a5 a6 a7 a8 a9 : Value} {t : TypeId} (h : w.heap[b]? = some (.cells #[a0, a1, a2, a3, a4, a5, a6, a7, a8, a9] t)) :
    w.cell? ⟨b, 0, none⟩ = some a0 ∧ w.cell? ⟨b, 1, none⟩ = some a1 ∧ w.cell? ⟨b, 2, none⟩ = some a2 ∧ w.cell? ⟨b, 3, none⟩ = some a3 ∧ w.cell? ⟨b, 4, none⟩ = some a4 ∧ w.cell? ⟨b, 5, none⟩ = some a5 ∧ w.cell? ⟨b, 6, none⟩ = some a6 ∧ w.cell? ⟨b, 7, none⟩ = some a7 ∧ w.cell? ⟨b, 8, none⟩ = some a8 ∧ w.cell? ⟨b, 9, none⟩ = some a9 := by
  refine ⟨?_, ?_, ?_, ?_, ?_, ?_, ?_, ?_, ?_, ?_⟩ <;> (rw [cell_of_row _ _ _ _ _ _ h]; rfl)
theorem info_eventT : (Tryz.prog.info? 31).map (fun i => (i.zero, i.size, i.bytes)) = some (some (evV 0 0 0 0 0 0), 6, 48) := by kernel_rfl
theorem cells_ev_new (w : World) (x : EvD) (t : TypeId) : ∀ j u, (evCells x)[j]? = some u → (w.alloc (.cells #[.int .i64 x.th, .int .i64 x.pc, .int .u8 x.op, .int .i64 x.obj, .int .i64 x.val, .int .i64 x.mode] t)).cell? ((⟨w.heap.size, 0, none⟩ : Addr).add j) = some u := by
  intro j u hj
  rw [Addr.add_mid, Nat.zero_add, cell_of_row _ _ _ _ _ _ (heap_alloc_new _ _)]
  simpa [evCells] using hj
theorem st_one_newW (w : World) (v : Value) (t : TypeId) : ∀ j u, [v][j]? = some u → (w.alloc (.cells #[v] t)).cell? ((⟨w.heap.size, 0, none⟩ : Addr).add j) = some u := st_one_new0 w v t
/-- A run, wherever its rows lie. -/
def Rw (q0 q1 q2 q3 q4 q5 q6 : Value) (u0 u : World) (r b hi : Nat) (m : Nat → Int) (code : List (List InsD)) (pr pk : List Int) (tr : List EvD) : Prop := ∃ pv kv tv, Pw q0 q1 q2 q3 q4 q5 q6 u0 u r b hi pv kv tv m code pr pk tr
theorem Rw.later {q0 q1 q2 q3 q4 q5 q6 : Value} {u0 u u' : World} {r b hi : Nat} {m : Nat → Int} {code : List (List InsD)} {pr pk : List Int} {tr : List EvD} (h : Rw q0 q1 q2 q3 q4 q5 q6 u0 u r b hi m code pr pk tr) (hB : Below u.heap.size u u') : Rw q0 q1 q2 q3 q4 q5 q6 u0 u' r b hi m code pr pk tr := by
  obtain ⟨pv, kv, tv, h⟩ := h; exact ⟨pv, kv, tv, h.later hB⟩
theorem takeW_no {q0 q1 q2 q3 q4 q5 q6 : Value} {u0 u : World} {r b hi : Nat} {m : Nat → Int} {code : List (List InsD)} {pr pk : List Int} {tr : List EvD} (h : Rw q0 q1 q2 q3 q4 q5 q6 u0 u r b hi m code pr pk tr) (k : Int) (hc : canM code m k = false) (fv : Value) :
    Calls Tryz.prog 28 #[.pointer (some ⟨r, 0, none⟩), .int .i64 k, fv] u fun e w' => e = .returned (.tuple #[]) ∧ Rw q0 q1 q2 q3 q4 q5 q6 u0 w' r b hi m code pr pk tr := by
  obtain ⟨pv, kv, tv, h⟩ := h
  obtain ⟨c0, _⟩ := cells10 h.box
  have HH := Lib.hid h
  have HC := Lib.hid (step_no k u h.st h.inv hc)
  clear h hc
  go_enter Tryz.func28, Tryz.ntmps28
  go_wp2_with (first
    | (go_at_call 44; refine HC.out.mono ?_; rintro e w1 ⟨rfl, hB1⟩; have HB1 := Lib.hid hB1; clear hB1))
  refine bodyPost_ret (results_none rfl _ _ _) rfl ?_
  exact ⟨rfl, pv, kv, tv, (HH.out.later HB1.out).later (below_box _ _)⟩
/-- The end of a pick: it and its event are appended. -/
theorem takeW_plain {q0 q1 q2 q3 q4 q5 q6 : Value} {u0 u : World} {r b hi : Nat} {m : Nat → Int} {code : List (List InsD)} {pr pk : List Int} {tr : List EvD} (h : Rw q0 q1 q2 q3 q4 q5 q6 u0 u r b hi m code pr pk tr) (hpl : pr.length ≤ 1000000) (hpk : pk.length ≤ 1000000) (htr : tr.length ≤ 1000000) (k : Int) (hc : canM code m k = true) (hop : (stepE code m k).op ≠ 7) (fv : Value) :
    Calls Tryz.prog 28 #[.pointer (some ⟨r, 0, none⟩), .int .i64 k, fv] u fun e w' => e = .returned (.tuple #[]) ∧ Rw q0 q1 q2 q3 q4 q5 q6 u0 w' r b hi (stepM code m k) code (pr ++ stepT code m k) (pk ++ [k]) (tr ++ [stepE code m k]) := by
  obtain ⟨pv, kv, tv, h⟩ := h
  obtain ⟨c0, _⟩ := cells10 h.box
  obtain ⟨t0, ti, tz0, tz1, tz2⟩ := info_parts info_intT
  obtain ⟨i0, ii, iz0, iz1, iz2⟩ := info_parts info_eventT
  have hC := st_step h.st h.inv hpl k
  rw [hc, stepV_E] at hC
  generalize stepE code m k = ev at hC hop ⊢
  obtain ⟨e0, e1, e2, e3, e4, e5⟩ := ev
  simp only [EvD.v] at hC
  have hop' : (e2 == 7) = false := by simpa using hop
  have HC := Lib.hid hC
  obtain ⟨ka, kc, rfl⟩ := st_slice h.picks
  obtain ⟨ta, tc, rfl⟩ := st_slice h.trace
  have HH := Lib.hid h
  have hr0 := h.hr0
  have hsz := h.touch.size
  clear h hc hC hop
  go_enter Tryz.func28, Tryz.ntmps28
  go_upto_region 5 with (first
    | (go_at_call 44; refine HC.out.mono ?_; rintro e w1 ⟨rfl, I', _, pv', S', T', ho⟩; have hP0 := HH.out.stepped S' I' T' ho; have hw1 := T'.size; have HW1 : Hid (∀ g, (Value.slice ka pk.length kc).ownBlock = some g → g < w1.heap.size) := Lib.hid (fun g e => (own_lt hP0.picks g e).1); have HP := Lib.hid (hP0.later (below_box w1 (evC e0 e1 e2 e3 e4 e5))); clear S' T' ho I' hP0))
  generalize hV : World.alloc w1 _ = V
  have HE : Hid (V.heap[w1.heap.size]? = some (evC e0 e1 e2 e3 e4 e5)) := Lib.hid (by rw [← hV]; exact heap_alloc_new _ _)
  have HPV : Hid (Pw q0 q1 q2 q3 q4 q5 q6 u0 V r b hi pv' (.slice ka pk.length kc) (.slice ta tr.length tc) (stepM code m k) code (pr ++ stepT code m k) pk tr) := Lib.hid (by rw [← hV]; exact HP.out)
  clear hV HP HC HH c0
  generalize w1.heap.size = g at *
  have HGA0 : Hid ((Value.slice ka pk.length kc).ownBlock ≠ some g) := Lib.hid (fun e => absurd (HW1.out g e) (by omega))
  have hka : ∀ g, (Value.slice ka pk.length kc).ownBlock = some g → u0.heap.size ≤ g ∧ g < V.heap.size := fun g e => ⟨(own_lt HPV.out.picks g e).2, (own_lt HPV.out.picks g e).1⟩
  have hVs := HPV.out.touch.size
  have hgV : g < V.heap.size := (Array.getElem?_eq_some_iff.1 HE.out).1
  obtain ⟨d0, _, _, _, _, _, _, _, d8, _⟩ := cells10 HPV.out.box
  have HGA : Hid ((Value.slice ka pk.length kc).ownBlock ≠ some g) := Lib.hid (HGA0.out)
  go_upto_region 6 with (first
    | (at_builtin; refine wpList_append_own_at _ rfl _ _ 23 rfl u0.heap.size 3 t0 (.int .i64 0) 1 8 Tryz.underlying23 ti tz0 tz1 tz2 rfl (by decide) (.slice ka pk.length kc) pk.length (pk.map (.int .i64 ·)) rfl (own_later HPV.out.picks (below_box _ _)) ⟨V.heap.size, 0, none⟩ 1 1 [.int .i64 k] rfl rfl (st_one_newW _ _ _) (by simp [Value.oneCell']) (by unfold maxLen; omega) (by omega) (by simp; omega) ?_; intro v' w3 hown3 hgrow3 _ hat3; obtain ⟨ka', kc', rfl⟩ := st_slice hown3; have b3 := hgrow3.block r (by simp; omega) (fun e => by have := hka r e.symm; omega); have hbx := b3.trans (HPV.out.later (below_box _ _)).box; obtain ⟨c30, _, _, _, _, _, _, _, c38, _⟩ := cells10 hbx; have f3 := frozen_of_row _ _ 8 _ _ hbx; have he3 := (hgrow3.block g (by simp; omega) (fun e => HGA.out e.symm)).trans ((Below.heap_alloc _ _ _ hgV).trans HE.out); have HP3 := Lib.hid ((HPV.out.later (below_box _ _)).pick k hown3 hgrow3 hat3); have HE3 := Lib.hid he3; clear hown3 hgrow3 hat3 b3 hbx he3))
  generalize hU : World.setCell w3 _ _ = U
  have hP : Pw q0 q1 q2 q3 q4 q5 q6 u0 U r b hi pv' (.slice ka' (pk.length + 1) kc') (.slice ta tr.length tc) (stepM code m k) code (pr ++ stepT code m k) (pk ++ [k]) tr := by rw [← hU]; exact HP3.out
  have hE : U.heap[g]? = some (evC e0 e1 e2 e3 e4 e5) := by rw [← hU]; exact (Below.heap_setCell _ _ _ _ (by simp only; omega)).trans HE3.out
  clear hU HP3 HE3 f3 HPV HE d0 d8 c30 c38
  obtain ⟨c2, _, _, _, _, _, _, _, _, c9⟩ := cells10 hP.box
  obtain ⟨v0, v1, v2, v3, v4, v5⟩ := cells6 hE
  have hrl : r < U.heap.size := cell_lt c2
  have hgl : g < U.heap.size := cell_lt v0
  have c2' : ∀ o, (U.alloc o).cell? ⟨r, 9, none⟩ = some (.slice ta tr.length tc) := fun o => ((below_box U o).cell (p := ⟨r, 9, none⟩) hrl).trans c9
  have HP := Lib.hid hP
  clear hP hE
  go_region_law ((rw [if_pos (by rfl)]); refine wp_append_own_at _ (.tmp 74) (.tmp 76) 27 rfl u0.heap.size 31 i0 (evV 0 0 0 0 0 0) 6 48 Tryz.underlying27 ii iz0 iz1 iz2 rfl (by decide) (.slice ta tr.length tc) tr.length (evsCells tr) rfl (own_later HP.out.trace (below_box U _).drew) ⟨U.heap.size, 0, none⟩ 1 1 (evCells ⟨e0, e1, e2, e3, e4, e5⟩) rfl rfl (cells_ev_new U ⟨e0, e1, e2, e3, e4, e5⟩ _) (ev_one _) (by unfold maxLen; omega) (by omega) (by simp; omega) ?_; intro v' w4 hown' hgrow _ hat; obtain ⟨ta', tc', rfl⟩ := st_slice hown'; have hq := HP.out.later ((below_box U (evC e0 e1 e2 e3 e4 e5)).drew); have b9 := (hgrow.block r (by simp; omega) (fun e => by have := (own_lt HP.out.trace _ e.symm).2; omega)).trans hq.box; obtain ⟨_, _, _, _, _, _, _, _, _, c99⟩ := cells10 b9; have f9 := frozen_of_row _ _ 9 _ _ b9)
  all_goals
    have hfin := hq.event ⟨e0, e1, e2, e3, e4, e5⟩ hown' hgrow hat
    go_wp2
    go_end0
    exact ⟨rfl, _, _, _, hfin⟩
end Go.Proofs.YtglafbajbiengaaGreat
