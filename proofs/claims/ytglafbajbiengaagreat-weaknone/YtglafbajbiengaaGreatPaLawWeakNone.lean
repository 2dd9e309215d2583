/- WeakNone: what a load may read is no store that is in order ahead of another one that is in order ahead of the load; all others may be read; for every input. -/
import Derived.ChangeMaps5
import Derived.Test.YtglafbajbiengaaGreatPa1
import Derived.Test.YtglafbajbiengaaGreatPa2
import Derived.Test.YtglafbajbiengaaGreatPa3
import Derived.Test.YtglafbajbiengaaGreatPa4
import Derived.Test.YtglafbajbiengaaGreatPa5
import Derived.Test.YtglafbajbiengaaGreatPa6
import Derived.Test.YtglafbajbiengaaGreatPa7
import Derived.Test.YtglafbajbiengaaGreatPa8
import Derived.Test.YtglafbajbiengaaGreatPa9
import Derived.Test.YtglafbajbiengaaGreatPa10
import Derived.Test.YtglafbajbiengaaGreatPa11
import Derived.Test.YtglafbajbiengaaGreatPa12
import Derived.Test.YtglafbajbiengaaGreatPa13
import Derived.Test.YtglafbajbiengaaGreatPa14
import Derived.Test.YtglafbajbiengaaGreatPa15
import Derived.Test.YtglafbajbiengaaGreatPa16
import Derived.Test.YtglafbajbiengaaGreatPa17
import Derived.Test.YtglafbajbiengaaGreatPa18
import Derived.Test.YtglafbajbiengaaGreatPa19
import Derived.Test.YtglafbajbiengaaGreatPa20
import Derived.Test.YtglafbajbiengaaGreatPa21
import Derived.Test.YtglafbajbiengaaGreatPa22
import Derived.Test.YtglafbajbiengaaGreatPa23
import Derived.Test.YtglafbajbiengaaGreatPa24
import Derived.Test.YtglafbajbiengaaGreatPa25
import Derived.Test.YtglafbajbiengaaGreatPa26
import Derived.Test.YtglafbajbiengaaGreatPa27
import Derived.Test.YtglafbajbiengaaGreatPa28
import Derived.Test.YtglafbajbiengaaGreatPa29
namespace Go.Proofs.YtglafbajbiengaaGreat
set_option linter.unusedVariables false
set_option linter.unusedSimpArgs false
open Go.ChangeShapes Go.WideShapes Go.ChangeAt Go.RowKit

def c11N : List Int := [1, 1]
theorem wfN {v : Int} (h : v = 0 ∨ v = 1 ∨ v = 2) : Wf v := by rcases h with rfl | rfl | rfl <;> (unfold Wf; kernel_rfl)
set_option maxRecDepth 100000 in
set_option maxHeartbeats 4000000 in
theorem weakNone_walk (ra : Option Addr) (rc : Nat) (l : List (Nat × Nat)) (x y : Int) (w : World) (h : RawIn w ra l) (hl : l.length ≤ 9223372036854775807) (hx : (Lit.int .u8 x).wf = true) (hy : (Lit.int .u8 y).wf = true) :
    Calls Tryz.prog 3 #[.slice ra l.length rc, .int .u8 x, .int .u8 y] w fun e w' => e = .returned (.bool true) ∧ Below w.heap.size w w' := by
  obtain ⟨x0, x1⟩ := bounds_u8 hx
  obtain ⟨y0, y1⟩ := bounds_u8 hy
  clear hx hy
  obtain ⟨x, rfl⟩ : ∃ q : Nat, x = q := ⟨x.toNat, by omega⟩
  obtain ⟨y, rfl⟩ : ∃ q : Nat, y = q := ⟨y.toNat, by omega⟩
  obtain ⟨ti, hti, iz0, iz1, iz2⟩ := info_parts info_evW
  have HT := Lib.hid (fun V (hB : Below w.heap.size w V) => trace_any ra rc l V ⟨fun k p hk => by
    obtain ⟨g, o, e, hg, c0, c1⟩ := h.cell k p hk
    exact ⟨g, o, e, Nat.lt_of_lt_of_le hg hB.size, (hB.cell (p := ⟨g, o + k * 2, none⟩) hg).trans c0, (hB.cell (p := ⟨g, o + k * 2 + 1, none⟩) hg).trans c1⟩, h.wf⟩ hl)
  have HKW := Lib.hid (fun V => known9_any V)
  clear h
  go_enter Tryz.func3, Tryz.ntmps3
  go_upto_region 2 with (fail)
  generalize hV0 : World.alloc (World.alloc w _) _ = V0
  have n1 := (congrArg (fun x : World => x.heap[w.heap.size]?) hV0).symm.trans ((Below.heap_alloc _ _ _ (by simp)).trans (heap_alloc_new _ _))
  have n2 := (congrArg (fun x : World => x.heap[w.heap.size + 1]?) hV0).symm.trans (heap_alloc2_new _ _ _)
  have HV0 := Lib.hid (show Below w.heap.size w V0 by rw [← hV0]; exact below_two _ _ _)
  have HN1 := Lib.hid n1
  have HN2 := Lib.hid n2
  have HT0 := Lib.hid (HT.out V0 HV0.out)
  clear hV0 n1 n2 HT
  go_upto_region 3 with (go_at_call 7; refine HT0.out.mono ?_; rintro e V1 ⟨v, rfl, xa, xc, rfl, hxc, hxo, hxB⟩)
  have HXB := Lib.hid hxB
  have HCH : Hid (ChIn V1 (some ⟨w.heap.size, 0, none⟩) c11N) := Lib.hid (by
    refine ChIn.later ⟨fun i x hx => ?_, by simp [c11N], by intro c hc; simp [c11N] at hc; rcases hc with rfl | rfl <;> omega⟩ hxB
    match i, hx with
    | 0, hx => cases hx; exact ⟨_, 0, rfl, (Array.getElem?_eq_some_iff.1 HN1.out).1, cell_of_row _ _ 0 _ _ _ HN1.out⟩
    | 1, hx => cases hx; exact ⟨_, 0, rfl, (Array.getElem?_eq_some_iff.1 HN1.out).1, cell_of_row _ _ 1 _ _ _ HN1.out⟩
    | i + 2, hx => simp [c11N] at hx)
  have HEV := Lib.hid (evsIn_own hxo)
  have htl : (trL l).length ≤ 25 := by rw [trL_len]; omega
  have HWF := Lib.hid (trL_wf l)
  have HPB := Lib.hid (old_later HN2.out hxB)
  have HB1 := Lib.hid (below_next HV0.out hxB)
  have hgs : w.heap.size + 1 < V1.heap.size := (Array.getElem?_eq_some_iff.1 HPB.out).1
  generalize trL l = tr at *
  clear hxo hxB HN1 HN2 HT0 HXB HV0
  go_upto_region 6 with (fail)
  have hm : (if (16 : Int) < (tr.length : Int) then (16 : Int) else (tr.length : Int)) = ((tr.take 16).length : Int) := by
    rw [List.length_take]; split <;> omega
  simp only [hm, Int.toNat_natCast]
  have hxc2 : (tr.take 16).length ≤ xc := by rw [List.length_take]; omega
  have htl2 : (tr.take 16).length ≤ 16 := by rw [List.length_take]; omega
  have HEV := Lib.hid (HEV.out.take 16)
  have HWF : Hid (∀ e ∈ tr.take 16, EvW e) := Lib.hid (fun e he => HWF.out e (List.mem_of_mem_take he))
  generalize tr.take 16 = t at *
  clear hm hxc htl
  have hTw : Wf ((x : Int) % 3) := wfN (by omega)
  have hXw : Wf ((y : Int) % 2) := wfN (by omega)
  generalize (x : Int) % 3 = TH at *
  generalize (y : Int) % 2 = X at *
  have HTw := Lib.hid hTw
  have HXw := Lib.hid hXw
  clear hTw hXw x0 x1 y0 y1
  have one : (#[Value.int .i64 0, .int .i64 0, .int .i64 0, .slice (some ⟨w.heap.size, 0, none⟩) c11N.length 2, .int .i64 0, .int .i64 0, .slice none 0 0] : Array Value).all (·.oneCell') = true := by simp [Value.oneCell']
  have HMay := Lib.hid (may_any (.int .i64 0) (.int .i64 0) (.int .i64 0) (some ⟨w.heap.size, 0, none⟩) 2 c11N (.int .i64 0) (.int .i64 0) (.slice none 0 0) xa xc t TH X V1 HCH.out HEV.out HWF.out HTw.out HXw.out (by omega) hxc2 one)
  have HMl := Lib.hid (mayL_len c11N t TH X)
  have HTE := Lib.hid (fun i (hi : i < t.length) => thB_end (chans := c11N) (t := t) (th := TH) (x := X) hi)
  have HOE := Lib.hid (fun i => ovN_end c11N t TH X i)
  unfold MayE at HMay
  generalize mayL c11N t TH X = M at *
  obtain ⟨p0, p1, p2, p3, p4, p5, p6⟩ := box7 HPB.out
  go_upto_region 7 with (go_at_call 8; refine HMay.out.mono ?_; rintro e V2 ⟨ma, mc, rfl, hr2, hB2⟩)
  have HB2 := Lib.hid hB2
  have HR2 := Lib.hid hr2
  have hMl : M.length ≤ 20 := by have := HMl.out; omega
  clear p0 p1 p2 p3 p4 p5 p6 hr2 hB2 HMay HTw HXw HMl
  go_upto_region 9 with (at_builtin; refine wpList_append_evs rfl _ _ rfl V2.heap.size (.slice none 0 0) 0 [] rfl (World.ownsRow_nil _ _ _ _) xa xc V2.heap.size t rfl (HEV.out.later HB2.out) (by omega) (Nat.le_refl _) ?_; intro v' w1 hown1 hgrow1 _; have HB3 : Hid (Below V2.heap.size V2 w1) := Lib.hid ((Below.refl _ _).grown hgrow1 (Nat.le_refl _) (by intro g e; cases e)); rw [Nat.zero_add, List.nil_append] at hown1; obtain ⟨ya, yc, rfl⟩ := own_slice0 hown1; have HO1 := Lib.hid hown1; clear hown1 hgrow1)
  go_upto_region 10 with (at_builtin; refine wpList_append_own_at _ rfl _ _ 27 rfl V2.heap.size 31 ti (evV 0 0 0 0 0 0) 6 48 Tryz.underlying27 hti iz0 iz1 iz2 rfl (by decide) (.slice ya t.length yc) t.length (evsCells t) rfl (own_later HO1.out (below_box w1 _)) ⟨w1.heap.size, 0, none⟩ 1 1 (evCells (ldE TH X)) rfl rfl (cells_newW w1 _ _) (ev_one _) (by unfold maxLen; omega) (by omega) (by have := HB3.out.size; simp; omega) ?_; intro v2 w2 hown2 hgrow2 _ hat2; have HB4 : Hid (Below V2.heap.size V2 w2) := Lib.hid ((below_new HB3.out (.cells (evCells (ldE TH X)).toArray 31)).trans ((Below.refl _ _).grown hgrow2 (by have := HB3.out.size; simp; omega) (fun g e => (own_lt HO1.out g e).2))); obtain ⟨za, zc, rfl⟩ := own_slice0 hown2; have HO2 := Lib.hid hown2; clear hown2 hgrow2 hat2)
  have htl3 : (t ++ [ldE TH X]).length = t.length + 1 := by simp
  have hE2 : EvsIn w2 w2.heap.size za (t ++ [ldE TH X]) := by
    have h := HO2.out
    rw [← evsCells_snoc, ← htl3] at h
    exact evsIn_own h
  have HE2 := Lib.hid hE2
  have HBL := Lib.hid (below_next HB2.out HB4.out)
  have HPB2 := Lib.hid (old_later HPB.out HBL.out)
  have HBf := Lib.hid (fun V (hV : Below w2.heap.size w2 V) (i j : Nat) => (show Calls Tryz.prog 9 #[.agg #[.int .i64 0, .int .i64 0, .int .i64 0, .slice (some ⟨w.heap.size, 0, none⟩) 2 2, .int .i64 0, .int .i64 0, .slice none 0 0], .slice za (t.length + 1) zc, .int .i64 i, .int .i64 j] V fun e w' => e = .returned (.bool (befI c11N (t ++ [ldE TH X]) (i : Nat) (j : Nat))) ∧ Below V.heap.size V w' from by
    have h := rbefore_any (.int .i64 0) (.int .i64 0) (.int .i64 0) (some ⟨w.heap.size, 0, none⟩) 2 c11N (.int .i64 0) (.int .i64 0) (.slice none 0 0) za zc (t ++ [ldE TH X]) (i : Int) (j : Int) V (HCH.out.later (below_next HBL.out hV)) (HE2.out.later hV) (by simp; omega) one
    rw [htl3] at h
    exact h))
  have HEt := Lib.hid (fun V (hV : Below w2.heap.size w2 V) => HEV.out.later (below_next HBL.out hV))
  have HRt := Lib.hid (fun V (hV : Below w2.heap.size w2 V) => HR2.out.later (below_next HB4.out hV))
  have HBA := Lib.hid (below_next HB1.out HBL.out)
  have HL0 := Lib.hid (Below.refl w2.heap.size w2)
  clear hE2 HO1 HO2 HB1 HB2 HB3 HB4 HBL HE2 htl3 one HCH HEV HWF HR2 HPB
  go_wp2_with fail
  go_loopw [13] (fun i u => ∃ d : Nat, d ≤ t.length ∧ i = .int .i64 d ∧ Below w2.heap.size w2 u) (fun i _ => t.length - (intOf i).toNat)
  case atStart => exact ⟨0, Nat.zero_le _, rfl, HL0.out⟩
  case round =>
    obtain ⟨d, hd, rfl, hO⟩ := hrel
    have HO := Lib.hid hO
    clear hO
    by_cases hdn : d < t.length
    · obtain ⟨e, hx⟩ := at_lt hdn
      have hdn' : (d : Int) < (t.length : Int) := by omega
      have HX := Lib.hid (show stP t X d = (e.op == 8 && e.obj == X) from stP_at hx X)
      obtain ⟨g, o, rfl, hg, e0, e1, e2, e3, e4, e5⟩ := HEt.out _ HO.out d e hx
      clear hx e0 e1 e4 e5
      obtain ⟨th', pc', op', obj', val', mode'⟩ := e
      simp only at HX e2 e3
      rcases h1 : (op' == 8) with _ | _
      · have h1n : (op' != 8) = true := by rw [bne, h1]; rfl
        go_wp2_with fail
        go_roundw
        case rel => exact ⟨d + 1, by omega, by go_num, HO.out⟩
        case measure => simp [intOf] <;> omega
      · have h1n : (op' != 8) = false := by rw [bne, h1]; rfl
        rcases h3 : (obj' == X) with _ | _
        · have h3n : (obj' != X) = true := by rw [bne, h3]; rfl
          go_wp2_with fail
          go_roundw
          case rel => exact ⟨d + 1, by omega, by go_num, HO.out⟩
          case measure => simp [intOf] <;> omega
        · have h3n : (obj' != X) = false := by rw [bne, h3]; rfl
          have HTD : Hid (thB M d M.length = !ovN c11N t TH X d t.length) := Lib.hid (by rw [HTE.out d hdn, HX.out, h1, h3, HOE.out d]; rfl)
          go_wp2_with fail
          go_loopw [14, 15] (fun o k u => ∃ m : Nat, m ≤ t.length ∧ k = .int .i64 m ∧ o = .bool (ovN c11N t TH X d m) ∧ Below w2.heap.size w2 u) (fun _ k _ => t.length - (intOf k).toNat)
          case atStart => exact ⟨0, Nat.zero_le _, rfl, rfl, HO.out⟩
          case round =>
            obtain ⟨m, hm2, rfl, rfl, hO2⟩ := hrel
            have HO2 := Lib.hid hO2
            clear hO2 HO e2 e3
            by_cases hmn : m < t.length
            · have hmn' : (m : Int) < (t.length : Int) := by omega
              have HSC := Lib.hid (ovN_succ c11N t TH X d m)
              rcases hov : ovN c11N t TH X d m with _ | _
              · obtain ⟨y, hy⟩ := at_lt hmn
                have HY := Lib.hid (show ovN c11N t TH X d (m + 1) = ((y.op == 8 && y.obj == X) && (befI c11N (t ++ [ldE TH X]) (d : Nat) (m : Nat) && befI c11N (t ++ [ldE TH X]) (m : Nat) (t.length : Nat))) from by rw [HSC.out, hov, stP_at hy]; rfl)
                obtain ⟨g', o', hgo', hg', f0, f1, f2, f3, f4, f5⟩ := HEt.out _ HO2.out m y hy
                cases hgo'
                clear hy f0 f1 f4 f5 HSC
                obtain ⟨yth, ypc, yop, yobj, yval, ymode⟩ := y
                simp only at HY f2 f3
                rcases g1 : (yop == 8) with _ | _
                · have HN : Hid (ovN c11N t TH X d (m + 1) = false) := Lib.hid (by rw [HY.out, g1]; rfl)
                  go_wp2_with fail
                  go_roundw
                  case rel => exact ⟨m + 1, by omega, by go_num, by rw [HN.out], HO2.out⟩
                  case measure => simp [intOf] <;> omega
                · rcases g3 : (yobj == X) with _ | _
                  · have HN : Hid (ovN c11N t TH X d (m + 1) = false) := Lib.hid (by rw [HY.out, g1, g3]; rfl)
                    go_wp2_with fail
                    go_roundw
                    case rel => exact ⟨m + 1, by omega, by go_num, by rw [HN.out], HO2.out⟩
                    case measure => simp [intOf] <;> omega
                  · have HC1 := Lib.hid (HBf.out _ HO2.out d m)
                    obtain ⟨p0, p1, p2, p3, p4, p5, p6⟩ := box7 (old_later HPB2.out HO2.out)
                    rcases hb1 : befI c11N (t ++ [ldE TH X]) (d : Nat) (m : Nat) with _ | _
                    · have HN : Hid (ovN c11N t TH X d (m + 1) = false) := Lib.hid (by rw [HY.out, g1, g3, hb1]; rfl)
                      rw [hb1] at HC1
                      go_wp2_with (go_at_call 9; refine HC1.out.mono ?_; rintro e9 w9 ⟨rfl, hB9⟩; have HO9 := Lib.hid (below_next HO2.out hB9); clear hB9)
                      go_roundw
                      case rel => exact ⟨m + 1, by omega, by go_num, by rw [HN.out], HO9.out⟩
                      case measure => simp [intOf] <;> omega
                    · have HN : Hid (ovN c11N t TH X d (m + 1) = befI c11N (t ++ [ldE TH X]) (m : Nat) (t.length : Nat)) := Lib.hid (by rw [HY.out, g1, g3, hb1]; rfl)
                      rw [hb1] at HC1
                      have HC2 := Lib.hid (fun V hV => HBf.out V hV m t.length)
                      generalize befI c11N (t ++ [ldE TH X]) (m : Nat) (t.length : Nat) = BB at *
                      go_wp2_with (first
                        | (have _g := HO9; go_at_call 9; refine (HC2.out _ HO9.out).mono ?_; rintro e8 w8 ⟨rfl, hB8⟩; have HO8 := Lib.hid (below_next HO9.out hB8); clear hB8)
                        | (go_at_call 9; refine HC1.out.mono ?_; rintro e9 w9 ⟨rfl, hB9⟩; have HO9 := Lib.hid (below_next HO2.out hB9); obtain ⟨p0, p1, p2, p3, p4, p5, p6⟩ := box7 (old_later HPB2.out HO9.out); clear hB9))
                      go_roundw
                      case rel => exact ⟨m + 1, by omega, by go_num, by rw [HN.out], HO8.out⟩
                      case measure => simp [intOf] <;> omega
              · have HN : Hid (ovN c11N t TH X d (m + 1) = true) := Lib.hid (by rw [HSC.out, hov]; rfl)
                go_wp2_with fail
                go_roundw
                case rel => exact ⟨m + 1, by omega, by go_num, by rw [HN.out], HO2.out⟩
                case measure => simp [intOf] <;> omega
            · obtain rfl : m = t.length := by omega
              clear hmn
              generalize ovN c11N t TH X d t.length = OV at *
              go_wp2_with fail
              go_loopw [16, 17] (fun o k u => ∃ m : Nat, m ≤ M.length ∧ k = .int .i64 m ∧ o = .bool (thB M d m) ∧ Below w2.heap.size w2 u) (fun _ k _ => M.length - (intOf k).toNat)
              case atStart => exact ⟨0, Nat.zero_le _, rfl, rfl, HO2.out⟩
              case round =>
                obtain ⟨m, hm3, rfl, rfl, hO3⟩ := hrel
                have HO3 := Lib.hid hO3
                clear hO3 HO2
                by_cases hmM : m < M.length
                · have hmM' : (m : Int) < (M.length : Int) := by omega
                  obtain ⟨z, hz⟩ := at_lt hmM
                  have HSC := Lib.hid (thB_succ (i := d) hz)
                  obtain ⟨gm, om, rfl, hgm, m0⟩ := HRt.out _ HO3.out m z hz
                  clear hz
                  rcases hth : thB M d m with _ | _
                  · have HN : Hid (thB M d (m + 1) = (z == (d : Int))) := Lib.hid (by rw [HSC.out, hth]; rfl)
                    go_wp2_with fail
                    go_roundw
                    case rel => exact ⟨m + 1, by omega, by go_num, by rw [HN.out], HO3.out⟩
                    case measure => simp [intOf] <;> omega
                  · have HN : Hid (thB M d (m + 1) = true) := Lib.hid (by rw [HSC.out, hth]; rfl)
                    go_wp2_with fail
                    go_roundw
                    case rel => exact ⟨m + 1, by omega, by go_num, by rw [HN.out], HO3.out⟩
                    case measure => simp [intOf] <;> omega
                · obtain rfl : m = M.length := by omega
                  clear hmM
                  rw [HTD.out]
                  rcases OV with _ | _
                  · go_wp2_with fail
                    go_roundw
                    case rel => exact ⟨d + 1, by omega, by go_num, HO3.out⟩
                    case measure => simp [intOf] <;> omega
                  · go_wp2_with fail
                    go_roundw
                    case rel => exact ⟨d + 1, by omega, by go_num, HO3.out⟩
                    case measure => simp [intOf] <;> omega
    · obtain rfl : d = t.length := by omega
      go_wp2_with (go_at_call 10; refine (HKW.out _).mono ?_; rintro e w5 ⟨rfl, hB5⟩)
      go_ret
      exact ⟨rfl, below_next HBA.out (below_next HO.out hB5)⟩
set_option maxRecDepth 100000 in
theorem weakNone_lifted (os : Os) (started : os.Started) (H : Type) (enc : TypeId × Value → H) :
    ReturnsInHanded {} Tryz.checked os 3 .any (Rows.weakNoneSpec.pre6 enc Tryz.prog Tryz.f3 Rows.weakNoneRow.domain false) (Rows.weakNoneSpec.post enc Tryz.prog Tryz.f3 false true false false) := by
  refine returnsInHanded_of_change (C := Tryz.checked) law_own started (by kernel_rfl) Tryz.func3
    (ChangeSpec.witness6 (enc := enc) (C := Tryz.checked) false ⟨#[], #[.slice none 0 0, .int .u8 0, .int .u8 0], []⟩ 8 (by kernel_rfl) (by kernel_rfl) (by kernel_rfl) (by kernel_rfl)) ?_
  intro W base args ds gs before hval0 hW hcnd _
  have hval : ∀ (j : Nat) t v, Tryz.f3.params[j]? = some t → args[j]? = some v → Value.okWide Tryz.prog W .any base t v := hval0
  have hW' := hW
  obtain ⟨p, q, hA0, hV, rfl, hfz, hnd⟩ := hW
  have hA : DataW.TrodAll enc Tryz.prog W 0 (fun _ => true) true Tryz.f3.params.toList args.toList ds p := hA0
  rw [Tryz.params3] at hA hval
  obtain ⟨v0, vs0, d0, ds0, p0, q0, hargs, rfl, rfl, h0, r0⟩ := trodAll_cons hA
  obtain ⟨v1, vs1, d1, ds1, p1, q1, rfl, rfl, rfl, h1, r1⟩ := trodAll_cons r0
  obtain ⟨v2, vs2, d2, ds2, p2, q2, rfl, rfl, rfl, h2, r2⟩ := trodAll_cons r1
  obtain ⟨rfl, rfl, rfl⟩ := trodAll_nil r2
  obtain rfl : args = #[v0, v1, v2] := by cases args; simp_all
  obtain ⟨rfl, rfl⟩ := trodVars_none hV
  have k0 := h0
  have lt0 : ∀ x ∈ p0, x.block < W.heap.size := by obtain ⟨m, hm⟩ := k0; exact DataW.trod_lt m _ _ _ hm
  obtain ⟨a0, cap0, l0, rfl, n0, w0⟩ := open_raws (hval 0 22 v0 rfl rfl) h0
  obtain ⟨a1, rfl, rfl, rfl, w1⟩ := open_int Tryz.underlying5 (hval 1 5 v1 rfl rfl) h1
  obtain ⟨a2, rfl, rfl, rfl, w2⟩ := open_int Tryz.underlying5 (hval 2 5 v2 rfl rfl) h2
  clear hA0 hval0
  refine (weakNone_walk a0 cap0 l0 a1 a2 W w0 n0 w1 w2).mono fun e W' ⟨he, bel⟩ => ?_
  subst he
  exact ⟨_, rfl, _, _, _, [], _, [], hW', trodAll_mk1 (shut_bool Tryz.underlying4 _), (trodAll_cons_mk (Below.trod law_laidOut (by kernel_rfl) (of_decide_eq_true (by kernel_rfl)) k0 bel lt0) (trodAll_cons_mk (shut_int Tryz.underlying5 w1) (trodAll_cons_mk (shut_int Tryz.underlying5 w2) trodAll_mk0))), rfl, bel.frame _, fun h => by cases h⟩

/-- The statement. -/
theorem weakNone_holds : Rows.WeakNoneSaid :=
  OpenClaim.holds_of_wide 3 Tryz.f3 rfl rfl rfl rfl rfl rfl rfl ⟨rfl, rfl, rfl, rfl, rfl⟩ rfl rfl rfl rfl rfl (by kernel_rfl) Tryz.func3 (by kernel_rfl)
    (of_decide_eq_true (by kernel_rfl)) (by unfold Func.isWrapper; first | (rw [if_pos (by decide +kernel)]; kernel_rfl) | (rw [if_neg (by decide +kernel)]; exact ⟨rfl, rfl⟩))
    (fun os started H enc _ => weakNone_lifted os started H enc)
end Go.Proofs.YtglafbajbiengaaGreat
