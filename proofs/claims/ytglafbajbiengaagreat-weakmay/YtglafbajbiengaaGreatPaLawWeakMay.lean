/- WeakMay: what a load may read, behind any events, is what the chapter says; for every input. -/
import Derived.Deep.RegionHeld3
import Derived.Deep.QuietTactic
import Derived.BigQuiet
import Derived.ChangeMaps5
import Derived.Test.YtglafbajbiengaaGreatPa1
import Derived.Test.YtglafbajbiengaaGreatPa2
import Derived.Test.YtglafbajbiengaaGreatPa3
import Derived.Test.YtglafbajbiengaaGreatPa4
import Derived.Test.YtglafbajbiengaaGreatPa5
import Derived.Test.YtglafbajbiengaaGreatPa6
import Derived.Test.YtglafbajbiengaaGreatPa7
import Derived.Test.YtglafbajbiengaaGreatPa8
import Derived.Test.YtglafbajbiengaaGreatPa9
import Derived.Test.YtglafbajbiengaaGreatPa10
import Derived.Test.YtglafbajbiengaaGreatPa11
import Derived.Test.YtglafbajbiengaaGreatPa12
import Derived.Test.YtglafbajbiengaaGreatPa13
import Derived.Test.YtglafbajbiengaaGreatPa14
import Derived.Test.YtglafbajbiengaaGreatPa15
import Derived.Test.YtglafbajbiengaaGreatPa16
import Derived.Test.YtglafbajbiengaaGreatPa17
import Derived.Test.YtglafbajbiengaaGreatPa18
import Derived.Test.YtglafbajbiengaaGreatPa19
import Derived.Test.YtglafbajbiengaaGreatPa20
import Derived.Test.YtglafbajbiengaaGreatPa21
import Derived.Test.YtglafbajbiengaaGreatPa22
import Derived.Test.YtglafbajbiengaaGreatPa23
import Derived.Test.YtglafbajbiengaaGreatPa24
import Derived.Test.YtglafbajbiengaaGreatPa25
import Derived.Test.YtglafbajbiengaaGreatPa26
import Derived.Test.YtglafbajbiengaaGreatPa27
import Derived.Test.YtglafbajbiengaaGreatPa28
import Derived.Test.YtglafbajbiengaaGreatPa29
namespace Go.Proofs.YtglafbajbiengaaGreat
set_option linter.unusedVariables false
set_option linter.unusedSimpArgs false
open Go.ChangeShapes Go.WideShapes Go.ChangeAt Go.RowKit Go.Maps

theorem chIn_sliceW {w : World} {a : Option Addr} {n c : Nat} {l : List Int} (h : SliceIn .i64 w a n c l) (hn : n ≤ 5) : ChIn w a l := by
  refine ⟨h.row, by have := h.len_eq; omega, fun c hc => ?_⟩
  have := h.fit c hc
  simp [Lit.wf] at this
  exact bounds_i64 (h.fit c hc)
theorem box7W {u : World} {g : Nat} {v0 v1 v2 v3 v4 v5 v6 : Value} {t : TypeId} {fr : Nat × Nat} (h : u.heap[g]? = some (.cells #[v0, v1, v2, v3, v4, v5, v6] t fr)) : u.cell? ⟨g, 0, none⟩ = some v0 ∧ u.cell? ⟨g, 1, none⟩ = some v1 ∧ u.cell? ⟨g, 2, none⟩ = some v2 ∧ u.cell? ⟨g, 3, none⟩ = some v3 ∧ u.cell? ⟨g, 4, none⟩ = some v4 ∧ u.cell? ⟨g, 5, none⟩ = some v5 ∧ u.cell? ⟨g, 6, none⟩ = some v6 := box7 h
set_option maxRecDepth 100000 in
set_option maxHeartbeats 1000000 in
theorem same9_yes (a b : Option Addr) (ca cb : Nat) (l : List Int) (A B : Nat) (w : World) (ha : RowOf .i64 w A a l) (hb : RowOf .i64 w B b l) (hl : l.length ≤ 1000) :
    Calls Tryz.prog 11 #[.slice a l.length ca, .slice b l.length cb] w fun e w' => e = .returned (.bool true) ∧ ∃ n, w' = w.drewN n := by
  have hne : ((l.length : Int) != (l.length : Int)) = false := by simp
  go_enter Tryz.func11, Tryz.ntmps11
  go_wp2
  go_loopw [5] (fun i wr => ∃ k n : Nat, k ≤ l.length ∧ i = .int .i64 k ∧ wr = w.drewN n) (fun i _ => l.length - (intOf i).toNat)
  case atStart => exact ⟨0, 0, Nat.zero_le _, rfl, rfl⟩
  case round =>
    obtain ⟨k, n, hk, rfl, rfl⟩ := hrel
    by_cases hlt : k < l.length
    · obtain ⟨x, hx⟩ := at_lt hlt
      obtain ⟨b1, o1, rfl, _, hc1⟩ := ha k x hx
      obtain ⟨b2, o2, rfl, _, hc2⟩ := hb k x hx
      clear hx
      have hlt' : (k : Int) < (l.length : Int) := by omega
      have hxx : (x != x) = false := by simp
      go_wp2
      go_quiet (fail)
      go_wp2
      go_roundw
      case rel => exact ⟨k + 1, _, by omega, by go_num, rfl⟩
      case measure => simp [intOf]; omega
    · obtain rfl : k = l.length := by omega
      go_wp2
      go_ret
      exact ⟨rfl, n, rfl⟩
theorem wf_small {v : Int} (h : v = 0 ∨ v = 1 ∨ v = 2) : Wf v := by rcases h with rfl | rfl | rfl <;> (unfold Wf; kernel_rfl)
set_option maxRecDepth 100000 in
set_option maxHeartbeats 20000000 in
theorem weakMay_walk (ra : Option Addr) (rc : Nat) (l : List (Nat × Nat)) (ea : Option Addr) (ec : Nat) (t : List EvD) (ca : Option Addr) (cn cc : Nat) (rs : List Int) (th ob x y : Int) (w : World) (h : RawIn w ra l) (hl : l.length ≤ 9223372036854775807) (he : EvsIn w w.heap.size ea t ∧ ∀ e ∈ t, EvW e) (ht : t.length ≤ ec ∧ t.length ≤ 9223372036854775807) (hr : SliceIn .i64 w ca cn cc rs)
    (hth : (Lit.int .i64 th).wf = true) (hob : (Lit.int .i64 ob).wf = true) (hx : (Lit.int .u8 x).wf = true) (hy : (Lit.int .u8 y).wf = true) :
    Calls Tryz.prog 4 #[.slice ra l.length rc, .slice ea t.length ec, .slice ca cn cc, .int .i64 th, .int .i64 ob, .int .u8 x, .int .u8 y] w fun e w' => e = .returned (.bool true) ∧ Below w.heap.size w w' := by
  have HKW := Lib.hid (fun V => known9_any V)
  obtain ⟨x0, x1⟩ := bounds_u8 hx
  obtain ⟨y0, y1⟩ := bounds_u8 hy
  clear hx hy
  have Hth : Hid (Wf th) := Lib.hid hth
  have Hob : Hid (Wf ob) := Lib.hid hob
  clear hth hob
  obtain ⟨x, rfl⟩ : ∃ q : Nat, x = q := ⟨x.toNat, by omega⟩
  obtain ⟨y, rfl⟩ : ∃ q : Nat, y = q := ⟨y.toNat, by omega⟩
  by_cases h20 : 15 < t.length
  · have h20' : decide ((15 : Int) < (t.length : Int)) = true := decide_eq_true (by omega)
    have h20n : decide (15 < t.length) = true := decide_eq_true (by omega)
    go_enter Tryz.func4, Tryz.ntmps4
    go_wp2_with (go_at_call 10; refine (HKW.out _).mono ?_; rintro e w5 ⟨rfl, hB⟩)
    go_ret
    exact ⟨rfl, hB⟩
  have h20' : decide ((15 : Int) < (t.length : Int)) = false := decide_eq_false (by omega)
  have h20n : decide (15 < t.length) = false := decide_eq_false (by omega)
  by_cases h5 : 5 < cn
  · have h5' : decide ((5 : Int) < (cn : Int)) = true := decide_eq_true (by omega)
    have h5n : decide (5 < cn) = true := decide_eq_true (by omega)
    go_enter Tryz.func4, Tryz.ntmps4
    go_wp2_with (go_at_call 10; refine (HKW.out _).mono ?_; rintro e w5 ⟨rfl, hB⟩)
    go_ret
    exact ⟨rfl, hB⟩
  have h5' : decide ((5 : Int) < (cn : Int)) = false := decide_eq_false (by omega)
  have h5n : decide (5 < cn) = false := decide_eq_false (by omega)
  have HCh := Lib.hid (chIn_sliceW hr (by omega))
  obtain rfl := hr.len_eq
  have HT := Lib.hid (fun V (hB : Below w.heap.size w V) => trace_any ra rc l V ⟨fun k p hk => by
    obtain ⟨g, o, e, hg, c0, c1⟩ := h.cell k p hk
    exact ⟨g, o, e, Nat.lt_of_lt_of_le hg hB.size, (hB.cell (p := ⟨g, o + k * 2, none⟩) hg).trans c0, (hB.cell (p := ⟨g, o + k * 2 + 1, none⟩) hg).trans c1⟩, h.wf⟩ hl)
  have HEt := Lib.hid he.1
  have HWt := Lib.hid he.2
  have htc := ht.1
  clear h hr he ht
  go_enter Tryz.func4, Tryz.ntmps4
  go_upto_region 4 with (go_at_call 10; refine (HKW.out _).mono ?_; rintro e w5 ⟨rfl, hB⟩)
  generalize hV0 : World.alloc w5 _ = V0
  have HB0 := Lib.hid (show Below w.heap.size w V0 by rw [← hV0]; exact below_new hB _)
  have HN0 : Hid (V0.heap[w5.heap.size]? = some (.cells #[.int .i64 0, .int .i64 0, .int .i64 0, .slice ca rs.length cc, .int .i64 0, .int .i64 0, .slice none 0 0] 26)) := Lib.hid (by rw [← hV0]; exact heap_alloc_new _ _)
  generalize w5.heap.size = g0 at *
  clear hV0 hB
  go_upto_region 5 with (go_at_call 7; refine (HT.out _ HB0.out).mono ?_; rintro e V1 ⟨v, rfl, xa, xc, rfl, hxc, hxo, hxB⟩)
  have HB1 := Lib.hid (below_next HB0.out hxB)
  have HN1 := Lib.hid (old_later HN0.out hxB)
  have HEx := Lib.hid (evsIn_own hxo)
  have htl : (trL l).length ≤ 1000 := by rw [trL_len]; omega
  have HWx := Lib.hid (trL_wf l)
  generalize trL l = tr at *
  clear hxo hxB HT HN0
  go_upto_region 6 with (fail)
  have hm : (if (18 : Int) < (tr.length : Int) then (18 : Int) else (tr.length : Int)) = ((tr.take 18).length : Int) := by
    rw [List.length_take]; split <;> omega
  simp only [hm, Int.toNat_natCast]
  have hxc2 : (tr.take 18).length ≤ xc := by rw [List.length_take]; omega
  have htl2 : (tr.take 18).length ≤ 18 := by rw [List.length_take]; omega
  have HEx := Lib.hid (HEx.out.take 18)
  have HWx : Hid (∀ e ∈ tr.take 18, EvW e) := Lib.hid (fun e he => HWx.out e (List.mem_of_mem_take he))
  generalize tr.take 18 = u at *
  clear hm hxc htl
  have a1 : (x : Int) % 3 = ((x % 3 : Nat) : Int) := by simp
  have a2 : (x : Int).tmod 3 = ((x % 3 : Nat) : Int) := by rw [Int.tmod_eq_emod_of_nonneg (by omega)]; simp
  have b1 : (y : Int) % 2 = ((y % 2 : Nat) : Int) := by simp
  have b2 : (y : Int).tmod 2 = ((y % 2 : Nat) : Int) := by rw [Int.tmod_eq_emod_of_nonneg (by omega)]; simp
  have hT : ((x % 3 : Nat) : Int) = 0 ∨ ((x % 3 : Nat) : Int) = 1 ∨ ((x % 3 : Nat) : Int) = 2 := by omega
  have hX : ((y % 2 : Nat) : Int) = 0 ∨ ((y % 2 : Nat) : Int) = 1 ∨ ((y % 2 : Nat) : Int) = 2 := by omega
  generalize ((x % 3 : Nat) : Int) = TH at *
  generalize ((y % 2 : Nat) : Int) = X at *
  have wa1 : IntKind.u8.wrap TH = TH := by rcases hT with rfl | rfl | rfl <;> kernel_rfl
  have wa2 : IntKind.i64.wrap TH = TH := by rcases hT with rfl | rfl | rfl <;> kernel_rfl
  have wb1 : IntKind.u8.wrap X = X := by rcases hX with rfl | rfl | rfl <;> kernel_rfl
  have wb2 : IntKind.i64.wrap X = X := by rcases hX with rfl | rfl | rfl <;> kernel_rfl
  have HTw := Lib.hid (wf_small hT)
  have HXw := Lib.hid (wf_small hX)
  clear hT hX
  have HCV := Lib.hid (fun V (hB : Below V1.heap.size V1 V) => HCh.out.later (below_next HB1.out hB))
  have HET := Lib.hid (fun V (hB : Below V1.heap.size V1 V) => HEt.out.later (below_next HB1.out hB))
  have one : (#[Value.int .i64 0, .int .i64 0, .int .i64 0, .slice ca rs.length cc, .int .i64 0, .int .i64 0, .slice none 0 0] : Array Value).all (·.oneCell') = true := by simp [Value.oneCell']
  have HDx := Lib.hid (fun V (hB : Below V1.heap.size V1 V) => may_any (.int .i64 0) (.int .i64 0) (.int .i64 0) ca cc rs (.int .i64 0) (.int .i64 0) (.slice none 0 0) xa xc u TH X V (HCV.out V hB) (HEx.out.later hB) HWx.out HTw.out HXw.out (by omega) hxc2 one)
  have HRx := Lib.hid (fun V (hB : Below V1.heap.size V1 V) => rmay_any (.int .i64 0) (.int .i64 0) (.int .i64 0) ca cc rs (.int .i64 0) (.int .i64 0) (.slice none 0 0) xa xc u TH X V (HCV.out V hB) (HEx.out.later hB) (by omega) one)
  have HDt := Lib.hid (fun V (hB : Below V1.heap.size V1 V) => may_any (.int .i64 0) (.int .i64 0) (.int .i64 0) ca cc rs (.int .i64 0) (.int .i64 0) (.slice none 0 0) ea ec t th ob V (HCV.out V hB) (HET.out V hB) HWt.out Hth.out Hob.out (by omega) htc one)
  have HRt := Lib.hid (fun V (hB : Below V1.heap.size V1 V) => rmay_any (.int .i64 0) (.int .i64 0) (.int .i64 0) ca cc rs (.int .i64 0) (.int .i64 0) (.slice none 0 0) ea ec t th ob V (HCV.out V hB) (HET.out V hB) (by omega) one)
  have HLx : Hid ((mayL rs u TH X).length ≤ 1000) := Lib.hid (by have := mayL_len rs u TH X; omega)
  have HLt : Hid ((mayL rs t th ob).length ≤ 1000) := Lib.hid (by have := mayL_len rs t th ob; omega)
  unfold MayE at HDx HRx HDt HRt
  generalize mayL rs u TH X = L at *
  generalize mayL rs t th ob = M at *
  have HL : Hid (Below V1.heap.size V1 V1.drew) := Lib.hid (Below.refl _ V1).drew
  have KX := box7W (old_later HN1.out HL.out)
  clear HCV HET HEx HEt HWt HWx HCh one Hth Hob HTw HXw
  go_region_held3 (fun u => u.cell? ⟨g0, 0, none⟩ = some (.int .i64 0) ∧ u.cell? ⟨g0, 1, none⟩ = some (.int .i64 0) ∧ u.cell? ⟨g0, 2, none⟩ = some (.int .i64 0) ∧ u.cell? ⟨g0, 3, none⟩ = some (.slice ca rs.length cc) ∧ u.cell? ⟨g0, 4, none⟩ = some (.int .i64 0) ∧ u.cell? ⟨g0, 5, none⟩ = some (.int .i64 0) ∧ u.cell? ⟨g0, 6, none⟩ = some (.slice none 0 0)) (first | with_reducible exact KX | fail)
    (first
      | (go_at_call 11; (first | with_reducible refine (same9_yes _ _ _ _ L _ _ _ HX1.out HX2.out HLx.out).mono ?_ | with_reducible refine (same9_yes _ _ _ _ M _ _ _ HT1.out HT2.out HLt.out).mono ?_); rintro e w5 ⟨rfl, nd, rfl⟩; have HL := Lib.hid (below_drewN HL.out nd); have KX := box7W (old_later HN1.out HL.out); (try have HT1 := Lib.hid (HT1.out.up (below_drewN (Below.refl _ _) nd))); (try have HT2 := Lib.hid (HT2.out.up (below_drewN (Below.refl _ _) nd))); (try have HX1 := Lib.hid (HX1.out.up (below_drewN (Below.refl _ _) nd))); (try have HX2 := Lib.hid (HX2.out.up (below_drewN (Below.refl _ _) nd))))
      | (go_at_call 8; with_reducible refine (HDx.out _ HL.out).mono ?_; rintro e w5 ⟨a1, c1, rfl, hr, hB⟩; (try have HX2 := Lib.hid (HX2.out.up hB)); (try have HT1 := Lib.hid (HT1.out.up hB)); (try have HT2 := Lib.hid (HT2.out.up hB)); have HX1 := Lib.hid hr; have HL := Lib.hid (below_next HL.out hB); have KX := box7W (old_later HN1.out HL.out); clear hB hr)
      | (go_at_call 8; with_reducible refine (HDt.out _ HL.out).mono ?_; rintro e w5 ⟨a2, c2, rfl, hr, hB⟩; (try have HX1 := Lib.hid (HX1.out.up hB)); (try have HX2 := Lib.hid (HX2.out.up hB)); (try have HT2 := Lib.hid (HT2.out.up hB)); have HT1 := Lib.hid hr; have HL := Lib.hid (below_next HL.out hB); have KX := box7W (old_later HN1.out HL.out); clear hB hr)
      | (go_at_call 12; with_reducible refine (HRx.out _ HL.out).mono ?_; rintro e w5 ⟨a3, c3, rfl, hr, hB⟩; (try have HX1 := Lib.hid (HX1.out.up hB)); (try have HT1 := Lib.hid (HT1.out.up hB)); (try have HT2 := Lib.hid (HT2.out.up hB)); have HX2 := Lib.hid hr; have HL := Lib.hid (below_next HL.out hB); have KX := box7W (old_later HN1.out HL.out); clear hB hr)
      | (go_at_call 12; with_reducible refine (HRt.out _ HL.out).mono ?_; rintro e w5 ⟨a4, c4, rfl, hr, hB⟩; (try have HX1 := Lib.hid (HX1.out.up hB)); (try have HX2 := Lib.hid (HX2.out.up hB)); (try have HT1 := Lib.hid (HT1.out.up hB)); have HT2 := Lib.hid hr; have HL := Lib.hid (below_next HL.out hB); have KX := box7W (old_later HN1.out HL.out); clear hB hr))
  go_wp2_with fail
  go_ret
  exact ⟨rfl, below_next HB1.out HL.out⟩
set_option maxRecDepth 100000 in
theorem weakMay_lifted (os : Os) (started : os.Started) (H : Type) (enc : TypeId × Value → H) :
    ReturnsInHanded {} Tryz.checked os 4 .any (Rows.weakMaySpec.pre6 enc Tryz.prog Tryz.f4 Rows.weakMayRow.domain false) (Rows.weakMaySpec.post enc Tryz.prog Tryz.f4 false true false false) := by
  refine returnsInHanded_of_change (C := Tryz.checked) law_own started (by kernel_rfl) Tryz.func4
    (ChangeSpec.witness6 (enc := enc) (C := Tryz.checked) false ⟨#[], #[.slice none 0 0, .slice none 0 0, .slice none 0 0, .int .i64 0, .int .i64 0, .int .u8 0, .int .u8 0], []⟩ 8 (by kernel_rfl) (by kernel_rfl) (by kernel_rfl) (by kernel_rfl)) ?_
  intro W base args ds gs before hval0 hW hcnd _
  have hval : ∀ (j : Nat) t v, Tryz.f4.params[j]? = some t → args[j]? = some v → Value.okWide Tryz.prog W .any base t v := hval0
  have hW' := hW
  obtain ⟨p, q, hA0, hV, rfl, hfz, hnd⟩ := hW
  have hA : DataW.TrodAll enc Tryz.prog W 0 (fun _ => true) true Tryz.f4.params.toList args.toList ds p := hA0
  rw [Tryz.params4] at hA hval
  obtain ⟨v0, vs0, d0, ds0, p0, q0, hargs, rfl, rfl, h0, r0⟩ := trodAll_cons hA
  obtain ⟨v1, vs1, d1, ds1, p1, q1, rfl, rfl, rfl, h1, r1⟩ := trodAll_cons r0
  obtain ⟨v2, vs2, d2, ds2, p2, q2, rfl, rfl, rfl, h2, r2⟩ := trodAll_cons r1
  obtain ⟨v3, vs3, d3, ds3, p3, q3, rfl, rfl, rfl, h3, r3⟩ := trodAll_cons r2
  obtain ⟨v4, vs4, d4, ds4, p4, q4, rfl, rfl, rfl, h4, r4⟩ := trodAll_cons r3
  obtain ⟨v5, vs5, d5, ds5, p5, q5, rfl, rfl, rfl, h5, r5⟩ := trodAll_cons r4
  obtain ⟨v6, vs6, d6, ds6, p6, q6, rfl, rfl, rfl, h6, r6⟩ := trodAll_cons r5
  obtain ⟨rfl, rfl, rfl⟩ := trodAll_nil r6
  obtain rfl : args = #[v0, v1, v2, v3, v4, v5, v6] := by cases args; simp_all
  obtain ⟨rfl, rfl⟩ := trodVars_none hV
  have k0 := h0
  have lt0 : ∀ x ∈ p0, x.block < W.heap.size := by obtain ⟨m, hm⟩ := k0; exact DataW.trod_lt m _ _ _ hm
  obtain ⟨a0, cap0, l0, rfl, n0, w0⟩ := open_raws (hval 0 22 v0 rfl rfl) h0
  have k1 := h1
  have lt1 : ∀ x ∈ p1, x.block < W.heap.size := by obtain ⟨m, hm⟩ := k1; exact DataW.trod_lt m _ _ _ hm
  obtain ⟨a1, cap1, l1, rfl, n1, w1⟩ := open_evs (hval 1 27 v1 rfl rfl) h1
  obtain ⟨a2, len2, cap2, rfl⟩ := okWide_slice Tryz.underlying23 (hval 2 23 v2 rfl rfl)
  have k2 := h2
  have lt2 : ∀ x ∈ p2, x.block < W.heap.size := by obtain ⟨m, hm⟩ := k2; exact DataW.trod_lt m _ _ _ hm
  obtain ⟨l2, w2⟩ : ∃ l, SliceIn .i64 W a2 len2 cap2 l := by
    obtain ⟨fuel, hf⟩ := h2
    rcases open_ints Tryz.underlying23 Tryz.underlying3 (by kernel_rfl) hf with ⟨hcs, _⟩ | ⟨x, l, c, zs, hcs, _, hl, hm, hz, _, hcell, hwz⟩
    · simp [Value.cells] at hcs
      obtain ⟨rfl, rfl, rfl⟩ := hcs
      exact ⟨[], SliceIn.nil _ _⟩
    · simp [Value.cells] at hcs
      obtain ⟨rfl, rfl, rfl⟩ := hcs
      exact ⟨_, SliceIn.of hl hm (by simpa using hz) hcell hwz⟩
  obtain ⟨a3, rfl, rfl, rfl, w3⟩ := open_int Tryz.underlying3 (hval 3 3 v3 rfl rfl) h3
  obtain ⟨a4, rfl, rfl, rfl, w4⟩ := open_int Tryz.underlying3 (hval 4 3 v4 rfl rfl) h4
  obtain ⟨a5, rfl, rfl, rfl, w5⟩ := open_int Tryz.underlying5 (hval 5 5 v5 rfl rfl) h5
  obtain ⟨a6, rfl, rfl, rfl, w6⟩ := open_int Tryz.underlying5 (hval 6 5 v6 rfl rfl) h6
  clear hA0 hval0
  refine (weakMay_walk a0 cap0 l0 a1 cap1 l1 a2 len2 cap2 l2 a3 a4 a5 a6 W w0 n0 w1 n1 w2 w3 w4 w5 w6).mono fun e W' ⟨he, bel⟩ => ?_
  subst he
  exact ⟨_, rfl, _, _, _, [], _, [], hW', trodAll_mk1 (shut_bool Tryz.underlying4 _), (trodAll_cons_mk (Below.trod law_laidOut (by kernel_rfl) (of_decide_eq_true (by kernel_rfl)) k0 bel lt0) (trodAll_cons_mk (Below.trod law_laidOut (by kernel_rfl) (of_decide_eq_true (by kernel_rfl)) k1 bel lt1) (trodAll_cons_mk (Below.trod law_laidOut (by kernel_rfl) (of_decide_eq_true (by kernel_rfl)) k2 bel lt2) (trodAll_cons_mk (shut_int Tryz.underlying3 w3) (trodAll_cons_mk (shut_int Tryz.underlying3 w4) (trodAll_cons_mk (shut_int Tryz.underlying5 w5) (trodAll_cons_mk (shut_int Tryz.underlying5 w6) trodAll_mk0))))))), rfl, bel.frame _, fun h => by cases h⟩

/-- The statement. -/
theorem weakMay_holds : Rows.WeakMaySaid :=
  OpenClaim.holds_of_wide 4 Tryz.f4 rfl rfl rfl rfl rfl rfl rfl ⟨rfl, rfl, rfl, rfl, rfl⟩ rfl rfl rfl rfl rfl (by kernel_rfl) Tryz.func4 (by kernel_rfl)
    (of_decide_eq_true (by kernel_rfl)) (by unfold Func.isWrapper; first | (rw [if_pos (by decide +kernel)]; kernel_rfl) | (rw [if_neg (by decide +kernel)]; exact ⟨rfl, rfl⟩))
    (fun os started H enc _ => weakMay_lifted os started H enc)
end Go.Proofs.YtglafbajbiengaaGreat
