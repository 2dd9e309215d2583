/- OrderGoes: what a thread does is behind that another one made it begin, and all ahead of that; for every input. -/
import Derived.Test.YtkdamkchpfcanaaOrderKnown
namespace Go.Proofs.Ytkdamkchpfcanaa
set_option linter.unusedVariables false
set_option linter.unusedSimpArgs false
open Go.ChangeShapes Go.WideShapes Go.ChangeAt Go.RowKit

theorem info_ev7 : (Try.prog.info? 24).map (fun i => (i.zero, i.size, i.bytes)) = some (some (evV 0 0 0 0 0 0), 6, 48) := by kernel_rfl
def s8 : EvD := ⟨0, 0, 8, 0, 0, 0⟩
def g3 : List EvD := [⟨0, 0, 12, 1, 0, 0⟩, ⟨0, 0, 8, 0, 0, 0⟩, ⟨1, 0, 7, 0, 0, 0⟩]
def tG (a : Nat) : List EvD := List.replicate a s8 ++ g3
theorem tG_len (a : Nat) : (tG a).length = a + 3 := by simp [tG, g3]
theorem tG_all : ((List.range 8).all fun a => (List.range (a + 3)).all fun i => befI [] (tG a) (i : Nat) ((a + 2 : Nat) : Int) == decide (i ≤ a)) = true := by kernel_rfl
theorem tG_bef {a i : Nat} (ha : a < 8) (hi : i < a + 3) : befI [] (tG a) (i : Nat) ((a + 2 : Nat) : Int) = decide (i ≤ a) := by
  have h := tG_all
  rw [List.all_eq_true] at h
  have h := h a (List.mem_range.2 ha)
  rw [List.all_eq_true] at h
  simpa using h i (List.mem_range.2 hi)
theorem tG_wf (a : Nat) : ∀ e ∈ tG a, EvW e := by
  intro e he
  rcases List.mem_append.1 he with h | h
  · obtain ⟨_, rfl⟩ := List.mem_replicate.1 h
    exact ⟨by unfold Wf; kernel_rfl, by unfold Wf; kernel_rfl⟩
  · simp only [g3, List.mem_cons, List.not_mem_nil, or_false] at h
    rcases h with rfl | rfl | rfl <;> exact ⟨by unfold Wf; kernel_rfl, by unfold Wf; kernel_rfl⟩
theorem cells_new (w : World) (l : List Value) (t : TypeId) : ∀ j u, l[j]? = some u → (w.alloc (.cells l.toArray t)).cell? ((⟨w.heap.size, 0, none⟩ : Addr).add j) = some u := by
  intro j u hj
  rw [Addr.add_mid, Nat.zero_add, cell_of_row _ _ _ _ _ _ (heap_alloc_new _ _)]
  simpa using hj
/-- Events of the call's own, so far. -/
def EvR (w : World) (t : List EvD) (v : Value) (V : World) : Prop := ∃ (xa : Option Addr) (xc : Nat), v = .slice xa t.length xc ∧ V.ownsRow w.heap.size 24 6 v t.length (evsCells t) ∧ Below w.heap.size w V
set_option maxRecDepth 100000 in
set_option maxHeartbeats 2000000 in
theorem orderGoes_walk (n k : Int) (w : World) (hn : (Lit.int .u8 n).wf = true) (hk : (Lit.int .u8 k).wf = true) :
    Calls Try.prog 3 #[.int .u8 n, .int .u8 k] w fun e w' => e = .returned (.bool true) ∧ Below w.heap.size w w' := by
  obtain ⟨n0, n1⟩ := bounds_u8 hn
  obtain ⟨k0, k1⟩ := bounds_u8 hk
  clear hn hk
  obtain ⟨ti, hi0, iz0, iz1, iz2⟩ := info_parts info_ev7
  obtain ⟨k, rfl⟩ : ∃ q : Nat, k = q := ⟨k.toNat, by omega⟩
  obtain ⟨n, rfl⟩ : ∃ q : Nat, n = q := ⟨n.toNat, by omega⟩
  obtain ⟨a, ha⟩ : ∃ a : Nat, a = n % 8 := ⟨_, rfl⟩
  have ha8 : a < 8 := by omega
  have hai : (n : Int) % 8 = (a : Int) := by omega
  clear ha
  have HP0 : Hid (EvR w (List.replicate 0 s8) (.slice none 0 0) w) := Lib.hid ⟨none, 0, rfl, World.ownsRow_nil _ _ _ _, Below.refl _ _⟩
  go_enter Try.func3, Try.ntmps3
  go_wp2_with fail
  simp only [hai]
  go_loopw [7, 5] (fun i v V => ∃ q : Nat, q ≤ a ∧ i = .int .i64 q ∧ EvR w (List.replicate q s8) v V) (fun i _ _ => a - (intOf i).toNat)
  case atStart => exact ⟨0, Nat.zero_le _, rfl, HP0.out⟩
  case round =>
    obtain ⟨q, hq, rfl, xa, xc, rfl, hxo, hxB⟩ := hrel
    have HXO := Lib.hid hxo
    have HXB := Lib.hid hxB
    clear hxo hxB
    have hrl : (List.replicate q s8).length = q := by simp
    have hbs : w.heap.size ≤ wr.heap.size := HXB.out.size
    rw [hrl] at HXO
    simp only [List.length_replicate]
    by_cases hlt : q < a
    · have hlt' : (q : Int) < (a : Int) := by omega
      go_wp2_with (first
        | (at_builtin; refine wpList_append_own_at _ rfl _ _ 22 rfl w.heap.size 24 ti (evV 0 0 0 0 0 0) 6 48 Try.underlying22 hi0 iz0 iz1 iz2 rfl (by decide) (.slice xa q xc) q (evsCells (List.replicate q s8)) rfl (own_later HXO.out (below_box wr _)) ⟨wr.heap.size, 0, none⟩ 1 1 (evCells s8) rfl rfl (cells_new wr _ _) (ev_one _) (by unfold maxLen; omega) (by omega) (by simp; omega) ?_; intro v6 w6 hown6 hgrow6 _ hat6
           have HB6 : Hid (Below w.heap.size w w6) := Lib.hid ((below_new HXB.out (.cells (evCells s8).toArray 24)).trans ((Below.refl _ _).grown hgrow6 (by simp; omega) (fun g e => (own_lt HXO.out g e).2)))
           obtain ⟨ya, yc, rfl⟩ := own_slice0 hown6
           have HO6 := Lib.hid hown6
           clear hown6 hgrow6 hat6))
      have hsn : evsCells (List.replicate q s8) ++ evCells s8 = evsCells (List.replicate (q + 1) s8) := by rw [← evsCells_snoc, List.replicate_succ']
      have HO7 := Lib.hid (show _ from HO6.out)
      rw [hsn] at HO7
      go_roundw
      case rel => exact ⟨q + 1, by omega, by go_num, ya, yc, by simp, by rw [List.length_replicate]; exact HO7.out, HB6.out⟩
      case measure => simp [intOf]; omega
    · obtain rfl : q = a := by omega
      have hkm : k % (q + 3) < q + 3 := Nat.mod_lt _ (by omega)
      have HKM := Lib.hid (tG_bef ha8 hkm)
      have HKW := Lib.hid (fun V => known7_any V)
      have hq3 : ((q : Int) + 3) ≠ 0 := by omega
      go_upto_region 8 with (first
        | (at_builtin; refine wpList_append_own_at _ rfl _ _ 22 rfl w.heap.size 24 ti (evV 0 0 0 0 0 0) 6 48 Try.underlying22 hi0 iz0 iz1 iz2 rfl (by decide) (.slice xa q xc) q (evsCells (List.replicate q s8)) rfl (own_later HXO.out (below_box wr _)) ⟨wr.heap.size, 0, none⟩ 3 3 (evsCells g3) rfl rfl (cells_new wr _ _) (by intro u hu; obtain ⟨x, _, hx⟩ := List.mem_flatMap.1 hu; exact ev_one x u hx) (by unfold maxLen; omega) (by omega) (by simp; omega) ?_; intro v6 w6 hown6 hgrow6 _ hat6
           have HB6 : Hid (Below w.heap.size w w6) := Lib.hid ((below_new HXB.out (.cells (evsCells g3).toArray 24)).trans ((Below.refl _ _).grown hgrow6 (by simp; omega) (fun g e => (own_lt HXO.out g e).2)))
           obtain ⟨ya, yc, rfl⟩ := own_slice hown6 (by omega)
           have HO6 := Lib.hid hown6
           clear hown6 hgrow6 hat6))
      have hsn : evsCells (List.replicate q s8) ++ evsCells g3 = evsCells (tG q) := by simp [evsCells, tG]
      have HO7 := Lib.hid (show _ from HO6.out)
      rw [hsn] at HO7
      have hcap : q + 3 ≤ yc := by
        rcases HO7.out.2 with ⟨h0, _⟩ | ⟨g', c', cur, e', _, _, hle, _⟩
        · cases h0
        · injection e' with e1 e2 e3; omega
      have HEV := Lib.hid (evsIn_own HO7.out)
      have HBF := Lib.hid (fun W (hB : Below w6.heap.size w6 W) (i j : Int) => before0 (some ⟨ya, 0, none⟩) yc (tG q) i j W (HEV.out.later hB) (tG_wf q) (by rw [tG_len]; omega) (by rw [tG_len]; exact hcap))
      rw [tG_len] at HBF
      clear HO6 HO7 hsn
      go_wp2_with (first
        | (go_at_call 8; refine (HKW.out _).mono ?_; rintro e w7 ⟨rfl, hB7⟩)
        | (have _g := hB7; go_at_call 9; refine (HBF.out _ hB7 _ _).mono ?_; rintro e w8 ⟨rfl, hB8⟩))
      go_ret
      refine ⟨?_, below_next HB6.out (below_next hB7 hB8)⟩
      have e1 : ((k % (q + 3) : Nat) : Int) = (k : Int) % ((q : Int) + 3) := by simp
      have e2 : ((q + 2 : Nat) : Int) = (q : Int) + 3 - 1 := by omega
      have h := HKM.out
      have e3 : decide ((k : Int) % ((q : Int) + 3) ≤ (q : Int)) = decide (k % (q + 3) ≤ q) := by
        rw [← e1]
        exact decide_eq_decide.2 (by omega)
      rw [e1, e2, ← e3] at h
      show Ending.returned (Value.bool (befI [] (tG q) ((k : Int) % ((q : Int) + 3)) ((q : Int) + 3 - 1) == decide ((k : Int) % ((q : Int) + 3) ≤ (q : Int)))) = _
      rw [h]; simp
set_option maxRecDepth 100000 in
theorem orderGoes_lifted (os : Os) (started : os.Started) (H : Type) (enc : TypeId × Value → H) :
    ReturnsInHanded {} Try.checked os 3 .any (Rows.orderGoesSpec.pre6 enc Try.prog Try.f3 Rows.orderGoesRow.domain false) (Rows.orderGoesSpec.post enc Try.prog Try.f3 false true false false) := by
  refine returnsInHanded_of_change (C := Try.checked) law_own started (by kernel_rfl) Try.func3
    (ChangeSpec.witness6 (enc := enc) (C := Try.checked) false ⟨#[], #[.int .u8 0, .int .u8 0], []⟩ 8 (by kernel_rfl) (by kernel_rfl) (by kernel_rfl) (by kernel_rfl)) ?_
  intro W base args ds gs before hval0 hW hcnd _
  have hval : ∀ (j : Nat) t v, Try.f3.params[j]? = some t → args[j]? = some v → Value.okWide Try.prog W .any base t v := hval0
  have hW' := hW
  obtain ⟨p, q, hA0, hV, rfl, hfz, hnd⟩ := hW
  have hA : DataW.TrodAll enc Try.prog W 0 (fun _ => true) true Try.f3.params.toList args.toList ds p := hA0
  rw [Try.params3] at hA hval
  obtain ⟨v0, vs0, d0, ds0, p0, q0, hargs, rfl, rfl, h0, r0⟩ := trodAll_cons hA
  obtain ⟨v1, vs1, d1, ds1, p1, q1, rfl, rfl, rfl, h1, r1⟩ := trodAll_cons r0
  obtain ⟨rfl, rfl, rfl⟩ := trodAll_nil r1
  obtain rfl : args = #[v0, v1] := by cases args; simp_all
  obtain ⟨rfl, rfl⟩ := trodVars_none hV
  obtain ⟨a0, rfl, rfl, rfl, w0⟩ := open_int Try.underlying5 (hval 0 5 v0 rfl rfl) h0
  obtain ⟨a1, rfl, rfl, rfl, w1⟩ := open_int Try.underlying5 (hval 1 5 v1 rfl rfl) h1
  clear hA0 hval0
  refine (orderGoes_walk a0 a1 W w0 w1).mono fun e W' ⟨he, bel⟩ => ?_
  subst he
  exact ⟨_, rfl, _, _, _, [], _, [], hW', trodAll_mk1 (shut_bool Try.underlying4 _), (trodAll_cons_mk (shut_int Try.underlying5 w0) (trodAll_cons_mk (shut_int Try.underlying5 w1) trodAll_mk0)), rfl, bel.frame _, fun h => by cases h⟩

/-- The statement. -/
theorem orderGoes_holds : Rows.OrderGoesSaid :=
  OpenClaim.holds_of_wide 3 Try.f3 rfl rfl rfl rfl rfl rfl rfl ⟨rfl, rfl, rfl, rfl, rfl⟩ rfl rfl rfl rfl rfl (by kernel_rfl) Try.func3 (by kernel_rfl)
    (of_decide_eq_true (by kernel_rfl)) (by unfold Func.isWrapper; first | (rw [if_pos (by decide +kernel)]; kernel_rfl) | (rw [if_neg (by decide +kernel)]; exact ⟨rfl, rfl⟩))
    (fun os started H enc _ => orderGoes_lifted os started H enc)
end Go.Proofs.Ytkdamkchpfcanaa
