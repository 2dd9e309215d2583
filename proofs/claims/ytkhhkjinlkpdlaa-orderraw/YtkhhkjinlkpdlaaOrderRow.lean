/- order's row: that of a thing, made where there is none. -/
import Derived.Test.YtkhhkjinlkpdlaaOrderWk2
namespace Go.Proofs.Ytkhhkjinlkpdlaa
set_option linter.unusedVariables false
set_option linter.unusedSimpArgs false
set_option maxRecDepth 100000
open Go.ChangeShapes Go.WideShapes Go.ChangeAt Go.RowKit Go.Maps

theorem info_rowT : (Try.prog.info? 73).map (fun i => (i.zero, i.size, i.bytes)) = some (some (.agg #[.slice none 0 0, .slice none 0 0, .int .i64 0]), 3, 56) := by kernel_rfl
theorem cells_row_new (w : World) (a b c : Value) (t : TypeId) : ∀ j u, [a, b, c][j]? = some u → (w.alloc (.cells #[a, b, c] t)).cell? ((⟨w.heap.size, 0, none⟩ : Addr).add j) = some u := by
  intro j u hj
  rw [Addr.add_mid, Nat.zero_add, cell_of_row _ _ _ _ _ _ (heap_alloc_new _ _)]
  simpa using hj
theorem own_slice {w : World} {base : Nat} {e : TypeId} {z n : Nat} {v : Value} {xs : List Value} (h : w.ownsRow base e z v n xs) (hn : 0 < n) : ∃ g cap, v = .slice (some ⟨g, 0, none⟩) n cap := by
  rcases h.2 with ⟨_, h0⟩ | ⟨g, cap, cur, rfl, _⟩
  · omega
  · exact ⟨g, cap, rfl⟩
theorem own_slice0 {w : World} {base : Nat} {e : TypeId} {z n : Nat} {v : Value} {xs : List Value} (h : w.ownsRow base e z v n xs) : ∃ a cap, v = .slice a n cap := by
  rcases h.2 with ⟨rfl, rfl⟩ | ⟨g, cap, cur, rfl, _⟩
  · exact ⟨none, 0, rfl⟩
  · exact ⟨_, cap, rfl⟩
/-- What row hands out. -/
def RowE (X : Nat → Prop) (chans : List Int) (R : Array Value) (base g0 gm : Nat) (ks : List (Int × Int)) (A B : Nat → List Nat) (G : Nat → Nat) (seen : List Bool) (st : List Nat) (fv : Nat → Value) (rv sv : Value) (n x : Int) (u : World) (e : Ending) (u' : World) : Prop :=
  ∃ ks' rv' k gr cap, e = .returned (.pointer (some ⟨gr, k * 3, none⟩)) ∧ (ks' = ks ∨ ((n, x) ∉ ks ∧ ks' = ks ++ [(n, x)])) ∧ ks'[k]? = some (n, x) ∧ rv' = .slice (some ⟨gr, 0, none⟩) ks'.length cap ∧ WkIn X chans R base g0 gm ks' A B G seen st fv rv' sv u' ∧ WkGo (Wb g0 gm fv rv sv) (Wb g0 gm fv rv' sv) u u'
set_option maxHeartbeats 4000000 in
theorem row_any {X : Nat → Prop} {chans : List Int} {R : Array Value} {base g0 gm : Nat} {ks : List (Int × Int)} {A B : Nat → List Nat} {G : Nat → Nat} {seen : List Bool} {st : List Nat} {fv : Nat → Value} {rv sv : Value} {u : World} (h : WkIn X chans R base g0 gm ks A B G seen st fv rv sv u) {n x : Int} (hn : Wf n) (hx : Wf x) (hl : ks.length ≤ 1000000) :
    Calls Try.prog 39 #[.pointer (some ⟨g0, 0, none⟩), .int .i64 n, .int .i64 x] u (RowE X chans R base g0 gm ks A B G seen st fv rv sv n x u) := by
  have HK := Lib.hid h
  have HM := Lib.hid h.map
  have HKL := Lib.hid (kL_of hn hx)
  have hhas := mapD_has h.wf hn hx
  obtain ⟨c30, c31, c32, c33, cf⟩ := h.cells
  have cf30 := cf 30
  obtain ⟨i0, hi0, iz0, iz1, iz2⟩ := info_parts info_rowT
  have hbs : base ≤ u.heap.size := h.fam.top
  by_cases hin : (n, x) ∈ ks
  · obtain ⟨k, hk⟩ := List.getElem?_of_mem hin
    have hkl := (List.getElem?_eq_some_iff.1 hk).1
    have hat0 := mapD_at h.wf hk (fun j hj e => absurd ((List.getElem?_inj hkl h.nodup).1 (hk.trans e.symm)) (by omega)) (.lit (.int .i64 0))
    have HH : Hid (Maps.has (mapD ks) (kL n x) = true) := Lib.hid (by rw [hhas]; exact List.contains_iff_mem.2 hin)
    have HA0 := Lib.hid hat0
    have HKk := Lib.hid hk
    obtain ⟨gr, cap, hrv, hgr, _⟩ := h.row hkl
    have HR := Lib.hid hrv
    subst hrv
    have hkl' : (k : Int) < (ks.length : Int) := by omega
    clear h hhas hat0 hk hin c32 c33 cf
    go_enter Try.func39, Try.ntmps39
    go_wp2_with (at_lookup; refine wpList_lookup_own_ok_int _ rfl _ _ 58 rfl 77 3 .i64 keyed_thing Try.underlying58 Try.underlying3 (zero_int _) gm _ _ rfl HM.out _ _ rfl HKL.out ?_; intro c hat hwc; rw [HH.out]; obtain rfl : c = k := (by rw [HA0.out] at hat; cases hat; rfl); clear hat hwc)
    go_ret
    exact ⟨ks, _, k, gr, cap, rfl, .inl rfl, HKk.out, rfl, HK.out, WkGo.refl _ _⟩
  · have HH : Hid (Maps.has (mapD ks) (kL n x) = false) := Lib.hid (by rw [hhas]; simpa using hin)
    have HIN := Lib.hid hin
    obtain ⟨ra, rc, hrv⟩ := own_slice0 h.rows
    subst hrv
    clear hhas hin c32 c33 cf
    have HROW := Lib.hid h.rows
    have HNo := Lib.hid h.no
    have HG0 := Lib.hid (h.lt (.inl rfl)).1
    have HGG := Lib.hid h.gg
    have HRlt := Lib.hid (fun g (e : (Value.slice ra ks.length rc).ownBlock = some g) => (own_lt h.rows g e).1)
    clear h
    have hkl : ks.length < 9223372036854775807 := by omega
    go_enter Try.func39, Try.ntmps39
    go_wp2_with (first
      | (at_lookup; refine wpList_lookup_own_ok_int _ rfl _ _ 58 rfl 77 3 .i64 keyed_thing Try.underlying58 Try.underlying3 (zero_int _) gm _ _ rfl HM.out _ _ rfl HKL.out ?_; intro c hat hwc; rw [HH.out]; clear hat)
      | (at_mapUpdate; refine wpList_mapUpdate_own _ rfl _ _ _ 58 rfl 77 3 keyed_thing Try.underlying58 _ gm ks.length _ rfl HM.out (by unfold maxLen; omega) _ _ _ rfl rfl HKL.out _ [] (plainElem_int Try.underlying3 (WalkArith.wf_i64 (by omega))) ?_; intro w1 hown1 hgrow1; have hT1 := Touch.grown (X := fun g => g = gm) hgrow1 (fun k e => (Option.some.inj e).symm); have d30 := (World.cell?_of_block (a := ⟨g0, 30, none⟩) (hT1.block g0 HG0.out HGG.out)).trans c30; rw [← mapD_snoc] at hown1; have HM1 := Lib.hid hown1; have HT1 := Lib.hid hT1; clear hown1 hgrow1 hT1 c30 c31 cf30)
      | (at_builtin; refine wpList_append_own_at _ rfl _ _ 59 rfl base 73 i0 (.agg #[.slice none 0 0, .slice none 0 0, .int .i64 0]) 3 56 Try.underlying59 hi0 iz0 iz1 iz2 rfl (by decide) (.slice ra ks.length rc) ks.length (rowsC fv G ks.length) rfl (own_later (own_touch HROW.out HT1.out fun g e q => (HNo.out gm (.inr rfl)).2.1 (by rw [e, q])) (below_box w1 _)) ⟨w1.heap.size, 0, none⟩ 1 1 [.slice none 0 0, .slice none 0 0, .int .i64 0] rfl rfl (cells_row_new w1 _ _ _ _) (by simp [Value.oneCell']) (by unfold maxLen; omega) (by omega) (by have := HT1.out.size; simp; omega) ?_; intro v5 w5 hown5 hgrow5 _ hat5; obtain ⟨g5, cap5, rfl⟩ := own_slice hown5 (by omega)
         have hT5 : Touch (fun q => (Value.slice ra ks.length rc).ownBlock = some q) w1 w5 := (Touch.of_below (below_box w1 (.cells #[.slice none 0 0, .slice none 0 0, .int .i64 0] 73))).trans (Touch.grown (X := fun q => (Value.slice ra ks.length rc).ownBlock = some q) hgrow5 (fun k e => e)) (fun _ _ h => h)
         have hg01 := Nat.lt_of_lt_of_le HG0.out HT1.out.size
         have e30 := (World.cell?_of_block (a := ⟨g0, 30, none⟩) (hT5.block g0 hg01 (HNo.out g0 (.inl rfl)).2.1)).trans d30
         have ef30 : w5.frozen? ⟨g0, 30, none⟩ = false := (World.frozen?_of_block (a := ⟨g0, 30, none⟩) ((hT5.block g0 hg01 (HNo.out g0 (.inl rfl)).2.1).trans (HT1.out.block g0 HG0.out HGG.out))).trans (HK.out.cells.2.2.2.2 30)
         have HW5 : Hid (Whr u (.slice (some ⟨g5, 0, none⟩) (ks.length + 1) cap5) (.slice ra ks.length rc)) := Lib.hid (by
           rcases hat5 with q | q
           · exact .inl q
           · exact .inr (.inr ⟨_, q, by have := HT1.out.size; simp; omega⟩))
         have HO5 := Lib.hid hown5
         have HT5 := Lib.hid hT5
         clear hown5 hgrow5 hat5 hT5 d30 hg01))
    go_ret
    have hN := HK.out.newrow hn hx HIN.out HM1.out HT1.out HT5.out HO5.out HW5.out
    exact ⟨ks ++ [(n, x)], _, ks.length, g5, cap5, rfl, .inr ⟨HIN.out, rfl⟩, by simp, by simp, hN.1, hN.2⟩
end Go.Proofs.Ytkhhkjinlkpdlaa
