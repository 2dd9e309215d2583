/- Step. -/
import Derived.Test.YtfcfdneganknjaaStateAny3
import Derived.Test.YtfcfdneganknjaaStateInv
import Derived.Laws.ResultCell
namespace Go.Proofs.Ytfcfdneganknjaa
set_option linter.unusedVariables false
set_option linter.unusedSimpArgs false
set_option maxRecDepth 100000
open Go.ChangeShapes Go.WideShapes Go.ChangeAt Go.RowKit

theorem st_results {P : Program} {fn : Func} {p u : Tmp} {ty : TypeId} (h : fn.results = #[.cell p ty, .tmp u]) (tmps : Array Value) (w : World) (g : Nat) (t : TypeId) (cs : Array Value) (fr : Nat × Nat) (d : TypeDesc)
    (hp : tmps.getD p undef = .pointer (some ⟨g, 0, none⟩)) (hg : w.heap[g]? = some (.cells cs t fr))
    (hu : P.underlying ty = some d) (hd : (match d with | .struct _ | .array _ _ => true | _ => false) = true) (hi : (P.info? ty).map (·.size) = some cs.size) :
    (results fn tmps).run P w = .ok (.tuple #[.agg cs, tmps.getD u undef]) w := by
  rw [results_cell_tmp h]
  simp [hp, asAddr, run_loadVar_row w g t ty cs fr d hg hu hd hi, Result.andThen]
abbrev evV (k p op o v md : Int) : Value := .agg #[.int .i64 k, .int .i64 p, .int .u8 op, .int .i64 o, .int .i64 v, .int .i64 md]
abbrev evC (k p op o v md : Int) : Obj := .cells #[.int .i64 k, .int .i64 p, .int .u8 op, .int .i64 o, .int .i64 v, .int .i64 md] 41
theorem below_row {B : Nat} {a w : World} (h : Below B a w) {g : Nat} (hg : B ≤ g) (cs : Array Value) : Below B a (w.setRow g cs) :=
  h.trans ⟨rfl, rfl, rfl, by simp, fun k hk => setRow_other _ _ _ _ (by omega)⟩

set_option maxHeartbeats 400000 in
theorem step_no {b lo hi : Nat} {pv : Value} {m : Nat → Int} {code : List (List InsD)} {pr : List Int} (k : Int) (w : World) (S : StIn w b lo hi pv m code pr) (I : Inv m code) (hc : canM code m k = false) :
    Calls Try.prog 41 #[.pointer (some ⟨b, 0, none⟩), .int .i64 k] w fun e w' => e = .returned (.tuple #[evV 0 0 0 0 0 0, .bool false]) ∧ Below w.heap.size w w' := by
  have HC := Lib.hid (fun u (hB : Below w.heap.size w u) => hc ▸ can_any k u (S.later hB) I)
  clear hc
  go_enter Try.func41, Try.ntmps41
  go_wp2_with fail
  generalize hV : World.alloc w _ = V
  have hB : Below w.heap.size w V := by rw [← hV]; exact below_box _ _
  have hN : V.heap[w.heap.size]? = some (evC 0 0 0 0 0 0) := by rw [← hV]; exact heap_alloc_new _ _
  have HB := Lib.hid hB
  have HN := Lib.hid hN
  clear hV hB hN
  go_wp2_with (first
    | (go_at_call 42; refine (HC.out _ HB.out).mono ?_; rintro e w1 ⟨rfl, hB1⟩; have hN1 := Lib.hid ((hB1.block _ (Array.getElem?_eq_some_iff.1 HN.out).1).trans HN.out))
    | (refine wpList_store_row rfl 41 (.tmp 4) (.tmp 13) rfl w.heap.size _ rfl rfl 41 _ hN1.out info_event rfl (by simp [Value.oneCell']) ?_))
  refine bodyPost_ret (v := .tuple #[evV 0 0 0 0 0 0, .bool false]) (st_results (p := 4) (u := 5) rfl _ _ w.heap.size 41 #[.int .i64 0, .int .i64 0, .int .u8 0, .int .i64 0, .int .i64 0, .int .i64 0] (0, 0) _ rfl (setRow_heap _ _ _ _ _ _ hN1.out) Try.underlying41 rfl info_event) rfl ⟨rfl, ?_⟩
  exact below_row (below_next HB.out hB1) (Nat.le_refl _) _

theorem cells6 {w : World} {b : Nat} {a0 a1 a2 a3 a4 a5 : Value} {t : TypeId} (h : w.heap[b]? = some (.cells #[a0, a1, a2, a3, a4, a5] t)) :
    w.cell? ⟨b, 0, none⟩ = some a0 ∧ w.cell? ⟨b, 1, none⟩ = some a1 ∧ w.cell? ⟨b, 2, none⟩ = some a2 ∧ w.cell? ⟨b, 3, none⟩ = some a3 ∧ w.cell? ⟨b, 4, none⟩ = some a4 ∧ w.cell? ⟨b, 5, none⟩ = some a5 := by
  refine ⟨?_, ?_, ?_, ?_, ?_, ?_⟩ <;> (rw [cell_of_row _ _ _ _ _ _ h]; rfl)
/-- A store of a whole row into another block. -/
theorem StIn.rowAside {u : World} {b lo hi : Nat} {pv : Value} {m : Nat → Int} {code : List (List InsD)} {pr : List Int} (h : StIn u b lo hi pv m code pr) {e : Nat} {r : Array Value} (h1 : b ≠ e) (h2 : pv.ownBlock ≠ some e) (h3 : e < lo ∨ hi ≤ e) : StIn (u.setRow e r) b lo hi pv m code pr := by
  obtain ⟨cs, a, cap, g1, g2, g3, g4, g5, g6⟩ := h.box
  have hk : ∀ k, k ≠ e → (u.setRow e r).heap[k]? = u.heap[k]? := fun k hk => setRow_other _ _ _ _ hk
  refine ⟨⟨cs, a, cap, (hk b h1).trans g1, g2, g3, g4, g5, g6.keep fun k k1 k2 => hk k ?_⟩, ?_, h.off, h.two, h.len, h.lens, by simpa using h.top⟩
  · rcases h3 with h' | h' <;> omega
  · refine ⟨h.own.1, ?_⟩
    rcases h.own.2 with q | ⟨g, cap', cur, rfl, hb, hh, hr⟩
    · exact .inl q
    · have : g ≠ e := fun x => h2 (by simp [Value.ownBlock, x])
      exact .inr ⟨g, cap', cur, rfl, hb, (hk g this).trans hh, hr⟩
theorem Touch.row {X : Nat → Prop} {w w' : World} (h : Touch X w w') {e : Nat} {r : Array Value} (he : w.heap.size ≤ e) : Touch X w (w'.setRow e r) :=
  ⟨h.os, h.tape, h.output, by simpa using h.size, fun k hk hx => (setRow_other _ _ _ _ (by omega)).trans (h.block k hk hx)⟩
/-- What a step leaves. -/
def StepPost (w : World) (b lo hi : Nat) (pv : Value) (code : List (List InsD)) (m : Nat → Int) (pr : List Int) (ev : Value) (e : Ending) (w' : World) : Prop :=
  e = .returned (.tuple #[ev, .bool true]) ∧ ∃ pv', StIn w' b lo hi pv' m code pr ∧ Touch (fun j => j = b ∨ pv.ownBlock = some j) w w' ∧ (pv'.ownBlock = pv.ownBlock ∨ ∃ g, pv'.ownBlock = some g ∧ w.heap.size ≤ g)
/-- The numbers when thread k is behind its instruction. -/
abbrev pcUp (m : Nat → Int) (k : Nat) : Nat → Int := upd m (1 + k * 6 + 1) (m (1 + k * 6 + 1) + 1)
abbrev evK (m : Nat → Int) (k : Nat) (x : InsD) : Value := evV k (m (1 + k * 6 + 1)) x.op (edE (doE (pcUp m k) k x).1 (fun _ => 0) 3) (edE (doE (pcUp m k) k x).1 (fun _ => 0) 4) (edE (doE (pcUp m k) k x).1 (fun _ => 0) 5)

set_option maxHeartbeats 1000000 in
theorem step_yes {b lo hi : Nat} {pv : Value} {m : Nat → Int} {code : List (List InsD)} {pr : List Int} (k p : Nat) (x : InsD) (w : World) (S : StIn w b lo hi pv m code pr) (I : Inv m code) (hpl : pr.length ≤ 1000000) (hk : k < code.length) (hc : canM code m k = true) (hx : insM code m k = some x) (hp : m (1 + k * 6 + 1) = p) (hp60 : p ≤ 60) (hfit : ∃ n, InsFit code.length n x) (hbl : blockedM m x = false) :
    Calls Try.prog 41 #[.pointer (some ⟨b, 0, none⟩), .int .i64 k] w (StepPost w b lo hi pv code (stepK m k x) (pr ++ doT (pcUp m k) k x) (evK m k x)) := by
  have hl6 := S.len
  have hk6 : (k : Int) < 6 := by omega
  have HC := Lib.hid (fun u (hB : Below w.heap.size w u) => hc ▸ can_any k u (S.later hB) I)
  have HX := Lib.hid (fun u (hB : Below w.heap.size w u) => (S.later hB).next I hx)
  have HX' := Lib.hid hx
  clear hc hx
  go_enter Try.func41, Try.ntmps41
  go_wp2_with fail
  generalize hV : World.alloc w _ = V
  have hB : Below w.heap.size w V := by rw [← hV]; exact below_box _ _
  have hN : V.heap[w.heap.size]? = some (evC 0 0 0 0 0 0) := by rw [← hV]; exact heap_alloc_new _ _
  have HB := Lib.hid hB
  have HN := Lib.hid hN
  clear hV hB hN
  go_wp2_with (first
    | (go_at_call 42; refine (HC.out _ HB.out).mono ?_; rintro e w1 ⟨rfl, hB1⟩; have hN1 := Lib.hid ((hB1.block _ (Array.getElem?_eq_some_iff.1 HN.out).1).trans HN.out)))
  have HB1 := Lib.hid (below_next HB.out hB1)
  clear hB1
  go_region_law (first
    | (go_simp; go_at_call 57; refine (HX.out _ (by first | exact HB1.out.drew | exact (below_new HB1.out _).drew)).mono ?_; rintro e w2 ⟨rfl, hB2⟩; first | (have hz : w2.heap[w1.heap.size]? = some (insO 0 0 0 0) := (hB2.block w1.heap.size (by simp)).trans (heap_alloc_new w1 _); obtain ⟨z0, z1, z2, z3⟩ := cells4 hz; have fz := fun j => frozen_of_row _ _ j _ _ hz) | skip))
  all_goals first
    | (generalize hU : World.alloc w2 _ = U
       have hs2 : w1.heap.size ≤ w2.heap.size := hB2.size
       have hUB : Below w1.heap.size w1 U := by rw [← hU]; exact ((Below.refl _ _).drew.trans (by exact hB2)).trans ((below_box w2 _).mono hs2)
       have hg : U.heap[w2.heap.size]? = some (insO x.op x.a x.b x.c) := by rw [← hU]; exact heap_alloc_new _ _
       clear hU hB2
       generalize w2.heap.size = g at hg hs2 ⊢)
    | (generalize hU : World.setCell _ _ _ = U
       have hs2 : w1.heap.size ≤ w1.heap.size := Nat.le_refl _
       have hUB : Below w1.heap.size w1 U := by rw [← hU]; exact stBelow_set (stBelow_set (stBelow_set (stBelow_set ((below_box w1 (insO 0 0 0 0)).drew.trans (by exact hB2.mono (below_box w1 (insO 0 0 0 0)).size)) (Nat.le_refl _)) (Nat.le_refl _)) (Nat.le_refl _)) (Nat.le_refl _)
       have hg : U.heap[w1.heap.size]? = some (insO x.op x.a x.b x.c) := by rw [← hU]; exact stSet_four hz
       clear hU hB2 z0 z1 z2 z3 fz hz
       generalize hgg : w1.heap.size = g at hg ⊢
       replace hs2 : w1.heap.size ≤ g := by omega
       clear hgg)
  all_goals
    have hw1 : w.heap.size < w1.heap.size := (Array.getElem?_eq_some_iff.1 hN1.out).1
    have HNU := Lib.hid ((hUB.block _ hw1).trans hN1.out)
    have HUB := Lib.hid (below_next HB1.out hUB)
    obtain ⟨i0, i1, i2, i3⟩ := cells4 hg
    have SU := S.later HUB.out
    have c1 := SU.pc k (by omega)
    rw [hp] at c1
    have lb := SU.lt
    have lg := cell_lt i0
    have hpi : (p : Int) ≤ 60 := by omega
    have c1' : ∀ o, (U.alloc o).cell? ⟨b, 1 + k * 6 + 1, none⟩ = some (.int .i64 p) := fun o => ((below_box U o).cell (p := ⟨b, 1 + k * 6 + 1, none⟩) lb).trans c1
    have i0' : ∀ o, (U.alloc o).cell? ⟨g, 0, none⟩ = some (.int .u8 x.op) := fun o => ((below_box U o).cell (p := ⟨g, 0, none⟩) lg).trans i0
    have HSU := Lib.hid SU
    have Hg := Lib.hid hg
    clear hUB SU hN1 hg
    go_wp2_with fail
    go_region
    clear c1 c1' i0' i0 i1 i2 i3
    generalize hE : World.drew _ = E
    have hEB : Below U.heap.size U E := by rw [← hE]; exact (below_box U _).drew
    have he : E.heap[U.heap.size]? = some (evC k p x.op 0 0 0) := by rw [← hE]; exact heap_alloc_new U _
    have SE := HSU.out.later hEB
    have c1 := SE.pc k (by omega)
    rw [hp] at c1
    have fz := SE.frozen
    have hEr : E.heap[w.heap.size]? = some (evC 0 0 0 0 0 0) := by rw [← hE]; exact ((below_box U _).block _ (Array.getElem?_eq_some_iff.1 HNU.out).1).trans HNU.out
    clear hE
    have hbw := S.lt
    have hsU := HUB.out.size
    have hgb : g ≠ b := by omega
    have hgE : (E.setCell ⟨b, 1 + k * 6 + 1, none⟩ (.int .i64 (p + 1))).heap[g]? = some (insO x.op x.a x.b x.c) := (Below.heap_setCell _ _ _ _ hgb).trans ((hEB.block g lg).trans Hg.out)
    obtain ⟨i0, i1, i2, i3⟩ := cells4 hgE
    have SF := SE.set (1 + k * 6 + 1) (p + 1) (.int .i64 (p + 1)) (valAt_i (by simp [isB]; omega) (by omega)).symm (by omega) (by omega)
    have heF : (E.setCell ⟨b, 1 + k * 6 + 1, none⟩ (.int .i64 (p + 1))).heap[U.heap.size]? = some (evO (.int .i64 k) (.int .i64 p) (.int .u8 x.op) (fun _ => 0)) := (Below.heap_setCell _ _ _ _ (by simp only; omega)).trans he
    have hown : pv.ownBlock ≠ some U.heap.size := fun e => by have := (own_lt HSU.out.own _ e).1; omega
    have hb1 : blockedM (upd m (1 + k * 6 + 1) (p + 1)) x = false := by rw [blocked_pc _ _ (by omega)]; exact hbl
    obtain ⟨n, hfit⟩ := hfit
    have HD := Lib.hid (do_any SF heF (by omega) hown (.inr HSU.out.top) hpl (k := k) (by omega) hl6 x hfit (fun c hc => by rw [upd_ne _ _ (by omega), upd_ne _ _ (by omega)]; exact I.chan c hc) hb1)
    have HEB := Lib.hid hEB
    have HEr := Lib.hid hEr
    clear SE hEB he SF heF hEr hgE
    go_wp2_with (first
      | (go_at_call 58; refine HD.out.mono ?_; rintro e w3 ⟨rfl, pv', S3, he3, T3, ho3⟩
         have hsz3 := T3.size
         rw [size_setCell] at hsz3 ho3
         have hEs := HEB.out.size
         have he4 : ∀ v, (w3.setCell ⟨b, 90, none⟩ v).heap[U.heap.size]? = _ := fun v => (Below.heap_setCell _ _ _ _ (by simp only; omega)).trans he3
         have hr4 : ∀ v, (w3.setCell ⟨b, 90, none⟩ v).heap[w.heap.size]? = some (evC 0 0 0 0 0 0) := fun v => (Below.heap_setCell _ _ _ _ (by simp only; omega)).trans ((T3.block _ (by rw [size_setCell]; omega) (by rintro (e | e | e) <;> first | omega | (have := (own_lt S.own _ e).1; omega))).trans ((Below.heap_setCell _ _ _ _ (by simp only; omega)).trans HEr.out))
         have t90 := S3.trap
         have fz3 := S3.frozen
         obtain ⟨q0, q1, q2, q3, q4, q5⟩ := cells6 (he4 (.bool (!(doE (upd m (1 + k * 6 + 1) (p + 1)) k x).2)))
         have HS3 := Lib.hid S3
         have HT3 := Lib.hid T3
         have HR4 := Lib.hid hr4
         clear S3 T3 he3 he4 hr4)
      | (refine wpList_store_row rfl 41 (.tmp 4) (.tmp 45) rfl w.heap.size _ rfl rfl 41 _ (HR4.out _) info_event rfl (by simp [Value.oneCell']) ?_))
    refine bodyPost_ret (v := .tuple #[evK m k x, .bool true]) (st_results (p := 4) (u := 5) rfl _ _ w.heap.size 41 #[.int .i64 k, .int .i64 (m (1 + k * 6 + 1)), .int .u8 x.op, .int .i64 (edE (doE (pcUp m k) k x).1 (fun _ => 0) 3), .int .i64 (edE (doE (pcUp m k) k x).1 (fun _ => 0) 4), .int .i64 (edE (doE (pcUp m k) k x).1 (fun _ => 0) 5)] (0, 0) _ rfl (by rw [show pcUp m k = upd m (1 + k * 6 + 1) (p + 1) by unfold pcUp; rw [hp], hp]; exact setRow_heap _ _ _ _ _ _ (HR4.out _)) Try.underlying41 rfl info_event) rfl ⟨rfl, pv', ?_, ?_, ?_⟩
    · refine StIn.rowAside ?_ (by omega) ?_ (.inr ?_)
      · unfold stepK pcUp
        rw [hp]
        exact HS3.out.set 90 _ _ (by rw [valAt_b (by simp [isB]), bitN_eq]) (by omega) (by omega)
      · rcases ho3 with e | ⟨g', e, h'⟩
        · rw [e]; intro e'; have := (own_lt S.own _ e').1; omega
        · rw [e]; intro e'; cases e'; omega
      · exact S.top
    · refine Touch.row (Touch.set (Touch.trans (Touch.set (Touch.of_below (below_next HUB.out HEB.out)) (.inl rfl)) HT3.out ?_) (.inl rfl)) (Nat.le_refl _)
      rintro j hj (e | e | e)
      · exact .inl e
      · omega
      · exact .inr e
    · rcases ho3 with e | ⟨g', e, h'⟩
      · exact .inl e
      · exact .inr ⟨g', e, by omega⟩
end Go.Proofs.Ytfcfdneganknjaa
