/- What the laws of this seat stand on, part 20. -/
import Derived.Test.YtnbpneaiibandaaPa0
import Derived.Lib.SmallJoins
import Derived.Test.YtnbpneaiibandaaPa1
import Derived.Test.YtnbpneaiibandaaPa6
import Derived.Test.YtnbpneaiibandaaPa10
import Derived.Test.YtnbpneaiibandaaPa18
import Derived.Test.YtnbpneaiibandaaPa19
set_option linter.unusedVariables false
set_option linter.unusedSimpArgs false
set_option maxRecDepth 100000
set_option maxHeartbeats 40000000
namespace Go.Proofs.Ytnbpneaiibandaa
open Go.ChangeShapes Go.WideShapes Go.ChangeAt Go.RowKit
theorem new4_any (p : ProgD) (ca : Option Addr) (ccap : Nat) (ta : Option Addr) (tcap : Nat) (w : World) (hp : ProgIn w w.heap.size p ca ta) (hs : soundE p = 0) (u : World) (hu : Below w.heap.size w u) :
  Calls Try.prog 35 #[p.val ca ccap ta tcap] u (New4 p ca ccap ta tcap u) :=
 new4_yes p ca ccap ta tcap u (hp.later hu) hs fun y hy => by
  have h := refSound_any p ca ccap ta tcap y ((hp.later hu).later hy)
  rwa [hs] at h
def New4No (w : World) (e : Ending) (w' : World) : Prop := ∃ S : Array Value, e = .returned (.tuple #[.agg S, .bool false]) ∧ S.size = 19 ∧ S.all (·.oneCell') = true ∧ Below w.heap.size w w'
theorem kb7 {u u' : World} {g : Nat} {v0 v1 v2 v3 v4 v5 v6 : Value} {t : TypeId} (h : u.heap[g]? = some (.cells #[v0, v1, v2, v3, v4, v5, v6] t)) (hB : Below u.heap.size u u') : u'.cell? ⟨g, 0, none⟩ = some v0 ∧ u'.cell? ⟨g, 1, none⟩ = some v1 ∧ u'.cell? ⟨g, 2, none⟩ = some v2 ∧ u'.cell? ⟨g, 3, none⟩ = some v3 ∧ u'.cell? ⟨g, 4, none⟩ = some v4 ∧ u'.cell? ⟨g, 5, none⟩ = some v5 ∧ u'.cell? ⟨g, 6, none⟩ = some v6 :=
 have h' := old_later h hB
 ⟨cell_of_row _ _ 0 _ _ _ h', cell_of_row _ _ 1 _ _ _ h', cell_of_row _ _ 2 _ _ _ h', cell_of_row _ _ 3 _ _ _ h', cell_of_row _ _ 4 _ _ _ h', cell_of_row _ _ 5 _ _ _ h', cell_of_row _ _ 6 _ _ _ h'⟩
theorem new4_no (p : ProgD) (ca : Option Addr) (ccap : Nat) (ta : Option Addr) (tcap : Nat) (w : World) (hp : ProgIn w w.heap.size p ca ta) (hs : soundE p ≠ 0) :
  Calls Try.prog 35 #[p.val ca ccap ta tcap] w (New4No w) := by
 have HP := Lib.hid hp
 have hs' : (soundE p == 0) = false := by simpa using hs
 have HSe := Lib.hid (fun u (hu : Below w.heap.size w u) => refSound_any p ca ccap ta tcap u (hp.later hu))
 clear hp hs
 generalize soundE p = se at *
 go_enter Try.func35, Try.ntmps35
 go_upto_region 1 with (fail)
 generalize hW : World.alloc (World.alloc w _) _ = W
 have HB : Hid (Below w.heap.size w W) := Lib.hid (by rw [← hW]; exact below_two _ _ _)
 have n1 := (congrArg (fun x : World => x.heap[w.heap.size]?) hW).symm.trans ((Below.heap_alloc _ _ _ (by simp)).trans (heap_alloc_new _ _))
 have n2 := (congrArg (fun x : World => x.heap[w.heap.size + 1]?) hW).symm.trans (heap_alloc2_new _ _ _)
 have HN2 := Lib.hid n2
 obtain ⟨b0, b1, b2, b3, b4, b5, b6⟩ := kb7 n1 (Below.refl _ _)
 clear hW n1 n2
 go_upto_region 2 with (go_at_call 55; refine (HSe.out W HB.out).mono ?_; rintro e w1 ⟨rfl, hB1⟩; have HM2 := Lib.hid (old_later HN2.out hB1); have HB1 := Lib.hid (below_next HB.out hB1); clear hB1 b0 b1 b2 b3 b4 b5 b6)
 generalize hZ : (#[.int .i64 0, .int .i64 0, .int .i64 0, .slice none 0 0, .int .i64 0, .int .i64 0, .slice none 0 0, .slice none 0 0, .slice none 0 0, .slice none 0 0, .slice none 0 0, .slice none 0 0, .slice none 0 0, .slice none 0 0, .slice none 0 0, .slice none 0 0, .slice none 0 0, .slice none 0 0, .int .i64 0] : Array Value) = Z at *
 have hZ19 : Z.size = 19 := by rw [← hZ]; rfl
 have hZ1 : Z.all (·.oneCell') = true := by rw [← hZ]; simp [Value.oneCell']
 have hSz : (Try.prog.info? 72).map (·.size) = some Z.size := by rw [hZ19]; exact info_S
 have HZ := Lib.hid hZ.symm
 clear hZ
 go_wp2_with (first
  | (rw [← HZ.out]; refine wpList_store_row rfl 72 (.tmp 2) (.tmp 10) rfl (w.heap.size + 1) _ rfl rfl 72 _ HM2.out hSz rfl hZ1 ?_))
 refine bodyPost_ret (v := .tuple #[.agg Z, .bool false]) (st_results (p := 2) (u := 3) rfl _ _ (w.heap.size + 1) 72 Z (0, 0) _ rfl (setRow_heap _ _ _ _ _ _ HM2.out) Try.underlying72 rfl hSz) rfl ?_
 unfold New4No
 exact ⟨Z, rfl, hZ19, hZ1, below_row HB1.out (by omega) _⟩
def Bad5 (c : Int) (w : World) (e : Ending) (w' : World) : Prop := e = .returned (.tuple #[.agg #[.slice none 0 0, .int .u8 0, .slice none 0 0, .slice none 0 0], .int .i64 c]) ∧ Below w.heap.size w w'
theorem run5_no (p : ProgD) (ca : Option Addr) (ccap : Nat) (ta : Option Addr) (tcap : Nat) (a : Option Addr) (cap n : Nat) (w : World) (hp : ProgIn w w.heap.size p ca ta) (hs : soundE p ≠ 0) :
  Calls Try.prog 17 #[p.val ca ccap ta tcap, .slice a n cap] w (Bad5 1 w) := by
 have HNew := Lib.hid (fun u (hu : Below w.heap.size w u) => new4_no p ca ccap ta tcap u (hp.later hu) hs)
 clear hp hs
 go_enter Try.func17, Try.ntmps17
 go_upto_region 1 with (fail)
 generalize hW : World.alloc (World.alloc w _) _ = W
 have HB : Hid (Below w.heap.size w W) := Lib.hid (by rw [← hW]; exact below_two _ _ _)
 have n1 := (congrArg (fun x : World => x.heap[w.heap.size]?) hW).symm.trans ((Below.heap_alloc _ _ _ (by simp)).trans (heap_alloc_new _ _))
 have n2 := (congrArg (fun x : World => x.heap[w.heap.size + 1]?) hW).symm.trans (heap_alloc2_new _ _ _)
 have HN2 := Lib.hid n2
 obtain ⟨b0, b1, b2, b3, b4, b5, b6⟩ := kb7 n1 (Below.refl _ _)
 clear hW n1 n2
 go_upto_region 2 with (first
  | (refine wpList_store_row rfl 72 (.tmp 6) (.tmp 16) rfl w1.heap.size _ rfl rfl 72 _ (heap_alloc_new _ _) hSz (by rw [hS19]; rfl) hS1 ?_)
  | (go_at_call 35; refine (HNew.out W HB.out).mono ?_; rintro e w1 ⟨S, rfl, hS19, hS1, hB1⟩; have hSz : (Try.prog.info? 72).map (·.size) = some S.size := (by rw [hS19]; exact info_S); have HM2 := Lib.hid (old_later HN2.out hB1); have HB1 := Lib.hid (below_next HB.out hB1); clear hB1 b0 b1 b2 b3 b4 b5 b6))
 generalize hV : World.setRow (World.alloc w1 _) _ _ = V
 have HBV : Hid (Below w1.heap.size w1 V) := Lib.hid (by rw [← hV]; exact (below_row ((Below.refl _ w1).alloc (Nat.le_refl _) _) (Nat.le_refl _) S))
 have HM3 := old_later HM2.out HBV.out
 obtain ⟨r0, r1, r2, r3⟩ := cells4 HM3
 have rfz := fun j => frozen_of_row _ _ j _ _ HM3
 have HMM := Lib.hid HM3
 have HBw := Lib.hid (below_next HB1.out HBV.out)
 clear hV HM3 hS1 hSz
 go_wp2
 refine bodyPost_ret (v := .tuple #[.agg #[.slice none 0 0, .int .u8 0, .slice none 0 0, .slice none 0 0], .int .i64 1]) (st_results (p := 4) (u := 5) rfl _ _ (w.heap.size + 1) 37 #[.slice none 0 0, .int .u8 0, .slice none 0 0, .slice none 0 0] (0, 0) _ rfl (stSet_four HMM.out) Try.underlying37 rfl info_result) rfl ?_
 exact ⟨rfl, stBelow_set (stBelow_set (stBelow_set (stBelow_set HBw.out (by omega)) (by omega)) (by omega)) (by omega)⟩
theorem run5_long (p : ProgD) (ca : Option Addr) (ccap : Nat) (ta : Option Addr) (tcap : Nat) (a : Option Addr) (cap n : Nat) (w : World) (hp : ProgIn w w.heap.size p ca ta) (hs : soundE p = 0) (hn : 2000 < n) :
  Calls Try.prog 17 #[p.val ca ccap ta tcap, .slice a n cap] w (Bad5 3 w) := by
 have HNew := Lib.hid (new4_any p ca ccap ta tcap w hp hs)
 clear hp hs
 go_enter Try.func17, Try.ntmps17
 go_upto_region 1 with (fail)
 generalize hW : World.alloc (World.alloc w _) _ = W
 have HB : Hid (Below w.heap.size w W) := Lib.hid (by rw [← hW]; exact below_two _ _ _)
 have n1 := (congrArg (fun x : World => x.heap[w.heap.size]?) hW).symm.trans ((Below.heap_alloc _ _ _ (by simp)).trans (heap_alloc_new _ _))
 have n2 := (congrArg (fun x : World => x.heap[w.heap.size + 1]?) hW).symm.trans (heap_alloc2_new _ _ _)
 have HN2 := Lib.hid n2
 obtain ⟨b0, b1, b2, b3, b4, b5, b6⟩ := kb7 n1 (Below.refl _ _)
 clear hW n1 n2
 go_upto_region 2 with (first
  | (refine wpList_store_row rfl 72 (.tmp 6) (.tmp 16) rfl w1.heap.size _ rfl rfl 72 _ (heap_alloc_new _ _) hSz (by rw [hS19]; rfl) hS1 ?_)
  | (go_at_call 35; refine (HNew.out W HB.out).mono ?_; rintro e w1 ⟨S, fv, rs, qs, rfl, hSV, hRf, hB1⟩; have hS1 := sv_one hSV (hRf _ (Touch.of_below (Below.refl _ _))); have hS19 : S.size = 19 := (by rw [hSV.eq]; rfl); have hSz : (Try.prog.info? 72).map (·.size) = some S.size := (by rw [hS19]; exact info_S); have HM2 := Lib.hid (old_later HN2.out hB1); have HB1 := Lib.hid (below_next HB.out hB1); clear hB1 hSV hRf b0 b1 b2 b3 b4 b5 b6))
 generalize hV : World.setRow (World.alloc w1 _) _ _ = V
 have HBV : Hid (Below w1.heap.size w1 V) := Lib.hid (by rw [← hV]; exact (below_row ((Below.refl _ w1).alloc (Nat.le_refl _) _) (Nat.le_refl _) S))
 have HM3 := old_later HM2.out HBV.out
 obtain ⟨r0, r1, r2, r3⟩ := cells4 HM3
 have rfz := fun j => frozen_of_row _ _ j _ _ HM3
 have HMM := Lib.hid HM3
 have HBw := Lib.hid (below_next HB1.out HBV.out)
 clear hV HM3 hS1 hSz
 go_wp2
 refine bodyPost_ret (v := .tuple #[.agg #[.slice none 0 0, .int .u8 0, .slice none 0 0, .slice none 0 0], .int .i64 3]) (st_results (p := 4) (u := 5) rfl _ _ (w.heap.size + 1) 37 #[.slice none 0 0, .int .u8 0, .slice none 0 0, .slice none 0 0] (0, 0) _ rfl (stSet_four HMM.out) Try.underlying37 rfl info_result) rfl ?_
 exact ⟨rfl, stBelow_set (stBelow_set (stBelow_set (stBelow_set HBw.out (by omega)) (by omega)) (by omega)) (by omega)⟩
def turnI (o : Option Nat) : Int := match o with | some k => (k : Int) | none => -1
theorem next4_any (S : Array Value) (p : ProgD) (ca : Option Addr) (ccap : Nat) (ta : Option Addr) (tcap : Nat) (fv : Nat → Value) (rs qs : Value) (m : Nat → Int) (told : List Int) (w : World) (hS : SV S p ca ccap ta tcap fv rs qs (bitN (m 90 == 1))) (hR : Rf w fv rs qs (flM p m told) p.threads.length p.chans.length) (hP : ProgIn w w.heap.size p ca ta) (hs : soundE p = 0) (I : Inv m p.threads) (R : InvR p m) (ht : told.length ≤ 1000000) (last : Nat) (hl : last ≤ 100) :
  Calls Try.prog 40 #[.agg S, .int .i64 last] w fun e w' => e = .returned (.int .i64 (turnI (turnM p.threads p.threads.length (last + 1) m))) ∧ Below w.heap.size w w' := by
 have hn6 := (sizes_parts (sound_parts hs).1).2.2.2.2.2.2.1.2
 have hn1 := (sizes_parts (sound_parts hs).1).2.2.2.2.2.2.1.1
 have HCan := Lib.hid (fun u (hB : Below w.heap.size w u) (k : Int) => can4_any S p ca ccap ta tcap fv rs qs m told u hS (hR.later hB) (hP.later hB) hs I R ht k)
 have hSz : (Try.prog.info? 72).map (·.size) = some S.size := by rw [hS.eq]; exact info_S
 obtain ⟨a0, k0, e0, r0⟩ := hR.row 0
 have l0 : (flM p m told 0).length = p.threads.length := by simp [flM]
 rw [l0] at e0
 have s7 : S[7]? = some (.slice a0 p.threads.length k0) := by rw [← e0, hS.eq]; rfl
 have c7 : (w.alloc (.cells S 72)).cell? ⟨w.heap.size, 7, none⟩ = some (.slice a0 p.threads.length k0) := (cell_of_row _ _ _ _ _ _ (heap_alloc_new _ _)).trans s7
 clear hS hR hP I R r0 e0 l0 hs s7
 generalize hn : p.threads.length = n at *
 go_enter Try.func40, Try.ntmps40
 go_wp2_with fail
 generalize hW : World.alloc w _ = W at *
 have HB : Hid (Below w.heap.size w W) := Lib.hid (by rw [← hW]; exact below_box _ _)
 have HN : Hid (W.heap[w.heap.size]? = some (.cells S 72)) := Lib.hid (by rw [← hW]; exact heap_alloc_new _ _)
 clear hW c7
 go_loopw [6] (fun i wr => ∃ j : Nat, j ≤ n ∧ i = .int .i64 ((j : Int) + 1) ∧ Below W.heap.size W wr ∧ Hid (∀ t, t < j → canM p.threads m ((last + 1 + t) % n : Nat) = false)) (fun i _ => n + 1 - (intOf i).toNat)
 case atStart => exact ⟨0, Nat.zero_le _, rfl, Below.refl _ _, Lib.hid (fun t h => by omega)⟩
 case round =>
  obtain ⟨j, hj, rfl, hB, HZ⟩ := hrel
  have HBx := Lib.hid (old_later HN.out hB)
  by_cases hlt : j < n
  ·have hle : (j : Int) + 1 ≤ (n : Int) := by omega
   have hmod : ((last : Int) + ((j : Int) + 1)).tmod n = ((last + 1 + j) % n : Nat) := by
    rw [Int.tmod_eq_emod_of_nonneg (by omega), show (last : Int) + ((j : Int) + 1) = ((last + 1 + j : Nat) : Int) by push_cast; omega]; push_cast; rfl
   have hn0 : ¬ n = 0 := by omega
   have HC := Lib.hid (HCan.out wr (below_next HB.out hB) (((last + 1 + j) % n : Nat) : Int))
   rcases hcan : canM p.threads m (((last + 1 + j) % n : Nat) : Int) with _ | _
   ·rw [hcan] at HC
    have HX := Lib.hid hcan
    clear hcan
    generalize hkk : (last + 1 + j) % n = kk at *
    have HKK := Lib.hid hkk
    clear hkk
    go_wp2_with (first
     | (go_at_call 56; refine HC.out.mono ?_; rintro e w1 ⟨rfl, hB1⟩)
     | (refine wpList_load_row rfl 72 (.tmp 2) rfl w.heap.size rfl 72 S (0, 0) _ HBx.out Try.underlying72 rfl hSz ?_))
    go_roundw
    case rel =>
     refine ⟨j + 1, by omega, by go_num, below_next hB hB1, Lib.hid (fun t h => ?_)⟩
     rcases Nat.lt_or_ge t j with q | q
     ·exact HZ.out t q
     ·obtain rfl : t = j := by omega
      rw [HKK.out]; exact HX.out
    case measure => simp [intOf]; omega
   ·rw [hcan] at HC
    have HT := Lib.hid (turn_yes (code := p.threads) hlt HZ.out hcan)
    clear hcan
    generalize hkk : (last + 1 + j) % n = kk at *
    clear hkk
    go_wp2_with (first
     | (go_at_call 56; refine HC.out.mono ?_; rintro e w1 ⟨rfl, hB1⟩)
     | (refine wpList_load_row rfl 72 (.tmp 2) rfl w.heap.size rfl 72 S (0, 0) _ HBx.out Try.underlying72 rfl hSz ?_))
    go_ret
    exact ⟨by rw [HT.out]; rfl, below_next HB.out (below_next hB hB1)⟩
  ·obtain rfl : j = n := by omega
   have HT := Lib.hid (turn_no (code := p.threads) HZ.out)
   have hle : ¬ (j : Int) + 1 ≤ (j : Int) := by omega
   go_wp2
   go_ret
   exact ⟨by rw [HT.out]; rfl, below_next HB.out hB⟩
def lenS : Value → Nat
 | .slice _ n _ => n
 | _ => 0
structure RoR (u0 u : World) (gS b0 : Nat) (S : Array Value) (p : ProgD) (ca : Option Addr) (ccap : Nat) (ta : Option Addr) (tcap : Nat) (fv : Nat → Value) (rs qs kv : Value) (m : Nat → Int) (told sc : List Int) : Prop where
 sB : u.heap[gS]? = some (.cells S 72)
 lo : gS < u0.heap.size ∧ b0 ≤ u0.heap.size
 script : u.ownsRow u0.heap.size 3 1 kv sc.length (sc.map (.int .i64 ·))
 rf : ∀ u', Touch (fun g => g < b0 ∨ g = gS ∨ kv.ownBlock = some g) u u' → Rf u' fv rs qs (flM p m told) p.threads.length p.chans.length
 sv : SV S p ca ccap ta tcap fv rs qs (bitN (m 90 == 1))
 bel : Touch (fun g => g = gS) u0 u
section
variable {u0 u u' : World} {gS b0 : Nat} {S : Array Value} {p : ProgD} {ca : Option Addr} {ccap : Nat} {ta : Option Addr} {tcap : Nat} {fv : Nat → Value} {rs qs kv : Value} {m : Nat → Int} {told sc : List Int}
theorem RoR.now (h : RoR u0 u gS b0 S p ca ccap ta tcap fv rs qs kv m told sc) : Rf u fv rs qs (flM p m told) p.threads.length p.chans.length := h.rf u (Touch.of_below (Below.refl _ _))
theorem RoR.later (h : RoR u0 u gS b0 S p ca ccap ta tcap fv rs qs kv m told sc) (hB : Below u.heap.size u u') : RoR u0 u' gS b0 S p ca ccap ta tcap fv rs qs kv m told sc :=
 ⟨old_later h.sB hB, h.lo, own_later h.script hB, fun x T => h.rf x ((Touch.of_below hB).trans T fun k hk hx => hx), h.sv, h.bel.trans (Touch.of_below hB) fun k hk hx => hx⟩
theorem RoR.stepped (h : RoR u0 u gS b0 S p ca ccap ta tcap fv rs qs kv m told sc) {S' : Array Value} {fv' : Nat → Value} {rs' qs' : Value} {m' : Nat → Int} {told' : List Int} (hSV : SV S' p ca ccap ta tcap fv' rs' qs' (bitN (m' 90 == 1))) (hRf : ∀ x, Touch (fun g => g < u0.heap.size ∨ kv.ownBlock = some g) u x → Rf x fv' rs' qs' (flM p m' told') p.threads.length p.chans.length) :
  RoR u0 (u.setRow gS S') gS b0 S' p ca ccap ta tcap fv' rs' qs' kv m' told' sc := by
 have hT : Touch (fun g => g = gS) u (u.setRow gS S') := ⟨rfl, rfl, rfl, by simp, fun k hk hx => setRow_other _ _ _ _ hx⟩
 obtain ⟨l1, l2⟩ := h.lo
 refine ⟨setRow_heap _ _ _ _ _ _ h.sB, h.lo, own_touch h.script hT fun g e e2 => ?_, fun x T => hRf x ((hT.mono (fun k _ e => .inl (by omega))).trans T fun k _ hx => ?_), hSV, h.bel.trans hT fun k hk e => e⟩
 ·have := (own_lt h.script g e).2; omega
 ·rcases hx with q | q | q
  ·exact .inl (by omega)
  ·exact .inl (by omega)
  ·exact .inr q
theorem RoR.turn {kv' : Value} (h : RoR u0 u gS b0 S p ca ccap ta tcap fv rs qs kv m told sc) (k : Int)
  (hrow : u'.ownsRow u0.heap.size 3 1 kv' (sc.length + 1) (sc.map (.int .i64 ·) ++ [.int .i64 k])) (hg : u.grownBy u' kv.ownBlock) (hat : kv'.ownBlock = kv.ownBlock ∨ kv'.ownBlock = some u.heap.size) :
  RoR u0 u' gS b0 S p ca ccap ta tcap fv rs qs kv' m told (sc ++ [k]) := by
 obtain ⟨l1, l2⟩ := h.lo
 have hs := h.bel.size
 have hkr : ∀ g, kv.ownBlock = some g → u0.heap.size ≤ g := fun g e => (own_lt h.script g e).2
 have T1 : Touch (fun j => kv.ownBlock = some j) u u' := Touch.grown hg fun k e => e
 refine ⟨(T1.block gS (by omega) ?_).trans h.sB, h.lo, ?_, fun x T => h.rf x ((T1.mono ?_).trans T ?_), h.sv, h.bel.trans T1 ?_⟩
 ·intro e; have := hkr gS e; omega
 ·rw [show (sc ++ [k]).length = sc.length + 1 by simp, show (sc ++ [k]).map (Value.int .i64 ·) = sc.map (.int .i64 ·) ++ [.int .i64 k] by simp]
  exact hrow
 ·intro j hj e; exact .inr (.inr e)
 ·rintro j hj (e | e | e)
  ·exact .inl e
  ·exact .inr (.inl e)
  ·rcases hat with q | q
   ·rw [q] at e; exact .inr (.inr e)
   ·rw [q] at e; cases e; omega
 ·intro j hj e; have := hkr j e; omega
end
theorem own_cells2 {u : World} {B : Nat} {a : Option Addr} {cap : Nat} {l : List Int} (h : u.ownsRow B 3 1 (.slice a l.length cap) l.length (l.map (.int .i64 ·))) : ∀ i x, l[i]? = some x → ∃ g, a = some ⟨g, 0, none⟩ ∧ B ≤ g ∧ g < u.heap.size ∧ u.cell? ⟨g, i, none⟩ = some (.int .i64 x) := by
 obtain ⟨a', c', e, h'⟩ := own_cells h
 cases e
 exact h'
theorem ResR.touch {u u' : World} {pr pk : List Int} {tr : List EvD} {va ka xa : Option Addr} (h : ResR u pr pk tr va ka xa) (hB : Below u.heap.size u u') : ResR u' pr pk tr va ka xa :=
 ⟨(h.prints.below hB).more hB.size, (h.picks.below hB).more hB.size, fun i x hx => by
  obtain ⟨g, e, hg, hE⟩ := h.trace i x hx
  exact ⟨g, e, Nat.lt_of_lt_of_le hg hB.size, hE.later hB⟩⟩
theorem run5_out {w u w9 : World} {p : ProgD} {sc rp : List Int} {va ka xa : Option Addr} {vc kc xc : Nat} {x0 x1 x2 x3 : Value} (hB : Below w.heap.size w u) (hB9 : Below u.heap.size u w9) (hl : w.heap.size + 1 < u.heap.size) (hres : ∀ z, Touch (fun g => g < u.heap.size) w9 z → ResR z (runT p.threads sc (newM p.chans)) (pkM p.threads sc (newM p.chans)) (trM p.threads sc (newM p.chans)) va ka xa) (hsc : rp = sc) :
  Run5 p rp w (.returned (.tuple #[.agg #[.slice va (runT p.threads sc (newM p.chans)).length vc, .int .u8 (statusM p.threads (runM p.threads sc (newM p.chans))), .slice ka (pkM p.threads sc (newM p.chans)).length kc, .slice xa (trM p.threads sc (newM p.chans)).length xc], .int .i64 0])) ((((w9.setCell ⟨w.heap.size + 1, 0, none⟩ x0).setCell ⟨w.heap.size + 1, 1, none⟩ x1).setCell ⟨w.heap.size + 1, 2, none⟩ x2).setCell ⟨w.heap.size + 1, 3, none⟩ x3) := by
 subst hsc
 have hT : Touch (fun g => g < u.heap.size) w9 ((((w9.setCell ⟨w.heap.size + 1, 0, none⟩ x0).setCell ⟨w.heap.size + 1, 1, none⟩ x1).setCell ⟨w.heap.size + 1, 2, none⟩ x2).setCell ⟨w.heap.size + 1, 3, none⟩ x3) := ((((Touch.of_below (X := fun g => g < u.heap.size) (Below.refl _ w9)).set (b := w.heap.size + 1) hl).set (b := w.heap.size + 1) hl).set (b := w.heap.size + 1) hl).set (b := w.heap.size + 1) hl
 refine ⟨va, vc, ka, kc, xa, xc, rfl, fun z T => hres z (hT.trans T fun q _ h => Nat.lt_of_lt_of_le h hB.size), stBelow_set (stBelow_set (stBelow_set (stBelow_set (below_next hB hB9) (by omega)) (by omega)) (by omega)) (by omega)⟩
theorem round5_yes (p : ProgD) (ca : Option Addr) (ccap : Nat) (ta : Option Addr) (tcap : Nat) (most : Nat) (w : World) (hp : ProgIn w w.heap.size p ca ta) (hs : soundE p = 0) (hm : most ≤ 2000) :
  Calls Try.prog 20 #[p.val ca ccap ta tcap, .int .i64 most] w (Run5 p (roundP p.threads p.threads.length most p.threads.length (newM p.chans)) w) := by
 have hn6 := (sizes_parts (sound_parts hs).1).2.2.2.2.2.2.1
 have HNew := Lib.hid (new4_any p ca ccap ta tcap w hp hs)
 have HP := Lib.hid hp
 have HS := Lib.hid hs
 have hm' : ¬ 2000 < most := by omega
 have hm1 : decide ((most : Int) < 0) = false := decide_eq_false (by omega)
 have hm2 : decide (2000 < (most : Int)) = false := decide_eq_false (by omega)
 clear hp hs
 go_enter Try.func20, Try.ntmps20
 go_upto_region 1 with (fail)
 generalize hW : World.alloc (World.alloc w _) _ = W
 have HB : Hid (Below w.heap.size w W) := Lib.hid (by rw [← hW]; exact below_two _ _ _)
 have n1 := (congrArg (fun x : World => x.heap[w.heap.size]?) hW).symm.trans ((Below.heap_alloc _ _ _ (by simp)).trans (heap_alloc_new _ _))
 have n2 := (congrArg (fun x : World => x.heap[w.heap.size + 1]?) hW).symm.trans (heap_alloc2_new _ _ _)
 have HN1 := Lib.hid n1
 have HN2 := Lib.hid n2
 obtain ⟨b0, b1, b2, b3, b4, b5, b6⟩ := kb7 n1 (Below.refl _ _)
 clear hW n1 n2
 go_upto_region 2 with (first
  | (refine wpList_store_row rfl 72 (.tmp 6) (.tmp 14) rfl w1.heap.size _ rfl rfl 72 _ (heap_alloc_new _ _) hSz (by rw [hS19]; rfl) hS1 ?_)
  | (go_at_call 35; refine (HNew.out W HB.out).mono ?_; rintro e w1 ⟨S, fv, rs, qs, rfl, hSV, hRf, hB1⟩; have hS1 := sv_one hSV (hRf _ (Touch.of_below (Below.refl _ _))); have hS19 : S.size = 19 := (by rw [hSV.eq]; rfl); have hSz : (Try.prog.info? 72).map (·.size) = some S.size := (by rw [hS19]; exact info_S); have HSV := Lib.hid hSV; have HRf := Lib.hid hRf; have HB1 := Lib.hid hB1; clear hSV hRf hB1 b0 b1 b2 b3 b4 b5 b6))
 generalize hV : World.setRow (World.alloc w1 _) _ _ = V
 have HBV : Hid (Below w1.heap.size w1 V) := Lib.hid (by rw [← hV]; exact (below_row ((Below.refl _ w1).alloc (Nat.le_refl _) _) (Nat.le_refl _) S))
 have hV1 : V.heap[w1.heap.size]? = some (.cells S 72) := by rw [← hV]; exact setRow_heap _ _ _ _ _ _ (heap_alloc_new _ _)
 have hVs : V.heap.size = w1.heap.size + 1 := by rw [← hV]; simp
 have HR0 : Hid (RoR V V w1.heap.size W.heap.size S p ca ccap ta tcap fv rs qs (.slice none 0 0) (newM p.chans) [] []) := Lib.hid ⟨hV1, ⟨by omega, by have := HB1.out.size; omega⟩, World.ownsRow_nil _ _ _ _, fun x T => HRf.out x ((Touch.of_below HBV.out).trans T fun k hk h => by rcases h with e | e | e <;> first | exact e | omega | cases e), by rw [show newM p.chans 90 = 0 from newM_zero _ (by omega) (by omega)]; exact HSV.out, Touch.of_below (Below.refl _ _)⟩
 have HBw := Lib.hid (below_next HB.out HB1.out)
 have hle := HBw.out.size
 have hW2 := HB.out.size
 have HM1 := Lib.hid (old_later HN1.out HB1.out)
 have HM2 := Lib.hid (old_later HN2.out HB1.out)
 have hml := (Array.getElem?_eq_some_iff.1 HM2.out).1
 have HK1 := Lib.hid (old_later HM1.out HBV.out)
 obtain ⟨v0, v1, v2, v3, v4, v5, v6⟩ := kb7 HK1.out (Below.refl _ _)
 clear hV hV1 HSV HRf hS1 hS19 hSz HN1
 generalize hgS : w1.heap.size = gS at *
 go_wp2_with fail
 go_loopw [8, 9] (fun sv lv u => ∃ (sc : List Int) (last : Nat) (S : Array Value) (fv : Nat → Value) (rs qs : Value), lv = .int .i64 last ∧ sc.length ≤ most ∧ last ≤ 6 ∧ Hid (roundP p.threads p.threads.length most p.threads.length (newM p.chans) = sc ++ roundP p.threads p.threads.length (most - sc.length) (last + 1) (runM p.threads sc (newM p.chans))) ∧ Hid (RoR V u gS W.heap.size S p ca ccap ta tcap fv rs qs sv (runM p.threads sc (newM p.chans)) (runT p.threads sc (newM p.chans)) sc)) (fun sv _ _ => most - lenS sv)
 case atStart => exact ⟨[], p.threads.length - 1, S, fv, rs, qs, by congr 1; omega, Nat.zero_le _, by omega, Lib.hid (by rw [show p.threads.length - 1 + 1 = p.threads.length by omega]; rfl), HR0⟩
 case round =>
  obtain ⟨sc, last, S, fv, rs, qs, rfl, hsl, hla, HEq, HR⟩ := hrel
  obtain ⟨ka, kc, rfl⟩ := st_slice HR.out.script
  have hBr : Below w.heap.size w wr := (below_next HBw.out (by rw [hgS]; exact HBV.out)).trans (HR.out.bel.below (fun g hg => by omega) (by omega))
  have hS19 : S.size = 19 := by rw [HR.out.sv.eq]; rfl
  have hSz : (Try.prog.info? 72).map (·.size) = some S.size := by rw [hS19]; exact info_S
  have hVw := HR.out.bel.size
  have hkeep : ∀ g, g < gS → wr.heap[g]? = w1.heap[g]? := fun g hg => (HR.out.bel.block g (by omega) (by omega)).trans (HBV.out.block g (by omega))
  have HK2 := Lib.hid ((hkeep w.heap.size (by omega)).trans HM1.out)
  have HMr : Hid (∀ u, Below wr.heap.size wr u → u.heap[w.heap.size + 1]? = some (.cells #[.slice none 0 0, .int .u8 0, .slice none 0 0, .slice none 0 0] 37)) := Lib.hid (fun u hu => (hu.block _ (by omega)).trans ((hkeep (w.heap.size + 1) hml).trans HM2.out))
  clear hkeep v0 v1 v2 v3 v4 v5 v6
  obtain ⟨v0, v1, v2, v3, v4, v5, v6⟩ := kb7 HK2.out (Below.refl _ _)
  by_cases hlt : sc.length < most
  ·have HK := Lib.hid (keep4_of HS.out sc (by omega))
   have q1 := runT_len p.threads sc (newM p.chans)
   have HNx := Lib.hid (next4_any S p ca ccap ta tcap fv rs qs _ _ wr HR.out.sv HR.out.now (HP.out.later hBr) HS.out HK.out.inv HK.out.invR (by omega) last (by omega))
   rcases htu : turnM p.threads p.threads.length (last + 1) (runM p.threads sc (newM p.chans)) with _ | k
   ·rw [htu] at HNx
    have HSc : Hid (roundP p.threads p.threads.length most p.threads.length (newM p.chans) = sc) := Lib.hid (by rw [HEq.out, show most - sc.length = (most - sc.length - 1) + 1 by omega]; simp only [roundP, htu, List.append_nil])
    clear htu
    simp only [turnI] at HNx
    have hsc := HSc.out
    clear HSc
    go_wp2_with (first
     | (go_at_call 17; refine (run5_yes p ca ccap ta tcap ka kc sc w2 (HP.out.later hBr2) HS.out HRow.out (by omega) (fun y hy => HNew.out y (below_next hBr2 hy))).mono ?_; rintro e w9 ⟨va, vc, k2, kc2, xa, xc, rfl, hres, hB9⟩; have m2 := old_later HM3.out hB9; obtain ⟨s0, s1, s2, s3⟩ := cells4 m2; have sfz := (fun j => frozen_of_row _ _ j _ _ m2); have Hm2 := Lib.hid m2; have HB9 := Lib.hid hB9; have HRes := Lib.hid hres; clear hB9 hres m2)
     | (go_at_call 40; refine HNx.out.mono ?_; rintro e w2 ⟨rfl, hB2⟩; have hs2 := hB2.size; have hBr2 := below_next hBr hB2; have HR2 := Lib.hid (HR.out.later hB2); have HRow := Lib.hid (row_own (cap := 0) (own_cells2 (HR2.out.script))); have HM3 := Lib.hid (HMr.out w2 hB2); obtain ⟨v0, v1, v2, v3, v4, v5, v6⟩ := kb7 HK2.out hB2; clear hB2)
     | (refine wpList_load_row rfl 72 (.tmp 6) rfl gS rfl 72 S (0, 0) _ HR.out.sB Try.underlying72 rfl hSz ?_))
    refine bodyPost_ret (v := .tuple #[.agg #[.slice va (runT p.threads sc (newM p.chans)).length vc, .int .u8 (statusM p.threads (runM p.threads sc (newM p.chans))), .slice k2 (pkM p.threads sc (newM p.chans)).length kc2, .slice xa (trM p.threads sc (newM p.chans)).length xc], .int .i64 0]) (st_results (p := 4) (u := 5) rfl _ _ (w.heap.size + 1) 37 #[.slice va (runT p.threads sc (newM p.chans)).length vc, .int .u8 (statusM p.threads (runM p.threads sc (newM p.chans))), .slice k2 (pkM p.threads sc (newM p.chans)).length kc2, .slice xa (trM p.threads sc (newM p.chans)).length xc] (0, 0) _ rfl (stSet_four Hm2.out) Try.underlying37 rfl info_result) rfl ?_
    exact run5_out hBr2 HB9.out (by omega) HRes.out hsc
   ·rw [htu] at HNx
    have hcan := turnM_can htu
    have hkn := (canM_has hcan).2
    have HEq2 : Hid (roundP p.threads p.threads.length most p.threads.length (newM p.chans) = (sc ++ [(k : Int)]) ++ roundP p.threads p.threads.length (most - (sc ++ [(k : Int)]).length) (k + 1) (runM p.threads (sc ++ [(k : Int)]) (newM p.chans))) := Lib.hid (by
     rw [HEq.out, show most - sc.length = (most - (sc.length + 1)) + 1 by omega, runM_append]
     simp only [roundP, htu, List.append_assoc, List.singleton_append, List.length_append, List.length_singleton, runM])
    have HSt := Lib.hid (fun u (hu : Below wr.heap.size wr u) => step4_keep S p ca ccap ta tcap fv rs qs _ _ u HR.out.sv (HR.out.now.later hu) (HP.out.later (below_next hBr hu)) HS.out HK.out.inv HK.out.invR HK.out.lk (by omega) (k : Int) hcan)
    rw [stepV_E] at HSt
    generalize stepE p.threads (runM p.threads sc (newM p.chans)) k = ev at HSt
    obtain ⟨e0, e1, e2, e3, e4, e5⟩ := ev
    simp only [EvD.v] at HSt
    have hkb : ∀ g, (Value.slice ka sc.length kc).ownBlock = some g → g < wr.heap.size := fun g e => (own_lt HR.out.script g e).1
    have HKb := Lib.hid hkb
    obtain ⟨t0, ti, tz0, tz1, tz2⟩ := info_parts info_intT
    simp only [turnI] at HNx
    clear htu hcan hkb HK
    go_wp2_with (first
     | (at_builtin; refine wpList_append_own_at _ rfl _ _ 24 rfl V.heap.size 3 t0 (.int .i64 0) 1 8 Try.underlying24 ti tz0 tz1 tz2 rfl (by decide) (.slice ka sc.length kc) sc.length (sc.map (.int .i64 ·)) rfl (own_later HR4.out.script (below_box _ _)) ⟨w3.heap.size, 0, none⟩ 1 1 [.int .i64 k] rfl rfl (by have := st_one_new0 (w3.setRow gS S2) (.int .i64 k) 3; rw [HSz3.out] at this; exact this) (by simp [Value.oneCell']) (by unfold maxLen; omega) (by omega) (by have := HR4.out.bel.size; simp at this ⊢; omega) ?_; intro v' w5 hown5 hgrow5 _ hat5; have HR5 := Lib.hid ((HR4.out.later (below_box _ (.cells #[.int .i64 k] 3))).turn k hown5 hgrow5 hat5); obtain ⟨ka5, kc5, rfl⟩ := st_slice hown5; clear hown5 hgrow5 hat5)
     | (refine wpList_store_row rfl 72 (.tmp 6) (.tmp 43) rfl gS _ rfl rfl 72 _ HR3.out.sB hS2z (by rw [hS19, h2z]) hS21 ?_)
     | (go_at_call 36; refine (HSt.out w2 HB2.out).mono ?_; rintro e w3 ⟨S2, fv2, rs2, qs2, rfl, hSV2, hRf2, hB3⟩; have h2z : S2.size = 19 := (by rw [hSV2.eq]; rfl); have hS2z : (Try.prog.info? 72).map (·.size) = some S2.size := (by rw [h2z]; exact info_S); have hS21 := sv_one hSV2 (hRf2 _ (Touch.of_below (Below.refl _ _))); have HR3 := Lib.hid (HR2.out.later hB3); have hs3 := hB3.size; have hs2 := HB2.out.size; have HR4 := Lib.hid (HR3.out.stepped hSV2 fun z T => hRf2 z (T.mono fun q _ h => by rcases h with h | h; omega; have := HKb.out q h; omega)); have HSz3 : Hid ((w3.setRow gS S2).heap.size = w3.heap.size) := Lib.hid (by simp); clear hSV2 hRf2 hB3)
     | (refine wpList_load_row rfl 72 (.tmp 6) rfl gS rfl 72 S (0, 0) _ HR2.out.sB Try.underlying72 rfl hSz ?_)
     | (go_at_call 40; refine HNx.out.mono ?_; rintro e w2 ⟨rfl, hB2⟩; have HR2 := Lib.hid (HR.out.later hB2); have HB2 := Lib.hid hB2; clear hB2)
     | (refine wpList_load_row rfl 72 (.tmp 6) rfl gS rfl 72 S (0, 0) _ HR.out.sB Try.underlying72 rfl hSz ?_))
    go_roundw
    case rel =>
     refine ⟨sc ++ [(k : Int)], k, S2, fv2, rs2, qs2, rfl, by simp; omega, by omega, HEq2, Lib.hid ?_⟩
     rw [runM_append, runT_append]
     simp only [runM, runT, List.append_nil]
     exact HR5.out
    case measure => simp [lenS]; omega
  ·have HSc : Hid (roundP p.threads p.threads.length most p.threads.length (newM p.chans) = sc) := Lib.hid (by rw [HEq.out, show most - sc.length = 0 by omega]; simp only [roundP, List.append_nil])
   have HRow := Lib.hid (row_own (cap := 0) (own_cells2 HR.out.script))
   have HM3 := Lib.hid (HMr.out wr (Below.refl _ _))
   have hsc := HSc.out
   clear HSc
   go_wp2_with (first
    | (go_at_call 17; refine (run5_yes p ca ccap ta tcap ka kc sc wr (HP.out.later hBr) HS.out HRow.out (by omega) (fun y hy => HNew.out y (below_next hBr hy))).mono ?_; rintro e w9 ⟨va, vc, k2, kc2, xa, xc, rfl, hres, hB9⟩; have m2 := old_later HM3.out hB9; obtain ⟨s0, s1, s2, s3⟩ := cells4 m2; have sfz := (fun j => frozen_of_row _ _ j _ _ m2); have Hm2 := Lib.hid m2; have HB9 := Lib.hid hB9; have HRes := Lib.hid hres; clear hB9 hres m2))
   refine bodyPost_ret (v := .tuple #[.agg #[.slice va (runT p.threads sc (newM p.chans)).length vc, .int .u8 (statusM p.threads (runM p.threads sc (newM p.chans))), .slice k2 (pkM p.threads sc (newM p.chans)).length kc2, .slice xa (trM p.threads sc (newM p.chans)).length xc], .int .i64 0]) (st_results (p := 4) (u := 5) rfl _ _ (w.heap.size + 1) 37 #[.slice va (runT p.threads sc (newM p.chans)).length vc, .int .u8 (statusM p.threads (runM p.threads sc (newM p.chans))), .slice k2 (pkM p.threads sc (newM p.chans)).length kc2, .slice xa (trM p.threads sc (newM p.chans)).length xc] (0, 0) _ rfl (stSet_four Hm2.out) Try.underlying37 rfl info_result) rfl ?_
   exact run5_out hBr HB9.out (by omega) HRes.out hsc
theorem round5_no (p : ProgD) (ca : Option Addr) (ccap : Nat) (ta : Option Addr) (tcap : Nat) (most : Int) (w : World) (hp : ProgIn w w.heap.size p ca ta) (hs : soundE p ≠ 0) :
  Calls Try.prog 20 #[p.val ca ccap ta tcap, .int .i64 most] w (Bad5 1 w) := by
 have HNew := Lib.hid (fun u (hu : Below w.heap.size w u) => new4_no p ca ccap ta tcap u (hp.later hu) hs)
 clear hp hs
 go_enter Try.func20, Try.ntmps20
 go_upto_region 1 with (fail)
 generalize hW : World.alloc (World.alloc w _) _ = W
 have HB : Hid (Below w.heap.size w W) := Lib.hid (by rw [← hW]; exact below_two _ _ _)
 have n1 := (congrArg (fun x : World => x.heap[w.heap.size]?) hW).symm.trans ((Below.heap_alloc _ _ _ (by simp)).trans (heap_alloc_new _ _))
 have n2 := (congrArg (fun x : World => x.heap[w.heap.size + 1]?) hW).symm.trans (heap_alloc2_new _ _ _)
 have HN2 := Lib.hid n2
 obtain ⟨b0, b1, b2, b3, b4, b5, b6⟩ := kb7 n1 (Below.refl _ _)
 clear hW n1 n2
 go_upto_region 2 with (first
  | (refine wpList_store_row rfl 72 (.tmp 6) (.tmp 14) rfl w1.heap.size _ rfl rfl 72 _ (heap_alloc_new _ _) hSz (by rw [hS19]; rfl) hS1 ?_)
  | (go_at_call 35; refine (HNew.out W HB.out).mono ?_; rintro e w1 ⟨S, rfl, hS19, hS1, hB1⟩; have hSz : (Try.prog.info? 72).map (·.size) = some S.size := (by rw [hS19]; exact info_S); have HM2 := Lib.hid (old_later HN2.out hB1); have HB1 := Lib.hid (below_next HB.out hB1); clear hB1 b0 b1 b2 b3 b4 b5 b6))
 generalize hV : World.setRow (World.alloc w1 _) _ _ = V
 have HBV : Hid (Below w1.heap.size w1 V) := Lib.hid (by rw [← hV]; exact (below_row ((Below.refl _ w1).alloc (Nat.le_refl _) _) (Nat.le_refl _) S))
 have HM3 := old_later HM2.out HBV.out
 obtain ⟨r0, r1, r2, r3⟩ := cells4 HM3
 have rfz := fun j => frozen_of_row _ _ j _ _ HM3
 have HMM := Lib.hid HM3
 have HBw := Lib.hid (below_next HB1.out HBV.out)
 clear hV HM3 hS1 hSz
 go_wp2
 refine bodyPost_ret (v := .tuple #[.agg #[.slice none 0 0, .int .u8 0, .slice none 0 0, .slice none 0 0], .int .i64 1]) (st_results (p := 4) (u := 5) rfl _ _ (w.heap.size + 1) 37 #[.slice none 0 0, .int .u8 0, .slice none 0 0, .slice none 0 0] (0, 0) _ rfl (stSet_four HMM.out) Try.underlying37 rfl info_result) rfl ?_
 exact ⟨rfl, stBelow_set (stBelow_set (stBelow_set (stBelow_set HBw.out (by omega)) (by omega)) (by omega)) (by omega)⟩
theorem round5_long (p : ProgD) (ca : Option Addr) (ccap : Nat) (ta : Option Addr) (tcap : Nat) (most : Int) (w : World) (hp : ProgIn w w.heap.size p ca ta) (hs : soundE p = 0) (hn : most < 0 ∨ 2000 < most) :
  Calls Try.prog 20 #[p.val ca ccap ta tcap, .int .i64 most] w (Bad5 3 w) := by
 have HNew := Lib.hid (new4_any p ca ccap ta tcap w hp hs)
 clear hp hs
 go_enter Try.func20, Try.ntmps20
 go_upto_region 1 with (fail)
 generalize hW : World.alloc (World.alloc w _) _ = W
 have HB : Hid (Below w.heap.size w W) := Lib.hid (by rw [← hW]; exact below_two _ _ _)
 have n1 := (congrArg (fun x : World => x.heap[w.heap.size]?) hW).symm.trans ((Below.heap_alloc _ _ _ (by simp)).trans (heap_alloc_new _ _))
 have n2 := (congrArg (fun x : World => x.heap[w.heap.size + 1]?) hW).symm.trans (heap_alloc2_new _ _ _)
 have HN2 := Lib.hid n2
 obtain ⟨b0, b1, b2, b3, b4, b5, b6⟩ := kb7 n1 (Below.refl _ _)
 clear hW n1 n2
 go_upto_region 2 with (first
  | (refine wpList_store_row rfl 72 (.tmp 6) (.tmp 14) rfl w1.heap.size _ rfl rfl 72 _ (heap_alloc_new _ _) hSz (by rw [hS19]; rfl) hS1 ?_)
  | (go_at_call 35; refine (HNew.out W HB.out).mono ?_; rintro e w1 ⟨S, fv, rs, qs, rfl, hSV, hRf, hB1⟩; have hS1 := sv_one hSV (hRf _ (Touch.of_below (Below.refl _ _))); have hS19 : S.size = 19 := (by rw [hSV.eq]; rfl); have hSz : (Try.prog.info? 72).map (·.size) = some S.size := (by rw [hS19]; exact info_S); have HM2 := Lib.hid (old_later HN2.out hB1); have HB1 := Lib.hid (below_next HB.out hB1); clear hB1 hSV hRf b0 b1 b2 b3 b4 b5 b6))
 generalize hV : World.setRow (World.alloc w1 _) _ _ = V
 have HBV : Hid (Below w1.heap.size w1 V) := Lib.hid (by rw [← hV]; exact (below_row ((Below.refl _ w1).alloc (Nat.le_refl _) _) (Nat.le_refl _) S))
 have HM3 := old_later HM2.out HBV.out
 obtain ⟨r0, r1, r2, r3⟩ := cells4 HM3
 have rfz := fun j => frozen_of_row _ _ j _ _ HM3
 have HMM := Lib.hid HM3
 have HBw := Lib.hid (below_next HB1.out HBV.out)
 clear hV HM3 hS1 hSz
 rcases hn with h0 | h0
 all_goals
  first
   | (have h1 : decide (most < 0) = true := decide_eq_true h0)
   | (have h1 : decide (most < 0) = false := decide_eq_false (by omega); have h1' : ¬ most < 0 := (by omega); have h2 : decide (2000 < most) = true := decide_eq_true h0)
  go_wp2
  refine bodyPost_ret (v := .tuple #[.agg #[.slice none 0 0, .int .u8 0, .slice none 0 0, .slice none 0 0], .int .i64 3]) (st_results (p := 4) (u := 5) rfl _ _ (w.heap.size + 1) 37 #[.slice none 0 0, .int .u8 0, .slice none 0 0, .slice none 0 0] (0, 0) _ rfl (stSet_four HMM.out) Try.underlying37 rfl info_result) rfl ?_
  exact ⟨rfl, stBelow_set (stBelow_set (stBelow_set (stBelow_set HBw.out (by omega)) (by omega)) (by omega)) (by omega)⟩
theorem turnM_far (code : List (List InsD)) (n : Nat) (m : Nat → Int) : turnM code n n m = turnM code n 0 m := by
 unfold turnM
 congr 1
 apply List.map_congr_left
 intro j hj
 rw [Nat.add_mod, Nat.mod_self, Nat.zero_add, Nat.mod_mod, Nat.zero_add]
theorem roundP_far (code : List (List InsD)) (n s : Nat) (m : Nat → Int) : roundP code n s n m = roundP code n s 0 m := by
 cases s with
 | zero => rfl
 | succ s => unfold roundP; rw [turnM_far]
theorem same5_R (pr pk : List Int) (tr : List EvD) (st : Int) (va ka xa va' ka' xa' : Option Addr) (vc kc xc vc' kc' xc' : Nat) (w : World) (ha : ResR w pr pk tr va ka xa) (hb : ResR w pr pk tr va' ka' xa') (h1 : pr.length ≤ 1000000) (h2 : pk.length ≤ 1000000) (h3 : tr.length ≤ 1000000) :
  Calls Try.prog 31 #[.agg #[.slice va pr.length vc, .int .u8 st, .slice ka pk.length kc, .slice xa tr.length xc], .agg #[.slice va' pr.length vc', .int .u8 st, .slice ka' pk.length kc', .slice xa' tr.length xc']] w fun e w' => e = .returned (.bool true) ∧ Below w.heap.size w w' := by
 go_enter Try.func31, Try.ntmps31
 go_wp2_with fail
 generalize hU : World.alloc (World.alloc w _) _ = U
 have hBU : Below w.heap.size w U := by rw [← hU]; exact below_two _ _ _
 have n1 := (congrArg (fun x : World => x.heap[w.heap.size]?) hU).symm.trans ((Below.heap_alloc _ _ _ (by simp)).trans (heap_alloc_new _ _))
 have n2 := (congrArg (fun x : World => x.heap[w.heap.size + 1]?) hU).symm.trans (heap_alloc2_new _ _ _)
 obtain ⟨a0, a1, a2, a3⟩ := cells4 n1
 obtain ⟨b0, b1, b2, b3⟩ := cells4 n2
 have HA := Lib.hid (ha.touch hBU)
 have HC := Lib.hid (hb.touch hBU)
 have HB := Lib.hid hBU
 have HN1 := Lib.hid n1
 have HN2 := Lib.hid n2
 clear hU hBU ha hb n1 n2
 refine (numbers5_yes pr va va' vc vc' U HA.out.prints HC.out.prints h1).mono ?_
 rintro e w1 ⟨rfl, hB1⟩
 obtain ⟨c0, c1, c2, c3⟩ := keep4 ⟨a0, a1, a2, a3⟩ hB1
 obtain ⟨d0, d1, d2, d3⟩ := keep4 ⟨b0, b1, b2, b3⟩ hB1
 have HA1 := Lib.hid (HA.out.touch hB1)
 have HC1 := Lib.hid (HC.out.touch hB1)
 have HB1 := Lib.hid (below_next HB.out hB1)
 clear hB1 a0 a1 a2 a3 b0 b1 b2 b3
 go_wp2_with (first
  | (go_at_call 50; refine (numbers5_yes pk ka ka' kc kc' w1 HA1.out.picks HC1.out.picks h2).mono ?_; rintro e w2 ⟨rfl, hB2⟩; obtain ⟨a0, a1, a2, a3⟩ := keep4 ⟨c0, c1, c2, c3⟩ hB2; obtain ⟨b0, b1, b2, b3⟩ := keep4 ⟨d0, d1, d2, d3⟩ hB2; have HA2 := Lib.hid (HA1.out.touch hB2); have HC2 := Lib.hid (HC1.out.touch hB2); have HB2 := Lib.hid (below_next HB1.out hB2); clear hB2 c0 c1 c2 c3 d0 d1 d2 d3))
 have K1 := Lib.hid (And.intro a0 (And.intro a1 (And.intro a2 a3)))
 have K2 := Lib.hid (And.intro b0 (And.intro b1 (And.intro b2 b3)))
 clear a0 a1 a2 a3 b0 b1 b2 b3
 go_loopw [5] (fun i wr => ∃ j : Nat, j ≤ tr.length ∧ i = .int .i64 j ∧ Below w2.heap.size w2 wr) (fun i _ => tr.length - (intOf i).toNat)
 case atStart => exact ⟨0, Nat.zero_le _, rfl, Below.refl _ _⟩
 case round =>
  obtain ⟨j, hj, rfl, hB⟩ := hrel
  obtain ⟨a0, a1, a2, a3⟩ := keep4 K1.out hB
  obtain ⟨b0, b1, b2, b3⟩ := keep4 K2.out hB
  by_cases hlt : j < tr.length
  ·obtain ⟨x, hx⟩ := at_lt hlt
   obtain ⟨g, rfl, hg, hE⟩ := HA2.out.trace j x hx
   obtain ⟨g', rfl, hg', hE'⟩ := HC2.out.trace j x hx
   obtain ⟨x0, x1, x2, x3, x4, x5⟩ := hE.later hB
   obtain ⟨y0, y1, y2, y3, y4, y5⟩ := hE'.later hB
   clear hx hE hE'
   go_wp2_with fail
   go_quiet (fail)
   go_wp2
   go_roundw
   case rel => exact ⟨j + 1, by omega, by go_num, below_draws hB _⟩
   case measure => simp [intOf]; omega
  ·obtain rfl : j = tr.length := by omega
   go_wp2
   go_ret
   exact ⟨rfl, below_next HB2.out hB⟩
theorem Res.toR {u : World} {pr pk : List Int} {tr : List EvD} {va ka xa : Option Addr} (h : Res u pr pk tr va ka xa) : ResR u pr pk tr va ka xa := ⟨h.rowP, h.row, h.trace⟩
theorem ResR.nil (u : World) (va ka xa : Option Addr) : ResR u [] [] [] va ka xa := ⟨(fun i x h => by cases h), (fun i x h => by cases h), (fun i x h => by cases h)⟩
def OutP (pr pk : List Int) (tr : List EvD) (st c : Int) (w : World) (e : Ending) (w' : World) : Prop := ∃ va vc ka kc xa xc, e = .returned (.tuple #[.agg #[.slice va pr.length vc, .int .u8 st, .slice ka pk.length kc, .slice xa tr.length xc], .int .u16 c]) ∧ ResR w' pr pk tr va ka xa ∧ Below w.heap.size w w'
def OutR (pr pk : List Int) (tr : List EvD) (st c : Int) (w : World) (e : Ending) (w' : World) : Prop := ∃ va vc ka kc xa xc, e = .returned (.tuple #[.agg #[.slice va pr.length vc, .int .u8 st, .slice ka pk.length kc, .slice xa tr.length xc], .int .i64 c]) ∧ ResR w' pr pk tr va ka xa ∧ Below w.heap.size w w'
def PairO (P R : World → (Ending → World → Prop) → Prop) (w : World) : Prop := ∃ pr pk tr st c, 0 ≤ c ∧ c ≤ 3 ∧ pr.length ≤ 1000000 ∧ pk.length ≤ 1000000 ∧ (tr : List EvD).length ≤ 1000000 ∧ (∀ u, Below w.heap.size w u → P u (OutP pr pk tr st c u)) ∧ ∀ u, Below w.heap.size w u → R u (OutR pr pk tr st c u)
theorem picksI_later {w w' : World} {l : List Int} {a : Option Addr} (h : RowOf .i64 w w.heap.size a l) (hB : Below w.heap.size w w') : RowOf .i64 w' w'.heap.size a l := (h.below hB).more hB.size
theorem run_pair (p : ProgD) (ca : Option Addr) (ccap : Nat) (ta : Option Addr) (tcap : Nat) (a : Option Addr) (cap : Nat) (ps : List Int) (w : World) (hp : ProgIn w w.heap.size p ca ta) (hps : RowOf .i64 w w.heap.size a ps) :
  PairO (fun u Q => Calls Try.prog 16 #[p.val ca ccap ta tcap, .slice a ps.length cap] u Q) (fun u Q => Calls Try.prog 17 #[p.val ca ccap ta tcap, .slice a ps.length cap] u Q) w := by
 by_cases hs : soundE p = 0
 ·by_cases hl : ps.length ≤ 2000
  ·have q1 := runT_len p.threads ps (newM p.chans)
   have q2 := pkM_len p.threads ps (newM p.chans)
   have q3 := trM_len p.threads ps (newM p.chans)
   refine ⟨_, _, _, statusM p.threads (runM p.threads ps (newM p.chans)), 0, by omega, by omega, (by omega : (runT p.threads ps (newM p.chans)).length ≤ _), (by omega : (pkM p.threads ps (newM p.chans)).length ≤ _), (by omega : (trM p.threads ps (newM p.chans)).length ≤ _), fun u hu => ?_, fun u hu => ?_⟩
   ·refine (run_yes p ca ccap ta tcap a cap ps u (hp.later hu) hs (picksI_later hps hu) hl).mono ?_
    rintro e w' ⟨pv, kv, tv, rfl, hres, hB⟩
    obtain ⟨va, vc, ka, kc, xa, xc, rfl, rfl, rfl, hR⟩ := hres.res
    exact ⟨va, vc, ka, kc, xa, xc, rfl, hR.toR, hB⟩
   ·refine (run5_yes p ca ccap ta tcap a cap ps u (hp.later hu) hs (picksI_later hps hu) hl (new4_any p ca ccap ta tcap u (hp.later hu) hs)).mono ?_
    rintro e w' ⟨va, vc, ka, kc, xa, xc, rfl, hR, hB⟩
    exact ⟨va, vc, ka, kc, xa, xc, rfl, hR w' (Touch.of_below (Below.refl _ _)), hB⟩
  ·refine ⟨[], [], [], 0, 3, by omega, by omega, by simp, by simp, by simp, fun u hu => ?_, fun u hu => ?_⟩
   ·exact (run_long p ca ccap ta tcap a cap ps.length u (hp.later hu) hs (by omega)).mono fun e w' ⟨he, hB⟩ => ⟨none, 0, none, 0, none, 0, he, ResR.nil _ _ _ _, hB⟩
   ·exact (run5_long p ca ccap ta tcap a cap ps.length u (hp.later hu) hs (by omega)).mono fun e w' ⟨he, hB⟩ => ⟨none, 0, none, 0, none, 0, he, ResR.nil _ _ _ _, hB⟩
 ·refine ⟨[], [], [], 0, 1, by omega, by omega, by simp, by simp, by simp, fun u hu => ?_, fun u hu => ?_⟩
  ·exact (run_no p ca ccap ta tcap a cap ps.length u (hp.later hu) hs).mono fun e w' ⟨he, hB⟩ => ⟨none, 0, none, 0, none, 0, he, ResR.nil _ _ _ _, hB⟩
  ·exact (run5_no p ca ccap ta tcap a cap ps.length u (hp.later hu) hs).mono fun e w' ⟨he, hB⟩ => ⟨none, 0, none, 0, none, 0, he, ResR.nil _ _ _ _, hB⟩
theorem round_pair (p : ProgD) (ca : Option Addr) (ccap : Nat) (ta : Option Addr) (tcap : Nat) (most : Int) (w : World) (hp : ProgIn w w.heap.size p ca ta) :
  PairO (fun u Q => Calls Try.prog 29 #[p.val ca ccap ta tcap, .int .i64 most] u Q) (fun u Q => Calls Try.prog 20 #[p.val ca ccap ta tcap, .int .i64 most] u Q) w := by
 by_cases hs : soundE p = 0
 ·by_cases hm : most < 0 ∨ 2000 < most
  ·refine ⟨[], [], [], 0, 3, by omega, by omega, by simp, by simp, by simp, fun u hu => ?_, fun u hu => ?_⟩
   ·exact (round_long p ca ccap ta tcap most u (hp.later hu) hs hm).mono fun e w' ⟨he, hB⟩ => ⟨none, 0, none, 0, none, 0, he, ResR.nil _ _ _ _, hB⟩
   ·exact (round5_long p ca ccap ta tcap most u (hp.later hu) hs hm).mono fun e w' ⟨he, hB⟩ => ⟨none, 0, none, 0, none, 0, he, ResR.nil _ _ _ _, hB⟩
  ·obtain ⟨k, rfl⟩ : ∃ k : Nat, most = k := ⟨most.toNat, by omega⟩
   have hk : k ≤ 2000 := by omega
   have q0 := round_len p.threads p.threads.length k 0 (newM p.chans)
   generalize hrp : roundP p.threads p.threads.length k 0 (newM p.chans) = rp at q0
   have q1 := runT_len p.threads rp (newM p.chans)
   have q2 := pkM_len p.threads rp (newM p.chans)
   have q3 := trM_len p.threads rp (newM p.chans)
   refine ⟨_, _, _, statusM p.threads (runM p.threads rp (newM p.chans)), 0, by omega, by omega, (by omega : (runT p.threads rp (newM p.chans)).length ≤ _), (by omega : (pkM p.threads rp (newM p.chans)).length ≤ _), (by omega : (trM p.threads rp (newM p.chans)).length ≤ _), fun u hu => ?_, fun u hu => ?_⟩
   ·have h := round_yes p ca ccap ta tcap k u (hp.later hu) hs hk
    rw [hrp] at h
    refine h.mono ?_
    rintro e w' ⟨pv, kv, tv, rfl, hres, hB⟩
    obtain ⟨va, vc, ka, kc, xa, xc, rfl, rfl, rfl, hR⟩ := hres.res
    exact ⟨va, vc, ka, kc, xa, xc, rfl, hR.toR, hB⟩
   ·have h := round5_yes p ca ccap ta tcap k u (hp.later hu) hs hk
    rw [roundP_far, hrp] at h
    refine h.mono ?_
    rintro e w' ⟨va, vc, ka, kc, xa, xc, rfl, hR, hB⟩
    exact ⟨va, vc, ka, kc, xa, xc, rfl, hR w' (Touch.of_below (Below.refl _ _)), hB⟩
 ·refine ⟨[], [], [], 0, 1, by omega, by omega, by simp, by simp, by simp, fun u hu => ?_, fun u hu => ?_⟩
  ·exact (round_no p ca ccap ta tcap most u (hp.later hu) hs).mono fun e w' ⟨he, hB⟩ => ⟨none, 0, none, 0, none, 0, he, ResR.nil _ _ _ _, hB⟩
  ·exact (round5_no p ca ccap ta tcap most u (hp.later hu) hs).mono fun e w' ⟨he, hB⟩ => ⟨none, 0, none, 0, none, 0, he, ResR.nil _ _ _ _, hB⟩
theorem tells5_any (p : ProgD) (ca : Option Addr) (ccap : Nat) (ta : Option Addr) (tcap : Nat) (a : Option Addr) (cap : Nat) (ps : List Int) (most : Int) (w : World) (hp : ProgIn w w.heap.size p ca ta) (hps : RowOf .i64 w w.heap.size a ps) :
  Calls Try.prog 14 #[p.val ca ccap ta tcap, .slice a ps.length cap, .int .i64 most] w fun e w' => e = .returned (.bool true) ∧ Below w.heap.size w w' := by
 obtain ⟨pr, pk, tr, st, c, hc0, hc3, hl1, hl2, hl3, hP1, hP2⟩ := run_pair p ca ccap ta tcap a cap ps w hp hps
 obtain ⟨pr', pk', tr', st', c', hc0', hc3', hl1', hl2', hl3', hP3, hP4⟩ := round_pair p ca ccap ta tcap most w hp
 have H1 := Lib.hid hP1
 have H2 := Lib.hid hP2
 have H3 := Lib.hid hP3
 have H4 := Lib.hid hP4
 have hw : IntKind.i64.wrap c = c := IntWalk.i64_in _ ⟨by omega, by omega⟩
 have hw' : IntKind.i64.wrap c' = c' := IntWalk.i64_in _ ⟨by omega, by omega⟩
 clear hP1 hP2 hP3 hP4 hp hps
 generalize ps.length = n at *
 go_enter Try.func14, Try.ntmps14
 go_upto_region 1 with (fail)
 generalize hW : World.alloc w _ = W0
 have HB0 : Hid (Below w.heap.size w W0) := Lib.hid (by rw [← hW]; exact below_box _ _)
 have n1 := (congrArg (fun x : World => x.heap[w.heap.size]?) hW).symm.trans (heap_alloc_new _ _)
 have N0 := Lib.hid n1
 obtain ⟨b0, b1, b2, b3, b4, b5, b6⟩ := kb7 n1 (Below.refl _ _)
 clear hW n1
 go_wp2_with fail
 refine (H1.out W0 HB0.out).mono ?_
 rintro e x1 ⟨va1, vc1, ka1, kc1, xa1, xc1, rfl, hR, hB⟩
 go_upto_region 2 with (fail)
 generalize hW : World.alloc x1 _ = W1
 have hN : W1.heap[x1.heap.size]? = some (.cells #[.slice va1 pr.length vc1, .int .u8 st, .slice ka1 pk.length kc1, .slice xa1 tr.length xc1] 37) := by rw [← hW]; exact heap_alloc_new _ _
 have hBV : Below x1.heap.size x1 W1 := by rw [← hW]; exact below_box _ _
 have R1 := Lib.hid (hR.touch hBV)
 have HD1 := Lib.hid (below_next hB hBV)
 have HB1 := Lib.hid (below_next HB0.out HD1.out)
 have M1 := Lib.hid hN
 have N1 := Lib.hid (old_later N0.out HD1.out)
 clear hW hN hBV hR hB b0 b1 b2 b3 b4 b5 b6
 obtain ⟨b0, b1, b2, b3, b4, b5, b6⟩ := kb7 N1.out (Below.refl _ _)
 go_wp2_with fail
 refine (H2.out W1 HB1.out).mono ?_
 rintro e x2 ⟨va2, vc2, ka2, kc2, xa2, xc2, rfl, hR, hB⟩
 go_upto_region 3 with (fail)
 generalize hW : World.alloc x2 _ = W2
 have hN : W2.heap[x2.heap.size]? = some (.cells #[.slice va2 pr.length vc2, .int .u8 st, .slice ka2 pk.length kc2, .slice xa2 tr.length xc2] 37) := by rw [← hW]; exact heap_alloc_new _ _
 have hBV : Below x2.heap.size x2 W2 := by rw [← hW]; exact below_box _ _
 have R2 := Lib.hid (hR.touch hBV)
 have HD2 := Lib.hid (below_next hB hBV)
 have HB2 := Lib.hid (below_next HB1.out HD2.out)
 have M2 := Lib.hid hN
 have N2 := Lib.hid (old_later N1.out HD2.out)
 clear hW hN hBV hR hB b0 b1 b2 b3 b4 b5 b6
 obtain ⟨b0, b1, b2, b3, b4, b5, b6⟩ := kb7 N2.out (Below.refl _ _)
 go_wp2_with fail
 refine (H3.out W2 HB2.out).mono ?_
 rintro e x3 ⟨va3, vc3, ka3, kc3, xa3, xc3, rfl, hR, hB⟩
 go_upto_region 4 with (fail)
 generalize hW : World.alloc x3 _ = W3
 have hN : W3.heap[x3.heap.size]? = some (.cells #[.slice va3 pr'.length vc3, .int .u8 st', .slice ka3 pk'.length kc3, .slice xa3 tr'.length xc3] 37) := by rw [← hW]; exact heap_alloc_new _ _
 have hBV : Below x3.heap.size x3 W3 := by rw [← hW]; exact below_box _ _
 have R3 := Lib.hid (hR.touch hBV)
 have HD3 := Lib.hid (below_next hB hBV)
 have HB3 := Lib.hid (below_next HB2.out HD3.out)
 have M3 := Lib.hid hN
 have N3 := Lib.hid (old_later N2.out HD3.out)
 clear hW hN hBV hR hB b0 b1 b2 b3 b4 b5 b6
 obtain ⟨b0, b1, b2, b3, b4, b5, b6⟩ := kb7 N3.out (Below.refl _ _)
 go_wp2_with fail
 refine (H4.out W3 HB3.out).mono ?_
 rintro e x4 ⟨va4, vc4, ka4, kc4, xa4, xc4, rfl, hR, hB⟩
 go_upto_region 5 with (fail)
 generalize hW : World.alloc x4 _ = W4
 have hN : W4.heap[x4.heap.size]? = some (.cells #[.slice va4 pr'.length vc4, .int .u8 st', .slice ka4 pk'.length kc4, .slice xa4 tr'.length xc4] 37) := by rw [← hW]; exact heap_alloc_new _ _
 have hBV : Below x4.heap.size x4 W4 := by rw [← hW]; exact below_box _ _
 have R4 := Lib.hid (hR.touch hBV)
 have HD4 := Lib.hid (below_next hB hBV)
 have HB4 := Lib.hid (below_next HB3.out HD4.out)
 have M4 := Lib.hid hN
 have N4 := Lib.hid (old_later N3.out HD4.out)
 clear hW hN hBV hR hB b0 b1 b2 b3 b4 b5 b6
 obtain ⟨b0, b1, b2, b3, b4, b5, b6⟩ := kb7 N4.out (Below.refl _ _)
 clear b0 b1 b2 b3 b4 b5 b6
 have E1 := Lib.hid (R1.out.touch (below_next (below_next HD2.out HD3.out) HD4.out))
 have G1 := Lib.hid (old_later M1.out (below_next (below_next HD2.out HD3.out) HD4.out))
 have E2 := Lib.hid (R2.out.touch (below_next HD3.out HD4.out))
 have G2 := Lib.hid (old_later M2.out (below_next HD3.out HD4.out))
 have E3 := Lib.hid (R3.out.touch HD4.out)
 have G3 := Lib.hid (old_later M3.out HD4.out)
 obtain ⟨f0, f1, f2, f3⟩ := cells4 G1.out
 obtain ⟨g0, g1, g2, g3⟩ := cells4 G2.out
 go_wp2_with fail
 refine (same5_R pr pk tr st va1 ka1 xa1 va2 ka2 xa2 vc1 kc1 xc1 vc2 kc2 xc2 W4 E1.out E2.out hl1 hl2 hl3).mono ?_
 rintro e y1 ⟨rfl, hY1⟩
 have J3 := old_later G3.out hY1
 have J4 := old_later M4.out hY1
 have K3 := Lib.hid (E3.out.touch hY1)
 have K4 := Lib.hid (R4.out.touch hY1)
 have HY1 := Lib.hid hY1
 clear f0 f1 f2 f3 g0 g1 g2 g3 hY1
 obtain ⟨f0, f1, f2, f3⟩ := cells4 J3
 obtain ⟨g0, g1, g2, g3⟩ := cells4 J4
 clear J3 J4
 go_wp2_with fail
 refine (same5_R pr' pk' tr' st' va3 ka3 xa3 va4 ka4 xa4 vc3 kc3 xc3 vc4 kc4 xc4 y1 K3.out K4.out hl1' hl2' hl3').mono ?_
 rintro e y2 ⟨rfl, hY2⟩
 have HY2 := Lib.hid hY2
 clear hY2 f0 f1 f2 f3 g0 g1 g2 g3
 go_wp2
 go_ret
 exact ⟨rfl, below_next (below_next HB4.out HY1.out) HY2.out⟩
theorem cell_of_row' {w : World} {g j : Nat} {Z : Array Value} {t : TypeId} {fr : Nat × Nat} (h : w.heap[g]? = some (.cells Z t fr)) : w.cell? ⟨g, j, none⟩ = Z[j]? := cell_of_row _ _ _ _ _ _ h
def RwT (kd : IntKind) (c : Int) (v : Value) : Prop := ∃ R : Array Value, v = .tuple #[.agg R, .int kd c] ∧ R.size = 4 ∧ R.all (·.oneCell') = true
def RwO (kd : IntKind) (c : Int) (w : World) (e : Ending) (w' : World) : Prop := ∃ v, e = .returned v ∧ RwT kd c v ∧ Below w.heap.size w w'
theorem run_raw (p : ProgD) (ps : List Int) : ∃ c : Int, 0 ≤ c ∧ c ≤ 3 ∧ ∀ ca ccap ta tcap a cap w, ProgIn w w.heap.size p ca ta → RowOf .i64 w w.heap.size a ps →
  Calls Try.prog 16 #[p.val ca ccap ta tcap, .slice a ps.length cap] w (RwO .u16 c w) ∧ Calls Try.prog 17 #[p.val ca ccap ta tcap, .slice a ps.length cap] w (RwO .i64 c w) := by
 have one : ∀ (va ka xa : Option Addr) (a b c d e f : Nat) (st : Int), (#[Value.slice va a b, .int .u8 st, .slice ka c d, .slice xa e f] : Array Value).all (·.oneCell') = true := fun va ka xa a b c d e f st => by simp [Value.oneCell']
 by_cases hs : soundE p = 0
 ·by_cases hl : ps.length ≤ 2000
  ·refine ⟨0, by omega, by omega, fun ca ccap ta tcap a cap w hp hps => ⟨?_, ?_⟩⟩
   ·refine (run_yes p ca ccap ta tcap a cap ps w hp hs hps hl).mono ?_
    rintro e w' ⟨pv, kv, tv, rfl, hres, hB⟩
    obtain ⟨va, vc, ka, kc, xa, xc, rfl, rfl, rfl, hR⟩ := hres.res
    exact ⟨_, rfl, ⟨_, rfl, rfl, one _ _ _ _ _ _ _ _ _ _⟩, hB⟩
   ·refine (run5_yes p ca ccap ta tcap a cap ps w hp hs hps hl (new4_any p ca ccap ta tcap w hp hs)).mono ?_
    rintro e w' ⟨va, vc, ka, kc, xa, xc, rfl, hR, hB⟩
    exact ⟨_, rfl, ⟨_, rfl, rfl, one _ _ _ _ _ _ _ _ _ _⟩, hB⟩
  ·refine ⟨3, by omega, by omega, fun ca ccap ta tcap a cap w hp hps => ⟨?_, ?_⟩⟩
   ·exact (run_long p ca ccap ta tcap a cap ps.length w hp hs (by omega)).mono fun e w' ⟨he, hB⟩ => ⟨_, he, ⟨_, rfl, rfl, one _ _ _ _ _ _ _ _ _ _⟩, hB⟩
   ·exact (run5_long p ca ccap ta tcap a cap ps.length w hp hs (by omega)).mono fun e w' ⟨he, hB⟩ => ⟨_, he, ⟨_, rfl, rfl, one _ _ _ _ _ _ _ _ _ _⟩, hB⟩
 ·refine ⟨1, by omega, by omega, fun ca ccap ta tcap a cap w hp hps => ⟨?_, ?_⟩⟩
  ·exact (run_no p ca ccap ta tcap a cap ps.length w hp hs).mono fun e w' ⟨he, hB⟩ => ⟨_, he, ⟨_, rfl, rfl, one _ _ _ _ _ _ _ _ _ _⟩, hB⟩
  ·exact (run5_no p ca ccap ta tcap a cap ps.length w hp hs).mono fun e w' ⟨he, hB⟩ => ⟨_, he, ⟨_, rfl, rfl, one _ _ _ _ _ _ _ _ _ _⟩, hB⟩
def RwC (qv : Value) (lg : Int) (kd : IntKind) (c : Int) (n : Nat) : Nat → Value → Prop
 | 0, v => v = qv
 | 1, v => v = .int .u16 lg
 | 2, v => v = .int .u16 (lg % 20)
 | 3, v => v = .int .i64 (lg % 20)
 | 4, v => v = .int .i64 (n : Int)
 | 6, v => RwT kd c v
 | 7, v => RwT kd c v
 | 8, v => ∃ R : Array Value, v = .agg R ∧ R.size = 4 ∧ R.all (·.oneCell') = true
 | 9, v => v = .int kd c
 | 12, v => v = .int kd c
 | _, _ => True
structure RwV (W : World) (qv : Value) (lg : Int) (kd : IntKind) (c : Int) (n : Nat) (w : World) (j : Nat) (v : Value) : Prop where
 con : RwC qv lg kd c n j v
 row : j = 5 → ∃ g, v = .slice (some ⟨g, 0, none⟩) n n ∧ ∀ i, i < n → w.cell? ⟨g, i, none⟩ = some (.int .i64 0)
 box : j = 10 → ∃ g Z, v = .pointer (some ⟨g, 0, none⟩) ∧ W.heap.size ≤ g ∧ w.heap[g]? = some (.cells Z 37) ∧ Z.size = 4
structure RwI (W : World) (f0 : Nat → Value) (qv : Value) (lg : Int) (kd : IntKind) (c : Int) (n : Nat) (σ : Nat → Nat) (L : Nat → Bool) (f : Nat → Value) (w : World) : Prop where
 bel : Below W.heap.size W w
 keep : ∀ t, (∀ j, j < 13 → j ≠ 11 → σ j ≠ t) → f t = f0 t
 vals : ∀ j, j < 13 → j ≠ 11 → L j = true → RwV W qv lg kd c n w j (f (σ j))
section
variable {W : World} {f0 : Nat → Value} {qv : Value} {lg : Int} {kd : IntKind} {c : Int} {n : Nat} {σ : Nat → Nat} {L : Nat → Bool} {f : Nat → Value} {w w' : World}
theorem RwV.later {j : Nat} {v : Value} (h : RwV W qv lg kd c n w j v) (hB : Below w.heap.size w w') : RwV W qv lg kd c n w' j v :=
 ⟨h.con, fun e => by obtain ⟨g, h1, h2⟩ := h.row e; exact ⟨g, h1, fun i hi => (hB.cell (p := ⟨g, i, none⟩) (cell_lt (h2 i hi))).trans (h2 i hi)⟩,
  fun e => by obtain ⟨g, Z, h1, h2, h3, h4⟩ := h.box e; exact ⟨g, Z, h1, h2, old_later h3 hB, h4⟩⟩
theorem RwI.step (h : RwI W f0 qv lg kd c n σ L f w) {j : Nat} (hj : j < 13) (h11 : j ≠ 11) (hσ : ∀ i, i < 13 → ∀ k, k < 13 → i ≠ 11 → k ≠ 11 → σ i = σ k → i = k) (hB : Below w.heap.size w w') {v : Value} (hv : RwV W qv lg kd c n w' j v) : RwI W f0 qv lg kd c n σ (upL L j) (putF f (some (σ j)) v) w' :=
 ⟨below_next h.bel hB, fun t ht => (putF_ne (by intro e; exact ht j hj h11 (Option.some.inj e))).trans (h.keep t ht), fun k hk k11 hL => by
  by_cases e : k = j
  ·subst e; rw [putF_same]; exact hv
  ·rw [upL_ne _ e] at hL
   rw [putF_ne (by intro e2; exact e (hσ _ hj _ hk h11 k11 (Option.some.inj e2)).symm)]
   exact (h.vals k hk k11 hL).later hB⟩
theorem RwI.plain (h : RwI W f0 qv lg kd c n σ L f w) {j : Nat} (hσ : ∀ i, i < 13 → ∀ k, k < 13 → i ≠ 11 → k ≠ 11 → σ i = σ k → i = k) {v : Value} (hv : RwC qv lg kd c n j v) (hj : j < 13 := by omega) (h11 : j ≠ 11 := by omega) (h5 : j ≠ 5 := by omega) (h10 : j ≠ 10 := by omega) : RwI W f0 qv lg kd c n σ (upL L j) (putF f (some (σ j)) v) w :=
 h.step hj h11 hσ (Below.refl _ _) ⟨hv, fun e => absurd e h5, fun e => absurd e h10⟩
theorem RwI.stored (h : RwI W f0 qv lg kd c n σ L f w) {g : Nat} {Z R : Array Value} (hg : w.heap[g]? = some (.cells Z 37)) (hlo : W.heap.size ≤ g) (hZ : Z.size = 4) (hR : R.size = 4) (hn : 4 < n) : RwI W f0 qv lg kd c n σ (upL L 11) f (w.setRow g R) :=
 ⟨below_row h.bel hlo R, h.keep, fun k hk k11 hL => by
  rw [upL_ne _ k11] at hL
  have hv := h.vals k hk k11 hL
  refine ⟨hv.con, fun e => ?_, fun e => ?_⟩
  ·obtain ⟨g2, h1, h2⟩ := hv.row e
   refine ⟨g2, h1, fun i hi => cell_row (h2 i hi) ?_⟩
   intro e2
   subst e2
   have := h2 4 hn
   rw [cell_of_row' hg] at this
   rw [Array.getElem?_eq_none (by omega)] at this
   cases this
  ·obtain ⟨g2, Z2, h1, h2, h3, h4⟩ := hv.box e
   by_cases e2 : g2 = g
   ·subst e2; exact ⟨g2, R, h1, h2, setRow_heap _ _ _ _ _ _ hg, hR⟩
   ·exact ⟨g2, Z2, h1, h2, (setRow_other _ _ _ _ e2).trans h3, h4⟩⟩
end
theorem hAllocO (w : World) (o o' : Obj) : ((w.alloc o).alloc o').heap[w.heap.size]? = some o := by
 rw [Below.heap_alloc _ _ _ (by simp)]; exact heap_alloc_new _ _
theorem hAllocN (w : World) (o o' : Obj) : ((w.alloc o).alloc o').heap[w.heap.size + 1]? = some o' := by
 have := heap_alloc_new (w.alloc o) o'; simpa using this
theorem eF {f : Nat → Value} {t : Nat} {v : Value} (k : f t = v) (h : t < 77 := by omega) : (actF 77 [] f).tmps[t]?.getD undef = v := (actF_get h).trans k
def qD : ProgD := ⟨0, 0, 0, [], 0, 0, [[]]⟩
theorem qD_in {w : World} {b : Nat} {t : TypeId} {fr : Nat × Nat} (h : w.heap[b]? = some (.cells #[.slice none 0 0] t fr)) : ProgIn w w.heap.size qD none (some ⟨b, 0, none⟩) :=
 ⟨(fun i x hx => by cases hx), threads_lit (vs := [.slice none 0 0]) h (fun k c hc => by
  match k, hc with
  | 0, hc => cases hc; exact ⟨none, 0, rfl, fun j x hx => by cases hx⟩), by decide, by decide⟩
theorem u8_nat {a : Int} (h : (Lit.int .u8 a).wf = true) : ∃ s : Nat, a = (s : Int) ∧ s < 256 := by
 obtain ⟨h0, h1⟩ := bounds_u8 h
 exact ⟨a.toNat, by omega, by omega⟩
theorem cells_ins : Try.prog.cellsOf 49 = 4 := by kernel_rfl
instance : Inhabited InsD := ⟨⟨0, 0, 0, 0⟩⟩
theorem open_ins_cells {H : Type} {enc : TypeId × Value → H} {W : World} {base : Nat} {sp : Nat → Bool} {held : Bool} {n : Nat} {cs : List Value} {y : DataW H × List MemPlace}
  (h : DataW.trod enc Try.prog W base sp held n 49 cs = some y) : ∃ x : InsD, cs = insCells x := by
 obtain ⟨y0, y1, y2, y3, m, _, hl, h0, h1, h2, h3⟩ := Joins.trod_struct4 Try.underlying49 h
 rw [cells_ins] at hl
 match cs, hl with
 | [c0, c1, c2, c3], _ =>
  obtain ⟨a, e0, _, wa⟩ := DataW.trod_int Try.underlying5 h0
  obtain ⟨b, e1, _, _⟩ := DataW.trod_int Try.underlying3 h1
  obtain ⟨c, e2, _, _⟩ := DataW.trod_int Try.underlying3 h2
  obtain ⟨d, e3, _, _⟩ := DataW.trod_int Try.underlying3 h3
  have k5 : Try.prog.cellsOf 5 = 1 := by kernel_rfl
  have k3 : Try.prog.cellsOf 3 = 1 := by kernel_rfl
  simp [k5] at e0
  simp [k3] at e1 e2 e3
  subst e0 e1 e2 e3
  obtain ⟨k, rfl, hk⟩ := u8_nat wa
  exact ⟨⟨k, b, c, d⟩, rfl⟩
theorem open_code {H : Type} {enc : TypeId × Value → H} {W : World} {base : Nat} {held : Bool} {n : Nat} {v : Value} {y : DataW H × List MemPlace}
  (h : DataW.trod enc Try.prog W base (fun _ => true) held n 34 [v] = some y) : ∃ a cap c, v = .slice a (List.length c) cap ∧ List.length c ≤ 9223372036854775807 ∧ CodeIn W W.heap.size a c := by
 have hmax : maxLen ≤ 9223372036854775807 := by decide
 rcases Go.Deep.open_slice Try.underlying34 h with ⟨hcs, _⟩ | ⟨x, len, cap, m, n, D, Pl, hcs, _, hl, hm, hmm, _, hx⟩
 ·simp at hcs
  exact ⟨none, 0, [], hcs, by simp, fun k r hr => by simp at hr⟩
 ·simp at hcs
  simp only [if_true] at hmm
  subst hmm
  rw [cells_ins] at hx
  obtain ⟨X, hX⟩ := Go.Deep.choose_lt (α := InsD) (p := fun i z => ∃ cs', W.cells? base (x.add (i * 4)) 4 = some cs' ∧ cs' = insCells z) (n := m) (fun i hi => by
   obtain ⟨cs', h1, h2⟩ := hx i hi
   obtain ⟨z, hz⟩ := open_ins_cells h2
   exact ⟨z, cs', h1, hz⟩)
  refine ⟨some x, m, (List.range len).map X, by simpa using hcs, by simp; omega, fun k z hz => ?_⟩
  simp only [List.getElem?_map, Option.map_eq_some_iff] at hz
  obtain ⟨k', hk', rfl⟩ := hz
  have hkl : k < len := by have := (List.getElem?_eq_some_iff.1 hk').1; simpa using this
  have e : k' = k := by
   rw [List.getElem?_range hkl] at hk'
   exact (Option.some.inj hk').symm
  subst e
  have cell : ∀ i, i < m → ∀ j, j < 4 → W.cell? (x.add (i * 4 + j)) = (insCells (X i))[j]? := fun i hi j hj => by
   obtain ⟨cs', h1, rfl⟩ := hX i hi
   have := (World.cells?_some h1).2.2 j hj
   rw [show (x.add (i * 4)).add j = x.add (i * 4 + j) from by
    by_cases hj0 : j = 0
    ·subst hj0; simp [Addr.add]
    ·by_cases hi0 : i * 4 = 0
     ·simp [Addr.add, hi0]
     ·simp [Addr.add, hj0, hi0, Nat.add_assoc]] at this
   exact this
  obtain ⟨b, off, rfl, hc0⟩ := cell_plain (k := k' * 4) (v := .int .u8 (X k').op) (by have := cell k' (by omega) 0 (by omega); simpa [insCells] using this) ⟨_, by have := cell 0 (by omega) 0 (by omega); simpa [insCells] using this⟩
  have cell2 : ∀ j, j < 4 → W.cell? ⟨b, off + k' * 4 + j, none⟩ = (insCells (X k'))[j]? := fun j hj => by
   have := cell k' (by omega) j hj
   rw [Go.WideShapes.add_plain] at this
   rw [Nat.add_assoc]; exact this
  refine ⟨b, off, rfl, cell_lt hc0, hc0, ?_, ?_, ?_⟩
  ·have := cell2 1 (by omega); simpa [insCells] using this
  ·have := cell2 2 (by omega); simpa [insCells] using this
  ·have := cell2 3 (by omega); simpa [insCells] using this
theorem open_threads {H : Type} {enc : TypeId × Value → H} {W : World} {base : Nat} {held : Bool} {n : Nat} {v : Value} {y : DataW H × List MemPlace}
  (h : DataW.trod enc Try.prog W base (fun _ => true) held n 26 [v] = some y) : ∃ a cap ts, v = .slice a (List.length ts) cap ∧ List.length ts ≤ 9223372036854775807 ∧ ThreadsIn W W.heap.size a ts ∧ ∀ c ∈ ts, List.length c ≤ 9223372036854775807 := by
 have hmax : maxLen ≤ 9223372036854775807 := by decide
 rcases Go.Deep.open_slice1 Try.underlying26 (by kernel_rfl) h with ⟨hcs, _⟩ | ⟨x, len, cap, m, n, V, D, Pl, hcs, _, hl, hm, hmm, _, hx⟩
 ·simp at hcs
  exact ⟨none, 0, [], hcs, by simp, (fun k r hr => by simp at hr), (fun c hc => by simp at hc)⟩
 ·simp at hcs
  simp only [if_true] at hmm
  subst hmm
  obtain ⟨X, hX⟩ := Go.Deep.choose_lt (α := List InsD) (p := fun i c => W.cell? (x.add i) = some (V i) ∧ ∃ a' cap', V i = .slice a' (List.length c) cap' ∧ List.length c ≤ 9223372036854775807 ∧ CodeIn W W.heap.size a' c) (n := m) (fun i hi => by
   obtain ⟨h1, h2⟩ := hx i hi
   obtain ⟨a', cap', c, e, hlc, hc⟩ := open_code h2
   exact ⟨c, h1, a', cap', e, hlc, hc⟩)
  refine ⟨some x, m, (List.range len).map X, by simpa using hcs, by simp; omega, fun k z hz => ?_, fun c hc => ?_⟩
  ·simp only [List.getElem?_map, Option.map_eq_some_iff] at hz
   obtain ⟨k', hk', rfl⟩ := hz
   have hkl : k < len := by have := (List.getElem?_eq_some_iff.1 hk').1; simpa using this
   have e : k' = k := by
    rw [List.getElem?_range hkl] at hk'
    exact (Option.some.inj hk').symm
   subst e
   obtain ⟨h1, a', cap', h2, h3, h4⟩ := hX k' (by omega)
   obtain ⟨b, off, rfl, hc0⟩ := cell_plain h1 ⟨_, (hX 0 (by omega)).1⟩
   exact ⟨b, off, rfl, cell_lt hc0, a', cap', by rw [hc0, h2], h4⟩
  ·obtain ⟨k, hk, rfl⟩ := List.mem_map.1 hc
   obtain ⟨h1, a', cap', h2, h3, h4⟩ := hX k (by have := List.mem_range.1 hk; omega)
   exact h3
theorem cells_prog : Try.prog.cellsOf 28 = 7 := by kernel_rfl
theorem open_prog {H : Type} {enc : TypeId × Value → H} {W : World} {base b0 : Nat} {held : Bool} {v : Value} {d : DataW H} {p : List MemPlace} {r : Reach}
  (hv : Value.okWide Try.prog W r b0 28 v) (h : DataW.Trod enc Try.prog W base (fun _ => true) held 28 v d p) :
  ∃ (q : ProgD) (ca : Option Addr) (ccap : Nat) (ta : Option Addr) (tcap : Nat), v = q.val ca ccap ta tcap ∧ ProgIn W W.heap.size q ca ta ∧ ∀ c ∈ q.threads, List.length c ≤ 9223372036854775807 := by
 have hmax : maxLen ≤ 9223372036854775807 := by decide
 obtain ⟨cs, rfl, hsz⟩ := okWide_struct Try.underlying28 hv
 rw [cells_prog] at hsz
 obtain ⟨fuel, hf⟩ := h
 obtain ⟨xs, n, _, _, _, hlen, hf⟩ := DataW.trod_struct Try.underlying28 hf
 have h0 := hf 0 _ rfl
 have h1 := hf 1 _ rfl
 have h2 := hf 2 _ rfl
 have h3 := hf 3 _ rfl
 have h4 := hf 4 _ rfl
 have h5 := hf 5 _ rfl
 have h6 := hf 6 _ rfl
 clear hf
 obtain ⟨cs⟩ := cs
 have k3 : Try.prog.cellsOf 3 = 1 := by kernel_rfl
 have k23 : Try.prog.cellsOf 24 = 1 := by kernel_rfl
 have k24 : Try.prog.cellsOf 26 = 1 := by kernel_rfl
 match cs, hsz with
 | [c0, c1, c2, c3, c4, c5, c6], _ =>
  match xs, hlen with
  | [y0, y1, y2, y3, y4, y5, y6], _ =>
   simp [Value.cells, k3, k23, k24] at h0 h1 h2 h3 h4 h5 h6
   obtain ⟨a0, e0, _, _⟩ := DataW.trod_int Try.underlying3 h0
   obtain ⟨a1, e1, _, _⟩ := DataW.trod_int Try.underlying3 h1
   obtain ⟨a2, e2, _, _⟩ := DataW.trod_int Try.underlying3 h2
   obtain ⟨a4, e4, _, _⟩ := DataW.trod_int Try.underlying3 h4
   obtain ⟨a5, e5, _, _⟩ := DataW.trod_int Try.underlying3 h5
   simp at e0 e1 e2 e4 e5
   subst e0 e1 e2 e4 e5
   obtain ⟨ta, tcap, ts, rfl, hts, hT, hC⟩ := open_threads h6
   obtain ⟨ca, ccap, l, rfl, hll, hL⟩ : ∃ ca ccap l, c3 = .slice ca (List.length l) ccap ∧ List.length l ≤ 9223372036854775807 ∧ RowOf .i64 W W.heap.size ca l := by
    rcases open_ints Try.underlying24 Try.underlying3 k3 h3 with ⟨hcs, _⟩ | ⟨x, len, c, zs, hcs, _, hl, hm, hz, _, hcell, hwz⟩
    ·simp at hcs
     exact ⟨none, 0, [], hcs, by simp, fun i x h => by simp at h⟩
    ·simp at hcs
     have hS : SliceIn .i64 W (some x) len c (zs.take len) := SliceIn.of hl hm (by simpa using hz) hcell hwz
     exact ⟨some x, c, zs.take len, by rw [hcs, ← hS.len_eq], by rw [← hS.len_eq]; omega, hS.row⟩
   exact ⟨⟨a0, a1, a2, l, a4, a5, ts⟩, ca, ccap, ta, tcap, rfl, ⟨hL, hT, hll, hts⟩, hC⟩
end Go.Proofs.Ytnbpneaiibandaa
