/- What the laws of this seat stand on, part 14. -/
import Derived.Test.YtglafbajbiengaaGreatPa0
import Derived.Test.YtglafbajbiengaaGreatPa1
import Derived.Test.YtglafbajbiengaaGreatPa12
import Derived.Test.YtglafbajbiengaaGreatPa13
set_option linter.unusedVariables false
set_option linter.unusedSimpArgs false
set_option maxRecDepth 100000
set_option maxHeartbeats 40000000
namespace Go.Proofs.YtglafbajbiengaaGreat
open Go.ChangeShapes Go.WideShapes Go.ChangeAt Go.RowKit Go.Maps Go.Shelf
attribute [local go_sem] Oper.semAt_some
theorem cell_same {W W' : World} {g : Nat} (h : W'.heap[g]? = W.heap[g]?) (o : Nat) : W'.cell? ⟨g, o, none⟩ = W.cell? ⟨g, o, none⟩ := by simp only [World.cell?, h]
theorem EvsIn.same {W W' : World} {B0 : Nat} {a : Option Addr} {t : List EvD} (h : EvsIn W B0 a t) (hs : ∀ g, g < B0 → W'.heap[g]? = W.heap[g]?) : EvsIn W' B0 a t := fun k e hk => by
  obtain ⟨g, o, ea, hg, h0, h1, h2, h3, h4, h5⟩ := h k e hk
  exact ⟨g, o, ea, hg, (cell_same (hs g hg) _).trans h0, (cell_same (hs g hg) _).trans h1, (cell_same (hs g hg) _).trans h2, (cell_same (hs g hg) _).trans h3, (cell_same (hs g hg) _).trans h4, (cell_same (hs g hg) _).trans h5⟩
/-- An event and its place. -/
def PlE (t : List EvD) : Type := { x : Nat × EvD // t[x.1]? = some x.2 }
def plE {t : List EvD} (m : Nat) (h : m < t.length) : PlE t := ⟨(t.length - 1 - m, t[t.length - 1 - m]), List.getElem?_eq_getElem (by omega)⟩
/-- The last m places, the last one first. -/
def bkE (t : List EvD) : Nat → List (PlE t)
  | 0 => []
  | m + 1 => bkE t m ++ (if h : m < t.length then [plE m h] else [])
theorem bkE_len (t : List EvD) : ∀ m, m ≤ t.length → (bkE t m).length = m
  | 0, _ => rfl
  | m + 1, h => by rw [bkE, List.length_append, bkE_len t m (by omega), dif_pos (by omega : m < t.length)]; rfl
theorem bkE_succ {t : List EvD} {m : Nat} (h : m < t.length) : bkE t (m + 1) = bkE t m ++ [plE m h] := by rw [bkE, dif_pos h]
theorem bkE_front (t : List EvD) {m n : Nat} (h : m ≤ n) : bkE t m <+: bkE t n := by
  obtain ⟨d, rfl⟩ := Nat.exists_eq_add_of_le h
  clear h
  induction d with
  | zero => exact List.prefix_refl _
  | succ d ih => exact ih.trans (by rw [← Nat.add_assoc, bkE]; exact List.prefix_append _ _)
theorem bkE_vals (t : List EvD) : ∀ m, m ≤ t.length → (bkE t m).map (fun x => x.1.1) = ((List.range t.length).reverse).take m
  | 0, _ => by simp [bkE]
  | m + 1, h => by
    rw [bkE_succ (by omega : m < t.length), List.map_append, bkE_vals t m (by omega), List.take_add_one]
    congr 1
    rw [List.getElem?_reverse (by simp; omega), List.getElem?_range (by simp; omega)]
    simp [plE]
    exact ⟨_, rfl, rfl⟩
def encE {t : List EvD} (x : PlE t) : Array Value := #[.int .i64 (x.1.1 : Int), x.1.2.v]
theorem backEv_in (n : Nat) (hn : 1 ≤ n) (l bx B0 : Nat) (a : Option Addr) (cap : Nat) (t : List EvD) (hl : t.length ≤ 1000000) (J Jx : List (PlE t) → World → Prop)
    (hY : ∀ pre x W, J pre W → pre.length < t.length → YieldAt Fence.wide (n - 1) Tryz.prog l (encE x) W fun e W' =>
      (e = .returned (.bool true) ∧ J (pre ++ [x]) W' ∧ KpW B0 bx W W') ∨ (e = .returned (.bool false) ∧ Jx (pre ++ [x]) W'))
    (W : World) (hB : Boxed W bx 27 (.slice a t.length cap)) (he : EvsIn W B0 a t) (h0 : J [] W) :
    CallsIn Fence.wide n Tryz.prog 40 #[.func (.yield l) #[] #[], .pointer (some ⟨bx, 0, none⟩)] W fun e W' => (∃ v, e = .returned v) ∧
      ((∃ ys, ys = bkE t t.length ∧ J ys W') ∨ (∃ pre, pre <+: bkE t t.length ∧ Jx pre W')) := by
  refine callsIn_of_wp Tryz.func40 rfl trivial ?_ rfl
  simp only [Tryz.ntmps40, List.size_toArray, List.length_cons, List.length_nil, Nat.reduceAdd, Nat.reduceSub, Array.replicate_succ, Array.replicate_zero, List.push_toArray, List.append_toArray, List.nil_append, List.cons_append]
  have hc0 := hB.cell
  gi_wp2
  gi_loopw [3] (fun i wr => ∃ (m : Nat) (x : Int), m ≤ t.length ∧ i = .int .i64 x ∧ x = (t.length : Int) - 1 - (m : Int) ∧ Boxed wr bx 27 (.slice a t.length cap) ∧ EvsIn wr B0 a t ∧ J (bkE t m) wr)
    (fun i wr => ((intOf i) + 1).toNat)
  case atStart =>
    exact ⟨0, _, Nat.zero_le _, rfl, by go_num, hB, he, h0⟩
  case round =>
    obtain ⟨m, x, hm, rfl, hx, hBr, her, hJ⟩ := hrel
    have hcell := hBr.cell
    have hlen := bkE_len t m hm
    by_cases hlt : m < t.length
    · have hx0 : decide ((0 : Int) ≤ x) = true := decide_eq_true (by omega)
      obtain ⟨k, hk⟩ : ∃ k : Nat, x = (k : Int) := ⟨x.toNat, by omega⟩
      subst hk
      have hk : k = t.length - 1 - m := by omega
      have HM := Lib.hid (bkE_succ hlt)
      have HP := Lib.hid (bkE_front t (show m + 1 ≤ t.length by omega))
      have HX := Lib.hid hx
      obtain ⟨g, o, rfl, hg, c0, c1, c2, c3, c4, c5⟩ := her k _ (List.getElem?_eq_getElem (by omega))
      have hkt : (k : Int) < (t.length : Int) := by omega
      have hy0 := hY (bkE t m) (plE m hlt) wr hJ (by omega)
      have henc : encE (plE m hlt) = #[.int .i64 (k : Int), (t[k]'(by omega)).v] := by
        subst hk; rfl
      rw [henc] at hy0
      obtain ⟨fn, tmps, assign, body, hy, hR⟩ := hy0
      generalize t[k]'(by omega) = e at *
      obtain ⟨th, pc, op, obj, val, mode⟩ := e
      have HHE := Lib.hid her
      clear henc hx hk her
      simp only at c0 c1 c2 c3 c4 c5
      have hy2 : (Instr.yield l #[.int .i64 (k : Int), .agg #[.int .i64 th, .int .i64 pc, .int .u8 op, .int .i64 obj, .int .i64 val, .int .i64 mode]]).run Tryz.prog wr = .ok (.round l fn tmps assign body) wr := hy
      clear hy
      gi_wp2
      go_goals
      refine hR.mono ?_
      rintro e W3 (⟨rfl, hJ3, hk3⟩ | ⟨rfl, hJx3⟩)
      · gi_wp2
        go_roundw
        case rel => exact ⟨m + 1, _, by omega, rfl, by have := HX.out; go_num, Eq.trans hk3.2 hBr, HHE.out.same hk3.1, by rw [HM.out]; exact hJ3⟩
        case measure => simp [intOf] <;> omega
      · gi_wp2
        refine bodyPost_ret (results_none rfl _ _ _) rfl ?_
        exact ⟨⟨_, rfl⟩, .inr ⟨_, by rw [← HM.out]; exact HP.out, hJx3⟩⟩
    · obtain rfl : m = t.length := by omega
      have hx0 : decide ((0 : Int) ≤ x) = false := decide_eq_false (by omega)
      gi_wp2
      go_end0
      exact ⟨⟨_, rfl⟩, .inl ⟨_, rfl, hJ⟩⟩
/-- A number below n, and its place. -/
def PlN (n : Nat) : Type := Nat × { k : Nat // k < n }
def plN {ks : List Nat} {n : Nat} (hn : ∀ k ∈ ks, k < n) (m : Nat) (h : m < ks.length) : PlN n := (ks.length - 1 - m, ⟨ks[ks.length - 1 - m], hn _ (List.getElem_mem _)⟩)
def bkN (ks : List Nat) {n : Nat} (hn : ∀ k ∈ ks, k < n) : Nat → List (PlN n)
  | 0 => []
  | m + 1 => bkN ks hn m ++ (if h : m < ks.length then [plN hn m h] else [])
theorem bkN_len (ks : List Nat) {n : Nat} (hn : ∀ k ∈ ks, k < n) : ∀ m, m ≤ ks.length → (bkN ks hn m).length = m
  | 0, _ => rfl
  | m + 1, h => by rw [bkN, List.length_append, bkN_len ks hn m (by omega), dif_pos (by omega : m < ks.length)]; rfl
theorem bkN_succ {ks : List Nat} {n : Nat} (hn : ∀ k ∈ ks, k < n) {m : Nat} (h : m < ks.length) : bkN ks hn (m + 1) = bkN ks hn m ++ [plN hn m h] := by rw [bkN, dif_pos h]
theorem bkN_front (ks : List Nat) {N : Nat} (hn : ∀ k ∈ ks, k < N) {m n : Nat} (h : m ≤ n) : bkN ks hn m <+: bkN ks hn n := by
  obtain ⟨d, rfl⟩ := Nat.exists_eq_add_of_le h
  clear h
  induction d with
  | zero => exact List.prefix_refl _
  | succ d ih => exact ih.trans (by rw [← Nat.add_assoc, bkN]; exact List.prefix_append _ _)
theorem bkN_vals (ks : List Nat) {n : Nat} (hn : ∀ k ∈ ks, k < n) : ∀ m, m ≤ ks.length → (bkN ks hn m).map (fun x => x.2.1) = ks.reverse.take m
  | 0, _ => by simp [bkN]
  | m + 1, h => by
    rw [bkN_succ hn (by omega : m < ks.length), List.map_append, bkN_vals ks hn m (by omega), List.take_add_one]
    congr 1
    rw [List.getElem?_reverse (by omega), List.getElem?_eq_getElem (by omega)]
    simp [plN]
    exact ⟨_, rfl, rfl⟩
def encN {n : Nat} (x : PlN n) : Array Value := #[.int .i64 (x.1 : Int), .int .i64 (x.2.1 : Int)]
theorem RowOf.same {W W' : World} {B0 : Nat} {a : Option Addr} {l : List Int} (h : RowOf .i64 W B0 a l) (hs : ∀ g, g < B0 → W'.heap[g]? = W.heap[g]?) : RowOf .i64 W' B0 a l := fun k x hk => by
  obtain ⟨g, o, ea, hg, h0⟩ := h k x hk
  exact ⟨g, o, ea, hg, (cell_same (hs g hg) _).trans h0⟩
theorem backN_in (n : Nat) (hn : 1 ≤ n) (l bx B0 : Nat) (a : Option Addr) (cap : Nat) (ks : List Nat) {N : Nat} (hN : ∀ k ∈ ks, k < N) (hl : ks.length ≤ 1000000) (J Jx : List (PlN N) → World → Prop)
    (hY : ∀ pre x W, J pre W → pre.length < ks.length → YieldAt Fence.wide (n - 1) Tryz.prog l (encN x) W fun e W' =>
      (e = .returned (.bool true) ∧ J (pre ++ [x]) W' ∧ KpW B0 bx W W') ∨ (e = .returned (.bool false) ∧ Jx (pre ++ [x]) W'))
    (W : World) (hB : Boxed W bx 23 (.slice a ks.length cap)) (he : RowOf .i64 W B0 a (ofN ks)) (h0 : J [] W) :
    CallsIn Fence.wide n Tryz.prog 58 #[.func (.yield l) #[] #[], .pointer (some ⟨bx, 0, none⟩)] W fun e W' => (∃ v, e = .returned v) ∧
      ((∃ ys, ys = bkN ks hN ks.length ∧ J ys W') ∨ (∃ pre, pre <+: bkN ks hN ks.length ∧ Jx pre W')) := by
  refine callsIn_of_wp Tryz.func58 rfl trivial ?_ rfl
  simp only [Tryz.ntmps58, List.size_toArray, List.length_cons, List.length_nil, Nat.reduceAdd, Nat.reduceSub, Array.replicate_succ, Array.replicate_zero, List.push_toArray, List.append_toArray, List.nil_append, List.cons_append]
  have hc0 := hB.cell
  gi_wp2
  gi_loopw [3] (fun i wr => ∃ (m : Nat) (x : Int), m ≤ ks.length ∧ i = .int .i64 x ∧ x = (ks.length : Int) - 1 - (m : Int) ∧ Boxed wr bx 23 (.slice a ks.length cap) ∧ RowOf .i64 wr B0 a (ofN ks) ∧ J (bkN ks hN m) wr)
    (fun i wr => ((intOf i) + 1).toNat)
  case atStart =>
    exact ⟨0, _, Nat.zero_le _, rfl, by go_num, hB, he, h0⟩
  case round =>
    obtain ⟨m, x, hm, rfl, hx, hBr, her, hJ⟩ := hrel
    have hcell := hBr.cell
    have hlen := bkN_len ks hN m hm
    by_cases hlt : m < ks.length
    · have hx0 : decide ((0 : Int) ≤ x) = true := decide_eq_true (by omega)
      obtain ⟨k, hk⟩ : ∃ k : Nat, x = (k : Int) := ⟨x.toNat, by omega⟩
      subst hk
      have hk : k = ks.length - 1 - m := by omega
      have HM := Lib.hid (bkN_succ hN hlt)
      have HP := Lib.hid (bkN_front ks hN (show m + 1 ≤ ks.length by omega))
      have HX := Lib.hid hx
      have hkl : k < ks.length := by omega
      obtain ⟨g, o, rfl, hg, c0⟩ := her k ((ks[k]'hkl : Nat) : Int) (by unfold ofN; rw [List.getElem?_map, List.getElem?_eq_getElem hkl]; rfl)
      have hkt : (k : Int) < (ks.length : Int) := by omega
      have hy0 := hY (bkN ks hN m) (plN hN m hlt) wr hJ (by omega)
      have henc : encN (plN hN m hlt) = #[.int .i64 (k : Int), .int .i64 ((ks[k]'hkl : Nat) : Int)] := by
        subst hk; rfl
      rw [henc] at hy0
      obtain ⟨fn, tmps, assign, body, hy, hR⟩ := hy0
      generalize ks[k]'hkl = e at *
      have HHE := Lib.hid her
      clear henc hx hk her
      gi_wp2
      go_goals
      refine hR.mono ?_
      rintro e W3 (⟨rfl, hJ3, hk3⟩ | ⟨rfl, hJx3⟩)
      · gi_wp2
        go_roundw
        case rel => exact ⟨m + 1, _, by omega, rfl, by have := HX.out; go_num, Eq.trans hk3.2 hBr, HHE.out.same hk3.1, by rw [HM.out]; exact hJ3⟩
        case measure => simp [intOf] <;> omega
      · gi_wp2
        refine bodyPost_ret (results_none rfl _ _ _) rfl ?_
        exact ⟨⟨_, rfl⟩, .inr ⟨_, by rw [← HM.out]; exact HP.out, hJx3⟩⟩
    · obtain rfl : m = ks.length := by omega
      have hx0 : decide ((0 : Int) ≤ x) = false := decide_eq_false (by omega)
      gi_wp2
      go_end0
      exact ⟨⟨_, rfl⟩, .inl ⟨_, rfl, hJ⟩⟩
end Go.Proofs.YtglafbajbiengaaGreat
namespace Go.Proofs.YtglafbajbiengaaGreat
open Go.ChangeShapes Go.WideShapes Go.ChangeAt Go.RowKit Go.Maps
/-- Is an event a Store of x? -/
def stB (x : Int) (e : EvD) : Bool := e.op == 8 && e.obj == x
def stP (t : List EvD) (x : Int) (i : Nat) : Bool := match t[i]? with
  | some e => stB x e
  | none => false
theorem stP_at {t : List EvD} {i : Nat} {e : EvD} (h : t[i]? = some e) (x : Int) : stP t x i = stB x e := by unfold stP; rw [h]
theorem stores_any (e : EvD) (x : Int) (w : World) : Calls Tryz.prog 23 #[e.v, .int .i64 x] w fun r w' => r = .returned (.bool (stB x e)) ∧ Below w.heap.size w w' := by
  obtain ⟨th, pc, op, obj, val, mode⟩ := e
  show Calls Tryz.prog 23 #[evV th pc op obj val mode, .int .i64 x] w _
  unfold stB
  rcases h1 : (op == 8) with _ | _
  · go_enter Tryz.func23, Tryz.ntmps23
    go_wp2
    go_ret
    exact ⟨rfl, below_box _ _⟩
  · rcases h2 : (obj == x) with _ | _
    all_goals
      go_enter Tryz.func23, Tryz.ntmps23
      go_wp2
      go_ret
      exact ⟨rfl, below_box _ _⟩
/-- What a predicate of weak's says: it turns nothing that lay. -/
def DelF (bt bx : Nat) (pd : Nat → Bool) (w : World) (X : Nat → Prop) (ps : List Nat) : Prop := ∀ (W : World) (k : Nat), Touch X w W → k ∈ ps → Calls Tryz.prog 38 #[.int .i64 (k : Int), .pointer (some ⟨bt, 0, none⟩), .pointer (some ⟨bx, 0, none⟩)] W fun e w' => e = .returned (.bool (pd k)) ∧ Below W.heap.size W w'
theorem index_no (a : Option Addr) (cap : Nat) (ps : List Nat) (bt bx : Nat) (pd : Nat → Bool) (X : Nat → Prop) (w : World) (hr : RowOf .i64 w w.heap.size a (ofN ps)) (hl : ps.length ≤ 1000000) (hd : DelF bt bx pd w X ps) (hno : ∀ k ∈ ps, pd k = false) :
    Calls Tryz.prog 56 #[.slice a ps.length cap, .func (.func 38) #[] #[.pointer (some ⟨bt, 0, none⟩), .pointer (some ⟨bx, 0, none⟩)]] w fun e w' => e = .returned (.int .i64 (-1)) ∧ Below w.heap.size w w' := by
  have hcf := cf_of Tryz.func38 (by kernel_rfl) (by kernel_rfl)
  have HR := Lib.hid hr
  have HD := Lib.hid hd
  have HN := Lib.hid hno
  clear hr hd hno
  go_enter Tryz.func56, Tryz.ntmps56
  go_wp2_with fail
  go_loopw [8] (fun iv u => ∃ k : Nat, k ≤ ps.length ∧ iv = .int .i64 k ∧ Below w.heap.size w u) (fun iv _ => ps.length - (intOf iv).toNat)
  case atStart => exact ⟨0, Nat.zero_le _, rfl, Below.refl _ _⟩
  case round =>
    obtain ⟨k, hk, rfl, hB⟩ := hrel
    have HB := Lib.hid hB
    clear hB
    by_cases hlt : k < ps.length
    · obtain ⟨q, hx⟩ := at_lt hlt
      obtain ⟨g, o, rfl, hg, c0⟩ := (HR.out.up HB.out) k (q : Int) (by unfold ofN; rw [List.getElem?_map, hx]; rfl)
      have hk1 : (k : Int) < (ps.length : Int) := by omega
      have HFE := Lib.hid (HD.out wr q (Touch.of_below HB.out) (List.mem_of_getElem? hx))
      rw [HN.out q (List.mem_of_getElem? hx)] at HFE
      clear hx
      go_wp2_with (refine HFE.out.mono ?_; rintro e w1 ⟨rfl, hB1⟩)
      go_roundw
      case rel => exact ⟨k + 1, by omega, by go_num, below_next HB.out hB1⟩
      case measure => simp [intOf]; omega
    · obtain rfl : k = ps.length := by omega
      go_wp2
      go_ret
      exact ⟨rfl, HB.out⟩
theorem index_yes (a : Option Addr) (cap : Nat) (ps : List Nat) (bt bx : Nat) (pd : Nat → Bool) (X : Nat → Prop) (w : World) (hr : RowOf .i64 w w.heap.size a (ofN ps)) (hl : ps.length ≤ 1000000) (hd : DelF bt bx pd w X ps) {i z : Nat} (hi : ps[i]? = some z) (hz : pd z = true) (hlow : ∀ m k, m < i → ps[m]? = some k → pd k = false) :
    Calls Tryz.prog 56 #[.slice a ps.length cap, .func (.func 38) #[] #[.pointer (some ⟨bt, 0, none⟩), .pointer (some ⟨bx, 0, none⟩)]] w fun e w' => e = .returned (.int .i64 (i : Int)) ∧ Below w.heap.size w w' := by
  have hcf := cf_of Tryz.func38 (by kernel_rfl) (by kernel_rfl)
  have hil := (List.getElem?_eq_some_iff.1 hi).1
  have HR := Lib.hid hr
  have HD := Lib.hid hd
  have HN := Lib.hid hlow
  have HI := Lib.hid hi
  have HZ := Lib.hid hz
  clear hr hd hlow hi hz
  go_enter Tryz.func56, Tryz.ntmps56
  go_wp2_with fail
  go_loopw [8] (fun iv u => ∃ k : Nat, k ≤ i ∧ iv = .int .i64 k ∧ Below w.heap.size w u) (fun iv _ => i - (intOf iv).toNat)
  case atStart => exact ⟨0, Nat.zero_le _, rfl, Below.refl _ _⟩
  case round =>
    obtain ⟨k, hk, rfl, hB⟩ := hrel
    have HB := Lib.hid hB
    clear hB
    have hk1 : (k : Int) < (ps.length : Int) := by omega
    by_cases hlt : k < i
    · obtain ⟨q, hx⟩ := at_lt (l := ps) (k := k) (by omega)
      obtain ⟨g, o, rfl, hg, c0⟩ := (HR.out.up HB.out) k (q : Int) (by unfold ofN; rw [List.getElem?_map, hx]; rfl)
      have HFE := Lib.hid (HD.out wr q (Touch.of_below HB.out) (List.mem_of_getElem? hx))
      rw [HN.out k q hlt hx] at HFE
      clear hx
      go_wp2_with (refine HFE.out.mono ?_; rintro e w1 ⟨rfl, hB1⟩)
      go_roundw
      case rel => exact ⟨k + 1, by omega, by go_num, below_next HB.out hB1⟩
      case measure => simp [intOf]; omega
    · obtain rfl : k = i := by omega
      obtain ⟨g, o, rfl, hg, c0⟩ := (HR.out.up HB.out) k (z : Int) (by unfold ofN; rw [List.getElem?_map, HI.out]; rfl)
      have HFE := Lib.hid (HD.out wr z (Touch.of_below HB.out) (List.mem_of_getElem? HI.out))
      rw [HZ.out] at HFE
      go_wp2_with (refine HFE.out.mono ?_; rintro e w1 ⟨rfl, hB1⟩)
      go_ret
      exact ⟨rfl, below_next HB.out hB1⟩
theorem zeroI (w : World) : (zeroValue 3).run Tryz.prog w = .ok (.int .i64 0) w := by kernel_rfl
theorem touch_setCells {X : Nat → Prop} {w : World} {b : Nat} (hb : X b) : ∀ (vs : List Value) (o : Nat) (u : World), Touch X w u → Touch X w (u.setCells b o vs)
  | [], _, _, h => h
  | v :: r, o, u, h => touch_setCells hb r (o + 1) _ (h.set hb)
def DelE (ps : List Nat) (pd : Nat → Bool) (X : Nat → Prop) (w : World) (e : Ending) (W' : World) : Prop := ∃ a cap, e = .returned (.slice a (ps.filter fun k => !pd k).length cap) ∧ RowOf .i64 W' W'.heap.size a (ofN (ps.filter fun k => !pd k)) ∧ Touch X w W'
theorem delete_any (v : Value) (ps : List Nat) (bt bx : Nat) (pd : Nat → Bool) (base : Nat) (w : World) (ho : w.ownsRow base 3 1 v ps.length ((ofN ps).map (.int .i64 ·))) (hl : ps.length ≤ 1000000) (hd : DelF bt bx pd w (fun q => v.ownBlock = some q) ps) :
    Calls Tryz.prog 36 #[v, .func (.func 38) #[] #[.pointer (some ⟨bt, 0, none⟩), .pointer (some ⟨bx, 0, none⟩)]] w (DelE ps pd (fun q => v.ownBlock = some q) w) := by
  have hcf := cf_of Tryz.func38 (by kernel_rfl) (by kernel_rfl)
  have hrow : ∃ a cap, v = .slice a ps.length cap ∧ RowOf .i64 w w.heap.size a (ofN ps) := by
    rcases ho.2 with ⟨rfl, h0⟩ | ⟨g, cap, cur, rfl, _⟩
    · exact ⟨none, 0, by rw [h0], fun i x hx => by have := (List.getElem?_eq_some_iff.1 hx).1; simp [ofN] at this; omega⟩
    · refine ⟨_, cap, rfl, fun i x hx => ⟨g, 0, rfl, (own_lt ho g rfl).1, ?_⟩⟩
      have hi := (List.getElem?_eq_some_iff.1 hx).1
      rw [Nat.zero_add, ho.cellAt i (by simp [ofN] at hi; omega), List.getElem?_map, hx]; rfl
  by_cases hall : ∀ k ∈ ps, pd k = false
  · obtain ⟨a, cap, rfl, hr⟩ := hrow
    have HIx := Lib.hid (index_no a cap ps bt bx pd _ w hr hl hd hall)
    have hf : ps.filter (fun k => !pd k) = ps := List.filter_eq_self.2 fun k hk => by rw [hall k hk]; rfl
    unfold DelE
    rw [hf]
    have HR := Lib.hid hr
    clear hd hr hall hf ho
    go_enter Tryz.func36, Tryz.ntmps36
    go_wp2_with (go_at_call 56; refine HIx.out.mono ?_; rintro e w1 ⟨rfl, hB1⟩)
    go_ret
    exact ⟨_, _, rfl, HR.out.up hB1, Touch.of_below hB1⟩
  · have hex : ∃ k ∈ ps, pd k = true := by
      rcases Classical.em (∃ k ∈ ps, pd k = true) with h | h
      · exact h
      · exact (hall fun k hk => by
          rcases hp : pd k with _ | _
          · rfl
          · exact (h ⟨k, hk, hp⟩).elim).elim
    have hiL : ps.findIdx pd < ps.length := List.findIdx_lt_length_of_exists hex
    obtain ⟨i, hi⟩ : ∃ i, ps.findIdx pd = i := ⟨_, rfl⟩
    have hil : i < ps.length := by rw [← hi]; exact hiL
    have hz : pd (ps[i]'hil) = true := by subst hi; exact List.findIdx_getElem
    have hlow : ∀ m k, m < i → ps[m]? = some k → pd k = false := fun m k hm hk => by
      subst hi
      have := List.not_of_lt_findIdx hm
      obtain ⟨h1, h2⟩ := List.getElem?_eq_some_iff.1 hk
      rw [h2] at this
      simpa using this
    clear hi hiL hex hall
    have hF0 : (ps.take (i + 1)).filter (fun k => !pd k) = ps.take i := by
      rw [List.take_add_one, List.getElem?_eq_getElem hil, List.filter_append, List.filter_eq_self.2 (fun k hk => by
        obtain ⟨m, hm, rfl⟩ := List.mem_iff_getElem.1 hk
        rw [List.length_take] at hm
        rw [List.getElem_take, hlow m _ (by omega) (List.getElem?_eq_getElem (by omega))]; rfl)]
      simp [hz]
    obtain ⟨a, cap, rfl, hr⟩ := hrow
    obtain ⟨g, rfl⟩ : ∃ g, a = some ⟨g, 0, none⟩ := by
      rcases ho.2 with ⟨h0, h1⟩ | ⟨g, _, _, h0, _⟩
      · omega
      · injection h0 with h0 _ _; exact ⟨g, h0⟩
    have HIx := Lib.hid (index_yes _ cap ps bt bx pd _ w hr hl hd (List.getElem?_eq_getElem hil) hz hlow)
    have HO := Lib.hid ho
    have HD := Lib.hid hd
    have HF0 := Lib.hid hF0
    clear ho hd hr hF0 hz hlow
    have hig : ((i : Int) == -1) = false := by rw [beq_eq_false_iff_ne]; omega
    go_enter Tryz.func36, Tryz.ntmps36
    go_wp2_with (go_at_call 56; refine HIx.out.mono ?_; rintro e w1 ⟨rfl, hB1⟩; have HB1 := Lib.hid hB1; clear hB1)
    go_loopw [5, 6] (fun iv jv u => ∃ (q j : Nat) (F : List Nat) (L : List Int), q = F.length ∧ q < j ∧ j ≤ ps.length ∧ iv = .int .i64 q ∧ jv = .int .i64 j ∧ Hid (F = (ps.take j).filter (fun k => !pd k)) ∧ L.length = ps.length ∧ Hid (L.take q = ofN F) ∧ Hid (L.drop j = (ofN ps).drop j) ∧ u.ownsRow base 3 1 (.slice (some ⟨g, 0, none⟩) ps.length cap) ps.length (L.map (.int .i64 ·)) ∧ Touch (fun q => some g = some q) w u) (fun _ jv _ => ps.length - (intOf jv).toNat)
    case atStart =>
      refine ⟨i, i + 1, ps.take i, ofN ps, by rw [List.length_take]; omega, by omega, by omega, rfl, by go_num, Lib.hid HF0.out.symm, by simp [ofN], Lib.hid (by simp [ofN, List.map_take]), Lib.hid rfl, own_later HO.out HB1.out, Touch.of_below HB1.out⟩
    case round =>
      obtain ⟨_, j, F, L, rfl, hqj, hj, rfl, rfl, HF, hL, HT, HDr, hown, hT⟩ := hrel
      have HO2 := Lib.hid hown
      have HT2 := Lib.hid hT
      clear hown hT
      have hqn : (F.length : Int) < (ps.length : Int) := by omega
      have hfr := HO2.out.frozenAt F.length
      have hcq := HO2.out.cellAt F.length (by omega)
      rw [List.getElem?_map, List.getElem?_eq_getElem (by omega : F.length < L.length)] at hcq
      simp only [Option.map_some] at hcq
      by_cases hlt : j < ps.length
      · have hlt' : (j : Int) < (ps.length : Int) := by omega
        obtain ⟨k, hx⟩ := at_lt hlt
        have hcj := HO2.out.cellAt j (by omega)
        have hLj : L[j]? = some (k : Int) := by
          have h1 : (L.drop j)[0]? = ((ofN ps).drop j)[0]? := by rw [HDr.out]
          rw [List.getElem?_drop, List.getElem?_drop, Nat.add_zero] at h1
          rw [h1, ofN, List.getElem?_map, hx]; rfl
        rw [List.getElem?_map, hLj] at hcj
        simp only [Option.map_some] at hcj
        have HFE := Lib.hid (HD.out wr k HT2.out (List.mem_of_getElem? hx))
        have HN := Lib.hid (show (ps.take (j + 1)).filter (fun k => !pd k) = F ++ (if pd k = true then [] else [k]) by
          rw [List.take_add_one, hx, List.filter_append, ← HF.out]
          rcases hp0 : pd k with _ | _ <;> simp [hp0])
        have HDr2 := Lib.hid (show L.drop (j + 1) = (ofN ps).drop (j + 1) by
          rw [← List.drop_drop, ← List.drop_drop, HDr.out])
        have HKK := Lib.hid (fun (u : World) (hB : Below wr.heap.size wr u) => own_later HO2.out hB)
        rcases hp : pd k with _ | _
        · rw [hp] at HFE
          rw [if_neg (by rw [hp]; simp)] at HN
          clear hx hp hLj HF HDr
          go_wp2_with (refine HFE.out.mono ?_; rintro e w2 ⟨rfl, hB2⟩; have HO3 := Lib.hid (HKK.out _ hB2); have HB2 := Lib.hid hB2; have hfr2 := HO3.out.frozenAt F.length; have hcq2 := (HB2.out.cell (p := ⟨g, F.length, none⟩) (cell_lt hcq)).trans hcq; clear hB2)
          go_roundw
          case rel =>
            refine ⟨F.length + 1, j + 1, F ++ [k], L.set F.length (k : Int), by rw [List.length_append]; rfl, by omega, by omega, by go_num, by go_num, Lib.hid HN.out.symm, by rw [List.length_set]; exact hL, Lib.hid ?_, Lib.hid ?_, ?_, ?_⟩
            · rw [List.take_add_one, List.take_set_of_le (by omega), HT.out, List.getElem?_set_self (by omega)]
              simp [ofN]
            · rw [List.drop_set_of_lt (by omega)]; exact HDr2.out
            · rw [List.map_set]
              exact (HO3.out.stored F.length (.int .i64 (k : Int))).1
            · exact (HT2.out.trans (Touch.of_below HB2.out) (fun _ _ h => h)).set rfl
          case measure => simp [intOf]; omega
        · rw [hp] at HFE
          rw [if_pos hp, List.append_nil] at HN
          clear hx hp hLj HF HDr
          go_wp2_with (refine HFE.out.mono ?_; rintro e w2 ⟨rfl, hB2⟩; have HO3 := Lib.hid (HKK.out _ hB2); have HB2 := Lib.hid hB2; clear hB2)
          go_roundw
          case rel => exact ⟨F.length, j + 1, F, L, rfl, by omega, by omega, rfl, by go_num, Lib.hid HN.out.symm, hL, HT, HDr2, HO3.out, HT2.out.trans (Touch.of_below HB2.out) (fun _ _ h => h)⟩
          case measure => simp [intOf]; omega
      · obtain rfl : j = ps.length := by omega
        have hFe : F = ps.filter (fun k => !pd k) := by rw [HF.out, List.take_length]
        have hcap : ps.length ≤ cap := by
          rcases HO2.out.2 with ⟨h0, _⟩ | ⟨_, _, _, h0, _, _, h3, _⟩
          · cases h0
          · injection h0 with _ _ h0; omega
        have hqc : (F.length : Int) ≤ (cap : Int) := by omega
        have hlc : F.length < cap := by omega
        have hlc2 : (F.length == cap) = false := by rw [beq_eq_false_iff_ne]; omega
        have hlc3 : ¬ F.length = cap := by omega
        have HFe := Lib.hid hFe
        clear hFe
        have hcl : ∀ ty, (Builtin.clear_ #[23] ty #[.slice (some ⟨g, F.length, none⟩) (ps.length - F.length) (cap - F.length)]).run Tryz.prog wr = .ok (.tuple #[]) (wr.setCells g F.length (List.replicate (ps.length - F.length) (.int .i64 0))) :=
          fun ty => Lib.run_clear_slice wr 23 3 ty (.int .i64 0) Tryz.underlying23 zeroI rfl rfl g F.length (ps.length - F.length) (cap - F.length) (by omega) (fun m hm => by
            rw [HO2.out.cellAt _ (by omega), List.getElem?_map, List.getElem?_eq_getElem (by omega)]; rfl) (fun m hm => HO2.out.frozenAt _)
        go_wp2_with (simp only [hcl])
        go_ret
        unfold DelE
        rw [← HFe.out]
        refine ⟨_, _, rfl, fun m x hx => ⟨g, 0, rfl, ?_, ?_⟩, touch_setCells (X := fun y => some g = some y) rfl _ _ _ HT2.out⟩
        · have h1 := (own_lt HO2.out g rfl).1
          have h2 := (touch_setCells (X := fun y => some g = some y) (w := wr) rfl (List.replicate (ps.length - F.length) (Value.int .i64 0)) F.length wr (Touch.of_below (Below.refl _ _))).size
          omega
        · have hm : m < F.length := by have := (List.getElem?_eq_some_iff.1 hx).1; simpa [ofN] using this
          rw [Nat.zero_add, World.cell?_setCells_out _ _ _ _ _ (fun _ _ => .inl (by simp; omega)), HO2.out.cellAt m (by omega), List.getElem?_map]
          have h1 : (L.take F.length)[m]? = some x := by rw [HT.out]; exact hx
          rw [List.getElem?_take_of_lt hm] at h1
          rw [h1]; rfl
theorem wide_thing : (match Tryz.prog.underlying 198 with | some (.array _ _) | some (.struct _) => true | _ => false) = true := by rw [Tryz.underlying198]
theorem row_thing : (198 : TypeId) < Tryz.prog.types.size := of_decide_eq_true (by kernel_rfl)
theorem keyed_thing : Keyed Tryz.prog 198 := Keyed.of_law (deep_law_laid law_laidOut (m := 2) (by omega) row_thing (by kernel_rfl) wide_thing)
theorem deep_thing : Tryz.prog.keyType 198 = true := by kernel_rfl
theorem cells_thing : Tryz.prog.cellsOf 198 = 2 := by kernel_rfl
theorem snoc_ind {α : Type} {M : List α → Prop} (h0 : M []) (h1 : ∀ l a, M l → M (l ++ [a])) (l : List α) : M l := by
  rw [← List.reverse_reverse l]
  induction l.reverse with
  | nil => exact h0
  | cons a r ih => rw [List.reverse_cons]; exact h1 _ _ ih
def Wf (x : Int) : Prop := (Lit.int .i64 x).wf = true
def kV (n x : Int) : Value := .agg #[.int .i64 n, .int .i64 x]
theorem formed_thing (n x : Int) : (kV n x).formed Tryz.prog 198 = true := by simp [kV, Value.formed, Tryz.underlying198, cells_thing]
theorem lits_int (d : Nat) {y : Int} (hy : (Lit.int .i64 y).wf = true) : Tryz.prog.keyLits (d + 1) 3 [.int .i64 y] = some [.int .i64 y] := by
  simp [Program.keyLits, Tryz.underlying3, hy]
theorem lits_two (d : Nat) (a b : Value) : Tryz.prog.keyLits (d + 2) 198 [a, b] = ((Tryz.prog.keyLits (d + 1) 3 [a]).bind fun x => (Tryz.prog.keyLits (d + 1) 3 [b]).bind fun y => some [x, y]).map List.flatten := by
  kernel_rfl
theorem lits_thing (d : Nat) {n x : Int} (hn : Wf n) (hx : Wf x) : Tryz.prog.keyLits (d + 2) 198 (kV n x).cells.toList = some [.int .i64 n, .int .i64 x] := by
  show Tryz.prog.keyLits (d + 2) 198 [.int .i64 n, .int .i64 x] = _
  rw [lits_two, lits_int d hn, lits_int d hx]
  rfl
def kL (n x : Int) : Lit := .string (keyBytes [.int .i64 n, .int .i64 x])
theorem size_types : Tryz.prog.types.size + 1 = (Tryz.prog.types.size - 1) + 2 := by
  have := row_thing
  have : 1 ≤ Tryz.prog.types.size := Nat.le_trans (by decide) (Nat.succ_le_of_lt this)
  omega
theorem kL_of {n x : Int} (hn : Wf n) (hx : Wf x) : keyOf Tryz.prog 198 (kV n x) = some (kL n x) := by
  unfold keyOf
  rw [Tryz.underlying198]
  show (if (Tryz.prog.keyType 198 && (kV n x).formed Tryz.prog 198) = true then _ else _) = _
  rw [deep_thing, formed_thing, size_types, lits_thing _ hn hx]
  rfl
theorem kL_inj {n x n' x' : Int} (hn : Wf n) (hx : Wf x) (hn' : Wf n') (hx' : Wf x') (h : kL n x = kL n' x') : n = n' ∧ x = x' := by
  have := (keyed_thing).inj (kL_of hn hx) (by rw [h]; exact kL_of hn' hx')
  simp [kV] at this
  exact this
theorem kL_key (n x : Int) : WideAt.IsKeyLit (kL n x) := trivial
/-- What the map reads as, of the keys in order of their rows. -/
def mapD (ks : List (Int × Int)) : DataW Unit := ks.zipIdx.foldl (fun m p => m.put (kL p.1.1 p.1.2) (.lit (.int .i64 (p.2 : Nat)))) (.map [])
theorem mapD_snoc (ks : List (Int × Int)) (n x : Int) : mapD (ks ++ [(n, x)]) = (mapD ks).put (kL n x) (.lit (.int .i64 ks.length)) := by
  simp [mapD, List.zipIdx_append]
def KsWf (ks : List (Int × Int)) : Prop := ∀ p ∈ ks, Wf p.1 ∧ Wf p.2
theorem mapD_map (ks : List (Int × Int)) : IsMap (mapD ks) := by
  induction ks using snoc_ind with
  | h0 => exact isMap_empty
  | h1 ks p ih => rw [show p = (p.1, p.2) from rfl, mapD_snoc]; exact ih.put _ _
theorem mapD_has {ks : List (Int × Int)} (hk : KsWf ks) {n x : Int} (hn : Wf n) (hx : Wf x) : Maps.has (mapD ks) (kL n x) = ks.contains (n, x) := by
  induction ks using snoc_ind with
  | h0 => rfl
  | h1 ks p ih =>
    obtain ⟨m, y⟩ := p
    have ih := ih fun q hq => hk q (by simp [hq])
    obtain ⟨h1, h2⟩ := hk (m, y) (by simp)
    rw [mapD_snoc]
    by_cases e : kL n x = kL m y
    · obtain ⟨rfl, rfl⟩ := kL_inj hn hx h1 h2 e
      rw [has_put_same (mapD_map ks) (kL_key _ _)]; simp
    · rw [has_put_other e, ih]
      have : ¬ (n, x) = (m, y) := fun q => e (by cases q; rfl)
      rw [Bool.eq_iff_iff]
      simp [this]
theorem mapD_at {ks : List (Int × Int)} (hk : KsWf ks) {k : Nat} {n x : Int} (h : ks[k]? = some (n, x)) (hd : ∀ j, k < j → ks[j]? ≠ some (n, x)) (z : DataW Unit) : (mapD ks).atKey (kL n x) z = .lit (.int .i64 k) := by
  induction ks using snoc_ind with
  | h0 => simp at h
  | h1 ks p ih =>
    obtain ⟨m, y⟩ := p
    obtain ⟨h1, h2⟩ := hk (m, y) (by simp)
    rw [mapD_snoc]
    rcases Nat.lt_or_ge k ks.length with q | q
    · rw [List.getElem?_append_left q] at h
      obtain ⟨g1, g2⟩ := hk (n, x) (by simp [List.mem_of_getElem? h])
      have hne : kL n x ≠ kL m y := fun e => by
        obtain ⟨rfl, rfl⟩ := kL_inj g1 g2 h1 h2 e
        exact hd ks.length q (by simp)
      rw [atKey_put_other hne]
      refine ih (fun p hp => hk p (by simp [hp])) h fun j hj e => hd j hj ?_
      rw [List.getElem?_append_left (List.getElem?_eq_some_iff.1 e).1]; exact e
    · obtain rfl : k = ks.length := by have := (List.getElem?_eq_some_iff.1 h).1; simp at this; omega
      simp at h
      obtain ⟨rfl, rfl⟩ := h
      rw [atKey_put_same (mapD_map ks) (kL_key _ _)]
theorem zero_int (w : World) : (zeroValue 3).run Tryz.prog w = .ok (.int .i64 0) w := by kernel_rfl
end Go.Proofs.YtglafbajbiengaaGreat
namespace Go.Proofs.YtglafbajbiengaaGreat
open Go.ChangeShapes Go.WideShapes Go.ChangeAt Go.RowKit
def riseB (i j n : Int) : Bool := decide (0 ≤ i) && decide (i < j) && decide (j < n)
theorem riseB_iff {i j n : Int} : riseB i j n = true ↔ 0 ≤ i ∧ i < j ∧ j < n := by simp [riseB, and_assoc]
/-- One of the rules, as it lies. -/
theorem rules_at {Y : Nat → Prop} {w : World} {R : Array Value} {chans : List Int} (h : RulesV Y w R chans) {k : Nat} (hk : k < 10) : ∃ (r : RuD) (va vb vw : Value), (rulesL chans)[k]? = some r ∧ (∀ (kd : IntKind) (u : World), (Instr.index 156 (.agg R) (.int kd k)).run Tryz.prog u = .ok (.agg #[va, vb, vw]) u) ∧ SideV Y w va r.a ∧ SideV Y w vb r.b ∧ WhV Y w vw r.wh := by
  obtain ⟨r, hr⟩ : ∃ r, (rulesL chans)[k]? = some r := at_lt (by simpa [rulesL] using hk)
  obtain ⟨va, vb, vw, h1, h2, h3, h4, h5, h6⟩ := h.get k r hr
  refine ⟨r, va, vb, vw, hr, fun kd u => ?_, h4, h5, h6⟩
  have hs := h.size
  have hk' : (k : Int) < 10 := by omega
  simp [Instr.index, asIntOf, run_underlying Tryz.underlying156, hk', hk]
  have hsl : (R.extract (k * 3) (k * 3 + 3)) = #[va, vb, vw] := by
    apply Array.ext_getElem?
    intro i
    rw [Array.getElem?_extract]
    match i with
    | 0 => simp [h1, hs]; omega
    | 1 => simp [h2, hs]; omega
    | 2 => simp [h3, hs]; omega
    | i + 3 => simp; omega
  simp [part, hsl]
theorem side_one {Y : Nat → Prop} {w : World} {v : Value} {s : Sd} (h : SideV Y w v s) : v.oneCell' = true := by obtain ⟨_, _, rfl, _⟩ := h; rfl
theorem wh_one {Y : Nat → Prop} {w : World} {v : Value} {s : Option Wh} (h : WhV Y w v s) : v.oneCell' = true := by
  cases s with
  | none => cases h; rfl
  | some f => obtain ⟨_, _, rfl, _⟩ := h; rfl
theorem info_rule : (Tryz.prog.info? 155).map (·.size) = some 3 := by kernel_rfl
/-- A program's value: its channels lie. -/
structure ChIn (w : World) (ca : Option Addr) (chans : List Int) : Prop where
  row : RowOf .i64 w w.heap.size ca chans
  len : chans.length ≤ 1000000
  wf : ∀ c ∈ chans, -9223372036854775808 ≤ c ∧ c ≤ 9223372036854775807
theorem ChIn.later {w w' : World} {ca : Option Addr} {chans : List Int} (h : ChIn w ca chans) (hB : Below w.heap.size w w') : ChIn w' ca chans := ⟨h.row.up hB, h.len, h.wf⟩
def dirI (chans : List Int) (t : List EvD) (i j : Int) : Bool := riseB i j t.length && dirB chans t i.toNat j.toNat
end Go.Proofs.YtglafbajbiengaaGreat
