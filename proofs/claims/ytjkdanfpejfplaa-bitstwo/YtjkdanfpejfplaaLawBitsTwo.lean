/- BitsTwo: what is put in one by one is what is put in at once, in any order; for every input. -/
import Derived.Test.YtjkdanfpejfplaaLawKit
import Derived.Test.YtjkdanfpejfplaaBitsKnown
import Derived.Test.YtjkdanfpejfplaaBitsMath3
namespace Go.Proofs.Ytjkdanfpejfplaa
set_option linter.unusedVariables false
set_option linter.unusedSimpArgs false
open Go.ChangeShapes Go.WideShapes Go.ChangeAt Go.RowKit

theorem row_one (w : World) (g : Nat) (x : Int) (h0 : w.cell? ⟨g, 0, none⟩ = some (.int .i64 x)) : RowOf .i64 w (g + 1) (some ⟨g, 0, none⟩) [x] := by
  intro i z hz
  match i, hz with
  | 0, hz => simp at hz; subst hz; exact ⟨g, 0, rfl, by omega, h0⟩
/-- The numbers that the law makes of its choices. -/
def low (l : List Int) (k : Nat) : List Int := (l.take k).map fun y => y % 64
theorem low_more {l : List Int} {k : Nat} {y : Int} (h : l[k]? = some y) : low l (k + 1) = low l k ++ [y % 64] := by
  unfold low; rw [take_more h]; simp
theorem low_len (l : List Int) (k : Nat) (h : k ≤ l.length) : (low l k).length = k := by unfold low; simp; omega
theorem low_all (l : List Int) (x : Int) : x ∈ low l.reverse l.length ↔ x ∈ low l l.length := by
  unfold low
  rw [List.take_of_length_le (by simp), List.take_of_length_le (Nat.le_refl _)]
  simp
theorem put_same (s : Nat) (l m : List Int) (h : ∀ x, x ∈ l ↔ x ∈ m) : putN s l = putN s m := by
  apply Nat.eq_of_testBit_eq
  intro i
  rw [putN_bit, putN_bit]
  have : decide ((i : Int) ∈ l) = decide ((i : Int) ∈ m) := by simp [h]
  rw [this]
theorem cut_put (s : Nat) (l : List Int) (hs : s < U) : cutN (putN s l) l = cutN s l := by
  apply Nat.eq_of_testBit_eq
  intro i
  rw [cutN_bit _ _ _ (putN_lt _ _ hs), cutN_bit _ _ _ hs, putN_bit]
  by_cases h : (i : Int) ∈ l <;> simp [h]

/-- Two rows of the call's own lie in two blocks. -/
def Apart (v b : Value) : Prop := v.ownBlock = none ∨ v.ownBlock ≠ b.ownBlock
theorem Apart.symm {v b : Value} (h : Apart v b) : Apart b v := by
  rcases h with h | h
  · by_cases e : b.ownBlock = none
    · exact .inl e
    · exact .inr (fun h2 => e (h2.trans h))
  · exact .inr (fun e => h e.symm)
theorem own_lt {w : World} {base : Nat} {e : TypeId} {v : Value} {n : Nat} {xs : List Value} (h : w.ownsRow base e 1 v n xs) : ∀ g, v.ownBlock = some g → g < w.heap.size := by
  intro g hg
  rcases h.2 with ⟨rfl, _⟩ | ⟨g', cap, cur, rfl, _, hh, _⟩
  · simp [Value.ownBlock] at hg
  · obtain rfl : g' = g := by simpa [Value.ownBlock] using hg
    exact (Array.getElem?_eq_some_iff.1 hh).1
theorem rows_append {w wr w1 : World} {e : TypeId} {v v' b : Value} {n m : Nat} {xs ys : List Value} {o : Obj} (hB : Below w.heap.size w wr) (hv : wr.ownsRow w.heap.size e 1 v n xs) (hb : wr.ownsRow w.heap.size e 1 b m ys) (hs : Apart v b)
    (hg : (wr.alloc o).grownBy w1 v.ownBlock) (hat : v'.ownBlock = v.ownBlock ∨ v'.ownBlock = some (wr.alloc o).heap.size) :
    w1.ownsRow w.heap.size e 1 b m ys ∧ Apart v' b ∧ Below w.heap.size w w1 := by
  refine ⟨(hb.alloc o).kept hg hs.symm, ?_, append_below hB hv hg⟩
  rcases hat with h | h
  · unfold Apart; rw [h]; exact hs
  · refine .inr (fun e => ?_)
    rw [h] at e
    have := own_lt hb _ e.symm
    simp at this; omega

set_option maxHeartbeats 2000000 in
theorem bitsTwo_over (a0 : Int) (a1 : Option Addr) (len1 cap1 : Nat) (w : World) (h : 100 < len1) :
    Calls Try.prog 3 #[.int .u64 a0, .slice a1 len1 cap1] w fun e w' => e = .returned (.bool true) ∧ Below w.heap.size w w' := by
  have hd : decide ((100 : Int) < (len1 : Int)) = true := by simp; omega
  go_enter Try.func3, Try.ntmps3
  go_wp2_with (go_at_call 11; refine (known_any _).mono ?_; rintro e w1 ⟨rfl, hB1⟩)
  go_ret
  exact ⟨rfl, hB1⟩

set_option maxHeartbeats 4000000 in
theorem bitsTwo_in (s : Nat) (a1 : Option Addr) (cap1 : Nat) (l : List Int) (w : World) (hs : s < U)
    (hr : RowOf .u8 w w.heap.size a1 l) (hf : ∀ n ∈ l, (Lit.int .u8 n).wf = true) (hl : l.length ≤ 100) :
    Calls Try.prog 3 #[.int .u64 s, .slice a1 l.length cap1] w fun e w' => e = .returned (.bool true) ∧ Below w.heap.size w w' := by
  obtain ⟨i0, hi, hz0, hz1, hz2⟩ := info_parts info_int
  have HF := Lib.hid hf
  clear hf
  have hd : decide ((100 : Int) < (l.length : Int)) = false := by simp; omega
  go_enter Try.func3, Try.ntmps3
  go_wp2_with (go_at_call 11; refine (known_any _).mono ?_; rintro e w1 ⟨rfl, hB1⟩)
  go_loopw [5, 6, 7, 8] (fun v b x i wr => ∃ k A : Nat, k ≤ l.length ∧ i = .int .i64 k ∧ x = .int .u64 A ∧ Hid (A = putN s (low l k)) ∧ wr.ownsRow w.heap.size 3 1 v k ((low l k).map (Value.int .i64)) ∧ wr.ownsRow w.heap.size 3 1 b k ((low l.reverse k).map (Value.int .i64)) ∧ Apart v b ∧ Below w.heap.size w wr) (fun _ _ _ i _ => l.length - (intOf i).toNat)
  case atStart => exact ⟨0, s, Nat.zero_le _, rfl, rfl, Lib.hid rfl, World.ownsRow_nil _ _ _ _, World.ownsRow_nil _ _ _ _, .inl rfl, hB1⟩
  case round =>
    obtain ⟨k, A, hk, rfl, rfl, HA, hrow, hrowb, hap, hB⟩ := hrel
    by_cases hlt : k < l.length
    · obtain ⟨y, hy⟩ := at_len hlt
      obtain ⟨z, hz⟩ := at_len (l := l) (k := l.length - 1 - k) (by omega)
      have hz' : l.reverse[k]? = some z := by rw [List.getElem?_reverse hlt]; exact hz
      obtain ⟨b1, off, rfl, hb1, hc⟩ := (hr.below hB) k y hy
      obtain ⟨b2, off2, e2, hb2, hc2⟩ := (hr.below hB) _ z hz
      cases e2
      obtain ⟨y0, y1⟩ := bounds_u8 (HF.out y (List.mem_of_getElem? hy))
      obtain ⟨z0, z1⟩ := bounds_u8 (HF.out z (List.mem_of_getElem? hz))
      have hU : A < U := by rw [HA.out]; exact putN_lt _ _ hs
      have HX := Lib.hid (low_more hy)
      have HZ := Lib.hid (low_more hz')
      clear hy hz hz'
      have hcw := ((hB.cell (p := ⟨b1, off + k, none⟩) hb1).symm.trans hc)
      have hzw := ((hB.cell (p := ⟨b1, off + (l.length - 1 - k), none⟩) hb1).symm.trans hc2)
      have HC := Lib.hid hcw
      have HD := Lib.hid hzw
      clear hcw hzw hc2
      have HU := Lib.hid (show putN A [y % 64] = putN s (low l (k + 1)) by rw [HX.out, putN_snoc, HA.out]; rfl)
      go_wp2_with (first
        | (at_builtin; refine wpList_append_own_at _ rfl (.tmp 24) (.tmp 31) 25 rfl w.heap.size 3 i0 (.int .i64 0) 1 8 Try.underlying25 hi hz0 hz1 hz2 rfl (by decide) _ _ _ rfl (hrow.alloc _) ⟨wr.heap.size, 0, none⟩ 1 1 [.int .i64 (y % 64)] rfl rfl (cell_one_new _ _ _) (by simp [Value.oneCell']) (by unfold maxLen; omega) (by omega) (by have := hB.size; simp; omega) ?_; intro v' w2 hown2 hgrow2 _ hat2; obtain ⟨hrowb2, hap2, hB2⟩ := rows_append hB hrow hrowb hap hgrow2 hat2; have hc3 := (hB2.cell (p := ⟨b1, off + (l.length - 1 - k), none⟩) hb1).trans HD.out; clear hc hgrow2 hat2)
        | (at_builtin; refine wpList_append_own_at _ rfl (.tmp 33) (.tmp 44) 25 rfl w.heap.size 3 i0 (.int .i64 0) 1 8 Try.underlying25 hi hz0 hz1 hz2 rfl (by decide) _ _ _ rfl (hrowb2.alloc _) ⟨w2.heap.size, 0, none⟩ 1 1 [.int .i64 (z % 64)] rfl rfl (cell_one_new _ _ _) (by simp [Value.oneCell']) (by unfold maxLen; omega) (by omega) (by have := hB2.size; simp; omega) ?_; intro b' w3 hown3 hgrow3 _ hat3; obtain ⟨hrow3, hap3, hB3⟩ := rows_append hB2 hrowb2 hown2 hap2.symm hgrow3 hat3; have hc4 := (hB3.cell (p := ⟨b1, off + k, none⟩) hb1).trans HC.out; clear hc3 hgrow3 hat3)
        | (go_at_call 12; refine (with_any A _ _ [y % 64] _ _ hU (row_one _ _ _ (by simp)) (by simp)).mono ?_; rintro e w4 ⟨rfl, rfl⟩))
      go_roundw
      case rel => exact ⟨k + 1, _, by omega, by go_num, rfl, Lib.hid HU.out, by rw [HX.out]; simpa using hrow3.alloc _, by rw [HZ.out]; simpa using hown3.alloc _, hap3.symm, below_new hB3 _⟩
      case measure => simp [intOf]; omega
    · obtain rfl : k = l.length := by omega
      have hpl := low_len l l.length (Nat.le_refl _)
      obtain ⟨a3, cap3, rfl, e3, hr3⟩ := RowOf.own hrow
      obtain ⟨a4, cap4, rfl, e4, hr4⟩ := RowOf.own hrowb
      clear hrow hrowb hap
      have hU : A < U := by rw [HA.out]; exact putN_lt _ _ hs
      have HS := Lib.hid (show putN s (low l.reverse l.length) = A by rw [HA.out]; exact put_same _ _ _ (low_all l))
      have HT := Lib.hid (show cutN A (low l l.length) = cutN s (low l l.length) by rw [HA.out]; exact cut_put _ _ hs)
      generalize low l l.length = l3 at *
      generalize low l.reverse l.length = l4 at *
      have hl3 : l3.length ≤ 100 := by omega
      have hl4 : l4.length ≤ 100 := by omega
      have E3 := Lib.hid e3
      have E4 := Lib.hid e4
      clear e3 e4
      have c1 := with_any s a3 cap3 l3 _ _ hs hr3 (by omega)
      have c2 := with_any s a4 cap4 l4 _ _ hs hr4 (by omega)
      have c3 := without_any A a3 cap3 l3 _ _ hU hr3 (by omega)
      have c4 := without_any s a3 cap3 l3 _ _ hs hr3 (by omega)
      rw [← E3.out] at c1 c3 c4
      rw [← E4.out, HS.out] at c2
      rw [HT.out] at c3
      rw [← HA.out] at c1
      have C1 := Lib.hid c1
      have C2 := Lib.hid c2
      have C3 := Lib.hid c3
      have C4 := Lib.hid c4
      clear c1 c2 c3 c4
      go_wp2_with fail
      refine (C1.out).mono ?_
      rintro e u1 ⟨rfl, rfl⟩
      go_wp2_with fail
      refine (C2.out).mono ?_
      rintro e u2 ⟨rfl, rfl⟩
      go_wp2_with fail
      refine (C3.out).mono ?_
      rintro e u3 ⟨rfl, rfl⟩
      go_wp2_with fail
      refine (C4.out).mono ?_
      rintro e u4 ⟨rfl, rfl⟩
      go_wp2_with fail
      go_ret
      exact ⟨rfl, hB⟩

theorem bitsTwo_walk (a0 : Int) (a1 : Option Addr) (len1 cap1 : Nat) (l1 : List Int) (w : World)
    (w0 : (Lit.int .u64 a0).wf = true) (w1 : SliceIn .u8 w a1 len1 cap1 l1) :
    Calls Try.prog 3 #[.int .u64 a0, .slice a1 len1 cap1] w fun e w' => e = .returned (.bool true) ∧ Below w.heap.size w w' := by
  by_cases h : 100 < len1
  · exact bitsTwo_over a0 a1 len1 cap1 w h
  · obtain ⟨s, rfl, hs⟩ := u64_in w0
    obtain ⟨rfl, _, _, hr1, hf⟩ := w1
    exact bitsTwo_in s a1 cap1 l1 w hs hr1 hf (by omega)

set_option maxRecDepth 100000 in
theorem bitsTwo_lifted (os : Os) (started : os.Started) (H : Type) (enc : TypeId × Value → H) :
    ReturnsInHanded {} Try.checked os 3 .any (Rows.bitsTwoSpec.pre6 enc Try.prog Try.f3 Rows.bitsTwoRow.domain false) (Rows.bitsTwoSpec.post enc Try.prog Try.f3 false true false false) := by
  refine returnsInHanded_of_change (C := Try.checked) law_own started (by kernel_rfl) Try.func3
    (ChangeSpec.witness6 (enc := enc) (C := Try.checked) false ⟨#[], #[.int .u64 0, .slice none 0 0], []⟩ 8 (by kernel_rfl) (by kernel_rfl) (by kernel_rfl) (by kernel_rfl)) ?_
  intro W base args ds gs before hval0 hW hcnd _
  have hval : ∀ (j : Nat) t v, Try.f3.params[j]? = some t → args[j]? = some v → Value.okWide Try.prog W .any base t v := hval0
  have hW' := hW
  obtain ⟨p, q, hA0, hV, rfl, hfz, hnd⟩ := hW
  have hA : DataW.TrodAll enc Try.prog W 0 (fun _ => true) true Try.f3.params.toList args.toList ds p := hA0
  rw [Try.params3] at hA hval
  obtain ⟨v0, vs0, d0, ds0, p0, q0, hargs, rfl, rfl, h0, r0⟩ := trodAll_cons hA
  obtain ⟨v1, vs1, d1, ds1, p1, q1, rfl, rfl, rfl, h1, r1⟩ := trodAll_cons r0
  obtain ⟨rfl, rfl, rfl⟩ := trodAll_nil r1
  obtain rfl : args = #[v0, v1] := by cases args; simp_all
  obtain ⟨rfl, rfl⟩ := trodVars_none hV
  obtain ⟨a0, rfl, rfl, rfl, w0⟩ := open_int Try.underlying22 (hval 0 22 v0 rfl rfl) h0
  obtain ⟨a1, len1, cap1, rfl⟩ := okWide_slice Try.underlying23 (hval 1 23 v1 rfl rfl)
  have k1 := h1
  have lt1 : ∀ x ∈ p1, x.block < W.heap.size := by obtain ⟨m, hm⟩ := k1; exact DataW.trod_lt m _ _ _ hm
  obtain ⟨l1, w1⟩ : ∃ l, SliceIn .u8 W a1 len1 cap1 l := by
    obtain ⟨fuel, hf⟩ := h1
    rcases open_ints Try.underlying23 Try.underlying5 (by kernel_rfl) hf with ⟨hcs, _⟩ | ⟨x, l, c, zs, hcs, _, hl, hm, hz, _, hcell, hwz⟩
    · simp [Value.cells] at hcs
      obtain ⟨rfl, rfl, rfl⟩ := hcs
      exact ⟨[], SliceIn.nil _ _⟩
    · simp [Value.cells] at hcs
      obtain ⟨rfl, rfl, rfl⟩ := hcs
      exact ⟨_, SliceIn.of hl hm (by simpa using hz) hcell hwz⟩
  clear hA0 hval0
  refine (bitsTwo_walk a0 a1 len1 cap1 l1 W w0 w1).mono fun e W' ⟨he, bel⟩ => ?_
  subst he
  exact ⟨_, rfl, _, _, _, [], _, [], hW', trodAll_mk1 (shut_bool Try.underlying4 _), (trodAll_cons_mk (shut_int Try.underlying22 w0) (trodAll_cons_mk (Below.trod law_laidOut (by kernel_rfl) (of_decide_eq_true (by kernel_rfl)) k1 bel lt1) trodAll_mk0)), rfl, bel.frame _, fun h => by cases h⟩

/-- The statement. -/
theorem bitsTwo_holds : Rows.BitsTwoSaid :=
  OpenClaim.holds_of_wide 3 Try.f3 rfl rfl rfl rfl rfl rfl rfl ⟨rfl, rfl, rfl, rfl, rfl⟩ rfl rfl rfl rfl rfl (by kernel_rfl) Try.func3 (by kernel_rfl)
    (of_decide_eq_true (by kernel_rfl)) (by unfold Func.isWrapper; first | (rw [if_pos (by decide +kernel)]; kernel_rfl) | (rw [if_neg (by decide +kernel)]; exact ⟨rfl, rfl⟩))
    (fun os started H enc _ => bitsTwo_lifted os started H enc)

end Go.Proofs.Ytjkdanfpejfplaa
