/- The document's Same: of results that tell the same. -/
import Derived.Test.YtfcfdneganknjaaPlayAll
namespace Go.Proofs.Ytfcfdneganknjaa
set_option linter.unusedVariables false
set_option linter.unusedSimpArgs false
set_option maxRecDepth 100000
open Go.ChangeShapes Go.WideShapes Go.ChangeAt Go.RowKit

set_option maxHeartbeats 2000000 in
theorem numbers5_yes (l : List Int) (a b : Option Addr) (ca cb : Nat) (w : World) (ha : RowOf .i64 w w.heap.size a l) (hb : RowOf .i64 w w.heap.size b l) (hl : l.length ≤ 1000000) :
    Calls Try.prog 28 #[.slice a l.length ca, .slice b l.length cb] w fun e w' => e = .returned (.bool true) ∧ Below w.heap.size w w' := by
  have HA := Lib.hid ha
  have HC := Lib.hid hb
  clear ha hb
  go_enter Try.func28, Try.ntmps28
  go_wp2
  go_loopw [5] (fun i wr => ∃ j : Nat, j ≤ l.length ∧ i = .int .i64 j ∧ Below w.heap.size w wr) (fun i _ => l.length - (intOf i).toNat)
  case atStart => exact ⟨0, Nat.zero_le _, rfl, Below.refl _ _⟩
  case round =>
    obtain ⟨j, hj, rfl, hB⟩ := hrel
    by_cases hlt : j < l.length
    · obtain ⟨x, hx⟩ := at_lt hlt
      obtain ⟨g, off, rfl, hg, hc⟩ := HA.out j x hx
      obtain ⟨g', off', rfl, hg', hc'⟩ := HC.out j x hx
      have d := (hB.cell (p := ⟨g, off + j, none⟩) hg).trans hc
      have d' := (hB.cell (p := ⟨g', off' + j, none⟩) hg').trans hc'
      clear hx hc hc'
      go_wp2_with fail
      go_quiet (fail)
      go_wp2
      go_roundw
      case rel => exact ⟨j + 1, by omega, by go_num, below_draws hB _⟩
      case measure => simp [intOf]; omega
    · obtain rfl : j = l.length := by omega
      go_wp2
      go_ret
      exact ⟨rfl, hB⟩
theorem Res.rowP {u : World} {pr pk : List Int} {tr : List EvD} {va ka xa : Option Addr} (h : Res u pr pk tr va ka xa) : RowOf .i64 u u.heap.size va pr := fun i x hx => by
  obtain ⟨g, e, q, c⟩ := h.prints i x hx
  exact ⟨g, 0, e, q, by simpa using c⟩

set_option maxHeartbeats 4000000 in
theorem same5_yes (pr pk : List Int) (tr : List EvD) (st : Int) (va ka xa va' ka' xa' : Option Addr) (vc kc xc vc' kc' xc' : Nat) (w : World) (ha : Res w pr pk tr va ka xa) (hb : Res w pr pk tr va' ka' xa') (h1 : pr.length ≤ 1000000) (h2 : pk.length ≤ 1000000) (h3 : tr.length ≤ 1000000) :
    Calls Try.prog 18 #[.agg #[.slice va pr.length vc, .int .u8 st, .slice ka pk.length kc, .slice xa tr.length xc], .agg #[.slice va' pr.length vc', .int .u8 st, .slice ka' pk.length kc', .slice xa' tr.length xc']] w fun e w' => e = .returned (.bool true) ∧ Below w.heap.size w w' := by
  go_enter Try.func18, Try.ntmps18
  go_wp2_with fail
  generalize hU : World.alloc (World.alloc w _) _ = U
  have hBU : Below w.heap.size w U := by rw [← hU]; exact below_two _ _ _
  have n1 := (congrArg (fun x : World => x.heap[w.heap.size]?) hU).symm.trans ((Below.heap_alloc _ _ _ (by simp)).trans (heap_alloc_new _ _))
  have n2 := (congrArg (fun x : World => x.heap[w.heap.size + 1]?) hU).symm.trans (heap_alloc2_new _ _ _)
  obtain ⟨a0, a1, a2, a3⟩ := cells4 n1
  obtain ⟨b0, b1, b2, b3⟩ := cells4 n2
  have HA := Lib.hid (ha.later hBU)
  have HC := Lib.hid (hb.later hBU)
  have HB := Lib.hid hBU
  have HN1 := Lib.hid n1
  have HN2 := Lib.hid n2
  clear hU hBU ha hb n1 n2
  refine (numbers5_yes pr va va' vc vc' U HA.out.rowP HC.out.rowP h1).mono ?_
  rintro e w1 ⟨rfl, hB1⟩
  obtain ⟨c0, c1, c2, c3⟩ := keep4 ⟨a0, a1, a2, a3⟩ hB1
  obtain ⟨d0, d1, d2, d3⟩ := keep4 ⟨b0, b1, b2, b3⟩ hB1
  have HA1 := Lib.hid (HA.out.later hB1)
  have HC1 := Lib.hid (HC.out.later hB1)
  have HB1 := Lib.hid (below_next HB.out hB1)
  clear hB1 a0 a1 a2 a3 b0 b1 b2 b3
  go_wp2_with (first
    | (go_at_call 28; refine (numbers5_yes pk ka ka' kc kc' w1 HA1.out.row HC1.out.row h2).mono ?_; rintro e w2 ⟨rfl, hB2⟩; obtain ⟨a0, a1, a2, a3⟩ := keep4 ⟨c0, c1, c2, c3⟩ hB2; obtain ⟨b0, b1, b2, b3⟩ := keep4 ⟨d0, d1, d2, d3⟩ hB2; have HA2 := Lib.hid (HA1.out.later hB2); have HC2 := Lib.hid (HC1.out.later hB2); have HB2 := Lib.hid (below_next HB1.out hB2); clear hB2 c0 c1 c2 c3 d0 d1 d2 d3))
  have K1 := Lib.hid (And.intro a0 (And.intro a1 (And.intro a2 a3)))
  have K2 := Lib.hid (And.intro b0 (And.intro b1 (And.intro b2 b3)))
  clear a0 a1 a2 a3 b0 b1 b2 b3
  go_loopw [5] (fun i wr => ∃ j : Nat, j ≤ tr.length ∧ i = .int .i64 j ∧ Below w2.heap.size w2 wr) (fun i _ => tr.length - (intOf i).toNat)
  case atStart => exact ⟨0, Nat.zero_le _, rfl, Below.refl _ _⟩
  case round =>
    obtain ⟨j, hj, rfl, hB⟩ := hrel
    obtain ⟨a0, a1, a2, a3⟩ := keep4 K1.out hB
    obtain ⟨b0, b1, b2, b3⟩ := keep4 K2.out hB
    by_cases hlt : j < tr.length
    · obtain ⟨x, hx⟩ := at_lt hlt
      obtain ⟨g, rfl, hg, hE⟩ := HA2.out.trace j x hx
      obtain ⟨g', rfl, hg', hE'⟩ := HC2.out.trace j x hx
      obtain ⟨x0, x1, x2, x3, x4, x5⟩ := hE.later hB
      obtain ⟨y0, y1, y2, y3, y4, y5⟩ := hE'.later hB
      clear hx hE hE'
      go_wp2_with fail
      go_quiet (fail)
      go_wp2
      go_roundw
      case rel => exact ⟨j + 1, by omega, by go_num, below_draws hB _⟩
      case measure => simp [intOf]; omega
    · obtain rfl : j = tr.length := by omega
      go_wp2
      go_ret
      exact ⟨rfl, below_next HB2.out hB⟩
/-- A program of choices in its box; a result in its box. -/
abbrev pbO (ca ta : Option Addr) (n tcap : Nat) : Obj := .cells #[.int .i64 2, .int .i64 1, .int .i64 1, .slice ca 1 1, .int .i64 1, .int .i64 1, .slice ta n tcap] 26
abbrev rsO (va : Option Addr) (vn vc : Nat) (st : Int) (ka : Option Addr) (kn kc : Nat) (xa : Option Addr) (xn xc : Nat) : Obj := .cells #[.slice va vn vc, .int .u8 st, .slice ka kn kc, .slice xa xn xc] 31
theorem old_alloc {u : World} {g : Nat} {o : Obj} (h : u.heap[g]? = some o) (o' : Obj) : (u.alloc o').heap[g]? = some o := (Below.heap_alloc _ _ _ (Array.getElem?_eq_some_iff.1 h).1).trans h
theorem old_later {u u' : World} {g : Nat} {o : Obj} (h : u.heap[g]? = some o) (hB : Below u.heap.size u u') : u'.heap[g]? = some o := (hB.block _ (Array.getElem?_eq_some_iff.1 h).1).trans h
theorem made_runB {u : World} {cs : List (List InsD)} {ca ta : Option Addr} {tcap : Nat} (hP : ProgIn u u.heap.size (madeD cs) ca ta) (hs : soundE (madeD cs) = 0) {a : Option Addr} (cap : Nat) {ps : List Int} (hps : RowOf .i64 u u.heap.size a ps) (hl : ps.length ≤ 2000) :
    Calls Try.prog 12 #[.agg #[.int .i64 2, .int .i64 1, .int .i64 1, .slice ca 1 1, .int .i64 1, .int .i64 1, .slice ta cs.length tcap], .slice a ps.length cap] u fun e w' => ∃ va vc ka kc xa xc, e = .returned (.tuple #[.agg #[.slice va (runT cs ps (newM [1])).length vc, .int .u8 (statusM cs (runM cs ps (newM [1]))), .slice ka (pkM cs ps (newM [1])).length kc, .slice xa (trM cs ps (newM [1])).length xc], .int .u16 0]) ∧ ResIn w' u.heap.size (runT cs ps (newM [1])) (pkM cs ps (newM [1])) (trM cs ps (newM [1])) (.slice va (runT cs ps (newM [1])).length vc) (.slice ka (pkM cs ps (newM [1])).length kc) (.slice xa (trM cs ps (newM [1])).length xc) ∧ Below u.heap.size u w' := by
  refine (run_yes (madeD cs) ca 1 ta tcap a cap ps u hP hs hps hl).mono ?_
  rintro e w' ⟨pv, kv, tv, rfl, hres, hB⟩
  obtain ⟨va, vc, rfl⟩ := st_slice hres.1
  obtain ⟨ka, kc, rfl⟩ := st_slice hres.2.1
  obtain ⟨xa, xc, rfl⟩ := st_slice hres.2.2
  exact ⟨va, vc, ka, kc, xa, xc, rfl, hres, hB⟩
theorem ResIn.res' {u : World} {base : Nat} {pr pk : List Int} {tr : List EvD} {va ka xa : Option Addr} {vc kc xc : Nat} (h : ResIn u base pr pk tr (.slice va pr.length vc) (.slice ka pk.length kc) (.slice xa tr.length xc)) : Res u pr pk tr va ka xa := by
  obtain ⟨va', vc', ka', kc', xa', xc', e1, e2, e3, hR⟩ := h.res
  cases e1; cases e2; cases e3
  exact hR
theorem keepB {u u' : World} {g : Nat} {v0 v1 v2 v3 v4 v5 v6 : Value} (k : u.cell? ⟨g, 0, none⟩ = some v0 ∧ u.cell? ⟨g, 1, none⟩ = some v1 ∧ u.cell? ⟨g, 2, none⟩ = some v2 ∧ u.cell? ⟨g, 3, none⟩ = some v3 ∧ u.cell? ⟨g, 4, none⟩ = some v4 ∧ u.cell? ⟨g, 5, none⟩ = some v5 ∧ u.cell? ⟨g, 6, none⟩ = some v6) (hB : Below u.heap.size u u') : u'.cell? ⟨g, 0, none⟩ = some v0 ∧ u'.cell? ⟨g, 1, none⟩ = some v1 ∧ u'.cell? ⟨g, 2, none⟩ = some v2 ∧ u'.cell? ⟨g, 3, none⟩ = some v3 ∧ u'.cell? ⟨g, 4, none⟩ = some v4 ∧ u'.cell? ⟨g, 5, none⟩ = some v5 ∧ u'.cell? ⟨g, 6, none⟩ = some v6 :=
  have q : ∀ {i : Nat} {v : Value}, u.cell? ⟨g, i, none⟩ = some v → u'.cell? ⟨g, i, none⟩ = some v := fun {i v} h => (hB.cell (p := ⟨g, i, none⟩) (cell_lt h)).trans h
  ⟨q k.1, q k.2.1, q k.2.2.1, q k.2.2.2.1, q k.2.2.2.2.1, q k.2.2.2.2.2.1, q k.2.2.2.2.2.2⟩
theorem keepS4 {u : World} {g r : Nat} {v0 v1 v2 v3 v4 v5 v6 x0 x1 x2 x3 : Value} (hr : g ≠ r) (k : u.cell? ⟨g, 0, none⟩ = some v0 ∧ u.cell? ⟨g, 1, none⟩ = some v1 ∧ u.cell? ⟨g, 2, none⟩ = some v2 ∧ u.cell? ⟨g, 3, none⟩ = some v3 ∧ u.cell? ⟨g, 4, none⟩ = some v4 ∧ u.cell? ⟨g, 5, none⟩ = some v5 ∧ u.cell? ⟨g, 6, none⟩ = some v6) :
    ((((u.setCell ⟨r, 0, none⟩ x0).setCell ⟨r, 1, none⟩ x1).setCell ⟨r, 2, none⟩ x2).setCell ⟨r, 3, none⟩ x3).cell? ⟨g, 0, none⟩ = some v0 ∧ ((((u.setCell ⟨r, 0, none⟩ x0).setCell ⟨r, 1, none⟩ x1).setCell ⟨r, 2, none⟩ x2).setCell ⟨r, 3, none⟩ x3).cell? ⟨g, 1, none⟩ = some v1 ∧ ((((u.setCell ⟨r, 0, none⟩ x0).setCell ⟨r, 1, none⟩ x1).setCell ⟨r, 2, none⟩ x2).setCell ⟨r, 3, none⟩ x3).cell? ⟨g, 2, none⟩ = some v2 ∧ ((((u.setCell ⟨r, 0, none⟩ x0).setCell ⟨r, 1, none⟩ x1).setCell ⟨r, 2, none⟩ x2).setCell ⟨r, 3, none⟩ x3).cell? ⟨g, 3, none⟩ = some v3 ∧ ((((u.setCell ⟨r, 0, none⟩ x0).setCell ⟨r, 1, none⟩ x1).setCell ⟨r, 2, none⟩ x2).setCell ⟨r, 3, none⟩ x3).cell? ⟨g, 4, none⟩ = some v4 ∧ ((((u.setCell ⟨r, 0, none⟩ x0).setCell ⟨r, 1, none⟩ x1).setCell ⟨r, 2, none⟩ x2).setCell ⟨r, 3, none⟩ x3).cell? ⟨g, 5, none⟩ = some v5 ∧ ((((u.setCell ⟨r, 0, none⟩ x0).setCell ⟨r, 1, none⟩ x1).setCell ⟨r, 2, none⟩ x2).setCell ⟨r, 3, none⟩ x3).cell? ⟨g, 6, none⟩ = some v6 := by
  have hk : ((((u.setCell ⟨r, 0, none⟩ x0).setCell ⟨r, 1, none⟩ x1).setCell ⟨r, 2, none⟩ x2).setCell ⟨r, 3, none⟩ x3).heap[g]? = u.heap[g]? := by
    rw [Below.heap_setCell _ _ _ _ hr, Below.heap_setCell _ _ _ _ hr, Below.heap_setCell _ _ _ _ hr, Below.heap_setCell _ _ _ _ hr]
  have q : ∀ {i : Nat} {v : Value}, u.cell? ⟨g, i, none⟩ = some v → ((((u.setCell ⟨r, 0, none⟩ x0).setCell ⟨r, 1, none⟩ x1).setCell ⟨r, 2, none⟩ x2).setCell ⟨r, 3, none⟩ x3).cell? ⟨g, i, none⟩ = some v := fun {i v} h => (World.cell?_of_block (a := ⟨g, i, none⟩) hk).trans h
  exact ⟨q k.1, q k.2.1, q k.2.2.1, q k.2.2.2.1, q k.2.2.2.2.1, q k.2.2.2.2.2.1, q k.2.2.2.2.2.2⟩
theorem RowOf.up {k : IntKind} {w w' : World} {a : Option Addr} {l : List Int} (h : RowOf k w w.heap.size a l) (hB : Below w.heap.size w w') : RowOf k w' w'.heap.size a l := (h.later hB).wide hB.size
theorem heap_set4 {u : World} {g r : Nat} {x0 x1 x2 x3 : Value} (hr : g ≠ r) : ((((u.setCell ⟨r, 0, none⟩ x0).setCell ⟨r, 1, none⟩ x1).setCell ⟨r, 2, none⟩ x2).setCell ⟨r, 3, none⟩ x3).heap[g]? = u.heap[g]? := by
  rw [Below.heap_setCell _ _ _ _ hr, Below.heap_setCell _ _ _ _ hr, Below.heap_setCell _ _ _ _ hr, Below.heap_setCell _ _ _ _ hr]
theorem size_set4 {u : World} {r : Nat} {x0 x1 x2 x3 : Value} : ((((u.setCell ⟨r, 0, none⟩ x0).setCell ⟨r, 1, none⟩ x1).setCell ⟨r, 2, none⟩ x2).setCell ⟨r, 3, none⟩ x3).heap.size = u.heap.size := by
  rw [size_setCell, size_setCell, size_setCell, size_setCell]
end Go.Proofs.Ytfcfdneganknjaa
