/- What the laws' own making of a program ('Make') returns, for every choice: a program that may be, of rows of its own. -/
import Derived.Test.YtfcfdneganknjaaOwnKit
import Derived.Test.YtfcfdneganknjaaIrInsAny
import Derived.Deep.DeepCutAuto
import Derived.Deep.RegionHeld3
namespace Go.Proofs.Ytfcfdneganknjaa
set_option linter.unusedVariables false
set_option linter.unusedSimpArgs false
open Go.RowKit

/-- Rows of bytes that came in. -/
def BytesIn (w : World) (B : Nat) (a : Option Addr) (rows : List (List Int)) : Prop :=
  ∀ (k : Nat) (r : List Int), rows[k]? = some r → ∃ b off, a = some ⟨b, off, none⟩ ∧ b < B ∧ ∃ a' cap', w.cell? ⟨b, off + k, none⟩ = some (.slice a' r.length cap') ∧ RowOf .u8 w B a' r ∧ (∀ n ∈ r, 0 ≤ n ∧ n < 256) ∧ r.length ≤ 9223372036854775807
theorem BytesIn.below {w w' : World} {B : Nat} {a : Option Addr} {rows : List (List Int)} (h : BytesIn w B a rows) (hB : Below B w w') : BytesIn w' B a rows := fun k r hr => by
  obtain ⟨b, off, h1, h2, a', cap', h3, h4, h5⟩ := h k r hr
  exact ⟨b, off, h1, h2, a', cap', (hB.cell (p := ⟨b, off + k, none⟩) h2).trans h3, h4.below hB, h5⟩

/-- Instructions of a thread that may be: those of choices, and those that begin another of n threads. -/
def GoodIns (n : Nat) (m : Int) (x : InsD) : Prop := InsOK m x ∨ ∃ k : Int, x = ⟨12, k, 0, 0⟩ ∧ 1 ≤ k ∧ k < n
def GoodCode (n : Nat) (c : List InsD) : Prop := c.length ≤ 11 ∧ ∀ x ∈ c, GoodIns n c.length x

/-- An append at an operation of a region that draws its order. -/
theorem wp_append_own_at {P : Program} (w : World) {o : Oper} {a : Act} {K : Act → World → Prop} {Q : Exit → Act → World → Prop} (s x : Operand) (t : TypeId)
    (ho : o.op = .call { callee := .builtin .append, args := #[s, x], argTypes := #[t, t] })
    (base : Nat) (e : TypeId) (i : TypeInfo) (z : Value) (size bytes : Nat) (ht : P.underlying t = some (.slice e)) (hi : P.info? e = some i) (hz : i.zero = some z)
    (hsize : i.size = size) (hby : i.bytes = bytes) (hzs : z.cells.size = size) (hsz : 0 < size)
    (v : Value) (n : Nat) (xs : List Value) (hs : a.eval s = v) (hown : w.ownsRow base e size v n xs)
    (ad : Addr) (m c : Nat) (news : List Value) (hx : a.eval x = .slice (some ad) m c) (hl : news.length = m * size) (hnews : ∀ j u, news[j]? = some u → w.cell? (ad.add j) = some u) (h1 : ∀ u ∈ news, u.oneCell' = true)
    (h63 : n + m ≤ maxLen) (hbytes : (n + m) * bytes ≤ 140737488355328) (hbase : base ≤ w.heap.size)
    (h : ∀ v' w', w'.ownsRow base e size v' (n + m) (xs ++ news) → w.grownBy w' v.ownBlock → (v' = .slice none 0 0 ↔ v = .slice none 0 0 ∧ m = 0) → (v'.ownBlock = v.ownBlock ∨ v'.ownBlock = some w.heap.size) → K (a.put o.dst v') w') : o.wp P a w K Q := by
  obtain ⟨v', w', hr, h2, h3, h4, h5⟩ := run_append_own_at (P := P) w base t o.type e i z size bytes ht hi hz hsize hby hzs hsz v n xs hown ad m c news hl hnews h1 h63 hbytes hbase
  unfold Oper.wp execOp
  simp only [ho, resolve, invoke, builtin, Sem.run_bind, Sem.run_pure, Result.andThen_ok, List.map_toArray, List.map_cons, List.map_nil, hs, hx, hr]
  exact h v' w' h2 h3 h4 h5

theorem info_insT : (Try.prog.info? 54).map (fun i => (i.zero, i.size, i.bytes)) = some (some (.agg #[.int .u8 0, .int .i64 0, .int .i64 0, .int .i64 0]), 4, 32) := by kernel_rfl
theorem info_codeT : (Try.prog.info? 45).map (fun i => (i.zero, i.size, i.bytes)) = some (some (.slice none 0 0), 1, 24) := by kernel_rfl
/-- One instruction that was laid to be appended. -/
theorem cells_ins_new (w : World) (x : InsD) (t : TypeId) : ∀ j u, (insCells x)[j]? = some u → (w.alloc (.cells #[.int .u8 x.op, .int .i64 x.a, .int .i64 x.b, .int .i64 x.c] t)).cell? ((⟨w.heap.size, 0, none⟩ : Addr).add j) = some u := by
  intro j u hj
  rw [Addr.add_mid, Nat.zero_add, cell_of_row _ _ _ _ _ _ (heap_alloc_new _ _)]
  simpa [insCells] using hj

/-- What lies while a program is being made: the result's box, the channels' row, the program's box, and the threads that are made. -/
structure MakeSt (w u : World) (tv : Value) (vs : List Value) (cs : List (List InsD)) : Prop where
  own : OwnThreads u (w.heap.size + 3) tv vs cs
  box : u.heap[w.heap.size + 1 + 1]? = some (.cells #[.int .i64 2, .int .i64 1, .int .i64 1, .slice (some ⟨w.heap.size + 1, 0, none⟩) 1 1, .int .i64 1, .int .i64 1, tv] 26)
  chn : u.heap[w.heap.size + 1]? = some (.cells #[.int .i64 1] 3)
  res : u.heap[w.heap.size]? = some (.cells #[.int .i64 0, .int .i64 0, .int .i64 0, .slice none 0 0, .int .i64 0, .int .i64 0, .slice none 0 0] 26)
  bel : Below w.heap.size w u
  siz : w.heap.size + 3 ≤ u.heap.size
theorem MakeSt.later {w u u' : World} {tv : Value} {vs : List Value} {cs : List (List InsD)} (h : MakeSt w u tv vs cs) (hB : Below u.heap.size u u') : MakeSt w u' tv vs cs := by
  have hs := h.siz
  exact ⟨h.own.later hB, (hB.block _ (by omega)).trans h.box, (hB.block _ (by omega)).trans h.chn, (hB.block _ (by omega)).trans h.res, h.bel.trans (hB.mono (by omega)), Nat.le_trans hs hB.size⟩
theorem MakeSt.beside {w u u' : World} {tv v : Value} {vs : List Value} {cs : List (List InsD)} {e : TypeId} {s n : Nat} {xs : List Value} (h : MakeSt w u tv vs cs) (hv : u.ownsRow (w.heap.size + 3) e s v n xs) (hg : u.grownBy u' v.ownBlock) (hT : Apart tv v) (hV : ∀ (k : Nat) (b : Value), vs[k]? = some b → Apart b v) : MakeSt w u' tv vs cs := by
  have hs := h.siz
  have hne : ∀ k, k < w.heap.size + 3 → some k ≠ v.ownBlock := fun k hk e => by have := (own_lt hv k e.symm).2; omega
  exact ⟨h.own.beside hg hT hV, (hg.block _ (by omega) (hne _ (by omega))).trans h.box, (hg.block _ (by omega) (hne _ (by omega))).trans h.chn, (hg.block _ (by omega) (hne _ (by omega))).trans h.res,
    h.bel.grown hg (by omega) (fun k e => by have := (own_lt hv k e).2; omega), Nat.le_trans hs hg.size⟩
/-- What is made. -/
def MadePost (w : World) (e : Ending) (w' : World) : Prop :=
  ∃ (cs : List (List InsD)) (vs : List Value) (tv : Value), e = .returned (.agg #[.int .i64 2, .int .i64 1, .int .i64 1, .slice (some ⟨w.heap.size + 1, 0, none⟩) 1 1, .int .i64 1, .int .i64 1, tv]) ∧
    OwnThreads w' (w.heap.size + 3) tv vs cs ∧ w'.heap[w.heap.size + 1]? = some (.cells #[.int .i64 1] 3) ∧ (1 ≤ cs.length ∧ cs.length ≤ 3) ∧ (∀ c ∈ cs, GoodCode cs.length c) ∧ Below w.heap.size w w'

theorem thr_one {u : World} {base : Nat} {e : TypeId} {v : Value} {n : Nat} {xs : List Value} (h : u.ownsRow base e 1 v n xs) : v.oneCell' = true := by
  rcases h.2 with ⟨rfl, _⟩ | ⟨g, cap, cur, rfl, _⟩ <;> rfl
theorem prog_one {a : Option Addr} {tv : Value} (h : tv.oneCell' = true) : (#[.int .i64 2, .int .i64 1, .int .i64 1, .slice a 1 1, .int .i64 1, .int .i64 1, tv] : Array Value).all (·.oneCell') = true := by
  have h' := h
  simp only [List.all_toArray, List.all_cons, List.all_nil, h', Bool.and_true]
  rfl
theorem own_row {u : World} {base : Nat} {e : TypeId} {s : Nat} {v : Value} {n : Nat} {xs : List Value} (h : u.ownsRow base e s v n xs) {g : Nat} (hg : g < base) (cs : Array Value) : (u.setRow g cs).ownsRow base e s v n xs := by
  refine ⟨h.1, ?_⟩
  rcases h.2 with h2 | ⟨g', cap, cur, rfl, hb, hh, hr⟩
  · exact .inl h2
  · exact .inr ⟨g', cap, cur, rfl, hb, (setRow_other _ _ _ _ (by omega)).trans hh, hr⟩
theorem OwnThreads.row {u : World} {base : Nat} {tv : Value} {vs : List Value} {cs : List (List InsD)} (h : OwnThreads u base tv vs cs) {g : Nat} (hg : g < base) (r : Array Value) : OwnThreads (u.setRow g r) base tv vs cs :=
  ⟨h.len, own_row h.thr hg r, fun k v c hv hc => own_row (h.code k v c hv hc) hg r, h.apartT, h.apartV⟩

/-- The instructions that begin threads. -/
def GoIns (n : Nat) (x : InsD) : Prop := ∃ k : Int, x = ⟨12, k, 0, 0⟩ ∧ 1 ≤ k ∧ k < n

/-- What lies while a thread is being made: its row beside all else. -/
structure CodeSt (w u : World) (tv : Value) (vs : List Value) (cs : List (List InsD)) (v : Value) (c : List InsD) : Prop where
  st : MakeSt w u tv vs cs
  row : u.ownsRow (w.heap.size + 3) 54 4 v c.length (codeCells c)
  apT : Apart tv v
  apV : ∀ (i : Nat) (b : Value), vs[i]? = some b → Apart b v
theorem CodeSt.later {w u u' : World} {tv v : Value} {vs : List Value} {cs : List (List InsD)} {c : List InsD} (h : CodeSt w u tv vs cs v c) (hB : Below u.heap.size u u') : CodeSt w u' tv vs cs v c :=
  ⟨h.st.later hB, own_later h.row hB, h.apT, h.apV⟩
/-- One instruction more. -/
theorem CodeSt.more {w u u' : World} {tv v v' : Value} {vs : List Value} {cs : List (List InsD)} {c : List InsD} {x : InsD} (h : CodeSt w u tv vs cs v c)
    (hown : u'.ownsRow (w.heap.size + 3) 54 4 v' (c.length + 1) (codeCells c ++ insCells x)) (hg : u.grownBy u' v.ownBlock) (hat : v'.ownBlock = v.ownBlock ∨ v'.ownBlock = some u.heap.size) : CodeSt w u' tv vs cs v' (c ++ [x]) := by
  refine ⟨h.st.beside h.row hg h.apT h.apV, ?_, apart_append h.st.own.thr h.apT hat, fun i b hb => ?_⟩
  · rw [codeCells_snoc, List.length_append]; exact hown
  · obtain ⟨d, _, hd⟩ := h.st.own.codeOf hb
    exact apart_append hd (h.apV i b hb) hat
/-- The outer loop's relation. -/
def Rel0 (w : World) (n : Nat) (i : Value) (u : World) : Prop :=
  ∃ (k : Nat) (cs : List (List InsD)) (vs : List Value) (tv : Value), k ≤ n ∧ i = .int .i64 k ∧ cs.length = k ∧ MakeSt w u tv vs cs ∧ ∀ c ∈ cs, GoodCode n c
/-- The first inner loop's. -/
def Rel1 (w : World) (n k : Nat) (tv : Value) (vs : List Value) (cs : List (List InsD)) (v j : Value) (u : World) : Prop :=
  ∃ (q : Nat) (c : List InsD), 1 ≤ q ∧ q ≤ n ∧ j = .int .i64 q ∧ CodeSt w u tv vs cs v c ∧ c.length = (if k = 0 then q - 1 else 0) ∧ ∀ x ∈ c, GoIns n x
/-- The second's. -/
def Rel2 (w : World) (n m h : Nat) (tv : Value) (vs : List Value) (cs : List (List InsD)) (v j : Value) (u : World) : Prop :=
  ∃ (q : Nat) (c : List InsD), q ≤ m ∧ j = .int .i64 q ∧ CodeSt w u tv vs cs v c ∧ c.length = h + q ∧ ∀ x ∈ c, GoodIns n ((h : Int) + m) x

theorem thr_one4 {u : World} {base : Nat} {e : TypeId} {s : Nat} {v : Value} {n : Nat} {xs : List Value} (h : u.ownsRow base e s v n xs) : v.oneCell' = true := by
  rcases h.2 with ⟨rfl, _⟩ | ⟨g, cap, cur, rfl, _⟩ <;> rfl
theorem OwnThreads.set {u : World} {base : Nat} {tv : Value} {vs : List Value} {cs : List (List InsD)} (h : OwnThreads u base tv vs cs) {p : Addr} (hp : p.block < base) (x : Value) : OwnThreads (u.setCell p x) base tv vs cs :=
  ⟨h.len, ownsRow_setCell_below h.thr hp x, fun k v c hv hc => ownsRow_setCell_below (h.code k v c hv hc) hp x, h.apartT, h.apartV⟩
/-- The thread that was made goes behind the others. -/
theorem MakeSt.push {w u u' : World} {tv tv' v : Value} {vs : List Value} {cs : List (List InsD)} {c : List InsD} (h : CodeSt w u tv vs cs v c)
    (hrow : u'.ownsRow (w.heap.size + 3) 45 1 tv' (vs.length + 1) (vs ++ [v])) (hg : u.grownBy u' tv.ownBlock) (hat : tv'.ownBlock = tv.ownBlock ∨ tv'.ownBlock = some u.heap.size) :
    u'.heap[w.heap.size + 1 + 1]? = some (.cells #[.int .i64 2, .int .i64 1, .int .i64 1, .slice (some ⟨w.heap.size + 1, 0, none⟩) 1 1, .int .i64 1, .int .i64 1, tv] 26) ∧
    MakeSt w (u'.setCell ⟨w.heap.size + 1 + 1, 6, none⟩ tv') tv' (vs ++ [v]) (cs ++ [c]) := by
  have hs := h.st.siz
  have hne : ∀ k, k < w.heap.size + 3 → some k ≠ tv.ownBlock := fun k hk e => by have := (own_lt h.st.own.thr k e.symm).2; omega
  have hbx := (hg.block _ (by omega) (hne _ (by omega))).trans h.st.box
  refine ⟨hbx, (h.st.own.snoc h.row h.apT.symm h.apV hrow hg hat).set (by show w.heap.size + 1 + 1 < _; omega) _, ?_, ?_, ?_, ?_, ?_⟩
  · rw [heap_setCell_same _ _ _ _ _ _ hbx]; rfl
  · rw [heap_setCell_other _ _ _ _ (by show w.heap.size + 1 ≠ w.heap.size + 1 + 1; omega)]; exact (hg.block _ (by omega) (hne _ (by omega))).trans h.st.chn
  · rw [heap_setCell_other _ _ _ _ (by show w.heap.size ≠ w.heap.size + 1 + 1; omega)]; exact (hg.block _ (by omega) (hne _ (by omega))).trans h.st.res
  · exact (h.st.bel.grown hg (by omega) (fun k e => by have := (own_lt h.st.own.thr k e).2; omega)).setCell (p := ⟨w.heap.size + 1 + 1, 6, none⟩) (by show w.heap.size ≤ w.heap.size + 1 + 1; omega) _
  · have := hg.size; have e : (u'.setCell ⟨w.heap.size + 1 + 1, 6, none⟩ tv').heap.size = u'.heap.size := by simp [World.setCell]
    omega
theorem keepTwo {u u' : World} {b o o' : Nat} {v v' : Value} (h : u.cell? ⟨b, o, none⟩ = some v ∧ u.cell? ⟨b, o', none⟩ = some v') (hB : Below u.heap.size u u') : u'.cell? ⟨b, o, none⟩ = some v ∧ u'.cell? ⟨b, o', none⟩ = some v' :=
  ⟨(hB.cell (p := ⟨b, o, none⟩) (cell_lt h.1)).trans h.1, (hB.cell (p := ⟨b, o', none⟩) (cell_lt h.2)).trans h.2⟩
/-- Where the choices' bytes are loaded. -/
def RelC (w wr : World) (v : Value) (w' : World) : Prop :=
  w' = wr ∧ ∃ (r : List Int) (ar : Option Addr) (capr : Nat), v = .slice ar r.length capr ∧ RowOf .u8 w w.heap.size ar r ∧ (∀ m ∈ r, 0 ≤ m ∧ m < 256) ∧ r.length ≤ 9223372036854775807
/-- How many instructions are chosen. -/
def RelD (len : Nat) (wr : World) (v : Value) (w' : World) : Prop := w' = wr ∧ ∃ m : Nat, v = .int .i64 m ∧ m ≤ 9 ∧ m * 2 ≤ len

set_option maxRecDepth 100000 in
set_option maxHeartbeats 8000000 in
theorem make_any (rows : List (List Int)) (a : Option Addr) (cap : Nat) (w : World) (hl : rows.length ≤ 9223372036854775807) (hr : BytesIn w w.heap.size a rows) :
    Calls Try.prog 11 #[.slice a rows.length cap] w (MadePost w) := by
  obtain ⟨i0, hi, hz0, hz1, hz2⟩ := info_parts info_insT
  obtain ⟨j0, hj, hy0, hy1, hy2⟩ := info_parts info_codeT
  have HR := Lib.hid hr
  clear hr
  go_enter Try.func11, Try.ntmps11
  go_upto_region 2 with (fail)
  generalize hW : World.alloc (World.alloc (World.alloc w _) _) _ = W
  have HM : Hid (MakeSt w W (.slice none 0 0) [] []) := by
    rw [← hW]
    exact ⟨OwnThreads.nil _ _, by have := heap_alloc_new ((w.alloc (.cells #[.int .i64 0, .int .i64 0, .int .i64 0, .slice none 0 0, .int .i64 0, .int .i64 0, .slice none 0 0] 26)).alloc (.cells #[.int .i64 1] 3)) (.cells #[.int .i64 2, .int .i64 1, .int .i64 1, .slice (some ⟨w.heap.size + 1, 0, none⟩) 1 1, .int .i64 1, .int .i64 1, .slice none 0 0] 26); simpa using this,
      (Below.heap_alloc _ _ _ (by simp)).trans (heap_alloc2_new _ _ _), (Below.heap_alloc _ _ _ (by simp; omega)).trans (heap_alloc2_old _ _ _), (((Below.refl _ _).alloc (Nat.le_refl _) _).alloc (by simp) _).alloc (by simp; omega) _, by simp⟩
  clear hW
  go_cut [4] (fun n w' => w' = W ∧ ∃ k : Nat, n = .int .i64 k ∧ 1 ≤ k ∧ k ≤ 3)
  case first =>
    by_cases h3 : 3 < rows.length
    · have h3' : (3 : Int) < (rows.length : Int) := by omega
      go_wp2
      all_goals go_meet
      all_goals exact ⟨rfl, 3, rfl, by decide, by decide⟩
    · by_cases h1 : rows.length < 1
      · have h1' : (rows.length : Int) < 1 := by omega
        have h3' : (rows.length : Int) ≤ 3 := by omega
        go_wp2
        all_goals go_meet
        all_goals exact ⟨rfl, 1, rfl, by decide, by decide⟩
      · have h1' : (1 : Int) ≤ (rows.length : Int) := by omega
        have h3' : (rows.length : Int) ≤ 3 := by omega
        go_wp2
        all_goals go_meet
        all_goals exact ⟨rfl, rows.length, rfl, by omega, by omega⟩
  case rest =>
    obtain ⟨rfl, n, rfl, hn1, hn3⟩ := hcut
    go_wp2_with fail
    go_loopw [5] (fun i u => Rel0 w n i u) (fun i _ => n - (intOf i).toNat)
    case atStart => exact ⟨0, [], [], _, Nat.zero_le _, rfl, rfl, HM.out, by simp⟩
    case round =>
      obtain ⟨k, cs, vs, tv, hk, rfl, hL, hS, hG⟩ := hrel
      have HL := Lib.hid hL
      have HS := Lib.hid hS
      have HG := Lib.hid hG
      clear hL hS hG
      by_cases hlt : k < n
      · have hlt' : (k : Int) < (n : Int) := by omega
        go_wp2_with fail
        go_loopw [6, 7] (fun v j u1 => Rel1 w n k tv vs cs v j u1) (fun _ j _ => n - (intOf j).toNat)
        case atStart => exact ⟨1, [], by omega, by omega, rfl, ⟨HS.out, World.ownsRow_nil _ _ _ _, Apart.symm (.inl rfl), fun i b _ => Apart.symm (.inl rfl)⟩, by simp, by simp⟩
        case round =>
          obtain ⟨q, c, hq1, hqn, rfl, hC, hcl, hGo⟩ := hrel
          have HC := Lib.hid hC
          have HCl := Lib.hid hcl
          have HGo := Lib.hid hGo
          clear hC hcl hGo
          by_cases hlq : q < n ∧ k = 0
          · obtain ⟨hlq, hk0⟩ := hlq
            have hlq' : decide ((q : Int) < (n : Int)) = true := by simp; omega
            have hk0' : ((k : Int) == 0) = true := by simp [hk0]
            have hcl : c.length ≤ 3 := by have := HCl.out; rw [if_pos hk0] at this; omega
            have HK := Lib.hid hk0
            clear hk0
            go_wp2_with (first
              | (at_builtin; refine wpList_append_own_at _ rfl _ _ 45 rfl (w.heap.size + 3) 54 i0 (.agg #[.int .u8 0, .int .i64 0, .int .i64 0, .int .i64 0]) 4 32 Try.underlying45 hi hz0 hz1 hz2 rfl (by decide) u6 _ _ rfl (own_later HC.out.row ((Below.refl _ _).alloc (Nat.le_refl _) _)) ⟨wr.heap.size, 0, none⟩ 1 1 (insCells ⟨12, q, 0, 0⟩) rfl rfl (cells_ins_new _ ⟨12, q, 0, 0⟩ _) (ins_one _) (by unfold maxLen; omega) (by omega) (by have := HC.out.st.siz; simp; omega) ?_; intro v' w2 hown2 hgrow2 _ hat2; have HX := Lib.hid ((HC.out.later ((Below.refl _ _).alloc (Nat.le_refl _) _)).more hown2 hgrow2 hat2); clear hown2 hgrow2 hat2))
            go_roundw
            case rel => exact ⟨q + 1, _, by omega, by omega, by go_num, HX.out, by rw [if_pos HK.out, List.length_append, HCl.out, if_pos HK.out]; simp; omega, fun x hx => by
              rcases List.mem_append.1 hx with h | h
              · exact HGo.out x h
              · simp at h; subst h; exact ⟨q, rfl, by omega, by omega⟩⟩
            case measure => simp [intOf]; omega
          · have hstop : (decide ((q : Int) < (n : Int)) && ((k : Int) == 0)) = false := by
              by_cases h1 : q < n
              · have h2 : k ≠ 0 := fun e => hlq ⟨h1, e⟩
                simp; omega
              · simp; omega
            have hc3 : c.length ≤ 2 := by have := HCl.out; split at this <;> omega
            obtain ⟨ac, capc, e6, _⟩ := code_in HC.out.row
            subst e6
            rcases Nat.lt_or_ge q n with h1 | h1
            · have hd1 : decide ((q : Int) < (n : Int)) = true := by simp; omega
              have hd2 : ((k : Int) == 0) = false := by
                have h2 : k ≠ 0 := fun e => hlq ⟨h1, e⟩
                simp; omega
              clear hstop
              go_upto_if 42 with (fail)
              go_cut [9] (fun v w' => RelC w wr v w')
              case first =>
                by_cases hkr : k < rows.length
                · obtain ⟨r, hr'⟩ := at_lt hkr
                  obtain ⟨b, off, rfl, hb, a', cap', hcel, hrow, hby, hlen⟩ := HR.out k r hr'
                  have hcel' := (HC.out.st.bel.cell (p := ⟨b, off + k, none⟩) hb).trans hcel
                  have HRow := Lib.hid hrow
                  have HBy := Lib.hid hby
                  have hd : decide (k < rows.length) = true := by simp [hkr]
                  clear hr' hcel hrow hby
                  go_wp2
                  go_meet
                  exact ⟨rfl, r, a', cap', rfl, HRow.out, HBy.out, hlen⟩
                · have hd : decide (k < rows.length) = false := by simp; omega
                  go_wp2
                  go_meet
                  exact ⟨rfl, [], none, 0, rfl, RowOf.nil _ _ _ _, by simp, by simp⟩
              case rest =>
                obtain ⟨rfl, r, ar, capr, rfl, hrow, hby, hrl⟩ := hcut
                have HRow := Lib.hid hrow
                have HBy := Lib.hid hby
                clear hrow hby
                go_upto_region 15 with (fail)
                go_cut [10] (fun v w' => RelD r.length wc v w')
                case first =>
                  by_cases h9 : 9 < r.length / 2
                  · have h9' : (9 : Int) < (r.length : Int) / 2 := by omega
                    go_wp2
                    all_goals go_meet
                    all_goals exact ⟨rfl, 9, rfl, by omega, by omega⟩
                  · have h9' : (r.length : Int) / 2 ≤ 9 := by omega
                    go_wp2
                    all_goals go_meet
                    all_goals exact ⟨rfl, r.length / 2, congrArg (Value.int .i64) (by omega), by omega, by omega⟩
                case rest =>
                  obtain ⟨rfl, m, rfl, hm9, hm2⟩ := hcut
                  go_wp2_with fail
                  go_loopw [6, 11] (fun v j u => Rel2 w n m c.length tv vs cs v j u) (fun _ j _ => m - (intOf j).toNat)
                  case atStart => exact ⟨0, c, Nat.zero_le _, rfl, HC.out, by omega, fun x hx => .inr (HGo.out x hx)⟩
                  case round =>
                    obtain ⟨q2, c2, hq2, rfl, hC2, hcl2, hG2⟩ := hrel
                    have HC2 := Lib.hid hC2
                    have HCl2 := Lib.hid hcl2
                    have HG2 := Lib.hid hG2
                    have hc11 : c2.length ≤ 11 := by omega
                    clear hC2 hcl2 hG2
                    by_cases hl2 : q2 < m
                    · have hl2' : (q2 : Int) < (m : Int) := by omega
                      obtain ⟨z0, hz0'⟩ := at_lt (l := r) (k := 2 * q2) (by omega)
                      obtain ⟨z1, hz1'⟩ := at_lt (l := r) (k := 2 * q2 + 1) (by omega)
                      obtain ⟨b, off, rfl, hb, hcz0⟩ := HRow.out _ z0 hz0'
                      obtain ⟨b2, off2, e2, hb2, hcz1⟩ := HRow.out _ z1 hz1'
                      cases e2
                      obtain ⟨y0, rfl⟩ := Int.eq_ofNat_of_zero_le (HBy.out z0 (List.mem_of_getElem? hz0')).1
                      obtain ⟨y1, rfl⟩ := Int.eq_ofNat_of_zero_le (HBy.out z1 (List.mem_of_getElem? hz1')).1
                      have hy0b : y0 < 256 := by have := (HBy.out _ (List.mem_of_getElem? hz0')).2; omega
                      have hy1b : y1 < 256 := by have := (HBy.out _ (List.mem_of_getElem? hz1')).2; omega
                      have d0 := (HC2.out.st.bel.cell (p := ⟨b, off + 2 * q2, none⟩) hb).trans hcz0
                      have d1 := (HC2.out.st.bel.cell (p := ⟨b, off + (2 * q2 + 1), none⟩) hb).trans hcz1
                      have hi0 : (2 * (q2 : Int)) < (r.length : Int) := by omega
                      have hi1 : (2 * (q2 : Int) + 1) < (r.length : Int) := by omega
                      have hn0 : (0 : Int) ≤ 2 * (q2 : Int) := by omega
                      have hn1' : (0 : Int) ≤ 2 * (q2 : Int) + 1 := by omega
                      have ht0 : (2 * (q2 : Int)).toNat = 2 * q2 := by omega
                      have ht1 : (2 * (q2 : Int) + 1).toNat = 2 * q2 + 1 := by omega
                      have hx1 : IntKind.i64.wrap (2 * (q2 : Int)) = 2 * (q2 : Int) := IntWalk.i64_in _ (by omega)
                      have hx2 : IntKind.i64.wrap (2 * (q2 : Int) + 1) = 2 * (q2 : Int) + 1 := IntWalk.i64_in _ (by omega)
                      have hx3 : IntKind.i64.wrap ((c.length : Int) + (q2 : Int)) = (c.length : Int) + (q2 : Int) := IntWalk.i64_in _ (by omega)
                      have hx4 : IntKind.i64.wrap ((c.length : Int) + (m : Int)) = (c.length : Int) + (m : Int) := IntWalk.i64_in _ (by omega)
                      have HI := Lib.hid (fun u => ins_any y0 y1 ((c.length : Int) + (q2 : Int)) ((c.length : Int) + (m : Int)) u hy0b hy1b (by omega) (by omega) (by omega))
                      have HZ0 := Lib.hid hcz0
                      have HZ1 := Lib.hid hcz1
                      clear hz0' hz1' hcz0 hcz1
                      go_wp2_with fail
                      go_region_held3 (fun u => u.cell? ⟨b, off + 2 * q2, none⟩ = some (.int .u8 (y0 : Int)) ∧ u.cell? ⟨b, off + (2 * q2 + 1), none⟩ = some (.int .u8 (y1 : Int))) (first | exact ⟨d0, d1⟩ | exact ⟨(HX5.out.st.bel.cell (p := ⟨b, off + 2 * q2, none⟩) hb).trans HZ0.out, (HX5.out.st.bel.cell (p := ⟨b, off + (2 * q2 + 1), none⟩) hb).trans HZ1.out⟩ | exact keepTwo (by assumption) ((Below.refl _ _).alloc (Nat.le_refl _) _) | exact keepTwo (by assumption) hB3)
                        (first
                          | ((rw [if_pos (by rfl)]); refine wp_append_own_at _ (.tmp 56) (.tmp 75) 45 rfl (w.heap.size + 3) 54 i0 (.agg #[.int .u8 0, .int .i64 0, .int .i64 0, .int .i64 0]) 4 32 Try.underlying45 hi hz0 hz1 hz2 rfl (by decide) u6 _ _ rfl (own_later HX3.out.row ((Below.refl _ _).alloc (Nat.le_refl _) _)) ⟨w3.heap.size, 0, none⟩ 1 1 (insCells x) rfl rfl (cells_ins_new _ x _) (ins_one _) (by unfold maxLen; omega) (by omega) (by have := HX3.out.st.siz; simp; omega) ?_; intro v' w5 hown5 hgrow5 _ hat5; have HX5 := Lib.hid ((HX3.out.later ((Below.refl _ _).alloc (Nat.le_refl _) _)).more hown5 hgrow5 hat5); clear hown5 hgrow5 hat5)
                          | (go_at_call 19; refine (HI.out _).mono ?_; rintro e w3 ⟨x, rfl, hx, hB3⟩; have HX3 := Lib.hid (HC2.out.later (show Below wr.heap.size wr w3 from ⟨hB3.os, hB3.tape, hB3.output, hB3.size, hB3.block⟩)); have HIns := Lib.hid hx))
                      clear hx1 hx2 hx3 hx4 ht0 ht1 hi0 hi1 hn0 hn1' d0 d1
                      go_wp2
                      go_roundw
                      case rel => exact ⟨q2 + 1, c2 ++ [x], by omega, by go_num, HX5.out, by rw [List.length_append, HCl2.out]; simp; omega, fun y hy => by
                        rcases List.mem_append.1 hy with h | h
                        · exact HG2.out y h
                        · simp at h; subst h; exact .inl HIns.out⟩
                      case measure => simp [intOf]; omega
                    · obtain rfl : q2 = m := by omega
                      have hc6 : wr.cell? ⟨w.heap.size + 1 + 1, 6, none⟩ = some tv := cell_of_row _ _ _ _ _ _ HC2.out.st.box
                      have hvl : vs.length ≤ 3 := by have := HC2.out.st.own.len; have := HL.out; omega
                      obtain ⟨a6, cap6, e6, _⟩ := code_in HC2.out.row
                      subst e6
                      have HOne := Lib.hid (thr_one4 HC2.out.row)
                      go_wp2_with (first
                        | (at_builtin; refine wpList_append_own_at _ rfl _ _ 24 rfl (w.heap.size + 3) 45 j0 (.slice none 0 0) 1 24 Try.underlying24 hj hy0 hy1 hy2 rfl (by decide) tv _ _ rfl (own_later HC2.out.st.own.thr ((Below.refl _ _).alloc (Nat.le_refl _) _)) ⟨wr.heap.size, 0, none⟩ 1 1 [.slice a6 c2.length cap6] rfl rfl (cell_one_new _ _ _) (by simp [Value.oneCell']) (by unfold maxLen; omega) (by omega) (by have := HC2.out.st.siz; simp; omega) ?_; intro tv' w6 hown6 hgrow6 _ hat6; obtain ⟨g7, cap7, rfl⟩ := ownsRow_succ hown6; obtain ⟨hbx, hst⟩ := MakeSt.push (HC2.out.later ((Below.refl _ _).alloc (Nat.le_refl _) _)) hown6 hgrow6 hat6; have hcb := cell_of_row _ _ 6 _ _ _ hbx; have hfb := frozen_of_row _ _ 6 _ _ hbx; have HSt := Lib.hid hst; clear hown6 hgrow6 hat6 hbx hst))
                      go_roundw
                      case rel => exact ⟨k + 1, cs ++ [c2], _, _, by omega, by go_num, by rw [List.length_append, HL.out]; rfl, HSt.out, fun d hd => by
                        rcases List.mem_append.1 hd with h | h
                        · exact HG.out d h
                        · simp at h; subst h
                          refine ⟨hc11, fun x hx => ?_⟩
                          have e : ((d.length : Nat) : Int) = (c.length : Int) + (q2 : Int) := by rw [HCl2.out]; simp
                          rw [e]; exact HG2.out x hx⟩
                      case measure => simp [intOf]; omega
            · have hd1 : decide ((q : Int) < (n : Int)) = false := by simp; omega
              clear hstop
              go_upto_if 42 with (fail)
              go_cut [9] (fun v w' => RelC w wr v w')
              case first =>
                by_cases hkr : k < rows.length
                · obtain ⟨r, hr'⟩ := at_lt hkr
                  obtain ⟨b, off, rfl, hb, a', cap', hcel, hrow, hby, hlen⟩ := HR.out k r hr'
                  have hcel' := (HC.out.st.bel.cell (p := ⟨b, off + k, none⟩) hb).trans hcel
                  have HRow := Lib.hid hrow
                  have HBy := Lib.hid hby
                  have hd : decide (k < rows.length) = true := by simp [hkr]
                  clear hr' hcel hrow hby
                  go_wp2
                  go_meet
                  exact ⟨rfl, r, a', cap', rfl, HRow.out, HBy.out, hlen⟩
                · have hd : decide (k < rows.length) = false := by simp; omega
                  go_wp2
                  go_meet
                  exact ⟨rfl, [], none, 0, rfl, RowOf.nil _ _ _ _, by simp, by simp⟩
              case rest =>
                obtain ⟨rfl, r, ar, capr, rfl, hrow, hby, hrl⟩ := hcut
                have HRow := Lib.hid hrow
                have HBy := Lib.hid hby
                clear hrow hby
                go_upto_region 15 with (fail)
                go_cut [10] (fun v w' => RelD r.length wc v w')
                case first =>
                  by_cases h9 : 9 < r.length / 2
                  · have h9' : (9 : Int) < (r.length : Int) / 2 := by omega
                    go_wp2
                    all_goals go_meet
                    all_goals exact ⟨rfl, 9, rfl, by omega, by omega⟩
                  · have h9' : (r.length : Int) / 2 ≤ 9 := by omega
                    go_wp2
                    all_goals go_meet
                    all_goals exact ⟨rfl, r.length / 2, congrArg (Value.int .i64) (by omega), by omega, by omega⟩
                case rest =>
                  obtain ⟨rfl, m, rfl, hm9, hm2⟩ := hcut
                  go_wp2_with fail
                  go_loopw [6, 11] (fun v j u => Rel2 w n m c.length tv vs cs v j u) (fun _ j _ => m - (intOf j).toNat)
                  case atStart => exact ⟨0, c, Nat.zero_le _, rfl, HC.out, by omega, fun x hx => .inr (HGo.out x hx)⟩
                  case round =>
                    obtain ⟨q2, c2, hq2, rfl, hC2, hcl2, hG2⟩ := hrel
                    have HC2 := Lib.hid hC2
                    have HCl2 := Lib.hid hcl2
                    have HG2 := Lib.hid hG2
                    have hc11 : c2.length ≤ 11 := by omega
                    clear hC2 hcl2 hG2
                    by_cases hl2 : q2 < m
                    · have hl2' : (q2 : Int) < (m : Int) := by omega
                      obtain ⟨z0, hz0'⟩ := at_lt (l := r) (k := 2 * q2) (by omega)
                      obtain ⟨z1, hz1'⟩ := at_lt (l := r) (k := 2 * q2 + 1) (by omega)
                      obtain ⟨b, off, rfl, hb, hcz0⟩ := HRow.out _ z0 hz0'
                      obtain ⟨b2, off2, e2, hb2, hcz1⟩ := HRow.out _ z1 hz1'
                      cases e2
                      obtain ⟨y0, rfl⟩ := Int.eq_ofNat_of_zero_le (HBy.out z0 (List.mem_of_getElem? hz0')).1
                      obtain ⟨y1, rfl⟩ := Int.eq_ofNat_of_zero_le (HBy.out z1 (List.mem_of_getElem? hz1')).1
                      have hy0b : y0 < 256 := by have := (HBy.out _ (List.mem_of_getElem? hz0')).2; omega
                      have hy1b : y1 < 256 := by have := (HBy.out _ (List.mem_of_getElem? hz1')).2; omega
                      have d0 := (HC2.out.st.bel.cell (p := ⟨b, off + 2 * q2, none⟩) hb).trans hcz0
                      have d1 := (HC2.out.st.bel.cell (p := ⟨b, off + (2 * q2 + 1), none⟩) hb).trans hcz1
                      have hi0 : (2 * (q2 : Int)) < (r.length : Int) := by omega
                      have hi1 : (2 * (q2 : Int) + 1) < (r.length : Int) := by omega
                      have hn0 : (0 : Int) ≤ 2 * (q2 : Int) := by omega
                      have hn1' : (0 : Int) ≤ 2 * (q2 : Int) + 1 := by omega
                      have ht0 : (2 * (q2 : Int)).toNat = 2 * q2 := by omega
                      have ht1 : (2 * (q2 : Int) + 1).toNat = 2 * q2 + 1 := by omega
                      have hx1 : IntKind.i64.wrap (2 * (q2 : Int)) = 2 * (q2 : Int) := IntWalk.i64_in _ (by omega)
                      have hx2 : IntKind.i64.wrap (2 * (q2 : Int) + 1) = 2 * (q2 : Int) + 1 := IntWalk.i64_in _ (by omega)
                      have hx3 : IntKind.i64.wrap ((c.length : Int) + (q2 : Int)) = (c.length : Int) + (q2 : Int) := IntWalk.i64_in _ (by omega)
                      have hx4 : IntKind.i64.wrap ((c.length : Int) + (m : Int)) = (c.length : Int) + (m : Int) := IntWalk.i64_in _ (by omega)
                      have HI := Lib.hid (fun u => ins_any y0 y1 ((c.length : Int) + (q2 : Int)) ((c.length : Int) + (m : Int)) u hy0b hy1b (by omega) (by omega) (by omega))
                      have HZ0 := Lib.hid hcz0
                      have HZ1 := Lib.hid hcz1
                      clear hz0' hz1' hcz0 hcz1
                      go_wp2_with fail
                      go_region_held3 (fun u => u.cell? ⟨b, off + 2 * q2, none⟩ = some (.int .u8 (y0 : Int)) ∧ u.cell? ⟨b, off + (2 * q2 + 1), none⟩ = some (.int .u8 (y1 : Int))) (first | exact ⟨d0, d1⟩ | exact ⟨(HX5.out.st.bel.cell (p := ⟨b, off + 2 * q2, none⟩) hb).trans HZ0.out, (HX5.out.st.bel.cell (p := ⟨b, off + (2 * q2 + 1), none⟩) hb).trans HZ1.out⟩ | exact keepTwo (by assumption) ((Below.refl _ _).alloc (Nat.le_refl _) _) | exact keepTwo (by assumption) hB3)
                        (first
                          | ((rw [if_pos (by rfl)]); refine wp_append_own_at _ (.tmp 56) (.tmp 75) 45 rfl (w.heap.size + 3) 54 i0 (.agg #[.int .u8 0, .int .i64 0, .int .i64 0, .int .i64 0]) 4 32 Try.underlying45 hi hz0 hz1 hz2 rfl (by decide) u6 _ _ rfl (own_later HX3.out.row ((Below.refl _ _).alloc (Nat.le_refl _) _)) ⟨w3.heap.size, 0, none⟩ 1 1 (insCells x) rfl rfl (cells_ins_new _ x _) (ins_one _) (by unfold maxLen; omega) (by omega) (by have := HX3.out.st.siz; simp; omega) ?_; intro v' w5 hown5 hgrow5 _ hat5; have HX5 := Lib.hid ((HX3.out.later ((Below.refl _ _).alloc (Nat.le_refl _) _)).more hown5 hgrow5 hat5); clear hown5 hgrow5 hat5)
                          | (go_at_call 19; refine (HI.out _).mono ?_; rintro e w3 ⟨x, rfl, hx, hB3⟩; have HX3 := Lib.hid (HC2.out.later (show Below wr.heap.size wr w3 from ⟨hB3.os, hB3.tape, hB3.output, hB3.size, hB3.block⟩)); have HIns := Lib.hid hx))
                      clear hx1 hx2 hx3 hx4 ht0 ht1 hi0 hi1 hn0 hn1' d0 d1
                      go_wp2
                      go_roundw
                      case rel => exact ⟨q2 + 1, c2 ++ [x], by omega, by go_num, HX5.out, by rw [List.length_append, HCl2.out]; simp; omega, fun y hy => by
                        rcases List.mem_append.1 hy with h | h
                        · exact HG2.out y h
                        · simp at h; subst h; exact .inl HIns.out⟩
                      case measure => simp [intOf]; omega
                    · obtain rfl : q2 = m := by omega
                      have hc6 : wr.cell? ⟨w.heap.size + 1 + 1, 6, none⟩ = some tv := cell_of_row _ _ _ _ _ _ HC2.out.st.box
                      have hvl : vs.length ≤ 3 := by have := HC2.out.st.own.len; have := HL.out; omega
                      obtain ⟨a6, cap6, e6, _⟩ := code_in HC2.out.row
                      subst e6
                      have HOne := Lib.hid (thr_one4 HC2.out.row)
                      go_wp2_with (first
                        | (at_builtin; refine wpList_append_own_at _ rfl _ _ 24 rfl (w.heap.size + 3) 45 j0 (.slice none 0 0) 1 24 Try.underlying24 hj hy0 hy1 hy2 rfl (by decide) tv _ _ rfl (own_later HC2.out.st.own.thr ((Below.refl _ _).alloc (Nat.le_refl _) _)) ⟨wr.heap.size, 0, none⟩ 1 1 [.slice a6 c2.length cap6] rfl rfl (cell_one_new _ _ _) (by simp [Value.oneCell']) (by unfold maxLen; omega) (by omega) (by have := HC2.out.st.siz; simp; omega) ?_; intro tv' w6 hown6 hgrow6 _ hat6; obtain ⟨g7, cap7, rfl⟩ := ownsRow_succ hown6; obtain ⟨hbx, hst⟩ := MakeSt.push (HC2.out.later ((Below.refl _ _).alloc (Nat.le_refl _) _)) hown6 hgrow6 hat6; have hcb := cell_of_row _ _ 6 _ _ _ hbx; have hfb := frozen_of_row _ _ 6 _ _ hbx; have HSt := Lib.hid hst; clear hown6 hgrow6 hat6 hbx hst))
                      go_roundw
                      case rel => exact ⟨k + 1, cs ++ [c2], _, _, by omega, by go_num, by rw [List.length_append, HL.out]; rfl, HSt.out, fun d hd => by
                        rcases List.mem_append.1 hd with h | h
                        · exact HG.out d h
                        · simp at h; subst h
                          refine ⟨hc11, fun x hx => ?_⟩
                          have e : ((d.length : Nat) : Int) = (c.length : Int) + (q2 : Int) := by rw [HCl2.out]; simp
                          rw [e]; exact HG2.out x hx⟩
                      case measure => simp [intOf]; omega
      · obtain rfl : k = n := by omega
        have HO := Lib.hid (thr_one HS.out.own.thr)
        go_wp2_with (first
          | (refine wpList_load_row rfl 26 (.tmp 3) rfl (w.heap.size + 1 + 1) rfl 26 _ (0, 0) _ HS.out.box Try.underlying26 rfl info_prog ?_)
          | (refine wpList_store_row rfl 26 (.tmp 2) (.tmp 83) rfl w.heap.size _ rfl rfl 26 _ HS.out.res info_prog rfl (prog_one HO.out) ?_))
        refine bodyPost_ret (v := .agg #[.int .i64 2, .int .i64 1, .int .i64 1, .slice (some ⟨w.heap.size + 1, 0, none⟩) 1 1, .int .i64 1, .int .i64 1, tv]) (results_cell_row rfl _ _ w.heap.size 26 _ (0, 0) _ rfl (setRow_heap _ _ _ _ _ _ HS.out.res) Try.underlying26 rfl info_prog) rfl ?_
        have hset : Below w.heap.size w (wr.setRow w.heap.size #[.int .i64 2, .int .i64 1, .int .i64 1, .slice (some ⟨w.heap.size + 1, 0, none⟩) 1 1, .int .i64 1, .int .i64 1, tv]) := below_setRow HS.out.bel (Nat.le_refl _) _
        exact ⟨cs, vs, tv, rfl, HS.out.own.row (by omega) _, (setRow_other _ _ _ _ (by omega)).trans HS.out.chn, ⟨by rw [HL.out]; exact hn1, by rw [HL.out]; exact hn3⟩, by rw [HL.out]; exact HG.out, hset⟩

end Go.Proofs.Ytfcfdneganknjaa
