/- What the laws of this seat stand on, part 3. -/
import Derived.Test.YtnbpneaiibandaaPa0
import Derived.Test.YtnbpneaiibandaaPa1
import Derived.Test.YtnbpneaiibandaaPa2
set_option linter.unusedVariables false
set_option linter.unusedSimpArgs false
set_option maxRecDepth 100000
set_option maxHeartbeats 40000000
namespace Go.Proofs.Ytnbpneaiibandaa
open Go.RowKit
/-- Rows of bytes that came in. -/
def BytesIn (w : World) (B : Nat) (a : Option Addr) (rows : List (List Int)) : Prop :=
  ∀ (k : Nat) (r : List Int), rows[k]? = some r → ∃ b off, a = some ⟨b, off, none⟩ ∧ b < B ∧ ∃ a' cap', w.cell? ⟨b, off + k, none⟩ = some (.slice a' r.length cap') ∧ RowOf .u8 w B a' r ∧ (∀ n ∈ r, 0 ≤ n ∧ n < 256) ∧ r.length ≤ 9223372036854775807
theorem BytesIn.below {w w' : World} {B : Nat} {a : Option Addr} {rows : List (List Int)} (h : BytesIn w B a rows) (hB : Below B w w') : BytesIn w' B a rows := fun k r hr => by
  obtain ⟨b, off, h1, h2, a', cap', h3, h4, h5⟩ := h k r hr
  exact ⟨b, off, h1, h2, a', cap', (hB.cell (p := ⟨b, off + k, none⟩) h2).trans h3, h4.below hB, h5⟩
/-- Instructions of a thread that may be: those of choices, and those that begin another of n threads. -/
def GoodIns (n : Nat) (m : Int) (x : InsD) : Prop := InsOK m x ∨ ∃ k : Int, x = ⟨12, k, 0, 0⟩ ∧ 1 ≤ k ∧ k < n
def GoodCode (n : Nat) (c : List InsD) : Prop := c.length ≤ 11 ∧ ∀ x ∈ c, GoodIns n c.length x
/-- An append at an operation of a region that draws its order. -/
theorem wp_append_own_at {P : Program} (w : World) {o : Oper} {a : Act} {K : Act → World → Prop} {Q : Exit → Act → World → Prop} (s x : Operand) (t : TypeId)
    (ho : o.op = .call { callee := .builtin .append, args := #[s, x], argTypes := #[t, t] })
    (base : Nat) (e : TypeId) (i : TypeInfo) (z : Value) (size bytes : Nat) (ht : P.underlying t = some (.slice e)) (hi : P.info? e = some i) (hz : i.zero = some z)
    (hsize : i.size = size) (hby : i.bytes = bytes) (hzs : z.cells.size = size) (hsz : 0 < size)
    (v : Value) (n : Nat) (xs : List Value) (hs : a.eval s = v) (hown : w.ownsRow base e size v n xs)
    (ad : Addr) (m c : Nat) (news : List Value) (hx : a.eval x = .slice (some ad) m c) (hl : news.length = m * size) (hnews : ∀ j u, news[j]? = some u → w.cell? (ad.add j) = some u) (h1 : ∀ u ∈ news, u.oneCell' = true)
    (h63 : n + m ≤ maxLen) (hbytes : (n + m) * bytes ≤ 140737488355328) (hbase : base ≤ w.heap.size)
    (h : ∀ v' w', w'.ownsRow base e size v' (n + m) (xs ++ news) → w.grownBy w' v.ownBlock → (v' = .slice none 0 0 ↔ v = .slice none 0 0 ∧ m = 0) → (v'.ownBlock = v.ownBlock ∨ v'.ownBlock = some w.heap.size) → K (a.put o.dst v') w') : o.wp P a w K Q := by
  obtain ⟨v', w', hr, h2, h3, h4, h5⟩ := run_append_own_at (P := P) w base t o.type e i z size bytes ht hi hz hsize hby hzs hsz v n xs hown ad m c news hl hnews h1 h63 hbytes hbase
  unfold Oper.wp execOp
  simp only [ho, resolve, invoke, builtin, Sem.run_bind, Sem.run_pure, Result.andThen_ok, List.map_toArray, List.map_cons, List.map_nil, hs, hx, hr]
  exact h v' w' h2 h3 h4 h5
theorem info_insT : (Try.prog.info? 49).map (fun i => (i.zero, i.size, i.bytes)) = some (some (.agg #[.int .u8 0, .int .i64 0, .int .i64 0, .int .i64 0]), 4, 32) := by kernel_rfl
theorem info_codeT : (Try.prog.info? 34).map (fun i => (i.zero, i.size, i.bytes)) = some (some (.slice none 0 0), 1, 24) := by kernel_rfl
/-- One instruction that was laid to be appended. -/
theorem cells_ins_new (w : World) (x : InsD) (t : TypeId) : ∀ j u, (insCells x)[j]? = some u → (w.alloc (.cells #[.int .u8 x.op, .int .i64 x.a, .int .i64 x.b, .int .i64 x.c] t)).cell? ((⟨w.heap.size, 0, none⟩ : Addr).add j) = some u := by
  intro j u hj
  rw [Addr.add_mid, Nat.zero_add, cell_of_row _ _ _ _ _ _ (heap_alloc_new _ _)]
  simpa [insCells] using hj
/-- What lies while a program is being made: the result's box, the channels' row, the program's box, and the threads that are made. -/
structure MakeSt (w u : World) (tv : Value) (vs : List Value) (cs : List (List InsD)) : Prop where
  own : OwnThreads u (w.heap.size + 3) tv vs cs
  box : u.heap[w.heap.size + 1 + 1]? = some (.cells #[.int .i64 2, .int .i64 1, .int .i64 1, .slice (some ⟨w.heap.size + 1, 0, none⟩) 1 1, .int .i64 1, .int .i64 1, tv] 28)
  chn : u.heap[w.heap.size + 1]? = some (.cells #[.int .i64 1] 3)
  res : u.heap[w.heap.size]? = some (.cells #[.int .i64 0, .int .i64 0, .int .i64 0, .slice none 0 0, .int .i64 0, .int .i64 0, .slice none 0 0] 28)
  bel : Below w.heap.size w u
  siz : w.heap.size + 3 ≤ u.heap.size
theorem MakeSt.later {w u u' : World} {tv : Value} {vs : List Value} {cs : List (List InsD)} (h : MakeSt w u tv vs cs) (hB : Below u.heap.size u u') : MakeSt w u' tv vs cs := by
  have hs := h.siz
  exact ⟨h.own.later hB, (hB.block _ (by omega)).trans h.box, (hB.block _ (by omega)).trans h.chn, (hB.block _ (by omega)).trans h.res, h.bel.trans (hB.mono (by omega)), Nat.le_trans hs hB.size⟩
theorem MakeSt.beside {w u u' : World} {tv v : Value} {vs : List Value} {cs : List (List InsD)} {e : TypeId} {s n : Nat} {xs : List Value} (h : MakeSt w u tv vs cs) (hv : u.ownsRow (w.heap.size + 3) e s v n xs) (hg : u.grownBy u' v.ownBlock) (hT : Apart tv v) (hV : ∀ (k : Nat) (b : Value), vs[k]? = some b → Apart b v) : MakeSt w u' tv vs cs := by
  have hs := h.siz
  have hne : ∀ k, k < w.heap.size + 3 → some k ≠ v.ownBlock := fun k hk e => by have := (own_lt hv k e.symm).2; omega
  exact ⟨h.own.beside hg hT hV, (hg.block _ (by omega) (hne _ (by omega))).trans h.box, (hg.block _ (by omega) (hne _ (by omega))).trans h.chn, (hg.block _ (by omega) (hne _ (by omega))).trans h.res,
    h.bel.grown hg (by omega) (fun k e => by have := (own_lt hv k e).2; omega), Nat.le_trans hs hg.size⟩
/-- What is made. -/
def MadePost (w : World) (e : Ending) (w' : World) : Prop :=
  ∃ (cs : List (List InsD)) (vs : List Value) (tv : Value), e = .returned (.agg #[.int .i64 2, .int .i64 1, .int .i64 1, .slice (some ⟨w.heap.size + 1, 0, none⟩) 1 1, .int .i64 1, .int .i64 1, tv]) ∧
    OwnThreads w' (w.heap.size + 3) tv vs cs ∧ w'.heap[w.heap.size + 1]? = some (.cells #[.int .i64 1] 3) ∧ (1 ≤ cs.length ∧ cs.length ≤ 3) ∧ (∀ c ∈ cs, GoodCode cs.length c) ∧ Below w.heap.size w w'
theorem thr_one {u : World} {base : Nat} {e : TypeId} {v : Value} {n : Nat} {xs : List Value} (h : u.ownsRow base e 1 v n xs) : v.oneCell' = true := by
  rcases h.2 with ⟨rfl, _⟩ | ⟨g, cap, cur, rfl, _⟩ <;> rfl
theorem prog_one {a : Option Addr} {tv : Value} (h : tv.oneCell' = true) : (#[.int .i64 2, .int .i64 1, .int .i64 1, .slice a 1 1, .int .i64 1, .int .i64 1, tv] : Array Value).all (·.oneCell') = true := by
  have h' := h
  simp only [List.all_toArray, List.all_cons, List.all_nil, h', Bool.and_true]
  rfl
theorem own_row {u : World} {base : Nat} {e : TypeId} {s : Nat} {v : Value} {n : Nat} {xs : List Value} (h : u.ownsRow base e s v n xs) {g : Nat} (hg : g < base) (cs : Array Value) : (u.setRow g cs).ownsRow base e s v n xs := by
  refine ⟨h.1, ?_⟩
  rcases h.2 with h2 | ⟨g', cap, cur, rfl, hb, hh, hr⟩
  · exact .inl h2
  · exact .inr ⟨g', cap, cur, rfl, hb, (setRow_other _ _ _ _ (by omega)).trans hh, hr⟩
theorem OwnThreads.row {u : World} {base : Nat} {tv : Value} {vs : List Value} {cs : List (List InsD)} (h : OwnThreads u base tv vs cs) {g : Nat} (hg : g < base) (r : Array Value) : OwnThreads (u.setRow g r) base tv vs cs :=
  ⟨h.len, own_row h.thr hg r, fun k v c hv hc => own_row (h.code k v c hv hc) hg r, h.apartT, h.apartV⟩
/-- The instructions that begin threads. -/
def GoIns (n : Nat) (x : InsD) : Prop := ∃ k : Int, x = ⟨12, k, 0, 0⟩ ∧ 1 ≤ k ∧ k < n
/-- What lies while a thread is being made: its row beside all else. -/
structure CodeSt (w u : World) (tv : Value) (vs : List Value) (cs : List (List InsD)) (v : Value) (c : List InsD) : Prop where
  st : MakeSt w u tv vs cs
  row : u.ownsRow (w.heap.size + 3) 49 4 v c.length (codeCells c)
  apT : Apart tv v
  apV : ∀ (i : Nat) (b : Value), vs[i]? = some b → Apart b v
theorem CodeSt.later {w u u' : World} {tv v : Value} {vs : List Value} {cs : List (List InsD)} {c : List InsD} (h : CodeSt w u tv vs cs v c) (hB : Below u.heap.size u u') : CodeSt w u' tv vs cs v c :=
  ⟨h.st.later hB, own_later h.row hB, h.apT, h.apV⟩
/-- One instruction more. -/
theorem CodeSt.more {w u u' : World} {tv v v' : Value} {vs : List Value} {cs : List (List InsD)} {c : List InsD} {x : InsD} (h : CodeSt w u tv vs cs v c)
    (hown : u'.ownsRow (w.heap.size + 3) 49 4 v' (c.length + 1) (codeCells c ++ insCells x)) (hg : u.grownBy u' v.ownBlock) (hat : v'.ownBlock = v.ownBlock ∨ v'.ownBlock = some u.heap.size) : CodeSt w u' tv vs cs v' (c ++ [x]) := by
  refine ⟨h.st.beside h.row hg h.apT h.apV, ?_, apart_append h.st.own.thr h.apT hat, fun i b hb => ?_⟩
  · rw [codeCells_snoc, List.length_append]; exact hown
  · obtain ⟨d, _, hd⟩ := h.st.own.codeOf hb
    exact apart_append hd (h.apV i b hb) hat
/-- The outer loop's relation. -/
def Rel0 (w : World) (n : Nat) (i : Value) (u : World) : Prop :=
  ∃ (k : Nat) (cs : List (List InsD)) (vs : List Value) (tv : Value), k ≤ n ∧ i = .int .i64 k ∧ cs.length = k ∧ MakeSt w u tv vs cs ∧ ∀ c ∈ cs, GoodCode n c
/-- The first inner loop's. -/
def Rel1 (w : World) (n k : Nat) (tv : Value) (vs : List Value) (cs : List (List InsD)) (v j : Value) (u : World) : Prop :=
  ∃ (q : Nat) (c : List InsD), 1 ≤ q ∧ q ≤ n ∧ j = .int .i64 q ∧ CodeSt w u tv vs cs v c ∧ c.length = (if k = 0 then q - 1 else 0) ∧ ∀ x ∈ c, GoIns n x
/-- The second's. -/
def Rel2 (w : World) (n m h : Nat) (tv : Value) (vs : List Value) (cs : List (List InsD)) (v j : Value) (u : World) : Prop :=
  ∃ (q : Nat) (c : List InsD), q ≤ m ∧ j = .int .i64 q ∧ CodeSt w u tv vs cs v c ∧ c.length = h + q ∧ ∀ x ∈ c, GoodIns n ((h : Int) + m) x
theorem thr_one4 {u : World} {base : Nat} {e : TypeId} {s : Nat} {v : Value} {n : Nat} {xs : List Value} (h : u.ownsRow base e s v n xs) : v.oneCell' = true := by
  rcases h.2 with ⟨rfl, _⟩ | ⟨g, cap, cur, rfl, _⟩ <;> rfl
theorem OwnThreads.set {u : World} {base : Nat} {tv : Value} {vs : List Value} {cs : List (List InsD)} (h : OwnThreads u base tv vs cs) {p : Addr} (hp : p.block < base) (x : Value) : OwnThreads (u.setCell p x) base tv vs cs :=
  ⟨h.len, ownsRow_setCell_below h.thr hp x, fun k v c hv hc => ownsRow_setCell_below (h.code k v c hv hc) hp x, h.apartT, h.apartV⟩
/-- The thread that was made goes behind the others. -/
theorem MakeSt.push {w u u' : World} {tv tv' v : Value} {vs : List Value} {cs : List (List InsD)} {c : List InsD} (h : CodeSt w u tv vs cs v c)
    (hrow : u'.ownsRow (w.heap.size + 3) 34 1 tv' (vs.length + 1) (vs ++ [v])) (hg : u.grownBy u' tv.ownBlock) (hat : tv'.ownBlock = tv.ownBlock ∨ tv'.ownBlock = some u.heap.size) :
    u'.heap[w.heap.size + 1 + 1]? = some (.cells #[.int .i64 2, .int .i64 1, .int .i64 1, .slice (some ⟨w.heap.size + 1, 0, none⟩) 1 1, .int .i64 1, .int .i64 1, tv] 28) ∧
    MakeSt w (u'.setCell ⟨w.heap.size + 1 + 1, 6, none⟩ tv') tv' (vs ++ [v]) (cs ++ [c]) := by
  have hs := h.st.siz
  have hne : ∀ k, k < w.heap.size + 3 → some k ≠ tv.ownBlock := fun k hk e => by have := (own_lt h.st.own.thr k e.symm).2; omega
  have hbx := (hg.block _ (by omega) (hne _ (by omega))).trans h.st.box
  refine ⟨hbx, (h.st.own.snoc h.row h.apT.symm h.apV hrow hg hat).set (by show w.heap.size + 1 + 1 < _; omega) _, ?_, ?_, ?_, ?_, ?_⟩
  · rw [heap_setCell_same _ _ _ _ _ _ hbx]; rfl
  · rw [heap_setCell_other _ _ _ _ (by show w.heap.size + 1 ≠ w.heap.size + 1 + 1; omega)]; exact (hg.block _ (by omega) (hne _ (by omega))).trans h.st.chn
  · rw [heap_setCell_other _ _ _ _ (by show w.heap.size ≠ w.heap.size + 1 + 1; omega)]; exact (hg.block _ (by omega) (hne _ (by omega))).trans h.st.res
  · exact (h.st.bel.grown hg (by omega) (fun k e => by have := (own_lt h.st.own.thr k e).2; omega)).setCell (p := ⟨w.heap.size + 1 + 1, 6, none⟩) (by show w.heap.size ≤ w.heap.size + 1 + 1; omega) _
  · have := hg.size; have e : (u'.setCell ⟨w.heap.size + 1 + 1, 6, none⟩ tv').heap.size = u'.heap.size := by simp [World.setCell]
    omega
theorem keepTwo {u u' : World} {b o o' : Nat} {v v' : Value} (h : u.cell? ⟨b, o, none⟩ = some v ∧ u.cell? ⟨b, o', none⟩ = some v') (hB : Below u.heap.size u u') : u'.cell? ⟨b, o, none⟩ = some v ∧ u'.cell? ⟨b, o', none⟩ = some v' :=
  ⟨(hB.cell (p := ⟨b, o, none⟩) (cell_lt h.1)).trans h.1, (hB.cell (p := ⟨b, o', none⟩) (cell_lt h.2)).trans h.2⟩
/-- Where the choices' bytes are loaded. -/
def RelC (w wr : World) (v : Value) (w' : World) : Prop :=
  w' = wr ∧ ∃ (r : List Int) (ar : Option Addr) (capr : Nat), v = .slice ar r.length capr ∧ RowOf .u8 w w.heap.size ar r ∧ (∀ m ∈ r, 0 ≤ m ∧ m < 256) ∧ r.length ≤ 9223372036854775807
/-- How many instructions are chosen. -/
def RelD (len : Nat) (wr : World) (v : Value) (w' : World) : Prop := w' = wr ∧ ∃ m : Nat, v = .int .i64 m ∧ m ≤ 9 ∧ m * 2 ≤ len
theorem make_any (rows : List (List Int)) (a : Option Addr) (cap : Nat) (w : World) (hl : rows.length ≤ 9223372036854775807) (hr : BytesIn w w.heap.size a rows) :
    Calls Try.prog 13 #[.slice a rows.length cap] w (MadePost w) := by
  obtain ⟨i0, hi, hz0, hz1, hz2⟩ := info_parts info_insT
  obtain ⟨j0, hj, hy0, hy1, hy2⟩ := info_parts info_codeT
  have HR := Lib.hid hr
  clear hr
  go_enter Try.func13, Try.ntmps13
  go_upto_region 2 with (fail)
  generalize hW : World.alloc (World.alloc (World.alloc w _) _) _ = W
  have HM : Hid (MakeSt w W (.slice none 0 0) [] []) := by
    rw [← hW]
    exact ⟨OwnThreads.nil _ _, by have := heap_alloc_new ((w.alloc (.cells #[.int .i64 0, .int .i64 0, .int .i64 0, .slice none 0 0, .int .i64 0, .int .i64 0, .slice none 0 0] 28)).alloc (.cells #[.int .i64 1] 3)) (.cells #[.int .i64 2, .int .i64 1, .int .i64 1, .slice (some ⟨w.heap.size + 1, 0, none⟩) 1 1, .int .i64 1, .int .i64 1, .slice none 0 0] 28); simpa using this,
      (Below.heap_alloc _ _ _ (by simp)).trans (heap_alloc2_new _ _ _), (Below.heap_alloc _ _ _ (by simp; omega)).trans (heap_alloc2_old _ _ _), (((Below.refl _ _).alloc (Nat.le_refl _) _).alloc (by simp) _).alloc (by simp; omega) _, by simp⟩
  clear hW
  go_cut [4] (fun n w' => w' = W ∧ ∃ k : Nat, n = .int .i64 k ∧ 1 ≤ k ∧ k ≤ 3)
  case first =>
    by_cases h3 : 3 < rows.length
    · have h3' : (3 : Int) < (rows.length : Int) := by omega
      go_wp2
      all_goals go_meet
      all_goals exact ⟨rfl, 3, rfl, by decide, by decide⟩
    · by_cases h1 : rows.length < 1
      · have h1' : (rows.length : Int) < 1 := by omega
        have h3' : (rows.length : Int) ≤ 3 := by omega
        go_wp2
        all_goals go_meet
        all_goals exact ⟨rfl, 1, rfl, by decide, by decide⟩
      · have h1' : (1 : Int) ≤ (rows.length : Int) := by omega
        have h3' : (rows.length : Int) ≤ 3 := by omega
        go_wp2
        all_goals go_meet
        all_goals exact ⟨rfl, rows.length, rfl, by omega, by omega⟩
  case rest =>
    obtain ⟨rfl, n, rfl, hn1, hn3⟩ := hcut
    go_wp2_with fail
    go_loopw [5] (fun i u => Rel0 w n i u) (fun i _ => n - (intOf i).toNat)
    case atStart => exact ⟨0, [], [], _, Nat.zero_le _, rfl, rfl, HM.out, by simp⟩
    case round =>
      obtain ⟨k, cs, vs, tv, hk, rfl, hL, hS, hG⟩ := hrel
      have HL := Lib.hid hL
      have HS := Lib.hid hS
      have HG := Lib.hid hG
      clear hL hS hG
      by_cases hlt : k < n
      · have hlt' : (k : Int) < (n : Int) := by omega
        go_wp2_with fail
        go_loopw [6, 7] (fun v j u1 => Rel1 w n k tv vs cs v j u1) (fun _ j _ => n - (intOf j).toNat)
        case atStart => exact ⟨1, [], by omega, by omega, rfl, ⟨HS.out, World.ownsRow_nil _ _ _ _, Apart.symm (.inl rfl), fun i b _ => Apart.symm (.inl rfl)⟩, by simp, by simp⟩
        case round =>
          obtain ⟨q, c, hq1, hqn, rfl, hC, hcl, hGo⟩ := hrel
          have HC := Lib.hid hC
          have HCl := Lib.hid hcl
          have HGo := Lib.hid hGo
          clear hC hcl hGo
          by_cases hlq : q < n ∧ k = 0
          · obtain ⟨hlq, hk0⟩ := hlq
            have hlq' : decide ((q : Int) < (n : Int)) = true := by simp; omega
            have hk0' : ((k : Int) == 0) = true := by simp [hk0]
            have hcl : c.length ≤ 3 := by have := HCl.out; rw [if_pos hk0] at this; omega
            have HK := Lib.hid hk0
            clear hk0
            go_wp2_with (first
              | (at_builtin; refine wpList_append_own_at _ rfl _ _ 34 rfl (w.heap.size + 3) 49 i0 (.agg #[.int .u8 0, .int .i64 0, .int .i64 0, .int .i64 0]) 4 32 Try.underlying34 hi hz0 hz1 hz2 rfl (by decide) u6 _ _ rfl (own_later HC.out.row ((Below.refl _ _).alloc (Nat.le_refl _) _)) ⟨wr.heap.size, 0, none⟩ 1 1 (insCells ⟨12, q, 0, 0⟩) rfl rfl (cells_ins_new _ ⟨12, q, 0, 0⟩ _) (ins_one _) (by unfold maxLen; omega) (by omega) (by have := HC.out.st.siz; simp; omega) ?_; intro v' w2 hown2 hgrow2 _ hat2; have HX := Lib.hid ((HC.out.later ((Below.refl _ _).alloc (Nat.le_refl _) _)).more hown2 hgrow2 hat2); clear hown2 hgrow2 hat2))
            go_roundw
            case rel => exact ⟨q + 1, _, by omega, by omega, by go_num, HX.out, by rw [if_pos HK.out, List.length_append, HCl.out, if_pos HK.out]; simp; omega, fun x hx => by
              rcases List.mem_append.1 hx with h | h
              · exact HGo.out x h
              · simp at h; subst h; exact ⟨q, rfl, by omega, by omega⟩⟩
            case measure => simp [intOf]; omega
          · have hstop : (decide ((q : Int) < (n : Int)) && ((k : Int) == 0)) = false := by
              by_cases h1 : q < n
              · have h2 : k ≠ 0 := fun e => hlq ⟨h1, e⟩
                simp; omega
              · simp; omega
            have hc3 : c.length ≤ 2 := by have := HCl.out; split at this <;> omega
            obtain ⟨ac, capc, e6, _⟩ := code_in HC.out.row
            subst e6
            rcases Nat.lt_or_ge q n with h1 | h1
            · have hd1 : decide ((q : Int) < (n : Int)) = true := by simp; omega
              have hd2 : ((k : Int) == 0) = false := by
                have h2 : k ≠ 0 := fun e => hlq ⟨h1, e⟩
                simp; omega
              clear hstop
              go_upto_if 42 with (fail)
              go_cut [9] (fun v w' => RelC w wr v w')
              case first =>
                by_cases hkr : k < rows.length
                · obtain ⟨r, hr'⟩ := at_lt hkr
                  obtain ⟨b, off, rfl, hb, a', cap', hcel, hrow, hby, hlen⟩ := HR.out k r hr'
                  have hcel' := (HC.out.st.bel.cell (p := ⟨b, off + k, none⟩) hb).trans hcel
                  have HRow := Lib.hid hrow
                  have HBy := Lib.hid hby
                  have hd : decide (k < rows.length) = true := by simp [hkr]
                  clear hr' hcel hrow hby
                  go_wp2
                  go_meet
                  exact ⟨rfl, r, a', cap', rfl, HRow.out, HBy.out, hlen⟩
                · have hd : decide (k < rows.length) = false := by simp; omega
                  go_wp2
                  go_meet
                  exact ⟨rfl, [], none, 0, rfl, RowOf.nil _ _ _ _, by simp, by simp⟩
              case rest =>
                obtain ⟨rfl, r, ar, capr, rfl, hrow, hby, hrl⟩ := hcut
                have HRow := Lib.hid hrow
                have HBy := Lib.hid hby
                clear hrow hby
                go_upto_region 15 with (fail)
                go_cut [10] (fun v w' => RelD r.length wc v w')
                case first =>
                  by_cases h9 : 9 < r.length / 2
                  · have h9' : (9 : Int) < (r.length : Int) / 2 := by omega
                    go_wp2
                    all_goals go_meet
                    all_goals exact ⟨rfl, 9, rfl, by omega, by omega⟩
                  · have h9' : (r.length : Int) / 2 ≤ 9 := by omega
                    go_wp2
                    all_goals go_meet
                    all_goals exact ⟨rfl, r.length / 2, congrArg (Value.int .i64) (by omega), by omega, by omega⟩
                case rest =>
                  obtain ⟨rfl, m, rfl, hm9, hm2⟩ := hcut
                  go_wp2_with fail
                  go_loopw [6, 11] (fun v j u => Rel2 w n m c.length tv vs cs v j u) (fun _ j _ => m - (intOf j).toNat)
                  case atStart => exact ⟨0, c, Nat.zero_le _, rfl, HC.out, by omega, fun x hx => .inr (HGo.out x hx)⟩
                  case round =>
                    obtain ⟨q2, c2, hq2, rfl, hC2, hcl2, hG2⟩ := hrel
                    have HC2 := Lib.hid hC2
                    have HCl2 := Lib.hid hcl2
                    have HG2 := Lib.hid hG2
                    have hc11 : c2.length ≤ 11 := by omega
                    clear hC2 hcl2 hG2
                    by_cases hl2 : q2 < m
                    · have hl2' : (q2 : Int) < (m : Int) := by omega
                      obtain ⟨z0, hz0'⟩ := at_lt (l := r) (k := 2 * q2) (by omega)
                      obtain ⟨z1, hz1'⟩ := at_lt (l := r) (k := 2 * q2 + 1) (by omega)
                      obtain ⟨b, off, rfl, hb, hcz0⟩ := HRow.out _ z0 hz0'
                      obtain ⟨b2, off2, e2, hb2, hcz1⟩ := HRow.out _ z1 hz1'
                      cases e2
                      obtain ⟨y0, rfl⟩ := Int.eq_ofNat_of_zero_le (HBy.out z0 (List.mem_of_getElem? hz0')).1
                      obtain ⟨y1, rfl⟩ := Int.eq_ofNat_of_zero_le (HBy.out z1 (List.mem_of_getElem? hz1')).1
                      have hy0b : y0 < 256 := by have := (HBy.out _ (List.mem_of_getElem? hz0')).2; omega
                      have hy1b : y1 < 256 := by have := (HBy.out _ (List.mem_of_getElem? hz1')).2; omega
                      have d0 := (HC2.out.st.bel.cell (p := ⟨b, off + 2 * q2, none⟩) hb).trans hcz0
                      have d1 := (HC2.out.st.bel.cell (p := ⟨b, off + (2 * q2 + 1), none⟩) hb).trans hcz1
                      have hi0 : (2 * (q2 : Int)) < (r.length : Int) := by omega
                      have hi1 : (2 * (q2 : Int) + 1) < (r.length : Int) := by omega
                      have hn0 : (0 : Int) ≤ 2 * (q2 : Int) := by omega
                      have hn1' : (0 : Int) ≤ 2 * (q2 : Int) + 1 := by omega
                      have ht0 : (2 * (q2 : Int)).toNat = 2 * q2 := by omega
                      have ht1 : (2 * (q2 : Int) + 1).toNat = 2 * q2 + 1 := by omega
                      have hx1 : IntKind.i64.wrap (2 * (q2 : Int)) = 2 * (q2 : Int) := IntWalk.i64_in _ (by omega)
                      have hx2 : IntKind.i64.wrap (2 * (q2 : Int) + 1) = 2 * (q2 : Int) + 1 := IntWalk.i64_in _ (by omega)
                      have hx3 : IntKind.i64.wrap ((c.length : Int) + (q2 : Int)) = (c.length : Int) + (q2 : Int) := IntWalk.i64_in _ (by omega)
                      have hx4 : IntKind.i64.wrap ((c.length : Int) + (m : Int)) = (c.length : Int) + (m : Int) := IntWalk.i64_in _ (by omega)
                      have HI := Lib.hid (fun u => ins_any y0 y1 ((c.length : Int) + (q2 : Int)) ((c.length : Int) + (m : Int)) u hy0b hy1b (by omega) (by omega) (by omega))
                      have HZ0 := Lib.hid hcz0
                      have HZ1 := Lib.hid hcz1
                      clear hz0' hz1' hcz0 hcz1
                      go_wp2_with fail
                      go_region_held3 (fun u => u.cell? ⟨b, off + 2 * q2, none⟩ = some (.int .u8 (y0 : Int)) ∧ u.cell? ⟨b, off + (2 * q2 + 1), none⟩ = some (.int .u8 (y1 : Int))) (first | exact ⟨d0, d1⟩ | exact ⟨(HX5.out.st.bel.cell (p := ⟨b, off + 2 * q2, none⟩) hb).trans HZ0.out, (HX5.out.st.bel.cell (p := ⟨b, off + (2 * q2 + 1), none⟩) hb).trans HZ1.out⟩ | exact keepTwo (by assumption) ((Below.refl _ _).alloc (Nat.le_refl _) _) | exact keepTwo (by assumption) hB3)
                        (first
                          | ((rw [if_pos (by rfl)]); refine wp_append_own_at _ (.tmp 56) (.tmp 75) 34 rfl (w.heap.size + 3) 49 i0 (.agg #[.int .u8 0, .int .i64 0, .int .i64 0, .int .i64 0]) 4 32 Try.underlying34 hi hz0 hz1 hz2 rfl (by decide) u6 _ _ rfl (own_later HX3.out.row ((Below.refl _ _).alloc (Nat.le_refl _) _)) ⟨w3.heap.size, 0, none⟩ 1 1 (insCells x) rfl rfl (cells_ins_new _ x _) (ins_one _) (by unfold maxLen; omega) (by omega) (by have := HX3.out.st.siz; simp; omega) ?_; intro v' w5 hown5 hgrow5 _ hat5; have HX5 := Lib.hid ((HX3.out.later ((Below.refl _ _).alloc (Nat.le_refl _) _)).more hown5 hgrow5 hat5); clear hown5 hgrow5 hat5)
                          | (go_at_call 30; refine (HI.out _).mono ?_; rintro e w3 ⟨x, rfl, hx, hB3⟩; have HX3 := Lib.hid (HC2.out.later (show Below wr.heap.size wr w3 from ⟨hB3.os, hB3.tape, hB3.output, hB3.size, hB3.block⟩)); have HIns := Lib.hid hx))
                      clear hx1 hx2 hx3 hx4 ht0 ht1 hi0 hi1 hn0 hn1' d0 d1
                      go_wp2
                      go_roundw
                      case rel => exact ⟨q2 + 1, c2 ++ [x], by omega, by go_num, HX5.out, by rw [List.length_append, HCl2.out]; simp; omega, fun y hy => by
                        rcases List.mem_append.1 hy with h | h
                        · exact HG2.out y h
                        · simp at h; subst h; exact .inl HIns.out⟩
                      case measure => simp [intOf]; omega
                    · obtain rfl : q2 = m := by omega
                      have hc6 : wr.cell? ⟨w.heap.size + 1 + 1, 6, none⟩ = some tv := cell_of_row _ _ _ _ _ _ HC2.out.st.box
                      have hvl : vs.length ≤ 3 := by have := HC2.out.st.own.len; have := HL.out; omega
                      obtain ⟨a6, cap6, e6, _⟩ := code_in HC2.out.row
                      subst e6
                      have HOne := Lib.hid (thr_one4 HC2.out.row)
                      go_wp2_with (first
                        | (at_builtin; refine wpList_append_own_at _ rfl _ _ 26 rfl (w.heap.size + 3) 34 j0 (.slice none 0 0) 1 24 Try.underlying26 hj hy0 hy1 hy2 rfl (by decide) tv _ _ rfl (own_later HC2.out.st.own.thr ((Below.refl _ _).alloc (Nat.le_refl _) _)) ⟨wr.heap.size, 0, none⟩ 1 1 [.slice a6 c2.length cap6] rfl rfl (cell_one_new _ _ _) (by simp [Value.oneCell']) (by unfold maxLen; omega) (by omega) (by have := HC2.out.st.siz; simp; omega) ?_; intro tv' w6 hown6 hgrow6 _ hat6; obtain ⟨g7, cap7, rfl⟩ := ownsRow_succ hown6; obtain ⟨hbx, hst⟩ := MakeSt.push (HC2.out.later ((Below.refl _ _).alloc (Nat.le_refl _) _)) hown6 hgrow6 hat6; have hcb := cell_of_row _ _ 6 _ _ _ hbx; have hfb := frozen_of_row _ _ 6 _ _ hbx; have HSt := Lib.hid hst; clear hown6 hgrow6 hat6 hbx hst))
                      go_roundw
                      case rel => exact ⟨k + 1, cs ++ [c2], _, _, by omega, by go_num, by rw [List.length_append, HL.out]; rfl, HSt.out, fun d hd => by
                        rcases List.mem_append.1 hd with h | h
                        · exact HG.out d h
                        · simp at h; subst h
                          refine ⟨hc11, fun x hx => ?_⟩
                          have e : ((d.length : Nat) : Int) = (c.length : Int) + (q2 : Int) := by rw [HCl2.out]; simp
                          rw [e]; exact HG2.out x hx⟩
                      case measure => simp [intOf]; omega
            · have hd1 : decide ((q : Int) < (n : Int)) = false := by simp; omega
              clear hstop
              go_upto_if 42 with (fail)
              go_cut [9] (fun v w' => RelC w wr v w')
              case first =>
                by_cases hkr : k < rows.length
                · obtain ⟨r, hr'⟩ := at_lt hkr
                  obtain ⟨b, off, rfl, hb, a', cap', hcel, hrow, hby, hlen⟩ := HR.out k r hr'
                  have hcel' := (HC.out.st.bel.cell (p := ⟨b, off + k, none⟩) hb).trans hcel
                  have HRow := Lib.hid hrow
                  have HBy := Lib.hid hby
                  have hd : decide (k < rows.length) = true := by simp [hkr]
                  clear hr' hcel hrow hby
                  go_wp2
                  go_meet
                  exact ⟨rfl, r, a', cap', rfl, HRow.out, HBy.out, hlen⟩
                · have hd : decide (k < rows.length) = false := by simp; omega
                  go_wp2
                  go_meet
                  exact ⟨rfl, [], none, 0, rfl, RowOf.nil _ _ _ _, by simp, by simp⟩
              case rest =>
                obtain ⟨rfl, r, ar, capr, rfl, hrow, hby, hrl⟩ := hcut
                have HRow := Lib.hid hrow
                have HBy := Lib.hid hby
                clear hrow hby
                go_upto_region 15 with (fail)
                go_cut [10] (fun v w' => RelD r.length wc v w')
                case first =>
                  by_cases h9 : 9 < r.length / 2
                  · have h9' : (9 : Int) < (r.length : Int) / 2 := by omega
                    go_wp2
                    all_goals go_meet
                    all_goals exact ⟨rfl, 9, rfl, by omega, by omega⟩
                  · have h9' : (r.length : Int) / 2 ≤ 9 := by omega
                    go_wp2
                    all_goals go_meet
                    all_goals exact ⟨rfl, r.length / 2, congrArg (Value.int .i64) (by omega), by omega, by omega⟩
                case rest =>
                  obtain ⟨rfl, m, rfl, hm9, hm2⟩ := hcut
                  go_wp2_with fail
                  go_loopw [6, 11] (fun v j u => Rel2 w n m c.length tv vs cs v j u) (fun _ j _ => m - (intOf j).toNat)
                  case atStart => exact ⟨0, c, Nat.zero_le _, rfl, HC.out, by omega, fun x hx => .inr (HGo.out x hx)⟩
                  case round =>
                    obtain ⟨q2, c2, hq2, rfl, hC2, hcl2, hG2⟩ := hrel
                    have HC2 := Lib.hid hC2
                    have HCl2 := Lib.hid hcl2
                    have HG2 := Lib.hid hG2
                    have hc11 : c2.length ≤ 11 := by omega
                    clear hC2 hcl2 hG2
                    by_cases hl2 : q2 < m
                    · have hl2' : (q2 : Int) < (m : Int) := by omega
                      obtain ⟨z0, hz0'⟩ := at_lt (l := r) (k := 2 * q2) (by omega)
                      obtain ⟨z1, hz1'⟩ := at_lt (l := r) (k := 2 * q2 + 1) (by omega)
                      obtain ⟨b, off, rfl, hb, hcz0⟩ := HRow.out _ z0 hz0'
                      obtain ⟨b2, off2, e2, hb2, hcz1⟩ := HRow.out _ z1 hz1'
                      cases e2
                      obtain ⟨y0, rfl⟩ := Int.eq_ofNat_of_zero_le (HBy.out z0 (List.mem_of_getElem? hz0')).1
                      obtain ⟨y1, rfl⟩ := Int.eq_ofNat_of_zero_le (HBy.out z1 (List.mem_of_getElem? hz1')).1
                      have hy0b : y0 < 256 := by have := (HBy.out _ (List.mem_of_getElem? hz0')).2; omega
                      have hy1b : y1 < 256 := by have := (HBy.out _ (List.mem_of_getElem? hz1')).2; omega
                      have d0 := (HC2.out.st.bel.cell (p := ⟨b, off + 2 * q2, none⟩) hb).trans hcz0
                      have d1 := (HC2.out.st.bel.cell (p := ⟨b, off + (2 * q2 + 1), none⟩) hb).trans hcz1
                      have hi0 : (2 * (q2 : Int)) < (r.length : Int) := by omega
                      have hi1 : (2 * (q2 : Int) + 1) < (r.length : Int) := by omega
                      have hn0 : (0 : Int) ≤ 2 * (q2 : Int) := by omega
                      have hn1' : (0 : Int) ≤ 2 * (q2 : Int) + 1 := by omega
                      have ht0 : (2 * (q2 : Int)).toNat = 2 * q2 := by omega
                      have ht1 : (2 * (q2 : Int) + 1).toNat = 2 * q2 + 1 := by omega
                      have hx1 : IntKind.i64.wrap (2 * (q2 : Int)) = 2 * (q2 : Int) := IntWalk.i64_in _ (by omega)
                      have hx2 : IntKind.i64.wrap (2 * (q2 : Int) + 1) = 2 * (q2 : Int) + 1 := IntWalk.i64_in _ (by omega)
                      have hx3 : IntKind.i64.wrap ((c.length : Int) + (q2 : Int)) = (c.length : Int) + (q2 : Int) := IntWalk.i64_in _ (by omega)
                      have hx4 : IntKind.i64.wrap ((c.length : Int) + (m : Int)) = (c.length : Int) + (m : Int) := IntWalk.i64_in _ (by omega)
                      have HI := Lib.hid (fun u => ins_any y0 y1 ((c.length : Int) + (q2 : Int)) ((c.length : Int) + (m : Int)) u hy0b hy1b (by omega) (by omega) (by omega))
                      have HZ0 := Lib.hid hcz0
                      have HZ1 := Lib.hid hcz1
                      clear hz0' hz1' hcz0 hcz1
                      go_wp2_with fail
                      go_region_held3 (fun u => u.cell? ⟨b, off + 2 * q2, none⟩ = some (.int .u8 (y0 : Int)) ∧ u.cell? ⟨b, off + (2 * q2 + 1), none⟩ = some (.int .u8 (y1 : Int))) (first | exact ⟨d0, d1⟩ | exact ⟨(HX5.out.st.bel.cell (p := ⟨b, off + 2 * q2, none⟩) hb).trans HZ0.out, (HX5.out.st.bel.cell (p := ⟨b, off + (2 * q2 + 1), none⟩) hb).trans HZ1.out⟩ | exact keepTwo (by assumption) ((Below.refl _ _).alloc (Nat.le_refl _) _) | exact keepTwo (by assumption) hB3)
                        (first
                          | ((rw [if_pos (by rfl)]); refine wp_append_own_at _ (.tmp 56) (.tmp 75) 34 rfl (w.heap.size + 3) 49 i0 (.agg #[.int .u8 0, .int .i64 0, .int .i64 0, .int .i64 0]) 4 32 Try.underlying34 hi hz0 hz1 hz2 rfl (by decide) u6 _ _ rfl (own_later HX3.out.row ((Below.refl _ _).alloc (Nat.le_refl _) _)) ⟨w3.heap.size, 0, none⟩ 1 1 (insCells x) rfl rfl (cells_ins_new _ x _) (ins_one _) (by unfold maxLen; omega) (by omega) (by have := HX3.out.st.siz; simp; omega) ?_; intro v' w5 hown5 hgrow5 _ hat5; have HX5 := Lib.hid ((HX3.out.later ((Below.refl _ _).alloc (Nat.le_refl _) _)).more hown5 hgrow5 hat5); clear hown5 hgrow5 hat5)
                          | (go_at_call 30; refine (HI.out _).mono ?_; rintro e w3 ⟨x, rfl, hx, hB3⟩; have HX3 := Lib.hid (HC2.out.later (show Below wr.heap.size wr w3 from ⟨hB3.os, hB3.tape, hB3.output, hB3.size, hB3.block⟩)); have HIns := Lib.hid hx))
                      clear hx1 hx2 hx3 hx4 ht0 ht1 hi0 hi1 hn0 hn1' d0 d1
                      go_wp2
                      go_roundw
                      case rel => exact ⟨q2 + 1, c2 ++ [x], by omega, by go_num, HX5.out, by rw [List.length_append, HCl2.out]; simp; omega, fun y hy => by
                        rcases List.mem_append.1 hy with h | h
                        · exact HG2.out y h
                        · simp at h; subst h; exact .inl HIns.out⟩
                      case measure => simp [intOf]; omega
                    · obtain rfl : q2 = m := by omega
                      have hc6 : wr.cell? ⟨w.heap.size + 1 + 1, 6, none⟩ = some tv := cell_of_row _ _ _ _ _ _ HC2.out.st.box
                      have hvl : vs.length ≤ 3 := by have := HC2.out.st.own.len; have := HL.out; omega
                      obtain ⟨a6, cap6, e6, _⟩ := code_in HC2.out.row
                      subst e6
                      have HOne := Lib.hid (thr_one4 HC2.out.row)
                      go_wp2_with (first
                        | (at_builtin; refine wpList_append_own_at _ rfl _ _ 26 rfl (w.heap.size + 3) 34 j0 (.slice none 0 0) 1 24 Try.underlying26 hj hy0 hy1 hy2 rfl (by decide) tv _ _ rfl (own_later HC2.out.st.own.thr ((Below.refl _ _).alloc (Nat.le_refl _) _)) ⟨wr.heap.size, 0, none⟩ 1 1 [.slice a6 c2.length cap6] rfl rfl (cell_one_new _ _ _) (by simp [Value.oneCell']) (by unfold maxLen; omega) (by omega) (by have := HC2.out.st.siz; simp; omega) ?_; intro tv' w6 hown6 hgrow6 _ hat6; obtain ⟨g7, cap7, rfl⟩ := ownsRow_succ hown6; obtain ⟨hbx, hst⟩ := MakeSt.push (HC2.out.later ((Below.refl _ _).alloc (Nat.le_refl _) _)) hown6 hgrow6 hat6; have hcb := cell_of_row _ _ 6 _ _ _ hbx; have hfb := frozen_of_row _ _ 6 _ _ hbx; have HSt := Lib.hid hst; clear hown6 hgrow6 hat6 hbx hst))
                      go_roundw
                      case rel => exact ⟨k + 1, cs ++ [c2], _, _, by omega, by go_num, by rw [List.length_append, HL.out]; rfl, HSt.out, fun d hd => by
                        rcases List.mem_append.1 hd with h | h
                        · exact HG.out d h
                        · simp at h; subst h
                          refine ⟨hc11, fun x hx => ?_⟩
                          have e : ((d.length : Nat) : Int) = (c.length : Int) + (q2 : Int) := by rw [HCl2.out]; simp
                          rw [e]; exact HG2.out x hx⟩
                      case measure => simp [intOf]; omega
      · obtain rfl : k = n := by omega
        have HO := Lib.hid (thr_one HS.out.own.thr)
        go_wp2_with (first
          | (refine wpList_load_row rfl 28 (.tmp 3) rfl (w.heap.size + 1 + 1) rfl 28 _ (0, 0) _ HS.out.box Try.underlying28 rfl info_prog ?_)
          | (refine wpList_store_row rfl 28 (.tmp 2) (.tmp 83) rfl w.heap.size _ rfl rfl 28 _ HS.out.res info_prog rfl (prog_one HO.out) ?_))
        refine bodyPost_ret (v := .agg #[.int .i64 2, .int .i64 1, .int .i64 1, .slice (some ⟨w.heap.size + 1, 0, none⟩) 1 1, .int .i64 1, .int .i64 1, tv]) (results_cell_row rfl _ _ w.heap.size 28 _ (0, 0) _ rfl (setRow_heap _ _ _ _ _ _ HS.out.res) Try.underlying28 rfl info_prog) rfl ?_
        have hset : Below w.heap.size w (wr.setRow w.heap.size #[.int .i64 2, .int .i64 1, .int .i64 1, .slice (some ⟨w.heap.size + 1, 0, none⟩) 1 1, .int .i64 1, .int .i64 1, tv]) := below_setRow HS.out.bel (Nat.le_refl _) _
        exact ⟨cs, vs, tv, rfl, HS.out.own.row (by omega) _, (setRow_other _ _ _ _ (by omega)).trans HS.out.chn, ⟨by rw [HL.out]; exact hn1, by rw [HL.out]; exact hn3⟩, by rw [HL.out]; exact HG.out, hset⟩
theorem set_at {α : Type} {l : List α} {k j : Nat} {x y : α} (h : (l.set k x)[j]? = some y) : (j = k ∧ y = x ∧ k < l.length) ∨ (j ≠ k ∧ l[j]? = some y) := by
  by_cases e : j = k
  · subst e
    left
    have hk : j < l.length := by have := (List.getElem?_eq_some_iff.1 h).1; simpa using this
    rw [List.getElem?_set_self hk] at h
    exact ⟨rfl, (Option.some.inj h).symm, hk⟩
  · right; rw [List.getElem?_set_ne (fun e' => e e'.symm)] at h; exact ⟨e, h⟩
/-- A thread that an instruction was appended to is laid in its place again. -/
theorem OwnThreads.grow {u u' : World} {base : Nat} {g cap k : Nat} {v v' : Value} {vs : List Value} {cs : List (List InsD)} {c : List InsD} {x : InsD} (h : OwnThreads u base (.slice (some ⟨g, 0, none⟩) cs.length cap) vs cs)
    (hv : vs[k]? = some v) (hc : cs[k]? = some c) (hown : u'.ownsRow base 49 4 v' (c.length + 1) (codeCells c ++ insCells x)) (hg : u.grownBy u' v.ownBlock) (hat : v'.ownBlock = v.ownBlock ∨ v'.ownBlock = some u.heap.size) :
    OwnThreads (u'.setCell ⟨g, k, none⟩ v') base (.slice (some ⟨g, 0, none⟩) cs.length cap) (vs.set k v') (cs.set k (c ++ [x])) := by
  have hkl : k < vs.length := (List.getElem?_eq_some_iff.1 hv).1
  have hl := h.len
  have hthr : u'.ownsRow base 34 1 (.slice (some ⟨g, 0, none⟩) cs.length cap) vs.length vs := own_beside h.thr hg (h.apartT k v hv).symm
  have hTv : Apart (.slice (some ⟨g, 0, none⟩) cs.length cap) v' := apart_append h.thr (h.apartT k v hv).symm hat
  have hgv : v'.ownBlock ≠ some g := fun e => by
    rcases hTv with h1 | h1
    · simp [Value.ownBlock] at h1
    · exact h1 (by rw [e]; rfl)
  have hVv : ∀ (j : Nat) (b : Value), j ≠ k → vs[j]? = some b → Apart b v' := fun j b hj hb => by
    obtain ⟨d, _, hd⟩ := h.codeOf hb
    exact apart_append hd (h.apartV j k b v hj hb hv) hat
  refine ⟨by simp [hl], ?_, fun j b d hb hd => ?_, fun j b hb => ?_, fun i j b b' hij hb hb' => ?_⟩
  · rcases hthr.2 with ⟨e, _⟩ | ⟨g', cap', cur, e, hb, hh, hle, hm, hs, ht⟩
    · cases e
    · simp only [Value.slice.injEq, Option.some.injEq, Addr.mk.injEq] at e
      obtain ⟨⟨rfl, _⟩, _, rfl⟩ := e
      refine ⟨by simp, .inr ⟨g, cap, cur.setIfInBounds k v', by simp [hl], hb, heap_setCell_same _ _ _ _ _ _ hh, by simpa [hl] using hle, hm, by simpa using hs, ?_⟩⟩
      simp only [Array.toList_setIfInBounds, List.length_set, Nat.mul_one] at ht ⊢
      rw [List.take_set, ht]
  · rcases set_at hb with ⟨ej, eb, _⟩ | ⟨hj, hb⟩
    · subst ej; subst eb
      rcases set_at hd with ⟨_, ed, _⟩ | ⟨hj, _⟩
      · subst ed
        rw [codeCells_snoc, List.length_append]
        exact ownsRow_setCell_other (a := ⟨g, j, none⟩) hown hgv b
      · exact absurd rfl hj
    · rcases set_at hd with ⟨e, _, _⟩ | ⟨_, hd⟩
      · exact absurd e hj
      · have h1 := own_beside (h.code j b d hb hd) hg (h.apartV j k b v hj hb hv)
        refine ownsRow_setCell_other (a := ⟨g, k, none⟩) h1 (fun e => ?_) v'
        rcases h.apartT j b hb with h2 | h2
        · rw [h2] at e; cases e
        · exact h2 (by rw [e]; rfl)
  · rcases set_at hb with ⟨rfl, rfl, _⟩ | ⟨hj, hb⟩
    · exact hTv.symm
    · exact h.apartT j b hb
  · rcases set_at hb with ⟨ei, eb, _⟩ | ⟨hi, hb2⟩
    · rcases set_at hb' with ⟨e, _, _⟩ | ⟨hj, hb2'⟩
      · exact absurd (ei.trans e.symm) hij
      · rw [eb]; exact (hVv j b' hj hb2').symm
    · rcases set_at hb' with ⟨e, eb, _⟩ | ⟨hj, hb'⟩
      · rw [eb]; exact hVv i b hi hb2
      · exact h.apartV i j b b' hij hb2 hb'
/-- A program of the laws' making. -/
def madeD (cs : List (List InsD)) : ProgD := ⟨2, 1, 1, [1], 1, 1, cs⟩
/-- The program lies as its value says. -/
theorem made_in {u : World} {base g : Nat} {tv : Value} {vs : List Value} {cs : List (List InsD)} {t : TypeId} {fr : Nat × Nat} (h : OwnThreads u base tv vs cs) (hc : u.heap[g]? = some (.cells #[.int .i64 1] t fr)) (hl : cs.length ≤ 1000) :
    ∃ ta tcap, tv = .slice ta cs.length tcap ∧ ProgIn u u.heap.size (madeD cs) (some ⟨g, 0, none⟩) ta := by
  obtain ⟨ta, tcap, rfl, hin⟩ := h.threads_in
  refine ⟨ta, tcap, rfl, fun i x hx => ?_, hin, by show 1 ≤ _; omega, by show cs.length ≤ _; omega⟩
  match i, hx with
  | 0, hx => cases hx; exact ⟨g, 0, rfl, (Array.getElem?_eq_some_iff.1 hc).1, cell_of_row _ _ _ _ _ _ hc⟩
  | i + 1, hx => simp [madeD] at hx
/-- A program of the laws' making lies: its threads, its box in block B, its channels' row. -/
structure ProgSt (w u : World) (B : Nat) (tv : Value) (vs : List Value) (cs : List (List InsD)) : Prop where
  own : OwnThreads u (w.heap.size + 3) tv vs cs
  box : u.heap[B]? = some (.cells #[.int .i64 2, .int .i64 1, .int .i64 1, .slice (some ⟨w.heap.size + 1, 0, none⟩) 1 1, .int .i64 1, .int .i64 1, tv] 28)
  chn : u.heap[w.heap.size + 1]? = some (.cells #[.int .i64 1] 3)
  bel : Below w.heap.size w u
theorem ProgSt.later {w u u' : World} {B : Nat} {tv : Value} {vs : List Value} {cs : List (List InsD)} (h : ProgSt w u B tv vs cs) (hB : Below u.heap.size u u') : ProgSt w u' B tv vs cs :=
  ⟨h.own.later hB, (hB.block _ (Array.getElem?_eq_some_iff.1 h.box).1).trans h.box, (hB.block _ (Array.getElem?_eq_some_iff.1 h.chn).1).trans h.chn, below_next h.bel hB⟩
theorem ProgSt.cells {w u : World} {B : Nat} {tv : Value} {vs : List Value} {cs : List (List InsD)} (h : ProgSt w u B tv vs cs) :
    u.cell? ⟨B, 0, none⟩ = some (.int .i64 2) ∧ u.cell? ⟨B, 1, none⟩ = some (.int .i64 1) ∧ u.cell? ⟨B, 2, none⟩ = some (.int .i64 1) ∧ u.cell? ⟨B, 3, none⟩ = some (.slice (some ⟨w.heap.size + 1, 0, none⟩) 1 1) ∧ u.cell? ⟨B, 4, none⟩ = some (.int .i64 1) ∧ u.cell? ⟨B, 5, none⟩ = some (.int .i64 1) ∧ u.cell? ⟨B, 6, none⟩ = some tv :=
  ⟨cell_of_row _ _ 0 _ _ _ h.box, cell_of_row _ _ 1 _ _ _ h.box, cell_of_row _ _ 2 _ _ _ h.box, cell_of_row _ _ 3 _ _ _ h.box, cell_of_row _ _ 4 _ _ _ h.box, cell_of_row _ _ 5 _ _ _ h.box, cell_of_row _ _ 6 _ _ _ h.box⟩
/-- A thread grows and is laid in its place: what lies then. -/
theorem ProgSt.grow {w u u' : World} {B g cap k : Nat} {v v' : Value} {vs : List Value} {cs : List (List InsD)} {c : List InsD} {x : InsD} (h : ProgSt w u B (.slice (some ⟨g, 0, none⟩) cs.length cap) vs cs) (hv : vs[k]? = some v) (hc : cs[k]? = some c)
    (hBv : ∀ b, v.ownBlock = some b → b ≠ B) (hBg : B ≠ g) (hown : u'.ownsRow (w.heap.size + 3) 49 4 v' (c.length + 1) (codeCells c ++ insCells x)) (hg : u.grownBy u' v.ownBlock) (hat : v'.ownBlock = v.ownBlock ∨ v'.ownBlock = some u.heap.size) :
    (u'.cell? ⟨g, k, none⟩ = some v ∧ u'.frozen? ⟨g, k, none⟩ = false ∧ u'.cell? ⟨B, 6, none⟩ = some (.slice (some ⟨g, 0, none⟩) cs.length cap)) ∧ ProgSt w (u'.setCell ⟨g, k, none⟩ v') B (.slice (some ⟨g, 0, none⟩) cs.length cap) (vs.set k v') (cs.set k (c ++ [x])) := by
  have hrow := h.own.code k v c hv hc
  have hkl : k < vs.length := (List.getElem?_eq_some_iff.1 hv).1
  have hgb := (own_lt h.own.thr g rfl)
  have hbase : w.heap.size + 3 ≤ u.heap.size := by omega
  have hne : ∀ b, b < w.heap.size + 3 → some b ≠ v.ownBlock := fun b hb e => by have := (own_lt hrow b e.symm).2; omega
  have hbx := (hg.block B (Array.getElem?_eq_some_iff.1 h.box).1 (fun e => hBv B e.symm rfl)).trans h.box
  have hcn := (hg.block (w.heap.size + 1) (by omega) (hne _ (by omega))).trans h.chn
  have hthr := own_beside h.own.thr hg (h.own.apartT k v hv).symm
  refine ⟨⟨?_, ?_, cell_of_row _ _ _ _ _ _ hbx⟩, h.own.grow hv hc hown hg hat, ?_, ?_, ?_⟩
  · rcases hthr.2 with ⟨e, _⟩ | ⟨g', cap', cur, e, hb, hh, hle, hm, hs, ht⟩
    · cases e
    · simp only [Value.slice.injEq, Option.some.injEq, Addr.mk.injEq] at e
      obtain ⟨⟨rfl, _⟩, _, rfl⟩ := e
      rw [cell_of_row _ _ _ _ _ _ hh, ← hv, ← ht, List.getElem?_take_of_lt (by omega)]
      simp
  · rcases hthr.2 with ⟨e, _⟩ | ⟨g', cap', cur, e, hb, hh, _⟩
    · cases e
    · simp only [Value.slice.injEq, Option.some.injEq, Addr.mk.injEq] at e
      obtain ⟨⟨rfl, _⟩, _, rfl⟩ := e
      exact frozen_of_row _ _ _ _ _ hh
  · rw [heap_setCell_other _ _ _ _ hBg]; exact hbx
  · rw [heap_setCell_other _ _ _ _ (by show w.heap.size + 1 ≠ g; omega)]; exact hcn
  · exact (h.bel.grown hg (by omega) (fun b e => by have := (own_lt hrow b e).2; omega)).setCell (p := ⟨g, k, none⟩) (by show w.heap.size ≤ g; omega) _
/-- A store into a block that is none of theirs. -/
theorem OwnThreads.setOff {u : World} {base : Nat} {tv : Value} {vs : List Value} {cs : List (List InsD)} (h : OwnThreads u base tv vs cs) {B : Nat} (hT : tv.ownBlock ≠ some B) (hV : ∀ (k : Nat) (v : Value), vs[k]? = some v → v.ownBlock ≠ some B) (j : Nat) (x : Value) : OwnThreads (u.setCell ⟨B, j, none⟩ x) base tv vs cs :=
  ⟨h.len, ownsRow_setCell_other (a := ⟨B, j, none⟩) h.thr hT x, fun k v c hv hc => ownsRow_setCell_other (a := ⟨B, j, none⟩) (h.code k v c hv hc) (hV k v hv) x, h.apartT, h.apartV⟩
/-- A thread more. -/
theorem ProgSt.push {w u u' : World} {B : Nat} {tv tv' v : Value} {vs : List Value} {cs : List (List InsD)} {c : List InsD} (h : ProgSt w u B tv vs cs) (hT : tv.ownBlock ≠ some B) (hV : ∀ (k : Nat) (b : Value), vs[k]? = some b → b.ownBlock ≠ some B)
    (hv : u.ownsRow (w.heap.size + 3) 49 4 v c.length (codeCells c)) (hvB : v.ownBlock ≠ some B) (haT : Apart v tv) (haV : ∀ (k : Nat) (b : Value), vs[k]? = some b → Apart b v)
    (hrow : u'.ownsRow (w.heap.size + 3) 34 1 tv' (vs.length + 1) (vs ++ [v])) (hg : u.grownBy u' tv.ownBlock) (hat : tv'.ownBlock = tv.ownBlock ∨ tv'.ownBlock = some u.heap.size) (hbase : w.heap.size + 3 ≤ u.heap.size) (hwB : w.heap.size ≤ B) :
    (u'.cell? ⟨B, 6, none⟩ = some tv ∧ u'.frozen? ⟨B, 6, none⟩ = false) ∧ ProgSt w (u'.setCell ⟨B, 6, none⟩ tv') B tv' (vs ++ [v]) (cs ++ [c]) ∧ tv'.ownBlock ≠ some B ∧ (∀ (k : Nat) (b : Value), (vs ++ [v])[k]? = some b → b.ownBlock ≠ some B) := by
  have hBl := (Array.getElem?_eq_some_iff.1 h.box).1
  have hbx := (hg.block B hBl (fun e => hT e.symm)).trans h.box
  have hne : ∀ k, k < w.heap.size + 3 → some k ≠ tv.ownBlock := fun k hk e => by have := (own_lt h.own.thr k e.symm).2; omega
  have hcn := (hg.block (w.heap.size + 1) (by omega) (hne _ (by omega))).trans h.chn
  have hT' : tv'.ownBlock ≠ some B := by
    rcases hat with e | e
    · rw [e]; exact hT
    · rw [e]; intro e2; cases e2; omega
  have hV' : ∀ (k : Nat) (b : Value), (vs ++ [v])[k]? = some b → b.ownBlock ≠ some B := fun k b hb => by
    rcases List.mem_append.1 (List.mem_of_getElem? hb) with hm | hm
    · obtain ⟨i, hi⟩ := List.getElem?_of_mem hm
      exact hV i b hi
    · simp at hm; subst hm; exact hvB
  have hCB : w.heap.size + 1 ≠ B := fun e => by
    subst e
    have e2 := h.box.symm.trans h.chn
    simp at e2
  refine ⟨⟨cell_of_row _ _ _ _ _ _ hbx, frozen_of_row _ _ _ _ _ hbx⟩, ⟨(h.own.snoc hv haT haV hrow hg hat).setOff hT' hV' 6 tv', ?_, ?_, ?_⟩, hT', hV'⟩
  · rw [heap_setCell_same _ _ _ _ _ _ hbx]; rfl
  · rw [heap_setCell_other _ _ _ _ hCB]; exact hcn
  · exact (h.bel.grown hg (by omega) (fun b e => by have := (own_lt h.own.thr b e).2; omega)).setCell (p := ⟨B, 6, none⟩) hwB _
end Go.Proofs.Ytnbpneaiibandaa
namespace Go.Proofs.Ytnbpneaiibandaa
open Go.ChangeShapes Go.WideShapes Go.ChangeAt Go.RowKit
/-- Which cells of a state hold yes or no; which hold how far a once has come. -/
def isB (i : Nat) : Bool := (decide (1 ≤ i) && decide (i ≤ 36) && decide ((i - 1) % 6 = 0)) || (decide (49 ≤ i) && decide (i ≤ 56) && decide ((i - 49) % 2 = 0)) || (decide (57 ≤ i) && decide (i ≤ 80) && decide ((i - 57) % 6 = 5)) || decide (i = 90)
def isO (i : Nat) : Bool := decide (85 ≤ i) && decide (i ≤ 88)
/-- A state's cell, by what number it stands for. -/
def valAt (i : Nat) (n : Int) : Value := if isB i then .bool (n == 1) else if isO i then .int .u8 n else .int .i64 n
theorem valAt_b {i : Nat} {n : Int} (h : isB i = true) : valAt i n = .bool (n == 1) := by simp [valAt, h]
theorem valAt_o {i : Nat} {n : Int} (h : 85 ≤ i) (h2 : i ≤ 88) : valAt i n = .int .u8 n := by
  have h1 : isB i = false := by simp [isB]; omega
  have h3 : isO i = true := by simp [isO]; omega
  simp [valAt, h1, h3]
theorem valAt_i {i : Nat} {n : Int} (h : isB i = false) (h2 : i < 85 ∨ 88 < i) : valAt i n = .int .i64 n := by
  have h3 : isO i = false := by simp [isO]; omega
  simp [valAt, h, h3]
def bitN (b : Bool) : Int := if b then 1 else 0
theorem bitN_eq (b : Bool) : (bitN b == 1) = b := by cases b <;> rfl
/-- Code at an address, in blocks from lo on and below hi. -/
def InsIn (w : World) (lo hi : Nat) (a : Option Addr) (c : List InsD) : Prop :=
  ∀ (j : Nat) (x : InsD), c[j]? = some x → ∃ g off, a = some ⟨g, off, none⟩ ∧ lo ≤ g ∧ g < hi ∧ InsAt w g (off + j * 4) x
def RowsIn (w : World) (lo hi : Nat) (a : Option Addr) (cs : List (List InsD)) : Prop :=
  ∀ (k : Nat) (c : List InsD), cs[k]? = some c → ∃ g off, a = some ⟨g, off, none⟩ ∧ lo ≤ g ∧ g < hi ∧ ∃ a' cap, w.cell? ⟨g, off + k, none⟩ = some (.slice a' c.length cap) ∧ InsIn w lo hi a' c
/-- A state: where it lies, its numbers, its code, what it told. -/
structure StIn (u : World) (b lo hi : Nat) (pv : Value) (m : Nat → Int) (code : List (List InsD)) (pr : List Int) : Prop where
  box : ∃ cs a cap, u.heap[b]? = some (.cells cs 137) ∧ cs.size = 91 ∧ cs[0]? = some (.slice a code.length cap) ∧ cs[89]? = some pv ∧ (∀ i, i < 91 → i ≠ 0 → i ≠ 89 → cs[i]? = some (valAt i (m i))) ∧ RowsIn u lo hi a code
  own : u.ownsRow hi 3 1 pv pr.length (pr.map (.int .i64 ·))
  off : b < lo ∨ hi ≤ b
  two : pv.ownBlock ≠ some b
  len : code.length ≤ 6
  lens : ∀ c ∈ code, c.length ≤ 60
  top : hi ≤ u.heap.size
theorem StIn.cell {u : World} {b lo hi : Nat} {pv : Value} {m : Nat → Int} {code : List (List InsD)} {pr : List Int} (h : StIn u b lo hi pv m code pr) (i : Nat) (hi' : i < 91) (h0 : i ≠ 0) (h9 : i ≠ 89) : u.cell? ⟨b, i, none⟩ = some (valAt i (m i)) := by
  obtain ⟨cs, a, cap, h1, h2, h3, h4, h5, h6⟩ := h.box
  rw [cell_of_row _ _ _ _ _ _ h1]; exact h5 i hi' h0 h9
theorem StIn.codeC {u : World} {b lo hi : Nat} {pv : Value} {m : Nat → Int} {code : List (List InsD)} {pr : List Int} (h : StIn u b lo hi pv m code pr) : ∃ a cap, u.cell? ⟨b, 0, none⟩ = some (.slice a code.length cap) ∧ RowsIn u lo hi a code := by
  obtain ⟨cs, a, cap, h1, h2, h3, h4, h5, h6⟩ := h.box
  exact ⟨a, cap, by rw [cell_of_row _ _ _ _ _ _ h1]; exact h3, h6⟩
theorem StIn.lt {u : World} {b lo hi : Nat} {pv : Value} {m : Nat → Int} {code : List (List InsD)} {pr : List Int} (h : StIn u b lo hi pv m code pr) : b < u.heap.size := by
  obtain ⟨cs, a, cap, h1, h2, h3, h4, h5, h6⟩ := h.box
  exact (Array.getElem?_eq_some_iff.1 h1).1
/-- Reading a state's cells, by what they are. -/
theorem StIn.on {u : World} {b lo hi : Nat} {pv : Value} {m : Nat → Int} {code : List (List InsD)} {pr : List Int} (h : StIn u b lo hi pv m code pr) (k : Nat) (hk : k < 6) : u.cell? ⟨b, 1 + k * 6, none⟩ = some (.bool (m (1 + k * 6) == 1)) := by
  rw [h.cell _ (by omega) (by omega) (by omega), valAt_b (by simp [isB]; omega)]
theorem StIn.pc {u : World} {b lo hi : Nat} {pv : Value} {m : Nat → Int} {code : List (List InsD)} {pr : List Int} (h : StIn u b lo hi pv m code pr) (k : Nat) (hk : k < 6) : u.cell? ⟨b, 1 + k * 6 + 1, none⟩ = some (.int .i64 (m (1 + k * 6 + 1))) := by
  rw [h.cell _ (by omega) (by omega) (by omega), valAt_i (by simp [isB]; omega) (by omega)]
theorem StIn.reg {u : World} {b lo hi : Nat} {pv : Value} {m : Nat → Int} {code : List (List InsD)} {pr : List Int} (h : StIn u b lo hi pv m code pr) (k r : Nat) (hk : k < 6) (hr : r < 4) : u.cell? ⟨b, 1 + k * 6 + 2 + r, none⟩ = some (.int .i64 (m (1 + k * 6 + 2 + r))) := by
  rw [h.cell _ (by omega) (by omega) (by omega), valAt_i (by simp [isB]; omega) (by omega)]
theorem StIn.trap {u : World} {b lo hi : Nat} {pv : Value} {m : Nat → Int} {code : List (List InsD)} {pr : List Int} (h : StIn u b lo hi pv m code pr) : u.cell? ⟨b, 90, none⟩ = some (.bool (m 90 == 1)) := by
  rw [h.cell _ (by omega) (by omega) (by omega), valAt_b (by simp [isB])]
/-- Whether there is a thread k. -/
def hasT (n : Nat) (k : Int) : Bool := decide (0 ≤ k) && decide (k < n)
theorem stSet_block (u : World) (b i : Nat) (v : Value) {cs : Array Value} {t : TypeId} {fr : Nat × Nat} (h : u.heap[b]? = some (.cells cs t fr)) : (u.setCell ⟨b, i, none⟩ v).heap[b]? = some (.cells (cs.setIfInBounds i v) t fr) := by
  simp [World.setCell, Array.getElem?_modify, h]
theorem stSet_four {u : World} {b : Nat} {a0 a1 a2 a3 x0 x1 x2 x3 : Value} {t : TypeId} (h : u.heap[b]? = some (.cells #[a0, a1, a2, a3] t)) :
    ((((u.setCell ⟨b, 0, none⟩ x0).setCell ⟨b, 1, none⟩ x1).setCell ⟨b, 2, none⟩ x2).setCell ⟨b, 3, none⟩ x3).heap[b]? = some (.cells #[x0, x1, x2, x3] t) := by
  rw [stSet_block _ b 3 x3 (stSet_block _ b 2 x2 (stSet_block _ b 1 x1 (stSet_block u b 0 x0 h)))]; rfl
theorem stBelow_set {w u : World} {B b i : Nat} {v : Value} (h : Below B w u) (hb : B ≤ b) : Below B w (u.setCell ⟨b, i, none⟩ v) := h.setCell (p := ⟨b, i, none⟩) hb _
theorem info_ins4 : (Try.prog.info? 49).map (·.size) = some 4 := by kernel_rfl
theorem info_event : (Try.prog.info? 45).map (·.size) = some 6 := by kernel_rfl
theorem has_any (b n : Nat) (a : Option Addr) (cap : Nat) (k : Int) (w : World) (hc : w.cell? ⟨b, 0, none⟩ = some (.slice a n cap)) :
    Calls Try.prog 123 #[.pointer (some ⟨b, 0, none⟩), .int .i64 k] w fun e w' => e = .returned (.bool (hasT n k)) ∧ w = w' := by
  go_enter Try.func123, Try.ntmps123
  go_wp2
  all_goals go_ret
  all_goals (refine ⟨?_, rfl⟩; simp [hasT]; try omega)
theorem has_yes (b n : Nat) (a : Option Addr) (cap k : Nat) (w : World) (hc : w.cell? ⟨b, 0, none⟩ = some (.slice a n cap)) (hk : k < n) :
    Calls Try.prog 123 #[.pointer (some ⟨b, 0, none⟩), .int .i64 k] w fun e w' => e = .returned (.bool true) ∧ w = w' := by
  have := has_any b n a cap k w hc
  rwa [show hasT n k = true by simp [hasT]; omega] at this
theorem has_no (b n : Nat) (a : Option Addr) (cap : Nat) (k : Int) (w : World) (hc : w.cell? ⟨b, 0, none⟩ = some (.slice a n cap)) (hk : hasT n k = false) :
    Calls Try.prog 123 #[.pointer (some ⟨b, 0, none⟩), .int .i64 k] w fun e w' => e = .returned (.bool false) ∧ w = w' := by
  have := has_any b n a cap k w hc
  rwa [hk] at this
theorem hasT_yes {n : Nat} {k : Int} (h : hasT n k = true) : ∃ j : Nat, k = j ∧ j < n := by
  simp [hasT] at h
  exact ⟨k.toNat, by omega, by omega⟩
theorem on_yes (b n : Nat) (a : Option Addr) (cap k : Nat) (x : Bool) (w : World) (hc : w.cell? ⟨b, 0, none⟩ = some (.slice a n cap)) (hk : k < n) (hn : n ≤ 6) (hx : w.cell? ⟨b, 1 + k * 6, none⟩ = some (.bool x)) :
    Calls Try.prog 98 #[.pointer (some ⟨b, 0, none⟩), .int .i64 k] w fun e w' => e = .returned (.bool x) ∧ w = w' := by
  have hk6 : (k : Int) < 6 := by omega
  have HC := Lib.hid hc
  go_enter Try.func98, Try.ntmps98
  go_wp2_with (first
    | (go_at_call 123; refine (has_yes b n a cap k _ HC.out hk).mono ?_; rintro e w1 ⟨rfl, rfl⟩))
  go_ret
  exact ⟨rfl, rfl⟩
theorem on_no (b n : Nat) (a : Option Addr) (cap : Nat) (k : Int) (w : World) (hc : w.cell? ⟨b, 0, none⟩ = some (.slice a n cap)) (hk : hasT n k = false) :
    Calls Try.prog 98 #[.pointer (some ⟨b, 0, none⟩), .int .i64 k] w fun e w' => e = .returned (.bool false) ∧ w = w' := by
  have HC := Lib.hid hc
  have HK := Lib.hid hk
  clear hk
  go_enter Try.func98, Try.ntmps98
  go_wp2_with (first
    | (go_at_call 123; refine (has_no b n a cap k _ HC.out HK.out).mono ?_; rintro e w1 ⟨rfl, rfl⟩))
  go_ret
  exact ⟨rfl, rfl⟩
theorem number_any (t : Bool) (w : World) : Calls Try.prog 117 #[.bool t] w fun e w' => e = .returned (.int .i64 (bitN t)) ∧ w = w' := by
  cases t
  all_goals
    go_enter Try.func117, Try.ntmps117
    go_wp2
    go_ret
    exact ⟨rfl, rfl⟩
theorem quiet_eq {P : Program} {f : FuncId} {args : Array Value} {w : World} {n : Nat} {v : Value} (h : Calls P f args (w.drewN n) fun e w' => e = .returned v ∧ w.drewN n = w') :
    Calls P f args (w.drewN n) fun e w'' => e = .returned v ∧ ∃ m, w'' = w.drewN m := Calls.quiet_of_same (h.mono fun _ _ ⟨h1, h2⟩ => ⟨h1, h2.symm⟩)
theorem goes_on (b n : Nat) (a : Option Addr) (cap k : Nat) (p : Nat) (g off l cp : Nat) (a' : Option Addr) (w : World) (hc : w.cell? ⟨b, 0, none⟩ = some (.slice (some ⟨g, off, none⟩) n cap)) (hk : k < n) (hn : n ≤ 6) (hx : w.cell? ⟨b, 1 + k * 6, none⟩ = some (.bool true)) (hp : w.cell? ⟨b, 1 + k * 6 + 1, none⟩ = some (.int .i64 p)) (hs : w.cell? ⟨g, off + k, none⟩ = some (.slice a' l cp)) (t : Bool) (ht : decide (p < l) = t) :
    Calls Try.prog 75 #[.pointer (some ⟨b, 0, none⟩), .int .i64 k] w fun e w' => e = .returned (.bool t) ∧ ∃ q, w' = w.drewN q := by
  have hk6 : (k : Int) < 6 := by omega
  have hkn : (k : Int) < n := by omega
  go_enter Try.func75, Try.ntmps75
  go_wp2_with fail
  go_quiet ((go_at_call 98; exact quiet_eq (on_yes b n _ cap k true _ (by simpa using hc) hk hn (by simpa using hx))))
  go_wp2
  go_ret
  subst ht
  exact ⟨rfl, _, rfl⟩
theorem goes_off (b n : Nat) (a : Option Addr) (cap k : Nat) (w : World) (hc : w.cell? ⟨b, 0, none⟩ = some (.slice a n cap)) (hk : k < n) (hn : n ≤ 6) (hx : w.cell? ⟨b, 1 + k * 6, none⟩ = some (.bool false)) :
    Calls Try.prog 75 #[.pointer (some ⟨b, 0, none⟩), .int .i64 k] w fun e w' => e = .returned (.bool false) ∧ ∃ q, w' = w.drewN q := by
  go_enter Try.func75, Try.ntmps75
  go_wp2_with fail
  go_quiet ((go_at_call 98; exact quiet_eq (on_yes b n _ cap k false _ hc hk hn hx)))
  go_wp2
  go_ret
  exact ⟨rfl, _, rfl⟩
theorem goes_no (b n : Nat) (a : Option Addr) (cap : Nat) (k : Int) (w : World) (hc : w.cell? ⟨b, 0, none⟩ = some (.slice a n cap)) (hk : hasT n k = false) :
    Calls Try.prog 75 #[.pointer (some ⟨b, 0, none⟩), .int .i64 k] w fun e w' => e = .returned (.bool false) ∧ ∃ q, w' = w.drewN q := by
  have HK := Lib.hid hk
  clear hk
  go_enter Try.func75, Try.ntmps75
  go_wp2_with fail
  go_quiet ((go_at_call 98; exact quiet_eq (on_no b n _ cap k _ hc HK.out)))
  go_wp2
  go_ret
  exact ⟨rfl, _, rfl⟩
theorem next_any (b n : Nat) (cap k : Nat) (p : Nat) (g off l cp g' off' : Nat) (x : InsD) (w : World) (hc : w.cell? ⟨b, 0, none⟩ = some (.slice (some ⟨g, off, none⟩) n cap)) (hk : k < n) (hn : n ≤ 6) (hp : w.cell? ⟨b, 1 + k * 6 + 1, none⟩ = some (.int .i64 p)) (hs : w.cell? ⟨g, off + k, none⟩ = some (.slice (some ⟨g', off', none⟩) l cp)) (hl : p < l) (hI : InsAt w g' (off' + p * 4) x) :
    Calls Try.prog 95 #[.pointer (some ⟨b, 0, none⟩), .int .i64 k] w fun e w' => e = .returned (.agg #[.int .u8 x.op, .int .i64 x.a, .int .i64 x.b, .int .i64 x.c]) ∧ Below w.heap.size w w' := by
  have hk6 : (k : Int) < 6 := by omega
  have hkn : (k : Int) < n := by omega
  have hpl : (p : Int) < l := by omega
  go_enter Try.func95, Try.ntmps95
  obtain ⟨i0, i1, i2, i3⟩ := hI
  have l1 := cell_lt hc
  have l2 := cell_lt hs
  have l3 := cell_lt i0
  go_wp2_with fail
  generalize hV : World.alloc w _ = V
  have hB : Below w.heap.size w V := by rw [← hV]; exact (Below.refl _ _).alloc (Nat.le_refl _) _
  have hN : V.heap[w.heap.size]? = some (.cells #[.int .u8 0, .int .i64 0, .int .i64 0, .int .i64 0] 49) := by rw [← hV]; exact heap_alloc_new _ _
  have HV := Lib.hid hV
  clear hV
  rw [← hB.cell (p := ⟨b, 0, none⟩) l1] at hc
  rw [← hB.cell (p := ⟨b, 1 + k * 6 + 1, none⟩) l1] at hp
  rw [← hB.cell (p := ⟨g, off + k, none⟩) l2] at hs
  rw [← hB.cell (p := ⟨g', off' + p * 4, none⟩) l3] at i0
  rw [← hB.cell (p := ⟨g', off' + p * 4 + 1, none⟩) l3] at i1
  rw [← hB.cell (p := ⟨g', off' + p * 4 + 2, none⟩) l3] at i2
  rw [← hB.cell (p := ⟨g', off' + p * 4 + 3, none⟩) l3] at i3
  have HB := Lib.hid hB
  clear hB
  obtain ⟨n0, n1, n2, n3⟩ := cells4 hN
  have f := fun j => frozen_of_row _ _ j _ _ hN
  go_region
  go_wp2
  refine bodyPost_ret (v := .agg #[.int .u8 x.op, .int .i64 x.a, .int .i64 x.b, .int .i64 x.c]) (results_cell_row rfl _ _ w.heap.size 49 _ (0, 0) _ rfl (stSet_four hN) Try.underlying49 rfl info_ins4) rfl ⟨rfl, ?_⟩
  exact (stBelow_set (stBelow_set (stBelow_set (stBelow_set HB.out (Nat.le_refl _)) (Nat.le_refl _)) (Nat.le_refl _)) (Nat.le_refl _)).drew
theorem free_any (b o : Nat) (t : Bool) (r : Int) (w : World) (h1 : w.cell? ⟨b, o, none⟩ = some (.bool t)) (h2 : w.cell? ⟨b, o + 1, none⟩ = some (.int .i64 r)) (y : Bool) (hy : (!t && (r == 0)) = y) :
    Calls Try.prog 120 #[.pointer (some ⟨b, o, none⟩)] w fun e w' => e = .returned (.bool y) ∧ ∃ q, w' = w.drewN q := by
  cases t
  all_goals
    go_enter Try.func120, Try.ntmps120
    go_wp2
    go_ret
    subst hy
    exact ⟨by simp, 0, rfl⟩
theorem full_any (b o : Nat) (t : Bool) (r s : Int) (w : World) (h1 : w.cell? ⟨b, o + 3, none⟩ = some (.int .i64 r)) (h2 : w.cell? ⟨b, o + 4, none⟩ = some (.int .i64 s)) (h3 : w.cell? ⟨b, o + 5, none⟩ = some (.bool t)) (y : Bool) (hy : ((r == s) && !t) = y) :
    Calls Try.prog 121 #[.pointer (some ⟨b, o, none⟩)] w fun e w' => e = .returned (.bool y) ∧ ∃ q, w' = w.drewN q := by
  cases hr : (r == s)
  all_goals
    go_enter Try.func121, Try.ntmps121
    go_wp2_with fail
    go_quiet (fail)
    go_wp2
    go_ret
    subst hy
    exact ⟨by simp [hr], _, rfl⟩
theorem dry_any (b o : Nat) (t : Bool) (r : Int) (w : World) (h1 : w.cell? ⟨b, o + 3, none⟩ = some (.int .i64 r)) (h3 : w.cell? ⟨b, o + 5, none⟩ = some (.bool t)) (y : Bool) (hy : ((r == 0) && !t) = y) :
    Calls Try.prog 122 #[.pointer (some ⟨b, o, none⟩)] w fun e w' => e = .returned (.bool y) ∧ ∃ q, w' = w.drewN q := by
  cases hr : (r == 0)
  all_goals
    go_enter Try.func122, Try.ntmps122
    go_wp2
    go_ret
    subst hy
    exact ⟨by simp [hr], 0, rfl⟩
def Fit (hi : Nat) (a : Int) : Prop := ∃ n : Nat, a = n ∧ n < hi
/-- What is known of an instruction of sound code: nt threads, n instructions. -/
def InsFit (nt n : Nat) (x : InsD) : Prop := match x.op with
  | 0 => True
  | 1 => Fit 4 x.a
  | 2 => Fit 4 x.a ∧ Fit 4 x.b
  | 3 => Fit 4 x.a ∧ Fit 4 x.b ∧ Fit 4 x.c
  | 4 => Fit 4 x.a ∧ Fit 4 x.b ∧ Fit 4 x.c
  | 5 => Fit 4 x.a ∧ Fit 4 x.b ∧ Fit 4 x.c
  | 6 => Fit 4 x.a ∧ Fit 4 x.b ∧ Fit 4 x.c
  | 7 => Fit 4 x.a ∧ Fit 8 x.b
  | 8 => Fit 8 x.a ∧ Fit 4 x.b
  | 9 => Fit 4 x.a
  | 10 => Fit (n + 1) x.a
  | 11 => Fit 4 x.a ∧ Fit (n + 1) x.b
  | 12 => Fit nt x.a
  | 13 => Fit 4 x.a
  | 14 => Fit 4 x.a
  | 15 => Fit 4 x.a
  | 16 => Fit 4 x.a
  | 17 => Fit 4 x.a ∧ Fit 4 x.b
  | 18 => Fit 4 x.a ∧ Fit 4 x.b
  | 19 => Fit 4 x.a ∧ Fit 4 x.b ∧ Fit 4 x.c
  | 20 => Fit 4 x.a ∧ Fit 4 x.b
  | 21 => Fit 4 x.a ∧ Fit 4 x.b
  | 22 => Fit 4 x.a ∧ Fit 4 x.b ∧ Fit 4 x.c
  | 23 => Fit 4 x.a
  | 24 => Fit 4 x.a
  | 25 => Fit 4 x.a
  | 26 => Fit 4 x.a ∧ Fit 4 x.b
  | 27 => Fit 4 x.a
  | _ => False
theorem fit_of {hi : Nat} {a : Int} (h1 : 0 ≤ a) (h2 : a < hi) : Fit hi a := ⟨a.toNat, by omega, by omega⟩
theorem insFit_of {p : ProgD} {n : Nat} {x : InsD} (hs : sizesB p = true) (h : insE p n x = 0) : InsFit p.threads.length n x := by
  have hq := sizes_parts hs
  obtain ⟨op, a, b, c⟩ := x
  have hk : knownB ⟨op, a, b, c⟩ = true := by
    rcases hb : knownB ⟨op, a, b, c⟩ with _ | _
    · simp [insE, hb, firstE, unE] at h
    · rfl
  have hf : fitsB p n ⟨op, a, b, c⟩ = true := by
    rcases hb : fitsB p n ⟨op, a, b, c⟩ with _ | _
    · simp [insE, hk, hb, firstE, unE] at h
    · rfl
  clear h
  have hop : op < 28 := by simp [knownB] at hk; exact hk.2
  clear hk
  have key : ∀ op, op < 28 → fitsB p n ⟨op, a, b, c⟩ = true → InsFit p.threads.length n ⟨op, a, b, c⟩ := by
    intro op hop hf
    simp only [fitsB, fitB] at hf
    match op, hop with
    | 0, _ | 1, _ | 2, _ | 3, _ | 4, _ | 5, _ | 6, _ | 7, _ | 8, _ | 9, _ | 10, _ | 11, _ | 12, _ | 13, _ | 14, _ | 15, _ | 16, _ | 17, _ | 18, _ | 19, _ | 20, _ | 21, _ | 22, _ | 23, _ | 24, _ | 25, _ | 26, _ | 27, _ =>
      simp [rowAt, tab, Row.at, InsD.at, canL, canB, wiB] at hf
      simp only [InsFit]
      all_goals first
        | trivial
        | exact fit_of (by omega) (by omega)
        | exact ⟨fit_of (by omega) (by omega), fit_of (by omega) (by omega)⟩
        | exact ⟨fit_of (by omega) (by omega), fit_of (by omega) (by omega), fit_of (by omega) (by omega)⟩
    | (k + 28), h => omega
  exact key op hop hf
/-- An instruction as a value. -/
abbrev insV (op : Nat) (a b c : Int) : Value := .agg #[.int .u8 op, .int .i64 a, .int .i64 b, .int .i64 c]
abbrev insO (op : Nat) (a b c : Int) : Obj := .cells #[.int .u8 op, .int .i64 a, .int .i64 b, .int .i64 c] 49
theorem below_box (w : World) (o : Obj) : Below w.heap.size w (w.alloc o) := (Below.refl _ _).alloc (Nat.le_refl _) _
theorem below_drewN {B : Nat} {w v : World} (h : Below B w v) (n : Nat) : Below B w (v.drewN n) := below_draws h n
theorem blocked_lock (b : Nat) (A : Nat) (y z : Int) (hA : A < 4) (t : Bool) (r : Int) (w : World) (h1 : w.cell? ⟨b, 49 + A * 2, none⟩ = some (.bool t)) (h2 : w.cell? ⟨b, 49 + A * 2 + 1, none⟩ = some (.int .i64 r)) :
    Calls Try.prog 97 #[.pointer (some ⟨b, 0, none⟩), insV 13 A y z] w fun e w' => e = .returned (.bool (t || !(r == 0))) ∧ Below w.heap.size w w' := by
  have hA4 : (A : Int) < 4 := by omega
  have l1 := cell_lt h1
  go_enter Try.func97, Try.ntmps97
  go_wp2_with fail
  generalize hV : World.alloc w _ = V
  have hB : Below w.heap.size w V := by rw [← hV]; exact below_box _ _
  have hN : V.heap[w.heap.size]? = some (insO 13 A y z) := by rw [← hV]; exact heap_alloc_new _ _
  obtain ⟨n0, n1, n2, n3⟩ := cells4 hN
  rw [← hB.cell (p := ⟨b, 49 + A * 2, none⟩) l1] at h1
  rw [← hB.cell (p := ⟨b, 49 + A * 2 + 1, none⟩) l1] at h2
  have HB := Lib.hid hB
  clear hV hB
  go_quiet ((go_at_call 120; exact Calls.quiet_of (free_any b _ t r _ (by exact h1) (by exact h2) _ rfl)))
  go_wp2
  go_ret
  exact ⟨rfl, below_drewN HB.out _⟩
theorem blocked_rlock (b : Nat) (A : Nat) (y z : Int) (hA : A < 4) (t : Bool) (w : World) (h1 : w.cell? ⟨b, 49 + A * 2, none⟩ = some (.bool t)) :
    Calls Try.prog 97 #[.pointer (some ⟨b, 0, none⟩), insV 15 A y z] w fun e w' => e = .returned (.bool t) ∧ Below w.heap.size w w' := by
  have hA4 : (A : Int) < 4 := by omega
  have l1 := cell_lt h1
  go_enter Try.func97, Try.ntmps97
  go_wp2_with fail
  generalize hV : World.alloc w _ = V
  have hB : Below w.heap.size w V := by rw [← hV]; exact below_box _ _
  have hN : V.heap[w.heap.size]? = some (insO 15 A y z) := by rw [← hV]; exact heap_alloc_new _ _
  obtain ⟨n0, n1, n2, n3⟩ := cells4 hN
  rw [← hB.cell (p := ⟨b, 49 + A * 2, none⟩) l1] at h1
  have HB := Lib.hid hB
  clear hV hB
  go_quiet (fail)
  go_wp2
  go_ret
  exact ⟨rfl, below_drewN HB.out _⟩
theorem blocked_send (b : Nat) (A : Nat) (y z : Int) (hA : A < 4) (t : Bool) (r s : Int) (w : World) (h1 : w.cell? ⟨b, 57 + A * 6 + 3, none⟩ = some (.int .i64 r)) (h2 : w.cell? ⟨b, 57 + A * 6 + 4, none⟩ = some (.int .i64 s)) (h3 : w.cell? ⟨b, 57 + A * 6 + 5, none⟩ = some (.bool t)) :
    Calls Try.prog 97 #[.pointer (some ⟨b, 0, none⟩), insV 20 A y z] w fun e w' => e = .returned (.bool ((r == s) && !t)) ∧ Below w.heap.size w w' := by
  have hA4 : (A : Int) < 4 := by omega
  have l1 := cell_lt h1
  go_enter Try.func97, Try.ntmps97
  go_wp2_with fail
  generalize hV : World.alloc w _ = V
  have hB : Below w.heap.size w V := by rw [← hV]; exact below_box _ _
  have hN : V.heap[w.heap.size]? = some (insO 20 A y z) := by rw [← hV]; exact heap_alloc_new _ _
  obtain ⟨n0, n1, n2, n3⟩ := cells4 hN
  rw [← hB.cell (p := ⟨b, 57 + A * 6 + 3, none⟩) l1] at h1
  rw [← hB.cell (p := ⟨b, 57 + A * 6 + 4, none⟩) l1] at h2
  rw [← hB.cell (p := ⟨b, 57 + A * 6 + 5, none⟩) l1] at h3
  have HB := Lib.hid hB
  clear hV hB
  go_quiet ((go_at_call 121; exact Calls.quiet_of (full_any b _ t r s _ (by exact h1) (by exact h2) (by exact h3) _ rfl)))
  go_wp2
  go_ret
  exact ⟨rfl, below_drewN HB.out _⟩
theorem blocked_recv (b : Nat) (A : Nat) (y z : Int) (hA : A < 4) (t : Bool) (r : Int) (w : World) (h1 : w.cell? ⟨b, 57 + A * 6 + 3, none⟩ = some (.int .i64 r)) (h3 : w.cell? ⟨b, 57 + A * 6 + 5, none⟩ = some (.bool t)) :
    Calls Try.prog 97 #[.pointer (some ⟨b, 0, none⟩), insV 21 y A z] w fun e w' => e = .returned (.bool ((r == 0) && !t)) ∧ Below w.heap.size w w' := by
  have hA4 : (A : Int) < 4 := by omega
  have l1 := cell_lt h1
  go_enter Try.func97, Try.ntmps97
  go_wp2_with fail
  generalize hV : World.alloc w _ = V
  have hB : Below w.heap.size w V := by rw [← hV]; exact below_box _ _
  have hN : V.heap[w.heap.size]? = some (insO 21 y A z) := by rw [← hV]; exact heap_alloc_new _ _
  obtain ⟨n0, n1, n2, n3⟩ := cells4 hN
  rw [← hB.cell (p := ⟨b, 57 + A * 6 + 3, none⟩) l1] at h1
  rw [← hB.cell (p := ⟨b, 57 + A * 6 + 5, none⟩) l1] at h3
  have HB := Lib.hid hB
  clear hV hB
  go_quiet ((go_at_call 122; exact Calls.quiet_of (dry_any b _ t r _ (by exact h1) (by exact h3) _ rfl)))
  go_wp2
  go_ret
  exact ⟨rfl, below_drewN HB.out _⟩
theorem blocked_wait (b : Nat) (A : Nat) (y z : Int) (hA : A < 4) (r : Int) (w : World) (h1 : w.cell? ⟨b, 81 + A, none⟩ = some (.int .i64 r)) :
    Calls Try.prog 97 #[.pointer (some ⟨b, 0, none⟩), insV 25 A y z] w fun e w' => e = .returned (.bool (decide (0 < r))) ∧ Below w.heap.size w w' := by
  have hA4 : (A : Int) < 4 := by omega
  have l1 := cell_lt h1
  go_enter Try.func97, Try.ntmps97
  go_wp2_with fail
  generalize hV : World.alloc w _ = V
  have hB : Below w.heap.size w V := by rw [← hV]; exact below_box _ _
  have hN : V.heap[w.heap.size]? = some (insO 25 A y z) := by rw [← hV]; exact heap_alloc_new _ _
  obtain ⟨n0, n1, n2, n3⟩ := cells4 hN
  rw [← hB.cell (p := ⟨b, 81 + A, none⟩) l1] at h1
  have HB := Lib.hid hB
  clear hV hB
  go_quiet (fail)
  go_wp2
  go_ret
  exact ⟨rfl, below_drewN HB.out _⟩
theorem blocked_begin (b : Nat) (A : Nat) (y z : Int) (hA : A < 4) (r : Int) (w : World) (h1 : w.cell? ⟨b, 85 + A, none⟩ = some (.int .u8 r)) :
    Calls Try.prog 97 #[.pointer (some ⟨b, 0, none⟩), insV 26 y A z] w fun e w' => e = .returned (.bool (r == 1)) ∧ Below w.heap.size w w' := by
  have hA4 : (A : Int) < 4 := by omega
  have l1 := cell_lt h1
  go_enter Try.func97, Try.ntmps97
  go_wp2_with fail
  generalize hV : World.alloc w _ = V
  have hB : Below w.heap.size w V := by rw [← hV]; exact below_box _ _
  have hN : V.heap[w.heap.size]? = some (insO 26 y A z) := by rw [← hV]; exact heap_alloc_new _ _
  obtain ⟨n0, n1, n2, n3⟩ := cells4 hN
  rw [← hB.cell (p := ⟨b, 85 + A, none⟩) l1] at h1
  have HB := Lib.hid hB
  clear hV hB
  go_quiet (fail)
  go_wp2
  go_ret
  exact ⟨rfl, below_drewN HB.out _⟩
theorem blocked_none (b op : Nat) (x y z : Int) (w : World) (h13 : op ≠ 13) (h15 : op ≠ 15) (h20 : op ≠ 20) (h21 : op ≠ 21) (h25 : op ≠ 25) (h26 : op ≠ 26) :
    Calls Try.prog 97 #[.pointer (some ⟨b, 0, none⟩), insV op x y z] w fun e w' => e = .returned (.bool false) ∧ Below w.heap.size w w' := by
  have e13 : ((op : Int) == 13) = false := by simp; omega
  have e15 : ((op : Int) == 15) = false := by simp; omega
  have e20 : ((op : Int) == 20) = false := by simp; omega
  have e21 : ((op : Int) == 21) = false := by simp; omega
  have e25 : ((op : Int) == 25) = false := by simp; omega
  have e26 : ((op : Int) == 26) = false := by simp; omega
  clear h13 h15 h20 h21 h25 h26
  go_enter Try.func97, Try.ntmps97
  go_wp2
  go_ret
  exact ⟨rfl, below_box _ _⟩
theorem StIn.cellI {u : World} {b lo hi : Nat} {pv : Value} {m : Nat → Int} {code : List (List InsD)} {pr : List Int} (h : StIn u b lo hi pv m code pr) (i : Nat) (h1 : isB i = false) (h2 : i < 85 ∨ 88 < i) (h3 : 0 < i) (h4 : i < 89) : u.cell? ⟨b, i, none⟩ = some (.int .i64 (m i)) := by
  rw [h.cell _ (by omega) (by omega) (by omega), valAt_i h1 h2]
theorem StIn.cellB {u : World} {b lo hi : Nat} {pv : Value} {m : Nat → Int} {code : List (List InsD)} {pr : List Int} (h : StIn u b lo hi pv m code pr) (i : Nat) (h1 : isB i = true) (h3 : 0 < i) (h4 : i < 89) : u.cell? ⟨b, i, none⟩ = some (.bool (m i == 1)) := by
  rw [h.cell _ (by omega) (by omega) (by omega), valAt_b h1]
theorem StIn.cellO {u : World} {b lo hi : Nat} {pv : Value} {m : Nat → Int} {code : List (List InsD)} {pr : List Int} (h : StIn u b lo hi pv m code pr) (i : Nat) (h3 : 85 ≤ i) (h4 : i ≤ 88) : u.cell? ⟨b, i, none⟩ = some (.int .u8 (m i)) := by
  rw [h.cell _ (by omega) (by omega) (by omega), valAt_o h3 h4]
/-- Whether an instruction must wait. -/
def blockedM (m : Nat → Int) (x : InsD) : Bool :=
  if x.op = 13 then m (49 + x.a.toNat * 2) == 1 || !(m (49 + x.a.toNat * 2 + 1) == 0)
  else if x.op = 15 then m (49 + x.a.toNat * 2) == 1
  else if x.op = 20 then m (57 + x.a.toNat * 6 + 3) == m (57 + x.a.toNat * 6 + 4) && !(m (57 + x.a.toNat * 6 + 5) == 1)
  else if x.op = 21 then m (57 + x.b.toNat * 6 + 3) == 0 && !(m (57 + x.b.toNat * 6 + 5) == 1)
  else if x.op = 25 then decide (0 < m (81 + x.a.toNat))
  else if x.op = 26 then m (85 + x.b.toNat) == 1
  else false
theorem blocked_any {nt n : Nat} {b lo hi : Nat} {pv : Value} {m : Nat → Int} {code : List (List InsD)} {pr : List Int} (x : InsD) (hx : InsFit nt n x) (w : World) (S : StIn w b lo hi pv m code pr) :
    Calls Try.prog 97 #[.pointer (some ⟨b, 0, none⟩), insV x.op x.a x.b x.c] w fun e w' => e = .returned (.bool (blockedM m x)) ∧ Below w.heap.size w w' := by
  obtain ⟨op, a, y, z⟩ := x
  by_cases h13 : op = 13
  · subst h13
    obtain ⟨A, rfl, hA⟩ : Fit 4 a := hx
    exact (blocked_lock b A y z hA _ _ w (S.cellB _ (by simp [isB]; omega) (by omega) (by omega)) (S.cellI _ (by simp [isB]; omega) (by omega) (by omega) (by omega))).mono fun e w' h => by simpa [blockedM] using h
  by_cases h15 : op = 15
  · subst h15
    obtain ⟨A, rfl, hA⟩ : Fit 4 a := hx
    exact (blocked_rlock b A y z hA _ w (S.cellB _ (by simp [isB]; omega) (by omega) (by omega))).mono fun e w' h => by simpa [blockedM] using h
  by_cases h20 : op = 20
  · subst h20
    obtain ⟨A, rfl, hA⟩ : Fit 4 a := hx.1
    exact (blocked_send b A y z hA _ _ _ w (S.cellI _ (by simp [isB]; omega) (by omega) (by omega) (by omega)) (S.cellI _ (by simp [isB]; omega) (by omega) (by omega) (by omega)) (S.cellB _ (by simp [isB]; omega) (by omega) (by omega))).mono fun e w' h => by simpa [blockedM] using h
  by_cases h21 : op = 21
  · subst h21
    obtain ⟨A, rfl, hA⟩ : Fit 4 y := hx.2
    exact (blocked_recv b A a z hA _ _ w (S.cellI _ (by simp [isB]; omega) (by omega) (by omega) (by omega)) (S.cellB _ (by simp [isB]; omega) (by omega) (by omega))).mono fun e w' h => by simpa [blockedM] using h
  by_cases h25 : op = 25
  · subst h25
    obtain ⟨A, rfl, hA⟩ : Fit 4 a := hx
    exact (blocked_wait b A y z hA _ w (S.cellI _ (by simp [isB]; omega) (by omega) (by omega) (by omega))).mono fun e w' h => by simpa [blockedM] using h
  by_cases h26 : op = 26
  · subst h26
    obtain ⟨A, rfl, hA⟩ : Fit 4 y := hx.2
    exact (blocked_begin b A a z hA _ w (S.cellO _ (by omega) (by omega))).mono fun e w' h => by simpa [blockedM] using h
  exact (blocked_none b op a y z w h13 h15 h20 h21 h25 h26).mono fun e w' h => by simpa [blockedM, h13, h15, h20, h21, h25, h26] using h
theorem InsIn.keep {w w' : World} {lo hi : Nat} {a : Option Addr} {c : List InsD} (h : InsIn w lo hi a c) (hk : ∀ k, lo ≤ k → k < hi → w'.heap[k]? = w.heap[k]?) : InsIn w' lo hi a c := fun j x hx => by
  obtain ⟨g, off, h1, h2, h3, i0, i1, i2, i3⟩ := h j x hx
  have e : ∀ o, w'.cell? ⟨g, o, none⟩ = w.cell? ⟨g, o, none⟩ := fun o => World.cell?_of_block (hk g h2 h3)
  exact ⟨g, off, h1, h2, h3, (e _).trans i0, (e _).trans i1, (e _).trans i2, (e _).trans i3⟩
theorem RowsIn.keep {w w' : World} {lo hi : Nat} {a : Option Addr} {cs : List (List InsD)} (h : RowsIn w lo hi a cs) (hk : ∀ k, lo ≤ k → k < hi → w'.heap[k]? = w.heap[k]?) : RowsIn w' lo hi a cs := fun j c hc => by
  obtain ⟨g, off, h1, h2, h3, a', cap, h4, h5⟩ := h j c hc
  exact ⟨g, off, h1, h2, h3, a', cap, (World.cell?_of_block (hk g h2 h3)).trans h4, h5.keep hk⟩
theorem InsIn.keep2 {w w' : World} {lo hi : Nat} {a : Option Addr} {c : List InsD} (h : InsIn w lo hi a c) (hk : ∀ k, lo ≤ k → k < hi → k < w.heap.size → w'.heap[k]? = w.heap[k]?) : InsIn w' lo hi a c := fun j x hx => by
  obtain ⟨g, off, h1, h2, h3, i0, i1, i2, i3⟩ := h j x hx
  have e : ∀ o, w'.cell? ⟨g, o, none⟩ = w.cell? ⟨g, o, none⟩ := fun o => World.cell?_of_block (hk g h2 h3 (cell_lt i0))
  exact ⟨g, off, h1, h2, h3, (e _).trans i0, (e _).trans i1, (e _).trans i2, (e _).trans i3⟩
theorem RowsIn.keep2 {w w' : World} {lo hi : Nat} {a : Option Addr} {cs : List (List InsD)} (h : RowsIn w lo hi a cs) (hk : ∀ k, lo ≤ k → k < hi → k < w.heap.size → w'.heap[k]? = w.heap[k]?) : RowsIn w' lo hi a cs := fun j c hc => by
  obtain ⟨g, off, h1, h2, h3, a', cap, h4, h5⟩ := h j c hc
  exact ⟨g, off, h1, h2, h3, a', cap, (World.cell?_of_block (hk g h2 h3 (cell_lt h4))).trans h4, h5.keep2 hk⟩
theorem StIn.later {u u' : World} {b lo hi : Nat} {pv : Value} {m : Nat → Int} {code : List (List InsD)} {pr : List Int} (h : StIn u b lo hi pv m code pr) (hB : Below u.heap.size u u') : StIn u' b lo hi pv m code pr := by
  have hl := h.lt
  obtain ⟨cs, a, cap, h1, h2, h3, h4, h5, h6⟩ := h.box
  exact ⟨⟨cs, a, cap, (hB.block _ hl).trans h1, h2, h3, h4, h5, h6.keep2 fun k _ _ hk => hB.block _ hk⟩, own_later h.own hB, h.off, h.two, h.len, h.lens, Nat.le_trans h.top hB.size⟩
/-- What holds of a state's numbers in whatever run. -/
structure Inv (m : Nat → Int) (code : List (List InsD)) : Prop where
  pc : ∀ (k : Nat) (c : List InsD), code[k]? = some c → ∃ p : Nat, m (1 + k * 6 + 1) = p ∧ p ≤ c.length
  fit : ∀ (k : Nat) (c : List InsD), code[k]? = some c → ∀ x ∈ c, InsFit code.length c.length x
  chan : ∀ c, c < 4 → 0 ≤ m (57 + c * 6 + 3) ∧ m (57 + c * 6 + 3) ≤ m (57 + c * 6 + 4) ∧ m (57 + c * 6 + 4) ≤ 3
/-- The instruction that a thread is at. -/
def insM (code : List (List InsD)) (m : Nat → Int) (k : Nat) : Option InsD := (code[k]?).bind fun c => c[(m (1 + k * 6 + 1)).toNat]?
/-- Whether a thread that there is can go on. -/
def canK (code : List (List InsD)) (m : Nat → Int) (k : Nat) : Bool :=
  m (1 + k * 6) == 1 && match insM code m k with
    | none => false
    | some x => !(m 90 == 1) && !blockedM m x
def canM (code : List (List InsD)) (m : Nat → Int) (k : Int) : Bool := hasT code.length k && canK code m k.toNat
theorem can_no {b lo hi : Nat} {pv : Value} {m : Nat → Int} {code : List (List InsD)} {pr : List Int} (k : Int) (w : World) (S : StIn w b lo hi pv m code pr) (hk : hasT code.length k = false) :
    Calls Try.prog 74 #[.pointer (some ⟨b, 0, none⟩), .int .i64 k] w fun e w' => e = .returned (.bool false) ∧ Below w.heap.size w w' := by
  obtain ⟨a, cap, hc, hR⟩ := S.codeC
  have HK := Lib.hid hk
  clear hk
  go_enter Try.func74, Try.ntmps74
  go_wp2_with (first
    | (go_at_call 75; refine (goes_no b _ a cap k _ hc HK.out).mono ?_; rintro e w1 ⟨rfl, q, rfl⟩))
  go_ret
  exact ⟨rfl, below_drewN (Below.refl _ _) _⟩
theorem can_stops {b n : Nat} (k : Nat) (w : World) (hg : Calls Try.prog 75 #[.pointer (some ⟨b, 0, none⟩), .int .i64 k] w fun e w' => e = .returned (.bool false) ∧ ∃ q, w' = w.drewN q) :
    Calls Try.prog 74 #[.pointer (some ⟨b, 0, none⟩), .int .i64 k] w fun e w' => e = .returned (.bool false) ∧ Below w.heap.size w w' := by
  have HG := Lib.hid hg
  clear hg
  go_enter Try.func74, Try.ntmps74
  go_wp2_with (first
    | (go_at_call 75; refine HG.out.mono ?_; rintro e w1 ⟨rfl, q, rfl⟩))
  go_ret
  exact ⟨rfl, below_drewN (Below.refl _ _) _⟩
theorem can_trap {b : Nat} (k : Nat) (w : World) (hg : Calls Try.prog 75 #[.pointer (some ⟨b, 0, none⟩), .int .i64 k] w fun e w' => e = .returned (.bool true) ∧ ∃ q, w' = w.drewN q) (ht : w.cell? ⟨b, 90, none⟩ = some (.bool true)) :
    Calls Try.prog 74 #[.pointer (some ⟨b, 0, none⟩), .int .i64 k] w fun e w' => e = .returned (.bool false) ∧ Below w.heap.size w w' := by
  have HG := Lib.hid hg
  clear hg
  go_enter Try.func74, Try.ntmps74
  go_wp2_with (first
    | (go_at_call 75; refine HG.out.mono ?_; rintro e w1 ⟨rfl, q, rfl⟩))
  go_ret
  exact ⟨rfl, below_drewN (Below.refl _ _) _⟩
theorem can_at {b : Nat} (k : Nat) (x : InsD) (t : Bool) (w : World) (hg : Calls Try.prog 75 #[.pointer (some ⟨b, 0, none⟩), .int .i64 k] w fun e w' => e = .returned (.bool true) ∧ ∃ q, w' = w.drewN q) (ht : w.cell? ⟨b, 90, none⟩ = some (.bool false))
    (hn : ∀ u, Below w.heap.size w u → Calls Try.prog 95 #[.pointer (some ⟨b, 0, none⟩), .int .i64 k] u fun e w' => e = .returned (insV x.op x.a x.b x.c) ∧ Below u.heap.size u w')
    (hb : ∀ u, Below w.heap.size w u → Calls Try.prog 97 #[.pointer (some ⟨b, 0, none⟩), insV x.op x.a x.b x.c] u fun e w' => e = .returned (.bool t) ∧ Below u.heap.size u w') :
    Calls Try.prog 74 #[.pointer (some ⟨b, 0, none⟩), .int .i64 k] w fun e w' => e = .returned (.bool (!t)) ∧ Below w.heap.size w w' := by
  have HG := Lib.hid hg
  have HN := Lib.hid hn
  have HB := Lib.hid hb
  clear hg hn hb
  go_enter Try.func74, Try.ntmps74
  go_wp2_with (first
    | (go_at_call 75; refine HG.out.mono ?_; rintro e w1 ⟨rfl, q, rfl⟩)
    | (go_at_call 95; refine (HN.out _ (below_drewN (Below.refl _ _) q)).mono ?_; rintro e w2 ⟨rfl, hB2⟩)
    | (go_at_call 97; refine (HB.out _ (below_next (below_drewN (Below.refl _ _) q) hB2)).mono ?_; rintro e w3 ⟨rfl, hB3⟩))
  go_ret
  exact ⟨rfl, below_next (below_next (below_drewN (Below.refl _ _) q) hB2) hB3⟩
theorem StIn.next {b lo hi : Nat} {pv : Value} {m : Nat → Int} {code : List (List InsD)} {pr : List Int} {w : World} (S : StIn w b lo hi pv m code pr) (I : Inv m code) {k : Nat} {x : InsD} (hx : insM code m k = some x) :
    Calls Try.prog 95 #[.pointer (some ⟨b, 0, none⟩), .int .i64 k] w fun e w' => e = .returned (insV x.op x.a x.b x.c) ∧ Below w.heap.size w w' := by
  obtain ⟨a, cap, hc, hR⟩ := S.codeC
  rcases hq : code[k]? with _ | c
  · simp [insM, hq] at hx
  simp only [insM, hq, Option.bind_some] at hx
  have hk := (List.getElem?_eq_some_iff.1 hq).1
  obtain ⟨p, hp, hpl⟩ := I.pc k c hq
  rw [hp, Int.toNat_natCast] at hx
  have hl := (List.getElem?_eq_some_iff.1 hx).1
  obtain ⟨g, off, rfl, h2, h3, a', cp, h4, h5⟩ := hR k c hq
  obtain ⟨g', off', rfl, h6, h7, h8⟩ := h5 p x hx
  have h9 := S.pc k (by have := S.len; omega)
  rw [hp] at h9
  exact next_any b _ cap k p g off c.length cp g' off' x w hc hk S.len h9 h4 hl h8
theorem StIn.goes {b lo hi : Nat} {pv : Value} {m : Nat → Int} {code : List (List InsD)} {pr : List Int} {w : World} (S : StIn w b lo hi pv m code pr) (I : Inv m code) {k : Nat} (hk : k < code.length) :
    Calls Try.prog 75 #[.pointer (some ⟨b, 0, none⟩), .int .i64 k] w fun e w' => e = .returned (.bool (m (1 + k * 6) == 1 && (insM code m k).isSome)) ∧ ∃ q, w' = w.drewN q := by
  obtain ⟨a, cap, hc, hR⟩ := S.codeC
  have hl := S.len
  have ho := S.on k (by omega)
  rcases hb : (m (1 + k * 6) == 1) with _ | _
  · rw [hb] at ho
    simpa using goes_off b _ a cap k w hc hk hl ho
  · rw [hb] at ho
    have hq : code[k]? = some code[k] := List.getElem?_eq_getElem hk
    obtain ⟨p, hp, hpl⟩ := I.pc k _ hq
    obtain ⟨g, off, rfl, h2, h3, a', cp, h4, h5⟩ := hR k _ hq
    have h9 := S.pc k (by omega)
    rw [hp] at h9
    have e : (insM code m k).isSome = decide (p < (code[k]).length) := by
      simp only [insM, hq, Option.bind_some, hp, Int.toNat_natCast]
      rw [Bool.eq_iff_iff]; simp
    rw [Bool.true_and, e]
    exact goes_on b _ none cap k p g off _ cp a' w hc hk hl ho h9 h4 _ rfl
theorem can_any {b lo hi : Nat} {pv : Value} {m : Nat → Int} {code : List (List InsD)} {pr : List Int} (k : Int) (w : World) (S : StIn w b lo hi pv m code pr) (I : Inv m code) :
    Calls Try.prog 74 #[.pointer (some ⟨b, 0, none⟩), .int .i64 k] w fun e w' => e = .returned (.bool (canM code m k)) ∧ Below w.heap.size w w' := by
  rcases hh : hasT code.length k with _ | _
  · simpa [canM, hh] using can_no k w S hh
  obtain ⟨j, rfl, hj⟩ := hasT_yes hh
  have hG := S.goes I hj
  simp only [canM, hh, Bool.true_and, Int.toNat_natCast, canK]
  rcases hb : (m (1 + j * 6) == 1) with _ | _
  · rw [hb] at hG
    simpa using can_stops (n := 0) j w hG
  rcases hx : insM code m j with _ | x
  · rw [hb, hx] at hG
    simpa using can_stops (n := 0) j w hG
  rw [hb, hx] at hG
  have hT := S.trap
  rcases ht : (m 90 == 1) with _ | _
  · rw [ht] at hT
    have hfit : ∃ n, InsFit code.length n x := by
      rcases hq : code[j]? with _ | c
      · simp [insM, hq] at hx
      simp only [insM, hq, Option.bind_some] at hx
      exact ⟨_, I.fit j c hq x (List.mem_of_getElem? hx)⟩
    obtain ⟨n, hf⟩ := hfit
    simpa using can_at j x (blockedM m x) w hG hT (fun u hB => (S.later hB).next I hx) (fun u hB => blocked_any x hf u (S.later hB))
  · rw [ht] at hT
    simpa using can_trap j w hG hT
end Go.Proofs.Ytnbpneaiibandaa
