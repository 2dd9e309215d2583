/- What the laws of this seat stand on, part 4. -/
import Derived.Test.YtglafbajbiengaaGreatPa0
import Derived.Test.YtglafbajbiengaaGreatPa1
import Derived.Test.YtglafbajbiengaaGreatPa3
set_option linter.unusedVariables false
set_option linter.unusedSimpArgs false
set_option maxRecDepth 100000
set_option maxHeartbeats 40000000
namespace Go.Proofs.YtglafbajbiengaaGreat
open Go.RowKit
/-- A program's box. -/
abbrev boxOf (p : ProgD) (ca : Option Addr) (ccap : Nat) (ta : Option Addr) (tcap : Nat) : Obj := .cells #[.int .i64 p.vars, .int .i64 p.atoms, .int .i64 p.locks, .slice ca p.chans.length ccap, .int .i64 p.groups, .int .i64 p.onces, .slice ta p.threads.length tcap] 26
theorem sound1_any (b : Nat) (p : ProgD) (ca : Option Addr) (ccap : Nat) (ta : Option Addr) (tcap : Nat) (w : World) (h : w.heap[b]? = some (boxOf p ca ccap ta tcap)) (hp : ProgIn w w.heap.size p ca ta) :
    Calls Tryz.prog 65 #[.pointer (some ⟨b, 0, none⟩)] w fun e w' => e = .returned (.int .u16 (unE (sizesB p) 3)) ∧ Below w.heap.size w w' := by
  have H := Lib.hid h
  have HP := Lib.hid hp
  clear h hp
  go_enter Tryz.func65, Tryz.ntmps65
  go_wp2_with (first
    | (refine wpList_load_row rfl 26 (.tmp 0) rfl b rfl 26 _ (0, 0) _ H.out Tryz.underlying26 rfl info_prog ?_)
    | (go_at_call 67; refine (sizes_any p ca ccap ta tcap _ HP.out).mono ?_; rintro e w1 ⟨rfl, hB1⟩)
    | (go_at_call 66; refine (unless_any _ _ _).mono ?_; rintro e w2 ⟨rfl, rfl⟩))
  go_ret
  exact ⟨rfl, hB1⟩
theorem sound2_any (b : Nat) (p : ProgD) (ca : Option Addr) (ccap : Nat) (ta : Option Addr) (tcap : Nat) (w : World) (h : w.heap[b]? = some (boxOf p ca ccap ta tcap)) (hp : ProgIn w w.heap.size p ca ta) :
    Calls Tryz.prog 68 #[.pointer (some ⟨b, 0, none⟩)] w fun e w' => e = .returned (.int .u16 (unE (capsB p.chans) 21)) ∧ Below w.heap.size w w' := by
  have hc : w.cell? ⟨b, 3, none⟩ = some (.slice ca p.chans.length ccap) := cell_of_row _ _ _ _ _ _ h
  have HP := Lib.hid hp
  clear h hp
  go_enter Tryz.func68, Tryz.ntmps68
  go_wp2_with (first
    | (go_at_call 69; refine (capacities_any p.chans ca ccap _ _ HP.out.chans HP.out.clen).mono ?_; rintro e w1 ⟨rfl, rfl⟩)
    | (go_at_call 66; refine (unless_any _ _ _).mono ?_; rintro e w2 ⟨rfl, rfl⟩))
  go_ret
  exact ⟨rfl, Below.refl _ _⟩
theorem sound3_any (b : Nat) (p : ProgD) (ca : Option Addr) (ccap : Nat) (ta : Option Addr) (tcap : Nat) (w : World) (h : w.heap[b]? = some (boxOf p ca ccap ta tcap)) (hp : ProgIn w w.heap.size p ca ta) (hs : sizesB p = true) :
    Calls Tryz.prog 70 #[.pointer (some ⟨b, 0, none⟩)] w fun e w' => e = .returned (.int .u16 (threadsE p)) ∧ Below w.heap.size w w' := by
  have H := Lib.hid h
  have HP := Lib.hid hp
  have HS := Lib.hid hs
  clear h hp hs
  go_enter Tryz.func70, Tryz.ntmps70
  go_wp2_with (first
    | (refine wpList_load_row rfl 26 (.tmp 0) rfl b rfl 26 _ (0, 0) _ H.out Tryz.underlying26 rfl info_prog ?_)
    | (go_at_call 71; refine (threads_any p ca ccap ta tcap _ HP.out HS.out).mono ?_; rintro e w1 ⟨rfl, hB1⟩))
  go_ret
  exact ⟨rfl, hB1⟩
/-- What is wrong with a program. -/
def soundE (p : ProgD) : Int := firstE [unE (sizesB p) 3, unE (capsB p.chans) 21, threadsE p]
theorem ProgIn.wide {w : World} {B B' : Nat} {p : ProgD} {ca ta : Option Addr} (h : ProgIn w B p ca ta) (hB : B ≤ B') : ProgIn w B' p ca ta := by
  refine ⟨fun i x hx => ?_, fun k c hc => ?_, h.clen, h.tlen⟩
  · obtain ⟨b, off, h1, h2, h3⟩ := h.chans i x hx
    exact ⟨b, off, h1, by omega, h3⟩
  · obtain ⟨b, off, h1, h2, a', cap', h3, h4⟩ := h.threads k c hc
    refine ⟨b, off, h1, by omega, a', cap', h3, fun j x hx => ?_⟩
    obtain ⟨b, off, h1, h2, h3⟩ := h4 j x hx
    exact ⟨b, off, h1, by omega, h3⟩
abbrev soundFs (g : Nat) : Array Value := #[.func (.func 65) #[] #[.pointer (some ⟨g, 0, none⟩)], .func (.func 68) #[] #[.pointer (some ⟨g, 0, none⟩)], .func (.func 70) #[] #[.pointer (some ⟨g, 0, none⟩)]]
theorem first_sound (p : ProgD) (ca : Option Addr) (ccap : Nat) (ta : Option Addr) (tcap : Nat) (u : World) (hp : ProgIn u u.heap.size p ca ta) :
    Calls Tryz.prog 64 #[.slice (some ⟨u.heap.size + 1, 0, none⟩) 3 3] ((u.alloc (boxOf p ca ccap ta tcap)).alloc (.cells (soundFs u.heap.size) 140))
      fun e w' => e = .returned (.int .u16 (soundE p)) ∧ Below ((u.alloc (boxOf p ca ccap ta tcap)).alloc (.cells (soundFs u.heap.size) 140)).heap.size ((u.alloc (boxOf p ca ccap ta tcap)).alloc (.cells (soundFs u.heap.size) 140)) w' := by
  refine first_any [.func (.func 65) #[] #[.pointer (some ⟨u.heap.size, 0, none⟩)], .func (.func 68) #[] #[.pointer (some ⟨u.heap.size, 0, none⟩)], .func (.func 70) #[] #[.pointer (some ⟨u.heap.size, 0, none⟩)]] [unE (sizesB p) 3, unE (capsB p.chans) 21, threadsE p] _ 3 _ rfl (by simp) ?_ ?_
  · intro i f hf
    refine ⟨u.heap.size + 1, 0, rfl, by simp, ?_⟩
    rw [cell_of_row _ _ _ _ _ _ (heap_alloc2_new _ _ _)]
    simpa using hf
  · intro i f e hf he hz
    have hbelow : Below u.heap.size u ((u.alloc (boxOf p ca ccap ta tcap)).alloc (.cells (soundFs u.heap.size) 140)) := ((Below.refl _ _).alloc (Nat.le_refl _) _).alloc (by simp) _
    have hP : ∀ v, Below ((u.alloc (boxOf p ca ccap ta tcap)).alloc (.cells (soundFs u.heap.size) 140)).heap.size ((u.alloc (boxOf p ca ccap ta tcap)).alloc (.cells (soundFs u.heap.size) 140)) v → ProgIn v v.heap.size p ca ta := fun v hv => by
      have hv' : Below u.heap.size u v := hbelow.trans (hv.mono (by simp; omega))
      exact (hp.below hv').wide hv'.size
    match i, hf, he with
    | 0, hf, he =>
      cases hf; cases he
      exact ⟨_, _, rfl, fun u => by kernel_rfl, fun v hv => sound1_any _ p ca ccap ta tcap v (kept_two hv).1 (hP v hv)⟩
    | 1, hf, he =>
      cases hf; cases he
      exact ⟨_, _, rfl, fun u => by kernel_rfl, fun v hv => sound2_any _ p ca ccap ta tcap v (kept_two hv).1 (hP v hv)⟩
    | 2, hf, he =>
      cases hf; cases he
      have h0 := hz 0 _ (by omega) rfl
      have hs : sizesB p = true := by
        cases h : sizesB p
        · rw [h] at h0; exact absurd h0 (by decide)
        · rfl
      exact ⟨_, _, rfl, fun u => by kernel_rfl, fun v hv => sound3_any _ p ca ccap ta tcap v (kept_two hv).1 (hP v hv) hs⟩
    | i + 3, hf, he => simp at hf
theorem sound_any (p : ProgD) (ca : Option Addr) (ccap : Nat) (ta : Option Addr) (tcap : Nat) (w : World) (hp : ProgIn w w.heap.size p ca ta) :
    Calls Tryz.prog 42 #[p.val ca ccap ta tcap] w fun e w' => e = .returned (.int .u16 (soundE p)) ∧ Below w.heap.size w w' := by
  have HF := Lib.hid (first_sound p ca ccap ta tcap w hp)
  clear hp
  go_enter Tryz.func42, Tryz.ntmps42
  go_wp2_with fail
  refine (HF.out).mono ?_
  rintro e w1 ⟨rfl, hB1⟩
  go_wp2
  go_ret
  exact ⟨rfl, (((Below.refl _ _).alloc (Nat.le_refl _) _).alloc (by simp) _).trans (hB1.mono (by simp; omega))⟩
/-- A row that another is appended to stays as it is. -/
theorem own_beside {w w' : World} {base : Nat} {e : TypeId} {s : Nat} {v b : Value} {n : Nat} {xs : List Value} (h : w.ownsRow base e s b n xs) (hg : w.grownBy w' v.ownBlock) (ha : Apart b v) : w'.ownsRow base e s b n xs := by
  refine ⟨h.1, ?_⟩
  rcases h.2 with h2 | ⟨g, cap, cur, rfl, hb, hh, hr⟩
  · exact .inl h2
  · have hlt := (Array.getElem?_eq_some_iff.1 hh).1
    refine .inr ⟨g, cap, cur, rfl, hb, (hg.block g hlt ?_).trans hh, hr⟩
    rcases ha with ha | ha
    · simp [Value.ownBlock] at ha
    · exact ha
/-- Where a row lies behind an append. -/
theorem apart_append {w : World} {base : Nat} {e : TypeId} {s : Nat} {v v' b : Value} {n : Nat} {xs : List Value} (hb : w.ownsRow base e s b n xs) (ha : Apart b v) (hat : v'.ownBlock = v.ownBlock ∨ v'.ownBlock = some w.heap.size) : Apart b v' := by
  rcases hat with h | h
  · unfold Apart; rw [h]; exact ha
  · by_cases hn : b.ownBlock = none
    · exact .inl hn
    · refine .inr (fun e => ?_)
      rw [h] at e
      have := (own_lt hb _ e).1
      omega
/-- The cells of instructions. -/
def insCells (x : InsD) : List Value := [.int .u8 x.op, .int .i64 x.a, .int .i64 x.b, .int .i64 x.c]
def codeCells (c : List InsD) : List Value := c.flatMap insCells
theorem codeCells_len (c : List InsD) : (codeCells c).length = c.length * 4 := by
  induction c with
  | nil => rfl
  | cons x r ih => simp only [codeCells, List.flatMap_cons, List.length_append] at ih ⊢; rw [ih]; simp [insCells]; omega
theorem codeCells_snoc (c : List InsD) (x : InsD) : codeCells (c ++ [x]) = codeCells c ++ insCells x := by simp [codeCells]
theorem codeCells_at (c : List InsD) : ∀ (k : Nat) (x : InsD), c[k]? = some x → ∀ j, j < 4 → (codeCells c)[k * 4 + j]? = (insCells x)[j]? := by
  induction c with
  | nil => intro k x h; simp at h
  | cons y r ih =>
    intro k x h j hj
    have e : codeCells (y :: r) = insCells y ++ codeCells r := by simp [codeCells]
    rw [e]
    cases k with
    | zero =>
      simp at h; subst h
      rw [List.getElem?_append_left (by simp [insCells]; omega)]; simp
    | succ k =>
      have h' : r[k]? = some x := by simpa using h
      rw [List.getElem?_append_right (by simp [insCells]; omega)]
      have : (k + 1) * 4 + j - (insCells y).length = k * 4 + j := by simp [insCells]; omega
      rw [this]
      exact ih k x h' j hj
theorem ins_one (x : InsD) : ∀ u ∈ insCells x, u.oneCell' = true := by
  intro u hu
  simp [insCells] at hu
  rcases hu with rfl | rfl | rfl | rfl <;> rfl
/-- The instructions of a row of the call's own lie where it is. -/
theorem code_in {u : World} {base : Nat} {v : Value} {c : List InsD} (h : u.ownsRow base 67 4 v c.length (codeCells c)) : ∃ a cap, v = .slice a c.length cap ∧ CodeIn u u.heap.size a c := by
  rcases h.2 with ⟨rfl, h0⟩ | ⟨g, cap, cur, rfl, _, hh, hle, _, hs, ht⟩
  · refine ⟨none, 0, by rw [h0], fun k x hx => ?_⟩
    have := (List.getElem?_eq_some_iff.1 hx).1; omega
  · refine ⟨some ⟨g, 0, none⟩, cap, rfl, fun k x hx => ⟨g, 0, rfl, (Array.getElem?_eq_some_iff.1 hh).1, ?_⟩⟩
    have hk := (List.getElem?_eq_some_iff.1 hx).1
    have key : ∀ j, j < 4 → u.cell? ⟨g, k * 4 + j, none⟩ = (insCells x)[j]? := fun j hj => by
      rw [cell_of_row _ _ _ _ _ _ hh, ← codeCells_at c k x hx j hj, ← ht, List.getElem?_take_of_lt (by omega)]
      simp
    refine ⟨?_, ?_, ?_, ?_⟩
    · have := key 0 (by omega); simpa [insCells] using this
    · have := key 1 (by omega); simpa [insCells] using this
    · have := key 2 (by omega); simpa [insCells] using this
    · have := key 3 (by omega); simpa [insCells] using this
/-- The threads of a program: a row of the call's own of rows of the call's own, each in a block of its own. -/
structure OwnThreads (u : World) (base : Nat) (tv : Value) (vs : List Value) (cs : List (List InsD)) : Prop where
  len : vs.length = cs.length
  thr : u.ownsRow base 68 1 tv vs.length vs
  code : ∀ (k : Nat) (v : Value) (c : List InsD), vs[k]? = some v → cs[k]? = some c → u.ownsRow base 67 4 v c.length (codeCells c)
  apartT : ∀ (k : Nat) (v : Value), vs[k]? = some v → Apart v tv
  apartV : ∀ (j k : Nat) (v v' : Value), j ≠ k → vs[j]? = some v → vs[k]? = some v' → Apart v v'
theorem OwnThreads.nil (u : World) (base : Nat) : OwnThreads u base (.slice none 0 0) [] [] :=
  ⟨rfl, World.ownsRow_nil _ _ _ _, fun k v c h => by simp at h, fun k v h => by simp at h, fun j k v v' _ h => by simp at h⟩
theorem OwnThreads.codeAt {u : World} {base : Nat} {tv : Value} {vs : List Value} {cs : List (List InsD)} (h : OwnThreads u base tv vs cs) {k : Nat} {c : List InsD} (hc : cs[k]? = some c) : ∃ v, vs[k]? = some v ∧ u.ownsRow base 67 4 v c.length (codeCells c) := by
  obtain ⟨v, hv⟩ := at_lt (l := vs) (k := k) (by rw [h.len]; exact (List.getElem?_eq_some_iff.1 hc).1)
  exact ⟨v, hv, h.code k v c hv hc⟩
theorem OwnThreads.codeOf {u : World} {base : Nat} {tv : Value} {vs : List Value} {cs : List (List InsD)} (h : OwnThreads u base tv vs cs) {k : Nat} {v : Value} (hv : vs[k]? = some v) : ∃ c, cs[k]? = some c ∧ u.ownsRow base 67 4 v c.length (codeCells c) := by
  obtain ⟨c, hc⟩ := at_lt (l := cs) (k := k) (by rw [← h.len]; exact (List.getElem?_eq_some_iff.1 hv).1)
  exact ⟨c, hc, h.code k v c hv hc⟩
theorem OwnThreads.later {u u' : World} {base : Nat} {tv : Value} {vs : List Value} {cs : List (List InsD)} (h : OwnThreads u base tv vs cs) (hB : Below u.heap.size u u') : OwnThreads u' base tv vs cs :=
  ⟨h.len, own_later h.thr hB, fun k v c hv hc => own_later (h.code k v c hv hc) hB, h.apartT, h.apartV⟩
/-- Beside an append to a row that is none of them. -/
theorem OwnThreads.beside {u u' : World} {base : Nat} {tv v : Value} {vs : List Value} {cs : List (List InsD)} (h : OwnThreads u base tv vs cs) (hg : u.grownBy u' v.ownBlock) (hT : Apart tv v) (hV : ∀ (k : Nat) (b : Value), vs[k]? = some b → Apart b v) : OwnThreads u' base tv vs cs :=
  ⟨h.len, own_beside h.thr hg hT, fun k b c hb hc => own_beside (h.code k b c hb hc) hg (hV k b hb), h.apartT, h.apartV⟩
/-- One more thread. -/
theorem OwnThreads.snoc {u u' : World} {base : Nat} {tv tv' v : Value} {vs : List Value} {cs : List (List InsD)} {c : List InsD} (h : OwnThreads u base tv vs cs)
    (hv : u.ownsRow base 67 4 v c.length (codeCells c)) (hT : Apart v tv) (hV : ∀ (k : Nat) (b : Value), vs[k]? = some b → Apart b v)
    (hrow : u'.ownsRow base 68 1 tv' (vs.length + 1) (vs ++ [v])) (hg : u.grownBy u' tv.ownBlock) (hat : tv'.ownBlock = tv.ownBlock ∨ tv'.ownBlock = some u.heap.size) :
    OwnThreads u' base tv' (vs ++ [v]) (cs ++ [c]) := by
  have split : ∀ (k : Nat) (b : Value), (vs ++ [v])[k]? = some b → vs[k]? = some b ∧ k < vs.length ∨ k = vs.length ∧ b = v := fun k b hb => by
    rcases Nat.lt_trichotomy k vs.length with hk | hk | hk
    · left; rw [List.getElem?_append_left hk] at hb; exact ⟨hb, hk⟩
    · right; subst hk; simp at hb; exact ⟨rfl, hb.symm⟩
    · rw [List.getElem?_eq_none (by simp; omega)] at hb; cases hb
  have splitC : ∀ (k : Nat) (d : List InsD), (cs ++ [c])[k]? = some d → cs[k]? = some d ∧ k < vs.length ∨ k = vs.length ∧ d = c := fun k d hd => by
    rcases Nat.lt_trichotomy k cs.length with hk | hk | hk
    · left; rw [List.getElem?_append_left hk] at hd; exact ⟨hd, by rw [h.len]; exact hk⟩
    · right; subst hk; simp at hd; exact ⟨h.len.symm, hd.symm⟩
    · rw [List.getElem?_eq_none (by simp; omega)] at hd; cases hd
  have rowOf : ∀ (k : Nat) (b : Value) (d : List InsD), (vs ++ [v])[k]? = some b → (cs ++ [c])[k]? = some d → u.ownsRow base 67 4 b d.length (codeCells d) ∧ Apart b tv := fun k b d hb hd => by
    rcases split k b hb with ⟨h1, h2⟩ | ⟨rfl, rfl⟩
    · rcases splitC k d hd with ⟨h3, _⟩ | ⟨h3, _⟩
      · exact ⟨h.code k b d h1 h3, h.apartT k b h1⟩
      · omega
    · rcases splitC _ d hd with ⟨_, h3⟩ | ⟨_, rfl⟩
      · omega
      · exact ⟨hv, hT⟩
  refine ⟨by simp [h.len], by simpa using hrow, fun k b d hb hd => own_beside (rowOf k b d hb hd).1 hg (rowOf k b d hb hd).2, fun k b hb => ?_, fun j k b b' hne hb hb' => ?_⟩
  · obtain ⟨d, hd⟩ := at_lt (l := cs ++ [c]) (k := k) (by have := (List.getElem?_eq_some_iff.1 hb).1; simp at this ⊢; rw [← h.len]; exact this)
    obtain ⟨h1, h2⟩ := rowOf k b d hb hd
    exact apart_append h1 h2 hat
  · rcases split j b hb with ⟨h1, h2⟩ | ⟨h1, rfl⟩
    · rcases split k b' hb' with ⟨h3, h4⟩ | ⟨h3, rfl⟩
      · exact h.apartV j k b b' hne h1 h3
      · exact hV j b h1
    · rcases split k b' hb' with ⟨h3, h4⟩ | ⟨h3, rfl⟩
      · exact (hV k b' h3).symm
      · omega
/-- Threads of the call's own lie where they are. -/
theorem OwnThreads.threads_in {u : World} {base : Nat} {tv : Value} {vs : List Value} {cs : List (List InsD)} (h : OwnThreads u base tv vs cs) : ∃ a cap, tv = .slice a cs.length cap ∧ ThreadsIn u u.heap.size a cs := by
  have hl := h.len
  rcases h.thr.2 with ⟨rfl, h0⟩ | ⟨g, cap, cur, rfl, _, hh, hle, _, hs, ht⟩
  · refine ⟨none, 0, by rw [← hl, h0], fun k c hc => ?_⟩
    have := (List.getElem?_eq_some_iff.1 hc).1; omega
  · refine ⟨some ⟨g, 0, none⟩, cap, by rw [hl], fun k c hc => ⟨g, 0, rfl, (Array.getElem?_eq_some_iff.1 hh).1, ?_⟩⟩
    obtain ⟨v, hv, hrow⟩ := h.codeAt hc
    obtain ⟨a', cap', rfl, hin⟩ := code_in hrow
    refine ⟨a', cap', ?_, hin⟩
    have hk := (List.getElem?_eq_some_iff.1 hv).1
    rw [Nat.zero_add, cell_of_row _ _ _ _ _ _ hh, ← hv, ← ht, List.getElem?_take_of_lt (by omega)]
    simp
/-- Rows of bytes that came in. -/
def BytesIn (w : World) (B : Nat) (a : Option Addr) (rows : List (List Int)) : Prop :=
  ∀ (k : Nat) (r : List Int), rows[k]? = some r → ∃ b off, a = some ⟨b, off, none⟩ ∧ b < B ∧ ∃ a' cap', w.cell? ⟨b, off + k, none⟩ = some (.slice a' r.length cap') ∧ RowOf .u8 w B a' r ∧ (∀ n ∈ r, 0 ≤ n ∧ n < 256) ∧ r.length ≤ 9223372036854775807
theorem BytesIn.below {w w' : World} {B : Nat} {a : Option Addr} {rows : List (List Int)} (h : BytesIn w B a rows) (hB : Below B w w') : BytesIn w' B a rows := fun k r hr => by
  obtain ⟨b, off, h1, h2, a', cap', h3, h4, h5⟩ := h k r hr
  exact ⟨b, off, h1, h2, a', cap', (hB.cell (p := ⟨b, off + k, none⟩) h2).trans h3, h4.below hB, h5⟩
/-- An append at an operation of a region that draws its order. -/
theorem wp_append_own_at {P : Program} (w : World) {o : Oper} {a : Act} {K : Act → World → Prop} {Q : Exit → Act → World → Prop} (s x : Operand) (t : TypeId)
    (ho : o.op = .call { callee := .builtin .append, args := #[s, x], argTypes := #[t, t] })
    (base : Nat) (e : TypeId) (i : TypeInfo) (z : Value) (size bytes : Nat) (ht : P.underlying t = some (.slice e)) (hi : P.info? e = some i) (hz : i.zero = some z)
    (hsize : i.size = size) (hby : i.bytes = bytes) (hzs : z.cells.size = size) (hsz : 0 < size)
    (v : Value) (n : Nat) (xs : List Value) (hs : a.eval s = v) (hown : w.ownsRow base e size v n xs)
    (ad : Addr) (m c : Nat) (news : List Value) (hx : a.eval x = .slice (some ad) m c) (hl : news.length = m * size) (hnews : ∀ j u, news[j]? = some u → w.cell? (ad.add j) = some u) (h1 : ∀ u ∈ news, u.oneCell' = true)
    (h63 : n + m ≤ maxLen) (hbytes : (n + m) * bytes ≤ 140737488355328) (hbase : base ≤ w.heap.size)
    (h : ∀ v' w', w'.ownsRow base e size v' (n + m) (xs ++ news) → w.grownBy w' v.ownBlock → (v' = .slice none 0 0 ↔ v = .slice none 0 0 ∧ m = 0) → (v'.ownBlock = v.ownBlock ∨ v'.ownBlock = some w.heap.size) → K (a.put o.dst v') w') : o.wp P a w K Q := by
  obtain ⟨v', w', hr, h2, h3, h4, h5⟩ := run_append_own_at (P := P) w base t o.type e i z size bytes ht hi hz hsize hby hzs hsz v n xs hown ad m c news hl hnews h1 h63 hbytes hbase
  unfold Oper.wp execOp
  simp only [ho, resolve, invoke, builtin, Sem.run_bind, Sem.run_pure, Result.andThen_ok, List.map_toArray, List.map_cons, List.map_nil, hs, hx, hr]
  exact h v' w' h2 h3 h4 h5
theorem info_insT : (Tryz.prog.info? 67).map (fun i => (i.zero, i.size, i.bytes)) = some (some (.agg #[.int .u8 0, .int .i64 0, .int .i64 0, .int .i64 0]), 4, 32) := by kernel_rfl
theorem info_codeT : (Tryz.prog.info? 68).map (fun i => (i.zero, i.size, i.bytes)) = some (some (.slice none 0 0), 1, 24) := by kernel_rfl
/-- What lies while a program is being made: the result's box, the channels' row, the program's box, and the threads that are made. -/
structure MakeSt (w u : World) (tv : Value) (vs : List Value) (cs : List (List InsD)) : Prop where
  own : OwnThreads u (w.heap.size + 3) tv vs cs
  box : u.heap[w.heap.size + 1 + 1]? = some (.cells #[.int .i64 2, .int .i64 1, .int .i64 1, .slice (some ⟨w.heap.size + 1, 0, none⟩) 1 1, .int .i64 1, .int .i64 1, tv] 26)
  chn : u.heap[w.heap.size + 1]? = some (.cells #[.int .i64 1] 3)
  res : u.heap[w.heap.size]? = some (.cells #[.int .i64 0, .int .i64 0, .int .i64 0, .slice none 0 0, .int .i64 0, .int .i64 0, .slice none 0 0] 26)
  bel : Below w.heap.size w u
  siz : w.heap.size + 3 ≤ u.heap.size
theorem MakeSt.later {w u u' : World} {tv : Value} {vs : List Value} {cs : List (List InsD)} (h : MakeSt w u tv vs cs) (hB : Below u.heap.size u u') : MakeSt w u' tv vs cs := by
  have hs := h.siz
  exact ⟨h.own.later hB, (hB.block _ (by omega)).trans h.box, (hB.block _ (by omega)).trans h.chn, (hB.block _ (by omega)).trans h.res, h.bel.trans (hB.mono (by omega)), Nat.le_trans hs hB.size⟩
theorem MakeSt.beside {w u u' : World} {tv v : Value} {vs : List Value} {cs : List (List InsD)} {e : TypeId} {s n : Nat} {xs : List Value} (h : MakeSt w u tv vs cs) (hv : u.ownsRow (w.heap.size + 3) e s v n xs) (hg : u.grownBy u' v.ownBlock) (hT : Apart tv v) (hV : ∀ (k : Nat) (b : Value), vs[k]? = some b → Apart b v) : MakeSt w u' tv vs cs := by
  have hs := h.siz
  have hne : ∀ k, k < w.heap.size + 3 → some k ≠ v.ownBlock := fun k hk e => by have := (own_lt hv k e.symm).2; omega
  exact ⟨h.own.beside hg hT hV, (hg.block _ (by omega) (hne _ (by omega))).trans h.box, (hg.block _ (by omega) (hne _ (by omega))).trans h.chn, (hg.block _ (by omega) (hne _ (by omega))).trans h.res,
    h.bel.grown hg (by omega) (fun k e => by have := (own_lt hv k e).2; omega), Nat.le_trans hs hg.size⟩
theorem own_row {u : World} {base : Nat} {e : TypeId} {s : Nat} {v : Value} {n : Nat} {xs : List Value} (h : u.ownsRow base e s v n xs) {g : Nat} (hg : g < base) (cs : Array Value) : (u.setRow g cs).ownsRow base e s v n xs := by
  refine ⟨h.1, ?_⟩
  rcases h.2 with h2 | ⟨g', cap, cur, rfl, hb, hh, hr⟩
  · exact .inl h2
  · exact .inr ⟨g', cap, cur, rfl, hb, (setRow_other _ _ _ _ (by omega)).trans hh, hr⟩
theorem OwnThreads.row {u : World} {base : Nat} {tv : Value} {vs : List Value} {cs : List (List InsD)} (h : OwnThreads u base tv vs cs) {g : Nat} (hg : g < base) (r : Array Value) : OwnThreads (u.setRow g r) base tv vs cs :=
  ⟨h.len, own_row h.thr hg r, fun k v c hv hc => own_row (h.code k v c hv hc) hg r, h.apartT, h.apartV⟩
/-- What lies while a thread is being made: its row beside all else. -/
structure CodeSt (w u : World) (tv : Value) (vs : List Value) (cs : List (List InsD)) (v : Value) (c : List InsD) : Prop where
  st : MakeSt w u tv vs cs
  row : u.ownsRow (w.heap.size + 3) 67 4 v c.length (codeCells c)
  apT : Apart tv v
  apV : ∀ (i : Nat) (b : Value), vs[i]? = some b → Apart b v
theorem CodeSt.later {w u u' : World} {tv v : Value} {vs : List Value} {cs : List (List InsD)} {c : List InsD} (h : CodeSt w u tv vs cs v c) (hB : Below u.heap.size u u') : CodeSt w u' tv vs cs v c :=
  ⟨h.st.later hB, own_later h.row hB, h.apT, h.apV⟩
/-- One instruction more. -/
theorem CodeSt.more {w u u' : World} {tv v v' : Value} {vs : List Value} {cs : List (List InsD)} {c : List InsD} {x : InsD} (h : CodeSt w u tv vs cs v c)
    (hown : u'.ownsRow (w.heap.size + 3) 67 4 v' (c.length + 1) (codeCells c ++ insCells x)) (hg : u.grownBy u' v.ownBlock) (hat : v'.ownBlock = v.ownBlock ∨ v'.ownBlock = some u.heap.size) : CodeSt w u' tv vs cs v' (c ++ [x]) := by
  refine ⟨h.st.beside h.row hg h.apT h.apV, ?_, apart_append h.st.own.thr h.apT hat, fun i b hb => ?_⟩
  · rw [codeCells_snoc, List.length_append]; exact hown
  · obtain ⟨d, _, hd⟩ := h.st.own.codeOf hb
    exact apart_append hd (h.apV i b hb) hat
theorem OwnThreads.set {u : World} {base : Nat} {tv : Value} {vs : List Value} {cs : List (List InsD)} (h : OwnThreads u base tv vs cs) {p : Addr} (hp : p.block < base) (x : Value) : OwnThreads (u.setCell p x) base tv vs cs :=
  ⟨h.len, ownsRow_setCell_below h.thr hp x, fun k v c hv hc => ownsRow_setCell_below (h.code k v c hv hc) hp x, h.apartT, h.apartV⟩
/-- The thread that was made goes behind the others. -/
theorem MakeSt.push {w u u' : World} {tv tv' v : Value} {vs : List Value} {cs : List (List InsD)} {c : List InsD} (h : CodeSt w u tv vs cs v c)
    (hrow : u'.ownsRow (w.heap.size + 3) 68 1 tv' (vs.length + 1) (vs ++ [v])) (hg : u.grownBy u' tv.ownBlock) (hat : tv'.ownBlock = tv.ownBlock ∨ tv'.ownBlock = some u.heap.size) :
    u'.heap[w.heap.size + 1 + 1]? = some (.cells #[.int .i64 2, .int .i64 1, .int .i64 1, .slice (some ⟨w.heap.size + 1, 0, none⟩) 1 1, .int .i64 1, .int .i64 1, tv] 26) ∧
    MakeSt w (u'.setCell ⟨w.heap.size + 1 + 1, 6, none⟩ tv') tv' (vs ++ [v]) (cs ++ [c]) := by
  have hs := h.st.siz
  have hne : ∀ k, k < w.heap.size + 3 → some k ≠ tv.ownBlock := fun k hk e => by have := (own_lt h.st.own.thr k e.symm).2; omega
  have hbx := (hg.block _ (by omega) (hne _ (by omega))).trans h.st.box
  refine ⟨hbx, (h.st.own.snoc h.row h.apT.symm h.apV hrow hg hat).set (by show w.heap.size + 1 + 1 < _; omega) _, ?_, ?_, ?_, ?_, ?_⟩
  · rw [heap_setCell_same _ _ _ _ _ _ hbx]; rfl
  · rw [heap_setCell_other _ _ _ _ (by show w.heap.size + 1 ≠ w.heap.size + 1 + 1; omega)]; exact (hg.block _ (by omega) (hne _ (by omega))).trans h.st.chn
  · rw [heap_setCell_other _ _ _ _ (by show w.heap.size ≠ w.heap.size + 1 + 1; omega)]; exact (hg.block _ (by omega) (hne _ (by omega))).trans h.st.res
  · exact (h.st.bel.grown hg (by omega) (fun k e => by have := (own_lt h.st.own.thr k e).2; omega)).setCell (p := ⟨w.heap.size + 1 + 1, 6, none⟩) (by show w.heap.size ≤ w.heap.size + 1 + 1; omega) _
  · have := hg.size; have e : (u'.setCell ⟨w.heap.size + 1 + 1, 6, none⟩ tv').heap.size = u'.heap.size := by simp [World.setCell]
    omega
theorem set_at {α : Type} {l : List α} {k j : Nat} {x y : α} (h : (l.set k x)[j]? = some y) : (j = k ∧ y = x ∧ k < l.length) ∨ (j ≠ k ∧ l[j]? = some y) := by
  by_cases e : j = k
  · subst e
    left
    have hk : j < l.length := by have := (List.getElem?_eq_some_iff.1 h).1; simpa using this
    rw [List.getElem?_set_self hk] at h
    exact ⟨rfl, (Option.some.inj h).symm, hk⟩
  · right; rw [List.getElem?_set_ne (fun e' => e e'.symm)] at h; exact ⟨e, h⟩
/-- A thread that an instruction was appended to is laid in its place again. -/
theorem OwnThreads.grow {u u' : World} {base : Nat} {g cap k : Nat} {v v' : Value} {vs : List Value} {cs : List (List InsD)} {c : List InsD} {x : InsD} (h : OwnThreads u base (.slice (some ⟨g, 0, none⟩) cs.length cap) vs cs)
    (hv : vs[k]? = some v) (hc : cs[k]? = some c) (hown : u'.ownsRow base 67 4 v' (c.length + 1) (codeCells c ++ insCells x)) (hg : u.grownBy u' v.ownBlock) (hat : v'.ownBlock = v.ownBlock ∨ v'.ownBlock = some u.heap.size) :
    OwnThreads (u'.setCell ⟨g, k, none⟩ v') base (.slice (some ⟨g, 0, none⟩) cs.length cap) (vs.set k v') (cs.set k (c ++ [x])) := by
  have hkl : k < vs.length := (List.getElem?_eq_some_iff.1 hv).1
  have hl := h.len
  have hthr : u'.ownsRow base 68 1 (.slice (some ⟨g, 0, none⟩) cs.length cap) vs.length vs := own_beside h.thr hg (h.apartT k v hv).symm
  have hTv : Apart (.slice (some ⟨g, 0, none⟩) cs.length cap) v' := apart_append h.thr (h.apartT k v hv).symm hat
  have hgv : v'.ownBlock ≠ some g := fun e => by
    rcases hTv with h1 | h1
    · simp [Value.ownBlock] at h1
    · exact h1 (by rw [e]; rfl)
  have hVv : ∀ (j : Nat) (b : Value), j ≠ k → vs[j]? = some b → Apart b v' := fun j b hj hb => by
    obtain ⟨d, _, hd⟩ := h.codeOf hb
    exact apart_append hd (h.apartV j k b v hj hb hv) hat
  refine ⟨by simp [hl], ?_, fun j b d hb hd => ?_, fun j b hb => ?_, fun i j b b' hij hb hb' => ?_⟩
  · rcases hthr.2 with ⟨e, _⟩ | ⟨g', cap', cur, e, hb, hh, hle, hm, hs, ht⟩
    · cases e
    · simp only [Value.slice.injEq, Option.some.injEq, Addr.mk.injEq] at e
      obtain ⟨⟨rfl, _⟩, _, rfl⟩ := e
      refine ⟨by simp, .inr ⟨g, cap, cur.setIfInBounds k v', by simp [hl], hb, heap_setCell_same _ _ _ _ _ _ hh, by simpa [hl] using hle, hm, by simpa using hs, ?_⟩⟩
      simp only [Array.toList_setIfInBounds, List.length_set, Nat.mul_one] at ht ⊢
      rw [List.take_set, ht]
  · rcases set_at hb with ⟨ej, eb, _⟩ | ⟨hj, hb⟩
    · subst ej; subst eb
      rcases set_at hd with ⟨_, ed, _⟩ | ⟨hj, _⟩
      · subst ed
        rw [codeCells_snoc, List.length_append]
        exact ownsRow_setCell_other (a := ⟨g, j, none⟩) hown hgv b
      · exact absurd rfl hj
    · rcases set_at hd with ⟨e, _, _⟩ | ⟨_, hd⟩
      · exact absurd e hj
      · have h1 := own_beside (h.code j b d hb hd) hg (h.apartV j k b v hj hb hv)
        refine ownsRow_setCell_other (a := ⟨g, k, none⟩) h1 (fun e => ?_) v'
        rcases h.apartT j b hb with h2 | h2
        · rw [h2] at e; cases e
        · exact h2 (by rw [e]; rfl)
  · rcases set_at hb with ⟨rfl, rfl, _⟩ | ⟨hj, hb⟩
    · exact hTv.symm
    · exact h.apartT j b hb
  · rcases set_at hb with ⟨ei, eb, _⟩ | ⟨hi, hb2⟩
    · rcases set_at hb' with ⟨e, _, _⟩ | ⟨hj, hb2'⟩
      · exact absurd (ei.trans e.symm) hij
      · rw [eb]; exact (hVv j b' hj hb2').symm
    · rcases set_at hb' with ⟨e, eb, _⟩ | ⟨hj, hb'⟩
      · rw [eb]; exact hVv i b hi hb2
      · exact h.apartV i j b b' hij hb2 hb'
/-- A program of the laws' making. -/
def madeD (cs : List (List InsD)) : ProgD := ⟨2, 1, 1, [1], 1, 1, cs⟩
/-- The program lies as its value says. -/
theorem made_in {u : World} {base g : Nat} {tv : Value} {vs : List Value} {cs : List (List InsD)} {t : TypeId} {fr : Nat × Nat} (h : OwnThreads u base tv vs cs) (hc : u.heap[g]? = some (.cells #[.int .i64 1] t fr)) (hl : cs.length ≤ 1000) :
    ∃ ta tcap, tv = .slice ta cs.length tcap ∧ ProgIn u u.heap.size (madeD cs) (some ⟨g, 0, none⟩) ta := by
  obtain ⟨ta, tcap, rfl, hin⟩ := h.threads_in
  refine ⟨ta, tcap, rfl, fun i x hx => ?_, hin, by show 1 ≤ _; omega, by show cs.length ≤ _; omega⟩
  match i, hx with
  | 0, hx => cases hx; exact ⟨g, 0, rfl, (Array.getElem?_eq_some_iff.1 hc).1, cell_of_row _ _ _ _ _ _ hc⟩
  | i + 1, hx => simp [madeD] at hx
/-- Sound of it. -/
theorem made_calls {u : World} {base g : Nat} {tv : Value} {vs : List Value} {cs : List (List InsD)} {t : TypeId} {fr : Nat × Nat} (h : OwnThreads u base tv vs cs) (hc : u.heap[g]? = some (.cells #[.int .i64 1] t fr)) (hl : cs.length ≤ 1000) (e : Int) (he : soundE (madeD cs) = e) :
    Calls Tryz.prog 42 #[.agg #[.int .i64 2, .int .i64 1, .int .i64 1, .slice (some ⟨g, 0, none⟩) 1 1, .int .i64 1, .int .i64 1, tv]] u fun en w' => en = .returned (.int .u16 e) ∧ Below u.heap.size u w' := by
  obtain ⟨ta, tcap, rfl, hp⟩ := made_in h hc hl
  rw [← he]
  exact sound_any (madeD cs) (some ⟨g, 0, none⟩) 1 ta tcap u hp
/-- A program of the laws' making lies: its threads, its box in block B, its channels' row. -/
structure ProgSt (w u : World) (B : Nat) (tv : Value) (vs : List Value) (cs : List (List InsD)) : Prop where
  own : OwnThreads u (w.heap.size + 3) tv vs cs
  box : u.heap[B]? = some (.cells #[.int .i64 2, .int .i64 1, .int .i64 1, .slice (some ⟨w.heap.size + 1, 0, none⟩) 1 1, .int .i64 1, .int .i64 1, tv] 26)
  chn : u.heap[w.heap.size + 1]? = some (.cells #[.int .i64 1] 3)
  bel : Below w.heap.size w u
theorem ProgSt.later {w u u' : World} {B : Nat} {tv : Value} {vs : List Value} {cs : List (List InsD)} (h : ProgSt w u B tv vs cs) (hB : Below u.heap.size u u') : ProgSt w u' B tv vs cs :=
  ⟨h.own.later hB, (hB.block _ (Array.getElem?_eq_some_iff.1 h.box).1).trans h.box, (hB.block _ (Array.getElem?_eq_some_iff.1 h.chn).1).trans h.chn, below_next h.bel hB⟩
theorem ProgSt.cells {w u : World} {B : Nat} {tv : Value} {vs : List Value} {cs : List (List InsD)} (h : ProgSt w u B tv vs cs) :
    u.cell? ⟨B, 0, none⟩ = some (.int .i64 2) ∧ u.cell? ⟨B, 1, none⟩ = some (.int .i64 1) ∧ u.cell? ⟨B, 2, none⟩ = some (.int .i64 1) ∧ u.cell? ⟨B, 3, none⟩ = some (.slice (some ⟨w.heap.size + 1, 0, none⟩) 1 1) ∧ u.cell? ⟨B, 4, none⟩ = some (.int .i64 1) ∧ u.cell? ⟨B, 5, none⟩ = some (.int .i64 1) ∧ u.cell? ⟨B, 6, none⟩ = some tv :=
  ⟨cell_of_row _ _ 0 _ _ _ h.box, cell_of_row _ _ 1 _ _ _ h.box, cell_of_row _ _ 2 _ _ _ h.box, cell_of_row _ _ 3 _ _ _ h.box, cell_of_row _ _ 4 _ _ _ h.box, cell_of_row _ _ 5 _ _ _ h.box, cell_of_row _ _ 6 _ _ _ h.box⟩
theorem ProgSt.sound {w u : World} {B : Nat} {tv : Value} {vs : List Value} {cs : List (List InsD)} (h : ProgSt w u B tv vs cs) (hl : cs.length ≤ 1000) (e : Int) (he : soundE (madeD cs) = e) :
    Calls Tryz.prog 42 #[.agg #[.int .i64 2, .int .i64 1, .int .i64 1, .slice (some ⟨w.heap.size + 1, 0, none⟩) 1 1, .int .i64 1, .int .i64 1, tv]] u fun en w' => en = .returned (.int .u16 e) ∧ Below u.heap.size u w' := made_calls h.own h.chn hl e he
/-- A thread grows and is laid in its place: what lies then. -/
theorem ProgSt.grow {w u u' : World} {B g cap k : Nat} {v v' : Value} {vs : List Value} {cs : List (List InsD)} {c : List InsD} {x : InsD} (h : ProgSt w u B (.slice (some ⟨g, 0, none⟩) cs.length cap) vs cs) (hv : vs[k]? = some v) (hc : cs[k]? = some c)
    (hBv : ∀ b, v.ownBlock = some b → b ≠ B) (hBg : B ≠ g) (hown : u'.ownsRow (w.heap.size + 3) 67 4 v' (c.length + 1) (codeCells c ++ insCells x)) (hg : u.grownBy u' v.ownBlock) (hat : v'.ownBlock = v.ownBlock ∨ v'.ownBlock = some u.heap.size) :
    (u'.cell? ⟨g, k, none⟩ = some v ∧ u'.frozen? ⟨g, k, none⟩ = false ∧ u'.cell? ⟨B, 6, none⟩ = some (.slice (some ⟨g, 0, none⟩) cs.length cap)) ∧ ProgSt w (u'.setCell ⟨g, k, none⟩ v') B (.slice (some ⟨g, 0, none⟩) cs.length cap) (vs.set k v') (cs.set k (c ++ [x])) := by
  have hrow := h.own.code k v c hv hc
  have hkl : k < vs.length := (List.getElem?_eq_some_iff.1 hv).1
  have hgb := (own_lt h.own.thr g rfl)
  have hbase : w.heap.size + 3 ≤ u.heap.size := by omega
  have hne : ∀ b, b < w.heap.size + 3 → some b ≠ v.ownBlock := fun b hb e => by have := (own_lt hrow b e.symm).2; omega
  have hbx := (hg.block B (Array.getElem?_eq_some_iff.1 h.box).1 (fun e => hBv B e.symm rfl)).trans h.box
  have hcn := (hg.block (w.heap.size + 1) (by omega) (hne _ (by omega))).trans h.chn
  have hthr := own_beside h.own.thr hg (h.own.apartT k v hv).symm
  refine ⟨⟨?_, ?_, cell_of_row _ _ _ _ _ _ hbx⟩, h.own.grow hv hc hown hg hat, ?_, ?_, ?_⟩
  · rcases hthr.2 with ⟨e, _⟩ | ⟨g', cap', cur, e, hb, hh, hle, hm, hs, ht⟩
    · cases e
    · simp only [Value.slice.injEq, Option.some.injEq, Addr.mk.injEq] at e
      obtain ⟨⟨rfl, _⟩, _, rfl⟩ := e
      rw [cell_of_row _ _ _ _ _ _ hh, ← hv, ← ht, List.getElem?_take_of_lt (by omega)]
      simp
  · rcases hthr.2 with ⟨e, _⟩ | ⟨g', cap', cur, e, hb, hh, _⟩
    · cases e
    · simp only [Value.slice.injEq, Option.some.injEq, Addr.mk.injEq] at e
      obtain ⟨⟨rfl, _⟩, _, rfl⟩ := e
      exact frozen_of_row _ _ _ _ _ hh
  · rw [heap_setCell_other _ _ _ _ hBg]; exact hbx
  · rw [heap_setCell_other _ _ _ _ (by show w.heap.size + 1 ≠ g; omega)]; exact hcn
  · exact (h.bel.grown hg (by omega) (fun b e => by have := (own_lt hrow b e).2; omega)).setCell (p := ⟨g, k, none⟩) (by show w.heap.size ≤ g; omega) _
/-- A store into a block that is none of theirs. -/
theorem OwnThreads.setOff {u : World} {base : Nat} {tv : Value} {vs : List Value} {cs : List (List InsD)} (h : OwnThreads u base tv vs cs) {B : Nat} (hT : tv.ownBlock ≠ some B) (hV : ∀ (k : Nat) (v : Value), vs[k]? = some v → v.ownBlock ≠ some B) (j : Nat) (x : Value) : OwnThreads (u.setCell ⟨B, j, none⟩ x) base tv vs cs :=
  ⟨h.len, ownsRow_setCell_other (a := ⟨B, j, none⟩) h.thr hT x, fun k v c hv hc => ownsRow_setCell_other (a := ⟨B, j, none⟩) (h.code k v c hv hc) (hV k v hv) x, h.apartT, h.apartV⟩
/-- A thread more. -/
theorem ProgSt.push {w u u' : World} {B : Nat} {tv tv' v : Value} {vs : List Value} {cs : List (List InsD)} {c : List InsD} (h : ProgSt w u B tv vs cs) (hT : tv.ownBlock ≠ some B) (hV : ∀ (k : Nat) (b : Value), vs[k]? = some b → b.ownBlock ≠ some B)
    (hv : u.ownsRow (w.heap.size + 3) 67 4 v c.length (codeCells c)) (hvB : v.ownBlock ≠ some B) (haT : Apart v tv) (haV : ∀ (k : Nat) (b : Value), vs[k]? = some b → Apart b v)
    (hrow : u'.ownsRow (w.heap.size + 3) 68 1 tv' (vs.length + 1) (vs ++ [v])) (hg : u.grownBy u' tv.ownBlock) (hat : tv'.ownBlock = tv.ownBlock ∨ tv'.ownBlock = some u.heap.size) (hbase : w.heap.size + 3 ≤ u.heap.size) (hwB : w.heap.size ≤ B) :
    (u'.cell? ⟨B, 6, none⟩ = some tv ∧ u'.frozen? ⟨B, 6, none⟩ = false) ∧ ProgSt w (u'.setCell ⟨B, 6, none⟩ tv') B tv' (vs ++ [v]) (cs ++ [c]) ∧ tv'.ownBlock ≠ some B ∧ (∀ (k : Nat) (b : Value), (vs ++ [v])[k]? = some b → b.ownBlock ≠ some B) := by
  have hBl := (Array.getElem?_eq_some_iff.1 h.box).1
  have hbx := (hg.block B hBl (fun e => hT e.symm)).trans h.box
  have hne : ∀ k, k < w.heap.size + 3 → some k ≠ tv.ownBlock := fun k hk e => by have := (own_lt h.own.thr k e.symm).2; omega
  have hcn := (hg.block (w.heap.size + 1) (by omega) (hne _ (by omega))).trans h.chn
  have hT' : tv'.ownBlock ≠ some B := by
    rcases hat with e | e
    · rw [e]; exact hT
    · rw [e]; intro e2; cases e2; omega
  have hV' : ∀ (k : Nat) (b : Value), (vs ++ [v])[k]? = some b → b.ownBlock ≠ some B := fun k b hb => by
    rcases List.mem_append.1 (List.mem_of_getElem? hb) with hm | hm
    · obtain ⟨i, hi⟩ := List.getElem?_of_mem hm
      exact hV i b hi
    · simp at hm; subst hm; exact hvB
  have hCB : w.heap.size + 1 ≠ B := fun e => by
    subst e
    have e2 := h.box.symm.trans h.chn
    simp at e2
  refine ⟨⟨cell_of_row _ _ _ _ _ _ hbx, frozen_of_row _ _ _ _ _ hbx⟩, ⟨(h.own.snoc hv haT haV hrow hg hat).setOff hT' hV' 6 tv', ?_, ?_, ?_⟩, hT', hV'⟩
  · rw [heap_setCell_same _ _ _ _ _ _ hbx]; rfl
  · rw [heap_setCell_other _ _ _ _ hCB]; exact hcn
  · exact (h.bel.grown hg (by omega) (fun b e => by have := (own_lt h.own.thr b e).2; omega)).setCell (p := ⟨B, 6, none⟩) hwB _
end Go.Proofs.YtglafbajbiengaaGreat
namespace Go.Proofs.YtglafbajbiengaaGreat
open Go.ChangeShapes Go.WideShapes Go.ChangeAt Go.RowKit
/-- Which cells of a state hold yes or no; which hold how far a once has come. -/
def isB (i : Nat) : Bool := (decide (1 ≤ i) && decide (i ≤ 36) && decide ((i - 1) % 6 = 0)) || (decide (49 ≤ i) && decide (i ≤ 56) && decide ((i - 49) % 2 = 0)) || (decide (57 ≤ i) && decide (i ≤ 80) && decide ((i - 57) % 6 = 5)) || decide (i = 90)
def isO (i : Nat) : Bool := decide (85 ≤ i) && decide (i ≤ 88)
/-- A state's cell, by what number it stands for. -/
def valAt (i : Nat) (n : Int) : Value := if isB i then .bool (n == 1) else if isO i then .int .u8 n else .int .i64 n
theorem valAt_b {i : Nat} {n : Int} (h : isB i = true) : valAt i n = .bool (n == 1) := by simp [valAt, h]
theorem valAt_o {i : Nat} {n : Int} (h : 85 ≤ i) (h2 : i ≤ 88) : valAt i n = .int .u8 n := by
  have h1 : isB i = false := by simp [isB]; omega
  have h3 : isO i = true := by simp [isO]; omega
  simp [valAt, h1, h3]
theorem valAt_i {i : Nat} {n : Int} (h : isB i = false) (h2 : i < 85 ∨ 88 < i) : valAt i n = .int .i64 n := by
  have h3 : isO i = false := by simp [isO]; omega
  simp [valAt, h, h3]
def bitN (b : Bool) : Int := if b then 1 else 0
theorem bitN_eq (b : Bool) : (bitN b == 1) = b := by cases b <;> rfl
/-- Code at an address, in blocks from lo on and below hi. -/
def InsIn (w : World) (lo hi : Nat) (a : Option Addr) (c : List InsD) : Prop :=
  ∀ (j : Nat) (x : InsD), c[j]? = some x → ∃ g off, a = some ⟨g, off, none⟩ ∧ lo ≤ g ∧ g < hi ∧ InsAt w g (off + j * 4) x
def RowsIn (w : World) (lo hi : Nat) (a : Option Addr) (cs : List (List InsD)) : Prop :=
  ∀ (k : Nat) (c : List InsD), cs[k]? = some c → ∃ g off, a = some ⟨g, off, none⟩ ∧ lo ≤ g ∧ g < hi ∧ ∃ a' cap, w.cell? ⟨g, off + k, none⟩ = some (.slice a' c.length cap) ∧ InsIn w lo hi a' c
/-- A state: where it lies, its numbers, its code, what it told. -/
structure StIn (u : World) (b lo hi : Nat) (pv : Value) (m : Nat → Int) (code : List (List InsD)) (pr : List Int) : Prop where
  box : ∃ cs a cap, u.heap[b]? = some (.cells cs 113) ∧ cs.size = 91 ∧ cs[0]? = some (.slice a code.length cap) ∧ cs[89]? = some pv ∧ (∀ i, i < 91 → i ≠ 0 → i ≠ 89 → cs[i]? = some (valAt i (m i))) ∧ RowsIn u lo hi a code
  own : u.ownsRow hi 3 1 pv pr.length (pr.map (.int .i64 ·))
  off : b < lo ∨ hi ≤ b
  two : pv.ownBlock ≠ some b
  len : code.length ≤ 6
  lens : ∀ c ∈ code, c.length ≤ 60
  top : hi ≤ u.heap.size
theorem StIn.cell {u : World} {b lo hi : Nat} {pv : Value} {m : Nat → Int} {code : List (List InsD)} {pr : List Int} (h : StIn u b lo hi pv m code pr) (i : Nat) (hi' : i < 91) (h0 : i ≠ 0) (h9 : i ≠ 89) : u.cell? ⟨b, i, none⟩ = some (valAt i (m i)) := by
  obtain ⟨cs, a, cap, h1, h2, h3, h4, h5, h6⟩ := h.box
  rw [cell_of_row _ _ _ _ _ _ h1]; exact h5 i hi' h0 h9
theorem StIn.codeC {u : World} {b lo hi : Nat} {pv : Value} {m : Nat → Int} {code : List (List InsD)} {pr : List Int} (h : StIn u b lo hi pv m code pr) : ∃ a cap, u.cell? ⟨b, 0, none⟩ = some (.slice a code.length cap) ∧ RowsIn u lo hi a code := by
  obtain ⟨cs, a, cap, h1, h2, h3, h4, h5, h6⟩ := h.box
  exact ⟨a, cap, by rw [cell_of_row _ _ _ _ _ _ h1]; exact h3, h6⟩
theorem StIn.lt {u : World} {b lo hi : Nat} {pv : Value} {m : Nat → Int} {code : List (List InsD)} {pr : List Int} (h : StIn u b lo hi pv m code pr) : b < u.heap.size := by
  obtain ⟨cs, a, cap, h1, h2, h3, h4, h5, h6⟩ := h.box
  exact (Array.getElem?_eq_some_iff.1 h1).1
/-- Reading a state's cells, by what they are. -/
theorem StIn.on {u : World} {b lo hi : Nat} {pv : Value} {m : Nat → Int} {code : List (List InsD)} {pr : List Int} (h : StIn u b lo hi pv m code pr) (k : Nat) (hk : k < 6) : u.cell? ⟨b, 1 + k * 6, none⟩ = some (.bool (m (1 + k * 6) == 1)) := by
  rw [h.cell _ (by omega) (by omega) (by omega), valAt_b (by simp [isB]; omega)]
theorem StIn.pc {u : World} {b lo hi : Nat} {pv : Value} {m : Nat → Int} {code : List (List InsD)} {pr : List Int} (h : StIn u b lo hi pv m code pr) (k : Nat) (hk : k < 6) : u.cell? ⟨b, 1 + k * 6 + 1, none⟩ = some (.int .i64 (m (1 + k * 6 + 1))) := by
  rw [h.cell _ (by omega) (by omega) (by omega), valAt_i (by simp [isB]; omega) (by omega)]
theorem StIn.reg {u : World} {b lo hi : Nat} {pv : Value} {m : Nat → Int} {code : List (List InsD)} {pr : List Int} (h : StIn u b lo hi pv m code pr) (k r : Nat) (hk : k < 6) (hr : r < 4) : u.cell? ⟨b, 1 + k * 6 + 2 + r, none⟩ = some (.int .i64 (m (1 + k * 6 + 2 + r))) := by
  rw [h.cell _ (by omega) (by omega) (by omega), valAt_i (by simp [isB]; omega) (by omega)]
theorem StIn.trap {u : World} {b lo hi : Nat} {pv : Value} {m : Nat → Int} {code : List (List InsD)} {pr : List Int} (h : StIn u b lo hi pv m code pr) : u.cell? ⟨b, 90, none⟩ = some (.bool (m 90 == 1)) := by
  rw [h.cell _ (by omega) (by omega) (by omega), valAt_b (by simp [isB])]
/-- Whether there is a thread k. -/
def hasT (n : Nat) (k : Int) : Bool := decide (0 ≤ k) && decide (k < n)
theorem stSet_four {u : World} {b : Nat} {a0 a1 a2 a3 x0 x1 x2 x3 : Value} {t : TypeId} (h : u.heap[b]? = some (.cells #[a0, a1, a2, a3] t)) :
    ((((u.setCell ⟨b, 0, none⟩ x0).setCell ⟨b, 1, none⟩ x1).setCell ⟨b, 2, none⟩ x2).setCell ⟨b, 3, none⟩ x3).heap[b]? = some (.cells #[x0, x1, x2, x3] t) := by
  rw [stSet_block _ b 3 x3 (stSet_block _ b 2 x2 (stSet_block _ b 1 x1 (stSet_block u b 0 x0 h)))]; rfl
theorem stBelow_set {w u : World} {B b i : Nat} {v : Value} (h : Below B w u) (hb : B ≤ b) : Below B w (u.setCell ⟨b, i, none⟩ v) := h.setCell (p := ⟨b, i, none⟩) hb _
theorem info_ins4 : (Tryz.prog.info? 67).map (·.size) = some 4 := by kernel_rfl
theorem info_event : (Tryz.prog.info? 31).map (·.size) = some 6 := by kernel_rfl
end Go.Proofs.YtglafbajbiengaaGreat
