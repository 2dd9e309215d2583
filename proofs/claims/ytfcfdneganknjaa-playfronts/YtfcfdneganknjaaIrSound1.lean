/- What within, unless, first, sizes and capacities of package ir return, for every program. -/
import Derived.Test.YtfcfdneganknjaaIrFind
namespace Go.Proofs.Ytfcfdneganknjaa
set_option linter.unusedVariables false
set_option linter.unusedSimpArgs false
open Go.RowKit

theorem at_lt {α : Type} {l : List α} {k : Nat} (h : k < l.length) : ∃ x, l[k]? = some x := ⟨l[k], List.getElem?_eq_getElem h⟩
/-- Is n from lo to hi? -/
def wiB (n lo hi : Int) : Bool := decide (lo ≤ n) && decide (n ≤ hi)
theorem wiB_true {n lo hi : Int} : wiB n lo hi = true ↔ lo ≤ n ∧ n ≤ hi := by simp [wiB]
theorem wiB_false {n lo hi : Int} : wiB n lo hi = false ↔ ¬ (lo ≤ n ∧ n ≤ hi) := by simp [wiB]

set_option maxHeartbeats 400000 in
theorem within_any (n lo hi : Int) (w : World) :
    Calls Try.prog 64 #[.int .i64 n, .int .i64 lo, .int .i64 hi] w fun e w' => e = .returned (.bool (wiB n lo hi)) ∧ w = w' := by
  by_cases h : lo ≤ n
  · have H := Lib.hid (show decide (n ≤ hi) = wiB n lo hi by simp [wiB, h])
    go_enter Try.func64, Try.ntmps64
    go_wp2
    go_ret
    exact ⟨ret_bool H.out, rfl⟩
  · have hd : decide (lo ≤ n) = false := by simp; omega
    have H := Lib.hid (show false = wiB n lo hi by simp [wiB, h])
    go_enter Try.func64, Try.ntmps64
    go_wp2
    go_ret
    exact ⟨ret_bool H.out, rfl⟩
theorem within_yes (n lo hi : Int) (w : World) (h : wiB n lo hi = true) :
    Calls Try.prog 64 #[.int .i64 n, .int .i64 lo, .int .i64 hi] w fun e w' => e = .returned (.bool true) ∧ w = w' := by
  have := within_any n lo hi w; rwa [h] at this
theorem within_no (n lo hi : Int) (w : World) (h : wiB n lo hi = false) :
    Calls Try.prog 64 #[.int .i64 n, .int .i64 lo, .int .i64 hi] w fun e w' => e = .returned (.bool false) ∧ w = w' := by
  have := within_any n lo hi w; rwa [h] at this

/-- e, if what must be so is not. -/
def unE (b : Bool) (e : Int) : Int := if b then 0 else e
set_option maxHeartbeats 400000 in
theorem unless_any (b : Bool) (e : Int) (w : World) :
    Calls Try.prog 51 #[.bool b, .int .u16 e] w fun en w' => en = .returned (.int .u16 (unE b e)) ∧ w = w' := by
  cases b
  · go_enter Try.func51, Try.ntmps51
    go_wp2
    go_ret
    exact ⟨rfl, rfl⟩
  · go_enter Try.func51, Try.ntmps51
    go_wp2
    go_ret
    exact ⟨rfl, rfl⟩

/-- The first error of a row. -/
def firstE : List Int → Int
  | [] => 0
  | e :: r => if e = 0 then firstE r else e

/-- A value is a function of no arguments that returns e, from whatever world in which what lay lies as it lay. -/
def CallsTo (w0 : World) (f : Value) (e : Int) : Prop :=
  ∃ fn caps, f = .func (.func fn) #[] caps ∧ (∀ u, (callFunc fn caps).run Try.prog u = .ok (.enter fn caps) u) ∧ ∀ w, Below w0.heap.size w0 w → Calls Try.prog fn caps w fun en w' => en = .returned (.int .u16 e) ∧ Below w.heap.size w w'

theorem firstE_all {l : List Int} (h : ∀ e ∈ l, e = 0) : firstE l = 0 := by
  induction l with
  | nil => rfl
  | cons a r ih => unfold firstE; rw [if_pos (h a (by simp))]; exact ih fun e he => h e (by simp [he])
theorem firstE_at {l : List Int} : ∀ {k : Nat} {e : Int}, l[k]? = some e → e ≠ 0 → (∀ (j : Nat) (x : Int), j < k → l[j]? = some x → x = 0) → firstE l = e := by
  induction l with
  | nil => intro k e h; simp at h
  | cons a r ih =>
    intro k e h hne hz
    cases k with
    | zero => simp at h; subst h; unfold firstE; rw [if_neg hne]
    | succ k =>
      unfold firstE
      rw [if_pos (hz 0 a (by omega) rfl)]
      exact ih (by simpa using h) hne fun j x hj hx => hz (j + 1) x (by omega) (by simpa using hx)

set_option maxHeartbeats 2000000 in
theorem first_any (fs : List Value) (es : List Int) (a : Option Addr) (cap : Nat) (w : World) (hlen : fs.length = es.length) (hmax : fs.length ≤ 1000)
    (hrow : ∀ (i : Nat) (f : Value), fs[i]? = some f → ∃ b off, a = some ⟨b, off, none⟩ ∧ b < w.heap.size ∧ w.cell? ⟨b, off + i, none⟩ = some f)
    (hc : ∀ (i : Nat) (f : Value) (e : Int), fs[i]? = some f → es[i]? = some e → (∀ (j : Nat) (x : Int), j < i → es[j]? = some x → x = 0) → CallsTo w f e) :
    Calls Try.prog 49 #[.slice a fs.length cap] w fun e w' => e = .returned (.int .u16 (firstE es)) ∧ Below w.heap.size w w' := by
  have HL := Lib.hid hlen
  have HR := Lib.hid hrow
  have HC := Lib.hid hc
  clear hlen hrow hc
  go_enter Try.func49, Try.ntmps49
  go_wp2
  go_loopw [8] (fun i wr => ∃ k : Nat, k ≤ fs.length ∧ i = .int .i64 k ∧ Below w.heap.size w wr ∧ Hid (∀ (j : Nat) (x : Int), j < k → es[j]? = some x → x = 0)) (fun i _ => fs.length - (intOf i).toNat)
  case atStart => exact ⟨0, Nat.zero_le _, rfl, Below.refl _ _, Lib.hid (fun j x hj => by omega)⟩
  case round =>
    obtain ⟨k, hk, rfl, hB, HZ⟩ := hrel
    by_cases hlt : k < fs.length
    · obtain ⟨f, hf⟩ := at_lt hlt
      obtain ⟨e, he⟩ := at_lt (l := es) (k := k) (by rw [← HL.out]; exact hlt)
      obtain ⟨b, off, rfl, hb, hcell⟩ := HR.out k f hf
      obtain ⟨fn, caps, rfl, hfn, hcall⟩ := HC.out k f e hf he HZ.out
      have hcell' := (hB.cell (p := ⟨b, off + k, none⟩) hb).trans hcell
      have HE := Lib.hid he
      have HCall := Lib.hid (hcall wr hB)
      clear hf he hcell hcall
      by_cases hz : e = 0
      · subst hz
        go_wp2_with fail
        refine (HCall.out).mono ?_
        rintro e w1 ⟨rfl, hB1⟩
        go_wp2
        go_roundw
        case rel => exact ⟨k + 1, by omega, by go_num, below_next hB hB1, Lib.hid (fun j x hj hx => by
          by_cases e : j = k
          · subst e; have := HE.out; rw [this] at hx; exact (Option.some.inj hx).symm
          · exact HZ.out j x (by omega) hx)⟩
        case measure => simp [intOf]; omega
      · have hz' : (e != 0) = true := by simp [hz]
        have HF := Lib.hid (firstE_at HE.out hz HZ.out)
        clear hz
        go_wp2_with fail
        refine (HCall.out).mono ?_
        rintro e' w1 ⟨rfl, hB1⟩
        go_wp2
        go_ret
        exact ⟨ret_int HF.out.symm, below_next hB hB1⟩
    · obtain rfl : k = fs.length := by omega
      go_wp2
      go_ret
      exact ⟨ret_int (firstE_all fun x hx => by
        obtain ⟨j, hj⟩ := List.getElem?_of_mem hx
        exact HZ.out j x (by have := (List.getElem?_eq_some_iff.1 hj).1; rw [HL.out]; exact this) hj).symm, hB⟩

/-- A program. -/
structure ProgD where
  vars : Int
  atoms : Int
  locks : Int
  chans : List Int
  groups : Int
  onces : Int
  threads : List (List InsD)

/-- An instruction lies at a place. -/
def InsAt (w : World) (b o : Nat) (x : InsD) : Prop :=
  w.cell? ⟨b, o, none⟩ = some (.int .u8 x.op) ∧ w.cell? ⟨b, o + 1, none⟩ = some (.int .i64 x.a) ∧ w.cell? ⟨b, o + 2, none⟩ = some (.int .i64 x.b) ∧ w.cell? ⟨b, o + 3, none⟩ = some (.int .i64 x.c)
/-- Instructions lie at an address, in a block below B. -/
def CodeIn (w : World) (B : Nat) (a : Option Addr) (code : List InsD) : Prop :=
  ∀ (k : Nat) (x : InsD), code[k]? = some x → ∃ b off, a = some ⟨b, off, none⟩ ∧ b < B ∧ InsAt w b (off + k * 4) x
/-- Threads lie at an address, in blocks below B. -/
def ThreadsIn (w : World) (B : Nat) (a : Option Addr) (ts : List (List InsD)) : Prop :=
  ∀ (k : Nat) (c : List InsD), ts[k]? = some c → ∃ b off, a = some ⟨b, off, none⟩ ∧ b < B ∧ ∃ a' cap', w.cell? ⟨b, off + k, none⟩ = some (.slice a' c.length cap') ∧ CodeIn w B a' c
theorem InsAt.below {w w' : World} {B b o : Nat} {x : InsD} (h : InsAt w b o x) (hb : b < B) (hB : Below B w w') : InsAt w' b o x :=
  ⟨(hB.cell (p := ⟨b, o, none⟩) hb).trans h.1, (hB.cell (p := ⟨b, o + 1, none⟩) hb).trans h.2.1, (hB.cell (p := ⟨b, o + 2, none⟩) hb).trans h.2.2.1, (hB.cell (p := ⟨b, o + 3, none⟩) hb).trans h.2.2.2⟩
theorem CodeIn.below {w w' : World} {B : Nat} {a : Option Addr} {c : List InsD} (h : CodeIn w B a c) (hB : Below B w w') : CodeIn w' B a c := fun k x hx => by
  obtain ⟨b, off, rfl, hb, hi⟩ := h k x hx
  exact ⟨b, off, rfl, hb, hi.below hb hB⟩
theorem ThreadsIn.below {w w' : World} {B : Nat} {a : Option Addr} {ts : List (List InsD)} (h : ThreadsIn w B a ts) (hB : Below B w w') : ThreadsIn w' B a ts := fun k c hc => by
  obtain ⟨b, off, rfl, hb, a', cap', h1, h2⟩ := h k c hc
  exact ⟨b, off, rfl, hb, a', cap', (hB.cell (p := ⟨b, off + k, none⟩) hb).trans h1, h2.below hB⟩
/-- What a program's value leads to lies below B. -/
structure ProgIn (w : World) (B : Nat) (p : ProgD) (ca ta : Option Addr) : Prop where
  chans : RowOf .i64 w B ca p.chans
  threads : ThreadsIn w B ta p.threads
  clen : p.chans.length ≤ 9223372036854775807
  tlen : p.threads.length ≤ 9223372036854775807
theorem ProgIn.below {w w' : World} {B : Nat} {p : ProgD} {ca ta : Option Addr} (h : ProgIn w B p ca ta) (hB : Below B w w') : ProgIn w' B p ca ta := ⟨h.chans.below hB, h.threads.below hB, h.clen, h.tlen⟩
/-- A program's value. -/
abbrev ProgD.val (p : ProgD) (ca : Option Addr) (ccap : Nat) (ta : Option Addr) (tcap : Nat) : Value :=
  .agg #[.int .i64 p.vars, .int .i64 p.atoms, .int .i64 p.locks, .slice ca p.chans.length ccap, .int .i64 p.groups, .int .i64 p.onces, .slice ta p.threads.length tcap]

def capsB (l : List Int) : Bool := l.all fun c => wiB c 1 3
theorem capsB_all {l : List Int} (h : ∀ (j : Nat) (x : Int), l[j]? = some x → wiB x 1 3 = true) : capsB l = true := by
  unfold capsB; rw [List.all_eq_true]; intro x hx
  obtain ⟨j, hj⟩ := List.getElem?_of_mem hx
  exact h j x hj
theorem capsB_no {l : List Int} {j : Nat} {x : Int} (h : l[j]? = some x) (hx : wiB x 1 3 = false) : capsB l = false := by
  unfold capsB; rw [List.all_eq_false]; exact ⟨x, List.mem_of_getElem? h, by simp [hx]⟩

set_option maxHeartbeats 1000000 in
theorem capacities_any (l : List Int) (a : Option Addr) (cap B : Nat) (w : World) (hr : RowOf .i64 w B a l) (hl : l.length ≤ 9223372036854775807) :
    Calls Try.prog 54 #[.slice a l.length cap] w fun e w' => e = .returned (.bool (capsB l)) ∧ w = w' := by
  go_enter Try.func54, Try.ntmps54
  go_wp2
  go_loop [7] (fun i => ∃ k : Nat, k ≤ l.length ∧ i = .int .i64 k ∧ Hid (∀ (j : Nat) (x : Int), j < k → l[j]? = some x → wiB x 1 3 = true)) (fun i => l.length - (intOf i).toNat)
  case atStart => exact ⟨0, Nat.zero_le _, rfl, Lib.hid (fun j x hj => by omega)⟩
  case round =>
    obtain ⟨k, hk, rfl, HZ⟩ := hrel
    by_cases hlt : k < l.length
    · obtain ⟨x, hx⟩ := at_lt hlt
      obtain ⟨b, off, rfl, hb, hcell⟩ := hr k x hx
      have HE := Lib.hid hx
      cases hw : wiB x 1 3
      · have HW := Lib.hid hw
        have HF := Lib.hid (capsB_no hx hw)
        clear hx hw
        go_wp2_with (go_at_call 64; refine (within_no _ _ _ _ HW.out).mono ?_; rintro e w' ⟨rfl, rfl⟩)
        go_ret
        exact ⟨ret_bool HF.out.symm, rfl⟩
      · have HW := Lib.hid hw
        clear hx hw
        go_wp2_with (go_at_call 64; refine (within_yes _ _ _ _ HW.out).mono ?_; rintro e w' ⟨rfl, rfl⟩)
        go_round
        case rel => exact ⟨k + 1, by omega, by go_num, Lib.hid (fun j y hj hy => by
          by_cases e : j = k
          · subst e; have := HE.out; rw [this] at hy; cases hy; exact HW.out
          · exact HZ.out j y (by omega) hy)⟩
        case measure => simp [intOf]; omega
    · obtain rfl : k = l.length := by omega
      go_wp2
      go_ret
      exact ⟨ret_bool (capsB_all fun j x hx => HZ.out j x (List.getElem?_eq_some_iff.1 hx).1 hx).symm, rfl⟩

/-- No more of anything than may be. -/
def numsB (p : ProgD) : Bool := wiB p.vars 0 8 && wiB p.atoms 0 4 && wiB p.locks 0 4 && wiB p.groups 0 4 && wiB p.onces 0 4 && wiB p.chans.length 0 4 && wiB p.threads.length 1 6
def longB (ts : List (List InsD)) : Bool := ts.all fun c => decide (c.length ≤ 60)
def sizesB (p : ProgD) : Bool := longB p.threads && numsB p
theorem longB_all {l : List (List InsD)} (h : ∀ (j : Nat) (x : List InsD), l[j]? = some x → x.length ≤ 60) : longB l = true := by
  unfold longB; rw [List.all_eq_true]; intro x hx
  obtain ⟨j, hj⟩ := List.getElem?_of_mem hx
  simpa using h j x hj
theorem longB_no {l : List (List InsD)} {j : Nat} {x : List InsD} (h : l[j]? = some x) (hx : 60 < x.length) : longB l = false := by
  unfold longB; rw [List.all_eq_false]; exact ⟨x, List.mem_of_getElem? h, by simp; omega⟩

set_option maxHeartbeats 4000000 in
theorem sizes_any (p : ProgD) (ca : Option Addr) (ccap : Nat) (ta : Option Addr) (tcap : Nat) (w : World) (hp : ProgIn w w.heap.size p ca ta) :
    Calls Try.prog 52 #[p.val ca ccap ta tcap] w fun e w' => e = .returned (.bool (sizesB p)) ∧ Below w.heap.size w w' := by
  have HT := Lib.hid (hp.threads)
  have htl := hp.tlen
  clear hp
  go_enter Try.func52, Try.ntmps52
  go_wp2
  go_loop [8] (fun i => ∃ k : Nat, k ≤ p.threads.length ∧ i = .int .i64 k ∧ Hid (∀ (j : Nat) (x : List InsD), j < k → p.threads[j]? = some x → x.length ≤ 60)) (fun i => p.threads.length - (intOf i).toNat)
  case atStart => exact ⟨0, Nat.zero_le _, rfl, Lib.hid (fun j x hj => by omega)⟩
  case round =>
    obtain ⟨k, hk, rfl, HZ⟩ := hrel
    by_cases hlt : k < p.threads.length
    · obtain ⟨x, hx⟩ := at_lt hlt
      obtain ⟨b, off, rfl, hb, a', cap', hcell, _⟩ := HT.out k x hx
      have HE := Lib.hid hx
      by_cases hw : x.length ≤ 60
      · have hd : decide ((60 : Int) < (x.length : Int)) = false := by simp; omega
        clear hx
        go_wp2
        go_round
        case rel => exact ⟨k + 1, by omega, by go_num, Lib.hid (fun j y hj hy => by
          by_cases e : j = k
          · subst e; have := HE.out; rw [this] at hy; cases hy; exact hw
          · exact HZ.out j y (by omega) hy)⟩
        case measure => simp [intOf]; omega
      · have hd : decide ((60 : Int) < (x.length : Int)) = true := by simp; omega
        have HF := Lib.hid (show false = sizesB p by unfold sizesB; rw [longB_no hx (by omega)]; rfl)
        clear hx
        go_wp2
        go_ret
        exact ⟨ret_bool HF.out, (Below.refl _ _).alloc (Nat.le_refl _) _⟩
    · obtain rfl : k = p.threads.length := by omega
      have HL := Lib.hid (show numsB p = sizesB p by unfold sizesB; rw [longB_all fun j x hx => HZ.out j x (List.getElem?_eq_some_iff.1 hx).1 hx]; rfl)
      cases h1 : wiB p.vars 0 8
      · have HN := Lib.hid (show false = sizesB p by rw [← HL.out]; simp [numsB, h1])
        have H1 := Lib.hid h1
        clear h1
        go_wp2_with (first
          | (go_at_call 64; (with_reducible refine (within_no _ _ _ _ H1.out).mono ?_); rintro e w' ⟨rfl, rfl⟩))
        go_ret
        exact ⟨ret_bool HN.out, (Below.refl _ _).alloc (Nat.le_refl _) _⟩
      · skip
        cases h2 : wiB p.atoms 0 4
        · have HN := Lib.hid (show false = sizesB p by rw [← HL.out]; simp [numsB, h1, h2])
          have H1 := Lib.hid h1
          have H2 := Lib.hid h2
          clear h1 h2
          go_wp2_with (first
            | (go_at_call 64; (with_reducible refine (within_no _ _ _ _ H2.out).mono ?_); rintro e w' ⟨rfl, rfl⟩)
            | (go_at_call 64; (with_reducible refine (within_yes _ _ _ _ H1.out).mono ?_); rintro e w' ⟨rfl, rfl⟩))
          go_ret
          exact ⟨ret_bool HN.out, (Below.refl _ _).alloc (Nat.le_refl _) _⟩
        · skip
          cases h3 : wiB p.locks 0 4
          · have HN := Lib.hid (show false = sizesB p by rw [← HL.out]; simp [numsB, h1, h2, h3])
            have H1 := Lib.hid h1
            have H2 := Lib.hid h2
            have H3 := Lib.hid h3
            clear h1 h2 h3
            go_wp2_with (first
              | (go_at_call 64; (with_reducible refine (within_no _ _ _ _ H3.out).mono ?_); rintro e w' ⟨rfl, rfl⟩)
              | (go_at_call 64; (with_reducible refine (within_yes _ _ _ _ H1.out).mono ?_); rintro e w' ⟨rfl, rfl⟩)
              | (go_at_call 64; (with_reducible refine (within_yes _ _ _ _ H2.out).mono ?_); rintro e w' ⟨rfl, rfl⟩))
            go_ret
            exact ⟨ret_bool HN.out, (Below.refl _ _).alloc (Nat.le_refl _) _⟩
          · skip
            cases h4 : wiB p.groups 0 4
            · have HN := Lib.hid (show false = sizesB p by rw [← HL.out]; simp [numsB, h1, h2, h3, h4])
              have H1 := Lib.hid h1
              have H2 := Lib.hid h2
              have H3 := Lib.hid h3
              have H4 := Lib.hid h4
              clear h1 h2 h3 h4
              go_wp2_with (first
                | (go_at_call 64; (with_reducible refine (within_no _ _ _ _ H4.out).mono ?_); rintro e w' ⟨rfl, rfl⟩)
                | (go_at_call 64; (with_reducible refine (within_yes _ _ _ _ H1.out).mono ?_); rintro e w' ⟨rfl, rfl⟩)
                | (go_at_call 64; (with_reducible refine (within_yes _ _ _ _ H2.out).mono ?_); rintro e w' ⟨rfl, rfl⟩)
                | (go_at_call 64; (with_reducible refine (within_yes _ _ _ _ H3.out).mono ?_); rintro e w' ⟨rfl, rfl⟩))
              go_ret
              exact ⟨ret_bool HN.out, (Below.refl _ _).alloc (Nat.le_refl _) _⟩
            · skip
              cases h5 : wiB p.onces 0 4
              · have HN := Lib.hid (show false = sizesB p by rw [← HL.out]; simp [numsB, h1, h2, h3, h4, h5])
                have H1 := Lib.hid h1
                have H2 := Lib.hid h2
                have H3 := Lib.hid h3
                have H4 := Lib.hid h4
                have H5 := Lib.hid h5
                clear h1 h2 h3 h4 h5
                go_wp2_with (first
                  | (go_at_call 64; (with_reducible refine (within_no _ _ _ _ H5.out).mono ?_); rintro e w' ⟨rfl, rfl⟩)
                  | (go_at_call 64; (with_reducible refine (within_yes _ _ _ _ H1.out).mono ?_); rintro e w' ⟨rfl, rfl⟩)
                  | (go_at_call 64; (with_reducible refine (within_yes _ _ _ _ H2.out).mono ?_); rintro e w' ⟨rfl, rfl⟩)
                  | (go_at_call 64; (with_reducible refine (within_yes _ _ _ _ H3.out).mono ?_); rintro e w' ⟨rfl, rfl⟩)
                  | (go_at_call 64; (with_reducible refine (within_yes _ _ _ _ H4.out).mono ?_); rintro e w' ⟨rfl, rfl⟩))
                go_ret
                exact ⟨ret_bool HN.out, (Below.refl _ _).alloc (Nat.le_refl _) _⟩
              · skip
                cases h6 : wiB p.chans.length 0 4
                · have HN := Lib.hid (show false = sizesB p by rw [← HL.out]; simp [numsB, h1, h2, h3, h4, h5, h6])
                  have H1 := Lib.hid h1
                  have H2 := Lib.hid h2
                  have H3 := Lib.hid h3
                  have H4 := Lib.hid h4
                  have H5 := Lib.hid h5
                  have H6 := Lib.hid h6
                  clear h1 h2 h3 h4 h5 h6
                  go_wp2_with (first
                    | (go_at_call 64; (with_reducible refine (within_no _ _ _ _ H6.out).mono ?_); rintro e w' ⟨rfl, rfl⟩)
                    | (go_at_call 64; (with_reducible refine (within_yes _ _ _ _ H1.out).mono ?_); rintro e w' ⟨rfl, rfl⟩)
                    | (go_at_call 64; (with_reducible refine (within_yes _ _ _ _ H2.out).mono ?_); rintro e w' ⟨rfl, rfl⟩)
                    | (go_at_call 64; (with_reducible refine (within_yes _ _ _ _ H3.out).mono ?_); rintro e w' ⟨rfl, rfl⟩)
                    | (go_at_call 64; (with_reducible refine (within_yes _ _ _ _ H4.out).mono ?_); rintro e w' ⟨rfl, rfl⟩)
                    | (go_at_call 64; (with_reducible refine (within_yes _ _ _ _ H5.out).mono ?_); rintro e w' ⟨rfl, rfl⟩))
                  go_ret
                  exact ⟨ret_bool HN.out, (Below.refl _ _).alloc (Nat.le_refl _) _⟩
                · skip
                  cases h7 : wiB p.threads.length 1 6
                  · have HN := Lib.hid (show false = sizesB p by rw [← HL.out]; simp [numsB, h1, h2, h3, h4, h5, h6, h7])
                    have H1 := Lib.hid h1
                    have H2 := Lib.hid h2
                    have H3 := Lib.hid h3
                    have H4 := Lib.hid h4
                    have H5 := Lib.hid h5
                    have H6 := Lib.hid h6
                    have H7 := Lib.hid h7
                    clear h1 h2 h3 h4 h5 h6 h7
                    go_wp2_with (first
                      | (go_at_call 64; (with_reducible refine (within_no _ _ _ _ H7.out).mono ?_); rintro e w' ⟨rfl, rfl⟩)
                      | (go_at_call 64; (with_reducible refine (within_yes _ _ _ _ H1.out).mono ?_); rintro e w' ⟨rfl, rfl⟩)
                      | (go_at_call 64; (with_reducible refine (within_yes _ _ _ _ H2.out).mono ?_); rintro e w' ⟨rfl, rfl⟩)
                      | (go_at_call 64; (with_reducible refine (within_yes _ _ _ _ H3.out).mono ?_); rintro e w' ⟨rfl, rfl⟩)
                      | (go_at_call 64; (with_reducible refine (within_yes _ _ _ _ H4.out).mono ?_); rintro e w' ⟨rfl, rfl⟩)
                      | (go_at_call 64; (with_reducible refine (within_yes _ _ _ _ H5.out).mono ?_); rintro e w' ⟨rfl, rfl⟩)
                      | (go_at_call 64; (with_reducible refine (within_yes _ _ _ _ H6.out).mono ?_); rintro e w' ⟨rfl, rfl⟩))
                    go_ret
                    exact ⟨ret_bool HN.out, (Below.refl _ _).alloc (Nat.le_refl _) _⟩
                  · skip
                    have HN := Lib.hid (show true = sizesB p by rw [← HL.out]; simp [numsB, h1, h2, h3, h4, h5, h6, h7])
                    have H1 := Lib.hid h1
                    have H2 := Lib.hid h2
                    have H3 := Lib.hid h3
                    have H4 := Lib.hid h4
                    have H5 := Lib.hid h5
                    have H6 := Lib.hid h6
                    have H7 := Lib.hid h7
                    clear h1 h2 h3 h4 h5 h6 h7
                    go_wp2_with (first
                      | (go_at_call 64; (with_reducible refine (within_yes _ _ _ _ H1.out).mono ?_); rintro e w' ⟨rfl, rfl⟩)
                      | (go_at_call 64; (with_reducible refine (within_yes _ _ _ _ H2.out).mono ?_); rintro e w' ⟨rfl, rfl⟩)
                      | (go_at_call 64; (with_reducible refine (within_yes _ _ _ _ H3.out).mono ?_); rintro e w' ⟨rfl, rfl⟩)
                      | (go_at_call 64; (with_reducible refine (within_yes _ _ _ _ H4.out).mono ?_); rintro e w' ⟨rfl, rfl⟩)
                      | (go_at_call 64; (with_reducible refine (within_yes _ _ _ _ H5.out).mono ?_); rintro e w' ⟨rfl, rfl⟩)
                      | (go_at_call 64; (with_reducible refine (within_yes _ _ _ _ H6.out).mono ?_); rintro e w' ⟨rfl, rfl⟩)
                      | (go_at_call 64; (with_reducible refine (within_yes _ _ _ _ H7.out).mono ?_); rintro e w' ⟨rfl, rfl⟩))
                    go_ret
                    exact ⟨ret_bool HN.out, (Below.refl _ _).alloc (Nat.le_refl _) _⟩

end Go.Proofs.Ytfcfdneganknjaa
