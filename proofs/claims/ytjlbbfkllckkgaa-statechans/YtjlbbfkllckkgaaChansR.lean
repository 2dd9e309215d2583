/- What holds in whatever run of the threads of StateChans. -/
import Derived.Test.YtjlbbfkllckkgaaStateKnown
namespace Go.Proofs.Ytjlbbfkllckkgaa
set_option linter.unusedVariables false
set_option linter.unusedSimpArgs false
set_option maxRecDepth 100000
open Go.ChangeShapes Go.WideShapes Go.ChangeAt Go.RowKit

def chIn (v : List Int) : List InsD := v.flatMap fun x => [⟨1, 0, x, 0⟩, ⟨20, 0, 0, 0⟩]
def chOut (v : List Int) : List InsD := v.flatMap fun _ => [⟨21, 0, 0, 0⟩, ⟨9, 0, 0, 0⟩]
def chB : List InsD := [⟨12, 1, 0, 0⟩, ⟨12, 2, 0, 0⟩]
def chCode (v : List Int) : List (List InsD) := [chB, chIn v, chOut v]
def chD (v : List Int) (R : Int) : ProgD := { vars := 0, atoms := 0, locks := 0, chans := [R], groups := 0, onces := 0, threads := chCode v }
theorem chIn_len : ∀ v : List Int, (chIn v).length = 2 * v.length
  | [] => rfl
  | x :: v => by
    have := chIn_len v
    unfold chIn at this ⊢
    simp only [List.flatMap_cons, List.length_append, List.length_cons, List.length_nil]; omega
theorem chOut_len : ∀ v : List Int, (chOut v).length = 2 * v.length
  | [] => rfl
  | x :: v => by
    have := chOut_len v
    unfold chOut at this ⊢
    simp only [List.flatMap_cons, List.length_append, List.length_cons, List.length_nil]; omega
theorem chIn_at : ∀ (v : List Int) (i : Nat) (x : Int), v[i]? = some x → (chIn v)[2 * i]? = some ⟨1, 0, x, 0⟩ ∧ (chIn v)[2 * i + 1]? = some ⟨20, 0, 0, 0⟩
  | [], i, x, h => by simp at h
  | y :: v, 0, x, h => by
    obtain rfl : y = x := by simpa using h
    exact ⟨rfl, rfl⟩
  | y :: v, i + 1, x, h => by
    have := chIn_at v i x (by simpa using h)
    rw [show 2 * (i + 1) = 2 * i + 1 + 1 by omega]
    exact this
theorem chOut_at : ∀ (v : List Int) (i : Nat), i < v.length → (chOut v)[2 * i]? = some ⟨21, 0, 0, 0⟩ ∧ (chOut v)[2 * i + 1]? = some ⟨9, 0, 0, 0⟩
  | [], i, h => by simp at h
  | y :: v, 0, h => ⟨rfl, rfl⟩
  | y :: v, i + 1, h => by
    have := chOut_at v i (by simpa using h)
    rw [show 2 * (i + 1) = 2 * i + 1 + 1 by omega]
    exact this
theorem chIn_snoc (v : List Int) (x : Int) : chIn (v ++ [x]) = chIn v ++ [⟨1, 0, x, 0⟩, ⟨20, 0, 0, 0⟩] := by simp [chIn]
theorem chOut_snoc (v : List Int) (x : Int) : chOut (v ++ [x]) = chOut v ++ [⟨21, 0, 0, 0⟩, ⟨9, 0, 0, 0⟩] := by simp [chOut]
theorem ch_ins {v : List Int} {R : Int} {n : Nat} {x : InsD} {c : List InsD} (hc : c ∈ chCode v) (hx : x ∈ c) : insE (chD v R) n x = 0 := by
  have key : knownB x = true ∧ fitsB (chD v R) n x = true := by
    simp only [chCode, List.mem_cons, List.not_mem_nil, or_false] at hc
    rcases hc with rfl | rfl | rfl
    · simp only [chB, List.mem_cons, List.not_mem_nil, or_false] at hx
      rcases hx with rfl | rfl
      all_goals simp [knownB, wordsB, fitsB, fitB, Row.at, rowAt, tab, InsD.at, canB, canL, wiB, chD, chCode]
    · obtain ⟨y, _, hy⟩ := List.mem_flatMap.1 hx
      simp only [List.mem_cons, List.not_mem_nil, or_false] at hy
      rcases hy with rfl | rfl
      all_goals simp [knownB, wordsB, fitsB, fitB, Row.at, rowAt, tab, InsD.at, canB, canL, wiB, chD, chCode]
    · obtain ⟨y, _, hy⟩ := List.mem_flatMap.1 hx
      simp only [List.mem_cons, List.not_mem_nil, or_false] at hy
      rcases hy with rfl | rfl
      all_goals simp [knownB, wordsB, fitsB, fitB, Row.at, rowAt, tab, InsD.at, canB, canL, wiB, chD, chCode]
  unfold insE; rw [key.1, key.2]; rfl
theorem ch_sound {v : List Int} {R : Int} (hv : v.length ≤ 8) (h1 : 1 ≤ R) (h3 : R ≤ 3) : soundE (chD v R) = 0 := by
  have hs : sizesB (chD v R) = true := by
    have e1 := chIn_len v
    have e2 := chOut_len v
    simp [sizesB, numsB, longB, chD, chCode, chB, wiB]; omega
  have hc : capsB (chD v R).chans = true := by simp [capsB, chD, wiB]; omega
  have ht : threadsE (chD v R) = 0 := firstE_map _ _ fun j c hj => firstE_map _ _ fun i x hi => ch_ins (List.mem_of_getElem? hj) (List.mem_of_getElem? hi)
  unfold soundE; rw [hs, hc, ht]; rfl

def vv (v : List Int) (i : Nat) : Int := (v[i]?).getD 0
theorem vv_at {v : List Int} {i : Nat} (h : i < v.length) : v[i]? = some (vv v i) := by
  unfold vv; rw [List.getElem?_eq_getElem h]; rfl
structure ChI (v : List Int) (R : Int) (m : Nat → Int) (t : List Int) (p1 p2 : Nat) : Prop where
  h1 : m 8 = p1
  h2 : m 14 = p2
  l1 : p1 ≤ 2 * v.length
  l2 : p2 ≤ 2 * v.length
  le : (p2 + 1) / 2 ≤ p1 / 2
  many : m 60 = ((p1 / 2 - (p2 + 1) / 2 : Nat) : Int)
  most : m 61 = R
  room : m 60 ≤ R
  shut : m 62 = 0
  nums : ∀ j, j < p1 / 2 - (p2 + 1) / 2 → m (57 + j) = vv v ((p2 + 1) / 2 + j)
  r1 : p1 % 2 = 1 → m 9 = vv v (p1 / 2)
  r2 : p2 % 2 = 1 → m 15 = vv v (p2 / 2)
  told : t = v.take (p2 / 2)
theorem ChI.congr {v : List Int} {R : Int} {m m' : Nat → Int} {t : List Int} {p1 p2 : Nat} (h : ChI v R m t p1 p2) (hR : R ≤ 3) (e : ∀ i, (i = 8 ∨ i = 14 ∨ i = 9 ∨ i = 15 ∨ (57 ≤ i ∧ i ≤ 62)) → m' i = m i) : ChI v R m' t p1 p2 := by
  have hm := h.many
  have hr := h.room
  refine ⟨?_, ?_, h.l1, h.l2, h.le, ?_, ?_, ?_, ?_, fun j hj => ?_, fun q => ?_, fun q => ?_, h.told⟩
  · rw [e 8 (by omega)]; exact h.h1
  · rw [e 14 (by omega)]; exact h.h2
  · rw [e 60 (by omega)]; exact h.many
  · rw [e 61 (by omega)]; exact h.most
  · rw [e 60 (by omega)]; exact h.room
  · rw [e 62 (by omega)]; exact h.shut
  · rw [e (57 + j) (by omega)]; exact h.nums j hj
  · rw [e 9 (by omega)]; exact h.r1 q
  · rw [e 15 (by omega)]; exact h.r2 q
theorem ch_start {v : List Int} {R : Int} (h1 : 1 ≤ R) : ChI v R (newM [R]) [] 0 0 := by
  refine ⟨rfl, rfl, by omega, by omega, by omega, rfl, rfl, ?_, rfl, fun j hj => by simp at hj, by omega, by omega, by simp⟩
  show (0 : Int) ≤ R
  omega

/-- A step of a thread that can go on. -/
theorem stepM_can {code : List (List InsD)} {m : Nat → Int} {j : Nat} {x : InsD} (h : canM code m j = true) (hx : insM code m j = some x) : stepM code m j = stepK m j x ∧ stepT code m j = doT (pcUp m j) j x := by
  unfold stepM stepT
  rw [if_pos h, if_pos h, Int.toNat_natCast, hx]
  exact ⟨rfl, rfl⟩
set_option maxHeartbeats 1000000 in
theorem ch_step0 {v : List Int} {R : Int} {m : Nat → Int} {t : List Int} {p1 p2 : Nat} (h : ChI v R m t p1 p2) (hR : R ≤ 3) {x : InsD} (hx : insM (chCode v) m 0 = some x) : ChI v R (stepK m 0 x) (t ++ doT (pcUp m 0) 0 x) p1 p2 := by
  have hx2 : x ∈ chB := by
    have : (chB)[(m 2).toNat]? = some x := hx
    exact List.mem_of_getElem? this
  simp only [chB, List.mem_cons, List.not_mem_nil, or_false] at hx2
  rcases hx2 with rfl | rfl
  · rw [show doT (pcUp m 0) 0 ⟨12, 1, 0, 0⟩ = [] from rfl, List.append_nil]
    refine h.congr hR fun i hi => ?_
    simp only [stepK, doE, edM]
    rw [upd_ne _ _ (by omega), upd_ne _ _ (by simp; omega), upd_ne _ _ (by omega)]
  · rw [show doT (pcUp m 0) 0 ⟨12, 2, 0, 0⟩ = [] from rfl, List.append_nil]
    refine h.congr hR fun i hi => ?_
    simp only [stepK, doE, edM]
    rw [upd_ne _ _ (by omega), upd_ne _ _ (by simp; omega), upd_ne _ _ (by omega)]
set_option maxHeartbeats 1000000 in
theorem ch_step1 {v : List Int} {R : Int} {m : Nat → Int} {t : List Int} {p1 p2 : Nat} (h : ChI v R m t p1 p2) (hR : R ≤ 3) {x : InsD} (hx : insM (chCode v) m 1 = some x) (hb : blockedM m x = false) : ChI v R (stepK m 1 x) (t ++ doT (pcUp m 1) 1 x) (p1 + 1) p2 := by
  have hx2 : (chIn v)[p1]? = some x := by
    have : (chIn v)[(m 8).toNat]? = some x := hx
    rwa [h.h1, Int.toNat_natCast] at this
  have hlt := (List.getElem?_eq_some_iff.1 hx2).1
  rw [chIn_len] at hlt
  have hi : p1 / 2 < v.length := by omega
  obtain ⟨e1, e2⟩ := chIn_at v (p1 / 2) _ (vv_at hi)
  have hm := h.many
  have hr := h.room
  have hle := h.le
  have hmo := h.most
  rcases Nat.mod_two_eq_zero_or_one p1 with hpar | hpar
  · rw [show 2 * (p1 / 2) = p1 by omega, hx2] at e1
    obtain rfl := Option.some.inj e1
    have hd : (p1 + 1) / 2 = p1 / 2 := by omega
    rw [show doT (pcUp m 1) 1 ⟨1, 0, vv v (p1 / 2), 0⟩ = [] from rfl, List.append_nil]
    have es : stepK m 1 ⟨1, 0, vv v (p1 / 2), 0⟩ = upd (upd (upd m 8 (m 8 + 1)) 9 (vv v (p1 / 2))) 90 0 := rfl
    rw [es]
    refine ⟨?_, ?_, by omega, h.l2, by omega, ?_, ?_, ?_, ?_, fun j hj => ?_, fun q => ?_, fun q => ?_, h.told⟩
    · rw [upd_ne _ _ (by omega), upd_ne _ _ (by omega), upd_same, h.h1]; rfl
    · rw [upd_ne _ _ (by omega), upd_ne _ _ (by omega), upd_ne _ _ (by omega)]; exact h.h2
    · rw [upd_ne _ _ (by omega), upd_ne _ _ (by omega), upd_ne _ _ (by omega), hd]; exact h.many
    · rw [upd_ne _ _ (by omega), upd_ne _ _ (by omega), upd_ne _ _ (by omega)]; exact h.most
    · rw [upd_ne _ _ (by omega), upd_ne _ _ (by omega), upd_ne _ _ (by omega)]; exact h.room
    · rw [upd_ne _ _ (by omega), upd_ne _ _ (by omega), upd_ne _ _ (by omega)]; exact h.shut
    · rw [hd] at hj
      rw [upd_ne _ _ (by omega), upd_ne _ _ (by omega), upd_ne _ _ (by omega)]; exact h.nums j hj
    · rw [upd_ne _ _ (by omega), upd_same, hd]
    · rw [upd_ne _ _ (by omega), upd_ne _ _ (by omega), upd_ne _ _ (by omega)]; exact h.r2 q
  · rw [show 2 * (p1 / 2) + 1 = p1 by omega, hx2] at e2
    obtain rfl := Option.some.inj e2
    have hd : (p1 + 1) / 2 = p1 / 2 + 1 := by omega
    rw [show doT (pcUp m 1) 1 ⟨20, 0, 0, 0⟩ = [] from rfl, List.append_nil]
    have hb2 : (m 60 == m 61 && !(m 62 == 1)) = false := hb
    rw [h.shut] at hb2
    have hne : m 60 ≠ m 61 := by simpa using hb2
    have h9 := h.r1 hpar
    have hsh := h.shut
    have es : stepK m 1 ⟨20, 0, 0, 0⟩ = upd (upd (upd (upd m 8 (m 8 + 1)) (57 + (m 60).toNat) (m 9)) 60 (m 60 + 1)) 90 0 := by
      have e62 : (upd m 8 (m 8 + 1) 62 == 1) = false := by rw [upd_ne _ _ (by omega), hsh]; rfl
      have e60 : upd m 8 (m 8 + 1) 60 = m 60 := upd_ne _ _ (by omega)
      have e9 : upd m 8 (m 8 + 1) 9 = m 9 := upd_ne _ _ (by omega)
      have ed : doE (upd m 8 (m 8 + 1)) 1 ⟨20, 0, 0, 0⟩ = ([.e 3 0, .e 4 (m 9), .m (57 + (m 60).toNat) (m 9), .m 60 (m 60 + 1)], true) := by
        show (if upd m 8 (m 8 + 1) 62 == 1 then _ else _) = _
        rw [e62]
        show ([Ed.e 3 0, Ed.e 4 (upd m 8 (m 8 + 1) 9), Ed.m (57 + (upd m 8 (m 8 + 1) 60).toNat) (upd m 8 (m 8 + 1) 9), Ed.m 60 (upd m 8 (m 8 + 1) 60 + 1)], true) = _
        rw [e60, e9]
      show upd (edM (doE (upd m 8 (m 8 + 1)) 1 ⟨20, 0, 0, 0⟩).1 (upd m 8 (m 8 + 1))) 90 (bitN (!(doE (upd m 8 (m 8 + 1)) 1 ⟨20, 0, 0, 0⟩).2)) = _
      rw [ed]; rfl
    rw [es]
    generalize hq : p1 / 2 - (p2 + 1) / 2 = q at *
    have hq60 : (m 60).toNat = q := by rw [hm]; omega
    have hq3 : q < 3 := by omega
    have hq' : (p1 + 1) / 2 - (p2 + 1) / 2 = q + 1 := by omega
    rw [hq60]
    refine ⟨?_, ?_, by omega, h.l2, by omega, ?_, ?_, ?_, ?_, fun j hj => ?_, fun q => by omega, fun q => ?_, h.told⟩
    · rw [upd_ne _ _ (by omega), upd_ne _ _ (by omega), upd_ne _ _ (by omega), upd_same, h.h1]; rfl
    · rw [upd_ne _ _ (by omega), upd_ne _ _ (by omega), upd_ne _ _ (by omega), upd_ne _ _ (by omega)]; exact h.h2
    · rw [upd_ne _ _ (by omega), upd_same, hm, hq']; rfl
    · rw [upd_ne _ _ (by omega), upd_ne _ _ (by omega), upd_ne _ _ (by omega), upd_ne _ _ (by omega)]; exact h.most
    · rw [upd_ne _ _ (by omega), upd_same]; omega
    · rw [upd_ne _ _ (by omega), upd_ne _ _ (by omega), upd_ne _ _ (by omega), upd_ne _ _ (by omega)]; exact h.shut
    · rw [hq'] at hj
      rw [upd_ne _ _ (by omega), upd_ne _ _ (by omega)]
      by_cases e : j = q
      · subst e
        rw [upd_same, h9]
        congr 1; omega
      · rw [upd_ne _ _ (by omega), upd_ne _ _ (by omega)]; exact h.nums j (by omega)
    · rw [upd_ne _ _ (by omega), upd_ne _ _ (by omega), upd_ne _ _ (by omega), upd_ne _ _ (by omega)]; exact h.r2 q

theorem take_es {m : Nat → Int} {q : Nat} (hq : (m 60).toNat = q) (hl : List Ed) (e : takeE (upd m 14 (m 14 + 1)) 57 = (m 57, 1, hl)) : stepK m 2 ⟨21, 0, 0, 0⟩ = upd (upd (edM hl (upd m 14 (m 14 + 1))) 15 (m 57)) 90 0 := by
  have ed : doE (upd m 14 (m 14 + 1)) 2 ⟨21, 0, 0, 0⟩ = ([.e 3 0] ++ hl ++ [.e 4 (m 57), .e 5 1, .m 15 (m 57)], true) := by
    show ([Ed.e 3 0] ++ (takeE (upd m 14 (m 14 + 1)) 57).2.2 ++ [Ed.e 4 (takeE (upd m 14 (m 14 + 1)) 57).1, Ed.e 5 (takeE (upd m 14 (m 14 + 1)) 57).2.1, Ed.m 15 (takeE (upd m 14 (m 14 + 1)) 57).1], true) = _
    rw [e]
  show upd (edM (doE (upd m 14 (m 14 + 1)) 2 ⟨21, 0, 0, 0⟩).1 (upd m 14 (m 14 + 1))) 90 (bitN (!(doE (upd m 14 (m 14 + 1)) 2 ⟨21, 0, 0, 0⟩).2)) = _
  rw [ed]
  have app : ∀ (l : List Ed) (m : Nat → Int), edM (l ++ [.e 4 (0 : Int)]) m = edM l m := by
    intro l; induction l with
    | nil => intro m; rfl
    | cons y l ih => intro m; cases y <;> exact ih _
  have app2 : ∀ (l : List Ed) (a c : Int) (n : Nat → Int), edM (l ++ [.e 4 a, .e 5 1, .m 15 c]) n = upd (edM l n) 15 c := by
    intro l a c; induction l with
    | nil => intro n; rfl
    | cons y l ih => intro n; cases y <;> exact ih _
  show upd (edM (hl ++ [.e 4 (m 57), .e 5 1, .m 15 (m 57)]) (upd m 14 (m 14 + 1))) 90 (bitN (!true)) = _
  rw [app2]; rfl
set_option maxHeartbeats 1000000 in
theorem ch_step2 {v : List Int} {R : Int} {m : Nat → Int} {t : List Int} {p1 p2 : Nat} (h : ChI v R m t p1 p2) (hR : R ≤ 3) {x : InsD} (hx : insM (chCode v) m 2 = some x) (hb : blockedM m x = false) : ChI v R (stepK m 2 x) (t ++ doT (pcUp m 2) 2 x) p1 (p2 + 1) := by
  have hx2 : (chOut v)[p2]? = some x := by
    have : (chOut v)[(m 14).toNat]? = some x := hx
    rwa [h.h2, Int.toNat_natCast] at this
  have hlt := (List.getElem?_eq_some_iff.1 hx2).1
  rw [chOut_len] at hlt
  have hi : p2 / 2 < v.length := by omega
  obtain ⟨e1, e2⟩ := chOut_at v (p2 / 2) hi
  have hm := h.many
  have hr := h.room
  have hle := h.le
  have hmo := h.most
  rcases Nat.mod_two_eq_zero_or_one p2 with hpar | hpar
  · rw [show 2 * (p2 / 2) = p2 by omega, hx2] at e1
    obtain rfl := Option.some.inj e1
    have hd : (p2 + 1) / 2 = p2 / 2 := by omega
    have hd1 : (p2 + 1 + 1) / 2 = p2 / 2 + 1 := by omega
    rw [show doT (pcUp m 2) 2 ⟨21, 0, 0, 0⟩ = [] from rfl, List.append_nil]
    have hb2 : (m 60 == 0 && !(m 62 == 1)) = false := hb
    rw [h.shut] at hb2
    have hne : m 60 ≠ 0 := by simpa using hb2
    have hN := h.nums
    have hsh := h.shut
    have hh1 := h.h1
    have hh2 := h.h2
    have hr1 := h.r1
    have hto := h.told
    rw [hd] at hN hm hle
    generalize hq : p1 / 2 - p2 / 2 = q at *
    have hq60 : (m 60).toNat = q := by rw [hm]; omega
    have hq3 : q ≤ 3 := by omega
    have hq0 : q ≠ 0 := by omega
    have e60 : upd m 14 (m 14 + 1) 60 = m 60 := upd_ne _ _ (by omega)
    have e57 : upd m 14 (m 14 + 1) 57 = m 57 := upd_ne _ _ (by omega)
    have e58 : upd m 14 (m 14 + 1) 58 = m 58 := upd_ne _ _ (by omega)
    have e59 : upd m 14 (m 14 + 1) 59 = m 59 := upd_ne _ _ (by omega)
    have n0 := hN 0 (by omega)
    have hdd : (p2 + 1) / 2 = p2 / 2 := hd
    have hqq : p1 / 2 - (p2 + 1 + 1) / 2 = q - 1 := by omega
    obtain rfl | rfl | rfl : q = 1 ∨ q = 2 ∨ q = 3 := by omega
    · have et : takeE (upd m 14 (m 14 + 1)) 57 = (m 57, 1, [.m 60 0]) := by
        show (match (upd m 14 (m 14 + 1) 60).toNat with | 0 => _ | 1 => _ | 2 => _ | _ => _) = _
        rw [e60, hq60]
        show (upd m 14 (m 14 + 1) 57, 1, [Ed.m 60 0]) = _
        rw [e57]
      rw [take_es hq60 _ et]
      refine ⟨?_, ?_, h.l1, by omega, by omega, ?_, ?_, ?_, ?_, fun j hj => by omega, fun q => ?_, fun q => ?_, ?_⟩
      · simp [edM, upd]; exact hh1
      · simp [edM, upd, hh2]
      · rw [hqq]; simp [edM, upd]
      · simp [edM, upd]; exact hmo
      · simp [edM, upd]; omega
      · simp [edM, upd]; exact hsh
      · simp [edM, upd]; exact hr1 q
      · simp [edM, upd]; rw [hdd]; simpa using n0
      · rw [hdd]; exact hto
    · have et : takeE (upd m 14 (m 14 + 1)) 57 = (m 57, 1, [.m 57 (m 58), .m 60 1]) := by
        show (match (upd m 14 (m 14 + 1) 60).toNat with | 0 => _ | 1 => _ | 2 => _ | _ => _) = _
        rw [e60, hq60]
        show (upd m 14 (m 14 + 1) 57, 1, [Ed.m 57 (upd m 14 (m 14 + 1) 58), Ed.m 60 1]) = _
        rw [e57, e58]
      have n1 := hN 1 (by omega)
      rw [take_es hq60 _ et]
      refine ⟨?_, ?_, h.l1, by omega, by omega, ?_, ?_, ?_, ?_, fun j hj => ?_, fun q => ?_, fun q => ?_, ?_⟩
      · simp [edM, upd]; exact hh1
      · simp [edM, upd, hh2]
      · rw [hqq]; simp [edM, upd]
      · simp [edM, upd]; exact hmo
      · simp [edM, upd]; omega
      · simp [edM, upd]; exact hsh
      · obtain rfl : j = 0 := by omega
        simp [edM, upd]; rw [hd1]; exact n1
      · simp [edM, upd]; exact hr1 q
      · simp [edM, upd]; rw [hdd]; simpa using n0
      · rw [hdd]; exact hto
    · have et : takeE (upd m 14 (m 14 + 1)) 57 = (m 57, 1, [.m 57 (m 58), .m 58 (m 59), .m 60 2]) := by
        show (match (upd m 14 (m 14 + 1) 60).toNat with | 0 => _ | 1 => _ | 2 => _ | _ => _) = _
        rw [e60, hq60]
        show (upd m 14 (m 14 + 1) 57, 1, [Ed.m 57 (upd m 14 (m 14 + 1) 58), Ed.m 58 (upd m 14 (m 14 + 1) 59), Ed.m 60 2]) = _
        rw [e57, e58, e59]
      have n1 := hN 1 (by omega)
      have n2 := hN 2 (by omega)
      rw [take_es hq60 _ et]
      refine ⟨?_, ?_, h.l1, by omega, by omega, ?_, ?_, ?_, ?_, fun j hj => ?_, fun q => ?_, fun q => ?_, ?_⟩
      · simp [edM, upd]; exact hh1
      · simp [edM, upd, hh2]
      · rw [hqq]; simp [edM, upd]
      · simp [edM, upd]; exact hmo
      · simp [edM, upd]; omega
      · simp [edM, upd]; exact hsh
      · obtain rfl | rfl : j = 0 ∨ j = 1 := by omega
        · simp [edM, upd]; rw [hd1]; exact n1
        · simp [edM, upd]; rw [hd1]; exact n2
      · simp [edM, upd]; exact hr1 q
      · simp [edM, upd]; rw [hdd]; simpa using n0
      · rw [hdd]; exact hto
  · rw [show 2 * (p2 / 2) + 1 = p2 by omega, hx2] at e2
    obtain rfl := Option.some.inj e2
    have hd : (p2 + 1 + 1) / 2 = (p2 + 1) / 2 := by omega
    have h15 := h.r2 hpar
    have et : doT (pcUp m 2) 2 ⟨9, 0, 0, 0⟩ = [m 15] := by
      show [upd m 14 (m 14 + 1) 15] = _
      rw [upd_ne _ _ (by omega)]
    have es : stepK m 2 ⟨9, 0, 0, 0⟩ = upd (upd m 14 (m 14 + 1)) 90 0 := rfl
    rw [et, es]
    refine ⟨?_, ?_, h.l1, by omega, by omega, ?_, ?_, ?_, ?_, fun j hj => ?_, fun q => ?_, fun q => by omega, ?_⟩
    · rw [upd_ne _ _ (by omega), upd_ne _ _ (by omega)]; exact h.h1
    · rw [upd_ne _ _ (by omega), upd_same, h.h2]; rfl
    · rw [upd_ne _ _ (by omega), upd_ne _ _ (by omega), hd]; exact h.many
    · rw [upd_ne _ _ (by omega), upd_ne _ _ (by omega)]; exact h.most
    · rw [upd_ne _ _ (by omega), upd_ne _ _ (by omega)]; exact h.room
    · rw [upd_ne _ _ (by omega), upd_ne _ _ (by omega)]; exact h.shut
    · rw [hd] at hj ⊢
      rw [upd_ne _ _ (by omega), upd_ne _ _ (by omega)]; exact h.nums j hj
    · rw [upd_ne _ _ (by omega), upd_ne _ _ (by omega)]; exact h.r1 q
    · rw [show (p2 + 1) / 2 = p2 / 2 + 1 by omega, List.take_add_one, vv_at hi, h15, h.told]; rfl
theorem ch_step {v : List Int} {R : Int} {m : Nat → Int} {t : List Int} {p1 p2 : Nat} (h : ChI v R m t p1 p2) (hR : R ≤ 3) (k : Int) : ∃ q1 q2, ChI v R (stepM (chCode v) m k) (t ++ stepT (chCode v) m k) q1 q2 := by
  rcases hc : canM (chCode v) m k with _ | _
  · exact ⟨p1, p2, by simp only [stepM, stepT, hc, Bool.false_eq_true, if_false, List.append_nil]; exact h⟩
  · obtain ⟨j, x, rfl, hj, hx, hb, _⟩ := canM_parts hc
    obtain ⟨e1, e2⟩ := stepM_can hc hx
    rw [e1, e2]
    obtain rfl | rfl | rfl : j = 0 ∨ j = 1 ∨ j = 2 := by
      have : (chCode v).length = 3 := rfl
      omega
    · exact ⟨_, _, ch_step0 h hR hx⟩
    · exact ⟨_, _, ch_step1 h hR hx hb⟩
    · exact ⟨_, _, ch_step2 h hR hx hb⟩
end Go.Proofs.Ytjlbbfkllckkgaa
