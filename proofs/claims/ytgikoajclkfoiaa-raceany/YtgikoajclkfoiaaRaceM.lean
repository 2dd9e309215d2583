/- Race's clocks, by lists and numbers alone: what each thing knows, what an event hears and tells. No program. -/
import Derived.Test.YtgikoajclkfoiaaRefOrd1
import Derived.Test.YtgikoajclkfoiaaClockMath
namespace Go.Proofs.Ytgikoajclkfoiaa
set_option linter.unusedVariables false
set_option linter.unusedSimpArgs false
set_option maxRecDepth 100000

/-- A thing that knows: its kind, its number, which of them. -/
abbrev Ky := Int × Int × Int
def tkB (e : EvD) : Bool := (modeS 1 [21, 22] e).2
def clB (e : EvD) : Bool := (modeS 2 [21, 22] e).2
def hearsL (chans : List Int) (S T : Int → Nat) (e : EvD) : List Ky :=
  if e.op = 13 then [(1, e.obj, 0), (2, e.obj, 0)]
  else if e.op = 15 then [(1, e.obj, 0)]
  else if e.op = 17 then [(3, e.obj, 0)]
  else if e.op = 19 then [(3, e.obj, 0)]
  else if tkB e = true then [(4, e.obj, (T e.obj : Nat))]
  else if e.op = 20 then [(5, e.obj, RowKit.wrap64 ((S e.obj : Nat) - roomL chans e.obj))]
  else if clB e = true then [(6, e.obj, 0)]
  else if e.op = 25 then [(7, e.obj, 0)]
  else if e.op = 26 ∧ e.mode = 0 then [(8, e.obj, 0)]
  else []
def tellsL (S T : Int → Nat) (e : EvD) : Option Ky :=
  if e.op = 12 then some (0, e.obj, 0)
  else if e.op = 14 then some (1, e.obj, 0)
  else if e.op = 16 then some (2, e.obj, 0)
  else if e.op = 18 then some (3, e.obj, 0)
  else if e.op = 19 then some (3, e.obj, 0)
  else if e.op = 20 then some (4, e.obj, (S e.obj : Nat))
  else if tkB e = true then some (5, e.obj, (T e.obj : Nat))
  else if e.op = 23 then some (6, e.obj, 0)
  else if e.op = 24 ∧ e.val < 0 then some (7, e.obj, 0)
  else if e.op = 27 then some (8, e.obj, 0)
  else none
structure KnS where
  K : Ky → List Int
  S : Int → Nat
  T : Int → Nat
def kn0 : KnS := ⟨fun _ => [], fun _ => 0, fun _ => 0⟩
def upd {α β : Type} [DecidableEq α] (f : α → β) (a : α) (b : β) : α → β := fun x => if x = a then b else f x
def clockL (chans : List Int) (k : KnS) (e : EvD) : List Int := tickL ((hearsL chans k.S k.T e).foldl (fun c x => joinL c (k.K x)) (k.K (0, e.th, 0))) e.th
def tellK (K : Ky → List Int) (x : Ky) (c : List Int) : Ky → List Int := upd K x (if x.1 = 3 then c else joinL (K x) c)
def toldK (K : Ky → List Int) (q : Option Ky) (c : List Int) : Ky → List Int := match q with
  | none => K
  | some x => tellK K x c
def cntK (k : KnS) (e : EvD) : KnS := ⟨k.K, if e.op = 20 then upd k.S e.obj (k.S e.obj + 1) else k.S, if e.op = 20 then k.T else if tkB e = true then upd k.T e.obj (k.T e.obj + 1) else k.T⟩
def stepK7 (chans : List Int) (k : KnS) (e : EvD) : KnS :=
  let c := clockL chans k e
  cntK ⟨toldK (upd k.K (0, e.th, 0) c) (tellsL k.S k.T e) c, k.S, k.T⟩ e
/-- Where a thread's last Store of a variable, and its last touch of it, stand: (place, number) each. -/
structure Lt where
  sp : Int
  sn : Int
  tp : Int
  tn : Int
deriving DecidableEq
def lt0 : Lt := ⟨0, 0, 0, 0⟩
abbrev LsS := Int → Nat → Lt
def agP (e : EvD) (l : Lt) : Int × Int := if e.op = 8 then (l.tp, l.tn) else (l.sp, l.sn)
def racing1 (ls : LsS) (e : EvD) (c : List Int) (k : Nat) : List Int :=
  if (k : Int) = e.th ∨ agP e (ls e.obj k) = (0, 0) then [] else if atN c k < (agP e (ls e.obj k)).2 then [(agP e (ls e.obj k)).1] else []
def racingL (ls : LsS) (e : EvD) (c : List Int) : List Int := (List.range 6).flatMap (racing1 ls e c)
def noteL (ls : LsS) (i : Nat) (e : EvD) (c : List Int) : LsS :=
  upd ls e.obj (upd (ls e.obj) e.th.toNat (if e.op = 8 then ⟨i, atL c e.th, i, atL c e.th⟩ else ⟨(ls e.obj e.th.toNat).sp, (ls e.obj e.th.toNat).sn, i, atL c e.th⟩))
def toB (e : EvD) : Bool := e.op == 7 || e.op == 8
/-- What a trace tells, from the i-th event on. -/
def racesGo (chans : List Int) : Nat → List EvD → KnS → LsS → List (Int × Int)
  | _, [], _, _ => []
  | i, e :: r, k, ls =>
    if toB e = true then (racingL ls e (clockL chans k e)).map (fun f => (f, (i : Int))) ++ racesGo chans (i + 1) r (stepK7 chans k e) (noteL ls i e (clockL chans k e))
    else racesGo chans (i + 1) r (stepK7 chans k e) ls
def fitsB (t : List EvD) : Bool := decide (t.length ≤ 2000) && t.all fun e => decide (0 ≤ e.th) && decide (e.th < 6)
def racesL (chans : List Int) (t : List EvD) : List (Int × Int) := if fitsB t = true then racesGo chans 0 t kn0 (fun _ _ => lt0) else []
end Go.Proofs.Ytgikoajclkfoiaa
