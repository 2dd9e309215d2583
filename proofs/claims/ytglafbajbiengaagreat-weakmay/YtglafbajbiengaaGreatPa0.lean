/- Short names for some lemmas of the library of lists. -/
import Derived.Test.YtglafbajbiengaaGreatRows
import Derived.WalkKit
import Derived.ProofKit
import Derived.OpenShut
import Derived.ShutString
import Derived.ChangeOld
import Derived.Below
import Derived.Deep.Draws
import Derived.Deep.QuietTactic
import Derived.Maps.AppendAt
import Derived.OwnWalk
import Derived.Laws.BitsAllLaws
import Derived.WalkSmall
import Derived.Test.YtglafbajbiengaaGreatProg
import Derived.Lib.Hide
import Derived.WalkSpells
import Derived.RangeFuncBox
import Derived.RangeFuncNested
import Derived.RangeFuncLeaves
import Derived.Shelf.Abstract
import Derived.OwnWalkIn
import Derived.TacticsInMore
import Derived.LoopNIn
import Derived.LoopIn
import Derived.RegionTactic
import Derived.ChangeAlike
import Derived.BigQuiet
import Derived.Laws.OwnMore
import Derived.Deep.MidRow
import Derived.Maps.Own
import Derived.Maps.OwnOps
import Derived.Maps.OwnSet
import Derived.Maps.Views
import Derived.Deep.RegionHeld3
import Derived.Great.BuildSlice
import Derived.Deep.DeepCutAuto
import Derived.OneCell
import Derived.BigRegion
import Derived.StillTailTactics
import Derived.Deep.RegionLaw
import Derived.Laws.ResultCell
import Derived.Deep.Matrix
import Derived.RangeFuncWrites
import Derived.Deep.LoopGhost
import Derived.WalkMore
import Derived.IntWalk
import Derived.Deep.WholeRow
import Derived.Lib.SliceRun
import Derived.DeepKeys4
import Derived.Orders
import Derived.Laws.CopyRow
import Derived.Laws.CopyOwn
import Derived.Deep.SlicePairs
import Derived.Lib.SmallJoins
namespace Go.Proofs.YtglafbajbiengaaGreat
theorem zz0 {α : Type _} {xs : List α} {i : Nat} (h : i < xs.toArray.size) : xs.toArray[i] = xs[i]'(by simpa using h) := List.getElem_toArray h
theorem zz1 {α : Type _} {a : α} {bs : List α} {h : 0 < (a :: bs).length} : (a :: bs)[0] = a := List.getElem_cons_zero ..
theorem zz2 {α : Type _} {i : Nat} {a : α} {bs : List α} {h : i + 1 < (a :: bs).length} : (a :: bs)[i + 1] = bs[i]'(by simpa using h) := List.getElem_cons_succ ..
theorem zz3 {α : Type _} {l : List α} {i : Nat} {a : α} : l.toArray.setIfInBounds i a = (l.set i a).toArray := List.setIfInBounds_toArray ..
theorem zz4 {α : Type _} {x : α} {xs : List α} {y : α} : (x :: xs).set 0 y = y :: xs := List.set_cons_zero ..
theorem zz5 {α : Type _} {x : α} {xs : List α} {i : Nat} {y : α} : (x :: xs).set (i + 1) y = x :: xs.set i y := List.set_cons_succ ..
end Go.Proofs.YtglafbajbiengaaGreat
