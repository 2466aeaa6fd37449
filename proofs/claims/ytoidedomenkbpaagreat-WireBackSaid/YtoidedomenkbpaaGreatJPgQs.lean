/-
  Six rules by short names.
-/
import Derived.Deep.LoopGhost
import Derived.Deep.MidRow
import Derived.StillTailTactics
import Derived.Laws.Bits64b
import Derived.Laws.IdiomStrings
import Derived.Laws.EntriesVeiled
import Derived.WalkKit
import Derived.WalkSpells
import Derived.WalkLawsBesides
import Derived.Deep.Trees
import Derived.Deep.AppendLies
import Derived.Lib.Hide
import Derived.Lib.BufSteps
import Derived.OwnWalk
import Derived.Maps.AppendAt
import Derived.Laws.AppendOwnNone
import Derived.Laws.Rows
import Derived.Deep.RegionHeld3
import Derived.Lib.SliceRun
import Derived.OrdersIn
import Derived.OrdersHeld
import Derived.RangeFuncNested
import Derived.RangeFuncCalls
import Derived.Deep.RegionHeld
import Derived.TacticsInMore
import Derived.OwnWalkIn
import Derived.Deep.RegionLaw
import Derived.Laws.OwnMore
import Derived.IntWalk
import Derived.BigQuiet
import Derived.Deep.Quiet
import Derived.Deep.QuietTactic
import Derived.RangeFuncBound
import Derived.RangeFuncLeaves
import Derived.RangeFuncWrites
import Derived.Shelf.Abstract
import Derived.Shelf.RegionOpen
import Derived.LoopNIn
import Derived.LoopIn
import Derived.Deep.Cut
import Derived.ProofKit
import Derived.OpenShut
import Derived.Deep.Slices
import Derived.Deep.Matrix
import Derived.Laws.BytesArg
import Derived.Shelf.Spec.SlicesInsertGrow
import Derived.Carry
import Derived.Maps.OwnSet
import Derived.Maps.OwnOps
import Derived.Deep.WholeRow
import Derived.Laws.CopyOwn
import Derived.WalkMore
import Derived.Maps.OwnIn
import Derived.Deep.Strs
import Derived.Lib.SmallJoins
import Derived.Great.BuildSlice
import Derived.Laws.Tables
import Derived.Laws.CopyRow
import Derived.Laws.BitsAllLaws
import Derived.Stop.BytesEq
import Derived.Laws.MakeOwn
import Derived.Defers
import Derived.Recover
import Derived.Below
import Derived.Deep.RegionWith
import Derived.Deep.CutRange
import Derived.DeepKeys
import Derived.ShutString
import Derived.ChangeOld
namespace Go.Proofs.YtoidedomenkbpaaGreat
open Go.RowKit Go.Shelf
theorem tkH {P:Program}{md:Region.Mode}{ops:Array Oper}{Q:Exit→Act→World→Prop}{S:World→Prop}{i:Nat}{oi:Oper}(v:Value){fuel:Nat}{listed:Array Bool}{a:Act}{w:World}(hi:ops[i]? =some oi)(hy:YieldsIf P ops S oi v a)(hS:S w)(h:wpAnyH P md ops Q S fuel (listed.setIfInBounds i true) (a.put oi.dst v) w)(hQ:∀c a w,Q (.panic c) (a.put oi.dst v) w→Q (.panic c) a w:=by exact fun _ _ _ h=>h)(hs:Region.noSelect ops=true:=by kernel_rfl)(hf:Region.free md ops listed i=true:=by kernel_rfl)(hr:(Region.ready md ops listed).contains i=true:=by kernel_rfl):wpAnyH P md ops Q S (fuel+1) listed a w:=
  wpAnyH_take hi hs hf hr hQ hy hS h
theorem hH {p:Prop}(h:p):RowKit.Hid p:=Lib.hid h
theorem aN {a b:Prop}(h:a)(k:b):a∧b:=⟨h,k⟩
theorem nL {a b c:Nat}(h:a<b)(k:b≤c):a<c:=Nat.lt_of_lt_of_le h k
theorem pgA {α:Type _}{xs:List α}{i:Nat}(h:i<xs.toArray.size):xs.toArray[i]=xs[i]'(by simpa using h):=rfl
theorem pgB {α:Type _}(a:α)(ys:List α)(h:0<(a::ys).length):(a::ys)[0]=a:=rfl
theorem pgC {α:Type _}(a:α)(ys:List α)(i:Nat)(h:i+1<(a::ys).length):(a::ys)[i+1]=ys[i]'(Nat.lt_of_succ_lt_succ h):=rfl
theorem pgD {α:Type _}(l:List α)(i:Nat)(a:α):l.toArray.setIfInBounds i a=(l.set i a).toArray:=List.setIfInBounds_toArray ..
theorem pgE {α:Type _}{x:α}{xs:List α}{a:α}:(x::xs).set 0 a=a::xs:=rfl
theorem pgF {α:Type _}{x:α}{xs:List α}{n:Nat}{a:α}:(x::xs).set (n+1) a=x::xs.set n a:=rfl
theorem pg3:(∀{α:Type} {xs:List α} {i:Nat} (h:i<xs.toArray.size),xs.toArray[i]=xs[i]'(by simpa using h))∧(∀{α:Type} (a:α) (ys:List α) (h:0<(a::ys).length),(a::ys)[0]=a)∧(∀{α:Type} (a:α) (ys:List α) (i:Nat) (h:i+1<(a::ys).length),(a::ys)[i+1]=ys[i]'(Nat.lt_of_succ_lt_succ h)):=⟨fun _=>rfl,fun _ _ _=>rfl,fun _ _ _ _=>rfl⟩
theorem pg:(∀{α:Type} {xs:List α} {i:Nat} (h:i<xs.toArray.size),xs.toArray[i]=xs[i]'(by simpa using h))∧(∀{α:Type} (a:α) (ys:List α) (h:0<(a::ys).length),(a::ys)[0]=a)∧(∀{α:Type} (a:α) (ys:List α) (i:Nat) (h:i+1<(a::ys).length),(a::ys)[i+1]=ys[i]'(Nat.lt_of_succ_lt_succ h))∧(∀{α:Type} (l:List α) (i:Nat) (a:α),l.toArray.setIfInBounds i a=(l.set i a).toArray)∧(∀{α:Type} {x:α} {xs:List α} {a:α},(x::xs).set 0 a=a::xs)∧(∀{α:Type} {x:α} {xs:List α} {n:Nat} {a:α},(x::xs).set (n+1) a=x::xs.set n a):=⟨fun _=>rfl,fun _ _ _=>rfl,fun _ _ _ _=>rfl,fun _ _ _=>List.setIfInBounds_toArray ..,rfl,rfl⟩
theorem tJ {P:Program}{md:Region.Mode}{ops:Array Oper}{Q:Exit→Act→World→Prop}{S:World→Prop}{i:Nat}{oi:Oper}(v:Value){fuel:Nat}{listed:Array Bool}{a:Act}{w:World}(hi:ops[i]? =some oi)(hv:∀X,S X→(execOp a.eval oi).run P X= .ok (.value v) X)(h:wpAnyH P md ops Q S fuel (listed.setIfInBounds i true) (a.put oi.dst v) w)(hQ:∀c a w,Q (.panic c) (a.put oi.dst v) w→Q (.panic c) a w:=by first | exact fun _ _ _ h=>h | exact fun _ _ _ h=>by cases h.1)(hw:Region.wanted oi (yielded ops a.tmps)=true:=by rfl)(hS:S w:=by assumption)(hs:Region.noSelect ops=true:=by kernel_rfl)(hf:Region.free md ops listed i=true:=by kernel_rfl)(hr:(Region.ready md ops listed).contains i=true:=by kernel_rfl):wpAnyH P md ops Q S (fuel+1) listed a w:=
 wpAnyH_take hi hs hf hr hQ (Or.inl ⟨hw,hv⟩) hS h
theorem tG {P:Program}{md:Region.Mode}{ops:Array Oper}{Q:Exit→Act→World→Prop}{S:World→Prop}{i:Nat}{oi:Oper}(v:Value){fuel:Nat}{listed:Array Bool}{a:Act}{w:World}(hi:ops[i]? =some oi)(h:wpAnyH P md ops Q S fuel (listed.setIfInBounds i true) (a.put oi.dst v) w)(hQ:∀c a w,Q (.panic c) (a.put oi.dst v) w→Q (.panic c) a w:=by first | exact fun _ _ _ h=>h | exact fun _ _ _ h=>by cases h.1)(hw:Region.wanted oi (yielded ops a.tmps)=true:=by rfl)(hS:S w:=by assumption)(hs:Region.noSelect ops=true:=by kernel_rfl)(hf:Region.free md ops listed i=true:=by kernel_rfl)(hr:(Region.ready md ops listed).contains i=true:=by kernel_rfl)(hv:∀X,S X→(execOp a.eval oi).run P X= .ok (.value v) X:=by clear eH;intro X hSw;clear hSw;go_simp):wpAnyH P md ops Q S (fuel+1) listed a w:=
 wpAnyH_take hi hs hf hr hQ (Or.inl ⟨hw,hv⟩) hS h
theorem rd1 {P:Program}{md:Region.Mode}{ops:Array Oper}{Q:Exit→Act→World→Prop}{S:World→Prop}(rs:List Nat){fuel:Nat}{listed:Array Bool}{a:Act}{w:World}(h:AllReadyH P md ops Q S fuel listed a w rs)(hr:Region.ready md ops listed=rs:=by kernel_rfl)(hne:rs≠[]:=by simp):wpAnyH P md ops Q S (fuel+1) listed a w:=wpAnyH_ready hr hne h
theorem kr1 {p:Prop}(h:p:=by kernel_rfl):p:=h
theorem om1 {p:Prop}(h:p:=by omega):p:=h
theorem sp {p:Prop}(h:p:=by simp):p:=h
abbrev corQ:=@cell_of_row
abbrev forQ:=@frozen_of_row
abbrev BhsQ:=@Below.heap_setCell
abbrev WphQ:=@World.putObj_heap_other
abbrev BhaQ:=@Below.heap_alloc
abbrev hanQ:=@heap_alloc_new
abbrev BrQ:=@Below.refl
abbrev WsaQ:=@World.size_alloc
abbrev AcQ:=@AllReadyH.cons
abbrev AnQ:=@AllReadyH.nil
abbrev hssQ:=@heap_setCell_same
abbrev brQ:=@bodyPost_ret
abbrev NlrQ:=@Nat.le_refl
abbrev ipQ:=@if_pos
abbrev inQ:=@if_neg
abbrev wrQ:=@wpAnyH_ready
abbrev NltQ:=@Nat.le_trans
abbrev LlaQ:=@List.length_append
abbrev LlcQ:=@List.length_cons
abbrev NzlQ:=@Nat.zero_le
abbrev wrhQ:=@wp_region_held_drew
abbrev ue2 (X:World)(b:Nat)(i k:Int)(s:ByteArray)(a:Option Addr)(n c:Nat):Prop:=X.cell? ⟨b,0,none⟩=some (.int .i64 i)∧X.cell? ⟨b,1,none⟩=some (.int .i64 k)∧X.cell? ⟨b,2,none⟩=some (.string s)∧X.cell? ⟨b,3,none⟩=some (.slice a n c)
abbrev ue3 (X:World)(b:Nat)(o i p q:Int)(x:ByteArray)(j k:Int)(s:ByteArray)(a:Option Addr)(n c:Nat):Prop:=X.cell? ⟨b,0,none⟩=some (.int .i8 o)∧X.cell? ⟨b,1,none⟩=some (.int .i64 i)∧X.cell? ⟨b,2,none⟩=some (.int .i64 p)∧X.cell? ⟨b,3,none⟩=some (.int .i64 q)∧X.cell? ⟨b,4,none⟩=some (.string x)∧X.cell? ⟨b,5,none⟩=some (.int .i64 j)∧X.cell? ⟨b,6,none⟩=some (.int .i64 k)∧X.cell? ⟨b,7,none⟩=some (.string s)∧X.cell? ⟨b,8,none⟩=some (.slice a n c)
end Go.Proofs.YtoidedomenkbpaaGreat
