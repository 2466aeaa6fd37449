/-
  .
-/
import Derived.Test.YtoidedomenkbpaaGreatReadKQs
import Derived.Test.YtoidedomenkbpaaGreatWBytesAQs
set_option maxRecDepth 100000
set_option maxHeartbeats 40000000
namespace Go.Proofs.YtoidedomenkbpaaGreat
open Go.RowKit Go.Shelf
open Extern.Stop (cell)
set_option linter.unusedVariables false
set_option linter.unusedSimpArgs false
theorem zf4 (s:Rd)(h:s.number.2.bad=false):s.bad=false∧jO s.data s.pos s.number.2.pos (zq s.number.1):=by
 unfold Rd.number at h ⊢
 split at h
 · rename_i hb;exact absurd h (by simp[hb])
 · rename_i hb
   rw[inQ hb]
   split at h
   · rename_i hp
     rw[ipQ hp]
     exact⟨by simpa using hb,jK (by unfold jW;rw[ipQ hp];rfl)⟩
   · exact absurd h sp
def ZJ (s:Rd):Nat→List UInt8
 | 0=>[]
 | j+1=>ZJ s j++zq (zo s j)
theorem jH (s:Rd)(hp:s.pos≤s.data.length):∀j,(rdN s j).bad=false→s.bad=false∧jO s.data s.pos (rdN s j).pos (ZJ s j)
 | 0,h=>⟨h,⟨by simp[ZJ,rdN],NlrQ _,hp⟩⟩
 | j +1,h=>by
   obtain⟨h1,h2⟩:=zf4 (rdN s j) h
   obtain⟨h3,h4⟩:=jH s hp j h1
   rw[yO] at h2
   exact⟨h3,h4.trans h2⟩
theorem zdL (s:Rd)(h:s.steps.2.bad=false):s.bad=false∧jO s.data s.pos s.steps.2.pos (zq (s.steps.1.length:Int)++qd s.steps.1):=by
 unfold Rd.steps at h ⊢
 split at h
 · rename_i hb;exact absurd h (by simp[hb])
 · rename_i hb
   rw[inQ hb]
   cases hs:je s.data s.pos with
   | error p=>rw[hs] at h;exact absurd h sp
   | ok x=>
     obtain⟨l,q⟩:=x
     exact⟨by simpa using hb,zau hs⟩
theorem zfs (s:Rd)(h:s.tree.2.bad=false):s.bad=false∧jO s.data s.pos s.tree.2.pos (qa s.tree.1):=by
 unfold Rd.tree at h ⊢
 split at h
 · rename_i hb;exact absurd h (by simp[hb])
 · rename_i hb
   rw[inQ hb]
   cases hs:jo s.data s.pos with
   | error p=>rw[hs] at h;exact absurd h sp
   | ok x=>
     obtain⟨l,q⟩:=x
     exact⟨by simpa using hb,zbD hs⟩
theorem kg {e:Rd}(h:e.yR= .tuple #[.int .i64 0,.int .i64 0]):e.bad=false∧e.data.length≤e.pos:=by
 unfold Rd.yR at h
 split at h
 · exact absurd h sp
 · rename_i hn
   simp only[not_or] at hn
   exact⟨by simpa using hn.1,by omega⟩
theorem vD {own bs:List UInt8}{u:UInt8}{p:Nat}(h0:own[0]? =some u)(h:jO own 1 p bs)(hp:own.length≤p):own= [u]++bs:=by
 cases own with
 | nil=>simp at h0
 | cons x r=>
   simp at h0
   subst h0
   have h1:=h.1
   rw[List.drop_of_length_le hp] at h1
   simp at h1
   rw[h1];rfl
theorem zlH (own:List UInt8)(sa ar:Option Addr)(an ac am ad:Nat)(vs:List SV)(t:Tr)(h0:own[0]? =some (zH 1))(he:(zb 1 ⟨own,1,false⟩).e.yR= .tuple #[.int .i64 0,.int .i64 0]):own=qZ (zb 1 ⟨own,1,false⟩).n1 (zb 1 ⟨own,1,false⟩).n2 (zb 1 ⟨own,1,false⟩).n3 (zb 1 ⟨own,1,false⟩).n4 (zb 1 ⟨own,1,false⟩).n5 (zb 1 ⟨own,1,false⟩).n6 (zb 1 ⟨own,1,false⟩).n7 (zb 1 ⟨own,1,false⟩).n8 (zb 1 ⟨own,1,false⟩).n9 (zb 1 ⟨own,1,false⟩).n10 sa ar an ac am ad vs t:=by
 obtain⟨e1,e2⟩:=kg he
 rw[zhw] at e2
 have h1:1≤own.length:=by
  have:=(List.getElem?_eq_some_iff.1 h0).1
  omega
 obtain⟨b2,s2⟩:=jH ⟨own,1,false⟩ h1 3 e1
 have hs:=vD h0 s2 e2
 refine hs.trans ?_
 simp only[qZ,ZJ,List.nil_append,List.append_assoc]
 rfl
theorem zlI (own:List UInt8)(sa ar:Option Addr)(an ac am ad:Nat)(vs:List SV)(t:Tr)(h0:own[0]? =some (zH 2))(he:(zb 2 ⟨own,1,false⟩).e.yR= .tuple #[.int .i64 0,.int .i64 0]):own=vG (zb 2 ⟨own,1,false⟩).n1 (zb 2 ⟨own,1,false⟩).n2 (zb 2 ⟨own,1,false⟩).n3 (zb 2 ⟨own,1,false⟩).n4 (zb 2 ⟨own,1,false⟩).n5 (zb 2 ⟨own,1,false⟩).n6 (zb 2 ⟨own,1,false⟩).n7 (zb 2 ⟨own,1,false⟩).n8 (zb 2 ⟨own,1,false⟩).n9 (zb 2 ⟨own,1,false⟩).n10 sa ar an ac am ad vs t:=by
 obtain⟨e1,e2⟩:=kg he
 rw[zhx] at e2
 have h1:1≤own.length:=by
  have:=(List.getElem?_eq_some_iff.1 h0).1
  omega
 obtain⟨b2,s2⟩:=jH ⟨own,1,false⟩ h1 6 e1
 have hs:=vD h0 s2 e2
 refine hs.trans ?_
 simp only[vG,ZJ,List.nil_append,List.append_assoc]
 rfl
theorem zlJ (own:List UInt8)(sa ar:Option Addr)(an ac am ad:Nat)(vs:List SV)(h0:own[0]? =some (zH 3))(he:(zb 3 ⟨own,1,false⟩).e.yR= .tuple #[.int .i64 0,.int .i64 0]):own=vH (zb 3 ⟨own,1,false⟩).n1 (zb 3 ⟨own,1,false⟩).n2 (zb 3 ⟨own,1,false⟩).n3 (zb 3 ⟨own,1,false⟩).n4 (zb 3 ⟨own,1,false⟩).n5 (zb 3 ⟨own,1,false⟩).n6 (zb 3 ⟨own,1,false⟩).n7 (zb 3 ⟨own,1,false⟩).n8 (zb 3 ⟨own,1,false⟩).n9 (zb 3 ⟨own,1,false⟩).n10 sa ar an ac am ad vs (zb 3 ⟨own,1,false⟩).t:=by
 obtain⟨e1,e2⟩:=kg he
 rw[zhy] at e2
 have h1:1≤own.length:=by
  have:=(List.getElem?_eq_some_iff.1 h0).1
  omega
 obtain⟨b1,s1⟩:=zfs (rdN ⟨own,1,false⟩ 7) e1
 obtain⟨b2,s2⟩:=jH ⟨own,1,false⟩ h1 7 b1
 rw[yO] at s1
 have hs:=vD h0 (s2.trans s1) e2
 refine hs.trans ?_
 simp only[vH,ZJ,List.nil_append,List.append_assoc]
 rfl
theorem zlK (own:List UInt8)(sa ar:Option Addr)(an ac am ad:Nat)(vs:List SV)(t:Tr)(h0:own[0]? =some (zH 4))(he:(zb 4 ⟨own,1,false⟩).e.yR= .tuple #[.int .i64 0,.int .i64 0]):own=vI (zb 4 ⟨own,1,false⟩).n1 (zb 4 ⟨own,1,false⟩).n2 (zb 4 ⟨own,1,false⟩).n3 (zb 4 ⟨own,1,false⟩).n4 (zb 4 ⟨own,1,false⟩).n5 (zb 4 ⟨own,1,false⟩).n6 (zb 4 ⟨own,1,false⟩).n7 (zb 4 ⟨own,1,false⟩).n8 (zb 4 ⟨own,1,false⟩).n9 (zb 4 ⟨own,1,false⟩).n10 sa ar an ac am ad vs t:=by
 obtain⟨e1,e2⟩:=kg he
 rw[zhz] at e2
 have h1:1≤own.length:=by
  have:=(List.getElem?_eq_some_iff.1 h0).1
  omega
 obtain⟨b2,s2⟩:=jH ⟨own,1,false⟩ h1 5 e1
 have hs:=vD h0 s2 e2
 refine hs.trans ?_
 simp only[vI,ZJ,List.nil_append,List.append_assoc]
 rfl
theorem zlL (own:List UInt8)(sa ar:Option Addr)(an ac am ad:Nat)(vs:List SV)(t:Tr)(h0:own[0]? =some (zH 5))(he:(zb 5 ⟨own,1,false⟩).e.yR= .tuple #[.int .i64 0,.int .i64 0])(hvs:(steps vs).map yS=(zb 5 ⟨own,1,false⟩).l)(han:an=(zb 5 ⟨own,1,false⟩).l.length):own=vk (zb 5 ⟨own,1,false⟩).n1 (zb 5 ⟨own,1,false⟩).n2 (zb 5 ⟨own,1,false⟩).n3 (zb 5 ⟨own,1,false⟩).n4 (zb 5 ⟨own,1,false⟩).n5 (zb 5 ⟨own,1,false⟩).n6 (zb 5 ⟨own,1,false⟩).n7 (zb 5 ⟨own,1,false⟩).n8 (zb 5 ⟨own,1,false⟩).n9 (zb 5 ⟨own,1,false⟩).n10 sa ar an ac am ad vs t:=by
 obtain⟨e1,e2⟩:=kg he
 rw[zhA] at e2
 have h1:1≤own.length:=by
  have:=(List.getElem?_eq_some_iff.1 h0).1
  omega
 obtain⟨b1,s1⟩:=zdL (rdN ⟨own,1,false⟩ 7) e1
 obtain⟨b2,s2⟩:=jH ⟨own,1,false⟩ h1 7 b1
 rw[yO] at s1
 have hs:=vD h0 (s2.trans s1) e2
 have hl:zq ((rdN ⟨own,1,false⟩ 7).steps.1.length:Int)++qd (rdN ⟨own,1,false⟩ 7).steps.1=zq (an:Int)++qd ((steps vs).map yS):=by rw[hvs,han];rfl
 rw[hl] at hs
 refine hs.trans ?_
 simp only[vk,ZJ,List.nil_append,List.append_assoc]
 rfl
theorem zlM (own:List UInt8)(sa ar:Option Addr)(an ac am ad:Nat)(vs:List SV)(t:Tr)(h0:own[0]? =some (zH 6))(he:(zb 6 ⟨own,1,false⟩).e.yR= .tuple #[.int .i64 0,.int .i64 0]):own=qR (zb 6 ⟨own,1,false⟩).n1 (zb 6 ⟨own,1,false⟩).n2 (zb 6 ⟨own,1,false⟩).n3 (zb 6 ⟨own,1,false⟩).n4 (zb 6 ⟨own,1,false⟩).n5 (zb 6 ⟨own,1,false⟩).n6 (zb 6 ⟨own,1,false⟩).n7 (zb 6 ⟨own,1,false⟩).n8 (zb 6 ⟨own,1,false⟩).n9 (zb 6 ⟨own,1,false⟩).n10 sa ar an ac am ad vs t:=by
 obtain⟨e1,e2⟩:=kg he
 rw[zhB] at e2
 have h1:1≤own.length:=by
  have:=(List.getElem?_eq_some_iff.1 h0).1
  omega
 obtain⟨b2,s2⟩:=jH ⟨own,1,false⟩ h1 5 e1
 have hs:=vD h0 s2 e2
 refine hs.trans ?_
 simp only[qR,ZJ,List.nil_append,List.append_assoc]
 rfl
theorem zlN (own:List UInt8)(sa ar:Option Addr)(an ac am ad:Nat)(vs:List SV)(t:Tr)(h0:own[0]? =some (zH 7))(he:(zb 7 ⟨own,1,false⟩).e.yR= .tuple #[.int .i64 0,.int .i64 0]):own=vJ (zb 7 ⟨own,1,false⟩).n1 (zb 7 ⟨own,1,false⟩).n2 (zb 7 ⟨own,1,false⟩).n3 (zb 7 ⟨own,1,false⟩).n4 (zb 7 ⟨own,1,false⟩).n5 (zb 7 ⟨own,1,false⟩).n6 (zb 7 ⟨own,1,false⟩).n7 (zb 7 ⟨own,1,false⟩).n8 (zb 7 ⟨own,1,false⟩).n9 (zb 7 ⟨own,1,false⟩).n10 sa ar an ac am ad vs t:=by
 obtain⟨e1,e2⟩:=kg he
 rw[zhC] at e2
 have h1:1≤own.length:=by
  have:=(List.getElem?_eq_some_iff.1 h0).1
  omega
 obtain⟨b2,s2⟩:=jH ⟨own,1,false⟩ h1 5 e1
 have hs:=vD h0 s2 e2
 refine hs.trans ?_
 simp only[vJ,ZJ,List.nil_append,List.append_assoc]
 rfl
theorem zlO (own:List UInt8)(sa ar:Option Addr)(an ac am ad:Nat)(vs:List SV)(t:Tr)(h0:own[0]? =some (zH 8))(he:(zb 8 ⟨own,1,false⟩).e.yR= .tuple #[.int .i64 0,.int .i64 0])(hvs:(steps vs).map yS=(zb 8 ⟨own,1,false⟩).l)(han:an=(zb 8 ⟨own,1,false⟩).l.length):own=vo (zb 8 ⟨own,1,false⟩).n1 (zb 8 ⟨own,1,false⟩).n2 (zb 8 ⟨own,1,false⟩).n3 (zb 8 ⟨own,1,false⟩).n4 (zb 8 ⟨own,1,false⟩).n5 (zb 8 ⟨own,1,false⟩).n6 (zb 8 ⟨own,1,false⟩).n7 (zb 8 ⟨own,1,false⟩).n8 (zb 8 ⟨own,1,false⟩).n9 (zb 8 ⟨own,1,false⟩).n10 sa ar an ac am ad vs t:=by
 obtain⟨e1,e2⟩:=kg he
 rw[zhD] at e2
 have h1:1≤own.length:=by
  have:=(List.getElem?_eq_some_iff.1 h0).1
  omega
 obtain⟨b1,s1⟩:=zdL (rdN ⟨own,1,false⟩ 4) e1
 obtain⟨b2,s2⟩:=jH ⟨own,1,false⟩ h1 4 b1
 rw[yO] at s1
 have hs:=vD h0 (s2.trans s1) e2
 have hl:zq ((rdN ⟨own,1,false⟩ 4).steps.1.length:Int)++qd (rdN ⟨own,1,false⟩ 4).steps.1=zq (an:Int)++qd ((steps vs).map yS):=by rw[hvs,han];rfl
 rw[hl] at hs
 refine hs.trans ?_
 simp only[vo,ZJ,List.nil_append,List.append_assoc]
 rfl
theorem zlP (own:List UInt8)(sa ar:Option Addr)(an ac am ad:Nat)(vs:List SV)(t:Tr)(h0:own[0]? =some (zH 9))(he:(zb 9 ⟨own,1,false⟩).e.yR= .tuple #[.int .i64 0,.int .i64 0]):own=vK (zb 9 ⟨own,1,false⟩).n1 (zb 9 ⟨own,1,false⟩).n2 (zb 9 ⟨own,1,false⟩).n3 (zb 9 ⟨own,1,false⟩).n4 (zb 9 ⟨own,1,false⟩).n5 (zb 9 ⟨own,1,false⟩).n6 (zb 9 ⟨own,1,false⟩).n7 (zb 9 ⟨own,1,false⟩).n8 (zb 9 ⟨own,1,false⟩).n9 (zb 9 ⟨own,1,false⟩).n10 sa ar an ac am ad vs t:=by
 obtain⟨e1,e2⟩:=kg he
 rw[zhE] at e2
 have h1:1≤own.length:=by
  have:=(List.getElem?_eq_some_iff.1 h0).1
  omega
 obtain⟨b2,s2⟩:=jH ⟨own,1,false⟩ h1 4 e1
 have hs:=vD h0 s2 e2
 refine hs.trans ?_
 simp only[vK,ZJ,List.nil_append,List.append_assoc]
 rfl
theorem zkW (own:List UInt8)(sa ar:Option Addr)(an ac am ad:Nat)(vs:List SV)(h0:own[0]? =some (zH 10))(he:(zb 10 ⟨own,1,false⟩).e.yR= .tuple #[.int .i64 0,.int .i64 0]):own=yX (zb 10 ⟨own,1,false⟩).n1 (zb 10 ⟨own,1,false⟩).n2 (zb 10 ⟨own,1,false⟩).n3 (zb 10 ⟨own,1,false⟩).n4 (zb 10 ⟨own,1,false⟩).n5 (zb 10 ⟨own,1,false⟩).n6 (zb 10 ⟨own,1,false⟩).n7 (zb 10 ⟨own,1,false⟩).n8 (zb 10 ⟨own,1,false⟩).n9 (zb 10 ⟨own,1,false⟩).n10 sa ar an ac am ad vs (zb 10 ⟨own,1,false⟩).t:=by
 obtain⟨e1,e2⟩:=kg he
 rw[zfn] at e2
 have h1:1≤own.length:=by
  have:=(List.getElem?_eq_some_iff.1 h0).1
  omega
 obtain⟨b1,s1⟩:=zfs (rdN ⟨own,1,false⟩ 4) e1
 obtain⟨b2,s2⟩:=jH ⟨own,1,false⟩ h1 4 b1
 rw[yO] at s1
 have hs:=vD h0 (s2.trans s1) e2
 refine hs.trans ?_
 simp only[yX,ZJ,List.nil_append,List.append_assoc]
 rfl
end Go.Proofs.YtoidedomenkbpaaGreat
