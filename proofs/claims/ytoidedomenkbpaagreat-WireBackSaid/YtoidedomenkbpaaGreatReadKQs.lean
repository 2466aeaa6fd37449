/-
  .
-/
import Derived.Test.YtoidedomenkbpaaGreatReadGQs
set_option maxRecDepth 100000
set_option maxHeartbeats 40000000
namespace Go.Proofs.YtoidedomenkbpaaGreat
open Go.RowKit Go.Shelf
open Extern.Stop (cell)
set_option linter.unusedVariables false
set_option linter.unusedSimpArgs false
structure PR where
 (n1 n2 n3 n4 n5 n6 n7 n8 n9 n10:Int) (l:List Stp) (t:Tr) (e:Rd)
def yM:Tr:=⟨0,0,⟨#[]⟩,.nil⟩
def zb (k:Nat)(s:Rd):PR:=match k with
 | 1=>⟨(zo s 0),(zo s 1),0,(zo s 2),0,0,0,0,0,0,[],yM,(rdN s 3)⟩
 | 2=>⟨(zo s 0),(zo s 1),(zo s 2),(zo s 3),(zo s 4),(zo s 5),0,0,0,0,[],yM,(rdN s 6)⟩
 | 3=>⟨(zo s 0),(zo s 1),0,(zo s 2),(zo s 3),0,(zo s 4),(zo s 5),(zo s 6),0,[],(rdN s 7).tree.1,(rdN s 7).tree.2⟩
 | 4=>⟨(zo s 0),(zo s 1),0,(zo s 2),(zo s 3),0,0,0,0,(zo s 4),[],yM,(rdN s 5)⟩
 | 5=>⟨(zo s 0),(zo s 1),(zo s 2),(zo s 3),(zo s 4),0,(zo s 5),(zo s 6),0,0,(rdN s 7).steps.1,yM,(rdN s 7).steps.2⟩
 | 6=>⟨(zo s 0),(zo s 1),0,(zo s 2),(zo s 3),0,0,0,(zo s 4),0,[],yM,(rdN s 5)⟩
 | 7=>⟨(zo s 0),(zo s 1),0,(zo s 2),(zo s 3),0,0,0,0,(zo s 4),[],yM,(rdN s 5)⟩
 | 8=>⟨(zo s 0),(zo s 1),0,(zo s 2),0,0,0,0,(zo s 3),0,(rdN s 4).steps.1,yM,(rdN s 4).steps.2⟩
 | 9=>⟨(zo s 0),(zo s 1),(zo s 2),(zo s 3),0,0,0,0,0,0,[],yM,(rdN s 4)⟩
 | 10=>⟨(zo s 0),(zo s 1),0,(zo s 2),0,0,0,0,(zo s 3),0,[],(rdN s 4).tree.1,(rdN s 4).tree.2⟩
 | _=>⟨0,0,0,0,0,0,0,0,0,0,[],yM,s⟩
def zZ (p:PR)(m:RM)(Z:World):Prop:=(m.n1=p.n1∧m.n2=p.n2∧m.n3=p.n3∧m.n4=p.n4∧m.n5=p.n5∧m.n6=p.n6∧m.n7=p.n7∧m.n8=p.n8∧m.n9=p.n9∧m.n10=p.n10)∧(m.id=p.t.id∧m.kd=p.t.kind∧m.tx=p.t.text)∧∃vs,zM Z m.sa m.ar m.sn m.am m.ad vs p.t∧steps vs=p.l.map JI
theorem zZ.on {p:PR}{m:RM}{Z U:World}(h:zZ p m Z)(hb:Below Z.heap.size Z U):zZ p m U:=by
 obtain⟨h1,h2,vs,h3,h4⟩:=h
 exact⟨h1,h2,vs,h3.on hb,h4⟩
theorem zdm (s:Rd):s.number.2.data=s.data:=by
 unfold Rd.number
 split
 · rfl
 · split<;>rfl
theorem yO (s:Rd):∀j,(rdN s j).data=s.data
 | 0=>rfl
 | j+1=>by rw[rdN,zdm,yO s j]
theorem zaH (s:Rd):s.steps.2.data=s.data:=by
 unfold Rd.steps
 split
 · rfl
 · split<;>rfl
theorem zbN (s:Rd):s.tree.2.data=s.data:=by
 unfold Rd.tree
 split
 · rfl
 · split<;>rfl
theorem zfo (Z:World):Row Z none []:=⟨fun k x hx=>by simp at hx,fun x hx=>by simp at hx,fun x hx=>by simp at hx,by simp⟩
theorem ko (Z:World):zM Z none none 0 0 0 [] yM:=⟨zfo Z,rfl,rfl,NlrQ _,True.intro,by decide⟩
theorem zbn {Z:World}{N:Nat}{sa:Option Addr}{sn:Nat}{l:List Stp}(h:vL Z (JB N Z) sa l)(hn:sn=l.length)(hl:l.length≤60∧∀x∈l,OkS x):∃vs,zM Z sa none sn 0 0 vs yM∧steps vs=l.map JI:=by
 obtain⟨vs,h1,h2,_,h4⟩:=row_of h hl.1 hl.2
 exact⟨vs,⟨h1,by rw[hn,h2],rfl,NlrQ _,True.intro,by decide⟩,h4⟩
theorem zdj {Z:World}{N:Nat}{ar:Option Addr}{ad:Nat}{t:Tr}(h:zQ Z (JB N Z) t.kids ar)(hc:foLen t.kids≤ad)(ht:zh t.kids+1≤200):zM Z none ar 0 (foLen t.kids) ad [] t:=
 ⟨zfo Z,rfl,rfl,hc,h.kept fun q hq=>⟨hq.2,rfl⟩,by omega⟩
def qb (p:PR):List SV:=p.l.map fun x=>⟨JI x,none,0⟩
theorem ZO (p:PR):steps (qb p)=p.l.map JI:=by unfold steps qb;rw[List.map_map];rfl
def qA (a1 a2 a3 a4 a5 a6 a7 a8 a9 a10:Int)(sa ar:Option Addr)(an ac am ad:Nat)(vs:List SV)(t:Tr):Bool:=(yI (zl 1::toQ 1:: [zg 1]) #[.int .i8 1,.int .i64 a1,.int .i64 a2,.int .i64 a3,.int .i64 a4,.int .i64 a5,.int .i64 a6,.int .i64 a7,.int .i64 a8,.int .i64 a9,.int .i64 a10,.slice sa an ac,.int .i64 t.id,.int .i64 t.kind,.string t.text,.slice ar am ad]) && (yz ⟨1,0,0,a3,0,a5,a6,a7,a8,a9,a10⟩ ⟨1,0,0,0,0,0,0,0,0,0,0⟩ && ((an == 0) && yh t ⟨0,0,⟨#[]⟩,.nil⟩))
theorem ziB (b rb:Nat)(hne:rb≠b)(s:Rd)(X:World)(hX:X.heap[b]? =some (.cells #[.int .i8 1,.int .i64 0,.int .i64 0,.int .i64 0,.int .i64 0,.int .i64 0,.int .i64 0,.int .i64 0,.int .i64 0,.int .i64 0,.int .i64 0,.slice none 0 0,.int .i64 0,.int .i64 0,.string ⟨#[]⟩,.slice none 0 0] 37 (0,0)))(hR:yC b rb s X)(hd:s.data.length≤100000):
 Calls Tryz.prog 56 #[.pointer (some ⟨b,0,none⟩),.iface 114 (.agg #[.pointer (some ⟨rb,0,none⟩)])] X (fun e Z=>e= .returned (.tuple #[])∧za X Z (fun q=>q=rb∨q=b)∧yC b rb (zb 1 s).e Z∧∃m:RM,zZ (zb 1 s) m Z∧Z.heap[b]? =some (.cells #[.int .i8 1,.int .i64 m.n1,.int .i64 m.n2,.int .i64 m.n3,.int .i64 m.n4,.int .i64 m.n5,.int .i64 m.n6,.int .i64 m.n7,.int .i64 m.n8,.int .i64 m.n9,.int .i64 m.n10,.slice m.sa m.sn m.sc,.int .i64 m.id,.int .i64 m.kd,.string m.tx,.slice m.ar m.am m.ad] 37 (0,0))):=
 (zko b rb hne s X hX hR).mono fun e Z h=>by
   obtain⟨h1,h2,h3,h4⟩:=h
   exact⟨h1,h4,h2,⟨(zo s 0),(zo s 1),0,(zo s 2),0,0,0,0,0,0,none,0,0,0,0,⟨#[]⟩,none,0,0⟩,⟨⟨rfl,rfl,rfl,rfl,rfl,rfl,rfl,rfl,rfl,rfl⟩,⟨rfl,rfl,rfl⟩,[],ko Z,rfl⟩,h3⟩
theorem QC (w:World)(a1 a2 a3 a4 a5 a6 a7 a8 a9 a10:Int)(sa ar:Option Addr)(an ac am ad:Nat)(vs:List SV)(t:Tr)(h:zM w sa ar an am ad vs t):Calls Tryz.prog 22 #[.agg #[.int .i8 1,.int .i64 a1,.int .i64 a2,.int .i64 a3,.int .i64 a4,.int .i64 a5,.int .i64 a6,.int .i64 a7,.int .i64 a8,.int .i64 a9,.int .i64 a10,.slice sa an ac,.int .i64 t.id,.int .i64 t.kind,.string t.text,.slice ar am ad]] w (zX (qA a1 a2 a3 a4 a5 a6 a7 a8 a9 a10 sa ar an ac am ad vs t) w):=by
 unfold qA
 exact zi0 w a1 a2 a3 a4 a5 a6 a7 a8 a9 a10 sa ar an ac am ad vs t h
theorem zke (p:PR)(m:RM)(V:World)(h:zZ p m V):∀Y,Below V.heap.size V Y→Calls Tryz.prog 22 #[.agg #[.int .i8 1,.int .i64 m.n1,.int .i64 m.n2,.int .i64 m.n3,.int .i64 m.n4,.int .i64 m.n5,.int .i64 m.n6,.int .i64 m.n7,.int .i64 m.n8,.int .i64 m.n9,.int .i64 m.n10,.slice m.sa m.sn m.sc,.int .i64 m.id,.int .i64 m.kd,.string m.tx,.slice m.ar m.am m.ad]] Y (zX (qA m.n1 m.n2 m.n3 m.n4 m.n5 m.n6 m.n7 m.n8 m.n9 m.n10 m.sa m.ar m.sn m.sc m.am m.ad (qb p) p.t) Y):=by
 obtain⟨_,⟨h1,h2,h3⟩,vs,hm,h4⟩:=h
 rw[h1,h2,h3]
 intro Y hY
 have hh:=QC Y m.n1 m.n2 m.n3 m.n4 m.n5 m.n6 m.n7 m.n8 m.n9 m.n10 m.sa m.ar m.sn m.sc m.am m.ad vs p.t (hm.on hY)
 have e:qA m.n1 m.n2 m.n3 m.n4 m.n5 m.n6 m.n7 m.n8 m.n9 m.n10 m.sa m.ar m.sn m.sc m.am m.ad vs p.t=qA m.n1 m.n2 m.n3 m.n4 m.n5 m.n6 m.n7 m.n8 m.n9 m.n10 m.sa m.ar m.sn m.sc m.am m.ad (qb p) p.t:=by
  unfold qA
  rfl
 rw[←e];exact hh
theorem zhw (s:Rd):(zb 1 s).e.data=s.data:=by
 show (rdN s 3).data=_
 exact yO s 3
def qB (a1 a2 a3 a4 a5 a6 a7 a8 a9 a10:Int)(sa ar:Option Addr)(an ac am ad:Nat)(vs:List SV)(t:Tr):Bool:=(yI (zl 2::toQ 2:: [(3,1,1125899906842624),zg 2,(5,1,1125899906842624),(6,1,1125899906842624)]) #[.int .i8 2,.int .i64 a1,.int .i64 a2,.int .i64 a3,.int .i64 a4,.int .i64 a5,.int .i64 a6,.int .i64 a7,.int .i64 a8,.int .i64 a9,.int .i64 a10,.slice sa an ac,.int .i64 t.id,.int .i64 t.kind,.string t.text,.slice ar am ad]) && (yz ⟨2,0,0,0,0,0,0,a7,a8,a9,a10⟩ ⟨2,0,0,0,0,0,0,0,0,0,0⟩ && ((an == 0) && yh t ⟨0,0,⟨#[]⟩,.nil⟩))
theorem ziC (b rb:Nat)(hne:rb≠b)(s:Rd)(X:World)(hX:X.heap[b]? =some (.cells #[.int .i8 2,.int .i64 0,.int .i64 0,.int .i64 0,.int .i64 0,.int .i64 0,.int .i64 0,.int .i64 0,.int .i64 0,.int .i64 0,.int .i64 0,.slice none 0 0,.int .i64 0,.int .i64 0,.string ⟨#[]⟩,.slice none 0 0] 37 (0,0)))(hR:yC b rb s X)(hd:s.data.length≤100000):
 Calls Tryz.prog 56 #[.pointer (some ⟨b,0,none⟩),.iface 114 (.agg #[.pointer (some ⟨rb,0,none⟩)])] X (fun e Z=>e= .returned (.tuple #[])∧za X Z (fun q=>q=rb∨q=b)∧yC b rb (zb 2 s).e Z∧∃m:RM,zZ (zb 2 s) m Z∧Z.heap[b]? =some (.cells #[.int .i8 2,.int .i64 m.n1,.int .i64 m.n2,.int .i64 m.n3,.int .i64 m.n4,.int .i64 m.n5,.int .i64 m.n6,.int .i64 m.n7,.int .i64 m.n8,.int .i64 m.n9,.int .i64 m.n10,.slice m.sa m.sn m.sc,.int .i64 m.id,.int .i64 m.kd,.string m.tx,.slice m.ar m.am m.ad] 37 (0,0))):=
 (zkp b rb hne s X hX hR).mono fun e Z h=>by
   obtain⟨h1,h2,h3,h4⟩:=h
   exact⟨h1,h4,h2,⟨(zo s 0),(zo s 1),(zo s 2),(zo s 3),(zo s 4),(zo s 5),0,0,0,0,none,0,0,0,0,⟨#[]⟩,none,0,0⟩,⟨⟨rfl,rfl,rfl,rfl,rfl,rfl,rfl,rfl,rfl,rfl⟩,⟨rfl,rfl,rfl⟩,[],ko Z,rfl⟩,h3⟩
theorem QD (w:World)(a1 a2 a3 a4 a5 a6 a7 a8 a9 a10:Int)(sa ar:Option Addr)(an ac am ad:Nat)(vs:List SV)(t:Tr)(h:zM w sa ar an am ad vs t):Calls Tryz.prog 22 #[.agg #[.int .i8 2,.int .i64 a1,.int .i64 a2,.int .i64 a3,.int .i64 a4,.int .i64 a5,.int .i64 a6,.int .i64 a7,.int .i64 a8,.int .i64 a9,.int .i64 a10,.slice sa an ac,.int .i64 t.id,.int .i64 t.kind,.string t.text,.slice ar am ad]] w (zX (qB a1 a2 a3 a4 a5 a6 a7 a8 a9 a10 sa ar an ac am ad vs t) w):=by
 unfold qB
 exact zi1 w a1 a2 a3 a4 a5 a6 a7 a8 a9 a10 sa ar an ac am ad vs t h
theorem zkf (p:PR)(m:RM)(V:World)(h:zZ p m V):∀Y,Below V.heap.size V Y→Calls Tryz.prog 22 #[.agg #[.int .i8 2,.int .i64 m.n1,.int .i64 m.n2,.int .i64 m.n3,.int .i64 m.n4,.int .i64 m.n5,.int .i64 m.n6,.int .i64 m.n7,.int .i64 m.n8,.int .i64 m.n9,.int .i64 m.n10,.slice m.sa m.sn m.sc,.int .i64 m.id,.int .i64 m.kd,.string m.tx,.slice m.ar m.am m.ad]] Y (zX (qB m.n1 m.n2 m.n3 m.n4 m.n5 m.n6 m.n7 m.n8 m.n9 m.n10 m.sa m.ar m.sn m.sc m.am m.ad (qb p) p.t) Y):=by
 obtain⟨_,⟨h1,h2,h3⟩,vs,hm,h4⟩:=h
 rw[h1,h2,h3]
 intro Y hY
 have hh:=QD Y m.n1 m.n2 m.n3 m.n4 m.n5 m.n6 m.n7 m.n8 m.n9 m.n10 m.sa m.ar m.sn m.sc m.am m.ad vs p.t (hm.on hY)
 have e:qB m.n1 m.n2 m.n3 m.n4 m.n5 m.n6 m.n7 m.n8 m.n9 m.n10 m.sa m.ar m.sn m.sc m.am m.ad vs p.t=qB m.n1 m.n2 m.n3 m.n4 m.n5 m.n6 m.n7 m.n8 m.n9 m.n10 m.sa m.ar m.sn m.sc m.am m.ad (qb p) p.t:=by
  unfold qB
  rfl
 rw[←e];exact hh
theorem zhx (s:Rd):(zb 2 s).e.data=s.data:=by
 show (rdN s 6).data=_
 exact yO s 6
def qC (a1 a2 a3 a4 a5 a6 a7 a8 a9 a10:Int)(sa ar:Option Addr)(an ac am ad:Nat)(vs:List SV)(t:Tr):Bool:=(yI (zl 3::toQ 3:: [zg 3,(5,1,1125899906842624),(7,1,1125899906842624),(8,1,1125899906842624),(9,0,1125899906842624)]) #[.int .i8 3,.int .i64 a1,.int .i64 a2,.int .i64 a3,.int .i64 a4,.int .i64 a5,.int .i64 a6,.int .i64 a7,.int .i64 a8,.int .i64 a9,.int .i64 a10,.slice sa an ac,.int .i64 t.id,.int .i64 t.kind,.string t.text,.slice ar am ad] && yj t) && (yz ⟨3,0,0,a3,0,0,a6,0,0,0,a10⟩ ⟨3,0,0,0,0,0,0,0,0,0,0⟩ && ((an == 0) && true))
theorem ziD (b rb:Nat)(hne:rb≠b)(s:Rd)(X:World)(hX:X.heap[b]? =some (.cells #[.int .i8 3,.int .i64 0,.int .i64 0,.int .i64 0,.int .i64 0,.int .i64 0,.int .i64 0,.int .i64 0,.int .i64 0,.int .i64 0,.int .i64 0,.slice none 0 0,.int .i64 0,.int .i64 0,.string ⟨#[]⟩,.slice none 0 0] 37 (0,0)))(hR:yC b rb s X)(hd:s.data.length≤100000):
 Calls Tryz.prog 56 #[.pointer (some ⟨b,0,none⟩),.iface 114 (.agg #[.pointer (some ⟨rb,0,none⟩)])] X (fun e Z=>e= .returned (.tuple #[])∧za X Z (fun q=>q=rb∨q=b)∧yC b rb (zb 3 s).e Z∧∃m:RM,zZ (zb 3 s) m Z∧Z.heap[b]? =some (.cells #[.int .i8 3,.int .i64 m.n1,.int .i64 m.n2,.int .i64 m.n3,.int .i64 m.n4,.int .i64 m.n5,.int .i64 m.n6,.int .i64 m.n7,.int .i64 m.n8,.int .i64 m.n9,.int .i64 m.n10,.slice m.sa m.sn m.sc,.int .i64 m.id,.int .i64 m.kd,.string m.tx,.slice m.ar m.am m.ad] 37 (0,0))):=
 (zkq b rb hne s X hX hR).mono fun e Z h=>by
   obtain⟨h1,h4,ar,ad,f1,f2,f3,h3⟩:=h
   exact⟨h1,h4,f1,⟨(zo s 0),(zo s 1),0,(zo s 2),(zo s 3),0,(zo s 4),(zo s 5),(zo s 6),0,none,0,0,(rdN s 7).tree.1.id,(rdN s 7).tree.1.kind,(rdN s 7).tree.1.text,ar,foLen (rdN s 7).tree.1.kids,ad⟩,⟨⟨rfl,rfl,rfl,rfl,rfl,rfl,rfl,rfl,rfl,rfl⟩,⟨rfl,rfl,rfl⟩,[],zdj f3 f2 (zbF (rdN s 7) (by rw[yO];exact hd)).1,rfl⟩,h3⟩
theorem QE (w:World)(a1 a2 a3 a4 a5 a6 a7 a8 a9 a10:Int)(sa ar:Option Addr)(an ac am ad:Nat)(vs:List SV)(t:Tr)(h:zM w sa ar an am ad vs t):Calls Tryz.prog 22 #[.agg #[.int .i8 3,.int .i64 a1,.int .i64 a2,.int .i64 a3,.int .i64 a4,.int .i64 a5,.int .i64 a6,.int .i64 a7,.int .i64 a8,.int .i64 a9,.int .i64 a10,.slice sa an ac,.int .i64 t.id,.int .i64 t.kind,.string t.text,.slice ar am ad]] w (zX (qC a1 a2 a3 a4 a5 a6 a7 a8 a9 a10 sa ar an ac am ad vs t) w):=by
 unfold qC
 exact zi2 w a1 a2 a3 a4 a5 a6 a7 a8 a9 a10 sa ar an ac am ad vs t h
theorem zkg (p:PR)(m:RM)(V:World)(h:zZ p m V):∀Y,Below V.heap.size V Y→Calls Tryz.prog 22 #[.agg #[.int .i8 3,.int .i64 m.n1,.int .i64 m.n2,.int .i64 m.n3,.int .i64 m.n4,.int .i64 m.n5,.int .i64 m.n6,.int .i64 m.n7,.int .i64 m.n8,.int .i64 m.n9,.int .i64 m.n10,.slice m.sa m.sn m.sc,.int .i64 m.id,.int .i64 m.kd,.string m.tx,.slice m.ar m.am m.ad]] Y (zX (qC m.n1 m.n2 m.n3 m.n4 m.n5 m.n6 m.n7 m.n8 m.n9 m.n10 m.sa m.ar m.sn m.sc m.am m.ad (qb p) p.t) Y):=by
 obtain⟨_,⟨h1,h2,h3⟩,vs,hm,h4⟩:=h
 rw[h1,h2,h3]
 intro Y hY
 have hh:=QE Y m.n1 m.n2 m.n3 m.n4 m.n5 m.n6 m.n7 m.n8 m.n9 m.n10 m.sa m.ar m.sn m.sc m.am m.ad vs p.t (hm.on hY)
 have e:qC m.n1 m.n2 m.n3 m.n4 m.n5 m.n6 m.n7 m.n8 m.n9 m.n10 m.sa m.ar m.sn m.sc m.am m.ad vs p.t=qC m.n1 m.n2 m.n3 m.n4 m.n5 m.n6 m.n7 m.n8 m.n9 m.n10 m.sa m.ar m.sn m.sc m.am m.ad (qb p) p.t:=by
  unfold qC
  rfl
 rw[←e];exact hh
theorem zhy (s:Rd):(zb 3 s).e.data=s.data:=by
 show (rdN s 7).tree.2.data=_
 rw[zbN,yO]
def qD (a1 a2 a3 a4 a5 a6 a7 a8 a9 a10:Int)(sa ar:Option Addr)(an ac am ad:Nat)(vs:List SV)(t:Tr):Bool:=(yI (zl 4::toQ 4:: [zg 4,(5,1,1125899906842624),(10,1,999)]) #[.int .i8 4,.int .i64 a1,.int .i64 a2,.int .i64 a3,.int .i64 a4,.int .i64 a5,.int .i64 a6,.int .i64 a7,.int .i64 a8,.int .i64 a9,.int .i64 a10,.slice sa an ac,.int .i64 t.id,.int .i64 t.kind,.string t.text,.slice ar am ad]) && (yz ⟨4,0,0,a3,0,0,a6,a7,a8,a9,0⟩ ⟨4,0,0,0,0,0,0,0,0,0,0⟩ && ((an == 0) && yh t ⟨0,0,⟨#[]⟩,.nil⟩))
theorem ziE (b rb:Nat)(hne:rb≠b)(s:Rd)(X:World)(hX:X.heap[b]? =some (.cells #[.int .i8 4,.int .i64 0,.int .i64 0,.int .i64 0,.int .i64 0,.int .i64 0,.int .i64 0,.int .i64 0,.int .i64 0,.int .i64 0,.int .i64 0,.slice none 0 0,.int .i64 0,.int .i64 0,.string ⟨#[]⟩,.slice none 0 0] 37 (0,0)))(hR:yC b rb s X)(hd:s.data.length≤100000):
 Calls Tryz.prog 56 #[.pointer (some ⟨b,0,none⟩),.iface 114 (.agg #[.pointer (some ⟨rb,0,none⟩)])] X (fun e Z=>e= .returned (.tuple #[])∧za X Z (fun q=>q=rb∨q=b)∧yC b rb (zb 4 s).e Z∧∃m:RM,zZ (zb 4 s) m Z∧Z.heap[b]? =some (.cells #[.int .i8 4,.int .i64 m.n1,.int .i64 m.n2,.int .i64 m.n3,.int .i64 m.n4,.int .i64 m.n5,.int .i64 m.n6,.int .i64 m.n7,.int .i64 m.n8,.int .i64 m.n9,.int .i64 m.n10,.slice m.sa m.sn m.sc,.int .i64 m.id,.int .i64 m.kd,.string m.tx,.slice m.ar m.am m.ad] 37 (0,0))):=
 (zkr b rb hne s X hX hR).mono fun e Z h=>by
   exact se1
theorem QF (w:World)(a1 a2 a3 a4 a5 a6 a7 a8 a9 a10:Int)(sa ar:Option Addr)(an ac am ad:Nat)(vs:List SV)(t:Tr)(h:zM w sa ar an am ad vs t):Calls Tryz.prog 22 #[.agg #[.int .i8 4,.int .i64 a1,.int .i64 a2,.int .i64 a3,.int .i64 a4,.int .i64 a5,.int .i64 a6,.int .i64 a7,.int .i64 a8,.int .i64 a9,.int .i64 a10,.slice sa an ac,.int .i64 t.id,.int .i64 t.kind,.string t.text,.slice ar am ad]] w (zX (qD a1 a2 a3 a4 a5 a6 a7 a8 a9 a10 sa ar an ac am ad vs t) w):=by
 unfold qD
 exact zi3 w a1 a2 a3 a4 a5 a6 a7 a8 a9 a10 sa ar an ac am ad vs t h
theorem zkh (p:PR)(m:RM)(V:World)(h:zZ p m V):∀Y,Below V.heap.size V Y→Calls Tryz.prog 22 #[.agg #[.int .i8 4,.int .i64 m.n1,.int .i64 m.n2,.int .i64 m.n3,.int .i64 m.n4,.int .i64 m.n5,.int .i64 m.n6,.int .i64 m.n7,.int .i64 m.n8,.int .i64 m.n9,.int .i64 m.n10,.slice m.sa m.sn m.sc,.int .i64 m.id,.int .i64 m.kd,.string m.tx,.slice m.ar m.am m.ad]] Y (zX (qD m.n1 m.n2 m.n3 m.n4 m.n5 m.n6 m.n7 m.n8 m.n9 m.n10 m.sa m.ar m.sn m.sc m.am m.ad (qb p) p.t) Y):=by
 obtain⟨_,⟨h1,h2,h3⟩,vs,hm,h4⟩:=h
 rw[h1,h2,h3]
 intro Y hY
 have hh:=QF Y m.n1 m.n2 m.n3 m.n4 m.n5 m.n6 m.n7 m.n8 m.n9 m.n10 m.sa m.ar m.sn m.sc m.am m.ad vs p.t (hm.on hY)
 have e:qD m.n1 m.n2 m.n3 m.n4 m.n5 m.n6 m.n7 m.n8 m.n9 m.n10 m.sa m.ar m.sn m.sc m.am m.ad vs p.t=qD m.n1 m.n2 m.n3 m.n4 m.n5 m.n6 m.n7 m.n8 m.n9 m.n10 m.sa m.ar m.sn m.sc m.am m.ad (qb p) p.t:=by
  unfold qD
  rfl
 rw[←e];exact hh
theorem zhz (s:Rd):(zb 4 s).e.data=s.data:=by
 show (rdN s 5).data=_
 exact yO s 5
def qE (a1 a2 a3 a4 a5 a6 a7 a8 a9 a10:Int)(sa ar:Option Addr)(an ac am ad:Nat)(vs:List SV)(t:Tr):Bool:=(yI (zl 5::toQ 5:: [(3,1,1125899906842624),zg 5,(5,1,1125899906842624),(7,1,1125899906842624),(8,1,1125899906842624)]) #[.int .i8 5,.int .i64 a1,.int .i64 a2,.int .i64 a3,.int .i64 a4,.int .i64 a5,.int .i64 a6,.int .i64 a7,.int .i64 a8,.int .i64 a9,.int .i64 a10,.slice sa an ac,.int .i64 t.id,.int .i64 t.kind,.string t.text,.slice ar am ad] && zO (steps vs)) && (yz ⟨5,0,0,0,0,0,a6,0,0,a9,a10⟩ ⟨5,0,0,0,0,0,0,0,0,0,0⟩ && (true && yh t ⟨0,0,⟨#[]⟩,.nil⟩))
theorem ziF (b rb:Nat)(hne:rb≠b)(s:Rd)(X:World)(hX:X.heap[b]? =some (.cells #[.int .i8 5,.int .i64 0,.int .i64 0,.int .i64 0,.int .i64 0,.int .i64 0,.int .i64 0,.int .i64 0,.int .i64 0,.int .i64 0,.int .i64 0,.slice none 0 0,.int .i64 0,.int .i64 0,.string ⟨#[]⟩,.slice none 0 0] 37 (0,0)))(hR:yC b rb s X)(hd:s.data.length≤100000):
 Calls Tryz.prog 56 #[.pointer (some ⟨b,0,none⟩),.iface 114 (.agg #[.pointer (some ⟨rb,0,none⟩)])] X (fun e Z=>e= .returned (.tuple #[])∧za X Z (fun q=>q=rb∨q=b)∧yC b rb (zb 5 s).e Z∧∃m:RM,zZ (zb 5 s) m Z∧Z.heap[b]? =some (.cells #[.int .i8 5,.int .i64 m.n1,.int .i64 m.n2,.int .i64 m.n3,.int .i64 m.n4,.int .i64 m.n5,.int .i64 m.n6,.int .i64 m.n7,.int .i64 m.n8,.int .i64 m.n9,.int .i64 m.n10,.slice m.sa m.sn m.sc,.int .i64 m.id,.int .i64 m.kd,.string m.tx,.slice m.ar m.am m.ad] 37 (0,0))):=
 (zks b rb hne s X hX hR).mono fun e Z h=>by
   obtain⟨h1,h4,sa,sn,sc,f1,f2,f3,f4,h3⟩:=h
   obtain⟨vs,v1,v2⟩:=zbn f4 f2 (zaF (rdN s 7) (by rw[yO];exact hd))
   exact⟨h1,h4,f1,⟨(zo s 0),(zo s 1),(zo s 2),(zo s 3),(zo s 4),0,(zo s 5),(zo s 6),0,0,sa,sn,sc,0,0,⟨#[]⟩,none,0,0⟩,⟨⟨rfl,rfl,rfl,rfl,rfl,rfl,rfl,rfl,rfl,rfl⟩,⟨rfl,rfl,rfl⟩,vs,v1,v2⟩,h3⟩
theorem QG (w:World)(a1 a2 a3 a4 a5 a6 a7 a8 a9 a10:Int)(sa ar:Option Addr)(an ac am ad:Nat)(vs:List SV)(t:Tr)(h:zM w sa ar an am ad vs t):Calls Tryz.prog 22 #[.agg #[.int .i8 5,.int .i64 a1,.int .i64 a2,.int .i64 a3,.int .i64 a4,.int .i64 a5,.int .i64 a6,.int .i64 a7,.int .i64 a8,.int .i64 a9,.int .i64 a10,.slice sa an ac,.int .i64 t.id,.int .i64 t.kind,.string t.text,.slice ar am ad]] w (zX (qE a1 a2 a3 a4 a5 a6 a7 a8 a9 a10 sa ar an ac am ad vs t) w):=by
 unfold qE
 exact zi4 w a1 a2 a3 a4 a5 a6 a7 a8 a9 a10 sa ar an ac am ad vs t h
theorem zki (p:PR)(m:RM)(V:World)(h:zZ p m V):∀Y,Below V.heap.size V Y→Calls Tryz.prog 22 #[.agg #[.int .i8 5,.int .i64 m.n1,.int .i64 m.n2,.int .i64 m.n3,.int .i64 m.n4,.int .i64 m.n5,.int .i64 m.n6,.int .i64 m.n7,.int .i64 m.n8,.int .i64 m.n9,.int .i64 m.n10,.slice m.sa m.sn m.sc,.int .i64 m.id,.int .i64 m.kd,.string m.tx,.slice m.ar m.am m.ad]] Y (zX (qE m.n1 m.n2 m.n3 m.n4 m.n5 m.n6 m.n7 m.n8 m.n9 m.n10 m.sa m.ar m.sn m.sc m.am m.ad (qb p) p.t) Y):=by
 obtain⟨_,⟨h1,h2,h3⟩,vs,hm,h4⟩:=h
 rw[h1,h2,h3]
 intro Y hY
 have hh:=QG Y m.n1 m.n2 m.n3 m.n4 m.n5 m.n6 m.n7 m.n8 m.n9 m.n10 m.sa m.ar m.sn m.sc m.am m.ad vs p.t (hm.on hY)
 have e:qE m.n1 m.n2 m.n3 m.n4 m.n5 m.n6 m.n7 m.n8 m.n9 m.n10 m.sa m.ar m.sn m.sc m.am m.ad vs p.t=qE m.n1 m.n2 m.n3 m.n4 m.n5 m.n6 m.n7 m.n8 m.n9 m.n10 m.sa m.ar m.sn m.sc m.am m.ad (qb p) p.t:=by
  unfold qE
  rw[h4,ZO]
 rw[←e];exact hh
theorem zhA (s:Rd):(zb 5 s).e.data=s.data:=by
 show (rdN s 7).steps.2.data=_
 rw[zaH,yO]
def qF (a1 a2 a3 a4 a5 a6 a7 a8 a9 a10:Int)(sa ar:Option Addr)(an ac am ad:Nat)(vs:List SV)(t:Tr):Bool:=(yI (zl 6::toQ 6:: [zg 6,(5,1,1125899906842624),(9,0,1125899906842624)]) #[.int .i8 6,.int .i64 a1,.int .i64 a2,.int .i64 a3,.int .i64 a4,.int .i64 a5,.int .i64 a6,.int .i64 a7,.int .i64 a8,.int .i64 a9,.int .i64 a10,.slice sa an ac,.int .i64 t.id,.int .i64 t.kind,.string t.text,.slice ar am ad]) && (yz ⟨6,0,0,a3,0,0,a6,a7,a8,0,a10⟩ ⟨6,0,0,0,0,0,0,0,0,0,0⟩ && ((an == 0) && yh t ⟨0,0,⟨#[]⟩,.nil⟩))
theorem ziG (b rb:Nat)(hne:rb≠b)(s:Rd)(X:World)(hX:X.heap[b]? =some (.cells #[.int .i8 6,.int .i64 0,.int .i64 0,.int .i64 0,.int .i64 0,.int .i64 0,.int .i64 0,.int .i64 0,.int .i64 0,.int .i64 0,.int .i64 0,.slice none 0 0,.int .i64 0,.int .i64 0,.string ⟨#[]⟩,.slice none 0 0] 37 (0,0)))(hR:yC b rb s X)(hd:s.data.length≤100000):
 Calls Tryz.prog 56 #[.pointer (some ⟨b,0,none⟩),.iface 114 (.agg #[.pointer (some ⟨rb,0,none⟩)])] X (fun e Z=>e= .returned (.tuple #[])∧za X Z (fun q=>q=rb∨q=b)∧yC b rb (zb 6 s).e Z∧∃m:RM,zZ (zb 6 s) m Z∧Z.heap[b]? =some (.cells #[.int .i8 6,.int .i64 m.n1,.int .i64 m.n2,.int .i64 m.n3,.int .i64 m.n4,.int .i64 m.n5,.int .i64 m.n6,.int .i64 m.n7,.int .i64 m.n8,.int .i64 m.n9,.int .i64 m.n10,.slice m.sa m.sn m.sc,.int .i64 m.id,.int .i64 m.kd,.string m.tx,.slice m.ar m.am m.ad] 37 (0,0))):=
 (zkt b rb hne s X hX hR).mono fun e Z h=>by
   obtain⟨h1,h2,h3,h4⟩:=h
   exact⟨h1,h4,h2,⟨(zo s 0),(zo s 1),0,(zo s 2),(zo s 3),0,0,0,(zo s 4),0,none,0,0,0,0,⟨#[]⟩,none,0,0⟩,⟨⟨rfl,rfl,rfl,rfl,rfl,rfl,rfl,rfl,rfl,rfl⟩,⟨rfl,rfl,rfl⟩,[],ko Z,rfl⟩,h3⟩
theorem QH (w:World)(a1 a2 a3 a4 a5 a6 a7 a8 a9 a10:Int)(sa ar:Option Addr)(an ac am ad:Nat)(vs:List SV)(t:Tr)(h:zM w sa ar an am ad vs t):Calls Tryz.prog 22 #[.agg #[.int .i8 6,.int .i64 a1,.int .i64 a2,.int .i64 a3,.int .i64 a4,.int .i64 a5,.int .i64 a6,.int .i64 a7,.int .i64 a8,.int .i64 a9,.int .i64 a10,.slice sa an ac,.int .i64 t.id,.int .i64 t.kind,.string t.text,.slice ar am ad]] w (zX (qF a1 a2 a3 a4 a5 a6 a7 a8 a9 a10 sa ar an ac am ad vs t) w):=by
 unfold qF
 exact zi5 w a1 a2 a3 a4 a5 a6 a7 a8 a9 a10 sa ar an ac am ad vs t h
theorem zkj (p:PR)(m:RM)(V:World)(h:zZ p m V):∀Y,Below V.heap.size V Y→Calls Tryz.prog 22 #[.agg #[.int .i8 6,.int .i64 m.n1,.int .i64 m.n2,.int .i64 m.n3,.int .i64 m.n4,.int .i64 m.n5,.int .i64 m.n6,.int .i64 m.n7,.int .i64 m.n8,.int .i64 m.n9,.int .i64 m.n10,.slice m.sa m.sn m.sc,.int .i64 m.id,.int .i64 m.kd,.string m.tx,.slice m.ar m.am m.ad]] Y (zX (qF m.n1 m.n2 m.n3 m.n4 m.n5 m.n6 m.n7 m.n8 m.n9 m.n10 m.sa m.ar m.sn m.sc m.am m.ad (qb p) p.t) Y):=by
 obtain⟨_,⟨h1,h2,h3⟩,vs,hm,h4⟩:=h
 rw[h1,h2,h3]
 intro Y hY
 have hh:=QH Y m.n1 m.n2 m.n3 m.n4 m.n5 m.n6 m.n7 m.n8 m.n9 m.n10 m.sa m.ar m.sn m.sc m.am m.ad vs p.t (hm.on hY)
 have e:qF m.n1 m.n2 m.n3 m.n4 m.n5 m.n6 m.n7 m.n8 m.n9 m.n10 m.sa m.ar m.sn m.sc m.am m.ad vs p.t=qF m.n1 m.n2 m.n3 m.n4 m.n5 m.n6 m.n7 m.n8 m.n9 m.n10 m.sa m.ar m.sn m.sc m.am m.ad (qb p) p.t:=by
  unfold qF
  rfl
 rw[←e];exact hh
theorem zhB (s:Rd):(zb 6 s).e.data=s.data:=by
 show (rdN s 5).data=_
 exact yO s 5
def qG (a1 a2 a3 a4 a5 a6 a7 a8 a9 a10:Int)(sa ar:Option Addr)(an ac am ad:Nat)(vs:List SV)(t:Tr):Bool:=(yI (zl 7::toQ 7:: [zg 7,(5,1,1125899906842624),(10,1,999)]) #[.int .i8 7,.int .i64 a1,.int .i64 a2,.int .i64 a3,.int .i64 a4,.int .i64 a5,.int .i64 a6,.int .i64 a7,.int .i64 a8,.int .i64 a9,.int .i64 a10,.slice sa an ac,.int .i64 t.id,.int .i64 t.kind,.string t.text,.slice ar am ad]) && (yz ⟨7,0,0,a3,0,0,a6,a7,a8,a9,0⟩ ⟨7,0,0,0,0,0,0,0,0,0,0⟩ && ((an == 0) && yh t ⟨0,0,⟨#[]⟩,.nil⟩))
theorem ziH (b rb:Nat)(hne:rb≠b)(s:Rd)(X:World)(hX:X.heap[b]? =some (.cells #[.int .i8 7,.int .i64 0,.int .i64 0,.int .i64 0,.int .i64 0,.int .i64 0,.int .i64 0,.int .i64 0,.int .i64 0,.int .i64 0,.int .i64 0,.slice none 0 0,.int .i64 0,.int .i64 0,.string ⟨#[]⟩,.slice none 0 0] 37 (0,0)))(hR:yC b rb s X)(hd:s.data.length≤100000):
 Calls Tryz.prog 56 #[.pointer (some ⟨b,0,none⟩),.iface 114 (.agg #[.pointer (some ⟨rb,0,none⟩)])] X (fun e Z=>e= .returned (.tuple #[])∧za X Z (fun q=>q=rb∨q=b)∧yC b rb (zb 7 s).e Z∧∃m:RM,zZ (zb 7 s) m Z∧Z.heap[b]? =some (.cells #[.int .i8 7,.int .i64 m.n1,.int .i64 m.n2,.int .i64 m.n3,.int .i64 m.n4,.int .i64 m.n5,.int .i64 m.n6,.int .i64 m.n7,.int .i64 m.n8,.int .i64 m.n9,.int .i64 m.n10,.slice m.sa m.sn m.sc,.int .i64 m.id,.int .i64 m.kd,.string m.tx,.slice m.ar m.am m.ad] 37 (0,0))):=
 (zku b rb hne s X hX hR).mono fun e Z h=>by
   exact se1
theorem QI (w:World)(a1 a2 a3 a4 a5 a6 a7 a8 a9 a10:Int)(sa ar:Option Addr)(an ac am ad:Nat)(vs:List SV)(t:Tr)(h:zM w sa ar an am ad vs t):Calls Tryz.prog 22 #[.agg #[.int .i8 7,.int .i64 a1,.int .i64 a2,.int .i64 a3,.int .i64 a4,.int .i64 a5,.int .i64 a6,.int .i64 a7,.int .i64 a8,.int .i64 a9,.int .i64 a10,.slice sa an ac,.int .i64 t.id,.int .i64 t.kind,.string t.text,.slice ar am ad]] w (zX (qG a1 a2 a3 a4 a5 a6 a7 a8 a9 a10 sa ar an ac am ad vs t) w):=by
 unfold qG
 exact zi6 w a1 a2 a3 a4 a5 a6 a7 a8 a9 a10 sa ar an ac am ad vs t h
theorem zkk (p:PR)(m:RM)(V:World)(h:zZ p m V):∀Y,Below V.heap.size V Y→Calls Tryz.prog 22 #[.agg #[.int .i8 7,.int .i64 m.n1,.int .i64 m.n2,.int .i64 m.n3,.int .i64 m.n4,.int .i64 m.n5,.int .i64 m.n6,.int .i64 m.n7,.int .i64 m.n8,.int .i64 m.n9,.int .i64 m.n10,.slice m.sa m.sn m.sc,.int .i64 m.id,.int .i64 m.kd,.string m.tx,.slice m.ar m.am m.ad]] Y (zX (qG m.n1 m.n2 m.n3 m.n4 m.n5 m.n6 m.n7 m.n8 m.n9 m.n10 m.sa m.ar m.sn m.sc m.am m.ad (qb p) p.t) Y):=by
 obtain⟨_,⟨h1,h2,h3⟩,vs,hm,h4⟩:=h
 rw[h1,h2,h3]
 intro Y hY
 have hh:=QI Y m.n1 m.n2 m.n3 m.n4 m.n5 m.n6 m.n7 m.n8 m.n9 m.n10 m.sa m.ar m.sn m.sc m.am m.ad vs p.t (hm.on hY)
 have e:qG m.n1 m.n2 m.n3 m.n4 m.n5 m.n6 m.n7 m.n8 m.n9 m.n10 m.sa m.ar m.sn m.sc m.am m.ad vs p.t=qG m.n1 m.n2 m.n3 m.n4 m.n5 m.n6 m.n7 m.n8 m.n9 m.n10 m.sa m.ar m.sn m.sc m.am m.ad (qb p) p.t:=by
  unfold qG
  rfl
 rw[←e];exact hh
theorem zhC (s:Rd):(zb 7 s).e.data=s.data:=by
 show (rdN s 5).data=_
 exact yO s 5
def qH (a1 a2 a3 a4 a5 a6 a7 a8 a9 a10:Int)(sa ar:Option Addr)(an ac am ad:Nat)(vs:List SV)(t:Tr):Bool:=(yI (zl 8::toQ 8:: [zg 8,(9,0,1125899906842624)]) #[.int .i8 8,.int .i64 a1,.int .i64 a2,.int .i64 a3,.int .i64 a4,.int .i64 a5,.int .i64 a6,.int .i64 a7,.int .i64 a8,.int .i64 a9,.int .i64 a10,.slice sa an ac,.int .i64 t.id,.int .i64 t.kind,.string t.text,.slice ar am ad] && zO (steps vs)) && (yz ⟨8,0,0,a3,0,a5,a6,a7,a8,0,a10⟩ ⟨8,0,0,0,0,0,0,0,0,0,0⟩ && (true && yh t ⟨0,0,⟨#[]⟩,.nil⟩))
theorem ziI (b rb:Nat)(hne:rb≠b)(s:Rd)(X:World)(hX:X.heap[b]? =some (.cells #[.int .i8 8,.int .i64 0,.int .i64 0,.int .i64 0,.int .i64 0,.int .i64 0,.int .i64 0,.int .i64 0,.int .i64 0,.int .i64 0,.int .i64 0,.slice none 0 0,.int .i64 0,.int .i64 0,.string ⟨#[]⟩,.slice none 0 0] 37 (0,0)))(hR:yC b rb s X)(hd:s.data.length≤100000):
 Calls Tryz.prog 56 #[.pointer (some ⟨b,0,none⟩),.iface 114 (.agg #[.pointer (some ⟨rb,0,none⟩)])] X (fun e Z=>e= .returned (.tuple #[])∧za X Z (fun q=>q=rb∨q=b)∧yC b rb (zb 8 s).e Z∧∃m:RM,zZ (zb 8 s) m Z∧Z.heap[b]? =some (.cells #[.int .i8 8,.int .i64 m.n1,.int .i64 m.n2,.int .i64 m.n3,.int .i64 m.n4,.int .i64 m.n5,.int .i64 m.n6,.int .i64 m.n7,.int .i64 m.n8,.int .i64 m.n9,.int .i64 m.n10,.slice m.sa m.sn m.sc,.int .i64 m.id,.int .i64 m.kd,.string m.tx,.slice m.ar m.am m.ad] 37 (0,0))):=
 (zkv b rb hne s X hX hR).mono fun e Z h=>by
   obtain⟨h1,h4,sa,sn,sc,f1,f2,f3,f4,h3⟩:=h
   obtain⟨vs,v1,v2⟩:=zbn f4 f2 (zaF (rdN s 4) (by rw[yO];exact hd))
   exact⟨h1,h4,f1,⟨(zo s 0),(zo s 1),0,(zo s 2),0,0,0,0,(zo s 3),0,sa,sn,sc,0,0,⟨#[]⟩,none,0,0⟩,⟨⟨rfl,rfl,rfl,rfl,rfl,rfl,rfl,rfl,rfl,rfl⟩,⟨rfl,rfl,rfl⟩,vs,v1,v2⟩,h3⟩
theorem QJ (w:World)(a1 a2 a3 a4 a5 a6 a7 a8 a9 a10:Int)(sa ar:Option Addr)(an ac am ad:Nat)(vs:List SV)(t:Tr)(h:zM w sa ar an am ad vs t):Calls Tryz.prog 22 #[.agg #[.int .i8 8,.int .i64 a1,.int .i64 a2,.int .i64 a3,.int .i64 a4,.int .i64 a5,.int .i64 a6,.int .i64 a7,.int .i64 a8,.int .i64 a9,.int .i64 a10,.slice sa an ac,.int .i64 t.id,.int .i64 t.kind,.string t.text,.slice ar am ad]] w (zX (qH a1 a2 a3 a4 a5 a6 a7 a8 a9 a10 sa ar an ac am ad vs t) w):=by
 unfold qH
 exact zi7 w a1 a2 a3 a4 a5 a6 a7 a8 a9 a10 sa ar an ac am ad vs t h
theorem zkl (p:PR)(m:RM)(V:World)(h:zZ p m V):∀Y,Below V.heap.size V Y→Calls Tryz.prog 22 #[.agg #[.int .i8 8,.int .i64 m.n1,.int .i64 m.n2,.int .i64 m.n3,.int .i64 m.n4,.int .i64 m.n5,.int .i64 m.n6,.int .i64 m.n7,.int .i64 m.n8,.int .i64 m.n9,.int .i64 m.n10,.slice m.sa m.sn m.sc,.int .i64 m.id,.int .i64 m.kd,.string m.tx,.slice m.ar m.am m.ad]] Y (zX (qH m.n1 m.n2 m.n3 m.n4 m.n5 m.n6 m.n7 m.n8 m.n9 m.n10 m.sa m.ar m.sn m.sc m.am m.ad (qb p) p.t) Y):=by
 obtain⟨_,⟨h1,h2,h3⟩,vs,hm,h4⟩:=h
 rw[h1,h2,h3]
 intro Y hY
 have hh:=QJ Y m.n1 m.n2 m.n3 m.n4 m.n5 m.n6 m.n7 m.n8 m.n9 m.n10 m.sa m.ar m.sn m.sc m.am m.ad vs p.t (hm.on hY)
 have e:qH m.n1 m.n2 m.n3 m.n4 m.n5 m.n6 m.n7 m.n8 m.n9 m.n10 m.sa m.ar m.sn m.sc m.am m.ad vs p.t=qH m.n1 m.n2 m.n3 m.n4 m.n5 m.n6 m.n7 m.n8 m.n9 m.n10 m.sa m.ar m.sn m.sc m.am m.ad (qb p) p.t:=by
  unfold qH
  rw[h4,ZO]
 rw[←e];exact hh
theorem zhD (s:Rd):(zb 8 s).e.data=s.data:=by
 show (rdN s 4).steps.2.data=_
 rw[zaH,yO]
def qI (a1 a2 a3 a4 a5 a6 a7 a8 a9 a10:Int)(sa ar:Option Addr)(an ac am ad:Nat)(vs:List SV)(t:Tr):Bool:=(yI (zl 9::toQ 9:: [(3,1,1125899906842624),zg 9]) #[.int .i8 9,.int .i64 a1,.int .i64 a2,.int .i64 a3,.int .i64 a4,.int .i64 a5,.int .i64 a6,.int .i64 a7,.int .i64 a8,.int .i64 a9,.int .i64 a10,.slice sa an ac,.int .i64 t.id,.int .i64 t.kind,.string t.text,.slice ar am ad]) && (yz ⟨9,0,0,0,0,a5,a6,a7,a8,a9,a10⟩ ⟨9,0,0,0,0,0,0,0,0,0,0⟩ && ((an == 0) && yh t ⟨0,0,⟨#[]⟩,.nil⟩))
theorem ziJ (b rb:Nat)(hne:rb≠b)(s:Rd)(X:World)(hX:X.heap[b]? =some (.cells #[.int .i8 9,.int .i64 0,.int .i64 0,.int .i64 0,.int .i64 0,.int .i64 0,.int .i64 0,.int .i64 0,.int .i64 0,.int .i64 0,.int .i64 0,.slice none 0 0,.int .i64 0,.int .i64 0,.string ⟨#[]⟩,.slice none 0 0] 37 (0,0)))(hR:yC b rb s X)(hd:s.data.length≤100000):
 Calls Tryz.prog 56 #[.pointer (some ⟨b,0,none⟩),.iface 114 (.agg #[.pointer (some ⟨rb,0,none⟩)])] X (fun e Z=>e= .returned (.tuple #[])∧za X Z (fun q=>q=rb∨q=b)∧yC b rb (zb 9 s).e Z∧∃m:RM,zZ (zb 9 s) m Z∧Z.heap[b]? =some (.cells #[.int .i8 9,.int .i64 m.n1,.int .i64 m.n2,.int .i64 m.n3,.int .i64 m.n4,.int .i64 m.n5,.int .i64 m.n6,.int .i64 m.n7,.int .i64 m.n8,.int .i64 m.n9,.int .i64 m.n10,.slice m.sa m.sn m.sc,.int .i64 m.id,.int .i64 m.kd,.string m.tx,.slice m.ar m.am m.ad] 37 (0,0))):=
 (zkw b rb hne s X hX hR).mono fun e Z h=>by
   obtain⟨h1,h2,h3,h4⟩:=h
   exact⟨h1,h4,h2,⟨(zo s 0),(zo s 1),(zo s 2),(zo s 3),0,0,0,0,0,0,none,0,0,0,0,⟨#[]⟩,none,0,0⟩,⟨⟨rfl,rfl,rfl,rfl,rfl,rfl,rfl,rfl,rfl,rfl⟩,⟨rfl,rfl,rfl⟩,[],ko Z,rfl⟩,h3⟩
theorem QK (w:World)(a1 a2 a3 a4 a5 a6 a7 a8 a9 a10:Int)(sa ar:Option Addr)(an ac am ad:Nat)(vs:List SV)(t:Tr)(h:zM w sa ar an am ad vs t):Calls Tryz.prog 22 #[.agg #[.int .i8 9,.int .i64 a1,.int .i64 a2,.int .i64 a3,.int .i64 a4,.int .i64 a5,.int .i64 a6,.int .i64 a7,.int .i64 a8,.int .i64 a9,.int .i64 a10,.slice sa an ac,.int .i64 t.id,.int .i64 t.kind,.string t.text,.slice ar am ad]] w (zX (qI a1 a2 a3 a4 a5 a6 a7 a8 a9 a10 sa ar an ac am ad vs t) w):=by
 unfold qI
 exact zi8 w a1 a2 a3 a4 a5 a6 a7 a8 a9 a10 sa ar an ac am ad vs t h
theorem zkm (p:PR)(m:RM)(V:World)(h:zZ p m V):∀Y,Below V.heap.size V Y→Calls Tryz.prog 22 #[.agg #[.int .i8 9,.int .i64 m.n1,.int .i64 m.n2,.int .i64 m.n3,.int .i64 m.n4,.int .i64 m.n5,.int .i64 m.n6,.int .i64 m.n7,.int .i64 m.n8,.int .i64 m.n9,.int .i64 m.n10,.slice m.sa m.sn m.sc,.int .i64 m.id,.int .i64 m.kd,.string m.tx,.slice m.ar m.am m.ad]] Y (zX (qI m.n1 m.n2 m.n3 m.n4 m.n5 m.n6 m.n7 m.n8 m.n9 m.n10 m.sa m.ar m.sn m.sc m.am m.ad (qb p) p.t) Y):=by
 obtain⟨_,⟨h1,h2,h3⟩,vs,hm,h4⟩:=h
 rw[h1,h2,h3]
 intro Y hY
 have hh:=QK Y m.n1 m.n2 m.n3 m.n4 m.n5 m.n6 m.n7 m.n8 m.n9 m.n10 m.sa m.ar m.sn m.sc m.am m.ad vs p.t (hm.on hY)
 have e:qI m.n1 m.n2 m.n3 m.n4 m.n5 m.n6 m.n7 m.n8 m.n9 m.n10 m.sa m.ar m.sn m.sc m.am m.ad vs p.t=qI m.n1 m.n2 m.n3 m.n4 m.n5 m.n6 m.n7 m.n8 m.n9 m.n10 m.sa m.ar m.sn m.sc m.am m.ad (qb p) p.t:=by
  unfold qI
  rfl
 rw[←e];exact hh
theorem zhE (s:Rd):(zb 9 s).e.data=s.data:=by
 show (rdN s 4).data=_
 exact yO s 4
def yY (a1 a2 a3 a4 a5 a6 a7 a8 a9 a10:Int)(sa ar:Option Addr)(an ac am ad:Nat)(vs:List SV)(t:Tr):Bool:=(yI (zl 10::toQ 10:: [zg 10,(9,0,1125899906842624)]) #[.int .i8 10,.int .i64 a1,.int .i64 a2,.int .i64 a3,.int .i64 a4,.int .i64 a5,.int .i64 a6,.int .i64 a7,.int .i64 a8,.int .i64 a9,.int .i64 a10,.slice sa an ac,.int .i64 t.id,.int .i64 t.kind,.string t.text,.slice ar am ad] && yj t) && (yz ⟨10,0,0,a3,0,a5,a6,a7,a8,0,a10⟩ ⟨10,0,0,0,0,0,0,0,0,0,0⟩ && ((an == 0) && true))
theorem zhJ (b rb:Nat)(hne:rb≠b)(s:Rd)(X:World)(hX:X.heap[b]? =some (.cells #[.int .i8 10,.int .i64 0,.int .i64 0,.int .i64 0,.int .i64 0,.int .i64 0,.int .i64 0,.int .i64 0,.int .i64 0,.int .i64 0,.int .i64 0,.slice none 0 0,.int .i64 0,.int .i64 0,.string ⟨#[]⟩,.slice none 0 0] 37 (0,0)))(hR:yC b rb s X)(hd:s.data.length≤100000):
 Calls Tryz.prog 56 #[.pointer (some ⟨b,0,none⟩),.iface 114 (.agg #[.pointer (some ⟨rb,0,none⟩)])] X (fun e Z=>e= .returned (.tuple #[])∧za X Z (fun q=>q=rb∨q=b)∧yC b rb (zb 10 s).e Z∧∃m:RM,zZ (zb 10 s) m Z∧Z.heap[b]? =some (.cells #[.int .i8 10,.int .i64 m.n1,.int .i64 m.n2,.int .i64 m.n3,.int .i64 m.n4,.int .i64 m.n5,.int .i64 m.n6,.int .i64 m.n7,.int .i64 m.n8,.int .i64 m.n9,.int .i64 m.n10,.slice m.sa m.sn m.sc,.int .i64 m.id,.int .i64 m.kd,.string m.tx,.slice m.ar m.am m.ad] 37 (0,0))):=
 (ziA b rb hne s X hX hR).mono fun e Z h=>by
   obtain⟨h1,h4,ar,ad,f1,f2,f3,h3⟩:=h
   exact⟨h1,h4,f1,⟨(zo s 0),(zo s 1),0,(zo s 2),0,0,0,0,(zo s 3),0,none,0,0,(rdN s 4).tree.1.id,(rdN s 4).tree.1.kind,(rdN s 4).tree.1.text,ar,foLen (rdN s 4).tree.1.kids,ad⟩,⟨⟨rfl,rfl,rfl,rfl,rfl,rfl,rfl,rfl,rfl,rfl⟩,⟨rfl,rfl,rfl⟩,[],zdj f3 f2 (zbF (rdN s 4) (by rw[yO];exact hd)).1,rfl⟩,h3⟩
theorem YG (w:World)(a1 a2 a3 a4 a5 a6 a7 a8 a9 a10:Int)(sa ar:Option Addr)(an ac am ad:Nat)(vs:List SV)(t:Tr)(h:zM w sa ar an am ad vs t):Calls Tryz.prog 22 #[.agg #[.int .i8 10,.int .i64 a1,.int .i64 a2,.int .i64 a3,.int .i64 a4,.int .i64 a5,.int .i64 a6,.int .i64 a7,.int .i64 a8,.int .i64 a9,.int .i64 a10,.slice sa an ac,.int .i64 t.id,.int .i64 t.kind,.string t.text,.slice ar am ad]] w (zX (yY a1 a2 a3 a4 a5 a6 a7 a8 a9 a10 sa ar an ac am ad vs t) w):=by
 unfold yY
 exact zh2 w a1 a2 a3 a4 a5 a6 a7 a8 a9 a10 sa ar an ac am ad vs t h
theorem ziz (p:PR)(m:RM)(V:World)(h:zZ p m V):∀Y,Below V.heap.size V Y→Calls Tryz.prog 22 #[.agg #[.int .i8 10,.int .i64 m.n1,.int .i64 m.n2,.int .i64 m.n3,.int .i64 m.n4,.int .i64 m.n5,.int .i64 m.n6,.int .i64 m.n7,.int .i64 m.n8,.int .i64 m.n9,.int .i64 m.n10,.slice m.sa m.sn m.sc,.int .i64 m.id,.int .i64 m.kd,.string m.tx,.slice m.ar m.am m.ad]] Y (zX (yY m.n1 m.n2 m.n3 m.n4 m.n5 m.n6 m.n7 m.n8 m.n9 m.n10 m.sa m.ar m.sn m.sc m.am m.ad (qb p) p.t) Y):=by
 obtain⟨_,⟨h1,h2,h3⟩,vs,hm,h4⟩:=h
 rw[h1,h2,h3]
 intro Y hY
 have hh:=YG Y m.n1 m.n2 m.n3 m.n4 m.n5 m.n6 m.n7 m.n8 m.n9 m.n10 m.sa m.ar m.sn m.sc m.am m.ad vs p.t (hm.on hY)
 have e:yY m.n1 m.n2 m.n3 m.n4 m.n5 m.n6 m.n7 m.n8 m.n9 m.n10 m.sa m.ar m.sn m.sc m.am m.ad vs p.t=yY m.n1 m.n2 m.n3 m.n4 m.n5 m.n6 m.n7 m.n8 m.n9 m.n10 m.sa m.ar m.sn m.sc m.am m.ad (qb p) p.t:=by
  unfold yY
  rfl
 rw[←e];exact hh
theorem zfn (s:Rd):(zb 10 s).e.data=s.data:=by
 show (rdN s 4).tree.2.data=_
 rw[zbN,yO]
def yG (k:Nat)(p:PR)(m:RM):Bool:=match k with
 | 1=>qA m.n1 m.n2 m.n3 m.n4 m.n5 m.n6 m.n7 m.n8 m.n9 m.n10 m.sa m.ar m.sn m.sc m.am m.ad (qb p) p.t
 | 2=>qB m.n1 m.n2 m.n3 m.n4 m.n5 m.n6 m.n7 m.n8 m.n9 m.n10 m.sa m.ar m.sn m.sc m.am m.ad (qb p) p.t
 | 3=>qC m.n1 m.n2 m.n3 m.n4 m.n5 m.n6 m.n7 m.n8 m.n9 m.n10 m.sa m.ar m.sn m.sc m.am m.ad (qb p) p.t
 | 4=>qD m.n1 m.n2 m.n3 m.n4 m.n5 m.n6 m.n7 m.n8 m.n9 m.n10 m.sa m.ar m.sn m.sc m.am m.ad (qb p) p.t
 | 5=>qE m.n1 m.n2 m.n3 m.n4 m.n5 m.n6 m.n7 m.n8 m.n9 m.n10 m.sa m.ar m.sn m.sc m.am m.ad (qb p) p.t
 | 6=>qF m.n1 m.n2 m.n3 m.n4 m.n5 m.n6 m.n7 m.n8 m.n9 m.n10 m.sa m.ar m.sn m.sc m.am m.ad (qb p) p.t
 | 7=>qG m.n1 m.n2 m.n3 m.n4 m.n5 m.n6 m.n7 m.n8 m.n9 m.n10 m.sa m.ar m.sn m.sc m.am m.ad (qb p) p.t
 | 8=>qH m.n1 m.n2 m.n3 m.n4 m.n5 m.n6 m.n7 m.n8 m.n9 m.n10 m.sa m.ar m.sn m.sc m.am m.ad (qb p) p.t
 | 9=>qI m.n1 m.n2 m.n3 m.n4 m.n5 m.n6 m.n7 m.n8 m.n9 m.n10 m.sa m.ar m.sn m.sc m.am m.ad (qb p) p.t
 | 10=>yY m.n1 m.n2 m.n3 m.n4 m.n5 m.n6 m.n7 m.n8 m.n9 m.n10 m.sa m.ar m.sn m.sc m.am m.ad (qb p) p.t
 | _=>false
end Go.Proofs.YtoidedomenkbpaaGreat
