/-
  .
-/
import Derived.Test.YtoidedomenkbpaaGreatERevQr
set_option maxRecDepth 100000
set_option maxHeartbeats 40000000

namespace Go.Proofs.YtoidedomenkbpaaGreat
open Go.RowKit
open Extern.Stop (cell)
def jU (w wr wr' :World):Prop:=Below w.heap.size wr wr'∧∀(k:Nat) (o:Obj),wr.heap[k]? =some o→JC o=false→wr'.heap[k]? =some o
theorem vw.other {B:Nat}{v:Value}{n:Nat}{xs:List Value}{w wr wr' :World}(h:vw B v n xs w wr)(hB:B≤w.heap.size)(ho:jU w wr wr'):vw B v n xs w wr':=by
 obtain⟨⟨⟨h1,h2⟩,h3,h4⟩,h5⟩:=h
 refine⟨⟨⟨h1,?_⟩,h3.trans (ho.1.mono hB),NltQ h4 ho.1.size⟩,fun k o hk hn=>?_⟩
 · rcases h2 with h2 | ⟨g,cap,cur,fz,hv,hg,hh,r⟩
   · exact Or.inl h2
   · exact Or.inr ⟨g,cap,cur,fz,hv,hg,ho.2 g _ hh (by simp[JC]),r⟩
 · rw[ho.1.block k (lohQ hk)];exact h5 k o hk hn
theorem jU.refl (w wr:World):jU w wr wr:=⟨BrQ _ _,fun _ _ h _=>h⟩
theorem jU.alloc {w a b:World}(h:jU w a b)(hs:w.heap.size≤b.heap.size)(o:Obj):jU w a (b.alloc o):=⟨h.1.alloc hs o,fun i x hi hx=>by
 have:=h.2 i x hi hx
 rw[BhaQ _ _ _ (lohQ this)];exact this⟩
theorem jU.setCell {w a b:World}(h:jU w a b){p:Addr}(hp:w.heap.size≤p.block){o:Obj}(hb:b.heap[p.block]? =some o)(hn:JC o=true)(u:Value):jU w a (b.setCell p u):=⟨h.1.setCell hp u,fun i x hi hx=>by
 have:=h.2 i x hi hx
 rw[BhsQ _ _ _ _ (fun e=>by rw[e,hb] at this;cases this;rw[hn] at hx;cases hx)];exact this⟩
structure vR (w:World) (B rowB:Nat) (rc:Array Value) (S:Nat→Prop) (total:List UInt8) (v wv:Value) (rows:List Wait) (bs:List UInt8) (wr:World):Prop where
 own:qy B v bs w wr
 wait:wr.ownsRow w.heap.size 33 1 wv rows.length (rows.map Wait.v)
 row:w.heap.size≤rowB∧wr.heap[rowB]? =some (.cells rc 35 (0,0))
 nodes:∀r∈rows,zK wr (fun k=>S k∨k=rowB) r.f r.a∧foLen r.f≤r.cap
 all:bs++encR rows=total
theorem zep {w:World}{B:Nat}{v:Value}{bs:List UInt8}{S:Nat→Prop}{t:Tr}{ka:Option Addr}{cap:Nat}(h:qy B v bs w w)(hS:∀k,S k→k<B)(hk:zK w S t.kids ka)(hcap:foLen t.kids≤cap)(o:Obj)(c:Nat)(hc:1≤c):
 vR w B (w.heap.size+1) #[.int .i64 t.id,.int .i64 t.kind,.string t.text,.slice ka (foLen t.kids) cap] S (bs++qA t) v (.slice (some ⟨w.heap.size+1+1,0,none⟩) 1 1) [⟨some ⟨w.heap.size+1,0,none⟩,c,.node 0 0 (t.id,t.kind,t.text) t.kids .nil⟩] bs
  (((w.alloc o).alloc (.cells #[.int .i64 t.id,.int .i64 t.kind,.string t.text,.slice ka (foLen t.kids) cap] 35)).alloc (.cells #[.slice (some ⟨w.heap.size+1,0,none⟩) 1 c] 33)):=by
 have hB:B≤w.heap.size:=h.1.2.2
 have hrow:(((w.alloc o).alloc (.cells #[.int .i64 t.id,.int .i64 t.kind,.string t.text,.slice ka (foLen t.kids) cap] 35)).alloc (.cells #[.slice (some ⟨w.heap.size+1,0,none⟩) 1 c] 33)).heap[w.heap.size+1]? =some (.cells #[.int .i64 t.id,.int .i64 t.kind,.string t.text,.slice ka (foLen t.kids) cap] 35 (0,0)):=by
  rw[BhaQ _ _ _ sp1];exact heap_alloc2_new w _ _
 refine⟨((h.alloc _).alloc _).alloc _,?_,⟨by omega,hrow⟩,fun r hr=>?_,?_⟩
 · have hlit:=World.ownsRow_lit (base:=w.heap.size) (size:=1) (e:=33) ((w.alloc o).alloc (.cells #[.int .i64 t.id,.int .i64 t.kind,.string t.text,.slice ka (foLen t.kids) cap] 35)) #[.slice (some ⟨w.heap.size+1,0,none⟩) 1 c] 1 ue1 ud2 rfl
   rw[WsaQ,WsaQ] at hlit
   exact hlit
 · rw[List.mem_singleton] at hr
   subst hr
   refine⟨⟨w.heap.size+1,0,ka,cap,rfl,Or.inr rfl,by rw[corQ _ _ 0 _ _ _ hrow];rfl,by rw[corQ _ _ 1 _ _ _ hrow];rfl,by rw[corQ _ _ 2 _ _ _ hrow];rfl,by rw[corQ _ _ 3 _ _ _ hrow];rfl,hcap,hk.kept (fun k hk=>⟨Or.inl hk,?_⟩),True.intro⟩,by simpa [foLen] using hc⟩
   have:=hS k hk
   rw[BhaQ _ _ _ ue1,BhaQ _ _ _ ue1,BhaQ _ _ _ om]
 · show bs++(vv (.node 0 0 (t.id,t.kind,t.text) t.kids .nil)++[])=bs++qA t
   simp[vv,qA]
theorem zfg {w:World}{B g n cap:Nat}{e:TypeId}{xs:List Value}{u:Value}(h:w.ownsRow B e 1 (.slice (some ⟨g,0,none⟩) (n+1) cap) (n+1) (xs++[u]))(hn:n=xs.length):w.ownsRow B e 1 (.slice (some ⟨g,0,none⟩) n cap) n xs:=by
 exact se2
theorem ZU {w:World}{B g n cap:Nat}{e:TypeId}{size:Nat}{xs:List Value}(h:w.ownsRow B e size (.slice (some ⟨g,0,none⟩) n cap) n xs):B≤g∧n≤cap∧∃cur,w.heap[g]? =some (.cells cur e (0,0)):=by
 rcases h.2 with ⟨hv,_⟩ | ⟨g',cap',cur,hv,hB,hh,h3,_⟩
 · cases hv
 · cases hv;exact⟨hB,h3,cur,hh⟩
section
variable {w wr:World} {B rowB:Nat} {rc:Array Value} {S:Nat→Prop} {total:List UInt8} {v:Value} {rs:List Wait} {bs:List UInt8} {g n wc:Nat}
theorem vR.pop {ta:Option Addr}{tc:Nat}(h:vR w B rowB rc S total v (.slice (some ⟨g,0,none⟩) (n+1) wc) (rs++[Wait.mk ta tc .nil]) bs wr)(hn:n=rs.length):vR w B rowB rc S total v (.slice (some ⟨g,0,none⟩) n wc) rs bs wr:=by
 have hw:=h.wait
 rw[List.map_append,LlaQ,←hn] at hw
 refine⟨h.own,?_,h.row,fun r hr=>h.nodes r (List.mem_append_left _ hr),by have:=h.all;rw[jW] at this;exact this⟩
 rw[←hn]
 exact zfg hw (by simp[hn])
theorem vR.next {b off na nc tc q kcap m:Nat}{kka:Option Addr}{k:Int×Int×ByteArray}{b0 o0:Nat}{l r:Fo}{o:Obj}{w6 w8:World}{v4 wv8:Value}(h:vR w B rowB rc S total v (.slice (some ⟨g,0,none⟩) (n+1) wc) (rs++[Wait.mk (some ⟨b,off,none⟩) tc (.node b0 o0 k l r)]) bs wr)(hn:n=rs.length)(hB:B≤w.heap.size)(hS:∀k,S k→k<B)
 (hr:zK wr (fun k=>S k∨k=rowB) r (some ⟨b,na,none⟩)) (hrc:foLen r≤nc) (hl:zK wr (fun k=>S k∨k=rowB) l kka) (hlc:foLen l≤kcap) (hq:q=foLen l) (hm:m=foLen r)
 (h6:qy B v4 (bs++ZN k q) ((wr.setCell ⟨g,n,none⟩ (.slice (some ⟨b,na,none⟩) m nc)).alloc o) w6)
 (h8:w8.ownsRow w.heap.size 33 1 wv8 (n+1+1) ((rs++[Wait.mk (some ⟨b,na,none⟩) nc r]).map Wait.v++[.slice kka q kcap])) (hg:(w6.alloc (.cells #[.slice kka q kcap] 33)).grownBy w8 (some g)):
 vR w B rowB rc S total v4 wv8 (rs++[Wait.mk (some ⟨b,na,none⟩) nc r]++[Wait.mk kka kcap l]) (bs++ZN k q) w8:=by
 subst hq
 subst hm
 have hw:=h.wait
 rw[LlaQ,←hn] at hw
 obtain⟨t1,t2,cur,t3⟩:=ZU hw
 have hgs:=lohQ t3
 have o1:jU w wr ((wr.setCell ⟨g,n,none⟩ (.slice (some ⟨b,na,none⟩) (foLen r) nc)).alloc o):=((jU.refl w wr).setCell (p:=⟨g,n,none⟩) t1 t3 rfl _).alloc uc2 o
 have Jc:=h.own.other hB o1
 have QO:=Jc.since h6
 have g1:((wr.setCell ⟨g,n,none⟩ (.slice (some ⟨b,na,none⟩) (foLen r) nc)).alloc o).heap[g]? =some (.cells (cur.setIfInBounds n (.slice (some ⟨b,na,none⟩) (foLen r) nc)) 33 (0,0)):=by
  rw[BhaQ _ _ _ uc2];exact hssQ wr g n _ _ _ t3
 have g6:=h6.2 g _ g1 rfl
 have hgs6:=lohQ g6
 have g7:(w6.alloc (.cells #[.slice kka (foLen l) kcap] 33)).heap[g]? =_:=(BhaQ w6 _ _ hgs6).trans g6
 have o2:jU w (w6.alloc (.cells #[.slice kka (foLen l) kcap] 33)) w8:=⟨⟨hg.os,hg.tape,hg.output,hg.size,fun x hx=>hg.block x (by have:=QO.1.2.1;have h3:=lohQ g6;simp;omega) (fun e=>by cases e;omega)⟩,fun x ob hx hu=>by
  rw[hg.block x (lohQ hx) (fun e=>by cases e;rw[g7] at hx;cases hx;cases hu)];exact hx⟩
 have hrg:rowB≠g:=fun e=>by
  have h1:=h.row.2
  rw[e,t3] at h1;cases h1
 have r1:((wr.setCell ⟨g,n,none⟩ (.slice (some ⟨b,na,none⟩) (foLen r) nc)).alloc o).heap[rowB]? =some (.cells rc 35 (0,0)):=by
  have hlt:=lohQ h.row.2
  rw[BhaQ _ _ _ uc2,BhsQ _ _ _ _ hrg];exact h.row.2
 have r6:=h6.2 rowB _ r1 rfl
 have r8:w8.heap[rowB]? =some (.cells rc 35 (0,0)):=by
  have hlt:=lohQ r6
  rw[hg.block rowB ue1 (fun e=>by cases e;exact hrg rfl),BhaQ _ _ _ hlt];exact r6
 have hsz6:w.heap.size≤w6.heap.size:=by have:=h.row.1;have:=lohQ r6;omega
 have hkeep:∀x,(S x∨x=rowB)→w8.heap[x]? =wr.heap[x]?:=fun x hx=>by
  rcases hx with hx | rfl
  · have hxB:=hS x hx
    rw[hg.block x ue1 (fun e=>by cases e;omega),BhaQ _ _ _ om,h6.1.2.1.block x hxB]
    exact o1.1.block x om
  · rw[r8];exact h.row.2.symm
 refine⟨(QO.alloc _).other hB o2,?_,⟨h.row.1,r8⟩,fun y hy=>?_,?_⟩
 · have e1:(rs++[Wait.mk (some ⟨b,na,none⟩) nc r]++[Wait.mk kka kcap l]).length=n+1+1:=by simp[hn]
   have e2:(rs++[Wait.mk (some ⟨b,na,none⟩) nc r]++[Wait.mk kka kcap l]).map Wait.v=(rs++[Wait.mk (some ⟨b,na,none⟩) nc r]).map Wait.v++[.slice kka (foLen l) kcap]:=by rw[List.map_append];rfl
   rw[e1,e2];exact h8
 · rcases List.mem_append.1 hy with hy | hy
   · rcases List.mem_append.1 hy with hy | hy
     · have h1:=h.nodes y (List.mem_append_left _ hy)
       exact⟨h1.1.kept fun x hx=>⟨hx,hkeep x hx⟩,h1.2⟩
     · rw[List.mem_singleton] at hy;subst hy
       exact⟨hr.kept fun x hx=>⟨hx,hkeep x hx⟩,hrc⟩
   · rw[List.mem_singleton] at hy;subst hy
     exact⟨hl.kept fun x hx=>⟨hx,hkeep x hx⟩,hlc⟩
 · have h1:=h.all
   rw[jW] at h1
   rw[jW,jW,←h1]
   simp[vv,List.append_assoc]
theorem vR.zib {b na nc m:Nat}{r:Fo}{top:Wait}{o:Obj}{w6:World}(h:vR w B rowB rc S total v (.slice (some ⟨g,0,none⟩) (n+1) wc) (rs++[top]) bs wr)(hn:n=rs.length)(hm:m=foLen r)
 (h6:qE ((wr.setCell ⟨g,n,none⟩ (.slice (some ⟨b,na,none⟩) m nc)).alloc o) w6):w6.ownsRow w.heap.size 33 1 (.slice (some ⟨g,0,none⟩) (n+1) wc) (n+1) ((rs++[Wait.mk (some ⟨b,na,none⟩) nc r]).map Wait.v):=by
 subst hm
 have hw:=h.wait
 rw[LlaQ,←hn] at hw
 have h1:=((hw.stored n (.slice (some ⟨b,na,none⟩) (foLen r) nc)).1).alloc o
 have e:(List.map Wait.v (rs++[top])).set n (.slice (some ⟨b,na,none⟩) (foLen r) nc)=(rs++[Wait.mk (some ⟨b,na,none⟩) nc r]).map Wait.v:=by
  rw[List.map_append,List.map_append,List.set_append_right _ _ (by simp[hn])]
  simp[hn,Wait.v]
 rw[e] at h1
 exact zR h1 fun x cur hx _=>by rw[h6 x _ hx rfl,hx]
theorem vR.mid {b na nc m:Nat}{top:Wait}{o:Obj}(h:vR w B rowB rc S total v (.slice (some ⟨g,0,none⟩) (n+1) wc) (rs++[top]) bs wr)(hn:n=rs.length)(hB:B≤w.heap.size):qy B v bs ((wr.setCell ⟨g,n,none⟩ (.slice (some ⟨b,na,none⟩) m nc)).alloc o) ((wr.setCell ⟨g,n,none⟩ (.slice (some ⟨b,na,none⟩) m nc)).alloc o):=by
 have hw:=h.wait
 rw[LlaQ,←hn] at hw
 obtain⟨t1,t2,cur,t3⟩:=ZU hw
 have hgs:=lohQ t3
 exact (h.own.other hB (((jU.refl w wr).setCell (p:=⟨g,n,none⟩) t1 t3 rfl _).alloc uc2 o)).here
end
theorem zco:∀{f:Fo},foLen f=0→f= .nil
 | .nil,_=>rfl
 | .node _ _ _ _ _,h=>by simp[foLen] at h
theorem Zk {wr w' :World}{p:Addr}{u a0 a1 a2 a3:Value}(h:qE ((wr.setCell p u).alloc (.cells #[a0,a1,a2,a3] 35)) w'):w'.cell? ⟨wr.heap.size,0,none⟩=some a0∧w'.cell? ⟨wr.heap.size,1,none⟩=some a1∧w'.cell? ⟨wr.heap.size,2,none⟩=some a2∧w'.cell? ⟨wr.heap.size,3,none⟩=some a3:=by
 have h0:=hanQ (wr.setCell p u) (.cells #[a0,a1,a2,a3] 35)
 have e:(wr.setCell p u).heap.size=wr.heap.size:=by simp[World.setCell]
 rw[e] at h0
 have h1:=h _ _ h0 rfl
 exact⟨by rw[corQ _ _ 0 _ _ _ h1];rfl,by rw[corQ _ _ 1 _ _ _ h1];rfl,by rw[corQ _ _ 2 _ _ _ h1];rfl,by rw[corQ _ _ 3 _ _ _ h1];rfl⟩
theorem Tryz.zhk:(Tryz.prog.info? 33).map (fun i=>(i.size,i.bytes,i.zero.map (fun z=>z.cells.size)))=some (1,24,some 1):=by kernel_rfl
theorem zba {P:Program}{e:TypeId}{size bytes:Nat}(h:(P.info? e).map (fun i=>(i.size,i.bytes,i.zero.map (fun z=>z.cells.size)))=some (size,bytes,some size)):
 ∃i z,P.info? e=some i∧i.zero=some z∧i.size=size∧i.bytes=bytes∧z.cells.size=size:=by
 exact se0
theorem YE (w:World)(B:Nat)(v:Value)(bs:List UInt8)(S:Nat→Prop)(nv:Value)(t:Tr)(h:qy B v bs w w)(hS:∀k,S k→k<B)(ht:vL w S nv t)(hl:bs.length+(qA t).length≤1000000000000):
 Calls Tryz.prog 267 #[v,nv] w (Yp B (bs++qA t) w):=by
 obtain⟨ka,cap,rfl,hcap,hk⟩:=ht
 have H:=hH (aN h (aN hS (aN hk (aN hcap hl))))
 obtain⟨len,hlen⟩:∃len,len=foLen t.kids:=⟨_,rfl⟩
 rw[←hlen]
 have HLEN:=hH hlen
 clear h hS hk hl hlen hcap
 go_enter Tryz.func267,Tryz.ntmps267
 go_wp2_with fail
 go_loopg [0,5] (2*zh t.kids+3) (fun gk s0 s5 wr=>∃rows bs',Hid (vR w B (w.heap.size+1) #[.int .i64 t.id,.int .i64 t.kind,.string t.text,.slice ka (foLen t.kids) cap] S (bs++qA t) s0 s5 rows bs' wr∧Zg rows≤2*zh t.kids+3)∧gk=Zg rows)
 case atStart=>exact⟨_,bs,hH ⟨by rw[HLEN.out];exact zep H.out.1 H.out.2.1 H.out.2.2.1 H.out.2.2.2.1 _ _ (NlrQ _),by simp[Zg,zh];omega⟩,by simp[Zg,zh];omega⟩
 case round=>
  obtain⟨rows,bs',hh,hgk⟩:=hrel
  obtain⟨wa,wc,hwv⟩:=zZ hh.out.1.wait
  rcases Jb rows with rfl | ⟨rs,top,rfl⟩
  · subst hwv
    have hend:=hh.out.1.own
    have hall:=hh.out.1.all
    rw[show encR []= [] from rfl,List.append_nil] at hall
    subst hall
    have HE:=hH hend
    clear hh hgk hend H
    simp only[List.length_nil]
    go_wp2_with fail
    go_ret
    exact⟨_,rfl,HE.out⟩
  · obtain⟨n,hn⟩:∃n,n=rs.length:=⟨_,rfl⟩
    have hwv2:u5= .slice wa (n+1) wc:=by rw[hwv,hn];simp
    clear hwv
    have hw0:=hh.out.1.wait
    have hnn:(rs++[top]).length=n+1:=by rw[hn];simp
    rw[hnn,hwv2] at hw0
    obtain⟨g,cap2,e,_⟩:=hw0.form om
    cases e
    have hgc:wr.cell? ⟨g,n,none⟩=some top.v:=yx hw0 rfl n _ (by rw[List.map_append,List.getElem?_append_right ue1];simp[hn])
    have hgf:wr.frozen? ⟨g,n,none⟩=false:=hw0.frozenAt n
    have hwcap:n+1≤wc:=(ZU hw0).2.1
    have hnode:=hh.out.1.nodes top sp1
    have hbound:n+1≤1000000000000:=by
     have h1:=hh.out.2
     have h2:=zev (rs++[top])
     have h3:=H.out.2.2.2.2
     rw[YK] at h3
     omega
    subst hwv2
    have HG:=hH (aN hh.out (aN hgk hn))
    clear hh hgk hw0 hnn hn
    obtain⟨ta,tc,tf⟩:=top
    cases tf with
    | nil=>
      simp only[Wait.v,foLen] at hgc
      clear hnode
      go_wp2_with fail
      have h1:=HG.out.1.2
      rw[qW] at h1
      have h2:=HG.out.2.1
      rw[qW] at h2
      simp only[zh] at h1 h2
      go_roundg (Zg rs)
      case measure=>omega
      case rel=>exact⟨rs,bs',hH ⟨HG.out.1.1.pop HG.out.2.2,by omega⟩,rfl⟩
    | node b0 o0 k l r=>
      obtain⟨⟨b,off,kka,kcap,rfl,hSb,c0,c1,c2,c3,hlc,hl,hr⟩,htc⟩:=hnode
      obtain⟨m,hm⟩:∃m,m=foLen r:=⟨_,rfl⟩
      obtain⟨q,hq⟩:∃q,q=foLen l:=⟨_,rfl⟩
      simp only[Wait.v,foLen] at hgc htc
      rw[←hm] at hgc htc
      rw[←hq] at c3
      have hbs:bs'.length+32+k.2.2.size≤1000000000000:=by
       have h1:=congrArg List.length HG.out.1.1.all
       have h3:=H.out.2.2.2.2
       rw[jW] at h1
       simp only[vv,LlaQ,qI] at h1
       omega
      have HA:Hid (∀na nc:Nat,Calls Tryz.prog 265 #[u0,.int .i64 k.1] ((wr.setCell ⟨g,n,none⟩ (.slice (some ⟨b,na,none⟩) m nc)).alloc (.cells #[.int .i64 k.1,.int .i64 k.2.1,.string k.2.2,.slice kka q kcap] 35)) (Yp B (bs'++zq k.1) ((wr.setCell ⟨g,n,none⟩ (.slice (some ⟨b,na,none⟩) m nc)).alloc (.cells #[.int .i64 k.1,.int .i64 k.2.1,.string k.2.2,.slice kka q kcap] 35)))):=
       hH fun na nc=>yK _ _ B u0 bs' k.1 (HG.out.1.1.mid HG.out.2.2 H.out.1.1.2.2) om
      have HN:=hH (aN hSb (aN hl (aN hr (aN hm (aN hq (aN hlc htc))))))
      obtain⟨i0,z0,hi0,hz0,hz1,hz2,hz3⟩:=zba Tryz.zhk
      have HI:=hH (aN hi0 (aN hz0 (aN hz1 (aN hz2 hz3))))
      have HBS:=hH (aN hbs hbound)
      clear hSb hl hr hm hq hlc hi0 hz0 hz1 hz2 hz3 hbs
      go_wp2_with (first
       | (go_at_call 265;(with_reducible refine (HA.out _ _).mono ?_);clear HA;rintro e w3 ⟨v1,rfl,h1⟩;have d1:=(Zk h1.2).2.1;have HB:=hH (yK w3 _ B v1 _ k.2.1 h1 (by have:=HBS.out.1;simp[zH];omega));clear h1)
       | (go_at_call 265;(with_reducible refine HB.out.mono ?_);clear HB;rintro e w4 ⟨v2,rfl,h1⟩;have d2:=(Zk h1.2).2.2.1;have HC:=hH (YF w4 _ B v2 _ k.2.2 h1 (by have:=HBS.out.1;simp[zH];omega) (by have:=HBS.out.1;omega));clear h1)
       | (go_at_call 268;(with_reducible refine HC.out.mono ?_);clear HC;rintro e w5 ⟨v3,rfl,h1⟩;have d3:=(Zk h1.2).2.2.2;have HD:=hH (yK w5 _ B v3 _ (q:Int) h1 (by have:=HBS.out.1;have e9:k.2.2.data.toList.length=k.2.2.size:=sp1;simp only[LlaQ,zH,e9];omega));clear h1)
       | (go_at_call 265;(with_reducible refine HD.out.mono ?_);clear HD;rintro e w6 ⟨v4,rfl,h1⟩;have d4:=(Zk h1.2).2.2.2;have HE:=hH (aN h1 (HG.out.1.1.zib (r:=r) HG.out.2.2 HN.out.2.2.2.1 h1.2));clear h1)
       | (at_builtin;refine wpList_append_own _ rfl (.tmp 57) (.tmp 60) _ rfl w.heap.size 33 i0 z0 1 24 Tryz.underlying214 HI.out.1 HI.out.2.1 HI.out.2.2.1 HI.out.2.2.2.1 HI.out.2.2.2.2 om (.slice (some ⟨g,0,none⟩) (n+1) wc) (n+1) _ rfl (HE.out.2.alloc _) ⟨w6.heap.size,0,none⟩ 1 1 [.slice kka q kcap] rfl rfl (World.news_of_block (cs:= #[.slice kka q kcap]) (hanQ w6 _)) ud1 ud2 om (by have:=zO HE.out.2 rfl;simp;omega) ?_;intro v8 w8 hown hgrow _;have HF:=hH (aN hown hgrow);clear hown hgrow))
      all_goals
       have h1:=HG.out.1.2
       rw[qW] at h1
       have h2:=HG.out.2.1
       rw[qW] at h2
       simp only[zh] at h1 h2
       have h5:=HE.out.1
       rw[show bs'++zq k.fst++zq k.snd.fst++(zq (k.snd.snd.size:Int)++k.snd.snd.data.toList)++zq (q:Int)=bs'++ZN k q by simp[ZN,List.append_assoc]] at h5
       have h6:=vR.next HG.out.1.1 HG.out.2.2 H.out.1.1.2.2 H.out.2.1 (by first | exact HN.out.2.2.1 | (rw[zco (f:=r) (by have:=HN.out.2.2.2;omega)];exact True.intro)) (by have:=HN.out.2.2.2;omega) HN.out.2.1 HN.out.2.2.2.2.2.1 HN.out.2.2.2.2.1 HN.out.2.2.2.1 h5 HF.out.1 HF.out.2
       go_roundg (Zg rs+(2*zh r+1)+(2*zh l+1))
       case measure=>omega
       case rel=>exact⟨_,_,hH ⟨h6,by rw[qW,qW];simp only;omega⟩,by rw[qW,qW];simp only;omega⟩
end Go.Proofs.YtoidedomenkbpaaGreat
namespace Go.Proofs.YtoidedomenkbpaaGreat
open Go.RowKit
open Extern.Stop (cell)
def zdr (w:World)(bs:List UInt8)(e:Ending)(w' :World):Prop:=∃a n cap,e= .returned (.slice a n cap)∧n=bs.length∧yt w' a bs∧Below w.heap.size w w'
theorem Yp.new {w w' :World}{bs:List UInt8}{e:Ending}(h:Yp w.heap.size bs w e w'):zdr w bs e w':=by
 obtain⟨v,rfl,h⟩:=h
 obtain⟨a,cap,rfl,h2⟩:=h.zfX
 exact⟨a,_,cap,rfl,rfl,h2,h.1.2.1⟩
theorem Zd (w:World)(a:Option Addr)(m cap:Nat)(bs:List UInt8)(n:Int)(hm:m=bs.length)(h:yt w a bs)(hl:bs.length≤1000000000000):
 Calls Tryz.prog 72 #[.slice a m cap,.int .i64 n] w (zdr w (bs++zq n)):=by
 subst hm
 exact (ZC w a cap bs n h hl).mono fun _ _ h=>h.new
theorem zg1 (w:World)(a:Option Addr)(m cap:Nat)(bs:List UInt8)(s:ByteArray)(hm:m=bs.length)(h:yt w a bs)(hl:bs.length+s.size+8≤1000000000000):
 Calls Tryz.prog 117 #[.slice a m cap,.string s] w (zdr w (bs++(zq (s.size:Int)++s.data.toList))):=by
 subst hm
 exact (zbA w a cap bs s h hl).mono fun _ _ h=>h.new
theorem yt.below {w w' :World}{a:Option Addr}{bs:List UInt8}(h:yt w a bs)(hb:Below w.heap.size w w'):yt w' a bs:=⟨h.1,fun ad e j u hj=>by
 have:=h.2 ad e j u hj
 rw[World.cell?_of_block (hb.block _ (block_lt_of_cell this))];exact this⟩
theorem Jv:∀(k:Nat) (f:Fo),k≤foLen f→(vv (zG k f)).length≤(vv f).length
 | 0,_,_=>by simp[zG,vv]
 | k+1,.nil,h=>by simp[foLen] at h
 | k +1,.node b o a l r,h=>by
   have:=Jv k r uc8
   simp only[zG,vv,LlaQ] at this ⊢;omega
theorem Ju:∀(f:Fo) (b o:Nat) (k:Int×Int×ByteArray) (l:Fo),vv (qK f b o k l)=vv f++(ZN k (foLen l)++vv l)
 | .nil,_,_,_,_=>by simp[qK,vv]
 | .node _ _ k' l' r,b,o,k,l=>by simp[qK,vv,Ju r b o k l,List.append_assoc]
theorem vZ (s:ByteArray):s.data.toList.length=s.size:=by simp
def zb3 (w:World)(o:Obj)(pre:List UInt8)(ks:Fo)(len:Nat)(v i:Value)(wr:World):Prop:=
 ∃k:Nat,k≤len∧i= .int .i64 k∧(∃a n cap,v= .slice a n cap∧n=(pre++vv (zG k ks)).length∧yt wr a (pre++vv (zG k ks)))∧Below w.heap.size w wr∧wr.heap[w.heap.size]? =some o
theorem qX {w w' w'' :World}{o:Obj}(h:w'.heap[w.heap.size]? =some o)(hb:Below w'.heap.size w' w''):w''.heap[w.heap.size]? =some o:=(hb.block _ (lohQ h)).trans h
theorem Zb:∀(m:Nat) (w:World) (S:Nat→Prop) (nv:Value) (t:Tr) (a:Option Addr) (n0 cap:Nat) (bs:List UInt8),zh t.kids<m→(∀k,S k→k<w.heap.size)→vL w S nv t→n0=bs.length→yt w a bs→bs.length+(qA t).length≤1000000000000→
 Calls Tryz.prog 74 #[.slice a n0 cap,nv] w (zdr w (bs++qA t)):=by
 intro m
 induction m with
 | zero=>intro w S nv t a n0 cap bs h;omega
 | succ m ih=>
   intro w S nv t a n0 cap bs hm hS hv hn0 hby hl
   obtain⟨ka,kcap,rfl,hkc,hk⟩:=hv
   obtain⟨id,kd,tx,ks⟩:=t
   simp only at hm hkc hk hl
   simp only
   rw[YK] at hl
   simp only[zcQ] at hl
   obtain⟨len,hlen⟩:∃len,len=foLen ks:=⟨_,rfl⟩
   rw[←hlen]
   have hb1:Below w.heap.size w (w.alloc (.cells #[.int .i64 id,.int .i64 kd,.string tx,.slice ka len kcap] 35)):=(BrQ _ _).alloc (NlrQ _) _
   have hlen2:len≤100000000000:=by have:=yV ks;omega
   have HC1:=hH (Zd _ a n0 cap bs id hn0 (hby.below hb1) om)
   have H:=hH (aN hm (aN hS (aN hk (aN hl (aN ih (aN hb1 hlen))))))
   clear hm hS hk hl ih hb1 hkc hby hlen hn0
   go_enter Tryz.func74,Tryz.ntmps74
   go_wp2_with (first
    | (go_at_call 72;(with_reducible refine HC1.out.mono ?_);clear HC1;rintro e w3 ⟨a1,n1,cap1,rfl,hn,h1,h2⟩;have hx:=qX (hanQ w _) h2;have d1:w3.cell? ⟨w.heap.size,1,none⟩=some (.int .i64 kd):=(by rw[corQ _ _ 1 _ _ _ hx];rfl);have HX:=hH (aN hx (H.out.2.2.2.2.2.1.trans (h2.mono H.out.2.2.2.2.2.1.size)));have HC2:=hH (Zd w3 a1 n1 cap1 _ kd hn h1 (by have:=H.out.2.2.2.1;simp only[LlaQ,zH];omega));clear hn h1 h2 hx)
    | (go_at_call 72;(with_reducible refine HC2.out.mono ?_);clear HC2;rintro e w4 ⟨a2,n2,cap2,rfl,hn,h1,h2⟩;have hx:=qX HX.out.1 h2;have d2:w4.cell? ⟨w.heap.size,2,none⟩=some (.string tx):=(by rw[corQ _ _ 2 _ _ _ hx];rfl);have HX2:=hH (aN hx (HX.out.2.trans (h2.mono HX.out.2.size)));have HC3:=hH (zg1 w4 a2 n2 cap2 _ tx hn h1 (by have:=H.out.2.2.2.1;simp only[LlaQ,zH];omega));clear hn h1 h2 hx HX)
    | (go_at_call 117;(with_reducible refine HC3.out.mono ?_);clear HC3;rintro e w5 ⟨a3,n3,cap3,rfl,hn,h1,h2⟩;have hx:=qX HX2.out.1 h2;have d3:w5.cell? ⟨w.heap.size,3,none⟩=some (.slice ka len kcap):=(by rw[corQ _ _ 3 _ _ _ hx];rfl);have HX3:=hH (aN hx (HX2.out.2.trans (h2.mono HX2.out.2.size)));have HC4:=hH (Zd w5 a3 n3 cap3 _ (len:Int) hn h1 (by have:=H.out.2.2.2.1;simp only[LlaQ,zH,vZ];omega));clear hn h1 h2 hx HX2)
    | (go_at_call 72;(with_reducible refine HC4.out.mono ?_);clear HC4;rintro e w6 ⟨a4,n4,cap4,rfl,hn,h1,h2⟩;have hx:=qX HX3.out.1 h2;have HX4:=hH (aN hx (aN (HX3.out.2.trans (h2.mono HX3.out.2.size)) (aN hn h1)));clear hn h1 h2 hx HX3))
   go_loopw [0,5] (fun v i wr=>zb3 w (.cells #[.int .i64 id,.int .i64 kd,.string tx,.slice ka len kcap] 35) (bs++ZN (id,kd,tx) len) ks len v i wr) (fun _ i _=>len - (intOf i).toNat)
   case atStart=>exact⟨0,NzlQ _,rfl,⟨a4,n4,cap4,rfl,by rw[HX4.out.2.2.1];simp[ZN,zG,vv,List.append_assoc],by have h9:=HX4.out.2.2.2;simpa [ZN,zG,vv,List.append_assoc] using h9⟩,HX4.out.2.1,HX4.out.1⟩
   case round=>
    obtain⟨k,hk,rfl,⟨a5,n5,cap5,rfl,hn5,hb5⟩,hbel,hx⟩:=hrel
    have p3:wr.cell? ⟨w.heap.size,3,none⟩=some (.slice ka len kcap):=by rw[corQ _ _ 3 _ _ _ hx];rfl
    have HR:=hH (aN hn5 (aN hb5 (aN hbel hx)))
    clear hn5 hb5 hbel hx
    by_cases hlt:k<len
    · have hk1:zK wr S ks ka:=H.out.2.2.1.kept fun x hx=>⟨hx,HR.out.2.2.1.block x (H.out.2.1 x hx)⟩
      obtain⟨b0,o0,⟨ki,kk,kt⟩,l',r,hd1',b,off,ka1,n1',rfl,hSb,c0,c1,c2,c3,hcp,hl1⟩:=hk1.at k (by rw[←H.out.2.2.2.2.2.2];exact hlt)
      obtain⟨_,_,_,_,_,e1,e2,hsz1,htk⟩:=yL k ks (by rw[←H.out.2.2.2.2.2.2];exact hlt)
      rw[hd1'] at e1;cases e1
      have htk2:vv (zG (k+1) ks)=vv (zG k ks)++(ZN (ki,kk,kt) (foLen l')++vv l'):=by rw[htk,Ju]
      have hbd:(vv (zG (k+1) ks)).length≤32*zh ks+Yx ks:=by rw[←jL];exact Jv _ _ (by have:=H.out.2.2.2.2.2.2;omega)
      have hcall:=H.out.2.2.2.2.1 wr S (.agg #[.int .i64 ki,.int .i64 kk,.string kt,.slice ka1 (foLen l') n1']) ⟨ki,kk,kt,l'⟩ a5 n5 cap5 _ (by have:=H.out.1;simp only;omega) (fun x hx=>nL (H.out.2.1 x hx) HR.out.2.2.1.size) ⟨ka1,n1',rfl,hcp,hl1⟩ HR.out.1 HR.out.2.1 (by
       rw[htk2] at hbd
       have:=H.out.2.2.2.1
       simp only[qA,LlaQ,qI] at hbd ⊢
       omega)
      obtain⟨m1,hm1⟩:∃m,m=foLen l':=⟨_,rfl⟩
      rw[←hm1] at hcall c3
      simp only at c0 c1 c2
      have HC:=hH hcall
      have HTK:=hH htk2
      have hkl:(k:Int)<(len:Int):=by omega
      clear hk1 hd1' hcall hm1 htk htk2 hl1 hsz1 hSb e2 hcp hbd
      go_wp2_with fail
      refine HC.out.mono ?_
      rintro e w7 ⟨a6,n6,cap6,rfl,hn6,h6,hb6⟩
      have HE:=hH (aN hn6 (aN h6 hb6))
      clear hn6 h6 hb6
      go_wp2_with fail
      have e9:bs++ZN (id,kd,tx) len++vv (zG k ks)++qA ⟨ki,kk,kt,l'⟩=bs++ZN (id,kd,tx) len++vv (zG (k+1) ks):=by rw[HTK.out];simp[qA,List.append_assoc]
      have h7:=HE.out
      rw[e9] at h7
      exact⟨⟨k+1,by omega,by go_num,⟨a6,n6,cap6,rfl,h7.1,h7.2.1⟩,HR.out.2.2.1.trans (h7.2.2.mono HR.out.2.2.1.size),qX HR.out.2.2.2 h7.2.2⟩,by simp[intOf];omega⟩
    · have hkk:k=len:=by omega
      have HKK:=hH hkk
      have hkl:¬(k:Int)<(len:Int):=by omega
      clear hkk
      go_wp2_with fail
      go_ret
      have h8:=HR.out
      rw[qL k ks (by rw[HKK.out,H.out.2.2.2.2.2.2];exact NlrQ _)] at h8
      refine⟨a5,n5,cap5,rfl,?_,?_,h8.2.2.1⟩
      · rw[h8.1];simp[qA,H.out.2.2.2.2.2.2,List.append_assoc]
      · have h9:=h8.2.1
        rw[H.out.2.2.2.2.2.2] at h9
        simpa [qA,List.append_assoc] using h9
structure Stp where
 op:Int
 id:Int
 parent:Int
 place:Int
 text:ByteArray
 sub:Tr
def zhH (w:World)(S:Nat→Prop)(v:Value)(s:Stp):Prop:=
 ∃ka cap,v= .agg #[.int .i8 s.op,.int .i64 s.id,.int .i64 s.parent,.int .i64 s.place,.string s.text,.int .i64 s.sub.id,.int .i64 s.sub.kind,.string s.sub.text,.slice ka (foLen s.sub.kids) cap]∧foLen s.sub.kids≤cap∧zK w S s.sub.kids ka
def Zj (w:World)(S:Nat→Prop)(a:Option Addr)(l:List Stp):Prop:=
 0 <l.length→∃b off,a=some ⟨b,off,none⟩∧S b∧∀k x,l[k]? =some x→∃ka cap,w.cell? ⟨b,off+k*9,none⟩=some (.int .i8 x.op)∧w.cell? ⟨b,off+k*9+1,none⟩=some (.int .i64 x.id)∧w.cell? ⟨b,off+k*9+2,none⟩=some (.int .i64 x.parent)∧
  w.cell? ⟨b,off+k*9+3,none⟩=some (.int .i64 x.place)∧w.cell? ⟨b,off+k*9+4,none⟩=some (.string x.text)∧w.cell? ⟨b,off+k*9+5,none⟩=some (.int .i64 x.sub.id)∧w.cell? ⟨b,off+k*9+6,none⟩=some (.int .i64 x.sub.kind)∧
  w.cell? ⟨b,off+k*9+7,none⟩=some (.string x.sub.text)∧w.cell? ⟨b,off+k*9+8,none⟩=some (.slice ka (foLen x.sub.kids) cap)∧foLen x.sub.kids≤cap∧zK w S x.sub.kids ka
theorem Zj.kept {w w' :World}{S S' :Nat→Prop}{a:Option Addr}{l:List Stp}(h:Zj w S a l)(hS:∀k,S k→S' k∧w'.heap[k]? =w.heap[k]?):Zj w' S' a l:=fun h0=>by
 obtain⟨b,off,e,hb,hc⟩:=h h0
 refine⟨b,off,e,(hS b hb).1,fun k x hx=>?_⟩
 obtain⟨ka,cap,c0,c1,c2,c3,c4,c5,c6,c7,c8,hp,hf⟩:=hc k x hx
 have hh:=(hS b hb).2
 exact⟨ka,cap,(World.cell?_of_block hh).trans c0,(World.cell?_of_block hh).trans c1,(World.cell?_of_block hh).trans c2,(World.cell?_of_block hh).trans c3,(World.cell?_of_block hh).trans c4,(World.cell?_of_block hh).trans c5,(World.cell?_of_block hh).trans c6,(World.cell?_of_block hh).trans c7,(World.cell?_of_block hh).trans c8,hp,hf.kept hS⟩
def kX (n:Int):UInt8:=UInt8.ofNat (n % 256).toNat
theorem YQ (n:Int):cell (kX n)= .int .u8 (n % 256):=by
 have h0:0≤n % 256:=Int.emod_nonneg _ ue3
 have h1:n % 256<256:=Int.emod_lt_of_pos _ ue3
 have e:(kX n).toNat=(n % 256).toNat:=by
  unfold kX
  rw[UInt8.toNat_ofNat'];omega
 show Value.int .u8 ((kX n).toNat:Int)=_
 rw[e,Int.toNat_of_nonneg h0]
def encS (s:Stp):List UInt8:=[kX s.op]++zq s.id++zq s.parent++zq s.place++(zq (s.text.size:Int)++s.text.data.toList)++qA s.sub
theorem kT (s:Stp):(encS s).length=33+s.text.size+(qA s.sub).length:=by
 simp only[encS,LlaQ,zH,vZ,List.length_singleton];omega
theorem qy.more {B:Nat}{v:Value}{bs:List UInt8}{W0 w:World}{x:UInt8}{c:Int}(hc:cell x= .int .u8 c)(h:vw B v (bs.length+1) (bs.map cell++[.int .u8 c]) W0 w):qy B v (bs++[x]) W0 w:=by
 show vw B v (bs++[x]).length ((bs++[x]).map cell) W0 w
 rw[LlaQ,List.map_append,List.map_singleton,hc];exact h
theorem Yr {w w' :World}{a0 a1 a2 a3 a4 a5 a6 a7 a8:Value}{t:TypeId}(h:qE (w.alloc (.cells #[a0,a1,a2,a3,a4,a5,a6,a7,a8] t)) w')(ht:(t == 5)=false):(w'.cell? ⟨w.heap.size,0,none⟩=some a0∧w'.cell? ⟨w.heap.size,1,none⟩=some a1∧w'.cell? ⟨w.heap.size,2,none⟩=some a2∧w'.cell? ⟨w.heap.size,3,none⟩=some a3∧w'.cell? ⟨w.heap.size,4,none⟩=some a4)∧w'.cell? ⟨w.heap.size,5,none⟩=some a5∧w'.cell? ⟨w.heap.size,6,none⟩=some a6∧w'.cell? ⟨w.heap.size,7,none⟩=some a7∧w'.cell? ⟨w.heap.size,8,none⟩=some a8:=by
 have h1:=h _ _ (hanQ w _) (by simp[JC,ht])
 exact⟨⟨by rw[corQ _ _ 0 _ _ _ h1];rfl,by rw[corQ _ _ 1 _ _ _ h1];rfl,by rw[corQ _ _ 2 _ _ _ h1];rfl,by rw[corQ _ _ 3 _ _ _ h1];rfl,by rw[corQ _ _ 4 _ _ _ h1];rfl⟩,by rw[corQ _ _ 5 _ _ _ h1];rfl,by rw[corQ _ _ 6 _ _ _ h1];rfl,by rw[corQ _ _ 7 _ _ _ h1];rfl,by rw[corQ _ _ 8 _ _ _ h1];rfl⟩
theorem zaC (w:World)(B:Nat)(v:Value)(bs:List UInt8)(S:Nat→Prop)(sv:Value)(s:Stp)(h:qy B v bs w w)(hS:∀k,S k→k<B)(hs:zhH w S sv s)(hl:bs.length+(encS s).length≤1000000000000):
 Calls Tryz.prog 266 #[v,sv] w (Yp B (bs++encS s) w):=by
 obtain⟨ka,cap,rfl,hcap,hk⟩:=hs
 rw[kT] at hl
 obtain⟨i0,hi,hz,hsz,hby⟩:=ZR Tryz.QF
 have HI:=hH (aN hi (aN hz (aN hsz hby)))
 obtain⟨len,hlen⟩:∃len,len=foLen s.sub.kids:=⟨_,rfl⟩
 rw[←hlen]
 have H:=hH (aN h (aN hS (aN hk (aN hl (aN hcap hlen)))))
 clear h hS hk hl hcap hlen hi hz hsz hby
 go_enter Tryz.func266,Tryz.ntmps266
 go_wp2_with (first
  | (at_builtin;refine jb rfl (.tmp 5) (.tmp 9) 45 rfl B i0 Tryz.underlying45 HI.out.1 HI.out.2.1 HI.out.2.2.1 HI.out.2.2.2 _ bs.length (bs.map cell) rfl _ _ _ (H.out.1.alloc _).here (w.heap.size+1) sp1 rfl (by have:=H.out.2.2.2.1;omega) ?_;intro v0 w1 ho;have h1:=qy.more (YQ _) ho;have d1:=(Yr h1.2 rfl).1.2.1;have HA:=hH (yK w1 _ B v0 _ s.id h1 (by have:=H.out.2.2.2.1;simp only[LlaQ,List.length_singleton];omega));clear ho h1)
  | (go_at_call 265;(with_reducible refine HA.out.mono ?_);clear HA;rintro e w2 ⟨v1,rfl,h1⟩;have d2:=(Yr h1.2 rfl).1.2.2.1;have HB:=hH (yK w2 _ B v1 _ s.parent h1 ub2);clear h1)
  | (go_at_call 265;(with_reducible refine HB.out.mono ?_);clear HB;rintro e w3 ⟨v2,rfl,h1⟩;have d3:=(Yr h1.2 rfl).1.2.2.2.1;have HC:=hH (yK w3 _ B v2 _ s.place h1 ub2);clear h1)
  | (go_at_call 265;(with_reducible refine HC.out.mono ?_);clear HC;rintro e w4 ⟨v3,rfl,h1⟩;have d4:=(Yr h1.2 rfl).1.2.2.2.2;have HD:=hH (YF w4 _ B v3 _ s.text h1 ub2 (by have:=H.out.2.2.2.1;omega));clear h1)
  | (go_at_call 268;(with_reducible refine HD.out.mono ?_);clear HD;rintro e w5 ⟨v4,rfl,h1⟩;obtain⟨d5,d6,d7,d8⟩:=(Yr h1.2 rfl).2;have HE:=hH (aN h1 (YE w5 B v4 _ S (.agg #[.int .i64 s.sub.id,.int .i64 s.sub.kind,.string s.sub.text,.slice ka len cap]) s.sub h1.here H.out.2.1 ⟨ka,cap,by rw[H.out.2.2.2.2.2],H.out.2.2.2.2.1,H.out.2.2.1.kept fun x hx=>⟨hx,(h1.1.2.1.block x (H.out.2.1 x hx)).trans (BhaQ _ _ _ (nL (H.out.2.1 x hx) H.out.1.1.2.2))⟩⟩ (by have:=H.out.2.2.2.1;simp only[LlaQ,List.length_singleton,zH,vZ];omega)));clear h1)
  | (go_at_call 267;(with_reducible refine HE.out.2.mono ?_);rintro e w6 ⟨v5,rfl,h1⟩;have HF:=hH h1;clear h1))
 go_ret
 refine⟨v5,rfl,?_⟩
 have h2:=(H.out.1.alloc (.cells #[.int .i8 s.op,.int .i64 s.id,.int .i64 s.parent,.int .i64 s.place,.string s.text,.int .i64 s.sub.id,.int .i64 s.sub.kind,.string s.sub.text,.slice ka len cap] 41)).since (HE.out.1.since HF.out)
 have e9:bs++encS s=bs++[kX s.op]++zq s.id++zq s.parent++zq s.place++(zq (s.text.size:Int)++s.text.data.toList)++qA s.sub:=by simp[encS,List.append_assoc]
 rw[e9];exact h2
end Go.Proofs.YtoidedomenkbpaaGreat
