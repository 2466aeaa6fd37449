/-
  .
-/
import Derived.Test.YtoidedomenkbpaaGreatCRefNodeQs
set_option maxRecDepth 100000
set_option maxHeartbeats 40000000
namespace Go.Proofs.YtoidedomenkbpaaGreat
open Go.RowKit
open Extern.Stop (cell)
def ZC (w wr wr' :World):Prop:=Below w.heap.size wr wr'∧∀(k:Nat) (o:Obj),wr.heap[k]? =some o→zbq o=false→wr'.heap[k]? =some o
theorem jQ.other {B:Nat}{v:Value}{n:Nat}{xs:List Value}{w wr wr' :World}(h:jQ B v n xs w wr)(hB:B≤w.heap.size)(ho:ZC w wr wr'):jQ B v n xs w wr':=by
 obtain⟨⟨⟨h1,h2⟩,h3,h4⟩,h5⟩:=h
 refine⟨⟨⟨h1,?_⟩,h3.trans (ho.1.mono hB),NltQ h4 ho.1.size⟩,fun k o hk hn=>?_⟩
 · rcases h2 with h2 | ⟨g,cap,cur,fz,hv,hg,hh,r⟩
   · exact Or.inl h2
   · exact Or.inr ⟨g,cap,cur,fz,hv,hg,ho.2 g _ hh (by simp[zbq]),r⟩
 · rw[ho.1.block k (lohQ hk)];exact h5 k o hk hn
theorem ZC.refl (w wr:World):ZC w wr wr:=⟨BrQ _ _,fun _ _ h _=>h⟩
theorem ZC.alloc {w a b:World}(h:ZC w a b)(hs:w.heap.size≤b.heap.size)(o:Obj):ZC w a (b.alloc o):=⟨h.1.alloc hs o,fun i x hi hx=>by
 have:=h.2 i x hi hx
 rw[BhaQ _ _ _ (lohQ this)];exact this⟩
theorem ZC.setCell {w a b:World}(h:ZC w a b){p:Addr}(hp:w.heap.size≤p.block){o:Obj}(hb:b.heap[p.block]? =some o)(hn:zbq o=true)(u:Value):ZC w a (b.setCell p u):=⟨h.1.setCell hp u,fun i x hi hx=>by
 have:=h.2 i x hi hx
 rw[BhsQ _ _ _ _ (fun e=>by rw[e,hb] at this;cases this;rw[hn] at hx;cases hx)];exact this⟩
structure jP (w:World) (B rowB:Nat) (rc:Array Value) (S:Nat→Prop) (total:List UInt8) (v wv:Value) (rows:List Wait) (bs:List UInt8) (wr:World):Prop where
 own:kK B v bs w wr
 wait:wr.ownsRow w.heap.size 33 1 wv rows.length (rows.map Wait.v)
 row:w.heap.size≤rowB∧wr.heap[rowB]? =some (.cells rc 35 (0,0))
 nodes:∀r∈rows,zQ wr (fun k=>S k∨k=rowB) r.f r.a∧foLen r.f≤r.cap
 all:bs++encR rows=total
theorem zgo {w:World}{B:Nat}{v:Value}{bs:List UInt8}{S:Nat→Prop}{t:Tr}{ka:Option Addr}{cap:Nat}(h:kK B v bs w w)(hS:∀k,S k→k<B)(hk:zQ w S t.kids ka)(hcap:foLen t.kids≤cap)(o:Obj)(c:Nat)(hc:1≤c):
 jP w B (w.heap.size+1) #[.int .i64 t.id,.int .i64 t.kind,.string t.text,.slice ka (foLen t.kids) cap] S (bs++qa t) v (.slice (some ⟨w.heap.size+1+1,0,none⟩) 1 1) [⟨some ⟨w.heap.size+1,0,none⟩,c,.node 0 0 (t.id,t.kind,t.text) t.kids .nil⟩] bs
  (((w.alloc o).alloc (.cells #[.int .i64 t.id,.int .i64 t.kind,.string t.text,.slice ka (foLen t.kids) cap] 35)).alloc (.cells #[.slice (some ⟨w.heap.size+1,0,none⟩) 1 c] 33)):=by
 have hB:B≤w.heap.size:=h.1.2.2
 have hrow:(((w.alloc o).alloc (.cells #[.int .i64 t.id,.int .i64 t.kind,.string t.text,.slice ka (foLen t.kids) cap] 35)).alloc (.cells #[.slice (some ⟨w.heap.size+1,0,none⟩) 1 c] 33)).heap[w.heap.size+1]? =some (.cells #[.int .i64 t.id,.int .i64 t.kind,.string t.text,.slice ka (foLen t.kids) cap] 35 (0,0)):=by
  rw[BhaQ _ _ _ sp];exact heap_alloc2_new w _ _
 refine⟨((h.alloc _).alloc _).alloc _,?_,⟨by omega,hrow⟩,fun r hr=>?_,?_⟩
 · have hlit:=World.ownsRow_lit (base:=w.heap.size) (size:=1) (e:=33) ((w.alloc o).alloc (.cells #[.int .i64 t.id,.int .i64 t.kind,.string t.text,.slice ka (foLen t.kids) cap] 35)) #[.slice (some ⟨w.heap.size+1,0,none⟩) 1 c] 1 ud8 ud1 rfl
   rw[WsaQ,WsaQ] at hlit
   exact hlit
 · rw[List.mem_singleton] at hr
   subst hr
   refine⟨⟨w.heap.size+1,0,ka,cap,rfl,Or.inr rfl,by rw[corQ _ _ 0 _ _ _ hrow];rfl,by rw[corQ _ _ 1 _ _ _ hrow];rfl,by rw[corQ _ _ 2 _ _ _ hrow];rfl,by rw[corQ _ _ 3 _ _ _ hrow];rfl,hcap,hk.kept (fun k hk=>⟨Or.inl hk,?_⟩),True.intro⟩,by simpa [foLen] using hc⟩
   have:=hS k hk
   rw[BhaQ _ _ _ ud8,BhaQ _ _ _ ud8,BhaQ _ _ _ om1]
 · show bs++(ZX (.node 0 0 (t.id,t.kind,t.text) t.kids .nil)++[])=bs++qa t
   simp[ZX,qa]
theorem zhl {w:World}{B g n cap:Nat}{e:TypeId}{xs:List Value}{u:Value}(h:w.ownsRow B e 1 (.slice (some ⟨g,0,none⟩) (n+1) cap) (n+1) (xs++[u]))(hn:n=xs.length):w.ownsRow B e 1 (.slice (some ⟨g,0,none⟩) n cap) n xs:=by
 exact sd4
theorem Y8 {w:World}{B g n cap:Nat}{e:TypeId}{size:Nat}{xs:List Value}(h:w.ownsRow B e size (.slice (some ⟨g,0,none⟩) n cap) n xs):B≤g∧n≤cap∧∃cur,w.heap[g]? =some (.cells cur e (0,0)):=by
 rcases h.2 with ⟨hv,_⟩ | ⟨g',cap',cur,hv,hB,hh,h3,_⟩
 · cases hv
 · cases hv;exact⟨hB,h3,cur,hh⟩
section
variable {w wr:World} {B rowB:Nat} {rc:Array Value} {S:Nat→Prop} {total:List UInt8} {v:Value} {rs:List Wait} {bs:List UInt8} {g n wc:Nat}
theorem jP.pop {ta:Option Addr}{tc:Nat}(h:jP w B rowB rc S total v (.slice (some ⟨g,0,none⟩) (n+1) wc) (rs++[Wait.mk ta tc .nil]) bs wr)(hn:n=rs.length):jP w B rowB rc S total v (.slice (some ⟨g,0,none⟩) n wc) rs bs wr:=by
 have hw:=h.wait
 rw[List.map_append,LlaQ,←hn] at hw
 refine⟨h.own,?_,h.row,fun r hr=>h.nodes r (List.mem_append_left _ hr),by have:=h.all;rw[ZG] at this;exact this⟩
 rw[←hn]
 exact zhl hw (by simp[hn])
theorem jP.next {b off na nc tc q kcap m:Nat}{kka:Option Addr}{k:Int×Int×ByteArray}{b0 o0:Nat}{l r:Fo}{o:Obj}{w6 w8:World}{v4 wv8:Value}(h:jP w B rowB rc S total v (.slice (some ⟨g,0,none⟩) (n+1) wc) (rs++[Wait.mk (some ⟨b,off,none⟩) tc (.node b0 o0 k l r)]) bs wr)(hn:n=rs.length)(hB:B≤w.heap.size)(hS:∀k,S k→k<B)
 (hr:zQ wr (fun k=>S k∨k=rowB) r (some ⟨b,na,none⟩)) (hrc:foLen r≤nc) (hl:zQ wr (fun k=>S k∨k=rowB) l kka) (hlc:foLen l≤kcap) (hq:q=foLen l) (hm:m=foLen r)
 (h6:kK B v4 (bs++zaQ k q) ((wr.setCell ⟨g,n,none⟩ (.slice (some ⟨b,na,none⟩) m nc)).alloc o) w6)
 (h8:w8.ownsRow w.heap.size 33 1 wv8 (n+1+1) ((rs++[Wait.mk (some ⟨b,na,none⟩) nc r]).map Wait.v++[.slice kka q kcap])) (hg:(w6.alloc (.cells #[.slice kka q kcap] 33)).grownBy w8 (some g)):
 jP w B rowB rc S total v4 wv8 (rs++[Wait.mk (some ⟨b,na,none⟩) nc r]++[Wait.mk kka kcap l]) (bs++zaQ k q) w8:=by
 subst hq
 subst hm
 have hw:=h.wait
 rw[LlaQ,←hn] at hw
 obtain⟨t1,t2,cur,t3⟩:=Y8 hw
 have hgs:=lohQ t3
 have o1:ZC w wr ((wr.setCell ⟨g,n,none⟩ (.slice (some ⟨b,na,none⟩) (foLen r) nc)).alloc o):=((ZC.refl w wr).setCell (p:=⟨g,n,none⟩) t1 t3 rfl _).alloc uc7 o
 have qZ:=h.own.other hB o1
 have qR:=qZ.since h6
 have g1:((wr.setCell ⟨g,n,none⟩ (.slice (some ⟨b,na,none⟩) (foLen r) nc)).alloc o).heap[g]? =some (.cells (cur.setIfInBounds n (.slice (some ⟨b,na,none⟩) (foLen r) nc)) 33 (0,0)):=by
  rw[BhaQ _ _ _ uc7];exact hssQ wr g n _ _ _ t3
 have g6:=h6.2 g _ g1 rfl
 have hgs6:=lohQ g6
 have g7:(w6.alloc (.cells #[.slice kka (foLen l) kcap] 33)).heap[g]? =_:=(BhaQ w6 _ _ hgs6).trans g6
 have o2:ZC w (w6.alloc (.cells #[.slice kka (foLen l) kcap] 33)) w8:=⟨⟨hg.os,hg.tape,hg.output,hg.size,fun x hx=>hg.block x (by have:=qR.1.2.1;have h3:=lohQ g6;simp;omega) (fun e=>by cases e;omega)⟩,fun x ob hx hu=>by
  rw[hg.block x (lohQ hx) (fun e=>by cases e;rw[g7] at hx;cases hx;cases hu)];exact hx⟩
 have hrg:rowB≠g:=fun e=>by
  have h1:=h.row.2
  rw[e,t3] at h1;cases h1
 have r1:((wr.setCell ⟨g,n,none⟩ (.slice (some ⟨b,na,none⟩) (foLen r) nc)).alloc o).heap[rowB]? =some (.cells rc 35 (0,0)):=by
  have hlt:=lohQ h.row.2
  rw[BhaQ _ _ _ uc7,BhsQ _ _ _ _ hrg];exact h.row.2
 have r6:=h6.2 rowB _ r1 rfl
 have r8:w8.heap[rowB]? =some (.cells rc 35 (0,0)):=by
  have hlt:=lohQ r6
  rw[hg.block rowB ud8 (fun e=>by cases e;exact hrg rfl),BhaQ _ _ _ hlt];exact r6
 have hsz6:w.heap.size≤w6.heap.size:=by have:=h.row.1;have:=lohQ r6;omega
 have hkeep:∀x,(S x∨x=rowB)→w8.heap[x]? =wr.heap[x]?:=fun x hx=>by
  rcases hx with hx | rfl
  · have hxB:=hS x hx
    rw[hg.block x ud8 (fun e=>by cases e;omega),BhaQ _ _ _ om1,h6.1.2.1.block x hxB]
    exact o1.1.block x om1
  · rw[r8];exact h.row.2.symm
 refine⟨(qR.alloc _).other hB o2,?_,⟨h.row.1,r8⟩,fun y hy=>?_,?_⟩
 · have e1:(rs++[Wait.mk (some ⟨b,na,none⟩) nc r]++[Wait.mk kka kcap l]).length=n+1+1:=by simp[hn]
   have e2:(rs++[Wait.mk (some ⟨b,na,none⟩) nc r]++[Wait.mk kka kcap l]).map Wait.v=(rs++[Wait.mk (some ⟨b,na,none⟩) nc r]).map Wait.v++[.slice kka (foLen l) kcap]:=by rw[List.map_append];rfl
   rw[e1,e2];exact h8
 · rcases List.mem_append.1 hy with hy | hy
   · rcases List.mem_append.1 hy with hy | hy
     · have h1:=h.nodes y (List.mem_append_left _ hy)
       exact⟨h1.1.kept fun x hx=>⟨hx,hkeep x hx⟩,h1.2⟩
     · rw[List.mem_singleton] at hy;subst hy
       exact⟨hr.kept fun x hx=>⟨hx,hkeep x hx⟩,hrc⟩
   · rw[List.mem_singleton] at hy;subst hy
     exact⟨hl.kept fun x hx=>⟨hx,hkeep x hx⟩,hlc⟩
 · have h1:=h.all
   rw[ZG] at h1
   rw[ZG,ZG,←h1]
   simp[ZX,List.append_assoc]
theorem jP.zlj {b na nc m:Nat}{r:Fo}{top:Wait}{o:Obj}{w6:World}(h:jP w B rowB rc S total v (.slice (some ⟨g,0,none⟩) (n+1) wc) (rs++[top]) bs wr)(hn:n=rs.length)(hm:m=foLen r)
 (h6:vO ((wr.setCell ⟨g,n,none⟩ (.slice (some ⟨b,na,none⟩) m nc)).alloc o) w6):w6.ownsRow w.heap.size 33 1 (.slice (some ⟨g,0,none⟩) (n+1) wc) (n+1) ((rs++[Wait.mk (some ⟨b,na,none⟩) nc r]).map Wait.v):=by
 subst hm
 have hw:=h.wait
 rw[LlaQ,←hn] at hw
 have h1:=((hw.stored n (.slice (some ⟨b,na,none⟩) (foLen r) nc)).1).alloc o
 have e:(List.map Wait.v (rs++[top])).set n (.slice (some ⟨b,na,none⟩) (foLen r) nc)=(rs++[Wait.mk (some ⟨b,na,none⟩) nc r]).map Wait.v:=by
  rw[List.map_append,List.map_append,List.set_append_right _ _ (by simp[hn])]
  simp[hn,Wait.v]
 rw[e] at h1
 exact yo h1 fun x cur hx _=>by rw[h6 x _ hx rfl,hx]
theorem jP.mid {b na nc m:Nat}{top:Wait}{o:Obj}(h:jP w B rowB rc S total v (.slice (some ⟨g,0,none⟩) (n+1) wc) (rs++[top]) bs wr)(hn:n=rs.length)(hB:B≤w.heap.size):kK B v bs ((wr.setCell ⟨g,n,none⟩ (.slice (some ⟨b,na,none⟩) m nc)).alloc o) ((wr.setCell ⟨g,n,none⟩ (.slice (some ⟨b,na,none⟩) m nc)).alloc o):=by
 have hw:=h.wait
 rw[LlaQ,←hn] at hw
 obtain⟨t1,t2,cur,t3⟩:=Y8 hw
 have hgs:=lohQ t3
 exact (h.own.other hB (((ZC.refl w wr).setCell (p:=⟨g,n,none⟩) t1 t3 rfl _).alloc uc7 o)).here
end
theorem zek:∀{f:Fo},foLen f=0→f= .nil
 | .nil,_=>rfl
 | .node _ _ _ _ _,h=>by simp[foLen] at h
theorem Yz {wr w' :World}{p:Addr}{u a0 a1 a2 a3:Value}(h:vO ((wr.setCell p u).alloc (.cells #[a0,a1,a2,a3] 35)) w'):w'.cell? ⟨wr.heap.size,0,none⟩=some a0∧w'.cell? ⟨wr.heap.size,1,none⟩=some a1∧w'.cell? ⟨wr.heap.size,2,none⟩=some a2∧w'.cell? ⟨wr.heap.size,3,none⟩=some a3:=by
 have h0:=hanQ (wr.setCell p u) (.cells #[a0,a1,a2,a3] 35)
 have e:(wr.setCell p u).heap.size=wr.heap.size:=by simp[World.setCell]
 rw[e] at h0
 have h1:=h _ _ h0 rfl
 exact⟨by rw[corQ _ _ 0 _ _ _ h1];rfl,by rw[corQ _ _ 1 _ _ _ h1];rfl,by rw[corQ _ _ 2 _ _ _ h1];rfl,by rw[corQ _ _ 3 _ _ _ h1];rfl⟩
theorem Tryz.zj3:(Tryz.prog.info? 33).map (fun i=>(i.size,i.bytes,i.zero.map (fun z=>z.cells.size)))=some (1,24,some 1):=by kernel_rfl
theorem zc8 {P:Program}{e:TypeId}{size bytes:Nat}(h:(P.info? e).map (fun i=>(i.size,i.bytes,i.zero.map (fun z=>z.cells.size)))=some (size,bytes,some size)):
 ∃i z,P.info? e=some i∧i.zero=some z∧i.size=size∧i.bytes=bytes∧z.cells.size=size:=by
 exact sf2
theorem Jf (w:World)(B:Nat)(v:Value)(bs:List UInt8)(S:Nat→Prop)(nv:Value)(t:Tr)(h:kK B v bs w w)(hS:∀k,S k→k<B)(ht:kT w S nv t)(hl:bs.length+(qa t).length≤1000000000000):
 Calls Tryz.prog 267 #[v,nv] w (zbU B (bs++qa t) w):=by
 obtain⟨ka,cap,rfl,hcap,hk⟩:=ht
 have H:=hH (aN h (aN hS (aN hk (aN hcap hl))))
 obtain⟨len,hlen⟩:∃len,len=foLen t.kids:=⟨_,rfl⟩
 rw[←hlen]
 have HLEN:=hH hlen
 clear h hS hk hl hlen hcap
 go_enter Tryz.func267,Tryz.ntmps267
 go_wp2_with fail
 go_loopg [0,5] (2*zh t.kids+3) (fun gk s0 s5 wr=>∃rows bs',Hid (jP w B (w.heap.size+1) #[.int .i64 t.id,.int .i64 t.kind,.string t.text,.slice ka (foLen t.kids) cap] S (bs++qa t) s0 s5 rows bs' wr∧Yv rows≤2*zh t.kids+3)∧gk=Yv rows)
 case atStart=>exact⟨_,bs,hH ⟨by rw[HLEN.out];exact zgo H.out.1 H.out.2.1 H.out.2.2.1 H.out.2.2.2.1 _ _ (NlrQ _),by simp[Yv,zh];omega⟩,by simp[Yv,zh];omega⟩
 case round=>
  obtain⟨rows,bs',hh,hgk⟩:=hrel
  obtain⟨wa,wc,hwv⟩:=yE hh.out.1.wait
  rcases zaS rows with rfl | ⟨rs,top,rfl⟩
  · subst hwv
    have hend:=hh.out.1.own
    have hall:=hh.out.1.all
    rw[show encR []= [] from rfl,List.append_nil] at hall
    subst hall
    have HE:=hH hend
    clear hh hgk hend H
    simp only[List.length_nil]
    go_wp2_with fail
    go_ret
    exact⟨_,rfl,HE.out⟩
  · obtain⟨n,hn⟩:∃n,n=rs.length:=⟨_,rfl⟩
    have hwv2:u5= .slice wa (n+1) wc:=by rw[hwv,hn];simp
    clear hwv
    have hw0:=hh.out.1.wait
    have hnn:(rs++[top]).length=n+1:=by rw[hn];simp
    rw[hnn,hwv2] at hw0
    obtain⟨g,cap2,e,_⟩:=hw0.form om1
    cases e
    have hgc:wr.cell? ⟨g,n,none⟩=some top.v:=yH hw0 rfl n _ (by rw[List.map_append,List.getElem?_append_right ud8];simp[hn])
    have hgf:wr.frozen? ⟨g,n,none⟩=false:=hw0.frozenAt n
    have hwcap:n+1≤wc:=(Y8 hw0).2.1
    have hnode:=hh.out.1.nodes top sp
    have hbound:n+1≤1000000000000:=by
     have h1:=hh.out.2
     have h2:=zgz (rs++[top])
     have h3:=H.out.2.2.2.2
     rw[Jk] at h3
     omega
    subst hwv2
    have HG:=hH (aN hh.out (aN hgk hn))
    clear hh hgk hw0 hnn hn
    obtain⟨ta,tc,tf⟩:=top
    cases tf with
    | nil=>
      simp only[Wait.v,foLen] at hgc
      clear hnode
      go_wp2_with fail
      have h1:=HG.out.1.2
      rw[vU] at h1
      have h2:=HG.out.2.1
      rw[vU] at h2
      simp only[zh] at h1 h2
      go_roundg (Yv rs)
      case measure=>omega
      case rel=>exact⟨rs,bs',hH ⟨HG.out.1.1.pop HG.out.2.2,by omega⟩,rfl⟩
    | node b0 o0 k l r=>
      obtain⟨⟨b,off,kka,kcap,rfl,hSb,c0,c1,c2,c3,hlc,hl,hr⟩,htc⟩:=hnode
      obtain⟨m,hm⟩:∃m,m=foLen r:=⟨_,rfl⟩
      obtain⟨q,hq⟩:∃q,q=foLen l:=⟨_,rfl⟩
      simp only[Wait.v,foLen] at hgc htc
      rw[←hm] at hgc htc
      rw[←hq] at c3
      have hbs:bs'.length+32+k.2.2.size≤1000000000000:=by
       have h1:=congrArg List.length HG.out.1.1.all
       have h3:=H.out.2.2.2.2
       rw[ZG] at h1
       simp only[ZX,LlaQ,qX] at h1
       omega
      have HA:Hid (∀na nc:Nat,Calls Tryz.prog 265 #[u0,.int .i64 k.1] ((wr.setCell ⟨g,n,none⟩ (.slice (some ⟨b,na,none⟩) m nc)).alloc (.cells #[.int .i64 k.1,.int .i64 k.2.1,.string k.2.2,.slice kka q kcap] 35)) (zbU B (bs'++zq k.1) ((wr.setCell ⟨g,n,none⟩ (.slice (some ⟨b,na,none⟩) m nc)).alloc (.cells #[.int .i64 k.1,.int .i64 k.2.1,.string k.2.2,.slice kka q kcap] 35)))):=
       hH fun na nc=>yZ _ _ B u0 bs' k.1 (HG.out.1.1.mid HG.out.2.2 H.out.1.1.2.2) om1
      have HN:=hH (aN hSb (aN hl (aN hr (aN hm (aN hq (aN hlc htc))))))
      obtain⟨i0,z0,hi0,hz0,hz1,hz2,hz3⟩:=zc8 Tryz.zj3
      have HI:=hH (aN hi0 (aN hz0 (aN hz1 (aN hz2 hz3))))
      have HBS:=hH (aN hbs hbound)
      clear hSb hl hr hm hq hlc hi0 hz0 hz1 hz2 hz3 hbs
      go_wp2_with (first
       | (go_at_call 265;(with_reducible refine (HA.out _ _).mono ?_);clear HA;rintro e w3 ⟨v1,rfl,h1⟩;have d1:=(Yz h1.2).2.1;have HB:=hH (yZ w3 _ B v1 _ k.2.1 h1 (by have:=HBS.out.1;simp[zw];omega));clear h1)
       | (go_at_call 265;(with_reducible refine HB.out.mono ?_);clear HB;rintro e w4 ⟨v2,rfl,h1⟩;have d2:=(Yz h1.2).2.2.1;have HC:=hH (Jg w4 _ B v2 _ k.2.2 h1 (by have:=HBS.out.1;simp[zw];omega) (by have:=HBS.out.1;omega));clear h1)
       | (go_at_call 268;(with_reducible refine HC.out.mono ?_);clear HC;rintro e w5 ⟨v3,rfl,h1⟩;have d3:=(Yz h1.2).2.2.2;have HD:=hH (yZ w5 _ B v3 _ (q:Int) h1 (by have:=HBS.out.1;have e9:k.2.2.data.toList.length=k.2.2.size:=sp;simp only[LlaQ,zw,e9];omega));clear h1)
       | (go_at_call 265;(with_reducible refine HD.out.mono ?_);clear HD;rintro e w6 ⟨v4,rfl,h1⟩;have d4:=(Yz h1.2).2.2.2;have HE:=hH (aN h1 (HG.out.1.1.zlj (r:=r) HG.out.2.2 HN.out.2.2.2.1 h1.2));clear h1)
       | (at_builtin;refine wpList_append_own _ rfl (.tmp 57) (.tmp 60) _ rfl w.heap.size 33 i0 z0 1 24 Tryz.underlying214 HI.out.1 HI.out.2.1 HI.out.2.2.1 HI.out.2.2.2.1 HI.out.2.2.2.2 om1 (.slice (some ⟨g,0,none⟩) (n+1) wc) (n+1) _ rfl (HE.out.2.alloc _) ⟨w6.heap.size,0,none⟩ 1 1 [.slice kka q kcap] rfl rfl (World.news_of_block (cs:= #[.slice kka q kcap]) (hanQ w6 _)) uc9 ud1 om1 (by have:=zY HE.out.2 rfl;simp;omega) ?_;intro v8 w8 hown hgrow _;have HF:=hH (aN hown hgrow);clear hown hgrow))
      all_goals
       have h1:=HG.out.1.2
       rw[vU] at h1
       have h2:=HG.out.2.1
       rw[vU] at h2
       simp only[zh] at h1 h2
       have h5:=HE.out.1
       rw[show bs'++zq k.fst++zq k.snd.fst++(zq (k.snd.snd.size:Int)++k.snd.snd.data.toList)++zq (q:Int)=bs'++zaQ k q by simp[zaQ,List.append_assoc]] at h5
       have h6:=jP.next HG.out.1.1 HG.out.2.2 H.out.1.1.2.2 H.out.2.1 (by first | exact HN.out.2.2.1 | (rw[zek (f:=r) (by have:=HN.out.2.2.2;omega)];exact True.intro)) (by have:=HN.out.2.2.2;omega) HN.out.2.1 HN.out.2.2.2.2.2.1 HN.out.2.2.2.2.1 HN.out.2.2.2.1 h5 HF.out.1 HF.out.2
       go_roundg (Yv rs+(2*zh r+1)+(2*zh l+1))
       case measure=>omega
       case rel=>exact⟨_,_,hH ⟨h6,by rw[vU,vU];simp only;omega⟩,by rw[vU,vU];simp only;omega⟩
end Go.Proofs.YtoidedomenkbpaaGreat
