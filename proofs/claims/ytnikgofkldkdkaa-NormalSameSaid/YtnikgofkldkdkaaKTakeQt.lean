/-
  .
-/
import Derived.Test.YtnikgofkldkdkaaKAlong1Qt
set_option maxRecDepth 100000
set_option maxHeartbeats 40000000
set_option linter.unusedVariables false
set_option linter.unusedSimpArgs false
namespace Go.Proofs.Ytnikgofkldkdkaa
open Go.RowKit Go.Shelf
structure zgL (P:Program) (W:World) (tb:Nat) (E S SS:Nat→Prop) (u:Tr) (lf:FuncId) (c0 c1 c2:Value) (c:Tr) (RR:World→Prop):Prop where
 enter:∀(args:Array Value) (w:World),(callFunc lf args).run P w= .ok (.enter lf args) w
 call:∀(X X1:World) (b off:Nat) (sv:Value) (xs:List Value),AlH W tb (fun _=>False) X→AlC W tb E S X u b off sv xs X1→b<X.heap.size→(b=tb∨W.heap.size≤b)→Calls P lf #[.pointer (some ⟨b,off,none⟩),c0,c1,c2] X1 (zfs W tb E SS X.heap.size X1 b off c RR)
structure zkm (W:World) (tb:Nat) (E:Nat→Prop) (lf:FuncId) (c0 c1 c2:Value) (CB DB:Nat):Prop where
 down:W.heap[DB]? =some (.cells #[.func (.func 113) #[] #[.pointer (some ⟨CB,0,none⟩),.pointer (some ⟨DB,0,none⟩)]] 171 (0,0))
 change:W.heap[CB]? =some (.cells #[.func (.func lf) #[] #[c0,c1,c2]] 139 (0,0))
 hd:DB<W.heap.size∧DB≠tb∧¬E DB
 hc:CB<W.heap.size∧CB≠tb∧¬E CB
theorem zcF {W:World}{tb:Nat}{E S SS:Nat→Prop}{lf:FuncId}{c0 c1 c2:Value}{t uL cT:Tr}{RR:World→Prop}(hS:AlS W tb E S)(hSS:∀y,S y→SS y)(hC:zgL Try.prog W tb E S SS uL lf c0 c1 c2 cT RR)(CB DB:Nat)(hB:zkm W tb E lf c0 c1 c2 CB DB)(hsz:za t.kids≤400000):
 ∀(M:Nat) (X:World) (p l:List Nat) (u:Tr) (b off:Nat) (pa:Option Addr) (n pc:Nat),n<M→n=l.length→n≤1000000→AlH W tb (fun _=>False) X→AlN W tb E S t X p u b off→za u.kids≤400000→vW W (fun y=>y<W.heap.size∧y≠tb∧¬E y) pa pc (qx l)→atT u l=some uL→
 Calls Try.prog 113 #[.pointer (some ⟨b,off,none⟩),.slice pa n pc,.pointer (some ⟨CB,0,none⟩),.pointer (some ⟨DB,0,none⟩)] X (JB W tb E SS X b (zP t (p++l) cT) RR):=by
 intro M
 induction M with
 | zero=>intro X p l u b off pa n pc h;omega
 | succ M ih=>
   intro X p l u b off pa n pc hM hn hnb hH hN hus hp hat
   obtain⟨ka,kc,d3,hkc,hk,hk0⟩:=hN.c3
   obtain⟨xs,hr,hxl,hxc,hx1⟩:=ze5 u.kids hk
   have hul:=zM u.kids
   have hcl:=kz X ka (foLen u.kids) kc xs hxl hx1 om hxc hk0
   obtain⟨m,hm⟩:∃m,m=foLen u.kids:=⟨_,rfl⟩
   rw[←hm] at d3 hcl
   have HCL:=Lib.hid hcl
   have hblt:=hN.lt
   have hfz:=hN.fz
   by_cases hn0:n=0
   · subst hn0
     have hl:l= []:=List.length_eq_zero_iff.1 hn.symm
     subst hl
     have hu:u=uL:=by simpa [atT] using hat
     subst hu
     have HA:=Lib.hid (aN hH (aN hN (aN hr (aN hx1 (aN hm hblt)))))
     have hent:=hC.enter
     clear ih hM hp hat hn hnb hH hN hkc hk hk0 hr hxl hxc hx1 hul hcl hus hm
     go_enter Try.func113,Try.ntmps113
     go_wp2_with fail
     refine HCL.out.mono ?_
     rintro e w1 ⟨v',rfl,hb1,ho⟩
     obtain⟨va,vc,rfl⟩:=zt ho
     have g3:w1.cell? ⟨b,off+3,none⟩=some (.slice ka m kc):=(hb1.cell (p:=⟨b,off+3,none⟩) hblt).trans d3
     have gf:∀j,w1.frozen? ⟨b,j,none⟩=false:=fun j=>(World.frozen?_of_block (hb1.block b hblt)).trans (hfz j)
     rw[HA.out.2.2.2.2.1] at ho
     have hk1:=HA.out.2.1.clone hS HA.out.1 HA.out.2.2.1 HA.out.2.2.2.1 hb1 ho
     rw[←HA.out.2.2.2.2.1] at hk1
     obtain⟨X1,hX1⟩:∃X1,X1=w1.setCell ⟨b,off+3,none⟩ (.slice va m vc):=⟨_,rfl⟩
     rw[←hX1] at hk1
     have hcb:X1.cell? ⟨CB,0,none⟩=some (.func (.func lf) #[] #[c0,c1,c2]):=by rw[corQ _ _ 0 _ _ _ ((hk1.h.kept CB hB.hc.1 hB.hc.2.1 (fun h=>h)).trans hB.change)];rfl
     exact sc7
   · obtain⟨j,l',rfl⟩:∃j l',l=j::l':=by
      cases l with
      | nil=>simp at hn;omega
      | cons j l'=>exact⟨j,l',rfl⟩
     exact sa1
theorem zdU (w:World){E S SS:Nat→Prop}{lf:FuncId}{c0 c1 c2:Value}{RR:World→Prop}(nv:Value)(t uL cT:Tr)(p:List Nat)(pa:Option Addr)(n pc:Nat)(hS:∀y,S y→y<w.heap.size∧¬E y)(hSS:∀y,SS y→y<w.heap.size∧¬E y)(hsub:∀y,S y→SS y)(hE:∀y,E y→y<w.heap.size)(hn:n=p.length)(hnb:n≤1000000)
 (ht:zK w S nv t) (hsz:za t.kids≤400000) (hp:vW w (fun y=>y<w.heap.size∧¬E y) pa pc (qx p)) (hat:atT t p=some uL) (hC:∀W,Below w.heap.size w W→W.heap.size=w.heap.size+4→zgL Try.prog W w.heap.size E S SS uL lf c0 c1 c2 cT RR) (hRR:∀X X' :World,(∀y,E y→X'.heap[y]? =X.heap[y]?)→RR X→RR X'):
 Calls Try.prog 91 #[nv,.slice pa n pc,.func (.func lf) #[] #[c0,c1,c2]] w (JC w E SS (zP t p cT) RR):=by
 have hmf:∀(fn:Fn) (first cap:Array Value) (w:World),(Instr.makeFunc fn first cap).run Try.prog w= .ok (.func fn first cap) w:=fun _ _ _ _=>rfl
 obtain⟨ka,tc,rfl,hcap,hk⟩:=ht
 obtain⟨nk,hnk⟩:∃nk,nk=foLen t.kids:=⟨_,rfl⟩
 rw[←hnk]
 obtain⟨DV,hDV⟩:∃DV,DV=Value.func (.func 113) #[] #[.pointer (some ⟨w.heap.size+1,0,none⟩),.pointer (some ⟨w.heap.size+1+1+1,0,none⟩)]:=⟨_,rfl⟩
 obtain⟨W,hW⟩:∃W,W=zx w [.cells #[.int .i64 t.id,.int .i64 t.kind,.string t.text,.slice ka nk tc] 27,.cells #[.func (.func lf) #[] #[c0,c1,c2]] 139,.cells #[.int .i64 0,.int .i64 0,.string ⟨#[]⟩,.slice none 0 0] 27,.cells #[DV] 171]:=⟨_,rfl⟩
 have hb:Below w.heap.size w W:=by rw[hW];exact zl _ _
 have hs:W.heap.size=w.heap.size+4:=by rw[hW];exact zJ _ _
 have h0:W.heap[w.heap.size]? =some (.cells #[.int .i64 t.id,.int .i64 t.kind,.string t.text,.slice ka nk tc] 27 (0,0)):=by rw[hW];exact ze _ _ 0 _ rfl
 have h1:W.heap[w.heap.size+1]? =some (.cells #[.func (.func lf) #[] #[c0,c1,c2]] 139 (0,0)):=by rw[hW];exact ze _ _ 1 _ rfl
 have h2:W.heap[w.heap.size+2]? =some (.cells #[.int .i64 0,.int .i64 0,.string ⟨#[]⟩,.slice none 0 0] 27 (0,0)):=by rw[hW];exact ze _ _ 2 _ rfl
 have h3:W.heap[w.heap.size+3]? =some (.cells #[DV] 171 (0,0)):=by rw[hW];exact ze _ _ 3 _ rfl
 have hAS:AlS W w.heap.size E S:=⟨fun y hy=>⟨by have:=(hS y hy).1;omega,by have:=(hS y hy).1;omega,(hS y hy).2⟩,fun y hy=>⟨by have:=hE y hy;omega,by have:=hE y hy;omega⟩,by omega⟩
 have hAB:zkm W w.heap.size E lf c0 c1 c2 (w.heap.size+1) (w.heap.size+3):=⟨by rw[h3,hDV],h1,⟨by omega,by omega,fun h=>by have:=hE _ h;omega⟩,⟨by omega,by omega,fun h=>by have:=hE _ h;omega⟩⟩
 have hAH:AlH W w.heap.size (fun _=>False) W:=⟨rfl,rfl,rfl,NlrQ _,fun _ _ _ _=>rfl⟩
 have hkW:zk W S t.kids ka:=hk.kept (w':=W) (S':=S) fun y hy=>⟨hy,hb.block y (hS y hy).1⟩
 obtain⟨b0,b1,b2,b3⟩:=zH h0
 have hAN:AlN W w.heap.size E S t W [] t w.heap.size 0:=⟨rfl,b0,b1,b2,⟨ka,tc,by rw[←hnk];exact b3,hcap,hkW,fun e=>by
  rw[e] at hkW
  cases hkk:t.kids with
  | nil=>rfl
  | node _ _ _ _ _=>rw[hkk] at hkW;obtain⟨_,_,_,_,e2,_⟩:=hkW;cases e2⟩,fun j=>forQ _ _ j _ _ h0,Or.inl rfl,by omega,fun X' S' u' _ _ _ hn=>hn⟩
 have hc:=zcF hAS hsub (hC W hb hs) (w.heap.size+1) (w.heap.size+3) hAB hsz (n+1) W [] p t w.heap.size 0 pa n pc (Nat.lt_succ_self _) hn hnb hAH hAN hsz (hp.kept fun y hy=>⟨⟨by omega,by omega,hy.2⟩,hb.block y hy.1⟩) hat
 rw[List.nil_append] at hc
 have HC:=Lib.hid (aN hc (aN hb (aN hs (aN hW h2))))
 have HDV:=Lib.hid hDV
 have HQ:=Lib.hid (aN hRR (aN hE hSS))
 clear hc hb hs hW h0 h1 h2 h3 hAS hAB hAH hAN hkW b0 b1 b2 b3 hp hn hDV hS hSS hsub hE hk hcap hC hRR hat hsz hnb hnk
 go_enter Try.func91,Try.ntmps91
 go_wp2_with fail
 have hWW:=HC.out.2.2.2.1
 rw[HDV.out] at hWW
 change Calls _ _ _ (zx w [.cells #[.int .i64 t.id,.int .i64 t.kind,.string t.text,.slice ka nk tc] 27,.cells #[.func (.func lf) #[] #[c0,c1,c2]] 139,.cells #[.int .i64 0,.int .i64 0,.string ⟨#[]⟩,.slice none 0 0] 27,.cells #[Value.func (.func 113) #[] #[.pointer (some ⟨w.heap.size+1,0,none⟩),.pointer (some ⟨w.heap.size+1+1+1,0,none⟩)]] 171]) _
 exact sb0
end Go.Proofs.Ytnikgofkldkdkaa
namespace Go.Proofs.Ytnikgofkldkdkaa
open Go.RowKit Go.Lib
theorem zaO {P:Program}(w:World)(t e ty:TypeId)(z:Value)(ht:P.underlying t=some (.slice e))(hv:∀w,(zeroValue e).run P w= .ok z w)(b o n c:Nat)(hn:0<n)(vs:List Value)(hvs:(Builtin.zeroCells z.cells n).toList=vs)(h1:∀v∈vs,v.oneCell'=true)
 (hth:w.there b o vs.length):(Builtin.clear_ #[t] ty #[.slice (some ⟨b,o,none⟩) n c]).run P w= .ok (.tuple #[]) (w.setCells b o vs):=by
 have hst:=run_storeCells_cells (P:=P) b o vs 0 w (fun j hj=>(hth j hj).1) (fun j hj=>(hth j hj).2) h1
 simp only[Nat.add_zero] at hst
 obtain⟨m,rfl⟩:∃m,n=m+1:=⟨n - 1,by omega⟩
 simp[Builtin.clear_,run_underlying ht,hv,hvs,hst]
theorem zgH (z:Array Value)(n:Nat)(h:∀v∈z,v.oneCell'=true):∀v∈(Builtin.zeroCells z n).toList,v.oneCell'=true:=fun v hv=>by
 simp only[Builtin.zeroCells,Array.toList_map,List.mem_map] at hv
 obtain⟨i,hi,rfl⟩:=hv
 have hi' :i<n*z.size:=by simpa using hi
 have hz:0<z.size:=by
  rcases Nat.eq_zero_or_pos z.size with h0 | h0
  · rw[h0] at hi';simp at hi'
  · exact h0
 have hlt:i % z.size<z.size:=Nat.mod_lt _ hz
 rw[getElem!_pos z (i % z.size) hlt]
 exact h _ (Array.getElem_mem hlt)
theorem ziD {P:Program}{t:TypeId}{i:TypeInfo}{z:Value}(hi:P.info? t=some i)(hz:i.zero=some z):∀w,(zeroValue t).run P w= .ok z w:=fun w=>by simp[zeroValue,typeInfo,hi,hz]
theorem Try.ziB:(Try.prog.info? 27).map (fun i=>i.zero.map (fun z=>z.cells.all (·.oneCell')))=some (some true):=by kernel_rfl
theorem zis {w:World}{g:Nat}{cs:List Value}{t:TypeId}(hg:w.heap[g]? =some (.cells cs.toArray t (0,0))){o n:Nat}(h:o+n≤cs.length):w.there g o n:=fun j hj=>vw hg om
def zkp (w:World)(B g n cap:Nat)(xs:List Value)(e:Ending)(w' :World):Prop:=
 e= .returned (.slice (some ⟨g,0,none⟩) n cap)∧w'.ownsRow B 27 4 (.slice (some ⟨g,0,none⟩) n cap) n xs∧w.grownBy w' (some g)
theorem ziP (w:World)(B g n cap k j:Nat)(xs:List Value)(hkn:k<n)(hj:j=k+1)(hlen:n≤1000000)(h1x:∀v∈xs,v.oneCell'=true)
 (h:w.ownsRow B 27 4 (.slice (some ⟨g,0,none⟩) n cap) n xs):
 Calls Try.prog 111 #[.slice (some ⟨g,0,none⟩) n cap,.int .i64 k,.int .i64 j] w (zkp w B g (n - 1) cap (xs.take (k*4)++xs.drop (k*4+4))):=by
 obtain⟨sp,s1,s2,s3,s4,s5⟩:=YP h
 have hxl:=h.1
 obtain⟨PA,hPA⟩:∃PA,PA=xs.take (k*4):=⟨_,rfl⟩
 obtain⟨PX,hPX⟩:∃PX,PX=(xs.drop (k*4)).take 4:=⟨_,rfl⟩
 obtain⟨news,hnews⟩:∃news,news=xs.drop (k*4+4):=⟨_,rfl⟩
 have la:PA.length=k*4:=by rw[hPA,List.length_take];omega
 have hgx:PX.length=4:=by rw[hPX,List.length_take,List.length_drop];omega
 have lr:news.length=(n - j)*4:=by rw[hnews,List.length_drop];omega
 have e0:xs=PA++(PX++news):=by rw[hPA,hPX,hnews,←List.drop_drop,List.take_append_drop,List.take_append_drop]
 have h1n:∀v∈news,v.oneCell'=true:=fun v hv=>h1x v (by rw[e0];exact List.mem_append_right _ (List.mem_append_right _ hv))
 rw[←hPA,←hnews]
 rw[e0] at s1 s4
 obtain⟨i0,z0,hi0,hz0,hz1,hz2,hz3⟩:=zW Try.Qi
 have hkj:k<j:=by omega
 have hjn:j≤n:=by omega
 have hic:k≤cap:=by omega
 have hjc:j≤cap:=by omega
 have hcm:cap≤9223372036854775807:=by have:=s3;unfold maxLen at this;omega
 have hnl:news.length=(n - j)*4:=lr
 have hlc:(PX++news++sp).length=(cap - k)*4:=by simp only[LlaQ] at s4 ⊢;omega
 have s1' :w.heap[g]? =some (.cells (PA++(PX++news++sp)).toArray 27 (0,0)):=by rw[←List.append_assoc];exact s1
 obtain⟨A,hA,hsrc⟩:∃A:Addr,(if cap=j then some (⟨g,0,none⟩:Addr) else some ⟨g,j*4,none⟩)=some A∧Hid (∀t u,news[t]? =some u→w.drew.cell? (A.add t)=some u):=by
  by_cases h:cap=j
  · refine⟨⟨g,0,none⟩,by simp[h],hH fun t u hu=>?_⟩
    have h0:news.length=0:=by rw[hnl];omega
    rw[List.length_eq_zero_iff.1 h0] at hu
    simp at hu
  · refine⟨⟨g,j*4,none⟩,by simp[h],hH fun t u hu=>?_⟩
    rw[Addr.add_mid]
    show w.cell? _=_
    rw[jS s1',List.getElem?_append_right om,List.append_assoc,List.getElem?_append_right om,hgx,la,List.getElem?_append_left (by have:=(List.getElem?_eq_some_iff.1 hu).1;omega),show j*4+t - k*4 - 4=t by omega]
    exact hu
 have q1:Hid (news.length=(n - j)*4):=hH hnl
 have q2:Hid (∀u∈news,u.oneCell'=true):=hH h1n
 have q3:Hid (∀t,t<news.length→(w.drew.cell? ⟨g,0+k*4+t,none⟩).isSome=true∧w.drew.frozen? ⟨g,0+k*4+t,none⟩=false):=hH fun t ht=>zis (w:=w.drew) (o:=0+k*4) (n:=news.length) s1' (by rw[LlaQ,hlc,la,hnl];omega) t ht
 obtain⟨W1,hW1⟩:∃W1,W1=w.drew.setCells g (0+k*4) news:=⟨_,rfl⟩
 have hb1:W1.heap[g]? =some (.cells (PA++(news++(PX++news++sp).drop news.length)).toArray 27 (0,0)):=by
  have:=qy news PA ((PX++news++sp).take news.length) ((PX++news++sp).drop news.length) w.drew (b:=g) (t:=27) (by rw[List.take_append_drop];exact s1') (by rw[List.length_take,hlc,hnl];omega)
  rw[hW1,Nat.zero_add,←la]
  exact this
 have hf1:=qz (b:=g) news (0+k*4) w.drew
 rw[←hW1] at hf1
 obtain⟨P,hP⟩:∃P,P=(PX++news++sp).drop news.length:=⟨_,rfl⟩
 have hPl:P.length=(cap - (n - 1))*4:=by rw[hP,List.length_drop,hlc,hnl];omega
 rw[←hP] at hb1
 obtain⟨zs,hzs⟩:∃zs,(Builtin.zeroCells z0.cells (n - (k+(n - j)))).toList=zs:=⟨_,rfl⟩
 have hzl:zs.length=4:=by rw[←hzs,Zy,hz3];omega
 have hz1c:∀v∈zs,v.oneCell'=true:=by
  rw[←hzs]
  refine zgH _ _ fun v hv=>?_
  have h1:=Try.ziB
  rw[hi0] at h1
  simp only[Option.map_some,hz0,Option.some.injEq] at h1
  exact (Array.all_eq_true_iff_forall_mem.1 h1) v hv
 have hcl:∀ty,(Builtin.clear_ #[25] ty #[.slice (some ⟨g,(k+(n - j))*4,none⟩) (n - (k+(n - j))) (cap - (k+(n - j)))]).run Try.prog W1= .ok (.tuple #[]) (W1.setCells g ((k+(n - j))*4) zs):=
  fun ty=>zaO W1 _ _ ty z0 Try.underlying25 (ziD hi0 hz0) g ((k+(n - j))*4) _ _ om zs hzs hz1c (zis hb1 (by simp only[LlaQ,la,hnl,hPl,hzl];omega))
 obtain⟨W2,hW2⟩:∃W2,W2=W1.setCells g ((k+(n - j))*4) zs:=⟨_,rfl⟩
 rw[←hW2] at hcl
 have hb2:W2.heap[g]? =some (.cells ((PA++news)++(zs++P.drop 4)).toArray 27 (0,0)):=by
  have:=qy zs (PA++news) (P.take 4) (P.drop 4) W1 (b:=g) (t:=27) (by rw[List.take_append_drop,List.append_assoc];exact hb1) (by rw[List.length_take,hPl,hzl];omega)
  rw[hW2,show (k+(n - j))*4=(PA++news).length by rw[LlaQ,la,hnl];omega]
  exact this
 have hf2:=qz (b:=g) zs ((k+(n - j))*4) W1
 rw[←hW2] at hf2
 have HEND:Hid (zkp w B g (n - 1) cap (PA++news) (.returned (.slice (some ⟨g,0,none⟩) (n - 1) cap)) W2):=hH
  ⟨rfl, QX (by rw[LlaQ,la,hnl];omega) hb2 om s3 (by simp only[LlaQ,la,hnl,hzl,List.length_drop,hPl];omega) s5,
   { os :=hf2.2.1.trans hf1.2.1,tape:=hf2.2.2.1.trans hf1.2.2.1,output:=hf2.2.2.2.1.trans hf1.2.2.2.1,size:=by rw[hf2.1,hf1.1];exact NlrQ _,block:=fun y hy hn=>by
      have hyg:y≠g:=fun e=>hn (by rw[e])
      rw[hf2.2.2.2.2 y hyg,hf1.2.2.2.2 y hyg];rfl }⟩
 have hW:Hid (W1=w.drew.setCells g (0+k*4) news):=hH hW1
 have HN:Hid (n - 1=k+(n - j)):=hH om
 have mixed:Try.prog.follows .mixedOrders=true:=by kernel_rfl
 clear s1 s4 e0 la lr hgx h hkn hj s3 s5 s1' hlc hnl hnews hf1 hf2 hb1 hb2 hW1 hW2 hP hPl hzs hzl hz1c hPA hPX hxl h1x h1n
 go_enter Try.func111,Try.ntmps111
 go_wp2_with fail
 go_region_law (refine step_append_room rfl (.tmp 22) (.tmp 25) 25 rfl 27 i0 4 Try.underlying25 hi0 hz1 g 0 k cap ud7 A (n - j) (cap - j) news ud7 q1.out hsrc.out q2.out om q3.out ?_;rw[←hW.out])
 go_wp2_with fail
 go_ret
 rw[←HN.out]
 exact HEND.out
end Go.Proofs.Ytnikgofkldkdkaa
namespace Go.Proofs.Ytnikgofkldkdkaa
open Go.RowKit Go.Shelf
def zg3 (w:World)(S:Nat→Prop)(kb:Nat)(v:Tr)(X:World):Prop:=∃ka kc,X.heap[kb]? =some (.cells #[.int .i64 v.id,.int .i64 v.kind,.string v.text,.slice ka (foLen v.kids) kc] 27 (0,0))∧foLen v.kids≤kc∧zk w S v.kids ka
theorem zhk (w:World)(S:Nat→Prop)(hS:∀y,S y→y<w.heap.size)(u v:Tr)(qb lb kb pb po pc n m i:Nat)(hsz:foLen u.kids≤1000000)(hv:zB u.kids i=some v)(hSk:∀y,S y→y≠kb)
 (hq:w.heap[qb]? =some (.cells #[.slice (some ⟨pb,po,none⟩) n pc] 65 (0,0))) (hl:w.heap[lb]? =some (.cells #[.int .i64 (m:Int)] 3 (0,0))) (hk:w.heap[kb]? =some (.cells #[.int .i64 0,.int .i64 0,.string ⟨#[]⟩,.slice none 0 0] 27 (0,0)))
 (hqk:qb≠kb) (hlk:lb≠kb) (hpk:pb≠kb) (hm:m<n) (hp:w.cell? ⟨pb,po+m,none⟩=some (.int .i64 (i:Int))):
 ∀W,Below w.heap.size w W→W.heap.size=w.heap.size+4→zgL Try.prog W w.heap.size (fun y=>y=kb) S S u 110 (.pointer (some ⟨qb,0,none⟩)) (.pointer (some ⟨lb,0,none⟩)) (.pointer (some ⟨kb,0,none⟩)) ⟨u.id,u.kind,u.text,yA u.kids i⟩ (zg3 w S kb v):=fun W hb hs=>by
 refine⟨fun _ _=>rfl,fun X X1 b off sv xs hH k hlt hbl=>?_⟩
 have hiu:=qd hv
 obtain⟨g,gc,rfl,_⟩:=World.ownsRow.form k.own om
 have hkw:kb<w.heap.size:=lohQ hk
 have hgb:=zi k.own (g:=g) rfl
 have hSz:=hH.size
 have hold' :∀y,y<w.heap.size→X1.heap[y]? =w.heap[y]?:=fun y hy=>(k.h.kept y om om (fun h=>h)).trans (hb.block y hy)
 have hold:∀y,y<w.heap.size→y≠kb→X1.heap[y]? =w.heap[y]?:=fun y hy _=>hold' y hy
 have q0:X1.cell? ⟨qb,0,none⟩=some (.slice (some ⟨pb,po,none⟩) n pc):=by rw[corQ _ _ 0 _ _ _ ((hold qb (lohQ hq) hqk).trans hq)];rfl
 have l0:X1.cell? ⟨lb,0,none⟩=some (.int .i64 (m:Int)):=by rw[corQ _ _ 0 _ _ _ ((hold lb (lohQ hl) hlk).trans hl)];rfl
 have p0:X1.cell? ⟨pb,po+m,none⟩=some (.int .i64 (i:Int)):=(World.cell?_of_block (a:=⟨pb,po+m,none⟩) (hold pb (World.block_lt_of_cell? _ _ hp) hpk)).trans hp
 obtain⟨na,nc,e0,e1,e2,e3,hnc,hnk⟩:=yM.nth u.kids i v xs k.row hv
 have c0:=zC k.own rfl _ _ e0
 have c1:=zC k.own rfl _ _ e1
 have c2:=zC k.own rfl _ _ e2
 have c3:=zC k.own rfl _ _ e3
 have d3:=k.c3
 have hkX:X1.heap[kb]? =some (.cells #[.int .i64 0,.int .i64 0,.string ⟨#[]⟩,.slice none 0 0] 27 (0,0)):=(hold' kb hkw).trans hk
 obtain⟨nk,hnkk⟩:∃nk,nk=foLen u.kids:=⟨_,rfl⟩
 obtain⟨vn,hvn⟩:∃vn,vn=foLen v.kids:=⟨_,rfl⟩
 obtain⟨z0,z1,z2,z3⟩:=zH hkX
 have zf:∀j,X1.frozen? ⟨kb,j,none⟩=false:=fun j=>forQ _ _ j _ _ hkX
 obtain⟨V,hV,r1,r2,r3,r4,r5,r6⟩:=zu (u0:= .int .i64 v.id) (u1:= .int .i64 v.kind) (u2:= .string v.text) (u3:= .slice na vn nc) hkX
 have hgk:g≠kb:=by omega
 have hbk:b≠kb:=by rcases hbl with h | h<;>omega
 have hbg:b≠g:=by omega
 have howV:=zA (w':=V) k.own (fun g' cur hc hg'=>r2 g' (by simp only[Value.ownBlock,Option.some.injEq] at hg';omega))
 obtain⟨j',hj'⟩:∃j',j'=i+1:=⟨_,rfl⟩
 have hdel:=ziP V X.heap.size g (foLen u.kids) gc i j' xs hiu hj' hsz k.one howV
 have hji:(i:Int)+1=(j' :Int):=by omega
 have g3:V.cell? ⟨b,off+3,none⟩=some (.slice (some ⟨g,0,none⟩) (foLen u.kids) gc):=(World.cell?_of_block (a:=⟨b,off+3,none⟩) (r2 b hbk)).trans d3
 have gf:∀j,V.frozen? ⟨b,j,none⟩=false:=fun j=>(World.frozen?_of_block (r2 b hbk)).trans (k.fz j)
 rw[←hnkk] at d3 hdel g3
 rw[←hvn] at c3
 have HD:=Lib.hid hdel
 have HV:=Lib.hid hV
 have HG:=Lib.hid (aN g3 gf)
 have HK:=Lib.hid (aN k (aN hH (aN hlt hbl)))
 have HR:=Lib.hid (aN r1 (aN r2 (aN r3 (aN r4 (aN r5 r6)))))
 have HN:=Lib.hid (aN hold (aN hnc (aN hnk (aN hnkk (aN hvn (aN hgk (aN hbk hbg)))))))
 have HS:=Lib.hid (aN hS (aN hSk (aN hv (aN hsz (aN hkw (aN hgb.1 (aN hSz (aN hs hiu))))))))
 have HVS:=Lib.hid (show b<V.heap.size by rw[r6];have:=k.size;omega)
 have hmi:(m:Int)<(n:Int):=by omega
 have hm0:(0:Int)≤(m:Int):=by omega
 have hii:(i:Int)<(nk:Int):=by omega
 have hi0:(0:Int)≤(i:Int):=by omega
 have hi6:(i:Int)≤1000000:=by omega
 clear hdel hV g3 gf k hH hlt hbl r1 r2 r3 r4 r5 r6 hold hnc hnk hnkk hvn hgk hbk hbg hS hSk hv hsz hkw hgb hSz hs hiu hq hl hk hqk hlk hpk hm hp hb howV hj' hkX e0 e1 e2 e3 hold'
 go_enter Try.func110,Try.ntmps110
 go_upto_region 2 with fail
 rw[←HV.out]
 have g3x:=HG.out.1
 have gfx:=HG.out.2
 clear z0 z1 z2 z3 zf q0 l0 p0 c0 c1 c2 c3 d3
 go_wp2_with fail
 clear g3x gfx
 refine HD.out.mono ?_
 rintro e Y ⟨rfl,hown,hgr⟩
 have hbY:Y.heap[b]? =V.heap[b]?:=hgr.block b HVS.out (fun e=>HN.out.2.2.2.2.2.2.2 (Option.some.inj e))
 have y3:Y.cell? ⟨b,off+3,none⟩=some (.slice (some ⟨g,0,none⟩) nk gc):=(World.cell?_of_block (a:=⟨b,off+3,none⟩) hbY).trans HG.out.1
 have yf:∀j,Y.frozen? ⟨b,j,none⟩=false:=fun j=>(World.frozen?_of_block hbY).trans (HG.out.2 j)
 have HY:=Lib.hid (aN hown (aN hgr hbY))
 clear hown hgr hbY
 go_wp2_with fail
 go_end0
 obtain⟨Z,hZ⟩:∃Z,Z=Y.setCell ⟨b,off+3,none⟩ (.slice (some ⟨g,0,none⟩) (nk - 1) gc):=⟨_,rfl⟩
 rw[←hZ]
 obtain⟨k,hH,hlt,hbl⟩:=HK.out
 obtain⟨r1,r2,r3,r4,r5,r6⟩:=HR.out
 obtain⟨hold,hnc,hnk,hnkk,hvn,hgk,hbk,hbg⟩:=HN.out
 obtain⟨hS,hSk,hv,hsz,hkw,hgX,hSz,hs,hiu⟩:=HS.out
 obtain⟨hown,hgr,hbY⟩:=HY.out
 have hblk:∀y,y≠b→Z.heap[y]? =Y.heap[y]?:=fun y hy=>by rw[hZ];exact BhsQ _ _ _ _ hy
 have hoth:∀y,y<V.heap.size→y≠b→y≠g→y≠kb→Z.heap[y]? =X1.heap[y]?:=fun y hy h1 h2 h3=>by
  rw[hblk y h1,hgr.block y hy (fun e=>h2 (Option.some.inj e))];exact r2 y h3
 have hco:∀j,j≠off+3→Z.cell? ⟨b,j,none⟩=X1.cell? ⟨b,j,none⟩:=fun j hj=>by
  rw[hZ,World.cell?_setCell_other Y ⟨b,off+3,none⟩ ⟨b,j,none⟩ _ (by intro e;cases e;exact hj rfl),World.cell?_of_block (a:=⟨b,j,none⟩) hbY]
  exact World.cell?_of_block (a:=⟨b,j,none⟩) (r2 b hbk)
 have hks:=k.size
 have hlen:=J3 u.kids i hiu
 have hownZ:=zA (w':=Z) hown (fun g' cur hc hg'=>hblk g' (by simp only[Value.ownBlock,Option.some.injEq] at hg';omega))
 have hSZ:∀y,S y→Z.heap[y]? =X1.heap[y]?:=fun y hy=>by
  have:=hS y hy
  exact hoth y (by rw[r6];omega) (by rcases hbl with h | h<;>omega) om (hSk y hy)
 have hrow:=(J4 u.kids i xs k.row hiu).kept (w':=Z) (S':=S) fun y hy=>⟨hy,hSZ y hy⟩
 obtain⟨hli,hlc⟩:=ZY (S':=fun y=>S y∨(y=w.heap.size∨W.heap.size≤y)) hownZ hrow om (fun y hy=>Or.inl hy) (fun y hy=>Or.inr (Or.inr om))
 refine⟨rfl,?_,?_,?_,?_,fun y hy h1 h2=>hoth y (by rw[r6];omega) h1 om h2,fun j hj=>hco j om,⟨Or.inr hbl,?_,?_,?_,some ⟨g,0,none⟩,gc,?_,?_,hli⟩,na,nc,?_,by rw[←hvn] at hnc ⊢;exact hnc,hnk.kept fun y hy=>⟨hy,(hold y (hS y hy) (hSk y hy)).symm⟩⟩
 · rw[hZ];exact hgr.os.trans r3
 · rw[hZ];exact hgr.tape.trans r4
 · rw[hZ];exact hgr.output.trans r5
 · rw[hZ];simp only[World.setCell,Array.size_setIfInBounds,Array.size_modify];have:=hgr.size;omega
 · rw[hco _ om];exact k.c0
 · rw[hco _ om];exact k.c1
 · rw[hco _ om];exact k.c2
 · rw[show foLen (yA u.kids i)=nk - 1 by omega,hZ];exact World.cell?_setCell_same' Y _ _ (by rw[World.cell?_of_block (a:=⟨b,off+3,none⟩) hbY,HG.out.1];rfl)
 · show foLen (yA u.kids i)≤gc;omega
 · rw[hblk kb (Ne.symm hbk),hgr.block kb (by rw[r6];omega) (fun e=>hgk (Option.some.inj e).symm),←hvn];exact r1
end Go.Proofs.Ytnikgofkldkdkaa
