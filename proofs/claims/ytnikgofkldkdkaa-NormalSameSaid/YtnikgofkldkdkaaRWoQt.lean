/-
  .
-/
import Derived.Test.YtnikgofkldkdkaaRRepQt
set_option maxRecDepth 100000
set_option maxHeartbeats 40000000
set_option linter.unusedVariables false
set_option linter.unusedSimpArgs false
namespace Go.Proofs.Ytnikgofkldkdkaa
open Go.RowKit Go.Shelf
theorem Try.ziU:(Try.prog.info? 27).map (fun i=>(i.size,i.bytes,i.zero.map (fun z=>z.cells.size)))=some (4,56,some 4):=by kernel_rfl
theorem zec {P:Program}{e:TypeId}{size bytes:Nat}(h:(P.info? e).map (fun i=>(i.size,i.bytes,i.zero.map (fun z=>z.cells.size)))=some (size,bytes,some size)):
 ∃i z,P.info? e=some i∧i.zero=some z∧i.size=size∧i.bytes=bytes∧z.cells.size=size:=by
 exact sd3
theorem Zu {P:Program}{w:World}(base:Nat)(t ty e:TypeId)(i:TypeInfo)(size:Nat)(ht:P.underlying t=some (.slice e))(hi:P.info? e=some i)
 (v:Value) (n:Nat) (xs:List Value) (hown:w.ownsRow base e size v n xs) (c:Nat):
 (Builtin.append_ #[t,t] ty #[v,.slice none 0 c]).run P w= .ok v w:=by
 exact se1
theorem Zd {P:Program}{w:World}{ops:Array Oper}{rest:List Oper}{o:Oper}{a:Act}{Q:Exit→Act→World→Prop}(hgd:o.guard=none)(s x:Operand)(t:TypeId)
 (ho:o.op= .call { callee:= .builtin .append,args:= #[s,x],argTypes:= #[t,t] })
 (base:Nat) (e:TypeId) (i:TypeInfo) (size:Nat) (ht:P.underlying t=some (.slice e)) (hi:P.info? e=some i)
 (v:Value) (n:Nat) (xs:List Value) (hs:a.eval s=v) (hown:w.ownsRow base e size v n xs) (c:Nat) (hx:a.eval x= .slice none 0 c)
 (h:wpList P ops Q rest (a.put o.dst v) w):wpList P ops Q (o::rest) a w:=by
 refine wpList_plain hgd fun K hK=>?_
 have hrun:=Zu (P:=P) (w:=w) base t o.type e i size ht hi v n xs hown c
 unfold Oper.wp
 simp[execOp,ho,resolve,invoke,builtin,hs,hx,hrun,Result.andThen]
 exact hK _ _ h
theorem zT {ops:Array Oper}{rest:List Oper}{o:Oper}{a:Act}{Q:Exit→Act→World→Prop}{w:World}(hgd:o.guard=none)(s x:Operand)
 (ho:o.op= .call { callee:= .builtin .append,args:= #[s,x],argTypes:= #[25,25] })
 (base:Nat) (v:Value) (n:Nat) (xs:List Value) (hs:a.eval s=v) (hown:w.ownsRow base 27 4 v n xs)
 (la:Option Addr) (m c:Nat) (ys:List Value) (hx:a.eval x= .slice la m c) (hm:ys.length=m*4) (hr:∀ad,la=some ad→∀j u,ys[j]? =some u→w.cell? (ad.add j)=some u) (h1' :∀u∈ys,u.oneCell'=true) (hc:la=none→m=0) (h1:n≤1000000) (h2:m≤1000000) (hbase:base≤w.heap.size)
 (h:∀v' w',w'.ownsRow base 27 4 v' (n+m) (xs++ys)→w.grownBy w' v.ownBlock→wpList Try.prog ops Q rest (a.put o.dst v') w'):
 wpList Try.prog ops Q (o::rest) a w:=by
 obtain⟨i1,z1,hi1,hy0,hy1,hy2,hy3⟩:=zec Try.ziU
 cases la with
 | none=>
   obtain rfl:=hc rfl
   have hys:ys= []:=List.eq_nil_of_length_eq_zero om
   subst hys
   refine Zd hgd s x 25 ho base 27 i1 4 Try.underlying25 hi1 v n xs hs hown c hx (h v w ?_ ?_)
   · simpa using hown
   · exact⟨rfl,rfl,rfl,NlrQ _,fun _ _ _=>rfl⟩
 | some ad=>
   exact wpList_append_own w hgd s x 25 ho base 27 i1 z1 4 56 Try.underlying25 hi1 hy0 hy1 hy2 hy3 om v n xs hs hown ad m c ys hx hm (hr ad rfl) h1' ue1 om hbase (fun v' w' k1 k2 _=>h v' w' k1 k2)
theorem zam {Y:World}{g:Nat}{x0 x1 x2 x3:Value}{T:TypeId}(h:Y.heap[g]? =some (.cells #[x0,x1,x2,x3] T (0,0))){j:Nat}{u:Value}(hj: [x0,x1,x2,x3][j]? =some u):Y.cell? ((⟨g,0,none⟩:Addr).add j)=some u:=by
 rw[Addr.add_mid,Nat.zero_add,corQ _ _ j _ _ _ h]
 simpa using hj
theorem zan {a b:Int}{t:ByteArray}{d:Option Addr}{m c:Nat}{u:Value}(h:u∈([.int .i64 a,.int .i64 b,.string t,.slice d m c]:List Value)):u.oneCell'=true:=by
 simp only[List.mem_cons,List.not_mem_nil,or_false] at h
 rcases h with rfl | rfl | rfl | rfl<;>rfl
theorem JI (a:Addr)(j:Nat):(a.add j).block=a.block:=by unfold Addr.add;split<;>rfl
theorem zg6 (a:Addr)(i j:Nat):(a.add i).add j=a.add (i+j):=by
 obtain⟨b,off,sp⟩:=a
 by_cases hi:i=0<;>by_cases hj:j=0<;>simp[Addr.add,hi,hj,Nat.add_assoc]
theorem take_at {xs:List Value}{k j:Nat}{u:Value}(h:(xs.take k)[j]? =some u):xs[j]? =some u:=by
 rw[List.getElem?_take] at h;split at h;exact h;cases h
def zeR (f:Fo)(k:Nat)(x:Tr)(S:Nat→Prop)(w:World)(e:Ending)(w' :World):Prop:=∃ra rn rc,e= .returned (.slice ra rn rc)∧rn=foLen (yR f k x)∧rn≤rc∧ra≠none∧zk w' (fun q=>S q∨kP w w' q) (yR f k x) ra∧Below w.heap.size w w'
theorem zal {S:Nat→Prop}{w X:World}{f:Fo}{k n:Nat}{x:Tr}{xa:Option Addr}{xn xc:Nat}{xs:List Value}{v:Value}(hf:yM w S f xs)(hS:∀q,S q→q<w.heap.size)(hn:n=foLen f)(hk:k≤n)(hxn:xn=foLen x.kids)(hx:foLen x.kids≤xc∧zk w S x.kids xa){Bs:Nat}(hBs:w.heap.size≤Bs)(ho:X.ownsRow Bs 27 4 v (k+1+(n - k)) (xs.take (k*4)++[.int .i64 x.id,.int .i64 x.kind,.string x.text,.slice xa xn xc]++xs.drop (k*4)))(hb:Below w.heap.size w X):∃a c,v= .slice a (k+1+(n - k)) c∧zeR f k x S w (.returned v) X:=by
 obtain⟨a,c,rfl⟩:=zt ho
 have hr:=zak f k x xa xc xs hf hx.1 hx.2 om
 have he:ZK x xa xc= [.int .i64 x.id,.int .i64 x.kind,.string x.text,.slice xa xn xc]:=by rw[hxn];rfl
 rw[he] at hr
 have hl:k+1+(n - k)=foLen (yR f k x):=by rw[zaj f k x om];omega
 refine⟨a,c,rfl,a,_,c,rfl,hl,?_,?_,zbX hl ho (hr.kept fun q hq=>⟨.inl hq,hb.block q (hS q hq)⟩) (fun q hq=> .inr ⟨NltQ hBs (zi ho hq).1,(zi ho hq).2⟩),hb⟩
 · rcases ho.2 with ⟨_,h0⟩ | ⟨_,_,_,hv,_,_,hc,_⟩
   · omega
   · cases hv;exact hc
 · rcases ho.2 with ⟨_,h0⟩ | ⟨_,_,_,hv,_⟩
   · omega
   · intro h;subst h;cases hv
theorem zdm (w:World)(S:Nat→Prop)(f:Fo)(a:Option Addr)(n c:Nat)(x:Tr)(xa:Option Addr)(xn xc k:Nat)(hn:n=foLen f)(hc:n≤c)(hf:zk w S f a)(hS:∀q,S q→q<w.heap.size)(hxn:xn=foLen x.kids)(hx:foLen x.kids≤xc∧zk w S x.kids xa)(hk:k≤n)(hn5:n≤500000):
 Calls Try.prog 93 #[.slice a n c,.int .i64 (k:Int),.agg #[.int .i64 x.id,.int .i64 x.kind,.string x.text,.slice xa xn xc]] w (zeR f k x S w):=by
 have hn0:a=none→n=0:=fun e=>by
  subst e
  cases f with
  | nil=>exact hn
  | node x y k l r=>
    obtain⟨b,off,ka,kc,e,_⟩:=hf
    cases e
 obtain⟨xs,hr,hl,hcl,hone⟩:=zcK f hf
 have hl1:(xs.take (k*4)).length=k*4:=by rw[List.length_take,hl,←hn];omega
 have hl2:(xs.drop (k*4)).length=(n - k)*4:=by rw[List.length_drop,hl,←hn];omega
 obtain⟨B,hB⟩:∃B,B=w.alloc (.cells #[.int .i64 x.id,.int .i64 x.kind,.string x.text,.slice xa xn xc] 27):=⟨_,rfl⟩
 have hb:Below w.heap.size w B:=by rw[hB];exact (BrQ _ _).alloc (NlrQ _) _
 have e0:B.heap[w.heap.size]? =some (.cells #[.int .i64 x.id,.int .i64 x.kind,.string x.text,.slice xa xn xc] 27 (0,0)):=by rw[hB];exact hanQ _ _
 have HA:=hH (aN hr (aN hS (aN hn (aN hk (aN hxn hx)))))
 have HB:=hH (aN hb e0)
 have HL:=hH (aN hl1 hl2)
 have HO:=hH hone
 have HBE:=hH hB
 have hkc:(k:Int)≤(c:Int):=by omega
 have hkn:(k:Int)≤(n:Int):=by omega
 have hnc:(n:Int)≤(c:Int):=by omega
 have hlt:∀j u,xs[j]? =some u→∀ad,a=some ad→ad.block<w.heap.size:=fun j u hj ad he=>by
  have:=block_lt_of_cell (hcl ad he j u hj)
  rwa [JI] at this
 have HC:Hid (∀X,Below w.heap.size w X→∀ad,a=some ad→∀j u,xs[j]? =some u→X.cell? (ad.add j)=some u):=hH fun X hX ad he j u hj=>(World.cell?_of_block (hX.block _ (by rw[JI];exact hlt j u hj ad he))).trans (hcl ad he j u hj)
 clear hr hl hcl hone hl1 hl2 hb e0 hB hn hf hS hxn hx hk hlt
 go_enter Try.func93,Try.ntmps93
 go_upto_region 1 with fail
 change Code.wp _ _ _ _ (w.alloc (.cells #[.int .i64 x.id,.int .i64 x.kind,.string x.text,.slice xa xn xc] 27))
 rw[←HBE.out]
 clear HBE
 cases a with
 | none=>
   obtain rfl:n=0:=hn0 rfl
   obtain rfl:k=0:=by omega
   go_upto_region 3 with (at_builtin;refine zT rfl (.tmp 8) (.tmp 11) rfl B.heap.size (.slice none 0 0) 0 [] rfl (World.ownsRow_nil _ _ _ _) none 0 c (xs.take (0*4)) rfl HL.out.1 (fun ad' h j u hj=>HC.out _ HB.out.1 ad' h j u (take_at hj)) (fun u hu=>HO.out u (List.mem_of_mem_take hu)) (fun _=>rfl) om om (NlrQ _) ?_;intro v1 W1 hown hgrow;rw[Nat.zero_add,List.nil_append] at hown;have HE:=hH (aN hown ((BrQ B.heap.size B).grown hgrow (NlrQ _) (fun y hy=>by cases hy)));clear hown hgrow)
   obtain⟨oa,oc,rfl⟩:=zt HE.out.1
   have hx0:W1.heap[w.heap.size]? =some (.cells #[.int .i64 x.id,.int .i64 x.kind,.string x.text,.slice xa xn xc] 27 (0,0)):=(HE.out.2.block _ (lohQ HB.out.2)).trans HB.out.2
   obtain⟨q0,q1,q2,q3⟩:=zF hx0
   obtain⟨Y,hY⟩:∃Y,Y=W1.alloc (.cells #[.int .i64 x.id,.int .i64 x.kind,.string x.text,.slice xa xn xc] 27):=⟨_,rfl⟩
   have hbY:Below W1.heap.size W1 Y:=by rw[hY];exact (BrQ _ _).alloc (NlrQ _) _
   have HY:=hH (aN (show Y.heap[W1.heap.size]? =some (.cells #[.int .i64 x.id,.int .i64 x.kind,.string x.text,.slice xa xn xc] 27 (0,0)) by rw[hY];exact hanQ _ _) (aN (HE.out.2.trans (hbY.mono HE.out.2.size)) (zA HE.out.1 fun g cur hg _=>hbY.block g (lohQ hg))))
   have HYE:=hH hY
   clear hx0 hY hbY
   go_upto_region 4 with (at_builtin;change wpList _ _ _ _ _ (W1.alloc (.cells #[.int .i64 x.id,.int .i64 x.kind,.string x.text,.slice xa xn xc] 27));rw[←HYE.out];refine zT rfl (.tmp 13) (.tmp 15) rfl B.heap.size (.slice oa 0 oc) 0 (xs.take (0*4)) rfl HY.out.2.2 (some ⟨W1.heap.size,0,none⟩) 1 1 [.int .i64 x.id,.int .i64 x.kind,.string x.text,.slice xa xn xc] rfl rfl (fun ad' h j u hj=>by cases h;exact zam HY.out.1 hj) (fun u hu=>zan hu) (fun h=>by cases h) om om HY.out.2.1.size ?_;intro v2 W2 hown hgrow;have HF:=hH (aN hown (HY.out.2.1.grown hgrow HY.out.2.1.size (fun y hy=>(zi HY.out.2.2 hy).1)));clear hown hgrow)
   obtain⟨qa,qc,rfl⟩:=zt HF.out.1
   have HBW:=hH (HB.out.1.trans (HF.out.2.mono HB.out.1.size))
   clear q0 q1 q2 q3
   have HT:=hH (show ∀ad' :Addr,none=some ad'→∀j u,(xs.drop (0*4))[j]? =some u→W2.cell? (ad'.add j)=some u from fun ad' h j u hj=>by cases h)
   go_wp2_with (at_builtin;refine zT rfl (.tmp 17) (.tmp 20) rfl B.heap.size (.slice qa (0+1) qc) (0+1) (xs.take (0*4)++[.int .i64 x.id,.int .i64 x.kind,.string x.text,.slice xa xn xc]) rfl HF.out.1 none 0 c (xs.drop (0*4)) rfl HL.out.2 HT.out (fun u hu=>HO.out u (List.mem_of_mem_drop hu)) (fun _=>rfl) om om HF.out.2.size ?_;intro v3 W3 hown hgrow;have HG:=hH (aN hown (HF.out.2.grown hgrow HF.out.2.size (fun y hy=>(zi HF.out.1 hy).1)));clear hown hgrow)
   have hg:=HG.out.1
   exact se8
 | some ad=>
   go_upto_region 3 with (at_builtin;refine zT rfl (.tmp 8) (.tmp 11) rfl B.heap.size (.slice none 0 0) 0 [] rfl (World.ownsRow_nil _ _ _ _) (some ad) k c (xs.take (k*4)) rfl HL.out.1 (fun ad' h j u hj=>HC.out _ HB.out.1 ad' h j u (take_at hj)) (fun u hu=>HO.out u (List.mem_of_mem_take hu)) (fun h=>by cases h) om om (NlrQ _) ?_;intro v1 W1 hown hgrow;rw[Nat.zero_add,List.nil_append] at hown;have HE:=hH (aN hown ((BrQ B.heap.size B).grown hgrow (NlrQ _) (fun y hy=>by cases hy)));clear hown hgrow)
   obtain⟨oa,oc,rfl⟩:=zt HE.out.1
   have hx0:W1.heap[w.heap.size]? =some (.cells #[.int .i64 x.id,.int .i64 x.kind,.string x.text,.slice xa xn xc] 27 (0,0)):=(HE.out.2.block _ (lohQ HB.out.2)).trans HB.out.2
   obtain⟨q0,q1,q2,q3⟩:=zF hx0
   obtain⟨Y,hY⟩:∃Y,Y=W1.alloc (.cells #[.int .i64 x.id,.int .i64 x.kind,.string x.text,.slice xa xn xc] 27):=⟨_,rfl⟩
   have hbY:Below W1.heap.size W1 Y:=by rw[hY];exact (BrQ _ _).alloc (NlrQ _) _
   have HY:=hH (aN (show Y.heap[W1.heap.size]? =some (.cells #[.int .i64 x.id,.int .i64 x.kind,.string x.text,.slice xa xn xc] 27 (0,0)) by rw[hY];exact hanQ _ _) (aN (HE.out.2.trans (hbY.mono HE.out.2.size)) (zA HE.out.1 fun g cur hg _=>hbY.block g (lohQ hg))))
   have HYE:=hH hY
   clear hx0 hY hbY
   go_upto_region 4 with (at_builtin;change wpList _ _ _ _ _ (W1.alloc (.cells #[.int .i64 x.id,.int .i64 x.kind,.string x.text,.slice xa xn xc] 27));rw[←HYE.out];refine zT rfl (.tmp 13) (.tmp 15) rfl B.heap.size (.slice oa k oc) k (xs.take (k*4)) rfl HY.out.2.2 (some ⟨W1.heap.size,0,none⟩) 1 1 [.int .i64 x.id,.int .i64 x.kind,.string x.text,.slice xa xn xc] rfl rfl (fun ad' h j u hj=>by cases h;exact zam HY.out.1 hj) (fun u hu=>zan hu) (fun h=>by cases h) om om HY.out.2.1.size ?_;intro v2 W2 hown hgrow;have HF:=hH (aN hown (HY.out.2.1.grown hgrow HY.out.2.1.size (fun y hy=>(zi HY.out.2.2 hy).1)));clear hown hgrow)
   obtain⟨qa,qc,rfl⟩:=zt HF.out.1
   have HBW:=hH (HB.out.1.trans (HF.out.2.mono HB.out.1.size))
   clear q0 q1 q2 q3
   by_cases hck:c=k
   · subst hck
     have HT:=hH (show ∀ad',some ad=some ad'→∀j u,(xs.drop (c*4))[j]? =some u→W2.cell? (ad'.add j)=some u from fun ad' h j u hj=>by have h2:=(List.getElem?_eq_some_iff.1 hj).1;rw[HL.out.2] at h2;omega)
     go_wp2_with (at_builtin;refine zT rfl (.tmp 17) (.tmp 20) rfl B.heap.size (.slice qa (c+1) qc) (c+1) (xs.take (c*4)++[.int .i64 x.id,.int .i64 x.kind,.string x.text,.slice xa xn xc]) rfl HF.out.1 (some ad) 0 0 (xs.drop (c*4)) rfl (by rw[HL.out.2];omega) HT.out (fun u hu=>HO.out u (List.mem_of_mem_drop hu)) (fun h=>by cases h) om om HF.out.2.size ?_;intro v3 W3 hown hgrow;have HG:=hH (aN hown (HF.out.2.grown hgrow HF.out.2.size (fun y hy=>(zi HF.out.1 hy).1)));clear hown hgrow)
     have hg:=HG.out.1
     rw[show c+1+0=c+1+(n - c) by omega] at hg
     exact se8
   · have HT:=hH (show ∀ad',some (ad.add (k*4))=some ad'→∀j u,(xs.drop (k*4))[j]? =some u→W2.cell? (ad'.add j)=some u from fun ad' h j u hj=>by cases h;rw[zg6];exact HC.out _ HBW.out ad rfl _ u (by rw[List.getElem?_drop] at hj;exact hj))
     go_wp2_with (at_builtin;refine zT rfl (.tmp 17) (.tmp 20) rfl B.heap.size (.slice qa (k+1) qc) (k+1) (xs.take (k*4)++[.int .i64 x.id,.int .i64 x.kind,.string x.text,.slice xa xn xc]) rfl HF.out.1 (some (ad.add (k*4))) (n - k) (c - k) (xs.drop (k*4)) rfl HL.out.2 HT.out (fun u hu=>HO.out u (List.mem_of_mem_drop hu)) (fun h=>by cases h) om om HF.out.2.size ?_;intro v3 W3 hown hgrow;have HG:=hH (aN hown (HF.out.2.grown hgrow HF.out.2.size (fun y hy=>(zi HF.out.1 hy).1)));clear hown hgrow)
     obtain⟨ra,rc,rfl,hend⟩:=zal HA.out.1 HA.out.2.1 HA.out.2.2.1 HA.out.2.2.2.1 HA.out.2.2.2.2.1 HA.out.2.2.2.2.2 HB.out.1.size HG.out.1 (HB.out.1.trans (HG.out.2.mono HB.out.1.size))
     have HEND:=hH hend
     clear hend
     go_ret
     exact HEND.out
theorem Qy (w:World)(S:Nat→Prop)(v:Value)(t p:Tr)(id:Int)(m:Nat)(hpar:QZ id t=some (p,m))(hmp:m<foLen p.kids)(hp:za p.kids≤za t.kids)(hd:za (yA p.kids m)≤400000)(ht:za t.kids<400000)(hS:∀q,S q→q<w.heap.size)(hv:zK w S v t):
 Calls Try.prog 62 #[v,.int .i64 id] w (zcu (kY id (yA p.kids m) t) w):=by
 obtain⟨ka,cap,rfl,hcap,hkk⟩:=hv
 obtain⟨len,hlen⟩:∃len,len=foLen t.kids:=⟨_,rfl⟩
 obtain⟨B,hB⟩:∃B,B=zx w [.cells #[.int .i64 t.id,.int .i64 t.kind,.string t.text,.slice ka len cap] 27,.cells #[.int .i64 0,.int .i64 0,.string ⟨#[]⟩,.slice none 0 0] 27]:=⟨_,rfl⟩
 have hb:Below w.heap.size w B:=by rw[hB];exact zl _ _
 have e0:B.heap[w.heap.size]? =some (.cells #[.int .i64 t.id,.int .i64 t.kind,.string t.text,.slice ka len cap] 27 (0,0)):=by rw[hB];exact ze _ _ 0 _ rfl
 have e1:B.heap[w.heap.size+1]? =some (.cells #[.int .i64 0,.int .i64 0,.string ⟨#[]⟩,.slice none 0 0] 27 (0,0)):=by rw[hB];exact ze _ _ 1 _ rfl
 have hc:=zdr 400000 B S (.agg #[.int .i64 t.id,.int .i64 t.kind,.string t.text,.slice ka len cap]) t id ht om (fun q hq=>nL (hS q hq) hb.size) ⟨ka,cap,by rw[hlen],hcap,hkk.below hb hS⟩
 rw[←hlen]
 have HC:=hH hc
 have HB:=hH (aN hb (aN e0 e1))
 have HH:=hH (aN hpar (aN hmp (aN hp (aN hd (aN ht (aN hS (aN hkk (aN hcap hlen))))))))
 have HBE:=hH hB
 obtain⟨p0,p1,p2,p3⟩:=zF e0
 clear hc hb e0 e1 hpar hmp hp hd ht hS hkk hcap hlen hB
 go_enter Try.func62,Try.ntmps62
 go_upto_region 1 with fail
 change Code.wp _ _ _ _ (zx w [.cells #[.int .i64 t.id,.int .i64 t.kind,.string t.text,.slice ka len cap] 27,.cells #[.int .i64 0,.int .i64 0,.string ⟨#[]⟩,.slice none 0 0] 27])
 rw[←HBE.out]
 clear HBE
 go_wp2_with fail
 refine HC.out.mono ?_
 rintro e w2 ⟨z,m',bb,pa,pn,pc,rfl,h1,h0,hb2⟩
 cases bb
 · have:=h0 rfl
   rw[HH.out.1] at this;cases this
 obtain⟨hz,hpn,hpc,hpf⟩:=h1 rfl
 rw[HH.out.1] at hz
 cases hz
 obtain⟨W3,hW3⟩:∃W3,W3=w2.alloc (.cells #[.int .i64 p.id,.int .i64 p.kind,.string p.text,.slice pa pn pc] 27):=⟨_,rfl⟩
 have hb3:Below w2.heap.size w2 W3:=by rw[hW3];exact (BrQ _ _).alloc (NlrQ _) _
 have eG:W3.heap[w2.heap.size]? =some (.cells #[.int .i64 p.id,.int .i64 p.kind,.string p.text,.slice pa pn pc] 27 (0,0)):=by rw[hW3];exact hanQ _ _
 obtain⟨G,hG⟩:∃G,G=w2.heap.size:=⟨_,rfl⟩
 have hbB3:Below B.heap.size B W3:=hb2.trans (hb3.mono hb2.size)
 have hbw3:=HB.out.1.trans (hbB3.mono HB.out.1.size)
 have hpf3:zk W3 S p.kids pa:=hpf.kept fun q hq=>⟨hq,hb3.block q (nL (HH.out.2.2.2.2.2.1 q hq) (NltQ HB.out.1.size hb2.size))⟩
 obtain⟨xs,hxr,hxl,hxc,hxo⟩:=zcK p.kids hpf3
 rw[←hpn] at hxl
 have hpn5:pn≤400000:=by rw[hpn];have:=zM p.kids;have:=HH.out.2.2.1;have:=HH.out.2.2.2.2.1;omega
 have HW3:=hH hW3
 rw[←hG] at eG
 have HA:=hH (aN hbw3 (aN eG (aN (hbB3.block _ (lohQ HB.out.2.1)) (aN (hbB3.block _ (lohQ HB.out.2.2)) (aN hpf3 (aN hxr (aN hxl (aN hxc (aN hxo (aN hpn hbB3))))))))))
 clear hb2 hb3 hW3 eG hbB3 hbw3 hpf3 hxr hxl hxc hxo hpf hpc h1 h0 HC p0 p1 p2 p3 hpn
 go_upto_region 2 with fail
 change Code.wp _ _ _ _ (w2.alloc (.cells #[.int .i64 p.id,.int .i64 p.kind,.string p.text,.slice pa pn pc] 27))
 rw[←HW3.out,←hG]
 clear HW3 hG
 go_wp2_with fail
 go_loopw [8,9] (fun kv i wr=>∃(k:Nat) (v:Value),k≤pn∧v=kv∧i= .int .i64 (k:Int)∧Hid (Below W3.heap.size W3 wr∧wr.ownsRow W3.heap.size 27 4 v (QI m k) (zaD xs m k))) (fun _ i _=>pn - (intOf i).toNat)
 case atStart=>exact⟨0,_,NzlQ _,rfl,rfl,hH ⟨BrQ _ _,by have h:=World.ownsRow_nil W3 W3.heap.size 27 4;unfold QI zaD;simpa using h⟩⟩
 case round=>
  obtain⟨k,kv,hk,rfl,rfl,hh⟩:=hrel
  obtain⟨wo,hwo⟩:∃wo,wo=wr:=⟨_,rfl⟩
  subst hwo
  have eG:=(hh.out.1.block _ (lohQ HA.out.2.1)).trans HA.out.2.1
  obtain⟨g0,g1,g2,g3⟩:=zF eG
  by_cases hlt:k<pn
  · have hkl:(k:Int)<(pn:Int):=by omega
    by_cases hkm:k=m
    · subst hkm
      have hkm2:((k:Int) == (k:Int))=true:=by simp
      have HI:=hH hh.out
      clear hh eG
      go_wp2_with fail
      exact⟨⟨k+1,_,by omega,rfl,by go_num,hH ⟨HI.out.1,by rw[(zbu xs k).1,(zbu xs k).2];exact HI.out.2⟩⟩,by simp[intOf];omega⟩
    · have hkm2:¬(k:Int)=(m:Int):=by omega
      have hkm3:((k:Int) == (m:Int))=false:=by simpa using hkm2
      obtain⟨b0,o0,⟨ui,uk,ut⟩,l,r,hd1,b,off,a1,n1,rfl,hSb,c0,c1,c2,c3,_,_⟩:=HA.out.2.2.2.2.1.at k (by rw[←HA.out.2.2.2.2.2.2.2.2.2.1];exact hlt)
      simp only at c0 c1 c2
      have hget:∀(j:Nat) (c:Value),j<4→W3.cell? ⟨b,off+(k*4+j),none⟩=some c→xs[k*4+j]? =some c:=fun j c hj hc=>by
       obtain⟨u,hu⟩:∃u,xs[k*4+j]? =some u:=⟨_,List.getElem?_eq_getElem (by rw[HA.out.2.2.2.2.2.2.1];omega)⟩
       have h:=HA.out.2.2.2.2.2.2.2.1 _ rfl _ _ hu
       rw[Addr.add_mid] at h
       rw[h] at hc;cases hc;exact hu
      have h4:=ziQ (hget 0 _ om (by simpa using c0)) (hget 1 _ om c1) (hget 2 _ om c2) (hget 3 _ om c3)
      rw[Nat.add_zero] at h4
      have hbl:=hh.out.1.block b (nL (HH.out.2.2.2.2.2.1 b hSb) HA.out.1.size)
      have d0:=(World.cell?_of_block (a:=⟨b,off+k*4,none⟩) hbl).trans c0
      have d1:=(World.cell?_of_block (a:=⟨b,off+k*4+1,none⟩) hbl).trans c1
      have d2:=(World.cell?_of_block (a:=⟨b,off+k*4+2,none⟩) hbl).trans c2
      have d3:=(World.cell?_of_block (a:=⟨b,off+k*4+3,none⟩) hbl).trans c3
      obtain⟨m1,hm1⟩:∃m,m=foLen l:=⟨_,rfl⟩
      rw[←hm1] at d3 h4
      obtain⟨Y,hY⟩:∃Y,Y=wo.alloc (.cells #[.int .i64 ui,.int .i64 uk,.string ut,.slice a1 m1 n1] 27):=⟨_,rfl⟩
      have hbY:Below wo.heap.size wo Y:=by rw[hY];exact (BrQ _ _).alloc (NlrQ _) _
      have HY:=hH (aN (show Y.heap[wo.heap.size]? =some (.cells #[.int .i64 ui,.int .i64 uk,.string ut,.slice a1 m1 n1] 27 (0,0)) by rw[hY];exact hanQ _ _) (aN (hh.out.1.trans (hbY.mono hh.out.1.size)) (zA hh.out.2 fun g cur hg _=>hbY.block g (lohQ hg))))
      have HYE:=hH hY
      have hst:=zf4 (xs:=xs) hkm
      rw[h4] at hst
      have HST:=hH hst
      have hcn:QI m k≤400000:=by unfold QI;split<;>omega
      obtain⟨cn,hcnn⟩:∃cn,cn=QI m k:=⟨_,rfl⟩
      obtain⟨ox,hox⟩:∃ox,ox=zaD xs m k:=⟨_,rfl⟩
      rw[←hcnn,←hox] at HST HY
      rw[←hcnn] at hcn
      clear hh eG hd1 hSb c0 c1 c2 c3 hget h4 hbl hm1 hY hbY hst hkm hcnn hox
      go_wp2_with (at_builtin;change wpList _ _ _ _ _ (wo.alloc (.cells #[.int .i64 ui,.int .i64 uk,.string ut,.slice a1 m1 n1] 27));rw[←HYE.out];refine zT rfl (.tmp 27) (.tmp 33) rfl W3.heap.size kv cn ox rfl HY.out.2.2 (some ⟨wo.heap.size,0,none⟩) 1 1 [.int .i64 ui,.int .i64 uk,.string ut,.slice a1 m1 n1] rfl rfl (fun ad' h j u hj=>by cases h;exact zam HY.out.1 hj) (fun u hu=>zan hu) (fun h=>by cases h) om om HY.out.2.1.size ?_;intro v2 W2 hown hgrow;have HF:=hH (aN hown (HY.out.2.1.grown hgrow HY.out.2.1.size (fun y hy=>(zi HY.out.2.2 hy).1)));clear hown hgrow)
      exact⟨⟨k+1,_,by omega,rfl,by go_num,hH ⟨HF.out.2,by rw[←HST.out.1,HST.out.2];exact HF.out.1⟩⟩,by simp[intOf];omega⟩
  · have hkl:¬(k:Int)<(pn:Int):=by omega
    obtain rfl:k=pn:=by omega
    obtain⟨hbw3,_,ht3,hz3,_,hxr,hxl,_,_,hpn,hbB3⟩:=HA.out
    have hmk:m<k:=by rw[hpn];exact HH.out.2.1
    obtain⟨oe,ce⟩:=zh2 hxl hmk
    have hown:=hh.out.2
    rw[oe,ce] at hown
    obtain⟨oa,oc,rfl⟩:=zt hown
    have hn:k - 1=foLen (yA p.kids m):=by have:=J3 p.kids m HH.out.2.1;omega
    have hrow:=J4 p.kids m xs hxr HH.out.2.1
    have hSw:∀q,S q→q<wo.heap.size∧wo.heap[q]? =W3.heap[q]?:=fun q hq=>by
     have h:=nL (HH.out.2.2.2.2.2.1 q hq) hbw3.size
     exact⟨nL h hh.out.1.size,hh.out.1.block q h⟩
    have hfo:zk wo (fun q=>q<wo.heap.size) (yA p.kids m) oa:=zbX hn hown (hrow.kept hSw) (fun q hq=>(zi hown hq).2)
    have hbw:=hbw3.trans (hh.out.1.mono hbw3.size)
    have htr:zk wo (fun q=>q<wo.heap.size) t.kids ka:=HH.out.2.2.2.2.2.2.1.kept fun q hq=>⟨(hSw q hq).1,hbw.block q (HH.out.2.2.2.2.2.1 q hq)⟩
    have hc:=zij id (yA p.kids m) oa (k - 1) oc hn HH.out.2.2.2.1 400000 wo _ (.agg #[.int .i64 t.id,.int .i64 t.kind,.string t.text,.slice ka len cap]) t HH.out.2.2.2.2.1 (NlrQ _) (fun q hq=>hq) hfo ⟨ka,cap,by rw[HH.out.2.2.2.2.2.2.2.2],HH.out.2.2.2.2.2.2.2.1,htr⟩
    obtain⟨r,hr⟩:∃r,r=kY id (yA p.kids m) t:=⟨_,rfl⟩
    rw[←hr] at hc
    have HRR:=hH hr
    have HC:=hH hc
    have hT3:=ht3.trans HB.out.2.1
    have hZ3:=hz3.trans HB.out.2.2
    have hT:=(hh.out.1.block _ (lohQ hT3)).trans hT3
    have hZ:=(hh.out.1.block _ (lohQ hZ3)).trans hZ3
    obtain⟨p0,p1,p2,p3⟩:=zF hT
    have HZB:=hH (aN hZ hbw)
    clear hh hown hrow hSw hfo hbw htr hc hr hT3 hZ3 hT hZ oe ce hbw3 ht3 hz3 hxr hxl hpn hbB3 hn hlt hk
    go_wp2_with fail
    refine HC.out.mono ?_
    rintro e W ⟨va,vc,rfl,hvc,hvf,hb⟩
    obtain⟨rn,hrn⟩:∃rn,rn=foLen r.kids:=⟨_,rfl⟩
    rw[←hrn] at hvc ⊢
    have f1:=(hb.block _ (lohQ HZB.out.1)).trans HZB.out.1
    obtain⟨z0,z1,z2,z3⟩:=zF f1
    have gz:∀j,W.frozen? ⟨w.heap.size+1,j,none⟩=false:=fun j=>forQ _ _ j _ _ f1
    have HZ:=hH (zX f1 (.int .i64 r.id) (.int .i64 r.kind) (.string r.text) (.slice va rn vc))
    have HW:=hH (aN hvc (aN hvf (aN (HZB.out.2.trans (hb.mono HZB.out.2.size)) (aN (lohQ HZB.out.1) hrn))))
    clear hvc hvf hb f1 p0 p1 p2 p3 hrn g0 g1 g2 g3
    go_wp2_with fail
    refine brQ (results_cell_row rfl _ _ (w.heap.size+1) 27 _ _ _ rfl HZ.out.1 Try.underlying27 rfl kr1) rfl ?_
    have hs:=(HZ.out.2.1 w.heap.size om).size
    show zcu (kY id (yA p.kids m) t) w _ _
    rw[←HRR.out]
    exact⟨va,vc,by rw[←HW.out.2.2.2.2],by rw[←HW.out.2.2.2.2];exact HW.out.1,HW.out.2.1.kept fun q hq=>⟨⟨NltQ HZB.out.2.size hq.1,nL hq.2 hs⟩,HZ.out.2.2 q (by have:=hq.1;have:=HW.out.2.2.2.1;omega)⟩,HW.out.2.2.1.trans (HZ.out.2.1 _ om)⟩
end Go.Proofs.Ytnikgofkldkdkaa
