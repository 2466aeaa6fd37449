/-
  .
-/
import Derived.Test.YtnikgofkldkdkaaNOfWQt
import Derived.Test.YtnikgofkldkdkaaRDoQt
set_option maxRecDepth 100000
set_option maxHeartbeats 40000000
set_option linter.unusedVariables false
set_option linter.unusedSimpArgs false
namespace Go.Proofs.Ytnikgofkldkdkaa
open Go.RowKit Go.Shelf
theorem zdt:∀(f:Fo) (i:Nat) (x y:Tr),vv (yR f i x) i y=yR f i y
 | f,0,x,y=>by rw[vk,vk];rfl
 | .nil,i+1,x,y=>by simp[yR,vv]
 | .node b o k l r,i+1,x,y=>by simp only[yR,vv];rw[zdt r i x y]
theorem zdg:∀(q:List Nat) (t m:Tr) (r:List Nat) (v:Tr),atT t q=some m→zP t (q++r) v=zP t q (zP m r v)
 | [],t,m,r,v,h=>by cases h;rfl
 | i ::q,t,m,r,v,h=>by
   simp only[atT] at h
   cases hk:zB t.kids i with
   | none=>rw[hk] at h;cases h
   | some u=>
     rw[hk] at h
     simp only at h
     simp only[List.cons_append,zP,hk]
     rw[zdg q u m r v h]
theorem za0 (id:Int)(tx:ByteArray):∀f:Fo,(wiF id tx f).2=true→∃i u p w,zB f i=some u∧atT u p=some w∧w.id=id∧(wiF id tx f).1=vv f i (zP u p ⟨w.id,w.kind,tx,w.kids⟩)
 | .nil,h=>by cases h
 | .node x y k l r,h=>by
   rw[wiF] at h ⊢
   split at h
   · rename_i h1
     exact⟨0,⟨k.1,k.2.1,k.2.2,l⟩,[],⟨k.1,k.2.1,k.2.2,l⟩,rfl,rfl,h1,by rw[ipQ h1];rfl⟩
   · rename_i h1
     rw[inQ h1]
     split at h
     · rename_i h2
       obtain⟨i,u,p,w,hu,hw,hid,he⟩:=za0 id tx l h2
       refine⟨0,⟨k.1,k.2.1,k.2.2,l⟩,i::p,w,rfl,by simp only[atT,hu];exact hw,hid,?_⟩
       rw[ipQ h2]
       simp only[zP,hu,vv]
       rw[he]
     · rename_i h2
       obtain⟨i,u,p,w,hu,hw,hid,he⟩:=za0 id tx r h
       refine⟨i+1,u,p,w,hu,hw,hid,?_⟩
       rw[inQ h2]
       simp only[vv]
       rw[he]
theorem zix {id:Int}{tx:ByteArray}{x:Tr}(h:(wiT id tx x).2=true):∃p w,atT x p=some w∧w.id=id∧(wiT id tx x).1=zP x p ⟨w.id,w.kind,tx,w.kids⟩:=by
 unfold wiT at h ⊢
 split at h
 · rename_i h1
   exact⟨[],x,rfl,h1,by rw[ipQ h1];rfl⟩
 · rename_i h1
   split at h
   · rename_i h2
     obtain⟨i,u,p,w,hu,hw,hid,he⟩:=za0 id tx x.kids h2
     refine⟨i::p,w,by simp only[atT,hu];exact hw,hid,?_⟩
     rw[inQ h1,ipQ h2]
     simp only[zP,hu]
     rw[he]
   · cases h
theorem zd9 (id:Int)(tx:ByteArray):∀f:Fo,idF (wiF id tx f).1=idF f
 | .nil=>rfl
 | .node x y k l r=>by
   rw[wiF]
   split
   · rfl
   · split
     · simp only[idF];rw[zd9 id tx l]
     · simp only[idF];rw[zd9 id tx r]
theorem zj2 (id:Int)(tx:ByteArray)(t:Tr):idT (wiT id tx t).1=idT t:=by
 unfold wiT
 split
 · rfl
 · split
   · simp only[idT];rw[zd9]
   · rfl
theorem zgz {id:Int}{a b:ByteArray}{t y u:Tr}(hd:qR t)(h1:qQ id a t=(y,0))(h2:qQ id b y=(u,0)):qQ id b t=(u,0):=by
 have hdy:=Za (op:=4) (id:=id) (par:=0) (at_:=0) (tx:=a) (x:=zG) hd (by rw[JA];exact h1)
 obtain⟨p,n,hp,hn,hid,hy⟩:=zgF h1
 have hyp:atT y p=some ⟨n.id,n.kind,a,n.kids⟩:=by rw[hy];exact zaI p t n _ hn
 have hyv:zw id y=some p:=by rw[←hid];exact jW (v:=⟨n.id,n.kind,a,n.kids⟩) hdy hyp
 rw[jm hyv hyp] at h2
 rw[jm hp hn,←h2]
 simp only
 rw[hy,Qv p t n _ _ hn]
theorem zhJ {par at_:Int}{x t y u:Tr}(hd:qR t)(h1:zN par at_ x t=(y,0))(h2:qm x.id y=(u,0)):u=t:=by
 have hdy:=Za (op:=1) (id:=0) (par:=par) (at_:=at_) (tx:=⟨#[]⟩) (x:=x) hd (by rw[Yh];exact h1)
 obtain⟨q,z,hq,hz,hid,ha,hb,hy,hf⟩:=YH h1
 have hnz:at_.toNat≤foLen z.kids:=by omega
 have hyq:atT y q=some ⟨z.id,z.kind,z.text,yR z.kids at_.toNat x⟩:=by rw[hy];exact zaI q t z _ hz
 have hyx:zw x.id y=some (q++[at_.toNat]):=jW hdy (Y7 hyq (ZU z.kids _ x hnz))
 rw[Zp hyx hyq (ZU z.kids _ x hnz)] at h2
 have:=(Prod.mk.inj h2).1
 rw[←this]
 simp only
 rw[zbT _ _ _ hnz,hy,Qv q t z _ _ hz]
 exact zch q t z hz
theorem zhL {par at_ id:Int}{tx:ByteArray}{x t y u:Tr}(hd:qR t)(h1:zN par at_ x t=(y,0))(h2:qQ id tx y=(u,0))(hw:(wiT id tx x).2=true):zN par at_ (wiT id tx x).1 t=(u,0):=by
 have hdy:=Za (op:=1) (id:=0) (par:=par) (at_:=at_) (tx:=⟨#[]⟩) (x:=x) hd (by rw[Yh];exact h1)
 obtain⟨q,z,hq,hz,hid,ha,hb,hy,hf⟩:=YH h1
 have hnz:at_.toNat≤foLen z.kids:=by omega
 obtain⟨p,n,hn,hnid,hx⟩:=zix hw
 obtain⟨m,hm⟩:∃m:Tr,m=⟨z.id,z.kind,z.text,yR z.kids at_.toNat x⟩:=⟨_,rfl⟩
 have hyq:atT y q=some m:=by rw[hy,hm];exact zaI q t z _ hz
 have hmk:zB m.kids at_.toNat=some x:=by rw[hm];exact ZU z.kids _ x hnz
 have hyp:atT y (q++at_.toNat::p)=some n:=by
  rw[vI,hyq]
  simp only[Option.bind_some,atT,hmk]
  exact hn
 have hyv:zw id y=some (q++at_.toNat::p):=by rw[←hnid];exact jW hdy hyp
 rw[jm hyv hyp] at h2
 have hu:=(Prod.mk.inj h2).1
 have hpk:kX par at_ t (wiT id tx x).1=(zP t q ⟨z.id,z.kind,z.text,yR z.kids at_.toNat (wiT id tx x).1⟩,0):=by
  rw[vo hq hz,ipQ ⟨ha,hb⟩]
 rw[zN,hpk,ipQ rfl,zj2,hf,←hu,zdg q y m _ _ hyq]
 simp only[zP,hmk]
 rw[←hx,hy,Qv q t z _ _ hz,hm]
 simp only
 rw[zdt]
theorem zfW {id pa qa pb qb:Int}{t y u:Tr}(hd:qR t)(h1:yI id pa qa t=(y,0))(h2:yI id pb qb y=(u,0)):yI id pb qb t=(u,0):=by
 have hdy:=Za (op:=3) (id:=id) (par:=pa) (at_:=qa) (tx:=⟨#[]⟩) (x:=zG) hd (by rw[zck];exact h1)
 obtain⟨p,i,u0,v,q,z,hi,hu,hv,hvid,hq,hz,ha,hb,hy⟩:=zax h1
 have hnz:qa.toNat≤foLen z.kids:=by omega
 obtain⟨rest,hrest⟩:∃rest,rest=zP t p ⟨u0.id,u0.kind,u0.text,yA u0.kids i⟩:=⟨_,rfl⟩
 rw[←hrest] at hq hz hy
 have hyq:atT y q=some ⟨z.id,z.kind,z.text,yR z.kids qa.toNat v⟩:=by rw[hy];exact zaI q _ z _ hz
 have hkv:=ZU z.kids qa.toNat v hnz
 have hyv:zw id y=some (q++[qa.toNat]):=by rw[←hvid];exact jW hdy (Y7 hyq hkv)
 obtain⟨p',i',u',v',q',z',hi',hu',hv',_,hq',hz',ha',hb',hux⟩:=zax h2
 rw[hyv] at hi'
 obtain⟨e1,e2⟩:=List.append_inj' (Option.some.inj hi') rfl
 cases e2
 rw[←e1,hyq] at hu'
 have e3:=Option.some.inj hu'
 rw[←e3] at hv' hq' hz' hux
 simp only at hv' hq' hz' hux
 rw[hkv] at hv'
 have e4:=Option.some.inj hv'
 rw[←e1,zbT _ _ _ hnz,hy,Qv q rest z _ _ hz,zch q rest z hz] at hq' hz' hux
 rw[←e4] at hux
 have cr:∀a,qp a rest+qp a v=qp a t:=fun a=>by
  have h1:=zeW a p t u0 ⟨u0.id,u0.kind,u0.text,yA u0.kids i⟩ hu
  have h2:=zbS a u0.kids i v hv
  rw[←hrest] at h1
  simp only[qp] at h1 h2 ⊢
  omega
 have ht:=(Qf t).1 hd
 obtain⟨z2,hz2,hzid⟩:=qE _ _ _ hq'
 rw[hz'] at hz2
 cases hz2
 have hpb:0<qp pb rest:=by
  have h1:=zbR pb q' rest z' hz'
  have h2:=JZ z'
  rw[hzid] at h2
  omega
 obtain⟨q0,hq0⟩:=zgb (a:=pb) (t:=t) (by have:=cr pb;omega)
 have hw:vz id pb t=false:=by
  rw[YX hi hq0]
  refine decide_eq_false fun hpre=>?_
  obtain⟨r,hr⟩:=hpre
  obtain⟨n,hn,hnid⟩:=qE _ _ _ hq0
  rw[←hr,vI,Y7 hu hv] at hn
  simp only[Option.bind_some] at hn
  have h1:=zbR pb r v n hn
  have h2:=JZ n
  rw[hnid] at h2
  have:=cr pb;have:=ht pb;omega
 rw[Qo hi hq0 hw hu hv,←hrest,vo hq' hz',ipQ ⟨ha',hb'⟩,hux]
def onN (G ok:Tr→Bool)(s:Sf)(t:Tr):Option Tr:=if G t=true∧G s.sub=true∧(yx s.op s.id s.par s.at_ s.tx s.sub t).2=0∧ok (yx s.op s.id s.par s.at_ s.tx s.sub t).1=true then some (yx s.op s.id s.par s.at_ s.tx s.sub t).1 else none
def goN (G ok:Tr→Bool):List Sf→Tr→Option Tr
 | [],t=>some t
 | s ::r,t=>match onN G ok s t with
   | some u=>goN G ok r u
   | none=>none
theorem kV {G ok:Tr→Bool}{s:Sf}{t u:Tr}(h:onN G ok s t=some u):G t=true∧G s.sub=true∧yx s.op s.id s.par s.at_ s.tx s.sub t=(u,0)∧ok u=true:=by
 unfold onN at h
 split at h
 · rename_i hc
   cases h
   exact⟨hc.1,hc.2.1,Prod.ext rfl hc.2.2.1,hc.2.2.2⟩
 · cases h
theorem zce {G ok:Tr→Bool}{s:Sf}{t u:Tr}(h1:G t=true)(h2:G s.sub=true)(h3:yx s.op s.id s.par s.at_ s.tx s.sub t=(u,0))(h4:ok u=true):onN G ok s t=some u:=by
 unfold onN
 rw[h3,ipQ ⟨h1,h2,rfl,h4⟩]
theorem zda {G ok:Tr→Bool}{s:Sf}{t u:Tr}(hd:qR t)(h:onN G ok s t=some u):qR u:=Za hd (kV h).2.2.1
theorem ZO {G ok:Tr→Bool}{s:Sf}{r:List Sf}{t u:Tr}(h:goN G ok (s::r) t=some u):∃v,onN G ok s t=some v∧goN G ok r v=some u:=by
 rw[goN] at h
 cases hs:onN G ok s t with
 | none=>rw[hs] at h;cases h
 | some v=>rw[hs] at h;exact⟨v,rfl,h⟩
theorem zhD {G ok:Tr→Bool}(hG:∀x y:Tr,za x.kids=za y.kids→G x=G y){a b:Sf}{r:List Sf}{t u:Tr}(hd:qR t)(hp:(yC a b).2=true)(h:goN G ok (a::b::r) t=some u):goN G ok ((yC a b).1++r) t=some u:=by
 obtain⟨y,ha,h'⟩:=ZO h
 obtain⟨v,hb,h2⟩:=ZO h'
 clear h h'
 obtain⟨a1,a2,a3,a4⟩:=kV ha
 obtain⟨b1,b2,b3,b4⟩:=kV hb
 unfold yC at hp ⊢
 split at hp
 · rename_i hc
   rw[ipQ hc]
   obtain⟨c1,c2,c3⟩:=hc
   have :onN G ok b t=some v:=by
    refine zce a1 b2 ?_ b4
    rcases c2 with c2 | c2
    · have c4:b.op=4:=by rw[←c1];exact c2
      rw[c2,JA,c3] at a3
      rw[c4,JA] at b3 ⊢
      exact zgz hd a3 b3
    · have c4:b.op=3:=by rw[←c1];exact c2
      rw[c2,zck,c3] at a3
      rw[c4,zck] at b3 ⊢
      exact zfW hd a3 b3
   simp only[List.cons_append,List.nil_append,goN,this]
   exact h2
 · rename_i hc
   rw[inQ hc]
   split at hp
   · rename_i hc2
     rw[ipQ hc2]
     obtain⟨c1,c2,c3⟩:=hc2
     rw[c1,Yh] at a3
     rw[c2,zjl,←c3] at b3
     have:=zhJ hd a3 b3
     subst this
     exact h2
   · rename_i hc2
     rw[inQ hc2]
     split at hp
     · rename_i hc3
       rw[ipQ hc3]
       obtain⟨c1,c2,c3⟩:=hc3
       rw[c1,Yh] at a3
       rw[c2,JA] at b3
       have :onN G ok ⟨a.op,a.id,a.par,a.at_,a.tx,(wiT b.id b.tx a.sub).1⟩ t=some v:=by
        refine zce a1 ?_ ?_ b4
        · simp only
          rw[hG _ a.sub (QB a.sub)]
          exact a2
        · simp only
          rw[c1,Yh]
          exact zhL hd a3 b3 c3
       simp only[List.cons_append,List.nil_append,goN,this]
       exact h2
     · cases hp
theorem zcO {G ok:Tr→Bool}(hG:∀x y:Tr,za x.kids=za y.kids→G x=G y):∀{l:List Sf} {t u:Tr},qR t→goN G ok l t=some u→goN G ok (yu l).1 t=some u
 | [],t,u,_,h=>h
 | [a],t,u,_,h=>h
 | a ::b::r,t,u,hd,h=>by
   rw[yu]
   split
   · rename_i hp
     exact zhD hG hd hp h
   · obtain⟨y,ha,h2⟩:=ZO h
     rw[goN,ha]
     exact zcO hG (zda hd ha) h2
theorem zhC {G ok:Tr→Bool}(hG:∀x y:Tr,za x.kids=za y.kids→G x=G y):∀(n:Nat) {l:List Sf} {t u:Tr},qR t→goN G ok l t=some u→goN G ok (ofK n l) t=some u
 | 0,l,t,u,_,h=>h
 | n +1,l,t,u,hd,h=>by
   rw[ofK]
   split
   · exact zhC hG n hd (zcO hG hd h)
   · exact h
def QA (id:Int)(tx:ByteArray):Sf:=⟨4,id,0,0,tx,⟨0,0,⟨#[]⟩,.nil⟩⟩
def zkv (w:World)(id:Int)(tx:ByteArray)(e:Ending)(w' :World):Prop:=e= .returned (.agg #[.int .i8 4,.int .i64 id,.int .i64 0,.int .i64 0,.string tx,.int .i64 0,.int .i64 0,.string ⟨#[]⟩,.slice none 0 0])∧Below w.heap.size w w'
theorem vM (w:World)(id:Int)(tx:ByteArray):
 Calls Try.prog 21 #[.int .i64 id,.string tx] w (zkv w id tx):=by
 obtain⟨B,hB⟩:∃B,B=zx w [.cells #[.int .i8 0,.int .i64 0,.int .i64 0,.int .i64 0,.string ⟨#[]⟩,.int .i64 0,.int .i64 0,.string ⟨#[]⟩,.slice none 0 0] 49]:=⟨_,rfl⟩
 have hb:Below w.heap.size w B:=by rw[hB];exact zl _ _
 have er:B.heap[w.heap.size]? =some (.cells #[.int .i8 0,.int .i64 0,.int .i64 0,.int .i64 0,.string ⟨#[]⟩,.int .i64 0,.int .i64 0,.string ⟨#[]⟩,.slice none 0 0] 49 (0,0)):=by rw[hB];exact ze _ _ 0 _ rfl
 obtain⟨z0,z1,z2,z3,z4,z5,z6,z7,z8⟩:=zdY er
 have zf:∀j,B.frozen? ⟨w.heap.size,j,none⟩=false:=fun j=>forQ _ _ j _ _ er
 obtain⟨V,hV,r1,r2,r3,r4,r5,r6⟩:=zbr (u0:= .int .i8 4) (u1:= .int .i64 id) (u2:= .int .i64 0) (u3:= .int .i64 0) (u4:= .string tx) (u5:= .int .i64 0) (u6:= .int .i64 0) (u7:= .string ⟨#[]⟩) (u8:= .slice none 0 0) er
 have HE:=hH (aN hV r1)
 have HB:=hH (show Below w.heap.size w V from⟨r3.trans hb.os,r4.trans hb.tape,r5.trans hb.output,by rw[r6];exact hb.size,fun y hy=>(r2 y om).trans (hb.block y hy)⟩)
 have HBE:=hH hB
 clear hV r1 r2 r3 r4 r5 r6 er hb hB
 go_enter Try.func21,Try.ntmps21
 go_upto_region 1 with fail
 change Code.wp _ _ _ _ (zx w [.cells #[.int .i8 0,.int .i64 0,.int .i64 0,.int .i64 0,.string ⟨#[]⟩,.int .i64 0,.int .i64 0,.string ⟨#[]⟩,.slice none 0 0] 49])
 rw[←HBE.out]
 clear HBE
 go_wp2_with fail
 rw[←HE.out.1]
 exact brQ (results_cell_row rfl _ _ w.heap.size 49 _ (0,0) _ rfl HE.out.2 Try.underlying49 rfl kr1) rfl ⟨rfl,HB.out⟩
def zjR:Prop:=∀(w:World) (la:Option Addr) (n c:Nat) (vs:List SV),Y3 w la n c vs→YC vs→(∀x∈vs,Js x.s)→Calls Try.prog 9 #[.slice la n c] w (OfC (ofK n (steps vs)) w)
def zjP:Prop:=∀(w:World) (la:Option Addr) (n c:Nat) (vs:List SV),Y3 w la n c vs→YC vs→(∀x∈vs,Js x.s)→Calls Try.prog 22 #[.slice la n c] w (IsC (steps vs) w)
theorem ofFn:zjR:=fun w la n c vs h hs hw=>zja w la n c vs h (by rw[h.len];have:=hs.1;omega) (fun x hx=>by have:=hs.2 x hx;omega) hw
theorem zef:zjP:=fun w la n c vs h hs hw=>zi1 w la n c vs h (by rw[h.len];have:=hs.1;omega) (fun x hx=>by have:=hs.2 x hx;omega) hw
theorem zfd {w:World}{l:List SV}{b:Nat}(hb:w.heap[b]? =some (.cells (yL l).toArray 49 (0,0)))(hl:∀x∈l,x.s.sub.kids= .nil)(hn:l.length≤60):Y3 w (some ⟨b,0,none⟩) l.length l.length l∧YC l:=
 ⟨⟨⟨fun k x hx=>⟨b,0,rfl,lohQ hb,fun j u hj=>by rw[corQ _ _ _ _ _ _ hb,Nat.zero_add];simpa using Ya hx hj⟩,fun x hx=>by unfold qC;rw[hl x hx];exact⟨NzlQ _,True.intro⟩,fun x hx=>by rw[hl x hx];decide,by omega⟩,rfl,NlrQ _,fun h=>by cases h⟩,hn,fun x hx=>by rw[hl x hx];decide⟩
def txV (id:Int)(tx:ByteArray):SV:=⟨QA id tx,none,0⟩
def zkD:SV:=⟨⟨1,0,1,0,⟨#[]⟩,⟨5,0,⟨#[]⟩,.nil⟩⟩,none,0⟩
def zkA:SV:=⟨⟨2,5,0,0,⟨#[]⟩,⟨0,0,⟨#[]⟩,.nil⟩⟩,none,0⟩
theorem zki:ofK 3 (steps [txV 2 ⟨#[97]⟩,txV 2 ⟨#[98]⟩,txV 3 ⟨#[99]⟩])= [QA 2 ⟨#[98]⟩,QA 3 ⟨#[99]⟩]:=by kernel_rfl
theorem zkj:ofK 4 (steps [zkD,txV 5 ⟨#[97]⟩,txV 5 ⟨#[98]⟩,zkA])= []:=by kernel_rfl
theorem zkg:(yu [QA 2 ⟨#[98]⟩,QA 3 ⟨#[99]⟩]).2=false:=by kernel_rfl
theorem zkh:(yu (steps [txV 2 ⟨#[97]⟩,txV 2 ⟨#[98]⟩])).2=true:=by kernel_rfl
theorem zkb {vs:List SV}{s t:Sf}(h:steps vs= [s,t]):∃x y,vs= [x,y]∧x.s=s∧y.s=t:=by
 match vs,h with
 | [x,y],h=>
   simp[steps] at h
   exact⟨x,y,rfl,h.1,h.2⟩
theorem zaA:∀{f:Fo},za5 f→ZE f
 | .nil,_=>True.intro
 | .node _ _ k l r,h=>⟨h.1.2,zaA h.2.1,zaA h.2.2⟩
structure vY (s:Sf):Prop where
 op:(Lit.int .i8 s.op).wf=true
 id:(Lit.int .i64 s.id).wf=true
 key:zc9 (s.sub.id,s.sub.kind,s.sub.text)
 kids:za5 s.sub.kids
 tx:(s.tx.size:Int)≤9223372036854775807
 size:za s.sub.kids+1≤200
theorem vY.ok {s:Sf}(h:vY s):okF (spF 1 (zh s.sub)):=zcd 1 (zh s.sub) ⟨h.key,h.kids,True.intro⟩
theorem vY.wf {s:Sf}(h:vY s):Js s:=⟨⟨h.key.2,zaA h.kids,True.intro⟩,h.id⟩
theorem zir {s:Sf}(h:InG s)(hz:za s.sub.kids+1≤200):vY s:=⟨h.2.1.1,h.2.1.2.1,h.1.2.2.1,h.1.2.2.2,h.2.2,hz⟩
theorem zaZ (i:Int)(a:ByteArray)(ha:(a.size:Int)≤9223372036854775807):∀f:Fo,za5 f→za5 (wiF i a f).1
 | .nil,h=>h
 | .node x y k l r,⟨h1,h2,h3⟩=>by
   rw[wiF]
   split
   · exact⟨⟨ha,h1.2⟩,h2,h3⟩
   · split
     · exact⟨h1,zaZ i a ha l h2,h3⟩
     · exact⟨h1,h2,zaZ i a ha r h3⟩
theorem zeq {a b:Sf}(ha:vY a)(hb:vY b):∀s∈(yC a b).1,vY s:=by
 unfold yC
 intro s hs
 split at hs
 · simp at hs;rw[hs];exact hb
 · split at hs
   · simp at hs
   · split at hs
     · simp at hs
       rw[hs]
       have hz:=QB (id:=b.id) (tx:=b.tx) a.sub
       have hk:=zaZ b.id b.tx hb.tx _ ha.kids
       refine⟨ha.op,ha.id,?_,?_,ha.tx,by have:=ha.size;simp only;omega⟩
       · unfold wiT;split
         · exact⟨hb.tx,ha.key.2⟩
         · split
           · exact ha.key
           · exact ha.key
       · unfold wiT;split
         · exact ha.kids
         · split
           · exact hk
           · exact ha.kids
     · simp at hs
theorem zaC:∀{l:List Sf},(∀s∈l,vY s)→∀s∈(yu l).1,vY s
 | [],h=>h
 | [a],h=>h
 | a ::b::r,h=>fun s hs=>by
   rw[yu] at hs
   split at hs
   · rcases List.mem_append.1 hs with h1 | h1
     · exact zeq (h a sp1) (h b sp1) s h1
     · exact h s (by simp[h1])
   · rcases List.mem_cons.1 hs with rfl | h1
     · exact h s sp1
     · exact zaC (fun t ht=>h t (List.mem_cons_of_mem _ ht)) s h1
theorem zc8:∀(n:Nat) {l:List Sf},(∀s∈l,vY s)→∀s∈ofK n l,vY s
 | 0,l,h=>h
 | n +1,l,h=>by
   rw[ofK]
   split
   · exact zc8 n (zaC h)
   · exact h
def qN (t:Tr):Bool:=decide (za t.kids+1≤2000)
def JK (t:Tr):Bool:=true
def ZL (g:Gr)(t:Tr):Bool:=decide ((jE g t).2=0)
theorem zhS (x y:Tr)(h:za x.kids=za y.kids):qN x=qN y:=by unfold qN;rw[h]
theorem zdy {s:Sf}{t y:Tr}(h:stepG s.op s.id s.par s.at_ s.tx s.sub t=(y,0)):onN qN JK s t=some y:=by
 obtain⟨h1,h2⟩:=zaT h
 exact zce (decide_eq_true h1.1) (decide_eq_true h1.2) h2 rfl
theorem zbA {s:Sf}{t:Tr}(h:(stepG s.op s.id s.par s.at_ s.tx s.sub t).2≠0):onN qN JK s t=none:=by
 cases hn:onN qN JK s t with
 | none=>rfl
 | some y=>
   obtain⟨h1,h2,h3,_⟩:=kV hn
   refine absurd ?_ h
   unfold stepG
   rw[ipQ ⟨of_decide_eq_true h1,of_decide_eq_true h2⟩,h3]
theorem zho {g:Gr}{s:Sf}{t y:Tr}(h:doK g (stepG s.op s.id s.par s.at_ s.tx s.sub t)=(y,0)):onN qN (ZL g) s t=some y:=by
 obtain⟨r,hr⟩:∃r,r=stepG s.op s.id s.par s.at_ s.tx s.sub t:=⟨_,rfl⟩
 rw[←hr] at h
 by_cases h0:r.2=0
 · have e:r=(r.1,0):=Prod.ext rfl h0
   rw[e] at h
   have ht:(jE g r.1).2=0:=by
    by_cases hz:(jE g r.1).2=0
    · exact hz
    · exact absurd (by rw[h]) (zeY hz)
   rw[zd1 ht] at h
   have e1:=congrArg Prod.fst h
   simp only at e1
   obtain⟨h1,h2⟩:=zaT (hr.symm.trans e)
   rw[←e1]
   exact zce (decide_eq_true h1.1) (decide_eq_true h1.2) h2 (decide_eq_true ht)
 · exact absurd (by rw[h]) (zeZ (g:=g) h0)
theorem ze0 {g:Gr}{s:Sf}{t:Tr}(h:(doK g (stepG s.op s.id s.par s.at_ s.tx s.sub t)).2≠0):onN qN (ZL g) s t=none:=by
 cases hn:onN qN (ZL g) s t with
 | none=>rfl
 | some y=>
   obtain⟨h1,h2,h3,h4⟩:=kV hn
   refine absurd ?_ h
   unfold stepG
   rw[ipQ ⟨of_decide_eq_true h1,of_decide_eq_true h2⟩,h3,zd1 (of_decide_eq_true h4)]
theorem ZP {G ok:Tr→Bool}:∀{l:List Sf} {k:Nat} {t x y:Tr} {s:Sf},goN G ok (l.take k) t=some x→l[k]? =some s→onN G ok s x=some y→goN G ok (l.take (k+1)) t=some y
 | [],k,t,x,y,s,_,hs,_=>by simp at hs
 | r ::l,0,t,x,y,s,h,hs,hy=>by
   simp at hs;subst hs
   rw[List.take_zero] at h;cases h
   simp only[Nat.zero_add,List.take_succ_cons,List.take_zero,goN,hy]
 | r ::l,k+1,t,x,y,s,h,hs,hy=>by
   rw[List.take_succ_cons] at h ⊢
   obtain⟨v,h1,h2⟩:=ZO h
   rw[goN,h1]
   exact ZP h2 (by simpa using hs) hy
theorem ZQ {G ok:Tr→Bool}:∀{l:List Sf} {k:Nat} {t x:Tr} {s:Sf},goN G ok (l.take k) t=some x→l[k]? =some s→onN G ok s x=none→goN G ok l t=none
 | [],k,t,x,s,_,hs,_=>by simp at hs
 | r ::l,0,t,x,s,h,hs,hn=>by
   simp at hs;subst hs
   rw[List.take_zero] at h;cases h
   rw[goN,hn]
 | r ::l,k+1,t,x,s,h,hs,hn=>by
   rw[List.take_succ_cons] at h
   obtain⟨v,h1,h2⟩:=ZO h
   rw[goN,h1]
   exact ZQ h2 (by simpa using hs) hn
structure zdR (k:Nat) (t:Tr):Prop where
 zhn:qR t
 ok:okF (spF 1 (zh t))
 size:za t.kids≤200+201*k
theorem Yl {G ok:Tr→Bool}{k:Nat}{s:Sf}{t y:Tr}(h:zdR k t)(hs:vY s)(hy:onN G ok s t=some y):zdR (k+1) y:=by
 have h3:=(kV hy).2.2.1
 refine⟨zda h.zhn hy,(zaU h3).1.ok h.ok hs.ok hs.tx,?_⟩
 have hz:=zaV s.op s.id s.par s.at_ s.tx s.sub t
 rw[h3] at hz
 simp only at hz
 have:=h.size;have:=hs.size;omega
theorem zfk {u:Tr}(hu:okF (spF 1 (zh u))):∀i∈idT u,(Lit.int .i64 i).wf=true:=fun i hi=>by
 have hz:yX (QR i) u≠0:=by
  rw[vT]
  intro h0
  have h1:=(jo i (zh u)).1
  rw[Qe] at h1
  have h2:i∈jK (zh u):=by
   rw[zh,y8]
   rw[idT] at hi
   rcases List.mem_cons.1 hi with rfl | hi
   · exact List.mem_cons_self ..
   · have e:idF u.kids=jK u.kids:=zb0 u.kids
     rw[e] at hi
     exact List.mem_cons_of_mem _ (List.mem_append_left _ hi)
  have:=h1 h2
  omega
 obtain⟨y,hy,hp⟩:=(zcC (QR i) u).2 om
 have h3:=(hu y hy).2
 simp only[QR,decide_eq_true_eq] at hp
 rw[←hp];exact h3
def zjW (w:World)(e:Ending)(w' :World):Prop:=e= .returned (.bool true)∧Below w.heap.size w w'
theorem zhY (hO:zjR)(w:World)(l:List SV)(hl:∀x∈l,x.s.sub.kids= .nil∧Js x.s)(hn:l.length≤60):
 Calls Try.prog 9 #[.slice (some ⟨w.heap.size,0,none⟩) l.length l.length] (w.alloc (.cells (yL l).toArray 49)) (OfC (ofK l.length (steps l)) w):=by
 obtain⟨h1,h2⟩:=zfd (w:=w.alloc (.cells (yL l).toArray 49)) (l:=l) (hanQ _ _) (fun x hx=>(hl x hx).1) hn
 refine (hO _ _ _ _ l h1 h2 fun x hx=>(hl x hx).2).mono ?_
 rintro e w' ⟨a,n,c,vs,rfl,h3,h4,h5⟩
 have hb:Below w.heap.size w (w.alloc (.cells (yL l).toArray 49)):=(BrQ _ _).alloc (NlrQ _) _
 exact⟨a,n,c,vs,rfl,h3,h4,hb.trans (h5.mono hb.size)⟩
theorem zj3 (hI:zjP)(w:World)(l:List SV)(hl:∀x∈l,x.s.sub.kids= .nil∧Js x.s)(hn:l.length≤60):
 Calls Try.prog 22 #[.slice (some ⟨w.heap.size,0,none⟩) l.length l.length] (w.alloc (.cells (yL l).toArray 49)) (IsC (steps l) w):=by
 obtain⟨h1,h2⟩:=zfd (w:=w.alloc (.cells (yL l).toArray 49)) (l:=l) (hanQ _ _) (fun x hx=>(hl x hx).1) hn
 refine (hI _ _ _ _ l h1 h2 fun x hx=>(hl x hx).2).mono ?_
 rintro e w' ⟨rfl,h5⟩
 have hb:Below w.heap.size w (w.alloc (.cells (yL l).toArray 49)):=(BrQ _ _).alloc (NlrQ _) _
 exact⟨rfl,hb.trans (h5.mono hb.size)⟩
theorem ve (hO:zjR)(hI:zjP)(w:World):Calls Try.prog 8 #[] w (zjW w):=by
 have HO:=hH hO
 have HI:=hH hI
 clear hO hI
 go_enter Try.func8,Try.ntmps8
 go_wp2_with fail
 refine (vM _ _ _).mono ?_
 rintro e w1 ⟨rfl,hb1⟩
 go_wp2_with fail
 refine (vM _ _ _).mono ?_
 rintro e w2 ⟨rfl,hb2⟩
 go_wp2_with fail
 refine (vM _ _ _).mono ?_
 rintro e w3 ⟨rfl,hb3⟩
 have HB3:=hH (hb1.trans ((hb2.trans (hb3.mono hb2.size)).mono hb1.size))
 clear hb1 hb2 hb3
 go_wp2_with fail
 refine (zhY HO.out w3 [txV 2 ⟨#[97]⟩,txV 2 ⟨#[98]⟩,txV 3 ⟨#[99]⟩] (by intro x hx;simp only[List.mem_cons,List.not_mem_nil,or_false] at hx;rcases hx with rfl | rfl | rfl<;>exact⟨rfl,⟨rfl,trivial,trivial⟩,rfl⟩) ue9).mono ?_
 rintro e w4 ⟨ra,rn,rc,vs,rfl,hr,hs,hb4⟩
 replace hs:=hs.trans zki
 obtain⟨x,y,rfl,hx,hy⟩:=zkb hs
 obtain rfl:rn=2:=hr.len
 have HR:=hH (aN hr (aN hx (aN hy (HB3.out.trans (hb4.mono HB3.out.size)))))
 clear hr hs hb4 hx hy HB3
 go_wp2_with fail
 refine (vM _ _ _).mono ?_
 rintro e w5 ⟨rfl,hb5⟩
 go_wp2_with fail
 refine (vM _ _ _).mono ?_
 rintro e w6 ⟨rfl,hb6⟩
 have HB6:=hH (hb5.trans (hb6.mono hb5.size))
 clear hb5 hb6
 go_wp2_with fail
 refine (zhY HO.out w6 [zkD,txV 5 ⟨#[97]⟩,txV 5 ⟨#[98]⟩,zkA] (by intro x hx;simp only[List.mem_cons,List.not_mem_nil,or_false] at hx;rcases hx with rfl | rfl | rfl | rfl<;>exact⟨rfl,⟨rfl,trivial,trivial⟩,rfl⟩) ue9).mono ?_
 rintro e w7 ⟨qa,qn,qc,us,rfl,hr,hs,hb7⟩
 replace hs:=hs.trans zkj
 have hus:us.length=0:=by rw[←ji,hs];rfl
 obtain rfl:qn=0:=by rw[hr.len,hus]
 have HB7:=hH (HB6.out.trans (hb7.mono HB6.out.size))
 clear hr hs hus hb7 HB6
 have hrow:=HR.out.1.on HB7.out
 obtain⟨b,off,rfl,p0,p1,p2,p3,c4,p5⟩:=hrow.row.at (BrQ _ _) (k:=0) (x:=x) rfl
 obtain⟨b',off',e,q0,q1,q2,q3,d4,q5⟩:=hrow.row.at (BrQ _ _) (k:=1) (x:=y) rfl
 cases e
 rw[HR.out.2.1] at c4
 rw[HR.out.2.2.1] at d4
 have hc4:w7.cell? ⟨b,off+4,none⟩=some (.string ⟨#[98]⟩):=by simpa [QA] using c4
 have hd4:w7.cell? ⟨b,off+9+4,none⟩=some (.string ⟨#[99]⟩):=by simpa [QA] using d4
 clear p0 p1 p2 p3 c4 p5 q0 q1 q2 q3 d4 q5 hrow
 go_wp2_with fail
 refine (HI.out w7 _ 2 rc [x,y] (HR.out.1.on HB7.out) ⟨by simp,fun z hz=>?_⟩ (fun z hz=>?_)).mono ?_
 · simp only[List.mem_cons,List.not_mem_nil,or_false] at hz
   rcases hz with rfl | rfl
   · rw[HR.out.2.1];decide
   · rw[HR.out.2.2.1];decide
 · simp only[List.mem_cons,List.not_mem_nil,or_false] at hz
   rcases hz with rfl | rfl
   · rw[HR.out.2.1];exact⟨⟨rfl,trivial,trivial⟩,rfl⟩
   · rw[HR.out.2.2.1];exact⟨⟨rfl,trivial,trivial⟩,rfl⟩
 rintro e w8 ⟨rfl,hb8⟩
 rw[show steps [x,y]= [QA 2 ⟨#[98]⟩,QA 3 ⟨#[99]⟩] by simp only[steps,List.map_cons,List.map_nil,HR.out.2.1,HR.out.2.2.1],zkg]
 have HB8:=hH (HR.out.2.2.2.trans ((HB7.out.trans (hb8.mono HB7.out.size)).mono HR.out.2.2.2.size))
 clear hb8 hc4 hd4
 go_wp2_with fail
 refine (vM _ _ _).mono ?_
 rintro e w9 ⟨rfl,hb9⟩
 go_wp2_with fail
 refine (vM _ _ _).mono ?_
 rintro e wa ⟨rfl,hba⟩
 have HBA:=hH (HB8.out.trans ((hb9.trans (hba.mono hb9.size)).mono HB8.out.size))
 clear hb9 hba
 go_wp2_with fail
 refine (zj3 HI.out wa [txV 2 ⟨#[97]⟩,txV 2 ⟨#[98]⟩] (by intro x hx;simp only[List.mem_cons,List.not_mem_nil,or_false] at hx;rcases hx with rfl | rfl<;>exact⟨rfl,⟨rfl,trivial,trivial⟩,rfl⟩) ue9).mono ?_
 rintro e wb ⟨rfl,hbb⟩
 rw[zkh]
 have HBB:=hH (HBA.out.trans (hbb.mono HBA.out.size))
 clear hbb
 go_wp2_with fail
 go_ret
 exact⟨rfl,HBB.out⟩
end Go.Proofs.Ytnikgofkldkdkaa
