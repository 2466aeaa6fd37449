/-
  .
-/
import Derived.Test.YtnikgofkldkdkaaHPathQt
set_option maxRecDepth 100000
set_option maxHeartbeats 40000000
set_option linter.unusedVariables false
set_option linter.unusedSimpArgs false
namespace Go.Proofs.Ytnikgofkldkdkaa
open Go.RowKit
theorem zed {P:Program}{e:TypeId}{size bytes:Nat}(h:(P.info? e).map (fun i=>(i.size,i.bytes,i.zero.map (fun z=>z.cells.size)))=some (size,bytes,some size)):
 ∃i z,P.info? e=some i∧i.zero=some z∧i.size=size∧i.bytes=bytes∧z.cells.size=size:=by
 exact sd3
theorem zeK {α:Type}(M:Nat)(A B:List α):((A.take M)++B).take M=(A++B).take M:=by
 rw[List.take_append,List.take_append,List.take_take,Nat.min_self,List.length_take]
 congr 2
 omega
theorem Zv:∀(d:Nat) (f:Fo) (x:Sp),x∈spF d f→za x.2.2+1≤za f∧d≤x.1∧x.1+za x.2.2<d+za f
 | _,.nil,x,h=>by simp[spF] at h
 | d,.node _ _ k l r,x,h=>by
   simp only[spF,List.mem_cons,List.mem_append] at h
   simp only[za]
   rcases h with rfl | h | h
   · simp only;omega
   · have:=Zv (d+1) l x h;omega
   · have:=Zv d r x h;omega
def Yo (x:Sp):Tr:=⟨x.2.1.1,x.2.1.2.1,x.2.1.2.2,x.2.2⟩
end Go.Proofs.Ytnikgofkldkdkaa
namespace Go.Proofs.Ytnikgofkldkdkaa
open Go.RowKit Go.Shelf
attribute [local go_sem] Oper.semAt_some
theorem ziM {w:World}{b:Nat}{c0 c1 c2 c3:Value}(h:w.heap[b]? =some (.cells #[c0,c1,c2,c3] 27 (0,0))):w.cell? ⟨b,0,none⟩=some c0∧w.cell? ⟨b,1,none⟩=some c1∧w.cell? ⟨b,2,none⟩=some c2∧w.cell? ⟨b,3,none⟩=some c3:=
 ⟨by rw[corQ _ _ 0 _ _ _ h];rfl,by rw[corQ _ _ 1 _ _ _ h];rfl,by rw[corQ _ _ 2 _ _ _ h];rfl,by rw[corQ _ _ 3 _ _ _ h];rfl⟩
end Go.Proofs.Ytnikgofkldkdkaa
namespace Go.Proofs.Ytnikgofkldkdkaa
open Go.RowKit
theorem zdw {s:Sl}(h:¬(0<s.kinds.length∧0≤s.least∧s.least≤s.most∧s.most≤1000)):vG s=false:=by
 cases h2:vG s
 · rfl
 · simp[vG] at h2
   exact absurd ⟨List.length_pos_iff.2 (by first | exact h2.1.1.1 | exact List.length_pos_iff.1 h2.1.1.1),h2.1.1.2,h2.1.2,h2.2⟩ h
end Go.Proofs.Ytnikgofkldkdkaa
namespace Go.Proofs.Ytnikgofkldkdkaa
open Go.RowKit Go.Maps
theorem ziS {g:Gr}(h:¬(g.kinds.length≤32∧0≤g.root∧g.root<(g.kinds.length:Int))):vg g=false:=by
 cases h2:vg g
 · rfl
 · simp[vg,zbY] at h2
   omega
theorem zfS {g:Gr}(h1:g.kinds.length≤32)(h2:0≤g.root)(h3:g.root<(g.kinds.length:Int)):vg g=(g.kinds.all (kindOk g.kinds.length) && apart g.kinds):=by
 simp only[vg,zbY];rw[decide_eq_true h1,decide_eq_true h2,decide_eq_true h3];rfl
def QL (b:Bool):Int:=if b then 0 else 50
theorem yz {w w2:World}{cs:Array Value}{t:TypeId}(h:Below (w.alloc (.cells cs t)).heap.size (w.alloc (.cells cs t)) w2)(j:Nat)(v:Value)(hv:cs[j]? =some v):w2.cell? ⟨w.heap.size,j,none⟩=some v:=by
 rw[World.cell?_of_block (h.block w.heap.size sp1),corQ _ _ j _ _ _ (hanQ w _)];exact hv
def kindOf (g:Gr)(n:Int):Option Kd:=if vg g=true∧0≤n then g.kinds[n.toNat]? else none
theorem Jg {g:Gr}{n:Int}{k:Kd}(h:kindOf g n=some k):vg g=true∧∃j:Nat,n=(j:Int)∧j<g.kinds.length∧g.kinds[j]? =some k:=by
 unfold kindOf at h
 split at h
 · rename_i h1
   have:=(List.getElem?_eq_some_iff.1 h).1
   exact⟨h1.1,n.toNat,by omega,this,h⟩
 · cases h
def zaX (o:Option Kd)(s:ByteArray):Bool:=match o with
 | none=>false
 | some k=>s.toList.isEmpty || (k.text && decide (s.size≤40))
def zjQ (l:List Sl):Prop:=l.length≤8∧∀s∈l,0≤s.least∧s.least≤1000
theorem zhZ {g:Gr}{n:Int}{k:Kd}(h:kindOf g n=some k):zjQ k.slots:=by
 obtain⟨hg,j,_,_,hx⟩:=Jg h
 simp only[vg,Bool.and_eq_true,List.all_eq_true] at hg
 have h1:=hg.1.2 k (List.mem_of_getElem? hx)
 simp only[kindOk,ZV,Bool.and_eq_true,decide_eq_true_eq,List.all_eq_true] at h1
 refine⟨h1.1.2,fun s hs=>?_⟩
 have h2:=h1.2 s hs
 simp only[vK,vG,Bool.and_eq_true,decide_eq_true_eq] at h2
 omega
end Go.Proofs.Ytnikgofkldkdkaa
namespace Go.Proofs.Ytnikgofkldkdkaa
open Go.RowKit
def Ahead (l:List Int)(k:Nat)(a:Int):Prop:=(k=0→a= -1)∧∀m,k=m+1→l[m]? =some a
def zku (w:World)(n:Int)(l:List Int)(i:Value)(wr:World):Prop:=
 ∃(k:Nat) (a:Int),k≤l.length∧i= .int .i64 k∧ -1≤a∧Ahead l k a∧Below w.heap.size w wr∧rise n (-1) l=rise n a (l.drop k)
def rising (n:Int)(l:List Int):Bool:=rise n (-1) l && decide (0<l.length)
theorem jD (w :World)(a:Option Addr)(cap:Nat)(l:List Int)(n:Int)(hn:n≤32)(h:vP w a l)(hf:(l.length:Int)≤9223372036854775807):Calls Try.prog 44 #[.slice a l.length cap,.int .i64 n] w (Says (rising n l) w):=by
 have HK:=hH h
 clear h
 go_enter Try.func44,Try.ntmps44
 go_wp2_with fail
 go_loopw [5] (fun i wr=>zku w n l i wr) (fun i _=>l.length - (intOf i).toNat)
 case atStart=>exact⟨0, -1,NzlQ _,rfl,by omega,⟨fun _=>rfl,fun m h=>by omega⟩,BrQ _ _,rfl⟩
 case round =>
  obtain⟨k,y,hkl,rfl,hy,⟨hy0,hy1⟩,hbel,hany⟩:=hrel
  have HB:=hH hbel
  have HA:=hH hany
  by_cases hlt:k<l.length
  · obtain ⟨x,hx⟩:∃x,l[k]? =some x:=⟨l[k],List.getElem?_eq_getElem hlt⟩
    obtain⟨b,off,rfl,hblt,hc⟩:=(HK.out.below hbel) om
    have c0:=hc k x hx
    have HX:=hH (zgg HA.out hx)
    have hkl2:(k:Int)<(l.length:Int):=by omega
    have hk0:(0:Int)≤(k:Int):=by omega
    have HXX:=hH hx
    by_cases hx0:x<0
    · have hx0' :decide (x<0)=true:=by simpa using hx0
      clear hx hc hbel hany hy0 hy1
      exact se6
    · have hx0' :decide (x<0)=false:=by simpa using hx0
      by_cases hxn:n≤x
      · have hxn' :decide (n≤x)=true:=by simpa using hxn
        clear hx hc hbel hany hy0 hy1
        exact se6
      · have hxn' :decide (n≤x)=false:=by simpa using hxn
        by_cases hk1:k=0
        · have hka:=hy0 hk1
          subst hka
          have hk2:decide ((0:Int)<(k:Int))=false:=by simp;omega
          have hk3:decide (0<k)=false:=by simp;omega
          have HK1:=hH hk1
          clear hx hc hbel hany hy0 hy1 hk1
          go_wp2_with fail
          go_quiet (fail)
          go_wp2_with fail
          exact⟨⟨k+1,x,by omega,by go_num,by omega,⟨fun h=>by omega,fun m h=>by obtain rfl:m=k:=om;exact HXX.out⟩,below_drewN HB.out _,by rw[HX.out];simp;omega⟩,by simp[intOf];omega⟩
        · obtain⟨m,rfl⟩:∃m,k=m+1:=⟨k - 1,by omega⟩
          have hym:=hy1 m rfl
          have c1:=hc m y hym
          have hk2:decide ((0:Int)<((m:Int)+1))=true:=by rw[decide_eq_true];omega
          have hk3:decide (0<m+1)=true:=by simp
          by_cases hle:x≤y
          · have hle' :decide (x≤y)=true:=by simpa using hle
            clear hx hc hbel hany hy0 hy1 hym
            exact se6
          · have hle' :decide (x≤y)=false:=by simpa using hle
            clear hx hc hbel hany hy0 hy1 hym
            go_wp2_with fail
            go_quiet (fail)
            go_wp2_with fail
            exact⟨⟨m+2,x,by omega,by go_num,by omega,⟨fun h=>by omega,fun j h=>by obtain rfl:j=m+1:=om;exact HXX.out⟩,below_drewN HB.out _,by rw[HX.out];simp;omega⟩,by simp[intOf];omega⟩
  · have HE:=hH (show rising n l=decide (0<l.length) by rw[rising,zdo HA.out om];rfl)
    have hkl2:¬(k:Int)<(l.length:Int):=by omega
    have hlen:=zaL n l (-1) (zdo HA.out om)
    have h32:l.length≤32:=by
     rcases hlen with h | h
     · rw[h];simp
     · omega
    clear hbel hany hlen hy0 hy1
    by_cases h1:0<l.length
    · have h1' :(1:Int)≤(l.length:Int):=by omega
      have h2' :(l.length:Int)≤32:=by omega
      go_wp2_with fail
      go_ret
      exact Says.mk (by rw[HE.out,decide_eq_true h1]) HB.out
    · have h1' :¬(1:Int)≤(l.length:Int):=by omega
      go_wp2_with fail
      go_ret
      exact Says.mk (by rw[HE.out,decide_eq_false h1]) HB.out
def vC (l:List Int)(x:Int):Bool:=l.any fun y=>decide (y=x)
def zkH (w:World)(l:List Int)(x:Int)(i:Value)(wr:World):Prop:=∃k:Nat,k≤l.length∧i= .int .i64 k∧w=wr∧vC l x=vC (l.drop k) x
def zdJ (b:Bool)(w:World)(e:Ending)(w' :World):Prop:=∃n:Int,e= .returned (.int .i64 n)∧(b=true→0≤n)∧(b=false→n<0)∧w=w'
theorem zdJ.yes {b:Bool}{w:World}{k:Nat}(h:b=true):zdJ b w (.returned (.int .i64 (k:Int))) w:=⟨k,rfl,(fun _=>by omega),(fun e=>by rw[h] at e;cases e),rfl⟩
theorem zdJ.no {b:Bool}{w:World}(h:b=false):zdJ b w (.returned (.int .i64 (-1))) w:=⟨-1,rfl,(fun e=>by rw[h] at e;cases e),(fun _=>by omega),rfl⟩
theorem zcR {l:List Int}{x y:Int}{k:Nat}{r:Bool}(hr:r=vC (l.drop k) x)(h:l[k]? =some y):r=(decide (y=x) || vC (l.drop (k+1)) x):=zhe hr h
theorem zkk (w:World)(a:Option Addr)(cap:Nat)(l:List Int)(x:Int)(h:vP w a l)(hf:l.length≤1000000):Calls Try.prog 140 #[.slice a l.length cap,.int .i64 x] w (zdJ (vC l x) w):=by
 have HK:=hH h
 clear h
 go_enter Try.func140,Try.ntmps140
 go_wp2_with fail
 go_loopw [8] (fun i wr=>zkH w l x i wr) (fun i _=>l.length - (intOf i).toNat)
 case atStart=>exact⟨0,NzlQ _,rfl,rfl,rfl⟩
 case round=>
  obtain⟨k,hkl,rfl,rfl,hany⟩:=hrel
  have HA:=hH hany
  clear hany
  by_cases hlt:k<l.length
  · obtain⟨y,hy⟩:∃y,l[k]? =some y:=⟨l[k],List.getElem?_eq_getElem hlt⟩
    obtain⟨b,off,rfl,hblt,hc⟩:=HK.out om
    have c0:=hc k y hy
    have HX:=hH (zcR HA.out hy)
    have hkl2:(k:Int)<(l.length:Int):=by omega
    clear hy hc
    by_cases he:x=y
    · have HE:=hH he.symm
      subst he
      go_wp2_with fail
      go_ret
      exact zdJ.yes (by rw[HX.out];simp)
    · have HE:=hH he
      go_wp2_with fail
      exact⟨⟨k+1,by omega,by go_num,rfl,by rw[HX.out,decide_eq_false (fun e=>HE.out e.symm)];rfl⟩,by simp[intOf];omega⟩
  · have HE:=hH (show vC l x=false from zeU HA.out om)
    have hkl2:¬(k:Int)<(l.length:Int):=by omega
    go_wp2_with fail
    go_ret
    exact zdJ.no HE.out
def zkI (w:World)(c:Array Value)(l:List Int)(x:Int)(i:Value)(wr:World):Prop:=∃k:Nat,k≤l.length∧i= .int .i64 k∧wr.heap[w.heap.size]? =some (.cells c 67 (0,0))∧Below w.heap.size w wr∧vC l x=vC (l.drop k) x
theorem zb7 (w:World)(v:Value)(s:Sl)(x:Int)(hv:zjC w v s)(hf:s.few):Calls Try.prog 100 #[v,.int .i64 x] w (Says (vC s.kinds x) w):=by
 obtain⟨ka,kc,rfl,hk⟩:=hv
 obtain⟨l,lo,hi⟩:=s
 simp only at hk ⊢
 have hfl:l.length≤1000000:=hf
 have HK:=hH hk
 clear hf hk
 go_enter Try.func100,Try.ntmps100
 go_wp2_with fail
 go_loopw [5] (fun i wr=>zkI w #[.slice ka l.length kc,.int .i64 lo,.int .i64 hi] l x i wr) (fun i _=>l.length - (intOf i).toNat)
 case atStart=>exact⟨0,NzlQ _,rfl,hanQ w _,zg _ _,rfl⟩
 case round=>
  obtain⟨k,hkl,rfl,hb,hbel,hany⟩:=hrel
  have p0:wr.cell? ⟨w.heap.size,0,none⟩=some (.slice ka l.length kc):=by rw[corQ wr _ 0 _ _ _ hb];rfl
  have HB:=hH (aN hb hbel)
  have HA:=hH hany
  by_cases hlt:k<l.length
  · obtain⟨y,hy⟩:∃y,l[k]? =some y:=⟨l[k],List.getElem?_eq_getElem hlt⟩
    obtain⟨b,off,rfl,hblt,hc⟩:=(HK.out.below hbel) om
    have c0:=hc k y hy
    have HX:=hH (zcR HA.out hy)
    have hkl2:(k:Int)<(l.length:Int):=by omega
    clear hy hc hb hbel hany
    by_cases he:y=x
    · subst he
      go_wp2_with fail
      go_ret
      exact Says.mk (by rw[HX.out];simp) HB.out.2
    · have HE:=hH he
      go_wp2_with fail
      exact⟨⟨k+1,by omega,by go_num,HB.out.1,HB.out.2,by rw[HX.out,decide_eq_false HE.out];rfl⟩,by simp[intOf];omega⟩
  · have HE:=hH (show vC l x=false from zeU HA.out om)
    have hkl2:¬(k:Int)<(l.length:Int):=by omega
    clear hb hbel hany
    go_wp2_with fail
    go_ret
    exact Says.mk HE.out HB.out.2
def vec (f:Nat→Bool):Array Value:=((List.range 201).map fun j=>Value.bool (f j)).toArray
theorem jF (f:Nat→Bool):(vec f).size=201:=by simp[vec]
theorem zco (f:Nat→Bool)(j:Nat)(h:j<201):(vec f)[j]? =some (.bool (f j)):=by
 simp[vec,h]
theorem zjr (f:Nat→Bool)(i:Nat)(b:Bool):(vec f).setIfInBounds i (.bool b)=vec (fun j=>if j=i then b else f j):=by
 apply Array.ext_getElem?
 intro j
 by_cases hj:j<201
 · rw[zco _ j hj,Array.getElem?_setIfInBounds]
   by_cases e:i=j
   · subst e;rw[ipQ rfl,ipQ (by rw[jF];exact hj),ipQ rfl]
   · rw[inQ e,zco _ j hj,inQ (fun h=>e h.symm)]
 · rw[Array.getElem?_eq_none (by simp[jF];omega),Array.getElem?_eq_none (by rw[jF];omega)]
theorem zjo {f g:Nat→Bool}(h:∀j,j<201→f j=g j):vec f=vec g:=by
 apply Array.ext_getElem?
 intro j
 by_cases hj:j<201
 · rw[zco _ j hj,zco _ j hj,h j hj]
 · rw[Array.getElem?_eq_none (by rw[jF];omega),Array.getElem?_eq_none (by rw[jF];omega)]
def zdT (cs:Array Value):Bool:=cs.all (·.oneCell')
theorem zjq (f:Nat→Bool):zdT (vec f)=true:=by
 refine Array.all_eq_true_iff_forall_mem.2 fun u hu=>?_
 simp only[vec,List.mem_toArray,List.mem_map] at hu
 obtain⟨b,_,rfl⟩:=hu;rfl
def blk (w:World)(b:Nat):Array Value:=match w.heap[b]? with
 | some (.cells cs _ _)=>cs
 | _=> #[]
theorem zjY {w:World}{b:Nat}{cs:Array Value}{t:TypeId}{fr:Nat×Nat}(h:w.heap[b]? =some (.cells cs t fr)):blk w b=cs:=by simp[blk,h]
theorem blk_alloc_new (w:World)(cs:Array Value)(t:TypeId)(n:Nat)(hn:n=w.heap.size):blk (w.alloc (.cells cs t)) n=cs:=by
 subst hn;exact zjY (hanQ w _)
theorem zhi {w:World}{b:Nat}{v:Value}(j:Nat)(h:(blk w b)[j]? =some v):w.cell? ⟨b,j,none⟩=some v:=by
 unfold blk at h
 split at h
 · rename_i cs t fr hb;rw[corQ w b j cs t fr hb];exact h
 · simp at h
theorem zb5 {P:Program}(w:World)(b s:Nat)(ty:TypeId)(d:TypeDesc)(hu:P.underlying ty=some d)(hd:d.isRow=true)(hi:(P.info? ty).map (·.size)=some s)(h:(blk w b).size=s):
 (loadVar ty ⟨b,0,none⟩).run P w= .ok (.agg (blk w b)) w:=by
 have:=run_loadVar_mid (P:=P) w b 0 ty (blk w b).toList d (fun j v hv=>by
  refine zhi _ ?_
  rw[Nat.zero_add];rw[Array.getElem?_toList] at hv;exact hv) hu hd (by rw[Array.length_toList,h];exact hi)
 rw[Array.toArray_toList] at this
 exact this
def ZC:Value→Nat
 | .pointer (some a)=>a.block
 | _=>0
def ZT:Value→Bool
 | .pointer (some a)=>a.off == 0 && a.spot.isNone
 | _=>false
theorem QO (a:Addr):ZC (.pointer (some a))=a.block:=rfl
theorem zeg (b n:Nat):ZT (.pointer (some ⟨b,n,none⟩))=(n == 0):=by simp[ZT]
theorem zao {v:Value}(h:ZT v=true):v= .pointer (some ⟨ZC v,0,none⟩):=by
 unfold ZT at h
 split at h
 · rename_i a
   obtain⟨b,n,s⟩:=a
   simp at h
   obtain⟨rfl,rfl⟩:=h
   rfl
 · cases h
def zdS:Value→Array Value
 | .agg cs=>cs
 | _=> #[]
def isT:Value→Bool
 | .agg cs=>cs.size == 201 && zdT cs
 | _=>false
theorem zha (cs:Array Value):zdS (.agg cs)=cs:=rfl
theorem zi0 (f:Nat→Bool):isT (.agg (vec f))=true:=by simp[isT,jF,zjq]
theorem ziZ {v:Value}(h:isT v=true):v= .agg (zdS v)∧(zdS v).size=201∧zdT (zdS v)=true:=by
 unfold isT at h
 split at h
 · simp at h;exact⟨rfl,h.1,h.2⟩
 · cases h
def Yc (w:World)(b:Nat):Bool:=match w.heap[b]? with
 | some (.cells cs _ fr)=>cs.size == 201 && fr == (0,0)
 | _=>false
theorem za4 (w:World)(c:Array Value)(t:TypeId)(n:Nat)(hn:n=w.heap.size):Yc (w.alloc (.cells c t)) n=(c.size == 201):=by
 subst hn
 unfold Yc
 rw[hanQ]
 simp
theorem zcM {w:World}{b:Nat}(h:Yc w b=true):∃cs t,w.heap[b]? =some (.cells cs t (0,0))∧cs.size=201:=by
 unfold Yc at h
 split at h
 · rename_i cs t fr hb
   simp at h
   obtain⟨h1,rfl⟩:=h
   exact⟨cs,t,hb,h1⟩
 · cases h
theorem Jt (w:World)(c c' :Array Value)(t:TypeId)(n:Nat)(hn:n=w.heap.size):(w.alloc (.cells c t)).setRow n c'=w.alloc (.cells c' t):=by
 subst hn;exact World.setRow_alloc_new w c c' t
def noF:Nat→Bool:=fun _=>false
def Yu:Nat→Bool:=fun j=>decide (j=0)
section
variable (w:World) (ρ:Operand→Value) (a:Act) (dst:Option Tmp) (x y:Operand) (ty' :TypeId) (pos:String) (aft:Array Edge) (g:Option (Nat×Bool)) (K:Act→World→Prop) (Q:Exit→Act→World→Prop)
theorem Try.sizeT : (Try.prog.info? 192).map (·.size) = some 201 := by kernel_rfl
theorem loadT (h:ZT (ρ x)=true)(h2:(blk w (ZC (ρ x))).size=201):(execOp ρ ⟨dst,.load 192 x,ty',pos,aft,g⟩).run Try.prog w= .ok (.value (.agg (blk w (ZC (ρ x))))) w:=by
 have e:=zao h
 simp only[execOp,Sem.run_bind]
 rw[e]
 simp only[Instr.loadAt,Instr.sureAddr,Sem.run_bind,Sem.run_pure,Result.andThen_ok,QO]
 rw[zb5 (P:=Try.prog) w (ZC (ρ x)) 201 192 _ Try.underlying192 rfl Try.sizeT h2]
 rfl
theorem zju (h:ZT (a.eval x)=true)(h2:(blk w (ZC (a.eval x))).size=201):Oper.wp Try.prog ⟨dst,.load 192 x,ty',pos,aft,g⟩ a w K Q=K (a.put dst (.agg (blk w (ZC (a.eval x))))) w:=by
 unfold Oper.wp
 rw[loadT w a.eval dst x ty' pos aft g h h2]
 rfl
theorem storeT (h:ZT (ρ x)=true)(h2:Yc w (ZC (ρ x))=true)(h3:isT (ρ y)=true):
 (execOp ρ ⟨dst,.store 192 x y,ty',pos,aft,g⟩).run Try.prog w= .ok .skip (w.setRow (ZC (ρ x)) (zdS (ρ y))):=by
 have e1:=zao h
 obtain⟨e2,e3,e4⟩:=ziZ h3
 obtain⟨cs,t,hb,hs⟩:=zcM h2
 have hr:=run_storeVar_row (P:=Try.prog) w (ZC (ρ x)) t 192 cs (zdS (ρ y)) hb (by rw[e3];exact Try.sizeT) om e4
 simp only[execOp,Sem.run_bind]
 rw[e2,e1]
 simp only[Instr.storeAt,Instr.sureAddr,Sem.run_bind,Sem.run_pure,Result.andThen_ok,QO]
 rw[hr]
 rfl
theorem ziA (h:ZT (a.eval x)=true)(h2:Yc w (ZC (a.eval x))=true)(h3:isT (a.eval y)=true):
 Oper.wp Try.prog ⟨dst,.store 192 x y,ty',pos,aft,g⟩ a w K Q=K (a.put dst undef) (w.setRow (ZC (a.eval x)) (zdS (a.eval y))):=by
 unfold Oper.wp
 rw[storeT w a.eval dst x y ty' pos aft g h h2 h3]
 rfl
theorem zhd:(execOp ρ ⟨dst,.alloc 192,ty',pos,aft,g⟩).run Try.prog w= .ok (.value (.pointer (some ⟨w.heap.size,0,none⟩))) (w.alloc (.cells (vec noF) 192)):=by kernel_rfl
theorem ziy:Oper.wp Try.prog ⟨dst,.alloc 192,ty',pos,aft,g⟩ a w K Q=K (a.put dst (.pointer (some ⟨w.heap.size,0,none⟩))) (w.alloc (.cells (vec noF) 192)):=by
 unfold Oper.wp
 rw[zhd w a.eval dst ty' pos aft g]
 rfl
theorem ziN:(Instr.build 192 #[(0,.bool true)]).run Try.prog w= .ok (.agg (vec Yu)) w:=by kernel_rfl
theorem zhj (h:ρ x= .bool true):(execOp ρ ⟨dst,.build 192 #[(0,x)],ty',pos,aft,g⟩).run Try.prog w= .ok (.value (.agg (vec Yu))) w:=by
 simp only[execOp,List.map_toArray,List.map_cons,List.map_nil,Sem.run_bind]
 rw[h,ziN]
 rfl
theorem ziz (h:a.eval x= .bool true):Oper.wp Try.prog ⟨dst,.build 192 #[(0,x)],ty',pos,aft,g⟩ a w K Q=K (a.put dst (.agg (vec Yu))) w:=by
 unfold Oper.wp
 rw[zhj w a.eval dst x ty' pos aft g h]
 rfl
end
end Go.Proofs.Ytnikgofkldkdkaa
namespace Go.Proofs.Ytnikgofkldkdkaa
open Go.RowKit
theorem cell0 {w:World}{b:Nat}{cs:Array Value}{t:TypeId}(h:w.heap[b]? =some (.cells cs t (0,0)))(j:Nat){v:Value}(hv:cs[j]? =some v):w.cell? ⟨b,j,none⟩=some v:=by
 rw[corQ w b j _ _ _ h];exact hv
end Go.Proofs.Ytnikgofkldkdkaa
namespace Go.Proofs.Ytnikgofkldkdkaa
structure Ju (kids:List Int) (s:Sl) (b j:Nat):Prop where
 le:b≤j
 ends:j≤kids.length
 least:s.least≤((j - b:Nat):Int)
 most:((j - b:Nat):Int)≤s.most
 all:∀i x,b≤i→i<j→kids[i]? =some x→vC s.kinds x=true
def zaW (kids:List Int)(s:Sl)(b j:Nat):Bool:=
 decide (b≤j) && decide (j≤kids.length) && decide (s.least≤((j - b:Nat):Int)) && decide (((j - b:Nat):Int)≤s.most) && ((kids.drop b).take (j - b)).all (vC s.kinds)
theorem zcl {kids:List Int}{s:Sl}{b j:Nat}:zaW kids s b j=true↔Ju kids s b j:=by
 simp only[zaW,Bool.and_eq_true,decide_eq_true_eq,List.all_eq_true]
 constructor
 · rintro ⟨⟨⟨⟨h1,h2⟩,h3⟩,h4⟩,h5⟩
   refine⟨h1,h2,h3,h4,fun i x hi hj hx=>h5 x ?_⟩
   rw[List.mem_iff_getElem?]
   exact⟨i - b,by rw[List.getElem?_take,ipQ om,List.getElem?_drop,show b+(i - b)=i by omega];exact hx⟩
 · rintro ⟨h1,h2,h3,h4,h5⟩
   refine⟨⟨⟨⟨h1,h2⟩,h3⟩,h4⟩,fun x hx=>?_⟩
   obtain⟨i,hi⟩:=List.mem_iff_getElem?.1 hx
   rw[List.getElem?_take] at hi
   split at hi
   · rw[List.getElem?_drop] at hi
     exact h5 (b+i) x om om hi
   · cases hi
def zc4 (kids:List Int)(s:Sl)(T:Nat→Bool):Nat→Bool:=fun j=>(List.range (j+1)).any fun b=>T b && zaW kids s b j
theorem zfY {kids:List Int}{s:Sl}{T:Nat→Bool}{j:Nat}:zc4 kids s T j=true↔∃b,T b=true∧Ju kids s b j:=by
 simp only[zc4,List.any_eq_true,List.mem_range,Bool.and_eq_true,zcl]
 exact⟨fun ⟨b,_,h⟩=>⟨b,h⟩,fun ⟨b,h⟩=>⟨b,by have:=h.2.le;omega,h⟩⟩
def J5 (kids:List Int)(slots:List Sl):Nat→Bool:=slots.foldl (fun T s=>zc4 kids s T) Yu
def Ja (o:Option Kd)(kids:List Int):Bool:=match o with
 | none=>false
 | some k=>decide (kids.length≤200) && J5 kids k.slots kids.length
theorem zfQ {kids:List Int}{slots:List Sl}{k:Nat}{s:Sl}(hs:slots[k]? =some s):J5 kids (slots.take (k+1))=zc4 kids s (J5 kids (slots.take k)):=by
 rw[Yi hs,J5,List.foldl_append];rfl
def zaE (kids:List Int)(kinds:List Int):Nat→Bool:=fun i=>match kids[i]? with
 | some x=>vC kinds x
 | none=>false
theorem QW {kids kinds:List Int}{i:Nat}{x:Int}(h:kids[i]? =some x):zaE kids kinds i=vC kinds x:=by simp[zaE,h]
theorem zbv {kids kinds:List Int}{i:Nat}(h:kids.length≤i):zaE kids kinds i=false:=by simp[zaE,List.getElem?_eq_none h]
end Go.Proofs.Ytnikgofkldkdkaa
namespace Go.Proofs.Ytnikgofkldkdkaa
def FP (kids:List Int)(s:Sl)(T:Nat→Bool)(c:Nat)(f:Nat→Bool):Prop:=∀j,f j=true↔∃b,b<c∧T b=true∧Ju kids s b j
def FI (kids:List Int)(s:Sl)(T:Nat→Bool)(c n:Nat)(f:Nat→Bool):Prop:=∀j,f j=true↔(∃b,b<c∧T b=true∧Ju kids s b j)∨∃m:Nat,m<n∧s.least≤(m:Int)∧j=c+m
theorem FP.start (kids:List Int)(s:Sl)(T:Nat→Bool):FP kids s T 0 noF:=fun j=>⟨fun h=>by simp[noF] at h,fun ⟨b,h,_⟩=>by omega⟩
theorem FP.skip {kids:List Int}{s:Sl}{T:Nat→Bool}{c:Nat}{f:Nat→Bool}(h:FP kids s T c f)(hT:T c=false):FP kids s T (c+1) f:=fun j=>by
 rw[h j]
 constructor
 · rintro ⟨b,h1,h2⟩;exact⟨b,by omega,h2⟩
 · rintro ⟨b,h1,h2,h3⟩
   refine⟨b,?_,h2,h3⟩
   by_cases e:b=c
   · subst e;rw[hT] at h2;cases h2
   · omega
theorem FP.all {kids:List Int}{s:Sl}{T:Nat→Bool}{f:Nat→Bool}(h:FP kids s T (kids.length+1) f):f=zc4 kids s T:=by
 funext j
 rw[Bool.eq_iff_iff,h j,zfY]
 constructor
 · rintro ⟨b,_,h⟩;exact⟨b,h⟩
 · rintro ⟨b,h1,h2⟩;exact⟨b,by have:=h2.le;have:=h2.ends;omega,h1,h2⟩
theorem FI.start {kids:List Int}{s:Sl}{T:Nat→Bool}{c:Nat}{f:Nat→Bool}(h:FP kids s T c f):FI kids s T c 0 f:=fun j=>by
 rw[h j]
 exact⟨Or.inl,fun h=>h.elim id fun ⟨m,h,_⟩=>by omega⟩
theorem FI.skip {kids:List Int}{s:Sl}{T:Nat→Bool}{c n:Nat}{f:Nat→Bool}(h:FI kids s T c n f)(hn:(n:Int)<s.least):FI kids s T c (n+1) f:=fun j=>by
 rw[h j]
 exact sf6
theorem FI.put {kids:List Int}{s:Sl}{T:Nat→Bool}{c n:Nat}{f:Nat→Bool}(h:FI kids s T c n f)(hn:s.least≤(n:Int)):FI kids s T c (n+1) (fun j=>if j=c+n then true else f j):=fun j=>by
 show (if j=c+n then true else f j)=true↔_
 by_cases e:j=c+n
 · rw[ipQ e]
   exact⟨fun _=>Or.inr ⟨n,by omega,hn,e⟩,fun _=>rfl⟩
 · rw[inQ e,h j]
   exact sf6
theorem zh4 {kids:List Int}{kinds:List Int}{i:Nat}(h:zaE kids kinds i=true):i<kids.length∧∀x,kids[i]? =some x→vC kinds x=true:=by
 by_cases hi:i<kids.length
 · refine⟨hi,fun x hx=>?_⟩
   rw[QW hx] at h;exact h
 · rw[zbv om] at h;cases h
theorem FI.done {kids:List Int}{s:Sl}{T:Nat→Bool}{c N:Nat}{f:Nat→Bool}(h:FI kids s T c N f)(hc:c≤kids.length)(hT:T c=true)(ho:∀i,c≤i→i+1<c+N→zaE kids s.kinds i=true)
 (hN:(N:Int)≤s.most+1) (hend:(N:Int)=s.most+1∨1≤N∧zaE kids s.kinds (c+N - 1)=false):FP kids s T (c+1) f:=fun j=>by
 rw[h j]
 constructor
 · rintro (⟨b,h1,h2⟩ | ⟨m,h1,h2,h3⟩)
   · exact⟨b,by omega,h2⟩
   · refine⟨c,by omega,hT,by omega,?_,?_,?_,fun i x hi hj hx=>(zh4 (ho i hi om)).2 x hx⟩
     · by_cases e:m=0
       · omega
       · have:=(zh4 (ho (c+m - 1) om om)).1;omega
     · rw[show j - c=m by omega];exact h2
     · rw[show j - c=m by omega];omega
 · rintro ⟨b,h1,h2,h3⟩
   by_cases e:b=c
   · subst e
     refine Or.inr ⟨j - b,?_,h3.least,by have:=h3.le;omega⟩
     rcases hend with hend | ⟨h1N,hend⟩
     · have:=h3.most;omega
     · by_cases hlt:j - b<N
       · exact hlt
       · exfalso
         have hj:=h3.ends
         have hle:=h3.le
         have hi:b+N - 1<kids.length:=by omega
         have hx:=List.getElem?_eq_getElem hi
         have:=h3.all (b+N - 1) _ om om hx
         rw[QW hx,this] at hend
         cases hend
   · exact Or.inl ⟨b,by omega,h2,h3⟩
end Go.Proofs.Ytnikgofkldkdkaa
namespace Go.Proofs.Ytnikgofkldkdkaa
open Go.RowKit
attribute [local go_sem ↓] loadT zju storeT ziA zhd ziy zhj ziz
attribute [local go_sem] QO zeg zha zi0 jF za4 Jt blk_alloc_new
theorem zkc (f:Nat→Bool):(vec f= #[])=False:=by
 simp only[eq_iff_iff,iff_false];intro h
 have:=congrArg Array.size h
 rw[jF] at this;simp at this
theorem zgA:(vec noF).setIfInBounds 0 (.bool true)=vec Yu:=by rw[zjr];exact zjo fun j _=>by by_cases e:j=0<;>simp[Yu,noF,e]
attribute [local go_sem] zkc zgA
def zjV (l:List Sl):Prop:=∀s∈l,s.few∧0≤s.least∧s.least≤s.most∧s.most≤1000
theorem zh0 {g:Gr}{n:Int}{k:Kd}(h:kindOf g n=some k)(hf:g.few):zjV k.slots:=by
 obtain⟨hg,j,_,_,hx⟩:=Jg h
 simp only[vg,Bool.and_eq_true,List.all_eq_true] at hg
 have h1:=hg.1.2 k (List.mem_of_getElem? hx)
 simp only[kindOk,Bool.and_eq_true,List.all_eq_true] at h1
 intro s hs
 have h2:=h1.2 s hs
 simp only[vK,vG,Bool.and_eq_true,decide_eq_true_eq] at h2
 exact⟨(hf.2 k (List.mem_of_getElem? hx)).2.2 s hs,by omega,by omega,by omega⟩
end Go.Proofs.Ytnikgofkldkdkaa
namespace Go.Proofs.Ytnikgofkldkdkaa
open Go.RowKit Go.Shelf
attribute [local go_sem] Oper.semAt_some
def qY:Fo→List Int
 | .nil=>[]
 | .node _ _ k _ r=>k.2.1::qY r
theorem kJ:∀f:Fo,(qY f).length=foLen f
 | .nil=>rfl
 | .node _ _ _ _ r=>by simp[qY,foLen,kJ r]
theorem zbo:∀(j:Nat) (f:Fo) (b o:Nat) (a:Int×Int×ByteArray) (l r:Fo),zm j f= .node b o a l r→(qY f)[j]? =some a.2.1
 | 0,.nil,_,_,_,_,_,h=>by cases h
 | _+1,.nil,_,_,_,_,_,h=>by cases h
 | 0,.node _ _ _ _ _,_,_,_,_,_,h=>by cases h;rfl
 | j+1,.node _ _ _ _ r',b,o,a,l,r,h=>by simpa [qY] using zbo j r' b o a l r h
def zgP (w:World)(f:Fo)(e:Ending)(w' :World):Prop:=∃a cap,e= .returned (.slice a (qY f).length cap)∧vP w' a (qY f)∧Below w.heap.size w w'
theorem Try.zhG:(Try.prog.info? 3).map (fun i=>(i.zero,i.size,i.bytes))=some (some (.int .i64 0),1,8):=by kernel_rfl
def kU (g:Gr)(x:Tr):Bool:=zaX (kindOf g x.kind) x.text && Ja (kindOf g x.kind) (qY x.kids)
theorem za6 {n:Nat}{P:Program}{ops:Array Oper}{Q:Exit→Act→World→Prop}{S:World→Prop}{id:Nat}{a:Act}{w:World}(hm:P.follows .mixedOrders=true)(h:kM n P .any ops Q S ops.size (Array.replicate ops.size false) a w.drew):(Code.region id ops true).wpIn Fence.wide n P Q a w:=
 wpIn_region_any hm (ZJ _ _ _ _ h)
theorem jC {n:Nat}{P:Program}{ops:Array Oper}{Q:Exit→Act→World→Prop}{S:World→Prop}{id:Nat}{a:Act}{w:World}(hm:P.follows .mixedOrders=true)(h:kM n P .any ops (fun e a w=>e= .normal∧Q .normal a w) S ops.size (Array.replicate ops.size false) a w.drew):(Code.region id ops true).wpIn Fence.wide n P Q a w:=
 wpIn_mono (za6 hm h) (fun e a w h=>by obtain⟨rfl,h⟩:=h;exact h)
theorem zjZ {w:World}{b:Nat}{c0 c1:Value}(h:w.heap[b]? =some (.cells #[c0,c1] 24 (0,0))):w.cell? ⟨b,0,none⟩=some c0∧w.cell? ⟨b,1,none⟩=some c1:=
 ⟨by rw[corQ _ _ 0 _ _ _ h];rfl,by rw[corQ _ _ 1 _ _ _ h];rfl⟩
end Go.Proofs.Ytnikgofkldkdkaa
namespace Go.Proofs.Ytnikgofkldkdkaa
open Go.RowKit Go.Shelf
attribute [local go_sem] Oper.semAt_some
def zkt (w:World)(nb:Nat)(c1:Array Value)(f:Fo)(v:Value)(k:Nat)(wr:World):Prop:=
 wr.ownsRow (w.heap.size+1) 3 1 v k (((qY f).take k).map (Value.int .i64))∧wr.heap[nb]? =some (.cells c1 27 (0,0))∧Below w.heap.size w wr
theorem zgy {f:Fo}{k:Nat}{x:Int}(h:(qY f)[k]? =some x):((qY f).take (k+1)).map (Value.int .i64)=((qY f).take k).map (Value.int .i64)++[.int .i64 x]:=by
 rw[List.take_add_one,h];simp
theorem zeA (w:World)(S:Nat→Prop)(nv:Value)(t:Tr)(hS:∀x,S x→x<w.heap.size)(ht:zK w S nv t)(hsz:foLen t.kids≤1000000):Calls Try.prog 68 #[nv] w (zgP w t.kids):=by
 obtain⟨ka,cap,rfl,hcap,hk⟩:=ht
 obtain⟨n,hn⟩:∃n,n=foLen t.kids:=⟨_,rfl⟩
 have hn6:n≤1000000:=by omega
 rw[←hn]
 obtain⟨W0,hW0⟩:∃W0,W0=w.alloc (.cells #[.int .i64 t.id,.int .i64 t.kind,.string t.text,.slice ka n cap] 27):=⟨_,rfl⟩
 have hs0:W0.heap.size=w.heap.size+1:=by rw[hW0];simp
 have hbx:W0.heap[w.heap.size]? =some (.cells #[.int .i64 t.id,.int .i64 t.kind,.string t.text,.slice ka n cap] 27 (0,0)):=by rw[hW0];exact hanQ w _
 have hst:zkt w w.heap.size #[.int .i64 t.id,.int .i64 t.kind,.string t.text,.slice ka n cap] t.kids (.slice none 0 0) 0 W0:=
  ⟨World.ownsRow_nil _ _ _ _,hbx,by rw[hW0];exact (BrQ _ w).alloc (NlrQ _) _⟩
 obtain⟨i0,hi,hz0,hz1,hz2⟩:=info_parts Try.zhG
 have HI:=hH (aN hi (aN hz0 (aN hz1 hz2)))
 have H:=hH (aN hS (aN hcap (aN hk (aN hn (aN hst hW0)))))
 clear hS hcap hk hn hst hW0 hs0 hbx hsz hi hz0 hz1 hz2
 go_enter Try.func68,Try.ntmps68
 go_wp2_with fail
 rw[←H.out.2.2.2.2.2]
 go_loopw [3,4] (fun v i wr=>∃k:Nat,k≤n∧i= .int .i64 (k:Int)∧Hid (zkt w w.heap.size #[.int .i64 t.id,.int .i64 t.kind,.string t.text,.slice ka n cap] t.kids v k wr)) (fun _ i _=>n - (intOf i).toNat)
 case atStart=>exact⟨0,NzlQ _,rfl,hH H.out.2.2.2.2.1⟩
 case round=>
  obtain⟨k,hk,rfl,hr⟩:=hrel
  by_cases hlt:k<n
  · obtain⟨hown,hbx,hbl⟩:=hr.out
    obtain⟨ra,rc,rfl⟩:=zt hown
    have p3:wr.cell? ⟨w.heap.size,3,none⟩=some (.slice ka n cap):=by rw[corQ wr _ 3 _ _ _ hbx];rfl
    have hk1:zk wr S t.kids ka:=H.out.2.2.1.kept fun x hx=>⟨hx,hbl.block x (H.out.1 x hx)⟩
    obtain⟨b0,o0,⟨ki,kk,kt⟩,l',r,hd1',b,off,a1,n1,rfl,hSb,c0,c1,c2,c3,hc1,hl1⟩:=hk1.at k (by rw[←H.out.2.2.2.1];exact hlt)
    have hkk:=zbo k t.kids _ _ _ _ _ hd1'
    have HKK:=hH hkk
    have HO:=hH (aN hown (aN hbx hbl))
    have hkl:(k:Int)<(n:Int):=by omega
    have HLT:=hH hlt
    have hsw:w.heap.size+1≤wr.heap.size:=by have:=lohQ hbx;omega
    clear hkk hk1 hd1' hown hbx hbl hSb hc1 hl1 hlt
    go_wp2_with (at_builtin;refine wpList_append_own _ rfl (.tmp 12) (.tmp 19) _ rfl (w.heap.size+1) 3 i0 (.int .i64 0) 1 8 Try.underlying65 HI.out.1 HI.out.2.1 HI.out.2.2.1 HI.out.2.2.2 rfl om (.slice ra k rc) k _ rfl (HO.out.1.alloc _) ⟨wr.heap.size,0,none⟩ 1 1 [.int .i64 kk] rfl rfl (World.news_of_block (cs:= #[.int .i64 kk]) (hanQ wr _)) ue0 (by have:=HLT.out;unfold maxLen;omega) (by have:=HLT.out;omega) ue6 ?_;intro v8 w8 hown hgrow _;have HF:=hH (aN hown hgrow);clear hown hgrow)
    refine⟨⟨k+1,HLT.out,by go_num,hH ⟨?_,?_,?_⟩⟩,by have:=HLT.out;simp[intOf];omega⟩
    · rw[zgy HKK.out];exact HF.out.1
    · have hob:∀g,Value.ownBlock (.slice ra k rc)=some g→w.heap.size+1≤g:=fun g hg=>(zi HO.out.1 hg).1
      rw[HF.out.2.block _ ue6 (fun e=>by have:=hob _ e.symm;omega),BhaQ _ _ _ om]
      exact HO.out.2.1
    · have hob:∀g,Value.ownBlock (.slice ra k rc)=some g→w.heap.size+1≤g:=fun g hg=>(zi HO.out.1 hg).1
      have hg:=HF.out.2
      have hb:=HO.out.2.2
      refine⟨hg.os.trans hb.os,hg.tape.trans hb.tape,hg.output.trans hb.output,by have:=hg.size;simp at this;have:=hb.size;omega,fun y hy=>?_⟩
      rw[hg.block y ue6 (fun e=>by have:=hob _ e.symm;omega),BhaQ _ _ _ om]
      exact hb.block y hy
  · have hkn:k=n:=by omega
    subst hkn
    have hkl:¬(k:Int)<(k:Int):=by omega
    obtain⟨hown,hbx,hbl⟩:=hr.out
    have p3:wr.cell? ⟨w.heap.size,3,none⟩=some (.slice ka k cap):=by rw[corQ wr _ 3 _ _ _ hbx];rfl
    obtain⟨a,cp,rfl⟩:=zt hown
    have HO:=hH (aN hown hbl)
    clear hown hbx hbl hlt hr
    go_wp2_with fail
    go_ret
    have hln:(qY t.kids).length=k:=by rw[kJ,H.out.2.2.2.1]
    refine⟨a,cp,by rw[hln];rfl,fun h0=>?_,HO.out.2⟩
    have hown:=HO.out.1
    rw[List.take_of_length_le om] at hown
    have hgg:∃g,a=some ⟨g,0,none⟩:=by
     rcases hown.2 with ⟨hv,h1⟩ | ⟨g,cap2,cur,hv,_⟩
     · omega
     · cases hv;exact⟨g,rfl⟩
    obtain⟨g,rfl⟩:=hgg
    exact⟨g,0,rfl,(zi hown rfl).2,fun j x hx=>by rw[Nat.zero_add];exact zC hown rfl j _ (by rw[List.getElem?_map,hx];rfl)⟩
end Go.Proofs.Ytnikgofkldkdkaa
