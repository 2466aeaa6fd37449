/-
  .
-/
import Derived.Test.YtoidedomenkbpaaGreatCStepRQs
set_option maxRecDepth 100000
set_option maxHeartbeats 40000000

namespace Go.Proofs.YtoidedomenkbpaaGreat
open Go.RowKit
open Extern.Stop (cell)
def QB (l:List UInt8):Nat:=l.foldl (fun x u=>x*256+u.toNat) 0
theorem zdU:∀(l:List UInt8) (x:Nat),l.foldl (fun x u=>x*256+u.toNat) x<(x+1)*256 ^ l.length
 | [],x=>by simp
 | u ::l,x=>by
   have h:=zdU l (x*256+u.toNat)
   have hu:u.toNat<256:=u.toNat_lt
   simp only[List.foldl_cons,LlcQ]
   refine nL h ?_
   rw[Nat.pow_succ,Nat.mul_comm (256 ^ l.length) 256,←Nat.mul_assoc]
   exact Nat.mul_le_mul_right _ om1
theorem ziP (l:List UInt8)(k:Nat)(h:l.length≤k):QB l<256 ^ k:=by
 have h1:=zdU l 0
 have h2:256 ^ l.length≤256 ^ k:=Nat.pow_le_pow_right om1 h
 unfold QB
 omega
theorem zgy (l:List UInt8)(u:UInt8):QB (l++[u])=QB l*256+u.toNat:=by simp[QB,List.foldl_append]
theorem zfh (y:Int):(BitVec.ofInt 64 (wrap64 y)).toNat=(y % 18446744073709551616).toNat:=by
 rw[BitVec.toNat_ofInt]
 unfold wrap64
 congr 1
 omega
theorem ziv (x:Nat)(u:UInt8):x*256 ||| u.toNat=x*256+u.toNat:=by
 have h:=Nat.shiftLeft_add_eq_or_of_lt (i:=8) (b:=u.toNat) u.toNat_lt x
 rw[Nat.shiftLeft_eq] at h
 exact h.symm
theorem zdl (x:Nat)(u:UInt8)(hx:x<72057594037927936):zb7 (IntKind.i64.wrap (x:Int)) u=IntKind.i64.wrap ((x*256+u.toNat:Nat):Int):=by
 have hu:u.toNat<256:=u.toNat_lt
 show IntKind.i64.wrap ((BitVec.ofInt 64 (wrap64 (IntKind.i64.wrap (x:Int)*256)) ||| BitVec.ofInt 64 (wrap64 (u.toNat:Int))).toNat:Int)=_
 rw[BitVec.toNat_or,zfh,zfh]
 have e1:(IntKind.i64.wrap (x:Int)*256 % 18446744073709551616).toNat=x*256:=by rw[IntKind.wrap_i64];omega
 have e2:((u.toNat:Int) % 18446744073709551616).toNat=u.toNat:=by omega
 rw[e1,e2,ziv]
theorem Q0 (l:List UInt8)(hl:l.length≤8):numOf l=IntKind.i64.wrap (QB l:Int):=by
 have key:∀k,k≤l.length→numOf (l.take k)=IntKind.i64.wrap (QB (l.take k):Int):=by
  intro k
  induction k with
  | zero=>intro _;simp[numOf,QB,IntKind.wrap_i64]
  | succ k ih=>
    intro hk
    obtain⟨u,hu⟩:∃u,l[k]? =some u:=⟨l[k]'om1,List.getElem?_eq_getElem _⟩
    have hlt:QB (l.take k)<256 ^ 7:=ziP _ 7 ud8
    rw [zao l k u hu,ih om1,zdl _ u (by have e:(256:Nat) ^ 7=72057594037927936:=(by decide);omega),List.take_add_one,hu]
    simp only[Option.toList_some,zgy]
 have:=key l.length (NlrQ _)
 rwa [List.take_length] at this
theorem Jp (n:Int)(s:Nat):((yJ n s).toNat:Int)=n / (2 ^ s:Nat) % 256:=by
 have h0:0≤n / (2 ^ s:Nat) % 256:=Int.emod_nonneg _ ue0
 have h1:n / (2 ^ s:Nat) % 256<256:=Int.emod_lt_of_pos _ ue0
 unfold yJ
 rw[UInt8.toNat_ofNat']
 omega
theorem zgx (n:Int):(QB (zq n):Int)=n % 18446744073709551616:=by
 have e:(QB (zq n):Int)=(((((((((yJ n 56).toNat:Int)*256+(yJ n 48).toNat)*256+(yJ n 40).toNat)*256+(yJ n 32).toNat)*256+(yJ n 24).toNat)*256+(yJ n 16).toNat)*256+(yJ n 8).toNat)*256+(yJ n 0).toNat):=by
  simp[QB,zq]
 rw[e]
 simp only[Jp]
 have d1:n / ((2 ^ 8:Nat):Int) / 256=n / ((2 ^ 16:Nat):Int):=by rw[Int.ediv_ediv_of_nonneg ue0];rfl
 have d2:n / ((2 ^ 16:Nat):Int) / 256=n / ((2 ^ 24:Nat):Int):=by rw[Int.ediv_ediv_of_nonneg ue0];rfl
 have d3:n / ((2 ^ 24:Nat):Int) / 256=n / ((2 ^ 32:Nat):Int):=by rw[Int.ediv_ediv_of_nonneg ue0];rfl
 have d4:n / ((2 ^ 32:Nat):Int) / 256=n / ((2 ^ 40:Nat):Int):=by rw[Int.ediv_ediv_of_nonneg ue0];rfl
 have d5:n / ((2 ^ 40:Nat):Int) / 256=n / ((2 ^ 48:Nat):Int):=by rw[Int.ediv_ediv_of_nonneg ue0];rfl
 have d6:n / ((2 ^ 48:Nat):Int) / 256=n / ((2 ^ 56:Nat):Int):=by rw[Int.ediv_ediv_of_nonneg ue0];rfl
 have d0:n / 256=n / ((2 ^ 8:Nat):Int):=rfl
 have dz:n / ((2 ^ 0:Nat):Int)=n:=by simp
 rw[dz]
 obtain⟨a1,ha1⟩:∃a,a=n / ((2 ^ 8:Nat):Int):=⟨_,rfl⟩
 obtain⟨a2,ha2⟩:∃a,a=n / ((2 ^ 16:Nat):Int):=⟨_,rfl⟩
 obtain⟨a3,ha3⟩:∃a,a=n / ((2 ^ 24:Nat):Int):=⟨_,rfl⟩
 obtain⟨a4,ha4⟩:∃a,a=n / ((2 ^ 32:Nat):Int):=⟨_,rfl⟩
 obtain⟨a5,ha5⟩:∃a,a=n / ((2 ^ 40:Nat):Int):=⟨_,rfl⟩
 obtain⟨a6,ha6⟩:∃a,a=n / ((2 ^ 48:Nat):Int):=⟨_,rfl⟩
 obtain⟨a7,ha7⟩:∃a,a=n / ((2 ^ 56:Nat):Int):=⟨_,rfl⟩
 rw[←ha1] at d0 d1
 rw[←ha2] at d1 d2
 rw[←ha3] at d2 d3
 rw[←ha4] at d3 d4
 rw[←ha5] at d4 d5
 rw[←ha6] at d5 d6
 rw[←ha7] at d6
 rw[←ha1,←ha2,←ha3,←ha4,←ha5,←ha6,←ha7]
 clear ha1 ha2 ha3 ha4 ha5 ha6 ha7 e
 omega
theorem zet (n:Int)(h1: -9223372036854775808≤n)(h2:n≤9223372036854775807):numOf (zq n)=n:=by
 rw[Q0 _ (by rw[zw];omega),zgx,IntKind.wrap_i64]
 omega
def kX (x:Stp)(ka:Option Addr)(cap:Nat):List Value:=
 [.int .i8 x.op,.int .i64 x.id,.int .i64 x.parent,.int .i64 x.place,.string x.text,.int .i64 x.sub.id,.int .i64 x.sub.kind,.string x.sub.text,.slice ka (foLen x.sub.kids) cap]
instance:Inhabited Tr:=⟨⟨0,0,⟨#[]⟩,.nil⟩⟩
theorem Tryz.zj5:(Tryz.prog.info? 41).map (fun i=>(i.size,i.bytes,i.zero.map (fun z=>z.cells.size)))=some (9,104,some 9):=by kernel_rfl
def kD (w:World)(S:Nat→Prop):List Stp→List Value→Prop
 | [],xs=>xs= []
 | x::l,xs=>∃ka cap ys,xs=kX x ka cap++ys∧foLen x.sub.kids≤cap∧zQ w S x.sub.kids ka∧kD w S l ys
theorem kD.kept {w w' :World}{S S' :Nat→Prop}(hS:∀k,S k→S' k∧w'.heap[k]? =w.heap[k]?):∀{l:List Stp} {xs:List Value},kD w S l xs→kD w' S' l xs
 | [],_,h=>h
 | _ ::_,_,h=>by
   obtain⟨ka,cap,ys,e,hp,hl,hr⟩:=h
   exact⟨ka,cap,ys,e,hp,hl.kept hS,hr.kept hS⟩
theorem kD.snoc {w:World}{S:Nat→Prop}{x:Stp}{ka:Option Addr}(hl:zQ w S x.sub.kids ka)(cap:Nat)(hp:foLen x.sub.kids≤cap):∀{l:List Stp} {xs:List Value},kD w S l xs→kD w S (l++[x]) (xs++kX x ka cap)
 | [],xs,h=>by subst h;exact⟨ka,cap,[],by simp,hp,hl,rfl⟩
 | _ ::_,xs,h=>by
   obtain⟨ka',cap',ys,e,hp',hl',hr⟩:=h
   exact⟨ka',cap',_,by rw[e,List.append_assoc],hp',hl',kD.snoc hl cap hp hr⟩
theorem kD.lies {w:World}{S:Nat→Prop}{g:Nat}:∀{l:List Stp} {xs:List Value} (off:Nat),kD w S l xs→(∀j u,xs[j]? =some u→w.cell? ⟨g,off+j,none⟩=some u)→
 ∀k x,l[k]? =some x→∃ka cap,(∀j u,(kX x ka cap)[j]? =some u→w.cell? ⟨g,off+k*9+j,none⟩=some u)∧foLen x.sub.kids≤cap∧zQ w S x.sub.kids ka
 | [],_,_,_,_,k,x,hx=>by simp at hx
 | y :: l,xs,off,h,hc,k,x,hx=>by
   obtain⟨ka,cap,ys,e,hp,hl,hr⟩:=h
   subst e
   cases k with
   | zero=>
     simp only[List.getElem?_cons_zero,Option.some.injEq] at hx
     subst hx
     refine⟨ka,cap,fun j u hj=>?_,hp,hl⟩
     rw[Nat.zero_mul,Nat.add_zero]
     exact hc j u (by rw[List.getElem?_append_left (List.getElem?_eq_some_iff.1 hj).1];exact hj)
   | succ k=>
     have hlen:(kX y ka cap).length=9:=rfl
     obtain⟨ka',cap',h1,h2⟩:=kD.lies (off+9) hr (fun j u hj=>by
      have:=hc (j+9) u (by rw[List.getElem?_append_right om1,hlen];simpa using hj)
      rw[show off+9+j=off+(j+9) by omega];exact this) k x (by simpa using hx)
     refine⟨ka',cap',fun j u hj=>?_,h2⟩
     rw[show off+(k+1)*9+j=off+9+k*9+j by omega]
     exact h1 j u hj
theorem kD.at {w:World}{S:Nat→Prop}{g:Nat}{l:List Stp}{xs:List Value}(h:kD w S l xs)(hg:S g)(hc:∀j u,xs[j]? =some u→w.cell? ⟨g,j,none⟩=some u):vL w S (some ⟨g,0,none⟩) l:=fun _=>
 ⟨g,0,rfl,hg,fun k x hx=>by
  obtain⟨ka,cap,h1,h2⟩:=kD.lies 0 h (fun j u hj=>by rw[Nat.zero_add];exact hc j u hj) k x hx
  exact⟨ka,cap,h1 0 _ rfl,h1 1 _ rfl,h1 2 _ rfl,h1 3 _ rfl,h1 4 _ rfl,h1 5 _ rfl,h1 6 _ rfl,h1 7 _ rfl,h1 8 _ rfl,h2⟩⟩
def Yo (d:List UInt8):Nat→Nat→Got (Stp×Nat):=fun m q=>match jL d q with
 | .error e=> .error e
 | .ok (x,q')=> .ok ((x,m),q')
def Y7 {α:Type}:Got (α×Nat)→Got α
 | .error e=> .error e
 | .ok ((l,_),q)=> .ok (l,q)
def je (d:List UInt8)(p:Nat):Got (List Stp):=match vY d 57 60 p with
 | .error e=> .error e
 | .ok (n,q)=>Y7 (yF (Yo d) n 0 q)
structure za4 (w:World) (b:Nat) (dv:Value) (s:Rd) (rv:Value) (k:Nat) (xs:List Value) (l:List Stp) (qk:Nat) (wr:World):Prop where
 rd:zT wr b dv { s with pos:=qk }
 low:b<w.heap.size∧∀g,dv.ownBlock=some g→g<w.heap.size
 tch:za w wr (fun k=>k=b)
 row:wr.ownsRow w.heap.size 41 9 rv k xs
 fo:kD wr (zfz w wr rv) l xs
 len:l.length=k
theorem za4.next {w wr w2 w3:World}{b:Nat}{dv:Value}{s:Rd}{rv:Value}{k:Nat}{xs:List Value}{l:List Stp}{qk q2 gg cap' :Nat}{x:Stp}{ka:Option Addr}{kcap:Nat}{o:Obj}(h:za4 w b dv s rv k xs l qk wr)
 (hcp:foLen x.sub.kids≤kcap) (hk:zQ w2 (jC wr w2) x.sub.kids ka) (hst:zT w2 b dv { s with pos:=q2 }) (ht:za wr w2 (fun k=>k=b))
 (hrow:w3.ownsRow w.heap.size 41 9 (.slice (some ⟨gg,0,none⟩) (k+1) cap') (k+1) (xs++kX x ka kcap)) (hg:(w2.alloc o).grownBy w3 rv.ownBlock) (hat:rv.ownBlock=some gg∨gg=w2.heap.size+1):
 za4 w b dv s (.slice (some ⟨gg,0,none⟩) (k+1) cap') (k+1) (xs++kX x ka kcap) (l++[x]) q2 w3:=by
 have hrv:∀g,rv.ownBlock=some g→w.heap.size≤g∧g<wr.heap.size:=fun g hg=>zY h.row hg
 have hb:=h.low.1
 have hs1:=h.tch.size
 have hs2:=ht.size
 have hs3:=hg.size
 rw[WsaQ] at hs3
 have t3:za w2 w3 (fun x=>rv.ownBlock=some x):=((za.refl w2 _).alloc o).trans (S':=fun x=>rv.ownBlock=some x) ⟨hg.os,hg.tape,hg.output,hg.size,fun x hx hn=>hg.block x hx (fun e=>hn e.symm)⟩ (fun x hx=>Or.inl hx)
 have tch3:za w w3 (fun k=>k=b):=(h.tch.trans ht (fun x hx=>Or.inl hx)).trans t3 (fun x hx=>Or.inr (hrv x hx).1)
 refine⟨hst.kept t3 (fun e=>by have:=hrv _ e;omega) (fun g hg' e=>by have:=hrv _ e;have:=h.low.2 g hg';omega),h.low,tch3,hrow,?_,by simp[h.len]⟩
 have f1:kD w3 (zfz w w3 (.slice (some ⟨gg,0,none⟩) (k+1) cap')) l xs:=h.fo.kept fun x hx=>by
  have hx3:rv.ownBlock≠some x:=hx.2.2
  have hxw:=hx.1
  have hxr:=hx.2.1
  refine⟨⟨hx.1,by omega,fun e=>?_⟩,?_⟩
  · simp only[Value.ownBlock,Option.some.injEq] at e
    rcases hat with h' | h'
    · exact hx3 (by rw[h',e])
    · omega
  · rw[t3.block x om1 hx3,ht.block x hxr om1]
 have f2:zQ w3 (zfz w w3 (.slice (some ⟨gg,0,none⟩) (k+1) cap')) x.sub.kids ka:=hk.kept fun x hx=>by
  exact sd9
 exact kD.snoc f2 kcap hcp f1
def ZT (w:World):List Stp→Value→World→Prop:=fun l v w'=>∃a n cap,v= .slice a n cap∧n=l.length∧n≤cap∧vL w' (jC w w') a l
theorem zf0 (w:World)(b:Nat)(dv:Value)(s:Rd)(h:zT w b dv s)(n:Nat)(hn2:n≤1000000):
 Calls Tryz.prog 283 #[.int .i64 (n:Int),.func (.func 285) #[.pointer (some ⟨b,0,none⟩)] #[]] w (JC (ZT w) w b dv s (Y7 (yF (Yo s.data) n 0 s.pos))):=by
 obtain⟨out,hout⟩:∃out,out=Y7 (yF (Yo s.data) n 0 s.pos):=⟨_,rfl⟩
 rw[←hout]
 have HO:=hH hout
 have H0:Hid (za4 w b dv s (.slice none 0 0) 0 [] [] s.pos w):=hH ⟨h,⟨lohQ h.here,qO h.owns⟩,za.refl _ _,World.ownsRow_nil _ _ _ _,rfl,rfl⟩
 obtain⟨i0,z0,hi0,hz0,hz1,hz2,hz3⟩:=jk Tryz.zj5
 have HI:=hH (aN hi0 (aN hz0 (aN hz1 (aN hz2 hz3))))
 clear h hout hi0 hz0 hz1 hz2 hz3
 go_enter Tryz.func283,Tryz.ntmps283
 go_wp2_with fail
 go_loopg [5,7] n (fun gk rv i wr=>∃(k:Nat) (xs:List Value) (l:List Stp) (qk:Nat),k+gk=n∧i= .int .i64 (k:Int)∧Hid (za4 w b dv s rv k xs l qk wr∧yF (Yo s.data) k 0 s.pos= .ok ((l,0),qk)))
 case atStart=>exact⟨0,[],[],s.pos,by omega,rfl,hH ⟨H0.out,rfl⟩⟩
 case round=>
  obtain⟨k,xs,l,qk,hkn,rfl,HL⟩:=hrel
  obtain⟨ra,rc,hrv⟩:=yE HL.out.1.row
  subst hrv
  by_cases hlt:k<n
  · have hkl:(k:Int)<(n:Int):=by omega
    have hsub:=zhP wr b dv { s with pos:=qk } HL.out.1.rd
    cases hp:jL s.data qk with
    | error p=>
      have hsub2:Calls Tryz.prog 285 #[.pointer (some ⟨b,0,none⟩)] wr (JC (zjE wr) wr b dv { s with pos:=qk } (.error p)):=by rw[←hp];exact hsub
      have HS:=hH hsub2
      have ho:out= .error p:=by rw[HO.out,Q4 HL.out.2 (show Yo s.data 0 qk= .error p by simp only[Yo,hp]) n hlt];rfl
      subst ho
      clear hsub hsub2 hp HO
      go_wp2_with (go_at_call 285;refine HS.out.mono ?_;rintro e w1 ⟨rfl,h1,h2⟩)
      exact⟨rfl,rfl,h1,HL.out.1.tch.trans h2 (fun x hx=>Or.inl hx)⟩
    | ok y=>
      obtain⟨x,q2⟩:=y
      have hsub2:Calls Tryz.prog 285 #[.pointer (some ⟨b,0,none⟩)] wr (JC (zjE wr) wr b dv { s with pos:=qk } (.ok (x,q2))):=by rw[←hp];exact hsub
      have HS:=hH hsub2
      have hnx:yF (Yo s.data) (k+1) 0 s.pos= .ok ((l++[x],0),q2):=by simp only[yF,HL.out.2,Yo,hp]
      have HX:=hH hnx
      clear hsub hsub2 hp hnx
      go_wp2_with (first
       | (go_at_call 285;refine HS.out.mono ?_;clear HS;rintro e w2 ⟨v,rfl,⟨ka,kcap,rfl,hcp,hk⟩,h1,h2⟩;obtain⟨ln,hln⟩:∃ln,ln=foLen x.sub.kids:=⟨_,rfl⟩;rw[←hln];have hrow2:=vE HL.out.1.row (fun g hg=>h2.block g (qO HL.out.1.row g hg) (fun e=>by have h3:=(zY HL.out.1.row hg).1;have h4:=HL.out.1.low.1;omega));have hsz:=HL.out.1.tch.size;have H2:=hH (aN hcp (aN hk (aN h1 (aN h2 (aN hln (aN hrow2 (NltQ hsz h2.size)))))));clear hcp hk h1 h2 hln hrow2 hsz)
       | (at_builtin;refine wpList_append_lies _ rfl (.tmp 9) (.tmp 12) _ rfl w.heap.size 41 i0 z0 9 104 Tryz.underlying22 HI.out.1 HI.out.2.1 HI.out.2.2.1 HI.out.2.2.2.1 HI.out.2.2.2.2 om1 (.slice ra k rc) k xs rfl (H2.out.2.2.2.2.2.1.alloc _) ⟨w2.heap.size,0,none⟩ 1 1 [.int .i8 x.op,.int .i64 x.id,.int .i64 x.parent,.int .i64 x.place,.string x.text,.int .i64 x.sub.id,.int .i64 x.sub.kind,.string x.sub.text,.slice ka ln kcap] rfl rfl (World.news_of_block (cs:= #[.int .i8 x.op,.int .i64 x.id,.int .i64 x.parent,.int .i64 x.place,.string x.text,.int .i64 x.sub.id,.int .i64 x.sub.kind,.string x.sub.text,.slice ka ln kcap]) (t:=41) (fr:=(0,0)) (hanQ w2 _)) uc9 om1 ud1 om1 (by have:=H2.out.2.2.2.2.2.2;simp;omega) (w2.heap.size+1) sp ?_;intro gg cap' w3 hown3 hgrow hat hlt3;have H3:=hH (aN hown3 (aN hgrow hat));clear hown3 hgrow hat hlt3))
      have h5:=H2.out.2.2.2.2.1
      have h6:=H3.out.1
      have h7:=H3.out.2.1
      rw[h5] at h6
      have h8:=za4.next HL.out.1 H2.out.1 H2.out.2.1 H2.out.2.2.1 H2.out.2.2.2.1 h6 h7 H3.out.2.2
      go_roundg (gk - 1)
      case measure=>omega
      case rel=>exact⟨k+1,_,l++[x],q2,by omega,by go_num,hH ⟨h8,HX.out⟩⟩
  · have hkk:k=n:=by omega
    have HKK:=hH hkk
    have hkl:¬(k:Int)<(n:Int):=by omega
    have ho:out= .ok (l,qk):=by rw[HO.out,←hkk,HL.out.2];rfl
    subst ho
    clear hkk HO
    go_wp2_with fail
    go_ret
    have hrow:=HL.out.1.row
    refine⟨_,rfl,⟨ra,k,rc,rfl,HL.out.1.len.symm,?_,?_⟩,HL.out.1.rd,HL.out.1.tch⟩
    · rcases hrow.2 with ⟨h1,h2⟩ | ⟨g',cap',cur,hv,_,hh,h3,_⟩
      · omega
      · cases hv;exact h3
    · rcases hrow.2 with ⟨h1,h2⟩ | ⟨g',cap',cur,hv,hB,hh,_⟩
      · have h3:l= []:=List.eq_nil_of_length_eq_zero (by have:=HL.out.1.len;omega)
        subst h3
        exact fun h0=>by simp at h0
      · cases hv
        exact (HL.out.1.fo.kept (S':=jC w wr) fun x hx=>⟨⟨hx.1,hx.2.1⟩,rfl⟩).at ⟨hB,lohQ hh⟩ (fun j u hu=>yH hrow rfl j u hu)
theorem zbK (w:World)(b:Nat)(dv:Value)(s:Rd)(h:zT w b dv s):Calls Tryz.prog 279 #[.pointer (some ⟨b,0,none⟩)] w (JC (ZT w) w b dv s (je s.data s.pos)):=by
 have hmf:∀(fn:Fn) (first cap:Array Value) (w:World),(Instr.makeFunc fn first cap).run Tryz.prog w= .ok (.func fn first cap) w:=fun _ _ _ _=>rfl
 have hn:=YV w b dv s h 57 60 om1 om1
 unfold je
 cases hp:vY s.data 57 60 s.pos with
 | error p=>
   rw[hp] at hn
   have HN:=hH hn
   clear hn h hp
   go_enter Tryz.func279,Tryz.ntmps279
   exact sg2
 | ok nq=>
   obtain⟨n,q⟩:=nq
   have hn60:=(YE hp).2.2.1
   rw[hp] at hn
   have HN:=hH hn
   have HT:Hid (∀w1,zT w1 b dv { s with pos:=q }→Calls Tryz.prog 283 #[.int .i64 (n:Int),.func (.func 285) #[.pointer (some ⟨b,0,none⟩)] #[]] w1 (JC (ZT w1) w1 b dv { s with pos:=q } (Y7 (yF (Yo s.data) n 0 q)))):=hH fun w1 h1=>zf0 w1 b dv { s with pos:=q } h1 n om1
   show Calls _ _ _ _ (JC (ZT w) w b dv s (Y7 (yF (Yo s.data) n 0 q)))
   cases hpl:yF (Yo s.data) n 0 q with
   | error p=>
     rw[hpl] at HT
     clear hn h hp hn60 hpl
     go_enter Tryz.func279,Tryz.ntmps279
     go_wp2_with (first
      | (go_at_call 284;refine HN.out.mono ?_;clear HN;rintro e w1 ⟨v,rfl,rfl,h1,h2⟩;have H1:=hH (aN h1 h2);clear h1 h2)
      | (go_at_call 283;refine (HT.out _ H1.out.1).mono ?_;clear HT;rintro e w2 ⟨rfl,h1,h2⟩))
     exact⟨rfl,rfl,h1,H1.out.2.trans h2 (fun k hk=>Or.inl hk)⟩
   | ok y=>
     obtain⟨⟨l,m⟩,q'⟩:=y
     rw[hpl] at HT
     clear hn h hp hn60 hpl
     go_enter Tryz.func279,Tryz.ntmps279
     go_wp2_with (first
      | (go_at_call 284;refine HN.out.mono ?_;clear HN;rintro e w1 ⟨v,rfl,rfl,h1,h2⟩;have H1:=hH (aN h1 h2);clear h1 h2)
      | (go_at_call 283;refine (HT.out _ H1.out.1).mono ?_;clear HT;rintro e w2 ⟨v,rfl,⟨a,k,cap,rfl,hk1,hk2,hk3⟩,h1,h2⟩;have H2:=hH (aN (aN hk1 (aN hk2 hk3)) (aN h1 h2));clear hk1 hk2 hk3 h1 h2))
     go_ret
     have hs:=H1.out.2.size
     exact⟨_,rfl,⟨a,k,cap,rfl,H2.out.1.1,H2.out.1.2.1,H2.out.1.2.2.kept fun x hx=>⟨⟨NltQ hs hx.1,hx.2⟩,rfl⟩⟩,H2.out.2.1,H1.out.2.trans H2.out.2.2 (fun k hk=>Or.inl hk)⟩
theorem byte_back (b:UInt8)(n:Int)(s:Nat)(h:n / (2 ^ s:Nat) % 256=(b.toNat:Int)):yJ n s=b:=by
 apply UInt8.toNat_inj.1
 have:=Jp n s
 omega
theorem jA (v:Int)(q s:Nat)(h:q≤7)(hs:s=8*q):IntKind.i64.wrap v / ((2 ^ s:Nat):Int) % 256=v / ((2 ^ s:Nat):Int) % 256:=by
 subst hs
 rw[IntKind.wrap_i64]
 have hq:q=0∨q=1∨q=2∨q=3∨q=4∨q=5∨q=6∨q=7:=by omega
 rcases hq with rfl | rfl | rfl | rfl | rfl | rfl | rfl | rfl<;>first | (simp;done) | (simp;omega) | omega
theorem down (v x y b:Nat)(s s' :Nat)(hs:s'=s+8)(hx:(v:Int) / ((2 ^ s:Nat):Int)=(x:Int))(hy:x=y*256+b)(hb:b<256):(v:Int) / ((2 ^ s:Nat):Int) % 256=(b:Int)∧(v:Int) / ((2 ^ s' :Nat):Int)=(y:Int):=by
 subst hs
 refine⟨by rw[hx];omega,?_⟩
 have e:((2 ^ (s+8):Nat):Int)=((2 ^ s:Nat):Int)*256:=by rw[Nat.pow_add];rfl
 rw[e,←Int.ediv_ediv_of_nonneg (Int.natCast_nonneg _),hx]
 omega
theorem zhO (b:Nat)(h:b<256):(b:Int) % 256=(b:Int):=by omega
theorem zes (l:List UInt8)(h:l.length=8):zq (numOf l)=l:=by
 match l,h with
 | [b7,b6,b5,b4,b3,b2,b1,b0],_=>
   have hv:=Q0 [b7,b6,b5,b4,b3,b2,b1,b0] sp
   rw[hv]
   obtain⟨v,hvv⟩:∃v,v=QB [b7,b6,b5,b4,b3,b2,b1,b0]:=⟨_,rfl⟩
   rw[←hvv]
   have e0:v=(((((((b7.toNat*256+b6.toNat)*256+b5.toNat)*256+b4.toNat)*256+b3.toNat)*256+b2.toNat)*256+b1.toNat)*256+b0.toNat):=by rw[hvv];simp[QB]
   obtain⟨r0,d1⟩:=down v v _ b0.toNat 0 8 rfl sp e0 b0.toNat_lt
   obtain⟨r1,d2⟩:=down v _ _ b1.toNat 8 16 rfl d1 rfl b1.toNat_lt
   obtain⟨r2,d3⟩:=down v _ _ b2.toNat 16 24 rfl d2 rfl b2.toNat_lt
   obtain⟨r3,d4⟩:=down v _ _ b3.toNat 24 32 rfl d3 rfl b3.toNat_lt
   obtain⟨r4,d5⟩:=down v _ _ b4.toNat 32 40 rfl d4 rfl b4.toNat_lt
   obtain⟨r5,d6⟩:=down v _ _ b5.toNat 40 48 rfl d5 rfl b5.toNat_lt
   obtain⟨r6,d7⟩:=down v _ _ b6.toNat 48 56 rfl d6 rfl b6.toNat_lt
   have r7:(v:Int) / ((2 ^ 56:Nat):Int) % 256=(b7.toNat:Int):=by
    rw[d7];exact zhO _ b7.toNat_lt
   have s7:=byte_back b7 _ 56 ((jA v 7 56 ue0 rfl).trans r7)
   have s6:=byte_back b6 _ 48 ((jA v 6 48 ue0 rfl).trans r6)
   have s5:=byte_back b5 _ 40 ((jA v 5 40 ue0 rfl).trans r5)
   have s4:=byte_back b4 _ 32 ((jA v 4 32 ue0 rfl).trans r4)
   have s3:=byte_back b3 _ 24 ((jA v 3 24 ue0 rfl).trans r3)
   have s2:=byte_back b2 _ 16 ((jA v 2 16 ue0 rfl).trans r2)
   have s1:=byte_back b1 _ 8 ((jA v 1 8 ue0 rfl).trans r1)
   have s0:=byte_back b0 _ 0 ((jA v 0 0 ue0 rfl).trans r0)
   clear r0 r1 r2 r3 r4 r5 r6 r7 d1 d2 d3 d4 d5 d6 d7 e0 hv hvv
   unfold zq
   rw[s7,s6,s5,s4,s3,s2,s1,s0]
def jO (d:List UInt8)(p q:Nat)(bs:List UInt8):Prop:=d.drop p=bs++d.drop q∧p≤q∧q≤d.length
theorem jO.trans {d:List UInt8}{p q r:Nat}{a b:List UInt8}(h:jO d p q a)(k:jO d q r b):jO d p r (a++b):=⟨by rw[h.1,k.1,List.append_assoc],NltQ h.2.1 k.2.1,k.2.2⟩
theorem jK {d:List UInt8}{p:Nat}{n:Int}{q:Nat}(h:jW d p= .ok (n,q)):jO d p q (zq n):=by
 obtain⟨h1,h2⟩:=zcb h
 unfold jW at h
 rw[ipQ h1] at h
 cases h
 rw[zes _ ud8]
 refine⟨?_,by omega,h1⟩
 rw[←List.drop_drop,List.take_append_drop]
theorem Qa {d:List UInt8}{size most:Int}{p n q:Nat}(h:vY d size most p= .ok (n,q)):jW d p= .ok ((n:Int),q):=by
 unfold vY at h
 cases hp:jW d p with
 | error e=>rw[hp] at h;cases h
 | ok x=>
   obtain⟨m,q'⟩:=x
   rw[hp] at h
   simp only at h
   split at h
   · cases h
   · rename_i hc
     cases h
     rw[Int.toNat_of_nonneg om1]
theorem zez {d:List UInt8}{p:Nat}{n:Int}{q:Nat}(h:vZ d p= .ok (n,q)):jO d p q [jI n]:=by
 unfold vZ at h
 split at h
 · rename_i u hu
   cases h
   have hl:=(List.getElem?_eq_some_iff.1 hu)
   obtain⟨hl1,hl2⟩:=hl
   have e:jI (vX u)=u:=by
    apply UInt8.toNat_inj.1
    have hu:=u.toNat_lt
    have hv:((vX u) % 256).toNat=u.toNat:=by
     unfold vX
     simp only[IntKind.wrap,IntKind.signed,IntKind.bits]
     simp
     omega
    unfold jI
    rw[UInt8.toNat_ofNat',hv]
    omega
   rw[e,←hl2]
   exact⟨List.drop_eq_getElem_cons hl1,by omega,hl1⟩
 · cases h
theorem Q6 {d:List UInt8}{p:Nat}{t:ByteArray}{q:Nat}(h:Yq d p= .ok (t,q)):jO d p q (zq (t.size:Int)++t.data.toList):=by
 unfold Yq at h
 cases hp:vY d 1 9223372036854775807 p with
 | error e=>rw[hp] at h;cases h
 | ok x=>
   obtain⟨n,q'⟩:=x
   rw[hp] at h
   cases h
   obtain⟨h1,h2,_,h3⟩:=YE hp
   have hs:(⟨((d.drop q').take n).toArray⟩:ByteArray).size=n:=by
    show ((d.drop q').take n).toArray.size=n
    simp;omega
   rw[hs]
   refine (jK (Qa hp)).trans ⟨?_,by omega,by omega⟩
   show d.drop q'=(d.drop q').take n++d.drop (q'+n)
   rw[←List.drop_drop,List.take_append_drop]
theorem ze9:∀l:List Tr,ZX (kM l)=l.flatMap qa
 | []=>rfl
 | t ::l=>by
   simp only[kM,ZX,List.flatMap_cons,qa,ze9 l,List.append_assoc]
theorem Q5 {α:Type}{one:Nat→Nat→Got (α×Nat)}{d:List UInt8}(enc:α→List UInt8)(h1:∀m p x m' q,one m p= .ok ((x,m'),q)→jO d p q (enc x)):∀(n m p:Nat) (l:List α) (m' q:Nat),p≤d.length→yF one n m p= .ok ((l,m'),q)→jO d p q (l.flatMap enc)∧l.length=n
 | 0,m,p,l,m',q,hp,h=>by
   simp only[yF] at h
   cases h
   exact⟨⟨by simp,NlrQ _,hp⟩,rfl⟩
 | n + 1,m,p,l,m',q,hp,h=>by
   simp only[yF] at h
   cases hl:yF one n m p with
   | error e=>rw[hl] at h;cases h
   | ok x=>
     obtain⟨⟨l1,m1⟩,q1⟩:=x
     rw[hl] at h
     simp only at h
     cases hq:one m1 q1 with
     | error e=>rw[hq] at h;cases h
     | ok y=>
       obtain⟨⟨x,m2⟩,q2⟩:=y
       rw[hq] at h
       cases h
       have ih:=Q5 enc h1 n m p l1 m1 q1 hp hl
       exact⟨by rw[List.flatMap_append];simpa using ih.1.trans (h1 _ _ _ _ _ hq),by simp[ih.2]⟩
theorem zbz (d : List UInt8):∀(f depth m p:Nat) (t:Tr) (m' q:Nat),yA d f depth m p= .ok ((t,m'),q)→jO d p q (qa t)
 | 0,_,_,_,_,_,_,h=>by simp[yA] at h
 | f + 1, depth, m,p,t,m',q,h=>by
   unfold yA at h
   split at h
   · cases h
   · split at h
     · cases h
     · rename_i h1
       split at h
       · cases h
       · rename_i h2
         split at h
         · cases h
         · rename_i h3
           split at h
           · cases h
           · rename_i h4
             split at h
             · cases h
             · rename_i h5
               cases h
               have s4:=jK (Qa h4)
               have s5:=Q5 qa (fun m p x m' q hh=>zbz d f (depth+1) m p x m' q hh) _ _ _ _ _ _ s4.2.2 h5
               have s:=((((jK h1).trans (jK h2)).trans (Q6 h3)).trans s4).trans s5.1
               simp only[qa,zaQ,ze9,Yl,s5.2]
               simpa [List.append_assoc] using s
theorem zbD {d:List UInt8}{p:Nat}{t:Tr}{q:Nat}(h:jo d p= .ok (t,q)):jO d p q (qa t):=by
 unfold jo at h
 split at h
 · cases h
 · rename_i h1
   cases h
   exact zbz d _ _ _ _ _ _ _ h1
theorem zgf {d :List UInt8}{p:Nat}{x:Stp}{q:Nat}(h:jL d p= .ok (x,q)):jO d p q (encS x):=by
 unfold jL at h
 split at h
 · cases h
 · rename_i h1
   split at h
   · cases h
   · rename_i h2
     split at h
     · cases h
     · rename_i h3
       split at h
       · cases h
       · rename_i h4
         split at h
         · cases h
         · rename_i h5
           split at h
           · cases h
           · rename_i h6
             cases h
             exact (((((zez h1).trans (jK h2)).trans (jK h3)).trans (jK h4)).trans (Q6 h5)).trans (zbD h6)
theorem zau {d:List UInt8}{p:Nat}{l:List Stp}{q:Nat}(h:je d p= .ok (l,q)):jO d p q (zq (l.length:Int)++qd l):=by
 unfold je at h
 split at h
 · cases h
 · rename_i n q1 h1
   have s1:=jK (Qa h1)
   unfold Y7 at h
   split at h
   · cases h
   · rename_i h2
     cases h
     have s2:=Q5 encS (fun m p x m' q hh=>by
      unfold Yo at hh
      split at hh
      · cases hh
      · rename_i h3
        cases hh
        exact zgf h3) _ _ _ _ _ _ s1.2.2 h2
     rw[s2.2]
     exact s1.trans s2.1
end Go.Proofs.YtoidedomenkbpaaGreat
