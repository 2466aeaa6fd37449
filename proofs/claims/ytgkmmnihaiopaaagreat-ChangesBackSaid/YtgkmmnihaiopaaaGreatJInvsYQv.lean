/-
  .
-/
import Derived.Test.YtgkmmnihaiopaaaGreatJApplyQv
set_option maxRecDepth 100000
set_option maxHeartbeats 40000000
set_option linter.unusedVariables false
set_option linter.unusedSimpArgs false
namespace Go.Proofs.YtgkmmnihaiopaaaGreat
open Go.RowKit Go.Shelf
def Zu (a:Option Addr)(q:Nat):Prop:=∃d,a=some d∧d.block=q
theorem Zb {a:Option Addr}{n c q:Nat}:some q=(Value.slice a n c).ownBlock↔Zu a q:=zjd
def Ex (F:Nat→Prop)(a:Option Addr)(q:Nat):Prop:=F q∨Zu a q
structure yI (w:World) (F:Nat→Prop) (base BB:Nat) (ba:Option Addr) (bc:Nat) (bs:List Sf) (ys:List Value):Prop where
 box:w.heap[BB]? =some (.cells #[.slice ba bs.length bc] 28 (0,0))
 row:w.ownsRow base 44 9 (.slice ba bs.length bc) bs.length ys
 lies:ZU w (Ex F ba) bs ys
 base:base≤w.heap.size
theorem yI.kept {w X:World}{F:Nat→Prop}{base BB:Nat}{ba:Option Addr}{bc:Nat}{bs:List Sf}{ys:List Value}(h:yI w F base BB ba bc bs ys)(hs:w.heap.size≤X.heap.size)(hk:∀q,q<w.heap.size→(q=BB∨Zu ba q∨¬Ex F ba q)→X.heap[q]? =w.heap[q]?):yI X F base BB ba bc bs ys:=
 ⟨(hk _ (lohQ h.box) (Or.inl rfl)).trans h.box,zH h.row (fun g cur hc hg=>hk g (lt_of_some hc) (Or.inr (Or.inl (Zb.1 hg.symm)))),h.lies.kept fun f a c hl=>⟨hl.1,hl.2.kept fun q hq=>⟨⟨nL hq.1 hs,hq.2⟩,hk q hq.1 (Or.inr (Or.inr hq.2))⟩⟩,NltQ h.base hs⟩
theorem yI.on {w X:World}{F:Nat→Prop}{base BB:Nat}{ba:Option Addr}{bc:Nat}{bs:List Sf}{ys:List Value}(h:yI w F base BB ba bc bs ys)(hb:Below w.heap.size w X):yI X F base BB ba bc bs ys:=h.kept hb.size (fun q hq _=>hb.block q hq)
theorem yI.weak {w:World}{F F' :Nat→Prop}{base BB:Nat}{ba:Option Addr}{bc:Nat}{bs:List Sf}{ys:List Value}(h:yI w F' base BB ba bc bs ys)(hF:∀q,F q→F' q):yI w F base BB ba bc bs ys:=
 ⟨h.box,h.row,h.lies.kept fun f a c hl=>hl.weak fun q hq=>hq.imp (hF q) (fun h=>h),h.base⟩
theorem zS.zbO {w:World}{F:Nat→Prop}{a:Option Addr}{R:Nat}{f:Fo}{b:Option Addr}{c:Nat}(h:zS w (Ex F a) f b c)(hR:w.heap.size≤R):zS w (Ex (fun q=>F q∨q=R) a) f b c:=
 ⟨h.1,h.2.kept fun q hq=>⟨⟨hq.1,fun he=>by
  rcases he with (he | he) | he
  · exact hq.2 (Or.inl he)
  · have:=hq.1;omega
  · exact hq.2 (Or.inr he)⟩,rfl⟩⟩
theorem yI.zbO {w:World}{F:Nat→Prop}{base BB R:Nat}{ba:Option Addr}{bc:Nat}{bs:List Sf}{ys:List Value}(h:yI w F base BB ba bc bs ys)(hR:w.heap.size≤R):yI w (fun q=>F q∨q=R) base BB ba bc bs ys:=
 ⟨h.box,h.row,h.lies.kept fun f a c hl=>hl.zbO hR,h.base⟩
def Jb (s:Sf):Prop:=∀(E:Nat→Prop) (X0 X1 X:World) (t:Tr) (ta sa:Option Addr) (tc sc:Nat),(∀q,E q→q<X.heap.size)→zS X0 E t.kids ta tc→zS X1 E s.sub.kids sa sc→Below X0.heap.size X0 X→Below X1.heap.size X1 X→zb t.kids+1≤2000→(∀i∈idT t,(Lit.int .i64 i).wf=true)→
 Calls Tryz.prog 49 #[.agg #[.int .i64 t.id,.int .i64 t.kind,.string t.text,.slice ta (foLen t.kids) tc],.agg #[.int .i8 s.op,.int .i64 s.id,.int .i64 s.par,.int .i64 s.at_,.string s.tx,.int .i64 s.sub.id,.int .i64 s.sub.kind,.string s.sub.text,.slice sa (foLen s.sub.kids) sc]] X (zju E (s.inv t) (s.on t).2 X)
def zjq (w:World)(F:Nat→Prop)(base BB:Nat)(ba:Option Addr)(bs:List Sf)(s:Sf)(t:Tr)(e:Ending)(W:World):Prop:=∃(v:NV),e= .returned (.tuple #[v.v,.int .i64 (s.on t).2])∧zh w W (fun q=>q=BB∨Zu ba q)∧((s.on t).2=0→∃ba' bc' ys',yI W F base BB ba' bc' (bs++[s.inv t]) ys'∧(∀q,Zu ba' q→Zu ba q∨w.heap.size≤q)∧IsN W (Ex F ba') v (s.on t).1)∧((s.on t).2≠0→Below w.heap.size w W)
theorem zdr {fn:Func}(h:fn.results= #[.cell 5 27,.tmp 6]){w W:World}{F:Nat→Prop}{base BB:Nat}{ba:Option Addr}{bs:List Sf}{s:Sf}{t:Tr}{tmps:Array Value}{g:Nat}{i k:Int}{x:ByteArray}{a:Option Addr}{n c:Nat}(hz:W.heap[g]? =some (.cells #[.int .i64 i,.int .i64 k,.string x,.slice a n c] 27 (0,0)))(ht:zh w W (fun q=>q=BB∨Zu ba q))(hy:(s.on t).2=0→∃ba' bc' ys',yI W F base BB ba' bc' (bs++[s.inv t]) ys'∧(∀q,Zu ba' q→Zu ba q∨w.heap.size≤q)∧IsN W (Ex F ba') ⟨i,k,x,a,n,c⟩ (s.on t).1)(hno:(s.on t).2≠0→Below w.heap.size w W)
 (h1:tmps.getD 5 undef= .pointer (some ⟨g,0,none⟩)) (h2:tmps.getD 6 undef= .int .i64 (s.on t).2):bodyPost Tryz.prog fn (zjq w F base BB ba bs s t) .ret { tmps,defers:=[] } W:=by
 refine brQ (yA h tmps W g 27 _ _ _ (.int .i64 (s.on t).2) h1 hz Tryz.underlying27 rfl kr1 h2) rfl ?_
 exact⟨⟨i,k,x,a,n,c⟩,rfl,ht,hy,hno⟩
theorem zhY (w X0:World)(F:Nat→Prop)(base BB:Nat)(t:Tr)(x:SV)(ta ba:Option Addr)(tn tc bc:Nat)(bs:List Sf)(ys:List Value)(hF:∀q,F q→q<w.heap.size)(hFB:F BB)(hbk:yI w F base BB ba bc bs ys)(hlen:bs.length≤1000)(htn:tn=foLen t.kids)(hlt:zS w (Ex F ba) t.kids ta tc)(hlx:zS X0 (Ex F ba) x.s.sub.kids x.a x.c)(hb0:Below X0.heap.size X0 w)(hz:zb t.kids+1≤2000)(hok:∀i∈idT t,(Lit.int .i64 i).wf=true)(ho:zbm x.s)(hfn:Jb x.s):
 Calls Tryz.prog 48 #[.agg #[.int .i64 t.id,.int .i64 t.kind,.string t.text,.slice ta tn tc],x.v,.pointer (some ⟨BB,0,none⟩)] w (zjq w F base BB ba bs x.s t):=by
 obtain⟨sn,hsn⟩:∃sn,sn=foLen x.s.sub.kids:=⟨_,rfl⟩
 have hxv:x.v= .agg #[.int .i8 x.s.op,.int .i64 x.s.id,.int .i64 x.s.par,.int .i64 x.s.at_,.string x.s.tx,.int .i64 x.s.sub.id,.int .i64 x.s.sub.kind,.string x.s.sub.text,.slice x.a sn x.c]:=by rw[hsn];rfl
 rw[hxv]
 obtain⟨B,hB⟩:∃B,B=zl w [.cells #[.int .i64 t.id,.int .i64 t.kind,.string t.text,.slice ta tn tc] 27,.cells #[.int .i8 x.s.op,.int .i64 x.s.id,.int .i64 x.s.par,.int .i64 x.s.at_,.string x.s.tx,.int .i64 x.s.sub.id,.int .i64 x.s.sub.kind,.string x.s.sub.text,.slice x.a sn x.c] 44,.cells #[.int .i64 0,.int .i64 0,.string ⟨#[]⟩,.slice none 0 0] 27]:=⟨_,rfl⟩
 have hb:Below w.heap.size w B:=by rw[hB];exact zi _ _
 have hsz:B.heap.size=w.heap.size+3:=by rw[hB];exact zw _ _
 have e0:B.heap[w.heap.size]? =some (.cells #[.int .i64 t.id,.int .i64 t.kind,.string t.text,.slice ta tn tc] 27 (0,0)):=by rw[hB];exact ze _ _ 0 _ rfl
 have e1:B.heap[w.heap.size+1]? =some (.cells #[.int .i8 x.s.op,.int .i64 x.s.id,.int .i64 x.s.par,.int .i64 x.s.at_,.string x.s.tx,.int .i64 x.s.sub.id,.int .i64 x.s.sub.kind,.string x.s.sub.text,.slice x.a sn x.c] 44 (0,0)):=by rw[hB];exact ze _ _ 1 _ rfl
 have e2:B.heap[w.heap.size+1+1]? =some (.cells #[.int .i64 0,.int .i64 0,.string ⟨#[]⟩,.slice none 0 0] 27 (0,0)):=by rw[hB];exact ze _ _ 2 _ rfl
 have hE:∀q,Ex F ba q→q<w.heap.size:=fun q hq=>by
  rcases hq with hq | hq
  · exact hF q hq
  · exact (zk hbk.row (Zb.2 hq).symm).2
 obtain⟨RB,hRB⟩:∃RB,RB=w.heap.size+1+1:=⟨_,rfl⟩
 obtain⟨F2,hF2d⟩:∃F2:Nat→Prop,F2=fun q=>F q∨q=RB:=⟨_,rfl⟩
 have hF2:∀q,F2 q→q<B.heap.size:=fun q hq=>by
  rw[hF2d] at hq
  rcases hq with hq | hq
  · have:=hF q hq;omega
  · omega
 have hFB2:F2 BB:=by rw[hF2d];exact Or.inl hFB
 have hlt2:zS B (Ex F2 ba) t.kids ta tc:=by rw[hF2d];exact (hlt.zbO om).on hb
 have hlx2:zS B (Ex F2 ba) x.s.sub.kids x.a x.c:=by
  rw[hF2d]
  exact ((hlx.on hb0).zbO om).on hb
 have hbk2:yI B F2 base BB ba bc bs ys:=by rw[hF2d];exact (hbk.zbO om).on hb
 have hiv:=hfn (Ex F2 ba) B B B t ta x.a tc x.c (fun q hq=>by
  rcases hq with hq | hq
  · exact hF2 q hq
  · have:=hE q (Or.inr hq);omega) hlt2 hlx2 (BrQ _ _) (BrQ _ _) hz hok
 clear hfn
 rw[←htn,←hsn] at hiv
 obtain⟨b,hbq⟩:∃b,b=x.s.inv t:=⟨_,rfl⟩
 obtain⟨y,hy⟩:∃y,y=(x.s.on t).1:=⟨_,rfl⟩
 obtain⟨ye,hye⟩:∃ye,ye=(x.s.on t).2:=⟨_,rfl⟩
 rw[←hbq,←hye] at hiv
 have HIV:=hH hiv
 have HB:=hH (aN hb (aN hsz (aN e0 (aN e1 e2))))
 have HBE:=hH hB
 have HP:=hH (aN hF2 (aN hFB2 (aN hE (aN htn (aN hlt2 (aN hlx2 (aN hb (aN hz (aN hok ho)))))))))
 have HFD:=hH hF2d
 have HK:=hH (aN hbk2 (aN hlen (lohQ hbk.box)))
 have HY:=hH (aN hbq (aN hy (aN hye hsn)))
 obtain⟨n0,n1,n2,n3⟩:=zD e0
 obtain⟨m0,m1,m2,m3,m4,m5,m6,m7,m8⟩:=yL e1
 have HRB:=hH hRB
 clear hF2 hFB2 hlt2 hlx2 hbk2 hF2d hF hFB hbk hlen htn hlt hlx hb0 hz hok ho hxv hb hsz e0 e1 e2 hE hiv hbq hy hye hsn hB
 go_enter Tryz.func48,Tryz.ntmps48
 go_upto_region 1 with fail
 change Code.wp _ _ _ _ (zl w [.cells #[.int .i64 t.id,.int .i64 t.kind,.string t.text,.slice ta tn tc] 27,.cells #[.int .i8 x.s.op,.int .i64 x.s.id,.int .i64 x.s.par,.int .i64 x.s.at_,.string x.s.tx,.int .i64 x.s.sub.id,.int .i64 x.s.sub.kind,.string x.s.sub.text,.slice x.a sn x.c] 44,.cells #[.int .i64 0,.int .i64 0,.string ⟨#[]⟩,.slice none 0 0] 27])
 rw[←HBE.out,←hRB]
 clear hRB HBE
 go_wp2_with fail
 clear n0 n1 n2 n3 m0 m1 m2 m3 m4 m5 m6 m7 m8
 refine HIV.out.mono ?_
 rintro e w2 ⟨va,vc,rfl,hlb,hb2⟩
 obtain⟨bn,hbn⟩:∃bn,bn=foLen b.sub.kids:=⟨_,rfl⟩
 rw[←hbn]
 obtain⟨U,hU⟩:∃U,U=w2.alloc (.cells #[.int .i8 b.op,.int .i64 b.id,.int .i64 b.par,.int .i64 b.at_,.string b.tx,.int .i64 b.sub.id,.int .i64 b.sub.kind,.string b.sub.text,.slice va bn vc] 44):=⟨_,rfl⟩
 have hbU:Below w2.heap.size w2 U:=by rw[hU];exact zg _ _
 have hsU:U.heap.size=w2.heap.size+1:=by rw[hU];simp
 have hnU:U.heap[w2.heap.size]? =some (.cells #[.int .i8 b.op,.int .i64 b.id,.int .i64 b.par,.int .i64 b.at_,.string b.tx,.int .i64 b.sub.id,.int .i64 b.sub.kind,.string b.sub.text,.slice va bn vc] 44 (0,0)):=by rw[hU];exact hanQ _ _
 have HU:=hH hU
 have hBU:Below B.heap.size B U:=hb2.trans (hbU.mono hb2.size)
 have H2:=hH (aN hBU (aN (hlb.on hbU) (aN hsU (aN hnU hb2.size))))
 have HBN:=hH hbn
 obtain⟨sb,hsb⟩:∃sb,sb=w2.heap.size:=⟨_,rfl⟩
 clear hU hbU hsU hnU hlb hb2 HIV hbn hBU
 go_upto_region 2 with fail
 change Code.wp _ _ _ _ (w2.alloc (.cells #[.int .i8 b.op,.int .i64 b.id,.int .i64 b.par,.int .i64 b.at_,.string b.tx,.int .i64 b.sub.id,.int .i64 b.sub.kind,.string b.sub.text,.slice va bn vc] 44))
 rw[←HU.out,←hsb]
 rw[←hsb] at H2
 clear hsb HU
 have HWU:=hH (HB.out.1.trans (H2.out.1.mono HB.out.1.size))
 by_cases hz:ye=0
 · have hzb:(ye != 0)=false:=by simpa using hz
   have HZ:=hH (show (x.s.on t).2=0 by rw[←HY.out.2.2.1];exact hz)
   clear hz
   have kU:=HK.out.1.on H2.out.1
   obtain⟨k,hk⟩:∃k,k=bs.length:=⟨_,rfl⟩
   have hbx:=kU.box
   have hrow:=kU.row
   rw[←hk] at hbx hrow
   have hk1:k≤1000:=by rw[hk];exact HK.out.2.1
   have c0:U.cell? ⟨BB,0,none⟩=some (.slice ba k bc):=by rw[corQ _ _ 0 _ _ _ hbx];rfl
   obtain⟨m0,m1,m2,m3,m4,m5,m6,m7,m8⟩:=yL H2.out.2.2.2.1
   obtain⟨i1,z1,hi1,hy0,hy1,hy2,hy3⟩:=yw Tryz.zfE
   have HI1:=hH (aN hi1 (aN hy0 (aN hy1 (aN hy2 hy3))))
   have HRW:=hH (aN hrow kU.base)
   have HKK:=hH hk
   have HBX:=hH hbx
   clear hi1 hy0 hy1 hy2 hy3 hrow kU hk hbx
   go_upto_region 4 with fail
   go_upto_region 5 with (at_builtin;refine wpList_append_lies _ rfl (.tmp 19) (.tmp 21) _ rfl base 44 i1 z1 9 104 Tryz.underlying28 HI1.out.1 HI1.out.2.1 HI1.out.2.2.1 HI1.out.2.2.2.1 HI1.out.2.2.2.2 om (.slice ba k bc) k ys rfl (HRW.out.1.alloc _) ⟨U.heap.size,0,none⟩ 1 1 [.int .i8 b.op,.int .i64 b.id,.int .i64 b.par,.int .i64 b.at_,.string b.tx,.int .i64 b.sub.id,.int .i64 b.sub.kind,.string b.sub.text,.slice va bn vc] rfl rfl (World.news_of_block (cs:= #[.int .i8 b.op,.int .i64 b.id,.int .i64 b.par,.int .i64 b.at_,.string b.tx,.int .i64 b.sub.id,.int .i64 b.sub.kind,.string b.sub.text,.slice va bn vc]) (t:=44) (fr:=(0,0)) (hanQ U _)) uf6 om uf7 om (by have:=HRW.out.2;simp;omega) (U.heap.size+1) sp1 ?_;intro g1 c1 W7 hown7 hgrow7 hat7 hlt7;have H7:=hH (aN hown7 (aN hgrow7 hat7));clear hown7 hgrow7 hat7 hlt7;have hB7:W7.heap[BB]? =some (.cells #[.slice ba k bc] 28 (0,0)):=(H7.out.2.1.block BB (by rw[WsaQ];have:=lohQ HBX.out;omega) (fun e=>by obtain⟨d,hd⟩:=jX HRW.out.1 e.symm;exact absurd (zjz HBX.out hd) ug7)).trans ((BhaQ _ _ _ (lohQ HBX.out)).trans HBX.out);have b7:W7.cell? ⟨BB,0,none⟩=some (.slice ba k bc):=(by rw[corQ _ _ 0 _ _ _ hB7];rfl);have f7:W7.frozen? ⟨BB,0,none⟩=false:=forQ _ _ 0 _ _ hB7;have HB7:=hH hB7;clear hB7)
   have hold7:∀q,q<U.heap.size→¬Zu ba q→W7.heap[q]? =U.heap[q]?:=fun q h1 h2=>(H7.out.2.1.block q (by rw[WsaQ];omega) (fun e=>h2 (Zb.1 e))).trans (BhaQ _ _ _ h1)
   have hs7:=H7.out.2.1.size
   rw[WsaQ] at hs7
   obtain⟨W8,hW8,r1,r2,r3,r4,r5,r6⟩:=one_set (i:=0) (u:= .slice (some ⟨g1,0,none⟩) (k+1) c1) HB7.out
   have hold8:∀q,q<U.heap.size→q≠BB→¬Zu ba q→W8.heap[q]? =U.heap[q]?:=fun q h1 h2 h3=>(r2 q h2).trans (hold7 q h1 h3)
   have hUB:w.heap.size+3≤U.heap.size:=by have:=H2.out.1.size;have:=HB.out.2.1;omega
   have hBBw:BB<w.heap.size:=HK.out.2.2
   have hbaw:∀q,Zu ba q→q<w.heap.size:=fun q hq=>HP.out.2.2.1 q (Or.inr hq)
   have hg1:∀q,Zu (some ⟨g1,0,none⟩) q→Zu ba q∨q=U.heap.size+1:=fun q hq=>by
    obtain⟨d,e,hd⟩:=hq
    cases e
    simp only at hd
    subst hd
    rcases H7.out.2.2 with h | h
    · exact Or.inl (Zb.1 h.symm)
    · exact Or.inr h
   have hgz:∀q,Zu (some ⟨g1,0,none⟩) q→q<W7.heap.size:=fun q hq=>(zk H7.out.1 (Zb.2 hq).symm).2
   have hEE:∀{f a c},zS U (Ex F2 ba) f a c→zS W8 (Ex F2 (some ⟨g1,0,none⟩)) f a c:=fun {f a c} h=>⟨h.1,h.2.kept fun q hq=>by
    have h1:¬F2 q:=fun h=>hq.2 (Or.inl h)
    have h2:¬Zu ba q:=fun h=>hq.2 (Or.inr h)
    have h3:q≠BB:=fun e=>h1 (e▸HP.out.2.1)
    refine⟨⟨by rw[r6];have:=hq.1;omega,fun he=>?_⟩,hold8 q hq.1 h3 h2⟩
    rcases he with he | he
    · exact h1 he
    · rcases hg1 q he with h | h
      · exact h2 h
      · have:=hq.1;omega⟩
   have hT8:zh w W8 (fun q=>q=BB∨Zu ba q):=⟨r3.trans (H7.out.2.1.os.trans HWU.out.os),r4.trans (H7.out.2.1.tape.trans HWU.out.tape),r5.trans (H7.out.2.1.output.trans HWU.out.output),by rw[r6];have:=HWU.out.size;omega,fun q h1 h2=>(hold8 q (by have:=HWU.out.size;omega) (fun e=>h2 (Or.inl e)) (fun e=>h2 (Or.inr e))).trans (HWU.out.block q h1)⟩
   have hw8:∀q,q<U.heap.size→w.heap.size≤q→W8.heap[q]? =U.heap[q]?:=fun q h1 h2=>hold8 q h1 om (fun h=>by have:=hbaw q h;omega)
   have kU:=HK.out.1.on H2.out.1
   have hK8:∃ys',yI W8 F2 base BB (some ⟨g1,0,none⟩) c1 (bs++[b]) ys':=by
    refine⟨_,⟨?_,?_,(ZU.snoc (E:=Ex F2 (some ⟨g1,0,none⟩)) (t:=b) (a:=va) (c:=vc) (hEE H2.out.2.1) (kU.lies.kept fun f a c h=>hEE h)),by rw[r6];have:=HRW.out.2;omega⟩⟩
    · rw[r1,LlaQ,List.length_singleton,←HKK.out];simp
    · rw [LlaQ,List.length_singleton,←HKK.out]
      have h:=H7.out.1
      rw[HBN.out] at h
      exact zH h (fun q cur hc hq=>r2 q (fun e=>by
       rw[e,HB7.out] at hc
       cases hc))
   have e0:W8.heap[w.heap.size]? =some (.cells #[.int .i64 t.id,.int .i64 t.kind,.string t.text,.slice ta tn tc] 27 (0,0)):=(hw8 _ om om).trans ((H2.out.1.block _ uf2).trans HB.out.2.2.1)
   have e1:W8.heap[w.heap.size+1]? =some (.cells #[.int .i8 x.s.op,.int .i64 x.s.id,.int .i64 x.s.par,.int .i64 x.s.at_,.string x.s.tx,.int .i64 x.s.sub.id,.int .i64 x.s.sub.kind,.string x.s.sub.text,.slice x.a sn x.c] 44 (0,0)):=(hw8 _ om om).trans ((H2.out.1.block _ uf2).trans HB.out.2.2.2.1)
   have e2:W8.heap[RB]? =some (.cells #[.int .i64 0,.int .i64 0,.string ⟨#[]⟩,.slice none 0 0] 27 (0,0)):=by rw[HRB.out];exact (hw8 _ om om).trans ((H2.out.1.block _ uf2).trans HB.out.2.2.2.2)
   have hs8:W8.heap.size≥U.heap.size+1:=by rw[r6];omega
   have hap:=zjU (X:=W8) (X0:=W8) (E:=Ex F2 (some ⟨g1,0,none⟩)) (fun q hq=>by
    rcases hq with hq | hq
    · have:=HP.out.1 q hq;have:=H2.out.1.size;omega
    · have:=hgz q hq;rw[r6];exact this) (hEE (HP.out.2.2.2.2.1.on H2.out.1)) (X1:=W8) (hEE (HP.out.2.2.2.2.2.1.on H2.out.1)) (BrQ _ _) (BrQ _ _) HP.out.2.2.2.2.2.2.2.1 HP.out.2.2.2.2.2.2.2.2.1 HP.out.2.2.2.2.2.2.2.2.2
   rw[←HP.out.2.2.2.1,←HY.out.2.2.2] at hap
   have hyr:zV (x.s.on t)=y:=by rw[zV,ipQ HZ.out,←HY.out.2.1]
   rw[hyr] at hap
   rw[HZ.out] at hap
   have HAP:=hH hap
   have H8:=hH (aN hT8 (aN hK8 (aN e2 (aN hs8 (aN hg1 (aN hbaw (aN hUB hgz)))))))
   have hW8k:W7.setCell ⟨BB,0,none⟩ (.slice (some ⟨g1,0,none⟩) (k+1) c1)=W8:=hW8.symm
   rw[hW8k]
   obtain⟨n0,n1,n2,n3⟩:=zD e0
   obtain⟨q0,q1,q2,q3,q4,q5,q6,q7,q8⟩:=yL e1
   clear hap hT8 hK8 e0 e1 e2 hs8 hg1 hbaw hUB hgz hEE hw8 hBBw hold8 hold7 hs7 r1 r2 r3 r4 r5 hW8 hW8k kU c0 m0 m1 m2 m3 m4 m5 m6 m7 m8 hyr
   have HR6:=hH r6
   clear r6
   go_wp2_with fail
   refine HAP.out.mono ?_
   clear n0 n1 n2 n3 q0 q1 q2 q3 q4 q5 q6 q7 q8
   rintro e w9 ⟨ya,yc,rfl,hl9,hb9⟩
   obtain⟨yn,hyn⟩:∃yn,yn=foLen y.kids:=⟨_,rfl⟩
   rw[←hyn]
   have e9:=(hb9.block _ (lohQ H8.out.2.2.1)).trans H8.out.2.2.1
   obtain⟨z0,z1,z2,z3⟩:=zD e9
   have zf:∀j,w9.frozen? ⟨RB,j,none⟩=false:=fun j=>forQ _ _ j _ _ e9
   obtain⟨V,hV,s1,s2,s3,s4,s5,s6⟩:=zo (u0:= .int .i64 y.id) (u1:= .int .i64 y.kind) (u2:= .string y.text) (u3:= .slice ya yn yc) e9
   have HV:=hH (aN hV (aN s1 (aN s2 (aN s3 (aN s4 (aN s5 (aN s6 (aN hl9 (aN hb9 hyn)))))))))
   clear hV s1 s2 s3 s4 s5 s6 hl9 hb9 hyn e9
   go_wp2_with fail
   rw[←HV.out.1]
   obtain⟨hV,s1,s2,s3,s4,s5,s6,hl9,hb9,hyn⟩:=HV.out
   obtain⟨hT8,⟨ys',hK8⟩,e2,hs8,hg1,hbaw,hUB,hgz⟩:=H8.out
   have hRBn:∀q,Zu (some ⟨g1,0,none⟩) q→q≠RB:=fun q hq e=>by
    have:=HRB.out
    rcases hg1 q hq with h | h
    · have:=hbaw q h;omega
    · omega
   have hBRB:BB≠RB:=by have:=HRB.out;have:=HK.out.2.2;omega
   have hF2R:F2 RB:=by rw[HFD.out];exact Or.inr rfl
   have hF2F:∀q,F q→F2 q:=fun q hq=>by rw[HFD.out];exact Or.inl hq
   refine zdr rfl (i:=y.id) (k:=y.kind) (x:=y.text) (a:=ya) (n:=yn) (c:=yc) (g:=RB) s1 ⟨s3.trans (hb9.os.trans hT8.os),s4.trans (hb9.tape.trans hT8.tape),s5.trans (hb9.output.trans hT8.output),by rw[s6];exact NltQ hT8.size hb9.size,fun q h1 h2=>(s2 q (by have:=HRB.out;omega)).trans ((hb9.block q (nL h1 hT8.size)).trans (hT8.block q h1 h2))⟩ (fun _=>⟨some ⟨g1,0,none⟩,c1,ys',?_,fun q hq=>?_,?_⟩) (fun h=>absurd HZ.out h) rfl (by rw[HZ.out];rfl)
   · rw[←HY.out.1]
     refine ((hK8.on hb9).kept (by rw[s6];exact NlrQ _) (fun q h1 h2=>s2 q (fun e=>?_))).weak hF2F
     rcases h2 with h2 | h2 | h2
     · exact hBRB (h2.symm.trans e)
     · exact hRBn q h2 e
     · exact h2 (Or.inl (e▸hF2R))
   · rcases hg1 q hq with h | h
     · exact Or.inl h
     · exact Or.inr om
   · rw[←HY.out.2.1]
     exact⟨rfl,rfl,rfl,hyn,hl9.1,hl9.2.kept fun q hq=>⟨⟨by rw[s6];exact hq.1,fun he=>hq.2 (he.imp (hF2F q) (fun h=>h))⟩,s2 q (fun e=>hq.2 (Or.inl (e▸hF2R)))⟩⟩
 · have hzb:(ye != 0)=true:=by simpa using hz
   have HZ:=hH (show ¬(x.s.on t).2=0 by rw[←HY.out.2.2.1];exact hz)
   clear hz
   have e2:=(H2.out.1.block _ (lohQ HB.out.2.2.2.2)).trans HB.out.2.2.2.2
   rw[←HRB.out] at e2
   obtain⟨z0,z1,z2,z3⟩:=zD e2
   have zf:∀j,U.frozen? ⟨RB,j,none⟩=false:=fun j=>forQ _ _ j _ _ e2
   obtain⟨V,hV,s1,s2,s3,s4,s5,s6⟩:=zo (u0:= .int .i64 0) (u1:= .int .i64 0) (u2:= .string ⟨#[]⟩) (u3:= .slice none 0 0) e2
   have HV:=hH (aN hV (aN s1 (aN s2 (aN s3 (aN s4 (aN s5 s6))))))
   clear hV s1 s2 s3 s4 s5 s6 e2
   go_wp2_with fail
   rw[←HV.out.1]
   obtain⟨hV,s1,s2,s3,s4,s5,s6⟩:=HV.out
   exact zdr rfl (i:=0) (k:=0) (x:=⟨#[]⟩) (a:=none) (n:=0) (c:=0) (g:=RB) s1 ⟨s3.trans HWU.out.os,s4.trans HWU.out.tape,s5.trans HWU.out.output,by rw[s6];exact HWU.out.size,fun q h1 h2=>(s2 q (by have:=HRB.out;omega)).trans (HWU.out.block q h1)⟩ (fun h=>absurd h HZ.out) (fun _=>⟨s3.trans HWU.out.os,s4.trans HWU.out.tape,s5.trans HWU.out.output,by rw[s6];exact HWU.out.size,fun q h1=>(s2 q (by have:=HRB.out;omega)).trans (HWU.out.block q h1)⟩) rfl (by rw[←HY.out.2.2.1];rfl)
def goA (t:Tr):List Sf→Option Tr
 | []=>some t
 | s::l=>if (s.on t).2=0 then goA (s.on t).1 l else none
def qw (t:Tr):List Sf→List Sf
 | []=>[]
 | s::l=>s.inv t::qw (s.on t).1 l
theorem zdl:∀{l:List Sf} {t x:Tr} {s:Sf},goA t l=some x→(s.on x).2=0→goA t (l++[s])=some (s.on x).1
 | [],t,x,s,h,hs=>by cases h;simp[goA,hs]
 | r ::l,t,x,s,h,hs=>by
   rw[goA] at h
   split at h
   · rename_i h0
     rw[List.cons_append,goA,ipQ h0]
     exact zdl h hs
   · cases h
theorem zdm:∀{l:List Sf} {k:Nat} {t x:Tr} {s:Sf},goA t (l.take k)=some x→l[k]? =some s→(s.on x).2≠0→goA t l=none
 | [],k,t,x,s,_,hs,_=>by simp at hs
 | r ::l,0,t,x,s,h,hs,hn=>by
   simp at hs;subst hs
   rw[List.take_zero] at h;cases h
   rw[goA,inQ hn]
 | r ::l,k+1,t,x,s,h,hs,hn=>by
   rw[List.take_succ_cons,goA] at h
   split at h
   · rename_i h0
     rw[goA,ipQ h0]
     exact zdm h (by simpa using hs) hn
   · cases h
theorem Jg:∀{l:List Sf} {t x:Tr} (s:Sf),goA t l=some x→qw t (l++[s])=qw t l++[s.inv x]
 | [],t,x,s,h=>by cases h;rfl
 | r ::l,t,x,s,h=>by
   rw[goA] at h
   split at h
   · rw[List.cons_append,qw,qw,List.cons_append,Jg s h]
   · cases h
theorem jk:∀(l:List Sf) (t:Tr),(qw t l).length=l.length
 | [],_=>rfl
 | s::l,t=>by simp[qw,jk l]
theorem zhG {g:Gr}{r:Tr×Int}(h:(doK g r).2=0):r.2=0∧(doK g r).1=r.1∧(qG g r.1).2=0:=by
 unfold doK at h ⊢
 split at h
 · rename_i h1
   split at h
   · rename_i h2;rw[ipQ h1,ipQ h2];exact⟨h1,rfl,h2⟩
   · rename_i h2;exact absurd h h2
 · rename_i h1;exact absurd h h1
theorem zaz {g:Gr}:∀{l:List Sf} {t y:Tr},goT g t l=some y→goA t l=some y
 | [],t,y,h=>h
 | s ::l,t,y,h=>by
   rw[goT] at h
   split at h
   · rename_i h0
     obtain⟨h1,h2,_⟩:=zhG h0
     rw[h2] at h
     rw[goA,ipQ h1]
     exact zaz h
   · cases h
theorem zjb (s:Sf)(t:Tr)(h:(s.on t).2=0):zb (s.on t).1.kids≤zb t.kids+YD s:=by
 have hx:=(Ym (op:=s.op) (id:=s.id) (par:=s.par) (at_:=s.at_) (tx:=s.tx) (x:=s.sub) (t:=t) (y:=(s.on t).1) (by unfold Sf.on at h ⊢;exact Prod.ext rfl h)).1
 unfold YD
 cases hx with
 | ins ho h=>have:=h (fun _=>true);rw[zJ,zJ,zJ] at this;rw[ipQ ho];omega
 | del ho q v hq hv h=>have:=h (fun _=>true);rw[zJ,zJ,zJ] at this;omega
 | mov ho h=>have:=h (fun _=>true);rw[zJ,zJ] at this;omega
 | wri ho q u hq hu h=>
   have:=h (fun _=>true)
   rw[zJ,zJ] at this
   simp only[jr,if_true] at this
   omega
structure zjS (n:Nat) (t:Tr):Prop where
 size:zb t.kids+1≤250+n
 ok:okF (spF 1 (zm t))
theorem zjl {n:Nat}{t:Tr}{s:Sf}(hs:vo s)(h:zjS n t)(h0:(s.on t).2=0):zjS (n+YD s) (s.on t).1:=by
 have hx:=Ym (op:=s.op) (id:=s.id) (par:=s.par) (at_:=s.at_) (tx:=s.tx) (x:=s.sub) (t:=t) (y:=(s.on t).1) (by unfold Sf.on at h0 ⊢;exact Prod.ext rfl h0)
 exact⟨by have:=zjb s t h0;have:=h.size;omega,hx.1.ok h.ok hs.ok hs.tx⟩
theorem zfI {t:Tr}(h:okF (spF 1 (zm t))):∀i∈idT t,(Lit.int .i64 i).wf=true:=fun i hi=>by
 have hz:yS (YE i) t≠0:=by
  rw[vJ]
  intro h0
  have h1:=(vW i (zm t)).1
  rw[Ya] at h1
  have h2:i∈jE (zm t):=by
   rw[zm,yO]
   rw[idT] at hi
   rcases List.mem_cons.1 hi with rfl | hi
   · exact List.mem_cons_self ..
   · have e:idF t.kids=jE t.kids:=zcl t.kids
     rw[e] at hi
     exact List.mem_cons_of_mem _ (List.mem_append_left _ hi)
  have:=h1 h2
  omega
 obtain⟨y,hy,hp⟩:=(zak (YE i) t).2 om
 have h3:=(h y hy).2
 simp only[YE,decide_eq_true_eq] at hp
 rw[←hp];exact h3
theorem zeG {s:Sf}(h:vo s):zbm s:=⟨h.op,zfI h.ok,by have:=h.size;omega⟩
def FIb (Y0 X:World)(q:Nat):Prop:=Y0.heap.size≤q∧q<X.heap.size+7
def JY (Y0 X:World)(BB:Nat)(V:World):Prop:=Below Y0.heap.size Y0 V∧X.heap.size≤V.heap.size∧∀q,q<X.heap.size→q≠BB→V.heap[q]? =X.heap[q]?
def InJ (Y0 X:World)(BB:Nat)(t:Tr)(l:List Sf)(k:Nat)(v:NV)(V:World):Prop:=JY Y0 X BB V∧∃x ba bc ys,goA t (l.take k)=some x∧zjS (qC (l.take k)) x∧yI V (FIb Y0 X) Y0.heap.size BB ba bc (qw t (l.take k)) ys∧(∀q,Zu ba q→X.heap.size+7≤q)∧IsN V (Ex (FIb Y0 X) ba) v x
def InX (Y0 X:World)(BB:Nat)(t:Tr)(l:List Sf)(k:Nat)(v:NV)(n:Int)(V:World):Prop:=JY Y0 X BB V∧goA t l=none∧∃ba m bc,V.heap[BB]? =some (.cells #[.slice ba m bc] 28 (0,0))
theorem JY.own {Y0 X:World}{BB:Nat}{V V' :World}(h:JY Y0 X BB V)(hY:Y0.heap.size≤X.heap.size)(ht:zh V V' (fun x=>X.heap.size≤x∧x<X.heap.size+7)):JY Y0 X BB V':=by
 obtain⟨h1,h2,h3⟩:=h
 exact⟨⟨ht.os.trans h1.os,ht.tape.trans h1.tape,ht.output.trans h1.output,NltQ h1.size ht.size,fun q hq=>(ht.block q (nL hq h1.size) om).trans (h1.block q hq)⟩,NltQ h2 ht.size,fun q hq hn=>(ht.block q om om).trans (h3 q hq hn)⟩
theorem ziR {Y0 X:World}{BB:Nat}{t:Tr}{rs:List RH}(hY:Below Y0.heap.size Y0 X)(hB:Y0.heap.size≤BB∧BB<X.heap.size)(h:∀x∈flat rs,ZL Y0 x∧vo x.s)(hI:∀x∈flat rs,Jb x.s)(ho:ve (steps (flat rs))=true):DoN Tryz.prog 48 #[.pointer (some ⟨BB,0,none⟩)] X.heap.size (fun q=>q<X.heap.size∧q≠BB) (flat rs) (InJ Y0 X BB t (steps (flat rs))) (InX Y0 X BB t (steps (flat rs))):=by
 rw[Yv] at ho
 refine⟨enters_of Tryz.func48 kr1 rfl,?_,?_,?_⟩
 · rintro k v V V' ⟨h1,x,ba,bc,ys,h2,h3,h4,h5,h6,h7,h8,h9,h10⟩ ht
   refine⟨h1.own hY.size ht,x,ba,bc,ys,h2,h3,h4.kept ht.size (fun q hq hn=>ht.block q hq ?_),h5,h6,h7,h8,h9,h10.1,h10.2.kept fun q hq=>⟨⟨nL hq.1 ht.size,hq.2⟩,ht.block q hq.1 (fun hn=>hq.2 (Or.inl ⟨by have:=hY.size;omega,hn.2⟩))⟩⟩
   rintro ⟨a1,a2⟩
   rcases hn with hn | hn | hn
   · omega
   · have:=h5 q hn;omega
   · exact hn (Or.inl ⟨by have:=hY.size;omega,a2⟩)
 · rintro k v n V V' ⟨h1,h2,ba,m,bc,h3⟩ ht
   exact⟨h1.own hY.size ht,h2,ba,m,bc,(ht.block _ (lohQ h3) om).trans h3⟩
 · rintro k x v W hx hW ⟨hk,y,ba,bc,ys,hy,hwy,hbk,hba,h4,h5,h6,h7,h8⟩
   obtain⟨hl,hf⟩:=h x (List.mem_of_getElem? hx)
   have hxs:=zba hx
   have hkl:=(List.getElem?_eq_some_iff.1 hxs).1
   have hq:=jm hxs
   have hq2:=Yf (steps (flat rs)) k
   have hcl:=zhY W Y0 (FIb Y0 X) Y0.heap.size BB y x v.a ba v.n v.c bc _ ys (fun q hq=>by have:=hq.2;omega) ⟨hB.1,by omega⟩ hbk (by rw[jk,List.length_take];omega) h7 h8 (yR.n hl (BrQ _ _) (fun q hq=>by
    rcases hq with hq | hq
    · exact hq.1
    · have:=hba q hq;have:=hY.size;omega)) hk.1 (by have:=hwy.size;omega) (zfI hwy.ok) (zeG hf) (hI x (List.mem_of_getElem? hx))
   rw[show v.v= .agg #[.int .i64 y.id,.int .i64 y.kind,.string y.text,.slice v.a v.n v.c] by rw[NV.v,h4,h5,h6]]
   refine hcl.mono ?_
   rintro e W' ⟨v',rfl,hT,hyes,hno⟩
   have hkeep:∀q,((q<X.heap.size∧q≠BB)∨(X.heap.size≤q∧q<X.heap.size+7))→W'.heap[q]? =W.heap[q]?:=fun q hq=>hT.block q om (fun hn=>by
    rcases hn with hn | hn
    · omega
    · have:=hba q hn;omega)
   have hKW:JY Y0 X BB W':=⟨⟨hT.os.trans hk.1.os,hT.tape.trans hk.1.tape,hT.output.trans hk.1.output,NltQ hk.1.size hT.size,fun q hq=>(hkeep q (Or.inl (by have:=hY.size;omega))).trans (hk.1.block q hq)⟩,NltQ hk.2.1 hT.size,fun q hq hn=>(hkeep q (Or.inl ⟨hq,hn⟩)).trans (hk.2.2 q hq hn)⟩
   refine⟨v',_,rfl,hT.size,hkeep,fun hm=>?_,fun hm=>?_⟩
   · obtain⟨ba',bc',ys',k1,k2,k3⟩:=hyes hm
     refine⟨hKW,_,ba',bc',ys',?_,?_,?_,fun q hq=>?_,k3⟩
     · rw[List.take_add_one,hxs];exact zdl hy hm
     · rw[hq];exact zjl hf hwy hm
     · rw[List.take_add_one,hxs]
       show yI _ _ _ _ _ _ (qw t ((steps (flat rs)).take k++[x.s])) _
       rw[Jg _ hy];exact k1
     · rcases k2 q hq with h | h
       · exact hba q h
       · omega
   · exact⟨hKW,zdm hy hxs hm,ba,_,bc,((hno hm).block _ (lohQ hbk.box)).trans hbk.box⟩
def zb1 (Y0:World)(G:Nat→Prop)(BB:Nat)(t:Tr)(l:List Sf)(n:Int)(W:World):Prop:=(n=0∧∃x ba bc ys,goA t l=some x∧yI W G Y0.heap.size BB ba bc (qw t l) ys)∨(n≠0∧goA t l=none∧∃ba m bc,W.heap[BB]? =some (.cells #[.slice ba m bc] 28 (0,0)))
theorem JO {Y0 X:World}{BB NB R:Nat}{t:Tr}{ta la:Option Addr}{tn tc c:Nat}{vs:List SV}(hY:Below Y0.heap.size Y0 X)(hB:Y0.heap.size≤BB∧BB<X.heap.size)(hNB:BB≠NB)(hR:BB≠R)(hrow:Row Y0 la vs)(hI:∀x∈vs,Jb x.s)(ho:ve (steps vs)=true)(h1:X.heap[NB]? =some (.cells #[.slice (some ⟨R,0,none⟩) 1 1] 76 (0,0)))(h2:X.heap[R]? =some (.cells #[.slice la vs.length c] 28 (0,0)))(hbb:X.heap[BB]? =some (.cells #[.slice none 0 0] 28 (0,0)))(htn:tn=foLen t.kids)(hw:Way t)(hlt:yR Y0 t.kids ta tc):
 Calls Tryz.prog 22 #[.agg #[.int .i64 t.id,.int .i64 t.kind,.string t.text,.slice ta tn tc],.func (.func 43) #[] #[.pointer (some ⟨NB,0,none⟩)],.func (.func 48) #[] #[.pointer (some ⟨BB,0,none⟩)]] X fun e W=>∃(v:NV) (k:Nat) (n:Int),e= .returned (.tuple #[v.v,.int .i64 (k:Int),.int .i64 n])∧JY Y0 X BB W∧zb1 Y0 (fun q=>Y0.heap.size≤q∧q<X.heap.size) BB t (steps vs) n W:=by
 have hD:=ziR (t:=t) (rs:=[⟨la,c,vs⟩]) hY hB (fun x hx=>by rw[jb] at hx;exact⟨hrow.lies x hx,hrow.fit x hx⟩) (fun x hx=>by rw[jb] at hx;exact hI x hx) (by rw[jb];exact ho)
 have hJ:ZN X NB R [⟨la,c,vs⟩] (fun q=>q<X.heap.size∧q≠BB):=⟨h1,h2,⟨lohQ h1,fun e=>hNB e.symm⟩,⟨lohQ h2,fun e=>hR e.symm⟩,fun _ hy=>hy.1,fun i r hr=>by
  have:r=⟨la,c,vs⟩:=by
   cases i with
   | zero=>simp at hr;exact hr.symm
   | succ i=>simp at hr
  subst this
  exact hrow.cells.kept fun y hy=>⟨⟨nL hy hY.size,by omega⟩,hY.block y hy⟩⟩
 have hf:=zbI X NB R ⟨t.id,t.kind,t.text,ta,tn,tc⟩ hD hJ sp1 (fun r hr=>by rw[List.mem_singleton] at hr;subst hr;exact hrow.len) (by rw[jb];have:=hrow.len;omega) ⟨⟨hY,NlrQ _,fun _ _ _=>rfl⟩,t,none,0,[],rfl,⟨by have:=hw.size;simp[qC];omega,hw.ok⟩,⟨hbb,World.ownsRow_nil _ _ _ _,rfl,hY.size⟩,fun q hq=>(by obtain⟨d,e,_⟩:=hq;cases e),rfl,rfl,rfl,htn,yR.n hlt hY (fun q hq=>by
  rcases hq with hq | hq
  · exact hq.1
  · obtain⟨d,e,_⟩:=hq;cases e)⟩
 rw[jb] at hf
 refine hf.mono ?_
 rintro e W ⟨k,v,n,rfl,hh⟩
 rcases hh with ⟨rfl,rfl,hk,x,ba,bc,ys,h3,h4,h5,h6,_⟩ | ⟨hn,hk,h3,h4,h5⟩
 · have e1:(steps vs).take vs.length=steps vs:=by rw[List.take_of_length_le (by rw[vR];exact NlrQ _)]
   rw[e1] at h3 h5
   exact⟨v,_,0,rfl,hk,.inl ⟨rfl,x,ba,bc,ys,h3,h5.weak fun q hq=>⟨hq.1,by have:=hq.2;omega⟩⟩⟩
 · exact⟨v,_,n,rfl,h3,.inr ⟨hn,h4,h5⟩⟩
def vH (Y0:World)(G:Nat→Prop)(BB:Nat)(t:Tr)(l:List Sf)(n:Int)(xa:Option Addr)(xm xc:Nat)(W:World):Prop:=(n=0∧(∃x,goA t l=some x)∧∃ys,xm=(qw t l).length∧yI W G Y0.heap.size BB xa xc (qw t l) ys)∨(n≠0∧goA t l=none)
theorem zb1.box {Y0:World}{G:Nat→Prop}{BB:Nat}{t:Tr}{l:List Sf}{n:Int}{W:World}(h:zb1 Y0 G BB t l n W):∃xa xm xc,W.heap[BB]? =some (.cells #[.slice xa xm xc] 28 (0,0))∧vH Y0 G BB t l n xa xm xc W:=by
 rcases h with ⟨h0,x,ba,bc,ys,h1,h2⟩ | ⟨h0,h1,ba,m,bc,h2⟩
 · exact⟨ba,_,bc,h2.box,.inl ⟨h0,⟨x,h1⟩,ys,rfl,h2⟩⟩
 · exact⟨ba,m,bc,h2,.inr ⟨h0,h1⟩⟩
theorem vH.more {Y0:World}{G:Nat→Prop}{BB R:Nat}{t:Tr}{l:List Sf}{n:Int}{xa:Option Addr}{xm xc:Nat}{W X:World}(h:vH Y0 G BB t l n xa xm xc W)(hR:W.heap.size≤R)(hb:Below W.heap.size W X):vH Y0 (fun q=>G q∨q=R) BB t l n xa xm xc X:=by
 rcases h with ⟨h1,h2,ys,h3,h4⟩ | h
 · exact .inl ⟨h1,h2,ys,h3,(h4.zbO hR).on hb⟩
 · exact .inr h
theorem vH.set {Y0:World}{G:Nat→Prop}{BB R:Nat}{t:Tr}{l:List Sf}{n:Int}{xa:Option Addr}{xm xc:Nat}{W X:World}{cs:Array Value}(h:vH Y0 G BB t l n xa xm xc W)(hG:G R)(hne:BB<R)(hR:W.heap[R]? =some (.cells cs 27 (0,0)))(hs:X.heap.size=W.heap.size)(hk:∀q,q≠R→X.heap[q]? =W.heap[q]?):vH Y0 G BB t l n xa xm xc X:=by
 rcases h with ⟨h1,h2,ys,h3,h4⟩ | h
 · refine .inl ⟨h1,h2,ys,h3,h4.kept (by rw[hs];exact NlrQ _) (fun q h5 h6=>hk q (fun e=>?_))⟩
   subst e
   rcases h6 with h6 | h6 | h6
   · omega
   · obtain⟨d,hd⟩:=jX h4.row (Zb.2 h6).symm
     exact absurd (zjz hd hR) ug7
   · exact h6 (Or.inl hG)
 · exact .inr h
def zjr (Y0 w:World)(t:Tr)(l:List Sf)(e:Ending)(W:World):Prop:=∃xa xm xc n,e= .returned (.tuple #[.slice xa xm xc,.int .i64 n])∧Below w.heap.size w W∧∃G:Nat→Prop,(∀q,Y0.heap.size≤q→q<w.heap.size→G q)∧vH Y0 G (w.heap.size+1) t l n xa xm xc W
theorem zgl (Y0 w:World)(t:Tr)(ta la:Option Addr)(tn tc n c:Nat)(vs:List SV)(hY:Below Y0.heap.size Y0 w)(htn:tn=foLen t.kids)(ht:yR Y0 t.kids ta tc)(hw:Way t)(hn:n=vs.length)(h:Row Y0 la vs)(hI:∀x∈vs,Jb x.s)(ho:ve (steps vs)=true):
 Calls Tryz.prog 27 #[.agg #[.int .i64 t.id,.int .i64 t.kind,.string t.text,.slice ta tn tc],.slice la n c] w (zjr Y0 w t (steps vs)):=by
 obtain⟨B,hB⟩:∃B,B=zl w [.cells #[.int .i64 t.id,.int .i64 t.kind,.string t.text,.slice ta tn tc] 27,.cells #[.slice none 0 0] 28]:=⟨_,rfl⟩
 have BW:=hH (show Below w.heap.size w B by rw[hB];exact zi _ _)
 have EN:=hH (show B.heap[w.heap.size]? =some (.cells #[.int .i64 t.id,.int .i64 t.kind,.string t.text,.slice ta tn tc] 27 (0,0)) by rw[hB];exact ze _ _ 0 _ rfl)
 obtain⟨BB,hBB⟩:∃BB,BB=w.heap.size+1:=⟨_,rfl⟩
 have EB:=hH (show B.heap[BB]? =some (.cells #[.slice none 0 0] 28 (0,0)) by rw[hB,hBB];exact ze _ _ 1 _ rfl)
 have HT:=hH (aN htn (aN ht (aN hw (aN hn (aN h (aN ho hI))))))
 have HBE:=hH hB
 have HYS:=hH hY
 have HBB:=hH hBB
 have HNC:=hH (fun (X:World) (hX:X.heap[w.heap.size]? =some (.cells #[.int .i64 t.id,.int .i64 t.kind,.string t.text,.slice ta tn tc] 27 (0,0)))=>zD hX)
 unfold zjr
 rw[←hBB]
 clear htn ht hw hn h ho hI hB hY
 go_enter Tryz.func27,Tryz.ntmps27
 go_upto_region 2 with fail
 change Code.wp _ _ _ _ (zl w [.cells #[.int .i64 t.id,.int .i64 t.kind,.string t.text,.slice ta tn tc] 27,.cells #[.slice none 0 0] 28])
 rw[←HBE.out,←hBB]
 clear HBE hBB
 refine wrhQ (S:=fun X=>X.heap[w.heap.size]? =some (.cells #[.int .i64 t.id,.int .i64 t.kind,.string t.text,.slice ta tn tc] 27 (0,0))) kr1 EN.out (fun eH=>?_)
 refine tJ (i:=0) (.agg #[.int .i64 t.id,.int .i64 t.kind,.string t.text,.slice ta tn tc]) rfl ?_ ?_
 · exact ua9
 simp only[Act.put,pg]
 refine tG (i:=1) (.slice la n c) rfl ?_
 simp only[Act.put,pg]
 refine tG (i:=4) (.func (.func 48) #[] #[.pointer (some ⟨BB,0,none⟩)]) rfl ?_
 simp only[Act.put,pg]
 refine rd [2,10] ?_
 refine AcQ (o:=_) rfl (fun K hK=>?_) (AcQ (o:=_) rfl (fun K hK=>?_) (AnQ))
 · skip
   rw[ipQ ug8]
   simp only[pg3]
   have HK:=hH hK
   have HS:=hH eH
   clear hK eH
   go_wp2_with fail
   obtain⟨Z1,hnx⟩:∃nx,nx=(World.alloc B (.cells #[.slice la n c] 28)).drew:=⟨_,rfl⟩
   rw[←hnx]
   have hbx:Below B.heap.size B Z1:=by rw[hnx];exact below_drewN (zg _ _) 1
   have hne:Z1.heap[B.heap.size]? =some (.cells #[.slice la n c] 28 (0,0)):=by rw[hnx];exact hanQ B _
   have hlt:BB<B.heap.size∧w.heap.size<B.heap.size:=⟨lohQ EB.out,lohQ EN.out⟩
   replace EN:=hH ((hbx.block _ (lohQ EN.out)).trans EN.out)
   replace EB:=hH ((hbx.block _ (lohQ EB.out)).trans EB.out)
   replace BW:=hH (BW.out.trans (hbx.mono BW.out.size))
   obtain⟨R,hblk⟩:∃R,R=B.heap.size:=⟨_,rfl⟩
   rw[←hblk] at hne hlt ⊢
   skip
   have ER:=hH hne
   have LR:=hH hlt
   refine HK.out _ _ EN.out (fun eH=>?_)
   clear HK HS hnx hbx hne hlt hblk
   refine rd [3,10] ?_
   refine AcQ (o:=_) rfl (fun K hK=>?_) (AcQ (o:=_) rfl (fun K hK=>?_) (AnQ))
   · skip
     rw[ipQ ug8]
     simp only[pg3]
     have HK:=hH hK
     have HS:=hH eH
     clear hK eH
     go_wp2_with (go_at_call 23;refine (Zf _ _ _ _).mono ?_;rintro e Z2 ⟨rfl,hnx⟩)
     have hbx:Below Z1.heap.size Z1 Z2:=by rw[←hnx];exact zg _ _
     have hne:Z2.heap[Z1.heap.size]? =some (.cells #[.slice (some ⟨R,0,none⟩) 1 1] 76 (0,0)):=by rw[←hnx];exact hanQ Z1 _
     have hlt:BB<Z1.heap.size∧w.heap.size<Z1.heap.size:=⟨lohQ EB.out,lohQ EN.out⟩
     replace EN:=hH ((hbx.block _ (lohQ EN.out)).trans EN.out)
     replace EB:=hH ((hbx.block _ (lohQ EB.out)).trans EB.out)
     replace ER:=hH ((hbx.block _ (lohQ ER.out)).trans ER.out)
     replace BW:=hH (BW.out.trans (hbx.mono BW.out.size))
     obtain⟨NB,hblk⟩:∃NB,NB=Z1.heap.size:=⟨_,rfl⟩
     rw[←hblk] at hne hlt ⊢
     have EO:=hH hne
     have LO:=hH hlt
     refine HK.out _ _ EN.out (fun eH=>?_)
     clear HK HS hnx hbx hne hlt hblk
     refine rd [5,10] ?_
     refine AcQ (o:=_) rfl (fun K hK=>?_) (AcQ (o:=_) rfl (fun K hK=>?_) (AnQ))
     · skip
       rw[ipQ ug8]
       simp only[pg3]
       have HK:=hH hK
       have HS:=hH eH
       clear hK eH
       have HWX:=hH (show w.heap.size≤Z2.heap.size from BW.out.size)
       have hfo:=JO (X:=Z2) (t:=t) (HYS.out.trans (BW.out.mono HYS.out.size)) ⟨by have:=HBB.out;have:=HYS.out.size;omega,lohQ EB.out⟩ uf9 ug0 HT.out.2.2.2.2.1 HT.out.2.2.2.2.2.2 HT.out.2.2.2.2.2.1 EO.out ud6 EB.out HT.out.1 HT.out.2.2.1 HT.out.2.1
       have HFO:=hH hfo
       clear hfo
       skip
       go_wp2_with (go_at_call 22;refine HFO.out.mono ?_;rintro e Z3 ⟨v,kk,nn,rfl,hki,hdo⟩)
       obtain⟨i2,k2,x2,a2,n2,c2⟩:=v
       simp only[NV.v]
       obtain⟨xa,xm,xc,hbox,hrest⟩:=hdo.box
       replace EN:=hH ((hki.2.2 _ (lohQ EN.out) uf8).trans EN.out)
       replace ER:=hH ((hki.2.2 _ (lohQ ER.out) ug0).trans ER.out)
       replace EO:=hH ((hki.2.2 _ (lohQ EO.out) uf9).trans EO.out)
       replace EB:=hH hbox
       replace BW:=hH (show Below w.heap.size w _ from⟨hki.1.os.trans HYS.out.os.symm,hki.1.tape.trans HYS.out.tape.symm,hki.1.output.trans HYS.out.output.symm,NltQ BW.out.size hki.2.1,fun q hq=>(hki.2.2 q ue8 uf8).trans (BW.out.block q hq)⟩)
       have HR:=hH hrest
       refine HK.out _ _ EN.out (fun eH=>?_)
       clear HK HS HFO hki hdo hbox hrest
       refine tG (i:=6) (.tuple #[.agg #[.int .i64 i2,.int .i64 k2,.string x2,.slice a2 n2 c2],.int .i64 (kk:Int),.int .i64 nn]) rfl ?_
       simp only[Act.put,pg]
       refine tG (i:=7) (.agg #[.int .i64 i2,.int .i64 k2,.string x2,.slice a2 n2 c2]) rfl ?_
       simp only[Act.put,pg]
       refine tG (i:=8) (.int .i64 (kk:Int)) rfl ?_
       simp only[Act.put,pg]
       refine tG (i:=9) (.int .i64 nn) rfl ?_
       simp only[Act.put,pg]
       refine rd [10] ?_
       refine AcQ (o:=_) rfl (fun K hK=>?_) (AnQ)
       rw[ipQ ug8]
       simp only[pg3]
       have HK:=hH hK
       have HS:=hH eH
       clear hK eH
       go_wp2_with fail
       obtain⟨Z4,hnx⟩:∃nx,nx=(World.alloc Z3 (.cells #[.int .i64 0,.int .i64 0,.string ⟨#[]⟩,.slice none 0 0] 27)):=⟨_,rfl⟩
       rw[←hnx]
       have hbx:Below Z3.heap.size Z3 Z4:=by rw[hnx];exact zg _ _
       have hne:Z4.heap[Z3.heap.size]? =some (.cells #[.int .i64 0,.int .i64 0,.string ⟨#[]⟩,.slice none 0 0] 27 (0,0)):=by rw[hnx];exact hanQ Z3 _
       have hlt:BB<Z3.heap.size∧w.heap.size<Z3.heap.size:=⟨lohQ EB.out,lohQ EN.out⟩
       replace EN:=hH ((hbx.block _ (lohQ EN.out)).trans EN.out)
       replace EB:=hH ((hbx.block _ (lohQ EB.out)).trans EB.out)
       replace ER:=hH ((hbx.block _ (lohQ ER.out)).trans ER.out)
       replace EO:=hH ((hbx.block _ (lohQ EO.out)).trans EO.out)
       replace BW:=hH (BW.out.trans (hbx.mono BW.out.size))
       have hrz:∃G:Nat→Prop,(G Z3.heap.size∧∀q,Y0.heap.size≤q→q<w.heap.size→G q)∧vH Y0 G BB t (steps vs) nn xa xm xc Z4:=⟨_,⟨Or.inr rfl,fun q h1 h2=>Or.inl ⟨h1,by have:=HWX.out;omega⟩⟩,HR.out.more (NlrQ _) hbx⟩
       obtain⟨ZB,hblk⟩:∃ZB,ZB=Z3.heap.size:=⟨_,rfl⟩
       rw[←hblk] at hne hlt hrz ⊢
       have HRZ:=hH hrz;clear hrz
       have EZ:=hH hne
       have LZ:=hH hlt
       refine HK.out _ _ EN.out (fun eH=>?_)
       clear HK HS hnx hbx hne hlt hblk
       refine rd [11] ?_
       refine AcQ (o:=_) rfl (fun K hK=>?_) AnQ
       rw[ipQ ug8]
       simp only[pg3]
       have HK:=hH hK
       have HS:=hH eH
       clear hK eH
       obtain⟨z0,z1,z2,z3⟩:=zD EZ.out
       have zf:∀j,Z4.frozen? ⟨ZB,j,none⟩=false:=fun j=>forQ _ _ j _ _ EZ.out
       exact sa9
     · skip
       rw[ipQ ug8]
       simp only[pg3]
       have HK:=hH hK
       have HS:=hH eH
       clear hK eH
       go_wp2_with fail
       obtain⟨Z5,hnx⟩:∃nx,nx=(World.alloc Z2 (.cells #[.int .i64 0,.int .i64 0,.string ⟨#[]⟩,.slice none 0 0] 27)):=⟨_,rfl⟩
       rw[←hnx]
       have hbx:Below Z2.heap.size Z2 Z5:=by rw[hnx];exact zg _ _
       have hne:Z5.heap[Z2.heap.size]? =some (.cells #[.int .i64 0,.int .i64 0,.string ⟨#[]⟩,.slice none 0 0] 27 (0,0)):=by rw[hnx];exact hanQ Z2 _
       have hlt:BB<Z2.heap.size∧w.heap.size<Z2.heap.size:=⟨lohQ EB.out,lohQ EN.out⟩
       replace EN:=hH ((hbx.block _ (lohQ EN.out)).trans EN.out)
       replace EB:=hH ((hbx.block _ (lohQ EB.out)).trans EB.out)
       replace ER:=hH ((hbx.block _ (lohQ ER.out)).trans ER.out)
       replace EO:=hH ((hbx.block _ (lohQ EO.out)).trans EO.out)
       replace BW:=hH (BW.out.trans (hbx.mono BW.out.size))
       obtain⟨ZB,hblk⟩:∃ZB,ZB=Z2.heap.size:=⟨_,rfl⟩
       rw[←hblk] at hne hlt ⊢
       skip
       have EZ:=hH hne
       have LZ:=hH hlt
       refine HK.out _ _ EN.out (fun eH=>?_)
       clear HK HS hnx hbx hne hlt hblk
       refine rd [5] ?_
       refine AcQ (o:=_) rfl (fun K hK=>?_) (AnQ)
       rw[ipQ ug8]
       simp only[pg3]
       have HK:=hH hK
       have HS:=hH eH
       clear hK eH
       have HWX:=hH (show w.heap.size≤Z5.heap.size from BW.out.size)
       have hfo:=JO (X:=Z5) (t:=t) (HYS.out.trans (BW.out.mono HYS.out.size)) ⟨by have:=HBB.out;have:=HYS.out.size;omega,lohQ EB.out⟩ uf9 ug0 HT.out.2.2.2.2.1 HT.out.2.2.2.2.2.2 HT.out.2.2.2.2.2.1 EO.out ud6 EB.out HT.out.1 HT.out.2.2.1 HT.out.2.1
       have HFO:=hH hfo
       clear hfo
       have HZL:=hH (lohQ EZ.out)
       go_wp2_with (go_at_call 22;refine HFO.out.mono ?_;rintro e Z6 ⟨v,kk,nn,rfl,hki,hdo⟩)
       obtain⟨i2,k2,x2,a2,n2,c2⟩:=v
       simp only[NV.v]
       obtain⟨xa,xm,xc,hbox,hrest⟩:=hdo.box
       replace EN:=hH ((hki.2.2 _ (lohQ EN.out) uf8).trans EN.out)
       replace ER:=hH ((hki.2.2 _ (lohQ ER.out) ug0).trans ER.out)
       replace EO:=hH ((hki.2.2 _ (lohQ EO.out) uf9).trans EO.out)
       replace EZ:=hH ((hki.2.2 _ (lohQ EZ.out) (by have:=LZ.out;omega)).trans EZ.out)
       replace EB:=hH hbox
       replace BW:=hH (show Below w.heap.size w _ from⟨hki.1.os.trans HYS.out.os.symm,hki.1.tape.trans HYS.out.tape.symm,hki.1.output.trans HYS.out.output.symm,NltQ BW.out.size hki.2.1,fun q hq=>(hki.2.2 q ue8 uf8).trans (BW.out.block q hq)⟩)
       have HRZ:=hH (show ∃G:Nat→Prop,(G ZB∧∀q,Y0.heap.size≤q→q<w.heap.size→G q)∧vH Y0 G BB t (steps vs) nn xa xm xc Z6 from⟨_,⟨⟨by have:=LZ.out;have:=HYS.out.size;omega,HZL.out⟩,fun q h1 h2=>⟨h1,by have:=HWX.out;omega⟩⟩,hrest⟩)
       refine HK.out _ _ EN.out (fun eH=>?_)
       clear HK HS HFO hki hdo hbox hrest
       refine tG (i:=6) (.tuple #[.agg #[.int .i64 i2,.int .i64 k2,.string x2,.slice a2 n2 c2],.int .i64 (kk:Int),.int .i64 nn]) rfl ?_
       simp only[Act.put,pg]
       refine tG (i:=7) (.agg #[.int .i64 i2,.int .i64 k2,.string x2,.slice a2 n2 c2]) rfl ?_
       simp only[Act.put,pg]
       refine tG (i:=8) (.int .i64 (kk:Int)) rfl ?_
       simp only[Act.put,pg]
       refine tG (i:=9) (.int .i64 nn) rfl ?_
       simp only[Act.put,pg]
       refine rd [11] ?_
       refine AcQ (o:=_) rfl (fun K hK=>?_) AnQ
       rw[ipQ ug8]
       simp only[pg3]
       have HK:=hH hK
       have HS:=hH eH
       clear hK eH
       obtain⟨z0,z1,z2,z3⟩:=zD EZ.out
       have zf:∀j,Z6.frozen? ⟨ZB,j,none⟩=false:=fun j=>forQ _ _ j _ _ EZ.out
       exact sa9
   · skip
     rw[ipQ ug8]
     simp only[pg3]
     have HK:=hH hK
     have HS:=hH eH
     clear hK eH
     go_wp2_with fail
     obtain⟨Z7,hnx⟩:∃nx,nx=(World.alloc Z1 (.cells #[.int .i64 0,.int .i64 0,.string ⟨#[]⟩,.slice none 0 0] 27)):=⟨_,rfl⟩
     rw[←hnx]
     have hbx:Below Z1.heap.size Z1 Z7:=by rw[hnx];exact zg _ _
     have hne:Z7.heap[Z1.heap.size]? =some (.cells #[.int .i64 0,.int .i64 0,.string ⟨#[]⟩,.slice none 0 0] 27 (0,0)):=by rw[hnx];exact hanQ Z1 _
     have hlt:BB<Z1.heap.size∧w.heap.size<Z1.heap.size:=⟨lohQ EB.out,lohQ EN.out⟩
     replace EN:=hH ((hbx.block _ (lohQ EN.out)).trans EN.out)
     replace EB:=hH ((hbx.block _ (lohQ EB.out)).trans EB.out)
     replace ER:=hH ((hbx.block _ (lohQ ER.out)).trans ER.out)
     replace BW:=hH (BW.out.trans (hbx.mono BW.out.size))
     obtain⟨ZB,hblk⟩:∃ZB,ZB=Z1.heap.size:=⟨_,rfl⟩
     rw[←hblk] at hne hlt ⊢
     skip
     have EZ:=hH hne
     have LZ:=hH hlt
     refine HK.out _ _ EN.out (fun eH=>?_)
     clear HK HS hnx hbx hne hlt hblk
     refine rd [3] ?_
     refine AcQ (o:=_) rfl (fun K hK=>?_) (AnQ)
     rw[ipQ ug8]
     simp only[pg3]
     have HK:=hH hK
     have HS:=hH eH
     clear hK eH
     go_wp2_with (go_at_call 23;refine (Zf _ _ _ _).mono ?_;rintro e Z8 ⟨rfl,hnx⟩)
     have hbx:Below Z7.heap.size Z7 Z8:=by rw[←hnx];exact zg _ _
     have hne:Z8.heap[Z7.heap.size]? =some (.cells #[.slice (some ⟨R,0,none⟩) 1 1] 76 (0,0)):=by rw[←hnx];exact hanQ Z7 _
     have hlt:BB<Z7.heap.size∧w.heap.size<Z7.heap.size:=⟨lohQ EB.out,lohQ EN.out⟩
     replace EN:=hH ((hbx.block _ (lohQ EN.out)).trans EN.out)
     replace EB:=hH ((hbx.block _ (lohQ EB.out)).trans EB.out)
     replace ER:=hH ((hbx.block _ (lohQ ER.out)).trans ER.out)
     replace EZ:=hH ((hbx.block _ (lohQ EZ.out)).trans EZ.out)
     replace BW:=hH (BW.out.trans (hbx.mono BW.out.size))
     obtain⟨NB,hblk⟩:∃NB,NB=Z7.heap.size:=⟨_,rfl⟩
     rw[←hblk] at hne hlt ⊢
     have EO:=hH hne
     have LO:=hH hlt
     refine HK.out _ _ EN.out (fun eH=>?_)
     clear HK HS hnx hbx hne hlt hblk
     refine rd [5] ?_
     refine AcQ (o:=_) rfl (fun K hK=>?_) (AnQ)
     rw[ipQ ug8]
     simp only[pg3]
     have HK:=hH hK
     have HS:=hH eH
     clear hK eH
     have HWX:=hH (show w.heap.size≤Z8.heap.size from BW.out.size)
     have hfo:=JO (X:=Z8) (t:=t) (HYS.out.trans (BW.out.mono HYS.out.size)) ⟨by have:=HBB.out;have:=HYS.out.size;omega,lohQ EB.out⟩ uf9 ug0 HT.out.2.2.2.2.1 HT.out.2.2.2.2.2.2 HT.out.2.2.2.2.2.1 EO.out ud6 EB.out HT.out.1 HT.out.2.2.1 HT.out.2.1
     have HFO:=hH hfo
     clear hfo
     have HZL:=hH (lohQ EZ.out)
     go_wp2_with (go_at_call 22;refine HFO.out.mono ?_;rintro e Z9 ⟨v,kk,nn,rfl,hki,hdo⟩)
     obtain⟨i2,k2,x2,a2,n2,c2⟩:=v
     simp only[NV.v]
     obtain⟨xa,xm,xc,hbox,hrest⟩:=hdo.box
     replace EN:=hH ((hki.2.2 _ (lohQ EN.out) uf8).trans EN.out)
     replace ER:=hH ((hki.2.2 _ (lohQ ER.out) ug0).trans ER.out)
     replace EZ:=hH ((hki.2.2 _ (lohQ EZ.out) (by have:=LZ.out;omega)).trans EZ.out)
     replace EO:=hH ((hki.2.2 _ (lohQ EO.out) uf9).trans EO.out)
     replace EB:=hH hbox
     replace BW:=hH (show Below w.heap.size w _ from⟨hki.1.os.trans HYS.out.os.symm,hki.1.tape.trans HYS.out.tape.symm,hki.1.output.trans HYS.out.output.symm,NltQ BW.out.size hki.2.1,fun q hq=>(hki.2.2 q ue8 uf8).trans (BW.out.block q hq)⟩)
     have HRZ:=hH (show ∃G:Nat→Prop,(G ZB∧∀q,Y0.heap.size≤q→q<w.heap.size→G q)∧vH Y0 G BB t (steps vs) nn xa xm xc Z9 from⟨_,⟨⟨by have:=LZ.out;have:=HYS.out.size;omega,HZL.out⟩,fun q h1 h2=>⟨h1,by have:=HWX.out;omega⟩⟩,hrest⟩)
     refine HK.out _ _ EN.out (fun eH=>?_)
     clear HK HS HFO hki hdo hbox hrest
     refine tG (i:=6) (.tuple #[.agg #[.int .i64 i2,.int .i64 k2,.string x2,.slice a2 n2 c2],.int .i64 (kk:Int),.int .i64 nn]) rfl ?_
     simp only[Act.put,pg]
     refine tG (i:=7) (.agg #[.int .i64 i2,.int .i64 k2,.string x2,.slice a2 n2 c2]) rfl ?_
     simp only[Act.put,pg]
     refine tG (i:=8) (.int .i64 (kk:Int)) rfl ?_
     simp only[Act.put,pg]
     refine tG (i:=9) (.int .i64 nn) rfl ?_
     simp only[Act.put,pg]
     refine rd [11] ?_
     refine AcQ (o:=_) rfl (fun K hK=>?_) AnQ
     rw[ipQ ug8]
     simp only[pg3]
     have HK:=hH hK
     have HS:=hH eH
     clear hK eH
     obtain⟨z0,z1,z2,z3⟩:=zD EZ.out
     have zf:∀j,Z9.frozen? ⟨ZB,j,none⟩=false:=fun j=>forQ _ _ j _ _ EZ.out
     exact sa9
 · skip
   rw[ipQ ug8]
   simp only[pg3]
   have HK:=hH hK
   have HS:=hH eH
   clear hK eH
   go_wp2_with fail
   obtain⟨Z10,hnx⟩:∃nx,nx=(World.alloc B (.cells #[.int .i64 0,.int .i64 0,.string ⟨#[]⟩,.slice none 0 0] 27)).drew:=⟨_,rfl⟩
   rw[←hnx]
   have hbx:Below B.heap.size B Z10:=by rw[hnx];exact below_drewN (zg _ _) 1
   have hne:Z10.heap[B.heap.size]? =some (.cells #[.int .i64 0,.int .i64 0,.string ⟨#[]⟩,.slice none 0 0] 27 (0,0)):=by rw[hnx];exact hanQ B _
   have hlt:BB<B.heap.size∧w.heap.size<B.heap.size:=⟨lohQ EB.out,lohQ EN.out⟩
   replace EN:=hH ((hbx.block _ (lohQ EN.out)).trans EN.out)
   replace EB:=hH ((hbx.block _ (lohQ EB.out)).trans EB.out)
   replace BW:=hH (BW.out.trans (hbx.mono BW.out.size))
   obtain⟨ZB,hblk⟩:∃ZB,ZB=B.heap.size:=⟨_,rfl⟩
   rw[←hblk] at hne hlt ⊢
   skip
   have EZ:=hH hne
   have LZ:=hH hlt
   refine HK.out _ _ EN.out (fun eH=>?_)
   clear HK HS hnx hbx hne hlt hblk
   refine rd [2] ?_
   refine AcQ (o:=_) rfl (fun K hK=>?_) (AnQ)
   rw[ipQ ug8]
   simp only[pg3]
   have HK:=hH hK
   have HS:=hH eH
   clear hK eH
   go_wp2_with fail
   obtain⟨Z11,hnx⟩:∃nx,nx=(World.alloc Z10 (.cells #[.slice la n c] 28)):=⟨_,rfl⟩
   rw[←hnx]
   have hbx:Below Z10.heap.size Z10 Z11:=by rw[hnx];exact zg _ _
   have hne:Z11.heap[Z10.heap.size]? =some (.cells #[.slice la n c] 28 (0,0)):=by rw[hnx];exact hanQ Z10 _
   have hlt:BB<Z10.heap.size∧w.heap.size<Z10.heap.size:=⟨lohQ EB.out,lohQ EN.out⟩
   replace EN:=hH ((hbx.block _ (lohQ EN.out)).trans EN.out)
   replace EB:=hH ((hbx.block _ (lohQ EB.out)).trans EB.out)
   replace EZ:=hH ((hbx.block _ (lohQ EZ.out)).trans EZ.out)
   replace BW:=hH (BW.out.trans (hbx.mono BW.out.size))
   obtain⟨R,hblk⟩:∃R,R=Z10.heap.size:=⟨_,rfl⟩
   rw[←hblk] at hne hlt ⊢
   skip
   have ER:=hH hne
   have LR:=hH hlt
   refine HK.out _ _ EN.out (fun eH=>?_)
   clear HK HS hnx hbx hne hlt hblk
   refine rd [3] ?_
   refine AcQ (o:=_) rfl (fun K hK=>?_) (AnQ)
   rw[ipQ ug8]
   simp only[pg3]
   have HK:=hH hK
   have HS:=hH eH
   clear hK eH
   go_wp2_with (go_at_call 23;refine (Zf _ _ _ _).mono ?_;rintro e Z12 ⟨rfl,hnx⟩)
   have hbx:Below Z11.heap.size Z11 Z12:=by rw[←hnx];exact zg _ _
   have hne:Z12.heap[Z11.heap.size]? =some (.cells #[.slice (some ⟨R,0,none⟩) 1 1] 76 (0,0)):=by rw[←hnx];exact hanQ Z11 _
   have hlt:BB<Z11.heap.size∧w.heap.size<Z11.heap.size:=⟨lohQ EB.out,lohQ EN.out⟩
   replace EN:=hH ((hbx.block _ (lohQ EN.out)).trans EN.out)
   replace EB:=hH ((hbx.block _ (lohQ EB.out)).trans EB.out)
   replace EZ:=hH ((hbx.block _ (lohQ EZ.out)).trans EZ.out)
   replace ER:=hH ((hbx.block _ (lohQ ER.out)).trans ER.out)
   replace BW:=hH (BW.out.trans (hbx.mono BW.out.size))
   obtain⟨NB,hblk⟩:∃NB,NB=Z11.heap.size:=⟨_,rfl⟩
   rw[←hblk] at hne hlt ⊢
   have EO:=hH hne
   have LO:=hH hlt
   refine HK.out _ _ EN.out (fun eH=>?_)
   clear HK HS hnx hbx hne hlt hblk
   refine rd [5] ?_
   refine AcQ (o:=_) rfl (fun K hK=>?_) (AnQ)
   rw[ipQ ug8]
   simp only[pg3]
   have HK:=hH hK
   have HS:=hH eH
   clear hK eH
   have HWX:=hH (show w.heap.size≤Z12.heap.size from BW.out.size)
   have hfo:=JO (X:=Z12) (t:=t) (HYS.out.trans (BW.out.mono HYS.out.size)) ⟨by have:=HBB.out;have:=HYS.out.size;omega,lohQ EB.out⟩ uf9 ug0 HT.out.2.2.2.2.1 HT.out.2.2.2.2.2.2 HT.out.2.2.2.2.2.1 EO.out ud6 EB.out HT.out.1 HT.out.2.2.1 HT.out.2.1
   have HFO:=hH hfo
   clear hfo
   have HZL:=hH (lohQ EZ.out)
   go_wp2_with (go_at_call 22;refine HFO.out.mono ?_;rintro e Z13 ⟨v,kk,nn,rfl,hki,hdo⟩)
   obtain⟨i2,k2,x2,a2,n2,c2⟩:=v
   simp only[NV.v]
   obtain⟨xa,xm,xc,hbox,hrest⟩:=hdo.box
   replace EN:=hH ((hki.2.2 _ (lohQ EN.out) uf8).trans EN.out)
   replace EZ:=hH ((hki.2.2 _ (lohQ EZ.out) (by have:=LZ.out;omega)).trans EZ.out)
   replace ER:=hH ((hki.2.2 _ (lohQ ER.out) ug0).trans ER.out)
   replace EO:=hH ((hki.2.2 _ (lohQ EO.out) uf9).trans EO.out)
   replace EB:=hH hbox
   replace BW:=hH (show Below w.heap.size w _ from⟨hki.1.os.trans HYS.out.os.symm,hki.1.tape.trans HYS.out.tape.symm,hki.1.output.trans HYS.out.output.symm,NltQ BW.out.size hki.2.1,fun q hq=>(hki.2.2 q ue8 uf8).trans (BW.out.block q hq)⟩)
   have HRZ:=hH (show ∃G:Nat→Prop,(G ZB∧∀q,Y0.heap.size≤q→q<w.heap.size→G q)∧vH Y0 G BB t (steps vs) nn xa xm xc Z13 from⟨_,⟨⟨by have:=LZ.out;have:=HYS.out.size;omega,HZL.out⟩,fun q h1 h2=>⟨h1,by have:=HWX.out;omega⟩⟩,hrest⟩)
   refine HK.out _ _ EN.out (fun eH=>?_)
   clear HK HS HFO hki hdo hbox hrest
   refine tG (i:=6) (.tuple #[.agg #[.int .i64 i2,.int .i64 k2,.string x2,.slice a2 n2 c2],.int .i64 (kk:Int),.int .i64 nn]) rfl ?_
   simp only[Act.put,pg]
   refine tG (i:=7) (.agg #[.int .i64 i2,.int .i64 k2,.string x2,.slice a2 n2 c2]) rfl ?_
   simp only[Act.put,pg]
   refine tG (i:=8) (.int .i64 (kk:Int)) rfl ?_
   simp only[Act.put,pg]
   refine tG (i:=9) (.int .i64 nn) rfl ?_
   simp only[Act.put,pg]
   refine rd [11] ?_
   refine AcQ (o:=_) rfl (fun K hK=>?_) AnQ
   rw[ipQ ug8]
   simp only[pg3]
   have HK:=hH hK
   have HS:=hH eH
   clear hK eH
   obtain⟨z0,z1,z2,z3⟩:=zD EZ.out
   have zf:∀j,Z13.frozen? ⟨ZB,j,none⟩=false:=fun j=>forQ _ _ j _ _ EZ.out
   exact sa9
end Go.Proofs.YtgkmmnihaiopaaaGreat
