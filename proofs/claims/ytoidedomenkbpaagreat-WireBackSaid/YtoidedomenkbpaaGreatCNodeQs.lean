/-
  .
-/
import Derived.Test.YtoidedomenkbpaaGreatWRightQs
set_option maxRecDepth 100000
set_option maxHeartbeats 40000000

namespace Go.Proofs.YtoidedomenkbpaaGreat
open Go.RowKit
open Extern.Stop (cell)
def jW (d:List UInt8)(p:Nat):Got Int:=if p+8≤d.length then .ok (numOf ((d.drop p).take 8),p+8) else .error d.length
def vY (d:List UInt8)(size most:Int)(p:Nat):Got Nat:=
 match jW d p with
 | .error e=> .error e
 | .ok (n,q)=>if n<0∨n>most∨n>((d.length:Int) - q) / size then .error p else .ok (n.toNat,q)
def Yq (d:List UInt8)(p:Nat):Got ByteArray:=
 match vY d 1 9223372036854775807 p with
 | .error e=> .error e
 | .ok (n,q)=> .ok (⟨((d.drop q).take n).toArray⟩,q+n)
theorem zgu (w:World)(g o n cap:Nat)(bs:List UInt8)(hn:bs.length=n)(hc:∀j u,bs[j]? =some u→w.cell? ⟨g,o+j,none⟩=some (cell u)):(convert 45 9 (.slice (some ⟨g,o,none⟩) n cap)).run Tryz.prog w= .ok (.string ⟨bs.toArray⟩) w:=by
 subst hn
 exact run_convert_bytes_back w _ _ _ ⟨g,o,none⟩ cap bs Tryz.underlying45 Tryz.underlying5 Tryz.underlying9 (fun j hj=>by
  have hadd:(⟨g,o,none⟩:Addr).add j=⟨g,o+j,none⟩:=by simp[Addr.add]
  rw[hadd];exact hc j _ (List.getElem?_eq_getElem hj))
theorem jm (w:World)(b:Nat)(dv:Value)(s:Rd)(h:zT w b dv s):Calls Tryz.prog 274 #[.pointer (some ⟨b,0,none⟩)] w (JC zlr w b dv s (jW s.data s.pos)):=by
 unfold jW
 split
 · rename_i hp
   exact (zbr w b dv s h hp).mono fun e w' ⟨h1,h2,h3⟩=>⟨_,h1,rfl,h2,h3⟩
 · rename_i hp
   exact (zaq w b dv s h om1).mono fun e w' h1=>h1
theorem zcb {d:List UInt8}{p:Nat}{n:Int}{q:Nat}(h:jW d p= .ok (n,q)):p+8≤d.length∧q=p+8:=by
 unfold jW at h
 split at h
 · cases h;exact⟨by assumption,rfl⟩
 · cases h
theorem YV (w:World)(b:Nat)(dv:Value)(s:Rd)(h:zT w b dv s)(size most:Int)(hs:1≤size)(hs2:size≤9223372036854775807):Calls Tryz.prog 284 #[.pointer (some ⟨b,0,none⟩),.int .i64 size,.int .i64 most] w (JC zls w b dv s (vY s.data size most s.pos)):=by
 have hn:=jm w b dv s h
 unfold vY
 obtain⟨a,cap,hdv⟩:∃a cap,dv= .slice a s.data.length cap:=zca h.owns
 obtain⟨c0,c1,c2,f⟩:=h.cells
 have hfew:=h.few
 cases hp:jW s.data s.pos with
 | error p=>
   rw[hp] at hn
   have HN:=hH hn
   clear hn h hp hdv c0 c2 f
   go_enter Tryz.func284,Tryz.ntmps284
   go_wp2_with (go_at_call 274;refine HN.out.mono ?_;clear HN;rintro e w1 ⟨rfl,h1,h2⟩)
   exact⟨rfl,rfl,h1,h2⟩
 | ok nq =>
   obtain⟨n,q⟩:=nq
   obtain⟨hq1,hq2⟩:=zcb hp
   rw[hp] at hn
   have HN:=hH hn
   simp only
   have hdiv0:0≤((s.data.length:Int) - (q:Int)) / size:=Int.ediv_nonneg om1 om1
   have hdiv1:((s.data.length:Int) - (q:Int)) / size≤100000000:=by
    have:=Int.ediv_le_self (a:=(s.data.length:Int) - (q:Int)) size om1
    omega
   have htd:((s.data.length:Int) - (q:Int)).tdiv size=((s.data.length:Int) - (q:Int)) / size:=Int.tdiv_eq_ediv_of_nonneg om1
   obtain⟨dd,hdd⟩:∃dd,dd=((s.data.length:Int) - (q:Int)) / size:=⟨_,rfl⟩
   rw[←hdd] at hdiv0 hdiv1 htd
   rw[←hdd]
   have hlen0:(s.data.length:Int)≤100000000:=by omega
   have HH:=hH (aN hdv (aN hq1 hq2))
   clear hn h hp hdd hdv c0 c2
   have HF:Hid (∀(w1:World) (k:Nat),zT w1 b dv { s with pos:=q }→Calls Tryz.prog 178 #[.pointer (some ⟨b,0,none⟩),.int .i64 (s.pos:Int)] (w1.drewN k) (Ye (w1.drewN k) b dv { s with pos:=q } s.pos)):=hH fun w1 k h1=>zaa _ b dv _ (h1.drewN k) s.pos (by show s.pos≤s.data.length;omega)
   have HC:Hid (∀w1,zT w1 b dv { s with pos:=q }→w1.cell? ⟨b,0,none⟩=some (.slice a s.data.length cap)∧w1.cell? ⟨b,1,none⟩=some (.int .i64 (q:Int))):=hH fun w1 h1=>⟨by rw[←HH.out.1];exact h1.cells.1,h1.cells.2.1⟩
   have hsz0:¬size=0:=by omega
   have hqlen:(q:Int)≤(s.data.length:Int):=by omega
   clear hs hs2 hq1 hq2
   by_cases h0:n<0
   · rw[ipQ (Or.inl h0)]
     have hd0:decide (n<0)=true:=by simp;omega
     clear htd h0
     exact sb3
   · have hd0:decide (n<0)=false:=by simp;omega
     by_cases hm:n>most
     · rw[ipQ (Or.inr (Or.inl hm))]
       have hd1:decide (most<n)=true:=by simp;omega
       clear htd h0 hm
       exact sb3
     · have hd1:decide (most<n)=false:=by simp;omega
       by_cases hc:n>dd
       · rw[ipQ (Or.inr (Or.inr hc))]
         have hd2:decide (dd<n)=true:=by simp;omega
         clear h0 hm hc
         exact sb3
       · rw [inQ (fun h=>by rcases h with h | h | h<;>contradiction)]
         have hd2:decide (dd<n)=false:=by simp;omega
         have HN0:=hH h0
         clear h0 hm hc
         go_enter Tryz.func284,Tryz.ntmps284
         go_wp2_with (first
          | (go_at_call 274;refine HN.out.mono ?_;clear HN;rintro e w1 ⟨v,rfl,rfl,h1,h2⟩;obtain⟨e0,e1⟩:=HC.out w1 h1;have H1:=hH (aN h1 h2);clear h1 h2)
          | go_quiet (fail))
         go_ret
         exact⟨_,rfl,(by have:=HN0.out;show Value.int .i64 n= .int .i64 (n.toNat:Int);rw[Int.toNat_of_nonneg om1]),H1.out.1.drewN _,H1.out.2.drewN _⟩
theorem YE {d:List UInt8}{size most:Int}{p n q:Nat}(h:vY d size most p= .ok (n,q)):p+8≤d.length∧q=p+8∧(n:Int)≤most∧n≤d.length - q:=by
 unfold vY at h
 cases hp:jW d p with
 | error e=>rw[hp] at h;cases h
 | ok x=>
   obtain⟨m,q'⟩:=x
   rw[hp] at h
   obtain⟨h1,h2⟩:=zcb hp
   simp only at h
   split at h
   · cases h
   · rename_i hc
     cases h
     have h3:((d.length:Int) - q) / size≤(d.length:Int) - q:=Int.ediv_le_self size om1
     exact⟨h1,h2,by omega,by omega⟩
theorem zbM (w:World)(b:Nat)(dv:Value)(s:Rd)(h:zT w b dv s):Calls Tryz.prog 288 #[.pointer (some ⟨b,0,none⟩)] w (JC zkO w b dv s (Yq s.data s.pos)):=by
 have hn:=YV w b dv s h 1 9223372036854775807 om1 om1
 unfold Yq
 cases hp:vY s.data 1 9223372036854775807 s.pos with
 | error p=>
   rw[hp] at hn
   have HN:=hH hn
   clear hn h hp
   go_enter Tryz.func288,Tryz.ntmps288
   exact sg2
 | ok nq=>
   obtain⟨n,q⟩:=nq
   obtain⟨hq1,hq2,_,hq3⟩:=YE hp
   rw[hp] at hn
   have HN:=hH hn
   have HT:Hid (∀w1,zT w1 b dv { s with pos:=q }→Calls Tryz.prog 157 #[.pointer (some ⟨b,0,none⟩),.int .i64 (n:Int)] w1 (za8 w1 b dv { s with pos:=q } n)):=hH fun w1 h1=>zcq w1 b dv _ h1 n (by show q+n≤s.data.length;omega) (by intro e;have e2:s.data= []:=e;rw[e2] at hq1;simp at hq1)
   have HL:Hid (((s.data.drop q).take n).length=n):=hH ud8
   clear hn h hp hq1 hq2 hq3
   go_enter Tryz.func288,Tryz.ntmps288
   go_wp2_with (first
    | (go_at_call 284;refine HN.out.mono ?_;clear HN;rintro e w1 ⟨v,rfl,rfl,h1,h2⟩;have H1:=hH (aN h1 h2);clear h1 h2)
    | (go_at_call 157;refine (HT.out _ H1.out.1).mono ?_;clear HT;rintro e w2 ⟨g,o,cap,rfl,_,hc,h1,h2⟩;have hcv:=zgu w2 g o n cap _ HL.out hc;have H2:=hH (aN h1 h2);clear hc h1 h2))
   go_ret
   exact⟨_,rfl,rfl,H2.out.1,H1.out.2.trans H2.out.2 (fun k hk=>Or.inl hk)⟩
def yF {α:Type}(one:Nat→Nat→Got (α×Nat)):Nat→Nat→Nat→Got (List α×Nat)
 | 0,m,p=> .ok (([],m),p)
 | k + 1,m,p=>match yF one k m p with
   | .error e=> .error e
   | .ok ((l,m1),q)=>match one m1 q with
     | .error e=> .error e
     | .ok ((x,m2),q2)=> .ok ((l++[x],m2),q2)
def yA (d : List UInt8):Nat→Nat→Nat→Nat→Got (Tr×Nat)
 | 0,_,_,p=> .error p
 | f + 1, depth,m,p=>
   if 40<depth∨200<m+1 then .error p else
   match jW d p with
   | .error e=> .error e
   | .ok (id,q1)=>match jW d q1 with
     | .error e=> .error e
     | .ok (kd,q2)=>match Yq d q2 with
       | .error e=> .error e
       | .ok (tx,q3)=>match vY d 32 9223372036854775807 q3 with
         | .error e=> .error e
         | .ok (n,q4)=>match yF (fun m' q=>yA d f (depth+1) m' q) n (m+1) q4 with
           | .error e=> .error e
           | .ok ((l,m2),q5)=> .ok ((⟨id,kd,tx,kM l⟩,m2),q5)
def jC (w w' :World):Nat→Prop:=fun x=>w.heap.size≤x∧x<w'.heap.size
theorem zhM {w:World}{b:Nat}{t:TypeId}{c0 c1 c2 c3:Value}(h:w.heap[b]? =some (.cells #[c0,c1,c2,c3] t (0,0)))(u0 u1 u2 u3:Value):
 ((((w.setCell ⟨b,0,none⟩ u0).setCell ⟨b,1,none⟩ u1).setCell ⟨b,2,none⟩ u2).setCell ⟨b,3,none⟩ u3).heap[b]? =some (.cells #[u0,u1,u2,u3] t (0,0))∧
 za w ((((w.setCell ⟨b,0,none⟩ u0).setCell ⟨b,1,none⟩ u1).setCell ⟨b,2,none⟩ u2).setCell ⟨b,3,none⟩ u3) (fun k=>k=b)∧
 ((((w.setCell ⟨b,0,none⟩ u0).setCell ⟨b,1,none⟩ u1).setCell ⟨b,2,none⟩ u2).setCell ⟨b,3,none⟩ u3).heap.size=w.heap.size:=by
 have h0:=hssQ w b 0 _ _ u0 h
 have h1:=hssQ _ b 1 _ _ u1 h0
 have h2:=hssQ _ b 2 _ _ u2 h1
 have h3:=hssQ _ b 3 _ _ u3 h2
 refine⟨h3,?_,by simp[World.setCell]⟩
 exact (((za.setCell (w:=w) (S:=fun k=>k=b) (a:=⟨b,0,none⟩) rfl u0).trans (za.setCell (S:=fun k=>k=b) (a:=⟨b,1,none⟩) rfl u1) (fun k hk=>Or.inl hk)).trans (za.setCell (S:=fun k=>k=b) (a:=⟨b,2,none⟩) rfl u2) (fun k hk=>Or.inl hk)).trans (za.setCell (S:=fun k=>k=b) (a:=⟨b,3,none⟩) rfl u3) (fun k hk=>Or.inl hk)
structure yw (w:World) (nb rb fb b:Nat) (dv:Value) (s:Rd) (m:Nat):Prop where
 rd:zT w b dv s
 n:w.heap[nb]? =some (.cells #[.int .i64 (m:Int)] 3 (0,0))
 r:w.heap[rb]? =some (.cells #[.pointer (some ⟨b,0,none⟩)] 110 (0,0))
 f:w.heap[fb]? =some (.cells #[.func (.func 287) #[] #[.pointer (some ⟨nb,0,none⟩),.pointer (some ⟨rb,0,none⟩),.pointer (some ⟨fb,0,none⟩)]] 166 (0,0))
theorem yw.kept {w w' :World}{nb rb fb b:Nat}{dv:Value}{s:Rd}{m:Nat}(h:yw w nb rb fb b dv s m){S:Nat→Prop}(ht:za w w' S)(hS:∀k,S k→w.heap.size≤k):yw w' nb rb fb b dv s m:=by
 have hk:∀{k o},w.heap[k]? =some o→w'.heap[k]? =some o:=fun {k o} hh=>by
  have:=lohQ hh
  rw[ht.block k this (fun e=>by have:=hS k e;omega)];exact hh
 exact⟨h.rd.kept (S:=fun k=>S k∧w.heap.size≤k) ⟨ht.os,ht.tape,ht.output,ht.size,fun k hk hn=>ht.block k hk (fun e=>hn ⟨e,hS k e⟩)⟩ (fun e=>by have:=lohQ h.rd.here;omega) (fun g hg e=>by have:=qO h.rd.owns g hg;omega),hk h.n,hk h.r,hk h.f⟩
theorem yw.keep {w w' :World}{nb rb fb b:Nat}{dv:Value}{s:Rd}{m:Nat}(h:yw w nb rb fb b dv s m){S:Nat→Prop}(ht:za w w' S)(h1:¬S b)(h2:∀g,dv.ownBlock=some g→¬S g)(h3:¬S nb)(h4:¬S rb)(h5:¬S fb):yw w' nb rb fb b dv s m:=
 ⟨h.rd.kept ht h1 h2,(ht.block _ (lohQ h.n) h3).trans h.n,(ht.block _ (lohQ h.r) h4).trans h.r,(ht.block _ (lohQ h.f) h5).trans h.f⟩
def JP (B nb rb fb b:Nat)(dv:Value):Prop:=b<B∧nb<B∧rb<B∧fb<B∧∀g,dv.ownBlock=some g→g<B
theorem yw.low {w:World}{nb rb fb b:Nat}{dv:Value}{s:Rd}{m:Nat}(h:yw w nb rb fb b dv s m):JP w.heap.size nb rb fb b dv:=⟨lohQ h.rd.here,lohQ h.n,lohQ h.r,lohQ h.f,qO h.rd.owns⟩
theorem yw.one {w w' :World}{nb rb fb b:Nat}{dv:Value}{s:Rd}{m B x:Nat}(h:yw w nb rb fb b dv s m)(hl:JP B nb rb fb b dv)(hx:B≤x)(ht:za w w' (fun k=>k=x)):yw w' nb rb fb b dv s m:=
 h.keep ht (fun e=>by have:=hl.1;omega) (fun g hg e=>by have:=hl.2.2.2.2 g hg;omega) (fun e=>by have:=hl.2.1;omega) (fun e=>by have:=hl.2.2.1;omega) (fun e=>by have:=hl.2.2.2.1;omega)
theorem yw.alloc {w:World}{nb rb fb b:Nat}{dv:Value}{s:Rd}{m:Nat}(h:yw w nb rb fb b dv s m)(o:Obj):yw (w.alloc o) nb rb fb b dv s m:=h.kept (S:=fun _=>False) ((za.refl w _).alloc o) (fun _=>False.elim)
def NbR (b nb:Nat):Nat→Prop:=fun k=>k=b∨k=nb
def Qk (w:World)(nb rb fb b:Nat)(dv:Value)(s:Rd):Got (Tr×Nat)→Ending→World→Prop
 | .ok ((t,m),q),e,w'=>∃v,e= .returned v∧kT w' (jC w w') v t∧yw w' nb rb fb b dv { s with pos:=q } m∧za w w' (NbR b nb)
 | .error p,e,w'=>e= .panicked fell∧zT w' b dv { s with pos:=p,bad:=true }∧za w w' (NbR b nb)
def zcE (nb rb fb b:Nat)(dv:Value)(d:List UInt8)(f depth:Nat):Prop:=∀(w:World) (s:Rd) (m:Nat),s.data=d→yw w nb rb fb b dv s m→m≤200→
 Calls Tryz.prog 287 #[.int .i64 (depth:Int),.pointer (some ⟨nb,0,none⟩),.pointer (some ⟨rb,0,none⟩),.pointer (some ⟨fb,0,none⟩)] w (Qk w nb rb fb b dv s (yA d f depth m s.pos))
theorem zhQ (nb rb fb b:Nat)(dv:Value)(d:List UInt8)(f depth db:Nat)(hn:zcE nb rb fb b dv d f (depth+1))(hd40:depth≤1000)(w:World)(s:Rd)(m:Nat)(hs:s.data=d)(h:yw w nb rb fb b dv s m)(hm:m≤200)(hdb:w.heap[db]? =some (.cells #[.int .i64 (depth:Int)] 3 (0,0))):
 Calls Tryz.prog 290 #[.pointer (some ⟨fb,0,none⟩),.pointer (some ⟨db,0,none⟩)] w (Qk w nb rb fb b dv s (yA d f (depth+1) m s.pos)):=by
 have hc:=hn (w.alloc (.cells #[.int .i64 0,.int .i64 0,.string ⟨#[]⟩,.slice none 0 0] 35)) s m hs (h.alloc _) hm
 have ht0:=(za.refl w (NbR b nb)).alloc (.cells #[.int .i64 0,.int .i64 0,.string ⟨#[]⟩,.slice none 0 0] 35)
 have p0:(w.alloc (.cells #[.int .i64 0,.int .i64 0,.string ⟨#[]⟩,.slice none 0 0] 35)).cell? ⟨fb,0,none⟩=some (.func (.func 287) #[] #[.pointer (some ⟨nb,0,none⟩),.pointer (some ⟨rb,0,none⟩),.pointer (some ⟨fb,0,none⟩)]):=by rw[corQ _ _ 0 _ _ _ (h.alloc _).f];rfl
 have p1:(w.alloc (.cells #[.int .i64 0,.int .i64 0,.string ⟨#[]⟩,.slice none 0 0] 35)).cell? ⟨db,0,none⟩=some (.int .i64 (depth:Int)):=by rw[corQ _ _ 0 _ _ _ ((BhaQ w _ db (lohQ hdb)).trans hdb)];rfl
 have hlow:=h.low
 cases hp:yA d f (depth+1) m s.pos with
 | error p=>
   rw[hp] at hc
   have HC:=hH (aN hc ht0)
   clear hc hn h hp hdb ht0 hs hm hlow
   go_enter Tryz.func290,Tryz.ntmps290
   go_wp2_with (go_at_call 287;refine HC.out.1.mono ?_;rintro e w1 ⟨rfl,h1,h2⟩)
   exact⟨rfl,rfl,h1,HC.out.2.trans h2 (fun k hk=>Or.inl hk)⟩
 | ok x=>
   obtain⟨⟨t,m2⟩,q⟩:=x
   rw[hp] at hc
   have HC:=hH (aN hc ht0)
   have HB:=hH hlow
   clear hc hn h hp hdb ht0 hs hm hlow
   go_enter Tryz.func290,Tryz.ntmps290
   go_wp2_with (go_at_call 287;refine HC.out.1.mono ?_;rintro e w1 ⟨v,rfl,⟨ka,kcap,rfl,hcp,hk⟩,h1,h2⟩;have hg:w1.heap[w.heap.size]? =some (.cells #[.int .i64 0,.int .i64 0,.string ⟨#[]⟩,.slice none 0 0] 35 (0,0)):=(h2.block _ ud4 (fun e=>by have:=HB.out.1;have:=HB.out.2.1;rcases e with e | e<;>omega)).trans (hanQ w _);have d0:w1.cell? ⟨w.heap.size,0,none⟩=some (.int .i64 0):=(by rw[corQ w1 _ 0 _ _ _ hg];rfl);have d1:w1.cell? ⟨w.heap.size,1,none⟩=some (.int .i64 0):=(by rw[corQ w1 _ 1 _ _ _ hg];rfl);have d2:w1.cell? ⟨w.heap.size,2,none⟩=some (.string ⟨#[]⟩):=(by rw[corQ w1 _ 2 _ _ _ hg];rfl);have d3:w1.cell? ⟨w.heap.size,3,none⟩=some (.slice none 0 0):=(by rw[corQ w1 _ 3 _ _ _ hg];rfl);have df:∀j,w1.frozen? ⟨w.heap.size,j,none⟩=false:=(fun j=>forQ w1 _ j _ _ hg);obtain⟨len,hlen⟩:∃len,len=foLen t.kids:=⟨_,rfl⟩;rw[←hlen];have H1:=hH (aN h1 (aN h2 (aN hg (aN hcp (aN hk hlen)))));clear h1 h2 hg hcp hk hlen)
   obtain⟨g1,g2,g3,g4,g5,g6⟩:=H1.out
   obtain⟨s1,s2,s3⟩:=zhM g3 (.int .i64 t.id) (.int .i64 t.kind) (.string t.text) (.slice ka len kcap)
   refine brQ (results_cell_row rfl _ _ w.heap.size 35 _ (0,0) _ rfl s1 Tryz.underlying35 rfl kr1) rfl ?_
   refine⟨_,rfl,⟨ka,kcap,by rw[g6],g4,g5.kept fun x hx=>?_⟩,g1.one HB.out (NlrQ _) s2,(HC.out.2.trans g2 (fun k hk=>Or.inl hk)).trans s2 (fun k hk=>Or.inr om1)⟩
   have hx1:=hx.1
   rw[WsaQ] at hx1
   exact sg0
end Go.Proofs.YtoidedomenkbpaaGreat
