/-
  .
-/
import Derived.Test.YtoidedomenkbpaaGreatCBelowFQs
set_option maxRecDepth 100000
set_option maxHeartbeats 40000000

namespace Go.Proofs.YtoidedomenkbpaaGreat
open Go.RowKit
open Extern.Stop (cell)
theorem NSt.ziK {w wr:World}{nb rb fb b:Nat}{dv:Value}{depth:Nat}{xc:Array Value}{s:Rd}{m:Nat}(h:NSt w nb rb fb b dv depth xc s m wr):(wr.cell? ⟨w.heap.size+1,0,none⟩=some (.int .i64 0)∧wr.cell? ⟨w.heap.size+1,1,none⟩=some (.int .i64 0)∧wr.cell? ⟨w.heap.size+1,2,none⟩=some (.string ⟨#[]⟩)∧wr.cell? ⟨w.heap.size+1,3,none⟩=some (.slice none 0 0))∧(∀j,wr.frozen? ⟨w.heap.size+1,j,none⟩=false):=
 ⟨⟨by rw[corQ _ _ 0 _ _ _ h.rs];rfl,by rw[corQ _ _ 1 _ _ _ h.rs];rfl,by rw[corQ _ _ 2 _ _ _ h.rs];rfl,by rw[corQ _ _ 3 _ _ _ h.rs];rfl⟩,fun j=>forQ wr _ j _ _ h.rs⟩
theorem NSt.finish {w w8 w9:World}{nb rb fb b:Nat}{dv:Value}{depth:Nat}{x0 x1 x2 x3:Value}{s s9:Rd}{m m9 nn cap:Nat}{a:Option Addr}{id kd:Int}{tx:ByteArray}{l:List Tr}(h8:NSt w nb rb fb b dv depth #[x0,x1,x2,x3] s m w8)(hl:JP w.heap.size nb rb fb b dv)(hs9:yw w9 nb rb fb b dv s9 m9)(ht9:za w8 w9 (NbR b nb))
 (hn:nn=l.length) (hc:nn≤cap) (hfo:zQ w9 (jC w8 w9) (kM l) a) (W:World) (hW:W=(((((w9.setCell ⟨w.heap.size+1+1,3,none⟩ (.slice a nn cap)).setCell ⟨w.heap.size+1,0,none⟩ (.int .i64 id)).setCell ⟨w.heap.size+1,1,none⟩ (.int .i64 kd)).setCell ⟨w.heap.size+1,2,none⟩ (.string tx)).setCell ⟨w.heap.size+1,3,none⟩ (.slice a nn cap))):
 W.heap[w.heap.size+1]? =some (.cells #[.int .i64 id,.int .i64 kd,.string tx,.slice a nn cap] 35 (0,0))∧kT W (jC w W) (.agg #[.int .i64 id,.int .i64 kd,.string tx,.slice a nn cap]) ⟨id,kd,tx,kM l⟩∧yw W nb rb fb b dv s9 m9∧za w W (NbR b nb):=by
 have h9:=h8.move hl hs9 ht9
 have h10:=h9.set hl 3 (.slice a nn cap)
 obtain⟨s1,s2,s3⟩:=zhM h10.rs (.int .i64 id) (.int .i64 kd) (.string tx) (.slice a nn cap)
 rw[←hW] at s1 s2 s3
 have t1:za w9 W (fun k=>k=w.heap.size+1+1∨k=w.heap.size+1):=((za.setCell (w:=w9) (S:=fun k=>k=w.heap.size+1+1∨k=w.heap.size+1) (a:=⟨w.heap.size+1+1,3,none⟩) (Or.inl rfl) _)).trans s2 (fun k hk=>Or.inl (Or.inr hk))
 have hx8:=lohQ h8.x
 have hsz:(w9.setCell ⟨w.heap.size+1+1,3,none⟩ (.slice a nn cap)).heap.size=w9.heap.size:=by simp[World.setCell]
 have hs89:=ht9.size
 refine⟨s1,⟨a,cap,by rw[Yl,hn],by rw[Yl,←hn];exact hc,hfo.kept fun x hx=>?_⟩,h10.st.one hl om1 s2,h10.tch.trans s2 (fun k hk=>Or.inr om1)⟩
 have hx1:=hx.1
 exact⟨⟨by omega,by rw[s3,hsz];exact hx.2⟩,t1.block x hx.2 (fun e=>by rcases e with e | e<;>omega)⟩
theorem zd8 (nb rb fb b:Nat)(dv:Value)(d:List UInt8)(f depth:Nat)(ih:zcE nb rb fb b dv d f (depth+1))(hdp:depth≤40):zcE nb rb fb b dv d (f+1) depth:=by
 intro w s m hs h hm
 subst hs
 by_cases h200:200<m+1
 · have e:yA s.data (f+1) depth m s.pos= .error s.pos:=by simp only[yA,ipQ (Or.inr h200)]
   rw[e]
   exact Yj nb rb fb b dv depth w s m h hm om1 (Or.inr h200)
 · have hmf : ∀ (fn:Fn) (first cap:Array Value) (w:World),(Instr.makeFunc fn first cap).run Tryz.prog w= .ok (.func fn first cap) w:=fun _ _ _ _=>rfl
   have hlow:=h.low
   have cn:w.cell? ⟨nb,0,none⟩=some (.int .i64 (m:Int)):=by rw[corQ _ _ 0 _ _ _ h.n];rfl
   have fn:w.frozen? ⟨nb,0,none⟩=false:=forQ _ _ _ _ _ h.n
   have hnl:=lohQ h.n
   obtain⟨out,hout⟩:∃out,out=yA s.data (f+1) depth m s.pos:=⟨_,rfl⟩
   rw[←hout]
   have HO:=hH hout
   have hst:=NSt.start (depth:=depth) h ((m:Int)+1) (m+1) om1
   have H0:=hH (aN hst hlow)
   have HIH:=hH ih
   have h200' :¬(200:Int)<(m:Int)+1:=by omega
   have hd40:¬(40:Int)<(depth:Int):=by omega
   have hm1:m+1≤200:=by omega
   have hz:¬(40<depth∨200<m+1):=by omega
   have HZ:=hH (aN hz (aN hm1 (aN hnl hdp)))
   have hc0:=jm _ b dv s hst.st.rd
   obtain⟨r0,⟨x0,x1,x2,x3⟩,xf⟩:=hst.facts
   clear hst hlow ih hout h hz hm1 h200 hm hdp
   have HC0:=hH hc0
   clear hc0
   go_enter Tryz.func287,Tryz.ntmps287
   go_wp2_with fail
   cases hp1:jW s.data s.pos with
   | error e1=>
     have ho:out= .error e1:=by
      rw[HO.out];simp only[yA,inQ HZ.out.1,hp1]
     subst ho
     have hc:=HC0.out
     rw[hp1] at hc
     refine hc.mono ?_
     rintro e w4 ⟨rfl,h1,h2⟩
     clear hc hp1 HO
     go_wp2_with fail
     exact⟨rfl,rfl,h1,(H0.out.1.read H0.out.2 h1 h2).tch⟩
   | ok y1 =>
     obtain⟨id,q1⟩:=y1
     have hc:=HC0.out
     rw[hp1] at hc
     refine hc.mono ?_
     rintro e w1 ⟨v4,rfl,rfl,h1,h2⟩
     have HP1:=hH hp1
     have hs4:NSt w nb rb fb b dv depth #[.int .i64 0,.int .i64 0,.string ⟨#[]⟩,.slice none 0 0] { s with pos:=q1 } (m+1) w1:=H0.out.1.read H0.out.2 h1 h2
     obtain⟨r4,⟨z0,z1,z2,z3⟩,zf⟩:=hs4.facts
     have hs5:NSt w nb rb fb b dv depth #[.int .i64 id,.int .i64 0,.string ⟨#[]⟩,.slice none 0 0] { s with pos:=q1 } (m+1) (w1.setCell ⟨w.heap.size+1+1,0,none⟩ (.int .i64 id)):=hs4.set H0.out.2 0 (.int .i64 id)
     obtain⟨r5',⟨y0',y1',y2',y3'⟩,yf'⟩:=hs5.facts
     have hcn:=jm _ b dv { s with pos:=q1 } hs5.st.rd
     have HC1:=hH hcn
     have HS1:=hH hs5
     clear hc hp1 h1 h2 hs4 hs5 hcn x0 x1 x2 x3 xf r0 cn fn HC0
     have r5:=r5'
     have y0:=y0'
     have y1:=y1'
     have y2:=y2'
     have y3:=y3'
     have yf:=yf'
     clear r5' y0' y1' y2' y3' yf'
     go_wp2_with fail
     cases hp2:jW s.data q1 with
     | error e1=>
       have ho:out= .error e1:=by
        have hp1:=HP1.out;rw[HO.out];simp only[yA,inQ HZ.out.1,hp1,hp2]
       subst ho
       have hc:=HC1.out
       rw[hp2] at hc
       refine hc.mono ?_
       rintro e w4 ⟨rfl,h1,h2⟩
       clear hc hp2 HO
       go_wp2_with fail
       exact⟨rfl,rfl,h1,(HS1.out.read H0.out.2 h1 h2).tch⟩
     | ok y1 =>
       obtain⟨kd,q2⟩:=y1
       have hc:=HC1.out
       rw[hp2] at hc
       refine hc.mono ?_
       rintro e w2 ⟨v4,rfl,rfl,h1,h2⟩
       have HP2:=hH hp2
       have hs4:NSt w nb rb fb b dv depth #[.int .i64 id,.int .i64 0,.string ⟨#[]⟩,.slice none 0 0] { s with pos:=q2 } (m+1) w2:=HS1.out.read H0.out.2 h1 h2
       obtain⟨r4,⟨z0,z1,z2,z3⟩,zf⟩:=hs4.facts
       have hs5:NSt w nb rb fb b dv depth #[.int .i64 id,.int .i64 kd,.string ⟨#[]⟩,.slice none 0 0] { s with pos:=q2 } (m+1) (w2.setCell ⟨w.heap.size+1+1,1,none⟩ (.int .i64 kd)):=hs4.set H0.out.2 1 (.int .i64 kd)
       obtain⟨r5',⟨y0',y1',y2',y3'⟩,yf'⟩:=hs5.facts
       have hcn:=zbM _ b dv { s with pos:=q2 } hs5.st.rd
       have HC2:=hH hcn
       have HS2:=hH hs5
       clear hc hp2 h1 h2 hs4 hs5 hcn y0 y1 y2 y3 yf r5 HC1
       have r5:=r5'
       have y0:=y0'
       have y1:=y1'
       have y2:=y2'
       have y3:=y3'
       have yf:=yf'
       clear r5' y0' y1' y2' y3' yf'
       go_wp2_with fail
       cases hp3:Yq s.data q2 with
       | error e1=>
         have ho:out= .error e1:=by
          have hp1:=HP1.out;have hp2:=HP2.out;rw[HO.out];simp only[yA,inQ HZ.out.1,hp1,hp2,hp3]
         subst ho
         have hc:=HC2.out
         rw[hp3] at hc
         refine hc.mono ?_
         rintro e w4 ⟨rfl,h1,h2⟩
         clear hc hp3 HO
         go_wp2_with fail
         exact⟨rfl,rfl,h1,(HS2.out.read H0.out.2 h1 h2).tch⟩
       | ok y1 =>
         obtain⟨tx,q3⟩:=y1
         have hc:=HC2.out
         rw[hp3] at hc
         refine hc.mono ?_
         rintro e w3 ⟨v4,rfl,rfl,h1,h2⟩
         have HP3:=hH hp3
         have hs4:NSt w nb rb fb b dv depth #[.int .i64 id,.int .i64 kd,.string ⟨#[]⟩,.slice none 0 0] { s with pos:=q3 } (m+1) w3:=HS2.out.read H0.out.2 h1 h2
         obtain⟨r4,⟨z0,z1,z2,z3⟩,zf⟩:=hs4.facts
         have hs5:NSt w nb rb fb b dv depth #[.int .i64 id,.int .i64 kd,.string tx,.slice none 0 0] { s with pos:=q3 } (m+1) (w3.setCell ⟨w.heap.size+1+1,2,none⟩ (.string tx)):=hs4.set H0.out.2 2 (.string tx)
         obtain⟨r5',⟨y0',y1',y2',y3'⟩,yf'⟩:=hs5.facts
         have hcn:=YV _ b dv { s with pos:=q3 } hs5.st.rd 32 9223372036854775807 om1 om1
         have HC3:=hH hcn
         have HS3:=hH hs5
         clear hc hp3 h1 h2 hs4 hs5 hcn y0 y1 y2 y3 yf r5 HC2
         have r5:=r5'
         have y0:=y0'
         have y1:=y1'
         have y2:=y2'
         have y3:=y3'
         have yf:=yf'
         clear r5' y0' y1' y2' y3' yf'
         go_wp2_with fail
         cases hp4:vY s.data 32 9223372036854775807 q3 with
         | error e1=>
           have ho:out= .error e1:=by
            have hp1:=HP1.out;have hp2:=HP2.out;have hp3:=HP3.out;rw[HO.out];simp only[yA,inQ HZ.out.1,hp1,hp2,hp3,hp4]
           subst ho
           have hc:=HC3.out
           rw[hp4] at hc
           refine hc.mono ?_
           rintro e w4 ⟨rfl,h1,h2⟩
           clear hc hp4 HO
           go_wp2_with fail
           exact⟨rfl,rfl,h1,(HS3.out.read H0.out.2 h1 h2).tch⟩
         | ok y1=>
           obtain⟨n,q4⟩:=y1
           have hc:=HC3.out
           rw[hp4] at hc
           refine hc.mono ?_
           rintro e w4 ⟨v4,rfl,rfl,h1,h2⟩
           have HP4:=hH hp4
           have hs4:NSt w nb rb fb b dv depth #[.int .i64 id,.int .i64 kd,.string tx,.slice none 0 0] { s with pos:=q4 } (m+1) w4:=HS3.out.read H0.out.2 h1 h2
           have hs5:=hs4
           obtain⟨r4,⟨z0,z1,z2,z3⟩,zf⟩:=hs4.facts
           obtain⟨r5',⟨y0',y1',y2',y3'⟩,yf'⟩:=hs5.facts
           have hn6:n≤100000000:=by
            have h9:=(YE hp4).2.2.2
            have h10:=hs4.st.rd.few
            have h11:s.data.length≤100000000:=h10
            omega
           have hcn:=zhd nb rb fb b dv s.data f depth w.heap.size HIH.out (by have:=HZ.out.2.2.2;omega) w4 { s with pos:=q4 } (m+1) rfl hs5.st HZ.out.2.1 hs5.db (by have:=HZ.out.2.2.1;omega) n hn6
           have HC4:=hH hcn
           have HS4:=hH hs5
           clear hc hp4 h1 h2 hs4 hs5 hcn y0 y1 y2 y3 yf r5 hn6 HC3
           have r5:=r5'
           have y0:=y0'
           have y1:=y1'
           have y2:=y2'
           have y3:=y3'
           have yf:=yf'
           clear r5' y0' y1' y2' y3' yf'
           go_wp2_with fail
           cases hp5:yF (fun m' q=>yA s.data f (depth+1) m' q) n (m+1) q4 with
           | error e1=>
             have ho:out= .error e1:=by
              exact sg3
             subst ho
             have hc:=HC4.out
             rw[hp5] at hc
             refine hc.mono ?_
             rintro e w5 ⟨rfl,h1,h2⟩
             clear hc hp5 HO
             go_wp2_with fail
             exact⟨rfl,rfl,h1,HS4.out.tch.trans h2 (fun k hk=>Or.inl hk)⟩
           | ok y1=>
             obtain⟨⟨l,m2⟩,q5⟩:=y1
             have ho:out= .ok ((⟨id,kd,tx,kM l⟩,m2),q5):=by
              exact sg3
             subst ho
             have hc:=HC4.out
             rw[hp5] at hc
             refine hc.mono ?_
             rintro e w5 ⟨a,nn,cap,rfl,h1,h2,h3,h4,h5⟩
             have hs6:=HS4.out.move H0.out.2 h4 h5
             obtain⟨r6,⟨u0,u1,u2,u3⟩,uf⟩:=hs6.facts
             have hs7:NSt w nb rb fb b dv depth #[.int .i64 id,.int .i64 kd,.string tx,.slice a nn cap] { s with pos:=q5 } m2 (w5.setCell ⟨w.heap.size+1+1,3,none⟩ (.slice a nn cap)):=hs6.set H0.out.2 3 (.slice a nn cap)
             obtain⟨r7,⟨k0,k1,k2,k3⟩,kf⟩:=hs7.facts
             obtain⟨⟨t0,t1,t2,t3⟩,tf⟩:=hs7.ziK
             have HFIN:=hH (fun W hW=>NSt.finish (id:=id) (kd:=kd) (tx:=tx) HS4.out H0.out.2 h4 h5 h1 h2 h3 W hW)
             clear hc hp5 HO h1 h2 h3 h4 h5 hs6 hs7 r6 r7 r5 y0 y1 y2 y3 yf HC4
             go_wp2_with fail
             obtain⟨f1,f2,f3,f4⟩:=HFIN.out _ rfl
             refine brQ (results_cell_row rfl _ _ (w.heap.size+1) 35 _ (0,0) _ rfl f1 Tryz.underlying35 rfl kr1) rfl ?_
             exact⟨_,rfl,f2,f3,f4⟩
theorem J2 (nb rb fb b:Nat)(dv:Value)(d:List UInt8):∀(f depth:Nat),41≤depth+f→depth+f≤1000→zcE nb rb fb b dv d f depth
 | 0,depth,h1,h2=>fun w s m _ hst hm=>Yj nb rb fb b dv depth w s m hst hm om1 (Or.inl om1)
 | f + 1,depth,h1,h2=>by
   by_cases h:40<depth
   · intro w s m hs hst hm
     have e:yA d (f+1) depth m s.pos= .error s.pos:=by simp only[yA,ipQ (Or.inl h)]
     rw[e]
     exact Yj nb rb fb b dv depth w s m hst hm om1 (Or.inl h)
   · exact zd8 nb rb fb b dv d f depth (J2 nb rb fb b dv d f (depth+1) om1 om1) om1
def jo (d:List UInt8)(p:Nat):Got Tr:=match yA d 40 1 0 p with
 | .error e=> .error e
 | .ok ((t,_),q)=> .ok (t,q)
abbrev zcG (w:World):Tr→Value→World→Prop:=fun t v w'=>kT w' (jC w w') v t
def W4 (w:World)(b:Nat):World:=(((w.alloc (.cells #[.pointer (some ⟨b,0,none⟩)] 110)).alloc (.cells yT 35)).alloc (.cells #[.int .i64 0] 3)).alloc (.cells #[.func (.func 287) #[] #[.pointer (some ⟨w.heap.size+1+1,0,none⟩),.pointer (some ⟨w.heap.size,0,none⟩),.pointer (some ⟨w.heap.size+1+1+1,0,none⟩)]] 166)
theorem zeU (w:World)(b:Nat):(W4 w b).heap[w.heap.size]? =some (.cells #[.pointer (some ⟨b,0,none⟩)] 110 (0,0))∧(W4 w b).heap[w.heap.size+1]? =some (.cells yT 35 (0,0))∧(W4 w b).heap[w.heap.size+1+1]? =some (.cells #[.int .i64 0] 3 (0,0))∧
 (W4 w b).heap[w.heap.size+1+1+1]? =some (.cells #[.func (.func 287) #[] #[.pointer (some ⟨w.heap.size+1+1,0,none⟩),.pointer (some ⟨w.heap.size,0,none⟩),.pointer (some ⟨w.heap.size+1+1+1,0,none⟩)]] 166 (0,0)):=by
 unfold W4
 refine⟨?_,?_,?_,?_⟩
 · rw[BhaQ _ _ _ (by rw[WsaQ,WsaQ,WsaQ];omega),BhaQ _ _ _ (by rw[WsaQ,WsaQ];omega)];exact heap_alloc2_old w _ _
 · rw[BhaQ _ _ _ (by rw[WsaQ,WsaQ,WsaQ];omega),BhaQ _ _ _ (by rw[WsaQ,WsaQ];omega)];exact heap_alloc2_new w _ _
 · rw[BhaQ _ _ _ sp]
   have:=hanQ ((w.alloc (.cells #[.pointer (some ⟨b,0,none⟩)] 110)).alloc (.cells yT 35)) (.cells #[.int .i64 0] 3)
   rw[WsaQ,WsaQ] at this;exact this
 · have:=hanQ (((w.alloc (.cells #[.pointer (some ⟨b,0,none⟩)] 110)).alloc (.cells yT 35)).alloc (.cells #[.int .i64 0] 3)) (.cells #[.func (.func 287) #[] #[.pointer (some ⟨w.heap.size+1+1,0,none⟩),.pointer (some ⟨w.heap.size,0,none⟩),.pointer (some ⟨w.heap.size+1+1+1,0,none⟩)]] 166)
   rw[WsaQ,WsaQ,WsaQ] at this;exact this
theorem ZU (w:World)(b:Nat)(S:Nat→Prop):za w (W4 w b) S:=((((za.refl w S).alloc _).alloc _).alloc _).alloc _
theorem zkQ {w:World}{b:Nat}{dv:Value}{s:Rd}(h:zT w b dv s):yw (W4 w b) (w.heap.size+1+1) w.heap.size (w.heap.size+1+1+1) b dv s 0:=by
 obtain⟨a1,a2,a3,a4⟩:=zeU w b
 exact⟨(((h.alloc _).alloc _).alloc _).alloc _,a3,a1,a4⟩
theorem QV (w:World)(b:Nat)(dv:Value)(s:Rd)(h:zT w b dv s):Calls Tryz.prog 281 #[.pointer (some ⟨b,0,none⟩)] w (JC (zcG w) w b dv s (jo s.data s.pos)):=by
 have hmf:∀(fn:Fn) (first cap:Array Value) (w:World),(Instr.makeFunc fn first cap).run Tryz.prog w= .ok (.func fn first cap) w:=fun _ _ _ _=>rfl
 have hc:Calls Tryz.prog 287 #[.int .i64 1,.pointer (some ⟨w.heap.size+1+1,0,none⟩),.pointer (some ⟨w.heap.size,0,none⟩),.pointer (some ⟨w.heap.size+1+1+1,0,none⟩)] (W4 w b) (Qk (W4 w b) (w.heap.size+1+1) w.heap.size (w.heap.size+1+1+1) b dv s (yA s.data 40 1 0 s.pos)):=
  J2 (w.heap.size+1+1) w.heap.size (w.heap.size+1+1+1) b dv s.data 40 1 om1 om1 (W4 w b) s 0 rfl (zkQ h) om1
 have hbl:=lohQ h.here
 have hdl:=qO h.owns
 have hsz:(W4 w b).heap.size=w.heap.size+1+1+1+1:=by unfold W4;simp
 have hbx:∀w5,za (W4 w b) w5 (NbR b (w.heap.size+1+1))→w5.heap[w.heap.size+1]? =some (.cells yT 35 (0,0)):=fun w5 ht=>(ht.block _ (by rw[hsz];omega) (fun e=>by rcases e with e | e<;>omega)).trans (zeU w b).2.1
 unfold jo
 cases hp:yA s.data 40 1 0 s.pos with
 | error p=>
   rw[hp] at hc
   have HC:=hH hc
   clear hc h hp hbx hbl hdl hsz
   go_enter Tryz.func281,Tryz.ntmps281
   go_wp2_with (go_at_call 287;refine HC.out.mono ?_;rintro e w5 ⟨rfl,h1,h2⟩)
   exact⟨rfl,rfl,h1,⟨h2.os,h2.tape,h2.output,by have:=h2.size;have:=(ZU w b (fun _=>False)).size;omega,fun k hk hn=>by
    have h3:=(ZU w b (fun _=>False)).size
    rw[h2.block k om1 (fun e=>by rcases e with e | e;exact hn e;omega),(ZU w b (fun _=>False)).block k hk id]⟩⟩
 | ok x=>
   obtain⟨⟨t,m⟩,q⟩:=x
   rw[hp] at hc
   have HC:=hH (aN hc (aN hbx (aN hbl (aN hdl hsz))))
   clear hc h hp hbx hbl hdl hsz
   go_enter Tryz.func281,Tryz.ntmps281
   go_wp2_with (go_at_call 287;refine HC.out.1.mono ?_;rintro e w5 ⟨v,rfl,⟨ka,kcap,rfl,hcp,hk⟩,h1,h2⟩;have hg:=HC.out.2.1 w5 h2;have d0:w5.cell? ⟨w.heap.size+1,0,none⟩=some (.int .i64 0):=(by rw[corQ w5 _ 0 _ _ _ hg];rfl);have d1:w5.cell? ⟨w.heap.size+1,1,none⟩=some (.int .i64 0):=(by rw[corQ w5 _ 1 _ _ _ hg];rfl);have d2:w5.cell? ⟨w.heap.size+1,2,none⟩=some (.string ⟨#[]⟩):=(by rw[corQ w5 _ 2 _ _ _ hg];rfl);have d3:w5.cell? ⟨w.heap.size+1,3,none⟩=some (.slice none 0 0):=(by rw[corQ w5 _ 3 _ _ _ hg];rfl);have df:∀j,w5.frozen? ⟨w.heap.size+1,j,none⟩=false:=(fun j=>forQ w5 _ j _ _ hg);obtain⟨len,hlen⟩:∃len,len=foLen t.kids:=⟨_,rfl⟩;rw[←hlen];have H1:=hH (aN h1 (aN h2 (aN hg (aN hcp (aN hk hlen)))));clear h1 h2 hg hcp hk hlen)
   obtain⟨g1,g2,g3,g4,g5,g6⟩:=H1.out
   obtain⟨s1,s2,s3⟩:=zhM g3 (.int .i64 t.id) (.int .i64 t.kind) (.string t.text) (.slice ka len kcap)
   refine brQ (results_cell_row rfl _ _ (w.heap.size+1) 35 _ (0,0) _ rfl s1 Tryz.underlying35 rfl kr1) rfl ?_
   obtain⟨_,_,hbl,hdl,hsz⟩:=HC.out
   have h3:=g2.size
   refine⟨_,rfl,⟨ka,kcap,by rw[g6],g4,g5.kept fun x hx=>?_⟩,g1.rd.kept s2 om1 (fun g hg e=>by have:=hdl g hg;omega),⟨?_,?_,?_,by rw[s3];omega,fun k hk hn=>?_⟩⟩
   · have hx1:=hx.1
     exact sg0
   · exact s2.os.trans g2.os
   · exact s2.tape.trans g2.tape
   · exact s2.output.trans g2.output
   · rw[s2.block k om1 om1,g2.block k om1 (fun e=>by rcases e with e | e;exact hn e;omega),(ZU w b (fun _=>False)).block k hk id]
end Go.Proofs.YtoidedomenkbpaaGreat
