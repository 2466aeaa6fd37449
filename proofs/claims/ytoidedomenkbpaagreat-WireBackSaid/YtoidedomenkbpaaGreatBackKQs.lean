/-
  .
-/
import Derived.Test.YtoidedomenkbpaaGreatReadAllQs
import Derived.Test.YtoidedomenkbpaaGreatFwdKQs
set_option maxRecDepth 100000
set_option maxHeartbeats 40000000
namespace Go.Proofs.YtoidedomenkbpaaGreat
open Go.RowKit Go.Shelf
open Extern.Stop (cell)
set_option linter.unusedVariables false
set_option linter.unusedSimpArgs false
def kZ (o:Option (List UInt8))(w:World)(e:Ending)(Z:World):Prop:=match o with
 | some bs=>qf (zy bs) w e Z
 | none=>e= .returned (.tuple #[.slice none 0 0,.int .i64 2])∧Below w.heap.size w Z
def kI (k:Int)(a:zjA)(vs:List SV)(t:Tr)(w:World)(e:Ending)(Z:World):Prop:=Below w.heap.size w Z∧∃(m:RM) (us:List SV) (u:Tr),e= .returned (.tuple #[.agg #[.int .i8 k,.int .i64 m.n1,.int .i64 m.n2,.int .i64 m.n3,.int .i64 m.n4,.int .i64 m.n5,.int .i64 m.n6,.int .i64 m.n7,.int .i64 m.n8,.int .i64 m.n9,.int .i64 m.n10,.slice m.sa m.sn m.sc,.int .i64 u.id,.int .i64 u.kind,.string u.text,.slice m.ar m.am m.ad],.int .i64 0,.int .i64 0])∧zM Z m.sa m.ar m.sn m.am m.ad us u∧a=⟨k,m.n1,m.n2,m.n3,m.n4,m.n5,m.n6,m.n7,m.n8,m.n9,m.n10⟩∧eqR (steps vs) (steps us)=true∧yh t u=true
theorem vB {j k:Nat}(hj:j≤10)(hk:k≤10)(h:zH j=zH k):j=k:=by
 have h1:=qw j hj
 have h2:=qw k hk
 rw[h,h2] at h1
 omega
theorem jq {us:List SV}(h:steps us= []):us= []:=by
 cases us with
 | nil=>rfl
 | cons x r=>simp[steps] at h
theorem jc {k:Int}{b1 b2 b3 b4 b5 b6 b7 b8 b9 b10:Int}(h:yz ⟨k,b1,b2,b3,b4,b5,b6,b7,b8,b9,b10⟩ ⟨k,0,0,0,0,0,0,0,0,0,0⟩=true):b1=0∧b2=0∧b3=0∧b4=0∧b5=0∧b6=0∧b7=0∧b8=0∧b9=0∧b10=0:=by
 simpa [yz] using h
theorem zay (a1 a2 a3 a4 a5 a6 a7 a8 a9 a10:Int)(sa ar:Option Addr)(an ac am ad:Nat)(vs:List SV)(t:Tr):qA a1 a2 a3 a4 a5 a6 a7 a8 a9 a10 sa ar an ac am ad vs t=(((zA 0 0 a1 && (zA 1 8 a2 && (zA 1 1125899906842624 a4 && true)))) && (yz ⟨1,0,0,a3,0,a5,a6,a7,a8,a9,a10⟩ ⟨1,0,0,0,0,0,0,0,0,0,0⟩ && ((an == 0) && yh t ⟨0,0,⟨#[]⟩,.nil⟩))):=by
 unfold qA
 rw[show yI (zl 1::toQ 1:: [zg 1]) #[.int .i8 1,.int .i64 a1,.int .i64 a2,.int .i64 a3,.int .i64 a4,.int .i64 a5,.int .i64 a6,.int .i64 a7,.int .i64 a8,.int .i64 a9,.int .i64 a10,.slice sa an ac,.int .i64 t.id,.int .i64 t.kind,.string t.text,.slice ar am ad]=(zA 0 0 a1 && (zA 1 8 a2 && (zA 1 1125899906842624 a4 && true))) from by kernel_rfl]
theorem zeW (a1 a2 a3 a4 a5 a6 a7 a8 a9 a10:Int)(sa ar:Option Addr)(an ac am ad:Nat)(vs:List SV)(t:Tr)(w:World)(h:zM w sa ar an am ad vs t):Calls Tryz.prog 31 #[.agg #[.int .i8 1,.int .i64 a1,.int .i64 a2,.int .i64 a3,.int .i64 a4,.int .i64 a5,.int .i64 a6,.int .i64 a7,.int .i64 a8,.int .i64 a9,.int .i64 a10,.slice sa an ac,.int .i64 t.id,.int .i64 t.kind,.string t.text,.slice ar am ad]] w (kZ (if qA a1 a2 a3 a4 a5 a6 a7 a8 a9 a10 sa ar an ac am ad vs t then some (qZ a1 a2 a3 a4 a5 a6 a7 a8 a9 a10 sa ar an ac am ad vs t) else none) w):=by
 cases hv:qA a1 a2 a3 a4 a5 a6 a7 a8 a9 a10 sa ar an ac am ad vs t
 · exact vg w 1 a1 a2 a3 a4 a5 a6 a7 a8 a9 a10 t.id t.kind sa ar an ac am ad t.text fun Y hY=>by
    have h1:=QC Y a1 a2 a3 a4 a5 a6 a7 a8 a9 a10 sa ar an ac am ad vs t (h.on hY)
    rw[hv] at h1;exact h1
 · exact ziR w a1 a2 a3 a4 a5 a6 a7 a8 a9 a10 sa ar an ac am ad vs t h fun Y hY=>by
    have h1:=QC Y a1 a2 a3 a4 a5 a6 a7 a8 a9 a10 sa ar an ac am ad vs t (h.on hY)
    rw[hv] at h1;exact h1
theorem zjO (a1 a2 a3 a4 a5 a6 a7 a8 a9 a10:Int)(sa ar:Option Addr)(an ac am ad:Nat)(vs:List SV)(t:Tr)(han:an=vs.length)(hv:qA a1 a2 a3 a4 a5 a6 a7 a8 a9 a10 sa ar an ac am ad vs t=true)(w:World)(e:Ending)(Z:World)(h:kY (zy (qZ a1 a2 a3 a4 a5 a6 a7 a8 a9 a10 sa ar an ac am ad vs t)) w e Z):kI 1 ⟨1,a1,a2,a3,a4,a5,a6,a7,a8,a9,a10⟩ vs t w e Z:=by
 have hr2:=hv
 rw[zay] at hr2
 simp only[Bool.and_eq_true,Bool.true_eq,and_true,true_and] at hr2
 obtain⟨⟨j1,j2,j4⟩,hz,hsn,htz⟩:=hr2
 obtain⟨_,_,z3,_,z5,z6,z7,z8,z9,z10⟩:=jc hz
 obtain⟨⟨p1,p2,p3,p4,p5,p6,p7,p8,p9,p10⟩,hpl,hpt,hpe⟩:=zly a1 a2 a3 a4 a5 a6 a7 a8 a9 a10 sa ar an ac am ad vs t (zF j1 ue0 ue0) (zF j2 ue0 ue0) (zF j4 ue0 ue0)
 obtain⟨hok,hop⟩:=qh (qZ a1 a2 a3 a4 a5 a6 a7 a8 a9 a10 sa ar an ac am ad vs t)
 have hln:(zy (qZ a1 a2 a3 a4 a5 a6 a7 a8 a9 a10 sa ar an ac am ad vs t)).length≤65536:=by
  rw[zS]
  unfold qZ
  exact sc1
 have h0:(qZ a1 a2 a3 a4 a5 a6 a7 a8 a9 a10 sa ar an ac am ad vs t)[0]? =some (zH 1):=by unfold qZ;simp
 have hrd:rd0 (zy (qZ a1 a2 a3 a4 a5 a6 a7 a8 a9 a10 sa ar an ac am ad vs t))=⟨qZ a1 a2 a3 a4 a5 a6 a7 a8 a9 a10 sa ar an ac am ad vs t,1,false⟩:=by unfold rd0;rw[hop]
 have hkk:∀k',yB (zy (qZ a1 a2 a3 a4 a5 a6 a7 a8 a9 a10 sa ar an ac am ad vs t)) k'→k'=1:=fun k' hk'=>by
  exact sb8
 have hright:∀(m:RM) (V:World),zZ (zb 1 (rd0 (zy (qZ a1 a2 a3 a4 a5 a6 a7 a8 a9 a10 sa ar an ac am ad vs t)))) m V→yG 1 (zb 1 (rd0 (zy (qZ a1 a2 a3 a4 a5 a6 a7 a8 a9 a10 sa ar an ac am ad vs t)))) m=true:=fun m V hp=>by
  rw[hrd] at hp ⊢
  obtain⟨⟨m1,m2,m3,m4,m5,m6,m7,m8,m9,m10⟩,_,us,hm,hu⟩:=hp
  show qA m.n1 m.n2 m.n3 m.n4 m.n5 m.n6 m.n7 m.n8 m.n9 m.n10 m.sa m.ar m.sn m.sc m.am m.ad (qb (zb 1 (⟨qZ a1 a2 a3 a4 a5 a6 a7 a8 a9 a10 sa ar an ac am ad vs t,1,false⟩:Rd))) (zb 1 (⟨qZ a1 a2 a3 a4 a5 a6 a7 a8 a9 a10 sa ar an ac am ad vs t,1,false⟩:Rd)).t=true
  rw[zay,m1,m2,m3,m4,m5,m6,m7,m8,m9,m10,p1,p2,p3,p4,p5,p6,p7,p8,p9,p10]
  have hsn0:m.sn=0:=by
   exact sc7
  rw[hpt,hsn0]
  simp only[Bool.and_eq_true,j1,j2,j4]
  exact⟨by simp,by simp[yz],by simp,qj yM⟩
 rcases h with ⟨at_,er,hw,_⟩ | ⟨k',m,hk',he,hb,hp,hret,hrt⟩
 · exfalso
   rcases hw with ⟨h1,_⟩ | ⟨_,h1,_⟩ | ⟨_,_,h1,_⟩ | ⟨k',hk',h1,h2,_⟩ | ⟨k',hk',h1,_,_,m,V,h2,h3⟩
   · omega
   · rw[hok] at h1;cases h1
   · rw [hop] at h1
     rcases h1 with h1 | ⟨u,h1,h2⟩
     · rw[h1] at h0;simp at h0
     · rw[h0] at h1
       cases h1
       have:=qw 1 ue0
       rw[this] at h2
       omega
   · have:=hkk k' hk'
     exact sc3
   · have:=hkk k' hk'
     subst this
     rw[hright m V h2] at h3
     cases h3
 · have:=hkk k' hk'
   subst this
   rw[hrd] at hp
   obtain⟨⟨m1,m2,m3,m4,m5,m6,m7,m8,m9,m10⟩,⟨i1,i2,i3⟩,us,hm,hu⟩:=hp
   refine⟨hb,m,us,(zb 1 (⟨qZ a1 a2 a3 a4 a5 a6 a7 a8 a9 a10 sa ar an ac am ad vs t,1,false⟩:Rd)).t,?_,hm,?_,?_,?_⟩
   · rw[hret,←i1,←i2,←i3];rfl
   · rw[m1,m2,m3,m4,m5,m6,m7,m8,m9,m10,p1,p2,p3,p4,p5,p6,p7,p8,p9,p10,z3,z5,z6,z7,z8,z9,z10]
   · have h1:an=0:=by simpa using hsn
     exact sc6
   · rw[hpt];exact htz
theorem zaz (a1 a2 a3 a4 a5 a6 a7 a8 a9 a10:Int)(sa ar:Option Addr)(an ac am ad:Nat)(vs:List SV)(t:Tr):qB a1 a2 a3 a4 a5 a6 a7 a8 a9 a10 sa ar an ac am ad vs t=(((zA 1 8 a1 && (zA 0 0 a2 && (zA 1 1125899906842624 a3 && (zA 0 1125899906842624 a4 && (zA 1 1125899906842624 a5 && (zA 1 1125899906842624 a6 && true))))))) && (yz ⟨2,0,0,0,0,0,0,a7,a8,a9,a10⟩ ⟨2,0,0,0,0,0,0,0,0,0,0⟩ && ((an == 0) && yh t ⟨0,0,⟨#[]⟩,.nil⟩))):=by
 unfold qB
 rw[show yI (zl 2::toQ 2:: [(3,1,1125899906842624),zg 2,(5,1,1125899906842624),(6,1,1125899906842624)]) #[.int .i8 2,.int .i64 a1,.int .i64 a2,.int .i64 a3,.int .i64 a4,.int .i64 a5,.int .i64 a6,.int .i64 a7,.int .i64 a8,.int .i64 a9,.int .i64 a10,.slice sa an ac,.int .i64 t.id,.int .i64 t.kind,.string t.text,.slice ar am ad]=(zA 1 8 a1 && (zA 0 0 a2 && (zA 1 1125899906842624 a3 && (zA 0 1125899906842624 a4 && (zA 1 1125899906842624 a5 && (zA 1 1125899906842624 a6 && true)))))) from by kernel_rfl]
theorem zeX (a1 a2 a3 a4 a5 a6 a7 a8 a9 a10:Int)(sa ar:Option Addr)(an ac am ad:Nat)(vs:List SV)(t:Tr)(w:World)(h:zM w sa ar an am ad vs t):Calls Tryz.prog 31 #[.agg #[.int .i8 2,.int .i64 a1,.int .i64 a2,.int .i64 a3,.int .i64 a4,.int .i64 a5,.int .i64 a6,.int .i64 a7,.int .i64 a8,.int .i64 a9,.int .i64 a10,.slice sa an ac,.int .i64 t.id,.int .i64 t.kind,.string t.text,.slice ar am ad]] w (kZ (if qB a1 a2 a3 a4 a5 a6 a7 a8 a9 a10 sa ar an ac am ad vs t then some (vG a1 a2 a3 a4 a5 a6 a7 a8 a9 a10 sa ar an ac am ad vs t) else none) w):=by
 cases hv:qB a1 a2 a3 a4 a5 a6 a7 a8 a9 a10 sa ar an ac am ad vs t
 · exact vg w 2 a1 a2 a3 a4 a5 a6 a7 a8 a9 a10 t.id t.kind sa ar an ac am ad t.text fun Y hY=>by
    have h1:=QD Y a1 a2 a3 a4 a5 a6 a7 a8 a9 a10 sa ar an ac am ad vs t (h.on hY)
    rw[hv] at h1;exact h1
 · exact ziS w a1 a2 a3 a4 a5 a6 a7 a8 a9 a10 sa ar an ac am ad vs t h fun Y hY=>by
    have h1:=QD Y a1 a2 a3 a4 a5 a6 a7 a8 a9 a10 sa ar an ac am ad vs t (h.on hY)
    rw[hv] at h1;exact h1
theorem zjP (a1 a2 a3 a4 a5 a6 a7 a8 a9 a10:Int)(sa ar:Option Addr)(an ac am ad:Nat)(vs:List SV)(t:Tr)(han:an=vs.length)(hv:qB a1 a2 a3 a4 a5 a6 a7 a8 a9 a10 sa ar an ac am ad vs t=true)(w:World)(e:Ending)(Z:World)(h:kY (zy (vG a1 a2 a3 a4 a5 a6 a7 a8 a9 a10 sa ar an ac am ad vs t)) w e Z):kI 2 ⟨2,a1,a2,a3,a4,a5,a6,a7,a8,a9,a10⟩ vs t w e Z:=by
 have hr2:=hv
 rw[zaz] at hr2
 simp only[Bool.and_eq_true,Bool.true_eq,and_true,true_and] at hr2
 obtain⟨⟨j1,j2,j3,j4,j5,j6⟩,hz,hsn,htz⟩:=hr2
 obtain⟨_,_,_,_,_,_,z7,z8,z9,z10⟩:=jc hz
 obtain⟨⟨p1,p2,p3,p4,p5,p6,p7,p8,p9,p10⟩,hpl,hpt,hpe⟩:=zlz a1 a2 a3 a4 a5 a6 a7 a8 a9 a10 sa ar an ac am ad vs t (zF j1 ue0 ue0) (zF j2 ue0 ue0) (zF j3 ue0 ue0) (zF j4 ue0 ue0) (zF j5 ue0 ue0) (zF j6 ue0 ue0)
 obtain⟨hok,hop⟩:=qh (vG a1 a2 a3 a4 a5 a6 a7 a8 a9 a10 sa ar an ac am ad vs t)
 have hln:(zy (vG a1 a2 a3 a4 a5 a6 a7 a8 a9 a10 sa ar an ac am ad vs t)).length≤65536:=by
  rw[zS]
  unfold vG
  exact sc1
 have h0:(vG a1 a2 a3 a4 a5 a6 a7 a8 a9 a10 sa ar an ac am ad vs t)[0]? =some (zH 2):=by unfold vG;simp
 have hrd:rd0 (zy (vG a1 a2 a3 a4 a5 a6 a7 a8 a9 a10 sa ar an ac am ad vs t))=⟨vG a1 a2 a3 a4 a5 a6 a7 a8 a9 a10 sa ar an ac am ad vs t,1,false⟩:=by unfold rd0;rw[hop]
 have hkk:∀k',yB (zy (vG a1 a2 a3 a4 a5 a6 a7 a8 a9 a10 sa ar an ac am ad vs t)) k'→k'=2:=fun k' hk'=>by
  exact sb8
 have hright:∀(m:RM) (V:World),zZ (zb 2 (rd0 (zy (vG a1 a2 a3 a4 a5 a6 a7 a8 a9 a10 sa ar an ac am ad vs t)))) m V→yG 2 (zb 2 (rd0 (zy (vG a1 a2 a3 a4 a5 a6 a7 a8 a9 a10 sa ar an ac am ad vs t)))) m=true:=fun m V hp=>by
  rw[hrd] at hp ⊢
  obtain⟨⟨m1,m2,m3,m4,m5,m6,m7,m8,m9,m10⟩,_,us,hm,hu⟩:=hp
  show qB m.n1 m.n2 m.n3 m.n4 m.n5 m.n6 m.n7 m.n8 m.n9 m.n10 m.sa m.ar m.sn m.sc m.am m.ad (qb (zb 2 (⟨vG a1 a2 a3 a4 a5 a6 a7 a8 a9 a10 sa ar an ac am ad vs t,1,false⟩:Rd))) (zb 2 (⟨vG a1 a2 a3 a4 a5 a6 a7 a8 a9 a10 sa ar an ac am ad vs t,1,false⟩:Rd)).t=true
  rw[zaz,m1,m2,m3,m4,m5,m6,m7,m8,m9,m10,p1,p2,p3,p4,p5,p6,p7,p8,p9,p10]
  have hsn0:m.sn=0:=by
   exact sc7
  rw[hpt,hsn0]
  simp only[Bool.and_eq_true,j1,j2,j3,j4,j5,j6]
  exact⟨by simp,by simp[yz],by simp,qj yM⟩
 rcases h with ⟨at_,er,hw,_⟩ | ⟨k',m,hk',he,hb,hp,hret,hrt⟩
 · exfalso
   rcases hw with ⟨h1,_⟩ | ⟨_,h1,_⟩ | ⟨_,_,h1,_⟩ | ⟨k',hk',h1,h2,_⟩ | ⟨k',hk',h1,_,_,m,V,h2,h3⟩
   · omega
   · rw[hok] at h1;cases h1
   · rw [hop] at h1
     rcases h1 with h1 | ⟨u,h1,h2⟩
     · rw[h1] at h0;simp at h0
     · rw[h0] at h1
       cases h1
       have:=qw 2 ue0
       rw[this] at h2
       omega
   · have:=hkk k' hk'
     exact sc3
   · have:=hkk k' hk'
     subst this
     rw[hright m V h2] at h3
     cases h3
 · have:=hkk k' hk'
   subst this
   rw[hrd] at hp
   obtain⟨⟨m1,m2,m3,m4,m5,m6,m7,m8,m9,m10⟩,⟨i1,i2,i3⟩,us,hm,hu⟩:=hp
   refine⟨hb,m,us,(zb 2 (⟨vG a1 a2 a3 a4 a5 a6 a7 a8 a9 a10 sa ar an ac am ad vs t,1,false⟩:Rd)).t,?_,hm,?_,?_,?_⟩
   · rw[hret,←i1,←i2,←i3];rfl
   · rw[m1,m2,m3,m4,m5,m6,m7,m8,m9,m10,p1,p2,p3,p4,p5,p6,p7,p8,p9,p10,z7,z8,z9,z10]
   · have h1:an=0:=by simpa using hsn
     exact sc6
   · rw[hpt];exact htz
theorem Qb (a1 a2 a3 a4 a5 a6 a7 a8 a9 a10:Int)(sa ar:Option Addr)(an ac am ad:Nat)(vs:List SV)(t:Tr):qC a1 a2 a3 a4 a5 a6 a7 a8 a9 a10 sa ar an ac am ad vs t=(((zA 0 0 a1 && (zA 1 8 a2 && (zA 1 1125899906842624 a4 && (zA 1 1125899906842624 a5 && (zA 1 1125899906842624 a7 && (zA 1 1125899906842624 a8 && (zA 0 1125899906842624 a9 && true))))))) && yj t) && (yz ⟨3,0,0,a3,0,0,a6,0,0,0,a10⟩ ⟨3,0,0,0,0,0,0,0,0,0,0⟩ && ((an == 0) && true))):=by
 unfold qC
 rw[show yI (zl 3::toQ 3:: [zg 3,(5,1,1125899906842624),(7,1,1125899906842624),(8,1,1125899906842624),(9,0,1125899906842624)]) #[.int .i8 3,.int .i64 a1,.int .i64 a2,.int .i64 a3,.int .i64 a4,.int .i64 a5,.int .i64 a6,.int .i64 a7,.int .i64 a8,.int .i64 a9,.int .i64 a10,.slice sa an ac,.int .i64 t.id,.int .i64 t.kind,.string t.text,.slice ar am ad]=(zA 0 0 a1 && (zA 1 8 a2 && (zA 1 1125899906842624 a4 && (zA 1 1125899906842624 a5 && (zA 1 1125899906842624 a7 && (zA 1 1125899906842624 a8 && (zA 0 1125899906842624 a9 && true))))))) from by kernel_rfl]
theorem zeY (a1 a2 a3 a4 a5 a6 a7 a8 a9 a10:Int)(sa ar:Option Addr)(an ac am ad:Nat)(vs:List SV)(t:Tr)(w:World)(h:zM w sa ar an am ad vs t):Calls Tryz.prog 31 #[.agg #[.int .i8 3,.int .i64 a1,.int .i64 a2,.int .i64 a3,.int .i64 a4,.int .i64 a5,.int .i64 a6,.int .i64 a7,.int .i64 a8,.int .i64 a9,.int .i64 a10,.slice sa an ac,.int .i64 t.id,.int .i64 t.kind,.string t.text,.slice ar am ad]] w (kZ (if qC a1 a2 a3 a4 a5 a6 a7 a8 a9 a10 sa ar an ac am ad vs t then some (vH a1 a2 a3 a4 a5 a6 a7 a8 a9 a10 sa ar an ac am ad vs t) else none) w):=by
 cases hv:qC a1 a2 a3 a4 a5 a6 a7 a8 a9 a10 sa ar an ac am ad vs t
 · exact vg w 3 a1 a2 a3 a4 a5 a6 a7 a8 a9 a10 t.id t.kind sa ar an ac am ad t.text fun Y hY=>by
    have h1:=QE Y a1 a2 a3 a4 a5 a6 a7 a8 a9 a10 sa ar an ac am ad vs t (h.on hY)
    rw[hv] at h1;exact h1
 · have hq:yj t=true:=by
    have h1:=hv
    rw[Qb] at h1
    simp only[Bool.and_eq_true] at h1
    exact h1.1.2
   exact ziT w a1 a2 a3 a4 a5 a6 a7 a8 a9 a10 sa ar an ac am ad vs t h hq fun Y hY=>by
    have h1:=QE Y a1 a2 a3 a4 a5 a6 a7 a8 a9 a10 sa ar an ac am ad vs t (h.on hY)
    rw[hv] at h1;exact h1
theorem zjQ (a1 a2 a3 a4 a5 a6 a7 a8 a9 a10:Int)(sa ar:Option Addr)(an ac am ad:Nat)(vs:List SV)(t:Tr)(han:an=vs.length)(hv:qC a1 a2 a3 a4 a5 a6 a7 a8 a9 a10 sa ar an ac am ad vs t=true)(w:World)(e:Ending)(Z:World)(h:kY (zy (vH a1 a2 a3 a4 a5 a6 a7 a8 a9 a10 sa ar an ac am ad vs t)) w e Z):kI 3 ⟨3,a1,a2,a3,a4,a5,a6,a7,a8,a9,a10⟩ vs t w e Z:=by
 have hr2:=hv
 rw[Qb] at hr2
 simp only[Bool.and_eq_true,Bool.true_eq,and_true,true_and] at hr2
 obtain⟨⟨⟨j1,j2,j4,j5,j7,j8,j9⟩,hq⟩,hz,hsn⟩:=hr2
 obtain⟨_,_,z3,_,_,z6,_,_,_,z10⟩:=jc hz
 obtain⟨⟨p1,p2,p3,p4,p5,p6,p7,p8,p9,p10⟩,hpl,hpt,hpe⟩:=zlA a1 a2 a3 a4 a5 a6 a7 a8 a9 a10 sa ar an ac am ad vs t (zF j1 ue0 ue0) (zF j2 ue0 ue0) (zF j4 ue0 ue0) (zF j5 ue0 ue0) (zF j7 ue0 ue0) (zF j8 ue0 ue0) (zF j9 ue0 ue0) hq
 obtain⟨hok,hop⟩:=qh (vH a1 a2 a3 a4 a5 a6 a7 a8 a9 a10 sa ar an ac am ad vs t)
 have hsz:=Jd hq
 have hsz2:=(ZP hq).2.2
 have hln:(zy (vH a1 a2 a3 a4 a5 a6 a7 a8 a9 a10 sa ar an ac am ad vs t)).length≤65536:=by
  rw[zS]
  unfold vH
  exact sc1
 have h0:(vH a1 a2 a3 a4 a5 a6 a7 a8 a9 a10 sa ar an ac am ad vs t)[0]? =some (zH 3):=by unfold vH;simp
 have hrd:rd0 (zy (vH a1 a2 a3 a4 a5 a6 a7 a8 a9 a10 sa ar an ac am ad vs t))=⟨vH a1 a2 a3 a4 a5 a6 a7 a8 a9 a10 sa ar an ac am ad vs t,1,false⟩:=by unfold rd0;rw[hop]
 have hkk:∀k',yB (zy (vH a1 a2 a3 a4 a5 a6 a7 a8 a9 a10 sa ar an ac am ad vs t)) k'→k'=3:=fun k' hk'=>by
  exact sb8
 have hright:∀(m:RM) (V:World),zZ (zb 3 (rd0 (zy (vH a1 a2 a3 a4 a5 a6 a7 a8 a9 a10 sa ar an ac am ad vs t)))) m V→yG 3 (zb 3 (rd0 (zy (vH a1 a2 a3 a4 a5 a6 a7 a8 a9 a10 sa ar an ac am ad vs t)))) m=true:=fun m V hp=>by
  rw[hrd] at hp ⊢
  obtain⟨⟨m1,m2,m3,m4,m5,m6,m7,m8,m9,m10⟩,_,us,hm,hu⟩:=hp
  show qC m.n1 m.n2 m.n3 m.n4 m.n5 m.n6 m.n7 m.n8 m.n9 m.n10 m.sa m.ar m.sn m.sc m.am m.ad (qb (zb 3 (⟨vH a1 a2 a3 a4 a5 a6 a7 a8 a9 a10 sa ar an ac am ad vs t,1,false⟩:Rd))) (zb 3 (⟨vH a1 a2 a3 a4 a5 a6 a7 a8 a9 a10 sa ar an ac am ad vs t,1,false⟩:Rd)).t=true
  rw[Qb,m1,m2,m3,m4,m5,m6,m7,m8,m9,m10,p1,p2,p3,p4,p5,p6,p7,p8,p9,p10]
  have hsn0:m.sn=0:=by
   exact sc7
  rw[hpt,zct,hq,hsn0]
  simp only[Bool.and_eq_true,j1,j2,j4,j5,j7,j8,j9]
  exact⟨by simp,by simp[yz],by simp,trivial⟩
 rcases h with ⟨at_,er,hw,_⟩ | ⟨k',m,hk',he,hb,hp,hret,hrt⟩
 · exfalso
   rcases hw with ⟨h1,_⟩ | ⟨_,h1,_⟩ | ⟨_,_,h1,_⟩ | ⟨k',hk',h1,h2,_⟩ | ⟨k',hk',h1,_,_,m,V,h2,h3⟩
   · omega
   · rw[hok] at h1;cases h1
   · rw [hop] at h1
     rcases h1 with h1 | ⟨u,h1,h2⟩
     · rw[h1] at h0;simp at h0
     · rw[h0] at h1
       cases h1
       have:=qw 3 ue0
       rw[this] at h2
       omega
   · have:=hkk k' hk'
     exact sc3
   · have:=hkk k' hk'
     subst this
     rw[hright m V h2] at h3
     cases h3
 · have:=hkk k' hk'
   subst this
   rw[hrd] at hp
   obtain⟨⟨m1,m2,m3,m4,m5,m6,m7,m8,m9,m10⟩,⟨i1,i2,i3⟩,us,hm,hu⟩:=hp
   refine⟨hb,m,us,(zb 3 (⟨vH a1 a2 a3 a4 a5 a6 a7 a8 a9 a10 sa ar an ac am ad vs t,1,false⟩:Rd)).t,?_,hm,?_,?_,?_⟩
   · rw[hret,←i1,←i2,←i3];rfl
   · rw[m1,m2,m3,m4,m5,m6,m7,m8,m9,m10,p1,p2,p3,p4,p5,p6,p7,p8,p9,p10,z3,z6,z10]
   · have h1:an=0:=by simpa using hsn
     exact sc6
   · rw[hpt];exact zck t
theorem zaA (a1 a2 a3 a4 a5 a6 a7 a8 a9 a10:Int)(sa ar:Option Addr)(an ac am ad:Nat)(vs:List SV)(t:Tr):qD a1 a2 a3 a4 a5 a6 a7 a8 a9 a10 sa ar an ac am ad vs t=(((zA 0 0 a1 && (zA 1 8 a2 && (zA 1 1125899906842624 a4 && (zA 1 1125899906842624 a5 && (zA 1 999 a10 && true)))))) && (yz ⟨4,0,0,a3,0,0,a6,a7,a8,a9,0⟩ ⟨4,0,0,0,0,0,0,0,0,0,0⟩ && ((an == 0) && yh t ⟨0,0,⟨#[]⟩,.nil⟩))):=by
 unfold qD
 rw[show yI (zl 4::toQ 4:: [zg 4,(5,1,1125899906842624),(10,1,999)]) #[.int .i8 4,.int .i64 a1,.int .i64 a2,.int .i64 a3,.int .i64 a4,.int .i64 a5,.int .i64 a6,.int .i64 a7,.int .i64 a8,.int .i64 a9,.int .i64 a10,.slice sa an ac,.int .i64 t.id,.int .i64 t.kind,.string t.text,.slice ar am ad]=(zA 0 0 a1 && (zA 1 8 a2 && (zA 1 1125899906842624 a4 && (zA 1 1125899906842624 a5 && (zA 1 999 a10 && true))))) from by kernel_rfl]
theorem zeZ (a1 a2 a3 a4 a5 a6 a7 a8 a9 a10:Int)(sa ar:Option Addr)(an ac am ad:Nat)(vs:List SV)(t:Tr)(w:World)(h:zM w sa ar an am ad vs t):Calls Tryz.prog 31 #[.agg #[.int .i8 4,.int .i64 a1,.int .i64 a2,.int .i64 a3,.int .i64 a4,.int .i64 a5,.int .i64 a6,.int .i64 a7,.int .i64 a8,.int .i64 a9,.int .i64 a10,.slice sa an ac,.int .i64 t.id,.int .i64 t.kind,.string t.text,.slice ar am ad]] w (kZ (if qD a1 a2 a3 a4 a5 a6 a7 a8 a9 a10 sa ar an ac am ad vs t then some (vI a1 a2 a3 a4 a5 a6 a7 a8 a9 a10 sa ar an ac am ad vs t) else none) w):=by
 cases hv:qD a1 a2 a3 a4 a5 a6 a7 a8 a9 a10 sa ar an ac am ad vs t
 · exact vg w 4 a1 a2 a3 a4 a5 a6 a7 a8 a9 a10 t.id t.kind sa ar an ac am ad t.text fun Y hY=>by
    have h1:=QF Y a1 a2 a3 a4 a5 a6 a7 a8 a9 a10 sa ar an ac am ad vs t (h.on hY)
    rw[hv] at h1;exact h1
 · exact ziU w a1 a2 a3 a4 a5 a6 a7 a8 a9 a10 sa ar an ac am ad vs t h fun Y hY=>by
    have h1:=QF Y a1 a2 a3 a4 a5 a6 a7 a8 a9 a10 sa ar an ac am ad vs t (h.on hY)
    rw[hv] at h1;exact h1
theorem zjR (a1 a2 a3 a4 a5 a6 a7 a8 a9 a10:Int)(sa ar:Option Addr)(an ac am ad:Nat)(vs:List SV)(t:Tr)(han:an=vs.length)(hv:qD a1 a2 a3 a4 a5 a6 a7 a8 a9 a10 sa ar an ac am ad vs t=true)(w:World)(e:Ending)(Z:World)(h:kY (zy (vI a1 a2 a3 a4 a5 a6 a7 a8 a9 a10 sa ar an ac am ad vs t)) w e Z):kI 4 ⟨4,a1,a2,a3,a4,a5,a6,a7,a8,a9,a10⟩ vs t w e Z:=by
 have hr2:=hv
 rw[zaA] at hr2
 simp only[Bool.and_eq_true,Bool.true_eq,and_true,true_and] at hr2
 obtain⟨⟨j1,j2,j4,j5,j10⟩,hz,hsn,htz⟩:=hr2
 obtain⟨_,_,z3,_,_,z6,z7,z8,z9,_⟩:=jc hz
 obtain⟨⟨p1,p2,p3,p4,p5,p6,p7,p8,p9,p10⟩,hpl,hpt,hpe⟩:=zlB a1 a2 a3 a4 a5 a6 a7 a8 a9 a10 sa ar an ac am ad vs t (zF j1 ue0 ue0) (zF j2 ue0 ue0) (zF j4 ue0 ue0) (zF j5 ue0 ue0) (zF j10 ue0 ue0)
 obtain⟨hok,hop⟩:=qh (vI a1 a2 a3 a4 a5 a6 a7 a8 a9 a10 sa ar an ac am ad vs t)
 have hln:(zy (vI a1 a2 a3 a4 a5 a6 a7 a8 a9 a10 sa ar an ac am ad vs t)).length≤65536:=by
  rw[zS]
  unfold vI
  exact sc1
 have h0:(vI a1 a2 a3 a4 a5 a6 a7 a8 a9 a10 sa ar an ac am ad vs t)[0]? =some (zH 4):=by unfold vI;simp
 have hrd:rd0 (zy (vI a1 a2 a3 a4 a5 a6 a7 a8 a9 a10 sa ar an ac am ad vs t))=⟨vI a1 a2 a3 a4 a5 a6 a7 a8 a9 a10 sa ar an ac am ad vs t,1,false⟩:=by unfold rd0;rw[hop]
 have hkk:∀k',yB (zy (vI a1 a2 a3 a4 a5 a6 a7 a8 a9 a10 sa ar an ac am ad vs t)) k'→k'=4:=fun k' hk'=>by
  exact sb8
 have hright:∀(m:RM) (V:World),zZ (zb 4 (rd0 (zy (vI a1 a2 a3 a4 a5 a6 a7 a8 a9 a10 sa ar an ac am ad vs t)))) m V→yG 4 (zb 4 (rd0 (zy (vI a1 a2 a3 a4 a5 a6 a7 a8 a9 a10 sa ar an ac am ad vs t)))) m=true:=fun m V hp=>by
  rw[hrd] at hp ⊢
  obtain⟨⟨m1,m2,m3,m4,m5,m6,m7,m8,m9,m10⟩,_,us,hm,hu⟩:=hp
  show qD m.n1 m.n2 m.n3 m.n4 m.n5 m.n6 m.n7 m.n8 m.n9 m.n10 m.sa m.ar m.sn m.sc m.am m.ad (qb (zb 4 (⟨vI a1 a2 a3 a4 a5 a6 a7 a8 a9 a10 sa ar an ac am ad vs t,1,false⟩:Rd))) (zb 4 (⟨vI a1 a2 a3 a4 a5 a6 a7 a8 a9 a10 sa ar an ac am ad vs t,1,false⟩:Rd)).t=true
  rw[zaA,m1,m2,m3,m4,m5,m6,m7,m8,m9,m10,p1,p2,p3,p4,p5,p6,p7,p8,p9,p10]
  have hsn0:m.sn=0:=by
   exact sc7
  rw[hpt,hsn0]
  simp only[Bool.and_eq_true,j1,j2,j4,j5,j10]
  exact⟨by simp,by simp[yz],by simp,qj yM⟩
 rcases h with ⟨at_,er,hw,_⟩ | ⟨k',m,hk',he,hb,hp,hret,hrt⟩
 · exfalso
   rcases hw with ⟨h1,_⟩ | ⟨_,h1,_⟩ | ⟨_,_,h1,_⟩ | ⟨k',hk',h1,h2,_⟩ | ⟨k',hk',h1,_,_,m,V,h2,h3⟩
   · omega
   · rw[hok] at h1;cases h1
   · rw [hop] at h1
     rcases h1 with h1 | ⟨u,h1,h2⟩
     · rw[h1] at h0;simp at h0
     · rw[h0] at h1
       cases h1
       have:=qw 4 ue0
       rw[this] at h2
       omega
   · have:=hkk k' hk'
     exact sc3
   · have:=hkk k' hk'
     subst this
     rw[hright m V h2] at h3
     cases h3
 · have:=hkk k' hk'
   subst this
   rw[hrd] at hp
   obtain⟨⟨m1,m2,m3,m4,m5,m6,m7,m8,m9,m10⟩,⟨i1,i2,i3⟩,us,hm,hu⟩:=hp
   refine⟨hb,m,us,(zb 4 (⟨vI a1 a2 a3 a4 a5 a6 a7 a8 a9 a10 sa ar an ac am ad vs t,1,false⟩:Rd)).t,?_,hm,?_,?_,?_⟩
   · rw[hret,←i1,←i2,←i3];rfl
   · rw[m1,m2,m3,m4,m5,m6,m7,m8,m9,m10,p1,p2,p3,p4,p5,p6,p7,p8,p9,p10,z3,z6,z7,z8,z9]
   · have h1:an=0:=by simpa using hsn
     exact sc6
   · rw[hpt];exact htz
theorem Qc (a1 a2 a3 a4 a5 a6 a7 a8 a9 a10:Int)(sa ar:Option Addr)(an ac am ad:Nat)(vs:List SV)(t:Tr):qE a1 a2 a3 a4 a5 a6 a7 a8 a9 a10 sa ar an ac am ad vs t=(((zA 1 8 a1 && (zA 0 0 a2 && (zA 1 1125899906842624 a3 && (zA 0 1125899906842624 a4 && (zA 1 1125899906842624 a5 && (zA 1 1125899906842624 a7 && (zA 1 1125899906842624 a8 && true))))))) && zO (steps vs)) && (yz ⟨5,0,0,0,0,0,a6,0,0,a9,a10⟩ ⟨5,0,0,0,0,0,0,0,0,0,0⟩ && (true && yh t ⟨0,0,⟨#[]⟩,.nil⟩))):=by
 unfold qE
 rw[show yI (zl 5::toQ 5:: [(3,1,1125899906842624),zg 5,(5,1,1125899906842624),(7,1,1125899906842624),(8,1,1125899906842624)]) #[.int .i8 5,.int .i64 a1,.int .i64 a2,.int .i64 a3,.int .i64 a4,.int .i64 a5,.int .i64 a6,.int .i64 a7,.int .i64 a8,.int .i64 a9,.int .i64 a10,.slice sa an ac,.int .i64 t.id,.int .i64 t.kind,.string t.text,.slice ar am ad]=(zA 1 8 a1 && (zA 0 0 a2 && (zA 1 1125899906842624 a3 && (zA 0 1125899906842624 a4 && (zA 1 1125899906842624 a5 && (zA 1 1125899906842624 a7 && (zA 1 1125899906842624 a8 && true))))))) from by kernel_rfl]
theorem ze0 (a1 a2 a3 a4 a5 a6 a7 a8 a9 a10:Int)(sa ar:Option Addr)(an ac am ad:Nat)(vs:List SV)(t:Tr)(w:World)(h:zM w sa ar an am ad vs t):Calls Tryz.prog 31 #[.agg #[.int .i8 5,.int .i64 a1,.int .i64 a2,.int .i64 a3,.int .i64 a4,.int .i64 a5,.int .i64 a6,.int .i64 a7,.int .i64 a8,.int .i64 a9,.int .i64 a10,.slice sa an ac,.int .i64 t.id,.int .i64 t.kind,.string t.text,.slice ar am ad]] w (kZ (if qE a1 a2 a3 a4 a5 a6 a7 a8 a9 a10 sa ar an ac am ad vs t then some (vk a1 a2 a3 a4 a5 a6 a7 a8 a9 a10 sa ar an ac am ad vs t) else none) w):=by
 cases hv:qE a1 a2 a3 a4 a5 a6 a7 a8 a9 a10 sa ar an ac am ad vs t
 · exact vg w 5 a1 a2 a3 a4 a5 a6 a7 a8 a9 a10 t.id t.kind sa ar an ac am ad t.text fun Y hY=>by
    have h1:=QG Y a1 a2 a3 a4 a5 a6 a7 a8 a9 a10 sa ar an ac am ad vs t (h.on hY)
    rw[hv] at h1;exact h1
 · have hq:zO (steps vs)=true:=by
    have h1:=hv
    rw[Qc] at h1
    simp only[Bool.and_eq_true] at h1
    exact h1.1.2
   exact ziV w a1 a2 a3 a4 a5 a6 a7 a8 a9 a10 sa ar an ac am ad vs t h hq fun Y hY=>by
    have h1:=QG Y a1 a2 a3 a4 a5 a6 a7 a8 a9 a10 sa ar an ac am ad vs t (h.on hY)
    rw[hv] at h1;exact h1
theorem zjS (a1 a2 a3 a4 a5 a6 a7 a8 a9 a10:Int)(sa ar:Option Addr)(an ac am ad:Nat)(vs:List SV)(t:Tr)(han:an=vs.length)(hv:qE a1 a2 a3 a4 a5 a6 a7 a8 a9 a10 sa ar an ac am ad vs t=true)(w:World)(e:Ending)(Z:World)(h:kY (zy (vk a1 a2 a3 a4 a5 a6 a7 a8 a9 a10 sa ar an ac am ad vs t)) w e Z):kI 5 ⟨5,a1,a2,a3,a4,a5,a6,a7,a8,a9,a10⟩ vs t w e Z:=by
 have hr2:=hv
 rw[Qc] at hr2
 simp only[Bool.and_eq_true,Bool.true_eq,and_true,true_and] at hr2
 obtain⟨⟨⟨j1,j2,j3,j4,j5,j7,j8⟩,hq⟩,hz,htz⟩:=hr2
 obtain⟨_,_,_,_,_,z6,_,_,z9,z10⟩:=jc hz
 obtain⟨⟨p1,p2,p3,p4,p5,p6,p7,p8,p9,p10⟩,hpl,hpt,hpe⟩:=zlC a1 a2 a3 a4 a5 a6 a7 a8 a9 a10 sa ar an ac am ad vs t (zF j1 ue0 ue0) (zF j2 ue0 ue0) (zF j3 ue0 ue0) (zF j4 ue0 ue0) (zF j5 ue0 ue0) (zF j7 ue0 ue0) (zF j8 ue0 ue0) hq han
 obtain⟨hok,hop⟩:=qh (vk a1 a2 a3 a4 a5 a6 a7 a8 a9 a10 sa ar an ac am ad vs t)
 have hsz:=(Z5 hq).2.2.2
 have hln:(zy (vk a1 a2 a3 a4 a5 a6 a7 a8 a9 a10 sa ar an ac am ad vs t)).length≤65536:=by
  rw[zS]
  unfold vk
  exact sc1
 have h0:(vk a1 a2 a3 a4 a5 a6 a7 a8 a9 a10 sa ar an ac am ad vs t)[0]? =some (zH 5):=by unfold vk;simp
 have hrd:rd0 (zy (vk a1 a2 a3 a4 a5 a6 a7 a8 a9 a10 sa ar an ac am ad vs t))=⟨vk a1 a2 a3 a4 a5 a6 a7 a8 a9 a10 sa ar an ac am ad vs t,1,false⟩:=by unfold rd0;rw[hop]
 have hkk:∀k',yB (zy (vk a1 a2 a3 a4 a5 a6 a7 a8 a9 a10 sa ar an ac am ad vs t)) k'→k'=5:=fun k' hk'=>by
  exact sb8
 have hright:∀(m:RM) (V:World),zZ (zb 5 (rd0 (zy (vk a1 a2 a3 a4 a5 a6 a7 a8 a9 a10 sa ar an ac am ad vs t)))) m V→yG 5 (zb 5 (rd0 (zy (vk a1 a2 a3 a4 a5 a6 a7 a8 a9 a10 sa ar an ac am ad vs t)))) m=true:=fun m V hp=>by
  rw[hrd] at hp ⊢
  obtain⟨⟨m1,m2,m3,m4,m5,m6,m7,m8,m9,m10⟩,_,us,hm,hu⟩:=hp
  show qE m.n1 m.n2 m.n3 m.n4 m.n5 m.n6 m.n7 m.n8 m.n9 m.n10 m.sa m.ar m.sn m.sc m.am m.ad (qb (zb 5 (⟨vk a1 a2 a3 a4 a5 a6 a7 a8 a9 a10 sa ar an ac am ad vs t,1,false⟩:Rd))) (zb 5 (⟨vk a1 a2 a3 a4 a5 a6 a7 a8 a9 a10 sa ar an ac am ad vs t,1,false⟩:Rd)).t=true
  rw[Qc,m1,m2,m3,m4,m5,m6,m7,m8,m9,m10,p1,p2,p3,p4,p5,p6,p7,p8,p9,p10]
  have hst:zO (steps (qb (zb 5 (⟨vk a1 a2 a3 a4 a5 a6 a7 a8 a9 a10 sa ar an ac am ad vs t,1,false⟩:Rd))))=true:=by
   rw[ZO,hpl,List.map_map,List.map_map]
   exact (zdK (steps vs)).trans hq
  rw[hst,hpt]
  simp only[Bool.and_eq_true,j1,j2,j3,j4,j5,j7,j8]
  exact⟨by simp,by simp[yz],by simp,qj yM⟩
 rcases h with ⟨at_,er,hw,_⟩ | ⟨k',m,hk',he,hb,hp,hret,hrt⟩
 · exfalso
   rcases hw with ⟨h1,_⟩ | ⟨_,h1,_⟩ | ⟨_,_,h1,_⟩ | ⟨k',hk',h1,h2,_⟩ | ⟨k',hk',h1,_,_,m,V,h2,h3⟩
   · omega
   · rw[hok] at h1;cases h1
   · rw [hop] at h1
     rcases h1 with h1 | ⟨u,h1,h2⟩
     · rw[h1] at h0;simp at h0
     · rw[h0] at h1
       cases h1
       have:=qw 5 ue0
       rw[this] at h2
       omega
   · have:=hkk k' hk'
     exact sc3
   · have:=hkk k' hk'
     subst this
     rw[hright m V h2] at h3
     cases h3
 · have:=hkk k' hk'
   subst this
   rw[hrd] at hp
   obtain⟨⟨m1,m2,m3,m4,m5,m6,m7,m8,m9,m10⟩,⟨i1,i2,i3⟩,us,hm,hu⟩:=hp
   refine⟨hb,m,us,(zb 5 (⟨vk a1 a2 a3 a4 a5 a6 a7 a8 a9 a10 sa ar an ac am ad vs t,1,false⟩:Rd)).t,?_,hm,?_,?_,?_⟩
   · rw[hret,←i1,←i2,←i3];rfl
   · rw[m1,m2,m3,m4,m5,m6,m7,m8,m9,m10,p1,p2,p3,p4,p5,p6,p7,p8,p9,p10,z6,z9,z10]
   · rw[hu,hpl,List.map_map,List.map_map]
     exact zg6 (steps vs)
   · rw[hpt];exact htz
theorem zaB (a1 a2 a3 a4 a5 a6 a7 a8 a9 a10:Int)(sa ar:Option Addr)(an ac am ad:Nat)(vs:List SV)(t:Tr):qF a1 a2 a3 a4 a5 a6 a7 a8 a9 a10 sa ar an ac am ad vs t=(((zA 0 0 a1 && (zA 1 8 a2 && (zA 1 1125899906842624 a4 && (zA 1 1125899906842624 a5 && (zA 0 1125899906842624 a9 && true)))))) && (yz ⟨6,0,0,a3,0,0,a6,a7,a8,0,a10⟩ ⟨6,0,0,0,0,0,0,0,0,0,0⟩ && ((an == 0) && yh t ⟨0,0,⟨#[]⟩,.nil⟩))):=by
 unfold qF
 rw[show yI (zl 6::toQ 6:: [zg 6,(5,1,1125899906842624),(9,0,1125899906842624)]) #[.int .i8 6,.int .i64 a1,.int .i64 a2,.int .i64 a3,.int .i64 a4,.int .i64 a5,.int .i64 a6,.int .i64 a7,.int .i64 a8,.int .i64 a9,.int .i64 a10,.slice sa an ac,.int .i64 t.id,.int .i64 t.kind,.string t.text,.slice ar am ad]=(zA 0 0 a1 && (zA 1 8 a2 && (zA 1 1125899906842624 a4 && (zA 1 1125899906842624 a5 && (zA 0 1125899906842624 a9 && true))))) from by kernel_rfl]
theorem ze1 (a1 a2 a3 a4 a5 a6 a7 a8 a9 a10:Int)(sa ar:Option Addr)(an ac am ad:Nat)(vs:List SV)(t:Tr)(w:World)(h:zM w sa ar an am ad vs t):Calls Tryz.prog 31 #[.agg #[.int .i8 6,.int .i64 a1,.int .i64 a2,.int .i64 a3,.int .i64 a4,.int .i64 a5,.int .i64 a6,.int .i64 a7,.int .i64 a8,.int .i64 a9,.int .i64 a10,.slice sa an ac,.int .i64 t.id,.int .i64 t.kind,.string t.text,.slice ar am ad]] w (kZ (if qF a1 a2 a3 a4 a5 a6 a7 a8 a9 a10 sa ar an ac am ad vs t then some (qR a1 a2 a3 a4 a5 a6 a7 a8 a9 a10 sa ar an ac am ad vs t) else none) w):=by
 cases hv:qF a1 a2 a3 a4 a5 a6 a7 a8 a9 a10 sa ar an ac am ad vs t
 · exact vg w 6 a1 a2 a3 a4 a5 a6 a7 a8 a9 a10 t.id t.kind sa ar an ac am ad t.text fun Y hY=>by
    have h1:=QH Y a1 a2 a3 a4 a5 a6 a7 a8 a9 a10 sa ar an ac am ad vs t (h.on hY)
    rw[hv] at h1;exact h1
 · exact ziW w a1 a2 a3 a4 a5 a6 a7 a8 a9 a10 sa ar an ac am ad vs t h fun Y hY=>by
    have h1:=QH Y a1 a2 a3 a4 a5 a6 a7 a8 a9 a10 sa ar an ac am ad vs t (h.on hY)
    rw[hv] at h1;exact h1
theorem zjT (a1 a2 a3 a4 a5 a6 a7 a8 a9 a10:Int)(sa ar:Option Addr)(an ac am ad:Nat)(vs:List SV)(t:Tr)(han:an=vs.length)(hv:qF a1 a2 a3 a4 a5 a6 a7 a8 a9 a10 sa ar an ac am ad vs t=true)(w:World)(e:Ending)(Z:World)(h:kY (zy (qR a1 a2 a3 a4 a5 a6 a7 a8 a9 a10 sa ar an ac am ad vs t)) w e Z):kI 6 ⟨6,a1,a2,a3,a4,a5,a6,a7,a8,a9,a10⟩ vs t w e Z:=by
 have hr2:=hv
 rw[zaB] at hr2
 simp only[Bool.and_eq_true,Bool.true_eq,and_true,true_and] at hr2
 obtain⟨⟨j1,j2,j4,j5,j9⟩,hz,hsn,htz⟩:=hr2
 obtain⟨_,_,z3,_,_,z6,z7,z8,_,z10⟩:=jc hz
 obtain⟨⟨p1,p2,p3,p4,p5,p6,p7,p8,p9,p10⟩,hpl,hpt,hpe⟩:=zlD a1 a2 a3 a4 a5 a6 a7 a8 a9 a10 sa ar an ac am ad vs t (zF j1 ue0 ue0) (zF j2 ue0 ue0) (zF j4 ue0 ue0) (zF j5 ue0 ue0) (zF j9 ue0 ue0)
 obtain⟨hok,hop⟩:=qh (qR a1 a2 a3 a4 a5 a6 a7 a8 a9 a10 sa ar an ac am ad vs t)
 have hln:(zy (qR a1 a2 a3 a4 a5 a6 a7 a8 a9 a10 sa ar an ac am ad vs t)).length≤65536:=by
  rw[zS]
  unfold qR
  exact sc1
 have h0:(qR a1 a2 a3 a4 a5 a6 a7 a8 a9 a10 sa ar an ac am ad vs t)[0]? =some (zH 6):=by unfold qR;simp
 have hrd:rd0 (zy (qR a1 a2 a3 a4 a5 a6 a7 a8 a9 a10 sa ar an ac am ad vs t))=⟨qR a1 a2 a3 a4 a5 a6 a7 a8 a9 a10 sa ar an ac am ad vs t,1,false⟩:=by unfold rd0;rw[hop]
 have hkk:∀k',yB (zy (qR a1 a2 a3 a4 a5 a6 a7 a8 a9 a10 sa ar an ac am ad vs t)) k'→k'=6:=fun k' hk'=>by
  exact sb8
 have hright:∀(m:RM) (V:World),zZ (zb 6 (rd0 (zy (qR a1 a2 a3 a4 a5 a6 a7 a8 a9 a10 sa ar an ac am ad vs t)))) m V→yG 6 (zb 6 (rd0 (zy (qR a1 a2 a3 a4 a5 a6 a7 a8 a9 a10 sa ar an ac am ad vs t)))) m=true:=fun m V hp=>by
  rw[hrd] at hp ⊢
  obtain⟨⟨m1,m2,m3,m4,m5,m6,m7,m8,m9,m10⟩,_,us,hm,hu⟩:=hp
  show qF m.n1 m.n2 m.n3 m.n4 m.n5 m.n6 m.n7 m.n8 m.n9 m.n10 m.sa m.ar m.sn m.sc m.am m.ad (qb (zb 6 (⟨qR a1 a2 a3 a4 a5 a6 a7 a8 a9 a10 sa ar an ac am ad vs t,1,false⟩:Rd))) (zb 6 (⟨qR a1 a2 a3 a4 a5 a6 a7 a8 a9 a10 sa ar an ac am ad vs t,1,false⟩:Rd)).t=true
  rw[zaB,m1,m2,m3,m4,m5,m6,m7,m8,m9,m10,p1,p2,p3,p4,p5,p6,p7,p8,p9,p10]
  have hsn0:m.sn=0:=by
   exact sc7
  rw[hpt,hsn0]
  simp only[Bool.and_eq_true,j1,j2,j4,j5,j9]
  exact⟨by simp,by simp[yz],by simp,qj yM⟩
 rcases h with ⟨at_,er,hw,_⟩ | ⟨k',m,hk',he,hb,hp,hret,hrt⟩
 · exfalso
   rcases hw with ⟨h1,_⟩ | ⟨_,h1,_⟩ | ⟨_,_,h1,_⟩ | ⟨k',hk',h1,h2,_⟩ | ⟨k',hk',h1,_,_,m,V,h2,h3⟩
   · omega
   · rw[hok] at h1;cases h1
   · rw [hop] at h1
     rcases h1 with h1 | ⟨u,h1,h2⟩
     · rw[h1] at h0;simp at h0
     · rw[h0] at h1
       cases h1
       have:=qw 6 ue0
       rw[this] at h2
       omega
   · have:=hkk k' hk'
     exact sc3
   · have:=hkk k' hk'
     subst this
     rw[hright m V h2] at h3
     cases h3
 · have:=hkk k' hk'
   subst this
   rw[hrd] at hp
   obtain⟨⟨m1,m2,m3,m4,m5,m6,m7,m8,m9,m10⟩,⟨i1,i2,i3⟩,us,hm,hu⟩:=hp
   refine⟨hb,m,us,(zb 6 (⟨qR a1 a2 a3 a4 a5 a6 a7 a8 a9 a10 sa ar an ac am ad vs t,1,false⟩:Rd)).t,?_,hm,?_,?_,?_⟩
   · rw[hret,←i1,←i2,←i3];rfl
   · rw[m1,m2,m3,m4,m5,m6,m7,m8,m9,m10,p1,p2,p3,p4,p5,p6,p7,p8,p9,p10,z3,z6,z7,z8,z10]
   · have h1:an=0:=by simpa using hsn
     exact sc6
   · rw[hpt];exact htz
theorem zaC (a1 a2 a3 a4 a5 a6 a7 a8 a9 a10:Int)(sa ar:Option Addr)(an ac am ad:Nat)(vs:List SV)(t:Tr):qG a1 a2 a3 a4 a5 a6 a7 a8 a9 a10 sa ar an ac am ad vs t=(((zA 0 0 a1 && (zA 1 8 a2 && (zA 1 1125899906842624 a4 && (zA 1 1125899906842624 a5 && (zA 1 999 a10 && true)))))) && (yz ⟨7,0,0,a3,0,0,a6,a7,a8,a9,0⟩ ⟨7,0,0,0,0,0,0,0,0,0,0⟩ && ((an == 0) && yh t ⟨0,0,⟨#[]⟩,.nil⟩))):=by
 unfold qG
 rw[show yI (zl 7::toQ 7:: [zg 7,(5,1,1125899906842624),(10,1,999)]) #[.int .i8 7,.int .i64 a1,.int .i64 a2,.int .i64 a3,.int .i64 a4,.int .i64 a5,.int .i64 a6,.int .i64 a7,.int .i64 a8,.int .i64 a9,.int .i64 a10,.slice sa an ac,.int .i64 t.id,.int .i64 t.kind,.string t.text,.slice ar am ad]=(zA 0 0 a1 && (zA 1 8 a2 && (zA 1 1125899906842624 a4 && (zA 1 1125899906842624 a5 && (zA 1 999 a10 && true))))) from by kernel_rfl]
theorem ze2 (a1 a2 a3 a4 a5 a6 a7 a8 a9 a10:Int)(sa ar:Option Addr)(an ac am ad:Nat)(vs:List SV)(t:Tr)(w:World)(h:zM w sa ar an am ad vs t):Calls Tryz.prog 31 #[.agg #[.int .i8 7,.int .i64 a1,.int .i64 a2,.int .i64 a3,.int .i64 a4,.int .i64 a5,.int .i64 a6,.int .i64 a7,.int .i64 a8,.int .i64 a9,.int .i64 a10,.slice sa an ac,.int .i64 t.id,.int .i64 t.kind,.string t.text,.slice ar am ad]] w (kZ (if qG a1 a2 a3 a4 a5 a6 a7 a8 a9 a10 sa ar an ac am ad vs t then some (vJ a1 a2 a3 a4 a5 a6 a7 a8 a9 a10 sa ar an ac am ad vs t) else none) w):=by
 cases hv:qG a1 a2 a3 a4 a5 a6 a7 a8 a9 a10 sa ar an ac am ad vs t
 · exact vg w 7 a1 a2 a3 a4 a5 a6 a7 a8 a9 a10 t.id t.kind sa ar an ac am ad t.text fun Y hY=>by
    have h1:=QI Y a1 a2 a3 a4 a5 a6 a7 a8 a9 a10 sa ar an ac am ad vs t (h.on hY)
    rw[hv] at h1;exact h1
 · exact ziX w a1 a2 a3 a4 a5 a6 a7 a8 a9 a10 sa ar an ac am ad vs t h fun Y hY=>by
    have h1:=QI Y a1 a2 a3 a4 a5 a6 a7 a8 a9 a10 sa ar an ac am ad vs t (h.on hY)
    rw[hv] at h1;exact h1
theorem zjU (a1 a2 a3 a4 a5 a6 a7 a8 a9 a10:Int)(sa ar:Option Addr)(an ac am ad:Nat)(vs:List SV)(t:Tr)(han:an=vs.length)(hv:qG a1 a2 a3 a4 a5 a6 a7 a8 a9 a10 sa ar an ac am ad vs t=true)(w:World)(e:Ending)(Z:World)(h:kY (zy (vJ a1 a2 a3 a4 a5 a6 a7 a8 a9 a10 sa ar an ac am ad vs t)) w e Z):kI 7 ⟨7,a1,a2,a3,a4,a5,a6,a7,a8,a9,a10⟩ vs t w e Z:=by
 have hr2:=hv
 rw[zaC] at hr2
 simp only[Bool.and_eq_true,Bool.true_eq,and_true,true_and] at hr2
 obtain⟨⟨j1,j2,j4,j5,j10⟩,hz,hsn,htz⟩:=hr2
 obtain⟨_,_,z3,_,_,z6,z7,z8,z9,_⟩:=jc hz
 obtain⟨⟨p1,p2,p3,p4,p5,p6,p7,p8,p9,p10⟩,hpl,hpt,hpe⟩:=zlE a1 a2 a3 a4 a5 a6 a7 a8 a9 a10 sa ar an ac am ad vs t (zF j1 ue0 ue0) (zF j2 ue0 ue0) (zF j4 ue0 ue0) (zF j5 ue0 ue0) (zF j10 ue0 ue0)
 obtain⟨hok,hop⟩:=qh (vJ a1 a2 a3 a4 a5 a6 a7 a8 a9 a10 sa ar an ac am ad vs t)
 have hln:(zy (vJ a1 a2 a3 a4 a5 a6 a7 a8 a9 a10 sa ar an ac am ad vs t)).length≤65536:=by
  rw[zS]
  unfold vJ
  exact sc1
 have h0:(vJ a1 a2 a3 a4 a5 a6 a7 a8 a9 a10 sa ar an ac am ad vs t)[0]? =some (zH 7):=by unfold vJ;simp
 have hrd:rd0 (zy (vJ a1 a2 a3 a4 a5 a6 a7 a8 a9 a10 sa ar an ac am ad vs t))=⟨vJ a1 a2 a3 a4 a5 a6 a7 a8 a9 a10 sa ar an ac am ad vs t,1,false⟩:=by unfold rd0;rw[hop]
 have hkk:∀k',yB (zy (vJ a1 a2 a3 a4 a5 a6 a7 a8 a9 a10 sa ar an ac am ad vs t)) k'→k'=7:=fun k' hk'=>by
  exact sb8
 have hright:∀(m:RM) (V:World),zZ (zb 7 (rd0 (zy (vJ a1 a2 a3 a4 a5 a6 a7 a8 a9 a10 sa ar an ac am ad vs t)))) m V→yG 7 (zb 7 (rd0 (zy (vJ a1 a2 a3 a4 a5 a6 a7 a8 a9 a10 sa ar an ac am ad vs t)))) m=true:=fun m V hp=>by
  rw[hrd] at hp ⊢
  obtain⟨⟨m1,m2,m3,m4,m5,m6,m7,m8,m9,m10⟩,_,us,hm,hu⟩:=hp
  show qG m.n1 m.n2 m.n3 m.n4 m.n5 m.n6 m.n7 m.n8 m.n9 m.n10 m.sa m.ar m.sn m.sc m.am m.ad (qb (zb 7 (⟨vJ a1 a2 a3 a4 a5 a6 a7 a8 a9 a10 sa ar an ac am ad vs t,1,false⟩:Rd))) (zb 7 (⟨vJ a1 a2 a3 a4 a5 a6 a7 a8 a9 a10 sa ar an ac am ad vs t,1,false⟩:Rd)).t=true
  rw[zaC,m1,m2,m3,m4,m5,m6,m7,m8,m9,m10,p1,p2,p3,p4,p5,p6,p7,p8,p9,p10]
  have hsn0:m.sn=0:=by
   exact sc7
  rw[hpt,hsn0]
  simp only[Bool.and_eq_true,j1,j2,j4,j5,j10]
  exact⟨by simp,by simp[yz],by simp,qj yM⟩
 rcases h with ⟨at_,er,hw,_⟩ | ⟨k',m,hk',he,hb,hp,hret,hrt⟩
 · exfalso
   rcases hw with ⟨h1,_⟩ | ⟨_,h1,_⟩ | ⟨_,_,h1,_⟩ | ⟨k',hk',h1,h2,_⟩ | ⟨k',hk',h1,_,_,m,V,h2,h3⟩
   · omega
   · rw[hok] at h1;cases h1
   · rw [hop] at h1
     rcases h1 with h1 | ⟨u,h1,h2⟩
     · rw[h1] at h0;simp at h0
     · rw[h0] at h1
       cases h1
       have:=qw 7 ue0
       rw[this] at h2
       omega
   · have:=hkk k' hk'
     exact sc3
   · have:=hkk k' hk'
     subst this
     rw[hright m V h2] at h3
     cases h3
 · have:=hkk k' hk'
   subst this
   rw[hrd] at hp
   obtain⟨⟨m1,m2,m3,m4,m5,m6,m7,m8,m9,m10⟩,⟨i1,i2,i3⟩,us,hm,hu⟩:=hp
   refine⟨hb,m,us,(zb 7 (⟨vJ a1 a2 a3 a4 a5 a6 a7 a8 a9 a10 sa ar an ac am ad vs t,1,false⟩:Rd)).t,?_,hm,?_,?_,?_⟩
   · rw[hret,←i1,←i2,←i3];rfl
   · rw[m1,m2,m3,m4,m5,m6,m7,m8,m9,m10,p1,p2,p3,p4,p5,p6,p7,p8,p9,p10,z3,z6,z7,z8,z9]
   · have h1:an=0:=by simpa using hsn
     exact sc6
   · rw[hpt];exact htz
theorem Qd (a1 a2 a3 a4 a5 a6 a7 a8 a9 a10:Int)(sa ar:Option Addr)(an ac am ad:Nat)(vs:List SV)(t:Tr):qH a1 a2 a3 a4 a5 a6 a7 a8 a9 a10 sa ar an ac am ad vs t=(((zA 0 0 a1 && (zA 1 8 a2 && (zA 1 1125899906842624 a4 && (zA 0 1125899906842624 a9 && true)))) && zO (steps vs)) && (yz ⟨8,0,0,a3,0,a5,a6,a7,a8,0,a10⟩ ⟨8,0,0,0,0,0,0,0,0,0,0⟩ && (true && yh t ⟨0,0,⟨#[]⟩,.nil⟩))):=by
 unfold qH
 rw[show yI (zl 8::toQ 8:: [zg 8,(9,0,1125899906842624)]) #[.int .i8 8,.int .i64 a1,.int .i64 a2,.int .i64 a3,.int .i64 a4,.int .i64 a5,.int .i64 a6,.int .i64 a7,.int .i64 a8,.int .i64 a9,.int .i64 a10,.slice sa an ac,.int .i64 t.id,.int .i64 t.kind,.string t.text,.slice ar am ad]=(zA 0 0 a1 && (zA 1 8 a2 && (zA 1 1125899906842624 a4 && (zA 0 1125899906842624 a9 && true)))) from by kernel_rfl]
theorem ze3 (a1 a2 a3 a4 a5 a6 a7 a8 a9 a10:Int)(sa ar:Option Addr)(an ac am ad:Nat)(vs:List SV)(t:Tr)(w:World)(h:zM w sa ar an am ad vs t):Calls Tryz.prog 31 #[.agg #[.int .i8 8,.int .i64 a1,.int .i64 a2,.int .i64 a3,.int .i64 a4,.int .i64 a5,.int .i64 a6,.int .i64 a7,.int .i64 a8,.int .i64 a9,.int .i64 a10,.slice sa an ac,.int .i64 t.id,.int .i64 t.kind,.string t.text,.slice ar am ad]] w (kZ (if qH a1 a2 a3 a4 a5 a6 a7 a8 a9 a10 sa ar an ac am ad vs t then some (vo a1 a2 a3 a4 a5 a6 a7 a8 a9 a10 sa ar an ac am ad vs t) else none) w):=by
 cases hv:qH a1 a2 a3 a4 a5 a6 a7 a8 a9 a10 sa ar an ac am ad vs t
 · exact vg w 8 a1 a2 a3 a4 a5 a6 a7 a8 a9 a10 t.id t.kind sa ar an ac am ad t.text fun Y hY=>by
    have h1:=QJ Y a1 a2 a3 a4 a5 a6 a7 a8 a9 a10 sa ar an ac am ad vs t (h.on hY)
    rw[hv] at h1;exact h1
 · have hq:zO (steps vs)=true:=by
    have h1:=hv
    rw[Qd] at h1
    simp only[Bool.and_eq_true] at h1
    exact h1.1.2
   exact ziY w a1 a2 a3 a4 a5 a6 a7 a8 a9 a10 sa ar an ac am ad vs t h hq fun Y hY=>by
    have h1:=QJ Y a1 a2 a3 a4 a5 a6 a7 a8 a9 a10 sa ar an ac am ad vs t (h.on hY)
    rw[hv] at h1;exact h1
theorem zjV (a1 a2 a3 a4 a5 a6 a7 a8 a9 a10:Int)(sa ar:Option Addr)(an ac am ad:Nat)(vs:List SV)(t:Tr)(han:an=vs.length)(hv:qH a1 a2 a3 a4 a5 a6 a7 a8 a9 a10 sa ar an ac am ad vs t=true)(w:World)(e:Ending)(Z:World)(h:kY (zy (vo a1 a2 a3 a4 a5 a6 a7 a8 a9 a10 sa ar an ac am ad vs t)) w e Z):kI 8 ⟨8,a1,a2,a3,a4,a5,a6,a7,a8,a9,a10⟩ vs t w e Z:=by
 have hr2:=hv
 rw[Qd] at hr2
 simp only[Bool.and_eq_true,Bool.true_eq,and_true,true_and] at hr2
 obtain⟨⟨⟨j1,j2,j4,j9⟩,hq⟩,hz,htz⟩:=hr2
 obtain⟨_,_,z3,_,z5,z6,z7,z8,_,z10⟩:=jc hz
 obtain⟨⟨p1,p2,p3,p4,p5,p6,p7,p8,p9,p10⟩,hpl,hpt,hpe⟩:=zlF a1 a2 a3 a4 a5 a6 a7 a8 a9 a10 sa ar an ac am ad vs t (zF j1 ue0 ue0) (zF j2 ue0 ue0) (zF j4 ue0 ue0) (zF j9 ue0 ue0) hq han
 obtain⟨hok,hop⟩:=qh (vo a1 a2 a3 a4 a5 a6 a7 a8 a9 a10 sa ar an ac am ad vs t)
 have hsz:=(Z5 hq).2.2.2
 have hln:(zy (vo a1 a2 a3 a4 a5 a6 a7 a8 a9 a10 sa ar an ac am ad vs t)).length≤65536:=by
  rw[zS]
  unfold vo
  exact sc1
 have h0:(vo a1 a2 a3 a4 a5 a6 a7 a8 a9 a10 sa ar an ac am ad vs t)[0]? =some (zH 8):=by unfold vo;simp
 have hrd:rd0 (zy (vo a1 a2 a3 a4 a5 a6 a7 a8 a9 a10 sa ar an ac am ad vs t))=⟨vo a1 a2 a3 a4 a5 a6 a7 a8 a9 a10 sa ar an ac am ad vs t,1,false⟩:=by unfold rd0;rw[hop]
 have hkk:∀k',yB (zy (vo a1 a2 a3 a4 a5 a6 a7 a8 a9 a10 sa ar an ac am ad vs t)) k'→k'=8:=fun k' hk'=>by
  exact sb8
 have hright:∀(m:RM) (V:World),zZ (zb 8 (rd0 (zy (vo a1 a2 a3 a4 a5 a6 a7 a8 a9 a10 sa ar an ac am ad vs t)))) m V→yG 8 (zb 8 (rd0 (zy (vo a1 a2 a3 a4 a5 a6 a7 a8 a9 a10 sa ar an ac am ad vs t)))) m=true:=fun m V hp=>by
  rw[hrd] at hp ⊢
  obtain⟨⟨m1,m2,m3,m4,m5,m6,m7,m8,m9,m10⟩,_,us,hm,hu⟩:=hp
  show qH m.n1 m.n2 m.n3 m.n4 m.n5 m.n6 m.n7 m.n8 m.n9 m.n10 m.sa m.ar m.sn m.sc m.am m.ad (qb (zb 8 (⟨vo a1 a2 a3 a4 a5 a6 a7 a8 a9 a10 sa ar an ac am ad vs t,1,false⟩:Rd))) (zb 8 (⟨vo a1 a2 a3 a4 a5 a6 a7 a8 a9 a10 sa ar an ac am ad vs t,1,false⟩:Rd)).t=true
  rw[Qd,m1,m2,m3,m4,m5,m6,m7,m8,m9,m10,p1,p2,p3,p4,p5,p6,p7,p8,p9,p10]
  have hst:zO (steps (qb (zb 8 (⟨vo a1 a2 a3 a4 a5 a6 a7 a8 a9 a10 sa ar an ac am ad vs t,1,false⟩:Rd))))=true:=by
   rw[ZO,hpl,List.map_map,List.map_map]
   exact (zdK (steps vs)).trans hq
  rw[hst,hpt]
  simp only[Bool.and_eq_true,j1,j2,j4,j9]
  exact⟨by simp,by simp[yz],by simp,qj yM⟩
 rcases h with ⟨at_,er,hw,_⟩ | ⟨k',m,hk',he,hb,hp,hret,hrt⟩
 · exfalso
   rcases hw with ⟨h1,_⟩ | ⟨_,h1,_⟩ | ⟨_,_,h1,_⟩ | ⟨k',hk',h1,h2,_⟩ | ⟨k',hk',h1,_,_,m,V,h2,h3⟩
   · omega
   · rw[hok] at h1;cases h1
   · rw [hop] at h1
     rcases h1 with h1 | ⟨u,h1,h2⟩
     · rw[h1] at h0;simp at h0
     · rw[h0] at h1
       cases h1
       have:=qw 8 ue0
       rw[this] at h2
       omega
   · have:=hkk k' hk'
     exact sc3
   · have:=hkk k' hk'
     subst this
     rw[hright m V h2] at h3
     cases h3
 · have:=hkk k' hk'
   subst this
   rw[hrd] at hp
   obtain⟨⟨m1,m2,m3,m4,m5,m6,m7,m8,m9,m10⟩,⟨i1,i2,i3⟩,us,hm,hu⟩:=hp
   refine⟨hb,m,us,(zb 8 (⟨vo a1 a2 a3 a4 a5 a6 a7 a8 a9 a10 sa ar an ac am ad vs t,1,false⟩:Rd)).t,?_,hm,?_,?_,?_⟩
   · rw[hret,←i1,←i2,←i3];rfl
   · rw[m1,m2,m3,m4,m5,m6,m7,m8,m9,m10,p1,p2,p3,p4,p5,p6,p7,p8,p9,p10,z3,z5,z6,z7,z8,z10]
   · rw[hu,hpl,List.map_map,List.map_map]
     exact zg6 (steps vs)
   · rw[hpt];exact htz
theorem zaD (a1 a2 a3 a4 a5 a6 a7 a8 a9 a10:Int)(sa ar:Option Addr)(an ac am ad:Nat)(vs:List SV)(t:Tr):qI a1 a2 a3 a4 a5 a6 a7 a8 a9 a10 sa ar an ac am ad vs t=(((zA 1 8 a1 && (zA 0 0 a2 && (zA 1 1125899906842624 a3 && (zA 0 1125899906842624 a4 && true))))) && (yz ⟨9,0,0,0,0,a5,a6,a7,a8,a9,a10⟩ ⟨9,0,0,0,0,0,0,0,0,0,0⟩ && ((an == 0) && yh t ⟨0,0,⟨#[]⟩,.nil⟩))):=by
 unfold qI
 rw[show yI (zl 9::toQ 9:: [(3,1,1125899906842624),zg 9]) #[.int .i8 9,.int .i64 a1,.int .i64 a2,.int .i64 a3,.int .i64 a4,.int .i64 a5,.int .i64 a6,.int .i64 a7,.int .i64 a8,.int .i64 a9,.int .i64 a10,.slice sa an ac,.int .i64 t.id,.int .i64 t.kind,.string t.text,.slice ar am ad]=(zA 1 8 a1 && (zA 0 0 a2 && (zA 1 1125899906842624 a3 && (zA 0 1125899906842624 a4 && true)))) from by kernel_rfl]
theorem ze4 (a1 a2 a3 a4 a5 a6 a7 a8 a9 a10:Int)(sa ar:Option Addr)(an ac am ad:Nat)(vs:List SV)(t:Tr)(w:World)(h:zM w sa ar an am ad vs t):Calls Tryz.prog 31 #[.agg #[.int .i8 9,.int .i64 a1,.int .i64 a2,.int .i64 a3,.int .i64 a4,.int .i64 a5,.int .i64 a6,.int .i64 a7,.int .i64 a8,.int .i64 a9,.int .i64 a10,.slice sa an ac,.int .i64 t.id,.int .i64 t.kind,.string t.text,.slice ar am ad]] w (kZ (if qI a1 a2 a3 a4 a5 a6 a7 a8 a9 a10 sa ar an ac am ad vs t then some (vK a1 a2 a3 a4 a5 a6 a7 a8 a9 a10 sa ar an ac am ad vs t) else none) w):=by
 cases hv:qI a1 a2 a3 a4 a5 a6 a7 a8 a9 a10 sa ar an ac am ad vs t
 · exact vg w 9 a1 a2 a3 a4 a5 a6 a7 a8 a9 a10 t.id t.kind sa ar an ac am ad t.text fun Y hY=>by
    have h1:=QK Y a1 a2 a3 a4 a5 a6 a7 a8 a9 a10 sa ar an ac am ad vs t (h.on hY)
    rw[hv] at h1;exact h1
 · exact ziZ w a1 a2 a3 a4 a5 a6 a7 a8 a9 a10 sa ar an ac am ad vs t h fun Y hY=>by
    have h1:=QK Y a1 a2 a3 a4 a5 a6 a7 a8 a9 a10 sa ar an ac am ad vs t (h.on hY)
    rw[hv] at h1;exact h1
theorem zjW (a1 a2 a3 a4 a5 a6 a7 a8 a9 a10:Int)(sa ar:Option Addr)(an ac am ad:Nat)(vs:List SV)(t:Tr)(han:an=vs.length)(hv:qI a1 a2 a3 a4 a5 a6 a7 a8 a9 a10 sa ar an ac am ad vs t=true)(w:World)(e:Ending)(Z:World)(h:kY (zy (vK a1 a2 a3 a4 a5 a6 a7 a8 a9 a10 sa ar an ac am ad vs t)) w e Z):kI 9 ⟨9,a1,a2,a3,a4,a5,a6,a7,a8,a9,a10⟩ vs t w e Z:=by
 have hr2:=hv
 rw[zaD] at hr2
 simp only[Bool.and_eq_true,Bool.true_eq,and_true,true_and] at hr2
 obtain⟨⟨j1,j2,j3,j4⟩,hz,hsn,htz⟩:=hr2
 obtain⟨_,_,_,_,z5,z6,z7,z8,z9,z10⟩:=jc hz
 obtain⟨⟨p1,p2,p3,p4,p5,p6,p7,p8,p9,p10⟩,hpl,hpt,hpe⟩:=zlG a1 a2 a3 a4 a5 a6 a7 a8 a9 a10 sa ar an ac am ad vs t (zF j1 ue0 ue0) (zF j2 ue0 ue0) (zF j3 ue0 ue0) (zF j4 ue0 ue0)
 obtain⟨hok,hop⟩:=qh (vK a1 a2 a3 a4 a5 a6 a7 a8 a9 a10 sa ar an ac am ad vs t)
 have hln:(zy (vK a1 a2 a3 a4 a5 a6 a7 a8 a9 a10 sa ar an ac am ad vs t)).length≤65536:=by
  rw[zS]
  unfold vK
  exact sc1
 have h0:(vK a1 a2 a3 a4 a5 a6 a7 a8 a9 a10 sa ar an ac am ad vs t)[0]? =some (zH 9):=by unfold vK;simp
 have hrd:rd0 (zy (vK a1 a2 a3 a4 a5 a6 a7 a8 a9 a10 sa ar an ac am ad vs t))=⟨vK a1 a2 a3 a4 a5 a6 a7 a8 a9 a10 sa ar an ac am ad vs t,1,false⟩:=by unfold rd0;rw[hop]
 have hkk:∀k',yB (zy (vK a1 a2 a3 a4 a5 a6 a7 a8 a9 a10 sa ar an ac am ad vs t)) k'→k'=9:=fun k' hk'=>by
  exact sb8
 have hright:∀(m:RM) (V:World),zZ (zb 9 (rd0 (zy (vK a1 a2 a3 a4 a5 a6 a7 a8 a9 a10 sa ar an ac am ad vs t)))) m V→yG 9 (zb 9 (rd0 (zy (vK a1 a2 a3 a4 a5 a6 a7 a8 a9 a10 sa ar an ac am ad vs t)))) m=true:=fun m V hp=>by
  rw[hrd] at hp ⊢
  obtain⟨⟨m1,m2,m3,m4,m5,m6,m7,m8,m9,m10⟩,_,us,hm,hu⟩:=hp
  show qI m.n1 m.n2 m.n3 m.n4 m.n5 m.n6 m.n7 m.n8 m.n9 m.n10 m.sa m.ar m.sn m.sc m.am m.ad (qb (zb 9 (⟨vK a1 a2 a3 a4 a5 a6 a7 a8 a9 a10 sa ar an ac am ad vs t,1,false⟩:Rd))) (zb 9 (⟨vK a1 a2 a3 a4 a5 a6 a7 a8 a9 a10 sa ar an ac am ad vs t,1,false⟩:Rd)).t=true
  rw[zaD,m1,m2,m3,m4,m5,m6,m7,m8,m9,m10,p1,p2,p3,p4,p5,p6,p7,p8,p9,p10]
  have hsn0:m.sn=0:=by
   exact sc7
  rw[hpt,hsn0]
  simp only[Bool.and_eq_true,j1,j2,j3,j4]
  exact⟨by simp,by simp[yz],by simp,qj yM⟩
 rcases h with ⟨at_,er,hw,_⟩ | ⟨k',m,hk',he,hb,hp,hret,hrt⟩
 · exfalso
   rcases hw with ⟨h1,_⟩ | ⟨_,h1,_⟩ | ⟨_,_,h1,_⟩ | ⟨k',hk',h1,h2,_⟩ | ⟨k',hk',h1,_,_,m,V,h2,h3⟩
   · omega
   · rw[hok] at h1;cases h1
   · rw [hop] at h1
     rcases h1 with h1 | ⟨u,h1,h2⟩
     · rw[h1] at h0;simp at h0
     · rw[h0] at h1
       cases h1
       have:=qw 9 ue0
       rw[this] at h2
       omega
   · have:=hkk k' hk'
     exact sc3
   · have:=hkk k' hk'
     subst this
     rw[hright m V h2] at h3
     cases h3
 · have:=hkk k' hk'
   subst this
   rw[hrd] at hp
   obtain⟨⟨m1,m2,m3,m4,m5,m6,m7,m8,m9,m10⟩,⟨i1,i2,i3⟩,us,hm,hu⟩:=hp
   refine⟨hb,m,us,(zb 9 (⟨vK a1 a2 a3 a4 a5 a6 a7 a8 a9 a10 sa ar an ac am ad vs t,1,false⟩:Rd)).t,?_,hm,?_,?_,?_⟩
   · rw[hret,←i1,←i2,←i3];rfl
   · rw[m1,m2,m3,m4,m5,m6,m7,m8,m9,m10,p1,p2,p3,p4,p5,p6,p7,p8,p9,p10,z5,z6,z7,z8,z9,z10]
   · have h1:an=0:=by simpa using hsn
     exact sc6
   · rw[hpt];exact htz
theorem Yr (a1 a2 a3 a4 a5 a6 a7 a8 a9 a10:Int)(sa ar:Option Addr)(an ac am ad:Nat)(vs:List SV)(t:Tr):yY a1 a2 a3 a4 a5 a6 a7 a8 a9 a10 sa ar an ac am ad vs t=(((zA 0 0 a1 && (zA 1 8 a2 && (zA 1 1125899906842624 a4 && (zA 0 1125899906842624 a9 && true)))) && yj t) && (yz ⟨10,0,0,a3,0,a5,a6,a7,a8,0,a10⟩ ⟨10,0,0,0,0,0,0,0,0,0,0⟩ && ((an == 0) && true))):=by
 unfold yY
 rw[show yI (zl 10::toQ 10:: [zg 10,(9,0,1125899906842624)]) #[.int .i8 10,.int .i64 a1,.int .i64 a2,.int .i64 a3,.int .i64 a4,.int .i64 a5,.int .i64 a6,.int .i64 a7,.int .i64 a8,.int .i64 a9,.int .i64 a10,.slice sa an ac,.int .i64 t.id,.int .i64 t.kind,.string t.text,.slice ar am ad]=(zA 0 0 a1 && (zA 1 8 a2 && (zA 1 1125899906842624 a4 && (zA 0 1125899906842624 a9 && true)))) from by kernel_rfl]
theorem zcM (a1 a2 a3 a4 a5 a6 a7 a8 a9 a10:Int)(sa ar:Option Addr)(an ac am ad:Nat)(vs:List SV)(t:Tr)(w:World)(h:zM w sa ar an am ad vs t):Calls Tryz.prog 31 #[.agg #[.int .i8 10,.int .i64 a1,.int .i64 a2,.int .i64 a3,.int .i64 a4,.int .i64 a5,.int .i64 a6,.int .i64 a7,.int .i64 a8,.int .i64 a9,.int .i64 a10,.slice sa an ac,.int .i64 t.id,.int .i64 t.kind,.string t.text,.slice ar am ad]] w (kZ (if yY a1 a2 a3 a4 a5 a6 a7 a8 a9 a10 sa ar an ac am ad vs t then some (yX a1 a2 a3 a4 a5 a6 a7 a8 a9 a10 sa ar an ac am ad vs t) else none) w):=by
 cases hv:yY a1 a2 a3 a4 a5 a6 a7 a8 a9 a10 sa ar an ac am ad vs t
 · exact vg w 10 a1 a2 a3 a4 a5 a6 a7 a8 a9 a10 t.id t.kind sa ar an ac am ad t.text fun Y hY=>by
    have h1:=YG Y a1 a2 a3 a4 a5 a6 a7 a8 a9 a10 sa ar an ac am ad vs t (h.on hY)
    rw[hv] at h1;exact h1
 · have hq:yj t=true:=by
    have h1:=hv
    rw[Yr] at h1
    simp only[Bool.and_eq_true] at h1
    exact h1.1.2
   exact zhX w a1 a2 a3 a4 a5 a6 a7 a8 a9 a10 sa ar an ac am ad vs t h hq fun Y hY=>by
    have h1:=YG Y a1 a2 a3 a4 a5 a6 a7 a8 a9 a10 sa ar an ac am ad vs t (h.on hY)
    rw[hv] at h1;exact h1
theorem zic (a1 a2 a3 a4 a5 a6 a7 a8 a9 a10:Int)(sa ar:Option Addr)(an ac am ad:Nat)(vs:List SV)(t:Tr)(han:an=vs.length)(hv:yY a1 a2 a3 a4 a5 a6 a7 a8 a9 a10 sa ar an ac am ad vs t=true)(w:World)(e:Ending)(Z:World)(h:kY (zy (yX a1 a2 a3 a4 a5 a6 a7 a8 a9 a10 sa ar an ac am ad vs t)) w e Z):kI 10 ⟨10,a1,a2,a3,a4,a5,a6,a7,a8,a9,a10⟩ vs t w e Z:=by
 have hr2:=hv
 rw[Yr] at hr2
 simp only[Bool.and_eq_true,Bool.true_eq,and_true,true_and] at hr2
 obtain⟨⟨⟨j1,j2,j4,j9⟩,hq⟩,hz,hsn⟩:=hr2
 obtain⟨_,_,z3,_,z5,z6,z7,z8,_,z10⟩:=jc hz
 obtain⟨⟨p1,p2,p3,p4,p5,p6,p7,p8,p9,p10⟩,hpl,hpt,hpe⟩:=zkT a1 a2 a3 a4 a5 a6 a7 a8 a9 a10 sa ar an ac am ad vs t (zF j1 ue0 ue0) (zF j2 ue0 ue0) (zF j4 ue0 ue0) (zF j9 ue0 ue0) hq
 obtain⟨hok,hop⟩:=qh (yX a1 a2 a3 a4 a5 a6 a7 a8 a9 a10 sa ar an ac am ad vs t)
 have hsz:=Jd hq
 have hsz2:=(ZP hq).2.2
 have hln:(zy (yX a1 a2 a3 a4 a5 a6 a7 a8 a9 a10 sa ar an ac am ad vs t)).length≤65536:=by
  rw[zS]
  unfold yX
  exact sc1
 have h0:(yX a1 a2 a3 a4 a5 a6 a7 a8 a9 a10 sa ar an ac am ad vs t)[0]? =some (zH 10):=by unfold yX;simp
 have hrd:rd0 (zy (yX a1 a2 a3 a4 a5 a6 a7 a8 a9 a10 sa ar an ac am ad vs t))=⟨yX a1 a2 a3 a4 a5 a6 a7 a8 a9 a10 sa ar an ac am ad vs t,1,false⟩:=by unfold rd0;rw[hop]
 have hkk:∀k',yB (zy (yX a1 a2 a3 a4 a5 a6 a7 a8 a9 a10 sa ar an ac am ad vs t)) k'→k'=10:=fun k' hk'=>by
  exact sb8
 have hright:∀(m:RM) (V:World),zZ (zb 10 (rd0 (zy (yX a1 a2 a3 a4 a5 a6 a7 a8 a9 a10 sa ar an ac am ad vs t)))) m V→yG 10 (zb 10 (rd0 (zy (yX a1 a2 a3 a4 a5 a6 a7 a8 a9 a10 sa ar an ac am ad vs t)))) m=true:=fun m V hp=>by
  rw[hrd] at hp ⊢
  obtain⟨⟨m1,m2,m3,m4,m5,m6,m7,m8,m9,m10⟩,_,us,hm,hu⟩:=hp
  show yY m.n1 m.n2 m.n3 m.n4 m.n5 m.n6 m.n7 m.n8 m.n9 m.n10 m.sa m.ar m.sn m.sc m.am m.ad (qb (zb 10 (⟨yX a1 a2 a3 a4 a5 a6 a7 a8 a9 a10 sa ar an ac am ad vs t,1,false⟩:Rd))) (zb 10 (⟨yX a1 a2 a3 a4 a5 a6 a7 a8 a9 a10 sa ar an ac am ad vs t,1,false⟩:Rd)).t=true
  rw[Yr,m1,m2,m3,m4,m5,m6,m7,m8,m9,m10,p1,p2,p3,p4,p5,p6,p7,p8,p9,p10]
  have hsn0:m.sn=0:=by
   exact sc7
  rw[hpt,zct,hq,hsn0]
  simp only[Bool.and_eq_true,j1,j2,j4,j9]
  exact⟨by simp,by simp[yz],by simp,trivial⟩
 rcases h with ⟨at_,er,hw,_⟩ | ⟨k',m,hk',he,hb,hp,hret,hrt⟩
 · exfalso
   rcases hw with ⟨h1,_⟩ | ⟨_,h1,_⟩ | ⟨_,_,h1,_⟩ | ⟨k',hk',h1,h2,_⟩ | ⟨k',hk',h1,_,_,m,V,h2,h3⟩
   · omega
   · rw[hok] at h1;cases h1
   · rw [hop] at h1
     rcases h1 with h1 | ⟨u,h1,h2⟩
     · rw[h1] at h0;simp at h0
     · rw[h0] at h1
       cases h1
       have:=qw 10 ue0
       rw[this] at h2
       omega
   · have:=hkk k' hk'
     exact sc3
   · have:=hkk k' hk'
     subst this
     rw[hright m V h2] at h3
     cases h3
 · have:=hkk k' hk'
   subst this
   rw[hrd] at hp
   obtain⟨⟨m1,m2,m3,m4,m5,m6,m7,m8,m9,m10⟩,⟨i1,i2,i3⟩,us,hm,hu⟩:=hp
   refine⟨hb,m,us,(zb 10 (⟨yX a1 a2 a3 a4 a5 a6 a7 a8 a9 a10 sa ar an ac am ad vs t,1,false⟩:Rd)).t,?_,hm,?_,?_,?_⟩
   · rw[hret,←i1,←i2,←i3];rfl
   · rw[m1,m2,m3,m4,m5,m6,m7,m8,m9,m10,p1,p2,p3,p4,p5,p6,p7,p8,p9,p10,z3,z5,z6,z7,z8,z10]
   · have h1:an=0:=by simpa using hsn
     exact sc6
   · rw[hpt];exact zck t
end Go.Proofs.YtoidedomenkbpaaGreat
