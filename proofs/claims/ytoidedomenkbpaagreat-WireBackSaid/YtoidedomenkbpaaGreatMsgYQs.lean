/-
  .
-/
import Derived.Test.YtoidedomenkbpaaGreatBackKQs
set_option maxRecDepth 100000
set_option maxHeartbeats 40000000
namespace Go.Proofs.YtoidedomenkbpaaGreat
open Go.RowKit Go.Shelf
open Extern.Stop (cell)
set_option linter.unusedVariables false
set_option linter.unusedSimpArgs false
structure Yg (a0 a1 a2 a3 a4 a5 a6 a7 a8 a9 a10:Int) (sa ar:Option Addr) (an ac am ad:Nat) (vs:List SV) (t:Tr) (o:Option (List UInt8)):Prop where
 right:∀w:World,zM w sa ar an am ad vs t→Calls Tryz.prog 22 #[.agg #[.int .i8 a0,.int .i64 a1,.int .i64 a2,.int .i64 a3,.int .i64 a4,.int .i64 a5,.int .i64 a6,.int .i64 a7,.int .i64 a8,.int .i64 a9,.int .i64 a10,.slice sa an ac,.int .i64 t.id,.int .i64 t.kind,.string t.text,.slice ar am ad]] w (zX o.isSome w)
 bytes:∀w:World,zM w sa ar an am ad vs t→Calls Tryz.prog 31 #[.agg #[.int .i8 a0,.int .i64 a1,.int .i64 a2,.int .i64 a3,.int .i64 a4,.int .i64 a5,.int .i64 a6,.int .i64 a7,.int .i64 a8,.int .i64 a9,.int .i64 a10,.slice sa an ac,.int .i64 t.id,.int .i64 t.kind,.string t.text,.slice ar am ad]] w (kZ o w)
 back:∀bs,o=some bs→∀(w:World) (e:Ending) (Z:World),kY (zy bs) w e Z→kI a0 ⟨a0,a1,a2,a3,a4,a5,a6,a7,a8,a9,a10⟩ vs t w e Z
theorem zkX (a1 a2 a3 a4 a5 a6 a7 a8 a9 a10:Int)(sa ar:Option Addr)(an ac am ad:Nat)(vs:List SV)(t:Tr)(han:an=vs.length):∃o,Yg 1 a1 a2 a3 a4 a5 a6 a7 a8 a9 a10 sa ar an ac am ad vs t o:=by
 refine⟨_,fun w h=>?_,fun w h=>zeW a1 a2 a3 a4 a5 a6 a7 a8 a9 a10 sa ar an ac am ad vs t w h,fun bs hbs w e Z h=>?_⟩
 · have h1:=QC w a1 a2 a3 a4 a5 a6 a7 a8 a9 a10 sa ar an ac am ad vs t h
   cases hv:qA a1 a2 a3 a4 a5 a6 a7 a8 a9 a10 sa ar an ac am ad vs t
   · rw[hv] at h1;simpa [hv] using h1
   · rw[hv] at h1;simpa [hv] using h1
 · cases hv:qA a1 a2 a3 a4 a5 a6 a7 a8 a9 a10 sa ar an ac am ad vs t
   · rw[hv] at hbs;simp at hbs
   · rw[hv] at hbs
     simp only[if_true,Option.some.injEq] at hbs
     subst hbs
     exact zjO a1 a2 a3 a4 a5 a6 a7 a8 a9 a10 sa ar an ac am ad vs t han hv w e Z h
theorem zkY (a1 a2 a3 a4 a5 a6 a7 a8 a9 a10:Int)(sa ar:Option Addr)(an ac am ad:Nat)(vs:List SV)(t:Tr)(han:an=vs.length):∃o,Yg 2 a1 a2 a3 a4 a5 a6 a7 a8 a9 a10 sa ar an ac am ad vs t o:=by
 refine⟨_,fun w h=>?_,fun w h=>zeX a1 a2 a3 a4 a5 a6 a7 a8 a9 a10 sa ar an ac am ad vs t w h,fun bs hbs w e Z h=>?_⟩
 · have h1:=QD w a1 a2 a3 a4 a5 a6 a7 a8 a9 a10 sa ar an ac am ad vs t h
   cases hv:qB a1 a2 a3 a4 a5 a6 a7 a8 a9 a10 sa ar an ac am ad vs t
   · rw[hv] at h1;simpa [hv] using h1
   · rw[hv] at h1;simpa [hv] using h1
 · cases hv:qB a1 a2 a3 a4 a5 a6 a7 a8 a9 a10 sa ar an ac am ad vs t
   · rw[hv] at hbs;simp at hbs
   · rw[hv] at hbs
     simp only[if_true,Option.some.injEq] at hbs
     subst hbs
     exact zjP a1 a2 a3 a4 a5 a6 a7 a8 a9 a10 sa ar an ac am ad vs t han hv w e Z h
theorem zkZ (a1 a2 a3 a4 a5 a6 a7 a8 a9 a10:Int)(sa ar:Option Addr)(an ac am ad:Nat)(vs:List SV)(t:Tr)(han:an=vs.length):∃o,Yg 3 a1 a2 a3 a4 a5 a6 a7 a8 a9 a10 sa ar an ac am ad vs t o:=by
 refine⟨_,fun w h=>?_,fun w h=>zeY a1 a2 a3 a4 a5 a6 a7 a8 a9 a10 sa ar an ac am ad vs t w h,fun bs hbs w e Z h=>?_⟩
 · have h1:=QE w a1 a2 a3 a4 a5 a6 a7 a8 a9 a10 sa ar an ac am ad vs t h
   cases hv:qC a1 a2 a3 a4 a5 a6 a7 a8 a9 a10 sa ar an ac am ad vs t
   · rw[hv] at h1;simpa [hv] using h1
   · rw[hv] at h1;simpa [hv] using h1
 · cases hv:qC a1 a2 a3 a4 a5 a6 a7 a8 a9 a10 sa ar an ac am ad vs t
   · rw[hv] at hbs;simp at hbs
   · rw[hv] at hbs
     simp only[if_true,Option.some.injEq] at hbs
     subst hbs
     exact zjQ a1 a2 a3 a4 a5 a6 a7 a8 a9 a10 sa ar an ac am ad vs t han hv w e Z h
theorem zk0 (a1 a2 a3 a4 a5 a6 a7 a8 a9 a10:Int)(sa ar:Option Addr)(an ac am ad:Nat)(vs:List SV)(t:Tr)(han:an=vs.length):∃o,Yg 4 a1 a2 a3 a4 a5 a6 a7 a8 a9 a10 sa ar an ac am ad vs t o:=by
 refine⟨_,fun w h=>?_,fun w h=>zeZ a1 a2 a3 a4 a5 a6 a7 a8 a9 a10 sa ar an ac am ad vs t w h,fun bs hbs w e Z h=>?_⟩
 · have h1:=QF w a1 a2 a3 a4 a5 a6 a7 a8 a9 a10 sa ar an ac am ad vs t h
   cases hv:qD a1 a2 a3 a4 a5 a6 a7 a8 a9 a10 sa ar an ac am ad vs t
   · rw[hv] at h1;simpa [hv] using h1
   · rw[hv] at h1;simpa [hv] using h1
 · cases hv:qD a1 a2 a3 a4 a5 a6 a7 a8 a9 a10 sa ar an ac am ad vs t
   · rw[hv] at hbs;simp at hbs
   · rw[hv] at hbs
     simp only[if_true,Option.some.injEq] at hbs
     subst hbs
     exact zjR a1 a2 a3 a4 a5 a6 a7 a8 a9 a10 sa ar an ac am ad vs t han hv w e Z h
theorem zk1 (a1 a2 a3 a4 a5 a6 a7 a8 a9 a10:Int)(sa ar:Option Addr)(an ac am ad:Nat)(vs:List SV)(t:Tr)(han:an=vs.length):∃o,Yg 5 a1 a2 a3 a4 a5 a6 a7 a8 a9 a10 sa ar an ac am ad vs t o:=by
 refine⟨_,fun w h=>?_,fun w h=>ze0 a1 a2 a3 a4 a5 a6 a7 a8 a9 a10 sa ar an ac am ad vs t w h,fun bs hbs w e Z h=>?_⟩
 · have h1:=QG w a1 a2 a3 a4 a5 a6 a7 a8 a9 a10 sa ar an ac am ad vs t h
   cases hv:qE a1 a2 a3 a4 a5 a6 a7 a8 a9 a10 sa ar an ac am ad vs t
   · rw[hv] at h1;simpa [hv] using h1
   · rw[hv] at h1;simpa [hv] using h1
 · cases hv:qE a1 a2 a3 a4 a5 a6 a7 a8 a9 a10 sa ar an ac am ad vs t
   · rw[hv] at hbs;simp at hbs
   · rw[hv] at hbs
     simp only[if_true,Option.some.injEq] at hbs
     subst hbs
     exact zjS a1 a2 a3 a4 a5 a6 a7 a8 a9 a10 sa ar an ac am ad vs t han hv w e Z h
theorem zk2 (a1 a2 a3 a4 a5 a6 a7 a8 a9 a10:Int)(sa ar:Option Addr)(an ac am ad:Nat)(vs:List SV)(t:Tr)(han:an=vs.length):∃o,Yg 6 a1 a2 a3 a4 a5 a6 a7 a8 a9 a10 sa ar an ac am ad vs t o:=by
 refine⟨_,fun w h=>?_,fun w h=>ze1 a1 a2 a3 a4 a5 a6 a7 a8 a9 a10 sa ar an ac am ad vs t w h,fun bs hbs w e Z h=>?_⟩
 · have h1:=QH w a1 a2 a3 a4 a5 a6 a7 a8 a9 a10 sa ar an ac am ad vs t h
   cases hv:qF a1 a2 a3 a4 a5 a6 a7 a8 a9 a10 sa ar an ac am ad vs t
   · rw[hv] at h1;simpa [hv] using h1
   · rw[hv] at h1;simpa [hv] using h1
 · cases hv:qF a1 a2 a3 a4 a5 a6 a7 a8 a9 a10 sa ar an ac am ad vs t
   · rw[hv] at hbs;simp at hbs
   · rw[hv] at hbs
     simp only[if_true,Option.some.injEq] at hbs
     subst hbs
     exact zjT a1 a2 a3 a4 a5 a6 a7 a8 a9 a10 sa ar an ac am ad vs t han hv w e Z h
theorem zk3 (a1 a2 a3 a4 a5 a6 a7 a8 a9 a10:Int)(sa ar:Option Addr)(an ac am ad:Nat)(vs:List SV)(t:Tr)(han:an=vs.length):∃o,Yg 7 a1 a2 a3 a4 a5 a6 a7 a8 a9 a10 sa ar an ac am ad vs t o:=by
 refine⟨_,fun w h=>?_,fun w h=>ze2 a1 a2 a3 a4 a5 a6 a7 a8 a9 a10 sa ar an ac am ad vs t w h,fun bs hbs w e Z h=>?_⟩
 · have h1:=QI w a1 a2 a3 a4 a5 a6 a7 a8 a9 a10 sa ar an ac am ad vs t h
   cases hv:qG a1 a2 a3 a4 a5 a6 a7 a8 a9 a10 sa ar an ac am ad vs t
   · rw[hv] at h1;simpa [hv] using h1
   · rw[hv] at h1;simpa [hv] using h1
 · cases hv:qG a1 a2 a3 a4 a5 a6 a7 a8 a9 a10 sa ar an ac am ad vs t
   · rw[hv] at hbs;simp at hbs
   · rw[hv] at hbs
     simp only[if_true,Option.some.injEq] at hbs
     subst hbs
     exact zjU a1 a2 a3 a4 a5 a6 a7 a8 a9 a10 sa ar an ac am ad vs t han hv w e Z h
theorem zk4 (a1 a2 a3 a4 a5 a6 a7 a8 a9 a10:Int)(sa ar:Option Addr)(an ac am ad:Nat)(vs:List SV)(t:Tr)(han:an=vs.length):∃o,Yg 8 a1 a2 a3 a4 a5 a6 a7 a8 a9 a10 sa ar an ac am ad vs t o:=by
 refine⟨_,fun w h=>?_,fun w h=>ze3 a1 a2 a3 a4 a5 a6 a7 a8 a9 a10 sa ar an ac am ad vs t w h,fun bs hbs w e Z h=>?_⟩
 · have h1:=QJ w a1 a2 a3 a4 a5 a6 a7 a8 a9 a10 sa ar an ac am ad vs t h
   cases hv:qH a1 a2 a3 a4 a5 a6 a7 a8 a9 a10 sa ar an ac am ad vs t
   · rw[hv] at h1;simpa [hv] using h1
   · rw[hv] at h1;simpa [hv] using h1
 · cases hv:qH a1 a2 a3 a4 a5 a6 a7 a8 a9 a10 sa ar an ac am ad vs t
   · rw[hv] at hbs;simp at hbs
   · rw[hv] at hbs
     simp only[if_true,Option.some.injEq] at hbs
     subst hbs
     exact zjV a1 a2 a3 a4 a5 a6 a7 a8 a9 a10 sa ar an ac am ad vs t han hv w e Z h
theorem zk5 (a1 a2 a3 a4 a5 a6 a7 a8 a9 a10:Int)(sa ar:Option Addr)(an ac am ad:Nat)(vs:List SV)(t:Tr)(han:an=vs.length):∃o,Yg 9 a1 a2 a3 a4 a5 a6 a7 a8 a9 a10 sa ar an ac am ad vs t o:=by
 refine⟨_,fun w h=>?_,fun w h=>ze4 a1 a2 a3 a4 a5 a6 a7 a8 a9 a10 sa ar an ac am ad vs t w h,fun bs hbs w e Z h=>?_⟩
 · have h1:=QK w a1 a2 a3 a4 a5 a6 a7 a8 a9 a10 sa ar an ac am ad vs t h
   cases hv:qI a1 a2 a3 a4 a5 a6 a7 a8 a9 a10 sa ar an ac am ad vs t
   · rw[hv] at h1;simpa [hv] using h1
   · rw[hv] at h1;simpa [hv] using h1
 · cases hv:qI a1 a2 a3 a4 a5 a6 a7 a8 a9 a10 sa ar an ac am ad vs t
   · rw[hv] at hbs;simp at hbs
   · rw[hv] at hbs
     simp only[if_true,Option.some.injEq] at hbs
     subst hbs
     exact zjW a1 a2 a3 a4 a5 a6 a7 a8 a9 a10 sa ar an ac am ad vs t han hv w e Z h
theorem zj7 (a1 a2 a3 a4 a5 a6 a7 a8 a9 a10:Int)(sa ar:Option Addr)(an ac am ad:Nat)(vs:List SV)(t:Tr)(han:an=vs.length):∃o,Yg 10 a1 a2 a3 a4 a5 a6 a7 a8 a9 a10 sa ar an ac am ad vs t o:=by
 refine⟨_,fun w h=>?_,fun w h=>zcM a1 a2 a3 a4 a5 a6 a7 a8 a9 a10 sa ar an ac am ad vs t w h,fun bs hbs w e Z h=>?_⟩
 · have h1:=YG w a1 a2 a3 a4 a5 a6 a7 a8 a9 a10 sa ar an ac am ad vs t h
   cases hv:yY a1 a2 a3 a4 a5 a6 a7 a8 a9 a10 sa ar an ac am ad vs t
   · rw[hv] at h1;simpa [hv] using h1
   · rw[hv] at h1;simpa [hv] using h1
 · cases hv:yY a1 a2 a3 a4 a5 a6 a7 a8 a9 a10 sa ar an ac am ad vs t
   · rw[hv] at hbs;simp at hbs
   · rw[hv] at hbs
     simp only[if_true,Option.some.injEq] at hbs
     subst hbs
     exact zic a1 a2 a3 a4 a5 a6 a7 a8 a9 a10 sa ar an ac am ad vs t han hv w e Z h
theorem zhg (a0 a1 a2 a3 a4 a5 a6 a7 a8 a9 a10:Int)(sa ar:Option Addr)(an ac am ad:Nat)(vs:List SV)(t:Tr)(han:an=vs.length):∃o,Yg a0 a1 a2 a3 a4 a5 a6 a7 a8 a9 a10 sa ar an ac am ad vs t o:=by
 by_cases hk:zA 1 10 a0=true
 · have hr:a0=1∨a0=2∨a0=3∨a0=4∨a0=5∨a0=6∨a0=7∨a0=8∨a0=9∨a0=10:=by
    simp only[zA,Bool.and_eq_true,decide_eq_true_eq] at hk
    omega
   rcases hr with rfl | rfl | rfl | rfl | rfl | rfl | rfl | rfl | rfl | rfl
   · exact zkX a1 a2 a3 a4 a5 a6 a7 a8 a9 a10 sa ar an ac am ad vs t han
   · exact zkY a1 a2 a3 a4 a5 a6 a7 a8 a9 a10 sa ar an ac am ad vs t han
   · exact zkZ a1 a2 a3 a4 a5 a6 a7 a8 a9 a10 sa ar an ac am ad vs t han
   · exact zk0 a1 a2 a3 a4 a5 a6 a7 a8 a9 a10 sa ar an ac am ad vs t han
   · exact zk1 a1 a2 a3 a4 a5 a6 a7 a8 a9 a10 sa ar an ac am ad vs t han
   · exact zk2 a1 a2 a3 a4 a5 a6 a7 a8 a9 a10 sa ar an ac am ad vs t han
   · exact zk3 a1 a2 a3 a4 a5 a6 a7 a8 a9 a10 sa ar an ac am ad vs t han
   · exact zk4 a1 a2 a3 a4 a5 a6 a7 a8 a9 a10 sa ar an ac am ad vs t han
   · exact zk5 a1 a2 a3 a4 a5 a6 a7 a8 a9 a10 sa ar an ac am ad vs t han
   · exact zj7 a1 a2 a3 a4 a5 a6 a7 a8 a9 a10 sa ar an ac am ad vs t han
 · have hk:=eq_false_of_ne_true hk
   have hr:∀Y:World,Calls Tryz.prog 22 #[.agg #[.int .i8 a0,.int .i64 a1,.int .i64 a2,.int .i64 a3,.int .i64 a4,.int .i64 a5,.int .i64 a6,.int .i64 a7,.int .i64 a8,.int .i64 a9,.int .i64 a10,.slice sa an ac,.int .i64 t.id,.int .i64 t.kind,.string t.text,.slice ar am ad]] Y (zX false Y):=fun Y=>Q8 Y a0 a1 a2 a3 a4 a5 a6 a7 a8 a9 a10 t.id t.kind sa ar an ac am ad t.text false fun B hB hx=>zdx B Y.heap.size a0 a1 a2 a3 a4 a5 a6 a7 a8 a9 a10 t.id t.kind sa ar an ac am ad t.text hx hk
   exact⟨none,fun w _=>hr w,fun w _=>vg w a0 a1 a2 a3 a4 a5 a6 a7 a8 a9 a10 t.id t.kind sa ar an ac am ad t.text fun Y _=>hr Y,fun bs hbs=>by cases hbs⟩
theorem vF {bs:List UInt8}(h:okN bs=true):zy (zI bs)=bs:=by
 unfold zI
 rw[ipQ h]
 unfold okN at h
 simpa using h
theorem zjF (bs:List UInt8)(m:RM)(Z:World)(hk:yB bs 1)(he:(zb 1 (rd0 bs)).e.yR= .tuple #[.int .i64 0,.int .i64 0])(hp:zZ (zb 1 (rd0 bs)) m Z)(hr:yG 1 (zb 1 (rd0 bs)) m=true)(Y:World)(hY:Below Z.heap.size Z Y):Calls Tryz.prog 31 #[.agg #[.int .i8 1,.int .i64 m.n1,.int .i64 m.n2,.int .i64 m.n3,.int .i64 m.n4,.int .i64 m.n5,.int .i64 m.n6,.int .i64 m.n7,.int .i64 m.n8,.int .i64 m.n9,.int .i64 m.n10,.slice m.sa m.sn m.sc,.int .i64 m.id,.int .i64 m.kd,.string m.tx,.slice m.ar m.am m.ad]] Y (qf bs Y):=by
 obtain⟨⟨n1,n2,n3,n4,n5,n6,n7,n8,n9,n10⟩,⟨h1,h2,h3⟩,vs,hm,h4⟩:=hp
 have hv:qA m.n1 m.n2 m.n3 m.n4 m.n5 m.n6 m.n7 m.n8 m.n9 m.n10 m.sa m.ar m.sn m.sc m.am m.ad vs (zb 1 (rd0 bs)).t=true:=by
  have hr:qA m.n1 m.n2 m.n3 m.n4 m.n5 m.n6 m.n7 m.n8 m.n9 m.n10 m.sa m.ar m.sn m.sc m.am m.ad (qb (zb 1 (rd0 bs))) (zb 1 (rd0 bs)).t=true:=hr
  unfold qA at hr ⊢
  skip
  exact hr
 have hb:=zeW m.n1 m.n2 m.n3 m.n4 m.n5 m.n6 m.n7 m.n8 m.n9 m.n10 m.sa m.ar m.sn m.sc m.am m.ad vs (zb 1 (rd0 bs)).t Y (hm.on hY)
 rw[hv] at hb
 have hi:=zlH (zI bs) m.sa m.ar m.sn m.sc m.am m.ad vs (zb 1 (rd0 bs)).t hk.2.2.2 he
 have e:qZ m.n1 m.n2 m.n3 m.n4 m.n5 m.n6 m.n7 m.n8 m.n9 m.n10 m.sa m.ar m.sn m.sc m.am m.ad vs (zb 1 (rd0 bs)).t=zI bs:=by
  rw[n1,n2,n3,n4,n5,n6,n7,n8,n9,n10]
  exact hi.symm
 exact sb5
theorem zjG (bs:List UInt8)(m:RM)(Z:World)(hk:yB bs 2)(he:(zb 2 (rd0 bs)).e.yR= .tuple #[.int .i64 0,.int .i64 0])(hp:zZ (zb 2 (rd0 bs)) m Z)(hr:yG 2 (zb 2 (rd0 bs)) m=true)(Y:World)(hY:Below Z.heap.size Z Y):Calls Tryz.prog 31 #[.agg #[.int .i8 2,.int .i64 m.n1,.int .i64 m.n2,.int .i64 m.n3,.int .i64 m.n4,.int .i64 m.n5,.int .i64 m.n6,.int .i64 m.n7,.int .i64 m.n8,.int .i64 m.n9,.int .i64 m.n10,.slice m.sa m.sn m.sc,.int .i64 m.id,.int .i64 m.kd,.string m.tx,.slice m.ar m.am m.ad]] Y (qf bs Y):=by
 obtain⟨⟨n1,n2,n3,n4,n5,n6,n7,n8,n9,n10⟩,⟨h1,h2,h3⟩,vs,hm,h4⟩:=hp
 have hv:qB m.n1 m.n2 m.n3 m.n4 m.n5 m.n6 m.n7 m.n8 m.n9 m.n10 m.sa m.ar m.sn m.sc m.am m.ad vs (zb 2 (rd0 bs)).t=true:=by
  have hr:qB m.n1 m.n2 m.n3 m.n4 m.n5 m.n6 m.n7 m.n8 m.n9 m.n10 m.sa m.ar m.sn m.sc m.am m.ad (qb (zb 2 (rd0 bs))) (zb 2 (rd0 bs)).t=true:=hr
  unfold qB at hr ⊢
  skip
  exact hr
 have hb:=zeX m.n1 m.n2 m.n3 m.n4 m.n5 m.n6 m.n7 m.n8 m.n9 m.n10 m.sa m.ar m.sn m.sc m.am m.ad vs (zb 2 (rd0 bs)).t Y (hm.on hY)
 rw[hv] at hb
 have hi:=zlI (zI bs) m.sa m.ar m.sn m.sc m.am m.ad vs (zb 2 (rd0 bs)).t hk.2.2.2 he
 have e:vG m.n1 m.n2 m.n3 m.n4 m.n5 m.n6 m.n7 m.n8 m.n9 m.n10 m.sa m.ar m.sn m.sc m.am m.ad vs (zb 2 (rd0 bs)).t=zI bs:=by
  rw[n1,n2,n3,n4,n5,n6,n7,n8,n9,n10]
  exact hi.symm
 exact sb5
theorem zjH (bs:List UInt8)(m:RM)(Z:World)(hk:yB bs 3)(he:(zb 3 (rd0 bs)).e.yR= .tuple #[.int .i64 0,.int .i64 0])(hp:zZ (zb 3 (rd0 bs)) m Z)(hr:yG 3 (zb 3 (rd0 bs)) m=true)(Y:World)(hY:Below Z.heap.size Z Y):Calls Tryz.prog 31 #[.agg #[.int .i8 3,.int .i64 m.n1,.int .i64 m.n2,.int .i64 m.n3,.int .i64 m.n4,.int .i64 m.n5,.int .i64 m.n6,.int .i64 m.n7,.int .i64 m.n8,.int .i64 m.n9,.int .i64 m.n10,.slice m.sa m.sn m.sc,.int .i64 m.id,.int .i64 m.kd,.string m.tx,.slice m.ar m.am m.ad]] Y (qf bs Y):=by
 obtain⟨⟨n1,n2,n3,n4,n5,n6,n7,n8,n9,n10⟩,⟨h1,h2,h3⟩,vs,hm,h4⟩:=hp
 have hv:qC m.n1 m.n2 m.n3 m.n4 m.n5 m.n6 m.n7 m.n8 m.n9 m.n10 m.sa m.ar m.sn m.sc m.am m.ad vs (zb 3 (rd0 bs)).t=true:=by
  have hr:qC m.n1 m.n2 m.n3 m.n4 m.n5 m.n6 m.n7 m.n8 m.n9 m.n10 m.sa m.ar m.sn m.sc m.am m.ad (qb (zb 3 (rd0 bs))) (zb 3 (rd0 bs)).t=true:=hr
  unfold qC at hr ⊢
  skip
  exact hr
 have hb:=zeY m.n1 m.n2 m.n3 m.n4 m.n5 m.n6 m.n7 m.n8 m.n9 m.n10 m.sa m.ar m.sn m.sc m.am m.ad vs (zb 3 (rd0 bs)).t Y (hm.on hY)
 rw[hv] at hb
 have hi:=zlJ (zI bs) m.sa m.ar m.sn m.sc m.am m.ad vs hk.2.2.2 he
 have e:vH m.n1 m.n2 m.n3 m.n4 m.n5 m.n6 m.n7 m.n8 m.n9 m.n10 m.sa m.ar m.sn m.sc m.am m.ad vs (zb 3 (rd0 bs)).t=zI bs:=by
  rw[n1,n2,n3,n4,n5,n6,n7,n8,n9,n10]
  exact hi.symm
 exact sb5
theorem zjI (bs:List UInt8)(m:RM)(Z:World)(hk:yB bs 4)(he:(zb 4 (rd0 bs)).e.yR= .tuple #[.int .i64 0,.int .i64 0])(hp:zZ (zb 4 (rd0 bs)) m Z)(hr:yG 4 (zb 4 (rd0 bs)) m=true)(Y:World)(hY:Below Z.heap.size Z Y):Calls Tryz.prog 31 #[.agg #[.int .i8 4,.int .i64 m.n1,.int .i64 m.n2,.int .i64 m.n3,.int .i64 m.n4,.int .i64 m.n5,.int .i64 m.n6,.int .i64 m.n7,.int .i64 m.n8,.int .i64 m.n9,.int .i64 m.n10,.slice m.sa m.sn m.sc,.int .i64 m.id,.int .i64 m.kd,.string m.tx,.slice m.ar m.am m.ad]] Y (qf bs Y):=by
 obtain⟨⟨n1,n2,n3,n4,n5,n6,n7,n8,n9,n10⟩,⟨h1,h2,h3⟩,vs,hm,h4⟩:=hp
 have hv:qD m.n1 m.n2 m.n3 m.n4 m.n5 m.n6 m.n7 m.n8 m.n9 m.n10 m.sa m.ar m.sn m.sc m.am m.ad vs (zb 4 (rd0 bs)).t=true:=by
  have hr:qD m.n1 m.n2 m.n3 m.n4 m.n5 m.n6 m.n7 m.n8 m.n9 m.n10 m.sa m.ar m.sn m.sc m.am m.ad (qb (zb 4 (rd0 bs))) (zb 4 (rd0 bs)).t=true:=hr
  unfold qD at hr ⊢
  skip
  exact hr
 have hb:=zeZ m.n1 m.n2 m.n3 m.n4 m.n5 m.n6 m.n7 m.n8 m.n9 m.n10 m.sa m.ar m.sn m.sc m.am m.ad vs (zb 4 (rd0 bs)).t Y (hm.on hY)
 rw[hv] at hb
 have hi:=zlK (zI bs) m.sa m.ar m.sn m.sc m.am m.ad vs (zb 4 (rd0 bs)).t hk.2.2.2 he
 have e:vI m.n1 m.n2 m.n3 m.n4 m.n5 m.n6 m.n7 m.n8 m.n9 m.n10 m.sa m.ar m.sn m.sc m.am m.ad vs (zb 4 (rd0 bs)).t=zI bs:=by
  rw[n1,n2,n3,n4,n5,n6,n7,n8,n9,n10]
  exact hi.symm
 exact sb5
theorem zjJ (bs:List UInt8)(m:RM)(Z:World)(hk:yB bs 5)(he:(zb 5 (rd0 bs)).e.yR= .tuple #[.int .i64 0,.int .i64 0])(hp:zZ (zb 5 (rd0 bs)) m Z)(hr:yG 5 (zb 5 (rd0 bs)) m=true)(Y:World)(hY:Below Z.heap.size Z Y):Calls Tryz.prog 31 #[.agg #[.int .i8 5,.int .i64 m.n1,.int .i64 m.n2,.int .i64 m.n3,.int .i64 m.n4,.int .i64 m.n5,.int .i64 m.n6,.int .i64 m.n7,.int .i64 m.n8,.int .i64 m.n9,.int .i64 m.n10,.slice m.sa m.sn m.sc,.int .i64 m.id,.int .i64 m.kd,.string m.tx,.slice m.ar m.am m.ad]] Y (qf bs Y):=by
 obtain⟨⟨n1,n2,n3,n4,n5,n6,n7,n8,n9,n10⟩,⟨h1,h2,h3⟩,vs,hm,h4⟩:=hp
 have hv:qE m.n1 m.n2 m.n3 m.n4 m.n5 m.n6 m.n7 m.n8 m.n9 m.n10 m.sa m.ar m.sn m.sc m.am m.ad vs (zb 5 (rd0 bs)).t=true:=by
  have hr:qE m.n1 m.n2 m.n3 m.n4 m.n5 m.n6 m.n7 m.n8 m.n9 m.n10 m.sa m.ar m.sn m.sc m.am m.ad (qb (zb 5 (rd0 bs))) (zb 5 (rd0 bs)).t=true:=hr
  unfold qE at hr ⊢
  rw[ZO] at hr
  rw[h4];exact hr
 have hb:=ze0 m.n1 m.n2 m.n3 m.n4 m.n5 m.n6 m.n7 m.n8 m.n9 m.n10 m.sa m.ar m.sn m.sc m.am m.ad vs (zb 5 (rd0 bs)).t Y (hm.on hY)
 rw[hv] at hb
 have hi:=zlL (zI bs) m.sa m.ar m.sn m.sc m.am m.ad vs (zb 5 (rd0 bs)).t hk.2.2.2 he ub4 ub6
 have e:vk m.n1 m.n2 m.n3 m.n4 m.n5 m.n6 m.n7 m.n8 m.n9 m.n10 m.sa m.ar m.sn m.sc m.am m.ad vs (zb 5 (rd0 bs)).t=zI bs:=by
  rw[n1,n2,n3,n4,n5,n6,n7,n8,n9,n10]
  exact hi.symm
 exact sb5
theorem zjK (bs:List UInt8)(m:RM)(Z:World)(hk:yB bs 6)(he:(zb 6 (rd0 bs)).e.yR= .tuple #[.int .i64 0,.int .i64 0])(hp:zZ (zb 6 (rd0 bs)) m Z)(hr:yG 6 (zb 6 (rd0 bs)) m=true)(Y:World)(hY:Below Z.heap.size Z Y):Calls Tryz.prog 31 #[.agg #[.int .i8 6,.int .i64 m.n1,.int .i64 m.n2,.int .i64 m.n3,.int .i64 m.n4,.int .i64 m.n5,.int .i64 m.n6,.int .i64 m.n7,.int .i64 m.n8,.int .i64 m.n9,.int .i64 m.n10,.slice m.sa m.sn m.sc,.int .i64 m.id,.int .i64 m.kd,.string m.tx,.slice m.ar m.am m.ad]] Y (qf bs Y):=by
 obtain⟨⟨n1,n2,n3,n4,n5,n6,n7,n8,n9,n10⟩,⟨h1,h2,h3⟩,vs,hm,h4⟩:=hp
 have hv:qF m.n1 m.n2 m.n3 m.n4 m.n5 m.n6 m.n7 m.n8 m.n9 m.n10 m.sa m.ar m.sn m.sc m.am m.ad vs (zb 6 (rd0 bs)).t=true:=by
  have hr:qF m.n1 m.n2 m.n3 m.n4 m.n5 m.n6 m.n7 m.n8 m.n9 m.n10 m.sa m.ar m.sn m.sc m.am m.ad (qb (zb 6 (rd0 bs))) (zb 6 (rd0 bs)).t=true:=hr
  unfold qF at hr ⊢
  skip
  exact hr
 have hb:=ze1 m.n1 m.n2 m.n3 m.n4 m.n5 m.n6 m.n7 m.n8 m.n9 m.n10 m.sa m.ar m.sn m.sc m.am m.ad vs (zb 6 (rd0 bs)).t Y (hm.on hY)
 rw[hv] at hb
 have hi:=zlM (zI bs) m.sa m.ar m.sn m.sc m.am m.ad vs (zb 6 (rd0 bs)).t hk.2.2.2 he
 have e:qR m.n1 m.n2 m.n3 m.n4 m.n5 m.n6 m.n7 m.n8 m.n9 m.n10 m.sa m.ar m.sn m.sc m.am m.ad vs (zb 6 (rd0 bs)).t=zI bs:=by
  rw[n1,n2,n3,n4,n5,n6,n7,n8,n9,n10]
  exact hi.symm
 exact sb5
theorem zjL (bs:List UInt8)(m:RM)(Z:World)(hk:yB bs 7)(he:(zb 7 (rd0 bs)).e.yR= .tuple #[.int .i64 0,.int .i64 0])(hp:zZ (zb 7 (rd0 bs)) m Z)(hr:yG 7 (zb 7 (rd0 bs)) m=true)(Y:World)(hY:Below Z.heap.size Z Y):Calls Tryz.prog 31 #[.agg #[.int .i8 7,.int .i64 m.n1,.int .i64 m.n2,.int .i64 m.n3,.int .i64 m.n4,.int .i64 m.n5,.int .i64 m.n6,.int .i64 m.n7,.int .i64 m.n8,.int .i64 m.n9,.int .i64 m.n10,.slice m.sa m.sn m.sc,.int .i64 m.id,.int .i64 m.kd,.string m.tx,.slice m.ar m.am m.ad]] Y (qf bs Y):=by
 obtain⟨⟨n1,n2,n3,n4,n5,n6,n7,n8,n9,n10⟩,⟨h1,h2,h3⟩,vs,hm,h4⟩:=hp
 have hv:qG m.n1 m.n2 m.n3 m.n4 m.n5 m.n6 m.n7 m.n8 m.n9 m.n10 m.sa m.ar m.sn m.sc m.am m.ad vs (zb 7 (rd0 bs)).t=true:=by
  have hr:qG m.n1 m.n2 m.n3 m.n4 m.n5 m.n6 m.n7 m.n8 m.n9 m.n10 m.sa m.ar m.sn m.sc m.am m.ad (qb (zb 7 (rd0 bs))) (zb 7 (rd0 bs)).t=true:=hr
  unfold qG at hr ⊢
  skip
  exact hr
 have hb:=ze2 m.n1 m.n2 m.n3 m.n4 m.n5 m.n6 m.n7 m.n8 m.n9 m.n10 m.sa m.ar m.sn m.sc m.am m.ad vs (zb 7 (rd0 bs)).t Y (hm.on hY)
 rw[hv] at hb
 have hi:=zlN (zI bs) m.sa m.ar m.sn m.sc m.am m.ad vs (zb 7 (rd0 bs)).t hk.2.2.2 he
 have e:vJ m.n1 m.n2 m.n3 m.n4 m.n5 m.n6 m.n7 m.n8 m.n9 m.n10 m.sa m.ar m.sn m.sc m.am m.ad vs (zb 7 (rd0 bs)).t=zI bs:=by
  rw[n1,n2,n3,n4,n5,n6,n7,n8,n9,n10]
  exact hi.symm
 exact sb5
theorem zjM (bs:List UInt8)(m:RM)(Z:World)(hk:yB bs 8)(he:(zb 8 (rd0 bs)).e.yR= .tuple #[.int .i64 0,.int .i64 0])(hp:zZ (zb 8 (rd0 bs)) m Z)(hr:yG 8 (zb 8 (rd0 bs)) m=true)(Y:World)(hY:Below Z.heap.size Z Y):Calls Tryz.prog 31 #[.agg #[.int .i8 8,.int .i64 m.n1,.int .i64 m.n2,.int .i64 m.n3,.int .i64 m.n4,.int .i64 m.n5,.int .i64 m.n6,.int .i64 m.n7,.int .i64 m.n8,.int .i64 m.n9,.int .i64 m.n10,.slice m.sa m.sn m.sc,.int .i64 m.id,.int .i64 m.kd,.string m.tx,.slice m.ar m.am m.ad]] Y (qf bs Y):=by
 obtain⟨⟨n1,n2,n3,n4,n5,n6,n7,n8,n9,n10⟩,⟨h1,h2,h3⟩,vs,hm,h4⟩:=hp
 have hv:qH m.n1 m.n2 m.n3 m.n4 m.n5 m.n6 m.n7 m.n8 m.n9 m.n10 m.sa m.ar m.sn m.sc m.am m.ad vs (zb 8 (rd0 bs)).t=true:=by
  have hr:qH m.n1 m.n2 m.n3 m.n4 m.n5 m.n6 m.n7 m.n8 m.n9 m.n10 m.sa m.ar m.sn m.sc m.am m.ad (qb (zb 8 (rd0 bs))) (zb 8 (rd0 bs)).t=true:=hr
  unfold qH at hr ⊢
  rw[ZO] at hr
  rw[h4];exact hr
 have hb:=ze3 m.n1 m.n2 m.n3 m.n4 m.n5 m.n6 m.n7 m.n8 m.n9 m.n10 m.sa m.ar m.sn m.sc m.am m.ad vs (zb 8 (rd0 bs)).t Y (hm.on hY)
 rw[hv] at hb
 have hi:=zlO (zI bs) m.sa m.ar m.sn m.sc m.am m.ad vs (zb 8 (rd0 bs)).t hk.2.2.2 he ub4 ub6
 have e:vo m.n1 m.n2 m.n3 m.n4 m.n5 m.n6 m.n7 m.n8 m.n9 m.n10 m.sa m.ar m.sn m.sc m.am m.ad vs (zb 8 (rd0 bs)).t=zI bs:=by
  rw[n1,n2,n3,n4,n5,n6,n7,n8,n9,n10]
  exact hi.symm
 exact sb5
theorem zjN (bs:List UInt8)(m:RM)(Z:World)(hk:yB bs 9)(he:(zb 9 (rd0 bs)).e.yR= .tuple #[.int .i64 0,.int .i64 0])(hp:zZ (zb 9 (rd0 bs)) m Z)(hr:yG 9 (zb 9 (rd0 bs)) m=true)(Y:World)(hY:Below Z.heap.size Z Y):Calls Tryz.prog 31 #[.agg #[.int .i8 9,.int .i64 m.n1,.int .i64 m.n2,.int .i64 m.n3,.int .i64 m.n4,.int .i64 m.n5,.int .i64 m.n6,.int .i64 m.n7,.int .i64 m.n8,.int .i64 m.n9,.int .i64 m.n10,.slice m.sa m.sn m.sc,.int .i64 m.id,.int .i64 m.kd,.string m.tx,.slice m.ar m.am m.ad]] Y (qf bs Y):=by
 obtain⟨⟨n1,n2,n3,n4,n5,n6,n7,n8,n9,n10⟩,⟨h1,h2,h3⟩,vs,hm,h4⟩:=hp
 have hv:qI m.n1 m.n2 m.n3 m.n4 m.n5 m.n6 m.n7 m.n8 m.n9 m.n10 m.sa m.ar m.sn m.sc m.am m.ad vs (zb 9 (rd0 bs)).t=true:=by
  have hr:qI m.n1 m.n2 m.n3 m.n4 m.n5 m.n6 m.n7 m.n8 m.n9 m.n10 m.sa m.ar m.sn m.sc m.am m.ad (qb (zb 9 (rd0 bs))) (zb 9 (rd0 bs)).t=true:=hr
  unfold qI at hr ⊢
  skip
  exact hr
 have hb:=ze4 m.n1 m.n2 m.n3 m.n4 m.n5 m.n6 m.n7 m.n8 m.n9 m.n10 m.sa m.ar m.sn m.sc m.am m.ad vs (zb 9 (rd0 bs)).t Y (hm.on hY)
 rw[hv] at hb
 have hi:=zlP (zI bs) m.sa m.ar m.sn m.sc m.am m.ad vs (zb 9 (rd0 bs)).t hk.2.2.2 he
 have e:vK m.n1 m.n2 m.n3 m.n4 m.n5 m.n6 m.n7 m.n8 m.n9 m.n10 m.sa m.ar m.sn m.sc m.am m.ad vs (zb 9 (rd0 bs)).t=zI bs:=by
  rw[n1,n2,n3,n4,n5,n6,n7,n8,n9,n10]
  exact hi.symm
 exact sb5
theorem zib (bs:List UInt8)(m:RM)(Z:World)(hk:yB bs 10)(he:(zb 10 (rd0 bs)).e.yR= .tuple #[.int .i64 0,.int .i64 0])(hp:zZ (zb 10 (rd0 bs)) m Z)(hr:yG 10 (zb 10 (rd0 bs)) m=true)(Y:World)(hY:Below Z.heap.size Z Y):Calls Tryz.prog 31 #[.agg #[.int .i8 10,.int .i64 m.n1,.int .i64 m.n2,.int .i64 m.n3,.int .i64 m.n4,.int .i64 m.n5,.int .i64 m.n6,.int .i64 m.n7,.int .i64 m.n8,.int .i64 m.n9,.int .i64 m.n10,.slice m.sa m.sn m.sc,.int .i64 m.id,.int .i64 m.kd,.string m.tx,.slice m.ar m.am m.ad]] Y (qf bs Y):=by
 obtain⟨⟨n1,n2,n3,n4,n5,n6,n7,n8,n9,n10⟩,⟨h1,h2,h3⟩,vs,hm,h4⟩:=hp
 have hv:yY m.n1 m.n2 m.n3 m.n4 m.n5 m.n6 m.n7 m.n8 m.n9 m.n10 m.sa m.ar m.sn m.sc m.am m.ad vs (zb 10 (rd0 bs)).t=true:=by
  have hr:yY m.n1 m.n2 m.n3 m.n4 m.n5 m.n6 m.n7 m.n8 m.n9 m.n10 m.sa m.ar m.sn m.sc m.am m.ad (qb (zb 10 (rd0 bs))) (zb 10 (rd0 bs)).t=true:=hr
  unfold yY at hr ⊢
  skip
  exact hr
 have hb:=zcM m.n1 m.n2 m.n3 m.n4 m.n5 m.n6 m.n7 m.n8 m.n9 m.n10 m.sa m.ar m.sn m.sc m.am m.ad vs (zb 10 (rd0 bs)).t Y (hm.on hY)
 rw[hv] at hb
 have hi:=zkW (zI bs) m.sa m.ar m.sn m.sc m.am m.ad vs hk.2.2.2 he
 have e:yX m.n1 m.n2 m.n3 m.n4 m.n5 m.n6 m.n7 m.n8 m.n9 m.n10 m.sa m.ar m.sn m.sc m.am m.ad vs (zb 10 (rd0 bs)).t=zI bs:=by
  rw[n1,n2,n3,n4,n5,n6,n7,n8,n9,n10]
  exact hi.symm
 exact sb5
theorem zbb (bs:List UInt8)(k:Nat)(m:RM)(Z:World)(hk:yB bs k)(he:(zb k (rd0 bs)).e.yR= .tuple #[.int .i64 0,.int .i64 0])(hp:zZ (zb k (rd0 bs)) m Z)(hr:yG k (zb k (rd0 bs)) m=true)(Y:World)(hY:Below Z.heap.size Z Y):Calls Tryz.prog 31 #[.agg #[.int .i8 (k:Int),.int .i64 m.n1,.int .i64 m.n2,.int .i64 m.n3,.int .i64 m.n4,.int .i64 m.n5,.int .i64 m.n6,.int .i64 m.n7,.int .i64 m.n8,.int .i64 m.n9,.int .i64 m.n10,.slice m.sa m.sn m.sc,.int .i64 m.id,.int .i64 m.kd,.string m.tx,.slice m.ar m.am m.ad]] Y (qf bs Y):=by
 have h1:=hk.1
 have hh:k=1∨k=2∨k=3∨k=4∨k=5∨k=6∨k=7∨k=8∨k=9∨k=10:=by omega
 rcases hh with rfl | rfl | rfl | rfl | rfl | rfl | rfl | rfl | rfl | rfl
 · exact zjF bs m Z hk he hp hr Y hY
 · exact zjG bs m Z hk he hp hr Y hY
 · exact zjH bs m Z hk he hp hr Y hY
 · exact zjI bs m Z hk he hp hr Y hY
 · exact zjJ bs m Z hk he hp hr Y hY
 · exact zjK bs m Z hk he hp hr Y hY
 · exact zjL bs m Z hk he hp hr Y hY
 · exact zjM bs m Z hk he hp hr Y hY
 · exact zjN bs m Z hk he hp hr Y hY
 · exact zib bs m Z hk he hp hr Y hY
theorem zhZ {bs:List UInt8}{at_ er:Int}(h:zkR bs at_ er):er≠0∧0≤at_∧at_≤(bs.length:Int):=by
 rcases h with ⟨_,h1,h2⟩ | ⟨_,_,h1,h2⟩ | ⟨_,_,_,h1,h2⟩ | ⟨k,_,_,h1,h2,h3⟩ | ⟨k,_,_,h1,h2,_⟩
 · exact⟨by omega,by omega,by omega⟩
 · exact⟨by omega,by omega,by omega⟩
 · exact⟨by omega,by omega,by omega⟩
 · exact⟨by omega,h2,h3⟩
 · exact⟨by omega,by omega,by omega⟩
end Go.Proofs.YtoidedomenkbpaaGreat
