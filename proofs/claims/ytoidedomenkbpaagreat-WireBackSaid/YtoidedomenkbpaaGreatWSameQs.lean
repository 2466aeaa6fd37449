/-
  .
-/
import Derived.Test.YtoidedomenkbpaaGreatERowLQs
import Derived.Test.YtoidedomenkbpaaGreatIRowPQs
set_option maxRecDepth 100000
set_option maxHeartbeats 40000000
set_option linter.unusedVariables false
set_option linter.unusedSimpArgs false
namespace Go.Proofs.YtoidedomenkbpaaGreat
open Go.RowKit Go.Shelf
def Jb (x y:Sp):Bool:=decide (x.2.1.1=y.2.1.1) && (decide (x.2.1.2.1=y.2.1.2.1) && (decide (foLen x.2.2=foLen y.2.2) && decide (x.2.1.2.2.toList=y.2.1.2.2.toList)))
def eqL:List Sp→List Sp→Bool
 | [],[]=>true
 | x::l,y::m=>Jb x y && eqL l m
 | _,_=>false
theorem YX:∀(f g:Fo) (d e:Nat) (p q:List Sp),foLen f=foLen g→eqL (spF d f++p) (spF e g++q)=(kR f g && eqL p q)
 | .nil,.nil,_,_,_,_,_=>by simp[spF,kR]
 | .nil,.node _ _ _ _ _,_,_,_,_,h=>by simp[foLen] at h
 | .node _ _ _ _ _,.nil,_,_,_,_,h=>by simp[foLen] at h
 | .node _ _ k l r,.node _ _ k' l' r',d,e,p,q,h=>by
   have hr:foLen r=foLen r':=by simpa [foLen] using h
   simp only[spF,List.cons_append,List.append_assoc,eqL,kR]
   by_cases hl:foLen l=foLen l'
   · rw[YX l l' (d+1) (e+1) _ _ hl,YX r r' d e p q hr]
     simp only[Jb,Qx,hl,decide_true,Bool.true_and]
     by_cases h1:k.1=k'.1<;>by_cases h2:k.2.1=k'.2.1<;>by_cases h3:k.2.2.toList=k'.2.2.toList<;>simp[h1,h2,h3,Bool.and_assoc]
   · simp[Jb,hl]
theorem zg4 (a b:Tr):eqL (spF 1 (qJ a)) (spF 1 (qJ b))=yh a b:=by
 have:=YX (qJ a) (qJ b) 1 1 [] [] (by simp[qJ,foLen])
 rw[List.append_nil,List.append_nil] at this
 rw[this]
 simp[eqL,qJ,kR,yh]
theorem J7:∀(l m:List Sp),eqL l m=true→l.length=m.length
 | [],[],_=>rfl
 | x::l,y::m,h=>by simp only[eqL,Bool.and_eq_true] at h;simp[J7 l m h.2]
 | [],_::_,h=>by simp[eqL] at h
 | _::_,[],h=>by simp[eqL] at h
theorem zcT:∀(k:Nat) (l m:List Sp) (x y:Sp),l[k]? =some x→m[k]? =some y→eqL (l.drop k) (m.drop k)=(Jb x y && eqL (l.drop (k+1)) (m.drop (k+1)))
 | 0,x::l,y::m,_,_,h1,h2=>by simp at h1 h2;subst h1;subst h2;simp[eqL]
 | k+1,x::l,y::m,a,b,h1,h2=>by simpa using zcT k l m a b (by simpa using h1) (by simpa using h2)
 | _,[],_,_,_,h1,_=>by simp at h1
 | _,_::_,[],_,_,_,h2=>by simp at h2
theorem zal:∀(l:List Sp) (k:Nat) (x:Sp),l[k]? =some x→(l.flatMap qY)[k*4]? =some (.int .i64 x.2.1.1)∧(l.flatMap qY)[k*4+1]? =some (.int .i64 x.2.1.2.1)∧(l.flatMap qY)[k*4+2]? =some (.int .i64 (foLen x.2.2:Int))∧(l.flatMap qY)[k*4+3]? =some (.string x.2.1.2.2)
 | x::l,0,_,h=>by simp at h;subst h;simp[qY]
 | y ::l,k+1,x,h=>by
   have:=zal l k x ud6
   have e:∀j,((y::l).flatMap qY)[(k+1)*4+j]? =(l.flatMap qY)[k*4+j]?:=fun j=>by
    rw[List.flatMap_cons,show (k+1)*4+j=k*4+j+4 by omega]
    simp[qY]
   exact⟨(e 0).trans this.1,(e 1).trans this.2.1,(e 2).trans this.2.2.1,(e 3).trans this.2.2.2⟩
 | [],_,_,h=>by simp at h
def zlo (w:World)(l m:List Sp)(i:Value)(wr:World):Prop:=∃k:Nat,k≤l.length∧i= .int .i64 (k:Int)∧Hid (Below w.heap.size w wr)∧Hid (eqL l m=eqL (l.drop k) (m.drop k))
theorem Qu {w:World}{B:Nat}{a:Option Addr}{c n:Nat}{l:List Sp}(h:w.ownsRow B 182 4 (.slice a n c) n (l.flatMap qY))(hn:0<n){k:Nat}{x:Sp}(hx:l[k]? =some x):∃g,a=some ⟨g,0,none⟩∧g<w.heap.size∧w.cell? ⟨g,k*4,none⟩=some (.int .i64 x.2.1.1)∧w.cell? ⟨g,k*4+1,none⟩=some (.int .i64 x.2.1.2.1)∧w.cell? ⟨g,k*4+2,none⟩=some (.int .i64 (foLen x.2.2:Int))∧w.cell? ⟨g,k*4+3,none⟩=some (.string x.2.1.2.2):=by
 have hgg:∃g,a=some ⟨g,0,none⟩:=by
  rcases h.2 with ⟨_,h0⟩ | ⟨g,cap2,cur,hv,_⟩
  · omega
  · cases hv;exact⟨g,rfl⟩
 obtain⟨g,rfl⟩:=hgg
 obtain⟨l0,l1,l2,l3⟩:=zal l k x hx
 exact⟨g,rfl,(zY h rfl).2,yH h rfl _ _ l0,yH h rfl _ _ l1,yH h rfl _ _ l2,yH h rfl _ _ l3⟩
theorem zid:∀(l m:List Sp) (k:Nat),l.length=m.length→l.length≤k→eqL (l.drop k) (m.drop k)=true:=fun l m k h hk=>by
 rw[List.drop_of_length_le hk,List.drop_of_length_le om1];rfl
theorem zcW (w:World)(B1 B2:Nat)(v1 v2:Value)(l m:List Sp)(h1:w.ownsRow B1 182 4 v1 l.length (l.flatMap qY))(h2:w.ownsRow B2 182 4 v2 m.length (m.flatMap qY))(hl:l.length≤1000000)(hm:m.length≤1000000):
 Calls Tryz.prog 134 #[v1,v2] w fun e w'=>e= .returned (.bool (eqL l m))∧Below w.heap.size w w':=by
 obtain⟨a1,c1,rfl⟩:=yE h1
 obtain⟨a2,c2,rfl⟩:=yE h2
 by_cases hd:l.length=m.length
 · obtain ⟨n,hn⟩:∃n,n=l.length:=⟨_,rfl⟩
   have hn2:n=m.length:=by omega
   rw[←hn2] at h2 ⊢
   rw[←hn] at h1 ⊢
   have HK:=hH (aN h1 h2)
   have HN:=hH (aN hn hn2)
   have hn6:n≤1000000:=by omega
   clear h1 h2 hd hn hn2 hl hm
   go_enter Tryz.func134,Tryz.ntmps134
   go_wp2_with fail
   go_loopw [5,13] (fun _ i wr=>zlo w l m i wr) (fun _ i _=>n - (intOf i).toNat)
   case atStart=>exact⟨0,NzlQ _,rfl,hH (BrQ _ _),hH rfl⟩
   case round=>
    obtain⟨k,hkl,rfl,HB,HA⟩:=hrel
    rw[←HN.out.1] at hkl
    by_cases hlt:k<n
    · obtain⟨x,hx⟩:∃x,l[k]? =some x:=⟨l[k]'(by rw[←HN.out.1];exact hlt),List.getElem?_eq_getElem _⟩
      obtain⟨y,hy⟩:∃y,m[k]? =some y:=⟨m[k]'(by rw[←HN.out.2];exact hlt),List.getElem?_eq_getElem _⟩
      obtain⟨g1,rfl,hg1,x0e,x1e,x2e,x3e⟩:=Qu HK.out.1 om1 hx
      obtain⟨g2,rfl,hg2,y0e,y1e,y2e,y3e⟩:=Qu HK.out.2 om1 hy
      have hdr:=zcT k l m x y hx hy
      obtain⟨bb,hbb⟩:∃bb,bb=Jb x y:=⟨_,rfl⟩
      rw[←hbb] at hdr
      have HDR:=hH hdr
      obtain⟨x0,hx0⟩:∃z,z=x.2.1.1:=⟨_,rfl⟩
      obtain⟨x1,hx1⟩:∃z,z=x.2.1.2.1:=⟨_,rfl⟩
      obtain⟨x2,hx2⟩:∃z:Int,z=(foLen x.2.2:Int):=⟨_,rfl⟩
      obtain⟨x3,hx3⟩:∃z,z=x.2.1.2.2:=⟨_,rfl⟩
      obtain⟨y0,hy0⟩:∃z,z=y.2.1.1:=⟨_,rfl⟩
      obtain⟨y1,hy1⟩:∃z,z=y.2.1.2.1:=⟨_,rfl⟩
      obtain⟨y2,hy2⟩:∃z:Int,z=(foLen y.2.2:Int):=⟨_,rfl⟩
      obtain⟨y3,hy3⟩:∃z,z=y.2.1.2.2:=⟨_,rfl⟩
      rw[←hx0] at x0e
      rw[←hx1] at x1e
      rw[←hx2] at x2e
      rw[←hx3] at x3e
      rw[←hy0] at y0e
      rw[←hy1] at y1e
      rw[←hy2] at y2e
      rw[←hy3] at y3e
      have HBB:Hid ((decide (x0=y0) && (decide (x1=y1) && (decide (x2=y2) && decide (x3.toList=y3.toList))))=bb):=hH (by
       rw[hbb,Jb,hx0,hx1,hx2,hx3,hy0,hy1,hy2,hy3]
       congr 3
       by_cases hf:foLen x.2.2=foLen y.2.2
       · simp[hf]
       · rw[decide_eq_false hf,decide_eq_false om1])
      have HCL:=hH (fun (X:World) (hX:Below wr.heap.size wr X)=>(show X.cell? ⟨g1,k*4,none⟩=some (.int .i64 x0)∧X.cell? ⟨g1,k*4+1,none⟩=some (.int .i64 x1)∧X.cell? ⟨g1,k*4+2,none⟩=some (.int .i64 x2)∧X.cell? ⟨g1,k*4+3,none⟩=some (.string x3)∧X.cell? ⟨g2,k*4,none⟩=some (.int .i64 y0)∧X.cell? ⟨g2,k*4+1,none⟩=some (.int .i64 y1)∧X.cell? ⟨g2,k*4+2,none⟩=some (.int .i64 y2)∧X.cell? ⟨g2,k*4+3,none⟩=some (.string y3) from by
       have hb:=HB.out
       have hs:=hb.size
       have e1:X.heap[g1]? =w.heap[g1]?:=(hX.block _ om1).trans (hb.block _ hg1)
       have e2:X.heap[g2]? =w.heap[g2]?:=(hX.block _ om1).trans (hb.block _ hg2)
       exact⟨(World.cell?_of_block (a:=⟨g1,k*4,none⟩) e1).trans x0e,(World.cell?_of_block (a:=⟨g1,k*4+1,none⟩) e1).trans x1e,(World.cell?_of_block (a:=⟨g1,k*4+2,none⟩) e1).trans x2e,(World.cell?_of_block (a:=⟨g1,k*4+3,none⟩) e1).trans x3e,(World.cell?_of_block (a:=⟨g2,k*4,none⟩) e2).trans y0e,(World.cell?_of_block (a:=⟨g2,k*4+1,none⟩) e2).trans y1e,(World.cell?_of_block (a:=⟨g2,k*4+2,none⟩) e2).trans y2e,(World.cell?_of_block (a:=⟨g2,k*4+3,none⟩) e2).trans y3e⟩))
      have hkl2:(k:Int)<(n:Int):=by omega
      have HLT:=hH hlt
      clear hx hy x0e x1e x2e x3e y0e y1e y2e y3e hdr hbb hx0 hx1 hx2 hx3 hy0 hy1 hy2 hy3 hlt hkl hg1 hg2
      go_wp2_with fail
      refine wp_region_quiet (C:=fun X=>Below wr.heap.size wr X) kr1 kr1 (show Below wr.heap.size wr wr.drew from⟨rfl,rfl,rfl,NlrQ _,fun _ _=>rfl⟩) ?_
      refine wpQuiet_step (fun K hK=>?_)
      rw[ipQ ue1]
      refine⟨.slice (some ⟨g1,0,none⟩) n c1,fun X hX=>?_,hK _ ?_⟩
      · clear hK;go_simp
      clear hK K
      simp only[Act.put,pgD,pgE,pgF]
      refine wpQuiet_step (fun K hK=>?_)
      rw[ipQ ue1]
      refine⟨.int .i64 (k:Int),fun X hX=>?_,hK _ ?_⟩
      · clear hK;go_simp
      clear hK K
      simp only[Act.put,pgD,pgE,pgF]
      refine wpQuiet_step (fun K hK=>?_)
      rw[ipQ ue1]
      refine⟨.pointer (some ⟨g1,k*4,none⟩),fun X hX=>?_,hK _ ?_⟩
      · clear hK;go_simp
      clear hK K
      simp only[Act.put,pgD,pgE,pgF]
      refine wpQuiet_step (fun K hK=>?_)
      rw[ipQ ue1]
      refine⟨.agg #[.int .i64 x0,.int .i64 x1,.int .i64 x2,.string x3],fun X hX=>?_,hK _ ?_⟩
      · clear hK;obtain⟨s0,s1,s2,s3,s4,s5,s6,s7⟩:=HCL.out X hX;go_simp
      clear hK K
      simp only[Act.put,pgD,pgE,pgF]
      refine wpQuiet_step (fun K hK=>?_)
      rw[ipQ ue1]
      refine⟨.slice (some ⟨g2,0,none⟩) n c2,fun X hX=>?_,hK _ ?_⟩
      · clear hK;go_simp
      clear hK K
      simp only[Act.put,pgD,pgE,pgF]
      refine wpQuiet_step (fun K hK=>?_)
      rw[ipQ ue1]
      refine⟨.int .i64 (k:Int),fun X hX=>?_,hK _ ?_⟩
      · clear hK;go_simp
      clear hK K
      simp only[Act.put,pgD,pgE,pgF]
      refine wpQuiet_step (fun K hK=>?_)
      rw[ipQ ue1]
      refine⟨.pointer (some ⟨g2,k*4,none⟩),fun X hX=>?_,hK _ ?_⟩
      · clear hK;go_simp
      clear hK K
      simp only[Act.put,pgD,pgE,pgF]
      refine wpQuiet_step (fun K hK=>?_)
      rw[ipQ ue1]
      refine⟨.agg #[.int .i64 y0,.int .i64 y1,.int .i64 y2,.string y3],fun X hX=>?_,hK _ ?_⟩
      · clear hK;obtain⟨s0,s1,s2,s3,s4,s5,s6,s7⟩:=HCL.out X hX;go_simp
      clear hK K
      simp only[Act.put,pgD,pgE,pgF]
      refine wpQuiet_step (fun K hK=>?_)
      rw[ipQ ue1]
      refine⟨.bool (!bb),fun X hX=>?_,hK _ ?_⟩
      · clear hK;go_simp;rw[←HBB.out];clear HBB HDR HCL;by_cases h1:x0=y0<;>by_cases h2:x1=y1<;>by_cases h3:x2=y2<;>by_cases h4:x3.toList=y3.toList<;>simp[h1,h2,h3,h4]
      clear hK K
      simp only[Act.put,pgD,pgE,pgF]
      refine wpQuiet_nil ?_
      intro X hX
      have HX:=hH (HB.out.trans (hX.mono HB.out.size))
      clear hX HCL
      cases bb
      · go_wp2_with fail
        go_ret
        exact⟨by rw[HA.out,HDR.out];rfl,HX.out⟩
      · go_wp2_with fail
        exact⟨⟨k+1,by have:=HLT.out;have:=HN.out.1;omega,by go_num,HX,hH (by rw[HA.out,HDR.out];rfl)⟩,by have:=HLT.out;simp[intOf];omega⟩
    · have HE:=hH (show eqL l m=true by rw[HA.out];exact zid l m k (by rw[←HN.out.1];exact HN.out.2) (by rw[←HN.out.1];omega))
      have hkl2:¬(k:Int)<(n:Int):=by omega
      clear hkl hlt
      go_wp2_with fail
      go_ret
      exact⟨by rw[HE.out];rfl,HB.out⟩
 · have HE:=hH (show eqL l m=false by
    cases h:eqL l m with
    | false=>rfl
    | true=>exact absurd (J7 l m h) hd)
   have hd' :¬(l.length:Int)=(m.length:Int):=by omega
   clear h1 h2
   go_enter Tryz.func134,Tryz.ntmps134
   go_wp2_with fail
   go_ret
   exact⟨by rw[HE.out];rfl,BrQ _ _⟩
attribute [local go_sem] Oper.semAt_some
theorem zgw (w:World)(S1 S2:Nat→Prop)(v1 v2:Value)(t u:Tr)(hS1:∀x,S1 x→x<w.heap.size)(hS2:∀x,S2 x→x<w.heap.size)(ht:kT w S1 v1 t)(hu:kT w S2 v2 u)(hs1:zh t.kids+1≤400000)(hs2:zh u.kids+1≤400000):
 Calls Tryz.prog 99 #[v1,v2] w (zgM t u w):=by
 obtain⟨ka,cap,rfl,hcap,hk⟩:=ht
 obtain⟨kb,cap2,rfl,hcap2,hkb⟩:=hu
 obtain⟨n,hn⟩:∃n,n=foLen t.kids:=⟨_,rfl⟩
 obtain⟨m,hm⟩:∃m,m=foLen u.kids:=⟨_,rfl⟩
 rw[←hn,←hm]
 have hal:=zD [.cells #[.int .i64 t.id,.int .i64 t.kind,.string t.text,.slice ka n cap] 35,.cells #[.int .i64 u.id,.int .i64 u.kind,.string u.text,.slice kb m cap2] 35] w
 have hab:=zR [.cells #[.int .i64 t.id,.int .i64 t.kind,.string t.text,.slice ka n cap] 35,.cells #[.int .i64 u.id,.int .i64 u.kind,.string u.text,.slice kb m cap2] 35] w
 have kx:=hal 0 _ rfl
 rw[Nat.add_zero] at kx
 have ky:=hal 1 _ rfl
 obtain⟨V,hV⟩:∃V,V=zU w [.cells #[.int .i64 t.id,.int .i64 t.kind,.string t.text,.slice ka n cap] 35,.cells #[.int .i64 u.id,.int .i64 u.kind,.string u.text,.slice kb m cap2] 35]:=⟨_,rfl⟩
 rw[←hV] at kx ky hab
 obtain⟨SX,hSX⟩:∃SX:World→Prop,SX=fun X=>Below V.heap.size V X:=⟨_,rfl⟩
 have HSx:∀X,SX X→X.cell? ⟨w.heap.size,0,none⟩=some (.int .i64 t.id)∧X.cell? ⟨w.heap.size,1,none⟩=some (.int .i64 t.kind)∧X.cell? ⟨w.heap.size,2,none⟩=some (.string t.text)∧X.cell? ⟨w.heap.size,3,none⟩=some (.slice ka n cap)∧
  ue2 X (w.heap.size+1) u.id u.kind u.text kb m cap2:=fun X h=>by
  rw[hSX] at h
  have e1:=(h.block _ (lohQ kx)).trans kx
  have e2:=(h.block _ (lohQ ky)).trans ky
  exact⟨by rw[corQ _ _ 0 _ _ _ e1];rfl,by rw[corQ _ _ 1 _ _ _ e1];rfl,by rw[corQ _ _ 2 _ _ _ e1];rfl,by rw[corQ _ _ 3 _ _ _ e1];rfl,by rw[corQ _ _ 0 _ _ _ e2];rfl,by rw[corQ _ _ 1 _ _ _ e2];rfl,by rw[corQ _ _ 2 _ _ _ e2];rfl,by rw[corQ _ _ 3 _ _ _ e2];rfl⟩
 have hS0:SX V.drew:=by rw[hSX];exact⟨rfl,rfl,rfl,NlrQ _,fun _ _=>rfl⟩
 have HSB:=hH (fun (X Y:World) (h:SX X) (hb:Below X.heap.size X Y)=>(show SX Y by rw[hSX] at h ⊢;exact h.trans (hb.mono h.size)))
 have hwX:∀X,SX X→Below w.heap.size w X:=fun X h=>by rw[hSX] at h;exact hab.trans (h.mono hab.size)
 have HRA:Hid (∀X,SX X→Calls Tryz.prog 135 #[.agg #[.int .i64 t.id,.int .i64 t.kind,.string t.text,.slice ka n cap],.func (.func 136) #[] #[]] X (zgK X 182 4 qY (spF 1 (qJ t)))):=hH fun X h=>zdz X S1 _ t (fun x hx=>nL (hS1 x hx) (hwX X h).size) ⟨ka,cap,by rw[hn],hcap,hk.kept fun x hx=>⟨hx,(hwX X h).block x (hS1 x hx)⟩⟩ hs1
 have HRB:Hid (∀X,SX X→Calls Tryz.prog 135 #[.agg #[.int .i64 u.id,.int .i64 u.kind,.string u.text,.slice kb m cap2],.func (.func 136) #[] #[]] X (zgK X 182 4 qY (spF 1 (qJ u)))):=hH fun X h=>zdz X S2 _ u (fun x hx=>nL (hS2 x hx) (hwX X h).size) ⟨kb,cap2,by rw[hm],hcap2,hkb.kept fun x hx=>⟨hx,(hwX X h).block x (hS2 x hx)⟩⟩ hs2
 have HL:=hH (show (spF 1 (qJ t)).length≤1000000∧(spF 1 (qJ u)).length≤1000000 by rw[jg,jg,jf,jf];omega)
 have HFIN:=hH hwX
 have HV:=hH hV
 clear hS1 hS2 hcap hk hcap2 hkb hs1 hs2 hn hm hal hab kx ky hwX hSX hV
 refine (callsIn_wide (n:=8)).1 ?_
 refine callsIn_of_wp_marks Tryz.func99 rfl trivial ?_ rfl
 simp only[Tryz.ntmps99,List.size_toArray,LlcQ,List.length_nil,Nat.reduceAdd,Nat.reduceSub,Array.replicate_succ,Array.replicate_zero,List.push_toArray,List.append_toArray,List.nil_append,List.cons_append]
 gi_wp2_with fail
 change Code.wpIn _ _ _ _ _ _ (zU w [.cells #[.int .i64 t.id,.int .i64 t.kind,.string t.text,.slice ka n cap] 35,.cells #[.int .i64 u.id,.int .i64 u.kind,.string u.text,.slice kb m cap2] 35])
 rw[←HV.out]
 refine zce (S:=SX) kr1 ?_
 have eH:=hS0
 clear hS0
 refine zL1 (i:=0) (.agg #[.int .i64 t.id,.int .i64 t.kind,.string t.text,.slice ka n cap]) rfl ?_ ?_
 · clear eH;intro X hSw;obtain⟨s0,s1,s2,s3,s4,s5,s6,s7⟩:=HSx X hSw;clear hSw;go_simp
 simp only[Act.put,pg]
 refine zL1 (i:=2) (.agg #[.int .i64 u.id,.int .i64 u.kind,.string u.text,.slice kb m cap2]) rfl ?_ ?_
 · clear eH;intro X hSw;obtain⟨s0,s1,s2,s3,s4,s5,s6,s7⟩:=HSx X hSw;clear hSw;go_simp
 simp only[Act.put,pg]
 refine qp (i:=1) (o:=_) kr1 rfl fun K1 hK1=>?_
 rw[ipQ ue1]
 simp only[pg3]
 have HK1:=hH hK1
 have HH1:=hH eH
 clear hK1 eH
 gi_wp2_with (refine⟨trivial,?_⟩;gi_at_call 135;refine (callsIn_wide.2 (HRA.out _ HH1.out)).mono ?_;rintro e X1 ⟨va,rfl,hoa,hb⟩;have HX1:=hH (aN hoa hb);clear hoa hb)
 have eH:=HSB.out _ X1 HH1.out HX1.out.2
 refine HK1.out _ _ eH ?_
 clear HK1
 refine qp (i:=3) (o:=_) kr1 rfl fun K3 hK3=>?_
 rw[ipQ ue1]
 simp only[pg3]
 have HK3:=hH hK3
 have HH3:=hH eH
 clear hK3 eH
 gi_wp2_with (refine⟨trivial,?_⟩;gi_at_call 135;refine (callsIn_wide.2 (HRB.out _ HH3.out)).mono ?_;rintro e X3 ⟨vb,rfl,hob,hb⟩;have HX3:=hH (aN hob hb);clear hob hb)
 have eH:=HSB.out _ X3 HH3.out HX3.out.2
 refine HK3.out _ _ eH ?_
 clear HK3
 refine qp (i:=4) (o:=_) kr1 rfl fun K4 hK4=>?_
 rw[ipQ ue1]
 simp only[pg3]
 have HK4:=hH hK4
 have HH4:=hH eH
 clear hK4 eH
 gi_wp2_with (refine⟨trivial,?_⟩;gi_at_call 134;refine (callsIn_wide.2 (zcW X3 _ _ va vb _ _ (yo HX1.out.1 (fun g cur hc hg=>HX3.out.2.block g (lohQ hc))) HX3.out.1 HL.out.1 HL.out.2)).mono ?_;rintro e X4 ⟨rfl,hb⟩;rw[zg4];have HX4:=hH hb;clear hb)
 have eH:=HSB.out _ X4 HH4.out HX4.out
 refine HK4.out _ _ eH ?_
 clear HK4
 refine zG1 (i:=5) ((.bool (yh t u))) rfl ?_
 simp only[Act.put,pg]
 refine ZW kr1 ⟨rfl,?_⟩ _
 have HE:=hH (HFIN.out _ eH)
 clear eH HSx
 gi_wp2
 exact⟨_,results_tmp rfl _ _ _,rfl,HE.out⟩
end Go.Proofs.YtoidedomenkbpaaGreat
namespace Go.Proofs.YtoidedomenkbpaaGreat
open Go.RowKit
def eqS (a b:Sf):Bool:=decide (a.op=b.op) && (decide (a.id=b.id) && (decide (a.par=b.par) && (decide (a.at_=b.at_) && (decide (a.tx.toList=b.tx.toList) && yh a.sub b.sub))))
def EqC (a b:Sf)(X:World)(e:Ending)(W:World):Prop:=e= .returned (.bool (eqS a b))∧Below X.heap.size X W
theorem EqC.mk {a b:Sf}{w w' :World}{c:Bool}(h:eqS a b=c)(hb:Below w.heap.size w w'):EqC a b w (.returned (.bool c)) w':=⟨by rw[h],hb⟩
theorem zlk {X:World}{op id par at_ op2 id2 par2 at2:Int}{tx tx2:ByteArray}{u v:Tr}{aa ba:Option Addr}{ac bc n m:Nat}(HC:Hid (∀w',Below X.heap.size X w'→Calls Tryz.prog 63 #[.agg #[.int .i64 u.id,.int .i64 u.kind,.string u.text,.slice aa n ac],.agg #[.int .i64 v.id,.int .i64 v.kind,.string v.text,.slice ba m bc]] w' (zgM u v w'))):
 Calls Tryz.prog 109 #[.agg #[.int .i8 op,.int .i64 id,.int .i64 par,.int .i64 at_,.string tx,.int .i64 u.id,.int .i64 u.kind,.string u.text,.slice aa n ac],.agg #[.int .i8 op2,.int .i64 id2,.int .i64 par2,.int .i64 at2,.string tx2,.int .i64 v.id,.int .i64 v.kind,.string v.text,.slice ba m bc]] X (EqC ⟨op,id,par,at_,tx,u⟩ ⟨op2,id2,par2,at2,tx2,v⟩ X):=by
 by_cases h1:op=op2
 · have qh1 :(op == op2)=true:=by simpa using h1
   by_cases h2:id=id2
   · have qh2:(id == id2)=true:=by simpa using h2
     by_cases h3:par=par2
     · have qh3:(par == par2)=true:=by simpa using h3
       by_cases h4:at_=at2
       · have qh4:(at_ == at2)=true:=by simpa using h4
         by_cases ht:tx.toList=tx2.toList
         · have HV:=hH (show eqS ⟨op,id,par,at_,tx,u⟩ ⟨op2,id2,par2,at2,tx2,v⟩=yh u v by simp[eqS,h1,h2,h3,h4,ht])
           have HC2:=HC
           clear HC h1 h2 h3 h4
           go_enter Tryz.func109,Tryz.ntmps109
           go_wp2_with fail
           refine (HC2.out _ (jw _ _ _)).mono ?_
           rintro e w2 ⟨rfl,hb⟩
           have HB:=hH ((jw _ _ _).trans (hb.mono (jw _ _ _).size))
           clear hb
           go_wp2_with fail
           go_ret
           exact EqC.mk HV.out HB.out
         · have HV:=hH (show eqS ⟨op,id,par,at_,tx,u⟩ ⟨op2,id2,par2,at2,tx2,v⟩=false by simp[eqS,ht])
           have q6:(tx.toList == tx2.toList)=false:=by simpa using ht
           clear h1 h2 h3 h4
           exact sc5
       · have qh4:(at_ == at2)=false:=by simpa using h4
         have HV:=hH (show eqS ⟨op,id,par,at_,tx,u⟩ ⟨op2,id2,par2,at2,tx2,v⟩=false by simp[eqS,h4])
         clear h1 h2 h3 h4
         exact sc5
     · have qh3:(par == par2)=false:=by simpa using h3
       have HV:=hH (show eqS ⟨op,id,par,at_,tx,u⟩ ⟨op2,id2,par2,at2,tx2,v⟩=false by simp[eqS,h3])
       clear h1 h2 h3
       exact sc5
   · have qh2:(id == id2)=false:=by simpa using h2
     have HV:=hH (show eqS ⟨op,id,par,at_,tx,u⟩ ⟨op2,id2,par2,at2,tx2,v⟩=false by simp[eqS,h2])
     clear h1 h2
     exact sc5
 · have qh1:(op == op2)=false:=by simpa using h1
   have HV:=hH (show eqS ⟨op,id,par,at_,tx,u⟩ ⟨op2,id2,par2,at2,tx2,v⟩=false by simp[eqS,h1])
   clear h1
   exact sc5
theorem zbI:∀(f g:Fo),foLen f≠foLen g→kR f g=false
 | .nil,.nil,h=>absurd rfl h
 | .nil,.node _ _ _ _ _,_=>rfl
 | .node _ _ _ _ _,.nil,_=>rfl
 | .node _ _ k l r,.node _ _ k2 l2 r2,h=>by
   simp only[kR]
   rw[zbI r r2 (fun e=>h (by simp only[foLen];omega)),Bool.and_false]
theorem zgm {t u:Tr}(h:foLen t.kids≠foLen u.kids):yh t u=false:=by
 unfold yh
 simp[zbI _ _ h]
theorem kV (w:World)(S1 S2:Nat→Prop)(t u:Tr)(ka kb:Option Addr)(n m kc mc:Nat)(hn:n=foLen t.kids)(hm:m=foLen u.kids)(hS1:∀x,S1 x→x<w.heap.size)(hS2:∀x,S2 x→x<w.heap.size)(hcap:foLen t.kids≤kc)(hcap2:foLen u.kids≤mc)(hk:zQ w S1 t.kids ka)(hkb:zQ w S2 u.kids kb)(hs1:zh t.kids+1≤400000)(hs2:zh u.kids+1≤400000):
 Calls Tryz.prog 63 #[.agg #[.int .i64 t.id,.int .i64 t.kind,.string t.text,.slice ka n kc],.agg #[.int .i64 u.id,.int .i64 u.kind,.string u.text,.slice kb m mc]] w (zgM t u w):=by
 obtain⟨W,hW⟩:∃W,W=zU w [.cells #[.int .i64 t.id,.int .i64 t.kind,.string t.text,.slice ka n kc] 35,.cells #[.int .i64 u.id,.int .i64 u.kind,.string u.text,.slice kb m mc] 35]:=⟨_,rfl⟩
 have hb:Below w.heap.size w W:=by rw[hW];exact zR _ _
 have h0:W.heap[w.heap.size]? =some (.cells #[.int .i64 t.id,.int .i64 t.kind,.string t.text,.slice ka n kc] 35 (0,0)):=by rw[hW];exact zD _ _ 0 _ rfl
 have h1:W.heap[w.heap.size+1]? =some (.cells #[.int .i64 u.id,.int .i64 u.kind,.string u.text,.slice kb m mc] 35 (0,0)):=by rw[hW];exact zD _ _ 1 _ rfl
 have n0:W.cell? ⟨w.heap.size,0,none⟩=some (.int .i64 t.id):=by rw[corQ _ _ 0 _ _ _ h0];rfl
 have n1:W.cell? ⟨w.heap.size,1,none⟩=some (.int .i64 t.kind):=by rw[corQ _ _ 1 _ _ _ h0];rfl
 have n2:W.cell? ⟨w.heap.size,2,none⟩=some (.string t.text):=by rw[corQ _ _ 2 _ _ _ h0];rfl
 have n3:W.cell? ⟨w.heap.size,3,none⟩=some (.slice ka n kc):=by rw[corQ _ _ 3 _ _ _ h0];rfl
 have m0:W.cell? ⟨w.heap.size+1,0,none⟩=some (.int .i64 u.id):=by rw[corQ _ _ 0 _ _ _ h1];rfl
 have m1:W.cell? ⟨w.heap.size+1,1,none⟩=some (.int .i64 u.kind):=by rw[corQ _ _ 1 _ _ _ h1];rfl
 have m2:W.cell? ⟨w.heap.size+1,2,none⟩=some (.string u.text):=by rw[corQ _ _ 2 _ _ _ h1];rfl
 have m3:W.cell? ⟨w.heap.size+1,3,none⟩=some (.slice kb m mc):=by rw[corQ _ _ 3 _ _ _ h1];rfl
 have HC:=hH (zgw W S1 S2 (.agg #[.int .i64 t.id,.int .i64 t.kind,.string t.text,.slice ka n kc]) (.agg #[.int .i64 u.id,.int .i64 u.kind,.string u.text,.slice kb m mc]) t u (fun x hx=>nL (hS1 x hx) hb.size) (fun x hx=>nL (hS2 x hx) hb.size) ⟨ka,kc,by rw[hn],hcap,hk.below hb hS1⟩ ⟨kb,mc,by rw[hm],hcap2,hkb.below hb hS2⟩ hs1 hs2)
 have HB:=hH (aN hb hW)
 by_cases hne:n=m
 · have hq:((n:Int) == (m:Int))=true:=by simp[hne]
   clear hb hW h0 h1 hn hm hS1 hS2 hcap hcap2 hk hkb hs1 hs2 hne
   go_enter Tryz.func63,Tryz.ntmps63
   go_upto_region 1 with fail
   change Code.wp _ _ _ _ (zU w [.cells #[.int .i64 t.id,.int .i64 t.kind,.string t.text,.slice ka n kc] 35,.cells #[.int .i64 u.id,.int .i64 u.kind,.string u.text,.slice kb m mc] 35])
   rw[←HB.out.2]
   go_wp2_with fail
   refine HC.out.mono ?_
   rintro e w2 ⟨rfl,hb2⟩
   have HB2:=hH (HB.out.1.trans (hb2.mono HB.out.1.size))
   clear hb2
   go_wp2_with fail
   go_ret
   exact⟨rfl,HB2.out⟩
 · have hq:((n:Int) == (m:Int))=false:=by simp;omega
   have HV:=hH (show yh t u=false from zgm (by rw[←hn,←hm];exact hne))
   clear hb hW h0 h1 hn hm hS1 hS2 hcap hcap2 hk hkb hs1 hs2 hne HC
   go_enter Tryz.func63,Tryz.ntmps63
   go_upto_region 1 with fail
   change Code.wp _ _ _ _ (zU w [.cells #[.int .i64 t.id,.int .i64 t.kind,.string t.text,.slice ka n kc] 35,.cells #[.int .i64 u.id,.int .i64 u.kind,.string u.text,.slice kb m mc] 35])
   rw[←HB.out.2]
   go_wp2_with fail
   go_ret
   exact⟨by rw[HV.out];rfl,HB.out.1⟩
theorem ZQ (w:World)(S1 S2:Nat→Prop)(s r:Sf)(aa ba:Option Addr)(n ac m bc:Nat)(hn:n=foLen s.sub.kids)(hm:m=foLen r.sub.kids)(hS1:∀x,S1 x→x<w.heap.size)(hS2:∀x,S2 x→x<w.heap.size)(hc1:foLen s.sub.kids≤ac)(hc2:foLen r.sub.kids≤bc)(h1:zQ w S1 s.sub.kids aa)(h2:zQ w S2 r.sub.kids ba)(hz1:zh s.sub.kids+1≤400000)(hz2:zh r.sub.kids+1≤400000):
 Calls Tryz.prog 109 #[.agg #[.int .i8 s.op,.int .i64 s.id,.int .i64 s.par,.int .i64 s.at_,.string s.tx,.int .i64 s.sub.id,.int .i64 s.sub.kind,.string s.sub.text,.slice aa n ac],.agg #[.int .i8 r.op,.int .i64 r.id,.int .i64 r.par,.int .i64 r.at_,.string r.tx,.int .i64 r.sub.id,.int .i64 r.sub.kind,.string r.sub.text,.slice ba m bc]] w (EqC s r w):=
 zlk (hH fun w' hb=>kV w' S1 S2 s.sub r.sub aa ba n m ac bc hn hm (fun x hx=>nL (hS1 x hx) hb.size) (fun x hx=>nL (hS2 x hx) hb.size) hc1 hc2 (h1.below hb hS1) (h2.below hb hS2) hz1 hz2)
end Go.Proofs.YtoidedomenkbpaaGreat
