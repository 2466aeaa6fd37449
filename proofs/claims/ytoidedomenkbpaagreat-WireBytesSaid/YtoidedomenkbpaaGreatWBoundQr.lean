/-
  .
-/
import Derived.Test.YtoidedomenkbpaaGreatCStepQr
import Derived.Test.YtoidedomenkbpaaGreatWRightAQr
set_option maxRecDepth 100000
set_option maxHeartbeats 40000000
set_option linter.unusedVariables false
set_option linter.unusedSimpArgs false
namespace Go.Proofs.YtoidedomenkbpaaGreat
open Go.RowKit
open Extern.Stop (cell)
def zhF (w:World)(bs:List UInt8)(e:Ending)(w' :World):Prop:=∃a n cap,e= .returned (.slice a n cap)∧n=bs.length∧yt w' a bs∧(∀ad,a=some ad→w.heap.size≤ad.block∧ad.block<w'.heap.size)∧Below w.heap.size w w'
theorem Jr {B:Nat}{v:Value}{bs:List UInt8}{W0 w:World}(h:qy B v bs W0 w):∃a cap,v= .slice a bs.length cap∧yt w a bs∧∀ad,a=some ad→B≤ad.block∧ad.block<w.heap.size:=by
 exact sd4
theorem zcZ (w:World)(a:Option Addr)(n cap:Nat)(bs:List UInt8)(hn:n=bs.length)(h:yt w a bs)(hl:bs.length≤1000000000000):Calls Tryz.prog 120 #[.slice a n cap] w (Yp w.heap.size bs w):=by
 subst hn
 exact (kS w a cap bs h hl).mono fun _ _ ⟨v,h1,h2,h3⟩=>⟨v,h1,qy.of h2 h3⟩
def zie (w:World)(id kd:Int)(tx:ByteArray)(ka:Option Addr)(len cap:Nat)(W:World):Prop:=W.cell? ⟨w.heap.size,0,none⟩=some (.int .i64 id)∧W.cell? ⟨w.heap.size,1,none⟩=some (.int .i64 kd)∧W.cell? ⟨w.heap.size,2,none⟩=some (.string tx)∧W.cell? ⟨w.heap.size,3,none⟩=some (.slice ka len cap)
theorem zcX {w W:World}{id kd:Int}{tx:ByteArray}{ka:Option Addr}{len cap:Nat}(h:W.heap[w.heap.size]? =some (.cells #[.int .i64 id,.int .i64 kd,.string tx,.slice ka len cap] 35 (0,0))):zie w id kd tx ka len cap W:=
 ⟨by rw[corQ _ _ 0 _ _ _ h];rfl,by rw[corQ _ _ 1 _ _ _ h];rfl,by rw[corQ _ _ 2 _ _ _ h];rfl,by rw[corQ _ _ 3 _ _ _ h];rfl⟩
theorem zhP (w:World)(S:Nat→Prop)(nv:Value)(t:Tr)(a:Option Addr)(n cap:Nat)(bs:List UInt8)(hS:∀k,S k→k<w.heap.size)(hv:vL w S nv t)(hn:n=bs.length)(hby:yt w a bs)(hl:bs.length+(qA t).length≤1000000000000):
 Calls Tryz.prog 264 #[.slice a n cap,nv] w (zhF w (bs++qA t)):=by
 obtain⟨ka,kcap,rfl,hkc,hk⟩:=hv
 obtain⟨len,hlen⟩:∃len,len=foLen t.kids:=⟨_,rfl⟩
 rw[←hlen]
 have hb1:Below w.heap.size w (w.alloc (.cells #[.int .i64 t.id,.int .i64 t.kind,.string t.text,.slice ka len kcap] 35)):=(BrQ _ _).alloc (NlrQ _) _
 have hby1:=hby.below hb1
 have HC:=hH (zcZ (w.alloc (.cells #[.int .i64 t.id,.int .i64 t.kind,.string t.text,.slice ka len kcap] 35)).drew a n cap bs hn hby1 om)
 have hbox:=hanQ w (.cells #[.int .i64 t.id,.int .i64 t.kind,.string t.text,.slice ka len kcap] 35)
 obtain⟨c0,c1,c2,c3⟩:=zcX hbox
 have H:=hH hb1
 have HD:Hid (∀w2 v1,qy (w.alloc (.cells #[.int .i64 t.id,.int .i64 t.kind,.string t.text,.slice ka len kcap] 35)).drew.heap.size v1 bs (w.alloc (.cells #[.int .i64 t.id,.int .i64 t.kind,.string t.text,.slice ka len kcap] 35)).drew w2→Calls Tryz.prog 267 #[v1,.agg #[.int .i64 t.id,.int .i64 t.kind,.string t.text,.slice ka len kcap]] w2 (Yp (w.alloc (.cells #[.int .i64 t.id,.int .i64 t.kind,.string t.text,.slice ka len kcap] 35)).drew.heap.size (bs++qA t) w2)):=hH fun w2 v1 h1=>
  YE w2 _ v1 bs S _ t h1.here (fun x hx=>nL (hS x hx) hb1.size) ⟨ka,kcap,by rw[hlen],hkc,hk.kept fun x hx=>⟨hx,(h1.1.2.1.block x (nL (hS x hx) hb1.size)).trans (hb1.block x (hS x hx))⟩⟩ hl
 have HB:Hid (∀w2 v1 bs2,qy (w.alloc (.cells #[.int .i64 t.id,.int .i64 t.kind,.string t.text,.slice ka len kcap] 35)).drew.heap.size v1 bs2 (w.alloc (.cells #[.int .i64 t.id,.int .i64 t.kind,.string t.text,.slice ka len kcap] 35)).drew w2→ue5 w2 w.heap.size t.id t.kind t.text ka len kcap):=hH fun w2 v1 bs2 h1=>
  zcX ((h1.1.2.1.block _ (by show w.heap.size<(w.alloc _).heap.size;rw[WsaQ];omega)).trans hbox)
 clear hS hk hkc hlen hl hbox hby hby1 hn hb1
 go_enter Tryz.func264,Tryz.ntmps264
 go_wp2_with fail
 go_region_held3 (fun W=>ue5 W w.heap.size t.id t.kind t.text ka len kcap)
  (first | (go_keep;done) | exact⟨c0,c1,c2,c3⟩ | exact HB.out _ _ _ h1 | exact HB.out _ _ _ h2)
  (first
    | (go_at_call 120;refine HC.out.mono ?_;rintro e w2 ⟨v1,rfl,h1⟩)
    | (go_at_call 267;refine (HD.out _ _ h1).mono ?_;rintro e w3 ⟨v2,rfl,h2'⟩;have h2:=vw.since h1 h2'))
 have HF:=hH h2
 rename_i hheld
 clear h1 h2 h2' hheld c0 c1 c2 c3
 go_wp2_with fail
 go_ret
 have h3:=HF.out
 obtain⟨a',cap',rfl,h4,h5⟩:=Jr h3
 have hd:Below w.heap.size w (w.alloc (.cells #[.int .i64 t.id,.int .i64 t.kind,.string t.text,.slice ka len kcap] 35)).drew:=⟨H.out.os,H.out.tape,H.out.output,H.out.size,H.out.block⟩
 exact⟨a',_,cap',rfl,rfl,h4,fun ad e=>⟨NltQ H.out.size (h5 ad e).1,(h5 ad e).2⟩,hd.trans (h3.1.2.1.mono H.out.size)⟩
def qw (l:List Stp):List UInt8:=l.flatMap encS
theorem Zm (l:List Stp)(k:Nat)(x:Stp)(h:l[k]? =some x):qw (l.take (k+1))=qw (l.take k)++encS x:=by
 rw[List.take_add_one,h];simp[qw,List.flatMap_append]
theorem J4:∀(l:List Stp) (k:Nat),(qw (l.take k)).length≤(qw l).length
 | [],k=>by simp[qw]
 | x::l,0=>by simp[qw]
 | x ::l,k+1=>by
   have:=J4 l k
   simp only[qw,List.take_succ_cons,List.flatMap_cons,LlaQ] at this ⊢;omega
def zeE (w:World)(pre:List UInt8)(l:List Stp)(len:Nat)(v i:Value)(wr:World):Prop:=∃k:Nat,k≤len∧i= .int .i64 k∧qy w.heap.size v (pre++qw (l.take k)) w wr
theorem zhq (w:World)(S:Nat→Prop)(l:List Stp)(a sa:Option Addr)(n cap len scap:Nat)(bs:List UInt8)(hS:∀k,S k→k<w.heap.size)(hs:Zj w S sa l)(hlen:len=l.length)(hn:n=bs.length)(hby:yt w a bs)(hl:bs.length+8+(qw l).length≤1000000000000)(hl2:len≤1000000):
 Calls Tryz.prog 263 #[.slice a n cap,.slice sa len scap] w (zhF w (bs++zq (len:Int)++qw l)):=by
 have HC:=hH (zcZ w a n cap bs hn hby om)
 have HD:Hid (∀w2 v1,qy w.heap.size v1 bs w w2→Calls Tryz.prog 265 #[v1,.int .i64 (len:Int)] w2 (Yp w.heap.size (bs++zq (len:Int)) w)):=hH fun w2 v1 h1=>yK w2 w _ v1 bs _ h1 om
 have H:=hH (aN hS (aN hs (aN hlen hl)))
 clear hS hs hlen hl hn hby
 go_enter Tryz.func263,Tryz.ntmps263
 go_wp2_with (first
  | (go_at_call 120;refine HC.out.mono ?_;clear HC;rintro e w2 ⟨v1,rfl,h1⟩;have H1:=hH (HD.out _ _ h1);clear h1)
  | (go_at_call 265;refine H1.out.mono ?_;clear H1;rintro e w3 ⟨v2,rfl,h1⟩;have H2:=hH h1;clear h1))
 go_loopw [0,14] (fun v i wr=>zeE w (bs++zq (len:Int)) l len v i wr) (fun _ i _=>len - (intOf i).toNat)
 case atStart=>exact⟨0,NzlQ _,rfl,by simpa [qw] using H2.out⟩
 case round=>
  obtain⟨k,hk,rfl,hinv⟩:=hrel
  have HV:=hH hinv
  clear hinv
  by_cases hlt:k<len
  · obtain⟨x,hx⟩:∃x,l[k]? =some x:=⟨l[k]'uc5,List.getElem?_eq_getElem _⟩
    obtain⟨b,off,rfl,hSb,hc⟩:=(H.out.2.1.kept (w':=wr) (S':=S) fun y hy=>⟨hy,HV.out.1.2.1.block y (H.out.1 y hy)⟩) uc5
    obtain⟨ka,kcap,c0,c1,c2,c3,c4,c5,c6,c7,c8,hp,hf⟩:=hc k x hx
    have hbd:(qw (l.take (k+1))).length≤(qw l).length:=J4 l (k+1)
    rw[Zm l k x hx,LlaQ] at hbd
    have hadd:=fun (o:Obj)=>zaC (wr.alloc o) w.heap.size u0 _ S (.agg #[.int .i8 x.op,.int .i64 x.id,.int .i64 x.parent,.int .i64 x.place,.string x.text,.int .i64 x.sub.id,.int .i64 x.sub.kind,.string x.sub.text,.slice ka (foLen x.sub.kids) kcap]) x (HV.out.alloc o).here H.out.1 ⟨ka,kcap,rfl,hp,hf.kept fun y hy=>⟨hy,BhaQ _ _ _ (by have:=H.out.1 y hy;have:=HV.out.1.2.2;omega)⟩⟩ (by have:=H.out.2.2.2;simp only[LlaQ,zH];omega)
    obtain⟨m1,hm1⟩:∃m,m=foLen x.sub.kids:=⟨_,rfl⟩
    rw[←hm1] at hadd c8
    have HA:=hH hadd
    have HX:=hH (Zm l k x hx)
    have hkl:(k:Int)<(len:Int):=by omega
    clear hc hx hadd hf hp hm1 hbd hSb
    go_wp2_with (go_at_call 266;(with_reducible refine (HA.out _).mono ?_);clear HA;rintro e w4 ⟨v3,rfl,h1⟩;have HE:=hH (vw.since (HV.out.alloc _) h1);clear h1)
    have e9:bs++zq (len:Int)++qw (l.take k)++encS x=bs++zq (len:Int)++qw (l.take (k+1)):=by rw[HX.out,List.append_assoc]
    have h7:=HE.out
    refine⟨⟨k+1,by omega,by go_num,?_⟩,by simp[intOf];omega⟩
    rw[←e9];exact h7
  · have hkk:k=len:=by omega
    have HKK:=hH hkk
    have hkl:¬(k:Int)<(len:Int):=by omega
    clear hkk
    go_wp2_with fail
    go_ret
    have h8:=HV.out
    rw[HKK.out,H.out.2.2.1,List.take_length,←H.out.2.2.1,List.append_assoc] at h8
    obtain⟨a',cap',rfl,h4,h5⟩:=Jr h8
    exact⟨a',_,cap',rfl,rfl,h4,h5,h8.1.2.1⟩
end Go.Proofs.YtoidedomenkbpaaGreat
namespace Go.Proofs.YtoidedomenkbpaaGreat
open Go.RowKit Go.Shelf
open Extern.Stop (cell)
def vQ (s:Sf):Stp:=⟨s.op,s.id,s.par,s.at_,s.tx,s.sub⟩
theorem Ze {w:World}{a:Option Addr}{vs:List SV}(h:Row w a vs):Zj w (fun q=>q<w.heap.size) a ((steps vs).map vQ):=fun h0=>by
 have hl0:0<vs.length:=by simpa [steps] using h0
 obtain⟨x0,hx0⟩:∃x,vs[0]? =some x:=⟨_,List.getElem?_eq_getElem hl0⟩
 obtain⟨b,off,e,hb,_⟩:=h.cells 0 x0 hx0
 refine⟨b,off,e,hb,fun k x hx=>?_⟩
 rw[List.getElem?_map,Option.map_eq_some_iff] at hx
 obtain⟨s,hs,rfl⟩:=hx
 rw[steps,List.getElem?_map,Option.map_eq_some_iff] at hs
 obtain⟨y,hy,rfl⟩:=hs
 obtain⟨b',off',e',hb',hc⟩:=h.cells k y hy
 rw[e] at e'
 cases e'
 have hl:=h.lies y (List.mem_of_getElem? hy)
 exact⟨y.a,y.c,hc 0 _ rfl,hc 1 _ rfl,hc 2 _ rfl,hc 3 _ rfl,hc 4 _ rfl,hc 5 _ rfl,hc 6 _ rfl,hc 7 _ rfl,hc 8 _ rfl,hl.1,hl.2⟩
theorem JU {b wb:Nat}{bs bs2:List UInt8}{X Z:World}{a a' :Option Addr}{cap cap' L:Nat}(hL:L=bs2.length)(h1:X.heap[wb]? =some (.cells #[.slice a bs.length cap] 103 (0,0)))(h5:wb≠b)(h6:b<X.heap.size)(hb:Below X.heap.size X Z)(hat:yt Z a' bs2)(had:∀ad,a'=some ad→X.heap.size≤ad.block∧ad.block<Z.heap.size):
 (bs2.length≤1000000000000→ko b wb bs2 (Z.setCell ⟨wb,0,none⟩ (.slice a' L cap')))∧zb X (Z.setCell ⟨wb,0,none⟩ (.slice a' L cap')) (fun q=>q=wb):=by
 have e1:=(hb.block wb (lohQ h1)).trans h1
 have ht:zb Z (Z.setCell ⟨wb,0,none⟩ (.slice a' L cap')) (fun q=>q=wb):=zB
 refine⟨fun hl=>?_,(zA hb _).yg ht⟩
 refine⟨a',cap',?_,jA hat (fun ad e=>ht.block _ (had ad e).2 (by have:=(had ad e).1;have:=lohQ h1;omega)),fun ad e=>⟨by have:=(had ad e).1;omega,by have:=(had ad e).1;have:=lohQ h1;omega,nL (had ad e).2 ht.size⟩,hl,h5,nL h6 (NltQ hb.size ht.size)⟩
 rw[hssQ _ _ 0 _ _ _ e1,←hL];rfl
theorem zaw (b wb:Nat)(bs:List UInt8)(X:World)(la:Option Addr)(n c:Nat)(vs:List SV)(hn:n=vs.length)(hr:Row X la vs)(h:ko b wb bs X)(hl:bs.length+8+(qw ((steps vs).map vQ)).length≤1000000000000):
 Calls Tryz.prog 260 #[.pointer (some ⟨wb,0,none⟩),.slice la n c] X (fun e X'=>e= .returned (.slice la n c)∧((bs++zq (n:Int)++qw ((steps vs).map vQ)).length≤1000000000000→ko b wb (bs++zq (n:Int)++qw ((steps vs).map vQ)) X')∧zb X X' (fun q=>q=wb)):=by
 obtain⟨a,cap,h1,h2,h3,h4,h5,h6⟩:=h
 have k0:X.cell? ⟨wb,0,none⟩=some (.slice a bs.length cap):=by rw[corQ _ _ 0 _ _ _ h1];rfl
 have HP:=hH (zhq X (fun q=>q<X.heap.size) ((steps vs).map vQ) a la bs.length cap n c bs (fun _ h=>h) (Ze hr) (by rw[hn];simp[steps]) rfl h2 hl (by have:=hr.len;omega))
 obtain⟨E,hE⟩:∃E,E=bs++zq (n:Int)++qw ((steps vs).map vQ):=⟨_,rfl⟩
 rw[←hE] at HP ⊢
 have H1:=hH (aN h1 (aN h5 h6))
 clear hE h1 h2 h3 h4 h5 h6 hl hr hn
 go_enter Tryz.func260,Tryz.ntmps260
 go_wp2_with fail
 refine HP.out.mono ?_
 rintro e Z ⟨a',L,cap',rfl,hL,hat,had,hb⟩
 have HW:=hH (JU (cap':=cap') hL H1.out.1 H1.out.2.1 H1.out.2.2 hb hat had)
 have e1:=(hb.block wb (lohQ H1.out.1)).trans H1.out.1
 have z0:Z.cell? ⟨wb,0,none⟩=some (.slice a bs.length cap):=by rw[corQ _ _ 0 _ _ _ e1];rfl
 have zf:Z.frozen? ⟨wb,0,none⟩=false:=forQ _ _ 0 _ _ e1
 clear e1 hb hat had hL k0 HP
 go_wp2_with fail
 go_ret
 exact⟨rfl,HW.out.1,HW.out.2⟩
theorem zbX (b wb:Nat)(bs:List UInt8)(X:World)(S:Nat→Prop)(t:Tr)(ka:Option Addr)(kn kc:Nat)(hkn:kn=foLen t.kids)(hkc:foLen t.kids≤kc)(hS:∀y,S y→y<X.heap.size)(hk:zK X S t.kids ka)(h:ko b wb bs X)(hl:bs.length+(qA t).length≤1000000000000):
 Calls Tryz.prog 261 #[.pointer (some ⟨wb,0,none⟩),.agg #[.int .i64 t.id,.int .i64 t.kind,.string t.text,.slice ka kn kc]] X (fun e X'=>e= .returned (.agg #[.int .i64 t.id,.int .i64 t.kind,.string t.text,.slice ka kn kc])∧((bs++qA t).length≤1000000000000→ko b wb (bs++qA t) X')∧zb X X' (fun q=>q=wb)):=by
 obtain⟨a,cap,h1,h2,h3,h4,h5,h6⟩:=h
 obtain⟨B,hB⟩:∃B,B=zy X [.cells #[.int .i64 t.id,.int .i64 t.kind,.string t.text,.slice ka kn kc] 35,.cells #[.int .i64 0,.int .i64 0,.string ⟨#[]⟩,.slice none 0 0] 35]:=⟨_,rfl⟩
 have hb:Below X.heap.size X B:=by rw[hB];exact zu _ _
 have e0:B.heap[X.heap.size]? =some (.cells #[.int .i64 t.id,.int .i64 t.kind,.string t.text,.slice ka kn kc] 35 (0,0)):=by rw[hB];exact zi _ _ 0 _ rfl
 have e1:B.heap[X.heap.size+1]? =some (.cells #[.int .i64 0,.int .i64 0,.string ⟨#[]⟩,.slice none 0 0] 35 (0,0)):=by rw[hB];exact zi _ _ 1 _ rfl
 have hw0:=(hb.block wb (lohQ h1)).trans h1
 have hbyB:yt B a bs:=jA h2 (fun ad e=>hb.block _ (h3 ad e).2.2)
 obtain⟨SW,hSW⟩:∃SW:World→Prop,SW=fun Y=>Y.heap[X.heap.size]? =some (.cells #[.int .i64 t.id,.int .i64 t.kind,.string t.text,.slice ka kn kc] 35 (0,0)):=⟨_,rfl⟩
 have hbd:Below X.heap.size X B.drew:=below_drewN hb 1
 have hp:=zhP B.drew S (.agg #[.int .i64 t.id,.int .i64 t.kind,.string t.text,.slice ka kn kc]) t a bs.length cap bs (fun y hy=>nL (hS y hy) hb.size) ⟨ka,kc,by rw[hkn],hkc,hk.below hbd hS⟩ rfl hbyB hl
 obtain⟨E,hE⟩:∃E,E=bs++qA t:=⟨_,rfl⟩
 rw[←hE] at hp ⊢
 have HP:=hH hp
 have HB:=hH (aN hbd (aN hB (aN e0 e1)))
 have H1:=hH (aN h1 (aN h5 (aN h6 hw0)))
 have HC:=hH (fun (Y:World) (hY:SW Y)=>(show Y.cell? ⟨X.heap.size,0,none⟩=some (.int .i64 t.id)∧Y.cell? ⟨X.heap.size,1,none⟩=some (.int .i64 t.kind)∧Y.cell? ⟨X.heap.size,2,none⟩=some (.string t.text)∧Y.cell? ⟨X.heap.size,3,none⟩=some (.slice ka kn kc) by
  rw[hSW] at hY
  exact zaG hY))
 have hS0:SW B.drew:=by rw[hSW];exact e0
 have HSW:=hH hSW
 have hcell:B.drew.cell? ⟨wb,0,none⟩=some (.slice a bs.length cap):=by show B.cell? _=_;rw[corQ _ _ 0 _ _ _ hw0];rfl
 clear hE hp hbyB hb hbd hB e0 e1 hw0 h1 h2 h3 h4 h5 h6 hl hk hS hkn hkc hSW
 go_enter Tryz.func261,Tryz.ntmps261
 go_upto_region 1 with fail
 change Code.wp _ _ _ _ (zy X [.cells #[.int .i64 t.id,.int .i64 t.kind,.string t.text,.slice ka kn kc] 35,.cells #[.int .i64 0,.int .i64 0,.string ⟨#[]⟩,.slice none 0 0] 35])
 rw[←HB.out.2.1]
 refine wrhQ (S:=SW) kr1 hS0 (fun eH=>?_)
 clear hS0
 refine tJ (i:=0) (.pointer (some ⟨wb,0,none⟩)) rfl ?_ ?_
 · clear eH;intro Y hSw;clear hSw;go_simp
 simp only[Act.put,pg]
 refine tJ (i:=1) (.pointer (some ⟨wb,0,none⟩)) rfl ?_ ?_
 · clear eH;intro Y hSw;clear hSw;go_simp
 simp only[Act.put,pg]
 refine tJ (i:=2) (.pointer (some ⟨wb,0,none⟩)) rfl ?_ ?_
 · clear eH;intro Y hSw;clear hSw;go_simp
 simp only[Act.put,pg]
 refine tJ (i:=3) (.pointer (some ⟨wb,0,none⟩)) rfl ?_ ?_
 · clear eH;intro Y hSw;clear hSw;go_simp
 simp only[Act.put,pg]
 refine tJ (i:=5) (.agg #[.int .i64 t.id,.int .i64 t.kind,.string t.text,.slice ka kn kc]) rfl ?_ ?_
 · clear eH;intro Y hSw;obtain⟨n0,n1,n2,n3⟩:=HC.out Y hSw;clear hSw;go_simp
 simp only[Act.put,pg]
 have hH0:=eH
 refine rd [4] ?_
 refine AcQ (o:=_) rfl (fun K hK=>?_) AnQ
 rw[ipQ ue4]
 simp only[pg3]
 have HK:=hH hK
 have HS:=hH eH
 clear hK eH
 go_wp2_with fail
 refine HK.out _ _ hH0 (fun eH=>?_)
 clear HK HS hcell hH0
 refine rd [6] ?_
 refine AcQ (o:=_) rfl (fun K hK=>?_) AnQ
 rw[ipQ ue4]
 simp only[pg3]
 have HK:=hH hK
 have HS:=hH eH
 clear hK eH
 go_wp2_with fail
 refine HP.out.mono ?_
 rintro e Z ⟨a',L,cap',rfl,hL,hat,had,hz⟩
 have hbZ:Below X.heap.size X Z:=HB.out.1.trans (hz.mono HB.out.1.size)
 have hw:=JU (b:=b) (cap':=cap') hL H1.out.1 H1.out.2.1 H1.out.2.2.1 hbZ hat (fun ad e=>⟨NltQ HB.out.1.size (had ad e).1,(had ad e).2⟩)
 have e1:=(hz.block wb (nL (lohQ H1.out.1) HB.out.1.size)).trans H1.out.2.2.2
 have hw1:wb<X.heap.size:=lohQ H1.out.1
 have en:Z.heap[X.heap.size]? =some (.cells #[.int .i64 t.id,.int .i64 t.kind,.string t.text,.slice ka kn kc] 35 (0,0)):=(hz.block _ (lohQ (w:=B.drew) HB.out.2.2.1)).trans HB.out.2.2.1
 have ez:Z.heap[X.heap.size+1]? =some (.cells #[.int .i64 0,.int .i64 0,.string ⟨#[]⟩,.slice none 0 0] 35 (0,0)):=(hz.block _ (lohQ (w:=B.drew) HB.out.2.2.2)).trans HB.out.2.2.2
 have z0:Z.cell? ⟨wb,0,none⟩=some (.slice a bs.length cap):=by rw[corQ _ _ 0 _ _ _ e1];rfl
 have zf:Z.frozen? ⟨wb,0,none⟩=false:=forQ _ _ 0 _ _ e1
 obtain⟨V,hV⟩:∃V,V=Z.setCell ⟨wb,0,none⟩ (.slice a' L cap'):=⟨_,rfl⟩
 rw[←hV] at hw
 have enV:V.heap[X.heap.size]? =some (.cells #[.int .i64 t.id,.int .i64 t.kind,.string t.text,.slice ka kn kc] 35 (0,0)):=by rw[hV];exact (BhsQ _ _ _ _ ud5).trans en
 have ezV:V.heap[X.heap.size+1]? =some (.cells #[.int .i64 0,.int .i64 0,.string ⟨#[]⟩,.slice none 0 0] 35 (0,0)):=by rw[hV];exact (BhsQ _ _ _ _ ud5).trans ez
 obtain⟨U,hU,v1,v2,v3,v4,v5,v6⟩:=QD (u0:= .int .i64 t.id) (u1:= .int .i64 t.kind) (u2:= .string t.text) (u3:= .slice ka kn kc) ezV
 have HU:=hH (aN hU v1)
 have hsz:X.heap.size+2≤B.drew.heap.size:=by show X.heap.size+2≤B.heap.size;rw[HB.out.2.1,qa];exact NlrQ _
 have HEND:=hH (show (E.length≤1000000000000→ko b wb E U)∧zb X U (fun q=>q=wb) from⟨fun hl=>by
  obtain⟨a2,cap2,g1,g2,g3,g4,g5,g6⟩:=hw.1 hl
  refine⟨a',cap',?_,?_,?_,hl,g5,by rw[v6];exact g6⟩
  · rw[v2 wb om,hV,hssQ _ _ 0 _ _ _ e1,←hL];rfl
  · refine jA hat (fun ad e=>?_)
    have:=(had ad e).1
    rw[v2 _ om,hV]
    exact BhsQ _ _ _ _ ud5
  · intro ad e
    have:=(had ad e).1
    have:=(had ad e).2
    have:=H1.out.2.2.1
    have hvz:V.heap.size=Z.heap.size:=by rw[hV];simp[World.setCell]
    exact⟨by omega,by omega,by rw[v6,hvz];omega⟩,⟨v3.trans hw.2.os,v4.trans hw.2.tape,v5.trans hw.2.output,by rw[v6];exact hw.2.size,fun q h1 h2=>(v2 q om).trans (hw.2.block q h1 h2)⟩⟩)
 have HS1:=hH (aN (show SW Z by rw[HSW.out];exact en) (show SW V by rw[HSW.out];exact enV))
 have HV:=hH (aN hV (aN enV ezV))
 clear hbZ hw e1 en ez enV ezV hU v1 v2 v3 v4 v5 v6 hV hL hat had hz hw1
 go_wp2_with fail
 refine HK.out _ _ HS1.out.1 (fun eH=>?_)
 clear HK HS
 refine tJ (i:=7) (.pointer (some ⟨wb,0,none⟩)) rfl ?_ ?_
 · clear eH;intro Y hSw;clear hSw;go_simp
 simp only[Act.put,pg]
 refine tJ (i:=8) (.pointer (some ⟨wb,0,none⟩)) rfl ?_ ?_
 · clear eH;intro Y hSw;clear hSw;go_simp
 simp only[Act.put,pg]
 refine rd [9] ?_
 refine AcQ (o:=_) rfl (fun K hK=>?_) AnQ
 rw[ipQ ue4]
 simp only[pg3]
 have HK:=hH hK
 have HS:=hH eH
 clear hK eH
 go_wp2_with fail
 rw[←HV.out.1]
 refine HK.out _ _ HS1.out.2 (fun eH=>?_)
 clear HK HS z0 zf
 refine wpAnyH_done kr1 ?_ _
 clear eH
 obtain⟨n0,n1,n2,n3⟩:=zaG HV.out.2.1
 obtain⟨m0,m1,m2,m3⟩:=zaG HV.out.2.2
 have mf:∀j,V.frozen? ⟨X.heap.size+1,j,none⟩=false:=fun j=>forQ _ _ j _ _ HV.out.2.2
 go_wp2_with fail
 rw[←HU.out.1]
 refine brQ (yh rfl _ _ (X.heap.size+1) 35 _ (0,0) _ rfl HU.out.2 Tryz.underlying35 rfl kr1) rfl ?_
 exact⟨rfl,HEND.out.1,HEND.out.2⟩
end Go.Proofs.YtoidedomenkbpaaGreat
namespace Go.Proofs.YtoidedomenkbpaaGreat
open Go.RowKit Go.Shelf
theorem QJ {d c:Nat}{k:Int×Int×ByteArray}(h:vk d c k=true):k.2.2.size≤40:=by
 simp only[vk,Bool.and_eq_true,decide_eq_true_eq] at h
 exact h.2
theorem Zf:∀(d c:Nat) (f:Fo) (m:Nat),vH d c f=some m→c≤m∧(vv f).length≤72*(m - c)
 | d,c,.nil,m,h=>by simp only[vH] at h;cases h;exact⟨NlrQ _,by simp[vv]⟩
 | d, c, .node b o k l r,m,h=>by
   simp only[vH] at h
   split at h
   · rename_i hw
     have h1:=QJ hw
     split at h
     · rename_i p hp
       have h2:=Zf _ _ l p hp
       have h3:=Zf d p r m h
       refine⟨by omega,?_⟩
       rw[vv,LlaQ,LlaQ,qI]
       omega
     · cases h
   · cases h
theorem ja {t:Tr}(h:zU t=true):(qA t).length≤20000:=by
 unfold zU qV at h
 split at h
 · rename_i hw
   have h1:=QJ hw
   obtain⟨m,hm⟩:=Option.isSome_iff_exists.1 h
   have h2:=Zf _ _ _ _ hm
   have h3:=(vV _ _ _ _ hm om).1
   rw[qA,LlaQ,qI]
   show 32+t.text.size+_≤_
   have h4:t.text.size≤40:=h1
   omega
 · simp at h
theorem kH {s:ByteArray}(h:s.toList=(⟨#[]⟩:ByteArray).toList):s.size=0:=by
 rw[ByteArray.toList_eq,ByteArray.toList_eq] at h
 rw[←vZ,h];rfl
theorem ZX {t:Tr}(h:zL t zo=true):(qA t).length=32:=by
 obtain⟨i,k,x,f⟩:=t
 simp only[zL,Yl,Bool.and_eq_true,decide_eq_true_eq] at h
 obtain⟨⟨_,_,hx⟩,hl,_⟩:=h
 have hx2:x.size=0:=kH hx
 cases f with
 | nil=>rw[qA,LlaQ,qI];show 32+x.size+0=32;omega
 | node _ _ _ _ _=>simp[foLen,zo] at hl
theorem zbP {s:Sf}(h:yM s=true):(encS (vQ s)).length≤21000:=by
 rw[kT]
 show 33+s.tx.size+(qA s.sub).length≤21000
 simp only[yM,Bool.and_eq_true] at h
 obtain⟨hn,he⟩:=h
 simp only[eqS,Bool.and_eq_true,decide_eq_true_eq] at he
 obtain⟨h0,h1,h2,h3,h4,h5⟩:=he
 unfold zfh at h4 h5
 unfold zaa at hn
 by_cases o1:s.op=1
 · rw[ipQ o1] at h4 h5 hn
   simp only[Bool.and_eq_true] at hn
   have:=kH h4
   have:=ja hn.2.2
   omega
 rw[inQ o1] at h4 h5 hn
 by_cases o2:s.op=2
 · rw[ipQ o2] at h4 h5
   have:=kH h4
   have:=ZX h5
   omega
 rw[inQ o2] at h4 h5 hn
 by_cases o3:s.op=3
 · rw[ipQ o3] at h4 h5
   have:=kH h4
   have:=ZX h5
   omega
 rw[inQ o3] at h4 h5 hn
 by_cases o4:s.op=4
 · rw[ipQ o4] at h4 h5 hn
   simp only[Bool.and_eq_true,decide_eq_true_eq] at hn
   have:=ZX h5
   omega
 · rw[inQ o4] at hn
   cases hn
theorem Jw:∀(l:List Sf),l.all yM=true→(qw (l.map vQ)).length≤21000*l.length
 | [],_=>by simp[qw]
 | s ::l,h=>by
   simp only[List.all_cons,Bool.and_eq_true] at h
   have h1:=zbP h.1
   have h2:=Jw l h.2
   simp only[List.map_cons,qw,List.flatMap_cons,LlaQ,LlcQ] at h2 ⊢
   omega
theorem jk {l:List Sf}(h:zM l=true):(qw (l.map vQ)).length≤1260000:=by
 simp only[zM,Bool.and_eq_true,decide_eq_true_eq] at h
 have h1:=Jw l h.2
 have h2:l.length≤60:=by
  have:=h.1
  unfold jB at this
  split at this
  · rename_i ho;exact ((jm l).1 ho).1
  · cases this
 omega
end Go.Proofs.YtoidedomenkbpaaGreat
namespace Go.Proofs.YtoidedomenkbpaaGreat
open Go.RowKit
open Extern.Stop (cell)
theorem zby (w:World)(o:Obj):qy (w.alloc o).heap.size (.slice none 0 0) [] (w.alloc o) (w.alloc o):=qy.none _
theorem zaH {w w' :World}{a0 a1 a2 a3 a4 a5 a6 a7 a8:Value}{t:TypeId}(h1:w'.heap[w.heap.size]? =some (.cells #[a0,a1,a2,a3,a4,a5,a6,a7,a8] t (0,0))):(w'.cell? ⟨w.heap.size,0,none⟩=some a0∧w'.cell? ⟨w.heap.size,1,none⟩=some a1∧w'.cell? ⟨w.heap.size,2,none⟩=some a2∧w'.cell? ⟨w.heap.size,3,none⟩=some a3∧w'.cell? ⟨w.heap.size,4,none⟩=some a4)∧w'.cell? ⟨w.heap.size,5,none⟩=some a5∧w'.cell? ⟨w.heap.size,6,none⟩=some a6∧w'.cell? ⟨w.heap.size,7,none⟩=some a7∧w'.cell? ⟨w.heap.size,8,none⟩=some a8:=
 ⟨⟨by rw[corQ _ _ 0 _ _ _ h1];rfl,by rw[corQ _ _ 1 _ _ _ h1];rfl,by rw[corQ _ _ 2 _ _ _ h1];rfl,by rw[corQ _ _ 3 _ _ _ h1];rfl,by rw[corQ _ _ 4 _ _ _ h1];rfl⟩,by rw[corQ _ _ 5 _ _ _ h1];rfl,by rw[corQ _ _ 6 _ _ _ h1];rfl,by rw[corQ _ _ 7 _ _ _ h1];rfl,by rw[corQ _ _ 8 _ _ _ h1];rfl⟩
theorem zh1 (w:World)(S:Nat→Prop)(sv:Value)(s:Stp)(ad:Addr)(n cap:Nat)(bs:List UInt8)(hS:∀k,S k→k<w.heap.size)(hs:zhH w S sv s)(hn:n=bs.length)(hby:yt w (some ad) bs)(hl:bs.length+(encS s).length≤1000000000000):
 Calls Tryz.prog 116 #[.slice (some ad) n cap,sv] w (zdr w (bs++encS s)):=by
 obtain⟨ka,kcap,rfl,hcap,hk⟩:=hs
 rw[kT] at hl
 subst hn
 obtain⟨i0,hi,hz,hsz,hb0⟩:=ZR Tryz.QF
 have HI:=hH (aN hi (aN hz (aN hsz hb0)))
 obtain⟨len,hlen⟩:∃len,len=foLen s.sub.kids:=⟨_,rfl⟩
 rw[←hlen]
 have hb1:Below w.heap.size w (w.alloc (.cells #[.int .i8 s.op,.int .i64 s.id,.int .i64 s.parent,.int .i64 s.place,.string s.text,.int .i64 s.sub.id,.int .i64 s.sub.kind,.string s.sub.text,.slice ka len kcap] 41)):=(BrQ _ _).alloc (NlrQ _) _
 have H:=hH (aN hS (aN hk (aN hl (aN hcap (aN hlen (aN hb1 ((hby.below hb1).2 ad rfl)))))))
 clear hS hk hl hcap hlen hi hz hsz hb0 hb1 hby
 go_enter Tryz.func116,Tryz.ntmps116
 go_wp2_with (first
  | (at_builtin;refine Yn rfl (.tmp 6) (.tmp 7) 45 rfl _ i0 Tryz.underlying45 HI.out.1 HI.out.2.1 HI.out.2.2.1 HI.out.2.2.2 (.slice none 0 0) 0 [] rfl _ (zby w _) ad cap bs rfl H.out.2.2.2.2.2.2 uc5 ?_;intro v0 w1 ho;have d0:=(Yr ho.2 rfl).1.1;have HO:Hid (qy (w.alloc (.cells #[.int .i8 s.op,.int .i64 s.id,.int .i64 s.parent,.int .i64 s.place,.string s.text,.int .i64 s.sub.id,.int .i64 s.sub.kind,.string s.sub.text,.slice ka len kcap] 41)).heap.size v0 bs (w.alloc (.cells #[.int .i8 s.op,.int .i64 s.id,.int .i64 s.parent,.int .i64 s.place,.string s.text,.int .i64 s.sub.id,.int .i64 s.sub.kind,.string s.sub.text,.slice ka len kcap] 41)) w1):=hH (by simpa using ho);clear ho)
  | (at_builtin;refine jb rfl (.tmp 9) (.tmp 13) 45 rfl _ i0 Tryz.underlying45 HI.out.1 HI.out.2.1 HI.out.2.2.1 HI.out.2.2.2 _ bs.length (bs.map cell) rfl _ _ _ HO.out _ rfl rfl uc5 ?_;intro v1 w2 ho;have h1:=qy.more (YQ _) ho;have hb:=H.out.2.2.2.2.2.1.trans (h1.1.2.1.mono H.out.2.2.2.2.2.1.size);have hx:=h1.2 _ _ (hanQ w _) rfl;have d1:=(zaH hx).1.2.1;obtain⟨a1,c1,rfl,h2⟩:=qy.zfX h1;obtain⟨n1,hn1⟩:∃n,n=(bs++[kX s.op]).length:=⟨_,rfl⟩;rw[←hn1];have HX:=hH (aN hx hb);have HA:=hH (Zd w2 a1 n1 c1 _ s.id hn1 h2 (by have:=H.out.2.2.1;simp only[LlaQ,List.length_singleton];omega));clear ho h1 hb hx h2 hn1 HO)
  | (go_at_call 72;(with_reducible refine HA.out.mono ?_);clear HA;rintro e w3 ⟨a2,n2,c2,rfl,hn,h1,h2⟩;have hx:=qX HX.out.1 h2;have d2:=(zaH hx).1.2.2.1;have HX2:=hH (aN hx (HX.out.2.trans (h2.mono HX.out.2.size)));have HB:=hH (Zd w3 a2 n2 c2 _ s.parent hn h1 ub4);clear hn h1 h2 hx HX)
  | (go_at_call 72;(with_reducible refine HB.out.mono ?_);clear HB;rintro e w4 ⟨a3,n3,c3,rfl,hn,h1,h2⟩;have hx:=qX HX2.out.1 h2;have d3:=(zaH hx).1.2.2.2.1;have HX3:=hH (aN hx (HX2.out.2.trans (h2.mono HX2.out.2.size)));have HC:=hH (Zd w4 a3 n3 c3 _ s.place hn h1 ub4);clear hn h1 h2 hx HX2)
  | (go_at_call 72;(with_reducible refine HC.out.mono ?_);clear HC;rintro e w5 ⟨a4,n4,c4,rfl,hn,h1,h2⟩;have hx:=qX HX3.out.1 h2;have d4:=(zaH hx).1.2.2.2.2;have HX4:=hH (aN hx (HX3.out.2.trans (h2.mono HX3.out.2.size)));have HD:=hH (zg1 w5 a4 n4 c4 _ s.text hn h1 ub4);clear hn h1 h2 hx HX3)
  | (go_at_call 117;(with_reducible refine HD.out.mono ?_);clear HD;rintro e w6 ⟨a5,n5,c5,rfl,hn,h1,h2⟩;have hx:=qX HX4.out.1 h2;obtain⟨d5,d6,d7,d8⟩:=(zaH hx).2;have hb:=HX4.out.2.trans (h2.mono HX4.out.2.size);have HE:=hH (aN hb (Zb _ w6 S (.agg #[.int .i64 s.sub.id,.int .i64 s.sub.kind,.string s.sub.text,.slice ka len kcap]) s.sub a5 n5 c5 _ (Nat.lt_succ_self _) (fun x hx=>nL (H.out.1 x hx) hb.size) ⟨ka,kcap,by rw[H.out.2.2.2.2.1],H.out.2.2.2.1,H.out.2.1.kept fun x hx=>⟨hx,hb.block x (H.out.1 x hx)⟩⟩ hn h1 (by have:=H.out.2.2.1;simp only[LlaQ,List.length_singleton,zH,vZ];omega)));clear hn h1 h2 hx hb HX4)
  | (go_at_call 74;(with_reducible refine HE.out.2.mono ?_);rintro e w7 ⟨a6,n6,c6,rfl,hn,h1,h2⟩;have HF:=hH (aN hn (aN h1 (HE.out.1.trans (h2.mono HE.out.1.size))));clear hn h1 h2))
 go_ret
 have e9:bs++encS s=bs++[kX s.op]++zq s.id++zq s.parent++zq s.place++(zq (s.text.size:Int)++s.text.data.toList)++qA s.sub:=by simp[encS,List.append_assoc]
 refine⟨a6,n6,c6,rfl,?_,?_,HF.out.2.2⟩
 · rw[e9];exact HF.out.1
 · rw[e9];exact HF.out.2.1
def zay (bs:List UInt8)(v:Value)(w' :World):Prop:=∃ad n cap,v= .slice (some ad) n cap∧n=bs.length∧yt w' (some ad) bs
theorem zay.of {bs:List UInt8}{a:Option Addr}{n cap:Nat}{w' :World}(hn:n=bs.length)(h:yt w' a bs)(h0:bs≠[]):zay bs (.slice a n cap) w':=by
 cases a with
 | none=>exact absurd (h.1 rfl) h0
 | some ad=>exact⟨ad,n,cap,rfl,hn,h⟩
def zdt (w:World)(pre:List UInt8)(l:List Stp)(len:Nat)(v i:Value)(wr:World):Prop:=∃k:Nat,k≤len∧i= .int .i64 k∧zay (pre++qw (l.take k)) v wr∧Below w.heap.size w wr
theorem zda (bs:List UInt8)(n:Int)(c:List UInt8):bs++zq n++c≠[]:=by
 intro h
 have:=congrArg List.length h
 simp[zH] at this
theorem zfn (w:World)(S:Nat→Prop)(l:List Stp)(a sa:Option Addr)(n cap len scap:Nat)(bs:List UInt8)(hS:∀k,S k→k<w.heap.size)(hs:Zj w S sa l)(hlen:len=l.length)(hn:n=bs.length)(hby:yt w a bs)(hl:bs.length+8+(qw l).length≤1000000000000)(hl2:len≤1000000):
 Calls Tryz.prog 73 #[.slice a n cap,.slice sa len scap] w (zdr w (bs++zq (len:Int)++qw l)):=by
 have HC:=hH (Zd w a n cap bs (len:Int) hn hby om)
 have H:=hH (aN hS (aN hs (aN hlen hl)))
 clear hS hs hlen hl hn hby
 go_enter Tryz.func73,Tryz.ntmps73
 go_wp2_with (go_at_call 72;(with_reducible refine HC.out.mono ?_);clear HC;rintro e w2 ⟨a1,n1,c1,rfl,hn,h1,h2⟩;have H1:=hH (aN (zay.of (cap:=c1) hn h1 (by have:=zda bs (len:Int) [];simpa using this)) h2);clear hn h1 h2)
 go_loopw [0,5] (fun v i wr=>zdt w (bs++zq (len:Int)) l len v i wr) (fun _ i _=>len - (intOf i).toNat)
 case atStart=>exact⟨0,NzlQ _,rfl,by simpa [qw] using H1.out.1,H1.out.2⟩
 case round=>
  obtain⟨k,hk,rfl,⟨ad,n2,cc2,rfl,hn2,hb2⟩,hbel⟩:=hrel
  by_cases hlt:k<len
  · obtain⟨x,hx⟩:∃x,l[k]? =some x:=⟨l[k]'uc5,List.getElem?_eq_getElem _⟩
    obtain⟨b,off,rfl,hSb,hc⟩:=(H.out.2.1.kept (w':=wr) (S':=S) fun y hy=>⟨hy,hbel.block y (H.out.1 y hy)⟩) uc5
    obtain⟨ka,kcap,c0,c1,c2,c3,c4,c5,c6,c7,c8,hp,hf⟩:=hc k x hx
    have hbd:(qw (l.take (k+1))).length≤(qw l).length:=J4 l (k+1)
    rw[Zm l k x hx,LlaQ] at hbd
    have hadd:=zh1 wr S (.agg #[.int .i8 x.op,.int .i64 x.id,.int .i64 x.parent,.int .i64 x.place,.string x.text,.int .i64 x.sub.id,.int .i64 x.sub.kind,.string x.sub.text,.slice ka (foLen x.sub.kids) kcap]) x ad n2 cc2 _ (fun y hy=>nL (H.out.1 y hy) hbel.size) ⟨ka,kcap,rfl,hp,hf⟩ hn2 hb2 (by have:=H.out.2.2.2;simp only[LlaQ,zH];omega)
    obtain⟨m1,hm1⟩:∃m,m=foLen x.sub.kids:=⟨_,rfl⟩
    rw[←hm1] at hadd c8
    have HA:=hH hadd
    have HX:=hH (aN (Zm l k x hx) hbel)
    have hkl:(k:Int)<(len:Int):=by omega
    clear hc hx hadd hf hp hm1 hbd hSb hbel hn2 hb2
    go_wp2_with (go_at_call 116;(with_reducible refine HA.out.mono ?_);clear HA;rintro e w4 ⟨a3,n3,c3',rfl,hn,h1,h2⟩;have HE:=hH (aN hn (aN h1 h2));clear hn h1 h2)
    have e9:bs++zq (len:Int)++qw (l.take k)++encS x=bs++zq (len:Int)++qw (l.take (k+1)):=by rw[HX.out.1,List.append_assoc]
    have h7:=HE.out
    rw[e9] at h7
    exact⟨⟨k+1,by omega,by go_num,zay.of h7.1 h7.2.1 (zda _ _ _),HX.out.2.trans (h7.2.2.mono HX.out.2.size)⟩,by simp[intOf];omega⟩
  · have hkk:k=len:=by omega
    have HKK:=hH hkk
    have HV:=hH (aN hn2 (aN hb2 hbel))
    have hkl:¬(k:Int)<(len:Int):=by omega
    clear hkk hn2 hb2 hbel
    go_wp2_with fail
    go_ret
    have h8:=HV.out
    rw[HKK.out,H.out.2.2.1,List.take_length,←H.out.2.2.1,List.append_assoc] at h8
    exact⟨_,n2,cc2,rfl,h8.1,h8.2.1,h8.2.2⟩
end Go.Proofs.YtoidedomenkbpaaGreat
