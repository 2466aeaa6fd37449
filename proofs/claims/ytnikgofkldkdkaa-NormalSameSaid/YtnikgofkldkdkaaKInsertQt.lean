/-
  .
-/
import Derived.Test.YtnikgofkldkdkaaKIdsQt
import Derived.Test.YtnikgofkldkdkaaNMapQt
set_option maxRecDepth 100000
set_option maxHeartbeats 40000000
set_option linter.unusedVariables false
set_option linter.unusedSimpArgs false
namespace Go.Proofs.Ytnikgofkldkdkaa
open Go.RowKit Go.Shelf
theorem zh3 {w:World}{B B' :Nat}{e:TypeId}{size:Nat}{v:Value}{n:Nat}{xs:List Value}(h:w.ownsRow B e size v n xs)(hB:B'≤B):w.ownsRow B' e size v n xs:=
 ⟨h.1,h.2.imp (fun h=>h) (fun ⟨g,c,cur,h1,h2,h3⟩=>⟨g,c,cur,h1,NltQ hB h2,h3⟩)⟩
def zjO (w:World)(l:List Int)(e:Ending)(w' :World):Prop:=∃a c,e= .returned (.slice a l.length c)∧w'.ownsRow w.heap.size 3 1 (.slice a l.length c) l.length (l.map Qk)∧Below w.heap.size w w'
theorem zcU (w:World)(S:Nat→Prop)(nv:Value)(t:Tr)(up:Int)(UP:Nat)(hUP:up=(UP:Int))(hS:∀y,S y→y<w.heap.size)(ht:zK w S nv t)(hsz:1≤up)(hup:up≤1000000):
 Calls Try.prog 52 #[nv,.int .i64 up] w (zjO w ((idT t).take UP)):=by
 have hmf:∀(fn:Fn) (first cap:Array Value) (w:World),(Instr.makeFunc fn first cap).run Try.prog w= .ok (.func fn first cap) w:=fun _ _ _ _=>rfl
 obtain⟨ka,tc,rfl,hcap,hk⟩:=ht
 obtain⟨nk,hnk⟩:∃nk,nk=foLen t.kids:=⟨_,rfl⟩
 rw[←hnk]
 obtain⟨DV,hDV⟩:∃DV,DV=Value.func (.func 85) #[] #[.pointer (some ⟨w.heap.size+1+1,0,none⟩),.pointer (some ⟨w.heap.size+1,0,none⟩),.pointer (some ⟨w.heap.size+1+1+1,0,none⟩)]:=⟨_,rfl⟩
 obtain⟨W,hW⟩:∃W,W=zx w [.cells #[.int .i64 t.id,.int .i64 t.kind,.string t.text,.slice ka nk tc] 27,.cells #[.int .i64 up] 3,.cells #[.slice none 0 0] 65,.cells #[DV] 139]:=⟨_,rfl⟩
 have hb:Below w.heap.size w W:=by rw[hW];exact zl _ _
 have hs:W.heap.size=w.heap.size+4:=by rw[hW];exact zJ _ _
 have h0:W.heap[w.heap.size]? =some (.cells #[.int .i64 t.id,.int .i64 t.kind,.string t.text,.slice ka nk tc] 27 (0,0)):=by rw[hW];exact ze _ _ 0 _ rfl
 have h1:W.heap[w.heap.size+1]? =some (.cells #[.int .i64 up] 3 (0,0)):=by rw[hW];exact ze _ _ 1 _ rfl
 have h2:W.heap[w.heap.size+1+1]? =some (.cells #[.slice none 0 0] 65 (0,0)):=by rw[hW];exact ze _ _ 2 _ rfl
 have h3:W.heap[w.heap.size+1+1+1]? =some (.cells #[DV] 139 (0,0)):=by rw[hW];exact ze _ _ 3 _ rfl
 have hIW:IdW W (w.heap.size+1+1) (w.heap.size+1) (w.heap.size+1+1+1) up:=⟨by rw[h3,hDV],h1,⟨by omega,by omega⟩,⟨by omega,by omega⟩,by omega⟩
 obtain⟨b0,b1,b2,b3⟩:=zH h0
 have hkW:zk W (fun y=>S y∨y=w.heap.size) t.kids ka:=hk.kept (w':=W) fun y hy=>⟨Or.inl hy,hb.block y (hS y hy)⟩
 have hnode:kI W (fun y=>S y∨y=w.heap.size) t w.heap.size 0:=⟨Or.inr rfl,b0,b1,b2,ka,tc,by rw[←hnk];exact b3,hcap,hkW⟩
 have hIA:Jr W (w.heap.size+1+1) (w.heap.size+1) (w.heap.size+1+1+1) up [] W:=⟨⟨none,0,h2,World.ownsRow_nil _ _ _ _⟩,fun _ _ _=>rfl,NlrQ _,rfl,rfl,rfl⟩
 have hc:=zhq hUP hIW (S:=fun y=>S y∨y=w.heap.size) (fun y hy=>by rcases hy with hy | hy;have:=hS y hy;exact⟨by omega,by omega⟩;exact⟨by omega,by omega⟩) hup (za t.kids+1) W [] t w.heap.size 0 (Nat.lt_succ_self _) hnode hIA (by simp only[List.length_nil];omega)
 rw[List.nil_append] at hc
 have HC:=hH (aN hc (aN hb (aN hs hW)))
 have HDV:=hH hDV
 clear hc hb hs hW h0 h1 h2 h3 hUP hIW b0 b1 b2 b3 hkW hnode hIA hDV hS hk hcap hsz hup hnk
 go_enter Try.func52,Try.ntmps52
 go_wp2_with fail
 have hWW:=HC.out.2.2.2
 rw[HDV.out] at hWW
 change Calls _ _ _ (zx w [.cells #[.int .i64 t.id,.int .i64 t.kind,.string t.text,.slice ka nk tc] 27,.cells #[.int .i64 up] 3,.cells #[.slice none 0 0] 65,.cells #[Value.func (.func 85) #[] #[.pointer (some ⟨w.heap.size+1+1,0,none⟩),.pointer (some ⟨w.heap.size+1,0,none⟩),.pointer (some ⟨w.heap.size+1+1+1,0,none⟩)]] 139]) _
 rw[←hWW]
 clear hWW
 refine HC.out.1.mono ?_
 rintro e X ⟨rfl,hX⟩
 obtain⟨a,c,hl,hro⟩:=hX.row
 have hl0:X.cell? ⟨w.heap.size+1+1,0,none⟩=some (.slice a ((idT t).take UP).length c):=by rw[corQ _ _ 0 _ _ _ hl];rfl
 have hbX:Below w.heap.size w X:=⟨hX.os.trans HC.out.2.1.os,hX.tape.trans HC.out.2.1.tape,hX.output.trans HC.out.2.1.output,NltQ HC.out.2.1.size hX.size,fun y hy=>(hX.below y (by have:=HC.out.2.2.1;omega) om).trans (HC.out.2.1.block y hy)⟩
 have HE:=hH (aN (zh3 hro HC.out.2.1.size) hbX)
 obtain⟨L,hL⟩:∃L,L=(idT t).take UP:=⟨_,rfl⟩
 rw[←hL] at hl0 HE
 have HL:=hH hL
 obtain⟨n,hn⟩:∃n,n=L.length:=⟨_,rfl⟩
 rw[←hn] at hl0
 have HN:=hH hn
 clear hl hro hX hbX hL hn
 go_wp2_with fail
 go_ret
 exact⟨a,c,by rw[←HL.out,←HN.out];rfl,by have h:=HE.out.1;rw[HL.out] at h;exact h,HE.out.2⟩
theorem ze8 (w:World)(S:Nat→Prop)(nv:Value)(t:Tr)(up:Int)(hS:∀y,S y→y<w.heap.size)(ht:zK w S nv t)(hsz:((za t.kids+1:Nat):Int)≤up)(hup:up≤1000000):
 Calls Try.prog 52 #[nv,.int .i64 up] w (zjO w (idT t)):=by
 have h:=zcU w S nv t up up.toNat om hS ht om hup
 rw[List.take_of_length_le (by rw[Zk];omega)] at h
 exact h
theorem zaf (w:World)(S:Nat→Prop)(nv:Value)(t:Tr)(hS:∀y,S y→y<w.heap.size)(ht:zK w S nv t):
 Calls Try.prog 38 #[nv] w fun e w'=>e= .returned (.bool (decide (2000<za t.kids+1)))∧Below w.heap.size w w':=by
 obtain⟨ka,tc,rfl,hcap,hk⟩:=ht
 have hb:Below w.heap.size w (w.alloc (.cells #[.int .i64 t.id,.int .i64 t.kind,.string t.text,.slice ka (foLen t.kids) tc] 27)):=(BrQ _ _).alloc (NlrQ _) _
 have hc:=zcU (w.alloc (.cells #[.int .i64 t.id,.int .i64 t.kind,.string t.text,.slice ka (foLen t.kids) tc] 27)) S (.agg #[.int .i64 t.id,.int .i64 t.kind,.string t.text,.slice ka (foLen t.kids) tc]) t 2001 2001 rfl (fun y hy=>nL (hS y hy) hb.size) ⟨ka,tc,rfl,hcap,hk.below hb hS⟩ om om
 obtain⟨nk,hnk⟩:∃nk,nk=foLen t.kids:=⟨_,rfl⟩
 rw[←hnk] at hc hb ⊢
 obtain⟨n,hn⟩:∃n,n=((idT t).take 2001).length:=⟨_,rfl⟩
 obtain⟨q,hq⟩:∃q,q=decide (2000<za t.kids+1):=⟨_,rfl⟩
 have hn2:decide ((2000:Int)<(n:Int))=q:=by
  rw[hq,hn,List.length_take,Zk]
  by_cases h:2000<za t.kids+1
  · rw[decide_eq_true om,decide_eq_true h]
  · rw[decide_eq_false om,decide_eq_false h]
 rw[←hq]
 have HC:=hH (aN hc (aN hb hn))
 clear hc hb hn hk hcap hS hnk hq
 go_enter Try.func38,Try.ntmps38
 go_wp2_with fail
 refine HC.out.1.mono ?_
 rintro e w2 ⟨a,c,rfl,_,hb2⟩
 rw[←HC.out.2.2]
 have HN2:=hH hn2
 have HB:=hH (HC.out.2.1.trans (hb2.mono HC.out.2.1.size))
 clear hb2 hn2
 go_wp2_with fail
 go_ret
 refine⟨?_,HB.out⟩
 show Ending.returned (.bool (decide ((2000:Int)<(n:Int))))=_
 rw[HN2.out]
theorem qP (w:World)(S:Nat→Prop)(nv:Value)(t:Tr)(hS:∀y,S y→y<w.heap.size)(ht:zK w S nv t)(hsz:za t.kids+1≤2000):
 Calls Try.prog 38 #[nv] w fun e w'=>e= .returned (.bool false)∧Below w.heap.size w w':=by
 have h:=zaf w S nv t hS ht
 rw[decide_eq_false om] at h
 exact h
end Go.Proofs.Ytnikgofkldkdkaa
namespace Go.Proofs.Ytnikgofkldkdkaa
open Go.RowKit Go.Shelf
open Go.Maps
def qw:List Int→List Int→Int→Int
 | _,[],e=>e
 | l,i::r,e=>if i<1∨1125899906842624<i then 2 else qw (l++[i]) r (if l.any (· == i)=true then 60 else e)
theorem YO {w:World}{b n:Nat}{l:List Int}{i:Int}(h:w.ownsMap Try.prog 3 (unitElem (H:=Value)) b n ((setOf (.agg []) (l.map (Lit.int .i64 ·))).put (.int .i64 i) (.agg []))):ZI w b n (l++[i]):=by
 unfold ZI
 rw[List.map_append,List.map_cons,List.map_nil,setOf_snoc];exact h
theorem zfO {l:List Int}{k:Nat}{x:Int}(h:l[k]? =some x):l.drop k=x::l.drop (k+1):=by
 obtain⟨hk,e⟩:=List.getElem?_eq_some_iff.1 h
 rw[List.drop_eq_getElem_cons hk,e]
theorem zfl {w:World}{B n cap:Nat}{a:Option Addr}{l:List Int}(h:w.ownsRow B 3 1 (.slice a n cap) n (l.map Qk))(hn:0<n):∃g,a=some ⟨g,0,none⟩∧n≤cap∧g<w.heap.size∧∀k x,l[k]? =some x→w.cell? ⟨g,k,none⟩=some (.int .i64 x):=by
 rcases h.2 with ⟨hv,h0⟩ | ⟨g,c',cur,hv,hB,hh,h3,_⟩
 · omega
 · cases hv
   exact⟨g,rfl,h3,lt_of_some hh,fun k x hx=>zC h rfl k _ (by rw[List.getElem?_map,hx];rfl)⟩
def zdI (w W:World)(mb:Nat)(l:List Int)(n:Nat)(X:World):Prop:=ZI X mb n l∧Below w.heap.size w X∧(∀y,y<W.heap.size→y≠mb→X.heap[y]? =W.heap[y]?)∧W.heap.size≤X.heap.size
theorem zdI.add {w W X Y Z:World}{mb n:Nat}{l:List Int}{i:Int}(h:zdI w W mb l n X)(hY:Below X.heap.size X Y)(hg:Y.grownBy Z (some mb))(ho:ZI Z mb (n+1) (l++[i]))(hw:w.heap.size≤mb)(hWX:w.heap.size≤W.heap.size):zdI w W mb (l++[i]) (n+1) Z:=by
 obtain⟨h1,h2,h3,h4⟩:=h
 have h5:∀y,y<X.heap.size→y≠mb→Z.heap[y]? =X.heap[y]?:=fun y hy hne=>(hg.block y (nL hy hY.size) (fun e=>hne (Option.some.inj e))).trans (hY.block y hy)
 have h6:X.heap.size≤Z.heap.size:=NltQ hY.size hg.size
 have h7:=h2.size
 exact⟨ho,⟨(hg.os.trans hY.os).trans h2.os,(hg.tape.trans hY.tape).trans h2.tape,(hg.output.trans hY.output).trans h2.output,NltQ h2.size h6,fun y hy=>(h5 y om om).trans (h2.block y hy)⟩,fun y hy hne=>(h5 y om hne).trans (h3 y hy hne),NltQ h4 h6⟩
theorem zfR (w : World)(S Sx:Nat→Prop)(nv xv:Value)(t x:Tr)(hS:∀y,S y→y<w.heap.size)(hSx:∀y,Sx y→y<w.heap.size)(ht:zK w S nv t)(hx:zK w Sx xv x)(hsz:za t.kids+1≤2000)(hxz:za x.kids+1≤2000)(hok:∀i∈idT t,(Lit.int .i64 i).wf=true)(hxk:∀i∈idT x,(Lit.int .i64 i).wf=true):
 Calls Try.prog 87 #[nv,xv] w fun e w'=>e= .returned (.int .i64 (qw (idT t) (idT x) 0))∧Below w.heap.size w w':=by
 obtain⟨ka,tc,rfl,hcap,hk⟩:=ht
 obtain⟨xa,xc,rfl,hxcap,hxkk⟩:=hx
 obtain⟨tn,htn⟩:∃n,n=foLen t.kids:=⟨_,rfl⟩
 obtain⟨xn,hxn⟩:∃n,n=foLen x.kids:=⟨_,rfl⟩
 rw[←htn,←hxn]
 obtain⟨B,hB⟩:∃B,B=zx w [.cells #[.int .i64 t.id,.int .i64 t.kind,.string t.text,.slice ka tn tc] 27,.cells #[.int .i64 x.id,.int .i64 x.kind,.string x.text,.slice xa xn xc] 27,.map #[] 0]:=⟨_,rfl⟩
 have hb:Below w.heap.size w B:=by rw[hB];exact zl _ _
 have hs:B.heap.size=w.heap.size+3:=by rw[hB];exact zJ _ _
 have ht0:B.heap[w.heap.size]? =some (.cells #[.int .i64 t.id,.int .i64 t.kind,.string t.text,.slice ka tn tc] 27 (0,0)):=by rw[hB];exact ze _ _ 0 _ rfl
 have hx0:B.heap[w.heap.size+1]? =some (.cells #[.int .i64 x.id,.int .i64 x.kind,.string x.text,.slice xa xn xc] 27 (0,0)):=by rw[hB];exact ze _ _ 1 _ rfl
 have hm0:ZI B (w.heap.size+2) 0 []:=by
  have h:=World.ownsMap_made (zx w [.cells #[.int .i64 t.id,.int .i64 t.kind,.string t.text,.slice ka tn tc] 27,.cells #[.int .i64 x.id,.int .i64 x.kind,.string x.text,.slice xa xn xc] 27]) Try.prog 3 (unitElem (H:=Value))
  have e:(zx w [.cells #[.int .i64 t.id,.int .i64 t.kind,.string t.text,.slice ka tn tc] 27,.cells #[.int .i64 x.id,.int .i64 x.kind,.string x.text,.slice xa xn xc] 27]).heap.size=w.heap.size+2:=zJ _ _
  rw[e] at h
  rw[hB];exact h
 have hidt:=ze8 B S (.agg #[.int .i64 t.id,.int .i64 t.kind,.string t.text,.slice ka tn tc]) t 2000 (fun y hy=>nL (hS y hy) hb.size) ⟨ka,tc,by rw[htn],hcap,hk.below hb hS⟩ om om
 have hidx:∀X,Below w.heap.size w X→Calls Try.prog 52 #[.agg #[.int .i64 x.id,.int .i64 x.kind,.string x.text,.slice xa xn xc],.int .i64 2000] X (zjO X (idT x)):=fun X hX=>ze8 X Sx (.agg #[.int .i64 x.id,.int .i64 x.kind,.string x.text,.slice xa xn xc]) x 2000 (fun y hy=>nL (hSx y hy) hX.size) ⟨xa,xc,by rw[hxn],hxcap,hxkk.below hX hSx⟩ om om
 have hl1:(idT t).length≤2000:=by rw[Zk];omega
 have hl2:(idT x).length≤2000:=by rw[Zk];omega
 obtain⟨lt,hlt⟩:∃l,l=idT t:=⟨_,rfl⟩
 obtain⟨lx,hlx⟩:∃l,l=idT x:=⟨_,rfl⟩
 rw[←hlt] at hidt hl1 hok ⊢
 rw[←hlx] at hidx hl2 hxk ⊢
 have HT:=hH hidt
 have HX:=hH hidx
 have HOK:=hH (aN hok hxk)
 have HB:=hH (aN hb (aN hs (aN hx0 hm0)))
 have HBE:=hH hB
 obtain⟨b0,b1,b2,b3⟩:=zH ht0
 have hmm:=@run_makeMap Try.prog
 have hz2:w.heap.size+1+1=w.heap.size+2:=rfl
 clear hidt hidx hok hxk hb hs ht0 hx0 hm0 hB htn hxn hcap hk hxcap hxkk hlt hlx hS hSx hsz hxz
 go_enter Try.func87,Try.ntmps87
 go_upto_region 2 with fail
 change Code.wp _ _ _ _ (zx w [.cells #[.int .i64 t.id,.int .i64 t.kind,.string t.text,.slice ka tn tc] 27,.cells #[.int .i64 x.id,.int .i64 x.kind,.string x.text,.slice xa xn xc] 27,.map #[] 0])
 rw[←HBE.out]
 clear hmm HBE
 go_wp2_with fail
 refine HT.out.mono ?_
 rintro e W ⟨ia,ic,rfl,hown,hbW⟩
 clear b0 b1 b2 b3
 obtain⟨m,hm⟩:∃m,m=lt.length:=⟨_,rfl⟩
 rw[←hm] at hown ⊢
 obtain⟨mb,hmb⟩:∃mb,mb=w.heap.size+1+1:=⟨_,rfl⟩
 have hmW:mb<W.heap.size:=by have:=HB.out.2.1;have:=hbW.size;omega
 have HI0:=hH (show zdI w W mb [] 0 W from⟨by rw[hmb];exact HB.out.2.2.2.at (hbW.block _ (by have:=HB.out.2.1;omega)),HB.out.1.trans (hbW.mono HB.out.1.size),fun _ _ _=>rfl,NlrQ _⟩)
 have hneq:∀g,(Value.slice ia m ic).ownBlock=some g→g≠mb:=fun g hg=>by have:=(zi hown hg).1;have:=HB.out.2.1;omega
 have HO:=hH (aN hown (aN hm (aN hmW (aN hneq (aN (show w.heap.size≤mb by omega) (show w.heap.size≤W.heap.size by have:=HB.out.2.1;have:=hbW.size;omega))))))
 have HXB:=hH (aN ((hbW.block _ (lohQ HB.out.2.2.1)).trans HB.out.2.2.1) (show w.heap.size+1≠mb by omega))
 rw[←hmb]
 have hm2:m≤2000:=by omega
 clear hown hbW hm hmb hmW hneq HT
 go_wp2_with fail
 go_loopw [17] (fun i wr=>∃k:Nat,k≤m∧i= .int .i64 (k:Int)∧Hid (zdI w W mb (lt.take k) k wr)) (fun i _=>m - (intOf i).toNat)
 case atStart=>exact⟨0,NzlQ _,rfl,HI0⟩
 case round =>
  obtain⟨k,hk,rfl,hh⟩:=hrel
  by_cases hlt:k<m
  · have hki:(k:Int)<(m:Int):=by omega
    obtain⟨i,hi⟩:∃i,lt[k]? =some i:=⟨_,List.getElem?_eq_getElem (by rw[←HO.out.2.1];exact hlt)⟩
    obtain⟨g,rfl,hgc,hgl,hcell⟩:=zfl HO.out.1 om
    have c0:wr.cell? ⟨g,k,none⟩=some (.int .i64 i):=(World.cell?_of_block (a:=⟨g,k,none⟩) (hh.out.2.2.1 g hgl (HO.out.2.2.2.1 g rfl))).trans (hcell k i hi)
    have hkey:=keyOf_int_mk (P:=Try.prog) Try.underlying3 (HOK.out.1 i (List.mem_of_getElem? hi))
    have hown:=hh.out.1
    unfold ZI at hown
    have HR:=hH (aN hi hlt)
    clear hi hlt hk hcell hgl
    go_wp2_with (at_mapUpdate;refine wpList_mapUpdate_own _ rfl _ _ _ 85 rfl 3 114 zcX Try.underlying85 unitElem mb k _ rfl hown ue1 _ _ _ rfl rfl hkey _ [] unitElem_mk ?_;intro w5 hown5 hgrow5)
    refine⟨⟨k+1,by have:=HR.out.2;omega,by go_num,hH ?_⟩,by have:=HR.out.2;simp[intOf];omega⟩
    rw[List.take_add_one,HR.out.1]
    exact hh.out.add (BrQ _ _) hgrow5 (YO hown5) HO.out.2.2.2.2.1 HO.out.2.2.2.2.2
  · have hki : ¬ (k:Int)<(m:Int):=by omega
    have hkm:k=m:=by omega
    have HKM:=hH hkm
    have HIW:=hh
    have hx1:=(hh.out.2.2.1 _ (lohQ HXB.out.1) HXB.out.2).trans HXB.out.1
    obtain⟨b0,b1,b2,b3⟩:=zH hx1
    have HXX:=hH (HX.out wr hh.out.2.1)
    clear hkm hlt hk hx1
    go_wp2_with fail
    refine HXX.out.mono ?_
    rintro e W2 ⟨ja,jc,rfl,hown,hbW2⟩
    clear b0 b1 b2 b3
    obtain⟨n,hn⟩:∃n,n=lx.length:=⟨_,rfl⟩
    rw[←hn] at hown ⊢
    have hl3:lt.take k=lt:=by rw[HKM.out,HO.out.2.1];exact List.take_length
    have hmwr:mb<wr.heap.size:=nL HO.out.2.2.1 HIW.out.2.2.2
    have hI2:zdI w W2 mb lt m W2:=by
     have h:=HIW.out
     rw[hl3,HKM.out] at h
     exact⟨h.1.at (hbW2.block _ hmwr),h.2.1.trans (hbW2.mono h.2.1.size),fun _ _ _=>rfl,NlrQ _⟩
    have hneq:∀g,(Value.slice ja n jc).ownBlock=some g→g≠mb:=fun g hg=>by have:=(zi hown hg).1;omega
    have HI2:=hH hI2
    have HO2:=hH (aN hown (aN hn (aN hneq (aN (show w.heap.size≤W2.heap.size by have:=HIW.out.2.1.size;have:=hbW2.size;omega) HO.out.2.2.2.2.1))))
    have hn2:n≤2000:=by omega
    clear hown hn hneq hl3 hmwr hI2 hbW2 HIW HKM hh HXX HO HI0 HXB HX
    go_wp2_with fail
    go_loopw [8,28] (fun ev i X=>∃(j:Nat) (er:Int),j≤n∧i= .int .i64 (j:Int)∧ev= .int .i64 er∧Hid (zdI w W2 mb (lt++lx.take j) (m+j) X∧qw (lt++lx.take j) (lx.drop j) er=qw lt lx 0)) (fun _ i _=>n - (intOf i).toNat)
    case atStart=>exact⟨0,0,NzlQ _,rfl,rfl,hH ⟨by simpa using HI2.out,by simp⟩⟩
    case round =>
     obtain⟨k,er,hk,rfl,rfl,hh⟩:=hrel
     by_cases hlt:k<n
     · have hki :(k:Int)<(n:Int):=by omega
       obtain⟨i,hi⟩:∃i,lx[k]? =some i:=⟨_,List.getElem?_eq_getElem (by rw[←HO2.out.2.1];exact hlt)⟩
       obtain⟨g,rfl,hgc,hgl,hcell⟩:=zfl HO2.out.1 om
       have c0:wr.cell? ⟨g,k,none⟩=some (.int .i64 i):=(World.cell?_of_block (a:=⟨g,k,none⟩) (hh.out.1.2.2.1 g hgl (HO2.out.2.2.1 g rfl))).trans (hcell k i hi)
       have hkey:=keyOf_int_mk (P:=Try.prog) Try.underlying3 (HOK.out.2 i (List.mem_of_getElem? hi))
       have hfr:=hh.out.2
       rw[zfO hi,qw] at hfr
       by_cases h1:i<1
       · rw[ipQ (Or.inl h1)] at hfr
         exact sh0
       · by_cases h2:1125899906842624<i
         · rw[ipQ (Or.inr h2)] at hfr
           exact sh0
         · rw [inQ om] at hfr
           have hown:=hh.out.1.1
           unfold ZI at hown
           have hmp:mb<wr.heap.size:=World.ownsMap.lt hown
           have hownA:(wr.alloc (.cells #[] 114)).ownsMap Try.prog 3 (unitElem (H:=Value)) mb (m+k) (setOf (.agg []) ((lt++lx.take k).map (Lit.int .i64 ·))):=ZI.at hh.out.1.1 (BhaQ _ _ _ hmp)
           obtain⟨hb,hhb⟩:∃hb,hb=(lt++lx.take k).any (· == i):=⟨_,rfl⟩
           rw[←hhb] at hfr
           have htk:lt++lx.take (k+1)=(lt++lx.take k)++[i]:=by rw[List.take_add_one,hi,List.append_assoc];rfl
           have HR:=hH (aN hfr (aN htk (aN hlt hhb)))
           clear hfr htk hlt hhb hi hcell hgl hk hmp
           cases hb
           · go_wp2_with (first | at_lookup;refine wpList_lookup_own_unit _ rfl _ _ 85 rfl 3 114 zcX Try.underlying85 (zjF _) mb (m+k) _ rfl hown _ _ rfl hkey ?_;rw[ze7];rw[←HR.out.2.2.2] | at_mapUpdate;refine wpList_mapUpdate_own _ rfl _ _ _ 85 rfl 3 114 zcX Try.underlying85 unitElem mb (m+k) _ rfl hownA ue1 _ _ _ rfl rfl hkey _ [] unitElem_mk ?_;intro w5 hown5 hgrow5)
             refine⟨⟨k+1,er,by have:=HR.out.2.2.1;omega,by go_num,by trivial,hH ⟨?_,?_⟩⟩,by have:=HR.out.2.2.1;simp[intOf];omega⟩
             · rw[HR.out.2.1]
               exact hh.out.1.add (zg _ _) hgrow5 (YO hown5) HO2.out.2.2.2.2 HO2.out.2.2.2.1
             · rw[HR.out.2.1]
               have h:=HR.out.1
               rw[inQ Bool.false_ne_true] at h
               exact h
           · go_wp2_with (first | at_lookup;refine wpList_lookup_own_unit _ rfl _ _ 85 rfl 3 114 zcX Try.underlying85 (zjF _) mb (m+k) _ rfl hown _ _ rfl hkey ?_;rw[ze7];rw[←HR.out.2.2.2] | at_mapUpdate;refine wpList_mapUpdate_own _ rfl _ _ _ 85 rfl 3 114 zcX Try.underlying85 unitElem mb (m+k) _ rfl hownA ue1 _ _ _ rfl rfl hkey _ [] unitElem_mk ?_;intro w5 hown5 hgrow5)
             refine⟨⟨k+1,60,by have:=HR.out.2.2.1;omega,by go_num,by trivial,hH ⟨?_,?_⟩⟩,by have:=HR.out.2.2.1;simp[intOf];omega⟩
             · rw[HR.out.2.1]
               exact hh.out.1.add (zg _ _) hgrow5 (YO hown5) HO2.out.2.2.2.2 HO2.out.2.2.2.1
             · rw[HR.out.2.1]
               have h:=HR.out.1
               rw[ipQ rfl] at h
               exact h
     · have hki:¬(k:Int)<(n:Int):=by omega
       have hkn:k=n:=by omega
       have hfr:=hh.out.2
       rw[List.drop_eq_nil_of_le (by rw[hkn,HO2.out.2.1];exact NlrQ _),qw] at hfr
       have HF:=hH hfr
       have HBW:=hH hh.out.1.2.1
       clear hfr hkn hlt hk hh
       go_wp2_with fail
       go_ret
       exact⟨by rw[HF.out];rfl,HBW.out⟩
end Go.Proofs.Ytnikgofkldkdkaa
namespace Go.Proofs.Ytnikgofkldkdkaa
open Go.RowKit Go.Shelf
structure Tc (W X:World) (R:Nat):Prop where
 os:X.os=W.os
 tape:X.tape=W.tape
 output:X.output=W.output
 size:W.heap.size≤X.heap.size
 block:∀y,y<W.heap.size→y≠R→X.heap[y]? =W.heap[y]?
theorem Tc.of {W X:World}{R:Nat}(h:Below W.heap.size W X):Tc W X R:=⟨h.os,h.tape,h.output,h.size,fun y hy _=>h.block y hy⟩
theorem Tc.then {W X Y:World}{R:Nat}(h:Tc W X R)(k:Below X.heap.size X Y):Tc W Y R:=⟨k.os.trans h.os,k.tape.trans h.tape,k.output.trans h.output,NltQ h.size k.size,fun y hy hn=>(k.block y (nL hy h.size)).trans (h.block y hy hn)⟩
theorem Tc.below {w W X:World}{R:Nat}(h:Tc W X R)(k:Below w.heap.size w W)(hR:w.heap.size≤R):Below w.heap.size w X:=⟨h.os.trans k.os,h.tape.trans k.tape,h.output.trans k.output,NltQ k.size h.size,fun y hy=>(h.block y (nL hy k.size) om).trans (k.block y hy)⟩
def zN (par at_:Int)(x t:Tr):Tr×Int:=if (kX par at_ t x).2=0 then ((kX par at_ t x).1,qw (idT t) (idT x) 0) else (zG,(kX par at_ t x).2)
theorem zee (w:World)(S:Nat→Prop)(nv:Value)(t:Tr)(op id par at_ s1 s2:Int)(tx s3:ByteArray)(sa:Option Addr)(sn sc:Nat)(hS:∀y,S y→y<w.heap.size)(ht:zK w S nv t)(hsz:za t.kids≤100000)(Sx:Nat→Prop)(x:Tr)(hSx:∀y,Sx y→y<w.heap.size)(hx:zK w Sx (.agg #[.int .i64 s1,.int .i64 s2,.string s3,.slice sa sn sc]) x)(hxz:za x.kids+1≤2000)(htz:za t.kids+1≤2000)(hok:∀i∈idT t,(Lit.int .i64 i).wf=true)(hxk:∀i∈idT x,(Lit.int .i64 i).wf=true):
 Calls Try.prog 53 #[nv,.agg #[.int .i8 op,.int .i64 id,.int .i64 par,.int .i64 at_,.string tx,.int .i64 s1,.int .i64 s2,.string s3,.slice sa sn sc]] w (j6 w (fun y=>S y∨Sx y) (zN par at_ x t)):=by
 obtain⟨ka,tc,rfl,hcap,hk⟩:=ht
 obtain⟨nk,hnk⟩:∃nk,nk=foLen t.kids:=⟨_,rfl⟩
 rw[←hnk]
 obtain⟨B,hB⟩:∃B,B=zx w [.cells #[.int .i64 t.id,.int .i64 t.kind,.string t.text,.slice ka nk tc] 27,.cells #[.int .i8 op,.int .i64 id,.int .i64 par,.int .i64 at_,.string tx,.int .i64 s1,.int .i64 s2,.string s3,.slice sa sn sc] 49,.cells #[.int .i64 0,.int .i64 0,.string ⟨#[]⟩,.slice none 0 0] 27]:=⟨_,rfl⟩
 have hb:Below w.heap.size w B:=by rw[hB];exact zl _ _
 have hs:B.heap.size=w.heap.size+3:=by rw[hB];exact zJ _ _
 have ht0:B.heap[w.heap.size]? =some (.cells #[.int .i64 t.id,.int .i64 t.kind,.string t.text,.slice ka nk tc] 27 (0,0)):=by rw[hB];exact ze _ _ 0 _ rfl
 have hs0:B.heap[w.heap.size+1]? =some (.cells #[.int .i8 op,.int .i64 id,.int .i64 par,.int .i64 at_,.string tx,.int .i64 s1,.int .i64 s2,.string s3,.slice sa sn sc] 49 (0,0)):=by rw[hB];exact ze _ _ 1 _ rfl
 have hr0:B.heap[w.heap.size+1+1]? =some (.cells #[.int .i64 0,.int .i64 0,.string ⟨#[]⟩,.slice none 0 0] 27 (0,0)):=by rw[hB];exact ze _ _ 2 _ rfl
 have htr:∀X,Below B.heap.size B X→zK X S (.agg #[.int .i64 t.id,.int .i64 t.kind,.string t.text,.slice ka nk tc]) t:=fun X hX=>⟨ka,tc,by rw[hnk],by rw[hnk] at*;exact hcap,hk.below (hb.trans (hX.mono hb.size)) hS⟩
 have hSX:∀X,Below B.heap.size B X→∀y,S y→y<X.heap.size:=fun X hX y hy=>nL (hS y hy) (NltQ hb.size hX.size)
 have hpath:∀(i:Int) (X:World),Below B.heap.size B X→Calls Try.prog 88 #[.agg #[.int .i64 t.id,.int .i64 t.kind,.string t.text,.slice ka nk tc],.int .i64 i] X (zcs X (zw i t)):=fun i X hX=>ZZ X S _ t i (hSX X hX) (htr X hX) om
 have hcell:∀X,Below B.heap.size B X→(uf1 X w.heap.size t.id t.kind t.text ka nk tc)∧X.cell? ⟨w.heap.size+1,2,none⟩=some (.int .i64 par)∧X.cell? ⟨w.heap.size+1,3,none⟩=some (.int .i64 at_)∧X.cell? ⟨w.heap.size+1,5,none⟩=some (.int .i64 s1)∧X.cell? ⟨w.heap.size+1,6,none⟩=some (.int .i64 s2)∧X.cell? ⟨w.heap.size+1,7,none⟩=some (.string s3)∧X.cell? ⟨w.heap.size+1,8,none⟩=some (.slice sa sn sc):=fun X hX=>by
  have e0:=(hX.block _ (lohQ ht0)).trans ht0
  have e1:=(hX.block _ (lohQ hs0)).trans hs0
  exact se5
 obtain⟨pr,hpr⟩:∃pr,pr=zN par at_ x t:=⟨_,rfl⟩
 rw[←hpr]
 have HP:=hH hpath
 have HCE:=hH hcell
 have HTR:=hH (aN htr hSX)
 have HB:=hH (aN hb (aN hs hr0))
 have HSZ:=hH hsz
 have HBE:=hH hB
 have HSW:=hH hS
 have HPR:=hH hpr
 have hput:=zfm B S Sx (.agg #[.int .i64 t.id,.int .i64 t.kind,.string t.text,.slice ka nk tc]) (.agg #[.int .i64 s1,.int .i64 s2,.string s3,.slice sa sn sc]) t x par at_ (hSX B (BrQ _ _)) (fun y hy=>nL (hSx y hy) hb.size) (htr B (BrQ _ _)) (hx.kept fun y hy=>⟨hy,hb.block y (hSx y hy)⟩) om
 have hfr:∀X,Below w.heap.size w X→Calls Try.prog 87 #[.agg #[.int .i64 t.id,.int .i64 t.kind,.string t.text,.slice ka nk tc],.agg #[.int .i64 s1,.int .i64 s2,.string s3,.slice sa sn sc]] X _:=fun X hX=>zfR X S Sx _ _ t x (fun y hy=>nL (hS y hy) hX.size) (fun y hy=>nL (hSx y hy) hX.size) ⟨ka,tc,by rw[hnk],by rw[hnk] at*;exact hcap,hk.below hX hS⟩ (hx.kept fun y hy=>⟨hy,hX.block y (hSx y hy)⟩) htz hxz hok hxk
 have HB2:=hH (aN ht0 hs0)
 have HFR:=hH hfr
 have HPUT:=hH hput
 have HSX:=hH hSx
 clear hput hfr hSx hx hxz htz hok hxk HP
 clear hpath hcell htr hSX hb hs ht0 hs0 hr0 hS hk hcap hsz hnk hB hpr
 go_enter Try.func53,Try.ntmps53
 obtain⟨⟨n0,n1,n2,n3⟩,m2,m3,m5,m6,m7,m8⟩:=HCE.out B (BrQ _ _)
 rw[HBE.out] at n0 n1 n2 n3 m2 m3 m5 m6 m7 m8
 go_wp2_with fail
 change Calls _ _ _ (zx w [.cells #[.int .i64 t.id,.int .i64 t.kind,.string t.text,.slice ka nk tc] 27,.cells #[.int .i8 op,.int .i64 id,.int .i64 par,.int .i64 at_,.string tx,.int .i64 s1,.int .i64 s2,.string s3,.slice sa sn sc] 49,.cells #[.int .i64 0,.int .i64 0,.string ⟨#[]⟩,.slice none 0 0] 27]) _
 rw[←HBE.out]
 clear n0 n1 n2 n3 m2 m3 m5 m6 m7 m8
 refine HPUT.out.mono ?_
 rintro e W5 ⟨_,rfl,⟨yb,yc,rfl,hyc,hyk⟩,hb5⟩
 obtain⟨r,hr⟩:∃r,r=kX par at_ t x:=⟨_,rfl⟩
 rw[←hr] at hyc hyk ⊢
 obtain⟨y,hy⟩:∃y,y=r.1:=⟨_,rfl⟩
 rw[←hy] at hyc hyk ⊢
 obtain⟨yn,hyn⟩:∃yn,yn=foLen y.kids:=⟨_,rfl⟩
 rw[←hyn] at hyc ⊢
 obtain⟨ye,hye⟩:∃ye,ye=r.2:=⟨_,rfl⟩
 rw[←hye]
 obtain⟨W6,hW6⟩:∃W6,W6=W5.alloc (.cells #[.int .i64 y.id,.int .i64 y.kind,.string y.text,.slice yb yn yc] 27):=⟨_,rfl⟩
 have hb56:Below W5.heap.size W5 W6:=by rw[hW6];exact zg _ _
 have hs6:W6.heap.size=W5.heap.size+1:=by rw[hW6];simp
 have hy6:W6.heap[W5.heap.size]? =some (.cells #[.int .i64 y.id,.int .i64 y.kind,.string y.text,.slice yb yn yc] 27 (0,0)):=by rw[hW6];exact hanQ _ _
 have hb6:Below B.heap.size B W6:=hb5.trans (hb56.mono hb5.size)
 have HB6:=hH hb6
 have HY:=hH (aN hyc (aN hyk (aN hb56 (aN hyn (aN hye (aN hr (aN hy (aN hs6 hb5.size))))))))
 have HY6:=hH hy6
 have HW6:=hH hW6
 obtain⟨xb,hxb⟩:∃xb,xb=W5.heap.size:=⟨_,rfl⟩
 clear hyc hyk hb56 hy6 hb6 hW6 hb5 hy hyn hye hr hs6
 go_upto_region 2 with fail
 change Code.wp _ _ _ _ (W5.alloc (.cells #[.int .i64 y.id,.int .i64 y.kind,.string y.text,.slice yb yn yc] 27))
 rw[←HW6.out,←hxb]
 rw[←hxb] at HY6
 have HXBB:=hH hxb
 clear HW6 hxb
 by_cases hz:ye=0
 · have hE:pr=(y,qw (idT t) (idT x) 0):=by rw[HPR.out,zN,←HY.out.2.2.2.2.2.1,ipQ (by rw[←HY.out.2.2.2.2.1];exact hz),←HY.out.2.2.2.2.2.2.1]
   obtain⟨fe,hfe⟩:∃fe,fe=qw (idT t) (idT x) 0:=⟨_,rfl⟩
   rw[←hfe] at hE
   have HE:=hH (aN hE hfe)
   subst hz
   clear hE hfe
   go_upto_region 4 with fail
   have hRR:w.heap.size+1<w.heap.size+1+1:=by omega
   have HXR:=hH (show xb≠w.heap.size+1+1 by have:=HXBB.out;have:=HB.out.2.1;have:=HY.out.2.2.2.2.2.2.2.2;omega)
   have HC6:Hid (∀X,Tc W6 X (w.heap.size+1+1)→(uf1 X w.heap.size t.id t.kind t.text ka nk tc)∧X.cell? ⟨w.heap.size+1,2,none⟩=some (.int .i64 par)∧X.cell? ⟨w.heap.size+1,3,none⟩=some (.int .i64 at_)∧X.cell? ⟨w.heap.size+1,5,none⟩=some (.int .i64 s1)∧X.cell? ⟨w.heap.size+1,6,none⟩=some (.int .i64 s2)∧X.cell? ⟨w.heap.size+1,7,none⟩=some (.string s3)∧X.cell? ⟨w.heap.size+1,8,none⟩=some (.slice sa sn sc)):=hH fun X hX=>by
    have e0:=((hX.block _ (nL (lohQ HB2.out.1) HB6.out.size) om).trans (HB6.out.block _ (lohQ HB2.out.1))).trans HB2.out.1
    have e1:=((hX.block _ (nL (lohQ HB2.out.2) HB6.out.size) om).trans (HB6.out.block _ (lohQ HB2.out.2))).trans HB2.out.2
    exact se5
   have HBW6:=hH (show Below w.heap.size w W6 from HB.out.1.trans (HB6.out.mono HB.out.1.size))
   have HZ6:=hH (show W6.drew.heap[w.heap.size+1+1]? =some (.cells #[.int .i64 0,.int .i64 0,.string ⟨#[]⟩,.slice none 0 0] 27 (0,0)) from (HB6.out.block _ (lohQ HB.out.2.2)).trans HB.out.2.2)
   clear hRR
   refine wrhQ (S:=fun X=>Tc W6 X (w.heap.size+1+1)) kr1 (Tc.of (below_drewN (BrQ _ W6) 1)) (fun uH=>?_)
   refine tJ (i:=0) (.agg #[.int .i64 y.id,.int .i64 y.kind,.string y.text,.slice yb yn yc]) rfl ?_ ?_
   · clear uH;intro X hSw;obtain⟨q0,q1,q2,q3⟩:=zH ((hSw.block _ (lohQ HY6.out) HXR.out).trans HY6.out);clear hSw;go_simp
   simp only[Act.put,pg]
   refine tJ (i:=1) (.agg #[.int .i64 t.id,.int .i64 t.kind,.string t.text,.slice ka nk tc]) rfl ?_ ?_
   · exact ua5
   simp only[Act.put,pg]
   refine tG (i:=2) (.pointer (some ⟨w.heap.size+1,5,none⟩)) rfl ?_
   simp only[Act.put,pg]
   refine tJ (i:=3) (.agg #[.int .i64 s1,.int .i64 s2,.string s3,.slice sa sn sc]) rfl ?_ ?_
   · exact ua5
   simp only[Act.put,pg]
   refine rd [4] ?_
   refine AcQ (o:=_) rfl (fun K hK=>?_) AnQ
   rw[ipQ uf0]
   simp only[pg3]
   have HK:=hH hK
   have HS:=hH uH
   clear hK uH
   go_wp2_with (go_at_call 87;refine (HFR.out _ (HS.out.below HBW6.out om)).mono ?_;rintro e W7 ⟨rfl,hb7⟩;have HS7:=hH (HS.out.then hb7);have HZ7:=hH ((hb7.block _ (lohQ HZ6.out)).trans HZ6.out);clear hb7;rw[←HE.out.2])
   refine HK.out _ _ HS7.out (fun uH=>?_)
   clear HK HS
   refine rd [5] ?_
   refine AcQ (o:=_) rfl (fun K hK=>?_) AnQ
   rw[ipQ uf0]
   simp only[pg3]
   have HK:=hH hK
   have HS:=hH uH
   clear hK uH
   have hr3:=HZ7.out
   have hbz:=HS7.out.below HBW6.out om
   obtain⟨z0,z1,z2,z3⟩:=zH hr3
   have zf:∀j,W7.frozen? ⟨w.heap.size+1+1,j,none⟩=false:=fun j=>forQ _ _ j _ _ hr3
   obtain⟨V,hV,r1,r2,r3,r4,r5,r6⟩:=zu (u0:= .int .i64 y.id) (u1:= .int .i64 y.kind) (u2:= .string y.text) (u3:= .slice yb yn yc) hr3
   have hTV:Tc W6 V (w.heap.size+1+1):=⟨r3.trans HS7.out.os,r4.trans HS7.out.tape,r5.trans HS7.out.output,by rw[r6];exact HS7.out.size,fun z hz hn=>(r2 z hn).trans (HS7.out.block z hz hn)⟩
   have HE2:=hH (aN hbz (aN hV (aN r1 (aN r2 (aN r3 (aN r4 (aN r5 (aN r6 hTV))))))))
   clear hbz hr3 hV r1 r2 r3 r4 r5 r6 hTV
   go_wp2_with fail
   rw[←HE2.out.2.1]
   clear z0 z1 z2 z3 zf
   refine HK.out _ _ HE2.out.2.2.2.2.2.2.2.2 (fun uH=>?_)
   clear HK HS
   refine tG (i:=6) (.int .i64 fe) rfl ?_
   simp only[Act.put,pg]
   refine wpAnyH_done kr1 ?_ _
   clear uH
   obtain⟨hbz,hV,r1,r2,r3,r4,r5,r6,hTV⟩:=HE2.out
   obtain⟨hyc,hyk,hb56,hyn,hye,hr,hy,hs6,hB5⟩:=HY.out
   have hok:zk V (fun z=>(S z∨Sx z)∨w.heap.size≤z∧z<V.heap.size) y.kids yb:=hyk.kept fun z hz=>by
    have h1:=HSW.out
    have h2:=HSX.out
    have h3:=HB.out.2.1
    have h4:=HB.out.1.size
    have h5:=HS7.out.size
    have hz2:((S z∨Sx z)∨w.heap.size≤z∧z<V.heap.size)∧z<W5.heap.size∧z≠w.heap.size+1+1:=by
     rcases hz with (hz | hz) | hz
     · have:=h1 z hz;exact⟨Or.inl (Or.inl hz),by omega,by omega⟩
     · have:=h2 z hz;exact⟨Or.inl (Or.inr hz),by omega,by omega⟩
     · exact⟨Or.inr ⟨by omega,by omega⟩,by omega,by omega⟩
    exact⟨hz2.1,(hTV.block z om hz2.2.2).trans (hb56.block z hz2.2.1)⟩
   have hEE:=HE.out.1
   clear hb56 hTV HY HE2
   go_wp2_with fail
   exact step_end (p:=4) (u:=5) rfl rfl (g:=w.heap.size+1+1) (y:=y) (m:=yn) (kb:=yb) (kc:=yc) ⟨r3.trans hbz.os,r4.trans hbz.tape,r5.trans hbz.output,by rw[r6];exact hbz.size,fun k hk=>(r2 k om).trans (hbz.block k hk)⟩ om ⟨_,_,r1,rfl⟩ hyn (by rw[←hyn];exact hyc) hok (by rw[hEE]) rfl (by rw[hEE];rfl)
 · have hzb:(ye != 0)=true:=by simpa using hz
   have hE0:pr=(zG,ye):=by rw[HPR.out,zN,←HY.out.2.2.2.2.2.1,inQ (by rw[←HY.out.2.2.2.2.1];exact hz),←HY.out.2.2.2.2.1]
   clear hz
   have hb6:=HB6.out
   have hE:pr=(zG,ye):=hE0
   have hr3:=(hb6.block _ (lohQ HB.out.2.2)).trans HB.out.2.2
   have hbz:Below w.heap.size w W6:=HB.out.1.trans (hb6.mono HB.out.1.size)
   obtain⟨z0,z1,z2,z3⟩:=zH hr3
   have zf:∀j,W6.frozen? ⟨w.heap.size+1+1,j,none⟩=false:=fun j=>forQ _ _ j _ _ hr3
   exact sa6
def opsV:Value:= .agg #[.nilFunc,.func (.func 53) #[] #[],.func (.func 54) #[] #[],.func (.func 55) #[] #[],.func (.func 56) #[] #[]]
def zh1:Obj:= .cells #[.nilFunc,.func (.func 53) #[] #[],.func (.func 54) #[] #[],.func (.func 55) #[] #[],.func (.func 56) #[] #[]] 81 (0,0)
theorem qZ (w:World):Calls Try.prog 39 #[] w fun e w'=>e= .returned opsV∧Below w.heap.size w w':=by
 go_enter Try.func39,Try.ntmps39
 go_wp2_with fail
 exact brQ (vF rfl _ _ w.heap.size 81 _ _ _ rfl (hanQ w _) Try.underlying81 rfl kr1) rfl ⟨rfl,(BrQ _ _).alloc (NlrQ _) _⟩
theorem zk.cells {w:World}{S:Nat→Prop}:∀{f:Fo} {a:Option Addr},zk w S f a→zk w (fun x=>yD w x∧S x) f a
 | .nil,_,_=>True.intro
 | .node _ _ k l r,a,h=>by
   obtain⟨b,off,ka,cap,e,hb,h0,h1,h2,h3,h4,h5,h6⟩:=h
   exact⟨b,off,ka,cap,e,⟨zbP h0,hb⟩,h0,h1,h2,h3,h4,h5.cells,h6.cells⟩
theorem yB (w:World)(o:Obj):(w.alloc o).heap.size=w.heap.size+1:=by simp
def yY (r:Tr×Int):Tr:=if r.2=0 then r.1 else zG
def jb (w:World)(T:Nat→Prop)(r:Tr×Int)(e:Ending)(w' :World):Prop:=∃v,e= .returned (.tuple #[v,.int .i64 r.2])∧zK w' (fun y=>yD w' y∧(T y∨w.heap.size≤y)) v (yY r)∧Below w.heap.size w w'
theorem yh {P:Program}{fn:Func}{p u:Tmp}(h:fn.results= #[.cell p 27,.tmp u])(hP:P=Try.prog){w W:World}{T:Nat→Prop}{tmps:Array Value}{r:Tr×Int}{g m kc:Nat}{kb:Option Addr}{y:Tr}(hb:Below w.heap.size w W)(hz:W.heap[g]? =some (.cells #[.int .i64 y.id,.int .i64 y.kind,.string y.text,.slice kb m kc] 27 (0,0)))(hm:m=foLen y.kids)(hc:foLen y.kids≤kc)(hf:zk W (fun z=>yD W z∧(T z∨w.heap.size≤z)) y.kids kb)(hy:yY r=y)
 (h1:tmps.getD p undef= .pointer (some ⟨g,0,none⟩)) (h2:tmps.getD u undef= .int .i64 r.2):bodyPost P fn (jb w T r) .ret { tmps,defers:=[] } W:=by
 subst hP
 exact se9
end Go.Proofs.Ytnikgofkldkdkaa
