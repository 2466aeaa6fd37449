/-
  .
-/
import Derived.Test.YtoidedomenkbpaaGreatIOwnQs
set_option maxRecDepth 100000
set_option maxHeartbeats 40000000
set_option linter.unusedVariables false
set_option linter.unusedSimpArgs false
namespace Go.Proofs.YtoidedomenkbpaaGreat
open Go.RowKit Go.Shelf
def zN:Tr:=⟨0,0,⟨#[]⟩,.nil⟩
theorem zas {w:World}{B B' :Nat}{e:TypeId}{size:Nat}{v:Value}{n:Nat}{xs:List Value}(h:w.ownsRow B e size v n xs)(hB:B'≤B):w.ownsRow B' e size v n xs:=
 ⟨h.1,h.2.imp (fun h=>h) (fun ⟨g,c,cur,h1,h2,h3⟩=>⟨g,c,cur,h1,NltQ hB h2,h3⟩)⟩
def zjy (w:World)(l:List Int)(e:Ending)(w' :World):Prop:=∃a c,e= .returned (.slice a l.length c)∧w'.ownsRow w.heap.size 3 1 (.slice a l.length c) l.length (l.map zen)∧Below w.heap.size w w'
theorem zil (w:World)(S:Nat→Prop)(nv:Value)(t:Tr)(up:Int)(hS:∀y,S y→y<w.heap.size)(ht:kT w S nv t)(hsz:((zh t.kids+1:Nat):Int)≤up)(hup:up≤1000000):
 Calls Tryz.prog 100 #[nv,.int .i64 up] w (zjy w (idT t)):=by
 have hmf:∀(fn:Fn) (first cap:Array Value) (w:World),(Instr.makeFunc fn first cap).run Tryz.prog w= .ok (.func fn first cap) w:=fun _ _ _ _=>rfl
 obtain⟨ka,tc,rfl,hcap,hk⟩:=ht
 obtain⟨nk,hnk⟩:∃nk,nk=foLen t.kids:=⟨_,rfl⟩
 rw[←hnk]
 obtain⟨DV,hDV⟩:∃DV,DV=Value.func (.func 137) #[] #[.pointer (some ⟨w.heap.size+1+1,0,none⟩),.pointer (some ⟨w.heap.size+1,0,none⟩),.pointer (some ⟨w.heap.size+1+1+1,0,none⟩)]:=⟨_,rfl⟩
 obtain⟨W,hW⟩:∃W,W=zU w [.cells #[.int .i64 t.id,.int .i64 t.kind,.string t.text,.slice ka nk tc] 35,.cells #[.int .i64 up] 3,.cells #[.slice none 0 0] 30,.cells #[DV] 185]:=⟨_,rfl⟩
 have hb:Below w.heap.size w W:=by rw[hW];exact zR _ _
 have hs:W.heap.size=w.heap.size+4:=by rw[hW];exact qV _ _
 have h0:W.heap[w.heap.size]? =some (.cells #[.int .i64 t.id,.int .i64 t.kind,.string t.text,.slice ka nk tc] 35 (0,0)):=by rw[hW];exact zD _ _ 0 _ rfl
 have h1:W.heap[w.heap.size+1]? =some (.cells #[.int .i64 up] 3 (0,0)):=by rw[hW];exact zD _ _ 1 _ rfl
 have h2:W.heap[w.heap.size+1+1]? =some (.cells #[.slice none 0 0] 30 (0,0)):=by rw[hW];exact zD _ _ 2 _ rfl
 have h3:W.heap[w.heap.size+1+1+1]? =some (.cells #[DV] 185 (0,0)):=by rw[hW];exact zD _ _ 3 _ rfl
 have hIW:IdW W (w.heap.size+1+1) (w.heap.size+1) (w.heap.size+1+1+1) up:=⟨by rw[h3,hDV],h1,⟨by omega,by omega⟩,⟨by omega,by omega⟩,by omega⟩
 obtain⟨b0,b1,b2,b3⟩:=zbW h0
 have hkW:zQ W (fun y=>S y∨y=w.heap.size) t.kids ka:=hk.kept (w':=W) fun y hy=>⟨Or.inl hy,hb.block y (hS y hy)⟩
 have hnode:zbT W (fun y=>S y∨y=w.heap.size) t w.heap.size 0:=⟨Or.inr rfl,b0,b1,b2,ka,tc,by rw[←hnk];exact b3,hcap,hkW⟩
 have hIA:JA W (w.heap.size+1+1) (w.heap.size+1) (w.heap.size+1+1+1) up [] W:=⟨⟨none,0,h2,World.ownsRow_nil _ _ _ _⟩,fun _ _ _=>rfl,NlrQ _,rfl,rfl,rfl⟩
 have hc:=zgY hIW (S:=fun y=>S y∨y=w.heap.size) (fun y hy=>by rcases hy with hy | hy;have:=hS y hy;exact⟨by omega,by omega⟩;exact⟨by omega,by omega⟩) hup (zh t.kids+1) W [] t w.heap.size 0 (Nat.lt_succ_self _) hnode hIA (by simpa using hsz)
 rw[List.nil_append] at hc
 have HC:=hH (aN hc (aN hb (aN hs hW)))
 have HDV:=hH hDV
 clear hc hb hs hW h0 h1 h2 h3 hIW b0 b1 b2 b3 hkW hnode hIA hDV hS hk hcap hsz hup hnk
 go_enter Tryz.func100,Tryz.ntmps100
 go_wp2_with fail
 have hWW:=HC.out.2.2.2
 rw[HDV.out] at hWW
 change Calls _ _ _ (zU w [.cells #[.int .i64 t.id,.int .i64 t.kind,.string t.text,.slice ka nk tc] 35,.cells #[.int .i64 up] 3,.cells #[.slice none 0 0] 30,.cells #[Value.func (.func 137) #[] #[.pointer (some ⟨w.heap.size+1+1,0,none⟩),.pointer (some ⟨w.heap.size+1,0,none⟩),.pointer (some ⟨w.heap.size+1+1+1,0,none⟩)]] 185]) _
 rw[←hWW]
 clear hWW
 refine HC.out.1.mono ?_
 rintro e X ⟨rfl,hX⟩
 obtain⟨a,c,hl,hro⟩:=hX.row
 have hl0:X.cell? ⟨w.heap.size+1+1,0,none⟩=some (.slice a (idT t).length c):=by rw[corQ _ _ 0 _ _ _ hl];rfl
 have hbX:Below w.heap.size w X:=⟨hX.os.trans HC.out.2.1.os,hX.tape.trans HC.out.2.1.tape,hX.output.trans HC.out.2.1.output,NltQ HC.out.2.1.size hX.size,fun y hy=>(hX.below y (by have:=HC.out.2.2.1;omega) om1).trans (HC.out.2.1.block y hy)⟩
 have HE:=hH (aN (zas hro HC.out.2.1.size) hbX)
 obtain⟨L,hL⟩:∃L,L=idT t:=⟨_,rfl⟩
 rw[←hL] at hl0 HE
 have HL:=hH hL
 obtain⟨n,hn⟩:∃n,n=L.length:=⟨_,rfl⟩
 rw[←hn] at hl0
 have HN:=hH hn
 clear hl hro hX hbX hL hn
 go_wp2_with fail
 go_ret
 exact⟨a,c,by rw[←HL.out,←HN.out];rfl,by have h:=HE.out.1;rw[HL.out] at h;exact h,HE.out.2⟩
structure Tc (W X:World) (R:Nat):Prop where
 os:X.os=W.os
 tape:X.tape=W.tape
 output:X.output=W.output
 size:W.heap.size≤X.heap.size
 block:∀y,y<W.heap.size→y≠R→X.heap[y]? =W.heap[y]?
theorem Tc.of {W X:World}{R:Nat}(h:Below W.heap.size W X):Tc W X R:=⟨h.os,h.tape,h.output,h.size,fun y hy _=>h.block y hy⟩
theorem Tc.then {W X Y:World}{R:Nat}(h:Tc W X R)(k:Below X.heap.size X Y):Tc W Y R:=⟨k.os.trans h.os,k.tape.trans h.tape,k.output.trans h.output,NltQ h.size k.size,fun y hy hn=>(k.block y (nL hy h.size)).trans (h.block y hy hn)⟩
theorem Tc.below {w W X:World}{R:Nat}(h:Tc W X R)(k:Below w.heap.size w W)(hR:w.heap.size≤R):Below w.heap.size w X:=⟨h.os.trans k.os,h.tape.trans k.tape,h.output.trans k.output,NltQ k.size h.size,fun y hy=>(h.block y (nL hy k.size) om1).trans (k.block y hy)⟩
structure Sf where
 op:Int
 id:Int
 par:Int
 at_:Int
 tx:ByteArray
 sub:Tr
def zjn:Sf:=⟨0,0,0,0,⟨#[]⟩,zN⟩
structure Wr where
 a:Option Addr
 f:Fo
 cap:Nat
def Wr.v (x:Wr):Value:= .slice x.a (foLen x.f) x.cap
def Zl:List Wr→Nat
 | []=>0
 | x::l=>zh x.f+1+Zl l
theorem kH:∀(l m:List Wr),Zl (l++m)=Zl l+Zl m
 | [],m=>by simp[Zl]
 | x::l,m=>by simp only[List.cons_append,Zl,kH l m];omega
theorem zaM:∀l:List Wr,l.length≤Zl l
 | []=>NlrQ _
 | x::l=>by have:=zaM l;simp only[LlcQ,Zl];omega
def zgL (S:Nat→Prop)(w X:World)(r:Wr):Prop:=foLen r.f≤r.cap∧zQ X (SN S w.heap.size X) r.f r.a∧(0<foLen r.f→∃g,r.a=some ⟨g,0,none⟩∧w.heap.size+3≤g∧NB X g)
structure CpI (S:Nat→Prop) (w:World) (t:Tr) (L:List Wr) (X:World):Prop where
 wait:∃a c,X.heap[w.heap.size+1+1]? =some (.cells #[.slice a L.length c] 214 (0,0))∧X.ownsRow (w.heap.size+3) 33 1 (.slice a L.length c) L.length (L.map Wr.v)
 root:∃ka kc,X.heap[w.heap.size]? =some (.cells #[.int .i64 t.id,.int .i64 t.kind,.string t.text,.slice ka (foLen t.kids) kc] 35 (0,0))∧foLen t.kids≤kc∧zQ X (SN S w.heap.size X) t.kids ka
 res:X.heap[w.heap.size+1]? =some (.cells #[.int .i64 0,.int .i64 0,.string ⟨#[]⟩,.slice none 0 0] 35 (0,0))
 rows:∀r∈L,zgL S w X r
 below:Below w.heap.size w X
 size:w.heap.size+3≤X.heap.size
theorem zga {w:World}{B g n cap:Nat}{e:TypeId}{xs:List Value}{u:Value}(h:w.ownsRow B e 1 (.slice (some ⟨g,0,none⟩) (n+1) cap) (n+1) (xs++[u]))(hn:n=xs.length):w.ownsRow B e 1 (.slice (some ⟨g,0,none⟩) n cap) n xs:=by
 exact sd4
theorem CpI.own {S:Nat→Prop}{w X V:World}{t:Tr}{L:List Wr}{wa:Option Addr}{wc b off:Nat}{f:Fo}(h:CpI S w t L X)(hw:X.heap[w.heap.size+1+1]? =some (.cells #[.slice wa L.length wc] 214 (0,0)))(hrow:X.ownsRow (w.heap.size+3) 33 1 (.slice wa L.length wc) L.length (L.map Wr.v))
 (hb:(b=w.heap.size∧off=0∧f=t.kids)∨w.heap.size+3≤b) (o:zjB S w.heap.size (w.heap.size+1+1) (w.heap.size+3) X wa L.length wc (L.map Wr.v) b off f V):∃r,r.f=f∧CpI S w t (L++[r]) V∧(∀l a,zQ X (SN S w.heap.size X) l a→zQ V (SN S w.heap.size V) l a)∧∀y,NB X y→NB V y:=by
 obtain⟨wa',wc',ka',kc',o1,o2,o3,o4,o5,⟨o6,o7,o8,o9⟩,oa,ob,oc,od⟩:=o
 have hs:=h.size
 have hne:∀y,y<w.heap.size+3→some y≠(Value.slice wa L.length wc).ownBlock:=fun y hy e=>by have:=(zY hrow e.symm).1;omega
 refine⟨⟨ka',f,kc'⟩,rfl,⟨?_,?_,?_,fun r hr=>?_,⟨o7.trans h.below.os,o8.trans h.below.tape,o9.trans h.below.output,NltQ h.below.size o6,fun y hy=>?_⟩,by omega⟩,oa,ob⟩
 · refine⟨wa',wc',?_,?_⟩
   · rw[LlaQ,List.length_singleton];exact o1
   · rw[LlaQ,List.length_singleton,List.map_append];exact o2
 · obtain⟨ka,kc,r1,r2,r3⟩:=h.root
   rcases hb with ⟨rfl,rfl,rfl⟩ | hb
   · exact⟨ka',kc',by rw[o5 _ r1];simp,o3,oc⟩
   · exact⟨ka,kc,(o4 _ om1 om1 om1 (hne _ om1)).trans r1,r2,oa _ _ r3⟩
 · refine (o4 _ om1 ?_ om1 (hne _ om1)).trans h.res
   rcases hb with ⟨rfl,_⟩ | hb<;>omega
 · rcases List.mem_append.1 hr with hr | hr
   · obtain⟨h1,h2,h3⟩:=h.rows r hr
     exact⟨h1,oa _ _ h2,fun h0=>by obtain⟨g,e,hg,hn⟩:=h3 h0;exact⟨g,e,hg,ob g hn⟩⟩
   · have:r=⟨ka',f,kc'⟩:=by simpa using hr
     subst this
     exact⟨o3,oc,fun h0=>by obtain⟨g,e,hg,hn⟩:=od h0;exact⟨g,e,by omega,hn⟩⟩
 · refine (o4 y om1 ?_ om1 (hne _ om1)).trans (h.below.block y hy)
   rcases hb with ⟨rfl,_⟩ | hb<;>omega
theorem CpI.pop {S:Nat→Prop}{w X:World}{t:Tr}{L:List Wr}{r:Wr}{g wc n:Nat}(h:CpI S w t (L++[r]) X)(hS:∀y,S y→y<w.heap.size)(hn:n=L.length)(hw:X.heap[w.heap.size+1+1]? =some (.cells #[.slice (some ⟨g,0,none⟩) (n+1) wc] 214 (0,0)))(hrow:X.ownsRow (w.heap.size+3) 33 1 (.slice (some ⟨g,0,none⟩) (n+1) wc) (n+1) ((L++[r]).map Wr.v)):
 CpI S w t L (X.setCell ⟨w.heap.size+1+1,0,none⟩ (.slice (some ⟨g,0,none⟩) n wc))∧zgL S w (X.setCell ⟨w.heap.size+1+1,0,none⟩ (.slice (some ⟨g,0,none⟩) n wc)) r:=by
 obtain⟨V,hV⟩:∃V,V=X.setCell ⟨w.heap.size+1+1,0,none⟩ (.slice (some ⟨g,0,none⟩) n wc):=⟨_,rfl⟩
 have ho:∀y,y≠w.heap.size+1+1→V.heap[y]? =X.heap[y]?:=fun y hy=>by rw[hV];exact BhsQ _ _ _ _ hy
 have hk:∀y,SN S w.heap.size X y→SN S w.heap.size V y∧V.heap[y]? =X.heap[y]?:=fun y hy=>by
  have hne:y≠w.heap.size+1+1:=fun e=>by
   rcases hy with hy | ⟨_,_,cs,hcs⟩
   · have:=hS y hy;omega
   · exact absurd (QA (by rw[e];exact hw) hcs) ue0
  exact⟨hy.imp (fun h=>h) (fun h=>⟨h.1,h.2.1,h.2.2.Jr (ho y hne)⟩),ho y hne⟩
 have hrw:∀x∈L++[r],zgL S w V x:=fun x hx=>by
  obtain⟨h1,h2,h3⟩:=h.rows x hx
  exact⟨h1,h2.kept hk,fun h0=>by obtain⟨g',e,hg,hN⟩:=h3 h0;exact⟨g',e,hg,(hN.Jr (ho g' om1))⟩⟩
 rw[←hV]
 have hs:=h.size
 have hgb:=zY hrow (g:=g) rfl
 refine⟨⟨⟨some ⟨g,0,none⟩,wc,?_,?_⟩,?_,(ho _ om1).trans h.res,fun x hx=>hrw x (List.mem_append_left _ hx),?_,?_⟩,hrw r sp⟩
 · rw[hV,hssQ X _ 0 _ _ _ hw,←hn];simp
 · rw[←hn]
   have h1:=yo (w':=V) hrow (fun g' cur hc hg'=>ho g' (by simp only[Value.ownBlock,Option.some.injEq] at hg';omega))
   rw[List.map_append,List.map_cons,List.map_nil] at h1
   exact zga h1 (by rw[List.length_map];exact hn)
 · obtain⟨ka,kc,r1,r2,r3⟩:=h.root
   exact⟨ka,kc,(ho _ om1).trans r1,r2,r3.kept hk⟩
 · rw[hV];exact h.below.setCell ud3 _
 · rw[hV];simp[World.setCell];omega
theorem zb3:∀(L:List Wr),L= []∨∃A s,L=A++[s]:=fun L=>by
 rcases List.eq_nil_or_concat L with h | ⟨A,s,h⟩
 · exact Or.inl h
 · exact Or.inr ⟨A,s,by simpa using h⟩
theorem qo {P:Program}{fn:Func}{p:Tmp}{ty:TypeId}(h:fn.results= #[.cell p ty])(tmps:Array Value)(w:World)(g:Nat)(t:TypeId)(cs:Array Value)(fr:Nat×Nat)(d:TypeDesc)
 (hp:tmps.getD p undef= .pointer (some ⟨g,0,none⟩)) (hg:w.heap[g]? =some (.cells cs t fr)) (hu:P.underlying ty=some d) (hd:(match d with | .struct _ | .array _ _=>true | _=>false)=true) (hi:(P.info? ty).map (·.size)=some cs.size):
 (results fn tmps).run P w= .ok (.agg cs) w:=by
 exact sf7
def zbR (w:World)(S:Nat→Prop)(t:Tr)(e:Ending)(w' :World):Prop:=∃v,e= .returned v∧kT w' (fun y=>(S y∨w.heap.size≤y)∧y<w'.heap.size) v t∧Below w.heap.size w w'
theorem zc2 {f:Fo}{k:Nat}{u:Tr}(h:Yc f k=some u):zh (zW (k+1) f)=zh (zW k f)+zh u.kids+1:=by
 have:=congrArg List.length (Qs f k u h)
 rw[LlaQ,qy,qy,Zg] at this
 omega
theorem zbk:∀(j:Nat) (f:Fo),zh (zW j f)≤zh f
 | 0,f=>by cases f<;>simp[zW,zh]
 | j+1,.nil=>by simp[zW,zh]
 | j+1,.node _ _ _ l r=>by have:=zbk j r;simp only[zW,zh];omega
theorem zec (w:World)(S:Nat→Prop)(nv:Value)(t:Tr)(hS:∀y,S y→y<w.heap.size)(ht:kT w S nv t)(hsz:zh t.kids≤100000):Calls Tryz.prog 153 #[nv] w (zbR w S t):=by
 obtain⟨ka,tc,rfl,hcap,hk⟩:=ht
 obtain⟨nk,hnk⟩:∃nk,nk=foLen t.kids:=⟨_,rfl⟩
 rw[←hnk]
 have hmf:∀(fn:Fn) (first cap:Array Value) (w:World),(Instr.makeFunc fn first cap).run Tryz.prog w= .ok (.func fn first cap) w:=fun _ _ _ _=>rfl
 obtain⟨B,hB⟩:∃B,B=zU w [.cells #[.int .i64 t.id,.int .i64 t.kind,.string t.text,.slice ka nk tc] 35,.cells #[.int .i64 0,.int .i64 0,.string ⟨#[]⟩,.slice none 0 0] 35,.cells #[.slice none 0 0] 214]:=⟨_,rfl⟩
 have hb:Below w.heap.size w B:=by rw[hB];exact zR _ _
 have hs:B.heap.size=w.heap.size+3:=by rw[hB];exact qV _ _
 have ht0:B.heap[w.heap.size]? =some (.cells #[.int .i64 t.id,.int .i64 t.kind,.string t.text,.slice ka nk tc] 35 (0,0)):=by rw[hB];exact zD _ _ 0 _ rfl
 have hr0:B.heap[w.heap.size+1]? =some (.cells #[.int .i64 0,.int .i64 0,.string ⟨#[]⟩,.slice none 0 0] 35 (0,0)):=by rw[hB];exact zD _ _ 1 _ rfl
 have hw0:B.heap[w.heap.size+1+1]? =some (.cells #[.slice none 0 0] 214 (0,0)):=by rw[hB];exact zD _ _ 2 _ rfl
 have hfo:zQ B (SN S w.heap.size B) t.kids ka:=hk.kept fun y hy=>⟨Or.inl hy,hb.block y (hS y hy)⟩
 have hI0:CpI S w t [] B:=⟨⟨none,0,hw0,World.ownsRow_nil _ _ _ _⟩,⟨ka,tc,by rw[←hnk];exact ht0,hcap,hfo⟩,hr0,fun r hr=>(by cases hr),hb,by omega⟩
 have hfl:=jG t.kids
 have hcall:=zfl S w.heap.size (w.heap.size+1+1) (w.heap.size+3) B none 0 0 [] w.heap.size 0 tc ka t.kids hS om1 om1 om1 hw0 (World.ownsRow_nil _ _ _ _) om1 ⟨_,ht0⟩ (NlrQ _) (by rw[corQ _ _ _ _ _ _ ht0,←hnk];rfl) hfo om1 om1
 have HC:=hH hcall
 have HSS:=hH hS
 have HI0:=hH (aN hI0 hw0)
 have HBE:=hH hB
 have HSZ:=hH hsz
 clear hcall hI0 hfo hw0 hr0 ht0 hs hb hB hnk hk hcap hS hfl hsz
 go_enter Tryz.func153,Tryz.ntmps153
 go_upto_region 2 with fail
 change Code.wp _ _ _ _ (zU w [.cells #[.int .i64 t.id,.int .i64 t.kind,.string t.text,.slice ka nk tc] 35,.cells #[.int .i64 0,.int .i64 0,.string ⟨#[]⟩,.slice none 0 0] 35,.cells #[.slice none 0 0] 214])
 rw[←HBE.out]
 clear HBE
 go_wp2_with fail
 refine HC.out.mono ?_
 rintro e V0 ⟨rfl,ho⟩
 obtain⟨r0,hr0,hI1,_,_⟩:=HI0.out.1.own HI0.out.2 (World.ownsRow_nil _ _ _ _) (Or.inl ⟨rfl,rfl,rfl⟩) ho
 rw[List.nil_append] at hI1
 have hm0:Zl [r0]≤100001:=by simp only[Zl,hr0];have:=HSZ.out;omega
 have HI1:=hH (aN hI1 hm0)
 clear hI1 ho hr0 HI0 HC hm0 HSZ
 go_wp2_with fail
 go_loopg [5] (Zl [r0]) (fun gk s5 wr=>∃L:List Wr,gk=Zl L∧Hid (CpI S w t L wr∧Zl L≤100001))
 case atStart=>exact⟨[r0],rfl,HI1⟩
 case round=>
  obtain⟨L,hgk,hh⟩:=hrel
  obtain⟨wo,hwo⟩:∃wo,wo=wr:=⟨_,rfl⟩
  subst hwo
  obtain⟨wa,wc,hw,hrow⟩:=hh.out.1.wait
  rcases zb3 L with rfl | ⟨L0,r,rfl⟩
  · have c0:wo.cell? ⟨w.heap.size+1+1,0,none⟩=some (.slice wa 0 wc):=by rw[corQ _ _ 0 _ _ _ hw];rfl
    obtain⟨rka,rkc,q1,q2,q3⟩:=hh.out.1.root
    have q4:=hh.out.1.res
    have q5:=hh.out.1.below
    have q6:=hh.out.1.size
    obtain⟨k0,k1,k2,k3⟩:=zbW q1
    obtain⟨z0,z1,z2,z3⟩:=zbW q4
    have zf:∀j,wo.frozen? ⟨w.heap.size+1,j,none⟩=false:=fun j=>forQ _ _ j _ _ q4
    obtain⟨m,hm⟩:∃m,m=foLen t.kids:=⟨_,rfl⟩
    rw[←hm] at q1 q2 k3
    obtain⟨V,hV,r1,r2,r3,r4,r5,r6⟩:=zai (u0:= .int .i64 t.id) (u1:= .int .i64 t.kind) (u2:= .string t.text) (u3:= .slice rka m rkc) q4
    have HEND:Hid (zbR w S t (.returned (.agg #[.int .i64 t.id,.int .i64 t.kind,.string t.text,.slice rka m rkc])) V):=hH ⟨_,rfl,⟨rka,rkc,by rw[hm],by omega,q3.kept fun y hy=>by
     have hlt:=hy.lt HSS.out om1
     exact⟨⟨hy.imp (fun h=>h) (fun h=>h.2.1),show y<V.heap.size by omega⟩,r2 y (by rcases hy with hy | ⟨hy,_⟩;have:=HSS.out y hy;omega;omega)⟩⟩,⟨r3.trans q5.os,r4.trans q5.tape,r5.trans q5.output,by rw[r6];exact q5.size,fun y hy=>(r2 y om1).trans (q5.block y hy)⟩⟩
    have HV:=hH (aN hV r1)
    clear hh hw hrow q1 q2 q3 q4 q5 q6 hm hV r1 r2 r3 r4 r5 r6 HI1
    go_wp2_with fail
    rw[←HV.out.1]
    refine brQ (qo rfl _ _ (w.heap.size+1) 35 _ (0,0) _ rfl HV.out.2 Tryz.underlying35 rfl kr1) rfl ?_
    exact HEND.out
  · obtain ⟨n,hn⟩:∃n,n=L0.length:=⟨_,rfl⟩
    have hlen:(L0++[r]).length=n+1:=by simp[hn]
    rw[hlen] at hw hrow
    obtain⟨g,cap2,e,_⟩:=hrow.form om1
    cases e
    have c0:wo.cell? ⟨w.heap.size+1+1,0,none⟩=some (.slice (some ⟨g,0,none⟩) (n+1) wc):=by rw[corQ _ _ 0 _ _ _ hw];rfl
    have cf:∀j,wo.frozen? ⟨w.heap.size+1+1,j,none⟩=false:=fun j=>forQ _ _ j _ _ hw
    obtain⟨rn,hrn⟩:∃rn,rn=foLen r.f:=⟨_,rfl⟩
    have t0:wo.cell? ⟨g,n,none⟩=some (.slice r.a rn r.cap):=yH hrow rfl n _ (by
     rw[List.map_append,List.getElem?_append_right (by rw[List.length_map];omega),List.length_map,←hn,Nat.sub_self,hrn];rfl)
    have hnc:n+1≤wc:=by
     rcases hrow.2 with ⟨hv,_⟩ | ⟨_,_,_,hv,_,_,h3,_⟩
     · cases hv
     · cases hv;exact h3
    obtain⟨hp1,hp2⟩:=hh.out.1.pop HSS.out hn hw hrow
    obtain⟨V,hV⟩:∃V,V=wo.setCell ⟨w.heap.size+1+1,0,none⟩ (.slice (some ⟨g,0,none⟩) n wc):=⟨_,rfl⟩
    rw[←hV] at hp1 hp2
    have hw6:=hh.out.2
    have hws:Zl (L0++[r])=Zl L0+zh r.f+1:=by rw[kH];simp only[Zl];omega
    have hwl:=zaM L0
    have hfr:=jG r.f
    rw[hws] at hgk hw6
    have hn6:n≤100000:=by omega
    have hr6:rn≤100001:=by omega
    have HV:=hH hV
    have HP:=hH (aN hp1 (aN hp2 (aN hgk (aN hw6 hrn))))
    clear hh hw hrow hlen hp1 hp2 hgk hw6 hws hwl hfr hrn hV hn HI1
    go_wp2_with fail
    rw[←HV.out]
    go_loopw [26] (fun i wr=>∃(k:Nat) (L1:List Wr),k≤rn∧i= .int .i64 (k:Int)∧Hid (CpI S w t (L0++L1) wr∧zgL S w wr r∧Zl L1=zh (zW k r.f))) (fun i _=>rn - (intOf i).toNat)
    case atStart=>exact⟨0,[],NzlQ _,rfl,hH ⟨by rw[List.append_nil];exact HP.out.1,HP.out.2.1,by cases r.f<;>rfl⟩⟩
    case round=>
     obtain⟨k,L1,hk,rfl,hh⟩:=hrel
     by_cases hlt:k<rn
     · have hki:(k:Int)<(rn:Int):=by omega
       obtain⟨hI,⟨hr1,hr2,hr3⟩,hws⟩:=hh.out
       have hrn:=HP.out.2.2.2.2
       have hw6:=HP.out.2.2.2.1
       obtain⟨g3,ha,hg3,hN3⟩:=hr3 om1
       obtain⟨b0,o0,key,ll,rr,hd,g2,go,na,nc,hka,hSg,q0,q1,q2,q3,qc,qk⟩:=hr2.at k om1
       rw[ha] at hka
       cases hka
       have hkid:Yc r.f k=some ⟨key.1,key.2.1,key.2.2,ll⟩:=by rw[Yc,hd];rfl
       have hksz:=QT hkid
       have hll:=jG ll
       have hts:=zc2 hkid
       have htl:=zbk k r.f
       have hwa:Zl (L0++L1)=Zl L0+Zl L1:=kH _ _
       have hwl:=zaM (L0++L1)
       obtain⟨wa2,wc2,hw2,hrow2⟩:=hI.wait
       simp only at hksz hts
       rw[Nat.zero_add] at q3
       have hcall:=zfl S w.heap.size (w.heap.size+1+1) (w.heap.size+3) wr wa2 (L0++L1).length wc2 ((L0++L1).map Wr.v) g3 (k*4) nc na ll HSS.out om1 om1 hI.size hw2 hrow2 om1 hN3 om1 q3 qk om1 om1
       have HC:=hH hcall
       have HN:=hH (aN hlt (aN hts (aN hg3 (aN hI (aN hw2 (aN hrow2 (aN hr1 (aN hr2 (aN hr3 (aN hws (aN ha hkid)))))))))))
       have hk0:(0:Int)≤(k:Int):=by omega
       clear hcall hlt hts hg3 hI hw2 hrow2 hr1 hr2 hr3 hws hkid hksz hll htl hwa hwl hN3 hd hSg q0 q1 q2 q3 qc qk hh hrn hw6 hk t0 cf c0
       rw[ha]
       go_wp2_with fail
       refine HC.out.mono ?_
       rintro e V2 ⟨rfl,ho⟩
       obtain⟨hlt,hts,hg3,hI,hw2,hrow2,hr1,hr2,hr3,hws,ha',hkid⟩:=HN.out
       obtain⟨r2,hrf,hI2,hkeep,hNB⟩:=hI.own hw2 hrow2 (Or.inr hg3) ho
       have HR:=hH (show CpI S w t (L0++(L1++[r2])) V2∧zgL S w V2 r∧Zl (L1++[r2])=zh (zW (k+1) r.f) from⟨by rw[←List.append_assoc];exact hI2,⟨hr1,hkeep _ _ hr2,fun h0=>by obtain⟨g,e,h1,h2⟩:=hr3 h0;exact⟨g,e,h1,hNB g h2⟩⟩,by rw[kH,hws,hts];simp only[Zl,hrf];omega⟩)
       have HLT:=hH hlt
       clear hlt hts hg3 hI hw2 hrow2 hr1 hr2 hr3 hws ha' hkid hI2 hkeep hNB ho HN HC hrf
       go_wp2_with fail
       exact⟨⟨k+1,L1++[r2],by have:=HLT.out;omega,by go_num,HR⟩,by have:=HLT.out;simp[intOf];omega⟩
     · have hki:¬(k:Int)<(rn:Int):=by omega
       have HKN:=hH (show k=rn by omega)
       clear hlt hk t0 cf c0
       go_wp2_with fail
       go_roundg (gk - 1)
       case measure=>have:=HP.out.2.2.1;omega
       case rel=>
        refine⟨L0++L1,?_,hH ⟨hh.out.1,?_⟩⟩
        all_goals
         have h1:=hh.out.2.2
         rw[HKN.out,HP.out.2.2.2.2,Zf _ r.f (NlrQ _)] at h1
         have h2:=kH L0 L1
         have h3:=HP.out.2.2.1
         have h4:=HP.out.2.2.2.1
         omega
def zlw (w:World)(S:Nat→Prop)(v:Value)(s:Sf):Prop:=∃ka kc,v= .agg #[.int .i8 s.op,.int .i64 s.id,.int .i64 s.par,.int .i64 s.at_,.string s.tx,.int .i64 s.sub.id,.int .i64 s.sub.kind,.string s.sub.text,.slice ka (foLen s.sub.kids) kc]∧foLen s.sub.kids≤kc∧zQ w S s.sub.kids ka
def Z6 (w:World)(S:Nat→Prop)(s:Sf)(e:Ending)(w' :World):Prop:=∃v,e= .returned v∧zlw w' (fun y=>(S y∨w.heap.size≤y)∧y<w'.heap.size) v s∧Below w.heap.size w w'
theorem one_set {V:World}{R1 i:Nat}{cs:Array Value}{T:TypeId}{u:Value}(h2:V.heap[R1]? =some (.cells cs T (0,0))):
 ∃V5,V5=V.setCell ⟨R1,i,none⟩ u∧V5.heap[R1]? =some (.cells (cs.setIfInBounds i u) T (0,0))∧(∀y,y≠R1→V5.heap[y]? =V.heap[y]?)∧V5.os=V.os∧V5.tape=V.tape∧V5.output=V.output∧V5.heap.size=V.heap.size:=
 ⟨_,rfl,hssQ V R1 i _ _ u h2,fun y hy=>BhsQ _ _ _ _ hy,rfl,rfl,rfl,by simp[World.setCell]⟩
theorem Qv {V:World}{R1:Nat}{c0 c1 c2 c3 c4 c5 c6 c7 c8 u0 u1 u2 u3 u4 u5 u6 u7 u8:Value}(h2:V.heap[R1]? =some (.cells #[c0,c1,c2,c3,c4,c5,c6,c7,c8] 41 (0,0))):
 ∃V5,V5=(((((((((V.setCell ⟨R1,0,none⟩ u0).setCell ⟨R1,1,none⟩ u1).setCell ⟨R1,2,none⟩ u2).setCell ⟨R1,3,none⟩ u3).setCell ⟨R1,4,none⟩ u4).setCell ⟨R1,5,none⟩ u5).setCell ⟨R1,6,none⟩ u6).setCell ⟨R1,7,none⟩ u7).setCell ⟨R1,8,none⟩ u8)∧V5.heap[R1]? =some (.cells #[u0,u1,u2,u3,u4,u5,u6,u7,u8] 41 (0,0))∧(∀y,y≠R1→V5.heap[y]? =V.heap[y]?)∧V5.os=V.os∧V5.tape=V.tape∧V5.output=V.output∧V5.heap.size=V.heap.size:=by
 obtain⟨V1,e1,g1,o1,a1,t1,p1,s1⟩:=one_set (i:=0) (u:=u0) h2
 obtain⟨V2,e2,g2,o2,a2,t2,p2,s2⟩:=one_set (i:=1) (u:=u1) g1
 obtain⟨V3,e3,g3,o3,a3,t3,p3,s3⟩:=one_set (i:=2) (u:=u2) g2
 obtain⟨V4,e4,g4,o4,a4,t4,p4,s4⟩:=one_set (i:=3) (u:=u3) g3
 obtain⟨V5,e5,g5,o5,a5,t5,p5,s5⟩:=one_set (i:=4) (u:=u4) g4
 obtain⟨V6,e6,g6,o6,a6,t6,p6,s6⟩:=one_set (i:=5) (u:=u5) g5
 obtain⟨V7,e7,g7,o7,a7,t7,p7,s7⟩:=one_set (i:=6) (u:=u6) g6
 obtain⟨V8,e8,g8,o8,a8,t8,p8,s8⟩:=one_set (i:=7) (u:=u7) g7
 obtain⟨V9,e9,g9,o9,a9,t9,p9,s9⟩:=one_set (i:=8) (u:=u8) g8
 refine⟨V9,by rw[e9,e8,e7,e6,e5,e4,e3,e2,e1],by simpa using g9,fun y hy=>by rw[o9 y hy,o8 y hy,o7 y hy,o6 y hy,o5 y hy,o4 y hy,o3 y hy,o2 y hy,o1 y hy],by rw[a9,a8,a7,a6,a5,a4,a3,a2,a1],by rw[t9,t8,t7,t6,t5,t4,t3,t2,t1],by rw[p9,p8,p7,p6,p5,p4,p3,p2,p1],by rw[s9,s8,s7,s6,s5,s4,s3,s2,s1]⟩
theorem Zt {w:World}{b:Nat}{c0 c1 c2 c3 c4 c5 c6 c7 c8:Value}{T:TypeId}(h:w.heap[b]? =some (.cells #[c0,c1,c2,c3,c4,c5,c6,c7,c8] T (0,0))):w.cell? ⟨b,0,none⟩=some c0∧w.cell? ⟨b,1,none⟩=some c1∧w.cell? ⟨b,2,none⟩=some c2∧w.cell? ⟨b,3,none⟩=some c3∧w.cell? ⟨b,4,none⟩=some c4∧w.cell? ⟨b,5,none⟩=some c5∧w.cell? ⟨b,6,none⟩=some c6∧w.cell? ⟨b,7,none⟩=some c7∧w.cell? ⟨b,8,none⟩=some c8:=
 ⟨by rw[corQ _ _ 0 _ _ _ h];rfl,by rw[corQ _ _ 1 _ _ _ h];rfl,by rw[corQ _ _ 2 _ _ _ h];rfl,by rw[corQ _ _ 3 _ _ _ h];rfl,by rw[corQ _ _ 4 _ _ _ h];rfl,by rw[corQ _ _ 5 _ _ _ h];rfl,by rw[corQ _ _ 6 _ _ _ h];rfl,by rw[corQ _ _ 7 _ _ _ h];rfl,by rw[corQ _ _ 8 _ _ _ h];rfl⟩
def Zu (s:Sf):Nat:=if s.op=1 then zh s.sub.kids+1 else 0
def qg:List Sf→Nat
 | []=>0
 | s::l=>Zu s+qg l
theorem Zv:∀a b:List Sf,qg (a++b)=qg a+qg b
 | [],b=>by simp[qg]
 | s::a,b=>by rw[List.cons_append,qg,qg,Zv a b];omega
def zbt (l:List Sf):Bool:=decide (l.length≤60) && decide (qg l≤200)
theorem YC (l:List Sf):zbt l=true↔l.length≤60∧qg l≤200:=by simp[zbt]
structure Yy (s:Sf):Prop where
 op:(Lit.int .i8 s.op).wf=true
 size:zh s.sub.kids+1≤2000
 ok:okF (spF 1 (qJ s.sub))
 tx:(s.tx.size:Int)≤9223372036854775807
end Go.Proofs.YtoidedomenkbpaaGreat
