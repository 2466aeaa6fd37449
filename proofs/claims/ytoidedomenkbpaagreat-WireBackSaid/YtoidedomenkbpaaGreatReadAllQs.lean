/-
  .
-/
import Derived.Test.YtoidedomenkbpaaGreatReadKQs
set_option maxRecDepth 100000
set_option maxHeartbeats 40000000
namespace Go.Proofs.YtoidedomenkbpaaGreat
open Go.RowKit Go.Shelf
open Extern.Stop (cell)
set_option linter.unusedVariables false
set_option linter.unusedSimpArgs false
def rd0 (bs:List UInt8):Rd:=⟨zI bs,1,false⟩
def yB (bs:List UInt8)(k:Nat):Prop:=(1≤k∧k≤10)∧bs.length≤65536∧okN bs=true∧(zI bs)[0]? =some (zH k)
def zkR (bs:List UInt8)(at_ er:Int):Prop:=
 (65536<bs.length∧at_=0∧er=3)∨(bs.length≤65536∧okN bs=false∧at_=0∧er=30)∨(bs.length≤65536∧okN bs=true∧JL (zI bs)∧at_=0∧er=30)∨
 (∃k,yB bs k∧(zb k (rd0 bs)).e.yR= .tuple #[.int .i64 at_,.int .i64 er]∧er=30∧0≤at_∧at_≤bs.length)∨
 (∃k,yB bs k∧(zb k (rd0 bs)).e.yR= .tuple #[.int .i64 0,.int .i64 0]∧at_=0∧er=30∧∃(m:RM) (V:World),zZ (zb k (rd0 bs)) m V∧yG k (zb k (rd0 bs)) m=false)
def kY (bs:List UInt8)(w:World)(e:Ending)(Z:World):Prop:=
 (∃at_ er,zkR bs at_ er∧za6 at_ er w e Z)∨
 (∃(k:Nat) (m:RM),yB bs k∧(zb k (rd0 bs)).e.yR= .tuple #[.int .i64 0,.int .i64 0]∧Below w.heap.size w Z∧zZ (zb k (rd0 bs)) m Z∧e= .returned (.tuple #[.agg #[.int .i8 (k:Int),.int .i64 m.n1,.int .i64 m.n2,.int .i64 m.n3,.int .i64 m.n4,.int .i64 m.n5,.int .i64 m.n6,.int .i64 m.n7,.int .i64 m.n8,.int .i64 m.n9,.int .i64 m.n10,.slice m.sa m.sn m.sc,.int .i64 m.id,.int .i64 m.kd,.string m.tx,.slice m.ar m.am m.ad],.int .i64 0,.int .i64 0])∧yG k (zb k (rd0 bs)) m=true)
theorem qQ (bs:List UInt8):(zI bs).length≤bs.length:=by
 unfold zI
 split
 · rw[List.length_take];omega
 · simp
theorem wrap_small (x:Nat)(h:x<256):1≤IntKind.i8.wrap (x:Int)→IntKind.i8.wrap (x:Int)≤10→1≤x∧x≤10:=by
 have e3:IntKind.i8.wrap (x:Int)=((x:Int)+128) % 256 - 128:=by
  unfold IntKind.wrap
  simp[IntKind.signed,IntKind.bits]
  omega
 rw[e3]
 omega
theorem zio (u:UInt8)(h1:1≤vX u)(h2:vX u≤10):(1≤u.toNat∧u.toNat≤10)∧u=zH u.toNat:=by
 refine⟨wrap_small u.toNat u.toNat_lt h1 h2,?_⟩
 unfold zH
 simp
theorem jZ (e:Rd):∃at_ er:Int,e.yR= .tuple #[.int .i64 at_,.int .i64 er]∧((er=30∧at_=(e.pos:Int))∨(er=0∧at_=0)):=by
 unfold Rd.yR
 split
 · exact⟨_,_,rfl,Or.inl ⟨rfl,rfl⟩⟩
 · exact⟨_,_,rfl,Or.inr ⟨rfl,rfl⟩⟩
theorem zhn (w:World)(a:Option Addr)(cap:Nat)(bs:List UInt8)(hat:zL w a bs)(hc:bs.length≤cap)(hc2:(cap:Int)≤9223372036854775807)(hk:yB bs 1):Calls Tryz.prog 33 #[.slice a bs.length cap] w (kY bs w):=by
 obtain⟨at_,er,he,hae⟩:=jZ (zb 1 (rd0 bs)).e
 have hol:=qQ bs
 have hl:=hk.2.1
 refine (kr w a cap bs (zI bs) 1 (zb 1 (rd0 bs)).e (zZ (zb 1 (rd0 bs))) (yG 1 (zb 1 (rd0 bs))) at_ er hat hl hc hc2 hk.2.2.1 rfl om1 hk.2.2.2 ue0 ue0 (fun m Z U h hb=>h.on hb) (fun rb Y hY hx hr hlt=>ziB w.heap.size rb om1 (rd0 bs) Y hx hr uc2) he (fun _ m V hm=>zke _ m V hm)).mono fun e Z h=>?_
 rcases h with ⟨h1,h2,h3⟩ | ⟨h1,h2,m,V,h3,h4⟩ | ⟨h1,h2,m,h3,h4,h5⟩
 · refine Or.inl ⟨at_,er,Or.inr (Or.inr (Or.inr (Or.inl ⟨1,hk,he,?_⟩))),h3⟩
   rcases hae with ⟨e1,e2⟩ | ⟨e1,e2⟩
   · rw[zhw] at h2
     have h2:(zb 1 (rd0 bs)).e.pos≤(zI bs).length:=h2
     exact⟨e1,by omega,by omega⟩
   · exact absurd e1 h1
 · rcases hae with ⟨e1,e2⟩ | ⟨e1,e2⟩
   · omega
   · rw[e1,e2] at he
     exact Or.inl ⟨0,30,Or.inr (Or.inr (Or.inr (Or.inr ⟨1,hk,he,rfl,rfl,m,V,h3,h4⟩))),h2⟩
 · rcases hae with ⟨e1,e2⟩ | ⟨e1,e2⟩
   · omega
   · rw[e1,e2] at he
     exact Or.inr ⟨1,m,hk,he,h2,h3,h4,h5⟩
theorem zho (w:World)(a:Option Addr)(cap:Nat)(bs:List UInt8)(hat:zL w a bs)(hc:bs.length≤cap)(hc2:(cap:Int)≤9223372036854775807)(hk:yB bs 2):Calls Tryz.prog 33 #[.slice a bs.length cap] w (kY bs w):=by
 obtain⟨at_,er,he,hae⟩:=jZ (zb 2 (rd0 bs)).e
 have hol:=qQ bs
 have hl:=hk.2.1
 refine (kr w a cap bs (zI bs) 2 (zb 2 (rd0 bs)).e (zZ (zb 2 (rd0 bs))) (yG 2 (zb 2 (rd0 bs))) at_ er hat hl hc hc2 hk.2.2.1 rfl om1 hk.2.2.2 ue0 ue0 (fun m Z U h hb=>h.on hb) (fun rb Y hY hx hr hlt=>ziC w.heap.size rb om1 (rd0 bs) Y hx hr uc2) he (fun _ m V hm=>zkf _ m V hm)).mono fun e Z h=>?_
 rcases h with ⟨h1,h2,h3⟩ | ⟨h1,h2,m,V,h3,h4⟩ | ⟨h1,h2,m,h3,h4,h5⟩
 · refine Or.inl ⟨at_,er,Or.inr (Or.inr (Or.inr (Or.inl ⟨2,hk,he,?_⟩))),h3⟩
   rcases hae with ⟨e1,e2⟩ | ⟨e1,e2⟩
   · rw[zhx] at h2
     have h2:(zb 2 (rd0 bs)).e.pos≤(zI bs).length:=h2
     exact⟨e1,by omega,by omega⟩
   · exact absurd e1 h1
 · rcases hae with ⟨e1,e2⟩ | ⟨e1,e2⟩
   · omega
   · rw[e1,e2] at he
     exact Or.inl ⟨0,30,Or.inr (Or.inr (Or.inr (Or.inr ⟨2,hk,he,rfl,rfl,m,V,h3,h4⟩))),h2⟩
 · rcases hae with ⟨e1,e2⟩ | ⟨e1,e2⟩
   · omega
   · rw[e1,e2] at he
     exact Or.inr ⟨2,m,hk,he,h2,h3,h4,h5⟩
theorem zhp (w:World)(a:Option Addr)(cap:Nat)(bs:List UInt8)(hat:zL w a bs)(hc:bs.length≤cap)(hc2:(cap:Int)≤9223372036854775807)(hk:yB bs 3):Calls Tryz.prog 33 #[.slice a bs.length cap] w (kY bs w):=by
 obtain⟨at_,er,he,hae⟩:=jZ (zb 3 (rd0 bs)).e
 have hol:=qQ bs
 have hl:=hk.2.1
 refine (kr w a cap bs (zI bs) 3 (zb 3 (rd0 bs)).e (zZ (zb 3 (rd0 bs))) (yG 3 (zb 3 (rd0 bs))) at_ er hat hl hc hc2 hk.2.2.1 rfl om1 hk.2.2.2 ue0 ue0 (fun m Z U h hb=>h.on hb) (fun rb Y hY hx hr hlt=>ziD w.heap.size rb om1 (rd0 bs) Y hx hr uc2) he (fun _ m V hm=>zkg _ m V hm)).mono fun e Z h=>?_
 rcases h with ⟨h1,h2,h3⟩ | ⟨h1,h2,m,V,h3,h4⟩ | ⟨h1,h2,m,h3,h4,h5⟩
 · refine Or.inl ⟨at_,er,Or.inr (Or.inr (Or.inr (Or.inl ⟨3,hk,he,?_⟩))),h3⟩
   rcases hae with ⟨e1,e2⟩ | ⟨e1,e2⟩
   · rw[zhy] at h2
     have h2:(zb 3 (rd0 bs)).e.pos≤(zI bs).length:=h2
     exact⟨e1,by omega,by omega⟩
   · exact absurd e1 h1
 · rcases hae with ⟨e1,e2⟩ | ⟨e1,e2⟩
   · omega
   · rw[e1,e2] at he
     exact Or.inl ⟨0,30,Or.inr (Or.inr (Or.inr (Or.inr ⟨3,hk,he,rfl,rfl,m,V,h3,h4⟩))),h2⟩
 · rcases hae with ⟨e1,e2⟩ | ⟨e1,e2⟩
   · omega
   · rw[e1,e2] at he
     exact Or.inr ⟨3,m,hk,he,h2,h3,h4,h5⟩
theorem zhq (w:World)(a:Option Addr)(cap:Nat)(bs:List UInt8)(hat:zL w a bs)(hc:bs.length≤cap)(hc2:(cap:Int)≤9223372036854775807)(hk:yB bs 4):Calls Tryz.prog 33 #[.slice a bs.length cap] w (kY bs w):=by
 obtain⟨at_,er,he,hae⟩:=jZ (zb 4 (rd0 bs)).e
 have hol:=qQ bs
 have hl:=hk.2.1
 refine (kr w a cap bs (zI bs) 4 (zb 4 (rd0 bs)).e (zZ (zb 4 (rd0 bs))) (yG 4 (zb 4 (rd0 bs))) at_ er hat hl hc hc2 hk.2.2.1 rfl om1 hk.2.2.2 ue0 ue0 (fun m Z U h hb=>h.on hb) (fun rb Y hY hx hr hlt=>ziE w.heap.size rb om1 (rd0 bs) Y hx hr uc2) he (fun _ m V hm=>zkh _ m V hm)).mono fun e Z h=>?_
 rcases h with ⟨h1,h2,h3⟩ | ⟨h1,h2,m,V,h3,h4⟩ | ⟨h1,h2,m,h3,h4,h5⟩
 · refine Or.inl ⟨at_,er,Or.inr (Or.inr (Or.inr (Or.inl ⟨4,hk,he,?_⟩))),h3⟩
   rcases hae with ⟨e1,e2⟩ | ⟨e1,e2⟩
   · rw[zhz] at h2
     have h2:(zb 4 (rd0 bs)).e.pos≤(zI bs).length:=h2
     exact⟨e1,by omega,by omega⟩
   · exact absurd e1 h1
 · rcases hae with ⟨e1,e2⟩ | ⟨e1,e2⟩
   · omega
   · rw[e1,e2] at he
     exact Or.inl ⟨0,30,Or.inr (Or.inr (Or.inr (Or.inr ⟨4,hk,he,rfl,rfl,m,V,h3,h4⟩))),h2⟩
 · rcases hae with ⟨e1,e2⟩ | ⟨e1,e2⟩
   · omega
   · rw[e1,e2] at he
     exact Or.inr ⟨4,m,hk,he,h2,h3,h4,h5⟩
theorem zhr (w:World)(a:Option Addr)(cap:Nat)(bs:List UInt8)(hat:zL w a bs)(hc:bs.length≤cap)(hc2:(cap:Int)≤9223372036854775807)(hk:yB bs 5):Calls Tryz.prog 33 #[.slice a bs.length cap] w (kY bs w):=by
 obtain⟨at_,er,he,hae⟩:=jZ (zb 5 (rd0 bs)).e
 have hol:=qQ bs
 have hl:=hk.2.1
 refine (kr w a cap bs (zI bs) 5 (zb 5 (rd0 bs)).e (zZ (zb 5 (rd0 bs))) (yG 5 (zb 5 (rd0 bs))) at_ er hat hl hc hc2 hk.2.2.1 rfl om1 hk.2.2.2 ue0 ue0 (fun m Z U h hb=>h.on hb) (fun rb Y hY hx hr hlt=>ziF w.heap.size rb om1 (rd0 bs) Y hx hr uc2) he (fun _ m V hm=>zki _ m V hm)).mono fun e Z h=>?_
 rcases h with ⟨h1,h2,h3⟩ | ⟨h1,h2,m,V,h3,h4⟩ | ⟨h1,h2,m,h3,h4,h5⟩
 · refine Or.inl ⟨at_,er,Or.inr (Or.inr (Or.inr (Or.inl ⟨5,hk,he,?_⟩))),h3⟩
   rcases hae with ⟨e1,e2⟩ | ⟨e1,e2⟩
   · rw[zhA] at h2
     have h2:(zb 5 (rd0 bs)).e.pos≤(zI bs).length:=h2
     exact⟨e1,by omega,by omega⟩
   · exact absurd e1 h1
 · rcases hae with ⟨e1,e2⟩ | ⟨e1,e2⟩
   · omega
   · rw[e1,e2] at he
     exact Or.inl ⟨0,30,Or.inr (Or.inr (Or.inr (Or.inr ⟨5,hk,he,rfl,rfl,m,V,h3,h4⟩))),h2⟩
 · rcases hae with ⟨e1,e2⟩ | ⟨e1,e2⟩
   · omega
   · rw[e1,e2] at he
     exact Or.inr ⟨5,m,hk,he,h2,h3,h4,h5⟩
theorem zhs (w:World)(a:Option Addr)(cap:Nat)(bs:List UInt8)(hat:zL w a bs)(hc:bs.length≤cap)(hc2:(cap:Int)≤9223372036854775807)(hk:yB bs 6):Calls Tryz.prog 33 #[.slice a bs.length cap] w (kY bs w):=by
 obtain⟨at_,er,he,hae⟩:=jZ (zb 6 (rd0 bs)).e
 have hol:=qQ bs
 have hl:=hk.2.1
 refine (kr w a cap bs (zI bs) 6 (zb 6 (rd0 bs)).e (zZ (zb 6 (rd0 bs))) (yG 6 (zb 6 (rd0 bs))) at_ er hat hl hc hc2 hk.2.2.1 rfl om1 hk.2.2.2 ue0 ue0 (fun m Z U h hb=>h.on hb) (fun rb Y hY hx hr hlt=>ziG w.heap.size rb om1 (rd0 bs) Y hx hr uc2) he (fun _ m V hm=>zkj _ m V hm)).mono fun e Z h=>?_
 rcases h with ⟨h1,h2,h3⟩ | ⟨h1,h2,m,V,h3,h4⟩ | ⟨h1,h2,m,h3,h4,h5⟩
 · refine Or.inl ⟨at_,er,Or.inr (Or.inr (Or.inr (Or.inl ⟨6,hk,he,?_⟩))),h3⟩
   rcases hae with ⟨e1,e2⟩ | ⟨e1,e2⟩
   · rw[zhB] at h2
     have h2:(zb 6 (rd0 bs)).e.pos≤(zI bs).length:=h2
     exact⟨e1,by omega,by omega⟩
   · exact absurd e1 h1
 · rcases hae with ⟨e1,e2⟩ | ⟨e1,e2⟩
   · omega
   · rw[e1,e2] at he
     exact Or.inl ⟨0,30,Or.inr (Or.inr (Or.inr (Or.inr ⟨6,hk,he,rfl,rfl,m,V,h3,h4⟩))),h2⟩
 · rcases hae with ⟨e1,e2⟩ | ⟨e1,e2⟩
   · omega
   · rw[e1,e2] at he
     exact Or.inr ⟨6,m,hk,he,h2,h3,h4,h5⟩
theorem zht (w:World)(a:Option Addr)(cap:Nat)(bs:List UInt8)(hat:zL w a bs)(hc:bs.length≤cap)(hc2:(cap:Int)≤9223372036854775807)(hk:yB bs 7):Calls Tryz.prog 33 #[.slice a bs.length cap] w (kY bs w):=by
 obtain⟨at_,er,he,hae⟩:=jZ (zb 7 (rd0 bs)).e
 have hol:=qQ bs
 have hl:=hk.2.1
 refine (kr w a cap bs (zI bs) 7 (zb 7 (rd0 bs)).e (zZ (zb 7 (rd0 bs))) (yG 7 (zb 7 (rd0 bs))) at_ er hat hl hc hc2 hk.2.2.1 rfl om1 hk.2.2.2 ue0 ue0 (fun m Z U h hb=>h.on hb) (fun rb Y hY hx hr hlt=>ziH w.heap.size rb om1 (rd0 bs) Y hx hr uc2) he (fun _ m V hm=>zkk _ m V hm)).mono fun e Z h=>?_
 rcases h with ⟨h1,h2,h3⟩ | ⟨h1,h2,m,V,h3,h4⟩ | ⟨h1,h2,m,h3,h4,h5⟩
 · refine Or.inl ⟨at_,er,Or.inr (Or.inr (Or.inr (Or.inl ⟨7,hk,he,?_⟩))),h3⟩
   rcases hae with ⟨e1,e2⟩ | ⟨e1,e2⟩
   · rw[zhC] at h2
     have h2:(zb 7 (rd0 bs)).e.pos≤(zI bs).length:=h2
     exact⟨e1,by omega,by omega⟩
   · exact absurd e1 h1
 · rcases hae with ⟨e1,e2⟩ | ⟨e1,e2⟩
   · omega
   · rw[e1,e2] at he
     exact Or.inl ⟨0,30,Or.inr (Or.inr (Or.inr (Or.inr ⟨7,hk,he,rfl,rfl,m,V,h3,h4⟩))),h2⟩
 · rcases hae with ⟨e1,e2⟩ | ⟨e1,e2⟩
   · omega
   · rw[e1,e2] at he
     exact Or.inr ⟨7,m,hk,he,h2,h3,h4,h5⟩
theorem zhu (w:World)(a:Option Addr)(cap:Nat)(bs:List UInt8)(hat:zL w a bs)(hc:bs.length≤cap)(hc2:(cap:Int)≤9223372036854775807)(hk:yB bs 8):Calls Tryz.prog 33 #[.slice a bs.length cap] w (kY bs w):=by
 obtain⟨at_,er,he,hae⟩:=jZ (zb 8 (rd0 bs)).e
 have hol:=qQ bs
 have hl:=hk.2.1
 refine (kr w a cap bs (zI bs) 8 (zb 8 (rd0 bs)).e (zZ (zb 8 (rd0 bs))) (yG 8 (zb 8 (rd0 bs))) at_ er hat hl hc hc2 hk.2.2.1 rfl om1 hk.2.2.2 ue0 ue0 (fun m Z U h hb=>h.on hb) (fun rb Y hY hx hr hlt=>ziI w.heap.size rb om1 (rd0 bs) Y hx hr uc2) he (fun _ m V hm=>zkl _ m V hm)).mono fun e Z h=>?_
 rcases h with ⟨h1,h2,h3⟩ | ⟨h1,h2,m,V,h3,h4⟩ | ⟨h1,h2,m,h3,h4,h5⟩
 · refine Or.inl ⟨at_,er,Or.inr (Or.inr (Or.inr (Or.inl ⟨8,hk,he,?_⟩))),h3⟩
   rcases hae with ⟨e1,e2⟩ | ⟨e1,e2⟩
   · rw[zhD] at h2
     have h2:(zb 8 (rd0 bs)).e.pos≤(zI bs).length:=h2
     exact⟨e1,by omega,by omega⟩
   · exact absurd e1 h1
 · rcases hae with ⟨e1,e2⟩ | ⟨e1,e2⟩
   · omega
   · rw[e1,e2] at he
     exact Or.inl ⟨0,30,Or.inr (Or.inr (Or.inr (Or.inr ⟨8,hk,he,rfl,rfl,m,V,h3,h4⟩))),h2⟩
 · rcases hae with ⟨e1,e2⟩ | ⟨e1,e2⟩
   · omega
   · rw[e1,e2] at he
     exact Or.inr ⟨8,m,hk,he,h2,h3,h4,h5⟩
theorem zhv (w:World)(a:Option Addr)(cap:Nat)(bs:List UInt8)(hat:zL w a bs)(hc:bs.length≤cap)(hc2:(cap:Int)≤9223372036854775807)(hk:yB bs 9):Calls Tryz.prog 33 #[.slice a bs.length cap] w (kY bs w):=by
 obtain⟨at_,er,he,hae⟩:=jZ (zb 9 (rd0 bs)).e
 have hol:=qQ bs
 have hl:=hk.2.1
 refine (kr w a cap bs (zI bs) 9 (zb 9 (rd0 bs)).e (zZ (zb 9 (rd0 bs))) (yG 9 (zb 9 (rd0 bs))) at_ er hat hl hc hc2 hk.2.2.1 rfl om1 hk.2.2.2 ue0 ue0 (fun m Z U h hb=>h.on hb) (fun rb Y hY hx hr hlt=>ziJ w.heap.size rb om1 (rd0 bs) Y hx hr uc2) he (fun _ m V hm=>zkm _ m V hm)).mono fun e Z h=>?_
 rcases h with ⟨h1,h2,h3⟩ | ⟨h1,h2,m,V,h3,h4⟩ | ⟨h1,h2,m,h3,h4,h5⟩
 · refine Or.inl ⟨at_,er,Or.inr (Or.inr (Or.inr (Or.inl ⟨9,hk,he,?_⟩))),h3⟩
   rcases hae with ⟨e1,e2⟩ | ⟨e1,e2⟩
   · rw[zhE] at h2
     have h2:(zb 9 (rd0 bs)).e.pos≤(zI bs).length:=h2
     exact⟨e1,by omega,by omega⟩
   · exact absurd e1 h1
 · rcases hae with ⟨e1,e2⟩ | ⟨e1,e2⟩
   · omega
   · rw[e1,e2] at he
     exact Or.inl ⟨0,30,Or.inr (Or.inr (Or.inr (Or.inr ⟨9,hk,he,rfl,rfl,m,V,h3,h4⟩))),h2⟩
 · rcases hae with ⟨e1,e2⟩ | ⟨e1,e2⟩
   · omega
   · rw[e1,e2] at he
     exact Or.inr ⟨9,m,hk,he,h2,h3,h4,h5⟩
theorem zgg (w:World)(a:Option Addr)(cap:Nat)(bs:List UInt8)(hat:zL w a bs)(hc:bs.length≤cap)(hc2:(cap:Int)≤9223372036854775807)(hk:yB bs 10):Calls Tryz.prog 33 #[.slice a bs.length cap] w (kY bs w):=by
 obtain⟨at_,er,he,hae⟩:=jZ (zb 10 (rd0 bs)).e
 have hol:=qQ bs
 have hl:=hk.2.1
 refine (kr w a cap bs (zI bs) 10 (zb 10 (rd0 bs)).e (zZ (zb 10 (rd0 bs))) (yG 10 (zb 10 (rd0 bs))) at_ er hat hl hc hc2 hk.2.2.1 rfl om1 hk.2.2.2 ue0 ue0 (fun m Z U h hb=>h.on hb) (fun rb Y hY hx hr hlt=>zhJ w.heap.size rb om1 (rd0 bs) Y hx hr uc2) he (fun _ m V hm=>ziz _ m V hm)).mono fun e Z h=>?_
 rcases h with ⟨h1,h2,h3⟩ | ⟨h1,h2,m,V,h3,h4⟩ | ⟨h1,h2,m,h3,h4,h5⟩
 · refine Or.inl ⟨at_,er,Or.inr (Or.inr (Or.inr (Or.inl ⟨10,hk,he,?_⟩))),h3⟩
   rcases hae with ⟨e1,e2⟩ | ⟨e1,e2⟩
   · rw[zfn] at h2
     have h2:(zb 10 (rd0 bs)).e.pos≤(zI bs).length:=h2
     exact⟨e1,by omega,by omega⟩
   · exact absurd e1 h1
 · rcases hae with ⟨e1,e2⟩ | ⟨e1,e2⟩
   · omega
   · rw[e1,e2] at he
     exact Or.inl ⟨0,30,Or.inr (Or.inr (Or.inr (Or.inr ⟨10,hk,he,rfl,rfl,m,V,h3,h4⟩))),h2⟩
 · rcases hae with ⟨e1,e2⟩ | ⟨e1,e2⟩
   · omega
   · rw[e1,e2] at he
     exact Or.inr ⟨10,m,hk,he,h2,h3,h4,h5⟩
theorem zdu (w:World)(a:Option Addr)(cap:Nat)(bs:List UInt8)(hat:zL w a bs)(hc:bs.length≤cap)(hc2:(cap:Int)≤9223372036854775807):Calls Tryz.prog 33 #[.slice a bs.length cap] w (kY bs w):=by
 by_cases hl:65536<bs.length
 · exact (zgi w a cap bs hl).mono fun e Z h=>Or.inl ⟨0,3,Or.inl ⟨hl,rfl,rfl⟩,h⟩
 have hl2:bs.length≤65536:=by omega
 cases hok:okN bs with
 | false=>exact (zhG w a cap bs hat hl2 hc hc2 hok).mono fun e Z h=>Or.inl ⟨0,30,Or.inr (Or.inl ⟨hl2,hok,rfl,rfl⟩),h⟩
 | true =>
   have hol:=qQ bs
   by_cases hnk:JL (zI bs)
   · exact (zgh w a cap bs (zI bs) hat hl2 hc hc2 hok rfl om1 hnk).mono fun e Z h=>Or.inl ⟨0,30,Or.inr (Or.inr (Or.inl ⟨hl2,hok,hnk,rfl,rfl⟩)),h⟩
   · obtain ⟨k,hk,h0⟩:∃k,(1≤k∧k≤10)∧(zI bs)[0]? =some (zH k):=by
      cases h0:(zI bs)[0]? with
      | none=>exact absurd (Or.inl (by
         cases ho:zI bs with
         | nil=>rfl
         | cons x r=>rw[ho] at h0;simp at h0)) hnk
      | some u=>
        by_cases h1:1≤vX u∧vX u≤10
        · obtain⟨h2,h3⟩:=zio u h1.1 h1.2
          exact⟨u.toNat,h2,by rw[←h3]⟩
        · exact absurd (Or.inr ⟨u,h0,by omega⟩) hnk
     have hki:yB bs k:=⟨hk,hl2,hok,h0⟩
     have hr:k=1∨k=2∨k=3∨k=4∨k=5∨k=6∨k=7∨k=8∨k=9∨k=10:=by omega
     rcases hr with rfl | rfl | rfl | rfl | rfl | rfl | rfl | rfl | rfl | rfl
     · exact zhn w a cap bs hat hc hc2 hki
     · exact zho w a cap bs hat hc hc2 hki
     · exact zhp w a cap bs hat hc hc2 hki
     · exact zhq w a cap bs hat hc hc2 hki
     · exact zhr w a cap bs hat hc hc2 hki
     · exact zhs w a cap bs hat hc hc2 hki
     · exact zht w a cap bs hat hc hc2 hki
     · exact zhu w a cap bs hat hc hc2 hki
     · exact zhv w a cap bs hat hc hc2 hki
     · exact zgg w a cap bs hat hc hc2 hki
end Go.Proofs.YtoidedomenkbpaaGreat
