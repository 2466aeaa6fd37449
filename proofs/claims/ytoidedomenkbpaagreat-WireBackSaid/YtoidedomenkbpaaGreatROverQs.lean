/-
  .
-/
import Derived.Test.YtoidedomenkbpaaGreatRowYQs
set_option maxRecDepth 100000
set_option maxHeartbeats 40000000
namespace Go.Proofs.YtoidedomenkbpaaGreat
open Go.RowKit Go.Shelf
set_option linter.unusedVariables false
set_option linter.unusedSimpArgs false
def rdN (s:Rd):Nat→Rd
 | 0=>s
 | j+1=>(rdN s j).number.2
def zo (s:Rd)(j:Nat):Int:=(rdN s j).number.1
theorem rq1 (b rb:Nat)(hne:rb≠b)(j:Nat)(F:FuncId)(q:Nat×Int×Int)(h1:([143]:List FuncId)[j]? =some F)(h2:([zg 1]:List (Nat×Int×Int))[j]? =some q):kS (σ:=Rd) (fun _=>True) (fun s X=>yC b rb s X) (fun q=>q=rb) zz b 114 (.agg #[.pointer (some ⟨rb,0,none⟩)]) 1 F q:=
 match j,h1,h2 with
 | 0,h1,h2=>by cases h1;cases h2;exact zB (zt b rb hne) 1
 | j+1,h1,h2=>by simp at h1
theorem zko (b rb:Nat)(hne:rb≠b)(s:Rd)(X:World)(hX:X.heap[b]? =some (.cells #[.int .i8 1,.int .i64 0,.int .i64 0,.int .i64 0,.int .i64 0,.int .i64 0,.int .i64 0,.int .i64 0,.int .i64 0,.int .i64 0,.int .i64 0,.slice none 0 0,.int .i64 0,.int .i64 0,.string ⟨#[]⟩,.slice none 0 0] 37 (0,0)))(hR:yC b rb s X):
 Calls Tryz.prog 56 #[.pointer (some ⟨b,0,none⟩),.iface 114 (.agg #[.pointer (some ⟨rb,0,none⟩)])] X (fun e Z=>e= .returned (.tuple #[])∧yC b rb (rdN s 3) Z∧Z.heap[b]? =some (.cells #[.int .i8 1,.int .i64 (zo s 0),.int .i64 (zo s 1),.int .i64 0,.int .i64 (zo s 2),.int .i64 0,.int .i64 0,.int .i64 0,.int .i64 0,.int .i64 0,.int .i64 0,.slice none 0 0,.int .i64 0,.int .i64 0,.string ⟨#[]⟩,.slice none 0 0] 37 (0,0))∧za X Z (fun q=>q=rb∨q=b)):=
 (jJ (zt b rb hne) 1 1 rfl ue0 ue0 [143] rfl [zg 1] rfl (rq1 b rb hne) ue0 s X _ hR hX (zV 1 0 0 0 0 0 0 0 0 0 0 _ _ _ _ _) (fun _ _ _ _=>trivial)).mono fun e Z h=>by
   rw[show qU zz (zl 1::toQ 1:: [zg 1]) s #[.int .i8 1,.int .i64 0,.int .i64 0,.int .i64 0,.int .i64 0,.int .i64 0,.int .i64 0,.int .i64 0,.int .i64 0,.int .i64 0,.int .i64 0,.slice none 0 0,.int .i64 0,.int .i64 0,.string ⟨#[]⟩,.slice none 0 0]=some (rdN s 3, #[.int .i8 1,.int .i64 (zo s 0),.int .i64 (zo s 1),.int .i64 0,.int .i64 (zo s 2),.int .i64 0,.int .i64 0,.int .i64 0,.int .i64 0,.int .i64 0,.int .i64 0,.slice none 0 0,.int .i64 0,.int .i64 0,.string ⟨#[]⟩,.slice none 0 0]) from rfl] at h
   exact h
theorem rq2 (b rb:Nat)(hne:rb≠b)(j:Nat)(F:FuncId)(q:Nat×Int×Int)(h1:([144,143,145,146]:List FuncId)[j]? =some F)(h2:([(3,1,1125899906842624),zg 2,(5,1,1125899906842624),(6,1,1125899906842624)]:List (Nat×Int×Int))[j]? =some q):kS (σ:=Rd) (fun _=>True) (fun s X=>yC b rb s X) (fun q=>q=rb) zz b 114 (.agg #[.pointer (some ⟨rb,0,none⟩)]) 2 F q:=
 match j,h1,h2 with
 | 0,h1,h2=>by cases h1;cases h2;exact qK (zt b rb hne) 2
 | 1,h1,h2=>by cases h1;cases h2;exact zB (zt b rb hne) 2
 | 2,h1,h2=>by cases h1;cases h2;exact yg (zt b rb hne) 2
 | 3,h1,h2=>by cases h1;cases h2;exact QZ (zt b rb hne) 2
 | j+4,h1,h2=>by simp at h1
theorem zkp (b rb:Nat)(hne:rb≠b)(s:Rd)(X:World)(hX:X.heap[b]? =some (.cells #[.int .i8 2,.int .i64 0,.int .i64 0,.int .i64 0,.int .i64 0,.int .i64 0,.int .i64 0,.int .i64 0,.int .i64 0,.int .i64 0,.int .i64 0,.slice none 0 0,.int .i64 0,.int .i64 0,.string ⟨#[]⟩,.slice none 0 0] 37 (0,0)))(hR:yC b rb s X):
 Calls Tryz.prog 56 #[.pointer (some ⟨b,0,none⟩),.iface 114 (.agg #[.pointer (some ⟨rb,0,none⟩)])] X (fun e Z=>e= .returned (.tuple #[])∧yC b rb (rdN s 6) Z∧Z.heap[b]? =some (.cells #[.int .i8 2,.int .i64 (zo s 0),.int .i64 (zo s 1),.int .i64 (zo s 2),.int .i64 (zo s 3),.int .i64 (zo s 4),.int .i64 (zo s 5),.int .i64 0,.int .i64 0,.int .i64 0,.int .i64 0,.slice none 0 0,.int .i64 0,.int .i64 0,.string ⟨#[]⟩,.slice none 0 0] 37 (0,0))∧za X Z (fun q=>q=rb∨q=b)):=
 (jJ (zt b rb hne) 2 2 rfl ue0 ue0 [144,143,145,146] rfl [(3,1,1125899906842624),zg 2,(5,1,1125899906842624),(6,1,1125899906842624)] rfl (rq2 b rb hne) ue0 s X _ hR hX (zV 2 0 0 0 0 0 0 0 0 0 0 _ _ _ _ _) (fun _ _ _ _=>trivial)).mono fun e Z h=>by
   rw[show qU zz (zl 2::toQ 2:: [(3,1,1125899906842624),zg 2,(5,1,1125899906842624),(6,1,1125899906842624)]) s #[.int .i8 2,.int .i64 0,.int .i64 0,.int .i64 0,.int .i64 0,.int .i64 0,.int .i64 0,.int .i64 0,.int .i64 0,.int .i64 0,.int .i64 0,.slice none 0 0,.int .i64 0,.int .i64 0,.string ⟨#[]⟩,.slice none 0 0]=some (rdN s 6, #[.int .i8 2,.int .i64 (zo s 0),.int .i64 (zo s 1),.int .i64 (zo s 2),.int .i64 (zo s 3),.int .i64 (zo s 4),.int .i64 (zo s 5),.int .i64 0,.int .i64 0,.int .i64 0,.int .i64 0,.slice none 0 0,.int .i64 0,.int .i64 0,.string ⟨#[]⟩,.slice none 0 0]) from rfl] at h
   exact h
theorem rq3 (b rb:Nat)(hne:rb≠b)(X:World)(c0:Array Value)(j:Nat)(F:FuncId)(q:yt Rd)(h1:([143,145,147,148,149,150]:List FuncId)[j]? =some F)(h2:([zk zz (zg 3),zk zz ((5,1,1125899906842624)),zk zz ((7,1,1125899906842624)),zk zz ((8,1,1125899906842624)),zk zz ((9,0,1125899906842624))]:List (yt Rd))[j]? =some q):ZR (σ:=Rd) (fun _=>True) (fun s X=>yC b rb s X) (fun q=>q=rb) q b 114 (.agg #[.pointer (some ⟨rb,0,none⟩)]) 3 F X c0 false:=
 match j,h1,h2 with
 | 0,h1,h2=>by cases h1;cases h2;exact (zB (zt b rb hne) 3).act X c0 false
 | 1,h1,h2=>by cases h1;cases h2;exact (yg (zt b rb hne) 3).act X c0 false
 | 2,h1,h2=>by cases h1;cases h2;exact (jU (zt b rb hne) 3).act X c0 false
 | 3,h1,h2=>by cases h1;cases h2;exact (jT (zt b rb hne) 3).act X c0 false
 | 4,h1,h2=>by cases h1;cases h2;exact (yK (zt b rb hne) 3).act X c0 false
 | j+5,h1,h2=>by simp at h2
theorem zkq (b rb:Nat)(hne:rb≠b)(s:Rd)(X:World)(hX:X.heap[b]? =some (.cells #[.int .i8 3,.int .i64 0,.int .i64 0,.int .i64 0,.int .i64 0,.int .i64 0,.int .i64 0,.int .i64 0,.int .i64 0,.int .i64 0,.int .i64 0,.slice none 0 0,.int .i64 0,.int .i64 0,.string ⟨#[]⟩,.slice none 0 0] 37 (0,0)))(hR:yC b rb s X):
 Calls Tryz.prog 56 #[.pointer (some ⟨b,0,none⟩),.iface 114 (.agg #[.pointer (some ⟨rb,0,none⟩)])] X (fun e Z=>e= .returned (.tuple #[])∧za X Z (fun q=>q=rb∨q=b)∧∃(ar:Option Addr) (ad:Nat),yC b rb (rdN s 7).tree.2 Z∧foLen (rdN s 7).tree.1.kids≤ad∧zQ Z (JB X.heap.size Z) (rdN s 7).tree.1.kids ar∧Z.heap[b]? =some (.cells #[.int .i8 3,.int .i64 (zo s 0),.int .i64 (zo s 1),.int .i64 0,.int .i64 (zo s 2),.int .i64 (zo s 3),.int .i64 0,.int .i64 (zo s 4),.int .i64 (zo s 5),.int .i64 (zo s 6),.int .i64 0,.slice none 0 0,.int .i64 (rdN s 7).tree.1.id,.int .i64 (rdN s 7).tree.1.kind,.string (rdN s 7).tree.1.text,.slice ar (foLen (rdN s 7).tree.1.kids) ad] 37 (0,0))):=
 (ZZ (zt b rb hne) 3 3 rfl ue0 ue0 [143,145,147,148,149,150] rfl [zk zz (zg 3),zk zz ((5,1,1125899906842624)),zk zz ((7,1,1125899906842624)),zk zz ((8,1,1125899906842624)),zk zz ((9,0,1125899906842624))] rfl ue0 s X #[.int .i8 3,.int .i64 0,.int .i64 0,.int .i64 0,.int .i64 0,.int .i64 0,.int .i64 0,.int .i64 0,.int .i64 0,.int .i64 0,.int .i64 0,.slice none 0 0,.int .i64 0,.int .i64 0,.string ⟨#[]⟩,.slice none 0 0] (rq3 b rb hne X _) 150 rfl (fun _ _=>by rfl) (zju b rb X.heap.size) ziy (fun s1 Y cs hR hT hY hm ht=>Jm 0 0 ⟨#[]⟩ none 0 0 (zdP b rb hne X (lohQ hX) 0 0 ⟨#[]⟩ none 0 0) s1 Y cs hR hT hY ⟨ht 12 om1,ht 13 om1,ht 14 om1,ht 15 om1⟩) hR hX (zV 3 0 0 0 0 0 0 0 0 0 0 _ _ _ _ _) (fun _ _ _ _=>trivial)).mono fun e Z h=>by
   rw[show yl (zk zz (zl 3)::zk zz (toQ 3):: [zk zz (zg 3),zk zz ((5,1,1125899906842624)),zk zz ((7,1,1125899906842624)),zk zz ((8,1,1125899906842624)),zk zz ((9,0,1125899906842624))]) s #[.int .i8 3,.int .i64 0,.int .i64 0,.int .i64 0,.int .i64 0,.int .i64 0,.int .i64 0,.int .i64 0,.int .i64 0,.int .i64 0,.int .i64 0,.slice none 0 0,.int .i64 0,.int .i64 0,.string ⟨#[]⟩,.slice none 0 0]=some (rdN s 7, #[.int .i8 3,.int .i64 (zo s 0),.int .i64 (zo s 1),.int .i64 0,.int .i64 (zo s 2),.int .i64 (zo s 3),.int .i64 0,.int .i64 (zo s 4),.int .i64 (zo s 5),.int .i64 (zo s 6),.int .i64 0,.slice none 0 0,.int .i64 0,.int .i64 0,.string ⟨#[]⟩,.slice none 0 0]) from rfl] at h
   exact sf1
theorem rq4 (b rb:Nat)(hne:rb≠b)(j:Nat)(F:FuncId)(q:Nat×Int×Int)(h1:([143,145,151]:List FuncId)[j]? =some F)(h2:([zg 4,(5,1,1125899906842624),(10,1,999)]:List (Nat×Int×Int))[j]? =some q):kS (σ:=Rd) (fun _=>True) (fun s X=>yC b rb s X) (fun q=>q=rb) zz b 114 (.agg #[.pointer (some ⟨rb,0,none⟩)]) 4 F q:=
 match j,h1,h2 with
 | 0,h1,h2=>by cases h1;cases h2;exact zB (zt b rb hne) 4
 | 1,h1,h2=>by cases h1;cases h2;exact yg (zt b rb hne) 4
 | 2,h1,h2=>by cases h1;cases h2;exact QX (zt b rb hne) 4
 | j+3,h1,h2=>by simp at h1
theorem zkr (b rb:Nat)(hne:rb≠b)(s:Rd)(X:World)(hX:X.heap[b]? =some (.cells #[.int .i8 4,.int .i64 0,.int .i64 0,.int .i64 0,.int .i64 0,.int .i64 0,.int .i64 0,.int .i64 0,.int .i64 0,.int .i64 0,.int .i64 0,.slice none 0 0,.int .i64 0,.int .i64 0,.string ⟨#[]⟩,.slice none 0 0] 37 (0,0)))(hR:yC b rb s X):
 Calls Tryz.prog 56 #[.pointer (some ⟨b,0,none⟩),.iface 114 (.agg #[.pointer (some ⟨rb,0,none⟩)])] X (fun e Z=>e= .returned (.tuple #[])∧yC b rb (rdN s 5) Z∧Z.heap[b]? =some (.cells #[.int .i8 4,.int .i64 (zo s 0),.int .i64 (zo s 1),.int .i64 0,.int .i64 (zo s 2),.int .i64 (zo s 3),.int .i64 0,.int .i64 0,.int .i64 0,.int .i64 0,.int .i64 (zo s 4),.slice none 0 0,.int .i64 0,.int .i64 0,.string ⟨#[]⟩,.slice none 0 0] 37 (0,0))∧za X Z (fun q=>q=rb∨q=b)):=
 (jJ (zt b rb hne) 4 4 rfl ue0 ue0 [143,145,151] rfl [zg 4,(5,1,1125899906842624),(10,1,999)] rfl (rq4 b rb hne) ue0 s X _ hR hX (zV 4 0 0 0 0 0 0 0 0 0 0 _ _ _ _ _) (fun _ _ _ _=>trivial)).mono fun e Z h=>by
   rw[show qU zz (zl 4::toQ 4:: [zg 4,(5,1,1125899906842624),(10,1,999)]) s #[.int .i8 4,.int .i64 0,.int .i64 0,.int .i64 0,.int .i64 0,.int .i64 0,.int .i64 0,.int .i64 0,.int .i64 0,.int .i64 0,.int .i64 0,.slice none 0 0,.int .i64 0,.int .i64 0,.string ⟨#[]⟩,.slice none 0 0]=some (rdN s 5, #[.int .i8 4,.int .i64 (zo s 0),.int .i64 (zo s 1),.int .i64 0,.int .i64 (zo s 2),.int .i64 (zo s 3),.int .i64 0,.int .i64 0,.int .i64 0,.int .i64 0,.int .i64 (zo s 4),.slice none 0 0,.int .i64 0,.int .i64 0,.string ⟨#[]⟩,.slice none 0 0]) from rfl] at h
   exact h
theorem rq5 (b rb:Nat)(hne:rb≠b)(X:World)(c0:Array Value)(j:Nat)(F:FuncId)(q:yt Rd)(h1:([144,143,145,147,148,152]:List FuncId)[j]? =some F)(h2:([zk zz ((3,1,1125899906842624)),zk zz (zg 5),zk zz ((5,1,1125899906842624)),zk zz ((7,1,1125899906842624)),zk zz ((8,1,1125899906842624))]:List (yt Rd))[j]? =some q):ZR (σ:=Rd) (fun _=>True) (fun s X=>yC b rb s X) (fun q=>q=rb) q b 114 (.agg #[.pointer (some ⟨rb,0,none⟩)]) 5 F X c0 false:=
 match j,h1,h2 with
 | 0,h1,h2=>by cases h1;cases h2;exact (qK (zt b rb hne) 5).act X c0 false
 | 1,h1,h2=>by cases h1;cases h2;exact (zB (zt b rb hne) 5).act X c0 false
 | 2,h1,h2=>by cases h1;cases h2;exact (yg (zt b rb hne) 5).act X c0 false
 | 3,h1,h2=>by cases h1;cases h2;exact (jU (zt b rb hne) 5).act X c0 false
 | 4,h1,h2=>by cases h1;cases h2;exact (jT (zt b rb hne) 5).act X c0 false
 | j+5,h1,h2=>by simp at h2
theorem zks (b rb:Nat)(hne:rb≠b)(s:Rd)(X:World)(hX:X.heap[b]? =some (.cells #[.int .i8 5,.int .i64 0,.int .i64 0,.int .i64 0,.int .i64 0,.int .i64 0,.int .i64 0,.int .i64 0,.int .i64 0,.int .i64 0,.int .i64 0,.slice none 0 0,.int .i64 0,.int .i64 0,.string ⟨#[]⟩,.slice none 0 0] 37 (0,0)))(hR:yC b rb s X):
 Calls Tryz.prog 56 #[.pointer (some ⟨b,0,none⟩),.iface 114 (.agg #[.pointer (some ⟨rb,0,none⟩)])] X (fun e Z=>e= .returned (.tuple #[])∧za X Z (fun q=>q=rb∨q=b)∧∃(sa:Option Addr) (sn sc:Nat),yC b rb (rdN s 7).steps.2 Z∧sn=(rdN s 7).steps.1.length∧sn≤sc∧vL Z (JB X.heap.size Z) sa (rdN s 7).steps.1∧Z.heap[b]? =some (.cells #[.int .i8 5,.int .i64 (zo s 0),.int .i64 (zo s 1),.int .i64 (zo s 2),.int .i64 (zo s 3),.int .i64 (zo s 4),.int .i64 0,.int .i64 (zo s 5),.int .i64 (zo s 6),.int .i64 0,.int .i64 0,.slice sa sn sc,.int .i64 0,.int .i64 0,.string ⟨#[]⟩,.slice none 0 0] 37 (0,0))):=
 (ZZ (zt b rb hne) 5 5 rfl ue0 ue0 [144,143,145,147,148,152] rfl [zk zz ((3,1,1125899906842624)),zk zz (zg 5),zk zz ((5,1,1125899906842624)),zk zz ((7,1,1125899906842624)),zk zz ((8,1,1125899906842624))] rfl ue0 s X #[.int .i8 5,.int .i64 0,.int .i64 0,.int .i64 0,.int .i64 0,.int .i64 0,.int .i64 0,.int .i64 0,.int .i64 0,.int .i64 0,.int .i64 0,.slice none 0 0,.int .i64 0,.int .i64 0,.string ⟨#[]⟩,.slice none 0 0] (rq5 b rb hne X _) 152 rfl (fun _ _=>by rfl) (zjt b rb X.heap.size) zix (fun s1 Y cs hR hT hY hm ht=>Qq none 0 0 (zbJ b rb hne X (lohQ hX) (.slice none 0 0)) s1 Y cs hR hT hY (ht 11 om1)) hR hX (zV 5 0 0 0 0 0 0 0 0 0 0 _ _ _ _ _) (fun _ _ _ _=>trivial)).mono fun e Z h=>by
   rw[show yl (zk zz (zl 5)::zk zz (toQ 5):: [zk zz ((3,1,1125899906842624)),zk zz (zg 5),zk zz ((5,1,1125899906842624)),zk zz ((7,1,1125899906842624)),zk zz ((8,1,1125899906842624))]) s #[.int .i8 5,.int .i64 0,.int .i64 0,.int .i64 0,.int .i64 0,.int .i64 0,.int .i64 0,.int .i64 0,.int .i64 0,.int .i64 0,.int .i64 0,.slice none 0 0,.int .i64 0,.int .i64 0,.string ⟨#[]⟩,.slice none 0 0]=some (rdN s 7, #[.int .i8 5,.int .i64 (zo s 0),.int .i64 (zo s 1),.int .i64 (zo s 2),.int .i64 (zo s 3),.int .i64 (zo s 4),.int .i64 0,.int .i64 (zo s 5),.int .i64 (zo s 6),.int .i64 0,.int .i64 0,.slice none 0 0,.int .i64 0,.int .i64 0,.string ⟨#[]⟩,.slice none 0 0]) from rfl] at h
   obtain⟨rfl,⟨sa,sn,sc⟩,⟨f1,f2,f3,f4⟩,h3,h4⟩:=h
   exact⟨rfl,h4,sa,sn,sc,f1,f2,f3,f4,h3⟩
theorem rq6 (b rb:Nat)(hne:rb≠b)(j:Nat)(F:FuncId)(q:Nat×Int×Int)(h1:([143,145,149]:List FuncId)[j]? =some F)(h2:([zg 6,(5,1,1125899906842624),(9,0,1125899906842624)]:List (Nat×Int×Int))[j]? =some q):kS (σ:=Rd) (fun _=>True) (fun s X=>yC b rb s X) (fun q=>q=rb) zz b 114 (.agg #[.pointer (some ⟨rb,0,none⟩)]) 6 F q:=
 match j,h1,h2 with
 | 0,h1,h2=>by cases h1;cases h2;exact zB (zt b rb hne) 6
 | 1,h1,h2=>by cases h1;cases h2;exact yg (zt b rb hne) 6
 | 2,h1,h2=>by cases h1;cases h2;exact yK (zt b rb hne) 6
 | j+3,h1,h2=>by simp at h1
theorem zkt (b rb:Nat)(hne:rb≠b)(s:Rd)(X:World)(hX:X.heap[b]? =some (.cells #[.int .i8 6,.int .i64 0,.int .i64 0,.int .i64 0,.int .i64 0,.int .i64 0,.int .i64 0,.int .i64 0,.int .i64 0,.int .i64 0,.int .i64 0,.slice none 0 0,.int .i64 0,.int .i64 0,.string ⟨#[]⟩,.slice none 0 0] 37 (0,0)))(hR:yC b rb s X):
 Calls Tryz.prog 56 #[.pointer (some ⟨b,0,none⟩),.iface 114 (.agg #[.pointer (some ⟨rb,0,none⟩)])] X (fun e Z=>e= .returned (.tuple #[])∧yC b rb (rdN s 5) Z∧Z.heap[b]? =some (.cells #[.int .i8 6,.int .i64 (zo s 0),.int .i64 (zo s 1),.int .i64 0,.int .i64 (zo s 2),.int .i64 (zo s 3),.int .i64 0,.int .i64 0,.int .i64 0,.int .i64 (zo s 4),.int .i64 0,.slice none 0 0,.int .i64 0,.int .i64 0,.string ⟨#[]⟩,.slice none 0 0] 37 (0,0))∧za X Z (fun q=>q=rb∨q=b)):=
 (jJ (zt b rb hne) 6 6 rfl ue0 ue0 [143,145,149] rfl [zg 6,(5,1,1125899906842624),(9,0,1125899906842624)] rfl (rq6 b rb hne) ue0 s X _ hR hX (zV 6 0 0 0 0 0 0 0 0 0 0 _ _ _ _ _) (fun _ _ _ _=>trivial)).mono fun e Z h=>by
   rw[show qU zz (zl 6::toQ 6:: [zg 6,(5,1,1125899906842624),(9,0,1125899906842624)]) s #[.int .i8 6,.int .i64 0,.int .i64 0,.int .i64 0,.int .i64 0,.int .i64 0,.int .i64 0,.int .i64 0,.int .i64 0,.int .i64 0,.int .i64 0,.slice none 0 0,.int .i64 0,.int .i64 0,.string ⟨#[]⟩,.slice none 0 0]=some (rdN s 5, #[.int .i8 6,.int .i64 (zo s 0),.int .i64 (zo s 1),.int .i64 0,.int .i64 (zo s 2),.int .i64 (zo s 3),.int .i64 0,.int .i64 0,.int .i64 0,.int .i64 (zo s 4),.int .i64 0,.slice none 0 0,.int .i64 0,.int .i64 0,.string ⟨#[]⟩,.slice none 0 0]) from rfl] at h
   exact h
theorem rq7 (b rb:Nat)(hne:rb≠b)(j:Nat)(F:FuncId)(q:Nat×Int×Int)(h1:([143,145,151]:List FuncId)[j]? =some F)(h2:([zg 7,(5,1,1125899906842624),(10,1,999)]:List (Nat×Int×Int))[j]? =some q):kS (σ:=Rd) (fun _=>True) (fun s X=>yC b rb s X) (fun q=>q=rb) zz b 114 (.agg #[.pointer (some ⟨rb,0,none⟩)]) 7 F q:=
 match j,h1,h2 with
 | 0,h1,h2=>by cases h1;cases h2;exact zB (zt b rb hne) 7
 | 1,h1,h2=>by cases h1;cases h2;exact yg (zt b rb hne) 7
 | 2,h1,h2=>by cases h1;cases h2;exact QX (zt b rb hne) 7
 | j+3,h1,h2=>by simp at h1
theorem zku (b rb:Nat)(hne:rb≠b)(s:Rd)(X:World)(hX:X.heap[b]? =some (.cells #[.int .i8 7,.int .i64 0,.int .i64 0,.int .i64 0,.int .i64 0,.int .i64 0,.int .i64 0,.int .i64 0,.int .i64 0,.int .i64 0,.int .i64 0,.slice none 0 0,.int .i64 0,.int .i64 0,.string ⟨#[]⟩,.slice none 0 0] 37 (0,0)))(hR:yC b rb s X):
 Calls Tryz.prog 56 #[.pointer (some ⟨b,0,none⟩),.iface 114 (.agg #[.pointer (some ⟨rb,0,none⟩)])] X (fun e Z=>e= .returned (.tuple #[])∧yC b rb (rdN s 5) Z∧Z.heap[b]? =some (.cells #[.int .i8 7,.int .i64 (zo s 0),.int .i64 (zo s 1),.int .i64 0,.int .i64 (zo s 2),.int .i64 (zo s 3),.int .i64 0,.int .i64 0,.int .i64 0,.int .i64 0,.int .i64 (zo s 4),.slice none 0 0,.int .i64 0,.int .i64 0,.string ⟨#[]⟩,.slice none 0 0] 37 (0,0))∧za X Z (fun q=>q=rb∨q=b)):=
 (jJ (zt b rb hne) 7 7 rfl ue0 ue0 [143,145,151] rfl [zg 7,(5,1,1125899906842624),(10,1,999)] rfl (rq7 b rb hne) ue0 s X _ hR hX (zV 7 0 0 0 0 0 0 0 0 0 0 _ _ _ _ _) (fun _ _ _ _=>trivial)).mono fun e Z h=>by
   rw[show qU zz (zl 7::toQ 7:: [zg 7,(5,1,1125899906842624),(10,1,999)]) s #[.int .i8 7,.int .i64 0,.int .i64 0,.int .i64 0,.int .i64 0,.int .i64 0,.int .i64 0,.int .i64 0,.int .i64 0,.int .i64 0,.int .i64 0,.slice none 0 0,.int .i64 0,.int .i64 0,.string ⟨#[]⟩,.slice none 0 0]=some (rdN s 5, #[.int .i8 7,.int .i64 (zo s 0),.int .i64 (zo s 1),.int .i64 0,.int .i64 (zo s 2),.int .i64 (zo s 3),.int .i64 0,.int .i64 0,.int .i64 0,.int .i64 0,.int .i64 (zo s 4),.slice none 0 0,.int .i64 0,.int .i64 0,.string ⟨#[]⟩,.slice none 0 0]) from rfl] at h
   exact h
theorem rq8 (b rb:Nat)(hne:rb≠b)(X:World)(c0:Array Value)(j:Nat)(F:FuncId)(q:yt Rd)(h1:([143,149,152]:List FuncId)[j]? =some F)(h2:([zk zz (zg 8),zk zz ((9,0,1125899906842624))]:List (yt Rd))[j]? =some q):ZR (σ:=Rd) (fun _=>True) (fun s X=>yC b rb s X) (fun q=>q=rb) q b 114 (.agg #[.pointer (some ⟨rb,0,none⟩)]) 8 F X c0 false:=
 match j,h1,h2 with
 | 0,h1,h2=>by cases h1;cases h2;exact (zB (zt b rb hne) 8).act X c0 false
 | 1,h1,h2=>by cases h1;cases h2;exact (yK (zt b rb hne) 8).act X c0 false
 | j+2,h1,h2=>by simp at h2
theorem zkv (b rb:Nat)(hne:rb≠b)(s:Rd)(X:World)(hX:X.heap[b]? =some (.cells #[.int .i8 8,.int .i64 0,.int .i64 0,.int .i64 0,.int .i64 0,.int .i64 0,.int .i64 0,.int .i64 0,.int .i64 0,.int .i64 0,.int .i64 0,.slice none 0 0,.int .i64 0,.int .i64 0,.string ⟨#[]⟩,.slice none 0 0] 37 (0,0)))(hR:yC b rb s X):
 Calls Tryz.prog 56 #[.pointer (some ⟨b,0,none⟩),.iface 114 (.agg #[.pointer (some ⟨rb,0,none⟩)])] X (fun e Z=>e= .returned (.tuple #[])∧za X Z (fun q=>q=rb∨q=b)∧∃(sa:Option Addr) (sn sc:Nat),yC b rb (rdN s 4).steps.2 Z∧sn=(rdN s 4).steps.1.length∧sn≤sc∧vL Z (JB X.heap.size Z) sa (rdN s 4).steps.1∧Z.heap[b]? =some (.cells #[.int .i8 8,.int .i64 (zo s 0),.int .i64 (zo s 1),.int .i64 0,.int .i64 (zo s 2),.int .i64 0,.int .i64 0,.int .i64 0,.int .i64 0,.int .i64 (zo s 3),.int .i64 0,.slice sa sn sc,.int .i64 0,.int .i64 0,.string ⟨#[]⟩,.slice none 0 0] 37 (0,0))):=
 (ZZ (zt b rb hne) 8 8 rfl ue0 ue0 [143,149,152] rfl [zk zz (zg 8),zk zz ((9,0,1125899906842624))] rfl ue0 s X #[.int .i8 8,.int .i64 0,.int .i64 0,.int .i64 0,.int .i64 0,.int .i64 0,.int .i64 0,.int .i64 0,.int .i64 0,.int .i64 0,.int .i64 0,.slice none 0 0,.int .i64 0,.int .i64 0,.string ⟨#[]⟩,.slice none 0 0] (rq8 b rb hne X _) 152 rfl (fun _ _=>by rfl) (zjt b rb X.heap.size) zix (fun s1 Y cs hR hT hY hm ht=>Qq none 0 0 (zbJ b rb hne X (lohQ hX) (.slice none 0 0)) s1 Y cs hR hT hY (ht 11 om1)) hR hX (zV 8 0 0 0 0 0 0 0 0 0 0 _ _ _ _ _) (fun _ _ _ _=>trivial)).mono fun e Z h=>by
   rw[show yl (zk zz (zl 8)::zk zz (toQ 8):: [zk zz (zg 8),zk zz ((9,0,1125899906842624))]) s #[.int .i8 8,.int .i64 0,.int .i64 0,.int .i64 0,.int .i64 0,.int .i64 0,.int .i64 0,.int .i64 0,.int .i64 0,.int .i64 0,.int .i64 0,.slice none 0 0,.int .i64 0,.int .i64 0,.string ⟨#[]⟩,.slice none 0 0]=some (rdN s 4, #[.int .i8 8,.int .i64 (zo s 0),.int .i64 (zo s 1),.int .i64 0,.int .i64 (zo s 2),.int .i64 0,.int .i64 0,.int .i64 0,.int .i64 0,.int .i64 (zo s 3),.int .i64 0,.slice none 0 0,.int .i64 0,.int .i64 0,.string ⟨#[]⟩,.slice none 0 0]) from rfl] at h
   obtain⟨rfl,⟨sa,sn,sc⟩,⟨f1,f2,f3,f4⟩,h3,h4⟩:=h
   exact⟨rfl,h4,sa,sn,sc,f1,f2,f3,f4,h3⟩
theorem rq9 (b rb:Nat)(hne:rb≠b)(j:Nat)(F:FuncId)(q:Nat×Int×Int)(h1:([144,143]:List FuncId)[j]? =some F)(h2:([(3,1,1125899906842624),zg 9]:List (Nat×Int×Int))[j]? =some q):kS (σ:=Rd) (fun _=>True) (fun s X=>yC b rb s X) (fun q=>q=rb) zz b 114 (.agg #[.pointer (some ⟨rb,0,none⟩)]) 9 F q:=
 match j,h1,h2 with
 | 0,h1,h2=>by cases h1;cases h2;exact qK (zt b rb hne) 9
 | 1,h1,h2=>by cases h1;cases h2;exact zB (zt b rb hne) 9
 | j+2,h1,h2=>by simp at h1
theorem zkw (b rb:Nat)(hne:rb≠b)(s:Rd)(X:World)(hX:X.heap[b]? =some (.cells #[.int .i8 9,.int .i64 0,.int .i64 0,.int .i64 0,.int .i64 0,.int .i64 0,.int .i64 0,.int .i64 0,.int .i64 0,.int .i64 0,.int .i64 0,.slice none 0 0,.int .i64 0,.int .i64 0,.string ⟨#[]⟩,.slice none 0 0] 37 (0,0)))(hR:yC b rb s X):
 Calls Tryz.prog 56 #[.pointer (some ⟨b,0,none⟩),.iface 114 (.agg #[.pointer (some ⟨rb,0,none⟩)])] X (fun e Z=>e= .returned (.tuple #[])∧yC b rb (rdN s 4) Z∧Z.heap[b]? =some (.cells #[.int .i8 9,.int .i64 (zo s 0),.int .i64 (zo s 1),.int .i64 (zo s 2),.int .i64 (zo s 3),.int .i64 0,.int .i64 0,.int .i64 0,.int .i64 0,.int .i64 0,.int .i64 0,.slice none 0 0,.int .i64 0,.int .i64 0,.string ⟨#[]⟩,.slice none 0 0] 37 (0,0))∧za X Z (fun q=>q=rb∨q=b)):=
 (jJ (zt b rb hne) 9 9 rfl ue0 ue0 [144,143] rfl [(3,1,1125899906842624),zg 9] rfl (rq9 b rb hne) ue0 s X _ hR hX (zV 9 0 0 0 0 0 0 0 0 0 0 _ _ _ _ _) (fun _ _ _ _=>trivial)).mono fun e Z h=>by
   rw[show qU zz (zl 9::toQ 9:: [(3,1,1125899906842624),zg 9]) s #[.int .i8 9,.int .i64 0,.int .i64 0,.int .i64 0,.int .i64 0,.int .i64 0,.int .i64 0,.int .i64 0,.int .i64 0,.int .i64 0,.int .i64 0,.slice none 0 0,.int .i64 0,.int .i64 0,.string ⟨#[]⟩,.slice none 0 0]=some (rdN s 4, #[.int .i8 9,.int .i64 (zo s 0),.int .i64 (zo s 1),.int .i64 (zo s 2),.int .i64 (zo s 3),.int .i64 0,.int .i64 0,.int .i64 0,.int .i64 0,.int .i64 0,.int .i64 0,.slice none 0 0,.int .i64 0,.int .i64 0,.string ⟨#[]⟩,.slice none 0 0]) from rfl] at h
   exact h
theorem zlR (b rb:Nat)(hne:rb≠b)(X:World)(c0:Array Value)(j:Nat)(F:FuncId)(q:yt Rd)(h1:([143,149,150]:List FuncId)[j]? =some F)(h2:([zk zz (zg 10),zk zz ((9,0,1125899906842624))]:List (yt Rd))[j]? =some q):ZR (σ:=Rd) (fun _=>True) (fun s X=>yC b rb s X) (fun q=>q=rb) q b 114 (.agg #[.pointer (some ⟨rb,0,none⟩)]) 10 F X c0 false:=
 match j,h1,h2 with
 | 0,h1,h2=>by cases h1;cases h2;exact (zB (zt b rb hne) 10).act X c0 false
 | 1,h1,h2=>by cases h1;cases h2;exact (yK (zt b rb hne) 10).act X c0 false
 | j+2,h1,h2=>by simp at h2
theorem ziA (b rb:Nat)(hne:rb≠b)(s:Rd)(X:World)(hX:X.heap[b]? =some (.cells #[.int .i8 10,.int .i64 0,.int .i64 0,.int .i64 0,.int .i64 0,.int .i64 0,.int .i64 0,.int .i64 0,.int .i64 0,.int .i64 0,.int .i64 0,.slice none 0 0,.int .i64 0,.int .i64 0,.string ⟨#[]⟩,.slice none 0 0] 37 (0,0)))(hR:yC b rb s X):
 Calls Tryz.prog 56 #[.pointer (some ⟨b,0,none⟩),.iface 114 (.agg #[.pointer (some ⟨rb,0,none⟩)])] X (fun e Z=>e= .returned (.tuple #[])∧za X Z (fun q=>q=rb∨q=b)∧∃(ar:Option Addr) (ad:Nat),yC b rb (rdN s 4).tree.2 Z∧foLen (rdN s 4).tree.1.kids≤ad∧zQ Z (JB X.heap.size Z) (rdN s 4).tree.1.kids ar∧Z.heap[b]? =some (.cells #[.int .i8 10,.int .i64 (zo s 0),.int .i64 (zo s 1),.int .i64 0,.int .i64 (zo s 2),.int .i64 0,.int .i64 0,.int .i64 0,.int .i64 0,.int .i64 (zo s 3),.int .i64 0,.slice none 0 0,.int .i64 (rdN s 4).tree.1.id,.int .i64 (rdN s 4).tree.1.kind,.string (rdN s 4).tree.1.text,.slice ar (foLen (rdN s 4).tree.1.kids) ad] 37 (0,0))):=
 (ZZ (zt b rb hne) 10 10 rfl ue0 ue0 [143,149,150] rfl [zk zz (zg 10),zk zz ((9,0,1125899906842624))] rfl ue0 s X #[.int .i8 10,.int .i64 0,.int .i64 0,.int .i64 0,.int .i64 0,.int .i64 0,.int .i64 0,.int .i64 0,.int .i64 0,.int .i64 0,.int .i64 0,.slice none 0 0,.int .i64 0,.int .i64 0,.string ⟨#[]⟩,.slice none 0 0] (zlR b rb hne X _) 150 rfl (fun _ _=>by rfl) (zju b rb X.heap.size) ziy (fun s1 Y cs hR hT hY hm ht=>Jm 0 0 ⟨#[]⟩ none 0 0 (zdP b rb hne X (lohQ hX) 0 0 ⟨#[]⟩ none 0 0) s1 Y cs hR hT hY ⟨ht 12 om1,ht 13 om1,ht 14 om1,ht 15 om1⟩) hR hX (zV 10 0 0 0 0 0 0 0 0 0 0 _ _ _ _ _) (fun _ _ _ _=>trivial)).mono fun e Z h=>by
   rw[show yl (zk zz (zl 10)::zk zz (toQ 10):: [zk zz (zg 10),zk zz ((9,0,1125899906842624))]) s #[.int .i8 10,.int .i64 0,.int .i64 0,.int .i64 0,.int .i64 0,.int .i64 0,.int .i64 0,.int .i64 0,.int .i64 0,.int .i64 0,.int .i64 0,.slice none 0 0,.int .i64 0,.int .i64 0,.string ⟨#[]⟩,.slice none 0 0]=some (rdN s 4, #[.int .i8 10,.int .i64 (zo s 0),.int .i64 (zo s 1),.int .i64 0,.int .i64 (zo s 2),.int .i64 0,.int .i64 0,.int .i64 0,.int .i64 0,.int .i64 (zo s 3),.int .i64 0,.slice none 0 0,.int .i64 0,.int .i64 0,.string ⟨#[]⟩,.slice none 0 0]) from rfl] at h
   exact sf1
end Go.Proofs.YtoidedomenkbpaaGreat
