/-
  What is handed out may be stored over: rows in blocks from n on that bear no frozen range; kinds of cells stay what they are.
-/
import Derived.Test.YtephhllfodlfbaaGreatDoorPag
namespace Go.Proofs.YtephhllfodlfbaaGreatDoor
open Go.RowKit
inductive Like:Value→Value→Prop
 | same (v:Value):Like v v
 | str (s t:ByteArray):Like (.string s) (.string t)
 | int (k:IntKind) (i j:Int):Like (.int k i) (.int k j)
 | nil (a:Option Addr) (l c:Nat):Like (.slice a l c) (.slice none 0 0)
theorem Like.trans {a b c:Value}(h:Like a b)(h2:Like b c):Like a c:=by
 cases h with
 | same=>exact h2
 | str=>cases h2<;>constructor
 | int=>cases h2<;>constructor
 | nil=>cases h2<;>constructor
structure qaX (n:Nat)(w w':World):Prop where
 below:Below n w w'
 cells:∀p v,w.cell? p=some v→∃v',w'.cell? p=some v'∧Like v v'
 soft:∀b,Soft w b→Soft w' b
theorem qaX.refl (n:Nat)(w:World):qaX n w w:=⟨Below.refl _ _,fun _ v h=>⟨v,h,.same v⟩,fun _ h=>h⟩
theorem qaX.trans {n:Nat}{w w1 w2:World}(h:qaX n w w1)(h2:qaX n w1 w2):qaX n w w2:=by
 refine⟨h.below.trans h2.below,fun p v hv=>?_,fun b hb=>h2.soft b (h.soft b hb)⟩;obtain⟨v1,e1,l1⟩:=h.cells p v hv;obtain⟨v2,e2,l2⟩:=h2.cells p v1 e1;exact⟨v2,e2,l1.trans l2⟩
theorem qaX.store {n:Nat}{w0 w:World}(h:qaX n w0 w){b j:Nat}{old u:Value}(hb:n≤b)(hc:w.cell? ⟨b,j,none⟩=some old)(hl:Like old u):qaX n w0 (w.setCell ⟨b,j,none⟩ u):=by
 refine h.trans ⟨(Below.refl n w).setCell (p:=⟨b,j,none⟩) hb u,fun p v hv=>?_,fun k hk=>hk.set⟩
 by_cases e:(⟨b,j,none⟩:Addr)=p
 ·subst e;rw[hc]at hv;injection hv with hv;subst hv;exact⟨u,World.cell?_setCell_same _ _ _ hc,hl⟩
 ·exact⟨v,by rw[World.cell?_setCell_other _ _ _ _ e];exact hv,.same v⟩
abbrev Kd:=World→Value→Prop
def qcl (n:Nat)(F:Kd):Prop:=∀w w' v v',qaX n w w'→Like v v'→F w v→F w' v'
def kStr:Kd:=fun _ v=>∃s,v=.string s
def kInt:Kd:=fun _ v=>∃i,v=.int .i64 i
def kSl:Kd:=fun _ v=>∃a l c,v=.slice a l c
theorem kStr.stays (n:Nat):qcl n kStr:=by
 rintro w w' v v' _ h ⟨s,rfl⟩
 cases h
 ·exact⟨s,rfl⟩
 ·exact⟨_,rfl⟩
theorem kInt.stays (n:Nat):qcl n kInt:=by
 rintro w w' v v' _ h ⟨s,rfl⟩
 cases h
 ·exact⟨s,rfl⟩
 ·exact⟨_,rfl⟩
theorem kSl.stays (n:Nat):qcl n kSl:=by
 rintro w w' v v' _ h ⟨a,l,c,rfl⟩
 cases h
 ·exact⟨_,_,_,rfl⟩
 ·exact⟨_,_,_,rfl⟩
def kArr (n k:Nat)(F:Nat→Kd):Kd:=fun w v=>∃a l c,v=.slice a l c∧l≤maxLen∧(l=0∨∃b o,a=some ⟨b,o,none⟩∧n≤b∧Soft w b∧∀i,i<l→∀j,j<k→∃u,w.cell? ⟨b,o+i*k+j,none⟩=some u∧F j w u)
theorem kArr.nil (n k:Nat)(F:Nat→Kd)(w:World):kArr n k F w (.slice none 0 0):=⟨_,_,_,rfl,Nat.zero_le _,Or.inl rfl⟩
theorem kArr.stays {n k:Nat}{F:Nat→Kd}(hF:∀j,qcl n (F j)):qcl n (kArr n k F):=by
 rintro w w' v v' hs hl ⟨a,l,c,rfl,hm,h⟩
 cases hl
 case nil=>exact kArr.nil _ _ _ _
 case same=>
  refine⟨a,l,c,rfl,hm,?_⟩
  rcases h with h|⟨b,o,ha,hn,hsf,hc⟩
  ·exact Or.inl h
  ·refine Or.inr ⟨b,o,ha,hn,hs.soft b hsf,fun i hi j hj=>?_⟩;obtain⟨u,hu,hf⟩:=hc i hi j hj;obtain⟨u',hu',hl'⟩:=hs.cells _ _ hu;exact⟨u',hu',hF j w w' u u' hs hl' hf⟩
theorem qcl.at {n:Nat}{F:Kd}(h:qcl n F){w w':World}{v:Value}(hs:qaX n w w')(hv:F w v):F w' v:=h w w' v v hs (.same v) hv
theorem kArr.cell {n k:Nat}{F:Nat→Kd}{w:World}{b o l c:Nat}(h:kArr n k F w (.slice (some ⟨b,o,none⟩) l c)){i j:Nat}(hi:i<l)(hj:j<k):∃u,w.cell? ⟨b,o+i*k+j,none⟩=some u∧F j w u:=by
 obtain⟨a,l',c',e,_,h⟩:=h;injection e with e1 e2 e3;subst e1 e2 e3
 rcases h with h|⟨b',o',e,_,_,hc⟩
 ·omega
 ·injection e with e;injection e with e1 e2;subst e1 e2;exact hc i hi j hj
theorem Soft.free {w:World}{b j:Nat}(h:Soft w b):w.frozen? ⟨b,j,none⟩=false:=by
 obtain⟨cs,t,h⟩:=h;simp[World.frozen?,h]
theorem kArr.open {n k:Nat}{F:Nat→Kd}{w:World}{a:Option Addr}{l c i:Nat}(h:kArr n k F w (.slice a l c))(hi:i<l):∃b o,a=some ⟨b,o,none⟩∧n≤b∧∀j,w.frozen? ⟨b,j,none⟩=false:=by
 obtain⟨a',l',c',e,_,h⟩:=h;injection e with e1 e2 e3;subst e1 e2 e3
 rcases h with h|⟨b',o',e,hb,hs,hc⟩
 ·omega
 ·exact⟨b',o',e,hb,fun j=>hs.free⟩
theorem kArr.len {n k:Nat}{F:Nat→Kd}{w:World}{a:Option Addr}{l c:Nat}(h:kArr n k F w (.slice a l c)):l≤maxLen:=by
 obtain⟨a',l',c',e,hm,h⟩:=h;injection e with e1 e2 e3;subst e2;exact hm
theorem kArr.form {n k:Nat}{F:Nat→Kd}{w:World}{v:Value}(h:kArr n k F w v):∃a l c,v=.slice a l c:=by
 obtain⟨a,l,c,e,_⟩:=h;exact⟨a,l,c,e⟩
def KGoes (F:Kd):Prop:=∀w w' v,Below w.heap.size w w'→F w v→F w' v
theorem kStr.goes:KGoes kStr:=fun _ _ _ _ h=>h
theorem kInt.goes:KGoes kInt:=fun _ _ _ _ h=>h
theorem kSl.goes:KGoes kSl:=fun _ _ _ _ h=>h
theorem kArr.goes {n k:Nat}{F:Nat→Kd}(hF:∀j,KGoes (F j)):KGoes (kArr n k F):=by
 rintro w w' v hb ⟨a,l,c,rfl,hmx,h⟩;refine⟨a,l,c,rfl,hmx,?_⟩
 rcases h with h|⟨b,o,ha,hn,hsf,hc⟩
 ·exact Or.inl h
 ·refine Or.inr ⟨b,o,ha,hn,hsf.on hb,fun i hi j hj=>?_⟩;obtain⟨u,hu,hf⟩:=hc i hi j hj;exact⟨u,qab hb hu,hF j w w' u hb hf⟩
def ndK (n:Nat):Nat→Kd
 | 0=>kInt
 | 1=>kStr
 | 2=>kStr
 | 3=>kArr n 1 fun _=>kStr
 | 4=>kArr n 2 fun _=>kStr
 | _=>kSl
abbrev docK (n:Nat):Kd:=kArr n 5 (ndK n)
def enK (n:Nat):Nat→Kd
 | 0=>kInt
 | 1=>kStr
 | 2=>kArr n 1 fun _=>kInt
 | _=>kSl
abbrev idxK (n:Nat):Kd:=kArr n 3 (enK n)
def kRow (n k:Nat)(F:List Nat→Nat→Kd)(X:List Nat):Kd:=fun w v=>∃a l c,v=.slice a l c∧l≤maxLen∧(l=0∨∃b o,a=some ⟨b,o,none⟩∧n≤b∧b∉X∧Soft w b∧∀i,i<l→∀j,j<k→∃u,w.cell? ⟨b,o+i*k+j,none⟩=some u∧F (b::X) j w u)
theorem kRow.nil (n k:Nat)(F:List Nat→Nat→Kd)(X:List Nat)(w:World):kRow n k F X w (.slice none 0 0):=⟨_,_,_,rfl,Nat.zero_le _,Or.inl rfl⟩
theorem kRow.stays {n k:Nat}{F:List Nat→Nat→Kd}(hF:∀X j,qcl n (F X j))(X:List Nat):qcl n (kRow n k F X):=by
 rintro w w' v v' hs hl ⟨a,l,c,rfl,hm,h⟩
 cases hl
 case nil=>exact kRow.nil _ _ _ _ _
 case same=>
  refine⟨a,l,c,rfl,hm,?_⟩
  rcases h with h|⟨b,o,ha,hn,hx,hsf,hc⟩
  ·exact Or.inl h
  ·refine Or.inr ⟨b,o,ha,hn,hx,hs.soft b hsf,fun i hi j hj=>?_⟩;obtain⟨u,hu,hf⟩:=hc i hi j hj;obtain⟨u',hu',hl'⟩:=hs.cells _ _ hu;exact⟨u',hu',hF _ j w w' u u' hs hl' hf⟩
theorem kRow.len {n k:Nat}{F:List Nat→Nat→Kd}{X:List Nat}{w:World}{a:Option Addr}{l c:Nat}(h:kRow n k F X w (.slice a l c)):l≤maxLen:=by
 obtain⟨a',l',c',e,hm,h⟩:=h;injection e with e1 e2 e3;subst e2;exact hm
theorem kRow.form {n k:Nat}{F:List Nat→Nat→Kd}{X:List Nat}{w:World}{v:Value}(h:kRow n k F X w v):∃a l c,v=.slice a l c:=by
 obtain⟨a,l,c,e,_⟩:=h;exact⟨a,l,c,e⟩
theorem kRow.open {n k:Nat}{F:List Nat→Nat→Kd}{X:List Nat}{w:World}{a:Option Addr}{l c i:Nat}(h:kRow n k F X w (.slice a l c))(hi:i<l):∃b o,a=some ⟨b,o,none⟩∧n≤b∧b∉X∧(∀j,w.frozen? ⟨b,j,none⟩=false)∧∀j,j<k→∃u,w.cell? ⟨b,o+i*k+j,none⟩=some u∧F (b::X) j w u:=by
 obtain⟨a',l',c',e,_,h⟩:=h;injection e with e1 e2 e3;subst e1 e2 e3
 rcases h with h|⟨b',o',e,hb,hx,hs,hc⟩
 ·omega
 ·exact⟨b',o',e,hb,hx,fun j=>hs.free,fun j hj=>hc i hi j hj⟩
def teK (n:Nat)(X:List Nat):Nat→Kd
 | 0=>kInt
 | 1=>kStr
 | 2=>kStr
 | 3=>kInt
 | 4=>kInt
 | 5=>kRow n 2 (fun _ _=>kSl) X
 | _=>kSl
def spK (n:Nat)(X:List Nat):Nat→Kd
 | 0=>kStr
 | 1=>kRow n 6 (teK n) X
 | _=>kSl
def paK (n:Nat)(X:List Nat):Nat→Kd
 | 0=>kRow n 2 (spK n) X
 | 1=>kArr n 1 fun _=>kInt
 | _=>kSl
abbrev lsK (n:Nat):Kd:=kRow n 2 (paK n) []
theorem ndK.stays (n:Nat):∀j,qcl n (ndK n j)
 | 0=>kInt.stays n
 | 1=>kStr.stays n
 | 2=>kStr.stays n
 | 3=>kArr.stays fun _=>kStr.stays n
 | 4=>kArr.stays fun _=>kStr.stays n
 | _+5=>kSl.stays n
theorem enK.stays (n:Nat):∀j,qcl n (enK n j)
 | 0=>kInt.stays n
 | 1=>kStr.stays n
 | 2=>kArr.stays fun _=>kInt.stays n
 | _+3=>kSl.stays n
theorem teK.stays (n:Nat)(X:List Nat):∀j,qcl n (teK n X j)
 | 0=>kInt.stays n
 | 1=>kStr.stays n
 | 2=>kStr.stays n
 | 3=>kInt.stays n
 | 4=>kInt.stays n
 | 5=>kRow.stays (fun _ _=>kSl.stays n) X
 | _+6=>kSl.stays n
theorem spK.stays (n:Nat)(X:List Nat):∀j,qcl n (spK n X j)
 | 0=>kStr.stays n
 | 1=>kRow.stays (teK.stays n) X
 | _+2=>kSl.stays n
theorem paK.stays (n:Nat)(X:List Nat):∀j,qcl n (paK n X j)
 | 0=>kRow.stays (spK.stays n) X
 | 1=>kArr.stays fun _=>kInt.stays n
 | _+2=>kSl.stays n
theorem docK.stays (n:Nat):qcl n (docK n):=kArr.stays (ndK.stays n)
theorem idxK.stays (n:Nat):qcl n (idxK n):=kArr.stays (enK.stays n)
theorem lsK.stays (n:Nat):qcl n (lsK n):=kRow.stays (paK.stays n) []
theorem ndK.goes (n:Nat):∀j,KGoes (ndK n j)
 | 0=>kInt.goes
 | 1=>kStr.goes
 | 2=>kStr.goes
 | 3=>kArr.goes fun _=>kStr.goes
 | 4=>kArr.goes fun _=>kStr.goes
 | _+5=>kSl.goes
theorem enK.goes (n:Nat):∀j,KGoes (enK n j)
 | 0=>kInt.goes
 | 1=>kStr.goes
 | 2=>kArr.goes fun _=>kInt.goes
 | _+3=>kSl.goes
theorem docK.goes (n:Nat):KGoes (docK n):=kArr.goes (ndK.goes n)
theorem idxK.goes (n:Nat):KGoes (idxK n):=kArr.goes (enK.goes n)
theorem kArr.mono {n m k:Nat}{F G:Nat→Kd}(hm:m≤n)(hF:∀j w v,F j w v→G j w v){w:World}{v:Value}(h:kArr n k F w v):kArr m k G w v:=by
 obtain⟨a,l,c,rfl,hmx,h⟩:=h;refine⟨a,l,c,rfl,hmx,?_⟩
 rcases h with h|⟨b,o,ha,hn,hs,hc⟩
 ·exact Or.inl h
 ·refine Or.inr ⟨b,o,ha,by omega,hs,fun i hi j hj=>?_⟩;obtain⟨u,hu,hf⟩:=hc i hi j hj;exact⟨u,hu,hF j w u hf⟩
theorem docK.mono {n m:Nat}(hm:m≤n){w:World}{v:Value}(h:docK n w v):docK m w v:=kArr.mono hm (fun j w v hv=>by
 match j,hv with
 | 0,hv=>exact hv
 | 1,hv=>exact hv
 | 2,hv=>exact hv
 | 3,hv=>exact kArr.mono hm (fun _ _ _ h=>h) hv
 | 4,hv=>exact kArr.mono hm (fun _ _ _ h=>h) hv
 | _+5,hv=>exact hv) h
theorem idxK.mono {n m:Nat}(hm:m≤n){w:World}{v:Value}(h:idxK n w v):idxK m w v:=kArr.mono hm (fun j w v hv=>by
 match j,hv with
 | 0,hv=>exact hv
 | 1,hv=>exact hv
 | 2,hv=>exact kArr.mono hm (fun _ _ _ h=>h) hv
 | _+3,hv=>exact hv) h
theorem duo1_on {w W w':World}{p0:Addr}{v0:Value}(h:W.cell? p0=some v0∧Below w.heap.size w W)(hb:Below W.heap.size W w'):w'.cell? p0=some v0∧Below w.heap.size w w':=⟨qab hb h.1,qaa h.2 hb⟩
theorem qfT {w W:World}{p0:Addr}{v0:Value}(h:W.cell? p0=some v0∧Below w.heap.size w W):Below w.heap.size w W:=h.2
theorem qhC {w W:World}{b0 o0 B j:Nat}{v0 u:Value}(h0:b0<w.heap.size)(hB:w.heap.size≤B)(h:W.cell? ⟨b0,o0,none⟩=some v0∧Below w.heap.size w W):(W.setCell ⟨B,j,none⟩ u).cell? ⟨b0,o0,none⟩=some v0∧Below w.heap.size w (W.setCell ⟨B,j,none⟩ u):=
 ⟨qbj h.1 (by omega),h.2.setCell (p:=⟨B,j,none⟩) hB u⟩
theorem duo1_set2 {w W:World}{b0 o0 B j k:Nat}{v0 u u2:Value}(h0:b0<w.heap.size)(hB:w.heap.size≤B)(h:W.cell? ⟨b0,o0,none⟩=some v0∧Below w.heap.size w W):((W.setCell ⟨B,j,none⟩ u).setCell ⟨B,k,none⟩ u2).cell? ⟨b0,o0,none⟩=some v0∧Below w.heap.size w ((W.setCell ⟨B,j,none⟩ u).setCell ⟨B,k,none⟩ u2):=qhC h0 hB (qhC h0 hB h)
theorem duo1_re {w W:World}{o o':Obj}{b0 o0:Nat}{v0:Value}(h0:b0<w.heap.size)(hs:w.heap.size≤W.heap.size)(h:(W.alloc o).cell? ⟨b0,o0,none⟩=some v0∧Below w.heap.size w (W.alloc o)):(W.alloc o').cell? ⟨b0,o0,none⟩=some v0∧Below w.heap.size w (W.alloc o'):=by
 have hb:∀k,k<w.heap.size→(W.alloc o').heap[k]? =(W.alloc o).heap[k]? :=fun k hk=>by rw[Below.heap_alloc _ _ _ (by omega),Below.heap_alloc _ _ _ (by omega)]
 refine⟨?_,?_⟩
 ·rw[World.cell?_of_block (w:=W.alloc o) (hb b0 h0)];exact h.1
 ·obtain⟨e1,e2,e3,e4,e5⟩:=h.2;exact⟨e1,e2,e3,by simp;omega,fun k hk=>(hb k hk).trans (e5 k hk)⟩
structure RCon (w:World)(a a2 a3 al:Option Addr)(c c2 c3 cl:Nat)(ns es ms D:List Pl.Nd)(ix I:List Pl.Er)(up at_ E:Int)(l m:List Pl.D3):Prop where
 pe:∀W,Below w.heap.size w W→Calls Tryz.prog 20 #[.agg #[.slice a ns.length c,.slice a2 ix.length c2]] W fun e w'=>e=.returned (.int .i64 0)∧Below W.heap.size W w'
 ckl:∀W,Below w.heap.size w W→Calls Tryz.prog 21 #[.slice al l.length cl] W fun e w'=>e=.returned (.int .i64 0)∧Below W.heap.size W w'
 od:∀W,Below w.heap.size w W→Calls Tryz.prog 22 #[.agg #[.slice a ns.length c]] W fun e w'=>∃a' c',e=.returned (.agg #[.slice a' ns.length c'])∧qar w' (.slice a' ns.length c') ns∧Below W.heap.size W w'
 ixo:∀W,Below w.heap.size w W→Calls Tryz.prog 23 #[.agg #[.slice a ns.length c]] W fun e w'=>∃a' c',e=.returned (.slice a' ix.length c')∧qbl w' (.slice a' ix.length c') ix∧Below W.heap.size W w'
 ol:∀W,Below w.heap.size w W→Calls Tryz.prog 24 #[.slice al l.length cl] W fun e w'=>∃a' c',e=.returned (.slice a' l.length c')∧A3 w' (.slice a' l.length c') l∧Below W.heap.size W w'
 ins:∀W,Below w.heap.size w W→Calls Tryz.prog 8 #[.agg #[.slice a ns.length c,.slice a2 ix.length c2],.int .i64 up,.int .i64 at_,.agg #[.slice a3 es.length c3]] W fun e w'=>∃a' c' i k,e=.returned (.tuple #[.agg #[.slice a' D.length c',.slice i I.length k],.int .i64 E])∧PgAt w' (.agg #[.slice a' D.length c',.slice i I.length k]) D I∧docK W.heap.size w' (.slice a' D.length c')∧idxK W.heap.size w' (.slice i I.length k)∧Below W.heap.size W w'
 pl:∀W,Below w.heap.size w W→Calls Tryz.prog 15 #[.slice al l.length cl] W fun e w'=>∃a' c',e=.returned (.tuple #[.slice a' m.length c',.int .i64 0])∧A3 w' (.slice a' m.length c') m∧lsK W.heap.size w' (.slice a' m.length c')∧Below W.heap.size W w'
 ri:∀W,Below w.heap.size w W→Calls Tryz.prog 26 #[.agg #[.slice a ns.length c],.int .i64 up,.int .i64 at_,.agg #[.slice a3 es.length c3]] W fun e w'=>∃a' c',e=.returned (.tuple #[.agg #[.slice a' ms.length c'],.int .i64 E])∧qar w' (.slice a' ms.length c') ms∧Below W.heap.size W w'
 po:∀W a' c',qar W (.slice a' ms.length c') ms→Calls Tryz.prog 25 #[.agg #[.slice a' ms.length c'],.int .i64 E] W fun e w'=>∃a' c' i k,e=.returned (.tuple #[.agg #[.slice a' D.length c',.slice i I.length k],.int .i64 E])∧PgAt w' (.agg #[.slice a' D.length c',.slice i I.length k]) D I∧Below W.heap.size W w'
 lb:∀W,Calls Tryz.prog 7 #[] W fun e w'=>e=.returned (.bool true)∧Below W.heap.size W w'
 s1:∀W v1 v2,PgAt W v1 D I→PgAt W v2 D I→Calls Tryz.prog 27 #[v1,v2] W fun e w'=>e=.returned (.bool true)∧Below W.heap.size W w'
 s2:∀W v1 v2,PgAt W v1 ns ix→PgAt W v2 ns ix→Calls Tryz.prog 27 #[v1,v2] W fun e w'=>e=.returned (.bool true)∧Below W.heap.size W w'
 s3:∀W v1 v2,A3 W v1 l→A3 W v2 l→Calls Tryz.prog 19 #[v1,v2] W fun e w'=>e=.returned (.bool true)∧Below W.heap.size W w'
 s4:∀W v1 v2,A3 W v1 m→A3 W v2 m→Calls Tryz.prog 19 #[v1,v2] W fun e w'=>e=.returned (.bool true)∧Below W.heap.size W w'
 pf:∀W,Below w.heap.size w W→Calls Tryz.prog 28 #[.slice al l.length cl] W fun e w'=>∃a' c',e=.returned (.slice a' m.length c')∧A3 w' (.slice a' m.length c') m∧Below W.heap.size W w'
theorem Blk2.off {w:World}{M b j:Nat}{a0 a1:Option Addr}{l0 l1 c0 c1:Nat}{v:Value}(h:Blk2 w M (.slice a0 l0 c0) (.slice a1 l1 c1))(hc:w.cell? ⟨b,j,none⟩=some v)(hv:∀a l c,v≠ .slice a l c):b≠M:=by
 intro e;subst e;obtain⟨_,a,l,c,e⟩:=h.sm.cell hc;exact hv a l c e
theorem Blk2.oth {w:World}{N M j:Nat}{c0 c1 u:Value}(h:Blk2 w N c0 c1)(hne:M≠N):Blk2 (w.setCell ⟨M,j,none⟩ u) N c0 c1:=by
 unfold Blk2 at *;rw[Below.heap_setCell _ _ _ _ (by intro e;exact hne e.symm)];exact h
theorem qdH {w:World}{p q:Addr}{v old u:Value}(h:w.cell? q=some v)(hp:w.cell? p=some old)(hne:old≠v):(w.setCell p u).cell? q=some v:=by
 rw[World.cell?_setCell_other _ _ _ _ (by
  intro e;subst e;rw[hp]at h;injection h with h
  exact hne h)]
 exact h
structure Sp1 (n:Nat)(w:World)(M:Nat)(a0 a1:Option Addr)(l0 c0 l1 c1:Nat)(W:World):Prop where
 sp:qaX n w W
 box:Blk2 W M (.slice a0 l0 c0) (.slice a1 l1 c1)
theorem Sp1.store {n:Nat}{w:World}{M:Nat}{a0 a1:Option Addr}{l0 c0 l1 c1:Nat}{W:World}(h:Sp1 n w M a0 a1 l0 c0 l1 c1 W){b j:Nat}{old u:Value}(hb:n≤b)(hne:b≠M)(hc:W.cell? ⟨b,j,none⟩=some old)(hl:Like old u):Sp1 n w M a0 a1 l0 c0 l1 c1 (W.setCell ⟨b,j,none⟩ u):=
 ⟨h.sp.store hb hc hl,h.box.oth hne⟩
theorem Sp1.trans {n:Nat}{w:World}{M:Nat}{a0 a1:Option Addr}{l0 c0 l1 c1:Nat}{W W2:World}(h:Sp1 n w M a0 a1 l0 c0 l1 c1 W)(h2:Sp1 n W M a0 a1 l0 c0 l1 c1 W2):Sp1 n w M a0 a1 l0 c0 l1 c1 W2:=⟨h.sp.trans h2.sp,h2.box⟩
theorem qgF (s:ByteArray)(a:Option Addr)(l c:Nat):Value.string s≠ .slice a l c:=by
 intro e
 cases e
theorem int_no (k:IntKind)(s:Int)(a:Option Addr)(l c:Nat):Value.int k s≠ .slice a l c:=by
 intro e
 cases e
theorem Sp1.str {n:Nat}{w:World}{M:Nat}{a0 a1:Option Addr}{l0 c0 l1 c1:Nat}{W:World}(h:Sp1 n w M a0 a1 l0 c0 l1 c1 W){a:Option Addr}{l c j:Nat}(hK:kArr n 1 (fun _=>kStr) W (.slice a l c))(hj:j<l):
 ∃b o s,a=some ⟨b,o,none⟩∧W.cell? ⟨b,o+j,none⟩=some (.string s)∧W.frozen? ⟨b,o+j,none⟩=false∧∀t,Sp1 n w M a0 a1 l0 c0 l1 c1 (W.setCell ⟨b,o+j,none⟩ (.string t))∧∀q a' l' c',W.cell? q=some (.slice a' l' c')→(W.setCell ⟨b,o+j,none⟩ (.string t)).cell? q=some (.slice a' l' c'):=by
 obtain⟨b,o,rfl,hn,hf⟩:=kArr.open hK hj;obtain⟨u,hu,⟨s,rfl⟩⟩:=kArr.cell hK hj (j:=0) (by omega);rw[show o+j*1+0=o+j by omega]at hu;exact⟨b,o,s,rfl,hu,hf _,fun t=>⟨h.store hn (h.box.off hu (qgF s)) hu (.str _ _),fun q a' l' c' hq=>qdH hq hu (qgF _ _ _ _)⟩⟩
theorem Sp1.two {n:Nat}{w:World}{M:Nat}{a0 a1:Option Addr}{l0 c0 l1 c1:Nat}{W:World}(h:Sp1 n w M a0 a1 l0 c0 l1 c1 W){a:Option Addr}{l c j:Nat}(hK:kArr n 2 (fun _=>kStr) W (.slice a l c))(hj:j<l):
 ∃b o s s',a=some ⟨b,o,none⟩∧(W.cell? ⟨b,o+j*2,none⟩=some (.string s)∧W.cell? ⟨b,o+j*2+1,none⟩=some (.string s'))∧(∀i,W.frozen? ⟨b,i,none⟩=false)∧∀t t',Sp1 n w M a0 a1 l0 c0 l1 c1 ((W.setCell ⟨b,o+j*2,none⟩ (.string t)).setCell ⟨b,o+j*2+1,none⟩ (.string t'))∧∀q a' l' c',W.cell? q=some (.slice a' l' c')→((W.setCell ⟨b,o+j*2,none⟩ (.string t)).setCell ⟨b,o+j*2+1,none⟩ (.string t')).cell? q=some (.slice a' l' c'):=by
 obtain⟨b,o,rfl,hn,hf⟩:=kArr.open hK hj;obtain⟨u,hu,⟨s,rfl⟩⟩:=kArr.cell hK hj (j:=0) (by omega);obtain⟨u',hu',⟨s',rfl⟩⟩:=kArr.cell hK hj (j:=1) (by omega);rw[Nat.add_zero]at hu
 have h2:∀t,(W.setCell ⟨b,o+j*2,none⟩ (.string t)).cell? ⟨b,o+j*2+1,none⟩=some (.string s'):=fun t=>by
  rw[World.cell?_setCell_other _ _ _ _ (by simp)];exact hu'
 refine⟨b,o,s,s',rfl,⟨hu,hu'⟩,hf,fun t t'=>⟨?_,fun q a' l' c' hq=>?_⟩⟩
 ·have g1:=h.store hn (h.box.off hu (qgF s)) hu (.str s t);exact g1.store hn (g1.box.off (h2 t) (qgF s')) (h2 t) (.str _ _)
 ·exact qdH (qdH hq hu (qgF _ _ _ _)) (h2 t) (qgF _ _ _ _)
theorem Sp1.int {n:Nat}{w:World}{M:Nat}{a0 a1:Option Addr}{l0 c0 l1 c1:Nat}{W:World}(h:Sp1 n w M a0 a1 l0 c0 l1 c1 W){a:Option Addr}{l c j:Nat}(hK:kArr n 1 (fun _=>kInt) W (.slice a l c))(hj:j<l):
 ∃b o s,a=some ⟨b,o,none⟩∧W.cell? ⟨b,o+j,none⟩=some (.int .i64 s)∧W.frozen? ⟨b,o+j,none⟩=false∧∀t,Sp1 n w M a0 a1 l0 c0 l1 c1 (W.setCell ⟨b,o+j,none⟩ (.int .i64 t))∧∀q a' l' c',W.cell? q=some (.slice a' l' c')→(W.setCell ⟨b,o+j,none⟩ (.int .i64 t)).cell? q=some (.slice a' l' c'):=by
 obtain⟨b,o,rfl,hn,hf⟩:=kArr.open hK hj;obtain⟨u,hu,⟨s,rfl⟩⟩:=kArr.cell hK hj (j:=0) (by omega);rw[show o+j*1+0=o+j by omega]at hu;exact⟨b,o,s,rfl,hu,hf _,fun t=>⟨h.store hn (h.box.off hu (int_no _ s)) hu (.int _ _ _),fun q a' l' c' hq=>qdH hq hu (int_no _ _ _ _ _)⟩⟩
theorem qaD {W:World}{b i j:Nat}{u v:Value}(h:W.cell? ⟨b,j,none⟩=some v)(hne:i≠j):(W.setCell ⟨b,i,none⟩ u).cell? ⟨b,j,none⟩=some v:=by
 rw[World.cell?_setCell_other _ _ _ _ (by intro e;injection e with _ e;exact hne e)];exact h
theorem Sp1.nd {n:Nat}{w:World}{M:Nat}{a0 a1:Option Addr}{l0 c0 l1 c1:Nat}{W:World}(h:Sp1 n w M a0 a1 l0 c0 l1 c1 W){b o l c j:Nat}(hK:docK n W (.slice (some ⟨b,o,none⟩) l c))(hj:j<l):
 ∃v0 v1 v2 v3 v4,(W.cell? ⟨b,o+j*5,none⟩=some v0∧W.cell? ⟨b,o+j*5+1,none⟩=some v1∧W.cell? ⟨b,o+j*5+2,none⟩=some v2∧W.cell? ⟨b,o+j*5+3,none⟩=some v3∧W.cell? ⟨b,o+j*5+4,none⟩=some v4)∧(∀i,W.frozen? ⟨b,i,none⟩=false)∧∀z t t',Sp1 n w M a0 a1 l0 c0 l1 c1 (((((W.setCell ⟨b,o+j*5,none⟩ (.int .i64 z)).setCell ⟨b,o+j*5+1,none⟩ (.string t)).setCell ⟨b,o+j*5+2,none⟩ (.string t')).setCell ⟨b,o+j*5+3,none⟩ (.slice none 0 0)).setCell ⟨b,o+j*5+4,none⟩ (.slice none 0 0)):=by
 obtain⟨b',o',e,hn,hf⟩:=kArr.open hK hj;injection e with e;injection e with e1 e2;subst e1 e2;obtain⟨v0,x0,⟨z0,rfl⟩⟩:=kArr.cell hK hj (j:=0) (by omega);obtain⟨v1,x1,⟨s1,rfl⟩⟩:=kArr.cell hK hj (j:=1) (by omega);obtain⟨v2,x2,⟨s2,rfl⟩⟩:=kArr.cell hK hj (j:=2) (by omega);obtain⟨v3,x3,h3⟩:=kArr.cell hK hj (j:=3) (by omega);obtain⟨v4,x4,h4⟩:=kArr.cell hK hj (j:=4) (by omega);obtain⟨a3,l3,c3,rfl⟩:=kArr.form h3;obtain⟨a4,l4,c4,rfl⟩:=kArr.form h4;rw[Nat.add_zero]at x0;have hne:=h.box.off x0 (int_no _ z0);refine⟨_,_,_,_,_,⟨x0,x1,x2,x3,x4⟩,hf,fun z t t'=>?_⟩;have g0:=h.store hn hne x0 (.int .i64 z0 z);have g1:=g0.store hn hne (qaD x1 (by omega)) (.str s1 t);have g2:=g1.store hn hne (qaD (qaD x2 (by omega)) (by omega)) (.str s2 t');have g3:=g2.store hn hne (qaD (qaD (qaD x3 (by omega)) (by omega)) (by omega)) (.nil a3 l3 c3);exact g3.store hn hne (qaD (qaD (qaD (qaD x4 (by omega)) (by omega)) (by omega)) (by omega)) (.nil a4 l4 c4)
theorem qaX.int {n:Nat}{w W:World}(h:qaX n w W){a:Option Addr}{l c j:Nat}(hK:kArr n 1 (fun _=>kInt) W (.slice a l c))(hj:j<l):
 ∃b o s,a=some ⟨b,o,none⟩∧W.cell? ⟨b,o+j,none⟩=some (.int .i64 s)∧W.frozen? ⟨b,o+j,none⟩=false∧∀t,qaX n w (W.setCell ⟨b,o+j,none⟩ (.int .i64 t))∧∀q a' l' c',W.cell? q=some (.slice a' l' c')→(W.setCell ⟨b,o+j,none⟩ (.int .i64 t)).cell? q=some (.slice a' l' c'):=by
 obtain⟨b,o,rfl,hn,hf⟩:=kArr.open hK hj;obtain⟨u,hu,⟨s,rfl⟩⟩:=kArr.cell hK hj (j:=0) (by omega);rw[show o+j*1+0=o+j by omega]at hu;exact⟨b,o,s,rfl,hu,hf _,fun t=>⟨h.store hn hu (.int _ _ _),fun q a' l' c' hq=>qdH hq hu (int_no _ _ _ _ _)⟩⟩
theorem cell_far {W:World}{b g i j:Nat}{u v:Value}(h:W.cell? ⟨g,j,none⟩=some v)(hne:b≠g):(W.setCell ⟨b,i,none⟩ u).cell? ⟨g,j,none⟩=some v:=by
 rw[World.cell?_setCell_other _ _ _ _ (by intro e;injection e with e;exact hne e)];exact h
theorem qaX.pth {n:Nat}{w W:World}(h:qaX n w W){X:List Nat}{a:Option Addr}{l c j:Nat}(hK:kRow n 2 (fun _ _=>kSl) X W (.slice a l c))(hj:j<l):
 ∃b o v0 v1,a=some ⟨b,o,none⟩∧(W.cell? ⟨b,o+j*2,none⟩=some v0∧W.cell? ⟨b,o+j*2+1,none⟩=some v1)∧(∀i,W.frozen? ⟨b,i,none⟩=false)∧qaX n w ((W.setCell ⟨b,o+j*2,none⟩ (.slice none 0 0)).setCell ⟨b,o+j*2+1,none⟩ (.slice none 0 0))∧∀g∈X,∀i v,W.cell? ⟨g,i,none⟩=some v→((W.setCell ⟨b,o+j*2,none⟩ (.slice none 0 0)).setCell ⟨b,o+j*2+1,none⟩ (.slice none 0 0)).cell? ⟨g,i,none⟩=some v:=by
 obtain⟨b,o,rfl,hn,hx,hf,hcs⟩:=kRow.open hK hj;obtain⟨v0,x0,⟨a0,l0,c0,rfl⟩⟩:=hcs 0 (by omega);obtain⟨v1,x1,⟨a1,l1,c1,rfl⟩⟩:=hcs 1 (by omega);rw[Nat.add_zero]at x0;have g0:=h.store hn x0 (.nil a0 l0 c0);have hb:∀g∈X,b≠g:=fun g hg e=>hx (e▸hg)
 exact⟨b,o,_,_,rfl,⟨x0,x1⟩,hf,g0.store hn (qaD x1 (by omega)) (.nil a1 l1 c1),fun g hg i v hv=>cell_far (cell_far hv (hb g hg)) (hb g hg)⟩
theorem qaX.tst {n:Nat}{w W:World}(h:qaX n w W){X:List Nat}{b o l c j:Nat}(hK:kRow n 6 (teK n) X W (.slice (some ⟨b,o,none⟩) l c))(hj:j<l):
 ∃v0 v1 v2 v3 v4 v5,(W.cell? ⟨b,o+j*6,none⟩=some v0∧W.cell? ⟨b,o+j*6+1,none⟩=some v1∧W.cell? ⟨b,o+j*6+2,none⟩=some v2∧W.cell? ⟨b,o+j*6+3,none⟩=some v3∧W.cell? ⟨b,o+j*6+4,none⟩=some v4∧W.cell? ⟨b,o+j*6+5,none⟩=some v5)∧(∀i,W.frozen? ⟨b,i,none⟩=false)∧∀z t t' y x,qaX n w ((((((W.setCell ⟨b,o+j*6,none⟩ (.int .i64 z)).setCell ⟨b,o+j*6+1,none⟩ (.string t)).setCell ⟨b,o+j*6+2,none⟩ (.string t')).setCell ⟨b,o+j*6+3,none⟩ (.int .i64 y)).setCell ⟨b,o+j*6+4,none⟩ (.int .i64 x)).setCell ⟨b,o+j*6+5,none⟩ (.slice none 0 0))∧∀g∈X,∀i v,W.cell? ⟨g,i,none⟩=some v→((((((W.setCell ⟨b,o+j*6,none⟩ (.int .i64 z)).setCell ⟨b,o+j*6+1,none⟩ (.string t)).setCell ⟨b,o+j*6+2,none⟩ (.string t')).setCell ⟨b,o+j*6+3,none⟩ (.int .i64 y)).setCell ⟨b,o+j*6+4,none⟩ (.int .i64 x)).setCell ⟨b,o+j*6+5,none⟩ (.slice none 0 0)).cell? ⟨g,i,none⟩=some v:=by
 obtain⟨b',o',e,hn,hx,hf,hcs⟩:=kRow.open hK hj;injection e with e;injection e with e1 e2;subst e1 e2;obtain⟨v0,x0,⟨z0,rfl⟩⟩:=hcs 0 (by omega);obtain⟨v1,x1,⟨s1,rfl⟩⟩:=hcs 1 (by omega);obtain⟨v2,x2,⟨s2,rfl⟩⟩:=hcs 2 (by omega);obtain⟨v3,x3,⟨z3,rfl⟩⟩:=hcs 3 (by omega);obtain⟨v4,x4,⟨z4,rfl⟩⟩:=hcs 4 (by omega);obtain⟨v5,x5,h5⟩:=hcs 5 (by omega);obtain⟨a5,l5,c5,rfl⟩:=kRow.form (show kRow n 2 (fun _ _=>kSl) (b::X) W v5 from h5);rw[Nat.add_zero]at x0;have hb:∀g∈X,b≠g:=fun g hg e=>hx (e▸hg)
 refine⟨_,_,_,_,_,_,⟨x0,x1,x2,x3,x4,x5⟩,hf,fun z t t' y x=>⟨?_,fun g hg i v hv=>?_⟩⟩
 ·have g0:=h.store hn x0 (.int .i64 z0 z);have g1:=g0.store hn (qaD x1 (by omega)) (.str s1 t);have g2:=g1.store hn (qaD (qaD x2 (by omega)) (by omega)) (.str s2 t');have g3:=g2.store hn (qaD (qaD (qaD x3 (by omega)) (by omega)) (by omega)) (.int .i64 z3 y);have g4:=g3.store hn (qaD (qaD (qaD (qaD x4 (by omega)) (by omega)) (by omega)) (by omega)) (.int .i64 z4 x);exact g4.store hn (qaD (qaD (qaD (qaD (qaD x5 (by omega)) (by omega)) (by omega)) (by omega)) (by omega)) (.nil a5 l5 c5)
 ·have hg:=hb g hg;exact cell_far (cell_far (cell_far (cell_far (cell_far (cell_far hv hg) hg) hg) hg) hg) hg
structure RK (w:World)(a a2 a3 a5 a6 a7:Option Addr)(c c2 c3 c5 c6 c7 M:Nat)(ns es:List Pl.Nd)(ix:List Pl.Er)(l:List Pl.D3)(W:World):Prop where
 bw:Below w.heap.size w W
 p:Blk2 W w.heap.size (.slice a ns.length c) (.slice a2 ix.length c2)
 e:Blk1 W (w.heap.size+1) (.slice a3 es.length c3)
 m:Blk2 W M (.slice a5 ns.length c5) (.slice a6 ix.length c6)
 pm:PgAt W (.agg #[.slice a5 ns.length c5,.slice a6 ix.length c6]) ns ix
 ls:A3 W (.slice a7 l.length c7) l
theorem RK.on {w:World}{a a2 a3 a5 a6 a7:Option Addr}{c c2 c3 c5 c6 c7 M:Nat}{ns es:List Pl.Nd}{ix:List Pl.Er}{l:List Pl.D3}{W W':World}(h:RK w a a2 a3 a5 a6 a7 c c2 c3 c5 c6 c7 M ns es ix l W)(hb:Below W.heap.size W W'):RK w a a2 a3 a5 a6 a7 c c2 c3 c5 c6 c7 M ns es ix l W':=
 ⟨qaa h.bw hb,h.p.on hb,h.e.on hb,h.m.on hb,h.pm.on hb,qcB.on h.ls hb⟩
end Go.Proofs.YtephhllfodlfbaaGreatDoor
