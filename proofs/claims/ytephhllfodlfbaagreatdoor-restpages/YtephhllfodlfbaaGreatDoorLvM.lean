/-
  Rows in memory, whatever their elements; and how a row that is handed in is opened.
-/
import Derived.Test.YtephhllfodlfbaaGreatDoorIdxP
import Derived.Deep.SlicePairs
import Derived.SliceStrings
import Derived.OpenShut
import Derived.KernelRfl
import Derived.Lib.SmallJoins
namespace Go.Proofs.YtephhllfodlfbaaGreatDoor
open Go.RowKit
def qaf {β:Type}(E:World→Nat→Nat→β→Prop)(k:Nat)(w:World)(v:Value)(l:List β):Prop:=
 ∃a cap,v=.slice a l.length cap∧(l.length≤cap∧cap≤maxLen)∧(l=[]∨∃b o,a=some ⟨b,o,none⟩∧∀i (h:i<l.length),E w b (o+i*k) l[i])
theorem qaf.form {β:Type}{E:World→Nat→Nat→β→Prop}{k:Nat}{w:World}{v:Value}{l:List β}(h:qaf E k w v l):∃a c,v=.slice a l.length c:=by
 obtain⟨a,c,e,_⟩:=h;exact⟨a,c,e⟩
theorem qaf.fit {β:Type}{E:World→Nat→Nat→β→Prop}{k:Nat}{w:World}{v:Value}{l:List β}(h:qaf E k w v l):l.length≤maxLen:=by
 obtain⟨_,_,_,h,_⟩:=h;exact Nat.le_trans h.1 h.2
theorem qaf.nil {β:Type}(E:World→Nat→Nat→β→Prop)(k:Nat)(w:World):qaf E k w (.slice none 0 0) []:=⟨none,0,rfl,by simp,Or.inl rfl⟩
theorem qaf.map {β:Type}{E F:World→Nat→Nat→β→Prop}{k:Nat}{w w':World}{v:Value}{l:List β}(h:qaf E k w v l)(hm:∀b o x,E w b o x→F w' b o x):qaf F k w' v l:=by
 obtain⟨a,cap,e,hf,h⟩:=h;refine⟨a,cap,e,hf,?_⟩
 rcases h with h|⟨b,o,ha,hc⟩
 ·exact Or.inl h
 ·exact Or.inr ⟨b,o,ha,fun i hi=>hm _ _ _ (hc i hi)⟩
theorem qaf.at {β:Type}{E:World→Nat→Nat→β→Prop}{k:Nat}{w:World}{a:Option Addr}{n c:Nat}{l:List β}(h:qaf E k w (.slice a n c) l)(h0:0<l.length):n=l.length∧∃b o,a=some ⟨b,o,none⟩∧∀i (h:i<l.length),E w b (o+i*k) l[i]:=by
 obtain⟨a',c',e,_,h|⟨b,o,ha,hc⟩⟩:=h
 ·subst h;simp at h0
 ·injection e with e1 e2 e3;subst e1 e2 e3;exact⟨rfl,b,o,ha,hc⟩
theorem cell_addr {W:World}{a:Addr}{v:Value}(h:W.cell? a=some v):a=⟨a.block,a.off,none⟩:=by
 obtain⟨b,o,s⟩:=a
 cases s with
 | none=>rfl
 | some s=>
  exfalso
  unfold World.cell? at h
  split at h
  ·simp at h
  ·cases h
theorem qh1 (a:Addr):a.add 0=a:=by unfold Addr.add;simp
theorem qfK {β:Type}[Inhabited β]{H:Type}{enc:TypeId×Value→H}{P:Program}{W:World}{held:Bool}{t e:TypeId}{k:Nat}{E:World→Nat→Nat→β→Prop}(ht:P.underlying t=some (.slice e))(hk:P.cellsOf e=k)(hk0:0<k){fuel:Nat}
 (hE:∀n cs y b o,n<fuel→cs.length=k→(∀i,i<k→W.cell? ⟨b,o+i,none⟩=cs[i]?)→DataW.trod enc P W 0 (fun _=>true) held n e cs=some y→∃x,E W b o x)
 {cs:List Value} {x:DataW H×List MemPlace} (h:DataW.trod enc P W 0 (fun _=>true) held fuel t cs=some x):∃v l,cs=[v]∧qaf E k W v l:=by
 rcases DataW.trod_slice ht h with ⟨rfl,_⟩|⟨a,len,cap,elems,rest,n,hfu,rfl,_,_,hl,hm,hlen,hel,_,_⟩
 ·exact⟨_,[],rfl,qaf.nil E k W⟩
 ·rcases Nat.eq_zero_or_pos len with h0|h0
  ·subst h0;exact⟨_,[],rfl,some a,cap,rfl,⟨by simp,by omega⟩,Or.inl rfl⟩
  have hcell:∀i,i<len→∃cs':List Value,(∀j,j<k→W.cell? ((a.add (i*k)).add j)=cs'[j]?)∧cs'.length=k∧∃y,DataW.trod enc P W 0 (fun _=>true) held n e cs'=some y:=by
   intro i hi;have h1:=hel i hi;rw[List.getElem?_eq_getElem (by omega),hk,Option.bind_eq_some_iff]at h1;obtain⟨cs',h2,h3⟩:=h1;obtain⟨_,h4,h5⟩:=World.cells?_some h2;exact⟨cs',fun j hj=>h5 j hj,h4,_,h3⟩
  have ha:a=⟨a.block,a.off,none⟩:=by
   obtain⟨cs',h1,h2,_⟩:=hcell 0 h0;have h3:=h1 0 (by omega);rw[Nat.zero_mul,qh1,qh1,List.getElem?_eq_getElem (by omega)]at h3;exact cell_addr h3
  have hex:∀i,i<len→∃x,E W a.block (a.off+i*k) x:=by
   intro i hi;obtain⟨cs',h1,h2,y,h3⟩:=hcell i hi;refine hE n cs' y _ _ (by omega) h2 (fun j hj=>?_) h3;have:=h1 j hj;rw[ha,Addr.add_lit,Addr.add_lit]at this;exact this
  obtain⟨f,hf⟩:=Deep.choose_lt hex;have hL:((List.range len).map f).length=len:=by simp
  refine⟨_,(List.range len).map f,rfl,some a,cap,by rw[hL],by omega,Or.inr ⟨a.block,a.off,by rw[←ha],fun i hi=>?_⟩⟩;rw[hL]at hi;simp only[List.getElem_map,List.getElem_range];exact hf i hi
end Go.Proofs.YtephhllfodlfbaaGreatDoor
namespace Go.Proofs.YtephhllfodlfbaaGreatDoor
namespace Pl
structure Tst (α:Type) where
 kind:Int
 name:List UInt8
 value:List UInt8
 a:Int
 b:Int
 list:List α
deriving DecidableEq
structure Stp (α:Type) where
 tag:List UInt8
 tests:List (Tst α)
deriving DecidableEq
structure Pth (α:Type) where
 steps:List (Stp α)
 links:List Int
deriving DecidableEq
def Pth.tests {α:Type}(p:Pth α):List (Tst α):=p.steps.flatMap (·.tests)
def isKind (k:Int):Bool:=decide (1≤k∧k≤15)
def qbB (k:Int):Bool:=decide (1≤k∧k≤4)
def qeh (k:Int):Bool:=decide (1≤k∧k≤8)
def qdv (k:Int):Bool:=decide (4≤k∧k≤8)
def kNth (k:Int):Bool:=decide (k=9∨k=10)
def qbb (k:Int):Bool:=decide (13≤k∧k≤15)
def pFits {α:Type}(p:Pth α):Bool:=decide (1≤p.steps.length∧p.steps.length≤5∧p.links.length+1=p.steps.length)&&p.steps.all fun s=>decide (s.tests.length≤6)
def inner {α:Type}(f:List α→Bool)(p:Pth α):Bool:=p.tests.all fun t=> !qbb t.kind||f t.list
def qbd {α:Type}(f:List α→Bool)(l:List (Pth α)):Bool:=decide (1≤l.length∧l.length≤5)&&l.all fun p=>pFits p&&inner f p
def evUp {α:Type}(r:Pth α→Bool)(f:List α→Bool)(l:List (Pth α)):Bool:=l.all fun p=>r p&&inner f p
def qbh {α:Type}(p:Pth α):Bool:=p.links.all qbB&&p.tests.all fun t=>isKind t.kind
def asked (there right empty:Bool):Bool:=if there then right else empty
def qcq {α:Type}(qaj qao:List UInt8→Bool)(t:Tst α):Bool:=asked (qeh t.kind) (qaj t.name) t.name.isEmpty&&asked (qdv t.kind) (qao t.value) t.value.isEmpty&&(kNth t.kind||decide (t.a=0∧t.b=0))&&(qbb t.kind||decide (t.list.length=0))
def qc7 {α:Type}(qaj qao:List UInt8→Bool)(p:Pth α):Bool:=(p.steps.all fun s=>s.tag.isEmpty||qaj s.tag)&&p.tests.all (qcq qaj qao)
def qey {α:Type}(inB:Int→Int→Bool)(p:Pth α):Bool:=p.tests.all fun t=> !kNth t.kind||inB t.a t.b
abbrev D1:=Pth Unit
abbrev D2:=Pth D1
abbrev D3:=Pth D2
def fit3:List D3→Bool:=qbd (qbd (qbd fun _=>false))
end Pl
end Go.Proofs.YtephhllfodlfbaaGreatDoor
namespace Go.Proofs.YtephhllfodlfbaaGreatDoor
open Go.RowKit
abbrev MemL (α:Type):=World→Value→List α→Prop
structure IsL {α:Type}(A:MemL α):Prop where
 form:∀{w v l},A w v l→∃a c,v=.slice a l.length c∧l.length≤maxLen
 on:∀{w w' v l},A w v l→Below w.heap.size w w'→A w' v l
 nil:∀w,A w (.slice none 0 0) []
def qaF {α:Type}(A:MemL α)(w:World)(b o:Nat)(t:Pl.Tst α):Prop:=
 ∃v,w.cell? ⟨b,o,none⟩=some (.int .i64 t.kind)∧w.cell? ⟨b,o+1,none⟩=some (.string ⟨t.name.toArray⟩)∧w.cell? ⟨b,o+2,none⟩=some (.string ⟨t.value.toArray⟩)∧w.cell? ⟨b,o+3,none⟩=some (.int .i64 t.a)∧w.cell? ⟨b,o+4,none⟩=some (.int .i64 t.b)∧w.cell? ⟨b,o+5,none⟩=some v∧A w v t.list
def qa3 {α:Type}(A:MemL α)(w:World)(b o:Nat)(s:Pl.Stp α):Prop:=
 ∃v,w.cell? ⟨b,o,none⟩=some (.string ⟨s.tag.toArray⟩)∧w.cell? ⟨b,o+1,none⟩=some v∧qaf (qaF A) 6 w v s.tests
def qbe (w:World)(b o:Nat)(k:Int):Prop:=w.cell? ⟨b,o,none⟩=some (.int .i64 k)
def qct {α:Type}(A:MemL α)(w:World)(b o:Nat)(p:Pl.Pth α):Prop:=
 ∃v u,w.cell? ⟨b,o,none⟩=some v∧w.cell? ⟨b,o+1,none⟩=some u∧qaf (qa3 A) 2 w v p.steps∧qaf qbe 1 w u p.links
def qbp {α:Type}(A:MemL α):MemL (Pl.Pth α):=qaf (qct A) 2
def ZAt:MemL Unit:=fun _ v l=>∃a c,v=.slice a l.length c∧l.length≤c∧c≤maxLen
def TstV {α:Type}(A:MemL α)(w:World)(x:Value)(t:Pl.Tst α):Prop:=∃v,x=.agg #[.int .i64 t.kind,.string ⟨t.name.toArray⟩,.string ⟨t.value.toArray⟩,.int .i64 t.a,.int .i64 t.b,v]∧A w v t.list
def StpV {α:Type}(A:MemL α)(w:World)(x:Value)(s:Pl.Stp α):Prop:=∃v,x=.agg #[.string ⟨s.tag.toArray⟩,v]∧qaf (qaF A) 6 w v s.tests
def PthV {α:Type}(A:MemL α)(w:World)(x:Value)(p:Pl.Pth α):Prop:=∃v u,x=.agg #[v,u]∧qaf (qa3 A) 2 w v p.steps∧qaf qbe 1 w u p.links
theorem qaF.on {α:Type}{A:MemL α}(hA:IsL A){w w':World}{b o:Nat}{t:Pl.Tst α}(h:qaF A w b o t)(hb:Below w.heap.size w w'):qaF A w' b o t:=by
 obtain⟨v,h0,h1,h2,h3,h4,h5,h6⟩:=h;exact⟨v,qab hb h0,qab hb h1,qab hb h2,qab hb h3,qab hb h4,qab hb h5,hA.on h6 hb⟩
theorem qa3.on {α:Type}{A:MemL α}(hA:IsL A){w w':World}{b o:Nat}{s:Pl.Stp α}(h:qa3 A w b o s)(hb:Below w.heap.size w w'):qa3 A w' b o s:=by
 obtain⟨v,h0,h1,h2⟩:=h;exact⟨v,qab hb h0,qab hb h1,h2.map fun b o x hx=>hx.on hA hb⟩
theorem qct.on {α:Type}{A:MemL α}(hA:IsL A){w w':World}{b o:Nat}{p:Pl.Pth α}(h:qct A w b o p)(hb:Below w.heap.size w w'):qct A w' b o p:=by
 obtain⟨v,u,h0,h1,h2,h3⟩:=h;exact⟨v,u,qab hb h0,qab hb h1,h2.map fun b o x hx=>hx.on hA hb,h3.map fun b o x hx=>qab hb hx⟩
theorem qcP:IsL ZAt:=⟨fun ⟨a,c,e,h1,h2⟩=>⟨a,c,e,Nat.le_trans h1 h2⟩,fun h _=>h,fun _=>⟨none,0,rfl,by simp,by simp⟩⟩
theorem isL_up {α:Type}{A:MemL α}(hA:IsL A):IsL (qbp A) where
 form h:=by
  obtain⟨a,c,e,hf,_⟩:=h;exact⟨a,c,e,Nat.le_trans hf.1 hf.2⟩
 on h hb:=qaf.map h fun b o x hx=>qct.on hA hx hb
 nil w:=qaf.nil _ _ w
def OpenL {α:Type}(A:MemL α):Prop:=∀{H:Type} {enc:TypeId×Value→H} {W:World} {held:Bool} {fuel:Nat} {cs:List Value} {x:DataW H×List MemPlace},DataW.trod enc Tryz.prog W 0 (fun _=>true) held fuel 29 cs=some x→∃v l,cs=[v]∧A W v l
theorem cl9:Tryz.prog.cellsOf 9=1:=by kernel_rfl
theorem cl3:Tryz.prog.cellsOf 3=1:=by kernel_rfl
theorem cl22:Tryz.prog.cellsOf 29=1:=by kernel_rfl
theorem cl35:Tryz.prog.cellsOf 62=1:=by kernel_rfl
theorem cl36:Tryz.prog.cellsOf 40=1:=by kernel_rfl
theorem cl38:Tryz.prog.cellsOf 64=2:=by kernel_rfl
theorem cl54:Tryz.prog.cellsOf 65=1:=by kernel_rfl
theorem cl56:Tryz.prog.cellsOf 67=2:=by kernel_rfl
theorem cl59:Tryz.prog.cellsOf 69=2:=by kernel_rfl
theorem cl61:Tryz.prog.cellsOf 71=6:=by kernel_rfl
theorem list2 {α:Type}{l:List α}(h:l.length=2):∃a b,l=[a,b]:=by
 rcases l with _|⟨a,_|⟨b,_|⟨c,r⟩⟩⟩
 all_goals first|exact⟨_,_,rfl⟩|(simp at h;done)|(simp at h;omega)
theorem list5 {α:Type}{l:List α}(h:l.length=5):∃a b c d e,l=[a,b,c,d,e]:=by
 rcases l with _|⟨a,_|⟨b,_|⟨c,_|⟨d,_|⟨e,_|⟨f,r⟩⟩⟩⟩⟩⟩
 all_goals first|exact⟨_,_,_,_,_,rfl⟩|(simp at h;done)|(simp at h;omega)
theorem list6 {α:Type}{l:List α}(h:l.length=6):∃a b c d e f,l=[a,b,c,d,e,f]:=by
 rcases l with _|⟨a,_|⟨b,_|⟨c,_|⟨d,_|⟨e,_|⟨f,_|⟨g,r⟩⟩⟩⟩⟩⟩⟩
 all_goals first|exact⟨_,_,_,_,_,_,rfl⟩|(simp at h;done)|(simp at h;omega)
theorem z_open:OpenL ZAt:=by
 intro H enc W held fuel cs x h
 rcases DataW.trod_slice Tryz.underlying29 h with ⟨rfl,_⟩|⟨a,len,cap,_,_,n,_,rfl,_,_,hl,hm,_,_,_,_⟩
 ·exact⟨_,[],rfl,none,0,rfl,by simp,by simp⟩
 ·exact⟨_,List.replicate len (),rfl,some a,cap,by simp,by simp;omega,hm⟩
instance {α:Type}:Inhabited (Pl.Tst α):=⟨⟨0,[],[],0,0,[]⟩⟩
instance {α:Type}:Inhabited (Pl.Stp α):=⟨⟨[],[]⟩⟩
instance {α:Type}:Inhabited (Pl.Pth α):=⟨⟨[],[]⟩⟩
section
variable {H:Type} {enc:TypeId×Value→H} {W:World} {held:Bool} {fuel:Nat} {cs:List Value} {x:DataW H×List MemPlace}
theorem links_open (h:DataW.trod enc Tryz.prog W 0 (fun _=>true) held fuel 40 cs=some x):∃v l,cs=[v]∧qaf qbe 1 W v l:=by
 refine qfK Tryz.underlying40 cl3 (by decide) (fun n cs y b o _ _ hc hy=>?_) h;obtain⟨k,rfl,_,_⟩:=DataW.trod_int Tryz.underlying3 hy;exact⟨k,by simpa [qbe] using hc 0 (by omega)⟩
theorem tst_vals {α:Type}{A:MemL α}(hO:OpenL A)(h:DataW.trod enc Tryz.prog W 0 (fun _=>true) held fuel 71 cs=some x):∃(t:Pl.Tst α) (v:Value),cs=[.int .i64 t.kind,.string ⟨t.name.toArray⟩,.string ⟨t.value.toArray⟩,.int .i64 t.a,.int .i64 t.b,v]∧A W v t.list:=by
 obtain⟨xs,m,_,_,hl,hlen,hf⟩:=DataW.trod_struct Tryz.underlying71 h;rw[cl61]at hl;obtain⟨v0,v1,v2,v3,v4,v5,rfl⟩:=list6 hl;obtain⟨y0,y1,y2,y3,y4,rfl⟩:=list5 hlen;have f0:DataW.trod enc Tryz.prog W 0 (fun _=>true) held m 3 (([v0,v1,v2,v3,v4,v5].drop 0).take (Tryz.prog.cellsOf 3))=some y0:=hf 0 _ rfl;rw[cl3]at f0;replace f0:DataW.trod enc Tryz.prog W 0 (fun _=>true) held m 3 [v0]=some y0:=f0;have f1:DataW.trod enc Tryz.prog W 0 (fun _=>true) held m 9 (([v0,v1,v2,v3,v4,v5].drop 1).take (Tryz.prog.cellsOf 9))=some y1:=hf 1 _ rfl;rw[cl9]at f1;replace f1:DataW.trod enc Tryz.prog W 0 (fun _=>true) held m 9 [v1]=some y1:=f1;have f2:DataW.trod enc Tryz.prog W 0 (fun _=>true) held m 9 (([v0,v1,v2,v3,v4,v5].drop 2).take (Tryz.prog.cellsOf 9))=some y2:=hf 2 _ rfl;rw[cl9]at f2;replace f2:DataW.trod enc Tryz.prog W 0 (fun _=>true) held m 9 [v2]=some y2:=f2;have f3:DataW.trod enc Tryz.prog W 0 (fun _=>true) held m 69 (([v0,v1,v2,v3,v4,v5].drop 3).take (Tryz.prog.cellsOf 69))=some y3:=hf 3 _ rfl;rw[cl59]at f3;replace f3:DataW.trod enc Tryz.prog W 0 (fun _=>true) held m 69 [v3,v4]=some y3:=f3;have f4:DataW.trod enc Tryz.prog W 0 (fun _=>true) held m 29 (([v0,v1,v2,v3,v4,v5].drop 5).take (Tryz.prog.cellsOf 29))=some y4:=hf 4 _ rfl;rw[cl22]at f4;replace f4:DataW.trod enc Tryz.prog W 0 (fun _=>true) held m 29 [v5]=some y4:=f4;obtain⟨zs,m2,_,_,_,hlen2,hg⟩:=DataW.trod_struct Tryz.underlying69 f3;obtain⟨z0,z1,rfl⟩:=list2 hlen2;have g0:DataW.trod enc Tryz.prog W 0 (fun _=>true) held m2 3 (([v3,v4].drop 0).take (Tryz.prog.cellsOf 3))=some z0:=hg 0 _ rfl;rw[cl3]at g0;replace g0:DataW.trod enc Tryz.prog W 0 (fun _=>true) held m2 3 [v3]=some z0:=g0;have g1:DataW.trod enc Tryz.prog W 0 (fun _=>true) held m2 3 (([v3,v4].drop 1).take (Tryz.prog.cellsOf 3))=some z1:=hg 1 _ rfl;rw[cl3]at g1;replace g1:DataW.trod enc Tryz.prog W 0 (fun _=>true) held m2 3 [v4]=some z1:=g1;obtain⟨k,e0,_,_⟩:=DataW.trod_int Tryz.underlying3 f0;obtain⟨s1,e1,_,_⟩:=DataW.trod_string Tryz.underlying9 f1;obtain⟨s2,e2,_,_⟩:=DataW.trod_string Tryz.underlying9 f2;obtain⟨k3,e3,_,_⟩:=DataW.trod_int Tryz.underlying3 g0;obtain⟨k4,e4,_,_⟩:=DataW.trod_int Tryz.underlying3 g1;obtain⟨w5,l,e5,hl⟩:=hO f4;injection e0 with e0 _;injection e1 with e1 _;injection e2 with e2 _;injection e3 with e3 _;injection e4 with e4 _;injection e5 with e5 _;subst e0 e1 e2 e3 e4 e5;exact⟨⟨k,s1.data.toList,s2.data.toList,k3,k4,l⟩,v5,rfl,hl⟩
theorem tsts_open {α:Type}{A:MemL α}(hO:OpenL A)(h:DataW.trod enc Tryz.prog W 0 (fun _=>true) held fuel 65 cs=some x):∃v l,cs=[v]∧qaf (qaF A) 6 W v l:=by
 refine qfK Tryz.underlying65 cl61 (by decide) (fun n cs y b o _ _ hc hy=>?_) h;obtain⟨t,v,rfl,hl⟩:=tst_vals hO hy;exact⟨t,v,by simpa using hc 0 (by omega),by simpa using hc 1 (by omega),by simpa using hc 2 (by omega),by simpa using hc 3 (by omega),by simpa using hc 4 (by omega),by simpa using hc 5 (by omega),hl⟩
theorem stps_open {α:Type}{A:MemL α}(hO:OpenL A)(h:DataW.trod enc Tryz.prog W 0 (fun _=>true) held fuel 62 cs=some x):∃v l,cs=[v]∧qaf (qa3 A) 2 W v l:=by
 refine qfK Tryz.underlying62 cl56 (by decide) (fun n cs y b o _ _ hc hy=>?_) h;obtain⟨xs,m,_,_,hl,hlen,hf⟩:=DataW.trod_struct Tryz.underlying67 hy;rw[cl56]at hl;obtain⟨v0,v1,rfl⟩:=list2 hl;obtain⟨y0,y1,rfl⟩:=list2 hlen;have f0:DataW.trod enc Tryz.prog W 0 (fun _=>true) held m 9 (([v0,v1].drop 0).take (Tryz.prog.cellsOf 9))=some y0:=hf 0 _ rfl;rw[cl9]at f0;replace f0:DataW.trod enc Tryz.prog W 0 (fun _=>true) held m 9 [v0]=some y0:=f0;have f1:DataW.trod enc Tryz.prog W 0 (fun _=>true) held m 65 (([v0,v1].drop 1).take (Tryz.prog.cellsOf 65))=some y1:=hf 1 _ rfl;rw[cl54]at f1;replace f1:DataW.trod enc Tryz.prog W 0 (fun _=>true) held m 65 [v1]=some y1:=f1;obtain⟨s,e0,_,_⟩:=DataW.trod_string Tryz.underlying9 f0;obtain⟨u,l,e1,hr⟩:=tsts_open hO f1;injection e0 with e0 _;injection e1 with e1 _;subst e0 e1;exact⟨⟨s.data.toList,l⟩,v1,by simpa using hc 0 (by omega),by simpa using hc 1 (by omega),hr⟩
theorem pth_vals {α:Type}{A:MemL α}(hO:OpenL A)(h:DataW.trod enc Tryz.prog W 0 (fun _=>true) held fuel 64 cs=some x):∃(p:Pl.Pth α) (v u:Value),cs=[v,u]∧qaf (qa3 A) 2 W v p.steps∧qaf qbe 1 W u p.links:=by
 obtain⟨xs,m,_,_,hl,hlen,hf⟩:=DataW.trod_struct Tryz.underlying64 h;rw[cl38]at hl;obtain⟨v0,v1,rfl⟩:=list2 hl;obtain⟨y0,y1,rfl⟩:=list2 hlen;have f0:DataW.trod enc Tryz.prog W 0 (fun _=>true) held m 62 (([v0,v1].drop 0).take (Tryz.prog.cellsOf 62))=some y0:=hf 0 _ rfl;rw[cl35]at f0;replace f0:DataW.trod enc Tryz.prog W 0 (fun _=>true) held m 62 [v0]=some y0:=f0;have f1:DataW.trod enc Tryz.prog W 0 (fun _=>true) held m 40 (([v0,v1].drop 1).take (Tryz.prog.cellsOf 40))=some y1:=hf 1 _ rfl;rw[cl36]at f1;replace f1:DataW.trod enc Tryz.prog W 0 (fun _=>true) held m 40 [v1]=some y1:=f1;obtain⟨w0,ss,e0,hs⟩:=stps_open hO f0;obtain⟨w1,ks,e1,hk⟩:=links_open f1;injection e0 with e0 _;injection e1 with e1 _;subst e0 e1;exact⟨⟨ss,ks⟩,v0,v1,rfl,hs,hk⟩
end
theorem up_open {α:Type}{A:MemL α}(hO:OpenL A):OpenL (qbp A):=by
 intro H enc W held fuel cs x h;refine qfK Tryz.underlying29 cl38 (by decide) (fun n cs y b o _ _ hc hy=>?_) h;obtain⟨p,v,u,rfl,hs,hk⟩:=pth_vals hO hy;exact⟨p,v,u,by simpa using hc 0 (by omega),by simpa using hc 1 (by omega),hs,hk⟩
abbrev A1:MemL Pl.D1:=qbp ZAt
abbrev A2:MemL Pl.D2:=qbp A1
abbrev A3:MemL Pl.D3:=qbp A2
theorem qdA:IsL A1:=isL_up qcP
theorem qdJ:IsL A2:=isL_up qdA
theorem qcB:IsL A3:=isL_up qdJ
theorem open_3:OpenL A3:=up_open (up_open (up_open z_open))
end Go.Proofs.YtephhllfodlfbaaGreatDoor
