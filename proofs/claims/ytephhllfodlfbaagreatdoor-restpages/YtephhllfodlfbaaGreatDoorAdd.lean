/-
  A list of elements that a call builds: the row, and the lists of its elements beside it.
-/
import Derived.Test.YtephhllfodlfbaaGreatDoorFresh
set_option maxRecDepth 100000
set_option maxHeartbeats 16000000
namespace Go.Proofs.YtephhllfodlfbaaGreatDoor
open Go.RowKit
def qbT (g:Option Nat)(w:World)(v:Value)(ss:List (List UInt8)):Prop:=
 ∃a cap,v=.slice a ss.length cap∧(ss=[]∨∃b o,a=some ⟨b,o,none⟩∧some b≠g∧∀i (h:i<ss.length),w.cell? ⟨b,o+i,none⟩=some (.string ⟨ss[i].toArray⟩))
def qcY (g:Option Nat)(w:World)(v:Value)(ss:List (List UInt8×List UInt8)):Prop:=
 ∃a cap,v=.slice a ss.length cap∧(ss=[]∨∃b o,a=some ⟨b,o,none⟩∧some b≠g∧∀i (h:i<ss.length),w.cell? ⟨b,o+i*2,none⟩=some (.string ⟨ss[i].1.toArray⟩)∧w.cell? ⟨b,o+i*2+1,none⟩=some (.string ⟨ss[i].2.toArray⟩))
theorem qbT.at {g:Option Nat}{w:World}{v:Value}{ss:List (List UInt8)}(h:qbT g w v ss):qa1 w v ss:=by
 obtain⟨a,cap,rfl,h⟩:=h;refine⟨a,cap,rfl,?_⟩
 rcases h with h|⟨b,o,ha,_,hc⟩
 ·exact Or.inl h
 ·exact Or.inr ⟨b,o,ha,hc⟩
theorem qcY.at {g:Option Nat}{w:World}{v:Value}{ss:List (List UInt8×List UInt8)}(h:qcY g w v ss):qbY w v ss:=by
 obtain⟨a,cap,rfl,h⟩:=h;refine⟨a,cap,rfl,?_⟩
 rcases h with h|⟨b,o,ha,_,hc⟩
 ·exact Or.inl h
 ·exact Or.inr ⟨b,o,ha,hc⟩
theorem qbm {w w':World}{g:Option Nat}{b o:Nat}{v:Value}(hg:w.grownBy w' g)(hne:some b≠g)(h:w.cell? ⟨b,o,none⟩=some v):w'.cell? ⟨b,o,none⟩=some v:=by
 rw[World.cell?_of_block (w:=w) (hg.block b (qaV h) hne)];exact h
theorem qbT.grown {g g':Option Nat}{w w':World}{v:Value}{ss:List (List UInt8)}(h:qbT g w v ss)(hg:w.grownBy w' g)(hg':g'=g∨∃H,g'=some H∧w.heap.size≤H):qbT g' w' v ss:=by
 obtain⟨a,cap,rfl,h⟩:=h;refine⟨a,cap,rfl,?_⟩
 rcases h with h|⟨b,o,ha,hne,hc⟩
 ·exact Or.inl h
 ·by_cases hn:ss=[]
  ·exact Or.inl hn
  refine Or.inr ⟨b,o,ha,?_,fun i hi=>qbm hg hne (hc i hi)⟩
  rcases hg' with rfl|⟨H,rfl,hH⟩
  ·exact hne
  ·have hl:0<ss.length:=List.length_pos_iff.2 hn;have:b<w.heap.size:=qaV (hc 0 hl);intro e;simp at e;omega
theorem qcY.grown {g g':Option Nat}{w w':World}{v:Value}{ss:List (List UInt8×List UInt8)}(h:qcY g w v ss)(hg:w.grownBy w' g)(hg':g'=g∨∃H,g'=some H∧w.heap.size≤H):qcY g' w' v ss:=by
 obtain⟨a,cap,rfl,h⟩:=h;refine⟨a,cap,rfl,?_⟩
 rcases h with h|⟨b,o,ha,hne,hc⟩
 ·exact Or.inl h
 ·by_cases hn:ss=[]
  ·exact Or.inl hn
  refine Or.inr ⟨b,o,ha,?_,fun i hi=>⟨qbm hg hne (hc i hi).1,qbm hg hne (hc i hi).2⟩⟩
  rcases hg' with rfl|⟨H,rfl,hH⟩
  ·exact hne
  ·have hl:0<ss.length:=List.length_pos_iff.2 hn;have:b<w.heap.size:=qaV (hc 0 hl).1;intro e;simp at e;omega
theorem qbT.on {g:Option Nat}{w w':World}{v:Value}{ss:List (List UInt8)}(h:qbT g w v ss)(hb:Below w.heap.size w w'):qbT g w' v ss:=by
 obtain⟨a,cap,rfl,h⟩:=h;refine⟨a,cap,rfl,?_⟩
 rcases h with h|⟨b,o,ha,hB,hc⟩
 ·exact Or.inl h
 ·exact Or.inr ⟨b,o,ha,hB,fun i hi=>qab hb (hc i hi)⟩
theorem qcY.on {g:Option Nat}{w w':World}{v:Value}{ss:List (List UInt8×List UInt8)}(h:qcY g w v ss)(hb:Below w.heap.size w w'):qcY g w' v ss:=by
 obtain⟨a,cap,rfl,h⟩:=h;refine⟨a,cap,rfl,?_⟩
 rcases h with h|⟨b,o,ha,hB,hc⟩
 ·exact Or.inl h
 ·exact Or.inr ⟨b,o,ha,hB,fun i hi=>⟨qab hb (hc i hi).1,qab hb (hc i hi).2⟩⟩
theorem qaB.ne {B:Nat}{w:World}{v:Value}{ss:List (List UInt8)}(h:qaB B w v ss){g:Option Nat}(hg:∀k,g=some k→k<B):qbT g w v ss:=by
 obtain⟨a,cap,rfl,h⟩:=h;refine⟨a,cap,rfl,?_⟩
 rcases h with h|⟨b,o,ha,hB,_,hc⟩
 ·exact Or.inl h
 ·exact Or.inr ⟨b,o,ha,fun e=>by have:=hg b e.symm;omega,hc⟩
theorem qaM.ne {B:Nat}{w:World}{v:Value}{ss:List (List UInt8×List UInt8)}(h:qaM B w v ss){g:Option Nat}(hg:∀k,g=some k→k<B):qcY g w v ss:=by
 obtain⟨a,cap,rfl,h⟩:=h;refine⟨a,cap,rfl,?_⟩
 rcases h with h|⟨b,o,ha,hB,_,hc⟩
 ·exact Or.inl h
 ·exact Or.inr ⟨b,o,ha,fun e=>by have:=hg b e.symm;omega,hc⟩
def qaz (g:Option Nat)(w:World):List Value→List Pl.Nd→Prop
 | [],[]=>True
 | c0::c1::c2::c3::c4::r,x::t=>(c0=.int .i64 x.up∧c1=.string ⟨x.tag.toArray⟩∧c2=.string ⟨x.id.toArray⟩∧qbT g w c3 x.cls∧qcY g w c4 x.ats)∧qaz g w r t
 | _,_=>False
theorem qaz.append {g:Option Nat}{w:World}:∀(xs:List Value) (ns:List Pl.Nd) (ys:List Value) (ms:List Pl.Nd),qaz g w xs ns→qaz g w ys ms→qaz g w (xs++ys) (ns++ms)
 | [],[],_,_,_,h=>h
 | c0::c1::c2::c3::c4::r,x::t,ys,ms,h,h2=>⟨h.1,qaz.append r t ys ms h.2 h2⟩
 | [],_::_,_,_,h,_=>h.elim
 | _::_,[],_,_,h,_=>by simp[qaz]at h
 | [_],_::_,_,_,h,_=>by cases h
 | [_,_],_::_,_,_,h,_=>by cases h
 | [_,_,_],_::_,_,_,h,_=>by cases h
 | [_,_,_,_],_::_,_,_,h,_=>by cases h
theorem qaz.grown {g g':Option Nat}{w w':World}(hg:w.grownBy w' g)(hg':g'=g∨∃H,g'=some H∧w.heap.size≤H):∀(xs:List Value) (ns:List Pl.Nd),qaz g w xs ns→qaz g' w' xs ns
 | [],[],_=>trivial
 | c0::c1::c2::c3::c4::r,x::t,h=>⟨⟨h.1.1,h.1.2.1,h.1.2.2.1,h.1.2.2.2.1.grown hg hg',h.1.2.2.2.2.grown hg hg'⟩,qaz.grown hg hg' r t h.2⟩
 | [],_::_,h=>h.elim
 | _::_,[],h=>by simp[qaz]at h
 | [_],_::_,h=>by cases h
 | [_,_],_::_,h=>by cases h
 | [_,_,_],_::_,h=>by cases h
 | [_,_,_,_],_::_,h=>by cases h
theorem qaz.on {g:Option Nat}{w w':World}(hb:Below w.heap.size w w'):∀(xs:List Value) (ns:List Pl.Nd),qaz g w xs ns→qaz g w' xs ns
 | [],[],_=>trivial
 | c0::c1::c2::c3::c4::r,x::t,h=>⟨⟨h.1.1,h.1.2.1,h.1.2.2.1,h.1.2.2.2.1.on hb,h.1.2.2.2.2.on hb⟩,qaz.on hb r t h.2⟩
 | [],_::_,h=>h.elim
 | _::_,[],h=>by simp[qaz]at h
 | [_],_::_,h=>by cases h
 | [_,_],_::_,h=>by cases h
 | [_,_,_],_::_,h=>by cases h
 | [_,_,_,_],_::_,h=>by cases h
theorem qaz.get {g:Option Nat}{w:World}:∀(xs:List Value) (ns:List Pl.Nd),qaz g w xs ns→∀i (h:i<ns.length),∃vc va,xs[i*5]? =some (.int .i64 ns[i].up)∧xs[i*5+1]? =some (.string ⟨ns[i].tag.toArray⟩)∧xs[i*5+2]? =some (.string ⟨ns[i].id.toArray⟩)∧xs[i*5+3]? =some vc∧xs[i*5+4]? =some va∧qbT g w vc ns[i].cls∧qcY g w va ns[i].ats
 | [],[],_,i,h=>by simp at h
 | c0::c1::c2::c3::c4::r,x::t,h,0,_=>by
  obtain⟨⟨rfl,rfl,rfl,hc,ha⟩,_⟩:=h;exact⟨c3,c4,rfl,rfl,rfl,rfl,rfl,hc,ha⟩
 | c0::c1::c2::c3::c4::r,x::t,h,i+1,hi=>by
  obtain⟨vc,va,h0,h1,h2,h3,h4,hc,ha⟩:=qaz.get r t h.2 i (by simpa using hi);refine⟨vc,va,?_,?_,?_,?_,?_,hc,ha⟩
  all_goals simp only[show (i+1)*5=i*5+1+1+1+1+1 by omega,Nat.add_assoc]
  ·simpa [Nat.add_assoc] using h0
  ·simpa [Nat.add_assoc] using h1
  ·simpa [Nat.add_assoc] using h2
  ·simpa [Nat.add_assoc] using h3
  ·simpa [Nat.add_assoc] using h4
 | [],_::_,h,_,_=>h.elim
 | _::_,[],h,_,_=>by simp[qaz]at h
 | [_],_::_,h,_,_=>by cases h
 | [_,_],_::_,h,_,_=>by cases h
 | [_,_,_],_::_,h,_,_=>by cases h
 | [_,_,_,_],_::_,h,_,_=>by cases h
def Row (B:Nat)(w:World)(v:Value)(ns:List Pl.Nd):Prop:=∃xs,w.ownsRow B 28 5 v ns.length xs∧qaz v.ownBlock w xs ns
theorem Row.nil (B:Nat)(w:World):Row B w (.slice none 0 0) []:=⟨[],World.ownsRow_nil _ _ _ _,trivial⟩
theorem qbt {w w':World}{B:Nat}{e:TypeId}{size:Nat}{v:Value}{n:Nat}{xs:List Value}(h:w.ownsRow B e size v n xs)(hb:Below w.heap.size w w'):w'.ownsRow B e size v n xs:=
 h.kept (row:=none) ⟨hb.os,hb.tape,hb.output,hb.size,fun k hk _=>hb.block k hk⟩ (by cases v.ownBlock<;>simp)
theorem Row.on {B:Nat}{w w':World}{v:Value}{ns:List Pl.Nd}(h:Row B w v ns)(hb:Below w.heap.size w w'):Row B w' v ns:=by
 obtain⟨xs,ho,hc⟩:=h;exact⟨xs,qbt ho hb,qaz.on hb xs ns hc⟩
theorem Row.nds {B:Nat}{w:World}{v:Value}{ns:List Pl.Nd}(h:Row B w v ns):qa8 w v ns:=by
 obtain⟨xs,ho,hc⟩:=h;have hh:=ho;obtain⟨_,h0|⟨g,cap,cur,rfl,_⟩⟩:=ho
 ·obtain⟨rfl,hl⟩:=h0;have:ns=[]:=by simpa using hl
  subst this;exact⟨none,0,rfl,Or.inl rfl⟩
 ·refine⟨_,cap,rfl,Or.inr ⟨g,0,rfl,fun i hi=>?_⟩⟩;obtain⟨vc,va,h0,h1,h2,h3,h4,hcc,haa⟩:=qaz.get xs ns hc i hi;have k0:=World.ownsRow.cells hh rfl _ _ h0;have k1:=World.ownsRow.cells hh rfl _ _ h1;have k2:=World.ownsRow.cells hh rfl _ _ h2;have k3:=World.ownsRow.cells hh rfl _ _ h3;have k4:=World.ownsRow.cells hh rfl _ _ h4;simp only[Addr.add_lit]at k0 k1 k2 k3 k4;exact⟨vc,va,k0,by simpa [Nat.add_assoc] using k1,by simpa [Nat.add_assoc] using k2,by simpa [Nat.add_assoc] using k3,by simpa [Nat.add_assoc] using k4,hcc.at,haa.at⟩
def Pl.mvd (mv:Int→Int)(x:Pl.Nd):Pl.Nd:={ x with up:=mv x.up }
theorem Tryz.info28:(Tryz.prog.info? 28).map (fun i=>(i.zero,i.size,i.bytes))=some (some (.agg #[.int .i64 0,.string ⟨#[]⟩,.string ⟨#[]⟩,.slice none 0 0,.slice none 0 0]),5,88):=by kernel_rfl
abbrev FiveAt (w':World)(N:Nat)(c0 c1 c2 c3 c4:Value):Prop:=
 w'.cell? ⟨N,0,none⟩=some c0∧w'.cell? ⟨N,1,none⟩=some c1∧w'.cell? ⟨N,2,none⟩=some c2∧w'.cell? ⟨N,3,none⟩=some c3∧w'.cell? ⟨N,4,none⟩=some c4
theorem row_step {B:Nat}{wr W w':World}{v:Value}{ns:List Pl.Nd}{xs:List Value}{x:Pl.Nd}{vc va:Value}{g cap:Nat}(hown:wr.ownsRow B 28 5 v ns.length xs)(hc:qaz v.ownBlock wr xs ns)
 (hW:Below wr.heap.size wr W) (hvc:qaB wr.heap.size W vc x.cls) (hva:qaM wr.heap.size W va x.ats)
 (h1:w'.ownsRow B 28 5 (.slice (some ⟨g,0,none⟩) (ns.length+1) cap) (ns.length+1) (xs++[.int .i64 x.up,.string ⟨x.tag.toArray⟩,.string ⟨x.id.toArray⟩,vc,va])) (hg:W.grownBy w' v.ownBlock) (hat:v.ownBlock=some g∨g=W.heap.size):
 Row B w' (.slice (some ⟨g,0,none⟩) (ns.length+1) cap) (ns++[x]):=by
 refine⟨_,by simpa using h1,?_⟩
 have hg':(Value.slice (some ⟨g,0,none⟩) (ns.length+1) cap).ownBlock=v.ownBlock∨∃H,(Value.slice (some ⟨g,0,none⟩) (ns.length+1) cap).ownBlock=some H∧W.heap.size≤H:=by
  rcases hat with h|h
  ·exact Or.inl (by rw[h];rfl)
  ·exact Or.inr ⟨g,rfl,by omega⟩
 refine qaz.append _ _ _ _ (qaz.grown hg hg' _ _ (qaz.on hW _ _ hc)) ⟨⟨rfl,rfl,rfl,?_,?_⟩,trivial⟩
 ·exact(hvc.ne (fun k hk=>(World.ownsRow.lt hown k hk).2)).grown hg hg'
 ·exact(hva.ne (fun k hk=>(World.ownsRow.lt hown k hk).2)).grown hg hg'
theorem qiA {B N:Nat}{w w':World}{c0 c1 c2 c3 c4:Value}(h:w'.cell? ⟨N,0,none⟩=some c0∧w'.cell? ⟨N,1,none⟩=some c1∧w'.cell? ⟨N,2,none⟩=some c2∧w'.cell? ⟨N,3,none⟩=some c3∧w'.cell? ⟨N,4,none⟩=some c4∧Below B w w'):Below B w w':=h.2.2.2.2.2
theorem six_on {B N:Nat}{w W w':World}{c0 c1 c2 c3 c4:Value}(hB:B≤w.heap.size)(h:W.cell? ⟨N,0,none⟩=some c0∧W.cell? ⟨N,1,none⟩=some c1∧W.cell? ⟨N,2,none⟩=some c2∧W.cell? ⟨N,3,none⟩=some c3∧W.cell? ⟨N,4,none⟩=some c4∧Below B w W)
 (hb:Below W.heap.size W w'):w'.cell? ⟨N,0,none⟩=some c0∧w'.cell? ⟨N,1,none⟩=some c1∧w'.cell? ⟨N,2,none⟩=some c2∧w'.cell? ⟨N,3,none⟩=some c3∧w'.cell? ⟨N,4,none⟩=some c4∧Below B w w':=
 ⟨qab hb h.1,qab hb h.2.1,qab hb h.2.2.1,qab hb h.2.2.2.1,qab hb h.2.2.2.2.1,h.2.2.2.2.2.trans (hb.mono (Nat.le_trans hB h.2.2.2.2.2.size))⟩
theorem qiu {B N:Nat}{w W:World}{c0 c1 c2 c3 c4:Value}(hB:B≤w.heap.size)(h:W.cell? ⟨N,0,none⟩=some c0∧W.cell? ⟨N,1,none⟩=some c1∧W.cell? ⟨N,2,none⟩=some c2∧W.cell? ⟨N,3,none⟩=some c3∧W.cell? ⟨N,4,none⟩=some c4∧Below B w W)
 (o:Obj):(W.alloc o).cell? ⟨N,0,none⟩=some c0∧(W.alloc o).cell? ⟨N,1,none⟩=some c1∧(W.alloc o).cell? ⟨N,2,none⟩=some c2∧(W.alloc o).cell? ⟨N,3,none⟩=some c3∧(W.alloc o).cell? ⟨N,4,none⟩=some c4∧Below B w (W.alloc o):=six_on hB h (qac _ _)
theorem qhU {B N:Nat}{w W w':World}{g:Option Nat}{c0 c1 c2 c3 c4:Value}(hB:B≤w.heap.size)(hne:some N≠g)(hg:∀k,g=some k→B≤k)(h:W.cell? ⟨N,0,none⟩=some c0∧W.cell? ⟨N,1,none⟩=some c1∧W.cell? ⟨N,2,none⟩=some c2∧W.cell? ⟨N,3,none⟩=some c3∧W.cell? ⟨N,4,none⟩=some c4∧Below B w W)
 (hb:W.grownBy w' g):w'.cell? ⟨N,0,none⟩=some c0∧w'.cell? ⟨N,1,none⟩=some c1∧w'.cell? ⟨N,2,none⟩=some c2∧w'.cell? ⟨N,3,none⟩=some c3∧w'.cell? ⟨N,4,none⟩=some c4∧Below B w w':=
 ⟨qbm hb hne h.1,qbm hb hne h.2.1,qbm hb hne h.2.2.1,qbm hb hne h.2.2.2.1,qbm hb hne h.2.2.2.2.1,h.2.2.2.2.2.grown hb (Nat.le_trans hB h.2.2.2.2.2.size) hg⟩
theorem step_add {ops:Array Oper}{o:Oper}{a:Act}{K:Act→World→Prop}{Q:Exit→Act→World→Prop}{E:Prop}{B:Nat}{wr w2:World}{v:Value}{ns:List Pl.Nd}{xs:List Value}{x:Pl.Nd}{a1 a2:Option Addr}{l1 c1 l2 c2:Nat}(hgd:o.guard=none)(s t:Operand)
 (ho:o.op=.call { callee:=.builtin .append,args:= #[s,t],argTypes:= #[22,22] }) (hs:a.eval s=v) (hx:a.eval t=.slice (some ⟨w2.heap.size,0,none⟩) 1 1)
 (hown:wr.ownsRow B 28 5 v ns.length xs) (hcs:qaz v.ownBlock wr xs ns) (hlen:ns.length+1≤64) (hB:B≤wr.heap.size) (hW:Below wr.heap.size wr w2) (hvc:qaB wr.heap.size w2 (.slice a1 l1 c1) x.cls) (hva:qaM wr.heap.size w2 (.slice a2 l2 c2) x.ats)
 (h:∀g cap w',Row B w' (.slice (some ⟨g,0,none⟩) (ns.length+1) cap) (ns++[x])→(w2.alloc (.cells #[.int .i64 x.up,.string ⟨x.tag.toArray⟩,.string ⟨x.id.toArray⟩,.slice a1 l1 c1,.slice a2 l2 c2] 28)).grownBy w' v.ownBlock→K (a.put o.dst (.slice (some ⟨g,0,none⟩) (ns.length+1) cap)) w'):
 if Region.wanted o (yielded ops a.tmps)=true then Oper.wp Tryz.prog o a (w2.alloc (.cells #[.int .i64 x.up,.string ⟨x.tag.toArray⟩,.string ⟨x.id.toArray⟩,.slice a1 l1 c1,.slice a2 l2 c2] 28)) K Q else E:=by
 obtain⟨i0,hi,hz0,hz1,hz2⟩:=info_parts Tryz.info28;have hW2:Below wr.heap.size wr (w2.alloc (.cells #[.int .i64 x.up,.string ⟨x.tag.toArray⟩,.string ⟨x.id.toArray⟩,.slice a1 l1 c1,.slice a2 l2 c2] 28)):=hW.alloc hW.size _;refine step_append_lies _ hgd s t 22 ho B 28 i0 _ 5 88 Tryz.underlying22 hi hz0 hz1 hz2 rfl (by decide) v ns.length xs hs (qbt hown hW2) ⟨w2.heap.size,0,none⟩ 1 1 [.int .i64 x.up,.string ⟨x.tag.toArray⟩,.string ⟨x.id.toArray⟩,.slice a1 l1 c1,.slice a2 l2 c2] hx rfl ?_ ?_ (by decide) (by unfold maxLen;omega) (by omega) (Nat.le_trans hB hW2.size) _ rfl ?_
 ·exact World.news_of_block (heap_alloc_new w2 _)
 ·intro u hu;simp only[List.mem_cons,List.not_mem_nil,or_false]at hu
  rcases hu with rfl|rfl|rfl|rfl|rfl<;>rfl
 ·intro g cap w' h1 h2 h3 _;exact h g cap w' (row_step hown hcs hW2 (hvc.on (qac _ _)) (hva.on (qac _ _)) h1 h2 h3) h2
theorem add_some (F:Nat)(caps:Array Value)(mv:Int→Int)(B b o cap:Nat)(v0:Value)(ns ms:List Pl.Nd)(w:World)(hB:B≤w.heap.size)(hr:Row B w v0 ns)(h64:ns.length+ms.length≤64)
 (hen:∀args W,(callFunc F args).run Tryz.prog W=.ok (.enter F args) W) (hl:∀x∈ms,x.cls.length≤6∧x.ats.length≤4) (hm:∀W,Below B w W→∀i (h:i<ms.length),NdAt W b (o+i*5) ms[i])
 (hf:∀W (u:Int),Below B w W→Calls Tryz.prog F (#[.int .i64 u]++caps) W fun e w'=>e=.returned (.int .i64 (mv u))∧w'=W):
 Calls Tryz.prog 75 #[v0,.slice (some ⟨b,o,none⟩) ms.length cap,.func (.func F) #[] caps] w fun e w'=>∃v',e=.returned v'∧Row B w' v' (ns++ms.map (Pl.mvd mv))∧Below B w w':=by
 obtain⟨i0,hi,hz0,hz1,hz2⟩:=info_parts Tryz.info28;have HM:Hid _:=hm;have HF:Hid _:=hf;have HL:Hid _:=hl;clear hm hf hl;go_enter Tryz.func75,Tryz.ntmps75;go_wp2
 go_loopw [0,11] (fun v i wr=>∃k:Nat,k≤ms.length∧i=.int .i64 k∧Hid (Row B wr v (ns++(ms.take k).map (Pl.mvd mv)))∧Below B w wr) (fun _ i _=>ms.length-(intOf i).toNat)
 case atStart=>exact⟨0,Nat.zero_le _,rfl,by simpa [Hid] using hr,Below.refl _ _⟩
 case round=>
  obtain⟨k,hk,rfl,hrow,hBw⟩:=hrel
  by_cases hlt:k<ms.length
  ·obtain⟨vc,va,n0,n1,n2,n3,n4,nc,na⟩:=HM.out _ hBw k hlt;obtain⟨ac,cc,rfl,_⟩:=id nc;obtain⟨aa,ca,rfl,_⟩:=id na;have NC:Hid _:=nc;have NA:Hid _:=na;clear nc na;obtain⟨xs,hown,hcs⟩:=hrow.out;obtain⟨L1,L2⟩:=HL.out ms[k] (List.getElem_mem hlt)
   have HN:Hid (ns++(ms.take (k+1)).map (Pl.mvd mv)=(ns++(ms.take k).map (Pl.mvd mv))++[Pl.mvd mv ms[k]]):=by
    unfold Hid;rw[List.take_add_one,List.getElem?_eq_getElem hlt];simp only[Option.toList_some,List.map_append,List.map_cons,List.map_nil,List.append_assoc]
   have hlen:(ns++(ms.take k).map (Pl.mvd mv)).length+1≤64:=by simp;omega
   generalize hNs:ns++(ms.take k).map (Pl.mvd mv)=Ns at *;have HNs:Hid _:=hNs;clear hNs;generalize hX:ms[k]=X at *;have HX:Hid _:=hX;clear hX;have hBr:B≤wr.heap.size:=Nat.le_trans hB hBw.size;have hne:some wr.heap.size≠u0.ownBlock:=fun e=>by have:=(World.ownsRow.lt hown _ e.symm).2;omega
   have hge:∀k,u0.ownBlock=some k→B≤k:=fun k hk=>(World.ownsRow.lt hown k hk).1
   obtain⟨up,tag,idn,cls,ats⟩:=X;dsimp only at n0 n1 n2 n3 n4 NC NA L1 L2 HN;go_wp2;clear n0 n1 n2 n3 n4;have hW1:Below wr.heap.size wr (wr.alloc (.cells #[.int .i64 up,.string ⟨tag.toArray⟩,.string ⟨idn.toArray⟩,.slice ac cls.length cc,.slice aa ats.length ca] 28)).drew:=(qac wr _).drew
   have S0:FiveAt (wr.alloc (.cells #[.int .i64 up,.string ⟨tag.toArray⟩,.string ⟨idn.toArray⟩,.slice ac cls.length cc,.slice aa ats.length ca] 28)).drew wr.heap.size (.int .i64 up) (.string ⟨tag.toArray⟩) (.string ⟨idn.toArray⟩) (.slice ac cls.length cc) (.slice aa ats.length ca):=
    (Blk.facts (w:=wr.alloc (.cells #[.int .i64 up,.string ⟨tag.toArray⟩,.string ⟨idn.toArray⟩,.slice ac cls.length cc,.slice aa ats.length ca] 28)) (heap_alloc_new wr _)).1
   have hB1:Below B w (wr.alloc (.cells #[.int .i64 up,.string ⟨tag.toArray⟩,.string ⟨idn.toArray⟩,.slice ac cls.length cc,.slice aa ats.length ca] 28)).drew:=hBw.trans (hW1.mono hBr);have S1:=And.intro S0.1 (And.intro S0.2.1 (And.intro S0.2.2.1 (And.intro S0.2.2.2.1 (And.intro S0.2.2.2.2 hB1))));have NV:Hid (NdV (wr.alloc (.cells #[.int .i64 up,.string ⟨tag.toArray⟩,.string ⟨idn.toArray⟩,.slice ac cls.length cc,.slice aa ats.length ca] 28)).drew (.agg #[.int .i64 up,.string ⟨tag.toArray⟩,.string ⟨idn.toArray⟩,.slice ac cls.length cc,.slice aa ats.length ca]) ⟨up,tag,idn,cls,ats⟩):=⟨_,_,rfl,qa1.on NC.out hW1,qbY.on NA.out hW1⟩
   clear S0
   go_region_held3 (fun w'=>w'.cell? ⟨wr.heap.size,0,none⟩=some (.int .i64 up)∧w'.cell? ⟨wr.heap.size,1,none⟩=some (.string ⟨tag.toArray⟩)∧w'.cell? ⟨wr.heap.size,2,none⟩=some (.string ⟨idn.toArray⟩)∧w'.cell? ⟨wr.heap.size,3,none⟩=some (.slice ac cls.length cc)∧w'.cell? ⟨wr.heap.size,4,none⟩=some (.slice aa ats.length ca)∧Below B w w')
    (first|assumption|exact six_on hB (by assumption) (by assumption)|exact qiu hB (by assumption) _|exact qhU hB hne hge (by assumption) (by assumption))
    (first|(go_at_call 85;refine(qf6 _ ⟨up,tag,idn,cls,ats⟩ _ _ L1 L2 NV.out).mono ?_;rintro e w2 ⟨nv,rfl,⟨vc,va,rfl,hs,ha⟩,hb⟩;obtain⟨a1,c1,rfl,_⟩:=id hs;obtain⟨a2,c2,rfl,_⟩:=id ha)|(refine(HF.out _ _ hB1).mono ?_;rintro e w' ⟨rfl,rfl⟩)|(refine step_add rfl (.tmp 15) (.tmp 22) rfl rfl rfl hown hcs hlen hBr (qaa hW1 hb) (x:=⟨mv up,tag,idn,cls,ats⟩) (qaB.mono hs hW1.size) (qaM.mono ha hW1.size) ?_;intro g cap' w3 hrow' hgr))
   clear S1 NV hs ha hb hgr;go_wp2;exact⟨⟨k+1,hlt,by go_num,by unfold Hid;rw[HN.out];exact hrow',qiA (by assumption)⟩,by simp[intOf];omega⟩
  ·have hkl:k=ms.length:=by omega
   subst hkl;go_wp2;go_ret;have:=hrow.out;rw[List.take_length]at this;exact⟨_,rfl,this,hBw⟩
end Go.Proofs.YtephhllfodlfbaaGreatDoor
