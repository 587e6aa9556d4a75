/-
  What is answered of a page may be stored over: its index; a document of whatever kind.
-/
import Derived.Test.YtephhllfodlfbaaGreatDoorRpA
set_option maxRecDepth 100000
set_option maxHeartbeats 16000000
namespace Go.Proofs.YtephhllfodlfbaaGreatDoor
open Go.RowKit
theorem nats_k {B n:Nat}{w:World}{v:Value}{l:List Nat}(h:w.ownsRow B 3 1 v n (qaE l))(hl:l.length=n):kArr B 1 (fun _=>kInt) w v:=by
 rcases id h.2 with ⟨rfl,h0⟩|⟨g,cap,cur,rfl,hB,hg,hc1,hc2,_⟩
 ·exact kArr.nil _ _ _ _
 ·refine⟨_,_,cap,rfl,Nat.le_trans hc1 hc2,Or.inr ⟨g,0,rfl,hB,⟨cur,3,hg⟩,fun i hi j hj=>?_⟩⟩;have hcell:=World.ownsRow.cellAt h (i*1+j) (by omega);rw[Nat.zero_add];have e:i*1+j=i:=by omega
  have hi2:i<l.length:=by omega
  rw[e]at hcell ⊢;exact⟨_,hcell.trans (by simp[qaE,List.getElem?_eq_getElem hi2];rfl),⟨_,rfl⟩⟩
theorem ERow.k {B:Nat}{w:World}{v:Value}{ps:List EP}(h:ERow B w v ps):idxK B w v:=by
 have ho:=h.own
 rcases id ho.2 with ⟨rfl,h0⟩|⟨g,cap,cur,rfl,hB,hg,hc1,hc2,_⟩
 ·exact kArr.nil _ _ _ _
 ·refine⟨_,_,cap,rfl,Nat.le_trans hc1 hc2,Or.inr ⟨g,0,rfl,hB,⟨cur,61,hg⟩,fun i hi j hj=>?_⟩⟩;obtain⟨x0,x1,x2⟩:=qb6 ps i hi;have hcell:=World.ownsRow.cellAt ho (i*3+j) (by omega);rw[Nat.zero_add];have e:j=0∨j=1∨j=2:=by omega
  rcases e with rfl|rfl|rfl
  ·exact⟨_,hcell.trans x0,⟨_,rfl⟩⟩
  ·exact⟨_,hcell.trans x1,⟨_,rfl⟩⟩
  ·exact⟨_,hcell.trans x2,nats_k (h.ints ps[i] (List.getElem_mem hi)) rfl⟩
theorem kArr.sm {W:World}{N j0:Nat}{u:Value}(hS:Sm W N){n k:Nat}{F:Nat→Kd}(hk:0<k)(h0:∀w v,F 0 w v→∀a l c,v≠ .slice a l c)(hF:∀j v,F j W v→F j (W.setCell ⟨N,j0,none⟩ u) v){v:Value}(h:kArr n k F W v):kArr n k F (W.setCell ⟨N,j0,none⟩ u) v:=by
 obtain⟨a,l,c,rfl,hmx,h⟩:=h;refine⟨a,l,c,rfl,hmx,?_⟩
 by_cases hl:l=0
 ·exact Or.inl hl
 rcases h with h|⟨b,o,ha,hn,hsf,hc⟩
 ·exact Or.inl h
 ·have hb:N≠b:=by
   intro e;subst e;obtain⟨q,hq,hf⟩:=hc 0 (by omega) 0 hk;obtain⟨_,a',l',c',e'⟩:=hS.cell hq;exact h0 _ _ hf _ _ _ e'
  refine Or.inr ⟨b,o,ha,hn,hsf.set,fun i hi j hj=>?_⟩;obtain⟨q,hq,hf⟩:=hc i hi j hj;exact⟨q,qbj hq hb,hF j q hf⟩
theorem kStr.no (w:World)(v:Value)(h:kStr w v)(a:Option Addr)(l c:Nat):v≠ .slice a l c:=by
 obtain⟨s,rfl⟩:=h;intro e
 cases e
theorem kInt.no (w:World)(v:Value)(h:kInt w v)(a:Option Addr)(l c:Nat):v≠ .slice a l c:=by
 obtain⟨s,rfl⟩:=h;intro e
 cases e
theorem docK.sm {W:World}{N j0 n:Nat}{u v:Value}(hS:Sm W N)(h:docK n W v):docK n (W.setCell ⟨N,j0,none⟩ u) v:=
 kArr.sm hS (by omega) kInt.no (fun j v hv=>by
  match j,hv with
  | 0,hv=>exact hv
  | 1,hv=>exact hv
  | 2,hv=>exact hv
  | 3,hv=>exact kArr.sm hS (by omega) kStr.no (fun _ _ h=>h) hv
  | 4,hv=>exact kArr.sm hS (by omega) kStr.no (fun _ _ h=>h) hv
  | _+5,hv=>exact hv) h
theorem idxK.sm {W:World}{N j0 n:Nat}{u v:Value}(hS:Sm W N)(h:idxK n W v):idxK n (W.setCell ⟨N,j0,none⟩ u) v:=
 kArr.sm hS (by omega) kInt.no (fun j v hv=>by
  match j,hv with
  | 0,hv=>exact hv
  | 1,hv=>exact hv
  | 2,hv=>exact kArr.sm hS (by omega) kInt.no (fun _ _ h=>h) hv
  | _+3,hv=>exact hv) h
structure KK (K:Kd):Prop where
 goes:KGoes K
 sm:∀{W:World} {N j0:Nat} {u v:Value},Sm W N→K W v→K (W.setCell ⟨N,j0,none⟩ u) v
 nil:∀w,K w (.slice none 0 0)
theorem kk_all:KK fun _ _=>True:=⟨fun _ _ _ _ h=>h,fun _ h=>h,fun _=>trivial⟩
theorem kk_doc (n:Nat):KK (docK n):=⟨docK.goes n,docK.sm,fun _=>kArr.nil _ _ _ _⟩
def PgK (K:Kd)(n:Nat)(w:World)(v:Value):Prop:=∃dv iv,v=.agg #[dv,iv]∧K w dv∧idxK n w iv
theorem PgK.nil {K:Kd}(hK:KK K)(n:Nat)(w:World):PgK K n w (.agg #[.slice none 0 0,.slice none 0 0]):=⟨_,_,rfl,hK.nil _,kArr.nil _ _ _ _⟩
theorem PgK.box {K:Kd}(hK:KK K){n:Nat}{w:World}{N:Nat}{dv iv:Value}{a3 a4:Option Addr}{l3 c3 l4 c4:Nat}{a a2:Option Addr}{l c l2 c2:Nat}(h1:K w dv)(h2:idxK n w iv)(hb:Blk2 w N (.slice a3 l3 c3) (.slice a4 l4 c4))(e1:dv=.slice a l c)(e2:iv=.slice a2 l2 c2):
 PgK K n ((w.setCell ⟨N,0,none⟩ (.slice a l c)).setCell ⟨N,1,none⟩ (.slice a2 l2 c2)) (.agg #[.slice a l c,.slice a2 l2 c2]):=by
 subst e1 e2;have hb1:=hb.set0 (.slice a l c);exact⟨_,_,rfl,hK.sm hb1.sm (hK.sm hb.sm h1),idxK.sm hb1.sm (idxK.sm hb.sm h2)⟩
theorem build_k (v:Value)(ns:List Pl.Nd)(w:World)(hd:qar w v ns):
 Calls Tryz.prog 73 #[.agg #[v]] w fun e w'=>∃u,e=.returned (.tuple #[u,.int .i64 (Pl.qad ns)])∧qbl w' u (Pl.qaq ns)∧idxK w.heap.size w' u∧Below w.heap.size w w':=by
 by_cases hc:Pl.qad ns=0
 ·refine(qgX v ns w hd hc).mono ?_;rintro e w' ⟨u,ps,rfl,h1,h2,h3⟩;refine⟨u,by rw[hc],?_,idxK.mono (by omega) h1.k,h3⟩;unfold Pl.qaq;rw[if_pos hc,←h2];exact h1.ens
 ·refine(qh4 v ns w hd (by simpa using hc)).mono ?_;rintro e w' ⟨rfl,h3⟩;refine⟨_,rfl,?_,kArr.nil _ _ _ _,h3⟩;unfold Pl.qaq;rw[if_neg hc];exact qbl.nil _
def qea (B:Nat)(g:Option Nat)(w:World)(v:Value)(ss:List (List UInt8)):Prop:=
 ∃a cap,v=.slice a ss.length cap∧(ss=[]∨∃b o,a=some ⟨b,o,none⟩∧(some b≠g∧B≤b∧Soft w b)∧∀i (h:i<ss.length),w.cell? ⟨b,o+i,none⟩=some (.string ⟨ss[i].toArray⟩))
def AtsS (B:Nat)(g:Option Nat)(w:World)(v:Value)(ss:List (List UInt8×List UInt8)):Prop:=
 ∃a cap,v=.slice a ss.length cap∧(ss=[]∨∃b o,a=some ⟨b,o,none⟩∧(some b≠g∧B≤b∧Soft w b)∧∀i (h:i<ss.length),w.cell? ⟨b,o+i*2,none⟩=some (.string ⟨ss[i].1.toArray⟩)∧w.cell? ⟨b,o+i*2+1,none⟩=some (.string ⟨ss[i].2.toArray⟩))
theorem qea.grown {B:Nat}{g g':Option Nat}{w w':World}{v:Value}{ss:List (List UInt8)}(h:qea B g w v ss)(hg:w.grownBy w' g)(hg':g'=g∨∃H,g'=some H∧w.heap.size≤H):qea B g' w' v ss:=by
 obtain⟨a,cap,rfl,h⟩:=h;refine⟨a,cap,rfl,?_⟩
 rcases h with h|⟨b,o,ha,⟨hne,hBb,hso⟩,hc⟩
 ·exact Or.inl h
 ·by_cases hn:ss=[]
  ·exact Or.inl hn
  refine Or.inr ⟨b,o,ha,⟨?_,hBb,hso.grown hg hne⟩,fun i hi=>qbm hg hne (hc i hi)⟩
  rcases hg' with rfl|⟨H,rfl,hH⟩
  ·exact hne
  ·have hl:0<ss.length:=List.length_pos_iff.2 hn;have:b<w.heap.size:=qaV (hc 0 hl);intro e;simp at e;omega
theorem AtsS.grown {B:Nat}{g g':Option Nat}{w w':World}{v:Value}{ss:List (List UInt8×List UInt8)}(h:AtsS B g w v ss)(hg:w.grownBy w' g)(hg':g'=g∨∃H,g'=some H∧w.heap.size≤H):AtsS B g' w' v ss:=by
 obtain⟨a,cap,rfl,h⟩:=h;refine⟨a,cap,rfl,?_⟩
 rcases h with h|⟨b,o,ha,⟨hne,hBb,hso⟩,hc⟩
 ·exact Or.inl h
 ·by_cases hn:ss=[]
  ·exact Or.inl hn
  refine Or.inr ⟨b,o,ha,⟨?_,hBb,hso.grown hg hne⟩,fun i hi=>⟨qbm hg hne (hc i hi).1,qbm hg hne (hc i hi).2⟩⟩
  rcases hg' with rfl|⟨H,rfl,hH⟩
  ·exact hne
  ·have hl:0<ss.length:=List.length_pos_iff.2 hn;have:b<w.heap.size:=qaV (hc 0 hl).1;intro e;simp at e;omega
theorem qea.on {B:Nat}{g:Option Nat}{w w':World}{v:Value}{ss:List (List UInt8)}(h:qea B g w v ss)(hb:Below w.heap.size w w'):qea B g w' v ss:=by
 obtain⟨a,cap,rfl,h⟩:=h;refine⟨a,cap,rfl,?_⟩
 rcases h with h|⟨b,o,ha,hB,hc⟩
 ·exact Or.inl h
 ·exact Or.inr ⟨b,o,ha,⟨hB.1,hB.2.1,hB.2.2.on hb⟩,fun i hi=>qab hb (hc i hi)⟩
theorem AtsS.on {B:Nat}{g:Option Nat}{w w':World}{v:Value}{ss:List (List UInt8×List UInt8)}(h:AtsS B g w v ss)(hb:Below w.heap.size w w'):AtsS B g w' v ss:=by
 obtain⟨a,cap,rfl,h⟩:=h;refine⟨a,cap,rfl,?_⟩
 rcases h with h|⟨b,o,ha,hB,hc⟩
 ·exact Or.inl h
 ·exact Or.inr ⟨b,o,ha,⟨hB.1,hB.2.1,hB.2.2.on hb⟩,fun i hi=>⟨qab hb (hc i hi).1,qab hb (hc i hi).2⟩⟩
theorem qaB.soft {B B0:Nat}{w:World}{v:Value}{ss:List (List UInt8)}(h:qaB B w v ss){g:Option Nat}(hg:∀k,g=some k→k<B)(h0:B0≤B):qea B0 g w v ss:=by
 obtain⟨a,cap,rfl,h⟩:=h;refine⟨a,cap,rfl,?_⟩
 rcases h with h|⟨b,o,ha,hB,hs,hc⟩
 ·exact Or.inl h
 ·exact Or.inr ⟨b,o,ha,⟨fun e=>by have:=hg b e.symm;omega,by omega,hs⟩,hc⟩
theorem qaM.soft {B B0:Nat}{w:World}{v:Value}{ss:List (List UInt8×List UInt8)}(h:qaM B w v ss){g:Option Nat}(hg:∀k,g=some k→k<B)(h0:B0≤B):AtsS B0 g w v ss:=by
 obtain⟨a,cap,rfl,h⟩:=h;refine⟨a,cap,rfl,?_⟩
 rcases h with h|⟨b,o,ha,hB,hs,hc⟩
 ·exact Or.inl h
 ·exact Or.inr ⟨b,o,ha,⟨fun e=>by have:=hg b e.symm;omega,by omega,hs⟩,hc⟩
def qaW (B:Nat)(g:Option Nat)(w:World):List Value→List Pl.Nd→Prop
 | [],[]=>True
 | c0::c1::c2::c3::c4::r,x::t=>(c0=.int .i64 x.up∧c1=.string ⟨x.tag.toArray⟩∧c2=.string ⟨x.id.toArray⟩∧qea B g w c3 x.cls∧AtsS B g w c4 x.ats)∧qaW B g w r t
 | _,_=>False
theorem qaW.append {B:Nat}{g:Option Nat}{w:World}:∀(xs:List Value) (ns:List Pl.Nd) (ys:List Value) (ms:List Pl.Nd),qaW B g w xs ns→qaW B g w ys ms→qaW B g w (xs++ys) (ns++ms)
 | [],[],_,_,_,h=>h
 | c0::c1::c2::c3::c4::r,x::t,ys,ms,h,h2=>⟨h.1,qaW.append r t ys ms h.2 h2⟩
 | [],_::_,_,_,h,_=>h.elim
 | _::_,[],_,_,h,_=>by simp[qaW]at h
 | [_],_::_,_,_,h,_=>by cases h
 | [_,_],_::_,_,_,h,_=>by cases h
 | [_,_,_],_::_,_,_,h,_=>by cases h
 | [_,_,_,_],_::_,_,_,h,_=>by cases h
theorem qaW.grown {B:Nat}{g g':Option Nat}{w w':World}(hg:w.grownBy w' g)(hg':g'=g∨∃H,g'=some H∧w.heap.size≤H):∀(xs:List Value) (ns:List Pl.Nd),qaW B g w xs ns→qaW B g' w' xs ns
 | [],[],_=>trivial
 | c0::c1::c2::c3::c4::r,x::t,h=>⟨⟨h.1.1,h.1.2.1,h.1.2.2.1,h.1.2.2.2.1.grown hg hg',h.1.2.2.2.2.grown hg hg'⟩,qaW.grown hg hg' r t h.2⟩
 | [],_::_,h=>h.elim
 | _::_,[],h=>by simp[qaW]at h
 | [_],_::_,h=>by cases h
 | [_,_],_::_,h=>by cases h
 | [_,_,_],_::_,h=>by cases h
 | [_,_,_,_],_::_,h=>by cases h
theorem qaW.on {B:Nat}{g:Option Nat}{w w':World}(hb:Below w.heap.size w w'):∀(xs:List Value) (ns:List Pl.Nd),qaW B g w xs ns→qaW B g w' xs ns
 | [],[],_=>trivial
 | c0::c1::c2::c3::c4::r,x::t,h=>⟨⟨h.1.1,h.1.2.1,h.1.2.2.1,h.1.2.2.2.1.on hb,h.1.2.2.2.2.on hb⟩,qaW.on hb r t h.2⟩
 | [],_::_,h=>h.elim
 | _::_,[],h=>by simp[qaW]at h
 | [_],_::_,h=>by cases h
 | [_,_],_::_,h=>by cases h
 | [_,_,_],_::_,h=>by cases h
 | [_,_,_,_],_::_,h=>by cases h
theorem qaW.get {B:Nat}{g:Option Nat}{w:World}:∀(xs:List Value) (ns:List Pl.Nd),qaW B g w xs ns→∀i (h:i<ns.length),∃vc va,xs[i*5]? =some (.int .i64 ns[i].up)∧xs[i*5+1]? =some (.string ⟨ns[i].tag.toArray⟩)∧xs[i*5+2]? =some (.string ⟨ns[i].id.toArray⟩)∧xs[i*5+3]? =some vc∧xs[i*5+4]? =some va∧qea B g w vc ns[i].cls∧AtsS B g w va ns[i].ats
 | [],[],_,i,h=>by simp at h
 | c0::c1::c2::c3::c4::r,x::t,h,0,_=>by
  obtain⟨⟨rfl,rfl,rfl,hc,ha⟩,_⟩:=h;exact⟨c3,c4,rfl,rfl,rfl,rfl,rfl,hc,ha⟩
 | c0::c1::c2::c3::c4::r,x::t,h,i+1,hi=>by
  obtain⟨vc,va,h0,h1,h2,h3,h4,hc,ha⟩:=qaW.get r t h.2 i (by simpa using hi);refine⟨vc,va,?_,?_,?_,?_,?_,hc,ha⟩
  all_goals simp only[show (i+1)*5=i*5+1+1+1+1+1 by omega,Nat.add_assoc]
  ·simpa [Nat.add_assoc] using h0
  ·simpa [Nat.add_assoc] using h1
  ·simpa [Nat.add_assoc] using h2
  ·simpa [Nat.add_assoc] using h3
  ·simpa [Nat.add_assoc] using h4
 | [],_::_,h,_,_=>h.elim
 | _::_,[],h,_,_=>by simp[qaW]at h
 | [_],_::_,h,_,_=>by cases h
 | [_,_],_::_,h,_,_=>by cases h
 | [_,_,_],_::_,h,_,_=>by cases h
 | [_,_,_,_],_::_,h,_,_=>by cases h
def RowS (B:Nat)(w:World)(v:Value)(ns:List Pl.Nd):Prop:=∃xs,w.ownsRow B 28 5 v ns.length xs∧qaW B v.ownBlock w xs ns
theorem RowS.nil (B:Nat)(w:World):RowS B w (.slice none 0 0) []:=⟨[],World.ownsRow_nil _ _ _ _,trivial⟩
theorem qea.ne {B:Nat}{g:Option Nat}{w:World}{v:Value}{ss:List (List UInt8)}(h:qea B g w v ss):qbT g w v ss:=by
 obtain⟨a,cap,rfl,h⟩:=h;refine⟨a,cap,rfl,?_⟩
 rcases h with h|⟨b,o,ha,hB,hc⟩
 ·exact Or.inl h
 ·exact Or.inr ⟨b,o,ha,hB.1,hc⟩
theorem AtsS.ne {B:Nat}{g:Option Nat}{w:World}{v:Value}{ss:List (List UInt8×List UInt8)}(h:AtsS B g w v ss):qcY g w v ss:=by
 obtain⟨a,cap,rfl,h⟩:=h;refine⟨a,cap,rfl,?_⟩
 rcases h with h|⟨b,o,ha,hB,hc⟩
 ·exact Or.inl h
 ·exact Or.inr ⟨b,o,ha,hB.1,hc⟩
theorem qaW.weak {B:Nat}{g:Option Nat}{w:World}:∀(xs:List Value) (ns:List Pl.Nd),qaW B g w xs ns→qaz g w xs ns
 | [],[],_=>trivial
 | c0::c1::c2::c3::c4::r,x::t,h=>⟨⟨h.1.1,h.1.2.1,h.1.2.2.1,h.1.2.2.2.1.ne,h.1.2.2.2.2.ne⟩,qaW.weak r t h.2⟩
 | [],_::_,h=>h.elim
 | _::_,[],h=>by simp[qaW]at h
 | [_],_::_,h=>by cases h
 | [_,_],_::_,h=>by cases h
 | [_,_,_],_::_,h=>by cases h
 | [_,_,_,_],_::_,h=>by cases h
theorem RowS.weak {B:Nat}{w:World}{v:Value}{ns:List Pl.Nd}(h:RowS B w v ns):Row B w v ns:=by
 obtain⟨xs,ho,hc⟩:=h;exact⟨xs,ho,qaW.weak xs ns hc⟩
theorem row_stepS {B:Nat}{wr W w':World}{v:Value}{ns:List Pl.Nd}{xs:List Value}{x:Pl.Nd}{vc va:Value}{g cap:Nat}(hown:wr.ownsRow B 28 5 v ns.length xs)(hc:qaW B v.ownBlock wr xs ns)
 (hB:B≤wr.heap.size) (hW:Below wr.heap.size wr W) (hvc:qaB wr.heap.size W vc x.cls) (hva:qaM wr.heap.size W va x.ats)
 (h1:w'.ownsRow B 28 5 (.slice (some ⟨g,0,none⟩) (ns.length+1) cap) (ns.length+1) (xs++[.int .i64 x.up,.string ⟨x.tag.toArray⟩,.string ⟨x.id.toArray⟩,vc,va])) (hg:W.grownBy w' v.ownBlock) (hat:v.ownBlock=some g∨g=W.heap.size):
 RowS B w' (.slice (some ⟨g,0,none⟩) (ns.length+1) cap) (ns++[x]):=by
 refine⟨_,by simpa using h1,?_⟩
 have hg':(Value.slice (some ⟨g,0,none⟩) (ns.length+1) cap).ownBlock=v.ownBlock∨∃H,(Value.slice (some ⟨g,0,none⟩) (ns.length+1) cap).ownBlock=some H∧W.heap.size≤H:=by
  rcases hat with h|h
  ·exact Or.inl (by rw[h];rfl)
  ·exact Or.inr ⟨g,rfl,by omega⟩
 refine qaW.append _ _ _ _ (qaW.grown hg hg' _ _ (qaW.on hW _ _ hc)) ⟨⟨rfl,rfl,rfl,?_,?_⟩,trivial⟩
 ·exact(hvc.soft (fun k hk=>(World.ownsRow.lt hown k hk).2) hB).grown hg hg'
 ·exact(hva.soft (fun k hk=>(World.ownsRow.lt hown k hk).2) hB).grown hg hg'
theorem step_addS {ops:Array Oper}{o:Oper}{a:Act}{K:Act→World→Prop}{Q:Exit→Act→World→Prop}{E:Prop}{B:Nat}{wr w2:World}{v:Value}{ns:List Pl.Nd}{xs:List Value}{x:Pl.Nd}{a1 a2:Option Addr}{l1 c1 l2 c2:Nat}(hgd:o.guard=none)(s t:Operand)
 (ho:o.op=.call { callee:=.builtin .append,args:= #[s,t],argTypes:= #[22,22] }) (hs:a.eval s=v) (hx:a.eval t=.slice (some ⟨w2.heap.size,0,none⟩) 1 1)
 (hown:wr.ownsRow B 28 5 v ns.length xs) (hcs:qaW B v.ownBlock wr xs ns) (hlen:ns.length+1≤64) (hB:B≤wr.heap.size) (hW:Below wr.heap.size wr w2) (hvc:qaB wr.heap.size w2 (.slice a1 l1 c1) x.cls) (hva:qaM wr.heap.size w2 (.slice a2 l2 c2) x.ats)
 (h:∀g cap w',RowS B w' (.slice (some ⟨g,0,none⟩) (ns.length+1) cap) (ns++[x])→(w2.alloc (.cells #[.int .i64 x.up,.string ⟨x.tag.toArray⟩,.string ⟨x.id.toArray⟩,.slice a1 l1 c1,.slice a2 l2 c2] 28)).grownBy w' v.ownBlock→K (a.put o.dst (.slice (some ⟨g,0,none⟩) (ns.length+1) cap)) w'):
 if Region.wanted o (yielded ops a.tmps)=true then Oper.wp Tryz.prog o a (w2.alloc (.cells #[.int .i64 x.up,.string ⟨x.tag.toArray⟩,.string ⟨x.id.toArray⟩,.slice a1 l1 c1,.slice a2 l2 c2] 28)) K Q else E:=by
 obtain⟨i0,hi,hz0,hz1,hz2⟩:=info_parts Tryz.info28;have hW2:Below wr.heap.size wr (w2.alloc (.cells #[.int .i64 x.up,.string ⟨x.tag.toArray⟩,.string ⟨x.id.toArray⟩,.slice a1 l1 c1,.slice a2 l2 c2] 28)):=hW.alloc hW.size _;refine step_append_lies _ hgd s t 22 ho B 28 i0 _ 5 88 Tryz.underlying22 hi hz0 hz1 hz2 rfl (by decide) v ns.length xs hs (qbt hown hW2) ⟨w2.heap.size,0,none⟩ 1 1 [.int .i64 x.up,.string ⟨x.tag.toArray⟩,.string ⟨x.id.toArray⟩,.slice a1 l1 c1,.slice a2 l2 c2] hx rfl ?_ ?_ (by decide) (by unfold maxLen;omega) (by omega) (Nat.le_trans hB hW2.size) _ rfl ?_
 ·exact World.news_of_block (heap_alloc_new w2 _)
 ·intro u hu;simp only[List.mem_cons,List.not_mem_nil,or_false]at hu
  rcases hu with rfl|rfl|rfl|rfl|rfl<;>rfl
 ·intro g cap w' h1 h2 h3 _;exact h g cap w' (row_stepS hown hcs hB hW2 (hvc.on (qac _ _)) (hva.on (qac _ _)) h1 h2 h3) h2
theorem add_someS (F:Nat)(caps:Array Value)(mv:Int→Int)(B b o cap:Nat)(v0:Value)(ns ms:List Pl.Nd)(w:World)(hB:B≤w.heap.size)(hr:RowS B w v0 ns)(h64:ns.length+ms.length≤64)
 (hen:∀args W,(callFunc F args).run Tryz.prog W=.ok (.enter F args) W) (hl:∀x∈ms,x.cls.length≤6∧x.ats.length≤4) (hm:∀W,Below B w W→∀i (h:i<ms.length),NdAt W b (o+i*5) ms[i])
 (hf:∀W (u:Int),Below B w W→Calls Tryz.prog F (#[.int .i64 u]++caps) W fun e w'=>e=.returned (.int .i64 (mv u))∧w'=W):
 Calls Tryz.prog 75 #[v0,.slice (some ⟨b,o,none⟩) ms.length cap,.func (.func F) #[] caps] w fun e w'=>∃v',e=.returned v'∧RowS B w' v' (ns++ms.map (Pl.mvd mv))∧Below B w w':=by
 obtain⟨i0,hi,hz0,hz1,hz2⟩:=info_parts Tryz.info28;have HM:Hid _:=hm;have HF:Hid _:=hf;have HL:Hid _:=hl;clear hm hf hl;go_enter Tryz.func75,Tryz.ntmps75;go_wp2
 go_loopw [0,11] (fun v i wr=>∃k:Nat,k≤ms.length∧i=.int .i64 k∧Hid (RowS B wr v (ns++(ms.take k).map (Pl.mvd mv)))∧Below B w wr) (fun _ i _=>ms.length-(intOf i).toNat)
 case atStart=>exact⟨0,Nat.zero_le _,rfl,by simpa [Hid] using hr,Below.refl _ _⟩
 case round=>
  obtain⟨k,hk,rfl,hrow,hBw⟩:=hrel
  by_cases hlt:k<ms.length
  ·obtain⟨vc,va,n0,n1,n2,n3,n4,nc,na⟩:=HM.out _ hBw k hlt;obtain⟨ac,cc,rfl,_⟩:=id nc;obtain⟨aa,ca,rfl,_⟩:=id na;have NC:Hid _:=nc;have NA:Hid _:=na;clear nc na;obtain⟨xs,hown,hcs⟩:=hrow.out;obtain⟨L1,L2⟩:=HL.out ms[k] (List.getElem_mem hlt)
   have HN:Hid (ns++(ms.take (k+1)).map (Pl.mvd mv)=(ns++(ms.take k).map (Pl.mvd mv))++[Pl.mvd mv ms[k]]):=by
    unfold Hid;rw[List.take_add_one,List.getElem?_eq_getElem hlt];simp only[Option.toList_some,List.map_append,List.map_cons,List.map_nil,List.append_assoc]
   have hlen:(ns++(ms.take k).map (Pl.mvd mv)).length+1≤64:=by simp;omega
   generalize hNs:ns++(ms.take k).map (Pl.mvd mv)=Ns at *;have HNs:Hid _:=hNs;clear hNs;generalize hX:ms[k]=X at *;have HX:Hid _:=hX;clear hX;have hBr:B≤wr.heap.size:=Nat.le_trans hB hBw.size;have hne:some wr.heap.size≠u0.ownBlock:=fun e=>by have:=(World.ownsRow.lt hown _ e.symm).2;omega
   have hge:∀k,u0.ownBlock=some k→B≤k:=fun k hk=>(World.ownsRow.lt hown k hk).1
   obtain⟨up,tag,idn,cls,ats⟩:=X;dsimp only at n0 n1 n2 n3 n4 NC NA L1 L2 HN;go_wp2;clear n0 n1 n2 n3 n4;have hW1:Below wr.heap.size wr (wr.alloc (.cells #[.int .i64 up,.string ⟨tag.toArray⟩,.string ⟨idn.toArray⟩,.slice ac cls.length cc,.slice aa ats.length ca] 28)).drew:=(qac wr _).drew
   have S0:FiveAt (wr.alloc (.cells #[.int .i64 up,.string ⟨tag.toArray⟩,.string ⟨idn.toArray⟩,.slice ac cls.length cc,.slice aa ats.length ca] 28)).drew wr.heap.size (.int .i64 up) (.string ⟨tag.toArray⟩) (.string ⟨idn.toArray⟩) (.slice ac cls.length cc) (.slice aa ats.length ca):=
    (Blk.facts (w:=wr.alloc (.cells #[.int .i64 up,.string ⟨tag.toArray⟩,.string ⟨idn.toArray⟩,.slice ac cls.length cc,.slice aa ats.length ca] 28)) (heap_alloc_new wr _)).1
   have hB1:Below B w (wr.alloc (.cells #[.int .i64 up,.string ⟨tag.toArray⟩,.string ⟨idn.toArray⟩,.slice ac cls.length cc,.slice aa ats.length ca] 28)).drew:=hBw.trans (hW1.mono hBr);have S1:=And.intro S0.1 (And.intro S0.2.1 (And.intro S0.2.2.1 (And.intro S0.2.2.2.1 (And.intro S0.2.2.2.2 hB1))));have NV:Hid (NdV (wr.alloc (.cells #[.int .i64 up,.string ⟨tag.toArray⟩,.string ⟨idn.toArray⟩,.slice ac cls.length cc,.slice aa ats.length ca] 28)).drew (.agg #[.int .i64 up,.string ⟨tag.toArray⟩,.string ⟨idn.toArray⟩,.slice ac cls.length cc,.slice aa ats.length ca]) ⟨up,tag,idn,cls,ats⟩):=⟨_,_,rfl,qa1.on NC.out hW1,qbY.on NA.out hW1⟩
   clear S0
   go_region_held3 (fun w'=>w'.cell? ⟨wr.heap.size,0,none⟩=some (.int .i64 up)∧w'.cell? ⟨wr.heap.size,1,none⟩=some (.string ⟨tag.toArray⟩)∧w'.cell? ⟨wr.heap.size,2,none⟩=some (.string ⟨idn.toArray⟩)∧w'.cell? ⟨wr.heap.size,3,none⟩=some (.slice ac cls.length cc)∧w'.cell? ⟨wr.heap.size,4,none⟩=some (.slice aa ats.length ca)∧Below B w w')
    (first|assumption|exact six_on hB (by assumption) (by assumption)|exact qiu hB (by assumption) _|exact qhU hB hne hge (by assumption) (by assumption))
    (first|(go_at_call 85;refine(qf6 _ ⟨up,tag,idn,cls,ats⟩ _ _ L1 L2 NV.out).mono ?_;rintro e w2 ⟨nv,rfl,⟨vc,va,rfl,hs,ha⟩,hb⟩;obtain⟨a1,c1,rfl,_⟩:=id hs;obtain⟨a2,c2,rfl,_⟩:=id ha)|(refine(HF.out _ _ hB1).mono ?_;rintro e w' ⟨rfl,rfl⟩)|(refine step_addS rfl (.tmp 15) (.tmp 22) rfl rfl rfl hown hcs hlen hBr (qaa hW1 hb) (x:=⟨mv up,tag,idn,cls,ats⟩) (qaB.mono hs hW1.size) (qaM.mono ha hW1.size) ?_;intro g cap' w3 hrow' hgr))
   clear S1 NV hs ha hb hgr;go_wp2;exact⟨⟨k+1,hlt,by go_num,by unfold Hid;rw[HN.out];exact hrow',qiA (by assumption)⟩,by simp[intOf];omega⟩
  ·have hkl:k=ms.length:=by omega
   subst hkl;go_wp2;go_ret;have:=hrow.out;rw[List.take_length]at this;exact⟨_,rfl,this,hBw⟩
theorem qhI (F:Nat)(caps:Array Value)(mv:Int→Int)(B:Nat)(v0 v1:Value)(ns ms:List Pl.Nd)(w:World)(hB:B≤w.heap.size)(hr:RowS B w v0 ns)(h64:ns.length+ms.length≤64)
 (hen:∀args W,(callFunc F args).run Tryz.prog W=.ok (.enter F args) W) (hl:∀x∈ms,x.cls.length≤6∧x.ats.length≤4) (hm:qa8 w v1 ms) (hlow:∀W,Below B w W→qa8 W v1 ms)
 (hf:∀W (u:Int),Below B w W→Calls Tryz.prog F (#[.int .i64 u]++caps) W fun e w'=>e=.returned (.int .i64 (mv u))∧w'=W):
 Calls Tryz.prog 75 #[v0,v1,.func (.func F) #[] caps] w fun e w'=>∃v',e=.returned v'∧RowS B w' v' (ns++ms.map (Pl.mvd mv))∧Below B w w':=by
 obtain⟨a,cap,rfl,hc⟩:=hm
 rcases hc with rfl|⟨b,o,rfl,hc⟩
 ·refine(add_none (.func F) caps #[] v0 a cap w).mono ?_;rintro e w' ⟨rfl,rfl⟩;exact⟨v0,rfl,by simpa using hr,Below.refl _ _⟩
 ·refine(add_someS F caps mv B b o cap v0 ns ms w hB hr h64 hen hl ?_ hf);intro W hW i hi;obtain⟨a',cap',e,hc'⟩:=hlow W hW;injection e with e1 e2 e3;subst e1
  rcases hc' with h0|⟨b',o',e',hc'⟩
  ·subst h0;simp at hi
  ·injection e' with e';injection e' with e1 e2;subst e1 e2;exact hc' i hi
theorem qea.set {B:Nat}{g:Option Nat}{w:World}{v:Value}{ss:List (List UInt8)}(h:qea B g w v ss){M j:Nat}{old:Value}(h2:w.cell? ⟨M,j,none⟩=some old)(hs:∀s,old≠ .string s)(u:Value):qea B g (w.setCell ⟨M,j,none⟩ u) v ss:=by
 obtain⟨a,cap,rfl,h⟩:=h;refine⟨a,cap,rfl,?_⟩
 rcases h with h|⟨b,o,ha,hB,hc⟩
 ·exact Or.inl h
 ·exact Or.inr ⟨b,o,ha,⟨hB.1,hB.2.1,hB.2.2.set⟩,fun i hi=>qbH (hc i hi) h2 hs⟩
theorem AtsS.set {B:Nat}{g:Option Nat}{w:World}{v:Value}{ss:List (List UInt8×List UInt8)}(h:AtsS B g w v ss){M j:Nat}{old:Value}(h2:w.cell? ⟨M,j,none⟩=some old)(hs:∀s,old≠ .string s)(u:Value):AtsS B g (w.setCell ⟨M,j,none⟩ u) v ss:=by
 obtain⟨a,cap,rfl,h⟩:=h;refine⟨a,cap,rfl,?_⟩
 rcases h with h|⟨b,o,ha,hB,hc⟩
 ·exact Or.inl h
 ·exact Or.inr ⟨b,o,ha,⟨hB.1,hB.2.1,hB.2.2.set⟩,fun i hi=>⟨qbH (hc i hi).1 h2 hs,qbH (hc i hi).2 h2 hs⟩⟩
theorem qaW.set {B:Nat}{g:Option Nat}{w:World}{M j:Nat}{old:Value}(h2:w.cell? ⟨M,j,none⟩=some old)(hs:∀s,old≠ .string s)(u:Value):∀(xs:List Value) (ns:List Pl.Nd),qaW B g w xs ns→qaW B g (w.setCell ⟨M,j,none⟩ u) xs ns
 | [],[],_=>trivial
 | c0::c1::c2::c3::c4::r,x::t,h=>⟨⟨h.1.1,h.1.2.1,h.1.2.2.1,h.1.2.2.2.1.set h2 hs u,h.1.2.2.2.2.set h2 hs u⟩,qaW.set h2 hs u r t h.2⟩
 | [],_::_,h=>h.elim
 | _::_,[],h=>by simp[qaW]at h
 | [_],_::_,h=>by cases h
 | [_,_],_::_,h=>by cases h
 | [_,_,_],_::_,h=>by cases h
 | [_,_,_,_],_::_,h=>by cases h
theorem RowS.set {B:Nat}{w:World}{v:Value}{ns:List Pl.Nd}(h:RowS B w v ns){M j:Nat}{old:Value}(hM:M<B)(h2:w.cell? ⟨M,j,none⟩=some old)(hs:∀s,old≠ .string s)(u:Value):RowS B (w.setCell ⟨M,j,none⟩ u) v ns:=by
 obtain⟨xs,ho,hc⟩:=h;refine⟨xs,?_,qaW.set h2 hs u _ _ hc⟩;refine⟨ho.1,?_⟩
 rcases ho.2 with h0|⟨g,cap,cur,rfl,hb,hgg,rest⟩
 ·exact Or.inl h0
 ·exact Or.inr ⟨g,cap,cur,rfl,hb,by rw[Below.heap_setCell _ _ _ _ (by simp;omega)];exact hgg,rest⟩
def DocS (n:Nat)(w:World)(v:Value)(ns:List Pl.Nd):Prop:=∃B,n≤B∧RowS B w v ns∧qar w v ns
theorem DocS.nil (n:Nat)(w:World):DocS n w (.slice none 0 0) []:=⟨n,Nat.le_refl _,RowS.nil _ _,qar.nil _⟩
theorem DocS.mono {n m:Nat}{w:World}{v:Value}{ns:List Pl.Nd}(h:DocS n w v ns)(hm:m≤n):DocS m w v ns:=by
 obtain⟨B,h1,h2⟩:=h;exact⟨B,Nat.le_trans hm h1,h2⟩
namespace Pl
end Pl
theorem kids_some (b o cap:Nat)(ns:List Pl.Nd)(n:Int)(w:World)(h64:ns.length≤64)(hc:∀i (h:i<ns.length),NdAt w b (o+i*5) ns[i]):
 Calls Tryz.prog 81 #[.slice (some ⟨b,o,none⟩) ns.length cap,.int .i64 n] w fun e w'=>
  ∃v,e=.returned v∧w'.ownsRow w.heap.size 3 1 v (Pl.qae ns n).length (qaE (Pl.qae ns n))∧Below w.heap.size w w':=by
 have HC:Hid (∀i (h:i<ns.length),NdAt w b (o+i*5) ns[i]):=hc;clear hc;obtain⟨i0,hi,hz0,hz1,hz2⟩:=info_parts Tryz.info3;go_enter Tryz.func81,Tryz.ntmps81;go_wp2
 go_loopw [5,10] (fun v i wr=>∃k:Nat,k≤ns.length∧i=.int .i64 k∧wr.ownsRow w.heap.size 3 1 v (Pl.qaJ ns n k).length (qaE (Pl.qaJ ns n k))∧Below w.heap.size w wr) (fun _ i _=>ns.length-(intOf i).toNat)
 case atStart=>exact⟨0,Nat.zero_le _,rfl,World.ownsRow_nil _ _ _ _,Below.refl _ _⟩
 case round=>
  obtain⟨k,hk,rfl,hown,hB⟩:=hrel
  by_cases hlt:k<ns.length
  ·obtain⟨vc,va,n0,n1,n2,n3,n4,nc,na⟩:=(HC.out k hlt).on hB;obtain⟨ac,cc,rfl,_⟩:=id nc;obtain⟨aa,ca,rfl,_⟩:=id na;clear nc na;have hu:=qhl ns k hlt;rw[←hu]at n0;have HU:Hid _:=hu;clear hu;generalize hU:Pl.upOf ns k=u at n0;have HU2:Hid _:=hU;clear hU
   cases he:(u==n) with
   | true=>
    have HK:Hid (Pl.qaJ ns n (k+1)=Pl.qaJ ns n k++[k]):=Pl.qd2 ns n k (by rw[HU2.out];exact he);have hkl:=Pl.qcE ns n k
    go_wp2_with (at_builtin;refine wpList_append_own _ rfl _ _ 40 rfl w.heap.size 3 i0 (.int .i64 0) 1 8 Tryz.underlying40 hi hz0 hz1 hz2 rfl (by decide) _ _ _ rfl ((hown.alloc _).alloc _) ⟨wr.heap.size+1,0,none⟩ 1 1 [.int .i64 k] rfl rfl ?c1 ?c2 ?c3 ?c4 ?c5 ?_)
    case c1=>
     intro j u hj
     match j,hj with
     | 0,hj=>simp at hj;subst hj;simp[Addr.add,go_sem]
    case c2=>intro u hu;simp at hu;subst hu;rfl
    case c3=>unfold maxLen;omega
    case c4=>omega
    case c5=>have:=hB.size;simp;omega
    intro v' w1 hown' hgrow _;have hB1:Below w.heap.size w w1:=((hB.alloc hB.size _).alloc (by have:=hB.size;simp;omega) _).grown hgrow (by have:=hB.size;simp;omega) (fun g hg=>(World.ownsRow.lt hown g hg).1);clear hgrow hown;go_wp2;refine⟨⟨k+1,hlt,by go_num,?_,hB1⟩,by simp[intOf];omega⟩;rw[HK.out]
    simpa [qaE] using hown'
   | false=>
    have HK:Hid (Pl.qaJ ns n (k+1)=Pl.qaJ ns n k):=Pl.qes ns n k (by rw[HU2.out];exact he);go_wp2;refine⟨⟨k+1,hlt,by go_num,?_,hB.alloc hB.size _⟩,by simp[intOf];omega⟩;rw[HK.out];exact hown.alloc _
  ·have hkl:k=ns.length:=by omega
   subst hkl;go_wp2;go_ret;exact⟨_,rfl,hown,hB⟩
namespace Pl
end Pl
theorem qhH (u:Int)(w:World):Calls Tryz.prog 83 #[.int .i64 u] w fun e w'=>e=.returned (.int .i64 u)∧w'=w:=by
 go_enter Tryz.func83,Tryz.ntmps83;go_wp2;go_ret;exact⟨rfl,rfl⟩
theorem rem1_any (M N:Nat)(n e u:Int)(w:World)(hc:w.cell? ⟨M,0,none⟩=some (.int .i64 n))(hd:w.cell? ⟨N,0,none⟩=some (.int .i64 e))(hw:IntKind.i64.wrap (e-n)=e-n):Calls Tryz.prog 84 #[.int .i64 u,.pointer (some ⟨M,0,none⟩),.pointer (some ⟨N,0,none⟩)] w fun r w'=>r=.returned (.int .i64 (Pl.qdw n (e-n) u))∧w'=w:=by
 by_cases h:u<n
 ·have HH:Hid (Pl.qdw n (e-n) u=u):=by unfold Hid Pl.qdw;rw[if_pos h]
  go_enter Tryz.func84,Tryz.ntmps84;go_wp2;go_ret;exact⟨by rw[HH.out];rfl,rfl⟩
 ·have HH:Hid (Pl.qdw n (e-n) u=RowKit.wrap64 (u-(e-n))):=by unfold Hid Pl.qdw Pl.wr;rw[if_neg h]
  go_enter Tryz.func84,Tryz.ntmps84;go_wp2;go_ret;exact⟨by rw[HH.out];rfl,rfl⟩
theorem ins1_any (M N:Nat)(up p u:Int)(w:World)(hc:w.cell? ⟨M,0,none⟩=some (.int .i64 up))(hd:w.cell? ⟨N,0,none⟩=some (.int .i64 p)):Calls Tryz.prog 120 #[.int .i64 u,.pointer (some ⟨M,0,none⟩),.pointer (some ⟨N,0,none⟩)] w fun r w'=>r=.returned (.int .i64 (Pl.mvIn up p u))∧w'=w:=by
 by_cases h:u<0
 ·have HH:Hid (Pl.mvIn up p u=up):=by unfold Hid Pl.mvIn;rw[if_pos h]
  go_enter Tryz.func120,Tryz.ntmps120;go_wp2;go_ret;exact⟨by rw[HH.out];rfl,rfl⟩
 ·have HH:Hid (Pl.mvIn up p u=RowKit.wrap64 (u+p)):=by unfold Hid Pl.mvIn Pl.wr;rw[if_neg h]
  go_enter Tryz.func120,Tryz.ntmps120;go_wp2;go_ret;exact⟨by rw[HH.out];rfl,rfl⟩
theorem ins2_any (M N:Nat)(p u:Int)(a:Option Addr)(k cap:Nat)(w:World)(hc:w.cell? ⟨M,0,none⟩=some (.int .i64 p))(hd:w.cell? ⟨N,0,none⟩=some (.slice a k cap)):Calls Tryz.prog 121 #[.int .i64 u,.pointer (some ⟨M,0,none⟩),.pointer (some ⟨N,0,none⟩)] w fun r w'=>r=.returned (.int .i64 (Pl.qdz p k u))∧w'=w:=by
 by_cases h:u<p
 ·have HH:Hid (Pl.qdz p k u=u):=by unfold Hid Pl.qdz;rw[if_pos h]
  go_enter Tryz.func121,Tryz.ntmps121;go_wp2;go_ret;exact⟨by rw[HH.out];rfl,rfl⟩
 ·have HH:Hid (Pl.qdz p k u=RowKit.wrap64 (u+(k:Int))):=by unfold Hid Pl.qdz Pl.wr;rw[if_neg h]
  go_enter Tryz.func121,Tryz.ntmps121;go_wp2;go_ret;exact⟨by rw[HH.out];rfl,rfl⟩
theorem enter52 (args:Array Value)(W:World):(callFunc 83 args).run Tryz.prog W=.ok (.enter 83 args) W:=by simp[callFunc,go_sem,Tryz.func83,Tryz.f83]
theorem enter53 (args:Array Value)(W:World):(callFunc 84 args).run Tryz.prog W=.ok (.enter 84 args) W:=by simp[callFunc,go_sem,Tryz.func84,Tryz.f84]
theorem enter75 (args:Array Value)(W:World):(callFunc 120 args).run Tryz.prog W=.ok (.enter 120 args) W:=by simp[callFunc,go_sem,Tryz.func120,Tryz.f120]
theorem enter76 (args:Array Value)(W:World):(callFunc 121 args).run Tryz.prog W=.ok (.enter 121 args) W:=by simp[callFunc,go_sem,Tryz.func121,Tryz.f121]
end Go.Proofs.YtephhllfodlfbaaGreatDoor
