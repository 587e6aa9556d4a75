/-
  plain.plainerStep: a step made plainer, from what is done with its tests' lists.
-/
import Derived.Test.YtephhllfodlfbaaGreatDoorPnE
set_option maxRecDepth 100000
set_option maxHeartbeats 16000000
namespace Go.Proofs.YtephhllfodlfbaaGreatDoor
open Go.RowKit
def AddC {α:Type}(A:MemL α)(L:Pl.Lev α):Prop:=∀(B M:Nat) (tp:Pl.Stp α) (t:Pl.Tst α) (au al:Option Addr) (cu dl n:Nat) (w:World),Made A B M w tp (.slice au tp.tests.length cu)→A (mask (Off (frm B) (.slice au tp.tests.length cu)) w) (.slice al t.list.length dl) t.list→L.W t.list→tp.tests.length+1+n≤6→
 Calls Tryz.prog 171 #[.pointer (some ⟨M,0,none⟩),.agg #[.int .i64 t.kind,.string ⟨t.name.toArray⟩,.string ⟨t.value.toArray⟩,.int .i64 t.a,.int .i64 t.b,.slice al t.list.length dl],.int .i64 n] w (qcs A B M w (Pl.addT L.only tp t n))
theorem Made.to {α:Type}{A:MemL α}(hS:qaK A){B M:Nat}{w w':World}{tp:Pl.Stp α}{u:Value}(h:Made A B M w tp u)(hs:∀j,j<w.heap.size→w'.heap[j]? =w.heap[j]?)(hz:w.heap.size≤w'.heap.size):Made A B M w' tp u:=
 ⟨(hs M (Array.getElem?_eq_some_iff.1 h.box).1).trans h.box,h.row.move (qba hS) fun j hj hjw=>⟨hj,hs j hjw⟩,h.lt,Nat.le_trans h.sz hz⟩
theorem Made.ownLt {α:Type}{A:MemL α}{B M:Nat}{w:World}{tp:Pl.Stp α}{u:Value}(h:Made A B M w tp u):∀g,u.ownBlock=some g→g<w.heap.size:=by
 obtain⟨xs,hown,_⟩:=h.row;exact fun g hg=>(World.ownsRow.lt hown g hg).2
theorem b45_5 {W:World}{M:Nat}{v0 v1 v2 v3 v4 v5:Value}(h:W.heap[M]? =some (.cells #[v0,v1,v2,v3,v4,v5] 71))(u:Value):(W.setCell ⟨M,5,none⟩ u).heap[M]? =some (.cells #[v0,v1,v2,v3,v4,u] 71):=by
 simp[World.setCell,Array.getElem?_modify,h]
theorem fz6 {W:World}{M T:Nat}{v0 v1 v2 v3 v4 v5:Value}(h:W.heap[M]? =some (.cells #[v0,v1,v2,v3,v4,v5] T))(i:Nat):W.frozen? ⟨M,i,none⟩=false:=by simp[World.frozen?,h]
theorem FrA.blkAt {B M:Nat}{w w':World}(h:FrA B M w w'){p:Nat}{o:Obj}(hc:w.heap[p]? =some o)(hp:p<B)(hne:p≠M):w'.heap[p]? =some o:=(h.blk p hp hne).trans hc
theorem FrA.belowW {B M n:Nat}{w w3 wr:World}(hf:FrA B M w3 wr)(h0:Below n w w3)(hB:n≤B)(hM:n≤M):Below n w wr:=
 ⟨hf.os.trans h0.os,hf.tape.trans h0.tape,hf.output.trans h0.output,Nat.le_trans h0.size hf.size,fun k hk=>(hf.blk k (by omega) (by omega)).trans (h0.block k hk)⟩
theorem addTo_len {α:Type}{L:Pl.Lev α}(hL:Pl.qcR L){s:Pl.Stp α}(hs:Pl.okS L.W s){k:Nat}(hk:k<s.tests.length):(Pl.qaA L.f L.only s k).tests.length+1+(s.tests.length-k-1)≤6:=by
 have:=(Pl.qeI hL hs k (by omega)).2.2;omega
theorem Grow.lt {β:Type}{P:Nat→Bool}{B:Nat}{e:TypeId}{k:Nat}{V:World→List Value→β→Prop}{w:World}{v:Value}{l:List β}(h:Grow P B e k V w v l):∀g,v.ownBlock=some g→g<w.heap.size:=by
 obtain⟨xs,hown,_⟩:=h;exact fun g hg=>(World.ownsRow.lt hown g hg).2
def plTo {α:Type}[DecidableEq α](L:Pl.Lev α)(l:List (Pl.Pth α))(k:Nat):List (Pl.Pth α):=(l.take k).map (Pl.plP L.f L.only)
theorem plTo_next {α:Type}[DecidableEq α]{L:Pl.Lev α}{l:List (Pl.Pth α)}{k:Nat}(h:k<l.length):plTo L l (k+1)=plTo L l k++[Pl.plP L.f L.only l[k]]:=by
 unfold plTo;rw[List.take_succ_eq_append_getElem h,List.map_append];rfl
theorem plTo_len {α:Type}[DecidableEq α](L:Pl.Lev α)(l:List (Pl.Pth α))(k:Nat):(plTo L l k).length≤k:=by
 unfold plTo;rw[List.length_map,List.length_take];omega
theorem qgg {w:World}{B:Nat}{v:Value}{l:List Int}(h:w.ownsRow B 3 1 v l.length (l.map (Value.int .i64 ·))):qaf IntS 1 (mask (frm B) w) v l:=by
 have hh:=h;obtain⟨_,h0|⟨g,cap,cur,rfl,hB,hgc,h1,h2,_⟩⟩:=h
 ·obtain⟨rfl,hl⟩:=h0;have:l=[]:=by simpa using hl
  subst this;exact qaf.nil _ _ _
 ·refine⟨_,cap,rfl,⟨h1,h2⟩,Or.inr ⟨g,0,rfl,fun i hi=>?_⟩⟩;have h0:=World.ownsRow.cells hh rfl i (.int .i64 l[i]) (by simp[List.getElem?_eq_getElem hi]);rw[Addr.add_lit]at h0;have hP:frm B g=true:=by simp only[frm,decide_eq_true_eq];exact hB
  exact⟨qah.2 ⟨hP,by simpa using h0⟩,cur,3,by rw[qck,hgc];simp[hP]⟩
theorem qiT {i:TypeInfo}(hi:Tryz.prog.info? 3=some i)(a:Option Addr)(c:Nat)(ty:TypeId)(w:World):
 (Builtin.append_ #[40,40] ty #[.slice none 0 0,.slice a 0 c]).run Tryz.prog w=.ok (.slice none 0 0) w:=by
 cases a with
 | none=>simp[Builtin.append_,run_underlying Tryz.underlying40,sizeOf,typeInfo,hi,Builtin.lenOf,Builtin.firstCells]
 | some p=>
  have h0:=run_loadCells_list (P:=Tryz.prog) w p [] (fun j v hj=>by simp at hj);simp only[List.length_nil]at h0;simp[Builtin.append_,run_underlying Tryz.underlying40,sizeOf,typeInfo,hi,Builtin.lenOf,Builtin.firstCells,h0]
theorem qhQ {w:World}{ops:Array Oper}{rest:List Oper}{o:Oper}{a:Act}{Q:Exit→Act→World→Prop}(hgd:o.guard=none)(s x:Operand)
 (ho:o.op=.call { callee:=.builtin .append,args:= #[s,x],argTypes:= #[40,40] }) (hs:a.eval s=.slice none 0 0) (xv:Value) (ss:List Int) (hx:a.eval x=xv) (hS:qaf qbe 1 w xv ss) (hl:ss.length≤64)
 (h:∀a' c' w',qaf IntS 1 (mask (frm w.heap.size) w') (.slice a' ss.length c') ss→Below w.heap.size w w'→wpList Tryz.prog ops Q rest (a.put o.dst (.slice a' ss.length c')) w'):wpList Tryz.prog ops Q (o::rest) a w:=by
 obtain⟨i3,hi3,hz0,hz1,hz2⟩:=info_parts infI;obtain⟨ad,cap,rfl,-,hc⟩:=hS
 rcases hc with rfl|⟨b,of,rfl,hc⟩
 ·refine wpList_plain hgd fun K hK=>?_
  have hr:=qiT hi3 ad cap o.type w;unfold Oper.wp execOp;simp only[ho,resolve,invoke,builtin,Sem.run_bind,Sem.run_pure,Result.andThen_ok,List.map_toArray,List.map_cons,List.map_nil,hs,hx,List.length_nil,hr];exact hK _ _ (h none 0 w (qaf.nil _ _ _) (Below.refl _ _))
 ·refine wpList_append_own w hgd s x 40 ho w.heap.size 3 i3 (.int .i64 0) 1 8 Tryz.underlying40 hi3 hz0 hz1 hz2 rfl (by decide) (.slice none 0 0) 0 [] hs (World.ownsRow_nil _ _ _ _) ⟨b,of,none⟩ ss.length cap (ss.map (Value.int .i64 ·)) hx (by simp) ?_ ?_ (by unfold maxLen;omega) (by omega) (Nat.le_refl _) ?_
  ·intro j u hj
   have hlt:j<ss.length:=by
    have:=(List.getElem?_eq_some_iff.1 hj).1
    simpa using this
   have h0:=hc j hlt;unfold qbe at h0;rw[Nat.mul_one]at h0;rw[Addr.add_lit,h0];simp[List.getElem?_eq_getElem hlt]at hj;rw[hj]
  ·intro u hu;simp only[List.mem_map]at hu;obtain⟨_,_,rfl⟩:=hu;rfl
  ·intro v' w' hown hg _;rw[Nat.zero_add,List.nil_append]at hown;have hS':=qgg hown;obtain⟨a',c',rfl,_⟩:=id hS';exact h a' c' w' hS' ((Below.refl _ _).grown hg (Nat.le_refl _) (fun k hk=>by simp[Value.ownBlock]at hk))
theorem res38 {W:World}{M:Nat}{v0 v1:Value}(h:W.heap[M]? =some (.cells #[v0,v1] 64)):W.cell? ⟨M,0,none⟩=some v0∧W.cell? ⟨M,1,none⟩=some v1∧W.frozen? ⟨M,0,none⟩=false∧W.frozen? ⟨M,1,none⟩=false:=by
 refine⟨?_,?_,?_,?_⟩<;>simp[World.cell?,World.frozen?,h]
theorem b38 {W:World}{M:Nat}{v0 v1:Value}(h:W.heap[M]? =some (.cells #[v0,v1] 64))(u0 u1:Value):((W.setCell ⟨M,0,none⟩ u0).setCell ⟨M,1,none⟩ u1).heap[M]? =some (.cells #[u0,u1] 64):=by
 simp[World.setCell,Array.getElem?_modify,h]
theorem set38_0 {W:World}{M:Nat}{v0 v1:Value}(h:W.heap[M]? =some (.cells #[v0,v1] 64))(u:Value):(W.setCell ⟨M,0,none⟩ u).heap[M]? =some (.cells #[u,v1] 64):=by
 simp[World.setCell,Array.getElem?_modify,h]
def stTo {α:Type}[DecidableEq α](L:Pl.Lev α)(l:List (Pl.Stp α))(k:Nat):List (Pl.Stp α):=(l.take k).map (Pl.plS L.f L.only)
theorem stTo_next {α:Type}[DecidableEq α]{L:Pl.Lev α}{l:List (Pl.Stp α)}{k:Nat}(h:k<l.length):stTo L l (k+1)=stTo L l k++[Pl.plS L.f L.only l[k]]:=by
 unfold stTo;rw[List.take_succ_eq_append_getElem h,List.map_append];rfl
theorem stTo_len {α:Type}[DecidableEq α](L:Pl.Lev α)(l:List (Pl.Stp α))(k:Nat):(stTo L l k).length≤k:=by
 unfold stTo;rw[List.length_map,List.length_take];omega
theorem qiM {i:TypeInfo}(hi:Tryz.prog.info? 3=some i)(q:Addr)(n c:Nat)(hn:n≤c)(a:Option Addr)(c':Nat)(ty:TypeId)(w:World):
 (Builtin.append_ #[40,40] ty #[.slice (some q) n c,.slice a 0 c']).run Tryz.prog w=.ok (.slice (some q) n c) w:=by
 cases a with
 | none=>simp[Builtin.append_,run_underlying Tryz.underlying40,sizeOf,typeInfo,hi,Builtin.lenOf,Builtin.firstCells,storeCells,hn]
 | some p=>
  have h0:=run_loadCells_list (P:=Tryz.prog) w p [] (fun j v hj=>by simp at hj);simp only[List.length_nil]at h0;simp[Builtin.append_,run_underlying Tryz.underlying40,sizeOf,typeInfo,hi,Builtin.lenOf,Builtin.firstCells,h0,storeCells,hn]
theorem qiJ {w:World}{B g:Nat}{ops:Array Oper}{rest:List Oper}{o:Oper}{a:Act}{Q:Exit→Act→World→Prop}(hgd:o.guard=none)(s x:Operand)
 (ho:o.op=.call { callee:=.builtin .append,args:= #[s,x],argTypes:= #[40,40] }) (hs:a.eval s=.slice (some ⟨g,0,none⟩) 0 0) (hg:w.heap[g]? =some (.cells #[] 3)) (hBg:B≤g) (xv:Value) (ss:List Int) (hx:a.eval x=xv) (hS:qaf qbe 1 w xv ss) (hl:ss.length≤64)
 (h:∀a' c' w',qaf IntS 1 (mask (frm B) w') (.slice a' ss.length c') ss→Below B w w'→wpList Tryz.prog ops Q rest (a.put o.dst (.slice a' ss.length c')) w'):wpList Tryz.prog ops Q (o::rest) a w:=by
 obtain⟨i3,hi3,hz0,hz1,hz2⟩:=info_parts infI;obtain⟨ad,cap,rfl,-,hc⟩:=hS;have hgl:=(Array.getElem?_eq_some_iff.1 hg).1
 rcases hc with rfl|⟨b,of,rfl,hc⟩
 ·refine wpList_plain hgd fun K hK=>?_
  have hr:=qiM hi3 ⟨g,0,none⟩ 0 0 (Nat.le_refl _) ad cap o.type w;unfold Oper.wp execOp;simp only[ho,resolve,invoke,builtin,Sem.run_bind,Sem.run_pure,Result.andThen_ok,List.map_toArray,List.map_cons,List.map_nil,hs,hx,List.length_nil,hr];exact hK _ _ (h (some ⟨g,0,none⟩) 0 w ⟨_,0,rfl,by simp,Or.inl rfl⟩ (Below.refl _ _))
 ·refine wpList_append_own w hgd s x 40 ho B 3 i3 (.int .i64 0) 1 8 Tryz.underlying40 hi3 hz0 hz1 hz2 rfl (by decide) (.slice (some ⟨g,0,none⟩) 0 0) 0 [] hs ⟨by simp,Or.inr ⟨g,0,#[],rfl,hBg,hg,Nat.le_refl _,by unfold maxLen;omega,by simp,by simp⟩⟩ ⟨b,of,none⟩ ss.length cap (ss.map (Value.int .i64 ·)) hx (by simp) ?_ ?_ (by unfold maxLen;omega) (by omega) (by omega) ?_
  ·intro j u hj
   have hlt:j<ss.length:=by
    have:=(List.getElem?_eq_some_iff.1 hj).1
    simpa using this
   have h0:=hc j hlt;unfold qbe at h0;rw[Nat.mul_one]at h0;rw[Addr.add_lit,h0];simp[List.getElem?_eq_getElem hlt]at hj;rw[hj]
  ·intro u hu;simp only[List.mem_map]at hu;obtain⟨_,_,rfl⟩:=hu;rfl
  ·intro v' w' hown hgr _;rw[Nat.zero_add,List.nil_append]at hown;have hS':=qgg hown;obtain⟨a',c',rfl,_⟩:=id hS';exact h a' c' w' hS' ((Below.refl B w).grown hgr (by omega) (fun k hk=>by simp[Value.ownBlock]at hk;omega))
abbrev qen (w w':World):Prop:=Incl w w'
theorem qen.cells {w w':World}(h:qen w w'):Incl w w':=h
theorem qen.trans {w w1 w2:World}(h:qen w w1)(h2:qen w1 w2):qen w w2:=fun k ob hk hne=>h2 k ob (h k ob hk hne) hne
theorem qbn {P P':Nat→Bool}{w w':World}(h:∀j,P j=true→j<w.heap.size→P' j=true∧w'.heap[j]? =w.heap[j]?):qen (mask P w) (mask P' w'):=qam h
theorem qaU (P Q:Nat→Bool)(w:World):mask P (mask Q w)=mask (fun j=>P j&&Q j) w:=by
 unfold mask
 congr 1
 simp only[Array.mapIdx_mapIdx]
 congr 1
 funext i o
 show (if P i=true then (if Q i=true then o else Obj.cells #[] 0) else Obj.cells #[] 0)=_
 by_cases hp:P i=true<;>by_cases hq:Q i=true<;>simp[hp,hq]
theorem qeC {P:Nat→Bool}{w:World}{k:Nat}{c:Array Value}{t:TypeId}(h:(mask P w).heap[k]? =some (.cells c t))(ht:t≠0):P k=true∧w.heap[k]? =some (.cells c t):=by
 rw[qck]at h
 cases hw:w.heap[k]? with
 | none=>rw[hw]at h;simp at h
 | some o0=>
  rw[hw]at h;simp only[Option.map_some]at h
  cases hp:P k with
  | false=>
   rw[hp]at h;simp at h;exact absurd h.2.symm ht
  | true=>
   rw[hp]at h;simp at h;exact⟨rfl,by rw[h]⟩
structure IsVB {β:Type}(k:Nat)(V:World→List Value→β→Prop):Prop where
 sub:∀{w w' c x},V w c x→qen w w'→V w' c x
 len:∀{w c x},V w c x→c.length=k
theorem IsV.b {β:Type}{k:Nat}{V:World→List Value→β→Prop}{E:World→Nat→Nat→β→Prop}(h:IsV k V E):IsVB k V:=⟨fun h1 h2=>h.sub h1 h2.cells,fun h1=>h.len h1⟩
def qbV (P:Nat→Bool)(B:Nat)(e:TypeId)(k:Nat)(V:Nat→World→List Value→Prop)(n:Nat)(w:World)(v:Value):Prop:=
 ∃xs:List Value,w.ownsRow B e k v n xs∧(∀g,v.ownBlock=some g→P g=true)∧∀i,i<n→V i (mask (Off P v) w) ((xs.drop (i*k)).take k)
theorem qfR {w w':World}{B:Nat}{e:TypeId}{k:Nat}{v:Value}{n:Nat}{xs:List Value}(he:e≠0)(h:w.ownsRow B e k v n xs)(hi:qen w w'):w'.ownsRow B e k v n xs:=by
 refine⟨h.1,?_⟩
 rcases h.2 with h2|⟨g,cap,cur,rfl,e2,e3,e4⟩
 ·exact Or.inl h2
 ·exact Or.inr ⟨g,cap,cur,rfl,e2,hi g _ e3 (by intro h;injection h with _ h;exact he h),e4⟩
theorem qdi {P:Nat→Bool}{w w':World}(h:qen w w'):qen (mask P w) (mask P w'):=by
 intro k ob hk hne;rw[qck]at hk ⊢
 cases hw:w.heap[k]? with
 | none=>rw[hw]at hk;simp at hk
 | some o0=>
  rw[hw]at hk;simp only[Option.map_some]at hk
  cases hp:P k with
  | false=>
   rw[hp]at hk;simp at hk;exact absurd hk.symm hne
  | true=>
   rw[hp]at hk;simp at hk;subst hk;rw[h k o0 hw hne];simp
theorem Grow.sub {β:Type}{P:Nat→Bool}{B:Nat}{e:TypeId}{k:Nat}{V:World→List Value→β→Prop}(hV:IsVB k V)(he:e≠0){w w':World}{v:Value}{l:List β}(h:Grow P B e k V w v l)(hi:qen w w'):Grow P B e k V w' v l:=by
 obtain⟨xs,h1,h2,h3⟩:=h;exact⟨xs,qfR he h1 hi,h2,fun i hl=>hV.sub (h3 i hl) (qdi hi)⟩
def qa4 {β:Type}(P:Nat→Bool)(B:Nat)(e:TypeId)(k:Nat)(V:World→List Value→β→Prop)(w:World)(v:Value)(l:List β):Prop:=
 ∃(own:Nat→Nat) (xs:List Value),w.ownsRow B e k v l.length xs∧(∀g,v.ownBlock=some g→P g=true)∧∀i (h:i<l.length),V (mask (fun j=>Off P v j&&own j==i) w) ((xs.drop (i*k)).take k) l[i]
theorem qa4.sub {β:Type}{P:Nat→Bool}{B:Nat}{e:TypeId}{k:Nat}{V:World→List Value→β→Prop}(hV:IsVB k V)(he:e≠0){w w':World}{v:Value}{l:List β}(h:qa4 P B e k V w v l)(hi:qen w w'):qa4 P B e k V w' v l:=by
 obtain⟨own,xs,h1,h2,h3⟩:=h;exact⟨own,xs,qfR he h1 hi,h2,fun i hl=>hV.sub (h3 i hl) (qdi hi)⟩
theorem qa4.weak {β:Type}{P:Nat→Bool}{B:Nat}{e:TypeId}{k:Nat}{V V':World→List Value→β→Prop}(hV':IsVB k V')(hVV:∀{w c x},V w c x→V' w c x){w:World}{v:Value}{l:List β}(h:qa4 P B e k V w v l):Grow P B e k V' w v l:=by
 obtain⟨own,xs,h1,h2,h3⟩:=h;refine⟨xs,h1,h2,fun i hl=>hV'.sub (hVV (h3 i hl)) (qbn fun j hj _=>⟨?_,rfl⟩)⟩;rw[Bool.and_eq_true]at hj;exact hj.1
theorem qa4.nil {β:Type}(P:Nat→Bool)(B:Nat)(e:TypeId)(k:Nat)(V:World→List Value→β→Prop)(w:World):qa4 P B e k V w (.slice none 0 0) []:=
 ⟨fun _=>0,[],⟨by simp,Or.inl ⟨rfl,rfl⟩⟩,fun g h=>by simp[Value.ownBlock]at h,fun i h=>by simp at h⟩
theorem qa4.form {β:Type}{P:Nat→Bool}{B:Nat}{e:TypeId}{k:Nat}{V:World→List Value→β→Prop}{w:World}{v:Value}{l:List β}(h:qa4 P B e k V w v l):∃a c,v=.slice a l.length c:=by
 obtain⟨own,xs,h,_⟩:=h
 rcases h.2 with ⟨rfl,h0⟩|⟨g,cap,cur,rfl,_⟩
 ·exact⟨none,0,by rw[h0]⟩
 ·exact⟨_,cap,rfl⟩
theorem qa4.own {β:Type}{P:Nat→Bool}{B:Nat}{e:TypeId}{k:Nat}{V:World→List Value→β→Prop}{w:World}{v:Value}{l:List β}(h:qa4 P B e k V w v l):∀g,v.ownBlock=some g→P g=true∧B≤g∧g<w.heap.size:=by
 obtain⟨own,xs,hown,hPo,_⟩:=h;intro g hg;exact⟨hPo g hg,(World.ownsRow.lt hown g hg).1,(World.ownsRow.lt hown g hg).2⟩
theorem qa4.move {β:Type}{P:Nat→Bool}{B:Nat}{e:TypeId}{k:Nat}{V:World→List Value→β→Prop}(hV:IsVB k V){w w':World}{v:Value}{l:List β}(h:qa4 P B e k V w v l)(hs:∀j,P j=true→j<w.heap.size→w'.heap[j]? =w.heap[j]?):qa4 P B e k V w' v l:=by
 obtain⟨own,xs,⟨h1,h2⟩,hp,hv⟩:=h;refine⟨own,xs,⟨h1,?_⟩,hp,fun i hi=>hV.sub (hv i hi) (qbn fun j hj hl=>⟨hj,?_⟩)⟩
 ·rcases h2 with h2|⟨g,cap,cur,rfl,e2,e3,e4⟩
  ·exact Or.inl h2
  ·refine Or.inr ⟨g,cap,cur,rfl,e2,?_,e4⟩;rw[hs g (hp g rfl) (Array.getElem?_eq_some_iff.1 e3).1];exact e3
 ·unfold Off at hj;rw[Bool.and_eq_true,Bool.and_eq_true]at hj;exact hs j hj.1.1 hl
section
variable {β:Type} {P:Nat→Bool} {B:Nat} {e:TypeId} {k:Nat} {V:World→List Value→β→Prop}
theorem qa4.next (hV:IsVB k V){w0 w2 w':World}{v:Value}{l:List β}{x:β}{news:List Value}{g cap:Nat}{xs:List Value}{own:Nat→Nat}
 (hown:w0.ownsRow B e k v l.length xs) (hPo:∀g,v.ownBlock=some g→P g=true) (hold:∀i (h:i<l.length),V (mask (fun j=>Off P v j&&own j==i) w0) ((xs.drop (i*k)).take k) l[i])
 (hb:∀j,j<w0.heap.size→w2.heap[j]? =w0.heap[j]?) (hsz:w0.heap.size≤w2.heap.size)
 (hnew:V (mask (fun j=>P j&&decide (w0.heap.size≤j)) w2) news x) (hPH:P (w2.heap.size+1)=true)
 (hrow:w'.ownsRow B e k (.slice (some ⟨g,0,none⟩) (l.length+1) cap) (l.length+1) (xs++news)) (hg:(w2.alloc (.cells news.toArray e)).grownBy w' v.ownBlock) (hat:v.ownBlock=some g∨g=w2.heap.size+1):qa4 P B e k V w' (.slice (some ⟨g,0,none⟩) (l.length+1) cap) (l++[x]):=by
 have hxl:xs.length=l.length*k:=hown.1;have hlt:=fun g hg=>(World.ownsRow.lt hown g hg).2
 have hba:=qac w2 (.cells news.toArray e)
 have hkeep:∀j,v.ownBlock≠some j→j<w2.heap.size→w'.heap[j]? =w2.heap[j]? :=by
  intro j hj hjl;rw[hg.block j (by simp;omega) (fun h=>hj h.symm)];exact hba.block j hjl
 have hlen1:(l++[x]).length=l.length+1:=by simp
 refine⟨fun j=>if j<w0.heap.size then own j else l.length,xs++news,by rw[hlen1];exact hrow,fun g' hg'=>?_,fun i hi=>?_⟩
 ·simp[Value.ownBlock]at hg';subst hg'
  rcases hat with h|h
  ·exact hPo _ h
  ·rw[h];exact hPH
 ·rcases Nat.lt_or_ge i l.length with hlt'|hge
  ·have e1:(l++[x])[i]=l[i]:=List.getElem_append_left hlt';rw[e1]
   have e2:((xs++news).drop (i*k)).take k=(xs.drop (i*k)).take k:=by
    have:(i+1)*k≤l.length*k:=Nat.mul_le_mul_right k hlt';rw[Nat.succ_mul]at this;rw[List.drop_append_of_le_length (by omega),List.take_append_of_le_length (by simp;omega)]
   rw[e2];refine hV.sub (hold i hlt') (qbn fun j hj hjw=>?_);unfold Off at hj ⊢;rw[Bool.and_eq_true,Bool.and_eq_true]at hj
   have hne:v.ownBlock≠some j:=by
    intro h;rw[h]at hj;simp at hj
   refine⟨?_,(hkeep j hne (by omega)).trans (hb j hjw)⟩;dsimp only;rw[if_pos hjw,hj.1.1,hj.2]
   rcases hat with h|h
   ·rw[h]at hj;simp[Value.ownBlock]at hj ⊢;exact hj.1.2
   ·simp[Value.ownBlock];omega
  ·have hil:i=l.length:=by simp at hi;omega
   subst hil;have e1:(l++[x])[l.length]=x:=by simp
   rw[e1]
   have e2:((xs++news).drop (l.length*k)).take k=news:=by
    rw[←hxl,List.drop_left];exact List.take_of_length_le (by rw[hV.len hnew];exact Nat.le_refl _)
   rw[e2];refine hV.sub hnew (qbn fun j hj hjw=>?_);rw[Bool.and_eq_true,decide_eq_true_eq]at hj;have hne:v.ownBlock≠some j:=fun h=>by have:=hlt j h;omega
   refine⟨?_,hkeep j hne hjw⟩;unfold Off;dsimp only;rw[if_neg (by omega),hj.1]
   rcases hat with h|h
   ·have:=hlt g h;simp[Value.ownBlock];omega
   ·simp[Value.ownBlock];omega
theorem qdI (hV:IsVB k V){T:TypeId}{z:Value}{bytes:Nat}(hT:Tryz.prog.underlying T=some (.slice e))(hinf:(Tryz.prog.info? e).map (fun i=>(i.zero,i.size,i.bytes))=some (some z,k,bytes))(hz:z.cells.size=k)(hk:0<k)(hby:64*bytes≤140737488355328)
 {ops:Array Oper} {rest:List Oper} {o:Oper} {a:Act} {Q:Exit→Act→World→Prop} {w0 w2:World} {v:Value} {l:List β} {x:β} {news:List Value} (hgd:o.guard=none) (s t:Operand)
 (ho:o.op=.call { callee:=.builtin .append,args:= #[s,t],argTypes:= #[T,T] }) (hs:a.eval s=v) (hx:a.eval t=.slice (some ⟨w2.heap.size,0,none⟩) 1 1)
 (hold:qa4 P B e k V w0 v l) (hb2:∀j,j<w0.heap.size→w2.heap[j]? =w0.heap[j]?) (hsz:w0.heap.size≤w2.heap.size) (hnew:V (mask (fun j=>P j&&decide (w0.heap.size≤j)) w2) news x) (hone:∀u∈news,u.oneCell'=true) (hlen:l.length+1≤64) (hB:B≤w2.heap.size) (hPH:P (w2.heap.size+1)=true)
 (h:∀g cap w',qa4 P B e k V w' (.slice (some ⟨g,0,none⟩) (l.length+1) cap) (l++[x])→(w2.alloc (.cells news.toArray e)).grownBy w' v.ownBlock→(v.ownBlock=some g∨g=w2.heap.size+1)→wpList Tryz.prog ops Q rest (a.put o.dst (.slice (some ⟨g,0,none⟩) (l.length+1) cap)) w'):
 wpList Tryz.prog ops Q (o::rest) a (w2.alloc (.cells news.toArray e)):=by
 obtain⟨own,xs,hown,hPo,hvs⟩:=hold;obtain⟨i0,hi,hz0,hz1,hz2⟩:=info_parts hinf;have hb:=qac w2 (.cells news.toArray e)
 have hown1:(w2.alloc (.cells news.toArray e)).ownsRow B e k v l.length xs:=by
  refine⟨hown.1,?_⟩
  rcases hown.2 with h1|⟨g,cap,cur,e1,e2,e3,e4⟩
  ·exact Or.inl h1
  ·have hgl:=(Array.getElem?_eq_some_iff.1 e3).1;exact Or.inr ⟨g,cap,cur,e1,e2,((hb.block g (by omega)).trans (hb2 g hgl)).trans e3,e4⟩
 have hbytes:(l.length+1)*bytes≤140737488355328:=Nat.le_trans (Nat.mul_le_mul_right bytes hlen) hby;refine wpList_append_lies _ hgd s t T ho B e i0 z k bytes hT hi hz0 hz1 hz2 hz hk v l.length xs hs hown1 ⟨w2.heap.size,0,none⟩ 1 1 news hx (by rw[hV.len hnew];omega) (World.news_of_block (heap_alloc_new w2 _)) hone (by omega) (by unfold maxLen;omega) hbytes (by simp;omega) (w2.heap.size+1) (by simp) ?_;intro g cap w' h1 h2 h3 _;exact h g cap w' (qa4.next hV hown hPo hvs hb2 hsz hnew hPH h1 h2 h3) h2 h3
end
section
variable {α:Type}
def VSd (A:MemL α)(w:World)(c:List Value)(s:Pl.Stp α):Prop:=∃v B,c=[.string ⟨s.tag.toArray⟩,v]∧Grow (frm B) B 71 6 (VT A) w v s.tests
def VPd (A:MemL α)(w:World)(c:List Value)(p:Pl.Pth α):Prop:=∃v u B,c=[v,u]∧qa4 (frm B) B 67 2 (VSd A) w v p.steps∧qaf IntS 1 (mask (fun j=>decide (j<B)) w) u p.links
theorem qcg {A:MemL α}(hS:qaK A):IsVB 2 (VSd A) where
 sub h hi:=by
  obtain⟨v,B,e,h⟩:=h;exact⟨v,B,e,h.sub (qba hS).b (by decide) hi⟩
 len h:=by
  obtain⟨v,B,rfl,h⟩:=h;rfl
theorem qcQ {A:MemL α}(hS:qaK A):IsVB 2 (VPd A) where
 sub h hi:=by
  obtain⟨v,u,B,e,h,h2⟩:=h;exact⟨v,u,B,e,h.sub (qcg hS) (by decide) hi,qfY h2 (qdi hi).cells⟩
 len h:=by
  obtain⟨v,u,B,rfl,h⟩:=h;rfl
theorem VSd.weak {A:MemL α}(hS:qaK A){w:World}{c:List Value}{s:Pl.Stp α}(h:VSd A w c s):VS A w c s:=by
 obtain⟨v,B,e,h⟩:=h;exact⟨v,e,(Grow.row (qba hS) h).map fun _ _ _ hq=>hq.sub hS (qav _ _)⟩
theorem VPd.weak {A:MemL α}(hS:qaK A){w:World}{c:List Value}{p:Pl.Pth α}(h:VPd A w c p):VP A w c p:=by
 obtain⟨v,u,B,e,h,h2⟩:=h;exact⟨v,u,e,(Grow.row (isV_s hS) (h.weak (isV_s hS).b (fun q=>q.weak hS))).map fun _ _ _ hq=>hq.sub hS (qav _ _),qdZ (qgY h2) (qav _ _)⟩
end
theorem Grow.base {β:Type}{P:Nat→Bool}{B B':Nat}{e:TypeId}{k:Nat}{V:World→List Value→β→Prop}{w:World}{v:Value}{l:List β}(h:Grow P B e k V w v l)(hb:B'≤B):Grow P B' e k V w v l:=by
 obtain⟨xs,⟨h1,h2⟩,h3,h4⟩:=h;refine⟨xs,⟨h1,?_⟩,h3,h4⟩
 rcases h2 with h2|⟨g,cap,cur,e1,e2,e3⟩
 ·exact Or.inl h2
 ·exact Or.inr ⟨g,cap,cur,e1,Nat.le_trans hb e2,e3⟩
def EV {β:Type}(V:World→List Value→β→Prop)(w:World)(b o:Nat)(x:β):Prop:=∃c0 c1,w.cell? ⟨b,o,none⟩=some c0∧w.cell? ⟨b,o+1,none⟩=some c1∧V w [c0,c1] x
theorem isV_ev {β:Type}{V:World→List Value→β→Prop}(hV:IsVB 2 V):IsV 2 V (EV V) where
 sub h hi:=hV.sub h hi
 len h:=hV.len h
 at_ {w c x b o} h hc:=by
  have hl:=hV.len h
  match c,hl,h,hc with
  | [c0,c1],_,h,hc=>exact⟨c0,c1,hc 0 (by simp),hc 1 (by simp),h⟩
theorem ev_p {α:Type}{A:MemL α}{V:World→List Value→Pl.Pth α→Prop}(hVP:∀{w:World} {c:List Value} {x:Pl.Pth α},V w c x→VP A w c x){w:World}{b o:Nat}{x:Pl.Pth α}(h:EV V w b o x):qct A w b o x:=by
 obtain⟨c0,c1,h0,h1,h2⟩:=h;obtain⟨v,u,e,r1,r2⟩:=hVP h2;injection e with e1 e2;injection e2 with e2 _;subst e1 e2;exact⟨_,_,h0,h1,r1,r2⟩
section
variable {α:Type} [DecidableEq α] {A:MemL α} (hA:IsL A) (ok:Pl.Tst α→Prop)
 (hH:∀(W:World) (x y:Value) (t s:Pl.Tst α),TstV A W x t→TstV A W y s→ok t→ok s→Calls Tryz.prog 148 #[x,y] W fun e w'=>e=.returned (.bool (sm t s))∧Below W.heap.size W w')
include hA hH
theorem qi5 (hS:qaK A)(B:Nat)(v:Value)(l:List (Pl.Tst α))(w:World)(hB:B≤w.heap.size)(hl:qaf (qaF A) 6 (mask (frm B) w) v l)(h60:l.length≤60)(ol:∀y∈l,ok y):
 Calls Tryz.prog 172 #[v,.func (.func 148) #[] #[]] w fun e w'=>∃v',e=.returned v'∧Grow (frm B) B 71 6 (VT A) w' v' (Pl.qaR l)∧Below w.heap.size w w':=by
 obtain⟨a,c,rfl,-,hcs⟩:=hl;have HR:Hid _:=hcs;have OL:Hid _:=ol;have HB0:Hid (Below w.heap.size w (w.alloc (.cells #[.func (.func 148) #[] #[]] 174))):=qac _ _;have HZW:Hid ((w.alloc (.cells #[.func (.func 148) #[] #[]] 174)).heap.size=w.heap.size+1):=by unfold Hid;simp
 have H30:Hid ((w.alloc (.cells #[.func (.func 148) #[] #[]] 174)).heap[w.heap.size]? =some (.cells #[.func (.func 148) #[] #[]] 174)):=heap_alloc_new w _;have HCT:Hid (∀(M7:Nat) (ax:Option Addr) (dx:Nat) (x:Pl.Tst α) (v:Value) (l:List (Pl.Tst α)) (W:World),W.heap[w.heap.size]? =some (.cells #[.func (.func 148) #[] #[]] 174)→W.heap[M7]? =some (.cells #[.int .i64 x.kind,.string ⟨x.name.toArray⟩,.string ⟨x.value.toArray⟩,.int .i64 x.a,.int .i64 x.b,.slice ax x.list.length dx] 71)→A W (.slice ax x.list.length dx) x.list→ok x→qaf (qaF A) 6 W v l→(∀y∈l,ok y)→Calls Tryz.prog 202 #[v,.func (.func 203) #[] #[.pointer (some ⟨w.heap.size,0,none⟩),.pointer (some ⟨M7,0,none⟩)]] W fun e w'=>((e=.returned (.bool true)∧x∈l)∨(e=.returned (.bool false)∧x∉l))∧Below W.heap.size W w'):=fun M7 ax dx x v l W p q r s t u=>qhE hA ok hH w.heap.size M7 ax dx x v l W p q r s t u
 have HKO:Hid (∀j,j≤l.length→∀y∈Pl.qag l j,ok y):=fun j hj y hy=>by
  refine ol y ?_;unfold Pl.qag at hy;rw[Pl.qeN]at hy
  rcases hy with hy|hy
  ·cases hy
  ·exact List.mem_of_mem_take hy
 clear hcs ol;go_enter Tryz.func172,Tryz.ntmps172;go_wp2;generalize w.alloc (.cells #[.func (.func 148) #[] #[]] 174)=w0 at *
 go_loopw [5,10] (fun u i wr=>∃k:Nat,k≤l.length∧i=.int .i64 k∧Hid (Grow (frm B) (w.heap.size+1) 71 6 (VT A) wr u (Pl.qag l k))∧Hid (Below w0.heap.size w0 wr)) (fun _ i _=>l.length-(intOf i).toNat)
 case atStart=>exact⟨0,Nat.zero_le _,rfl,Grow.nil _ _ _ _ _ _,Below.refl _ _⟩
 case round=>
  obtain⟨k,hk,rfl,HG,HBr⟩:=hrel;have HBw:Hid (Below w.heap.size w wr):=qaa HB0.out HBr.out;obtain⟨au,cu,rfl⟩:=HG.out.form
  by_cases hlt:k<l.length
  ·rcases HR.out with h0|⟨b,o,rfl,hc⟩
   ·subst h0;simp at hlt
   have hat0:=hc k hlt;have ox:=OL.out l[k] (List.getElem_mem hlt);have hko:=HKO.out k (by omega);have HY:Hid (l[k]∈Pl.qag l k→Pl.qag l (k+1)=Pl.qag l k):=fun e=>by rw[Pl.qbx hlt];unfold Pl.qbu;rw[if_pos e]
   have HN:Hid (l[k]∉Pl.qag l k→Pl.qag l (k+1)=Pl.qag l k++[l[k]]):=fun e=>by rw[Pl.qbx hlt];unfold Pl.qbu;rw[if_neg e]
   have HLN:Hid ((Pl.qag l k).length+1≤64):=by unfold Hid;have:=Pl.qb3 l k (by omega);omega
   have i1:(0:Int)≤(k:Int):=by omega
   have i2:(k:Int)<(l.length:Int):=by omega
   clear hc;generalize l[k]=y at *;have HROW:Hid (qaf (qaF A) 6 wr (.slice au (Pl.qag l k).length cu) (Pl.qag l k)):=(Grow.row (qba hS) HG.out).map fun _ _ _ hq=>hq.sub hS (qav _ _)
   generalize Pl.qag l k=kept at *;obtain⟨vy,n0,n1,n2,n3,n4,n5,hm⟩:=hat0;obtain⟨ay,dy,rfl,-⟩:=hA.form hm;have HMM:Hid (A (mask (frm B) w) (.slice ay y.list.length dy) y.list):=hm
   have HMR:Hid (∀W,Below w.heap.size w W→A W (.slice ay y.list.length dy) y.list):=fun W hW=>by
    have h1:A w (.slice ay y.list.length dy) y.list:=hS.sub hm (qav _ _);exact hA.on h1 hW
   replace n0:=qab HBw.out (qah.1 n0).2;replace n1:=qab HBw.out (qah.1 n1).2;replace n2:=qab HBw.out (qah.1 n2).2;replace n3:=qab HBw.out (qah.1 n3).2;replace n4:=qab HBw.out (qah.1 n4).2;replace n5:=qab HBw.out (qah.1 n5).2;have hba:=qac wr (.cells #[.int .i64 y.kind,.string ⟨y.name.toArray⟩,.string ⟨y.value.toArray⟩,.int .i64 y.a,.int .i64 y.b,.slice ay y.list.length dy] 71);have HBa:Hid (Below wr.heap.size wr (wr.alloc (.cells #[.int .i64 y.kind,.string ⟨y.name.toArray⟩,.string ⟨y.value.toArray⟩,.int .i64 y.a,.int .i64 y.b,.slice ay y.list.length dy] 71))):=hba;have H7:Hid ((wr.alloc (.cells #[.int .i64 y.kind,.string ⟨y.name.toArray⟩,.string ⟨y.value.toArray⟩,.int .i64 y.a,.int .i64 y.b,.slice ay y.list.length dy] 71)).heap[wr.heap.size]? =some (.cells #[.int .i64 y.kind,.string ⟨y.name.toArray⟩,.string ⟨y.value.toArray⟩,.int .i64 y.a,.int .i64 y.b,.slice ay y.list.length dy] 71)):=heap_alloc_new wr _;have HC:Hid (Calls Tryz.prog 202 _ _ _):=HCT.out wr.heap.size ay dy y (.slice au kept.length cu) kept (wr.alloc (.cells #[.int .i64 y.kind,.string ⟨y.name.toArray⟩,.string ⟨y.value.toArray⟩,.int .i64 y.a,.int .i64 y.b,.slice ay y.list.length dy] 71)) (hblk (hblk H30.out HBr.out) hba) (heap_alloc_new wr _) (HMR.out _ (qaa HBw.out hba)) ox (HROW.out.map fun _ _ _ hq=>hq.on hA hba) hko;clear hm hba ox hko HROW;obtain⟨wq,hwq⟩:∃q,q=wr:=⟨_,rfl⟩
   subst hwq
   go_wp2_with fail
   clear n0 n1 n2 n3 n4 n5;generalize wq.alloc (.cells #[.int .i64 y.kind,.string ⟨y.name.toArray⟩,.string ⟨y.value.toArray⟩,.int .i64 y.a,.int .i64 y.b,.slice ay y.list.length dy] 71)=wa at *;refine HC.out.mono ?_;rintro e w2 ⟨⟨rfl,hm⟩|⟨rfl,hm⟩,hb2⟩
   ·have HF:Hid (Pl.qag l (k+1)=kept):=HY.out hm;have hb3:Below wq.heap.size wq w2:=qaa HBa.out hb2
    have HG2:Hid (Grow (frm B) (w.heap.size+1) 71 6 (VT A) w2 (.slice au kept.length cu) (Pl.qag l (k+1))):=by
     unfold Hid;rw[HF.out];exact HG.out.move (qba hS) fun j hj hjw=>⟨hj,hb3.block j hjw⟩
    have HB2:Hid (Below w0.heap.size w0 w2):=qaa HBr.out hb3;clear hb2 hb3 hm HY HN HC;go_wp2;exact⟨⟨k+1,hlt,by go_num,HG2,HB2⟩,by simp[intOf];omega⟩
   ·have HF:Hid (Pl.qag l (k+1)=kept++[y]):=HN.out hm;have hb3:Below wq.heap.size wq w2:=qaa HBa.out hb2;have HG2:Hid (Grow (frm B) (w.heap.size+1) 71 6 (VT A) w2 (.slice au kept.length cu) kept):=HG.out.move (qba hS) fun j hj hjw=>⟨hj,hb3.block j hjw⟩
    have HB2:Hid (Below w0.heap.size w0 w2):=qaa HBr.out hb3;have HBW2:Hid (Below w.heap.size w w2):=qaa HBw.out hb3;obtain⟨q0,q1,q2,q3,q4,q5⟩:=f6 (hblk H7.out hb2)
    have hz0:w.heap.size+1≤w2.heap.size:=by
     have h1:w.heap.size<w0.heap.size:=(Array.getElem?_eq_some_iff.1 H30.out).1;have:=HB2.out.size;omega
    have HZ0:Hid _:=hz0
    have HNEW:Hid (VT A (mask (Off (frm B) (.slice au kept.length cu)) w2) [.int .i64 y.kind,.string ⟨y.name.toArray⟩,.string ⟨y.value.toArray⟩,.int .i64 y.a,.int .i64 y.b,.slice ay y.list.length dy] y):=by
     have hi:Incl (mask (frm B) w) (mask (Off (frm B) (.slice au kept.length cu)) w2):=qam fun j hj hjw=>by
      refine⟨?_,HBW2.out.block j hjw⟩;unfold Off;rw[hj];have:(Value.slice au kept.length cu).ownBlock≠some j:=fun h=>by have:=(HG2.out.own j h).2;omega
      simpa using this
     have hmm:=HMM.out;exact⟨_,rfl,(hS.sub hmm (hi):A (mask (Off (frm B) (.slice au kept.length cu)) w2) (.slice ay y.list.length dy) y.list)⟩
    clear hb2 hb3 hm HY HN HC hz0
    go_wp2_with (at_builtin;refine Hid.out ?_)
    unfold Hid;refine qaQ (qba hS) Tryz.underlying65 infT rfl (by decide) (by decide) (w2:=w2) (v:=.slice au kept.length cu) (l:=kept) (x:=y) (news:=[.int .i64 y.kind,.string ⟨y.name.toArray⟩,.string ⟨y.value.toArray⟩,.int .i64 y.a,.int .i64 y.b,.slice ay y.list.length dy]) ?_ (.tmp 18) (.tmp 20) ?_ ?_ ?_ HG2.out HNEW.out ?_ HLN.out HZ0.out ?_ ?_
    ·rfl
    ·rfl
    ·rfl
    ·first|rfl|(simp[Act.eval];done)
    ·intro u hu;simp only[List.mem_cons,List.not_mem_nil,or_false]at hu
     rcases hu with rfl|rfl|rfl|rfl|rfl|rfl<;>rfl
    ·have:=HZ0.out;simp only[frm,decide_eq_true_eq];omega
    intro g cap w3 hg3 hb3 _;have HG3:Hid (Grow (frm B) (w.heap.size+1) 71 6 (VT A) w3 (.slice (some ⟨g,0,none⟩) (kept.length+1) cap) (Pl.qag l (k+1))):=by unfold Hid;rw[HF.out];exact hg3
    have HB3:Hid (Below w0.heap.size w0 w3):=by
     refine(qaa HB2.out (qac _ _)).grown hb3 (by have:=HB2.out.size;simp;omega) (fun j hj=>?_);have h1:=(HG2.out.own j hj).2;have h2:=HZW.out;omega
    clear hg3 hb3;go_wp2;exact⟨⟨k+1,hlt,by go_num,HG3,HB3⟩,by simp[intOf];omega⟩
  ·have HF:Hid (Grow (frm B) B 71 6 (VT A) wr (.slice au (Pl.qag l k).length cu) (Pl.qaR l)):=by
    unfold Hid;have:=Grow.base HG.out (B':=B) (by omega);rw[show k=l.length by omega,Pl.qbI]at this;rw[show k=l.length by omega,Pl.qbI];exact this
   go_wp2;go_ret;exact⟨_,rfl,HF.out,HBw.out⟩
end
section
variable {α:Type} [DecidableEq α] {A:MemL α} (hA:IsL A) (ok:Pl.Pth α→Prop)
 (hH:∀(W:World) (x y:Value) (t s:Pl.Pth α),PthV A W x t→PthV A W y s→ok t→ok s→Calls Tryz.prog 108 #[x,y] W fun e w'=>e=.returned (.bool (sm t s))∧Below W.heap.size W w')
include hA hH
theorem qiQ (hS:qaK A)(V:World→List Value→Pl.Pth α→Prop)(hV:IsVB 2 V)(hVP:∀{w:World} {c:List Value} {x:Pl.Pth α},V w c x→VP A w c x)(B:Nat)(v:Value)(l:List (Pl.Pth α))(w:World)(hB:B≤w.heap.size)(hl:qaf (EV V) 2 (mask (frm B) w) v l)(h60:l.length≤60)(ol:∀y∈l,ok y):
 Calls Tryz.prog 107 #[v,.func (.func 108) #[] #[]] w fun e w'=>∃v',e=.returned v'∧Grow (frm B) B 64 2 V w' v' (Pl.qaR l)∧Below w.heap.size w w':=by
 obtain⟨a,c,rfl,-,hcs⟩:=hl;have HR:Hid _:=hcs;have OL:Hid _:=ol;have HB0:Hid (Below w.heap.size w (w.alloc (.cells #[.func (.func 108) #[] #[]] 99))):=qac _ _;have HZW:Hid ((w.alloc (.cells #[.func (.func 108) #[] #[]] 99)).heap.size=w.heap.size+1):=by unfold Hid;simp
 have H30:Hid ((w.alloc (.cells #[.func (.func 108) #[] #[]] 99)).heap[w.heap.size]? =some (.cells #[.func (.func 108) #[] #[]] 99)):=heap_alloc_new w _;have HCT:Hid (∀(M7:Nat) (ax bx:Option Addr) (dx fx:Nat) (x:Pl.Pth α) (v:Value) (l:List (Pl.Pth α)) (W:World),W.heap[w.heap.size]? =some (.cells #[.func (.func 108) #[] #[]] 99)→W.heap[M7]? =some (.cells #[.slice ax x.steps.length dx,.slice bx x.links.length fx] 64)→(qaf (qa3 A) 2 W (.slice ax x.steps.length dx) x.steps∧qaf qbe 1 W (.slice bx x.links.length fx) x.links)→ok x→qaf (qct A) 2 W v l→(∀y∈l,ok y)→Calls Tryz.prog 141 #[v,.func (.func 142) #[] #[.pointer (some ⟨w.heap.size,0,none⟩),.pointer (some ⟨M7,0,none⟩)]] W fun e w'=>((e=.returned (.bool true)∧x∈l)∨(e=.returned (.bool false)∧x∉l))∧Below W.heap.size W w'):=fun M7 ax bx dx fx x v l W p q r s t u=>qhk hA ok hH w.heap.size M7 ax bx dx fx x v l W p q r s t u
 have HKO:Hid (∀j,j≤l.length→∀y∈Pl.qag l j,ok y):=fun j hj y hy=>by
  refine ol y ?_;unfold Pl.qag at hy;rw[Pl.qeN]at hy
  rcases hy with hy|hy
  ·cases hy
  ·exact List.mem_of_mem_take hy
 clear hcs ol;go_enter Tryz.func107,Tryz.ntmps107;go_wp2;generalize w.alloc (.cells #[.func (.func 108) #[] #[]] 99)=w0 at *
 go_loopw [5,10] (fun u i wr=>∃k:Nat,k≤l.length∧i=.int .i64 k∧Hid (Grow (frm B) (w.heap.size+1) 64 2 V wr u (Pl.qag l k))∧Hid (Below w0.heap.size w0 wr)) (fun _ i _=>l.length-(intOf i).toNat)
 case atStart=>exact⟨0,Nat.zero_le _,rfl,Grow.nil _ _ _ _ _ _,Below.refl _ _⟩
 case round=>
  obtain⟨k,hk,rfl,HG,HBr⟩:=hrel;have HBw:Hid (Below w.heap.size w wr):=qaa HB0.out HBr.out;obtain⟨au,cu,rfl⟩:=HG.out.form
  by_cases hlt:k<l.length
  ·rcases HR.out with h0|⟨b,o,rfl,hc⟩
   ·subst h0;simp at hlt
   have hat0:=hc k hlt;have ox:=OL.out l[k] (List.getElem_mem hlt);have hko:=HKO.out k (by omega);have HY:Hid (l[k]∈Pl.qag l k→Pl.qag l (k+1)=Pl.qag l k):=fun e=>by rw[Pl.qbx hlt];unfold Pl.qbu;rw[if_pos e]
   have HN:Hid (l[k]∉Pl.qag l k→Pl.qag l (k+1)=Pl.qag l k++[l[k]]):=fun e=>by rw[Pl.qbx hlt];unfold Pl.qbu;rw[if_neg e]
   have HLN:Hid ((Pl.qag l k).length+1≤64):=by unfold Hid;have:=Pl.qb3 l k (by omega);omega
   have i1:(0:Int)≤(k:Int):=by omega
   have i2:(k:Int)<(l.length:Int):=by omega
   clear hc;generalize l[k]=y at *;have HROW:Hid (qaf (qct A) 2 wr (.slice au (Pl.qag l k).length cu) (Pl.qag l k)):=(Grow.row (isV_ev hV) HG.out).map fun _ _ _ hq=>(ev_p hVP hq).sub hS (qav _ _)
   generalize Pl.qag l k=kept at *;obtain⟨vy,uy,n0,n1,hvy⟩:=hat0;obtain⟨vy',uy',ey,hm1,hm2⟩:=hVP hvy;injection ey with ey1 ey2;injection ey2 with ey2 _;subst ey1 ey2;obtain⟨ay,dy,rfl⟩:=hm1.form;obtain⟨by_,fy,rfl⟩:=hm2.form;have HVY:Hid (V (mask (frm B) w) [.slice ay y.steps.length dy,.slice by_ y.links.length fy] y):=hvy;clear hvy;have hm:=And.intro hm1 hm2;have HMM:Hid ((qaf (qa3 A) 2 (mask (frm B) w) (.slice ay y.steps.length dy) y.steps∧qaf qbe 1 (mask (frm B) w) (.slice by_ y.links.length fy) y.links)):=hm
   have HMR:Hid (∀W,Below w.heap.size w W→(qaf (qa3 A) 2 W (.slice ay y.steps.length dy) y.steps∧qaf qbe 1 W (.slice by_ y.links.length fy) y.links)):=fun W hW=>by
    have h1:(qaf (qa3 A) 2 w (.slice ay y.steps.length dy) y.steps∧qaf qbe 1 w (.slice by_ y.links.length fy) y.links):=⟨hm.1.map fun _ _ _ hq=>hq.sub hS (qav _ _),qdZ hm.2 (qav _ _)⟩
    exact⟨h1.1.map fun _ _ _ hq=>hq.on hA hW,h1.2.map fun _ _ _ hq=>qab hW hq⟩
   replace n0:=qab HBw.out (qah.1 n0).2;replace n1:=qab HBw.out (qah.1 n1).2;have hba:=qac wr (.cells #[.slice ay y.steps.length dy,.slice by_ y.links.length fy] 64);have HBa:Hid (Below wr.heap.size wr (wr.alloc (.cells #[.slice ay y.steps.length dy,.slice by_ y.links.length fy] 64))):=hba;have H7:Hid ((wr.alloc (.cells #[.slice ay y.steps.length dy,.slice by_ y.links.length fy] 64)).heap[wr.heap.size]? =some (.cells #[.slice ay y.steps.length dy,.slice by_ y.links.length fy] 64)):=heap_alloc_new wr _;have HC:Hid (Calls Tryz.prog 141 _ _ _):=HCT.out wr.heap.size ay by_ dy fy y (.slice au kept.length cu) kept (wr.alloc (.cells #[.slice ay y.steps.length dy,.slice by_ y.links.length fy] 64)) (hblk (hblk H30.out HBr.out) hba) (heap_alloc_new wr _) (HMR.out _ (qaa HBw.out hba)) ox (HROW.out.map fun _ _ _ hq=>hq.on hA hba) hko;clear hm hba ox hko HROW hm1 hm2;obtain⟨wq,hwq⟩:∃q,q=wr:=⟨_,rfl⟩
   subst hwq
   go_wp2_with fail
   clear n0 n1;generalize wq.alloc (.cells #[.slice ay y.steps.length dy,.slice by_ y.links.length fy] 64)=wa at *;refine HC.out.mono ?_;rintro e w2 ⟨⟨rfl,hm⟩|⟨rfl,hm⟩,hb2⟩
   ·have HF:Hid (Pl.qag l (k+1)=kept):=HY.out hm;have hb3:Below wq.heap.size wq w2:=qaa HBa.out hb2
    have HG2:Hid (Grow (frm B) (w.heap.size+1) 64 2 V w2 (.slice au kept.length cu) (Pl.qag l (k+1))):=by
     unfold Hid;rw[HF.out];exact HG.out.move (isV_ev hV) fun j hj hjw=>⟨hj,hb3.block j hjw⟩
    have HB2:Hid (Below w0.heap.size w0 w2):=qaa HBr.out hb3;clear hb2 hb3 hm HY HN HC;go_wp2;exact⟨⟨k+1,hlt,by go_num,HG2,HB2⟩,by simp[intOf];omega⟩
   ·have HF:Hid (Pl.qag l (k+1)=kept++[y]):=HN.out hm;have hb3:Below wq.heap.size wq w2:=qaa HBa.out hb2;have HG2:Hid (Grow (frm B) (w.heap.size+1) 64 2 V w2 (.slice au kept.length cu) kept):=HG.out.move (isV_ev hV) fun j hj hjw=>⟨hj,hb3.block j hjw⟩
    have HB2:Hid (Below w0.heap.size w0 w2):=qaa HBr.out hb3;have HBW2:Hid (Below w.heap.size w w2):=qaa HBw.out hb3;obtain⟨q0,q1⟩:=f2 (hblk H7.out hb2)
    have hz0:w.heap.size+1≤w2.heap.size:=by
     have h1:w.heap.size<w0.heap.size:=(Array.getElem?_eq_some_iff.1 H30.out).1;have:=HB2.out.size;omega
    have HZ0:Hid _:=hz0
    have HNEW:Hid (V (mask (Off (frm B) (.slice au kept.length cu)) w2) [.slice ay y.steps.length dy,.slice by_ y.links.length fy] y):=by
     have hi:Incl (mask (frm B) w) (mask (Off (frm B) (.slice au kept.length cu)) w2):=qam fun j hj hjw=>by
      refine⟨?_,HBW2.out.block j hjw⟩;unfold Off;rw[hj];have:(Value.slice au kept.length cu).ownBlock≠some j:=fun h=>by have:=(HG2.out.own j h).2;omega
      simpa using this
     exact hV.sub HVY.out hi
    clear hb2 hb3 hm HY HN HC hz0
    go_wp2_with (at_builtin;refine Hid.out ?_)
    unfold Hid;refine qaQ (isV_ev hV) Tryz.underlying29 infP rfl (by decide) (by decide) (w2:=w2) (v:=.slice au kept.length cu) (l:=kept) (x:=y) (news:=[.slice ay y.steps.length dy,.slice by_ y.links.length fy]) ?_ (.tmp 18) (.tmp 20) ?_ ?_ ?_ HG2.out HNEW.out ?_ HLN.out HZ0.out ?_ ?_
    ·rfl
    ·rfl
    ·rfl
    ·first|rfl|(simp[Act.eval];done)
    ·intro u hu;simp only[List.mem_cons,List.not_mem_nil,or_false]at hu
     rcases hu with rfl|rfl<;>rfl
    ·have:=HZ0.out;simp only[frm,decide_eq_true_eq];omega
    intro g cap w3 hg3 hb3 _;have HG3:Hid (Grow (frm B) (w.heap.size+1) 64 2 V w3 (.slice (some ⟨g,0,none⟩) (kept.length+1) cap) (Pl.qag l (k+1))):=by unfold Hid;rw[HF.out];exact hg3
    have HB3:Hid (Below w0.heap.size w0 w3):=by
     refine(qaa HB2.out (qac _ _)).grown hb3 (by have:=HB2.out.size;simp;omega) (fun j hj=>?_);have h1:=(HG2.out.own j hj).2;have h2:=HZW.out;omega
    clear hg3 hb3;go_wp2;exact⟨⟨k+1,hlt,by go_num,HG3,HB3⟩,by simp[intOf];omega⟩
  ·have HF:Hid (Grow (frm B) B 64 2 V wr (.slice au (Pl.qag l k).length cu) (Pl.qaR l)):=by
    unfold Hid;have:=Grow.base HG.out (B':=B) (by omega);rw[show k=l.length by omega,Pl.qbI]at this;rw[show k=l.length by omega,Pl.qbI];exact this
   go_wp2;go_ret;exact⟨_,rfl,HF.out,HBw.out⟩
end
end Go.Proofs.YtephhllfodlfbaaGreatDoor
