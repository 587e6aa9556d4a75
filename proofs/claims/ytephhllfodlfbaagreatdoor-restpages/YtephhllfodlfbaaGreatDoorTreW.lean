/-
  An index that is being built, in memory: the row of its entries, each with a row of places of its own; one entry more; one place more.
-/
import Derived.Test.YtephhllfodlfbaaGreatDoorIdxS
import Derived.Laws.CopyOwn
namespace Go.Proofs.YtephhllfodlfbaaGreatDoor
open Go.RowKit
namespace Pl
theorem put1_ins {k:Key}{n:Nat}:∀{l:List En} {i:Nat},i≤l.length→(∀j (h:j<l.length),j<i→qas l[j].key k=true)→(∀h:i<l.length,qas l[i].key k=false∧qas k l[i].key=true)→
 put1 k n l=l.take i++⟨k,[n]⟩::l.drop i
 | [],i,h,_,_=>by
  obtain rfl:i=0:=by simpa using h
  rfl
 | e::r,0,_,_,h2=>by
  obtain⟨a,b⟩:=h2 (by simp);simp only[List.getElem_cons_zero]at a b;unfold put1;rw[if_neg (by rw[a];simp),if_pos b];rfl
 | e::r,i+1,h,h1,h2=>by
  have a:=h1 0 (by simp) (by omega);simp only[List.getElem_cons_zero]at a;have ih:=put1_ins (k:=k) (n:=n) (l:=r) (i:=i) (by simpa using h) (fun j hj hji=>by have:=h1 (j+1) (by simpa using hj) (by omega);simpa using this) (fun hi=>by have:=h2 (by simpa using hi);simpa using this);unfold put1;rw[if_pos a,ih];rfl
theorem put1_set {k:Key}{n:Nat}:∀{l:List En} {i:Nat} (hi:i<l.length),(∀j (h:j<l.length),j<i→qas l[j].key k=true)→qas l[i].key k=false→qas k l[i].key=false→
 put1 k n l=l.set i ⟨l[i].key,l[i].nodes++[n]⟩
 | [],i,h,_,_,_=>by simp at h
 | e::r,0,_,_,a,b=>by
  simp only[List.getElem_cons_zero]at a b;unfold put1;rw[if_neg (by rw[a];simp),if_neg (by rw[b];simp)];rfl
 | e::r,i+1,h,h1,a,b=>by
  have c:=h1 0 (by simp) (by omega);simp only[List.getElem_cons_zero]at c;have ih:=put1_set (k:=k) (n:=n) (l:=r) (i:=i) (by simpa using h) (fun j hj hji=>by have:=h1 (j+1) (by simpa using hj) (by omega);simpa using this) (by simpa using a) (by simpa using b);unfold put1;rw[if_pos c,ih];simp
end Pl
abbrev EP:=Pl.En×Value
def qau (ps:List EP):List Value:=ps.flatMap fun p=>[.int .i64 p.1.key.1,.string ⟨p.1.key.2.toArray⟩,p.2]
theorem qaT (p:EP)(ps:List EP):qau (p::ps)=.int .i64 p.1.key.1:: .string ⟨p.1.key.2.toArray⟩::p.2::qau ps:=by simp[qau]
theorem qcA (ps qs:List EP):qau (ps++qs)=qau ps++qau qs:=by simp[qau]
theorem qdf:∀ps:List EP,(qau ps).length=ps.length*3
 | []=>rfl
 | p::r=>by rw[qaT];simp[qdf r];omega
theorem qb6:∀(ps:List EP) (i:Nat) (h:i<ps.length),(qau ps)[i*3]? =some (.int .i64 ps[i].1.key.1)∧(qau ps)[i*3+1]? =some (.string ⟨ps[i].1.key.2.toArray⟩)∧(qau ps)[i*3+2]? =some ps[i].2
 | [],i,h=>by simp at h
 | p::r,0,_=>by rw[qaT];simp
 | p::r,i+1,h=>by
  have:=qb6 r i (by simpa using h);rw[qaT,show (i+1)*3=i*3+1+1+1 by omega]
  simpa using this
theorem qdl:∀(ps:List EP) (i:Nat),(qau ps).take (i*3)=qau (ps.take i)
 | [],i=>by simp[qau]
 | p::r,0=>by simp[qau]
 | p::r,i+1=>by
  rw[qaT,show (i+1)*3=i*3+1+1+1 by omega,List.take_succ_cons,List.take_succ_cons,List.take_succ_cons,qdl r i,List.take_succ_cons,qaT]
theorem qez:∀(ps:List EP) (i:Nat),(qau ps).drop (i*3)=qau (ps.drop i)
 | [],i=>by simp[qau]
 | p::r,0=>by simp
 | p::r,i+1=>by
  rw[qaT,show (i+1)*3=i*3+1+1+1 by omega,List.drop_succ_cons,List.drop_succ_cons,List.drop_succ_cons,qez r i,List.drop_succ_cons]
theorem qgT:∀(rs:List EP) (i:Nat) (_:i<rs.length) (e:EP),(((qau rs).set (i*3) (.int .i64 e.1.key.1)).set (i*3+1) (.string ⟨e.1.key.2.toArray⟩)).set (i*3+2) e.2=qau (rs.set i e)
 | [],i,h,_=>by simp at h
 | p::r,0,_,e=>by simp[qaT]
 | p::r,i+1,h,e=>by
  have:=qgT r i (by simpa using h) e;rw[qaT,show (i+1)*3=i*3+1+1+1 by omega];simp only[List.set_cons_succ,show i*3+1+1+1+1=(i*3+1)+1+1+1 by omega,show i*3+1+1+1+2=(i*3+2)+1+1+1 by omega];rw[this,qaT]
theorem qfO:∀(rs:List EP) (i:Nat) (h:i<rs.length) (e:EP),e.1.key=rs[i].1.key→(qau rs).set (i*3+2) e.2=qau (rs.set i e)
 | [],i,h,_,_=>by simp at h
 | p::r,0,_,e,he=>by simp only[List.getElem_cons_zero]at he;simp[qaT,he]
 | p::r,i+1,h,e,he=>by
  have:=qfO r i (by simpa using h) e (by simpa using he);rw[qaT,show (i+1)*3+2=(i*3+2)+1+1+1 by omega];simp only[List.set_cons_succ];rw[this,qaT]
def Apart (p q:EP):Prop:=∀g,p.2.ownBlock=some g→q.2.ownBlock≠some g
theorem Apart.symm {p q:EP}(h:Apart p q):Apart q p:=fun g h1 h2=>h g h2 h1
structure ERow (B:Nat)(w:World)(v:Value)(ps:List EP):Prop where
 own:w.ownsRow B 61 3 v ps.length (qau ps)
 ints:∀p∈ps,w.ownsRow B 3 1 p.2 p.1.nodes.length (qaE p.1.nodes)
 apart:ps.Pairwise Apart
 off:∀p∈ps,∀g,p.2.ownBlock=some g→v.ownBlock≠some g
theorem ERow.nil (B:Nat)(w:World):ERow B w (.slice none 0 0) []:=⟨World.ownsRow_nil _ _ _ _,by simp,List.Pairwise.nil,by simp⟩
theorem ERow.on {B:Nat}{w w':World}{v:Value}{ps:List EP}(h:ERow B w v ps)(hb:Below w.heap.size w w'):ERow B w' v ps:=
 ⟨qbt h.own hb,fun p hp=>qbt (h.ints p hp) hb,h.apart,h.off⟩
theorem ERow.form {B:Nat}{w:World}{v:Value}{ps:List EP}(h:ERow B w v ps):∃a c,v=.slice a ps.length c:=qcV h.own
theorem qhA {w:World}{B B':Nat}{e:TypeId}{size:Nat}{v:Value}{n:Nat}{xs:List Value}(h:w.ownsRow B e size v n xs)(hb:B'≤B):w.ownsRow B' e size v n xs:=by
 refine⟨h.1,?_⟩
 rcases h.2 with h0|⟨g,cap,cur,e1,hg,rest⟩
 ·exact Or.inl h0
 ·exact Or.inr ⟨g,cap,cur,e1,by omega,rest⟩
theorem ERow.mono {B B':Nat}{w:World}{v:Value}{ps:List EP}(h:ERow B w v ps)(hb:B'≤B):ERow B' w v ps:=
 ⟨qhA h.own hb,fun p hp=>qhA (h.ints p hp) hb,h.apart,h.off⟩
def Clear (g:Nat)(v:Value)(ps:List EP):Prop:=v.ownBlock≠some g∧∀p∈ps,p.2.ownBlock≠some g
theorem ERow.clear {B:Nat}{w:World}{v:Value}{ps:List EP}(h:ERow B w v ps){g:Nat}(hg:g<B∨w.heap.size≤g):Clear g v ps:=by
 refine⟨fun e=>?_,fun p hp e=>?_⟩
 ·have:=World.ownsRow.lt h.own g e;omega
 ·have:=World.ownsRow.lt (h.ints p hp) g e;omega
def e0:EP:=(⟨(0,[]),[]⟩,.slice none 0 0)
theorem qfs {ops:Array Oper}{rest:List Oper}{o:Oper}{a:Act}{Q:Exit→Act→World→Prop}{B:Nat}{w2:World}{v:Value}{ps:List EP}(hgd:o.guard=none)(s t:Operand)
 (ho:o.op=.call { callee:=.builtin .append,args:= #[s,t],argTypes:= #[30,30] }) (hs:a.eval s=v) (hx:a.eval t=.slice (some ⟨w2.heap.size,0,none⟩) 1 1)
 (hown:w2.ownsRow B 61 3 v ps.length (qau ps)) (hlen:ps.length+1≤100000) (hB:B≤w2.heap.size)
 (h:∀g cap w',w'.ownsRow B 61 3 (.slice (some ⟨g,0,none⟩) (ps.length+1) cap) (ps.length+1) (qau (ps++[e0]))→(w2.alloc (.cells #[.int .i64 0,.string ⟨#[]⟩,.slice none 0 0] 61)).grownBy w' v.ownBlock→(v.ownBlock=some g∨g=w2.heap.size+1)→g<w'.heap.size→wpList Tryz.prog ops Q rest (a.put o.dst (.slice (some ⟨g,0,none⟩) (ps.length+1) cap)) w'):
 wpList Tryz.prog ops Q (o::rest) a (w2.alloc (.cells #[.int .i64 0,.string ⟨#[]⟩,.slice none 0 0] 61)):=by
 obtain⟨i0,hi,hz0,hz1,hz2⟩:=info_parts Tryz.info61;refine wpList_append_lies _ hgd s t 30 ho B 61 i0 _ 3 48 Tryz.underlying30 hi hz0 hz1 hz2 rfl (by decide) v ps.length (qau ps) hs (qbt hown (qac _ _)) ⟨w2.heap.size,0,none⟩ 1 1 [.int .i64 0,.string ⟨#[]⟩,.slice none 0 0] hx rfl ?_ ?_ (by decide) (by unfold maxLen;omega) (by omega) (by simp;omega) (w2.heap.size+1) (by simp) ?_
 ·exact World.news_of_block (heap_alloc_new w2 _)
 ·intro u hu;simp only[List.mem_cons,List.not_mem_nil,or_false]at hu
  rcases hu with rfl|rfl|rfl<;>rfl
 ·intro g cap w' h1 h2 h3 h4;exact h g cap w' (by rw[qcA];exact h1) h2 h3 h4
theorem take_two {α:Type}{A X D:List α}{a x:Nat}(hA:A.length=a)(hX:X.length=x):(A++(X++D)).take (a+x)=A++X:=by
 rw[←List.append_assoc,List.take_append_of_le_length (by simp;omega),List.take_of_length_le (by simp;omega)]
theorem Tryz.size81:(Tryz.prog.info? 61).map (·.size)=some 3:=by kernel_rfl
theorem run_ecopy (w:World)(ty:TypeId)(dp sp:Option Addr)(dLen dCap sLen sCap:Nat)(B g n cap i:Nat)(qs:List EP)
 (hown:w.ownsRow B 61 3 (.slice (some ⟨g,0,none⟩) (n+1) cap) (n+1) (qau qs)) (hq:qs.length=n+1) (hi:i≤n) (hdl:dLen=n-i) (hsl:sLen=n+1-i)
 (hdp:i<n→dp=some ⟨g,(i+1)*3,none⟩) (hsp:i<n→sp=some ⟨g,i*3,none⟩) (h1c:∀v∈qau qs,v.oneCell'=true):
 ∃w',(Builtin.copy_ #[30,30] ty #[.slice dp dLen dCap,.slice sp sLen sCap]).run Tryz.prog w=.ok (goInt ((n-i:Nat):Int)) w'∧
  w'.ownsRow B 61 3 (.slice (some ⟨g,0,none⟩) (n+1) cap) (n+1) (qau (qs.take (i+1)++(qs.drop i).take (n-i)))∧w.grownBy w' (some g):=by
 subst hdl hsl;have hu:=Tryz.underlying30
 cases hq1:Tryz.prog.info? 61 with
 | none=>have:=Tryz.size81;rw[hq1]at this;cases this
 | some ii=>
 have hsz:ii.size=3:=by have:=Tryz.size81;rw[hq1]at this;simpa using this
 have hmin:Nat.min (n+1-i) (n-i)=n-i:=Nat.min_eq_right (by omega)
 by_cases hlt:i<n
 ·obtain rfl:=hdp hlt;obtain rfl:=hsp hlt;obtain⟨hl,hh⟩:=hown
  rcases hh with ⟨h0,_⟩|⟨g',cap',cur,h',hb,hg,hnc,hcm,hcs,htake⟩
  ·cases h0
  simp only[Value.slice.injEq,Option.some.injEq,Addr.mk.injEq,and_true,true_and]at h';obtain⟨rfl,rfl⟩:=h';have hcl:(qau ((qs.drop i).take (n-i))).length=(n-i)*3:=by rw[qdf];simp;omega
  have hrow:∀j u,(qau ((qs.drop i).take (n-i)))[j]? =some u→w.cell? ((⟨g,i*3,none⟩:Addr).add j)=some u:=by
   intro j u hj
   have hj2:j<(n-i)*3:=by
    have:=(List.getElem?_eq_some_iff.1 hj).1;rw[hcl]at this;exact this
   rw[Addr.add_lit,cell_of_row w g (i*3+j) cur 61 (0,0) hg];rw[←qdl,List.getElem?_take,if_pos hj2,←qez,List.getElem?_drop,←htake,List.getElem?_take,if_pos (by omega)]at hj
   simpa using hj
  have hf:=run_firstCells_some (P:=Tryz.prog) w 3 (n-i) ⟨g,i*3,none⟩ (n+1-i) sCap (qau ((qs.drop i).take (n-i))) hcl hrow;have hcur:(n+1)*3≤cur.size:=by rw[hcs];exact Nat.mul_le_mul_right 3 hnc
  have hst:=run_storeCells_at Tryz.prog g ((i+1)*3) 61 (qau ((qs.drop i).take (n-i))) 0 cur w hg (by rw[hcl];omega) (by
   intro v hv;refine h1c v ?_;rw[←qdl,←qez]at hv
   exact List.mem_of_mem_drop (List.mem_of_mem_take hv))
  refine⟨w.setRow g (cur.toList.take ((i+1)*3)++(qau ((qs.drop i).take (n-i))++cur.toList.drop ((i+1)*3+(qau ((qs.drop i).take (n-i))).length))).toArray,by simp[Builtin.copy_,run_underlying hu,Builtin.lenOf,sizeOf,typeInfo,hq1,hsz,hmin,hf,hst],⟨?_,Or.inr ⟨g,cap,_,rfl,hb,setRow_heap w g cur _ 61 _ hg,hnc,hcm,?_,?_⟩⟩,⟨rfl,rfl,rfl,by simp,fun k _ hk=>setRow_other w g k _ (fun e=>hk (by rw[e]))⟩⟩
  ·rw[qdf];simp;omega
  ·simp only[List.size_toArray,List.length_append,List.length_take,List.length_drop,Array.length_toList,hcl];omega
  ·rw[qcA];rw[←qdl qs (i+1),←htake,List.take_take,Nat.min_eq_left (by omega)];have e1:(cur.toList.take ((i+1)*3)).length=(i+1)*3:=by simp;omega
   rw[show (n+1)*3=(i+1)*3+(n-i)*3 by omega];exact take_two e1 hcl
 ·obtain rfl:i=n:=by omega
  refine⟨w,?_,?_,⟨rfl,rfl,rfl,Nat.le_refl _,fun _ _ _=>rfl⟩⟩
  ·have hz:i+1-i=1:=by omega
   cases sp<;>cases dp<;>simp[Builtin.copy_,run_underlying hu,Builtin.lenOf,sizeOf,typeInfo,hq1,Builtin.firstCells,loadCells,loadCellsFrom,storeCells]
  ·rw[Nat.sub_self,List.take_zero,List.append_nil,List.take_of_length_le (by omega)];exact hown
theorem qdQ {t:TypeId}{e:TypeId}(ht:Tryz.prog.underlying t=some (.slice e)){i:TypeInfo}(hi:Tryz.prog.info? e=some i)(q:Addr)(a:Option Addr)(c:Nat)(ty:TypeId)(w:World):
 (Builtin.append_ #[t,t] ty #[.slice (some q) 0 0,.slice a 0 c]).run Tryz.prog w=.ok (.slice (some q) 0 0) w:=by
 cases a with
 | none=>simp[Builtin.append_,run_underlying ht,sizeOf,typeInfo,hi,Builtin.lenOf,Builtin.firstCells,storeCells]
 | some p=>
  have h0:=run_loadCells_list (P:=Tryz.prog) w p [] (fun j v hj=>by simp at hj);simp only[List.length_nil]at h0;simp[Builtin.append_,run_underlying ht,sizeOf,typeInfo,hi,Builtin.lenOf,Builtin.firstCells,h0,storeCells]
theorem qhd {w:World}{ops:Array Oper}{rest:List Oper}{o:Oper}{a:Act}{Q:Exit→Act→World→Prop}(hgd:o.guard=none)(s x:Operand)
 (ho:o.op=.call { callee:=.builtin .append,args:= #[s,x],argTypes:= #[25,25] }) (H:Nat) (hH:w.heap.size=H) (hs:a.eval s=.slice (some ⟨H,0,none⟩) 0 0) (xv:Value) (ss:List (List UInt8)) (hx:a.eval x=xv) (hS:qa1 w xv ss) (hl:ss.length≤6)
 (h:∀a' c' w',qaB w.heap.size w' (.slice a' ss.length c') ss→Below w.heap.size w w'→wpList Tryz.prog ops Q rest (a.put o.dst (.slice a' ss.length c')) w'):wpList Tryz.prog ops Q (o::rest) a (w.alloc (.cells #[] 9)):=by
 subst hH;obtain⟨i9,hi9,hz0,hz1,hz2⟩:=info_parts Tryz.info9;obtain⟨ad,cap,rfl,hc⟩:=hS
 rcases hc with rfl|⟨b,of,rfl,hc⟩
 ·refine wpList_plain hgd fun K hK=>?_
  have hr:=qdQ Tryz.underlying25 hi9 ⟨w.heap.size,0,none⟩ ad cap o.type (w.alloc (.cells #[] 9));unfold Oper.wp execOp;simp only[ho,resolve,invoke,builtin,Sem.run_bind,Sem.run_pure,Result.andThen_ok,List.map_toArray,List.map_cons,List.map_nil,hs,hx,List.length_nil,hr];exact hK _ _ (h _ 0 _ ⟨_,0,rfl,Or.inl rfl⟩ (qac _ _))
 ·have hown:(w.alloc (.cells #[] 9)).ownsRow w.heap.size 9 1 (.slice (some ⟨w.heap.size,0,none⟩) 0 0) 0 []:=World.ownsRow_made w #[] 0 (Nat.le_refl _) (Nat.zero_le _) rfl;refine wpList_append_own _ hgd s x 25 ho w.heap.size 9 i9 (.string ⟨#[]⟩) 1 16 Tryz.underlying25 hi9 hz0 hz1 hz2 rfl (by decide) _ 0 [] hs hown ⟨b,of,none⟩ ss.length cap (strCells ss) hx (by simp[strCells]) ?_ ?_ (by unfold maxLen;omega) (by omega) (by simp) ?_
  ·intro j u hj
   have hlt:j<ss.length:=by
    have:=(List.getElem?_eq_some_iff.1 hj).1
    simpa [strCells] using this
   rw[Addr.add_lit,qab (qac _ _) (hc j hlt)];simp[strCells,List.getElem?_eq_getElem hlt]at hj;rw[hj]
  ·intro u hu;simp only[strCells,List.mem_map]at hu;obtain⟨_,_,rfl⟩:=hu;rfl
  ·intro v' w' hown hg _;rw[Nat.zero_add,List.nil_append]at hown;have hS':=qgu hown;obtain⟨a',c',rfl,hcc⟩:=id hS';exact h a' c' w' hS' ((qac w _).grown hg (by simp) (fun k hk=>by simp[Value.ownBlock]at hk;omega))
theorem qhw {w:World}{ops:Array Oper}{rest:List Oper}{o:Oper}{a:Act}{Q:Exit→Act→World→Prop}(hgd:o.guard=none)(s x:Operand)
 (ho:o.op=.call { callee:=.builtin .append,args:= #[s,x],argTypes:= #[26,26] }) (H:Nat) (hH:w.heap.size=H) (hs:a.eval s=.slice (some ⟨H,0,none⟩) 0 0) (xv:Value) (ss:List (List UInt8×List UInt8)) (hx:a.eval x=xv) (hS:qbY w xv ss) (hl:ss.length≤4)
 (h:∀a' c' w',qaM w.heap.size w' (.slice a' ss.length c') ss→Below w.heap.size w w'→wpList Tryz.prog ops Q rest (a.put o.dst (.slice a' ss.length c')) w'):wpList Tryz.prog ops Q (o::rest) a (w.alloc (.cells #[] 59)):=by
 subst hH;obtain⟨i9,hi9,hz0,hz1,hz2⟩:=info_parts Tryz.info59;obtain⟨ad,cap,rfl,hc⟩:=hS
 rcases hc with rfl|⟨b,of,rfl,hc⟩
 ·refine wpList_plain hgd fun K hK=>?_
  have hr:=qdQ Tryz.underlying26 hi9 ⟨w.heap.size,0,none⟩ ad cap o.type (w.alloc (.cells #[] 59));unfold Oper.wp execOp;simp only[ho,resolve,invoke,builtin,Sem.run_bind,Sem.run_pure,Result.andThen_ok,List.map_toArray,List.map_cons,List.map_nil,hs,hx,List.length_nil,hr];exact hK _ _ (h _ 0 _ ⟨_,0,rfl,Or.inl rfl⟩ (qac _ _))
 ·have hown:(w.alloc (.cells #[] 59)).ownsRow w.heap.size 59 2 (.slice (some ⟨w.heap.size,0,none⟩) 0 0) 0 []:=World.ownsRow_made w #[] 0 (Nat.le_refl _) (Nat.zero_le _) rfl;refine wpList_append_own _ hgd s x 26 ho w.heap.size 59 i9 (.agg #[.string ⟨#[]⟩,.string ⟨#[]⟩]) 2 32 Tryz.underlying26 hi9 hz0 hz1 hz2 rfl (by decide) _ 0 [] hs hown ⟨b,of,none⟩ ss.length cap (qb1 ss) hx (qel ss) ?_ ?_ (by unfold maxLen;omega) (by omega) (by simp) ?_
  ·intro j u hj;obtain⟨i,hi,⟨rfl,rfl⟩|⟨rfl,rfl⟩⟩:=qcM ss j u hj
   ·rw[Addr.add_lit];exact qab (qac _ _) (hc i hi).1
   ·rw[Addr.add_lit];exact qab (qac _ _) (hc i hi).2
  ·intro u hu;obtain⟨j,hj⟩:=List.getElem?_of_mem hu;obtain⟨i,hi,⟨rfl,rfl⟩|⟨rfl,rfl⟩⟩:=qcM ss j u hj<;>rfl
  ·intro v' w' hown hg _;rw[Nat.zero_add,List.nil_append]at hown;have hS':=qgH hown;obtain⟨a',c',rfl,hcc⟩:=id hS';exact h a' c' w' hS' ((qac w _).grown hg (by simp) (fun k hk=>by simp[Value.ownBlock]at hk;omega))
namespace Pl
def ndAt (ns:List Nd)(n:Nat):Nd:=match ns[n]? with|some x=>x|none=>⟨0,[],[],[],[]⟩
theorem ndAt_eq (ns:List Nd)(n:Nat)(h:n<ns.length):ndAt ns n=ns[n]:=by unfold ndAt;rw[List.getElem?_eq_getElem h]
def qdL (sub:Nat→F)(ns:List Nd)(l:List Nat):F:=l.foldr (fun n r=> .cons (ndAt ns n) (sub n) r) .nil
def qat (ns:List Nd):Nat→List Nat→F
 | 0,_=> .nil
 | f+1,l=>qdL (fun n=>qat ns f (qae ns n)) ns l
theorem qhZ (sub:Nat→F)(ns:List Nd)(l:List Nat):(qdL sub ns l).len=l.length:=by
 unfold qdL
 induction l with
 | nil=>rfl
 | cons a r ih=>simp[F.len,ih]
theorem trees_snoc (sub:Nat→F)(ns:List Nd)(l:List Nat)(m:Nat):qdL sub ns (l++[m])=(qdL sub ns l).app (.cons (ndAt ns m) (sub m) .nil):=by
 unfold qdL
 induction l with
 | nil=>rfl
 | cons a r ih=>simp only[List.cons_append,List.foldr_cons,F.app,ih]
theorem qfd {ns:List Nd}{n:Int}{k:Nat}(h:k∈qae ns n):k<ns.length∧upOf ns k=n:=by
 unfold qae qaJ at h;rw[List.mem_filter,List.mem_range]at h;exact⟨h.1,by simpa using h.2⟩
end Pl
def qbN (w:World)(N:Nat)(c0 c1 c2 c3 c4 c5:Value):World:=(((((w.setCell ⟨N,0,none⟩ c0).setCell ⟨N,1,none⟩ c1).setCell ⟨N,2,none⟩ c2).setCell ⟨N,3,none⟩ c3).setCell ⟨N,4,none⟩ c4).setCell ⟨N,5,none⟩ c5
theorem qeB (w:World)(N:Nat)(c0 c1 c2 c3 c4 c5:Value)(j:Nat)(h:j≠N):(qbN w N c0 c1 c2 c3 c4 c5).heap[j]? =w.heap[j]? :=by
 unfold qbN;rw[Below.heap_setCell _ _ _ _ h,Below.heap_setCell _ _ _ _ h,Below.heap_setCell _ _ _ _ h,Below.heap_setCell _ _ _ _ h,Below.heap_setCell _ _ _ _ h,Below.heap_setCell _ _ _ _ h]
theorem qeX {B:Nat}{w0 w:World}(h:Below B w0 w)(N:Nat)(hN:B≤N)(c0 c1 c2 c3 c4 c5:Value):Below B w0 (qbN w N c0 c1 c2 c3 c4 c5):=
 (((((h.setCell (p:=⟨N,0,none⟩) hN c0).setCell (p:=⟨N,1,none⟩) hN c1).setCell (p:=⟨N,2,none⟩) hN c2).setCell (p:=⟨N,3,none⟩) hN c3).setCell (p:=⟨N,4,none⟩) hN c4).setCell (p:=⟨N,5,none⟩) hN c5
theorem qci {w3 W w':World}{g:Option Nat}(h:w3.grownBy W g)(hb:Below W.heap.size W w'):w3.grownBy w' g:=
 ⟨hb.os.trans h.os,hb.tape.trans h.tape,hb.output.trans h.output,Nat.le_trans h.size hb.size,fun k hk hne=>(hb.block k (Nat.lt_of_lt_of_le hk h.size)).trans (h.block k hk hne)⟩
theorem qbK {w3 W w':World}{g g':Option Nat}(h:w3.grownBy W g)(hb:W.grownBy w' g')(hg:∀k,g'=some k→some k=g∨w3.heap.size≤k):w3.grownBy w' g:=
 ⟨hb.os.trans h.os,hb.tape.trans h.tape,hb.output.trans h.output,Nat.le_trans h.size hb.size,fun k hk hne=>(hb.block k (Nat.lt_of_lt_of_le hk h.size) (fun e=>by rcases hg k e.symm with h1|h1;exact hne h1;omega)).trans (h.block k hk hne)⟩
theorem gb_set {w3 W:World}{M:Nat}(h:w3.grownBy W (some M))(i:Nat)(v:Value):w3.grownBy (W.setCell ⟨M,i,none⟩ v) (some M):=
 ⟨h.os,h.tape,h.output,by simpa [World.setCell] using h.size,fun k hk hne=>(Below.heap_setCell _ _ _ _ (by intro e;exact hne (by rw[e]))).trans (h.block k hk hne)⟩
abbrev Two (p q:Addr)(u v:Value)(w3:World)(g:Option Nat)(W:World):Prop:=W.cell? p=some u∧W.cell? q=some v∧w3.grownBy W g
theorem two_of {p q:Addr}{u v:Value}{w3:World}{g:Option Nat}(hp:w3.cell? p=some u)(hq:w3.cell? q=some v)(np:some p.block≠g)(nq:some q.block≠g){w':World}(h:w3.grownBy w' g):Two p q u v w3 g w':=
 ⟨h.cell hp np,h.cell hq nq,h⟩
end Go.Proofs.YtephhllfodlfbaaGreatDoor
