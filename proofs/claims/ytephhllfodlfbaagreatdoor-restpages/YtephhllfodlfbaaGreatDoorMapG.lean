/-
  An index that is being built, in memory: an entry put in its place, and a place more for an entry.
-/
import Derived.Test.YtephhllfodlfbaaGreatDoorTreW
import Derived.Maps.OwnRows
import Derived.DeepKeys5
import Derived.WideKeyEntry
namespace Go.Proofs.YtephhllfodlfbaaGreatDoor
open Go.RowKit
theorem qgJ {ops:Array Oper}{o:Oper}{a:Act}{w:World}{K:Act→World→Prop}{Q:Exit→Act→World→Prop}{E:Prop}(hgd:o.guard=none)(d s:Operand)
 (ho:o.op=.call { callee:=.builtin .copy,args:= #[d,s],argTypes:= #[30,30] }) (dp sp:Option Addr) (dLen dCap sLen sCap:Nat) (hd:a.eval d=.slice dp dLen dCap) (hs:a.eval s=.slice sp sLen sCap)
 (B g n cap i:Nat) (qs:List EP) (hown:w.ownsRow B 61 3 (.slice (some ⟨g,0,none⟩) (n+1) cap) (n+1) (qau qs)) (hq:qs.length=n+1) (hi:i≤n) (hdl:dLen=n-i) (hsl:sLen=n+1-i)
 (hdp:i<n→dp=some ⟨g,(i+1)*3,none⟩) (hsp:i<n→sp=some ⟨g,i*3,none⟩) (h1c:∀v∈qau qs,v.oneCell'=true)
 (h:∀w',Hid (w'.ownsRow B 61 3 (.slice (some ⟨g,0,none⟩) (n+1) cap) (n+1) (qau (qs.take (i+1)++(qs.drop i).take (n-i))))→Hid (w.grownBy w' (some g))→K (a.put o.dst (goInt ((n-i:Nat):Int))) w'):
 if Region.wanted o (yielded ops a.tmps)=true then Oper.wp Tryz.prog o a w K Q else E:=by
 have hw:Region.wanted o (yielded ops a.tmps)=true:=by simp[Region.wanted,hgd]
 rw[if_pos hw];obtain⟨w',hrun,h1,h2⟩:=run_ecopy w o.type dp sp dLen dCap sLen sCap B g n cap i qs hown hq hi hdl hsl hdp hsp h1c;unfold Oper.wp;simp[execOp,ho,resolve,invoke,builtin,hd,hs,hrun,Result.andThen];exact h w' h1 h2
theorem ERow.one {B:Nat}{w:World}{v:Value}{ps:List EP}(h:ERow B w v ps):∀u∈qau ps,u.oneCell'=true:=by
 intro u hu;unfold qau at hu;obtain⟨p,hp,hu⟩:=List.mem_flatMap.1 hu;obtain⟨a,c,e⟩:=qcV (h.ints p hp);simp only[List.mem_cons,List.not_mem_nil,or_false]at hu
 rcases hu with rfl|rfl|rfl
 ·rfl
 ·rfl
 ·rw[e];rfl
theorem ERow.one1 {B:Nat}{w:World}{v:Value}{ps:List EP}(h:ERow B w v ps):∀u∈qau (ps++[e0]),u.oneCell'=true:=by
 intro u hu;rw[qcA]at hu
 rcases List.mem_append.1 hu with hu|hu
 ·exact h.one u hu
 ·simp only[qaT,e0,List.mem_cons]at hu
  rcases hu with rfl|rfl|rfl|hu
  ·rfl
  ·rfl
  ·rfl
  ·simp[qau]at hu
theorem ins_list {α:Type}{ps:List α}{x:α}{i n:Nat}(hn:ps.length=n)(hi:i≤n)(y:α):((ps++[x]).take (i+1)++((ps++[x]).drop i).take (n-i)).set i y=ps.take i++y::ps.drop i:=by
 have h1:((ps++[x]).drop i).take (n-i)=ps.drop i:=by
  rw[List.drop_append_of_le_length (by omega),List.take_append_of_le_length (by simp;omega),List.take_of_length_le (by simp;omega)]
 have hlt:i<(ps++[x]).length:=by simp;omega
 rw[h1,List.take_succ_eq_append_getElem hlt,List.take_append_of_le_length (by omega),List.append_assoc,List.set_append_right _ _ (by simp;omega)];have e:i-(ps.take i).length=0:=by simp;omega
 rw[e];rfl
theorem ERow.inserted {B:Nat}{w w1 w2:World}{v:Value}{ps:List EP}{ob:Obj}{g cap n i:Nat}(h:ERow B w v ps)(hn:ps.length=n)(hi:i≤n)(hg1:(w.alloc ob).grownBy w1 v.ownBlock)(hat:v.ownBlock=some g∨g=w.heap.size+1)
 (ho2:w2.ownsRow B 61 3 (.slice (some ⟨g,0,none⟩) (n+1) cap) (n+1) (qau ((ps++[e0]).take (i+1)++((ps++[e0]).drop i).take (n-i)))) (hg2:w1.grownBy w2 (some g)) (k:Pl.Key):
 ERow B (((w2.setCell ⟨g,i*3,none⟩ (.int .i64 k.1)).setCell ⟨g,i*3+1,none⟩ (.string ⟨k.2.toArray⟩)).setCell ⟨g,i*3+2,none⟩ (.slice none 0 0)) (.slice (some ⟨g,0,none⟩) (n+1) cap) (ps.take i++(⟨k,[]⟩,.slice none 0 0)::ps.drop i)∧
  w.grownBy (((w2.setCell ⟨g,i*3,none⟩ (.int .i64 k.1)).setCell ⟨g,i*3+1,none⟩ (.string ⟨k.2.toArray⟩)).setCell ⟨g,i*3+2,none⟩ (.slice none 0 0)) v.ownBlock:=by
 obtain⟨s1,t1⟩:=World.ownsRow.stored ho2 (i*3) (.int .i64 k.1);obtain⟨s2,t2⟩:=World.ownsRow.stored s1 (i*3+1) (.string ⟨k.2.toArray⟩);obtain⟨s3,t3⟩:=World.ownsRow.stored s2 (i*3+2) (.slice none 0 0);have hlen:i<((ps++[e0]).take (i+1)++((ps++[e0]).drop i).take (n-i)).length:=by simp;omega
 rw[show (.int .i64 k.1:Value)=.int .i64 ((⟨k,[]⟩,.slice none 0 0):EP).1.key.1 from rfl,show (.string ⟨k.2.toArray⟩:Value)=.string ⟨((⟨k,[]⟩,.slice none 0 0):EP).1.key.2.toArray⟩ from rfl,show (.slice none 0 0:Value)=((⟨k,[]⟩,.slice none 0 0):EP).2 from rfl,qgT _ i hlen,ins_list hn hi]at s3;have hga:w.grownBy w1 v.ownBlock:=qbK (World.grownBy_alloc w ob _) hg1 (fun k hk=>Or.inl hk.symm)
 have hgl:∀j,some g=some j→some j=v.ownBlock∨w.heap.size≤j:=by
  intro j hj;injection hj with hj;subst hj
  rcases hat with h1|h1
  ·exact Or.inl h1.symm
  ·exact Or.inr (by omega)
 have hgF:=qbK (qbK (qbK (qbK hga hg2 hgl) t1 hgl) t2 hgl) t3 hgl
 have hne:∀p∈ps,p.2.ownBlock=none∨p.2.ownBlock≠v.ownBlock:=by
  intro p hp
  cases hb:p.2.ownBlock with
  | none=>exact Or.inl rfl
  | some j=>exact Or.inr fun e=>h.off p hp j hb e.symm
 refine⟨⟨?_,?_,?_,?_⟩,hgF⟩
 ·have e:(ps.take i++((⟨k,[]⟩,.slice none 0 0):EP)::ps.drop i).length=n+1:=by simp;omega
  rw[e];exact s3
 ·intro p hp
  rcases List.mem_append.1 hp with hp|hp
  ·have hm:=List.mem_of_mem_take hp;exact(h.ints p hm).kept hgF (hne p hm)
  ·rcases List.mem_cons.1 hp with rfl|hp
   ·exact World.ownsRow_nil _ _ _ _
   ·have hm:=List.mem_of_mem_drop hp;exact(h.ints p hm).kept hgF (hne p hm)
 ·have hs:=h.apart;rw[←List.take_append_drop i ps,List.pairwise_append]at hs;obtain⟨a1,a2,a3⟩:=hs;rw[List.pairwise_append];refine⟨a1,List.pairwise_cons.2 ⟨fun q _ j hj=>(by cases hj),a2⟩,fun p hp q hq=>?_⟩
  rcases List.mem_cons.1 hq with rfl|hq
  ·intro j _ hj;cases hj
  ·exact a3 p hp q hq
 ·have hoff:∀p∈ps,∀j,p.2.ownBlock=some j→(Value.slice (some ⟨g,0,none⟩) (n+1) cap).ownBlock≠some j:=by
   intro p hp j hj e;have e2:g=j:=by simpa [Value.ownBlock] using e
   subst e2
   rcases hat with h1|h1
   ·exact h.off p hp g hj h1
   ·have:=World.ownsRow.lt (h.ints p hp) g hj;omega
  intro p hp
  rcases List.mem_append.1 hp with hp|hp
  ·exact hoff p (List.mem_of_mem_take hp)
  ·rcases List.mem_cons.1 hp with rfl|hp
   ·intro j hj;cases hj
   ·exact hoff p (List.mem_of_mem_drop hp)
theorem ERow.apart_at {B:Nat}{w:World}{v:Value}{ps:List EP}(h:ERow B w v ps){i j:Nat}(hi:i<ps.length)(hj:j<ps.length)(hne:i≠j):Apart ps[i] ps[j]:=by
 have:=List.pairwise_iff_getElem.1 h.apart
 rcases Nat.lt_or_gt_of_ne hne with h1|h1
 ·exact this i j hi hj h1
 ·exact(this j i hj hi h1).symm
theorem ERow.placed {B:Nat}{w w1:World}{v:Value}{ps:List EP}{ob:Obj}{g cap i n g' cap':Nat}(h:ERow B w v ps)(hi:i<ps.length)(hv:v=.slice (some ⟨g,0,none⟩) ps.length cap)
 (ho1:w1.ownsRow B 3 1 (.slice (some ⟨g',0,none⟩) (ps[i].1.nodes.length+1) cap') (ps[i].1.nodes.length+1) (qaE (ps[i].1.nodes++[n]))) (hg1:(w.alloc ob).grownBy w1 ps[i].2.ownBlock) (hat:ps[i].2.ownBlock=some g'∨g'=w.heap.size+1):
 ERow B (w1.setCell ⟨g,i*3+2,none⟩ (.slice (some ⟨g',0,none⟩) (ps[i].1.nodes.length+1) cap')) v (ps.set i (⟨ps[i].1.key,ps[i].1.nodes++[n]⟩,.slice (some ⟨g',0,none⟩) (ps[i].1.nodes.length+1) cap'))∧
  w1.grownBy (w1.setCell ⟨g,i*3+2,none⟩ (.slice (some ⟨g',0,none⟩) (ps[i].1.nodes.length+1) cap')) (some g):=by
 subst hv;have hgb:((.slice (some ⟨g,0,none⟩) ps.length cap:Value)).ownBlock=some g:=rfl;have hgw:=World.ownsRow.lt h.own g hgb;have hpi:=h.off ps[i] (List.getElem_mem hi);have hga:w.grownBy w1 ps[i].2.ownBlock:=qbK (World.grownBy_alloc w ob _) hg1 (fun k hk=>Or.inl hk.symm)
 have own1:w1.ownsRow B 61 3 (.slice (some ⟨g,0,none⟩) ps.length cap) ps.length (qau ps):=h.own.kept hga (Or.inr (by
  rw[hgb];intro e
  exact hpi g e.symm hgb))
 obtain⟨s1,t1⟩:=World.ownsRow.stored own1 (i*3+2) (.slice (some ⟨g',0,none⟩) (ps[i].1.nodes.length+1) cap');have hset:=qfO ps i hi (⟨ps[i].1.key,ps[i].1.nodes++[n]⟩,.slice (some ⟨g',0,none⟩) (ps[i].1.nodes.length+1) cap') rfl;rw[hset]at s1
 have hg'g:g'≠g:=by
  rcases hat with h1|h1
  ·intro e;subst e;exact hpi g' h1 hgb
  ·omega
 have key:∀j (hj:j<ps.length),j≠i→(w1.setCell ⟨g,i*3+2,none⟩ (.slice (some ⟨g',0,none⟩) (ps[i].1.nodes.length+1) cap')).ownsRow B 3 1 ps[j].2 ps[j].1.nodes.length (qaE ps[j].1.nodes):=by
  intro j hj hne
  have a1:w1.ownsRow B 3 1 ps[j].2 ps[j].1.nodes.length (qaE ps[j].1.nodes):=by
   refine(h.ints ps[j] (List.getElem_mem hj)).kept hga ?_
   cases hb:ps[j].2.ownBlock with
   | none=>exact Or.inl rfl
   | some k=>exact Or.inr fun e=>(h.apart_at hj hi hne) k hb e.symm
  refine a1.kept t1 ?_
  cases hb:ps[j].2.ownBlock with
  | none=>exact Or.inl rfl
  | some k=>
   refine Or.inr fun e=>?_
   injection e with e;subst e;exact h.off ps[j] (List.getElem_mem hj) k hb hgb
 refine⟨⟨?_,?_,?_,?_⟩,t1⟩
 ·rw[List.length_set];exact s1
 ·intro p hp;obtain⟨j,hj,rfl⟩:=List.getElem_of_mem hp;rw[List.length_set]at hj
  by_cases hji:j=i
  ·subst hji;simp only[List.getElem_set_self,List.length_append,List.length_singleton];refine ho1.kept t1 (Or.inr ?_);intro e;have:g'=g:=by simpa [Value.ownBlock] using e
   exact hg'g this
  ·rw[List.getElem_set_ne (by omega)];exact key j hj hji
 ·rw[List.pairwise_iff_getElem];intro a b ha0 hb0 hab;have ha:a<ps.length:=by rw[List.length_set]at ha0;exact ha0
  have hb:b<ps.length:=by rw[List.length_set]at hb0;exact hb0
  by_cases hai:a=i
  ·subst hai;rw[List.getElem_set_self,List.getElem_set_ne (by omega)];intro k hk;have e:g'=k:=by simpa [Value.ownBlock] using hk
   subst e
   rcases hat with h1|h1
   ·exact h.apart_at hi hb (by omega) g' h1
   ·intro e2;have:=World.ownsRow.lt (h.ints ps[b] (List.getElem_mem hb)) g' e2;omega
  ·by_cases hbi:b=i
   ·subst hbi;rw[List.getElem_set_self,List.getElem_set_ne (by omega)];intro k hk e;have e2:g'=k:=by simpa [Value.ownBlock] using e
    subst e2
    rcases hat with h1|h1
    ·exact h.apart_at ha hi (by omega) g' hk h1
    ·have:=World.ownsRow.lt (h.ints ps[a] (List.getElem_mem ha)) g' hk;omega
   ·rw[List.getElem_set_ne (by omega),List.getElem_set_ne (by omega)];exact h.apart_at ha hb (by omega)
 ·intro p hp k hk;obtain⟨j,hj,rfl⟩:=List.getElem_of_mem hp;rw[List.length_set]at hj;rw[hgb];intro e;injection e with e;subst e
  by_cases hji:j=i
  ·subst hji;rw[List.getElem_set_self]at hk;have e2:g'=g:=by simpa [Value.ownBlock] using hk
   exact hg'g e2
  ·rw[List.getElem_set_ne (by omega)]at hk;exact h.off ps[j] (List.getElem_mem hj) g hk hgb
theorem qei {ops:Array Oper}{rest:List Oper}{o:Oper}{a:Act}{Q:Exit→Act→World→Prop}{B:Nat}{w2:World}{v:Value}{l:List Nat}{n:Nat}(hgd:o.guard=none)(s t:Operand)
 (ho:o.op=.call { callee:=.builtin .append,args:= #[s,t],argTypes:= #[40,40] }) (hs:a.eval s=v) (hx:a.eval t=.slice (some ⟨w2.heap.size,0,none⟩) 1 1)
 (hown:w2.ownsRow B 3 1 v l.length (qaE l)) (hlen:l.length+1≤100000) (hB:B≤w2.heap.size)
 (h:∀g cap w',w'.ownsRow B 3 1 (.slice (some ⟨g,0,none⟩) (l.length+1) cap) (l.length+1) (qaE (l++[n]))→(w2.alloc (.cells #[.int .i64 (n:Int)] 3)).grownBy w' v.ownBlock→(v.ownBlock=some g∨g=w2.heap.size+1)→g<w'.heap.size→wpList Tryz.prog ops Q rest (a.put o.dst (.slice (some ⟨g,0,none⟩) (l.length+1) cap)) w'):
 wpList Tryz.prog ops Q (o::rest) a (w2.alloc (.cells #[.int .i64 (n:Int)] 3)):=by
 obtain⟨i0,hi,hz0,hz1,hz2⟩:=info_parts Tryz.info3;refine wpList_append_lies _ hgd s t 40 ho B 3 i0 _ 1 8 Tryz.underlying40 hi hz0 hz1 hz2 rfl (by decide) v l.length (qaE l) hs (qbt hown (qac _ _)) ⟨w2.heap.size,0,none⟩ 1 1 [.int .i64 (n:Int)] hx rfl ?_ ?_ (by decide) (by unfold maxLen;omega) (by omega) (by simp;omega) (w2.heap.size+1) (by simp) ?_
 ·exact World.news_of_block (heap_alloc_new w2 _)
 ·intro u hu;simp only[List.mem_cons,List.not_mem_nil,or_false]at hu
  rcases hu with rfl
  rfl
 ·intro g cap w' h1 h2 h3 h4;exact h g cap w' (by rw[show qaE (l++[n])=qaE l++[.int .i64 (n:Int)] by simp[qaE]];exact h1) h2 h3 h4
end Go.Proofs.YtephhllfodlfbaaGreatDoor
namespace Go.Proofs.YtephhllfodlfbaaGreatDoor
open Go.RowKit Go.MapKept
theorem Tryz.row99:128<Tryz.prog.types.size:=of_decide_eq_true (by kernel_rfl)
theorem Tryz.key2_99:Tryz.prog.keyTypeAt 2 128=true:=by kernel_rfl
theorem Tryz.keyed99:Maps.Keyed Tryz.prog 128:=Maps.Keyed.of_law (deep_law_laid qb2 (m:=2) (by decide) Tryz.row99 Tryz.key2_99 (by rw[Tryz.underlying128]))
theorem Tryz.keyT99:Tryz.prog.keyType 128=true:=by kernel_rfl
theorem Tryz.cells99:Tryz.prog.cellsOf 128=2:=by kernel_rfl
theorem Tryz.cells3:Tryz.prog.cellsOf 3=1:=by kernel_rfl
theorem Tryz.cells9:Tryz.prog.cellsOf 9=1:=by kernel_rfl
def keyV (k:Pl.Key):Value:=.agg #[.int .i64 k.1,.string ⟨k.2.toArray⟩]
theorem keyV_inj {a b:Pl.Key}(h:keyV a=keyV b):a=b:=by
 obtain⟨a1,a2⟩:=a;obtain⟨b1,b2⟩:=b
 simpa [keyV] using h
theorem qiB (k:Pl.Key)(hk:(Lit.int .i64 k.1).wf=true)(hn:k.2.length≤maxLen):∃l,keyOf Tryz.prog 128 (keyV k)=some l:=by
 obtain⟨m,hm⟩:∃m,Tryz.prog.types.size=m+1:=⟨Tryz.prog.types.size-1,by have:=Tryz.row99;omega⟩
 have h1:Tryz.prog.keyLits (m+1) 3 [.int .i64 k.1]=some [.int .i64 k.1]:=by
  simp[Program.keyLits,Tryz.underlying3,hk]
 have h2:Tryz.prog.keyLits (m+1) 9 [.string ⟨k.2.toArray⟩]=some [.string k.2]:=by
  simp[Program.keyLits,Tryz.underlying9,ByteArray.size,hn]
 have h3:Tryz.prog.keyLits (Tryz.prog.types.size+1) 128 [.int .i64 k.1,.string ⟨k.2.toArray⟩]=some [.int .i64 k.1,.string k.2]:=by
  rw[hm];unfold Program.keyLits;rw[Tryz.underlying128];simp[Tryz.cells99,Tryz.cells3,Tryz.cells9,h1,h2]
 refine⟨.string (keyBytes [.int .i64 k.1,.string k.2]),?_⟩;unfold keyOf;rw[Tryz.underlying128];simp[keyV,Tryz.keyT99,Value.formed,Tryz.underlying128,Tryz.cells99,Value.cells];refine⟨_,?_,rfl⟩
 simpa using h3
end Go.Proofs.YtephhllfodlfbaaGreatDoor
namespace Go.Proofs.YtephhllfodlfbaaGreatDoor
open Go.RowKit Go.MapKept Go.ChangeMaps
namespace Pl
def gput (k:Key)(n:Nat):List En→List En
 | []=>[⟨k,[n]⟩]
 | e::r=>if e.key=k then ⟨e.key,e.nodes++[n]⟩::r else e::gput k n r
theorem gput_new {k:Key}{n:Nat}:∀{l:List En},(∀e∈l,e.key≠k)→gput k n l=l++[⟨k,[n]⟩]
 | [],_=>rfl
 | e::r,h=>by
  unfold gput;rw[if_neg (h e (by simp)),gput_new (fun f hf=>h f (by simp[hf]))];rfl
theorem gput_set {k:Key}{n:Nat}:∀{l:List En} {j:Nat} (hj:j<l.length),(l.map (·.key)).Nodup→l[j].key=k→gput k n l=l.set j ⟨l[j].key,l[j].nodes++[n]⟩
 | [],j,h,_,_=>by simp at h
 | e::r,0,_,_,hk=>by
  simp only[List.getElem_cons_zero]at hk;unfold gput;rw[if_pos hk];rfl
 | e::r,j+1,h,hd,hk=>by
  simp only[List.map_cons,List.nodup_cons]at hd
  have hne:e.key≠k:=by
   intro e1;refine hd.1 ?_;rw[e1,←hk];exact List.mem_map_of_mem (List.getElem_mem _)
  unfold gput;rw[if_neg hne,gput_set (j:=j) (by simpa using h) hd.2 (by simpa using hk)];rfl
theorem qgl {k:Key}{n:Nat}:∀{l:List En},∀q,q∈(gput k n l).map (·.key)↔q=k∨q∈l.map (·.key)
 | [],q=>by simp[gput]
 | e::r,q=>by
  unfold gput
  split
  ·rename_i h;simp only[List.map_cons,List.mem_cons];constructor
   ·rintro (h1|h1)
    ·exact Or.inr (Or.inl h1)
    ·exact Or.inr (Or.inr h1)
   ·rintro (h1|h1|h1)
    ·exact Or.inl (h1.trans h.symm)
    ·exact Or.inl h1
    ·exact Or.inr h1
  ·simp only[List.map_cons,List.mem_cons,qgl (l:=r)];constructor
   ·rintro (h1|h1|h1)
    ·exact Or.inr (Or.inl h1)
    ·exact Or.inl h1
    ·exact Or.inr (Or.inr h1)
   ·rintro (h1|h1|h1)
    ·exact Or.inr (Or.inl h1)
    ·exact Or.inl h1
    ·exact Or.inr (Or.inr h1)
theorem qgR {k:Key}{n:Nat}:∀{l:List En},(l.map (·.key)).Nodup→((gput k n l).map (·.key)).Nodup
 | [],_=>by simp[gput]
 | e::r,hd=>by
  simp only[List.map_cons,List.nodup_cons]at hd;unfold gput
  split
  ·simpa using hd
  ·rename_i h;simp only[List.map_cons,List.nodup_cons];refine⟨?_,qgR hd.2⟩;rw[qgl];rintro (h1|h1)
   ·exact h h1
   ·exact hd.1 h1
theorem qga {k:Key}{n:Nat}(q:Key):∀{l:List En},placesOf q (gput k n l)=if q=k then placesOf k l++[n] else placesOf q l
 | []=>by
  by_cases h:q=k
  ·subst h;simp[gput,placesOf]
  ·rw[if_neg h]
   show (if k=q then [n] else placesOf q [])=placesOf q []
   rw[if_neg (fun e:k=q=>h e.symm)]
 | e::r=>by
  unfold gput
  by_cases he:e.key=k
  ·rw[if_pos he,placesOf]
   by_cases hq:q=k
   ·subst hq;rw[if_pos he,if_pos rfl,placesOf,if_pos he]
   ·rw[if_neg hq,if_neg (fun e2=>hq (e2.symm.trans he)),placesOf,if_neg (fun e2=>hq (e2.symm.trans he))]
  ·rw[if_neg he,placesOf,qga q (l:=r)]
   by_cases hq:q=k
   ·subst hq;rw[if_neg he,if_pos rfl,if_pos rfl,placesOf,if_neg he]
   ·rw[if_neg hq,if_neg hq,placesOf]
theorem qib {k:Key}{n:Nat}:∀{l:List En},(∀e∈l,e.nodes≠[])→∀e∈gput k n l,e.nodes≠[]
 | [],_,e,he=>by
  simp[gput]at he;subst he;simp
 | f::r,h,e,he=>by
  unfold gput at he
  split at he
  ·rcases List.mem_cons.1 he with rfl|he
   ·simp
   ·exact h e (by simp[he])
  ·rcases List.mem_cons.1 he with rfl|he
   ·exact h e (by simp)
   ·exact qib (fun x hx=>h x (by simp[hx])) e he
theorem gput_fit {k:Key}{n m:Nat}:∀{l:List En},(l.length≤m∧∀e∈l,e.nodes.length≤m)→(gput k n l).length≤m+1∧∀e∈gput k n l,e.nodes.length≤m+1
 | [],_=>by
  refine⟨by simp[gput],fun e he=>?_⟩;simp[gput]at he;subst he;simp
 | f::r,h=>by
  cases m with
  | zero=>have:=h.1;simp at this
  | succ m=>
  unfold gput
  split
  ·refine⟨by have:=h.1;simp at this ⊢;omega,fun e he=>?_⟩
   rcases List.mem_cons.1 he with rfl|he
   ·have:=h.2 f (by simp);simp;omega
   ·have:=h.2 e (by simp[he]);omega
  ·have hl:(gput k n r).length≤r.length+1:=by
    clear h
    induction r with
    | nil=>simp[gput]
    | cons a t ih=>
     unfold gput
     split
     ·simp
     ·simp;omega
   refine⟨by have:=h.1;simp at this ⊢;omega,fun e he=>?_⟩
   rcases List.mem_cons.1 he with rfl|he
   ·have:=h.2 e (by simp);omega
   ·have hn:∀(t:List En),(∀x∈t,x.nodes.length≤m+1)→∀x∈gput k n t,x.nodes.length≤m+1+1:=by
     intro t
     induction t with
     | nil=>
      intro _ x hx;simp[gput]at hx;subst hx;simp
     | cons a t ih=>
      intro ht x hx;unfold gput at hx
      split at hx
      ·rcases List.mem_cons.1 hx with rfl|hx
       ·have:=ht a (by simp);simp;omega
       ·have:=ht x (by simp[hx]);omega
      ·rcases List.mem_cons.1 hx with rfl|hx
       ·have:=ht x (by simp);omega
       ·exact ih (fun y hy=>ht y (by simp[hy])) x hx
    exact hn r (fun x hx=>h.2 x (by simp[hx])) e he
end Pl
structure Fam (B:Nat)(w:World)(ps:List EP):Prop where
 ints:∀p∈ps,w.ownsRow B 3 1 p.2 p.1.nodes.length (qaE p.1.nodes)
 apart:ps.Pairwise Apart
theorem Fam.nil (B:Nat)(w:World):Fam B w []:=⟨by simp,List.Pairwise.nil⟩
theorem Fam.on {B:Nat}{w w':World}{ps:List EP}(h:Fam B w ps)(hb:Below w.heap.size w w'):Fam B w' ps:=⟨fun p hp=>qbt (h.ints p hp) hb,h.apart⟩
theorem Fam.kept {B:Nat}{w w':World}{ps:List EP}(h:Fam B w ps){r:Option Nat}(hg:w.grownBy w' r)(hr:∀g,r=some g→∀p∈ps,p.2.ownBlock≠some g):Fam B w' ps:=by
 refine⟨fun p hp=>(h.ints p hp).kept hg ?_,h.apart⟩
 cases r with
 | none=>cases hv:p.2.ownBlock<;>simp
 | some g=>exact Or.inr (hr g rfl p hp)
theorem Fam.low {B:Nat}{w:World}{ps:List EP}(h:Fam B w ps){g:Nat}(hg:g<B∨w.heap.size≤g):∀p∈ps,p.2.ownBlock≠some g:=by
 intro p hp e;have:=World.ownsRow.lt (h.ints p hp) g e;omega
theorem Fam.apart_at {B:Nat}{w:World}{ps:List EP}(h:Fam B w ps){i j:Nat}(hi:i<ps.length)(hj:j<ps.length)(hne:i≠j):Apart ps[i] ps[j]:=by
 have:=List.pairwise_iff_getElem.1 h.apart
 rcases Nat.lt_or_gt_of_ne hne with h1|h1
 ·exact this i j hi hj h1
 ·exact(this j i hj hi h1).symm
theorem Fam.snoc {B:Nat}{w:World}{ps:List EP}(h:Fam B w ps)(k:Pl.Key):Fam B w (ps++[(⟨k,[]⟩,.slice none 0 0)]):=by
 refine⟨fun p hp=>?_,?_⟩
 ·rcases List.mem_append.1 hp with hp|hp
  ·exact h.ints p hp
  ·obtain rfl:=List.mem_singleton.1 hp;exact World.ownsRow_nil _ _ _ _
 ·rw[List.pairwise_append];refine⟨h.apart,List.pairwise_singleton _ _,fun p _ q hq=>?_⟩;obtain rfl:=List.mem_singleton.1 hq;intro g _ e
  cases e
theorem Fam.placed {B:Nat}{w w1:World}{ps:List EP}{i n g' cap':Nat}{key:Pl.Key}{nds:List Nat}{sv:Value}(h:Fam B w ps)(hi:i<ps.length)(he:ps[i]=(⟨key,nds⟩,sv))
 (ho1:w1.ownsRow B 3 1 (.slice (some ⟨g',0,none⟩) (nds.length+1) cap') (nds.length+1) (qaE (nds++[n]))) (hga:w.grownBy w1 sv.ownBlock) (hat:sv.ownBlock=some g'∨w.heap.size≤g'):
 Fam B w1 (ps.set i (⟨key,nds++[n]⟩,.slice (some ⟨g',0,none⟩) (nds.length+1) cap')):=by
 have hsv:ps[i].2=sv:=by rw[he]
 refine⟨?_,?_⟩
 ·intro p hp;obtain⟨j,hj,rfl⟩:=List.getElem_of_mem hp;have hj':j<ps.length:=by rw[List.length_set]at hj;exact hj
  by_cases hji:j=i
  ·subst hji;simp only[List.getElem_set_self,List.length_append,List.length_singleton];exact ho1
  ·rw[List.getElem_set_ne (by omega)];refine(h.ints ps[j] (List.getElem_mem hj')).kept hga ?_
   cases hb:ps[j].2.ownBlock with
   | none=>exact Or.inl rfl
   | some k=>exact Or.inr fun e=>(h.apart_at hj' hi hji) k hb (by rw[hsv];exact e.symm)
 ·rw[List.pairwise_iff_getElem];intro a b ha0 hb0 hab;have ha:a<ps.length:=by rw[List.length_set]at ha0;exact ha0
  have hb:b<ps.length:=by rw[List.length_set]at hb0;exact hb0
  by_cases hai:a=i
  ·subst hai;rw[List.getElem_set_self,List.getElem_set_ne (by omega)];intro k hk;have e:g'=k:=by simpa [Value.ownBlock] using hk
   subst e
   rcases hat with h1|h1
   ·exact h.apart_at hi hb (by omega) g' (by rw[hsv];exact h1)
   ·intro e2;have:=World.ownsRow.lt (h.ints ps[b] (List.getElem_mem hb)) g' e2;omega
  ·by_cases hbi:b=i
   ·subst hbi;rw[List.getElem_set_self,List.getElem_set_ne (by omega)];intro k hk e;have e2:g'=k:=by simpa [Value.ownBlock] using e
    subst e2
    rcases hat with h1|h1
    ·exact h.apart_at ha hi (by omega) g' hk (by rw[hsv];exact h1)
    ·have:=World.ownsRow.lt (h.ints ps[a] (List.getElem_mem ha)) g' hk;omega
   ·rw[List.getElem_set_ne (by omega),List.getElem_set_ne (by omega)];exact h.apart_at ha hb (by omega)
def EntsAt (w:World)(b:Nat)(ps:List EP)(es:Array MapEntry)(clock:Nat):Prop:=
 w.heap[b]? =some (.map es clock)∧es.toList.map (fun e=>(e.key,e.val))=ps.map (fun p=>(keyV p.1.key,p.2))∧(∀e∈es.toList,e.born<clock)∧(es.toList.map (·.born)).Nodup
def MapAt (w:World)(b:Nat)(ps:List EP):Prop:=∃es clock,EntsAt w b ps es clock
def MapS (w:World)(b:Nat)(ps:List EP)(j st:Nat):Prop:=∃es clock,EntsAt w b ps es clock∧∃e,es.toList[j]? =some e∧e.born=st
theorem MapAt.on {w w':World}{b:Nat}{ps:List EP}(h:MapAt w b ps)(hb:w'.heap[b]? =w.heap[b]?):MapAt w' b ps:=by
 obtain⟨es,clock,h1,h2⟩:=h;exact⟨es,clock,hb.trans h1,h2⟩
theorem MapS.on {w w':World}{b:Nat}{ps:List EP}{j st:Nat}(h:MapS w b ps j st)(hb:w'.heap[b]? =w.heap[b]?):MapS w' b ps j st:=by
 obtain⟨es,clock,⟨h1,h2⟩,h3⟩:=h;exact⟨es,clock,⟨hb.trans h1,h2⟩,h3⟩
theorem MapAt.lt {w:World}{b:Nat}{ps:List EP}(h:MapAt w b ps):b<w.heap.size:=by
 obtain⟨es,clock,h1,_⟩:=h;exact(Array.getElem?_eq_some_iff.1 h1).1
theorem qd7 (w:World)(b:Nat)(o:Obj):w.grownBy (setBlock w b o) (some b):=⟨rfl,rfl,rfl,by simp[setBlock],fun k _ hk=>by
 have hne:b≠k:=fun e=>hk (by rw[e])
 simp[setBlock,Array.getElem?_setIfInBounds_ne hne]⟩
theorem qeO {w:World}{b:Nat}(h:b<w.heap.size)(o:Obj):(setBlock w b o).heap[b]? =some o:=by simp[setBlock,h]
def Good (k:Pl.Key):Prop:=(Lit.int .i64 k.1).wf=true∧k.2.length≤maxLen
theorem qdC {es:Array MapEntry}{ps:List EP}(h:es.toList.map (fun e=>(e.key,e.val))=ps.map (fun p=>(keyV p.1.key,p.2))){j:Nat}{e:MapEntry}(he:es.toList[j]? =some e):∃hj:j<ps.length,e.key=keyV ps[j].1.key∧e.val=ps[j].2:=by
 have h1:(es.toList.map (fun e=>(e.key,e.val)))[j]? =some (e.key,e.val):=by rw[List.getElem?_map,he];rfl
 rw[h,List.getElem?_map]at h1
 have hj:j<ps.length:=by
  rcases Nat.lt_or_ge j ps.length with h2|h2
  ·exact h2
  ·rw[List.getElem?_eq_none h2]at h1;cases h1
 rw[List.getElem?_eq_getElem hj]at h1;simp only[Option.map_some,Option.some.injEq,Prod.mk.injEq]at h1;exact⟨hj,h1.1.symm,h1.2.symm⟩
theorem qif {w:World}{b:Nat}{ps:List EP}{k:Pl.Key}(h:MapAt w b ps)(hg:∀p∈ps,Good p.1.key)(hk:Good k)(hzero:∀u:World,(zeroValue 40).run Tryz.prog u=.ok (.slice none 0 0) u):
 ∃(ps1:List EP) (j st:Nat) (hj:j<ps1.length) (w':World),(Instr.mapEntry 83 (.map (some b)) (keyV k)).run Tryz.prog w=.ok (.tuple #[ps1[j].2,goInt st]) w'∧MapS w' b ps1 j st∧w.grownBy w' (some b)∧w'.heap.size=w.heap.size∧ps1[j].1.key=k∧
  ((ps1=ps)∨(ps1=ps++[(⟨k,[]⟩,.slice none 0 0)]∧j=ps.length∧∀p∈ps,p.1.key≠k)):=by
 obtain⟨es,clock,hb,hmap,hborn,hnd⟩:=h;have hlt:b<w.heap.size:=(Array.getElem?_eq_some_iff.1 hb).1;obtain⟨lx,hlx⟩:=qiB k hk.1 hk.2
 have hall:∀e∈es.toList,∃l,keyOf Tryz.prog 128 e.key=some l:=by
  intro e he;obtain⟨j,hj,rfl⟩:=List.getElem_of_mem he;obtain⟨hj2,hkey,_⟩:=qdC hmap (List.getElem?_eq_getElem hj);rw[hkey];have:=hg ps[j] (List.getElem_mem hj2);exact qiB _ this.1 this.2
 have hchk:=Tryz.keyed99.check w false hlx
 rcases Tryz.keyed99.find w hlx es.toList hall with ⟨hf,hne⟩|⟨j,e,hf,hje,hke⟩
 ·have hz:=hzero;refine⟨ps++[(⟨k,[]⟩,.slice none 0 0)],ps.length,clock,by simp,setBlock w b (.map (es.push ⟨keyV k,.slice none 0 0,clock⟩) (clock+1)),?_,⟨_,_,⟨qeO hlt _,?_,?_,?_⟩,⟨keyV k,.slice none 0 0,clock⟩,?_,rfl⟩,qd7 _ _ _,by simp[setBlock],by simp,Or.inr ⟨rfl,rfl,?_⟩⟩
  ·simp[Instr.mapEntry,run_underlying Tryz.underlying83,MapKept.run_getObj_map hb,hchk,hf,hz,MapKept.run_setObj_map _ hb,Result.andThen,setBlock]
  ·simp[hmap]
  ·intro e he;simp only[Array.toList_push,List.mem_append,List.mem_singleton]at he
   rcases he with he|rfl
   ·have:=hborn e he;omega
   ·exact Nat.lt_succ_self _
  ·simp only[Array.toList_push,List.map_append,List.map_cons,List.map_nil];refine List.nodup_append.2 ⟨hnd,by simp,fun a ha c hc e1=>?_⟩;simp only[List.mem_singleton]at hc;obtain⟨x,hx,rfl⟩:=List.mem_map.1 ha;have:=hborn x hx;omega
  ·have hl:es.toList.length=ps.length:=by have:=congrArg List.length hmap;simpa using this
   rw[Array.toList_push,List.getElem?_append_right (by omega),hl];simp
  ·intro p hp e1;obtain⟨i,hi,rfl⟩:=List.getElem_of_mem hp;have hl:es.toList.length=ps.length:=by have:=congrArg List.length hmap;simpa using this
   obtain⟨_,h1,_⟩:=qdC hmap (List.getElem?_eq_getElem (l:=es.toList) (i:=i) (by omega));refine hne es.toList[i] (List.getElem_mem _) ?_;rw[h1,e1]
 ·obtain⟨hj,h1,h2⟩:=qdC hmap hje;have hje2:es[j]? =some e:=by simpa using hje
  have hkk:ps[j].1.key=k:=keyV_inj (h1.symm.trans hke)
  have hsame:es.modify j (fun e=>{ e with key:=keyV k })=es:=by
   apply Array.ext'
   rw[Array.toList_modify,ChangeMaps.modify_eq_set _ _ _ _ hje];have:({ e with key:=keyV k }:MapEntry)=e:=by rw[←hke]
   rw[this];exact WideElems.set_self _ _ _ hje
  refine⟨ps,j,e.born,hj,setBlock w b (.map es clock),?_,⟨es,clock,⟨qeO hlt _,hmap,hborn,hnd⟩,e,hje,rfl⟩,qd7 _ _ _,by simp[setBlock],hkk,Or.inl rfl⟩;rw[←h2];simp[Instr.mapEntry,run_underlying Tryz.underlying83,MapKept.run_getObj_map hb,hchk,hf,hje2,hke,Tryz.keyed99.stays w hlx,hsame,MapKept.run_setObj_map _ hb,Result.andThen,setBlock]
theorem qgA {w:World}{b:Nat}{ps:List EP}{j st:Nat}(h:MapS w b ps j st)(hj:j<ps.length)(x:EP)(hx:x.1.key=ps[j].1.key):
 ∃w',(Instr.entryStore 83 (.map (some b)) (goInt st) x.2).run Tryz.prog w=.ok () w'∧MapAt w' b (ps.set j x)∧w.grownBy w' (some b)∧w'.heap.size=w.heap.size:=by
 obtain⟨es,clock,⟨hb,hmap,hborn,hnd⟩,e,hje,rfl⟩:=h;have hlt:b<w.heap.size:=(Array.getElem?_eq_some_iff.1 hb).1
 have hidx:es.findIdx? (fun e'=>((e'.born:Nat):Int)==((e.born:Nat):Int))=some j:=by
  rw[WideElems.findIdx_arr];exact WideElems.findIdx_born hnd hje
 obtain⟨_,h1,_⟩:=qdC hmap hje
 have hset:(es.modify j fun e'=>{ e' with val:=x.2 }).toList=es.toList.set j { e with val:=x.2 }:=by
  rw[Array.toList_modify,ChangeMaps.modify_eq_set _ _ _ _ hje]
 refine⟨setBlock w b (.map (es.modify j fun e'=>{ e' with val:=x.2 }) clock),?_,⟨_,clock,qeO hlt _,?_,?_,?_⟩,qd7 _ _ _,by simp[setBlock]⟩
 ·simp[Instr.entryStore,MapKept.run_getObj_map hb,asInt,asIntOf,goInt,hidx,MapKept.run_setObj_map _ hb,Result.andThen,setBlock]
 ·rw[hset,List.map_set,hmap,List.map_set,h1,hx]
 ·intro y hy;rw[hset]at hy
  rcases List.mem_or_eq_of_mem_set hy with hy|rfl
  ·exact hborn y hy
  ·exact hborn e (List.mem_of_getElem? hje)
 ·rw[hset,List.map_set];have:(es.toList.map (·.born)).set j e.born=es.toList.map (·.born):=WideElems.set_self _ _ _ (by rw[List.getElem?_map,hje];rfl);rw[this];exact hnd
theorem at_me {P:Program}{ops:Array Oper}{Q:Exit→Act→World→Prop}{rest:List Oper}{a:Act}{w:World}{d:Option Tmp}{t:TypeId}{m x:Operand}{ty:TypeId}{pos:String}{af:Array Edge}{g:Option (Nat×Bool)}(h:Hid (wpList P ops Q (⟨d,Op.mapEntry t m x,ty,pos,af,g⟩::rest) a w)):wpList P ops Q (⟨d,Op.mapEntry t m x,ty,pos,af,g⟩::rest) a w:=h
theorem at_es {P:Program}{ops:Array Oper}{Q:Exit→Act→World→Prop}{rest:List Oper}{a:Act}{w:World}{d:Option Tmp}{t:TypeId}{m x y:Operand}{ty:TypeId}{pos:String}{af:Array Edge}{g:Option (Nat×Bool)}(h:Hid (wpList P ops Q (⟨d,Op.entryStore t m x y,ty,pos,af,g⟩::rest) a w)):wpList P ops Q (⟨d,Op.entryStore t m x y,ty,pos,af,g⟩::rest) a w:=h
theorem qfX {ops:Array Oper}{rest:List Oper}{o:Oper}{a:Act}{Q:Exit→Act→World→Prop}{w:World}{b:Nat}{ps:List EP}{k:Pl.Key}(hgd:o.guard=none)(m x:Operand)(hop:o.op=Op.mapEntry 83 m x)(hm:a.eval m=.map (some b))(hx:a.eval x=keyV k)
 (h:MapAt w b ps) (hg:∀p∈ps,Good p.1.key) (hk:Good k) (hzero:∀u:World,(zeroValue 40).run Tryz.prog u=.ok (.slice none 0 0) u)
 (hK:∀(ps1:List EP) (j st:Nat) (hj:j<ps1.length) (w':World),MapS w' b ps1 j st→w.grownBy w' (some b)→w'.heap.size=w.heap.size→ps1[j].1.key=k→((ps1=ps)∨(ps1=ps++[(⟨k,[]⟩,.slice none 0 0)]∧j=ps.length∧∀p∈ps,p.1.key≠k))→wpList Tryz.prog ops Q rest (a.put o.dst (.tuple #[ps1[j].2,goInt st])) w'):
 wpList Tryz.prog ops Q (o::rest) a w:=by
 refine wpList_plain hgd fun K' hK'=>?_
 obtain⟨ps1,j,st,hj,w',hrun,h1,h2,h3,h4,h5⟩:=qif h hg hk hzero;unfold Oper.wp;simp[execOp,hop,hm,hx,hrun,Result.andThen];exact hK' _ _ (hK ps1 j st hj w' h1 h2 h3 h4 h5)
theorem qfi {ops:Array Oper}{rest:List Oper}{o:Oper}{a:Act}{Q:Exit→Act→World→Prop}{w:World}{b:Nat}{ps:List EP}{j st:Nat}(hgd:o.guard=none)(m s v:Operand)(hop:o.op=Op.entryStore 83 m s v)(hm:a.eval m=.map (some b))(hs:a.eval s=goInt st)(x:EP)(hv:a.eval v=x.2)
 (h:MapS w b ps j st) (hj:j<ps.length) (hx:x.1.key=ps[j].1.key)
 (hK:∀w',MapAt w' b (ps.set j x)→w.grownBy w' (some b)→w'.heap.size=w.heap.size→wpList Tryz.prog ops Q rest (a.put o.dst undef) w'):
 wpList Tryz.prog ops Q (o::rest) a w:=by
 refine wpList_plain hgd fun K' hK'=>?_
 obtain⟨w',hrun,h1,h2,h3⟩:=qgA h hj x hx;unfold Oper.wp;simp[execOp,hop,hm,hs,hv,hrun,Result.andThen];exact hK' _ _ (hK w' h1 h2 h3)
end Go.Proofs.YtephhllfodlfbaaGreatDoor
