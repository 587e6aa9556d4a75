/-
  The keys of an element, as index gathers them.
-/
import Derived.Test.YtephhllfodlfbaaGreatDoorMapG
import Derived.Maps.RangeWalk
set_option maxRecDepth 100000
set_option maxHeartbeats 16000000
namespace Go.Proofs.YtephhllfodlfbaaGreatDoor
open Go.RowKit
theorem Tryz.info128:(Tryz.prog.info? 128).map (fun i=>(i.zero,i.size,i.bytes))=some (some (.agg #[.int .i64 0,.string ⟨#[]⟩]),2,24):=by kernel_rfl
def qbg (ks:List Pl.Key):List Value:=ks.flatMap fun k=>[.int .i64 k.1,.string ⟨k.2.toArray⟩]
theorem qf1 {ops:Array Oper}{rest:List Oper}{o:Oper}{a:Act}{Q:Exit→Act→World→Prop}{B:Nat}{w2:World}{v:Value}{ks:List Pl.Key}{k:Pl.Key}(hgd:o.guard=none)(s t:Operand)
 (ho:o.op=.call { callee:=.builtin .append,args:= #[s,t],argTypes:= #[125,125] }) (hs:a.eval s=v) (hx:a.eval t=.slice (some ⟨w2.heap.size,0,none⟩) 1 1)
 (hown:w2.ownsRow B 128 2 v ks.length (qbg ks)) (hlen:ks.length+1≤64) (hB:B≤w2.heap.size)
 (h:∀g cap w',w'.ownsRow B 128 2 (.slice (some ⟨g,0,none⟩) (ks.length+1) cap) (ks.length+1) (qbg (ks++[k]))→(w2.alloc (.cells #[.int .i64 k.1,.string ⟨k.2.toArray⟩] 128)).grownBy w' v.ownBlock→wpList Tryz.prog ops Q rest (a.put o.dst (.slice (some ⟨g,0,none⟩) (ks.length+1) cap)) w'):
 wpList Tryz.prog ops Q (o::rest) a (w2.alloc (.cells #[.int .i64 k.1,.string ⟨k.2.toArray⟩] 128)):=by
 obtain⟨i0,hi,hz0,hz1,hz2⟩:=info_parts Tryz.info128;refine wpList_append_lies _ hgd s t 125 ho B 128 i0 _ 2 24 Tryz.underlying125 hi hz0 hz1 hz2 rfl (by decide) v ks.length (qbg ks) hs (qbt hown (qac _ _)) ⟨w2.heap.size,0,none⟩ 1 1 [.int .i64 k.1,.string ⟨k.2.toArray⟩] hx rfl ?_ ?_ (by decide) (by unfold maxLen;omega) (by omega) (by simp;omega) _ rfl ?_
 ·exact World.news_of_block (heap_alloc_new w2 _)
 ·intro u hu;simp only[List.mem_cons,List.not_mem_nil,or_false]at hu
  rcases hu with rfl|rfl<;>rfl
 ·intro g cap w' h1 h2 _ _;exact h g cap w' (by rw[show qbg (ks++[k])=qbg ks++[.int .i64 k.1,.string ⟨k.2.toArray⟩] by simp[qbg]];exact h1) h2
theorem keysOf_any (v:Value)(x:Pl.Nd)(w:World)(hv:NdV w v x)(h6:x.cls.length≤6):
 Calls Tryz.prog 86 #[v] w fun e w'=>∃u,e=.returned u∧w'.ownsRow (w.heap.size+1) 128 2 u (Pl.keysOf x).length (qbg (Pl.keysOf x))∧Below w.heap.size w w':=by
 obtain⟨vc,va,rfl,hvc,hva⟩:=hv;obtain⟨ac,cc,rfl,_⟩:=id hvc;obtain⟨aa,ca,rfl,_⟩:=id hva;have HVC:Hid (qa1 _ _ _):=hvc;have hB:=boxes w (.cells #[.int .i64 x.up,.string ⟨x.tag.toArray⟩,.string ⟨x.id.toArray⟩,.slice ac x.cls.length cc,.slice aa x.ats.length ca] 28) (.cells #[.int .i64 1,.string ⟨x.tag.toArray⟩] 128);have bX:Blk (w.alloc (.cells #[.int .i64 x.up,.string ⟨x.tag.toArray⟩,.string ⟨x.id.toArray⟩,.slice ac x.cls.length cc,.slice aa x.ats.length ca] 28)) w.heap.size (.int .i64 x.up) (.string ⟨x.tag.toArray⟩) (.string ⟨x.id.toArray⟩) (.slice ac x.cls.length cc) (.slice aa x.ats.length ca):=heap_alloc_new w _;have bY:=bX.on (qac _ (.cells #[.int .i64 1,.string ⟨x.tag.toArray⟩] 128));have hz:(w.alloc (.cells #[.int .i64 x.up,.string ⟨x.tag.toArray⟩,.string ⟨x.id.toArray⟩,.slice ac x.cls.length cc,.slice aa x.ats.length ca] 28)).heap.size=w.heap.size+1:=by simp
 have O1:Hid _:=World.ownsRow_lit (base:=w.heap.size+1) (e:=128) (size:=2) (w.alloc (.cells #[.int .i64 x.up,.string ⟨x.tag.toArray⟩,.string ⟨x.id.toArray⟩,.slice ac x.cls.length cc,.slice aa x.ats.length ca] 28)) #[.int .i64 1,.string ⟨x.tag.toArray⟩] 1 (by rw[hz];exact Nat.le_refl _) (by unfold maxLen;omega) rfl;have hsz:((w.alloc (.cells #[.int .i64 x.up,.string ⟨x.tag.toArray⟩,.string ⟨x.id.toArray⟩,.slice ac x.cls.length cc,.slice aa x.ats.length ca] 28)).alloc (.cells #[.int .i64 1,.string ⟨x.tag.toArray⟩] 128)).heap.size=w.heap.size+2:=by simp
 have HBY:Hid _:=bY;obtain⟨⟨_,x1,_,_,_⟩,_⟩:=bX.facts;obtain⟨⟨_,_,y2,y3,_⟩,_⟩:=bY.facts;clear hvc hva bX bY;have hcase:x.id.isEmpty=true∨x.id.isEmpty=false:=by cases x.id.isEmpty<;>simp
 go_enter Tryz.func86,Tryz.ntmps86
 rcases hcase with hi|hi
 case' inl=>
  have hk0:Pl.qbc x 0=[(1,x.tag)]:=by unfold Pl.qbc;rw[if_pos (List.isEmpty_iff.1 hi)];simp
  have HO:Hid (((w.alloc (.cells #[.int .i64 x.up,.string ⟨x.tag.toArray⟩,.string ⟨x.id.toArray⟩,.slice ac x.cls.length cc,.slice aa x.ats.length ca] 28)).alloc (.cells #[.int .i64 1,.string ⟨x.tag.toArray⟩] 128)).ownsRow (w.heap.size+1) 128 2 (.slice (some ⟨w.heap.size+1,0,none⟩) 1 1) (Pl.qbc x 0).length (qbg (Pl.qbc x 0))):=by
   unfold Hid;rw[hk0];have:=O1.out;rw[hz]at this;exact this
  clear hk0 O1;go_wp2;generalize (w.alloc (.cells #[.int .i64 x.up,.string ⟨x.tag.toArray⟩,.string ⟨x.id.toArray⟩,.slice ac x.cls.length cc,.slice aa x.ats.length ca] 28)).alloc (.cells #[.int .i64 1,.string ⟨x.tag.toArray⟩] 128)=wl at *;have HBl:Hid (Blk wl w.heap.size (.int .i64 x.up) (.string ⟨x.tag.toArray⟩) (.string ⟨x.id.toArray⟩) (.slice ac x.cls.length cc) (.slice aa x.ats.length ca)):=HBY.out;have HBe:Hid (Below w.heap.size w wl):=hB;have hsl:w.heap.size+2≤wl.heap.size:=by omega
  clear HBY hB x1 y2 y3
 case' inr=>
  have hk0:Pl.qbc x 0=[(1,x.tag)]++[(2,x.id)]:=by unfold Pl.qbc;rw[if_neg (by intro e;rw[e]at hi;simp at hi)];simp
  have HK0:Hid _:=hk0
  have HO1:Hid (((w.alloc (.cells #[.int .i64 x.up,.string ⟨x.tag.toArray⟩,.string ⟨x.id.toArray⟩,.slice ac x.cls.length cc,.slice aa x.ats.length ca] 28)).alloc (.cells #[.int .i64 1,.string ⟨x.tag.toArray⟩] 128)).ownsRow (w.heap.size+1) 128 2 (.slice (some ⟨w.heap.size+1,0,none⟩) 1 1) [((1:Int),x.tag)].length (qbg [(1,x.tag)])):=by
   unfold Hid;have:=O1.out;rw[hz]at this;exact this
  clear hk0 O1
  go_wp2_with (at_builtin;refine Hid.out ?_)
  generalize (w.alloc (.cells #[.int .i64 x.up,.string ⟨x.tag.toArray⟩,.string ⟨x.id.toArray⟩,.slice ac x.cls.length cc,.slice aa x.ats.length ca] 28)).alloc (.cells #[.int .i64 1,.string ⟨x.tag.toArray⟩] 128)=w1 at *;unfold Hid;refine qf1 (B:=w.heap.size+1) (w2:=w1) (v:=.slice (some ⟨w.heap.size+1,0,none⟩) 1 1) (ks:=[(1,x.tag)]) (k:=(2,x.id)) ?_ (.tmp 13) (.tmp 17) ?_ ?_ ?_ HO1.out (by simp) (by omega) ?_
  ·rfl
  ·rfl
  ·rfl
  ·first|rfl|(simp[Act.eval,hsz];done)
  intro g cap wl hrow hgr
  have HO:Hid (wl.ownsRow (w.heap.size+1) 128 2 (.slice (some ⟨g,0,none⟩) 2 cap) (Pl.qbc x 0).length (qbg (Pl.qbc x 0))):=by
   unfold Hid;rw[HK0.out];exact hrow
  have HBl:Hid (Blk wl w.heap.size (.int .i64 x.up) (.string ⟨x.tag.toArray⟩) (.string ⟨x.id.toArray⟩) (.slice ac x.cls.length cc) (.slice aa x.ats.length ca)):=qeE ((show Blk w1 _ _ _ _ _ _ from HBY.out).on (qac _ _)) hgr (by simp[Value.ownBlock]);have HBe:Hid (Below w.heap.size w wl):=below_grow (qaa hB (qac _ _)) hgr (fun k hk=>by simp[Value.ownBlock]at hk;omega)
  have hsl:w.heap.size+2≤wl.heap.size:=by
   have h1:=hgr.size;have h2:∀ob:Obj,(w1.alloc ob).heap.size=w1.heap.size+1:=fun ob=>by simp
   rw[h2]at h1;omega
  clear HBY hB x1 y2 y3 hrow hgr HO1 HK0;have y3:=HBl.out.facts.1.2.2.2.1;go_wp2;clear y3
 all_goals
  go_loopw [3,22] (fun s i wr=>∃j:Nat,j≤x.cls.length∧i=.int .i64 j∧Hid (wr.ownsRow (w.heap.size+1) 128 2 s (Pl.qbc x j).length (qbg (Pl.qbc x j)))∧Hid (Blk wr w.heap.size (.int .i64 x.up) (.string ⟨x.tag.toArray⟩) (.string ⟨x.id.toArray⟩) (.slice ac x.cls.length cc) (.slice aa x.ats.length ca))∧Hid (Below w.heap.size w wr)∧w.heap.size+2≤wr.heap.size) (fun _ i _=>x.cls.length-(intOf i).toNat)
  case atStart=>exact⟨0,Nat.zero_le _,rfl,HO,HBl,HBe,hsl⟩
  case round=>
   obtain⟨j,hj,rfl,hr,hb,hbe,hs⟩:=hrel;obtain⟨av,cv,rfl⟩:=qcV hr.out;have y3:=hb.out.facts.1.2.2.2.1
   by_cases hlt:j<x.cls.length
   ·obtain⟨a9,c9,e9,h9⟩:=qa1.on HVC.out hbe.out;obtain⟨rfl,rfl⟩:a9=ac∧c9=cc:=by injection e9 with q1 q2 q3;exact⟨q1.symm,q3.symm⟩
    obtain⟨b9,o9,rfl,hc9⟩:=h9.resolve_left (by intro h;rw[h]at hlt;simp at hlt);have q9:=hc9 j hlt;have hkl:=Pl.qgQ x j;have HKS:Hid _:=Pl.qf0 x j hlt;have hOwn:=World.ownsRow.lt hr.out;clear hc9 e9;generalize Pl.qbc x j=ks at *
    go_wp2_with (at_builtin;refine Hid.out ?_)
    unfold Hid;refine qf1 (B:=w.heap.size+1) (w2:=wr) (v:=.slice av ks.length cv) (ks:=ks) (k:=(3,x.cls[j])) ?_ (.tmp 26) (.tmp 29) ?_ ?_ ?_ hr.out (by omega) (by omega) ?_
    ·rfl
    ·rfl
    ·rfl
    ·rfl
    intro g cap' w5 hrow hgr
    have HO5:Hid (w5.ownsRow (w.heap.size+1) 128 2 (.slice (some ⟨g,0,none⟩) (ks.length+1) cap') (Pl.qbc x (j+1)).length (qbg (Pl.qbc x (j+1)))):=by
     unfold Hid;rw[HKS.out,List.length_append];exact hrow
    have HBl5:Hid (Blk w5 w.heap.size (.int .i64 x.up) (.string ⟨x.tag.toArray⟩) (.string ⟨x.id.toArray⟩) (.slice (some ⟨b9,o9,none⟩) x.cls.length c9) (.slice aa x.ats.length ca)):=qeE (hb.out.on (qac _ _)) hgr (fun e=>by have:=(hOwn _ e.symm).1;omega);have HBe5:Hid (Below w.heap.size w w5):=below_grow (qaa hbe.out (qac _ _)) hgr (fun k hk=>by have:=(hOwn k hk).1;omega)
    have hs5:w.heap.size+2≤w5.heap.size:=by
     have h1:=hgr.size;have h2:∀ob:Obj,(wr.alloc ob).heap.size=wr.heap.size+1:=fun ob=>by simp
     rw[h2]at h1;omega
    clear hrow hgr;go_wp2;exact⟨⟨j+1,hlt,by go_num,HO5,HBl5,HBe5,hs5⟩,by simp[intOf];omega⟩
   ·obtain rfl:j=x.cls.length:=by omega
    have hr2:=hr.out;rw[Pl.qd6]at hr2;have HR2:Hid _:=hr2;clear hr hr2;go_wp2;go_ret;exact⟨_,rfl,by first|exact HR2.out|(rw[Pl.qd6];exact HR2.out),hbe.out⟩
structure Held (w0:World)(BK gk ck:Nat)(K:List Pl.Key)(w:World)(v:Value)(ps:List EP):Prop where
 row:ERow w0.heap.size w v ps
 free:Clear gk v ps
 keys:w.ownsRow BK 61 3 (.slice (some ⟨gk,0,none⟩) K.length ck) K.length (qbq K)
 old:Below w0.heap.size w0 w
theorem Held.lt {w0:World}{BK gk ck:Nat}{K:List Pl.Key}{w:World}{v:Value}{ps:List EP}(h:Held w0 BK gk ck K w v ps):gk<w.heap.size:=(World.ownsRow.lt h.keys gk rfl).2
theorem Held.on {w0:World}{BK gk ck:Nat}{K:List Pl.Key}{w w':World}{v:Value}{ps:List EP}(h:Held w0 BK gk ck K w v ps)(hb:Below w.heap.size w w'):Held w0 BK gk ck K w' v ps:=
 ⟨h.row.on hb,h.free,qbt h.keys hb,qaa h.old hb⟩
theorem qhz {w0 w w':World}{r:Option Nat}(h:Below w0.heap.size w0 w)(hg:w.grownBy w' r)(hr:∀k,r=some k→w0.heap.size≤k):Below w0.heap.size w0 w':=below_grow h hg hr
theorem Held.inserted {w0:World}{BK gk ck:Nat}{K:List Pl.Key}{w w1 w2:World}{v:Value}{ps:List EP}{ob:Obj}{g cap n i:Nat}(h:Held w0 BK gk ck K w v ps)(hn:ps.length=n)(hi:i≤n)(hg1:(w.alloc ob).grownBy w1 v.ownBlock)(hat:v.ownBlock=some g∨g=w.heap.size+1)
 (ho2:w2.ownsRow w0.heap.size 61 3 (.slice (some ⟨g,0,none⟩) (n+1) cap) (n+1) (qau ((ps++[e0]).take (i+1)++((ps++[e0]).drop i).take (n-i)))) (hg2:w1.grownBy w2 (some g)) (k:Pl.Key):
 w2.ownsRow BK 61 3 (.slice (some ⟨gk,0,none⟩) K.length ck) K.length (qbq K)∧
 Held w0 BK gk ck K (((w2.setCell ⟨g,i*3,none⟩ (.int .i64 k.1)).setCell ⟨g,i*3+1,none⟩ (.string ⟨k.2.toArray⟩)).setCell ⟨g,i*3+2,none⟩ (.slice none 0 0)) (.slice (some ⟨g,0,none⟩) (n+1) cap) (ps.take i++(⟨k,[]⟩,.slice none 0 0)::ps.drop i):=by
 obtain⟨h1,h2⟩:=h.row.inserted hn hi hg1 hat ho2 hg2 k;have hlt:=h.lt
 have hgk:gk≠g:=by
  rcases hat with e|e
  ·intro e2;subst e2;exact h.free.1 e
  ·omega
 have hv:∀j,v.ownBlock=some j→w0.heap.size≤j:=fun j hj=>(World.ownsRow.lt h.row.own j hj).1
 refine⟨?_,h1,⟨fun e=>hgk (by simpa [Value.ownBlock] using e.symm),fun p hp=>?_⟩,?_,qhz h.old h2 hv⟩
 ·exact((qbt h.keys (qac _ ob)).kept hg1 (Or.inr fun e=>h.free.1 e.symm)).kept hg2 (Or.inr fun e=>hgk (by simpa [Value.ownBlock] using e))
 ·rcases List.mem_append.1 hp with hp|hp
  ·exact h.free.2 p (List.mem_of_mem_take hp)
  ·rcases List.mem_cons.1 hp with rfl|hp
   ·intro e;cases e
   ·exact h.free.2 p (List.mem_of_mem_drop hp)
 ·exact h.keys.kept h2 (Or.inr fun e=>h.free.1 e.symm)
theorem Held.placed {w0:World}{BK gk ck:Nat}{K:List Pl.Key}{w w1:World}{v:Value}{ps:List EP}{ob:Obj}{g cap i n m g' cap':Nat}{key:Pl.Key}{nds:List Nat}{sv:Value}(h:Held w0 BK gk ck K w v ps)(hi:i<ps.length)(he:ps[i]=(⟨key,nds⟩,sv))(hv:v=.slice (some ⟨g,0,none⟩) m cap)
 (ho1:w1.ownsRow w0.heap.size 3 1 (.slice (some ⟨g',0,none⟩) (nds.length+1) cap') (nds.length+1) (qaE (nds++[n]))) (hg1:(w.alloc ob).grownBy w1 sv.ownBlock) (hat:sv.ownBlock=some g'∨g'=w.heap.size+1):
 (∃u,w1.cell? ⟨g,i*3+2,none⟩=some u)∧w1.frozen? ⟨g,i*3+2,none⟩=false∧
 Held w0 BK gk ck K (w1.setCell ⟨g,i*3+2,none⟩ (.slice (some ⟨g',0,none⟩) (nds.length+1) cap')) v (ps.set i (⟨key,nds++[n]⟩,.slice (some ⟨g',0,none⟩) (nds.length+1) cap')):=by
 have hm:m=ps.length:=by
  obtain⟨a,c,e⟩:=h.row.form;rw[hv]at e;injection e
 subst hm;have hsv:ps[i].2=sv:=by rw[he]
 have hnd:ps[i].1.nodes=nds:=by rw[he]
 have hky:ps[i].1.key=key:=by rw[he]
 obtain⟨h1,h2⟩:=h.row.placed (ob:=ob) (n:=n) (g':=g') (cap':=cap') hi hv (by rw[hnd];exact ho1) (by rw[hsv];exact hg1) (by rw[hsv];exact hat);rw[hnd,hky]at h1;rw[hnd]at h2;have hlt:=h.lt;have hgv:v.ownBlock=some g:=by rw[hv];rfl
 have hpm:=List.getElem_mem hi
 have hgs:some g≠sv.ownBlock:=by
  intro e;exact h.row.off ps[i] hpm g (by rw[hsv];exact e.symm) hgv
 have own1:w1.ownsRow w0.heap.size 61 3 v ps.length (qau ps):=(qbt h.row.own (qac _ ob)).kept hg1 (Or.inr (by rw[hgv];exact hgs));have hgk:gk≠g:=fun e=>h.free.1 (by rw[hgv,e])
 have hgk2:some gk≠sv.ownBlock:=fun e=>h.free.2 ps[i] hpm (by rw[hsv];exact e.symm)
 have hsB:∀j,sv.ownBlock=some j→w0.heap.size≤j:=fun j hj=>(World.ownsRow.lt (h.row.ints ps[i] hpm) j (by rw[hsv];exact hj)).1
 have hgB:=(World.ownsRow.lt h.row.own g hgv).1;have hcell:=World.ownsRow.cellAt (hv▸own1) (i*3+2) (by omega);refine⟨⟨_,hcell.trans (qb6 ps i hi).2.2⟩,World.ownsRow.frozenAt (hv▸own1) _,h1,⟨h.free.1,?_⟩,?_,?_⟩
 ·intro p hp;obtain⟨j,hj,rfl⟩:=List.getElem_of_mem hp;have hj':j<ps.length:=by rw[List.length_set]at hj;exact hj
  by_cases hji:j=i
  ·subst hji;rw[List.getElem_set_self];intro e;have e2:g'=gk:=by simpa [Value.ownBlock] using e
   subst e2
   rcases hat with a|a
   ·exact hgk2 a.symm
   ·omega
  ·rw[List.getElem_set_ne (by omega)];exact h.free.2 _ (List.getElem_mem hj')
 ·exact((qbt h.keys (qac _ ob)).kept hg1 (Or.inr hgk2)).kept h2 (Or.inr fun e=>hgk (by simpa [Value.ownBlock] using e))
 ·exact qhz (qhz (qaa h.old (qac _ ob)) hg1 hsB) h2 (fun k hk=>by injection hk with hk;omega)
theorem Tryz.zero55 (u:World):(zeroValue 40).run Tryz.prog u=.ok (.slice none 0 0) u:=by kernel_rfl
namespace Pl
def qbD (ks:List Key)(n:Nat)(l:List En):List En:=ks.foldl (fun o k=>gput k n o) l
theorem qh7 (ks:List Key)(k:Key)(n:Nat)(l:List En):qbD (ks++[k]) n l=gput k n (qbD ks n l):=by simp[qbD,List.foldl_append]
def qa2 (ns:List Nd):Nat→List En
 | 0=>[]
 | n+1=>match ns[n]? with
  | none=>qa2 ns n
  | some x=>qbD (keysOf x) n (qa2 ns n)
def GFit (m:Nat)(l:List En):Prop:=l.length≤m∧∀e∈l,e.nodes.length≤m
theorem qep (n:Nat):∀(ks:List Key) {m:Nat} {l:List En},GFit m l→GFit (m+ks.length) (qbD ks n l)
 | [],_,_,h=>h
 | k::ks,m,l,h=>by
  have:=qep n ks (gput_fit (k:=k) (n:=n) h);rw[List.length_cons,show m+(ks.length+1)=m+1+ks.length by omega];exact this
theorem keys8 (x:Nd)(h:x.cls.length≤6):(keysOf x).length≤8:=by
 unfold keysOf
 split<;>simp<;>omega
theorem qhm {ns:List Nd}(h:∀x∈ns,x.cls.length≤6):∀n,GFit (8*n) (qa2 ns n)
 | 0=>⟨by simp[qa2],by simp[qa2]⟩
 | n+1=>by
  have ih:=qhm h n;unfold qa2
  split
  ·exact⟨by have:=ih.1;omega,fun e he=>by have:=ih.2 e he;omega⟩
  ·rename_i x hx;have hl:=keys8 x (h x (List.mem_of_getElem? hx));have:=qep n (keysOf x) ih;exact⟨by have:=this.1;omega,fun e he=>by have:=this.2 e he;omega⟩
theorem qdx (n:Nat):∀(ks:List Key) {l:List En} {P:Key→Prop},(∀k∈ks,P k)→(∀e∈l,P e.key)→∀e∈qbD ks n l,P e.key
 | [],_,_,_,h=>h
 | k::ks,l,P,hk,h=>by
  refine qdx n ks (l:=gput k n l) (fun q hq=>hk q (by simp[hq])) fun e he=>?_
  have:=(qgl (k:=k) (n:=n) (l:=l) e.key).1 (List.mem_map_of_mem he)
  rcases this with e1|e1
  ·rw[e1];exact hk k (by simp)
  ·obtain⟨f,hf,e2⟩:=List.mem_map.1 e1;rw[←e2];exact h f hf
theorem qgt {ns:List Nd}{P:Key→Prop}(h:∀x∈ns,∀k∈keysOf x,P k):∀n,∀e∈qa2 ns n,P e.key
 | 0=>by simp[qa2]
 | n+1=>by
  unfold qa2
  split
  ·exact qgt h n
  ·rename_i x hx;exact qdx n _ (h x (List.mem_of_getElem? hx)) (qgt h n)
theorem qdp (n:Nat):∀(ks:List Key) {l:List En},(l.map (·.key)).Nodup→((qbD ks n l).map (·.key)).Nodup
 | [],_,h=>h
 | k::ks,l,h=>qdp n ks (l:=gput k n l) (qgR h)
theorem qc9 (ns:List Nd):∀n,((qa2 ns n).map (·.key)).Nodup
 | 0=>by simp[qa2]
 | n+1=>by
  unfold qa2
  split
  ·exact qc9 ns n
  ·exact qdp n _ (qc9 ns n)
theorem qfn (n:Nat):∀(ks:List Key) {l:List En},(∀e∈l,e.nodes≠[])→∀e∈qbD ks n l,e.nodes≠[]
 | [],_,h=>h
 | k::ks,l,h=>qfn n ks (l:=gput k n l) (qib h)
theorem qgs (ns:List Nd):∀n,∀e∈qa2 ns n,e.nodes≠[]
 | 0=>by simp[qa2]
 | n+1=>by
  unfold qa2
  split
  ·exact qgs ns n
  ·exact qfn n _ (qgs ns n)
theorem qec (n:Nat)(q:Key):∀(ks:List Key) {l:List En},ks.Nodup→placesOf q (qbD ks n l)=placesOf q l++(if q∈ks then [n] else [])
 | [],l,_=>by simp[qbD]
 | k::ks,l,hd=>by
  show placesOf q (qbD ks n (gput k n l))=_
  obtain⟨h1,h2⟩:=List.nodup_cons.1 hd;rw[qec n q ks h2,qga q]
  by_cases hq:q=k
  ·subst hq;rw[if_pos rfl,if_neg h1,if_pos (by simp),List.append_nil]
  ·rw[if_neg hq]
   by_cases hm:q∈ks
   ·rw[if_pos hm,if_pos (by simp[hm])]
   ·rw[if_neg hm,if_neg (by simp[hm,hq])]
theorem qew {ns:List Nd}(hd:∀x∈ns,(keysOf x).Nodup)(k:Key):∀n,placesOf k (qa2 ns n)=whoTo ns k n
 | 0=>rfl
 | n+1=>by
  have ih:=qew hd k n;unfold whoTo at *;rw[List.range_succ,List.filter_append,←ih,show qa2 ns (n+1)=(match ns[n]? with|none=>qa2 ns n|some x=>qbD (keysOf x) n (qa2 ns n)) from rfl]
  cases h:ns[n]? with
  | none=>simp[h]
  | some x=>
   simp only;rw[qec n k _ (hd x (List.mem_of_getElem? h))]
   by_cases hk:k∈keysOf x
   ·simp[h,hk]
   ·simp[h,hk]
theorem gath_idx {ns:List Nd}(hd:∀x∈ns,(keysOf x).Nodup){l:List En}(hp:l.Perm (qa2 ns ns.length))(hr:l.Pairwise (fun a b=>qas a.key b.key=true)):l=qb8 ns ns.length:=by
 have hu:∀{l:List En},(∀e∈l,e.nodes≠[])→l.Pairwise (fun a b=>qas a.key b.key=true)→Ups l:=by
  intro l
  induction l with
  | nil=>intro _ _;trivial
  | cons e r ih=>
   intro h1 h2;obtain⟨a,b⟩:=List.pairwise_cons.1 h2;exact⟨h1 e (by simp),a,ih (fun f hf=>h1 f (by simp[hf])) b⟩
 refine idx_only hd (hu (fun e he=>qgs ns _ e (hp.mem_iff.1 he)) hr) fun k=>?_
 rw[←qew hd k]
 have key:∀{a b:List En},a.Perm b→(a.map (·.key)).Nodup→placesOf k a=placesOf k b:=by
  intro a b hab
  induction hab with
  | nil=>intro _;rfl
  | cons x _ ih=>
   intro h;simp only[List.map_cons,List.nodup_cons]at h;rw[placesOf,placesOf,ih h.2]
  | swap x y l=>
   intro h;simp only[List.map_cons,List.nodup_cons,List.mem_cons,not_or]at h;rw[placesOf,placesOf,placesOf,placesOf]
   by_cases h1:y.key=k
   ·by_cases h2:x.key=k
    ·exact absurd (h1.trans h2.symm) h.1.1
    ·rw[if_pos h1,if_neg h2,if_pos h1]
   ·by_cases h2:x.key=k
    ·rw[if_neg h1,if_pos h2,if_pos h2]
    ·rw[if_neg h1,if_neg h2,if_neg h2,if_neg h1]
  | trans h1 _ ih1 ih2=>
   intro h;rw[ih1 h,ih2 ((h1.map _).nodup_iff.1 h)]
 exact key hp ((hp.map (·.key)).nodup_iff.2 (qc9 ns _))
end Pl
theorem qfw:∀(ks:List Pl.Key) (i:Nat) (h:i<ks.length),(qbg ks)[i*2]? =some (.int .i64 ks[i].1)∧(qbg ks)[i*2+1]? =some (.string ⟨ks[i].2.toArray⟩)
 | [],i,h=>by simp at h
 | p::r,0,_=>by simp[qbg]
 | p::r,i+1,h=>by
  have:=qfw r i (by simpa using h);rw[show qbg (p::r)=.int .i64 p.1:: .string ⟨p.2.toArray⟩::qbg r by simp[qbg],show (i+1)*2=i*2+1+1 by omega]
  simpa using this
theorem own_two {w:World}{B g n cap:Nat}{e:TypeId}{xs:List Value}(h:w.ownsRow B e 2 (.slice (some ⟨g,0,none⟩) n cap) n xs){i:Nat}(hi:i<n){a b:Value}(hx:xs[i*2]? =some a∧xs[i*2+1]? =some b):
 w.cell? ⟨g,i*2,none⟩=some a∧w.cell? ⟨g,i*2+1,none⟩=some b:=by
 refine⟨?_,?_⟩
 ·rw[World.ownsRow.cellAt h _ (by omega)];exact hx.1
 ·rw[World.ownsRow.cellAt h _ (by omega)];exact hx.2
structure Gath (w0:World)(b BK gk ck:Nat)(K:List Pl.Key)(w:World)(ps:List EP):Prop where
 map:MapAt w b ps
 fam:Fam (b+1) w ps
 free:∀p∈ps,p.2.ownBlock≠some gk
 keys:w.ownsRow BK 128 2 (.slice (some ⟨gk,0,none⟩) K.length ck) K.length (qbg K)
 ne:b<BK
 old:Below b w0 w
theorem Gath.lt {w0:World}{b BK gk ck:Nat}{K:List Pl.Key}{w:World}{ps:List EP}(h:Gath w0 b BK gk ck K w ps):gk<w.heap.size∧b<gk:=by
 have:=World.ownsRow.lt h.keys gk rfl;have:=h.ne;omega
theorem Gath.on {w0:World}{b BK gk ck:Nat}{K:List Pl.Key}{w w':World}{ps:List EP}(h:Gath w0 b BK gk ck K w ps)(hb:Below w.heap.size w w'):Gath w0 b BK gk ck K w' ps:=
 ⟨h.map.on (hb.block b h.map.lt),h.fam.on hb,h.free,qbt h.keys hb,h.ne,h.old.trans (hb.mono (by have:=h.map.lt;omega))⟩
theorem hor_fam {b:Nat}{w w':World}{ps ps1:List EP}{k:Pl.Key}{j:Nat}(h:Fam (b+1) w ps)(hg:w.grownBy w' (some b))(hor:(ps1=ps)∨(ps1=ps++[(⟨k,[]⟩,.slice none 0 0)]∧j=ps.length∧∀p∈ps,p.1.key≠k)):Fam (b+1) w' ps1:=by
 have h1:Fam (b+1) w' ps:=h.kept hg (fun g hg2=>by injection hg2 with e;subst e;exact h.low (Or.inl (Nat.lt_succ_self _)))
 rcases hor with rfl|⟨rfl,_,_⟩
 ·exact h1
 ·exact h1.snoc k
theorem hor_put {ps ps1:List EP}{k:Pl.Key}{j n:Nat}{nds:List Nat}{sv z:Value}(hj:j<ps1.length)(he:ps1[j]=(⟨k,nds⟩,sv))(hd:((ps.map (·.1)).map (·.key)).Nodup)(hor:(ps1=ps)∨(ps1=ps++[(⟨k,[]⟩,.slice none 0 0)]∧j=ps.length∧∀p∈ps,p.1.key≠k)):
 (ps1.set j (⟨k,nds++[n]⟩,z)).map (·.1)=Pl.gput k n (ps.map (·.1)):=by
 rcases hor with rfl|⟨rfl,rfl,hne⟩
 ·rw[Pl.gput_set (j:=j) (by simpa using hj) hd (by rw[List.getElem_map,he]),List.map_set,List.getElem_map,he]
 ·rw[Pl.gput_new (fun e hx=>by obtain⟨p,hp,rfl⟩:=List.mem_map.1 hx;exact hne p hp)];rw[List.getElem_append_right (by omega)]at he;simp only[Nat.sub_self,List.getElem_cons_zero,Prod.mk.injEq,Pl.En.mk.injEq,true_and]at he;obtain⟨rfl,_⟩:=he;rw[List.set_append_right _ _ (by omega),Nat.sub_self];simp
theorem Gath.put {w0:World}{b BK gk ck:Nat}{K:List Pl.Key}{W Wb w' w1 w2:World}{ps ps1:List EP}{k:Pl.Key}{j n g' cap':Nat}{nds:List Nat}{sv:Value}(h:Gath w0 b BK gk ck K W ps)(hb1:Below W.heap.size W Wb)(hg':Wb.grownBy w' (some b))(hs':w'.heap.size=Wb.heap.size)
 (hj:j<ps1.length) (he:ps1[j]=(⟨k,nds⟩,sv)) (hor:(ps1=ps)∨(ps1=ps++[(⟨k,[]⟩,.slice none 0 0)]∧j=ps.length∧∀p∈ps,p.1.key≠k))
 (ho1:w1.ownsRow (b+1) 3 1 (.slice (some ⟨g',0,none⟩) (nds.length+1) cap') (nds.length+1) (qaE (nds++[n]))) (hg1:w'.grownBy w1 sv.ownBlock) (hat:sv.ownBlock=some g'∨g'=w'.heap.size)
 (hM:MapAt w2 b (ps1.set j (⟨k,nds++[n]⟩,.slice (some ⟨g',0,none⟩) (nds.length+1) cap'))) (hg2:w1.grownBy w2 (some b)):
 Gath w0 b BK gk ck K w2 (ps1.set j (⟨k,nds++[n]⟩,.slice (some ⟨g',0,none⟩) (nds.length+1) cap')):=by
 have hB:=h.on hb1;obtain⟨hgk,hbk⟩:=hB.lt;have hbW:=hB.map.lt;have hF:=hor_fam hB.fam hg' hor;have hsv:ps1[j].2=sv:=by rw[he]
 have hfr:∀p∈ps1,p.2.ownBlock≠some gk:=by
  rcases hor with rfl|⟨rfl,_,_⟩
  ·exact h.free
  ·intro p hp
   rcases List.mem_append.1 hp with hp|hp
   ·exact h.free p hp
   ·obtain rfl:=List.mem_singleton.1 hp;intro e;cases e
 have hpm:=List.getElem_mem hj;have hsk:sv.ownBlock≠some gk:=by rw[←hsv];exact hfr _ hpm
 have hsb:∀q,sv.ownBlock=some q→b+1≤q:=fun q hq=>(World.ownsRow.lt (hF.ints ps1[j] hpm) q (by rw[hsv];exact hq)).1
 have hF1:=hF.placed hj he ho1 hg1 (hat.imp id (fun e=>by omega));have hF2:=hF1.kept hg2 (fun g hg3=>by injection hg3 with e;subst e;exact hF1.low (Or.inl (Nat.lt_succ_self _)));refine⟨hM,hF2,?_,?_,h.ne,?_⟩
 ·intro p hp
  rcases List.mem_or_eq_of_mem_set hp with hp|rfl
  ·exact hfr p hp
  ·intro e;have e2:g'=gk:=by simpa [Value.ownBlock] using e
   rcases hat with a|a
   ·exact hsk (by rw[a,e2])
   ·omega
 ·refine((hB.keys.kept hg' (Or.inr ?_)).kept hg1 (Or.inr fun e=>hsk e.symm)).kept hg2 (Or.inr ?_)
  ·intro e;have:gk=b:=by simpa [Value.ownBlock] using e
   omega
  ·intro e;have:gk=b:=by simpa [Value.ownBlock] using e
   omega
 ·have o1:Below b w0 w':=hB.old.grown hg' (by omega) (fun q hq=>by injection hq with e;omega);have o2:Below b w0 w1:=o1.grown hg1 (by omega) (fun q hq=>by have:=hsb q hq;omega);exact o2.grown hg2 (by have:=hg1.size;omega) (fun q hq=>by injection hq with e;omega)
theorem qix {ops:Array Oper}{rest:List Oper}{o:Oper}{a:Act}{Q:Exit→Act→World→Prop}{B:Nat}{w:World}{v:Value}{l:List Nat}{n N:Nat}(hgd:o.guard=none)(s t:Operand)
 (ho:o.op=.call { callee:=.builtin .append,args:= #[s,t],argTypes:= #[40,40] }) (hs:a.eval s=v) (hx:a.eval t=.slice (some ⟨N,0,none⟩) 1 1) (hN:w.heap[N]? =some (.cells #[.int .i64 (n:Int)] 3))
 (hown:w.ownsRow B 3 1 v l.length (qaE l)) (hlen:l.length+1≤100000) (hB:B≤w.heap.size)
 (h:∀g cap w',w'.ownsRow B 3 1 (.slice (some ⟨g,0,none⟩) (l.length+1) cap) (l.length+1) (qaE (l++[n]))→w.grownBy w' v.ownBlock→(v.ownBlock=some g∨g=w.heap.size)→g<w'.heap.size→wpList Tryz.prog ops Q rest (a.put o.dst (.slice (some ⟨g,0,none⟩) (l.length+1) cap)) w'):
 wpList Tryz.prog ops Q (o::rest) a w:=by
 obtain⟨i0,hi,hz0,hz1,hz2⟩:=info_parts Tryz.info3;refine wpList_append_lies _ hgd s t 40 ho B 3 i0 _ 1 8 Tryz.underlying40 hi hz0 hz1 hz2 rfl (by decide) v l.length (qaE l) hs hown ⟨N,0,none⟩ 1 1 [.int .i64 (n:Int)] hx rfl ?_ ?_ (by decide) (by unfold maxLen;omega) (by omega) hB _ rfl ?_
 ·exact World.news_of_block hN
 ·intro u hu;simp only[List.mem_cons,List.not_mem_nil,or_false]at hu
  rcases hu with rfl
  rfl
 ·intro g cap w' h1 h2 h3 h4;exact h g cap w' (by rw[show qaE (l++[n])=qaE l++[.int .i64 (n:Int)] by simp[qaE]];exact h1) h2 h3 h4
end Go.Proofs.YtephhllfodlfbaaGreatDoor
namespace Go.Proofs.YtephhllfodlfbaaGreatDoor
open Go.RowKit Go.ChangeMaps
def Rng (w:World)(b r:Nat)(ps:List EP)(js:List Nat):Prop:=
 ∃es clock since seen c0,EntsAt w b ps es clock∧w.heap[r]? =some (.mapIter (some b) since seen c0)∧(∀x∈es.toList,x.born<since)∧since≤c0∧since≤clock∧
  js.Nodup∧(∀j∈js,j<ps.length)∧(∀j (e:MapEntry),es.toList[j]? =some e→(seen.contains e.born=true↔j∈js))
theorem Rng.on {w w':World}{b r:Nat}{ps:List EP}{js:List Nat}(h:Rng w b r ps js)(hb:w'.heap[b]? =w.heap[b]?)(hr:w'.heap[r]? =w.heap[r]?):Rng w' b r ps js∧w'.rangeLeft b r=w.rangeLeft b r:=by
 obtain⟨es,clock,since,seen,c0,⟨h1,h2⟩,h3,h4⟩:=h;exact⟨⟨es,clock,since,seen,c0,⟨hb.trans h1,h2⟩,hr.trans h3,h4⟩,by unfold World.rangeLeft;rw[hb,hr]⟩
theorem Rng.ne {w:World}{b r:Nat}{ps:List EP}{js:List Nat}(h:Rng w b r ps js):r≠b:=by
 obtain⟨es,clock,since,seen,c0,⟨h1,_⟩,h3,_⟩:=h;intro e;rw[e,h1]at h3
 cases h3
theorem Rng.lt {w:World}{b r:Nat}{ps:List EP}{js:List Nat}(h:Rng w b r ps js):b<w.heap.size∧r<w.heap.size:=by
 obtain⟨es,clock,since,seen,c0,⟨h1,_⟩,h3,_⟩:=h;exact⟨(Array.getElem?_eq_some_iff.1 h1).1,(Array.getElem?_eq_some_iff.1 h3).1⟩
theorem qi3 {w:World}{b:Nat}{ps:List EP}(h:MapAt w b ps):∃w',(Instr.range 83 (.map (some b))).run Tryz.prog w=.ok (.pointer (some ⟨w.heap.size,0,none⟩)) w'∧Rng w' b w.heap.size ps []∧w.grownBy w' none∧w'.heap.size=w.heap.size+1:=by
 have hlt:=h.lt;obtain⟨es,clock,hb,hm,hborn,hnd⟩:=h;refine⟨_,run_range_map w 83 128 40 b es clock Tryz.underlying83 hb,⟨es,clock,clock,#[],clock,⟨((MapKept.heap_alloc w _).2 b hlt).trans hb,hm,hborn,hnd⟩,(MapKept.heap_alloc w _).1,hborn,Nat.le_refl _,Nat.le_refl _,List.nodup_nil,by simp,by simp⟩,World.grownBy_alloc w _ none,by simp⟩
theorem run_next_m {w:World}{b r:Nat}{ps:List EP}{js:List Nat}(h:Rng w b r ps js)(ty:TypeId):
 ((∀j,j<ps.length→j∈js)∧(Instr.next (.pointer (some ⟨r,0,none⟩)) false ty).run Tryz.prog w=.ok (.tuple #[.bool false]) w)∨
 ∃(j:Nat) (hj:j<ps.length) (w':World),j∉js∧(Instr.next (.pointer (some ⟨r,0,none⟩)) false ty).run Tryz.prog w=.ok (.tuple #[.bool true,keyV ps[j].1.key,ps[j].2]) w'∧Rng w' b r ps (js++[j])∧w'.rangeLeft b r<w.rangeLeft b r∧
  w.grownBy w' (some r)∧w'.heap.size=w.heap.size∧(Instr.entry (.pointer (some ⟨r,0,none⟩))).run Tryz.prog w'=.ok (.tuple #[keyV ps[j].1.key,ps[j].2]) w':=by
 have hne:=h.ne;obtain⟨es,clock,since,seen,c0,⟨hb,hm,hborn,hnd⟩,hr,hold,hsc,hsk,hj1,hj2,hj3⟩:=h;have hl:es.toList.length=ps.length:=by have:=congrArg List.length hm;simpa using this
 rcases run_next_at (P:=Tryz.prog) w ty r b since c0 seen es clock hr hb hold hsc with ⟨h0,hrun⟩|⟨e,he,w1,hal,hrun⟩
 ·refine Or.inl ⟨fun j hj=>?_,hrun⟩;have hje:es.toList[j]? =some es.toList[j]:=List.getElem?_eq_getElem (by omega);exact(hj3 j _ hje).1 (by have:=all_seen es seen h0 es.toList[j] (List.getElem_mem _);simpa using this)
 ·obtain⟨hem,hes⟩:=mem_left he;obtain⟨j,hj,rfl⟩:=List.getElem_of_mem hem;have hje:es.toList[j]? =some es.toList[j]:=List.getElem?_eq_getElem hj;obtain⟨hjp,hkey,hval⟩:=qdC hm hje
  have hjn:j∉js:=fun hx=>by
   have:=(hj3 j _ hje).2 hx;rw[this]at hes
   cases hes
  have hr1:w1.heap[r]? =some (.mapIter (some b) since seen c0):=by rcases hal with rfl|rfl<;>exact hr
  have hb1:w1.heap[b]? =some (.map es clock):=by rcases hal with rfl|rfl<;>exact hb
  have hlt:r<w1.heap.size:=(Array.getElem?_eq_some_iff.1 hr1).1;have hs1:=qeO hlt (.mapIter (some b) since (seen.push es.toList[j].born) clock);have hg1:=qd7 w1 r (.mapIter (some b) since (seen.push es.toList[j].born) clock);have hb':(setBlock w1 r (.mapIter (some b) since (seen.push es.toList[j].born) clock)).heap[b]? =some (.map es clock):=(hg1.block b ((Array.getElem?_eq_some_iff.1 hb1).1) (fun e1=>hne (by injection e1 with e2;exact e2.symm))).trans hb1;refine Or.inr ⟨j,hjp,_,hjn,by rw[hkey,hval]at hrun;exact hrun,⟨es,clock,since,seen.push es.toList[j].born,clock,⟨hb',hm,hborn,hnd⟩,hs1,hold,hsk,hsk,?_,?_,?_⟩,?_,?_,?_,?_⟩
  ·exact List.nodup_append.2 ⟨hj1,by simp,fun a ha c hc e1=>by simp at hc;subst hc;subst e1;exact hjn ha⟩
  ·intro q hq
   rcases List.mem_append.1 hq with hq|hq
   ·exact hj2 q hq
   ·simp at hq;omega
  ·intro q e2 hq;rw[contains_push,Bool.or_eq_true,hj3 q e2 hq,List.mem_append,List.mem_singleton];constructor
   ·rintro (h1|h1)
    ·exact Or.inl h1
    ·right
     have hbe:=eq_of_beq h1;have hq2:q<es.toList.length:=(List.getElem?_eq_some_iff.1 hq).1;have h3:(es.toList.map (·.born))[q]? =some e2.born:=by rw[List.getElem?_map,hq];rfl
     have h4:(es.toList.map (·.born))[j]? =some e2.born:=by rw[List.getElem?_map,hje,hbe];rfl
     have q2:q<(es.toList.map (·.born)).length:=by simpa using hq2
     have j2:j<(es.toList.map (·.born)).length:=by simpa using hj
     rw[List.getElem?_eq_getElem q2,Option.some.injEq]at h3;rw[List.getElem?_eq_getElem j2,Option.some.injEq]at h4;exact(List.getElem_inj hnd).1 (h3.trans h4.symm)
   ·rintro (h1|h1)
    ·exact Or.inl h1
    ·right
     subst h1;rw[hje]at hq;injection hq with e3;rw[e3];simp
  ·unfold World.rangeLeft;rw[hb',hs1,hb,hr];exact left_shrinks es seen _ he
  ·rcases hal with rfl|rfl
   ·exact hg1
   ·exact⟨hg1.os,hg1.tape,hg1.output,hg1.size,hg1.block⟩
  ·rcases hal with rfl|rfl<;>simp[setBlock]
  ·have:=run_entry_at (P:=Tryz.prog) _ r b since seen es clock es.toList[j] hs1 hb' (List.getElem_mem _) hnd;rw[hkey,hval]at this;exact this
theorem qgy {ops:Array Oper}{rest:List Oper}{o:Oper}{a:Act}{Q:Exit→Act→World→Prop}{w:World}{b:Nat}{ps:List EP}(hgd:o.guard=none)(m:Operand)(hop:o.op=Op.range 83 m)(hm:a.eval m=.map (some b))(h:MapAt w b ps)
 (hK:∀w',Rng w' b w.heap.size ps []→w.grownBy w' none→w'.heap.size=w.heap.size+1→wpList Tryz.prog ops Q rest (a.put o.dst (.pointer (some ⟨w.heap.size,0,none⟩))) w'):wpList Tryz.prog ops Q (o::rest) a w:=by
 refine wpList_plain hgd fun K' hK'=>?_
 obtain⟨w',hrun,r1,r2,r3⟩:=qi3 h;unfold Oper.wp;simp[execOp,hop,hm,hrun,Result.andThen];exact hK' _ _ (hK w' r1 r2 r3)
theorem qhg {ops:Array Oper}{rest:List Oper}{o:Oper}{a:Act}{Q:Exit→Act→World→Prop}{w:World}{b r:Nat}{ps:List EP}{js:List Nat}(hgd:o.guard=none)(it:Operand)(hop:o.op=Op.next it false)(hit:a.eval it=.pointer (some ⟨r,0,none⟩))(h:Rng w b r ps js)
 (hD:(∀j,j<ps.length→j∈js)→wpList Tryz.prog ops Q rest (a.put o.dst (.tuple #[.bool false])) w)
 (hM:∀(j:Nat) (hj:j<ps.length) (w':World),j∉js→Rng w' b r ps (js++[j])→w'.rangeLeft b r<w.rangeLeft b r→w.grownBy w' (some r)→w'.heap.size=w.heap.size→(Instr.entry (.pointer (some ⟨r,0,none⟩))).run Tryz.prog w'=.ok (.tuple #[.agg #[.int .i64 ps[j].1.key.1,.string ⟨ps[j].1.key.2.toArray⟩],ps[j].2]) w'→
  wpList Tryz.prog ops Q rest (a.put o.dst (.tuple #[.bool true,.agg #[.int .i64 ps[j].1.key.1,.string ⟨ps[j].1.key.2.toArray⟩],ps[j].2])) w'):wpList Tryz.prog ops Q (o::rest) a w:=by
 refine wpList_plain hgd fun K' hK'=>?_
 unfold Oper.wp
 rcases run_next_m h o.type with ⟨h0,hrun⟩|⟨j,hj,w',hjn,hrun,hR,hlt,hg,hs,hen⟩
 ·simp[execOp,hop,hit,hrun,Result.andThen];exact hK' _ _ (hD h0)
 ·simp[execOp,hop,hit,hrun,Result.andThen];exact hK' _ _ (hM j hj w' hjn hR hlt hg hs hen)
def pick (ps:List EP)(js:List Nat):List EP:=js.map fun j=>ps[j]?.getD e0
theorem pick_snoc (ps:List EP)(js:List Nat){j:Nat}(hj:j<ps.length):pick ps (js++[j])=pick ps js++[ps[j]]:=by simp[pick,List.getElem?_eq_getElem hj]
theorem qcU (ps:List EP)(js:List Nat):(pick ps js).length=js.length:=by simp[pick]
theorem pick_all {ps:List EP}{js:List Nat}(hd:js.Nodup)(h1:∀j∈js,j<ps.length)(h2:∀j,j<ps.length→j∈js):(pick ps js).Perm ps:=by
 have hp:js.Perm (List.range ps.length):=(List.perm_ext_iff_of_nodup hd List.nodup_range).2 fun j=>by
  rw[List.mem_range];exact⟨h1 j,h2 j⟩
 have e:pick ps (List.range ps.length)=ps:=by
  apply List.ext_getElem?
  intro i;unfold pick;rw[List.getElem?_map]
  rcases Nat.lt_or_ge i ps.length with hi|hi
  ·rw[List.getElem?_eq_getElem (by simpa using hi),List.getElem_range,List.getElem?_eq_getElem hi];simp[List.getElem?_eq_getElem hi]
  ·rw[List.getElem?_eq_none (by simpa using hi),List.getElem?_eq_none hi];rfl
 have:=hp.map (fun j=>ps[j]?.getD e0);unfold pick at e ⊢;rw[e]at this;exact this
theorem Rng.facts {w:World}{b r:Nat}{ps:List EP}{js:List Nat}(h:Rng w b r ps js):js.Nodup∧∀j∈js,j<ps.length:=by
 obtain⟨es,clock,since,seen,c0,_,_,_,_,_,h1,h2,_⟩:=h;exact⟨h1,h2⟩
theorem nodup_le:∀(n:Nat) (js:List Nat),js.Nodup→(∀j∈js,j<n)→js.length≤n
 | 0,[],_,_=>Nat.le_refl _
 | 0,a::t,_,h=>absurd (h a (by simp)) (by omega)
 | n+1,js,hd,h=>by
  have h1:=nodup_le n (js.erase n) (hd.erase n) (fun j hj=>by
   have h2:=h j (List.mem_of_mem_erase hj);have hne:j≠n:=fun e=>by subst e;exact hd.not_mem_erase hj
   omega)
  rw[List.length_erase]at h1
  split at h1<;>omega
theorem qhx {ops:Array Oper}{rest:List Oper}{o:Oper}{a:Act}{Q:Exit→Act→World→Prop}{B:Nat}{w2:World}{v:Value}{qs:List EP}{p:EP}(hgd:o.guard=none)(s t:Operand)
 (ho:o.op=.call { callee:=.builtin .append,args:= #[s,t],argTypes:= #[30,30] }) (hs:a.eval s=v) (hx:a.eval t=.slice (some ⟨w2.heap.size,0,none⟩) 1 1) (h1:p.2.oneCell'=true)
 (hown:w2.ownsRow B 61 3 v qs.length (qau qs)) (hlen:qs.length+1≤100000) (hB:B≤w2.heap.size)
 (h:∀g cap w',w'.ownsRow B 61 3 (.slice (some ⟨g,0,none⟩) (qs.length+1) cap) (qs.length+1) (qau (qs++[p]))→(w2.alloc (.cells #[.int .i64 p.1.key.1,.string ⟨p.1.key.2.toArray⟩,p.2] 61)).grownBy w' v.ownBlock→(v.ownBlock=some g∨g=w2.heap.size+1)→g<w'.heap.size→wpList Tryz.prog ops Q rest (a.put o.dst (.slice (some ⟨g,0,none⟩) (qs.length+1) cap)) w'):
 wpList Tryz.prog ops Q (o::rest) a (w2.alloc (.cells #[.int .i64 p.1.key.1,.string ⟨p.1.key.2.toArray⟩,p.2] 61)):=by
 obtain⟨i0,hi,hz0,hz1,hz2⟩:=info_parts Tryz.info61;refine wpList_append_lies _ hgd s t 30 ho B 61 i0 _ 3 48 Tryz.underlying30 hi hz0 hz1 hz2 rfl (by decide) v qs.length (qau qs) hs (qbt hown (qac _ _)) ⟨w2.heap.size,0,none⟩ 1 1 [.int .i64 p.1.key.1,.string ⟨p.1.key.2.toArray⟩,p.2] hx rfl ?_ ?_ (by decide) (by unfold maxLen;omega) (by omega) (by simp;omega) (w2.heap.size+1) (by simp) ?_
 ·exact World.news_of_block (heap_alloc_new w2 _)
 ·intro u hu;simp only[List.mem_cons,List.not_mem_nil,or_false]at hu
  rcases hu with rfl|rfl|rfl
  ·rfl
  ·rfl
  ·exact h1
 ·intro g cap w' h2 h3 h4 h5;refine h g cap w' ?_ h3 h4 h5;rw[qcA,show qau [p]=[.int .i64 p.1.key.1,.string ⟨p.1.key.2.toArray⟩,p.2] from by rw[qaT];rfl];exact h2
end Go.Proofs.YtephhllfodlfbaaGreatDoor
