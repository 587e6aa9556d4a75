/-
  Which entry comes first, as the program asks it: the closure that the sort is handed.
-/
import Derived.Test.YtephhllfodlfbaaGreatDoorMapY
import Derived.Test.YtephhllfodlfbaaGreatDoorShs
set_option maxRecDepth 100000
set_option maxHeartbeats 16000000
namespace Go.Proofs.YtephhllfodlfbaaGreatDoor
open Go.RowKit Go.Sort
theorem qe9 (s:List UInt8)(w:World):Calls Tryz.prog 125 #[.string ⟨s.toArray⟩] w fun e w'=>e=.returned (.bool false)∧w'=w:=by
 go_enter Tryz.func125,Tryz.ntmps125;go_wp2;go_ret;exact⟨by simp,rfl⟩
def cmpS (a b:List UInt8):Int:=if Op.bytesLess a b=true then -1 else if Op.bytesLess b a=true then 1 else 0
theorem cmpStr_any (a b:List UInt8)(w:World):Calls Tryz.prog 91 #[.string ⟨a.toArray⟩,.string ⟨b.toArray⟩] w fun e w'=>e=.returned (.int .i64 (cmpS a b))∧w'=w:=by
 cases h1:Op.bytesLess a b with
 | true=>
  have HS:Hid (cmpS a b= -1):=by unfold Hid cmpS;rw[if_pos h1]
  go_enter Tryz.func91,Tryz.ntmps91
  go_wp2_with (go_at_call 125;refine(qe9 _ _).mono ?_;rintro e w' ⟨rfl,rfl⟩)
  go_ret;exact⟨by rw[HS.out];rfl,rfl⟩
 | false=>
  have hg:=Pl.bl_gtr2 a b;rw[h1]at hg
  cases h2:Op.bytesLess b a with
  | true=>
   have HS:Hid (cmpS a b=1):=by unfold Hid cmpS;rw[if_neg (by rw[h1];simp),if_pos h2]
   have h3:(a==b)=false:=by
    rw[h2]at hg
    simpa using hg
   clear hg;go_enter Tryz.func91,Tryz.ntmps91
   go_wp2_with (go_at_call 125;refine(qe9 _ _).mono ?_;rintro e w' ⟨rfl,rfl⟩)
   go_ret;exact⟨by rw[HS.out];rfl,rfl⟩
  | false=>
   have HS:Hid (cmpS a b=0):=by unfold Hid cmpS;rw[if_neg (by rw[h1];simp),if_neg (by rw[h2];simp)]
   have h3:(a==b)=true:=by
    rw[h2]at hg
    simpa using hg
   clear hg;go_enter Tryz.func91,Tryz.ntmps91
   go_wp2_with (go_at_call 125;refine(qe9 _ _).mono ?_;rintro e w' ⟨rfl,rfl⟩)
   go_ret;exact⟨by rw[HS.out];rfl,rfl⟩
def orI (a b:Int):Int:=if a=0 then b else a
theorem or_two (a b:Int)(N:Nat)(w:World)(h0:w.cell? ⟨N,0,none⟩=some (.int .i64 a))(h1:w.cell? ⟨N,1,none⟩=some (.int .i64 b)):
 Calls Tryz.prog 89 #[.slice (some ⟨N,0,none⟩) 2 2] w fun e w'=>e=.returned (.int .i64 (orI a b))∧w'=w:=by
 cases ha:(a !=0) with
 | true=>
  have HS:Hid (orI a b=a):=by unfold Hid orI;rw[if_neg (by simpa using ha)]
  go_enter Tryz.func89,Tryz.ntmps89;go_wp2;refine wp_loop_rounds 1 ?_;rw[rounds_succ];go_wp2;go_ret;exact⟨by rw[HS.out];rfl,rfl⟩
 | false=>
  have ha0:a=0:=by simpa using ha
  have HS:Hid (orI a b=b):=by unfold Hid orI;rw[if_pos ha0]
  cases hb:(b !=0) with
  | true=>
   go_enter Tryz.func89,Tryz.ntmps89;go_wp2;refine wp_loop_rounds 2 ?_;rw[rounds_succ];go_wp2;rw[rounds_succ];go_wp2;go_ret;exact⟨by rw[HS.out];rfl,rfl⟩
  | false=>
   have hb0:b=0:=by simpa using hb
   have HS2:Hid (orI a b=0):=by rw[HS.out];exact hb0
   clear hb0;go_enter Tryz.func89,Tryz.ntmps89;go_wp2;refine wp_loop_rounds 3 ?_;rw[rounds_succ];go_wp2;rw[rounds_succ];go_wp2;rw[rounds_succ];go_wp2;go_ret;exact⟨by rw[HS2.out];rfl,rfl⟩
abbrev SE:=Pl.Key×Option Addr×Nat×Nat
def encE (x:SE):List Value:=[.int .i64 x.1.1,.string ⟨x.1.2.toArray⟩,.slice x.2.1 x.2.2.1 x.2.2.2]
def cfE (x y:SE):Int:=orI (Lib.compareInt x.1.1 y.1.1) (cmpS x.1.2 y.1.2)
theorem cells4_on {w' w'':World}{p0 p1 p2 p3:Addr}{v0 v1 v2 v3:Value}(h:w'.cell? p0=some v0∧w'.cell? p1=some v1∧w'.cell? p2=some v2∧w'.cell? p3=some v3)(hb:Below w'.heap.size w' w''):w''.cell? p0=some v0∧w''.cell? p1=some v1∧w''.cell? p2=some v2∧w''.cell? p3=some v3:=
 ⟨qab hb h.1,qab hb h.2.1,qab hb h.2.2.1,qab hb h.2.2.2⟩
theorem closure76 (x y:SE)(W:World):Calls Tryz.prog 88 #[.agg (encE x).toArray,.agg (encE y).toArray] W fun e w'=>e=.returned (.int .i64 (cfE x y))∧∃q os',w'=grow (W.drewN q) os':=by
 obtain⟨⟨k1,n1⟩,a1,l1,c1⟩:=x;obtain⟨⟨k2,n2⟩,a2,l2,c2⟩:=y;unfold cfE encE;dsimp only;have hci:=fun W'=>Tryz.cmp_Compare_int k1 k2 W'
 have hcs:=fun W'=>cmpStr_any n1 n2 W'
 generalize Lib.compareInt k1 k2=r1 at hci ⊢;generalize cmpS n1 n2=r2 at hcs ⊢;have HCI:Hid _:=hci;have HCS:Hid _:=hcs;clear hci hcs;have hz:((W.alloc (.cells #[.int .i64 k1,.string ⟨n1.toArray⟩,.slice a1 l1 c1] 61)).alloc (.cells #[.int .i64 k2,.string ⟨n2.toArray⟩,.slice a2 l2 c2] 61)).heap.size=W.heap.size+2:=by simp
 have S0:((W.alloc (.cells #[.int .i64 k1,.string ⟨n1.toArray⟩,.slice a1 l1 c1] 61)).alloc (.cells #[.int .i64 k2,.string ⟨n2.toArray⟩,.slice a2 l2 c2] 61)).drew.cell? ⟨W.heap.size,0,none⟩=some (.int .i64 k1)∧((W.alloc (.cells #[.int .i64 k1,.string ⟨n1.toArray⟩,.slice a1 l1 c1] 61)).alloc (.cells #[.int .i64 k2,.string ⟨n2.toArray⟩,.slice a2 l2 c2] 61)).drew.cell? ⟨W.heap.size,1,none⟩=some (.string ⟨n1.toArray⟩)∧
  ((W.alloc (.cells #[.int .i64 k1,.string ⟨n1.toArray⟩,.slice a1 l1 c1] 61)).alloc (.cells #[.int .i64 k2,.string ⟨n2.toArray⟩,.slice a2 l2 c2] 61)).drew.cell? ⟨W.heap.size+1,0,none⟩=some (.int .i64 k2)∧((W.alloc (.cells #[.int .i64 k1,.string ⟨n1.toArray⟩,.slice a1 l1 c1] 61)).alloc (.cells #[.int .i64 k2,.string ⟨n2.toArray⟩,.slice a2 l2 c2] 61)).drew.cell? ⟨W.heap.size+1,1,none⟩=some (.string ⟨n2.toArray⟩):=by
  refine⟨?_,?_,?_,?_⟩<;>simp[go_sem]
 go_enter Tryz.func88,Tryz.ntmps88;go_wp2
 go_region_held3 (fun w'=>w'.cell? ⟨W.heap.size,0,none⟩=some (.int .i64 k1)∧w'.cell? ⟨W.heap.size,1,none⟩=some (.string ⟨n1.toArray⟩)∧w'.cell? ⟨W.heap.size+1,0,none⟩=some (.int .i64 k2)∧w'.cell? ⟨W.heap.size+1,1,none⟩=some (.string ⟨n2.toArray⟩))
  (first|with_reducible assumption|exact cells4_on (by with_reducible assumption) (qac _ _))
  (first|(go_at_call 90;refine(HCI.out _).mono ?_;rintro e w' ⟨rfl,rfl⟩)|(go_at_call 91;refine(HCS.out _).mono ?_;rintro e w' ⟨rfl,rfl⟩)|(go_at_call 89;refine(or_two r1 r2 _ _ (by simp[go_sem]) (by simp[go_sem])).mono ?_;rintro e w' ⟨rfl,rfl⟩))
 go_wp2;go_ret;exact⟨rfl,1,_,by rw[alloc_eq_grow,alloc_eq_grow,alloc_eq_grow,grow_grow,grow_grow];rfl⟩
theorem lt_eq (x y:SE):ltOf cfE x y=Pl.qas x.1 y.1:=by
 unfold ltOf cfE orI Lib.compareInt cmpS Pl.qas
 by_cases h1:x.1.1<y.1.1
 ·simp[h1]
 ·by_cases h2:y.1.1<x.1.1
  ·have h3:¬x.1.1=y.1.1:=by omega
   simp[h1,h2,h3]
  ·have h3:x.1.1=y.1.1:=by omega
   cases h4:Op.bytesLess x.1.2 y.1.2 with
   | true=>simp[h3]
   | false=>cases Op.bytesLess y.1.2 x.1.2<;>simp[h3]
theorem swoE:SWO (ltOf cfE) where
 irrefl x:=by rw[lt_eq];exact Pl.qh2 _
 trans x y z h1 h2:=by rw[lt_eq]at *;exact Pl.qdU h1 h2
 ntrans x y z h1 h2:=by
  rw[lt_eq]at *
  cases h3:Pl.qas x.1 z.1 with
  | false=>rfl
  | true=>
   rcases Pl.qfI x.1 y.1 with a|a|a
   ·rw[a]at h1;cases h1
   ·rw[a]at h3;rw[h3]at h2;cases h2
   ·have:=Pl.qdU a h3;rw[this]at h2;cases h2
theorem cmpLays76 (blk off size:Nat)(w:World):CmpLays Tryz.prog 88 #[] encE 3 cfE blk off size w:=fun _ _ _ _ x y=>closure76 x y _
theorem perm_lift {α β:Type}{f:α→β}:∀{l m:List β},l.Perm m→∀qs:List α,m=qs.map f→∃qs':List α,qs'.Perm qs∧qs'.map f=l:=by
 intro l m h
 induction h with
 | nil=>
  intro qs hq;obtain rfl:qs=[]:=by simpa using hq.symm
  exact⟨[],.nil,rfl⟩
 | cons x _ ih=>
  intro qs hq
  cases qs with
  | nil=>simp at hq
  | cons q r=>
   simp only[List.map_cons,List.cons.injEq]at hq;obtain⟨r',h1,h2⟩:=ih r hq.2;exact⟨q::r',h1.cons q,by simp[h2,hq.1]⟩
 | swap x y l=>
  intro qs hq
  cases qs with
  | nil=>simp at hq
  | cons q r=>
   cases r with
   | nil=>simp at hq
   | cons q2 r=>
    simp only[List.map_cons,List.cons.injEq]at hq;exact⟨q2::q::r,.swap _ _ _,by simp[hq.1,hq.2.1,hq.2.2]⟩
 | trans _ _ ih1 ih2=>
  intro qs hq;obtain⟨q1,h1,h2⟩:=ih2 qs hq;obtain⟨q2,h3,h4⟩:=ih1 q1 h2.symm;exact⟨q2,h3.trans h1,h4⟩
def slP:Value→Option Addr×Nat×Nat
 | .slice a l c=>(a,l,c)
 | _=>(none,0,0)
def toSE (p:EP):SE:=(p.1.key,slP p.2)
def Sls (qs:List EP):Prop:=∀p∈qs,∃a l c,p.2=.slice a l c
theorem enc_to {p:EP}(h:∃a l c,p.2=.slice a l c):encE (toSE p)=[.int .i64 p.1.key.1,.string ⟨p.1.key.2.toArray⟩,p.2]:=by
 obtain⟨a,l,c,e⟩:=h;simp[encE,toSE,slP,e]
theorem qgD:∀{qs:List EP},Sls qs→∀j,j<qs.length*3→(qau qs)[j]? =some ((encE ((qs.map toSE).toArray)[j / 3]!)[j % 3]!):=by
 intro qs hs j hj;have hi:j / 3<qs.length:=by omega
 obtain⟨h0,h1,h2⟩:=qb6 qs (j / 3) hi
 have he:((qs.map toSE).toArray)[j / 3]! =toSE qs[j / 3]:=by
  rw[getElem!_pos _ _ (by simpa using hi)];simp
 rw[he,enc_to (hs _ (List.getElem_mem hi))];have hm:j % 3=0∨j % 3=1∨j % 3=2:=by omega
 rcases hm with e|e|e
 ·rw[e];have:j=j / 3*3:=by omega
  rw[←this]at h0
  simpa using h0
 ·rw[e];have:j=j / 3*3+1:=by omega
  rw[←this]at h1
  simpa using h1
 ·rw[e];have:j=j / 3*3+2:=by omega
  rw[←this]at h2
  simpa using h2
theorem qig {w:World}{B g n cap:Nat}{qs:List EP}(h:w.ownsRow B 61 3 (.slice (some ⟨g,0,none⟩) n cap) n (qau qs))(hn:qs.length=n)(hs:Sls qs):HoldsK encE 3 w g 0 (qs.map toSE).toArray:=by
 intro j hj;have hj':j<qs.length*3:=by simpa using hj
 refine⟨?_,?_⟩
 ·rw[Nat.zero_add,World.ownsRow.cellAt h j (by omega),qgD hs j hj',get_flatK _ _ _ _ (by simpa using hj')];rfl
 ·exact World.ownsRow.frozenAt h _
theorem sorted_row {w:World}{B g n cap m:Nat}{qs qs':List EP}{os:Array Obj}(h:w.ownsRow B 61 3 (.slice (some ⟨g,0,none⟩) n cap) n (qau qs))(hn:qs.length=n)(hs:Sls qs)(hp:qs'.Perm qs):
 (sortWorldK encE 3 w g 0 m (qs'.map toSE).toArray os).ownsRow B 61 3 (.slice (some ⟨g,0,none⟩) n cap) n (qau qs')∧w.grownBy (sortWorldK encE 3 w g 0 m (qs'.map toSE).toArray os) (some g):=by
 have hl:qs'.length=n:=hp.length_eq.trans hn;have hs':Sls qs':=fun p hp'=>hs p (hp.mem_iff.1 hp')
 have hH:=qig h hn hs;have hlt:=(World.ownsRow.lt h g rfl).2;have hH':=holdsK_sortWorldK_c encE 3 w g 0 (qs.map toSE).toArray (qs'.map toSE).toArray m os hH hlt (by simp[hl,hn])
 rcases h.2 with ⟨h0,_⟩|⟨g',cap',cur,h',hb,hg,hnc,hcm,hcs,htake⟩
 ·cases h0
 simp only[Value.slice.injEq,Option.some.injEq,Addr.mk.injEq,and_true,true_and]at h';obtain⟨rfl,rfl⟩:=h'
 have hblk:(sortWorldK encE 3 w g 0 m (qs'.map toSE).toArray os).heap[g]? =some (.cells (putCells id 0 (flatK encE 3 (qs'.map toSE).toArray) cur) 61 (0,0)):=by
  unfold sortWorldK;rw[heap_grow_old _ _ (by simpa [putRowK,putRow,mapBlock,Sort.ahead] using hlt)];simp[putRowK,putRow,mapBlock,Sort.ahead,Array.getElem?_modify,hg,onCells]
 have hsz:(putCells id 0 (flatK encE 3 (qs'.map toSE).toArray) cur).size=cur.size:=by simp[putCells]
 refine⟨⟨by rw[qdf,hl],Or.inr ⟨g,cap,_,rfl,hb,hblk,hnc,hcm,by rw[hsz];exact hcs,?_⟩⟩,⟨rfl,rfl,rfl,by simp[sortWorldK,grow,putRowK,putRow,mapBlock,Sort.ahead],fun k hk hne=>?_⟩⟩
 ·apply List.ext_getElem?
  intro j;rw[List.getElem?_take]
  by_cases hj:j<n*3
  ·rw[if_pos hj,qgD hs' j (by rw[hl];exact hj)];have hc:=(hH' j (by simpa [hl] using hj)).1;rw[Nat.zero_add,cell_of_row _ g j _ 61 (0,0) hblk,get_flatK _ _ _ _ (by simpa [hl] using hj)]at hc
   simpa using hc
  ·rw[if_neg hj,List.getElem?_eq_none (by rw[qdf,hl];omega)]
 ·unfold sortWorldK;rw[heap_grow_old _ _ (by simpa [putRowK,putRow,mapBlock,Sort.ahead] using hk)];have:g≠k:=fun e=>hne (by rw[e])
  simp[putRowK,putRow,mapBlock,Sort.ahead,Array.getElem?_modify,this]
theorem fam_sls {B:Nat}{w:World}{ps:List EP}(h:Fam B w ps):Sls ps:=fun p hp=>by
 obtain⟨a,c,e⟩:=qcV (h.ints p hp);exact⟨a,_,c,e⟩
theorem pick_sls {ps:List EP}(h:Sls ps)(js:List Nat):Sls (pick ps js):=by
 intro p hp;obtain⟨j,_,rfl⟩:=List.mem_map.1 hp
 cases hj:ps[j]? with
 | none=>exact⟨none,0,0,by simp[e0]⟩
 | some q=>exact h q (List.mem_of_getElem? hj)
def EntSays (b:Nat)(ps:List EP)(w:World)(e:Ending)(w':World):Prop:=
 ∃v qs,e=.returned v∧qs.Perm ps∧qs.Pairwise (fun p q=>Pl.qas q.1.key p.1.key=false)∧ERow (b+1) w' v qs∧Below w.heap.size w w'
theorem ent_sorted {b:Nat}{ps qs:List EP}{w wr:World}{g n cap m:Nat}{os:Array Obj}{d':Array SE}(ho:wr.ownsRow (w.heap.size+1) 61 3 (.slice (some ⟨g,0,none⟩) n cap) n (qau qs))(hn:qs.length=n)(hs:Sls qs)(hp:qs.Perm ps)(hf:Fam (b+1) w ps)(hB:RowKit.Below w.heap.size w wr)(hb:b<w.heap.size)
 (hpi:PermIn 0 n (qs.map toSE).toArray d') (hsi:SortedIn (ltOf cfE) 0 n d'):EntSays b ps w (.returned (.slice (some ⟨g,0,none⟩) n cap)) (sortWorldK encE 3 wr g 0 m d' os):=by
 obtain⟨hsz,_,hperm⟩:=hpi
 have e1:(d'.extract 0 n).toList=d'.toList:=by
  have:d'.size=n:=by rw[hsz];simp[hn]
  rw[←this];simp
 have e2:((qs.map toSE).toArray.extract 0 n).toList=qs.map toSE:=by
  have:(qs.map toSE).toArray.size=n:=by simp[hn]
  rw[←this];simp[List.take_of_length_le]
 rw[e1,e2]at hperm;obtain⟨qs',hq,hm⟩:=perm_lift hperm qs rfl;have hd:d'=(qs'.map toSE).toArray:=by rw[hm]
 subst hd;obtain⟨s1,s2⟩:=sorted_row (m:=m) (os:=os) ho hn hs hq;have hgB:=(World.ownsRow.lt ho g rfl).1;have hl:qs'.length=n:=hq.length_eq.trans hn;have hqp:=hq.trans hp;have hfw:=(hf.on hB)
 have hlow:∀p∈ps,p.2.ownBlock≠some g:=by
  intro p hp2 e;have:=(World.ownsRow.lt (hf.ints p hp2) g e).2;omega
 have hfs:=hfw.kept s2 (fun q hq2=>by injection hq2 with e;subst e;exact hlow);refine⟨_,qs',rfl,hqp,?_,⟨?_,fun p hp2=>hfs.ints p (hqp.mem_iff.1 hp2),(hqp.pairwise_iff (fun{_ _} h=>Apart.symm h)).2 hfs.apart,?_⟩,?_⟩
 ·rw[List.pairwise_iff_getElem];intro i j hi hj hij;have:=hsi i j (Nat.zero_le _) hij (by omega);rw[lt_eq]at this;rw[getElem!_pos _ _ (by simpa using hj),getElem!_pos _ _ (by simpa using hi)]at this
  simpa [toSE] using this
 ·rw[hl];exact qhA s1 (by omega)
 ·intro p hp2 q hq2 e;have e3:g=q:=by simpa [Value.ownBlock] using e
  subst e3;exact hlow p (hqp.mem_iff.1 hp2) hq2
 ·exact hB.grown s2 hB.size (fun q hq2=>by injection hq2 with e;omega)
theorem qiO (b:Nat)(ps:List EP)(w:World)(hmap:MapAt w b ps)(hfam:Fam (b+1) w ps)(hne:ps≠[])(hlen:ps.length≤1000):
 Calls Tryz.prog 42 #[.map (some b)] w fun e w'=>EntSays b ps w e w':=by
 have HMAP:Hid (MapAt _ _ _):=hmap;have HFAM:Hid (Fam _ _ _):=hfam;have hbw:=hmap.lt;clear hmap hfam;go_enter Tryz.func42,Tryz.ntmps42
 go_wp2_with (at_range;refine Hid.out ?_)
 unfold Hid;refine qgy (b:=b) (ps:=ps) ?_ (.tmp 6) ?_ ?_ HMAP.out ?_
 ·rfl
 ·rfl
 ·rfl
 intro w0 hR0 hg0 hs0;have HB0:Hid (Below w.heap.size w w0):=⟨hg0.os,hg0.tape,hg0.output,hg0.size,fun k hk=>hg0.block k hk (by simp)⟩
 have HR0:Hid (Rng _ _ _ _ _):=hR0;clear hR0 hg0 hs0
 go_wp2_with fail
 go_frame
 go_loopw [3] (fun v wr=>∃js,Hid (Rng wr b w.heap.size ps js)∧Hid (wr.ownsRow (w.heap.size+1) 61 3 v (pick ps js).length (qau (pick ps js)))∧Hid (Below w.heap.size w wr)) (fun _ wr=>wr.rangeLeft b w.heap.size)
 case atStart=>exact⟨[],HR0,World.ownsRow_nil _ _ _ _,HB0⟩
 case round=>
  obtain⟨js,HR,HO,HB⟩:=hrel;obtain⟨av,cv,rfl⟩:=qcV HO.out;obtain⟨hjd,hjl⟩:=HR.out.facts;have hjn:=nodup_le _ _ hjd hjl;have hrl:=HR.out.lt;have HJD:Hid _:=hjd;have HJL:Hid _:=hjl;clear hjd hjl;rw[qcU]at *
  go_wp2_with (at_next;refine Hid.out ?_)
  unfold Hid;refine qhg (b:=b) (r:=w.heap.size) (ps:=ps) (js:=js) ?_ (.tmp 7) ?_ ?_ HR.out ?_ ?_
  ·rfl
  ·rfl
  ·rfl
  ·intro hall;have HP:Hid ((pick ps js).Perm ps):=pick_all HJD.out HJL.out hall;clear hall
   have hjpos:0<js.length:=by
    have h1:=HP.out.length_eq;rw[qcU]at h1;have h2:0<ps.length:=List.length_pos_iff.2 hne;omega
   obtain⟨g,cg,eg,hgB,hgS⟩:=HO.out.form hjpos;obtain⟨rfl,rfl⟩:av=some ⟨g,0,none⟩∧cv=cg:=by injection eg with q1 q2 q3;exact⟨q1,q3⟩
   have hsl:=pick_sls (fam_sls HFAM.out) js;have hH:=qig HO.out (qcU ps js) hsl;have eg76:∀args w,(callFunc 88 args).run Tryz.prog w=.ok (.enter 88 args) w:=enters_of Tryz.func88 (by kernel_rfl) rfl;have hcon:=AnyQ.slices_SortFunc Tryz.sort75 3 Tryz.isAgg61 Tryz.sizeOf61 encE (fun _=>rfl) (fun x v hv=>by simp[encE]at hv;rcases hv with rfl|rfl|rfl<;>rfl) cfE swoE 88 #[] g 0 cv ((pick ps js).map toSE).toArray wr eg76 (cmpLays76 g 0 _ wr) hH hgS (by simp[qcU];omega)
   change Calls Tryz.prog 87 _ _ _ at hcon
   simp only[List.size_toArray,List.length_map,qcU]at hcon;have HCON:Hid (Calls Tryz.prog 87 _ _ _):=hcon;have HSL:Hid (Sls _):=hsl;clear hcon hH hsl eg76 eg
   go_wp2_with fail
   refine HCON.out.mono ?_;rintro e w5 ⟨rfl,d',m,os,hp,hs,rfl⟩;have HS:Hid (EntSays b ps w (.returned (.slice (some ⟨g,0,none⟩) js.length cv)) (sortWorldK encE 3 wr g 0 m d' os)):=ent_sorted HO.out (qcU ps js) HSL.out HP.out HFAM.out HB.out hbw hp hs;clear hp hs HCON;go_wp2;go_ret;exact HS.out
  ·intro j hj w1 hjn1 hR1 hlt1 hg1 hs1 hen;obtain⟨as_,ls,cs,esl⟩:=fam_sls HFAM.out ps[j] (List.getElem_mem hj);have HPS:Hid (pick ps (js++[j])=pick ps js++[ps[j]]):=pick_snoc ps js hj;obtain⟨p,hp⟩:∃p,ps[j]=p:=⟨_,rfl⟩
   rw[hp]at hen esl ⊢;have HPj:Hid (ps[j]=p):=hp;clear hp;obtain⟨⟨⟨pk,pn⟩,nds⟩,sv⟩:=p;dsimp only at hen esl ⊢;subst esl;have HR1:Hid (Rng _ _ _ _ _):=hR1;have HLT:Hid (_<_):=hlt1
   have HO1:Hid (w1.ownsRow (w.heap.size+1) 61 3 (.slice av js.length cv) js.length (qau (pick ps js))):=HO.out.kept hg1 (by
    cases hv:(Value.slice av js.length cv).ownBlock with
    | none=>exact Or.inl rfl
    | some q=>exact Or.inr fun e=>by injection e with e;have:=(World.ownsRow.lt HO.out q hv).1;omega)
   have HB1:Hid (RowKit.Below w.heap.size w w1):=HB.out.grown hg1 (by have:=HB.out.size;omega) (fun q hq=>by injection hq with e;omega);have hz1:w.heap.size+1≤w1.heap.size:=by rw[hs1];omega
   clear hR1 hlt1 hg1 hs1
   go_wp2_with (at_builtin;refine Hid.out ?_)
   unfold Hid;have h100:(pick ps js).length+1≤100000:=by rw[qcU];omega
   refine qhx (B:=w.heap.size+1) (w2:=w1.alloc (.cells #[.int .i64 pk,.string ⟨pn.toArray⟩] 128)) (v:=.slice av js.length cv) (qs:=pick ps js) (p:=(⟨(pk,pn),nds⟩,.slice as_ ls cs)) ?_ (.tmp 13) (.tmp 20) ?_ ?_ ?_ rfl (by rw[qcU];exact qbt HO1.out (qac _ _)) h100 (by simp;omega) ?_
   ·rfl
   ·rfl
   ·rfl
   ·first|rfl|(simp[Act.eval];done)
   intro g7 cap7 w7 ho7 hg7 hat7 hlt7;have hvb:∀q,(Value.slice av js.length cv).ownBlock=some q→w.heap.size+1≤q:=fun q hq=>(World.ownsRow.lt HO1.out q hq).1
   have hga:w1.grownBy w7 (Value.slice av js.length cv).ownBlock:=qbK (qbK (World.grownBy_alloc w1 _ _) (World.grownBy_alloc _ _ _) (fun q hq=>Or.inl hq.symm)) hg7 (fun q hq=>Or.inl hq.symm);have hlt1:=HR1.out.lt;obtain⟨hR7,hl7⟩:=HR1.out.on (hga.block b hlt1.1 (fun e=>by have:=hvb b e.symm;omega)) (hga.block w.heap.size hlt1.2 (fun e=>by have:=hvb _ e.symm;omega));have HR7:Hid (Rng _ _ _ _ _):=hR7;have HLT7:Hid (w7.rangeLeft b w.heap.size<wr.rangeLeft b w.heap.size):=by unfold Hid;rw[hl7];exact HLT.out
   have HB7:Hid (RowKit.Below w.heap.size w w7):=HB1.out.grown hga (by omega) (fun q hq=>by have:=hvb q hq;omega)
   have HO7:Hid (w7.ownsRow (w.heap.size+1) 61 3 (.slice (some ⟨g7,0,none⟩) ((pick ps js).length+1) cap7) (pick ps (js++[j])).length (qau (pick ps (js++[j])))):=by
    unfold Hid;rw[HPS.out,HPj.out,List.length_append];exact ho7
   clear ho7 hg7 hat7 hlt7 hga hvb hR7 hl7 hen;go_wp2;exact⟨⟨js++[j],HR7,HO7,HB7⟩,HLT7.out⟩
end Go.Proofs.YtephhllfodlfbaaGreatDoor
namespace Go.Proofs.YtephhllfodlfbaaGreatDoor
open Go.RowKit
theorem gather_any (b o cap:Nat)(ns:List Pl.Nd)(w:World)(h64:ns.length≤64)(hsh:∀x∈ns,x.cls.length≤6)(hgood:∀x∈ns,∀k∈Pl.keysOf x,Good k)(hc:∀i (h:i<ns.length),NdAt w b (o+i*5) ns[i]):
 Calls Tryz.prog 40 #[.slice (some ⟨b,o,none⟩) ns.length cap] w fun e w'=>∃ps,e=.returned (.map (some w.heap.size))∧MapAt w' w.heap.size ps∧Fam (w.heap.size+1) w' ps∧ps.map (·.1)=Pl.qa2 ns ns.length∧Below w.heap.size w w':=by
 have HC:Hid _:=hc;have HSH:Hid _:=hsh;have HGO:Hid _:=hgood;have HFIT:Hid (∀n,Pl.GFit (8*n) (Pl.qa2 ns n)):=Pl.qhm hsh;have HGK:Hid (∀n,∀e∈Pl.qa2 ns n,Good e.key):=Pl.qgt hgood;have HND:Hid (∀n,((Pl.qa2 ns n).map (·.key)).Nodup):=Pl.qc9 ns;clear hc hsh hgood;have hmm:= @run_makeMap Tryz.prog;have H0:Hid (MapAt (w.alloc (.map #[] 0)) w.heap.size []):=⟨#[],0,heap_alloc_new w _,rfl,by simp,by simp⟩
 have hB0:Hid (Below w.heap.size w (w.alloc (.map #[] 0))):=qac _ _;go_enter Tryz.func40,Tryz.ntmps40
 go_wp2_with fail
 generalize w.alloc (.map #[] 0)=w0 at *
 go_loopw [11] (fun i wr=>∃n:Nat,n≤ns.length∧i=.int .i64 n∧∃ps,Hid (MapAt wr w.heap.size ps)∧Hid (Fam (w.heap.size+1) wr ps)∧Hid (ps.map (·.1)=Pl.qa2 ns n)∧Hid (Below w.heap.size w wr)) (fun i _=>ns.length-(intOf i).toNat)
 case atStart=>exact⟨0,Nat.zero_le _,rfl,[],H0,Fam.nil _ _,rfl,hB0⟩
 case round=>
  obtain⟨n,hn,rfl,ps,hmp,hfam,hmap,hbe⟩:=hrel
  by_cases hlt:n<ns.length
  ·have hBr:Below w.heap.size w wr:=hbe.out;obtain⟨vc,va,n0,n1,n2,n3,n4,nc,na⟩:=(HC.out n hlt).on hBr;obtain⟨ac,cc,rfl,-⟩:=id nc;obtain⟨aa,ca,rfl,-⟩:=id na;have L1:=HSH.out ns[n] (List.getElem_mem hlt);have HKG:Hid (∀k∈Pl.keysOf ns[n],Good k):=HGO.out ns[n] (List.getElem_mem hlt)
   have HNX:Hid (Pl.qa2 ns (n+1)=Pl.qbD (Pl.keysOf ns[n]) n (Pl.qa2 ns n)):=by
    unfold Hid;rw[show Pl.qa2 ns (n+1)=(match ns[n]? with|none=>Pl.qa2 ns n|some x=>Pl.qbD (Pl.keysOf x) n (Pl.qa2 ns n)) from rfl,List.getElem?_eq_getElem hlt]
   have HNC:Hid (qa1 _ _ _):=nc;have HNA:Hid (qbY _ _ _):=na;clear nc na hBr;generalize ns[n]=x at *;have i1:(0:Int)≤(n:Int):=by omega
   have i2:(n:Int)<(ns.length:Int):=by omega
   have hbox:Below wr.heap.size wr (wr.alloc (.cells #[.int .i64 x.up,.string ⟨x.tag.toArray⟩,.string ⟨x.id.toArray⟩,.slice ac x.cls.length cc,.slice aa x.ats.length ca] 28)):=qac _ _;have NV:Hid (NdV (wr.alloc (.cells #[.int .i64 x.up,.string ⟨x.tag.toArray⟩,.string ⟨x.id.toArray⟩,.slice ac x.cls.length cc,.slice aa x.ats.length ca] 28)) (.agg #[.int .i64 x.up,.string ⟨x.tag.toArray⟩,.string ⟨x.id.toArray⟩,.slice ac x.cls.length cc,.slice aa x.ats.length ca]) x):=⟨_,_,rfl,qa1.on HNC.out hbox,qbY.on HNA.out hbox⟩
   have HBX:Hid (Below _ _ _):=hbox;clear hbox
   go_wp2_with fail
   refine(keysOf_any _ x _ NV.out L1).mono ?_;rintro e w1 ⟨u,rfl,hku,hb1⟩;have hkl:=Pl.keys8 x L1;have hkp:0<(Pl.keysOf x).length:=by simp[Pl.keysOf]
   obtain⟨gk,ck,rfl,hgk,hgk2⟩:=hku.form hkp;have hB2:Below wr.heap.size wr w1:=qaa HBX.out hb1;have hms:=hmp.out.lt;simp only[World.size_alloc]at hgk hku;have HG:Hid (Gath w w.heap.size (wr.heap.size+1+1) gk ck (Pl.keysOf x) w1 ps):=⟨hmp.out.on (hB2.block _ hms),hfam.out.on hB2,hfam.out.low (Or.inr (by omega)),hku,by omega,hbe.out.trans (hB2.mono (by omega))⟩
   have HMP:Hid (ps.map (·.1)=Pl.qbD ((Pl.keysOf x).take 0) n (Pl.qa2 ns n)):=hmap;have HF0:Hid (Pl.GFit (8*n) (Pl.qa2 ns n)):=HFIT.out n;have HK0:Hid (∀e∈Pl.qa2 ns n,Good e.key):=HGK.out n;have HD0:Hid (((Pl.qa2 ns n).map (·.key)).Nodup):=HND.out n;clear hmp hfam hku hbe hmap hb1 n0 n1 n2 n3 n4 NV L1 HFIT hgk hgk2 HBX HNC HNA hB2 hms HGK HND;generalize Pl.qa2 ns n=L0 at *;generalize Pl.keysOf x=K at *;generalize wr.heap.size+1+1=BK at *
   go_wp2_with fail
   go_loopw [19] (fun i wr=>∃k:Nat,k≤K.length∧i=.int .i64 k∧∃ps,Hid (Gath w w.heap.size BK gk ck K wr ps)∧Hid (ps.map (·.1)=Pl.qbD (K.take k) n L0)) (fun i _=>K.length-(intOf i).toNat)
   case atStart=>exact⟨0,Nat.zero_le _,rfl,ps,HG,HMP⟩
   case round=>
    clear HG HMP;obtain⟨k,hk,rfl,ps,HG,HMP⟩:=hrel
    by_cases hlk:k<K.length
    ·obtain⟨q0,q1⟩:=own_two HG.out.keys hlk (qfw K k hlk)
     have HNX2:Hid (Pl.qbD (K.take (k+1)) n L0=Pl.gput K[k] n (Pl.qbD (K.take k) n L0)):=by
      unfold Hid;rw[List.take_succ_eq_append_getElem hlk,Pl.qh7]
     have hfit:Pl.GFit (8*n+8) (ps.map (·.1)):=by
      rw[HMP.out];have:=Pl.qep n (K.take k) HF0.out;have hl:(K.take k).length≤8:=by simp;omega
      exact⟨by have:=this.1;omega,fun e he=>by have:=this.2 e he;omega⟩
     have HPN:Hid (∀p∈ps,p.1.nodes.length≤8*n+8):=fun p hp=>hfit.2 p.1 (List.mem_map_of_mem hp)
     have HPG:Hid (∀p∈ps,Good p.1.key):=fun p hp=>by
      have h1:=Pl.qdx n (K.take k) (l:=L0) (P:=Good) (fun q hq=>HKG.out q (List.mem_of_mem_take hq)) HK0.out p.1;rw[←HMP.out]at h1;exact h1 (List.mem_map_of_mem hp)
     have HPD:Hid (((ps.map (·.1)).map (·.key)).Nodup):=by
      unfold Hid;rw[HMP.out];exact Pl.qdp n _ HD0.out
     have HKy:Hid (Good K[k]):=HKG.out K[k] (List.getElem_mem hlk);clear hfit;generalize K[k]=key at *;obtain⟨kk,kn⟩:=key;dsimp only at q0 q1;have i3:(0:Int)≤(k:Int):=by omega
     have i4:(k:Int)<(K.length:Int):=by omega
     obtain⟨W,hW⟩:∃W,W=wr:=⟨_,rfl⟩
     subst hW;have HBb:Hid (Below W.heap.size W ((W.alloc (.cells #[.int .i64 kk,.string ⟨kn.toArray⟩] 128)).alloc (.cells #[.int .i64 (n:Int)] 3))):=boxes _ _ _
     have hNb:((W.alloc (.cells #[.int .i64 kk,.string ⟨kn.toArray⟩] 128)).alloc (.cells #[.int .i64 (n:Int)] 3)).heap[W.heap.size+1]? =some (.cells #[.int .i64 (n:Int)] 3):=by
      have:=heap_alloc_new (W.alloc (.cells #[.int .i64 kk,.string ⟨kn.toArray⟩] 128)) (.cells #[.int .i64 (n:Int)] 3)
      simpa using this
     have hszb:((W.alloc (.cells #[.int .i64 kk,.string ⟨kn.toArray⟩] 128)).alloc (.cells #[.int .i64 (n:Int)] 3)).heap.size=W.heap.size+2:=by simp
     have HNb:Hid _:=hNb;have HSb:Hid _:=hszb;clear hNb hszb
     go_wp2_with (with_reducible refine at_me ?_)
     clear q0 q1;generalize (W.alloc (.cells #[.int .i64 kk,.string ⟨kn.toArray⟩] 128)).alloc (.cells #[.int .i64 (n:Int)] 3)=Wb at *;unfold Hid;refine qfX (b:=w.heap.size) (ps:=ps) (k:=(kk,kn)) ?_ (.tmp 23) (.tmp 24) ?_ ?_ ?_ (HG.out.on HBb.out).map HPG.out HKy.out Tryz.zero55 ?_
     ·rfl
     ·rfl
     ·rfl
     ·rfl
     intro ps1 j st hj w' hS hg' hs' hkey hor;have hF:=hor_fam (HG.out.on HBb.out).fam hg' hor
     have hnl:ps1[j].1.nodes.length≤8*n+8:=by
      rcases hor with e|⟨e,e2,_⟩
      ·subst e;exact HPN.out _ (List.getElem_mem hj)
      ·subst e e2;rw[List.getElem_append_right (by omega)];simp
     have hint:=hF.ints ps1[j] (List.getElem_mem hj);obtain⟨ep,hep⟩:∃e,ps1[j]=e:=⟨_,rfl⟩
     rw[hep]at hkey hnl hint;obtain⟨⟨pk,nds⟩,sv⟩:=ep;dsimp only at hkey hnl hint;subst hkey;obtain⟨as_,cs,rfl⟩:=qcV hint;have HEP:Hid (ps1[j]=(⟨(kk,kn),nds⟩,.slice as_ nds.length cs)):=hep;have e2:ps1[j].2=.slice as_ nds.length cs:=by rw[hep]
     rw[e2];have HS:Hid (MapS _ _ _ _ _):=hS;have HG':Hid (World.grownBy _ _ _):=hg';have HS':Hid (w'.heap.size=Wb.heap.size):=hs';have HOR:Hid _:=hor;have HINT:Hid (World.ownsRow _ _ _ _ _ _ _):=hint
     have HNw:Hid (w'.heap[W.heap.size+1]? =some (.cells #[.int .i64 (n:Int)] 3)):=by
      unfold Hid;have h1:=HG.out.map.lt;have h2:=HSb.out;rw[hg'.block _ (by omega) (by intro e;injection e;omega)];exact HNb.out
     have hlo:w.heap.size+1≤w'.heap.size:=by have:=HG.out.map.lt;have:=HSb.out;omega
     have HF':Hid (Fam _ _ _):=hF;clear hS hg' hs' hor hint hep e2 hF HNb
     go_wp2_with (at_builtin;refine Hid.out ?_)
     unfold Hid;refine qix (B:=w.heap.size+1) (v:=.slice as_ nds.length cs) (l:=nds) (n:=n) (N:=W.heap.size+1) ?_ (.tmp 25) (.tmp 27) ?_ ?_ ?_ HNw.out HINT.out (by omega) hlo ?_
     ·rfl
     ·rfl
     ·rfl
     ·rfl
     intro g7 cap7 w7 ho7 hg7 hat7 hlt7
     have hsb:(Value.slice as_ nds.length cs).ownBlock≠some w.heap.size:=by
      have:=HF'.out.low (g:=w.heap.size) (Or.inl (Nat.lt_succ_self _)) ps1[j] (List.getElem_mem hj);rw[HEP.out]at this;exact this
     have HS7:Hid (MapS w7 w.heap.size ps1 j st):=MapS.on HS.out (hg7.block _ (by omega) (fun e=>hsb e.symm));have HO7:Hid (World.ownsRow _ _ _ _ _ _ _):=ho7;have HG7:Hid (World.grownBy _ _ _):=hg7;have HA7:Hid _:=hat7;clear ho7 hg7 hat7 hlt7 hsb
     go_wp2_with (with_reducible refine at_es ?_)
     unfold Hid;refine qfi (b:=w.heap.size) (ps:=ps1) (j:=j) (st:=st) ?_ (.tmp 23) (.tmp 30) (.tmp 29) ?_ ?_ ?_ (⟨(kk,kn),nds++[n]⟩,.slice (some ⟨g7,0,none⟩) (nds.length+1) cap7) ?_ HS7.out hj (by rw[HEP.out]) ?_
     ·rfl
     ·rfl
     ·rfl
     ·rfl
     ·rfl
     intro w8 hM8 hg8 hs8;have HG8:Hid (Gath w w.heap.size BK gk ck K w8 _):=Gath.put HG.out HBb.out HG'.out HS'.out hj HEP.out HOR.out HO7.out HG7.out HA7.out hM8 hg8;clear hM8 hg8 hs8;go_wp2;exact⟨⟨k+1,by omega,by go_num,_,HG8,by unfold Hid;rw[HNX2.out,←HMP.out];exact hor_put hj HEP.out HPD.out HOR.out⟩,by simp[intOf];omega⟩
    ·have hkl:k=K.length:=by omega
     subst hkl;go_wp2;exact⟨⟨n+1,hlt,by go_num,ps,HG.out.map,HG.out.fam,by unfold Hid;rw[HNX.out,HMP.out,List.take_length],HG.out.old⟩,by simp[intOf];omega⟩
  ·have hnl:n=ns.length:=by omega
   subst hnl;go_wp2;go_ret;exact⟨ps,rfl,hmp.out,hfam.out,hmap.out,hbe.out⟩
def Blk1 (w:World)(N:Nat)(c:Value):Prop:=w.heap[N]? =some (.cells #[c] 24)
theorem Blk1.facts {w:World}{N:Nat}{c:Value}(h:Blk1 w N c):w.cell? ⟨N,0,none⟩=some c∧∀i,w.frozen? ⟨N,i,none⟩=false:=by
 unfold Blk1 at h;refine⟨?_,fun i=>?_⟩
 all_goals simp[World.cell?,World.frozen?,h]
theorem Blk1.lt {w:World}{N:Nat}{c:Value}(h:Blk1 w N c):N<w.heap.size:=(Array.getElem?_eq_some_iff.1 h).1
theorem Blk1.on {w w':World}{N:Nat}{c:Value}(h:Blk1 w N c)(hb:Below w.heap.size w w'):Blk1 w' N c:=by
 unfold Blk1;rw[hb.block N h.lt];exact h
theorem Blk1.grown {w w':World}{N:Nat}{g:Option Nat}{c:Value}(h:Blk1 w N c)(hb:w.grownBy w' g)(hne:some N≠g):Blk1 w' N c:=by
 unfold Blk1;rw[hb.block N h.lt hne];exact h
theorem Blk1.new (w:World)(c:Value):Blk1 (w.alloc (.cells #[c] 24)) w.heap.size c:=by
 unfold Blk1
 show (w.heap.push _)[w.heap.size]? =_
 simp
theorem Blk1.set {w:World}{N:Nat}{c:Value}(h:Blk1 w N c)(v:Value):Blk1 (w.setCell ⟨N,0,none⟩ v) N v:=by
 unfold Blk1 at *;simp[World.setCell,Array.getElem?_modify,h]
theorem Row.mono {B B':Nat}{w:World}{v:Value}{ns:List Pl.Nd}(h:Row B w v ns)(hB:B'≤B):Row B' w v ns:=by
 obtain⟨xs,ho,hc⟩:=h;refine⟨xs,⟨ho.1,?_⟩,hc⟩
 rcases ho.2 with h0|⟨g,cap,cur,e,hb,rest⟩
 ·exact Or.inl h0
 ·exact Or.inr ⟨g,cap,cur,e,by omega,rest⟩
theorem Row.ownLt {B:Nat}{w:World}{v:Value}{ns:List Pl.Nd}(h:Row B w v ns):∀k,v.ownBlock=some k→B≤k∧k<w.heap.size:=by
 obtain⟨xs,ho,_⟩:=h;exact fun k hk=>World.ownsRow.lt ho k hk
theorem take_snoc {α:Type}{l:List α}{k:Nat}(h:k<l.length):l.take (k+1)=l.take k++[l[k]]:=by
 rw[List.take_add_one,List.getElem?_eq_getElem h];rfl
end Go.Proofs.YtephhllfodlfbaaGreatDoor
