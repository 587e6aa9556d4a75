/-
  index.Build: the index of a document, as entries.
-/
import Derived.Test.YtephhllfodlfbaaGreatDoorIdxO
set_option maxRecDepth 100000
set_option maxHeartbeats 16000000
namespace Go.Proofs.YtephhllfodlfbaaGreatDoor
open Go.RowKit
namespace Pl
def erOf (e:En):Er:=(e.key,e.nodes.map fun(k:Nat)=>(k:Int))
def qaq (ns:List Nd):List Er:=if qad ns=0 then (qb8 ns ns.length).map erOf else []
theorem right_keys {x:Nd}(h:right x=true):∀k∈keysOf x,Good k:=by
 have hn:∀l,qaj l=true→l.length≤12:=by
  intro l hl;unfold qaj at hl;simp only[Bool.and_eq_true,decide_eq_true_eq]at hl;exact hl.1.1.2
 unfold right names at h;simp only[Bool.and_eq_true,decide_eq_true_eq,Bool.or_eq_true]at h;obtain⟨⟨⟨⟨h1,h2⟩,h3⟩,_⟩,_⟩:=h;intro k hk;unfold keysOf at hk
 have small:∀(q:Int) (l:List UInt8),1≤q→q≤3→l.length≤12→Good (q,l):=by
  intro q l a b c;refine⟨?_,by unfold maxLen;simp only;omega⟩;exact WalkArith.wf_i64 ⟨by simp only;omega,by simp only;omega⟩
 rcases List.mem_cons.1 hk with rfl|hk
 ·exact small 1 _ (by omega) (by omega) (hn _ h1)
 ·rcases List.mem_append.1 hk with hk|hk
  ·split at hk
   ·simp at hk
   ·rename_i hid;obtain rfl:=List.mem_singleton.1 hk;refine small 2 _ (by omega) (by omega) ?_
    rcases h2 with h2|h2
    ·exact absurd (List.isEmpty_iff.1 h2) hid
    ·exact hn _ h2
  ·obtain⟨c,hc,rfl⟩:=List.mem_map.1 hk;exact small 3 _ (by omega) (by omega) (hn _ (List.all_eq_true.1 h3.1.2 c hc))
end Pl
theorem ERow.ens {B:Nat}{w:World}{v:Value}{ps:List EP}(h:ERow B w v ps):qbl w v (ps.map fun p=>Pl.erOf p.1):=by
 obtain⟨a,c,rfl⟩:=h.form;refine⟨a,c,by rw[List.length_map],?_⟩
 by_cases hp:ps=[]
 ·left;simp[hp]
 ·have hpos:0<ps.length:=List.length_pos_iff.2 hp;obtain⟨g,cg,eg,_,_⟩:=h.own.form hpos;obtain⟨rfl,rfl⟩:a=some ⟨g,0,none⟩∧c=cg:=by injection eg with q1 q2 q3;exact⟨q1,q3⟩
  refine Or.inr ⟨g,0,rfl,fun i hi=>?_⟩;have hi':i<ps.length:=by simpa using hi
  obtain⟨h0,h1,h2⟩:=qcO h.own hi' (qb6 ps i hi');rw[Nat.zero_add,List.getElem_map];exact⟨ps[i].2,h0,h1,h2,qf2 (h.ints ps[i] (List.getElem_mem hi'))⟩
theorem qbl.nil (w:World):qbl w (.slice none 0 0) []:=⟨none,0,rfl,Or.inl rfl⟩
theorem qg1 {ns:List Pl.Nd}(h:Pl.qad ns=0):(∀x∈ns,∀k∈Pl.keysOf x,Good k)∧∀x∈ns,(Pl.keysOf x).Nodup:=by
 obtain⟨_,_,hk⟩:=qa9 h;refine⟨fun x hx=>?_,fun x hx=>?_⟩
 ·obtain⟨i,hi,rfl⟩:=List.getElem_of_mem hx;exact Pl.right_keys (qe5 hk hi hi).1
 ·obtain⟨i,hi,rfl⟩:=List.getElem_of_mem hx;exact Pl.keys_nodup (qe5 hk hi hi).1
theorem ent_idx {ns:List Pl.Nd}{ps qs:List EP}(h:Pl.qad ns=0)(hm:ps.map (·.1)=Pl.qa2 ns ns.length)(hp:qs.Perm ps)(hs:qs.Pairwise (fun p q=>Pl.qas q.1.key p.1.key=false)):qs.map (fun p=>Pl.erOf p.1)=(Pl.qb8 ns ns.length).map Pl.erOf:=by
 have h1:(qs.map (·.1)).Perm (Pl.qa2 ns ns.length):=by rw[←hm];exact hp.map _
 have hd:((qs.map (·.1)).map (·.key)).Nodup:=((h1.map (·.key)).nodup_iff).2 (Pl.qc9 ns _)
 have h2:(qs.map (·.1)).Pairwise (fun a b=>Pl.qas a.key b.key=true):=by
  rw[List.map_map,List.nodup_iff_pairwise_ne,List.pairwise_map]at hd;rw[List.pairwise_map];refine(hs.and hd).imp fun{p q} ⟨a,b⟩=>?_
  rcases Pl.qfI p.1.key q.1.key with c|c|c
  ·exact c
  ·exact absurd c b
  ·rw[c]at a;cases a
 have h3:=Pl.gath_idx (qg1 h).2 h1 h2;rw[←h3,List.map_map];rfl
theorem gath_ne {ns:List Pl.Nd}{ps:List EP}(h:1≤ns.length)(hm:ps.map (·.1)=Pl.qa2 ns ns.length)(hd:∀x∈ns,(Pl.keysOf x).Nodup):ps≠[]:=by
 intro e;rw[e]at hm;have hp:=Pl.qew hd (1,(ns[0]'(by omega)).tag) ns.length;rw[←hm]at hp
 have:(0:Nat)∈Pl.whoTo ns (1,(ns[0]'(by omega)).tag) ns.length:=by
  unfold Pl.whoTo;rw[List.mem_filter];refine⟨by simp;omega,?_⟩;rw[List.getElem?_eq_getElem (by omega)];simp[Pl.keysOf]
 rw[←hp]at this;simp[Pl.placesOf]at this
theorem qh4 (v:Value)(ns:List Pl.Nd)(w:World)(hd:qar w v ns)(hc:(Pl.qad ns !=0)=true):
 Calls Tryz.prog 73 #[.agg #[v]] w fun e w'=>e=.returned (.tuple #[.slice none 0 0,.int .i64 (Pl.qad ns)])∧Below w.heap.size w w':=by
 obtain⟨a,c,rfl⟩:=hd.form;have hb:=qac w (.cells #[.slice a ns.length c] 24);have hchk:=qcH (.slice a ns.length c) ns (w.alloc (.cells #[.slice a ns.length c] 24)) hd.2.2 (hd.1.on hb);have HCHK:Hid (Calls Tryz.prog 14 _ _ _):=hchk;generalize Pl.qad ns=r at *;clear hchk hd;go_enter Tryz.func73,Tryz.ntmps73
 go_wp2_with fail
 refine HCHK.out.mono ?_;rintro e w1 ⟨rfl,h1⟩;go_wp2;go_ret2;exact⟨rfl,qaa hb h1⟩
theorem qgX (v:Value)(ns:List Pl.Nd)(w:World)(hd:qar w v ns)(hc:Pl.qad ns=0):
 Calls Tryz.prog 73 #[.agg #[v]] w fun e w'=>∃u ps,e=.returned (.tuple #[u,.int .i64 0])∧ERow (w.heap.size+1) w' u ps∧ps.map (fun p=>Pl.erOf p.1)=(Pl.qb8 ns ns.length).map Pl.erOf∧Below w.heap.size w w':=by
 obtain⟨h1n,h64,_⟩:=qa9 hc;have hsh:=qa6 hc;obtain⟨hgood,hndp⟩:=qg1 hc;obtain⟨a,c,rfl⟩:=hd.form;obtain⟨a2,c2,e2,hnil|⟨b,o,ha,hcell⟩⟩:=hd.1
 ·subst hnil;simp at h1n
 injection e2 with q1 _ q3;subst q1 q3 ha;have hb:=qac w (.cells #[.slice (some ⟨b,o,none⟩) ns.length c] 24);have bS:=Blk1.new w (.slice (some ⟨b,o,none⟩) ns.length c);have hchk:=qcH (.slice (some ⟨b,o,none⟩) ns.length c) ns (w.alloc (.cells #[.slice (some ⟨b,o,none⟩) ns.length c] 24)) hd.2.2 (hd.1.on hb);rw[hc]at hchk;have HCHK:Hid (Calls Tryz.prog 14 _ _ _):=hchk;have HB:Hid (Below _ _ _):=hb;have HBS:Hid (Blk1 _ _ _):=bS;have HCELL:Hid (∀i (h:i<ns.length),NdAt w b (o+i*5) ns[i]):=hcell;have hz:(w.alloc (.cells #[.slice (some ⟨b,o,none⟩) ns.length c] 24)).heap.size=w.heap.size+1:=by simp
 clear hchk hd hb bS hcell;go_enter Tryz.func73,Tryz.ntmps73
 go_wp2_with fail
 generalize w.alloc (.cells #[.slice (some ⟨b,o,none⟩) ns.length c] 24)=w0 at *;refine HCHK.out.mono ?_;rintro e w1 ⟨rfl,h1⟩;have s1:=(Blk1.on HBS.out h1).facts.1;have hs1:=h1.size;have HB1:Hid (Below w.heap.size w w1):=qaa HB.out h1;clear h1
 go_wp2_with fail
 refine(gather_any b o c ns w1 h64 (fun x hx=>(hsh x hx).1) hgood (fun i hi=>(HCELL.out i hi).on HB1.out)).mono ?_;rintro e w2 ⟨ps,rfl,hm2,hf2,hp2,hb2⟩;have hbnd:=Pl.qhm (fun x hx=>(hsh x hx).1) ns.length
 have hpl:ps.length≤1000:=by
  have:=hbnd.1;rw[←hp2,List.length_map]at this;omega
 have hne:=gath_ne h1n hp2 hndp;have HM2:Hid (MapAt _ _ _):=hm2;have HF2:Hid (Fam _ _ _):=hf2;have HP2:Hid _:=hp2;have HB2:Hid (Below w.heap.size w w2):=qaa HB1.out hb2;clear hm2 hf2 hp2 hb2 s1 hbnd
 go_wp2_with fail
 refine(qiO w1.heap.size ps w2 HM2.out HF2.out hne hpl).mono ?_;rintro e w3 ⟨u,qs,rfl,hperm,hsort,hrow,hb3⟩;obtain⟨au,cu,rfl⟩:=hrow.form;have HR:Hid (ERow (w.heap.size+1) w3 (.slice au qs.length cu) qs):=hrow.mono (by omega);have HE:Hid _:=ent_idx hc HP2.out hperm hsort;have HB3:Hid (Below w.heap.size w w3):=qaa HB2.out hb3;clear hperm hsort hrow hb3;go_wp2;go_ret2;exact⟨_,qs,rfl,HR.out,HE.out,HB3.out⟩
theorem build_any (v:Value)(ns:List Pl.Nd)(w:World)(hd:qar w v ns):
 Calls Tryz.prog 73 #[.agg #[v]] w fun e w'=>∃u,e=.returned (.tuple #[u,.int .i64 (Pl.qad ns)])∧qbl w' u (Pl.qaq ns)∧Below w.heap.size w w':=by
 by_cases hc:Pl.qad ns=0
 ·refine(qgX v ns w hd hc).mono ?_;rintro e w' ⟨u,ps,rfl,h1,h2,h3⟩;refine⟨u,by rw[hc],?_,h3⟩;unfold Pl.qaq;rw[if_pos hc,←h2];exact h1.ens
 ·refine(qh4 v ns w hd (by simpa using hc)).mono ?_;rintro e w' ⟨rfl,h3⟩;refine⟨_,rfl,?_,h3⟩;unfold Pl.qaq;rw[if_neg hc];exact qbl.nil _
end Go.Proofs.YtephhllfodlfbaaGreatDoor
namespace Go.Proofs.YtephhllfodlfbaaGreatDoor
open Pl
structure Place (ns:List Pl.Nd)(k P:Nat):Prop where
 lt:k<P
 le:P≤ns.length
 ins:∀m:Nat,k<m→m<P→(k:Int)≤upOf ns m
 nxt:P<ns.length→upOf ns P≤k
theorem qdy {ns:List Pl.Nd}(hg:qa7 ns ns.length){i:Nat}(h:i<ns.length): -1≤upOf ns i∧upOf ns i<i∧(0<i→0≤upOf ns i):=by
 obtain⟨a,b⟩:=hg i h
 rcases Nat.eq_zero_or_pos i with h0|h0
 ·have:=a h0;omega
 ·have:=b h0;omega
section
variable {ns es:List Pl.Nd} {k P:Nat}
theorem qdn:(qaH ns k P es).length=ns.length+es.length:=qdT _ _ _ _
theorem ins_up1 (hP:P≤ns.length){i:Nat}(h:i<P):upOf (qaH ns k P es) i=upOf ns i:=by
 unfold qaH;rw[qeU (by simp;omega),qeU (by simp;omega),qcF,qeG h]
theorem ins_up2 (hP:P≤ns.length){i:Nat}(h:P≤i)(h2:i<P+es.length):upOf (qaH ns k P es) i=mvIn k P (upOf es (i-P)):=by
 unfold qaH;have hl:((ns.take P).map (mvd id)).length=P:=by simp;omega
 rw[qeU (by simp;omega),qfk (by omega),hl,qfL (by omega)]
theorem ins_up3 (hP:P≤ns.length){i:Nat}(h:P+es.length≤i)(h2:i<ns.length+es.length):upOf (qaH ns k P es) i=qdz P es.length (upOf ns (i-es.length)):=by
 unfold qaH;have hl:((ns.take P).map (mvd id)++es.map (mvd (mvIn k P))).length=P+es.length:=by simp;omega
 rw[qfk (by omega),hl,qfL (by simp;omega),qdb]
 congr 2
 omega
theorem qfB (u:Int)(h:u<0):mvIn k P u=k:=by unfold mvIn;rw[if_pos h]
theorem qfH (u:Int)(h:0≤u)(h2:u<1000)(hP:P≤1000):mvIn k P u=u+P:=by unfold mvIn;rw[if_neg (by omega),wr_in (by omega) (by omega)]
theorem qfM (d:Nat)(u:Int)(h:u<P):qdz P d u=u:=by unfold qdz;rw[if_pos h]
theorem qhq (d:Nat)(u:Int)(h:(P:Int)≤u)(h2:u<1000)(hd:d≤1000):qdz P d u=u+d:=by unfold qdz;rw[if_neg (by omega),wr_in (by omega) (by omega)]
theorem ins_good (hg:qa7 ns ns.length)(he:qa7 es es.length)(he1:1≤es.length)(h64:ns.length+es.length≤64)(hp:Place ns k P):qa7 (qaH ns k P es) (qaH ns k P es).length:=by
 rw[qdn];obtain⟨p1,p2,p3,p4⟩:=hp
 have hE:∀i:Nat,i<es.length→(i=0→upOf (qaH ns k P es) (P+i)=k)∧(0<i→0≤upOf es i∧upOf es i<i∧upOf (qaH ns k P es) (P+i)=upOf es i+P):=by
  intro i hi;have h1:=ins_up2 (k:=k) (es:=es) p2 (i:=P+i) (by omega) (by omega);rw[show P+i-P=i by omega]at h1;refine⟨fun h0=>?_,fun h0=>?_⟩
  ·rw[h1,(he i hi).1 h0,qfB _ (by omega)]
  ·have:=(he i hi).2 h0;exact⟨this.1,this.2.1,by rw[h1,qfH _ this.1 (by omega) (by omega)]⟩
 have hO:∀i:Nat,P≤i→i<ns.length→(upOf ns i<P→upOf (qaH ns k P es) (i+es.length)=upOf ns i)∧((P:Int)≤upOf ns i→upOf (qaH ns k P es) (i+es.length)=upOf ns i+es.length):=by
  intro i h1 h2;have h3:=ins_up3 (k:=k) (es:=es) p2 (i:=i+es.length) (by omega) (by omega);rw[show i+es.length-es.length=i by omega]at h3;have hl:=qdy hg h2;refine⟨fun h=>by rw[h3,qfM _ _ h],fun h=>by rw[h3,qhq _ _ h (by omega) (by omega)]⟩
 have hI:∀i:Nat,i<P→upOf (qaH ns k P es) i=upOf ns i:=fun i h=>ins_up1 p2 h
 intro n hn
 by_cases c1:n<P
 ·rw[hI n c1];obtain⟨a,b⟩:=hg n (by omega);refine⟨a,fun h0=>?_⟩;obtain⟨b1,b2,b3⟩:=b h0;exact⟨b1,b2,fun m h1 h2=>by rw[hI m (by omega)];exact b3 m h1 h2⟩
 refine⟨fun h0=>by omega,fun _=>?_⟩
 by_cases c2:n<P+es.length
 ·obtain⟨i,rfl⟩:∃i,n=P+i:=⟨n-P,by omega⟩
  obtain⟨e1,e2⟩:=hE i (by omega)
  rcases Nat.eq_zero_or_pos i with h0|h0
  ·rw[e1 h0];refine⟨by omega,by omega,fun m h1 h2=>?_⟩;rw[hI m (by omega)];exact p3 m (by omega) (by omega)
  ·obtain⟨q1,q2,q3⟩:=e2 h0;rw[q3];refine⟨by omega,by omega,fun m h1 h2=>?_⟩;obtain⟨j,rfl⟩:∃j,m=P+j:=⟨m-P,by omega⟩
   obtain⟨_,f2⟩:=hE j (by omega);obtain⟨r1,r2,r3⟩:=f2 (by omega);rw[r3];have:=((he i (by omega)).2 h0).2.2 j (by omega) (by omega);omega
 ·obtain⟨i,rfl⟩:∃i,n=i+es.length:=⟨n-es.length,by omega⟩
  have hi:i<ns.length:=by omega
  obtain⟨o1,o2⟩:=hO i (by omega) hi;have hl:=qdy hg hi;have hgi:=(hg i hi).2 (by omega)
  by_cases hu:upOf ns i<P
  ·rw[o1 hu];refine⟨hgi.1,by omega,fun m h1 h2=>?_⟩
   by_cases m1:m<P
   ·rw[hI m m1];exact hgi.2.2 m h1 (by omega)
   ·by_cases m2:m<P+es.length
    ·obtain⟨j,rfl⟩:∃j,m=P+j:=⟨m-P,by omega⟩
     obtain⟨e1,e2⟩:=hE j (by omega)
     rcases Nat.eq_zero_or_pos j with h0|h0
     ·rw[e1 h0];have h4:=p4 (by omega)
      by_cases hPi:P=i
      ·subst hPi;exact h4
      ·have:=hgi.2.2 P hu (by omega);omega
     ·have:=e2 h0;omega
    ·obtain⟨j,rfl⟩:∃j,m=j+es.length:=⟨m-es.length,by omega⟩
     obtain⟨s1,s2⟩:=hO j (by omega) (by omega);have:=hgi.2.2 j (by omega) (by omega)
     by_cases hv:upOf ns j<P
     ·rw[s1 hv];exact this
     ·rw[s2 (by omega)];omega
  ·rw[o2 (by omega)];refine⟨by omega,by omega,fun m h1 h2=>?_⟩;obtain⟨j,rfl⟩:∃j,m=j+es.length:=⟨m-es.length,by omega⟩
   obtain⟨s1,s2⟩:=hO j (by omega) (by omega);have:=hgi.2.2 j (by omega) (by omega);rw[s2 (by omega)];omega
theorem ins_rights (h:qcw ns)(h2:qcw es):qcw (qaH ns k P es):=qds (qds (qdh (qeA h)) (qdh h2)) (qdh (qev h))
theorem qgO (hg:qa7 ns ns.length)(he:qa7 es es.length)(he1:1≤es.length)(h64:ns.length+es.length≤64)(hp:Place ns k P):behind (qaH ns k P es) P=P+es.length:=by
 obtain⟨p1,p2,p3,p4⟩:=hp;refine qeW (by rw[qdn];omega) (by omega) (by rw[qdn];omega) (fun m h1 h2=>?_) (fun h=>?_)
 ·rw[ins_up2 p2 (by omega) h2];have:=(he (m-P) (by omega)).2 (by omega);rw[qfH _ this.1 (by omega) (by omega)];omega
 ·rw[qdn]at h;rw[ins_up3 p2 (Nat.le_refl _) h,show P+es.length-es.length=P by omega];have:=qdy hg (i:=P) (by omega);rw[qfM _ _ this.2.1];exact this.2.1
theorem ins_part (hg:qa7 ns ns.length)(he:qa7 es es.length)(he1:1≤es.length)(h64:ns.length+es.length≤64)(hp:Place ns k P)(hc:qai (qaH ns k P es) P=0):partOf (qaH ns k P es) P=es:=by
 unfold partOf;rw[if_pos hc,show ((P:Int)).toNat=P by omega,qgO hg he he1 h64 hp,show P+es.length-P=es.length by omega]
 have hx:((qaH ns k P es).drop P).take es.length=es.map (mvd (mvIn k P)):=by
  unfold qaH;have hl:((ns.take P).map (mvd id)).length=P:=by have:=hp.le;simp;omega
  rw[List.append_assoc,List.drop_append_of_le_length (by omega),List.drop_of_length_le (by omega),List.nil_append,List.take_append_of_le_length (by simp),List.take_of_length_le (by simp)]
 rw[hx];refine qfN fun i hi=>?_
 obtain⟨a,b⟩:=he i hi
 rcases Nat.eq_zero_or_pos i with h0|h0
 ·rw[a h0,qfB _ (by omega)];unfold qcy;have:=hp.lt;rw[if_pos (by omega)]
 ·have hb:=b h0;rw[qfH _ hb.1 (by omega) (by have:=hp.le;omega)];unfold qcy;rw[if_neg (by omega),wr_in (by omega) (by omega)];omega
theorem ins_rem (hg:qa7 ns ns.length)(he:qa7 es es.length)(he1:1≤es.length)(h64:ns.length+es.length≤64)(hp:Place ns k P)(hc:qbz (qaH ns k P es) P=0):qcc (qaH ns k P es) P=ns:=by
 unfold qcc;rw[if_pos hc,show ((P:Int)).toNat=P by omega,qgO hg he he1 h64 hp];have hl:((ns.take P).map (mvd id)).length=P:=by have:=hp.le;simp;omega
 have h1:(qaH ns k P es).take P=ns.take P:=by
  unfold qaH;rw[List.append_assoc,List.take_append_of_le_length (by omega),List.take_of_length_le (by omega),qcF]
 have h2:(qaH ns k P es).drop (P+es.length)=(ns.drop P).map (mvd (qdz P es.length)):=by
  unfold qaH;have hl2:((ns.take P).map (mvd id)++es.map (mvd (mvIn k P))).length=P+es.length:=by rw[List.length_append,hl,List.length_map]
  rw[List.drop_append_of_le_length (by omega),List.drop_of_length_le (by omega),List.nil_append]
 rw[h1,h2,qcF,qfN,List.take_append_drop];intro i hi;rw[qdb];have hi':P+i<ns.length:=by simp at hi;omega
 have hlw:=qdy hg hi'
 by_cases hu:upOf ns (P+i)<P
 ·rw[qfM _ _ hu];unfold qdw;rw[if_pos hu]
 ·rw[qhq _ _ (by omega) (by omega) (by omega)];unfold qdw;rw[if_neg (by omega),wr_in (by omega) (by omega)];omega
end
theorem qcS (ns:List Pl.Nd)(n:Int)(a:Nat):∀b,a≤b→∃r,qaJ ns n b=qaJ ns n a++r∧∀x∈r,a≤x
 | 0,h=>⟨[],by rw[show a=0 by omega];simp,fun x hx=>by simp at hx⟩
 | b+1,h=>by
  by_cases hb:a=b+1
  ·subst hb;exact⟨[],by simp,fun x hx=>by simp at hx⟩
  ·obtain⟨r,h1,h2⟩:=qcS ns n a b (by omega)
   cases hh:(upOf ns b==n) with
   | true=>
    refine⟨r++[b],by rw[qd2 ns n b hh,h1,List.append_assoc],fun x hx=>?_⟩
    rcases List.mem_append.1 hx with hx|hx
    ·exact h2 x hx
    ·simp at hx;omega
   | false=>exact⟨r,by rw[qes ns n b hh,h1],h2⟩
theorem qfu {xs ys:List Pl.Nd}(n:Int)(a:Nat)(h:∀i,i<a→upOf xs i=upOf ys i):qaJ xs n a=qaJ ys n a:=by
 unfold qaJ;refine List.filter_congr fun i hi=>?_
 rw[h i (by simpa using hi)]
theorem qfG {ns:List Pl.Nd}{n:Int}{i:Nat}(h:i∈qae ns n):i<ns.length∧upOf ns i=n:=by
 unfold qae qaJ at h;obtain⟨h1,h2⟩:=List.mem_filter.1 h;exact⟨by simpa using h1,by simpa using h2⟩
theorem kid_at {ns:List Pl.Nd}{n:Int}{P:Nat}(h:P<ns.length)(hu:upOf ns P=n):(qae ns n)[(qaJ ns n P).length]? =some P:=by
 obtain⟨r,h1,_⟩:=qcS ns n (P+1) ns.length (by omega);unfold qae;rw[h1,qd2 ns n P (by simpa using hu),List.append_assoc,List.getElem?_append_right (Nat.le_refl _)];simp
theorem qiX (ns:List Pl.Nd)(n:Int):(qae ns n).Pairwise (· < ·):=by
 unfold qae qaJ;exact List.Pairwise.filter _ List.pairwise_lt_range
theorem kid_index {ns:List Pl.Nd}{n:Int}{P j:Nat}(h:(qae ns n)[j]? =some P):(qaJ ns n P).length=j:=by
 obtain⟨hj,hv⟩:=List.getElem?_eq_some_iff.1 h;obtain⟨h1,h2⟩:=qfG (List.getElem_mem hj);rw[hv]at h1 h2;obtain⟨hj2,hv2⟩:=List.getElem?_eq_some_iff.1 (kid_at h1 h2);have hs:=List.pairwise_iff_getElem.1 (qiX ns n)
 rcases Nat.lt_trichotomy (qaJ ns n P).length j with hh|hh|hh
 ·have:=hs _ _ hj2 hj hh;omega
 ·exact hh
 ·have:=hs _ _ hj hj2 hh;omega
theorem ins_zero {ns es:List Pl.Nd}{up at_:Int}(h:qax ns up at_ es=0):qad ns=0∧qad es=0∧(∃k:Nat,up=k∧k<ns.length)∧(∃j:Nat,at_=j∧j≤(qae ns up).length)∧ns.length+es.length≤64:=by
 unfold qax at h
 split at h
 ·split at h
  ·split at h
   ·rename_i h1 h2 h3;unfold hasB at h3;simp only[Bool.and_eq_true,decide_eq_true_eq]at h3
    split at h
    ·omega
    ·split at h
     ·omega
     ·exact⟨h1,h2,⟨up.toNat,by omega,by omega⟩,⟨at_.toNat,by omega,by omega⟩,by omega⟩
   ·omega
  ·omega
 ·omega
theorem place_ok {ns:List Pl.Nd}{k j:Nat}(hg:qa7 ns ns.length)(hk:k<ns.length)(hj:j≤(qae ns k).length):Place ns k (placeOf ns k j)∧(qaJ ns k (placeOf ns k j)).length=j:=by
 unfold placeOf
 by_cases hjl:j<(qae ns k).length
 ·rw[if_pos (by omega),show ((j:Int)).toNat=j by omega];have hv:(qae ns k)[j]? =some ((qae ns k).getD j 0):=by rw[List.getD,List.getElem?_eq_getElem hjl];rfl
  generalize (qae ns k).getD j 0=P at *;obtain⟨hj2,hv2⟩:=List.getElem?_eq_some_iff.1 hv;obtain⟨h1,h2⟩:=qfG (List.getElem_mem hj2);rw[hv2]at h1 h2;have hl:=qdy hg h1;refine⟨⟨by omega,by omega,fun m h3 h4=>?_,fun _=>by omega⟩,kid_index hv⟩;have:=((hg P h1).2 (by omega)).2.2 m (by omega) h4;omega
 ·rw[if_neg (by omega),show ((k:Int)).toNat=k by omega];obtain⟨a,b,c,d⟩:=qan hk;refine⟨⟨by omega,b,c,fun h=>by have:=d h;omega⟩,?_⟩;obtain⟨r,h1,h2⟩:=qcS ns k (behind ns k) ns.length b
  have hr:r=[]:=by
   rcases r with _|⟨x,r⟩
   ·rfl
   ·have hx:x∈qae ns k:=by unfold qae;rw[h1];simp
    obtain⟨m1,m2⟩:=qfG hx;have:=h2 x (by simp)
    rcases qb4 hg hk x this m1 with h|h<;>omega
  rw[hr,List.append_nil]at h1;have:(qae ns k).length=(qaJ ns k (behind ns k)).length:=by unfold qae;rw[h1]
  omega
theorem qfg {ns:List Pl.Nd}{k:Nat}(h:qad ns=0)(hk:k<ns.length):qai ns k=0:=by
 unfold qai hasB;rw[if_pos h,if_pos (by simp;omega)]
theorem ins_back {ns es:List Pl.Nd}{up at_:Int}(h:qax ns up at_ es=0):∃j P:Nat,at_=j∧qad (qaO ns up at_ es)=0∧qai (qaO ns up at_ es) up=0∧(kidsAns (qaO ns up at_ es) up)[j]? =some P∧
 qai (qaO ns up at_ es) P=0∧partOf (qaO ns up at_ es) P=es∧qbz (qaO ns up at_ es) P=0∧qcc (qaO ns up at_ es) P=ns:=by
 obtain⟨c1,c2,⟨k,rfl,hk⟩,⟨j,rfl,hj⟩,h64⟩:=ins_zero h;obtain⟨l1,l2,r1,g1⟩:=(qbU ns).1 c1;obtain⟨m1,m2,r2,g2⟩:=(qbU es).1 c2;obtain⟨hp,hkl⟩:=place_ok g1 hk hj;have hX:qaO ns k j es=qaH ns k (placeOf ns k j) es:=by unfold qaO;rw[if_pos h]
 rw[hX];generalize placeOf ns k j=P at *;have hc:qad (qaH ns k P es)=0:=(qbU _).2 ⟨by rw[qdn];omega,by rw[qdn];omega,ins_rights r1 r2,ins_good g1 g2 m1 h64 hp⟩;have hlP:=hp.lt;have hlP2:=hp.le;have hcP:qai (qaH ns k P es) P=0:=qfg hc (by rw[qdn];omega);have hck:qai (qaH ns k P es) k=0:=qfg hc (by rw[qdn];omega);have hr:qbz (qaH ns k P es) P=0:=by unfold qbz;rw[if_pos hcP,if_neg (by omega)]
 refine⟨j,P,rfl,hc,hck,?_,hcP,ins_part g1 g2 m1 h64 hp hcP,hr,ins_rem g1 g2 m1 h64 hp hr⟩;unfold kidsAns;rw[if_pos hck]
 have hu:upOf (qaH ns k P es) P=k:=by
  rw[ins_up2 hlP2 (Nat.le_refl _) (by omega),Nat.sub_self,(g2 0 (by omega)).1 rfl,qfB _ (by omega)]
 have:=kid_at (by rw[qdn];omega:P<(qaH ns k P es).length) hu;rw[qfu k P (fun i hi=>ins_up1 hlP2 hi),hkl]at this;exact this
end Go.Proofs.YtephhllfodlfbaaGreatDoor
