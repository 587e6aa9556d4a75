/-
  treeOf: the tree of an element.
-/
import Derived.Test.YtephhllfodlfbaaGreatDoorVTreO
set_option maxRecDepth 100000
set_option maxHeartbeats 16000000
namespace Go.Proofs.YtephhllfodlfbaaGreatDoor
open Go.RowKit
theorem qaB.p {B:Nat}{w:World}{v:Value}{ss:List (List UInt8)}(h:qaB B w v ss):qb7 (fun b=>B≤b) w v ss:=by
 obtain⟨a,cap,e,h⟩:=h;refine⟨a,cap,e,?_⟩
 rcases h with h|⟨b,o,ha,hB,_,hc⟩
 ·exact Or.inl h
 ·exact Or.inr ⟨b,o,ha,hB,hc⟩
theorem qaM.p {B:Nat}{w:World}{v:Value}{ss:List (List UInt8×List UInt8)}(h:qaM B w v ss):AtsP (fun b=>B≤b) w v ss:=by
 obtain⟨a,cap,e,h⟩:=h;refine⟨a,cap,e,?_⟩
 rcases h with h|⟨b,o,ha,hB,_,hc⟩
 ·exact Or.inl h
 ·exact Or.inr ⟨b,o,ha,hB,hc⟩
theorem TRow.set {B:Nat}{P:Nat→Prop}{w:World}{v:Value}{f:Pl.F}(h:TRow B P w v f){M j:Nat}(hM:M<B)(hP:∀j,P j→M≠j)(u:Value):TRow B P (w.setCell ⟨M,j,none⟩ u) v f:=by
 obtain⟨xs,ho,hc⟩:=h;refine⟨xs,⟨ho.1,?_⟩,qa0.to (w:=w) (fun j hj _=>⟨hj,Below.heap_setCell _ _ _ _ (fun e=>hP j hj.1 e.symm)⟩) f xs hc⟩
 rcases ho.2 with h0|⟨g,cap,cur,rfl,hb,hgg,rest⟩
 ·exact Or.inl h0
 ·exact Or.inr ⟨g,cap,cur,rfl,hb,by rw[Below.heap_setCell _ _ _ _ (by simp;omega)];exact hgg,rest⟩
theorem tree_any (b o cap:Nat)(ns:List Pl.Nd)(h64:ns.length≤64)(hsh:∀x∈ns,x.cls.length≤6∧x.ats.length≤4)(hl:Pl.Low ns ns.length):∀(f n:Nat) (w:World),n<ns.length→ns.length≤n+f→(∀i (h:i<ns.length),NdAt w b (o+i*5) ns[i])→
 Calls Tryz.prog 70 #[.agg #[.slice (some ⟨b,o,none⟩) ns.length cap],.int .i64 n] w fun e w'=>∃v,e=.returned v∧TV (fun j=>w.heap.size≤j) w' v (Pl.ndAt ns n) (Pl.qat ns f (Pl.qae ns n))∧Below w.heap.size w w':=by
 intro f
 induction f with
 | zero=>intro n w h1 h2;omega
 | succ f ih=>
  intro n w hn hf hc;have HC:Hid _:=hc;have HIH:Hid _:=ih;have HL:Hid _:=hl;obtain⟨vc,va,n0,n1,n2,n3,n4,nc,na⟩:=hc n hn;obtain⟨ac,cc,rfl,_⟩:=id nc;obtain⟨aa,ca,rfl,_⟩:=id na;obtain⟨L1,L2⟩:=hsh ns[n] (List.getElem_mem hn);have NV:Hid (NdV w (.agg #[.int .i64 ns[n].up,.string ⟨ns[n].tag.toArray⟩,.string ⟨ns[n].id.toArray⟩,.slice ac ns[n].cls.length cc,.slice aa ns[n].ats.length ca]) ns[n]):=⟨_,_,rfl,nc,na⟩
  clear nc na hc ih hl;have hnd:=Pl.ndAt_eq ns n hn;rw[←hnd]at n0 n1 n2 n3 n4 NV L1 L2;clear hnd;generalize Pl.ndAt ns n=x at *;obtain⟨up,tag,idn,cls,ats⟩:=x;dsimp only at n0 n1 n2 n3 n4 NV L1 L2;have hB0:=((Below.refl w.heap.size w).alloc (Nat.le_refl _) (.cells #[.slice (some ⟨b,o,none⟩) ns.length cap] 24)).alloc (by simp) (.cells #[.int .i64 0,.string ⟨#[]⟩,.string ⟨#[]⟩,.slice none 0 0,.slice none 0 0,.slice none 0 0] 109);replace n0:=qab hB0 n0;replace n1:=qab hB0 n1;replace n2:=qab hB0 n2;replace n3:=qab hB0 n3;replace n4:=qab hB0 n4;have i1:(n:Int)<(ns.length:Int):=by omega
  go_enter Tryz.func70,Tryz.ntmps70
  go_wp2_with fail
  refine(own_any _ ⟨up,tag,idn,cls,ats⟩ _ L1 L2 (NdV.on NV.out hB0)).mono ?_;rintro e w1 ⟨nv,rfl,⟨vc,va,rfl,hs,ha⟩,h1⟩;obtain⟨a1,c1,rfl,_⟩:=id hs;obtain⟨a2,c2,rfl,_⟩:=id ha
  have R1:Blk6 w1 (w.heap.size+1) (.int .i64 0) (.string ⟨#[]⟩) (.string ⟨#[]⟩) (.slice none 0 0) (.slice none 0 0) (.slice none 0 0):=by
   have:=Blk6.new (w.alloc (.cells #[.slice (some ⟨b,o,none⟩) ns.length cap] 24)) (.int .i64 0) (.string ⟨#[]⟩) (.string ⟨#[]⟩) (.slice none 0 0) (.slice none 0 0) (.slice none 0 0);have:=this.on h1
   simpa using this
  have s0:=qab (p:=⟨w.heap.size,0,none⟩) (v:=.slice (some ⟨b,o,none⟩) ns.length cap) h1 (by simp[go_sem]);have hB1:=qaa hB0 h1;have hz1:w.heap.size+1+1≤w1.heap.size:=by have:=h1.size;simpa using this
  have HS:Hid (qb7 (fun b=>w.heap.size+1+1≤b) w1 (.slice a1 cls.length c1) cls):=(qaB.mono hs (by simp)).p;have HA:Hid (AtsP (fun b=>w.heap.size+1+1≤b) w1 (.slice a2 ats.length c2) ats):=(qaM.mono ha (by simp)).p;clear h1 hB0 n0 n1 n2 n3 n4 NV hs ha;have s1:=qab (qac w1 (.cells #[.int .i64 up,.string ⟨tag.toArray⟩,.string ⟨idn.toArray⟩,.slice a1 cls.length c1,.slice a2 ats.length c2,.slice none 0 0] 109)) s0;have M1:=Blk6.new w1 (.int .i64 up) (.string ⟨tag.toArray⟩) (.string ⟨idn.toArray⟩) (.slice a1 cls.length c1) (.slice a2 ats.length c2) (.slice none 0 0);have R2:=R1.on (qac w1 (.cells #[.int .i64 up,.string ⟨tag.toArray⟩,.string ⟨idn.toArray⟩,.slice a1 cls.length c1,.slice a2 ats.length c2,.slice none 0 0] 109));have hB2:=qaa hB1 (qac w1 (.cells #[.int .i64 up,.string ⟨tag.toArray⟩,.string ⟨idn.toArray⟩,.slice a1 cls.length c1,.slice a2 ats.length c2,.slice none 0 0] 109));clear R1 hB1
  go_wp2_with fail
  refine(qdG b o cap ns _ _ h64 (fun i hi=>(HC.out i hi).on hB2)).mono ?_;rintro e w3 ⟨vl,rfl,hint,h3⟩;have HR:Hid (Blk6 w3 (w.heap.size+1) (.int .i64 0) (.string ⟨#[]⟩) (.string ⟨#[]⟩) (.slice none 0 0) (.slice none 0 0) (.slice none 0 0)):=R2.on h3;have HM:Hid (Blk6 w3 w1.heap.size (.int .i64 up) (.string ⟨tag.toArray⟩) (.string ⟨idn.toArray⟩) (.slice a1 cls.length c1) (.slice a2 ats.length c2) (.slice none 0 0)):=M1.on h3;have s3:=qab h3 s1;have hB3:=qaa hB2 h3;have h13:Below w1.heap.size w1 w3:=qaa (qac _ _) h3;have hz3:w1.heap.size+1≤w3.heap.size:=by have:=h3.size;simpa using this
  have HMem:Hid (∀k∈Pl.qae ns n,k<ns.length∧n<k):=by
   intro k hk;obtain⟨h1,h2⟩:=Pl.qfd hk;have:=HL.out k h1;rw[h2]at this;exact⟨h1,by omega⟩
  have hkl:(Pl.qae ns n).length≤64:=Nat.le_trans (Pl.qcE _ _ _) h64;have HF:Hid (Pl.qat ns (f+1) (Pl.qae ns n)=Pl.qdL (fun m=>Pl.qat ns f (Pl.qae ns m)) ns (Pl.qae ns n)):=rfl;generalize hK:Pl.qae ns n=l at *;have HK:Hid _:=hK;clear hK;replace hint:=hint.mono (B':=w1.heap.size+1) (by simp);obtain⟨al,cl,rfl,hcl⟩:=hint;have HCL:Hid _:=hcl;clear hcl h3 s0 s1 M1 R2 hB2;generalize hM:w1.heap.size=M at *;have HMM:Hid _:=hM;clear hM
  go_wp2_with fail
  go_loopw [7] (fun i wr=>∃k:Nat,k≤l.length∧i=.int .i64 k∧∃vk,Hid (Blk6 wr M (.int .i64 up) (.string ⟨tag.toArray⟩) (.string ⟨idn.toArray⟩) (.slice a1 cls.length c1) (.slice a2 ats.length c2) vk)∧Hid (TRow w3.heap.size (fun j=>w3.heap.size≤j) wr vk (Pl.qdL (fun m=>Pl.qat ns f (Pl.qae ns m)) ns (l.take k)))∧w3.grownBy wr (some M)) (fun i _=>l.length-(intOf i).toNat)
  case atStart=>exact⟨0,Nat.zero_le _,rfl,_,HM,TRow.nil _ _ _,World.grownBy.refl _ _⟩
  case round=>
   obtain⟨k,hk,rfl,vk,hMb,hrow,hgb⟩:=hrel
   by_cases hlt:k<l.length
   ·have hm:=HMem.out l[k] (List.getElem_mem hlt);obtain⟨bl,ol,rfl,hbl,hcl⟩:=HCL.out.resolve_left (by intro h;rw[h]at hlt;simp at hlt);have q3:=hcl k hlt
    have HT:Hid (Pl.qdL (fun m=>Pl.qat ns f (Pl.qae ns m)) ns (l.take (k+1))=(Pl.qdL (fun m=>Pl.qat ns f (Pl.qae ns m)) ns (l.take k)).app (.cons (Pl.ndAt ns l[k]) (Pl.qat ns f (Pl.qae ns l[k])) .nil)):=by
     unfold Hid;rw[List.take_add_one,List.getElem?_eq_getElem hlt];exact Pl.trees_snoc _ _ _ _
    have hlen:(Pl.qdL (fun m=>Pl.qat ns f (Pl.qae ns m)) ns (l.take k)).len+1≤64:=by rw[Pl.qhZ];simp;omega
    have h3:∀w',w3.grownBy w' (some M)→Two ⟨w.heap.size,0,none⟩ ⟨bl,ol+k,none⟩ (.slice (some ⟨b,o,none⟩) ns.length cap) (.int .i64 (l[k]:Nat)) w3 (some M) w':=fun w' h=>two_of s3 q3 (by simp;omega) (by simp;omega) h
    have hgd:w3.grownBy wr.drew (some M):=⟨hgb.os,hgb.tape,hgb.output,hgb.size,hgb.block⟩
    have S0:=h3 _ hgd;have HCr:Hid (∀i (h:i<ns.length),NdAt wr.drew b (o+i*5) ns[i]):=fun i hi=>(HC.out i hi).on (hB3.grown hgd hB3.size (fun g hg=>by injection hg with hg;omega))
    generalize Pl.qdL (fun m=>Pl.qat ns f (Pl.qae ns m)) ns (l.take k)=T at *;generalize l[k]=m at *;obtain⟨va0,ca0,rfl⟩:=hrow.out.form;obtain⟨xs,hown,hcs⟩:=hrow.out;have hownD:wr.drew.ownsRow w3.heap.size 109 6 (.slice va0 T.len ca0) T.len xs:=qbt hown (Below.refl _ _).drew;have hcsD:qa0 (fun j=>w3.heap.size≤j∧some j≠(Value.slice va0 T.len ca0).ownBlock) wr.drew xs T:=qa0.to (w:=wr) (w':=wr.drew) (fun j hj _=>⟨hj,rfl⟩) T xs hcs;have hMd:Blk6 wr.drew M (.int .i64 up) (.string ⟨tag.toArray⟩) (.string ⟨idn.toArray⟩) (.slice a1 cls.length c1) (.slice a2 ats.length c2) (.slice va0 T.len ca0):=hMb.out;have hownlt:∀k,(Value.slice va0 T.len ca0).ownBlock=some k→w3.heap.size≤k∧k<wr.drew.heap.size:=fun k hk=>World.ownsRow.lt hownD k hk
    have m5:=hMd.facts.1.2.2.2.2.2;have HMd:Hid _:=hMd;have HX:Hid _:=hcsD;have HO:Hid _:=hownD;clear hcs hown hcsD hownD hMd hrow;go_wp2;obtain⟨s0a,s0b,s0c⟩:=S0
    go_region_law (first|(go_simp;go_at_call 70;refine(HIH.out m _ hm.1 (by omega) HCr.out).mono ?_;rintro e w4 ⟨tv,rfl,⟨vc4,va4,vk4,rfl,hs4,ha4,hk4⟩,hb4⟩;obtain⟨y1,y2,rfl,_⟩:=id hs4;obtain⟨y3,y4,rfl,_⟩:=id ha4;obtain⟨y5,y6,rfl,_⟩:=id hk4;have m5':=qab hb4 m5;have m5'':=fun ob=>qab (qac w4 ob) m5')|(refine qfS (B:=w3.heap.size) (P:=fun j=>w3.heap.size≤j) (w2:=w4) (v:=.slice va0 T.len ca0) (f:=T) (xs:=xs) rfl (.tmp 25) (.tmp 32) rfl rfl rfl (qbt HO.out hb4) (qa0.to (P':=fun j=>w3.heap.size≤j∧some j≠(Value.slice va0 T.len ca0).ownBlock) (fun j hj hl=>⟨hj,hb4.block j hl⟩) T xs HX.out) hlen (Nat.le_trans hgd.size hb4.size) (x:=Pl.ndAt ns m) (k:=Pl.qat ns f (Pl.qae ns m)) (hs4.to (fun j hj _=>⟨⟨Nat.le_trans hgd.size hj,fun e=>absurd (Nat.lt_of_lt_of_le (hownlt j e.symm).2 hj) (Nat.lt_irrefl _)⟩,rfl⟩)) (ha4.to (fun j hj _=>⟨⟨Nat.le_trans hgd.size hj,fun e=>absurd (Nat.lt_of_lt_of_le (hownlt j e.symm).2 hj) (Nat.lt_irrefl _)⟩,rfl⟩)) (hk4.to (fun j hj _=>⟨⟨Nat.le_trans hgd.size hj,fun e=>absurd (Nat.lt_of_lt_of_le (hownlt j e.symm).2 hj) (Nat.lt_irrefl _)⟩,rfl⟩)) ?_;intro g cap' w5 hrow' hgr;have M5:=Blk6.grown (Blk6.on (Blk6.on HMd.out hb4) (qac _ _)) hgr (fun e=>by have:=(hownlt _ e.symm).1;omega);obtain⟨⟨_,_,_,_,_,z5⟩,fz⟩:=M5.facts))
    all_goals
     have hgF:=gb_set (qbK (qci (qci hgd hb4) (qac _ _)) hgr (fun k hk=>Or.inr (hownlt k hk).1)) 5 (.slice (some ⟨g,0,none⟩) (T.len+1) cap');have hbF:=M5.set5 (.slice (some ⟨g,0,none⟩) (T.len+1) cap');have hrF:=TRow.set hrow' (M:=M) (j:=5) (by omega) (fun j hj=>by have:w3.heap.size≤j:=hj;omega) (.slice (some ⟨g,0,none⟩) (T.len+1) cap');have HF1:Hid _:=hgF;have HF2:Hid _:=hbF;have HF3:Hid _:=hrF;clear hgF hbF hrF hrow' hgr hs4 ha4 hk4 hb4 z5 fz M5;go_wp2;exact⟨⟨k+1,hlt,by go_num,_,HF2,by unfold Hid;rw[HT.out];exact HF3.out,HF1.out⟩,by simp[intOf];omega⟩
   ·have hkl:k=l.length:=by omega
    subst hkl;rw[List.take_length]at hrow;obtain⟨va0,ca0,rfl⟩:=hrow.out.form;have hR:=HR.out.grown hgb (by simp;omega);obtain⟨⟨r0,r1,r2,r3,r4,r5⟩,fR⟩:=hR.facts;obtain⟨⟨m0,m1,m2,m3,m4,m5⟩,fM⟩:=hMb.out.facts;have hBr:Below w.heap.size w wr:=hB3.grown hgb hB3.size (fun g hg=>by injection hg with hg;omega);have hsub:=hrow.out.sub (fun j hj=>hj);have hlen:=Pl.qhZ (fun m=>Pl.qat ns f (Pl.qae ns m)) ns l;rw[hlen]at hsub m5;have HRo:Hid _:=hR;have HSub:Hid (Sub (fun j=>w3.heap.size≤j) wr (.slice va0 l.length ca0) (Pl.qdL (fun m=>Pl.qat ns f (Pl.qae ns m)) ns l)):=hsub;clear hR hsub hrow hMb hlen
    go_wp2_with fail
    have hF:Blk6 _ _ _ _ _ _ _ _:=Blk6.six HRo.out (.int .i64 up) (.string ⟨tag.toArray⟩) (.string ⟨idn.toArray⟩) (.slice a1 cls.length c1) (.slice a2 ats.length c2) (.slice va0 l.length ca0);have hBF:=qeX hBr (w.heap.size+1) (by omega) (.int .i64 up) (.string ⟨tag.toArray⟩) (.string ⟨idn.toArray⟩) (.slice a1 cls.length c1) (.slice a2 ats.length c2) (.slice va0 l.length ca0);have hblk:=qeB wr (w.heap.size+1) (.int .i64 up) (.string ⟨tag.toArray⟩) (.string ⟨idn.toArray⟩) (.slice a1 cls.length c1) (.slice a2 ats.length c2) (.slice va0 l.length ca0)
    change bodyPost _ _ _ _ _ (qbN wr (w.heap.size+1) (.int .i64 up) (.string ⟨tag.toArray⟩) (.string ⟨idn.toArray⟩) (.slice a1 cls.length c1) (.slice a2 ats.length c2) (.slice va0 l.length ca0))
    generalize qbN wr (w.heap.size+1) (.int .i64 up) (.string ⟨tag.toArray⟩) (.string ⟨idn.toArray⟩) (.slice a1 cls.length c1) (.slice a2 ats.length c2) (.slice va0 l.length ca0)=wF at *;obtain⟨⟨q0,q1,q2,q3,q4,q5⟩,_⟩:=hF.facts
    have hmv:Mv (fun j=>w.heap.size+1+1≤j) w1 (fun j=>w.heap.size≤j) wF:=by
     intro j hj hlt1;have hMM:=HMM.out;refine⟨by omega,?_⟩;rw[hblk j (by omega),hgb.block j (by omega) (by intro e;injection e;omega)];exact h13.block j (by rw[←hMM];exact hlt1)
    refine bodyPost_ret (v:=.agg #[.int .i64 up,.string ⟨tag.toArray⟩,.string ⟨idn.toArray⟩,.slice a1 cls.length c1,.slice a2 ats.length c2,.slice va0 l.length ca0]) (by simp[results,Tryz.results70,go_sem,q0,q1,q2,q3,q4,q5]) rfl
     ⟨_,rfl,⟨_,_,_,rfl,qb7.to HS.out hmv,AtsP.to HA.out hmv,?_⟩,hBF⟩
    rw[HK.out,HF.out];exact HSub.out.to (fun j hj hl=>⟨by omega,hblk j (by omega)⟩)
theorem qgv (b o cap:Nat)(ns:List Pl.Nd)(w:World)(h64:ns.length≤64)(hsh:∀x∈ns,x.cls.length≤6∧x.ats.length≤4)(hc:∀i (h:i<ns.length),NdAt w b (o+i*5) ns[i]):
 Calls Tryz.prog 22 #[.agg #[.slice (some ⟨b,o,none⟩) ns.length cap]] w fun e w'=>∃v',e=.returned (.agg #[v'])∧Row w.heap.size w' v' ns∧Below w.heap.size w w':=by
 have HC:Hid _:=hc;have HSH:Hid _:=hsh;clear hc hsh;have hB0:Below w.heap.size w (((w.alloc (.cells #[.slice (some ⟨b,o,none⟩) ns.length cap] 24)).alloc (.cells #[.slice none 0 0] 24)).alloc (.cells #[.slice none 0 0] 24)):=(((Below.refl w.heap.size w).alloc (Nat.le_refl _) _).alloc (by simp) _).alloc (by simp;omega) _;have bS:Blk1 (((w.alloc (.cells #[.slice (some ⟨b,o,none⟩) ns.length cap] 24)).alloc (.cells #[.slice none 0 0] 24)).alloc (.cells #[.slice none 0 0] 24)) w.heap.size (.slice (some ⟨b,o,none⟩) ns.length cap):=((Blk1.new w _).on (qac _ _)).on (qac _ _)
 have bR:Blk1 (((w.alloc (.cells #[.slice (some ⟨b,o,none⟩) ns.length cap] 24)).alloc (.cells #[.slice none 0 0] 24)).alloc (.cells #[.slice none 0 0] 24)) (w.heap.size+1) (.slice none 0 0):=by
  have:=(Blk1.new (w.alloc (.cells #[.slice (some ⟨b,o,none⟩) ns.length cap] 24)) (.slice none 0 0)).on (qac _ (.cells #[.slice none 0 0] 24))
  simpa using this
 have bO:Blk1 (((w.alloc (.cells #[.slice (some ⟨b,o,none⟩) ns.length cap] 24)).alloc (.cells #[.slice none 0 0] 24)).alloc (.cells #[.slice none 0 0] 24)) (w.heap.size+2) (.slice none 0 0):=by
  have:=Blk1.new ((w.alloc (.cells #[.slice (some ⟨b,o,none⟩) ns.length cap] 24)).alloc (.cells #[.slice none 0 0] 24)) (.slice none 0 0)
  simpa using this
 have hz0:(((w.alloc (.cells #[.slice (some ⟨b,o,none⟩) ns.length cap] 24)).alloc (.cells #[.slice none 0 0] 24)).alloc (.cells #[.slice none 0 0] 24)).heap.size=w.heap.size+3:=by simp
 go_enter Tryz.func22,Tryz.ntmps22
 go_wp2_with fail
 generalize ((w.alloc (.cells #[.slice (some ⟨b,o,none⟩) ns.length cap] 24)).alloc (.cells #[.slice none 0 0] 24)).alloc (.cells #[.slice none 0 0] 24)=w0 at *;have HBS:Hid _:=bS;have HBR:Hid _:=bR;have HBO:Hid _:=bO;clear bS bR bO
 go_loopw [4] (fun i wr=>∃k:Nat,k≤ns.length∧i=.int .i64 k∧∃v,Hid (Blk1 wr (w.heap.size+2) v)∧Hid (Row w0.heap.size wr v (ns.take k))∧w0.grownBy wr (some (w.heap.size+2))) (fun i _=>ns.length-(intOf i).toNat)
 case atStart=>exact⟨0,Nat.zero_le _,rfl,_,HBO,Row.nil _ _,World.grownBy.refl _ _⟩
 case round=>
  obtain⟨k,hk,rfl,v,hMb,hrow,hgb⟩:=hrel;have hBr:Below w.heap.size w wr:=hB0.grown hgb (by omega) (fun g hg=>by injection hg with hg;omega);have bS:=Blk1.grown HBS.out hgb (by simp);obtain⟨ar,lr,cr,rfl,_,_⟩:=Row.cap hrow.out;have hown:=Row.ownLt hrow.out;have s0:=bS.facts.1
  by_cases hlt:k<ns.length
  ·obtain⟨vc,va,n0,n1,n2,n3,n4,nc,na⟩:=(HC.out k hlt).on hBr;obtain⟨ac,cc,rfl,_⟩:=id nc;obtain⟨aa,ca,rfl,_⟩:=id na;obtain⟨L1,L2⟩:=HSH.out ns[k] (List.getElem_mem hlt);have NV:Hid (NdV wr.drew (.agg #[.int .i64 ns[k].up,.string ⟨ns[k].tag.toArray⟩,.string ⟨ns[k].id.toArray⟩,.slice ac ns[k].cls.length cc,.slice aa ns[k].ats.length ca]) ns[k]):=⟨_,_,rfl,nc,na⟩
   have HT:Hid (ns.take (k+1)=ns.take k++[ns[k]]):=take_snoc hlt;obtain⟨xs,hownR,hcs⟩:=hrow.out;have hlen:(ns.take k).length+1≤64:=by simp;omega
   have hlr:lr=(ns.take k).length:=by
    obtain⟨_,_,e,_⟩:=hrow.out.nds;injection e
   subst hlr;have hBw:w0.heap.size≤wr.heap.size:=hgb.size;have hW1:Below wr.heap.size wr wr.drew:=(Below.refl _ _).drew;have hgd:w0.grownBy wr.drew (some (w.heap.size+2)):=⟨hgb.os,hgb.tape,hgb.output,hgb.size,hgb.block⟩
   have hMd:Blk1 wr.drew (w.heap.size+2) (.slice ar (ns.take k).length cr):=hMb.out;have m5:=hMd.facts.1;have HMd:Hid _:=hMd;have HOW:Hid _:=hownR;have HCS:Hid _:=hcs;clear nc na hMd hownR hcs;generalize ns.take k=T at *;generalize ns[k]=x at *;obtain⟨up,tag,idn,cls,ats⟩:=x;dsimp only at *;have i1:(k:Int)<(ns.length:Int):=by omega
   go_wp2
   go_region_law (first|(go_simp;go_at_call 61;refine(own_any _ ⟨up,tag,idn,cls,ats⟩ _ L1 L2 NV.out).mono ?_;rintro e w4 ⟨nv,rfl,⟨vc4,va4,rfl,hs4,ha4⟩,hb4⟩;obtain⟨y1,y2,rfl,_⟩:=id hs4;obtain⟨y3,y4,rfl,_⟩:=id ha4;have m5':=qab hb4 m5;have m5'':=fun ob=>qab (qac w4 ob) m5')|(refine step_add (B:=w0.heap.size) (wr:=wr) (w2:=w4) (v:=.slice ar T.length cr) (ns:=T) (xs:=xs) rfl (.tmp 13) (.tmp 20) rfl rfl rfl HOW.out HCS.out hlen hBw (qaa hW1 hb4) (x:=⟨up,tag,idn,cls,ats⟩) (qaB.mono hs4 hW1.size) (qaM.mono ha4 hW1.size) ?_;intro g cap' w5 hrow' hgr;have M5:=Blk1.grown (Blk1.on (Blk1.on HMd.out hb4) (qac _ _)) hgr (fun e=>by have:=(hown _ e.symm).1;omega);obtain⟨z5,fz⟩:=M5.facts))
   all_goals
    have hgF:=gb_set (qbK (qci (qci hgd hb4) (qac _ _)) hgr (fun k hk=>Or.inr (hown k hk).1)) 0 (.slice (some ⟨g,0,none⟩) (T.length+1) cap');have hbF:=M5.set (.slice (some ⟨g,0,none⟩) (T.length+1) cap');have hrF:=Row.set hrow' (M:=w.heap.size+2) (j:=0) (by omega) z5 (by simp) (.slice (some ⟨g,0,none⟩) (T.length+1) cap');have HF1:Hid _:=hgF;have HF2:Hid _:=hbF;have HF3:Hid _:=hrF;clear hgF hbF hrF hrow' hgr hs4 ha4 hb4 z5 fz M5;go_wp2;exact⟨⟨k+1,hlt,by go_num,_,HF2,by unfold Hid;rw[HT.out];exact HF3.out,HF1.out⟩,by simp[intOf];omega⟩
  ·have hkl:k=ns.length:=by omega
   subst hkl;rw[List.take_length]at hrow;have bR:=Blk1.grown HBR.out hgb (by simp);obtain⟨r0,fR⟩:=bR.facts;obtain⟨m0,fM⟩:=hMb.out.facts;have HRw:Hid (Row w0.heap.size wr (.slice ar lr cr) ns):=hrow;clear hrow hMb bR bS;go_wp2;have q:=World.cell?_setCell_same wr ⟨w.heap.size+1,0,none⟩ (.slice ar lr cr) r0
   exact bodyPost_ret (v:=.agg #[.slice ar lr cr]) (by simp[results,Tryz.results22,go_sem,q]) rfl
    ⟨_,rfl,(Row.set HRw.out (M:=w.heap.size+1) (j:=0) (by omega) r0 (by simp) (.slice ar lr cr)).mono (by omega),hBr.setCell (p:=⟨w.heap.size+1,0,none⟩) (by simp) _⟩
theorem pcheck_any (v:Value)(ns:List Pl.Nd)(l:List Pl.Er)(w:World)(hp:PgAt w v ns l)(hl:qcI l):
 Calls Tryz.prog 79 #[v] w fun e w'=>e=.returned (.int .i64 (qaw ns l))∧Below w.heap.size w w':=by
 obtain⟨a,c,a2,c2,rfl,hd,he⟩:=hp;have hb0:=qac w (.cells #[.slice a ns.length c,.slice a2 l.length c2] 32);have bS:=Blk2.new w (.slice a ns.length c) (.slice a2 l.length c2);have HD:Hid (qar _ _ _):=hd.on hb0;have HE:Hid (qbl _ _ _):=he.on hb0;have HB0:Hid (Below _ _ _):=hb0;have HBS:Hid (Blk2 _ _ _ _):=bS;have HL:Hid (qcI _):=hl;clear hd he hb0 bS hl;have s0:=HBS.out.facts.1.1;go_enter Tryz.func79,Tryz.ntmps79
 go_wp2_with fail
 generalize w.alloc (.cells #[.slice a ns.length c,.slice a2 l.length c2] 32)=w0 at *;refine(build_any _ ns _ HD.out).mono ?_;rintro e w1 ⟨u,rfl,hen,hb1⟩;obtain⟨au,cu,rfl⟩:=hen.form;have HEN:Hid (qbl _ _ _):=hen;have HE1:Hid (qbl _ _ _):=qbl.on HE.out hb1;have HB1:Hid (Below w.heap.size w w1):=qaa HB0.out hb1;have t1:=(Blk2.on HBS.out hb1).facts.1.2;clear hen hb1 s0
 cases hc:(Pl.qad ns !=0) with
 | true=>
  have HA:Hid (qaw ns l=Pl.qad ns):=by
   have:¬Pl.qad ns=0:=by simpa using hc
   unfold Hid qaw;rw[if_neg this]
  generalize Pl.qad ns=r at *;go_wp2;go_ret;exact⟨by rw[HA.out];rfl,HB1.out⟩
 | false=>
  have HC0:Hid (Pl.qad ns=0):=by unfold Hid;simpa using hc
  cases hs:qco l (Pl.qaq ns) with
  | true=>
   have HA:Hid (qaw ns l=0):=by
    have:l=Pl.qaq ns:=of_decide_eq_true hs;unfold Hid qaw;rw[if_pos HC0.out,if_pos this]
   have hcon:=qeR (.slice a2 l.length c2) (.slice au (Pl.qaq ns).length cu) l (Pl.qaq ns) w1 HL.out.1 HL.out.2 HE1.out HEN.out;rw[hs]at hcon;have HCON:Hid (Calls Tryz.prog 119 _ _ _):=hcon;clear hcon;generalize Pl.qad ns=r at *;generalize Pl.qaq ns=li at *
   go_wp2_with fail
   refine HCON.out.mono ?_;rintro e w2 ⟨rfl,hd2⟩;have HB2:Hid (Below w.heap.size w w2):=qaa HB1.out hd2;clear hd2;go_wp2;go_ret;exact⟨by rw[HA.out];rfl,HB2.out⟩
  | false=>
   have HA:Hid (qaw ns l=1):=by
    have:¬l=Pl.qaq ns:=of_decide_eq_false hs;unfold Hid qaw;rw[if_pos HC0.out,if_neg this]
   have hcon:=qeR (.slice a2 l.length c2) (.slice au (Pl.qaq ns).length cu) l (Pl.qaq ns) w1 HL.out.1 HL.out.2 HE1.out HEN.out;rw[hs]at hcon;have HCON:Hid (Calls Tryz.prog 119 _ _ _):=hcon;clear hcon;generalize Pl.qad ns=r at *;generalize Pl.qaq ns=li at *
   go_wp2_with fail
   refine HCON.out.mono ?_;rintro e w2 ⟨rfl,hd2⟩;have HB2:Hid (Below w.heap.size w w2):=qaa HB1.out hd2;clear hd2;go_wp2;go_ret;exact⟨by rw[HA.out];rfl,HB2.out⟩
end Go.Proofs.YtephhllfodlfbaaGreatDoor
