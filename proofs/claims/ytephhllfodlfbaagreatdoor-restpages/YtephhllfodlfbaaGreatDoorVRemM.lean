/-
  marked: the tree of an element, each element told by its number.
-/
import Derived.Test.YtephhllfodlfbaaGreatDoorVLiv
set_option maxRecDepth 100000
set_option maxHeartbeats 16000000
namespace Go.Proofs.YtephhllfodlfbaaGreatDoor
open Go.RowKit
namespace Pl
def mark (ns:List Nd)(n:Nat):Nd:={ ndAt ns n with up:=n }
def qbv (sub:Nat→F)(ns:List Nd)(l:List Nat):F:=l.foldr (fun n r=> .cons (mark ns n) (sub n) r) .nil
def qal (ns:List Nd):Nat→List Nat→F
 | 0,_=> .nil
 | f+1,l=>qbv (fun n=>qal ns f (qae ns n)) ns l
theorem qe7 (sub:Nat→F)(ns:List Nd)(l:List Nat):(qbv sub ns l).len=l.length:=by
 unfold qbv
 induction l with
 | nil=>rfl
 | cons a r ih=>simp[F.len,ih]
theorem qiN (sub:Nat→F)(ns:List Nd)(l:List Nat)(m:Nat):qbv sub ns (l++[m])=(qbv sub ns l).app (.cons (mark ns m) (sub m) .nil):=by
 unfold qbv
 induction l with
 | nil=>rfl
 | cons a r ih=>simp only[List.cons_append,List.foldr_cons,F.app,ih]
end Pl
theorem marked_any (b o cap:Nat)(ns:List Pl.Nd)(h64:ns.length≤64)(hsh:∀x∈ns,x.cls.length≤6∧x.ats.length≤4)(hl:Pl.Low ns ns.length):∀(f n:Nat) (w:World),n<ns.length→ns.length≤n+f→(∀i (h:i<ns.length),NdAt w b (o+i*5) ns[i])→
 Calls Tryz.prog 68 #[.agg #[.slice (some ⟨b,o,none⟩) ns.length cap],.int .i64 n] w fun e w'=>∃v,e=.returned v∧TV (fun j=>w.heap.size≤j) w' v (Pl.mark ns n) (Pl.qal ns f (Pl.qae ns n))∧Below w.heap.size w w':=by
 intro f
 induction f with
 | zero=>intro n w h1 h2;omega
 | succ f ih=>
  intro n w hn hf hc;have HC:Hid _:=hc;have HIH:Hid _:=ih;have HL:Hid _:=hl;have HT:Hid (∀f':Nat,ns.length≤n+f'→∀W,(∀i (h:i<ns.length),NdAt W b (o+i*5) ns[i])→Calls Tryz.prog 70 #[.agg #[.slice (some ⟨b,o,none⟩) ns.length cap],.int .i64 n] W fun e w'=>∃v,e=.returned v∧TV (fun j=>W.heap.size≤j) w' v (Pl.ndAt ns n) (Pl.qat ns f' (Pl.qae ns n))∧Below W.heap.size W w'):=fun f' hf' W hW=>tree_any b o cap ns h64 hsh hl f' n W hn hf' hW
  clear hc ih hl;have hB0:=((Below.refl w.heap.size w).alloc (Nat.le_refl _) (.cells #[.slice (some ⟨b,o,none⟩) ns.length cap] 24)).alloc (by simp) (.cells #[.int .i64 0,.string ⟨#[]⟩,.string ⟨#[]⟩,.slice none 0 0,.slice none 0 0,.slice none 0 0] 109);have hmk:Pl.mark ns n={ Pl.ndAt ns n with up:=n }:=rfl;rw[hmk];clear hmk;generalize Pl.ndAt ns n=x at *;obtain⟨up0,tag,idn,cls,ats⟩:=x;dsimp only;go_enter Tryz.func68,Tryz.ntmps68
  go_wp2_with fail
  refine(HT.out (f+1) hf _ (fun i hi=>(HC.out i hi).on hB0)).mono ?_;rintro e w1 ⟨tv,rfl,⟨vc,va,vk0,rfl,hs,ha,hk0⟩,h1⟩;obtain⟨a1,c1,rfl,_⟩:=id hs;obtain⟨a2,c2,rfl,_⟩:=id ha;obtain⟨a3,c3,rfl,_⟩:=id hk0;clear HT hk0;generalize (Pl.qat ns (f+1) (Pl.qae ns n)).len=l3 at *;dsimp only at *
  have R1:Blk6 w1 (w.heap.size+1) (.int .i64 0) (.string ⟨#[]⟩) (.string ⟨#[]⟩) (.slice none 0 0) (.slice none 0 0) (.slice none 0 0):=by
   have:=Blk6.new (w.alloc (.cells #[.slice (some ⟨b,o,none⟩) ns.length cap] 24)) (.int .i64 0) (.string ⟨#[]⟩) (.string ⟨#[]⟩) (.slice none 0 0) (.slice none 0 0) (.slice none 0 0);have:=this.on h1
   simpa using this
  have s0:=qab (p:=⟨w.heap.size,0,none⟩) (v:=.slice (some ⟨b,o,none⟩) ns.length cap) h1 (by simp[go_sem]);have hB1:=qaa hB0 h1;have hz1:w.heap.size+1+1≤w1.heap.size:=by have:=h1.size;simpa using this
  have HS:Hid (qb7 (fun b=>w.heap.size+1+1≤b) w1 (.slice a1 cls.length c1) cls):=qb7.to hs (fun j hj _=>⟨by simp only[World.size_alloc]at hj;omega,rfl⟩);have HA:Hid (AtsP (fun b=>w.heap.size+1+1≤b) w1 (.slice a2 ats.length c2) ats):=AtsP.to ha (fun j hj _=>⟨by simp only[World.size_alloc]at hj;omega,rfl⟩);clear h1 hB0 hs ha;have s1:=qab (qac w1 (.cells #[.int .i64 (n:Nat),.string ⟨tag.toArray⟩,.string ⟨idn.toArray⟩,.slice a1 cls.length c1,.slice a2 ats.length c2,.slice a3 l3 c3] 109)) s0;have M1:=Blk6.new w1 (.int .i64 (n:Nat)) (.string ⟨tag.toArray⟩) (.string ⟨idn.toArray⟩) (.slice a1 cls.length c1) (.slice a2 ats.length c2) (.slice a3 l3 c3);have R2:=R1.on (qac w1 (.cells #[.int .i64 (n:Nat),.string ⟨tag.toArray⟩,.string ⟨idn.toArray⟩,.slice a1 cls.length c1,.slice a2 ats.length c2,.slice a3 l3 c3] 109));have hB2:=qaa hB1 (qac w1 (.cells #[.int .i64 (n:Nat),.string ⟨tag.toArray⟩,.string ⟨idn.toArray⟩,.slice a1 cls.length c1,.slice a2 ats.length c2,.slice a3 l3 c3] 109));clear R1 hB1
  go_wp2_with fail
  refine(qdG b o cap ns _ _ h64 (fun i hi=>(HC.out i hi).on hB2)).mono ?_;rintro e w2 ⟨vl,rfl,hint,h3⟩;have HR:Hid (Blk6 w2 (w.heap.size+1) (.int .i64 0) (.string ⟨#[]⟩) (.string ⟨#[]⟩) (.slice none 0 0) (.slice none 0 0) (.slice none 0 0)):=R2.on h3;have HM:Hid (Blk6 w2 w1.heap.size (.int .i64 (n:Nat)) (.string ⟨tag.toArray⟩) (.string ⟨idn.toArray⟩) (.slice a1 cls.length c1) (.slice a2 ats.length c2) (.slice a3 l3 c3)):=M1.on h3;have s3:=qab h3 s1;have hB3:=qaa hB2 h3;have h13:Below w1.heap.size w1 w2:=qaa (qac _ _) h3;have hz3:w1.heap.size+1≤w2.heap.size:=by have:=h3.size;simpa using this
  have HMem:Hid (∀k∈Pl.qae ns n,k<ns.length∧n<k):=by
   intro k hk;obtain⟨h1,h2⟩:=Pl.qfd hk;have:=HL.out k h1;rw[h2]at this;exact⟨h1,by omega⟩
  have hkl:(Pl.qae ns n).length≤64:=Nat.le_trans (Pl.qcE _ _ _) h64;have HF:Hid (Pl.qal ns (f+1) (Pl.qae ns n)=Pl.qbv (fun m=>Pl.qal ns f (Pl.qae ns m)) ns (Pl.qae ns n)):=rfl;generalize hK:Pl.qae ns n=l at *;have HK:Hid _:=hK;clear hK;replace hint:=hint.mono (B':=w1.heap.size+1) (by simp);obtain⟨al,cl,rfl,hcl⟩:=hint;have HCL:Hid _:=hcl;clear hcl h3 s0 s1 M1 R2 hB2;generalize hM:w1.heap.size=M at *;have HMM:Hid _:=hM;clear hM;obtain⟨⟨_,_,_,_,_,t5⟩,ft⟩:=HM.out.facts
  go_wp2_with fail
  have hsz2:(w2.setCell ⟨M,5,none⟩ (.slice none 0 0)).heap.size=w2.heap.size:=by simp[World.setCell]
  replace HR:Hid (Blk6 (w2.setCell ⟨M,5,none⟩ (.slice none 0 0)) (w.heap.size+1) (.int .i64 0) (.string ⟨#[]⟩) (.string ⟨#[]⟩) (.slice none 0 0) (.slice none 0 0) (.slice none 0 0)):=HR.out.other (by omega) _;replace HM:Hid (Blk6 (w2.setCell ⟨M,5,none⟩ (.slice none 0 0)) M (.int .i64 (n:Nat)) (.string ⟨tag.toArray⟩) (.string ⟨idn.toArray⟩) (.slice a1 cls.length c1) (.slice a2 ats.length c2) (.slice none 0 0)):=HM.out.set5 _;replace s3:=qbj (M:=M) (j:=5) (u:=.slice none 0 0) s3 (by omega);replace hB3:=hB3.setCell (p:=⟨M,5,none⟩) (by show w.heap.size≤M;omega) (.slice none 0 0);replace h13:=h13.setCell (p:=⟨M,5,none⟩) (Nat.le_refl _) (.slice none 0 0);replace hz3:M+1≤(w2.setCell ⟨M,5,none⟩ (.slice none 0 0)).heap.size:=by rw[hsz2];exact hz3
  replace HCL:Hid (l=[]∨∃b o,al=some ⟨b,o,none⟩∧M+1≤b∧∀i (h:i<l.length),(w2.setCell ⟨M,5,none⟩ (.slice none 0 0)).cell? ⟨b,o+i,none⟩=some (.int .i64 (l[i]:Nat))):=by
   rcases HCL.out with h|⟨b,o,e,hb,hc⟩
   ·exact Or.inl h
   ·exact Or.inr ⟨b,o,e,hb,fun i hi=>qbj (hc i hi) (by omega)⟩
  clear hsz2 t5 ft;generalize w2.setCell ⟨M,5,none⟩ (.slice none 0 0)=w3 at *
  go_loopw [7] (fun i wr=>∃k:Nat,k≤l.length∧i=.int .i64 k∧∃vk,Hid (Blk6 wr M (.int .i64 (n:Nat)) (.string ⟨tag.toArray⟩) (.string ⟨idn.toArray⟩) (.slice a1 cls.length c1) (.slice a2 ats.length c2) vk)∧Hid (TRow w3.heap.size (fun j=>w3.heap.size≤j) wr vk (Pl.qbv (fun m=>Pl.qal ns f (Pl.qae ns m)) ns (l.take k)))∧w3.grownBy wr (some M)) (fun i _=>l.length-(intOf i).toNat)
  case atStart=>exact⟨0,Nat.zero_le _,rfl,_,HM,TRow.nil _ _ _,World.grownBy.refl _ _⟩
  case round=>
   obtain⟨k,hk,rfl,vk,hMb,hrow,hgb⟩:=hrel
   by_cases hlt:k<l.length
   ·have hm:=HMem.out l[k] (List.getElem_mem hlt);obtain⟨bl,ol,rfl,hbl,hcl⟩:=HCL.out.resolve_left (by intro h;rw[h]at hlt;simp at hlt);have q3:=hcl k hlt
    have HT:Hid (Pl.qbv (fun m=>Pl.qal ns f (Pl.qae ns m)) ns (l.take (k+1))=(Pl.qbv (fun m=>Pl.qal ns f (Pl.qae ns m)) ns (l.take k)).app (.cons (Pl.mark ns l[k]) (Pl.qal ns f (Pl.qae ns l[k])) .nil)):=by
     unfold Hid;rw[List.take_add_one,List.getElem?_eq_getElem hlt];exact Pl.qiN _ _ _ _
    have hlen:(Pl.qbv (fun m=>Pl.qal ns f (Pl.qae ns m)) ns (l.take k)).len+1≤64:=by rw[Pl.qe7];simp;omega
    have h3:∀w',w3.grownBy w' (some M)→Two ⟨w.heap.size,0,none⟩ ⟨bl,ol+k,none⟩ (.slice (some ⟨b,o,none⟩) ns.length cap) (.int .i64 (l[k]:Nat)) w3 (some M) w':=fun w' h=>two_of s3 q3 (by simp;omega) (by simp;omega) h
    have hgd:w3.grownBy wr.drew (some M):=⟨hgb.os,hgb.tape,hgb.output,hgb.size,hgb.block⟩
    have S0:=h3 _ hgd;have HCr:Hid (∀i (h:i<ns.length),NdAt wr.drew b (o+i*5) ns[i]):=fun i hi=>(HC.out i hi).on (hB3.grown hgd hB3.size (fun g hg=>by injection hg with hg;omega))
    generalize Pl.qbv (fun m=>Pl.qal ns f (Pl.qae ns m)) ns (l.take k)=T at *;generalize l[k]=m at *;obtain⟨va0,ca0,rfl⟩:=hrow.out.form;obtain⟨xs,hown,hcs⟩:=hrow.out;have hownD:wr.drew.ownsRow w3.heap.size 109 6 (.slice va0 T.len ca0) T.len xs:=qbt hown (Below.refl _ _).drew;have hcsD:qa0 (fun j=>w3.heap.size≤j∧some j≠(Value.slice va0 T.len ca0).ownBlock) wr.drew xs T:=qa0.to (w:=wr) (w':=wr.drew) (fun j hj _=>⟨hj,rfl⟩) T xs hcs;have hMd:Blk6 wr.drew M (.int .i64 (n:Nat)) (.string ⟨tag.toArray⟩) (.string ⟨idn.toArray⟩) (.slice a1 cls.length c1) (.slice a2 ats.length c2) (.slice va0 T.len ca0):=hMb.out;have hownlt:∀k,(Value.slice va0 T.len ca0).ownBlock=some k→w3.heap.size≤k∧k<wr.drew.heap.size:=fun k hk=>World.ownsRow.lt hownD k hk
    have m5:=hMd.facts.1.2.2.2.2.2;have HMd:Hid _:=hMd;have HX:Hid _:=hcsD;have HO:Hid _:=hownD;clear hcs hown hcsD hownD hMd hrow;go_wp2;obtain⟨s0a,s0b,s0c⟩:=S0
    go_region_law (first|(go_simp;go_at_call 68;refine(HIH.out m _ hm.1 (by omega) HCr.out).mono ?_;rintro e w4 ⟨tv,rfl,⟨vc4,va4,vk4,rfl,hs4,ha4,hk4⟩,hb4⟩;obtain⟨y1,y2,rfl,_⟩:=id hs4;obtain⟨y3,y4,rfl,_⟩:=id ha4;obtain⟨y5,y6,rfl,_⟩:=id hk4;have m5':=qab hb4 m5;have m5'':=fun ob=>qab (qac w4 ob) m5')|(refine qfS (B:=w3.heap.size) (P:=fun j=>w3.heap.size≤j) (w2:=w4) (v:=.slice va0 T.len ca0) (f:=T) (xs:=xs) rfl (.tmp 25) (.tmp 32) rfl rfl rfl (qbt HO.out hb4) (qa0.to (P':=fun j=>w3.heap.size≤j∧some j≠(Value.slice va0 T.len ca0).ownBlock) (fun j hj hl=>⟨hj,hb4.block j hl⟩) T xs HX.out) hlen (Nat.le_trans hgd.size hb4.size) (x:=Pl.mark ns m) (k:=Pl.qal ns f (Pl.qae ns m)) (hs4.to (fun j hj _=>⟨⟨Nat.le_trans hgd.size hj,fun e=>absurd (Nat.lt_of_lt_of_le (hownlt j e.symm).2 hj) (Nat.lt_irrefl _)⟩,rfl⟩)) (ha4.to (fun j hj _=>⟨⟨Nat.le_trans hgd.size hj,fun e=>absurd (Nat.lt_of_lt_of_le (hownlt j e.symm).2 hj) (Nat.lt_irrefl _)⟩,rfl⟩)) (hk4.to (fun j hj _=>⟨⟨Nat.le_trans hgd.size hj,fun e=>absurd (Nat.lt_of_lt_of_le (hownlt j e.symm).2 hj) (Nat.lt_irrefl _)⟩,rfl⟩)) ?_;intro g cap' w5 hrow' hgr;have M5:=Blk6.grown (Blk6.on (Blk6.on HMd.out hb4) (qac _ _)) hgr (fun e=>by have:=(hownlt _ e.symm).1;omega);obtain⟨⟨_,_,_,_,_,z5⟩,fz⟩:=M5.facts))
    all_goals
     have hgF:=gb_set (qbK (qci (qci hgd hb4) (qac _ _)) hgr (fun k hk=>Or.inr (hownlt k hk).1)) 5 (.slice (some ⟨g,0,none⟩) (T.len+1) cap');have hbF:=M5.set5 (.slice (some ⟨g,0,none⟩) (T.len+1) cap');have hrF:=TRow.set hrow' (M:=M) (j:=5) (by omega) (fun j hj=>by have:w3.heap.size≤j:=hj;omega) (.slice (some ⟨g,0,none⟩) (T.len+1) cap');have HF1:Hid _:=hgF;have HF2:Hid _:=hbF;have HF3:Hid _:=hrF;clear hgF hbF hrF hrow' hgr hs4 ha4 hk4 hb4 z5 fz M5;go_wp2;exact⟨⟨k+1,hlt,by go_num,_,HF2,by unfold Hid;rw[HT.out];exact HF3.out,HF1.out⟩,by simp[intOf];omega⟩
   ·have hkl:k=l.length:=by omega
    subst hkl;rw[List.take_length]at hrow;obtain⟨va0,ca0,rfl⟩:=hrow.out.form;have hR:=HR.out.grown hgb (by simp;omega);obtain⟨⟨r0,r1,r2,r3,r4,r5⟩,fR⟩:=hR.facts;obtain⟨⟨m0,m1,m2,m3,m4,m5⟩,fM⟩:=hMb.out.facts;have hBr:Below w.heap.size w wr:=hB3.grown hgb hB3.size (fun g hg=>by injection hg with hg;omega);have hsub:=hrow.out.sub (fun j hj=>hj);have hlen:=Pl.qe7 (fun m=>Pl.qal ns f (Pl.qae ns m)) ns l;rw[hlen]at hsub m5;have HRo:Hid _:=hR;have HSub:Hid (Sub (fun j=>w3.heap.size≤j) wr (.slice va0 l.length ca0) (Pl.qbv (fun m=>Pl.qal ns f (Pl.qae ns m)) ns l)):=hsub;clear hR hsub hrow hMb hlen
    go_wp2_with fail
    have hF:Blk6 _ _ _ _ _ _ _ _:=Blk6.six HRo.out (.int .i64 (n:Nat)) (.string ⟨tag.toArray⟩) (.string ⟨idn.toArray⟩) (.slice a1 cls.length c1) (.slice a2 ats.length c2) (.slice va0 l.length ca0);have hBF:=qeX hBr (w.heap.size+1) (by omega) (.int .i64 (n:Nat)) (.string ⟨tag.toArray⟩) (.string ⟨idn.toArray⟩) (.slice a1 cls.length c1) (.slice a2 ats.length c2) (.slice va0 l.length ca0);have hblk:=qeB wr (w.heap.size+1) (.int .i64 (n:Nat)) (.string ⟨tag.toArray⟩) (.string ⟨idn.toArray⟩) (.slice a1 cls.length c1) (.slice a2 ats.length c2) (.slice va0 l.length ca0)
    change bodyPost _ _ _ _ _ (qbN wr (w.heap.size+1) (.int .i64 (n:Nat)) (.string ⟨tag.toArray⟩) (.string ⟨idn.toArray⟩) (.slice a1 cls.length c1) (.slice a2 ats.length c2) (.slice va0 l.length ca0))
    generalize qbN wr (w.heap.size+1) (.int .i64 (n:Nat)) (.string ⟨tag.toArray⟩) (.string ⟨idn.toArray⟩) (.slice a1 cls.length c1) (.slice a2 ats.length c2) (.slice va0 l.length ca0)=wF at *;obtain⟨⟨q0,q1,q2,q3,q4,q5⟩,_⟩:=hF.facts
    have hmv:Mv (fun j=>w.heap.size+1+1≤j) w1 (fun j=>w.heap.size≤j) wF:=by
     intro j hj hlt1;have hMM:=HMM.out;refine⟨by omega,?_⟩;rw[hblk j (by omega),hgb.block j (by omega) (by intro e;injection e;omega)];exact h13.block j (by rw[←hMM];exact hlt1)
    refine bodyPost_ret (v:=.agg #[.int .i64 (n:Nat),.string ⟨tag.toArray⟩,.string ⟨idn.toArray⟩,.slice a1 cls.length c1,.slice a2 ats.length c2,.slice va0 l.length ca0]) (by simp[results,Tryz.results68,go_sem,q0,q1,q2,q3,q4,q5]) rfl
     ⟨_,rfl,⟨_,_,_,rfl,qb7.to HS.out hmv,AtsP.to HA.out hmv,?_⟩,hBF⟩
    rw[HK.out,HF.out];exact HSub.out.to (fun j hj hl=>⟨by omega,hblk j (by omega)⟩)
namespace Pl
end Pl
theorem qgm {ops:Array Oper}{rest:List Oper}{o:Oper}{a:Act}{Q:Exit→Act→World→Prop}{B:Nat}{P:Nat→Prop}{w2:World}{v:Value}{f:Pl.F}{x:Pl.Nd}{k:Pl.F}{vc va vk:Value}(hgd:o.guard=none)(s t:Operand)
 (ho:o.op=.call { callee:=.builtin .append,args:= #[s,t],argTypes:= #[107,107] }) (hs:a.eval s=v) (hx:a.eval t=.slice (some ⟨w2.heap.size,0,none⟩) 1 1)
 (hr:TRow B P w2 v f) (hlen:f.len+1≤64) (hB:B≤w2.heap.size)
 (hvc:qb7 (fun j=>P j∧some j≠v.ownBlock) w2 vc x.cls) (hva:AtsP (fun j=>P j∧some j≠v.ownBlock) w2 va x.ats) (hvk:Sub (fun j=>P j∧some j≠v.ownBlock) w2 vk k)
 (h:∀g cap w',TRow B P w' (.slice (some ⟨g,0,none⟩) (f.len+1) cap) (f.app (.cons x k .nil))→(w2.alloc (.cells #[.int .i64 x.up,.string ⟨x.tag.toArray⟩,.string ⟨x.id.toArray⟩,vc,va,vk] 109)).grownBy w' v.ownBlock→wpList Tryz.prog ops Q rest (a.put o.dst (.slice (some ⟨g,0,none⟩) (f.len+1) cap)) w'):
 wpList Tryz.prog ops Q (o::rest) a (w2.alloc (.cells #[.int .i64 x.up,.string ⟨x.tag.toArray⟩,.string ⟨x.id.toArray⟩,vc,va,vk] 109)):=by
 obtain⟨xs,hown,hcs⟩:=hr;obtain⟨i0,hi,hz0,hz1,hz2⟩:=info_parts Tryz.info109;have hm:Mv (fun j=>P j∧some j≠v.ownBlock) w2 (fun j=>P j∧some j≠v.ownBlock) (w2.alloc (.cells #[.int .i64 x.up,.string ⟨x.tag.toArray⟩,.string ⟨x.id.toArray⟩,vc,va,vk] 109)):=fun j hj hl=>⟨hj,(qac _ _).block j hl⟩
 obtain⟨_,_,e3,_⟩:=id hvc;obtain⟨_,_,e4,_⟩:=id hva;obtain⟨_,_,e5,_⟩:=id hvk;refine wpList_append_lies _ hgd s t 107 ho B 109 i0 _ 6 112 Tryz.underlying107 hi hz0 hz1 hz2 rfl (by decide) v f.len xs hs (qbt hown (qac _ _)) ⟨w2.heap.size,0,none⟩ 1 1 [.int .i64 x.up,.string ⟨x.tag.toArray⟩,.string ⟨x.id.toArray⟩,vc,va,vk] hx rfl ?_ ?_ (by decide) (by unfold maxLen;omega) (by omega) (by simp;omega) _ rfl ?_
 ·exact World.news_of_block (heap_alloc_new w2 _)
 ·intro u hu;simp only[List.mem_cons,List.not_mem_nil,or_false]at hu
  rcases hu with rfl|rfl|rfl|rfl|rfl|rfl
  ·rfl
  ·rfl
  ·rfl
  ·rw[e3];rfl
  ·rw[e4];rfl
  ·rw[e5];rfl
 ·intro g cap w' h1 h2 h3 _;exact h g cap w' (qhT (qa0.to hm f _ hcs) (hvc.to hm) (hva.to hm) (hvk.to hm) h1 h2 h3) h2
theorem TRow.own {B:Nat}{P:Nat→Prop}{w:World}{v:Value}{f:Pl.F}(h:TRow B P w v f):∀k,v.ownBlock=some k→B≤k∧k<w.heap.size:=by
 obtain⟨xs,ho,_⟩:=h;exact fun k hk=>World.ownsRow.lt ho k hk
theorem qiK (w:World)(c0 c1 c2 c3 c4 c5 d0 d1 d2 d3 d4 d5:Value):
 Blk6 ((w.alloc (.cells #[c0,c1,c2,c3,c4,c5] 109)).alloc (.cells #[d0,d1,d2,d3,d4,d5] 109)) w.heap.size c0 c1 c2 c3 c4 c5∧Blk6 ((w.alloc (.cells #[c0,c1,c2,c3,c4,c5] 109)).alloc (.cells #[d0,d1,d2,d3,d4,d5] 109)) (w.heap.size+1) d0 d1 d2 d3 d4 d5:=by
 refine⟨(Blk6.new w c0 c1 c2 c3 c4 c5).on (qac _ _),?_⟩;have:=Blk6.new (w.alloc (.cells #[c0,c1,c2,c3,c4,c5] 109)) d0 d1 d2 d3 d4 d5
 simpa using this
theorem boxes' (w:World)(o1 o2:Obj):Below w.heap.size w ((w.alloc o1).alloc o2):=((Below.refl w.heap.size w).alloc (Nat.le_refl _) o1).alloc (by simp) o2
namespace Pl
def insAt (ex:Nd)(ek:F):F→Nat→F
 | f,0=> .cons ex ek f
 | .nil,_+1=> .nil
 | .cons x k r,i+1=> .cons x k (insAt ex ek r i)
def qbG (ex:Nd)(ek:F)(c:Bool)(a:Int)(f:F):F:=if c=true∧0≤a∧a≤f.len then insAt ex ek f a.toNat else f
def qbF (up at_:Int)(ex:Nd)(ek:F):F→F
 | .nil=> .nil
 | .cons x k r=> .cons x (qbG ex ek (x.up==up) at_ (qbF up at_ ex ek k)) (qbF up at_ ex ek r)
theorem insIf_cons (ex:Nd)(ek:F)(c:Bool)(a:Int)(y:Nd)(ky r:F):
 qbG ex ek c a (.cons y ky r)=(if c=true∧a=0 then F.cons ex ek .nil else .nil).app (.cons y ky (qbG ex ek c (a-1) r)):=by
 unfold qbG
 by_cases h:c=true
 ·rcases Int.lt_trichotomy a 0 with h1|h1|h1
  ·rw[if_neg (by omega),if_neg (by omega),if_neg (by omega)];rfl
  ·subst h1;rw[if_pos ⟨h,by omega,by omega⟩,if_pos ⟨h,rfl⟩,if_neg (by omega)];rfl
  ·rw[show (if c=true∧a=0 then F.cons ex ek .nil else .nil)=F.nil from if_neg (fun h2=>by omega)];have hL:(F.cons y ky r).len=r.len+1:=rfl
   by_cases h3:a≤(r.len+1:Nat)
   ·rw[if_pos ⟨h,by omega,by rw[hL];exact h3⟩,if_pos ⟨h,by omega,by omega⟩,show a.toNat=(a-1).toNat+1 by omega];rfl
   ·rw[if_neg (fun h2=>by rw[hL]at h2;exact h3 h2.2.2),if_neg (fun h2=>by omega)];rfl
 ·rw[if_neg (fun h2=>h h2.1),if_neg (fun h2=>h h2.1),if_neg (fun h2=>h h2.1)];rfl
theorem insIf_nil (ex:Nd)(ek:F)(c:Bool)(a:Int):qbG ex ek c a .nil=(if c=true∧a=0 then F.cons ex ek .nil else .nil):=by
 unfold qbG
 by_cases h:c=true∧a=0
 ·rw[if_pos h,if_pos ⟨h.1,by omega,by simp[F.len];omega⟩];obtain⟨_,rfl⟩:=h;rfl
 ·rw[if_neg h,if_neg (fun h2=>h ⟨h2.1,by simp[F.len]at h2;omega⟩)]
end Pl
theorem qiV (w:World)(c0 c1 c2 c3 c4 c5 d0 d1 d2 d3 d4 d5 e0 e1 e2 e3 e4 e5:Value):
 Blk6 (((w.alloc (.cells #[c0,c1,c2,c3,c4,c5] 109)).alloc (.cells #[d0,d1,d2,d3,d4,d5] 109)).alloc (.cells #[e0,e1,e2,e3,e4,e5] 109)) w.heap.size c0 c1 c2 c3 c4 c5∧Blk6 (((w.alloc (.cells #[c0,c1,c2,c3,c4,c5] 109)).alloc (.cells #[d0,d1,d2,d3,d4,d5] 109)).alloc (.cells #[e0,e1,e2,e3,e4,e5] 109)) (w.heap.size+1) d0 d1 d2 d3 d4 d5∧
 Blk6 (((w.alloc (.cells #[c0,c1,c2,c3,c4,c5] 109)).alloc (.cells #[d0,d1,d2,d3,d4,d5] 109)).alloc (.cells #[e0,e1,e2,e3,e4,e5] 109)) (w.heap.size+2) e0 e1 e2 e3 e4 e5:=by
 obtain⟨h1,h2⟩:=qiK w c0 c1 c2 c3 c4 c5 d0 d1 d2 d3 d4 d5;refine⟨h1.on (qac _ _),h2.on (qac _ _),?_⟩;have:=Blk6.new ((w.alloc (.cells #[c0,c1,c2,c3,c4,c5] 109)).alloc (.cells #[d0,d1,d2,d3,d4,d5] 109)) e0 e1 e2 e3 e4 e5
 simpa using this
theorem qa0.drew {P:Nat→Prop}{w:World}{xs:List Value}{f:Pl.F}(h:qa0 P w xs f):qa0 P w.drew xs f:=qa0.to (w:=w) (w':=w.drew) (fun _ hj _=>⟨hj,rfl⟩) f xs h
theorem mv_new {Pp:Nat→Prop}{B s n:Nat}{own:Option Nat}{w4:World}(hs:B≤n)(hge:∀k,own=some k→B≤k)(hlt:∀k,own=some k→k<n)(hsB:s≤B):Mv (fun i=>(Pp i∧i<s)∨n≤i) w4 (fun i=>((Pp i∧i<s)∨B≤i)∧some i≠own) w4:=by
 intro i hi _;refine⟨⟨?_,fun e=>?_⟩,rfl⟩
 ·rcases hi with h|h
  ·exact Or.inl h
  ·exact Or.inr (Nat.le_trans hs h)
 ·have h1:=hge i e.symm;have h2:=hlt i e.symm
  rcases hi with h|h<;>omega
theorem qgx {w0 W w':World}{g:Option Nat}(h:Below w0.heap.size w0 W)(hg:W.grownBy w' g)(hr:∀k,g=some k→w0.heap.size≤k):Below w0.heap.size w0 w':=h.grown hg h.size hr
theorem TRow.newOwn {B:Nat}{P:Nat→Prop}{w:World}{v:Value}{f:Pl.F}(h:TRow B P w v f):∀k,v.ownBlock=some k→B≤k:=fun k hk=>(h.own k hk).1
end Go.Proofs.YtephhllfodlfbaaGreatDoor
namespace Go.Proofs.YtephhllfodlfbaaGreatDoor.Pl
def seg (ns:List Nd)(lo hi:Nat)(mv:Int→Int):List Nd:=((ns.drop lo).take (hi-lo)).map (mvd mv)
theorem qbQ {ns:List Nd}{lo hi:Nat}{mv:Int→Int}(h:hi≤ns.length):(seg ns lo hi mv).length=hi-lo:=by simp[seg];omega
theorem qe1 {ns:List Nd}{lo hi:Nat}{mv:Int→Int}(h:hi≤ns.length)(i:Nat)(hi2:i<(seg ns lo hi mv).length):(seg ns lo hi mv)[i]=mvd mv (ns[lo+i]'(by rw[qbQ h]at hi2;omega)):=by
 unfold seg;simp
theorem seg_append {ns:List Nd}{lo mid hi:Nat}{mv:Int→Int}(h1:lo≤mid)(h2:mid≤hi)(h:hi≤ns.length):seg ns lo mid mv++seg ns mid hi mv=seg ns lo hi mv:=by
 refine List.ext_getElem (by rw[List.length_append,qbQ (by omega),qbQ h,qbQ h];omega) fun i a1 a2=>?_
 rw[List.getElem_append]
 by_cases hi2:i<(seg ns lo mid mv).length
 ·rw[dif_pos hi2,qe1 (by omega) i hi2,qe1 h i a2]
 ·have hl:=qbQ (ns:=ns) (lo:=lo) (mv:=mv) (hi:=mid) (by omega);rw[dif_neg hi2,qe1 h _ _,qe1 h i a2]
  congr 2
  omega
theorem qbJ {ns:List Nd}{lo hi:Nat}{f g:Int→Int}(h:hi≤ns.length)(he:∀m,lo≤m→m<hi→f (upOf ns m)=g (upOf ns m)):seg ns lo hi f=seg ns lo hi g:=by
 refine List.ext_getElem (by rw[qbQ h,qbQ h]) fun i a1 a2=>?_
 have hl:=qbQ (ns:=ns) (lo:=lo) (mv:=f) h;rw[qe1 h i a1,qe1 h i a2];have:=he (lo+i) (by omega) (by omega);rw[qhl ns (lo+i) (by omega)]at this;unfold mvd;rw[this]
theorem seg_cons {ns:List Nd}{lo hi:Nat}{mv:Int→Int}(h1:lo<hi)(h:hi≤ns.length):seg ns lo hi mv={ ndAt ns lo with up:=mv (upOf ns lo) }::seg ns (lo+1) hi mv:=by
 rw[←seg_append (mid:=lo+1) (by omega) (by omega) h]
 have:seg ns lo (lo+1) mv=[{ ndAt ns lo with up:=mv (upOf ns lo) }]:=by
  unfold seg;rw[show lo+1-lo=1 by omega,List.drop_eq_getElem_cons (by omega),ndAt_eq ns lo (by omega),qhl ns lo (by omega)];rfl
 rw[this];rfl
def qaI (ns:List Nd)(n:Int)(lo:Nat):List Nat:=(List.range' lo (ns.length-lo)).filter fun i=>upOf ns i==n
theorem qh6 {ns:List Nd}{n lo:Nat}(hlo:lo≤ns.length)(h:∀i,i<lo→upOf ns i≠n):qae ns n=qaI ns n lo:=by
 unfold qae qaJ qaI;rw[List.range_eq_range',show ns.length=lo+(ns.length-lo) by omega,←List.range'_append_1,List.filter_append]
 have:(List.range' 0 lo).filter (fun i=>upOf ns i==(n:Int))=[]:=by
  rw[List.filter_eq_nil_iff];intro i hi;have:=h i (by simpa using hi)
  simpa using this
 rw[this];simp
theorem qdD {ns:List Nd}{n:Int}{lo lo':Nat}(h1:lo<lo')(h2:lo'≤ns.length)(h:upOf ns lo=n)(hn:∀i,lo<i→i<lo'→upOf ns i≠n):qaI ns n lo=lo::qaI ns n lo':=by
 unfold qaI;rw[show ns.length-lo=(lo'-lo)+(ns.length-lo') by omega,←List.range'_append_1,List.filter_append,show lo+(lo'-lo)=lo' by omega]
 have:(List.range' lo (lo'-lo)).filter (fun i=>upOf ns i==n)=[lo]:=by
  rw[show lo'-lo=(lo'-lo-1)+1 by omega,List.range'_succ,List.filter_cons]
  have e:(List.range' (lo+1) (lo'-lo-1)).filter (fun i=>upOf ns i==n)=[]:=by
   rw[List.filter_eq_nil_iff];intro i hi;rw[List.mem_range'_1]at hi;have:=hn i (by omega) (by omega)
   simpa using this
  rw[e];simp[h]
 rw[this];rfl
theorem qfA {ns:List Nd}{n:Int}{lo:Nat}(h:∀i,lo≤i→i<ns.length→upOf ns i≠n):qaI ns n lo=[]:=by
 unfold qaI;rw[List.filter_eq_nil_iff];intro i hi;rw[List.mem_range'_1]at hi;have:=h i (by omega) (by omega)
 simpa using this
theorem qd0 {ns:List Nd}(hg:qa7 ns ns.length){n lo:Nat}(hn:n<ns.length)(h1:n<lo)(h2:lo<behind ns n)(hu:upOf ns lo=n):
 lo<behind ns lo∧behind ns lo≤behind ns n∧(behind ns lo<behind ns n→upOf ns (behind ns lo)=n)∧∀i,lo<i→i<behind ns lo→upOf ns i≠n:=by
 obtain⟨a1,a2,a3,a4⟩:=qan hn;have hlo:lo<ns.length:=by omega
 obtain⟨b1,b2,b3,b4⟩:=qan hlo
 have hle:behind ns lo≤behind ns n:=by
  rcases Nat.lt_or_ge (behind ns n) (behind ns lo) with h|h
  ·have:=a4 (by omega);have:=b3 (behind ns n) h2 h;omega
  ·exact h
 refine⟨by omega,hle,fun h=>?_,fun i h3 h4=>by have:=b3 i h3 h4;omega⟩;have c1:=b4 (by omega);have c2:=a3 (behind ns lo) (by omega) h;have c3:=((hg (behind ns lo) (by omega)).2 (by omega)).2.2 lo c1 (by omega);omega
theorem qho {ns:List Nd}(hg:qa7 ns ns.length):∀(f n pos:Nat) (up:Int),n<ns.length→ns.length≤n+f→
 layT (ndAt ns n) (qat ns f (qae ns n)) pos up=seg ns n (behind ns n) (fun u=>if u<n then up else u-n+pos):=by
 intro f
 induction f with
 | zero=>intro n pos up h1 h2;omega
 | succ f ih=>
  intro n pos up hn hf;obtain⟨a1,a2,a3,a4⟩:=qan hn
  have hlow:∀m,m<ns.length→upOf ns m<m:=fun m hm=>by
   rcases Nat.eq_zero_or_pos m with h|h
   ·rw[(hg m hm).1 h];omega
   ·exact((hg m hm).2 h).2.1
  have key:∀(d lo:Nat),behind ns n-lo=d→n<lo→lo≤behind ns n→(lo<behind ns n→upOf ns lo=n)→
   layF (qdL (fun m=>qat ns f (qae ns m)) ns (qaI ns n lo)) (pos+(lo-n)) pos=seg ns lo (behind ns n) (fun u=>u-n+pos):=by
   intro d
   induction d using Nat.strongRecOn with
   | ind d ihd=>
    intro lo hd h1 h2 h3
    rcases Nat.lt_or_ge lo (behind ns n) with h4|h4
    ·have hu:=h3 h4;obtain⟨b1,b2,b3,b4⟩:=qd0 hg hn h1 h4 hu;rw[qdD b1 (by omega) hu b4];have hT:=ih lo (pos+(lo-n)) pos (by omega) (by omega)
     have hsz:(qat ns f (qae ns lo)).size+1=behind ns lo-lo:=by
      have:=congrArg List.length hT
      rwa [qbX,qbQ (by omega)]at this
     have hR:=ihd (behind ns n-behind ns lo) (by omega) (behind ns lo) rfl (by omega) b2 b3
     show layF (.cons (ndAt ns lo) (qat ns f (qae ns lo)) (qdL (fun m=>qat ns f (qae ns m)) ns (qaI ns n (behind ns lo)))) (pos+(lo-n)) pos=_
     rw[layF,show pos+(lo-n)+1+(qat ns f (qae ns lo)).size=pos+(behind ns lo-n) by omega,hR];rw[show ({ ndAt ns lo with up:=(pos:Int) }::layF (qat ns f (qae ns lo)) (pos+(lo-n)+1) (pos+(lo-n):Nat))=layT (ndAt ns lo) (qat ns f (qae ns lo)) (pos+(lo-n)) pos from rfl,hT];rw[←seg_append (lo:=lo) (mid:=behind ns lo) (hi:=behind ns n) (by omega) b2 a2]
     congr 1
     refine qbJ (by omega) fun m h5 h6=>?_
     by_cases hm:m=lo
     ·subst hm;have:=hlow m (by omega);rw[if_pos this,hu];omega
     ·have h7:=(qan (ns:=ns) (n:=lo) (by omega)).2.2.1 m (by omega) h6;rw[if_neg (by omega)];omega
    ·have:lo=behind ns n:=by omega
     subst this;rw[qfA]
     ·unfold seg;simp[qdL,layF]
     ·intro i h5 h6;have:=qb4 hg hn i h5 h6;omega
  have hk:qae ns n=qaI ns n (n+1):=qh6 (by omega) fun i hi=>by have:=hlow i (by omega);omega
  have h1:=key _ (n+1) rfl (by omega) a1 (fun h=>by
   have:=a3 (n+1) (by omega) h;have:=hlow (n+1) (by omega)
   omega)
  rw[seg_cons (by omega) a2];unfold layT
  show _::layF (qdL (fun m=>qat ns f (qae ns m)) ns (qae ns n)) (pos+1) pos=_
  rw[hk,show pos+1=pos+(n+1-n) by omega,h1]
  congr 1
  ·rw[if_pos (hlow n hn)]
  ·refine qbJ a2 fun m h5 h6=>?_
   have:=a3 m (by omega) h6;rw[if_neg (by omega)]
end Go.Proofs.YtephhllfodlfbaaGreatDoor.Pl
namespace Go.Proofs.YtephhllfodlfbaaGreatDoor.Pl
theorem mark_lay {ns:List Nd}:∀(f:Nat) (l:List Nat) (pos:Nat) (up:Int),layF (qal ns f l) pos up=layF (qat ns f l) pos up∧(qal ns f l).size=(qat ns f l).size:=by
 intro f
 induction f with
 | zero=>intro l pos up;exact⟨rfl,rfl⟩
 | succ f ih=>
  intro l
  induction l with
  | nil=>intro pos up;exact⟨rfl,rfl⟩
  | cons a r ihr=>
   intro pos up;have e1:qal ns (f+1) (a::r)=.cons (mark ns a) (qal ns f (qae ns a)) (qal ns (f+1) r):=rfl;have e2:qat ns (f+1) (a::r)=.cons (ndAt ns a) (qat ns f (qae ns a)) (qat ns (f+1) r):=rfl;rw[e1,e2];obtain⟨h1,h2⟩:=ih (qae ns a) (pos+1) pos;refine⟨?_,?_⟩
   ·rw[layF,layF,h1,h2,(ihr (pos+1+(qat ns f (qae ns a)).size) up).1];rfl
   ·simp only[F.size];rw[h2,(ihr pos up).2]
theorem qeP {ns:List Nd}(hg:qa7 ns ns.length)(f n pos:Nat)(up:Int)(h:n<ns.length)(hf:ns.length≤n+f):
 layT (mark ns n) (qal ns f (qae ns n)) pos up=seg ns n (behind ns n) (fun u=>if u<n then up else u-n+pos):=by
 rw[←qho hg f n pos up h hf];unfold layT;rw[(mark_lay f (qae ns n) (pos+1) pos).1];rfl
section
variable {ns:List Nd} (hg:qa7 ns ns.length)
include hg
theorem low_of (m:Nat)(hm:m<ns.length): -1≤upOf ns m∧upOf ns m<m:=by
 rcases Nat.eq_zero_or_pos m with h|h
 ·rw[(hg m hm).1 h];omega
 ·have:=(hg m hm).2 h;omega
theorem kid_in {m k:Nat}(hm:m<ns.length)(hk:k∈qae ns m):k<ns.length∧m<k∧k<behind ns m∧behind ns k≤behind ns m:=by
 obtain⟨h1,h2⟩:=qfd hk;have h3:=low_of hg k h1;have hmk:m<k:=by omega
 have hkb:k<behind ns m:=by
  rcases Nat.lt_or_ge k (behind ns m) with h|h
  ·exact h
  ·have:=qb4 hg hm k h h1;have:=(qan hm).1;omega
 exact⟨h1,hmk,hkb,(qd0 hg hm hmk hkb h2).2.1⟩
end
end Go.Proofs.YtephhllfodlfbaaGreatDoor.Pl
