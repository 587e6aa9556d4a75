/-
  lay: a tree laid down behind what lies there.
-/
import Derived.Test.YtephhllfodlfbaaGreatDoorVInsM
import Derived.Test.YtephhllfodlfbaaGreatDoorVWiT
set_option maxRecDepth 100000
set_option maxHeartbeats 16000000
namespace Go.Proofs.YtephhllfodlfbaaGreatDoor
open Go.RowKit
theorem row_step2 {B:Nat}{W w':World}{v:Value}{ns:List Pl.Nd}{xs:List Value}{x:Pl.Nd}{vc va:Value}{g cap:Nat}(hc:qaz v.ownBlock W xs ns)
 (hvc:qbT v.ownBlock W vc x.cls) (hva:qcY v.ownBlock W va x.ats)
 (h1:w'.ownsRow B 28 5 (.slice (some ⟨g,0,none⟩) (ns.length+1) cap) (ns.length+1) (xs++[.int .i64 x.up,.string ⟨x.tag.toArray⟩,.string ⟨x.id.toArray⟩,vc,va])) (hg:W.grownBy w' v.ownBlock) (hat:v.ownBlock=some g∨g=W.heap.size):
 Row B w' (.slice (some ⟨g,0,none⟩) (ns.length+1) cap) (ns++[x]):=by
 refine⟨_,by simpa using h1,?_⟩
 have hg':(Value.slice (some ⟨g,0,none⟩) (ns.length+1) cap).ownBlock=v.ownBlock∨∃H,(Value.slice (some ⟨g,0,none⟩) (ns.length+1) cap).ownBlock=some H∧W.heap.size≤H:=by
  rcases hat with h|h
  ·exact Or.inl (by rw[h];rfl)
  ·exact Or.inr ⟨g,rfl,by omega⟩
 exact qaz.append _ _ _ _ (qaz.grown hg hg' _ _ hc) ⟨⟨rfl,rfl,rfl,hvc.grown hg hg',hva.grown hg hg'⟩,trivial⟩
theorem qiP {ops:Array Oper}{rest:List Oper}{o:Oper}{a:Act}{Q:Exit→Act→World→Prop}{B:Nat}{w2:World}{v:Value}{ns:List Pl.Nd}{x:Pl.Nd}{vc va:Value}(hgd:o.guard=none)(s t:Operand)
 (ho:o.op=.call { callee:=.builtin .append,args:= #[s,t],argTypes:= #[22,22] }) (hs:a.eval s=v) (H:Nat) (hH:w2.heap.size=H) (hx:a.eval t=.slice (some ⟨H,0,none⟩) 1 1)
 (hr:Row B w2 v ns) (hlen:ns.length+1≤64) (hB:B≤w2.heap.size) (hvc:qbT v.ownBlock w2 vc x.cls) (hva:qcY v.ownBlock w2 va x.ats)
 (h:∀g cap w',Row B w' (.slice (some ⟨g,0,none⟩) (ns.length+1) cap) (ns++[x])→(w2.alloc (.cells #[.int .i64 x.up,.string ⟨x.tag.toArray⟩,.string ⟨x.id.toArray⟩,vc,va] 28)).grownBy w' v.ownBlock→(v.ownBlock=some g∨g=H+1)→wpList Tryz.prog ops Q rest (a.put o.dst (.slice (some ⟨g,0,none⟩) (ns.length+1) cap)) w'):
 wpList Tryz.prog ops Q (o::rest) a (w2.alloc (.cells #[.int .i64 x.up,.string ⟨x.tag.toArray⟩,.string ⟨x.id.toArray⟩,vc,va] 28)):=by
 subst hH;obtain⟨i0,hi,hz0,hz1,hz2⟩:=info_parts Tryz.info28;obtain⟨xs,hown,hcs⟩:=hr;obtain⟨_,_,e3,_⟩:=id hvc;obtain⟨_,_,e4,_⟩:=id hva;refine wpList_append_lies _ hgd s t 22 ho B 28 i0 _ 5 88 Tryz.underlying22 hi hz0 hz1 hz2 rfl (by decide) v ns.length xs hs (qbt hown (qac _ _)) ⟨w2.heap.size,0,none⟩ 1 1 [.int .i64 x.up,.string ⟨x.tag.toArray⟩,.string ⟨x.id.toArray⟩,vc,va] hx rfl ?_ ?_ (by decide) (by unfold maxLen;omega) (by omega) (by simp;omega) _ rfl ?_
 ·exact World.news_of_block (heap_alloc_new w2 _)
 ·intro u hu;simp only[List.mem_cons,List.not_mem_nil,or_false]at hu
  rcases hu with rfl|rfl|rfl|rfl|rfl
  ·rfl
  ·rfl
  ·rfl
  ·rw[e3];rfl
  ·rw[e4];rfl
 ·intro g cap w' h1 h2 h3 _;exact h g cap w' (row_step2 (qaz.on (qac _ _) _ _ hcs) (hvc.on (qac _ _)) (hva.on (qac _ _)) h1 h2 h3) h2 (by simpa using h3)
abbrev AllB:Nat→Prop:=fun _=>True
theorem mv_below {w0 w:World}(h:Below w0.heap.size w0 w):Mv AllB w0 (fun j=>j<w0.heap.size) w:=fun j _ hl=>⟨hl,h.block j hl⟩
theorem qb7.ne {B:Nat}{w:World}{v:Value}{ss:List (List UInt8)}(h:qb7 (fun j=>j<B) w v ss){g:Option Nat}(hg:∀k,g=some k→B≤k):qbT g w v ss:=by
 obtain⟨a,cap,rfl,h⟩:=h;refine⟨a,cap,rfl,?_⟩
 rcases h with h|⟨b,o,ha,hB,hc⟩
 ·exact Or.inl h
 ·exact Or.inr ⟨b,o,ha,fun e=>by have:=hg b e.symm;omega,hc⟩
theorem AtsP.ne {B:Nat}{w:World}{v:Value}{ss:List (List UInt8×List UInt8)}(h:AtsP (fun j=>j<B) w v ss){g:Option Nat}(hg:∀k,g=some k→B≤k):qcY g w v ss:=by
 obtain⟨a,cap,rfl,h⟩:=h;refine⟨a,cap,rfl,?_⟩
 rcases h with h|⟨b,o,ha,hB,hc⟩
 ·exact Or.inl h
 ·exact Or.inr ⟨b,o,ha,fun e=>by have:=hg b e.symm;omega,hc⟩
def OwnTo (n:Nat)(v v':Value):Prop:=v'.ownBlock=v.ownBlock∨∃H,v'.ownBlock=some H∧n≤H
theorem Row.own {B:Nat}{w:World}{v:Value}{ns:List Pl.Nd}(h:Row B w v ns):∀k,v.ownBlock=some k→B≤k∧k<w.heap.size:=by
 obtain⟨xs,ho,_⟩:=h;exact fun k hk=>World.ownsRow.lt ho k hk
theorem lay_any (w0:World):∀(N:Nat) (x:Pl.Nd) (k:Pl.F) (vt v:Value) (ns:List Pl.Nd) (up:Int) (w:World),k.size<N→TV AllB w0 vt x k→Below w0.heap.size w0 w→Row w0.heap.size w v ns→ns.length+k.size+1≤64→
 Calls Tryz.prog 66 #[v,vt,.int .i64 up] w fun e w'=>∃v',e=.returned v'∧Row w0.heap.size w' v' (ns++Pl.layT x k ns.length up)∧w.grownBy w' v.ownBlock∧OwnTo w.heap.size v v':=by
 intro N
 induction N with
 | zero=>intro x k vt v ns up w h;omega
 | succ N ih=>
  intro x k vt v ns up w hN hT hB hr h64;obtain⟨vc,va,vk,rfl,hc,ha,hk⟩:=hT;obtain⟨ac,cc,rfl,_⟩:=id hc;obtain⟨aa,ca,rfl,_⟩:=id ha;obtain⟨ak,ck,rfl,hkk⟩:=hk;obtain⟨av,lv,cv,rfl,hv1,hv2⟩:=Row.cap hr;have hown:=Row.own hr
  obtain rfl:lv=ns.length:=by
   obtain⟨_,_,e,_⟩:=hr.nds;injection e
  have hcN:=(hc.to (mv_below hB)).ne (g:=(Value.slice av ns.length cv).ownBlock) (fun k hk=>(hown k hk).1);have haN:=(ha.to (mv_below hB)).ne (g:=(Value.slice av ns.length cv).ownBlock) (fun k hk=>(hown k hk).1);have HC:Hid (qbT (Value.slice av ns.length cv).ownBlock w (.slice ac x.cls.length cc) x.cls):=hcN;have HA:Hid (qcY (Value.slice av ns.length cv).ownBlock w (.slice aa x.ats.length ca) x.ats):=haN;have HK:Hid _:=hkk;have HIH:Hid _:=ih;have HR:Hid _:=hr;clear hc ha hkk hr ih hcN haN;obtain⟨xup,tag,idn,cls,ats⟩:=x;dsimp only at *;have m0:=hv2;unfold maxLen at m0;have M1:=Blk6.new w (.int .i64 up) (.string ⟨tag.toArray⟩) (.string ⟨idn.toArray⟩) (.slice ac cls.length cc) (.slice aa ats.length ca) (.slice ak k.len ck);go_enter Tryz.func66,Tryz.ntmps66
  go_wp2_with (at_builtin;refine qiP (B:=w0.heap.size) (ns:=ns) (x:=⟨up,tag,idn,cls,ats⟩) rfl _ _ rfl rfl _ ?hH rfl (Row.on HR.out (qac _ _)) (by omega) ?hB (HC.out.on (qac _ _)) (HA.out.on (qac _ _)) ?_;rotate_left 2;intro g cap w1 hrow hgr hat;refine Hid.out ?_)
  case hH=>simp
  case hB=>have:=hB.size;simp;omega
  unfold Hid;have hne:some w.heap.size≠(Value.slice av ns.length cv).ownBlock:=fun e=>by have:=(hown _ e.symm).2;omega
  have HM:Hid (Blk6 w1 w.heap.size (.int .i64 up) (.string ⟨tag.toArray⟩) (.string ⟨idn.toArray⟩) (.slice ac cls.length cc) (.slice aa ats.length ca) (.slice ak k.len ck)):=(M1.on (qac _ _)).grown hgr hne;have HG:Hid (w.grownBy w1 (Value.slice av ns.length cv).ownBlock):=qbK (qci (qci (World.grownBy.refl w _) (qac _ _)) (qac _ _)) hgr (fun k hk=>Or.inl hk.symm)
  have HO:Hid (OwnTo (w.heap.size+1) (.slice av ns.length cv) (.slice (some ⟨g,0,none⟩) (ns.length+1) cap)):=by
   rcases hat with h|h
   ·exact Or.inl h.symm
   ·exact Or.inr ⟨g,rfl,by omega⟩
  have HRow:Hid _:=hrow
  have HE:Hid (ns++Pl.layT ⟨xup,tag,idn,cls,ats⟩ k ns.length up=(ns++[⟨up,tag,idn,cls,ats⟩])++Pl.layF (k.drop 0) (ns++[(⟨up,tag,idn,cls,ats⟩:Pl.Nd)]).length ns.length):=by
   unfold Hid Pl.layT;rw[Pl.F.drop_zero];simp
  clear hrow hgr hat M1 HC HA;have hB0:=hB.size
  go_wp2_with fail
  go_loopw [0,8] (fun u i wr=>∃(j:Nat) (cs:List Pl.Nd),j≤k.len∧i=.int .i64 j∧Hid (Row w0.heap.size wr u cs)∧Hid (ns++Pl.layT ⟨xup,tag,idn,cls,ats⟩ k ns.length up=cs++Pl.layF (k.drop j) cs.length ns.length)∧Hid (Blk6 wr w.heap.size (.int .i64 up) (.string ⟨tag.toArray⟩) (.string ⟨idn.toArray⟩) (.slice ac cls.length cc) (.slice aa ats.length ca) (.slice ak k.len ck))∧Hid (w.grownBy wr (Value.slice av ns.length cv).ownBlock)∧Hid (OwnTo (w.heap.size+1) (.slice av ns.length cv) u)) (fun _ i _=>k.len-(intOf i).toNat)
  case atStart=>exact⟨0,_,Nat.zero_le _,rfl,HRow,HE,HM,HG,HO⟩
  case round=>
   obtain⟨j,cs,hj,rfl,hrow,heq,hMb,hgb,hot⟩:=hrel;have m5:=hMb.out.facts.1.2.2.2.2.2;have hkl:=Pl.F.len_le_size k;have Bw:Below w0.heap.size w0 wr:=hB.grown hgb.out hB0 (fun k hk=>(hown k hk).1);obtain⟨ar,lr,cr,rfl,_,hr2⟩:=Row.cap hrow.out
   by_cases hlt:j<k.len
   ·obtain⟨bk,ok,rfl,_,hfin⟩:=HK.out.resolve_left (by omega);obtain⟨y,ky,hd,hsz⟩:=Pl.F.drop_lt k j hlt;have hf:=FIn.drop k j bk ok hfin;rw[hd]at hf;obtain⟨⟨vc',va',n0,n1,n2,n3,n4,nc,na⟩,⟨a',cap',n5,hsub⟩,_⟩:=hf;obtain⟨ac',cc',rfl,_⟩:=id nc;obtain⟨aa',ca',rfl,_⟩:=id na;replace n0:=qab Bw n0;replace n1:=qab Bw n1;replace n2:=qab Bw n2;replace n3:=qab Bw n3;replace n4:=qab Bw n4;replace n5:=qab Bw n5
    have hL:cs.length+ky.size+1≤64:=by
     have h:=congrArg List.length heq.out;rw[hd]at h;simp only[List.length_append,Pl.qbX,Pl.layF_len,Pl.F.size]at h;omega
    have HE2:Hid (ns++Pl.layT ⟨xup,tag,idn,cls,ats⟩ k ns.length up=(cs++Pl.layT y ky cs.length ns.length)++Pl.layF (k.drop (j+1)) (cs++Pl.layT y ky cs.length ns.length).length ns.length):=by
     unfold Hid;rw[heq.out,hd,Pl.layF,List.append_assoc,List.length_append,Pl.qbX];rw[show cs.length+(ky.size+1)=cs.length+1+ky.size by omega];rfl
    have HT:Hid (TV AllB w0 (.agg #[.int .i64 y.up,.string ⟨y.tag.toArray⟩,.string ⟨y.id.toArray⟩,.slice ac' y.cls.length cc',.slice aa' y.ats.length ca',.slice a' ky.len cap']) y ky):=⟨_,_,_,rfl,nc,na,⟨_,_,rfl,hsub⟩⟩
    have HBw:Hid _:=Bw;clear nc na hsub hfin hd Bw
    go_wp2_with fail
    refine(HIH.out y ky _ _ cs _ _ (by omega) HT.out HBw.out hrow.out hL).mono ?_;rintro e w2 ⟨v2,rfl,hrow2,hg2,ho2⟩;obtain⟨a2,l2,c2,rfl,_,_⟩:=Row.cap hrow2;have HR2:Hid _:=hrow2;have hown2:=Row.own hrow.out
    have HG2:Hid (w.grownBy w2 (Value.slice av ns.length cv).ownBlock):=qbK hgb.out hg2 (fun k hk=>by
     rcases hot.out with h|⟨H,h,hH⟩
     ·rw[h]at hk;exact Or.inl hk.symm
     ·rw[h]at hk;injection hk with hk;exact Or.inr (by omega))
    have HM2:Hid (Blk6 w2 w.heap.size (.int .i64 up) (.string ⟨tag.toArray⟩) (.string ⟨idn.toArray⟩) (.slice ac cls.length cc) (.slice aa ats.length ca) (.slice (some ⟨bk,ok,none⟩) k.len ck)):=hMb.out.grown hg2 (fun e=>by
     rcases hot.out with h|⟨H,h,hH⟩
     ·rw[h]at e;exact hne e
     ·rw[h]at e;injection e with e;omega)
    have hsz1:w.heap.size+1≤wr.heap.size:=by have:=hMb.out.lt;omega
    have HO2:Hid (OwnTo (w.heap.size+1) (.slice av ns.length cv) (.slice a2 l2 c2)):=by
     rcases ho2 with h|⟨H,h,hH⟩
     ·rcases hot.out with h'|⟨H,h',hH⟩
      ·exact Or.inl (h.trans h')
      ·exact Or.inr ⟨H,h.trans h',hH⟩
     ·exact Or.inr ⟨H,h,by omega⟩
    clear hrow2 hg2 ho2 hown2 n0 n1 n2 n3 n4 n5 m5;go_wp2;exact⟨⟨j+1,_,hlt,by go_num,HR2,HE2,HM2,HG2,HO2⟩,by simp[intOf];omega⟩
   ·have HF:Hid (ns++Pl.layT ⟨xup,tag,idn,cls,ats⟩ k ns.length up=cs):=by
     unfold Hid;rw[heq.out,Pl.F.drop_len k j (by omega)];simp[Pl.layF]
    go_wp2;go_ret;refine⟨_,rfl,by rw[HF.out];exact hrow.out,hgb.out,?_⟩
    rcases hot.out with h|⟨H,h,hH⟩
    ·exact Or.inl h
    ·exact Or.inr ⟨H,h,by omega⟩
theorem TV.all {P:Nat→Prop}{w:World}{v:Value}{x:Pl.Nd}{k:Pl.F}(h:TV P w v x k):TV AllB w v x k:=h.to fun _ _ _=>⟨trivial,rfl⟩
theorem TV.cap {P:Nat→Prop}{w:World}{v:Value}{x:Pl.Nd}{k:Pl.F}(h:TV P w v x k):TV (fun i=>P i∧i<w.heap.size) w v x k:=h.to fun _ hi hl=>⟨⟨hi,hl⟩,rfl⟩
theorem TV.on {P:Nat→Prop}{w w':World}{v:Value}{x:Pl.Nd}{k:Pl.F}(h:TV P w v x k)(hb:Below w.heap.size w w'):TV P w' v x k:=h.to fun i hi hl=>⟨hi,hb.block i hl⟩
theorem TV.stay {P R:Nat→Prop}{w w':World}{v:Value}{x:Pl.Nd}{k:Pl.F}(h:TV P w v x k)(hu:Ups R w w')(hd:∀i,P i→¬R i):TV P w' v x k:=h.to fun i hi hl=>⟨hi,hu.block i hl (hd i hi)⟩
theorem lay_fit {x:Pl.Nd}{K:Pl.F}{R:List Pl.Nd}(h:Pl.layT x K 0 (-1)=R)(hl:R.length≤64):([]:List Pl.Nd).length+K.size+1≤64:=by
 rw[←h,Pl.qbX]at hl
 simpa using hl
structure Boxed (w W:World)(v1 v2:Value):Prop where
 below:Below w.heap.size w W
 size:w.heap.size+3≤W.heap.size
 c0:W.cell? ⟨w.heap.size,0,none⟩=some v1
 c1:W.cell? ⟨w.heap.size+1,0,none⟩=some v2
 c2:W.cell? ⟨w.heap.size+1+1,0,none⟩=some (.slice none 0 0)
 f2:W.frozen? ⟨w.heap.size+1+1,0,none⟩=false
theorem Boxed.on {w W W':World}{v1 v2:Value}(h:Boxed w W v1 v2)(hb:Below W.heap.size W W'):Boxed w W' v1 v2:=
 ⟨qaa h.below hb,Nat.le_trans h.size hb.size,qab hb h.c0,qab hb h.c1,qab hb h.c2,(hb.frozen (p:=⟨w.heap.size+1+1,0,none⟩) (Nat.lt_of_lt_of_le (Nat.lt_succ_self _) h.size)).trans h.f2⟩
theorem Boxed.ups {w W W':World}{v1 v2:Value}{P:Nat→Prop}(h:Boxed w W v1 v2)(hu:Ups P W W')(hP:∀i,P i→w.heap.size+3≤i):Boxed w W' v1 v2:=by
 have hb:=hu.below (B:=w.heap.size+3) h.size hP;exact⟨h.below.trans (hb.mono (by omega)),Nat.le_trans h.size hu.size,(hb.cell (p:=⟨w.heap.size,0,none⟩) (by simp)).trans h.c0,(hb.cell (p:=⟨w.heap.size+1,0,none⟩) (by simp)).trans h.c1,(hb.cell (p:=⟨w.heap.size+1+1,0,none⟩) (by simp)).trans h.c2,(hu.frozen _ 0 (Nat.lt_of_lt_of_le (Nat.lt_succ_self _) h.size)).trans h.f2⟩
theorem refIns_any (v v2:Value)(ns es:List Pl.Nd)(up at_:Int)(w:World)(hd:qar w v ns)(hd2:qar w v2 es):
 Calls Tryz.prog 26 #[.agg #[v],.int .i64 up,.int .i64 at_,.agg #[v2]] w fun e w'=>∃v',e=.returned (.tuple #[.agg #[v'],.int .i64 (qax ns up at_ es)])∧qar w' v' (qaO ns up at_ es)∧Below w.heap.size w w':=by
 obtain⟨hv,hcap,hf⟩:=hd;obtain⟨a,cap,rfl,hc⟩:=id hv;have HV:Hid _:=hv;obtain⟨hv2,hcap2,hf2⟩:=hd2;obtain⟨a2,cap2,rfl,hcc⟩:=id hv2;have HV2:Hid _:=hv2;have hm1:=hf.1;have hm2:=hf2.1;unfold maxLen at hm1 hm2;clear hv hv2 hcap hcap2;have HC:Hid _:=hc;have HCC:Hid _:=hcc;clear hc hcc;have hB0:=qdg w (.cells #[.slice a ns.length cap] 24) (.cells #[.slice a2 es.length cap2] 24) (.cells #[.slice none 0 0] 24);go_enter Tryz.func26,Tryz.ntmps26
 go_wp2_with fail
 refine(qdR _ ns _ hf (qa8.on HV.out hB0)).mono ?_;rintro e w1 ⟨rfl,h1⟩;have hB:Below w.heap.size w w1:=qaa hB0 h1;have c0:=qab (p:=⟨w.heap.size,0,none⟩) (v:=.slice a ns.length cap) h1 (by simp[go_sem]);have c1:=qab (p:=⟨w.heap.size+1,0,none⟩) (v:=.slice a2 es.length cap2) h1 (by simp[go_sem]);have c2:=qab (p:=⟨w.heap.size+1+1,0,none⟩) (v:=.slice none 0 0) h1 (by simp[go_sem]);have f2:w1.frozen? ⟨w.heap.size+1+1,0,none⟩=false:=by rw[h1.frozen (by simp)];simp[go_sem]
 have hsz:w.heap.size+3≤w1.heap.size:=by have:=h1.size;simp at this;omega
 clear h1 hB0
 cases hz:(Pl.qad ns !=0) with
 | true=>
  have hz1:¬Pl.qad ns=0:=by simpa using hz
  have HE:Hid (qax ns up at_ es=Pl.qad ns):=by unfold Hid qax;rw[if_neg hz1]
  have HP:Hid (qaO ns up at_ es=[]):=by unfold Hid qaO;rw[if_neg (by rw[HE.out];exact hz1)]
  clear hz1;generalize hE:Pl.qad ns=E at *;go_wp2;have q:=World.cell?_setCell_same w1 ⟨w.heap.size+1+1,0,none⟩ (.slice none 0 0) c2
  exact bodyPost_ret (v:=.tuple #[.agg #[.slice none 0 0],.int .i64 E]) (by simp[results,Tryz.results26,go_sem,q]) rfl
   ⟨_,by rw[HE.out],by rw[HP.out];exact qar.nil _,hB.setCell (p:=⟨w.heap.size+1+1,0,none⟩) (by simp;omega) _⟩
 | false=>
 have hz0:Pl.qad ns=0:=by simpa using hz
 clear hz;rw[hz0]
 go_wp2_with fail
 refine(qdR _ es _ hf2 (qa8.on HV2.out hB)).mono ?_;rintro e w2 ⟨rfl,h1⟩;replace c0:=qab h1 c0;replace c1:=qab h1 c1;replace c2:=qab h1 c2;replace f2:w2.frozen? ⟨w.heap.size+1+1,0,none⟩=false:=by rw[h1.frozen (by simp;omega)];exact f2
 replace hB:=qaa hB h1;replace hsz:w.heap.size+3≤w2.heap.size:=Nat.le_trans hsz h1.size;clear h1
 cases hz:(Pl.qad es !=0) with
 | true=>
  have hz1:¬Pl.qad es=0:=by simpa using hz
  have HE:Hid (qax ns up at_ es=Pl.qad es):=by unfold Hid qax;rw[if_pos hz0,if_neg hz1]
  have HP:Hid (qaO ns up at_ es=[]):=by unfold Hid qaO;rw[if_neg (by rw[HE.out];exact hz1)]
  clear hz1;generalize hE:Pl.qad es=E at *;go_wp2;have q:=World.cell?_setCell_same w2 ⟨w.heap.size+1+1,0,none⟩ (.slice none 0 0) c2
  exact bodyPost_ret (v:=.tuple #[.agg #[.slice none 0 0],.int .i64 E]) (by simp[results,Tryz.results26,go_sem,q]) rfl
   ⟨_,by rw[HE.out],by rw[HP.out];exact qar.nil _,hB.setCell (p:=⟨w.heap.size+1+1,0,none⟩) (by simp;omega) _⟩
 | false=>
 have hy0:Pl.qad es=0:=by simpa using hz
 clear hz;rw[hy0];obtain⟨hl1,hl64,hok⟩:=qa9 hz0;obtain⟨hl2,hl642,hok2⟩:=qa9 hy0;have HG:Hid _:=((Pl.qbU ns).1 hz0).2.2.2;have HG2:Hid _:=((Pl.qbU es).1 hy0).2.2.2;have HLw:Hid _:=Pl.qdY ns.length hok;have HLw2:Hid _:=Pl.qdY es.length hok2;have HS:Hid _:=qa6 hz0;have HS2:Hid _:=qa6 hy0
 rcases HC.out with hc|⟨b,o,rfl,hc⟩
 ·subst hc;simp at hl1
 rcases HCC.out with hcc|⟨b2,o2,rfl,hcc⟩
 ·subst hcc;simp at hl2
 clear HC HCC hok hok2;have HC:Hid _:=hc;have HCC:Hid _:=hcc;clear hc hcc;have hwi:=within_has ns.length up
 cases hh:hasB ns.length up with
 | false=>
  have HE:Hid (qax ns up at_ es=5):=by unfold Hid qax;rw[if_pos hz0,if_pos hy0,if_neg (by rw[hh];simp)]
  have HP:Hid (qaO ns up at_ es=[]):=by unfold Hid qaO;rw[if_neg (by rw[HE.out];omega)]
  rw[hh]at hwi;clear hh
  go_wp2_with (go_at_call 64;refine(qay _ _ _ _).mono ?_;rintro e w' ⟨rfl,rfl⟩;rw[hwi])
  have q:=World.cell?_setCell_same _ ⟨w.heap.size+1+1,0,none⟩ (.slice none 0 0) c2
  exact bodyPost_ret (v:=.tuple #[.agg #[.slice none 0 0],.int .i64 5]) (by simp[results,Tryz.results26,go_sem,q]) rfl
   ⟨_,by rw[HE.out],by rw[HP.out];exact qar.nil _,hB.setCell (p:=⟨w.heap.size+1+1,0,none⟩) (by simp;omega) _⟩
 | true=>
 obtain⟨k,rfl,hk⟩:∃k:Nat,up=k∧k<ns.length:=by
  unfold hasB at hh;simp only[Bool.and_eq_true,decide_eq_true_eq]at hh;exact⟨up.toNat,by omega,by omega⟩
 rw[hh]at hwi;have HH:Hid _:=hh;clear hh
 go_wp2_with (go_at_call 64;refine(qay _ _ _ _).mono ?_;rintro e w' ⟨rfl,rfl⟩;rw[hwi];refine Hid.out ?_)
 unfold Hid
 go_wp2_with fail
 refine(qdG b o cap ns _ _ hl64 (fun i hi=>(HC.out i hi).on hB)).mono ?_;rintro e w4 ⟨vk,rfl,hik,h1⟩;replace c0:=qab h1 c0;replace c1:=qab h1 c1;replace c2:=qab h1 c2;replace f2:w4.frozen? ⟨w.heap.size+1+1,0,none⟩=false:=by rw[h1.frozen (by simp;omega)];exact f2
 replace hB:=qaa hB h1;replace hsz:w.heap.size+3≤w4.heap.size:=Nat.le_trans hsz h1.size;clear h1;have hkl:(Pl.qae ns k).length≤64:=Nat.le_trans (Pl.qcE ns k ns.length) hl64;obtain⟨ak,ck,rfl,_⟩:=hik
 by_cases hat:at_<0∨((Pl.qae ns k).length:Int)<at_
 ·have HE:Hid (qax ns k at_ es=3):=by unfold Hid qax;rw[if_pos hz0,if_pos hy0,if_pos HH.out,if_pos hat]
  have HP:Hid (qaO ns k at_ es=[]):=by unfold Hid qaO;rw[if_neg (by rw[HE.out];omega)]
  have hw3:within at_ 0 ((Pl.qae ns k).length:Int)=false:=by unfold within;simp;omega
  clear hat
  go_wp2_with (go_at_call 64;refine(qay _ _ _ _).mono ?_;rintro e w' ⟨rfl,rfl⟩;rw[hw3])
  have q:=World.cell?_setCell_same _ ⟨w.heap.size+1+1,0,none⟩ (.slice none 0 0) c2
  exact bodyPost_ret (v:=.tuple #[.agg #[.slice none 0 0],.int .i64 3]) (by simp[results,Tryz.results26,go_sem,q]) rfl
   ⟨_,by rw[HE.out],by rw[HP.out];exact qar.nil _,hB.setCell (p:=⟨w.heap.size+1+1,0,none⟩) (by simp;omega) _⟩
 obtain⟨j,rfl,hj⟩:∃j:Nat,at_=j∧j≤(Pl.qae ns k).length:=⟨at_.toNat,by omega,by omega⟩
 have hw3:within (j:Int) 0 ((Pl.qae ns k).length:Int)=true:=by unfold within;simp;omega
 by_cases hmn:64<ns.length+es.length
 ·have HE:Hid (qax ns k j es=2):=by unfold Hid qax;rw[if_pos hz0,if_pos hy0,if_pos HH.out,if_neg hat,if_pos hmn]
  have HP:Hid (qaO ns k j es=[]):=by unfold Hid qaO;rw[if_neg (by rw[HE.out];omega)]
  have i9:(64:Int)<(ns.length:Int)+(es.length:Int):=by omega
  clear hat
  go_wp2_with (go_at_call 64;refine(qay _ _ _ _).mono ?_;rintro e w' ⟨rfl,rfl⟩;rw[hw3])
  have q:=World.cell?_setCell_same _ ⟨w.heap.size+1+1,0,none⟩ (.slice none 0 0) c2
  exact bodyPost_ret (v:=.tuple #[.agg #[.slice none 0 0],.int .i64 2]) (by simp[results,Tryz.results26,go_sem,q]) rfl
   ⟨_,by rw[HE.out],by rw[HP.out];exact qar.nil _,hB.setCell (p:=⟨w.heap.size+1+1,0,none⟩) (by simp;omega) _⟩
 have HE:Hid (qax ns k j es=0):=by unfold Hid qax;rw[if_pos hz0,if_pos hy0,if_pos HH.out,if_neg hat,if_neg hmn]
 have HP:Hid (qaO ns k j es=qaH ns k (placeOf ns k j) es):=by unfold Hid qaO;rw[if_pos HE.out]
 have i9:¬(64:Int)<(ns.length:Int)+(es.length:Int):=by omega
 clear hat
 go_wp2_with (go_at_call 64;refine(qay _ _ _ _).mono ?_;rintro e w5 ⟨rfl,rfl⟩;rw[hw3])
 have HM:Hid (∀W,Below w.heap.size w W→Calls Tryz.prog 68 #[.agg #[.slice (some ⟨b,o,none⟩) ns.length cap],.int .i64 0] W fun e w'=>∃v,e=.returned v∧TV (fun i=>W.heap.size≤i) w' v (Pl.mark ns 0) (Pl.qal ns ns.length (Pl.qae ns (0:Nat)))∧Below W.heap.size W w'):=
  fun W hW=>marked_any b o cap ns hl64 HS.out HLw.out ns.length 0 W (by omega) (by omega) (fun i hi=>(HC.out i hi).on hW)
 have HT:Hid (∀W,Below w.heap.size w W→Calls Tryz.prog 70 #[.agg #[.slice (some ⟨b2,o2,none⟩) es.length cap2],.int .i64 0] W fun e w'=>∃v,e=.returned v∧TV (fun i=>W.heap.size≤i) w' v (Pl.ndAt es 0) (Pl.qat es es.length (Pl.qae es (0:Nat)))∧Below W.heap.size W w'):=
  fun W hW=>tree_any b2 o2 cap2 es hl642 HS2.out HLw2.out es.length 0 W (by omega) (by omega) (fun i hi=>(HCC.out i hi).on hW)
 have hzm:(Pl.qal ns ns.length (Pl.qae ns (0:Nat))).size+2≤64:=by
  have:=congrArg List.length (Pl.qeP HG.out ns.length 0 0 (-1) (by omega) (by omega));rw[Pl.qbX,Pl.qbQ (Pl.qan (by omega)).2.1]at this;have:=(Pl.qan (ns:=ns) (n:=0) (by omega)).2.1;omega
 have hze:(Pl.qat es es.length (Pl.qae es (0:Nat))).size≤64:=by
  have:=congrArg List.length (Pl.qho HG2.out es.length 0 0 (-1) (by omega) (by omega));rw[Pl.qbX,Pl.qbQ (Pl.qan (by omega)).2.1]at this;have:=(Pl.qan (ns:=es) (n:=0) (by omega)).2.1;omega
 have HR0:Hid (∀(g:Pl.F) (u:Int),g.bare=(Pl.qat es es.length (Pl.qae es (0:Nat))).bare→Pl.layT (Pl.mark ns 0) (Pl.qbG { Pl.ndAt es 0 with up:=u } g ((Pl.mark ns 0).up==(k:Int)) j (Pl.qbF k j { Pl.ndAt es 0 with up:=u } g (Pl.qal ns ns.length (Pl.qae ns (0:Nat))))) 0 (-1)=qaH ns k (placeOf ns k j) es):=
  fun g u hg=>ins_root HG.out HG2.out hl2 hk hj (by omega) hg u
 have hlen:(qaH ns k (placeOf ns k j) es).length≤64:=by rw[qdT];omega
 have HSh:Hid _:=qdE HS.out HS2.out k (placeOf ns k j);generalize qaH ns k (placeOf ns k j) es=R at *;generalize hKm:Pl.qal ns ns.length (Pl.qae ns (0:Nat))=Km at *;generalize hKe:Pl.qat es es.length (Pl.qae es (0:Nat))=Ke at *;generalize Pl.mark ns 0=xm at *;generalize Pl.ndAt es 0=xe at *;obtain⟨eu,etag,eid,ecls,eats⟩:=xe;dsimp only at *;have HR:Hid _:=HR0.out;clear hKm hKe HC HCC HS HS2 HG HG2 HLw HLw2 hw3 hwi HV HV2 hj hk HR0 hz0 hy0 HH i9;have hX:Boxed w w5.drew (.slice (some ⟨b,o,none⟩) ns.length cap) (.slice (some ⟨b2,o2,none⟩) es.length cap2):=⟨hB.drew,hsz,c0,c1,c2,f2⟩
 clear hB hsz c0 c1 c2 f2;obtain⟨_,hsz,c0,c1,c2,f2⟩:=id hX
 go_region_law (first
  | (go_simp;go_at_call 68;refine(HM.out _ hX.below).mono ?_;rintro e wm ⟨vm,rfl,hTm,hbm⟩;replace hTm:=hTm.cap;replace hX:=hX.on hbm;obtain⟨_,hsz,c0,c1,c2,f2⟩:=id hX;obtain⟨_,_,_,rfl,_,_,_⟩:=id hTm)
  | (go_simp;go_at_call 70;refine(HT.out _ hX.below).mono ?_;rintro e wt ⟨vt,rfl,hTe,hbt⟩;replace hTe:=hTe.cap;replace hTm:=TV.on hTm hbt;have hszt:=hX.size;replace hX:=hX.on hbt;obtain⟨_,hsz,c0,c1,c2,f2⟩:=id hX;obtain⟨vc,va,vk,rfl,tc,ta,tk⟩:=hTe;obtain⟨ac,cc,rfl,_⟩:=id tc;obtain⟨aa,ca,rfl,_⟩:=id ta;obtain⟨ak2,ck2,rfl,_⟩:=id tk)
  | (go_simp;go_at_call 69;refine(qi0 _ _ Ke eu etag eid ac _ cc aa _ ca ak2 ck2 _ (Nat.lt_succ_self _) hze tk).mono ?_;rintro e wf ⟨rfl,hu⟩;replace hTm:=TV.stay hTm hu (fun i h1 h2=>by omega);replace hX:=hX.ups hu (fun i h=>by omega);obtain⟨_,hsz,c0,c1,c2,f2⟩:=id hX;obtain⟨g,hTe,hgb⟩:=TV.ups (v:= -2) (tag:=etag) (idn:=eid) tc ta tk hu;clear tc ta tk)
  | (go_simp;go_at_call 67;refine(with_any k j _ g _ AllB xm Km _ _ _ (Nat.lt_succ_self _) hzm hTm.all hTe.all).mono ?_;rintro e ww ⟨vw,rfl,hTw,hbw⟩;have HL:=HR.out g (-2) hgb;replace hX:=hX.on hbw;obtain⟨_,hsz,c0,c1,c2,f2⟩:=id hX;obtain⟨_,_,_,rfl,_,_,_⟩:=id hTw)
  | (go_simp;go_at_call 66;refine(lay_any _ _ _ _ _ _ [] _ _ (Nat.lt_succ_self _) hTw.all (Below.refl _ _) (Row.nil _ _) (lay_fit HL hlen)).mono ?_;rintro e w8 ⟨v8,rfl,hrow,hgr,_⟩;have hb8:=(Below.refl _ _).grown hgr (Nat.le_refl _) (fun k hk=>by simp[Value.ownBlock]at hk);have hX8:=hX.on hb8;have hszw:=hX.size;obtain⟨_,hsz,c0,c1,c2,f2⟩:=id hX8;obtain⟨a8,l8,c8,rfl,_,_⟩:=Row.cap hrow))
 all_goals
  have HRow:Hid _:=hrow;have HX:Hid _:=hX8;clear hrow hgr hb8 hX8 hX hTw hTm hTe hu;go_wp2;have q:=World.cell?_setCell_same w8 ⟨w.heap.size+1+1,0,none⟩ (.slice a8 l8 c8) c2
  refine bodyPost_ret (v:=.tuple #[.agg #[.slice a8 l8 c8],.int .i64 0]) (by simp[results,Tryz.results26,go_sem,q]) rfl
   ⟨_,by rw[HE.out],?_,HX.out.below.setCell (p:=⟨w.heap.size+1+1,0,none⟩) (by simp;omega) _⟩
  have hr:=Row.set HRow.out (M:=w.heap.size+1+1) (j:=0) (by omega) c2 (by simp) (.slice a8 l8 c8);rw[List.nil_append]at hr
  change Row _ _ _ (Pl.layT _ _ 0 _) at hr
  rw[HL,←HP.out]at hr;exact hr.doc (by rw[HP.out];exact hlen) (by rw[HP.out];exact HSh.out)
end Go.Proofs.YtephhllfodlfbaaGreatDoor
