/-
  with: a tree in which another one is a kid of the element that is told by a number.
-/
import Derived.Test.YtephhllfodlfbaaGreatDoorVRemM
set_option maxRecDepth 100000
set_option maxHeartbeats 16000000
namespace Go.Proofs.YtephhllfodlfbaaGreatDoor
open Go.RowKit
theorem with_any (upv at_:Int)(ex:Pl.Nd)(ek:Pl.F):∀(N:Nat) (P:Nat→Prop) (x:Pl.Nd) (k:Pl.F) (vt ve:Value) (w:World),k.size<N→k.size+2≤64→TV P w vt x k→TV P w ve ex ek→
 Calls Tryz.prog 67 #[vt,.int .i64 upv,.int .i64 at_,ve] w fun e w'=>∃v',e=.returned v'∧TV (fun j=>P j∨w.heap.size≤j) w' v' x (Pl.qbG ex ek (x.up==upv) at_ (Pl.qbF upv at_ ex ek k))∧Below w.heap.size w w':=by
 intro N
 induction N with
 | zero=>intro P x k vt ve w h;omega
 | succ N ih=>
  intro P x k vt ve w hN h64 hT hE;obtain⟨vc,va,vk,rfl,hc,ha,hk⟩:=hT;obtain⟨ac,cc,rfl,_⟩:=id hc;obtain⟨aa,ca,rfl,_⟩:=id ha;obtain⟨ak,ck,rfl,hkk⟩:=hk;have hE0:=hE;obtain⟨ec,ea,evk,rfl,hec,hea,hek⟩:=hE;obtain⟨bc,dc,rfl,_⟩:=id hec;obtain⟨ba,da,rfl,_⟩:=id hea;obtain⟨bk',dk,rfl,_⟩:=id hek;obtain⟨up,tag,idn,cls,ats⟩:=x;dsimp only at *;have HC:Hid (qb7 P w (.slice ac cls.length cc) cls):=hc;have HA:Hid (AtsP P w (.slice aa ats.length ca) ats):=ha;have HK:Hid _:=hkk;have HIH:Hid _:=ih;have HEC:Hid (qb7 P w (.slice bc ex.cls.length dc) ex.cls):=hec;have HEA:Hid (AtsP P w (.slice ba ex.ats.length da) ex.ats):=hea;have HEK:Hid (Sub P w (.slice bk' ek.len dk) ek):=hek;have hkl:=Pl.F.len_le_size k;obtain⟨bM,bE,bR⟩:=qiV w (.int .i64 up) (.string ⟨tag.toArray⟩) (.string ⟨idn.toArray⟩) (.slice ac cls.length cc) (.slice aa ats.length ca) (.slice ak k.len ck) (.int .i64 ex.up) (.string ⟨ex.tag.toArray⟩) (.string ⟨ex.id.toArray⟩) (.slice bc ex.cls.length dc) (.slice ba ex.ats.length da) (.slice bk' ek.len dk) (.int .i64 0) (.string ⟨#[]⟩) (.string ⟨#[]⟩) (.slice none 0 0) (.slice none 0 0) (.slice none 0 0);have hB0:Below w.heap.size w (((w.alloc (.cells #[.int .i64 up,.string ⟨tag.toArray⟩,.string ⟨idn.toArray⟩,.slice ac cls.length cc,.slice aa ats.length ca,.slice ak k.len ck] 109)).alloc (.cells #[.int .i64 ex.up,.string ⟨ex.tag.toArray⟩,.string ⟨ex.id.toArray⟩,.slice bc ex.cls.length dc,.slice ba ex.ats.length da,.slice bk' ek.len dk] 109)).alloc (.cells #[.int .i64 0,.string ⟨#[]⟩,.string ⟨#[]⟩,.slice none 0 0,.slice none 0 0,.slice none 0 0] 109)):=(boxes' w _ _).alloc (by simp;omega) _;have hz0:(((w.alloc (.cells #[.int .i64 up,.string ⟨tag.toArray⟩,.string ⟨idn.toArray⟩,.slice ac cls.length cc,.slice aa ats.length ca,.slice ak k.len ck] 109)).alloc (.cells #[.int .i64 ex.up,.string ⟨ex.tag.toArray⟩,.string ⟨ex.id.toArray⟩,.slice bc ex.cls.length dc,.slice ba ex.ats.length da,.slice bk' ek.len dk] 109)).alloc (.cells #[.int .i64 0,.string ⟨#[]⟩,.string ⟨#[]⟩,.slice none 0 0,.slice none 0 0,.slice none 0 0] 109)).heap.size=w.heap.size+3:=by simp
  clear hc ha hkk ih hec hea hek hE0;go_enter Tryz.func67,Tryz.ntmps67
  go_wp2_with fail
  generalize ((w.alloc (.cells #[.int .i64 up,.string ⟨tag.toArray⟩,.string ⟨idn.toArray⟩,.slice ac cls.length cc,.slice aa ats.length ca,.slice ak k.len ck] 109)).alloc (.cells #[.int .i64 ex.up,.string ⟨ex.tag.toArray⟩,.string ⟨ex.id.toArray⟩,.slice bc ex.cls.length dc,.slice ba ex.ats.length da,.slice bk' ek.len dk] 109)).alloc (.cells #[.int .i64 0,.string ⟨#[]⟩,.string ⟨#[]⟩,.slice none 0 0,.slice none 0 0,.slice none 0 0] 109)=w0 at *;have HBM:Hid (Blk6 w0 w.heap.size (.int .i64 up) (.string ⟨tag.toArray⟩) (.string ⟨idn.toArray⟩) (.slice ac cls.length cc) (.slice aa ats.length ca) (.slice ak k.len ck)):=bM;have HBE:Hid (Blk6 w0 (w.heap.size+1) (.int .i64 ex.up) (.string ⟨ex.tag.toArray⟩) (.string ⟨ex.id.toArray⟩) (.slice bc ex.cls.length dc) (.slice ba ex.ats.length da) (.slice bk' ek.len dk)):=bE;have HBR:Hid (Blk6 w0 (w.heap.size+2) (.int .i64 0) (.string ⟨#[]⟩) (.string ⟨#[]⟩) (.slice none 0 0) (.slice none 0 0) (.slice none 0 0)):=bR;clear bM bE bR
  go_loopw [9,10] (fun u i wr=>∃(j:Nat) (T:Pl.F),j≤k.len∧i=.int .i64 j∧Hid (TRow w0.heap.size (fun j=>(P j∧j<w.heap.size)∨w0.heap.size≤j) wr u T)∧Hid (Pl.qbG ex ek (up==upv) at_ (Pl.qbF upv at_ ex ek k)=T.app (Pl.qbG ex ek (up==upv) (at_-j) (Pl.qbF upv at_ ex ek (k.drop j))))∧(T.len≤j∨(at_<j∧T.len≤j+1))∧Below w0.heap.size w0 wr) (fun _ i _=>k.len-(intOf i).toNat)
  case atStart=>exact⟨0,.nil,Nat.zero_le _,rfl,TRow.nil _ _ _,by unfold Hid;rw[Pl.F.drop_zero];simp[Pl.F.app],Or.inl (by simp[Pl.F.len]),Below.refl _ _⟩
  case round=>
   obtain⟨j,T,hj,rfl,hrow,heq,hTj,hBr⟩:=hrel;obtain⟨g0,g1,g2,g3,g4,g5⟩:=(Blk6.on HBM.out hBr).facts.1;obtain⟨k0,k1,k2,k3,k4,k5⟩:=(Blk6.on HBE.out hBr).facts.1;obtain⟨ar,cr,rfl⟩:=hrow.out.form;have hBw:Below w.heap.size w wr:=hB0.trans (hBr.mono (by omega));have hmv:Mv P w (fun j=>P j∧j<w.heap.size) wr:=fun i h1 h2=>⟨⟨h1,h2⟩,hBw.block i h2⟩
   have hQe:∀ar' T' cr',(∀k,(Value.slice ar' T' cr').ownBlock=some k→w0.heap.size≤k)→Mv P w (fun i=>((P i∧i<w.heap.size)∨w0.heap.size≤i)∧some i≠(Value.slice ar' T' cr').ownBlock) wr:=fun ar' T' cr' ho i h1 h2=>⟨⟨Or.inl ⟨h1,h2⟩,fun e=>by have:=ho i e.symm;omega⟩,hBw.block i h2⟩
   have hown:=hrow.out.newOwn;have HC2:Hid (qb7 (fun i=>((P i∧i<w.heap.size)∨w0.heap.size≤i)∧some i≠(Value.slice ar T.len cr).ownBlock) wr (.slice bc ex.cls.length dc) ex.cls):=qb7.to HEC.out (hQe _ _ _ hown);have HA2:Hid (AtsP (fun i=>((P i∧i<w.heap.size)∨w0.heap.size≤i)∧some i≠(Value.slice ar T.len cr).ownBlock) wr (.slice ba ex.ats.length da) ex.ats):=AtsP.to HEA.out (hQe _ _ _ hown);have HK2:Hid (Sub (fun i=>((P i∧i<w.heap.size)∨w0.heap.size≤i)∧some i≠(Value.slice ar T.len cr).ownBlock) wr (.slice bk' ek.len dk) ek):=Sub.to HEK.out (hQe _ _ _ hown);have HEV:Hid (TV (fun j=>P j∧j<w.heap.size) wr (.agg #[.int .i64 ex.up,.string ⟨ex.tag.toArray⟩,.string ⟨ex.id.toArray⟩,.slice bc ex.cls.length dc,.slice ba ex.ats.length da,.slice bk' ek.len dk]) ex ek):=⟨_,_,_,rfl,qb7.to HEC.out hmv,AtsP.to HEA.out hmv,Sub.to HEK.out hmv⟩
   by_cases hlt:j<k.len
   ·obtain⟨bk,ok,rfl,hPb,hfin⟩:=HK.out.resolve_left (by omega);obtain⟨y,ky,hd,hsz⟩:=Pl.F.drop_lt k j hlt;have hf:=FIn.drop k j bk ok hfin;rw[hd]at hf;obtain⟨⟨vc',va',n0,n1,n2,n3,n4,nc,na⟩,⟨a',cap',n5,hsub⟩,_⟩:=hf;obtain⟨ac',cc',rfl,_⟩:=id nc;obtain⟨aa',ca',rfl,_⟩:=id na;have hw0:∀W,Below w0.heap.size w0 W→Below w.heap.size w W:=fun W h=>hB0.trans (h.mono (by omega))
    have hs:∀w',Below w0.heap.size w0 w'→(w'.cell? ⟨w.heap.size,5,none⟩=some (.slice (some ⟨bk,ok,none⟩) k.len ck)∧w'.cell? ⟨bk,ok+j*6,none⟩=some (.int .i64 y.up)∧w'.cell? ⟨bk,ok+j*6+1,none⟩=some (.string ⟨y.tag.toArray⟩)∧w'.cell? ⟨bk,ok+j*6+2,none⟩=some (.string ⟨y.id.toArray⟩)∧w'.cell? ⟨bk,ok+j*6+3,none⟩=some (.slice ac' y.cls.length cc')∧w'.cell? ⟨bk,ok+j*6+4,none⟩=some (.slice aa' y.ats.length ca')∧w'.cell? ⟨bk,ok+j*6+5,none⟩=some (.slice a' ky.len cap')∧w'.cell? ⟨w.heap.size+1,0,none⟩=some (.int .i64 ex.up)∧w'.cell? ⟨w.heap.size+1,1,none⟩=some (.string ⟨ex.tag.toArray⟩)∧w'.cell? ⟨w.heap.size+1,2,none⟩=some (.string ⟨ex.id.toArray⟩)∧w'.cell? ⟨w.heap.size+1,3,none⟩=some (.slice bc ex.cls.length dc)∧w'.cell? ⟨w.heap.size+1,4,none⟩=some (.slice ba ex.ats.length da)∧w'.cell? ⟨w.heap.size+1,5,none⟩=some (.slice bk' ek.len dk)∧Below w0.heap.size w0 w'):=fun w' h=>by
     obtain⟨_,_,_,_,_,q5⟩:=(Blk6.on HBM.out h).facts.1;obtain⟨p0,p1,p2,p3,p4,p5⟩:=(Blk6.on HBE.out h).facts.1;have hb:=hw0 _ h;exact⟨q5,qab hb n0,qab hb n1,qab hb n2,qab hb n3,qab hb n4,qab hb n5,p0,p1,p2,p3,p4,p5,h⟩
    have hl:∀w',(w'.cell? ⟨w.heap.size,5,none⟩=some (.slice (some ⟨bk,ok,none⟩) k.len ck)∧w'.cell? ⟨bk,ok+j*6,none⟩=some (.int .i64 y.up)∧w'.cell? ⟨bk,ok+j*6+1,none⟩=some (.string ⟨y.tag.toArray⟩)∧w'.cell? ⟨bk,ok+j*6+2,none⟩=some (.string ⟨y.id.toArray⟩)∧w'.cell? ⟨bk,ok+j*6+3,none⟩=some (.slice ac' y.cls.length cc')∧w'.cell? ⟨bk,ok+j*6+4,none⟩=some (.slice aa' y.ats.length ca')∧w'.cell? ⟨bk,ok+j*6+5,none⟩=some (.slice a' ky.len cap')∧w'.cell? ⟨w.heap.size+1,0,none⟩=some (.int .i64 ex.up)∧w'.cell? ⟨w.heap.size+1,1,none⟩=some (.string ⟨ex.tag.toArray⟩)∧w'.cell? ⟨w.heap.size+1,2,none⟩=some (.string ⟨ex.id.toArray⟩)∧w'.cell? ⟨w.heap.size+1,3,none⟩=some (.slice bc ex.cls.length dc)∧w'.cell? ⟨w.heap.size+1,4,none⟩=some (.slice ba ex.ats.length da)∧w'.cell? ⟨w.heap.size+1,5,none⟩=some (.slice bk' ek.len dk)∧Below w0.heap.size w0 w')→Below w0.heap.size w0 w':=fun w' h=>h.2.2.2.2.2.2.2.2.2.2.2.2.2
    have HTV:Hid (∀W,Below w0.heap.size w0 W→TV (fun j=>P j∧j<w.heap.size) W (.agg #[.int .i64 y.up,.string ⟨y.tag.toArray⟩,.string ⟨y.id.toArray⟩,.slice ac' y.cls.length cc',.slice aa' y.ats.length ca',.slice a' ky.len cap']) y ky∧TV (fun j=>P j∧j<w.heap.size) W (.agg #[.int .i64 ex.up,.string ⟨ex.tag.toArray⟩,.string ⟨ex.id.toArray⟩,.slice bc ex.cls.length dc,.slice ba ex.ats.length da,.slice bk' ek.len dk]) ex ek):=fun W h=>by
     have hm:Mv P w (fun j=>P j∧j<w.heap.size) W:=fun i h1 h2=>⟨⟨h1,h2⟩,(hw0 _ h).block i h2⟩
     exact⟨⟨_,_,_,rfl,nc.to hm,na.to hm,Sub.to ⟨_,_,rfl,hsub⟩ hm⟩,⟨_,_,_,rfl,qb7.to HEC.out hm,AtsP.to HEA.out hm,Sub.to HEK.out hm⟩⟩
    have HE2:Hid (Pl.qbG ex ek (up==upv) at_ (Pl.qbF upv at_ ex ek k)=(T.app (if (up==upv)=true∧at_-j=0 then .cons ex ek .nil else .nil)).app (.cons y (Pl.qbG ex ek (y.up==upv) at_ (Pl.qbF upv at_ ex ek ky)) (Pl.qbG ex ek (up==upv) (at_-(j+1:Nat)) (Pl.qbF upv at_ ex ek (k.drop (j+1)))))):=by
     unfold Hid;rw[heq.out,hd,Pl.qbF,Pl.insIf_cons,Pl.F.app_assoc,show at_-(j:Int)-1=at_-(j+1:Nat) by omega]
    clear nc na hsub hfin hd heq hmv n0 n1 n2 n3 n4 n5 HEV
    by_cases hins:(up==upv)=true∧at_-j=0
    case' pos=>
     rw[if_pos hins]at HE2;have c1:(up==upv)=true:=hins.1;have c2:((j:Int)==at_)=true:=by simp;omega
     have HAT:Hid (at_=(j:Int)):=by unfold Hid;omega
     clear hins
     go_wp2_with (at_builtin;refine qgm (w2:=wr) rfl _ _ rfl rfl rfl hrow.out (by omega) hBr.size (x:=ex) (k:=ek) HC2.out HA2.out HK2.out ?_;intro g cap3 w3 hrow3 hgr;refine Hid.out ?_)
     unfold Hid;have hBq:Below w0.heap.size w0 w3:=qgx (qaa hBr (qac _ _)) hgr hown;have HRq:Hid (TRow w0.heap.size (fun j=>(P j∧j<w.heap.size)∨w0.heap.size≤j) w3 (.slice (some ⟨g,0,none⟩) (T.len+1) cap3) (T.app (.cons ex ek .nil))):=hrow3;have hTl:(T.app (.cons ex ek .nil)).len=T.len+1:=by rw[Pl.F.app_len];rfl
     have hLq:(T.app (.cons ex ek .nil)).len≤j∨(at_<(j+1:Nat)∧(T.app (.cons ex ek .nil)).len≤j+1):=by have hat:=HAT.out;rw[hTl];omega
     rw[←hTl]at HRq ⊢;generalize T.app (.cons ex ek .nil)=Tq at *;clear hrow3 hgr hown hrow hTj hTl HC2 HA2 HK2 hQe g0 g1 g2 g3 g4 g5 k0 k1 k2 k3 k4 k5 hBr hBw c1 c2 HAT;obtain⟨aq,cq,hvq⟩:∃aq cq,aq=some (⟨g,0,none⟩:Addr)∧cq=cap3:=⟨_,_,rfl,rfl⟩
     rw[←hvq.1,←hvq.2]at HRq ⊢;clear hvq
     go_wp2_with fail
    case' neg=>
     rw[if_neg hins,Pl.F.app_nil]at HE2;have hBq:=hBr;have HRq:=hrow;have hLq:T.len≤j∨(at_<(j+1:Nat)∧T.len≤j+1):=by omega
     have hcase:(up==upv)=false∨((up==upv)=true∧((j:Int)==at_)=false):=by
      cases hu:(up==upv) with
      | false=>exact Or.inl rfl
      | true=>exact Or.inr ⟨rfl,by simp;intro h;exact hins ⟨hu,by omega⟩⟩
     clear hown hTj HC2 HA2 HK2 hQe k0 k1 k2 k3 k4 k5 hBw hins;generalize T=Tq at *;generalize ar=aq at *;generalize cr=cq at *
     rcases hcase with c1|⟨c1,c2⟩
     case' inl=>go_wp2_with fail
     case' inr=>go_wp2_with fail
    all_goals
     have S0:=hs _ hBq.drew;obtain⟨xs,hownR,hcs⟩:=HRq.out;have hownlt:=HRq.out.own;have hlen:Tq.len+1≤64:=by omega
     have HO:Hid _:=qbt hownR (Below.refl _ _).drew;have HX:Hid _:=qa0.drew hcs;have hge:∀k,(Value.slice aq Tq.len cq).ownBlock=some k→w0.heap.size≤k:=fun k hk=>(hownlt k hk).1
     have hlt2:∀k,(Value.slice aq Tq.len cq).ownBlock=some k→k<_:=fun k hk=>(hownlt k hk).2
     have hsB:w.heap.size≤w0.heap.size:=by omega
     have hk1:ky.size<N:=by omega
     have hk2:ky.size+2≤64:=by omega
     have hBd:=hBq.drew;have hsq:=hBq.size;clear hownR hcs;obtain⟨s1,s2,s3,s4,s5,s6,s7,s8,s9,s10,s11,s12,s13,_⟩:=S0
     go_region_law (first|(go_simp;go_at_call 67;refine(HIH.out (fun j=>P j∧j<w.heap.size) y ky _ _ _ hk1 hk2 (HTV.out _ hBd).1 (HTV.out _ hBd).2).mono ?_;rintro e w4 ⟨tv,rfl,⟨vc4,va4,vk4,rfl,hs4,ha4,hk4⟩,hb4⟩;obtain⟨y1,y2,rfl,_⟩:=id hs4;obtain⟨y3,y4,rfl,_⟩:=id ha4;obtain⟨y5,y6,rfl,_⟩:=id hk4)|(refine qfS (B:=w0.heap.size) (P:=fun j=>(P j∧j<w.heap.size)∨w0.heap.size≤j) (w2:=w4) (v:=.slice aq Tq.len cq) (f:=Tq) (xs:=xs) rfl (.tmp 32) (.tmp 42) rfl rfl rfl (qbt HO.out hb4) (qa0.to (P':=fun i=>((P i∧i<w.heap.size)∨w0.heap.size≤i)∧some i≠(Value.slice aq Tq.len cq).ownBlock) (fun j hj hl=>⟨hj,hb4.block j hl⟩) Tq xs HX.out) hlen (Nat.le_trans hsq hb4.size) (x:=y) (k:=Pl.qbG ex ek (y.up==upv) at_ (Pl.qbF upv at_ ex ek ky)) (hs4.to (mv_new hsq hge hlt2 hsB)) (ha4.to (mv_new hsq hge hlt2 hsB)) (hk4.to (mv_new hsq hge hlt2 hsB)) ?_;intro g cap' w5 hrow' hgr))
     all_goals
      have hwx:=qgx (qaa (qaa hBd hb4) (qac _ _)) hgr hge;have HR5:Hid _:=hrow'
      have HE5:Hid (Pl.qbG ex ek (up==upv) at_ (Pl.qbF upv at_ ex ek k)=(Tq.app (.cons y (Pl.qbG ex ek (y.up==upv) at_ (Pl.qbF upv at_ ex ek ky)) .nil)).app (Pl.qbG ex ek (up==upv) (at_-(j+1:Nat)) (Pl.qbF upv at_ ex ek (k.drop (j+1))))):=by
       unfold Hid;rw[HE2.out,Pl.F.app_assoc];rfl
      have hL5:(Tq.app (.cons y (Pl.qbG ex ek (y.up==upv) at_ (Pl.qbF upv at_ ex ek ky)) .nil)).len≤j+1∨(at_<(j+1:Nat)∧(Tq.app (.cons y (Pl.qbG ex ek (y.up==upv) at_ (Pl.qbF upv at_ ex ek ky)) .nil)).len≤j+1+1):=by
       have e:(Tq.app (.cons y (Pl.qbG ex ek (y.up==upv) at_ (Pl.qbF upv at_ ex ek ky)) .nil)).len=Tq.len+1:=by rw[Pl.F.app_len];rfl
       rw[e];clear e HR5 hwx
       rcases hLq with h|⟨h1,h2⟩
       ·exact Or.inl (Nat.succ_le_succ h)
       ·exact Or.inr ⟨h1,Nat.succ_le_succ h2⟩
      clear hrow' hgr hs4 ha4 hk4 hb4;go_wp2;exact⟨⟨j+1,_,hlt,by go_num,HR5,HE5,hL5,hwx⟩,by simp[intOf];omega⟩
   ·have hjk:j=k.len:=by omega
    have HF0:Hid (Pl.qbG ex ek (up==upv) at_ (Pl.qbF upv at_ ex ek k)=T.app (if (up==upv)=true∧at_-j=0 then .cons ex ek .nil else .nil)):=by
     unfold Hid;rw[heq.out,Pl.F.drop_len k j (by omega),Pl.qbF,Pl.insIf_nil]
    by_cases hins:(up==upv)=true∧at_-j=0
    ·have HFq:Hid (Pl.qbG ex ek (up==upv) at_ (Pl.qbF upv at_ ex ek k)=T.app (.cons ex ek .nil)):=by
      unfold Hid;rw[HF0.out,if_pos hins]
     have c1:(up==upv)=true:=hins.1;have c2:(at_==(k.len:Int))=true:=by simp;omega
     clear hins HF0
     go_wp2_with (at_builtin;refine qgm (w2:=wr) rfl _ _ rfl rfl rfl hrow.out (by omega) hBr.size (x:=ex) (k:=ek) HC2.out HA2.out HK2.out ?_;intro g cap3 w3 hrow3 hgr;refine Hid.out ?_)
     unfold Hid;have hBq:Below w0.heap.size w0 w3:=qgx (qaa hBr (qac _ _)) hgr hown;have hTl:(T.app (.cons ex ek .nil)).len=T.len+1:=by rw[Pl.F.app_len];rfl
     have HRq:Hid (TRow w0.heap.size (fun j=>(P j∧j<w.heap.size)∨w0.heap.size≤j) w3 (.slice (some ⟨g,0,none⟩) (T.len+1) cap3) (T.app (.cons ex ek .nil))):=hrow3;clear hrow3 hgr HC2 HA2 HK2 HEV hQe hmv g0 g1 g2 g3 g4 g5 k0 k1 k2 k3 k4 k5 c1 c2;have bM:=Blk6.on HBM.out hBq;have bR:=Blk6.on HBR.out hBq;have bM1:=bM.set5 (.slice (some ⟨g,0,none⟩) (T.len+1) cap3);have bR1:=bR.other (M:=w.heap.size) (i:=5) (by omega) (.slice (some ⟨g,0,none⟩) (T.len+1) cap3);obtain⟨⟨g0,g1,g2,g3,g4,g5⟩,fM⟩:=bM.facts;obtain⟨⟨k0,k1,k2,k3,k4,k5⟩,fM1⟩:=bM1.facts;obtain⟨⟨r0,r1,r2,r3,r4,r5⟩,fR1⟩:=bR1.facts;have HR1:Hid _:=bR1;have HSub:Hid (Sub (fun j=>(P j∧j<w.heap.size)∨w0.heap.size≤j) w3 (.slice (some ⟨g,0,none⟩) (T.len+1) cap3) (T.app (.cons ex ek .nil))):=HRq.out.sub (fun j hj=>Or.inr hj);have hB1:Below w.heap.size w (w3.setCell ⟨w.heap.size,5,none⟩ (.slice (some ⟨g,0,none⟩) (T.len+1) cap3)):=(hB0.trans (hBq.mono (by omega))).setCell (p:=⟨w.heap.size,5,none⟩) (Nat.le_refl _) _;clear bM bR bM1 bR1 heq
     go_wp2_with fail
     have hF:Blk6 _ _ _ _ _ _ _ _:=Blk6.six HR1.out (.int .i64 up) (.string ⟨tag.toArray⟩) (.string ⟨idn.toArray⟩) (.slice ac cls.length cc) (.slice aa ats.length ca) (.slice (some ⟨g,0,none⟩) (T.len+1) cap3);have hBF:=qeX hB1 (w.heap.size+2) (by omega) (.int .i64 up) (.string ⟨tag.toArray⟩) (.string ⟨idn.toArray⟩) (.slice ac cls.length cc) (.slice aa ats.length ca) (.slice (some ⟨g,0,none⟩) (T.len+1) cap3);have hblk:=qeB (w3.setCell ⟨w.heap.size,5,none⟩ (.slice (some ⟨g,0,none⟩) (T.len+1) cap3)) (w.heap.size+2) (.int .i64 up) (.string ⟨tag.toArray⟩) (.string ⟨idn.toArray⟩) (.slice ac cls.length cc) (.slice aa ats.length ca) (.slice (some ⟨g,0,none⟩) (T.len+1) cap3)
     change bodyPost _ _ _ _ _ (qbN (w3.setCell ⟨w.heap.size,5,none⟩ (.slice (some ⟨g,0,none⟩) (T.len+1) cap3)) (w.heap.size+2) (.int .i64 up) (.string ⟨tag.toArray⟩) (.string ⟨idn.toArray⟩) (.slice ac cls.length cc) (.slice aa ats.length ca) (.slice (some ⟨g,0,none⟩) (T.len+1) cap3))
     generalize qbN (w3.setCell ⟨w.heap.size,5,none⟩ (.slice (some ⟨g,0,none⟩) (T.len+1) cap3)) (w.heap.size+2) (.int .i64 up) (.string ⟨tag.toArray⟩) (.string ⟨idn.toArray⟩) (.slice ac cls.length cc) (.slice aa ats.length ca) (.slice (some ⟨g,0,none⟩) (T.len+1) cap3)=wF at *;obtain⟨⟨q0,q1,q2,q3,q4,q5⟩,_⟩:=hF.facts;have hmvF:Mv P w (fun j=>P j∨w.heap.size≤j) wF:=fun j hj hl=>⟨Or.inl hj,hBF.block j hl⟩
     refine bodyPost_ret (v:=.agg #[.int .i64 up,.string ⟨tag.toArray⟩,.string ⟨idn.toArray⟩,.slice ac cls.length cc,.slice aa ats.length ca,.slice (some ⟨g,0,none⟩) (T.len+1) cap3]) (by simp[results,Tryz.results67,go_sem,q0,q1,q2,q3,q4,q5]) rfl
      ⟨_,rfl,⟨_,_,_,rfl,qb7.to HC.out hmvF,AtsP.to HA.out hmvF,?_⟩,hBF⟩
     rw[HFq.out];refine Sub.to HSub.out (fun j hj hl=>?_)
     have hjne:j≠w.heap.size∧j≠w.heap.size+2:=by
      rcases hj with h|h<;>omega
     refine⟨?_,(hblk j hjne.2).trans (Below.heap_setCell _ _ _ _ hjne.1)⟩
     rcases hj with h|h
     ·exact Or.inl h.1
     ·exact Or.inr (by omega)
    ·have HFq:Hid (Pl.qbG ex ek (up==upv) at_ (Pl.qbF upv at_ ex ek k)=T):=by
      unfold Hid;rw[HF0.out,if_neg hins,Pl.F.app_nil]
     have hcase:(up==upv)=false∨((up==upv)=true∧(at_==(k.len:Int))=false):=by
      cases hu:(up==upv) with
      | false=>exact Or.inl rfl
      | true=>exact Or.inr ⟨rfl,by simp;intro h;exact hins ⟨hu,by omega⟩⟩
     have hBq:=hBr;have HRq:=hrow;clear HC2 HA2 HK2 HEV hQe hmv hins HF0 g0 g1 g2 g3 g4 g5 k0 k1 k2 k3 k4 k5
     rcases hcase with c1|⟨c1,c2⟩
     all_goals
      have bM:=Blk6.on HBM.out hBq;have bR:=Blk6.on HBR.out hBq;have bM1:=bM.set5 (.slice ar T.len cr);have bR1:=bR.other (M:=w.heap.size) (i:=5) (by omega) (.slice ar T.len cr);obtain⟨⟨g0,g1,g2,g3,g4,g5⟩,fM⟩:=bM.facts;obtain⟨⟨k0,k1,k2,k3,k4,k5⟩,fM1⟩:=bM1.facts;obtain⟨⟨r0,r1,r2,r3,r4,r5⟩,fR1⟩:=bR1.facts;have HR1:Hid _:=bR1;have HSub:Hid (Sub (fun j=>(P j∧j<w.heap.size)∨w0.heap.size≤j) wr (.slice ar T.len cr) (T)):=HRq.out.sub (fun j hj=>Or.inr hj);have hB1:Below w.heap.size w (wr.setCell ⟨w.heap.size,5,none⟩ (.slice ar T.len cr)):=(hB0.trans (hBq.mono (by omega))).setCell (p:=⟨w.heap.size,5,none⟩) (Nat.le_refl _) _;clear bM bR bM1 bR1 heq
      go_wp2_with fail
      have hF:Blk6 _ _ _ _ _ _ _ _:=Blk6.six HR1.out (.int .i64 up) (.string ⟨tag.toArray⟩) (.string ⟨idn.toArray⟩) (.slice ac cls.length cc) (.slice aa ats.length ca) (.slice ar T.len cr);have hBF:=qeX hB1 (w.heap.size+2) (by omega) (.int .i64 up) (.string ⟨tag.toArray⟩) (.string ⟨idn.toArray⟩) (.slice ac cls.length cc) (.slice aa ats.length ca) (.slice ar T.len cr);have hblk:=qeB (wr.setCell ⟨w.heap.size,5,none⟩ (.slice ar T.len cr)) (w.heap.size+2) (.int .i64 up) (.string ⟨tag.toArray⟩) (.string ⟨idn.toArray⟩) (.slice ac cls.length cc) (.slice aa ats.length ca) (.slice ar T.len cr)
      change bodyPost _ _ _ _ _ (qbN (wr.setCell ⟨w.heap.size,5,none⟩ (.slice ar T.len cr)) (w.heap.size+2) (.int .i64 up) (.string ⟨tag.toArray⟩) (.string ⟨idn.toArray⟩) (.slice ac cls.length cc) (.slice aa ats.length ca) (.slice ar T.len cr))
      generalize qbN (wr.setCell ⟨w.heap.size,5,none⟩ (.slice ar T.len cr)) (w.heap.size+2) (.int .i64 up) (.string ⟨tag.toArray⟩) (.string ⟨idn.toArray⟩) (.slice ac cls.length cc) (.slice aa ats.length ca) (.slice ar T.len cr)=wF at *;obtain⟨⟨q0,q1,q2,q3,q4,q5⟩,_⟩:=hF.facts;have hmvF:Mv P w (fun j=>P j∨w.heap.size≤j) wF:=fun j hj hl=>⟨Or.inl hj,hBF.block j hl⟩
      refine bodyPost_ret (v:=.agg #[.int .i64 up,.string ⟨tag.toArray⟩,.string ⟨idn.toArray⟩,.slice ac cls.length cc,.slice aa ats.length ca,.slice ar T.len cr]) (by simp[results,Tryz.results67,go_sem,q0,q1,q2,q3,q4,q5]) rfl
       ⟨_,rfl,⟨_,_,_,rfl,qb7.to HC.out hmvF,AtsP.to HA.out hmvF,?_⟩,hBF⟩
      rw[HFq.out];refine Sub.to HSub.out (fun j hj hl=>?_)
      have hjne:j≠w.heap.size∧j≠w.heap.size+2:=by
       rcases hj with h|h<;>omega
      refine⟨?_,(hblk j hjne.2).trans (Below.heap_setCell _ _ _ _ hjne.1)⟩
      rcases hj with h|h
      ·exact Or.inl h.1
      ·exact Or.inr (by omega)
end Go.Proofs.YtephhllfodlfbaaGreatDoor
