/-
  doc.Insert's answer lies in memory of its own.
-/
import Derived.Test.YtephhllfodlfbaaGreatDoorVClos
set_option maxRecDepth 100000
set_option maxHeartbeats 16000000
namespace Go.Proofs.YtephhllfodlfbaaGreatDoor
open Go.RowKit
theorem qfq (b o cap b2 o2 cap2:Nat)(ns es:List Pl.Nd)(up:Int)(place:Nat)(w:World)(hp:place≤ns.length)(h64:ns.length+es.length≤64)(hcap:ns.length≤cap)
 (hc:∀i (h:i<ns.length),NdAt w b (o+i*5) ns[i]) (hc2:∀i (h:i<es.length),NdAt w b2 (o2+i*5) es[i]) (hs1:∀x∈ns,x.cls.length≤6∧x.ats.length≤4) (hs2:∀x∈es,x.cls.length≤6∧x.ats.length≤4):
 Calls Tryz.prog 82 #[.slice (some ⟨b,o,none⟩) ns.length cap,.int .i64 up,.int .i64 place,.slice (some ⟨b2,o2,none⟩) es.length cap2] w fun e w'=>∃v' B,e=.returned v'∧w.heap.size≤B∧RowS B w' v' (qaH ns up place es)∧Below w.heap.size w w':=by
 have HC:Hid _:=hc;have HC2:Hid _:=hc2;have HS:Hid _:=hs1;have HS2:Hid _:=hs2;clear hc hc2 hs1 hs2;have i1:(0:Int)≤(place:Int):=by omega
 have i3:(place:Int)≤(ns.length:Int):=by omega
 have i5:(ns.length:Int)≤(cap:Int):=by omega
 have i7:(place:Int)≤(cap:Int):=by omega
 have hB0:=qdg w (.cells #[.int .i64 up] 3) (.cells #[.int .i64 place] 3) (.cells #[.slice (some ⟨b2,o2,none⟩) es.length cap2] 22);have c0:(((w.alloc (.cells #[.int .i64 up] 3)).alloc (.cells #[.int .i64 place] 3)).alloc (.cells #[.slice (some ⟨b2,o2,none⟩) es.length cap2] 22)).cell? ⟨w.heap.size,0,none⟩=some (.int .i64 up):=by simp[go_sem]
 have c1:(((w.alloc (.cells #[.int .i64 up] 3)).alloc (.cells #[.int .i64 place] 3)).alloc (.cells #[.slice (some ⟨b2,o2,none⟩) es.length cap2] 22)).cell? ⟨w.heap.size+1,0,none⟩=some (.int .i64 place):=by simp[go_sem]
 have c2:(((w.alloc (.cells #[.int .i64 up] 3)).alloc (.cells #[.int .i64 place] 3)).alloc (.cells #[.slice (some ⟨b2,o2,none⟩) es.length cap2] 22)).cell? ⟨w.heap.size+1+1,0,none⟩=some (.slice (some ⟨b2,o2,none⟩) es.length cap2):=by simp[go_sem]
 have hsz:(((w.alloc (.cells #[.int .i64 up] 3)).alloc (.cells #[.int .i64 place] 3)).alloc (.cells #[.slice (some ⟨b2,o2,none⟩) es.length cap2] 22)).heap.size=w.heap.size+3:=by simp
 go_enter Tryz.func82,Tryz.ntmps82
 go_wp2_with fail
 generalize ((w.alloc (.cells #[.int .i64 up] 3)).alloc (.cells #[.int .i64 place] 3)).alloc (.cells #[.slice (some ⟨b2,o2,none⟩) es.length cap2] 22)=w2 at *;have HD:Hid (∀W,Below w2.heap.size w2 W→∀i (h:i<ns.length),NdAt W b (o+i*5) ns[i]):=fun W hW i hi=>((HC.out i hi).on hB0).on hW
 have HD2:Hid (∀W,Below w2.heap.size w2 W→qa8 W (.slice (some ⟨b2,o2,none⟩) es.length cap2) es):=fun W hW=>⟨_,_,rfl,Or.inr ⟨_,_,rfl,fun i hi=>((HC2.out i hi).on hB0).on hW⟩⟩
 refine(qhI 83 #[] id w2.heap.size _ _ [] (ns.take place) w2 (Nat.le_refl _) (RowS.nil _ _) (by simp;omega) enter52 (fun x hx=>HS.out x (List.mem_of_mem_take hx)) (qa8.head (HD.out _ (Below.refl _ _)) place cap (by omega)) (fun W hW=>qa8.head (HD.out _ hW) place cap (by omega)) (fun W u _=>qhH u W)).mono ?_;rintro e w3 ⟨v3,rfl,hrow,hb3⟩;rw[List.nil_append]at hrow;replace c0:=qab hb3 c0;replace c1:=qab hb3 c1;replace c2:=qab hb3 c2;obtain⟨a3,l3,c3,rfl,_,_⟩:=Row.cap (RowS.weak hrow);have HR:Hid _:=hrow;have HB3:Hid _:=hb3;have HB0:Hid _:=hB0;clear hrow hb3 hB0
 go_wp2_with fail
 refine(qhI 120 #[.pointer (some ⟨w.heap.size,0,none⟩),.pointer (some ⟨w.heap.size+1,0,none⟩)] (Pl.mvIn up place) w2.heap.size _ _ _ es w3 HB3.out.size HR.out ?_ enter75 HS2.out (HD2.out _ HB3.out) (fun W hW=>HD2.out _ (HB3.out.trans hW)) ?_).mono ?_
 ·simp;omega
 ·intro W u hW;exact ins1_any _ _ _ _ _ _ (by rw[hW.cell (by simp;omega)];exact c0) (by rw[hW.cell (by simp;omega)];exact c1)
 rintro e w4 ⟨v4,rfl,hrow,hb4⟩;replace c0:w4.cell? ⟨w.heap.size,0,none⟩=some (.int .i64 up):=by rw[hb4.cell (by simp;omega)];exact c0
 replace c1:w4.cell? ⟨w.heap.size+1,0,none⟩=some (.int .i64 place):=by rw[hb4.cell (by simp;omega)];exact c1
 replace c2:w4.cell? ⟨w.heap.size+1+1,0,none⟩=some (.slice (some ⟨b2,o2,none⟩) es.length cap2):=by rw[hb4.cell (by simp;omega)];exact c2
 obtain⟨a4,l4,c4,rfl,_,_⟩:=Row.cap (RowS.weak hrow);have HR4:Hid _:=hrow;have HB4:Hid _:=HB3.out.trans hb4;clear hb4 hrow
 go_wp2_with fail
 all_goals
  refine(qhI 121 #[.pointer (some ⟨w.heap.size+1,0,none⟩),.pointer (some ⟨w.heap.size+1+1,0,none⟩)] (Pl.qdz place es.length) w2.heap.size _ _ _ (ns.drop place) w4 HB4.out.size HR4.out ?_ enter76 (fun x hx=>HS.out x (List.mem_of_mem_drop hx)) ?_ ?_ ?_).mono ?_
  ·simp;omega
  ·first|exact qa8.tail (HD.out _ HB4.out) place _ (by omega)|exact qa8.void _ _ _ (by omega)
  ·intro W hW
   first|exact qa8.tail (HD.out _ (HB4.out.trans hW)) place _ (by omega)|exact qa8.void _ _ _ (by omega)
  ·intro W u hW;exact ins2_any _ _ _ _ _ _ _ _ (by rw[hW.cell (by simp;omega)];exact c1) (by rw[hW.cell (by simp;omega)];exact c2)
  rintro e w5 ⟨v5,rfl,hrow,hb5⟩;obtain⟨a5,l5,c5,rfl,_,_⟩:=Row.cap (RowS.weak hrow);have HR5:Hid _:=hrow;have HB5:Hid _:=HB4.out.trans hb5;clear hb5 hrow;go_wp2;go_ret;exact⟨_,_,rfl,by omega,HR5.out,qaa HB0.out HB5.out⟩
theorem qiY (v v2:Value)(ns es:List Pl.Nd)(up at_:Int)(w:World)(hd:qar w v ns)(hd2:qar w v2 es):
 Calls Tryz.prog 35 #[.agg #[v],.int .i64 up,.int .i64 at_,.agg #[v2]] w fun e w'=>∃v',e=.returned (.tuple #[.agg #[v'],.int .i64 (qax ns up at_ es)])∧DocS w.heap.size w' v' (qaO ns up at_ es)∧Below w.heap.size w w':=by
 obtain⟨hv,hcap,hf⟩:=hd;obtain⟨a,cap,rfl,hc⟩:=id hv;have HV:Hid _:=hv;obtain⟨_,_,_,e0,hc1,hc2⟩:=hcap;injection e0 with e1 e2 e3;subst e1 e2 e3;obtain⟨hv2,hcap2,hf2⟩:=hd2;obtain⟨a2,cap2,rfl,hcc⟩:=id hv2;have HV2:Hid _:=hv2;clear hv hv2 hcap2;have HC:Hid _:=hc;have HCC:Hid _:=hcc;clear hc hcc;have hB0:=qdg w (.cells #[.slice a ns.length cap] 24) (.cells #[.slice a2 es.length cap2] 24) (.cells #[.slice none 0 0] 24);go_enter Tryz.func35,Tryz.ntmps35
 go_wp2_with fail
 refine(qcH _ ns _ hf (qa8.on HV.out hB0)).mono ?_;rintro e w1 ⟨rfl,h1⟩;have hB:Below w.heap.size w w1:=qaa hB0 h1;have c0:=qab (p:=⟨w.heap.size,0,none⟩) (v:=.slice a ns.length cap) h1 (by simp[go_sem]);have c1:=qab (p:=⟨w.heap.size+1,0,none⟩) (v:=.slice a2 es.length cap2) h1 (by simp[go_sem]);have c2:=qab (p:=⟨w.heap.size+1+1,0,none⟩) (v:=.slice none 0 0) h1 (by simp[go_sem]);have f2:w1.frozen? ⟨w.heap.size+1+1,0,none⟩=false:=by rw[h1.frozen (by simp)];simp[go_sem]
 have hsz:w.heap.size+3≤w1.heap.size:=by have:=h1.size;simp at this;omega
 clear h1 hB0
 cases hz:(Pl.qad ns !=0) with
 | true=>
  have hz1:¬Pl.qad ns=0:=by simpa using hz
  have HE:Hid (qax ns up at_ es=Pl.qad ns):=by unfold Hid qax;rw[if_neg hz1]
  have HP:Hid (qaO ns up at_ es=[]):=by unfold Hid qaO;rw[if_neg (by rw[HE.out];exact hz1)]
  clear hz1;generalize hE:Pl.qad ns=E at *;go_wp2;have q:=World.cell?_setCell_same w1 ⟨w.heap.size+1+1,0,none⟩ (.slice none 0 0) c2
  exact bodyPost_ret (v:=.tuple #[.agg #[.slice none 0 0],.int .i64 E]) (by simp[results,Tryz.results35,go_sem,q]) rfl
   ⟨_,by rw[HE.out],by rw[HP.out];exact DocS.nil _ _,hB.setCell (p:=⟨w.heap.size+1+1,0,none⟩) (by simp;omega) _⟩
 | false=>
 have hz0:Pl.qad ns=0:=by simpa using hz
 clear hz;rw[hz0]
 go_wp2_with fail
 refine(qcH _ es _ hf2 (qa8.on HV2.out hB)).mono ?_;rintro e w2 ⟨rfl,h1⟩;replace c0:=qab h1 c0;replace c1:=qab h1 c1;replace c2:=qab h1 c2;replace f2:w2.frozen? ⟨w.heap.size+1+1,0,none⟩=false:=by rw[h1.frozen (by simp;omega)];exact f2
 replace hB:=qaa hB h1;replace hsz:w.heap.size+3≤w2.heap.size:=Nat.le_trans hsz h1.size;clear h1
 cases hz:(Pl.qad es !=0) with
 | true=>
  have hz1:¬Pl.qad es=0:=by simpa using hz
  have HE:Hid (qax ns up at_ es=Pl.qad es):=by unfold Hid qax;rw[if_pos hz0,if_neg hz1]
  have HP:Hid (qaO ns up at_ es=[]):=by unfold Hid qaO;rw[if_neg (by rw[HE.out];exact hz1)]
  clear hz1;generalize hE:Pl.qad es=E at *;go_wp2;have q:=World.cell?_setCell_same w2 ⟨w.heap.size+1+1,0,none⟩ (.slice none 0 0) c2
  exact bodyPost_ret (v:=.tuple #[.agg #[.slice none 0 0],.int .i64 E]) (by simp[results,Tryz.results35,go_sem,q]) rfl
   ⟨_,by rw[HE.out],by rw[HP.out];exact DocS.nil _ _,hB.setCell (p:=⟨w.heap.size+1+1,0,none⟩) (by simp;omega) _⟩
 | false=>
 have hy0:Pl.qad es=0:=by simpa using hz
 clear hz;rw[hy0];obtain⟨hl1,hl64,_⟩:=qa9 hz0;obtain⟨hl2,hl642,_⟩:=qa9 hy0;have HS:Hid _:=qa6 hz0;have HS2:Hid _:=qa6 hy0
 rcases HC.out with hc|⟨b,o,rfl,hc⟩
 ·subst hc;simp at hl1
 rcases HCC.out with hcc|⟨b2,o2,rfl,hcc⟩
 ·subst hcc;simp at hl2
 clear HC HCC;have HC:Hid _:=hc;have HCC:Hid _:=hcc;clear hc hcc
 go_wp2_with fail
 refine(qgi _ _ _ _ _ hf.1).mono ?_;rintro e w3 ⟨rfl,h1⟩;replace c0:=qab h1 c0;replace c1:=qab h1 c1;replace c2:=qab h1 c2;replace f2:w3.frozen? ⟨w.heap.size+1+1,0,none⟩=false:=by rw[h1.frozen (by simp;omega)];exact f2
 replace hB:=qaa hB h1;replace hsz:w.heap.size+3≤w3.heap.size:=Nat.le_trans hsz h1.size;clear h1
 cases hh:hasB ns.length up with
 | false=>
  have HE:Hid (qax ns up at_ es=5):=by unfold Hid qax;rw[if_pos hz0,if_pos hy0,if_neg (by rw[hh];simp)]
  have HP:Hid (qaO ns up at_ es=[]):=by unfold Hid qaO;rw[if_neg (by rw[HE.out];omega)]
  go_wp2;have q:=World.cell?_setCell_same w3 ⟨w.heap.size+1+1,0,none⟩ (.slice none 0 0) c2
  exact bodyPost_ret (v:=.tuple #[.agg #[.slice none 0 0],.int .i64 5]) (by simp[results,Tryz.results35,go_sem,q]) rfl
   ⟨_,by rw[HE.out],by rw[HP.out];exact DocS.nil _ _,hB.setCell (p:=⟨w.heap.size+1+1,0,none⟩) (by simp;omega) _⟩
 | true=>
 obtain⟨k,rfl,hk⟩:∃k:Nat,up=k∧k<ns.length:=by
  unfold hasB at hh;simp only[Bool.and_eq_true,decide_eq_true_eq]at hh;exact⟨up.toNat,by omega,by omega⟩
 have HH:Hid _:=hh;clear hh
 go_wp2_with fail
 refine(kids_some b o cap ns _ _ hl64 (fun i hi=>(HC.out i hi).on hB)).mono ?_;rintro e w4 ⟨vk,rfl,hown,h1⟩;replace c0:=qab h1 c0;replace c1:=qab h1 c1;replace c2:=qab h1 c2;replace f2:w4.frozen? ⟨w.heap.size+1+1,0,none⟩=false:=by rw[h1.frozen (by simp;omega)];exact f2
 replace hB:=qaa hB h1;replace hsz:w.heap.size+3≤w4.heap.size:=Nat.le_trans hsz h1.size;clear h1;have hkl:(Pl.qae ns k).length≤64:=Nat.le_trans (Pl.qcE ns k ns.length) hl64;have hik:=qf2 hown;obtain⟨ak,ck,rfl,hik⟩:=hik;simp only[List.length_map]at hik;rw[List.length_map];clear hown
 by_cases hat:at_<0∨((Pl.qae ns k).length:Int)<at_
 ·have HE:Hid (qax ns k at_ es=3):=by unfold Hid qax;rw[if_pos hz0,if_pos hy0,if_pos HH.out,if_pos hat]
  have HP:Hid (qaO ns k at_ es=[]):=by unfold Hid qaO;rw[if_neg (by rw[HE.out];omega)]
  rcases hat with hat|hat
  ·clear hik;go_wp2;have q:=World.cell?_setCell_same w4 ⟨w.heap.size+1+1,0,none⟩ (.slice none 0 0) c2
   exact bodyPost_ret (v:=.tuple #[.agg #[.slice none 0 0],.int .i64 3]) (by simp[results,Tryz.results35,go_sem,q]) rfl
    ⟨_,by rw[HE.out],by rw[HP.out];exact DocS.nil _ _,hB.setCell (p:=⟨w.heap.size+1+1,0,none⟩) (by simp;omega) _⟩
  ·have hat0:¬at_<0:=by omega
   clear hik;go_wp2;have q:=World.cell?_setCell_same w4 ⟨w.heap.size+1+1,0,none⟩ (.slice none 0 0) c2
   exact bodyPost_ret (v:=.tuple #[.agg #[.slice none 0 0],.int .i64 3]) (by simp[results,Tryz.results35,go_sem,q]) rfl
    ⟨_,by rw[HE.out],by rw[HP.out];exact DocS.nil _ _,hB.setCell (p:=⟨w.heap.size+1+1,0,none⟩) (by simp;omega) _⟩
 obtain⟨j,rfl,hj⟩:∃j:Nat,at_=j∧j≤(Pl.qae ns k).length:=⟨at_.toNat,by omega,by omega⟩
 have g1:¬(j:Int)<0:=by omega
 have g2:¬((Pl.qae ns k).length:Int)<(j:Int):=by omega
 by_cases hmn:64<ns.length+es.length
 ·have HE:Hid (qax ns k j es=2):=by unfold Hid qax;rw[if_pos hz0,if_pos hy0,if_pos HH.out,if_neg hat,if_pos hmn]
  have HP:Hid (qaO ns k j es=[]):=by unfold Hid qaO;rw[if_neg (by rw[HE.out];omega)]
  have i9:(64:Int)<(ns.length:Int)+(es.length:Int):=by omega
  clear hik hat;go_wp2;have q:=World.cell?_setCell_same w4 ⟨w.heap.size+1+1,0,none⟩ (.slice none 0 0) c2
  exact bodyPost_ret (v:=.tuple #[.agg #[.slice none 0 0],.int .i64 2]) (by simp[results,Tryz.results35,go_sem,q]) rfl
   ⟨_,by rw[HE.out],by rw[HP.out];exact DocS.nil _ _,hB.setCell (p:=⟨w.heap.size+1+1,0,none⟩) (by simp;omega) _⟩
 have HE:Hid (qax ns k j es=0):=by unfold Hid qax;rw[if_pos hz0,if_pos hy0,if_pos HH.out,if_neg hat,if_neg hmn]
 have HP:Hid (qaO ns k j es=qaH ns k (placeOf ns k j) es):=by unfold Hid qaO;rw[if_pos HE.out]
 have i9:¬(64:Int)<(ns.length:Int)+(es.length:Int):=by omega
 have hbe:=qeF hk;have HIK:Hid _:=hik;clear hik hat
 go_wp2_with fail
 refine(qeo b o cap ns k _ hk hl64 (fun i hi=>(HC.out i hi).on hB)).mono ?_;rintro e w9 ⟨rfl,hw⟩;rw[hw];clear hw w9
 by_cases hjl:j<(Pl.qae ns k).length
 ·rcases HIK.out with h0|⟨g,og,rfl,hcell⟩
  ·rw[List.map_eq_nil_iff]at h0;rw[h0]at hjl;simp at hjl
  have hcj:=hcell j hjl;rw[List.getElem_map]at hcj
  have HPl:Hid (placeOf ns k j=(Pl.qae ns k)[j]):=by
   unfold Hid placeOf;rw[if_pos (by omega)];simp[List.getD,List.getElem?_eq_getElem hjl]
  have hpl:(Pl.qae ns k)[j]<ns.length:=kids_lt (List.getElem_mem hjl);generalize (Pl.qae ns k)[j]=P at *;have j1:(j:Int)<((Pl.qae ns k).length:Int):=by omega
  clear hcell
  go_wp2_with fail
  refine(qfq b o cap b2 o2 cap2 ns es k P w4 (by omega) (by omega) hc1 (fun i hi=>(HC.out i hi).on hB) (fun i hi=>(HCC.out i hi).on hB) HS.out HS2.out).mono ?_;rintro e w5 ⟨v5,B,rfl,hBB,hrow,hb5⟩;replace c2:=qab hb5 c2;replace f2:w5.frozen? ⟨w.heap.size+1+1,0,none⟩=false:=by rw[hb5.frozen (by simp;omega)];exact f2
  replace hB:=qaa hB hb5;obtain⟨a5,l5,c5,rfl,_,_⟩:=Row.cap (RowS.weak hrow);have HR:Hid _:=hrow;clear hb5 hrow c0 c1;go_wp2;have q:=World.cell?_setCell_same w5 ⟨w.heap.size+1+1,0,none⟩ (.slice a5 l5 c5) c2
  refine bodyPost_ret (v:=.tuple #[.agg #[.slice a5 l5 c5],.int .i64 0]) (by simp[results,Tryz.results35,go_sem,q]) rfl
   ⟨_,by rw[HE.out],?_,hB.setCell (p:=⟨w.heap.size+1+1,0,none⟩) (by simp;omega) _⟩
  rw[HP.out,HPl.out];have HR2:=RowS.set HR.out (M:=w.heap.size+1+1) (j:=0) (by omega) c2 (by simp) (.slice a5 l5 c5);exact⟨B,by omega,HR2,HR2.weak.doc (by rw[qdT];omega) (qdE HS.out HS2.out _ _)⟩
 ·have HPl:Hid (placeOf ns k j=Pl.behind ns k):=by
   unfold Hid placeOf;rw[if_neg (by omega)];rfl
  have j1:¬(j:Int)<((Pl.qae ns k).length:Int):=by omega
  go_wp2_with fail
  refine(qfq b o cap b2 o2 cap2 ns es k (Pl.behind ns k) w4 (by omega) (by omega) hc1 (fun i hi=>(HC.out i hi).on hB) (fun i hi=>(HCC.out i hi).on hB) HS.out HS2.out).mono ?_;rintro e w5 ⟨v5,B,rfl,hBB,hrow,hb5⟩;replace c2:=qab hb5 c2;replace f2:w5.frozen? ⟨w.heap.size+1+1,0,none⟩=false:=by rw[hb5.frozen (by simp;omega)];exact f2
  replace hB:=qaa hB hb5;obtain⟨a5,l5,c5,rfl,_,_⟩:=Row.cap (RowS.weak hrow);have HR:Hid _:=hrow;clear hb5 hrow c0 c1;go_wp2;have q:=World.cell?_setCell_same w5 ⟨w.heap.size+1+1,0,none⟩ (.slice a5 l5 c5) c2
  refine bodyPost_ret (v:=.tuple #[.agg #[.slice a5 l5 c5],.int .i64 0]) (by simp[results,Tryz.results35,go_sem,q]) rfl
   ⟨_,by rw[HE.out],?_,hB.setCell (p:=⟨w.heap.size+1+1,0,none⟩) (by simp;omega) _⟩
  rw[HP.out,HPl.out];have HR2:=RowS.set HR.out (M:=w.heap.size+1+1) (j:=0) (by omega) c2 (by simp) (.slice a5 l5 c5);exact⟨B,by omega,HR2,HR2.weak.doc (by rw[qdT];omega) (qdE HS.out HS2.out _ _)⟩
theorem DocS.doc {n:Nat}{w:World}{v:Value}{ns:List Pl.Nd}(h:DocS n w v ns):qar w v ns:=by
 obtain⟨_,_,_,h⟩:=h;exact h
theorem DocS.set {n:Nat}{w:World}{v:Value}{ns:List Pl.Nd}(h:DocS n w v ns){M j:Nat}{old:Value}(hM:M<n)(h2:w.cell? ⟨M,j,none⟩=some old)(hs:∀s,old≠ .string s)(u:Value):DocS n (w.setCell ⟨M,j,none⟩ u) v ns:=by
 obtain⟨B,h1,hr,hd⟩:=h;have hr2:=hr.set (Nat.lt_of_lt_of_le hM h1) h2 hs u;exact⟨B,h1,hr2,hr2.weak.nds,hd.2.1,hd.2.2⟩
def ClSaysS (E:Int)(ms:List Pl.Nd)(w:World)(e:Ending)(w':World):Prop:=∃v',e=.returned (.tuple #[.agg #[v'],.int .i64 E])∧DocS w.heap.size w' v' ms∧Below w.heap.size w w'
theorem insClS (dv:Value)(ns:List Pl.Nd)(up at_:Int)(N1 N2 N3:Nat)(a3:Option Addr)(c3:Nat)(es:List Pl.Nd)(w:World)(hd:qar w dv ns)(h1:w.cell? ⟨N1,0,none⟩=some (.int .i64 up))(h2:w.cell? ⟨N2,0,none⟩=some (.int .i64 at_))(h3:w.cell? ⟨N3,0,none⟩=some (.slice a3 es.length c3))(hd2:qar w (.slice a3 es.length c3) es):
 Calls Tryz.prog 34 #[.agg #[dv],.pointer (some ⟨N1,0,none⟩),.pointer (some ⟨N2,0,none⟩),.pointer (some ⟨N3,0,none⟩)] w fun e w'=>ClSaysS (qax ns up at_ es) (qaO ns up at_ es) w e w':=by
 obtain⟨a,c,rfl⟩:=hd.form;have hb0:=boxes w (.cells #[.slice a ns.length c] 24) (.cells #[.slice none 0 0] 24)
 have bR:Blk1 ((w.alloc (.cells #[.slice a ns.length c] 24)).alloc (.cells #[.slice none 0 0] 24)) (w.heap.size+1) (.slice none 0 0):=by
  have:=Blk1.new (w.alloc (.cells #[.slice a ns.length c] 24)) (.slice none 0 0)
  simpa using this
 have bS:Blk1 ((w.alloc (.cells #[.slice a ns.length c] 24)).alloc (.cells #[.slice none 0 0] 24)) w.heap.size (.slice a ns.length c):=(Blk1.new w _).on (qac _ _);obtain⟨x0,_⟩:=bS.facts;have x1:=qab hb0 h1;have x2:=qab hb0 h2;have x3:=qab hb0 h3;have HD2:Hid (qar _ _ _):=hd2.on hb0;clear h1 h2 h3 hd2;have HD:Hid (qar _ _ _):=hd.on hb0;have HB0:Hid (Below _ _ _):=hb0;have HBR:Hid (Blk1 _ _ _):=bR;have HSZ:Hid (w.heap.size+2≤((w.alloc (.cells #[.slice a ns.length c] 24)).alloc (.cells #[.slice none 0 0] 24)).heap.size):=by unfold Hid;simp
 clear hd hb0 bR bS;go_enter Tryz.func34,Tryz.ntmps34
 go_wp2_with fail
 generalize (w.alloc (.cells #[.slice a ns.length c] 24)).alloc (.cells #[.slice none 0 0] 24)=w0 at *;refine(qiY _ _ ns es up at_ _ HD.out HD2.out).mono ?_;rintro e w1 ⟨v1,rfl,hd1,hb1⟩;obtain⟨a1,c1,rfl⟩:=hd1.doc.form;have bR1:=Blk1.on HBR.out hb1;obtain⟨r0,fR⟩:=bR1.facts;have HD1:Hid (DocS w.heap.size (w1.setCell ⟨w.heap.size+1,0,none⟩ (.slice a1 (qaO ns up at_ es).length c1)) (.slice a1 (qaO ns up at_ es).length c1) (qaO ns up at_ es)):=DocS.mono (hd1.set (M:=w.heap.size+1) (j:=0) (by have:=HSZ.out;omega) r0 (by simp) _) (by have:=HSZ.out;omega);have HQ0:Hid _:=(bR1.set (.slice a1 (qaO ns up at_ es).length c1)).facts.1;have HB1:Hid (Below w.heap.size w w1):=qaa HB0.out hb1;clear hd1 hb1 bR1;have Hgen:Hid (∃D,D=qaO ns up at_ es):=⟨_,rfl⟩
 generalize hD:qaO ns up at_ es=D at HD1 HQ0 ⊢;generalize hE:qax ns up at_ es=EE at *;have HDe:Hid _:=hD;have HEe:Hid _:=hE;clear hD hE Hgen;go_wp2;have q0:=HQ0.out
 exact bodyPost_ret (v:=.tuple #[.agg #[.slice a1 D.length c1],.int .i64 EE]) (by simp[results,Tryz.results34,go_sem,q0]) rfl
  ⟨_,by rw[HEe.out],by rw[HDe.out];exact HD1.out,HB1.out.setCell (p:=⟨w.heap.size+1,0,none⟩) (by simp) _⟩
def qfr (x y:Pl.Er):Bool:=decide (x=y)
def IdxSays (err:Int)(ns:List Pl.Nd)(w:World)(e:Ending)(w':World):Prop:=
 ∃v,e=.returned (.tuple #[v,.int .i64 (qd8 err ns)])∧PgAt w' v (qd9 err ns) (qeb err ns)∧Below w.heap.size w w'
theorem two_boxes (w:World)(o1 o2:Obj):((w.alloc o1).alloc o2).heap.size=w.heap.size+2:=by simp
def IdxSaysK (K:Kd)(n:Nat)(err:Int)(ns:List Pl.Nd)(w:World)(e:Ending)(w':World):Prop:=
 ∃v,e=.returned (.tuple #[v,.int .i64 (qd8 err ns)])∧(PgAt w' v (qd9 err ns) (qeb err ns)∧PgK K n w' v)∧Below w.heap.size w w'
theorem qiC {K:Kd}(hK:KK K)(n:Nat)(v:Value)(ns:List Pl.Nd)(err:Int)(w:World)(hd:qar w v ns)(hk:K w v)(hn:n≤w.heap.size):
 Calls Tryz.prog 29 #[.agg #[v],.int .i64 err] w fun e w'=>IdxSaysK K n err ns w e w':=by
 obtain⟨a,c,rfl⟩:=hd.form;have hb0:=boxes w (.cells #[.slice a ns.length c] 24) (.cells #[.slice none 0 0,.slice none 0 0] 32)
 have bR:Blk2 ((w.alloc (.cells #[.slice a ns.length c] 24)).alloc (.cells #[.slice none 0 0,.slice none 0 0] 32)) (w.heap.size+1) (.slice none 0 0) (.slice none 0 0):=by
  have:=Blk2.new (w.alloc (.cells #[.slice a ns.length c] 24)) (.slice none 0 0) (.slice none 0 0)
  simpa using this
 have bS:Blk1 ((w.alloc (.cells #[.slice a ns.length c] 24)).alloc (.cells #[.slice none 0 0,.slice none 0 0] 32)) w.heap.size (.slice a ns.length c):=(Blk1.new w _).on (qac _ _);have hz:=two_boxes w (.cells #[.slice a ns.length c] 24) (.cells #[.slice none 0 0,.slice none 0 0] 32);have HD:Hid (qar ((w.alloc (.cells #[.slice a ns.length c] 24)).alloc (.cells #[.slice none 0 0,.slice none 0 0] 32)) (.slice a ns.length c) ns):=hd.on hb0;have HK:Hid (K _ _):=hK.goes _ _ _ hb0 hk;have HKK:Hid (KK K):=hK;have HB0:Hid (Below _ _ _):=hb0;have HBR:Hid (Blk2 _ _ _ _):=bR;have HBS:Hid (Blk1 _ _ _):=bS;clear hd hb0 bR bS hk hK
 cases he:(err !=0) with
 | true=>
  have HA:Hid (qd8 err ns=err∧qd9 err ns=[]∧qeb err ns=[]):=by
   have:¬err=0:=by simpa using he
   unfold Hid qd8 qd9 qeb;simp[this]
  obtain⟨⟨r0,r1⟩,fR⟩:=HBR.out.facts;go_enter Tryz.func29,Tryz.ntmps29;go_wp2
  exact bodyPost_ret (v:=.tuple #[.agg #[.slice none 0 0,.slice none 0 0],.int .i64 err]) (by simp[results,Tryz.results29,go_sem]) rfl
   ⟨_,by rw[HA.out.1],by rw[HA.out.2.1,HA.out.2.2];exact⟨PgAt.nil _,PgK.nil HKK.out _ _⟩,HB0.out⟩
 | false=>
  have he0:err=0:=by simpa using he
  have HA:Hid (qd8 err ns=Pl.qad ns∧qd9 err ns=(if Pl.qad ns=0 then ns else [])∧qeb err ns=Pl.qaq ns):=by
   unfold Hid qd8 qd9 qeb;simp[he0]
  clear he0;obtain⟨s0,_⟩:=HBS.out.facts;go_enter Tryz.func29,Tryz.ntmps29
  go_wp2_with fail
  generalize (w.alloc (.cells #[.slice a ns.length c] 24)).alloc (.cells #[.slice none 0 0,.slice none 0 0] 32)=w0 at *;refine(build_k _ ns _ HD.out).mono ?_;rintro e w1 ⟨u,rfl,hen,hik,hb1⟩;obtain⟨au,cu,rfl⟩:=hen.form;have HB1:Hid (Below w.heap.size w w1):=qaa HB0.out hb1;have bR1:=Blk2.on HBR.out hb1;have bS1:=Blk1.on HBS.out hb1;have hdk1:=HKK.out.goes _ _ _ hb1 HK.out;have hik1:idxK n w1 _:=idxK.mono (by omega) hik;clear hik;have hd1:qar w1 (.slice a ns.length c) ns:=qar.on HD.out hb1;obtain⟨⟨r0,r1⟩,fR⟩:=bR1.facts;obtain⟨t0,_⟩:=bS1.facts
  cases hc:(Pl.qad ns !=0) with
  | true=>
   have hc0:¬Pl.qad ns=0:=by simpa using hc
   have HI:Hid (Pl.qaq ns=[]):=by unfold Hid Pl.qaq;rw[if_neg hc0]
   have HDD:Hid ((if Pl.qad ns=0 then ns else [])=([]:List Pl.Nd)):=if_neg hc0;obtain⟨p1,p2⟩:=PgAt.box (ns:=[]) (l:=[]) (qar.nil _) (qbl.nil _) bR1;obtain⟨⟨q0,q1⟩,_⟩:=p2.facts;have pk:=PgK.box HKK.out (HKK.out.nil w1) (kArr.nil n _ _ w1) bR1 rfl rfl;simp only[List.length_nil]at p1 q0 q1;have HP1:Hid (PgAt _ _ _ _∧PgK K n _ _):=⟨p1,pk⟩
   have HQ0:Hid _:=q0;have HQ1:Hid _:=q1;clear p1 p2 pk q0 q1 hc0 hen hd1 hdk1 hik1 bR1 bS1 hb1 s0;generalize Pl.qad ns=r at *;go_wp2;have q0:=HQ0.out;have q1:=HQ1.out
   exact bodyPost_ret (v:=.tuple #[.agg #[.slice none 0 0,.slice none 0 0],.int .i64 r]) (by simp[results,Tryz.results29,go_sem,q0,q1]) rfl
    ⟨_,by rw[HA.out.1],by rw[HA.out.2.1,HA.out.2.2,HI.out,HDD.out];exact HP1.out,(HB1.out.setCell (p:=⟨w.heap.size+1,0,none⟩) (by simp) _).setCell (p:=⟨w.heap.size+1,1,none⟩) (by simp) _⟩
  | false=>
   have hc0:Pl.qad ns=0:=by simpa using hc
   have HDD:Hid ((if Pl.qad ns=0 then ns else [])=ns):=if_pos hc0;have HE0:Hid (qd8 err ns=0):=by rw[HA.out.1];exact hc0
   obtain⟨p1,p2⟩:=PgAt.box hd1 hen bR1;have pk:=PgK.box HKK.out hdk1 hik1 bR1 rfl rfl;obtain⟨⟨q0,q1⟩,_⟩:=p2.facts;have HP1:Hid (PgAt _ _ _ _∧PgK K n _ _):=⟨p1,pk⟩
   have HQ0:Hid _:=q0;have HQ1:Hid _:=q1;clear p1 p2 pk q0 q1 hc0 hen hd1 hdk1 hik1 bR1 bS1 hb1 s0;generalize Pl.qad ns=r at *;generalize Pl.qaq ns=l at *;go_wp2;have q0:=HQ0.out;have q1:=HQ1.out
   exact bodyPost_ret (v:=.tuple #[.agg #[.slice a ns.length c,.slice au l.length cu],.int .i64 0]) (by simp[results,Tryz.results29,go_sem,q0,q1]) rfl
    ⟨_,by rw[HE0.out],by rw[HA.out.2.1,HA.out.2.2,HDD.out];exact HP1.out,(HB1.out.setCell (p:=⟨w.heap.size+1,0,none⟩) (by simp) _).setCell (p:=⟨w.heap.size+1,1,none⟩) (by simp) _⟩
theorem qiU (v:Value)(ns:List Pl.Nd)(err:Int)(w:World)(hd:qar w v ns):
 Calls Tryz.prog 29 #[.agg #[v],.int .i64 err] w fun e w'=>IdxSays err ns w e w':=by
 refine(qiC kk_all 0 v ns err w hd trivial (Nat.zero_le _)).mono ?_;rintro e w' ⟨v,h1,⟨h2,-⟩,h3⟩;exact⟨v,h1,h2,h3⟩
def qcI (l:List Pl.Er):Prop:=l.length≤maxLen∧∀e∈l,e.2.length≤maxLen
theorem ix_ans (ns:List Pl.Nd):qcI (Pl.qaq ns):=⟨by have:=(qis ns).1;unfold maxLen;omega,fun e he=>by have:=(qis ns).2 e he;unfold maxLen;omega⟩
def qe8 (pe E:Int)(ms:List Pl.Nd):Int:=if pe=0 then qd8 E ms else pe
def qeT (pe E:Int)(ms:List Pl.Nd):List Pl.Nd:=if pe=0 then qd9 E ms else []
def qeZ (pe E:Int)(ms:List Pl.Nd):List Pl.Er:=if pe=0 then qeb E ms else []
def ChSays (pe E:Int)(ms:List Pl.Nd)(w:World)(e:Ending)(w':World):Prop:=
 ∃v,e=.returned (.tuple #[v,.int .i64 (qe8 pe E ms)])∧PgAt w' v (qeT pe E ms) (qeZ pe E ms)∧Below w.heap.size w w'
theorem PgAt.form {w:World}{v:Value}{ns:List Pl.Nd}{l:List Pl.Er}(h:PgAt w v ns l):∃a c a2 c2,v=.agg #[.slice a ns.length c,.slice a2 l.length c2]:=by
 obtain⟨a,c,a2,c2,e,_,_⟩:=h;exact⟨a,c,a2,c2,e⟩
def ClSays (E:Int)(ms:List Pl.Nd)(w:World)(e:Ending)(w':World):Prop:=∃v',e=.returned (.tuple #[.agg #[v'],.int .i64 E])∧qar w' v' ms∧Below w.heap.size w w'
theorem open_any (v:Value)(ns:List Pl.Nd)(w:World)(hd:qar w v ns):Calls Tryz.prog 6 #[.agg #[v]] w fun e w'=>IdxSays (qai ns 0) (partOf ns 0) w e w':=by
 obtain⟨a,c,rfl⟩:=hd.form;have hb0:=boxes w (.cells #[.slice a ns.length c] 24) (.cells #[.slice none 0 0,.slice none 0 0] 32)
 have bR:Blk2 ((w.alloc (.cells #[.slice a ns.length c] 24)).alloc (.cells #[.slice none 0 0,.slice none 0 0] 32)) (w.heap.size+1) (.slice none 0 0) (.slice none 0 0):=by
  have:=Blk2.new (w.alloc (.cells #[.slice a ns.length c] 24)) (.slice none 0 0) (.slice none 0 0)
  simpa using this
 have bS:Blk1 ((w.alloc (.cells #[.slice a ns.length c] 24)).alloc (.cells #[.slice none 0 0,.slice none 0 0] 32)) w.heap.size (.slice a ns.length c):=(Blk1.new w _).on (qac _ _);obtain⟨x0,_⟩:=bS.facts;have HD:Hid (qar _ _ _):=hd.on hb0;have HB0:Hid (Below _ _ _):=hb0;have HBR0:Hid (Blk2 _ _ _ _):=bR;clear hd hb0 bR bS;go_enter Tryz.func6,Tryz.ntmps6
 go_wp2_with fail
 generalize (w.alloc (.cells #[.slice a ns.length c] 24)).alloc (.cells #[.slice none 0 0,.slice none 0 0] 32)=w0 at *;refine(part_any _ ns 0 _ HD.out).mono ?_;rintro e w1 ⟨v1,rfl,hd1,hb1⟩;obtain⟨a1,c1,rfl⟩:=hd1.form;have HD1:Hid (qar _ _ _):=hd1;have HBR:Hid (Blk2 _ _ _ _):=Blk2.on HBR0.out hb1;have HBA:Hid (Below w.heap.size w w1):=qaa HB0.out hb1;clear hd1 hb1;generalize hP:partOf ns 0=P at HD1 ⊢;generalize hC:qai ns 0=C;have HPe:Hid _:=hP;have HCe:Hid _:=hC;clear hP hC
 go_wp2_with fail
 refine(qiU _ P C _ HD1.out).mono ?_;rintro e wz ⟨vz,rfl,hpz,hbz⟩;obtain⟨a8,c8,a9,c9,rfl,hd8,he9⟩:=hpz;have HBz:Hid (Below w.heap.size w wz):=qaa HBA.out hbz;have bRz:=Blk2.on HBR.out hbz;obtain⟨⟨r0,r1⟩,fR⟩:=bRz.facts;obtain⟨p1,p2⟩:=PgAt.box hd8 he9 bRz;obtain⟨⟨q0,q1⟩,_⟩:=p2.facts;have HP1:Hid (PgAt _ _ _ _):=p1;have HQ0:Hid _:=q0;have HQ1:Hid _:=q1;clear p1 p2 q0 q1 hd8 he9 bRz hbz;generalize hD:qd9 C P=D at HP1 HQ0 HQ1 ⊢;generalize hI:qeb C P=I at HP1 HQ0 HQ1 ⊢;generalize hE:qd8 C P=EE at *;have HDe:Hid _:=hD;have HIe:Hid _:=hI;have HEe:Hid _:=hE;clear hD hI hE;go_wp2;have q0:=HQ0.out;have q1:=HQ1.out
 exact bodyPost_ret (v:=.tuple #[.agg #[.slice a8 D.length c8,.slice a9 I.length c9],.int .i64 EE]) (by simp[results,Tryz.results6,go_sem,q0,q1]) rfl
  ⟨_,by rw[HPe.out,HCe.out,HEe.out],by rw[HPe.out,HCe.out,HDe.out,HIe.out];exact HP1.out,(HBz.out.setCell (p:=⟨w.heap.size+1,0,none⟩) (by first|(simp;done)|(simp;omega)) _).setCell (p:=⟨w.heap.size+1,1,none⟩) (by first|(simp;done)|(simp;omega)) _⟩
theorem remove_any (v:Value)(ns:List Pl.Nd)(n:Int)(w:World)(hd:qar w v ns):
 Calls Tryz.prog 37 #[.agg #[v],.int .i64 n] w fun e w'=>∃v',e=.returned (.tuple #[.agg #[v'],.int .i64 (qbz ns n)])∧qar w' v' (qcc ns n)∧Below w.heap.size w w':=by
 obtain⟨hv,hcap,hf⟩:=hd;obtain⟨a,cap,rfl,hc⟩:=id hv;have HV:Hid _:=hv;clear hv;obtain⟨_,_,_,e0,hc1,hc2⟩:=hcap;injection e0 with e1 e2 e3;subst e1 e2 e3
 cases hz:(qai ns n !=0) with
 | true=>
  have hz1:¬qai ns n=0:=by simpa using hz
  have HE:Hid (qbz ns n=qai ns n):=by unfold Hid qbz;rw[if_neg hz1]
  have HP:Hid (qcc ns n=[]):=by unfold Hid qcc;rw[if_neg (by rw[HE.out];exact hz1)]
  clear hc hz1;go_enter Tryz.func37,Tryz.ntmps37
  go_wp2_with fail
  refine(qcf _ ns _ _ hf (qa8.on HV.out (((Below.refl _ _).alloc (Nat.le_refl _) _).alloc (by simp) _ |>.alloc (by simp;omega) _))).mono ?_;rintro e w1 ⟨rfl,h1⟩;have hB:Below w.heap.size w w1:=qaa (((Below.refl _ _).alloc (Nat.le_refl _) _).alloc (by simp) _ |>.alloc (by simp;omega) _) h1;have c0:=qab (p:=⟨w.heap.size+1+1,0,none⟩) (v:=.slice none 0 0) h1 (by simp[go_sem]);have f0:w1.frozen? ⟨w.heap.size+1+1,0,none⟩=false:=by rw[h1.frozen (by simp)];simp[go_sem]
  generalize hE:qai ns n=E at *;clear h1;go_wp2;have q:=World.cell?_setCell_same w1 ⟨w.heap.size+1+1,0,none⟩ (.slice none 0 0) c0
  exact bodyPost_ret (v:=.tuple #[.agg #[.slice none 0 0],.int .i64 E]) (by simp[results,Tryz.results37,go_sem,q]) rfl
   ⟨_,by rw[HE.out],by rw[HP.out];exact qar.nil _,hB.setCell (p:=⟨w.heap.size+1+1,0,none⟩) (by simp;omega) _⟩
 | false=>
  have hz0:qai ns n=0:=by simpa using hz
  obtain⟨hk0,k,rfl,hk⟩:=qcp hz0;obtain⟨hl1,hl64,_⟩:=qa9 hk0;have hsh:=qa6 hk0
  rcases hc with hc|⟨b,o,rfl,hc⟩
  ·subst hc;simp at hl1
  have hbe:=qeF hk;have HC:Hid _:=hc;have HS:Hid _:=hsh;clear hc hz hk0 hsh
  by_cases hk1:(k:Int)=0
  ·have HE:Hid (qbz ns k=3):=by unfold Hid qbz;rw[if_pos hz0,if_pos hk1]
   have HP:Hid (qcc ns k=[]):=by unfold Hid qcc;rw[if_neg (by rw[HE.out];omega)]
   go_enter Tryz.func37,Tryz.ntmps37
   go_wp2_with fail
   refine(qcf _ ns _ _ hf (qa8.on HV.out (((Below.refl _ _).alloc (Nat.le_refl _) _).alloc (by simp) _ |>.alloc (by simp;omega) _))).mono ?_;rintro e w1 ⟨rfl,h1⟩;rw[show qai ns 0=0 by rw[hk1]at hz0;exact hz0];have hB:Below w.heap.size w w1:=qaa (((Below.refl _ _).alloc (Nat.le_refl _) _).alloc (by simp) _ |>.alloc (by simp;omega) _) h1;have c1:=qab (p:=⟨w.heap.size+1,0,none⟩) (v:=.int .i64 0) h1 (by simp[go_sem]);have c0:=qab (p:=⟨w.heap.size+1+1,0,none⟩) (v:=.slice none 0 0) h1 (by simp[go_sem]);have f0:w1.frozen? ⟨w.heap.size+1+1,0,none⟩=false:=by rw[h1.frozen (by simp)];simp[go_sem]
   clear h1;go_wp2;have q:=World.cell?_setCell_same w1 ⟨w.heap.size+1+1,0,none⟩ (.slice none 0 0) c0
   exact bodyPost_ret (v:=.tuple #[.agg #[.slice none 0 0],.int .i64 3]) (by simp[results,Tryz.results37,go_sem,q]) rfl
    ⟨_,by rw[HE.out],by rw[HP.out];exact qar.nil _,hB.setCell (p:=⟨w.heap.size+1+1,0,none⟩) (by simp;omega) _⟩
  ·have HE:Hid (qbz ns k=0):=by unfold Hid qbz;rw[if_pos hz0,if_neg hk1]
   have HP:Hid (qcc ns k=(ns.take k).map (Pl.mvd id)++(ns.drop (Pl.behind ns k)).map (Pl.mvd (Pl.qdw k ((Pl.behind ns k:Int)-k)))):=by unfold Hid qcc;rw[if_pos HE.out];rfl
   have i1:(0:Int)≤(k:Int):=by omega
   have i3:(Pl.behind ns k:Int)≤(ns.length:Int):=by omega
   have i5:(ns.length:Int)≤(cap:Int):=by omega
   have i6:(0:Int)≤(Pl.behind ns k:Int):=by omega
   have i7:(k:Int)≤(cap:Int):=by omega
   go_enter Tryz.func37,Tryz.ntmps37
   go_wp2_with fail
   have hB0:=(((Below.refl w.heap.size w).alloc (Nat.le_refl _) (.cells #[.slice (some ⟨b,o,none⟩) ns.length cap] 24)).alloc (by simp) (.cells #[.int .i64 k] 3)).alloc (by simp;omega) (.cells #[.slice none 0 0] 24);refine(qcf _ ns _ _ hf (qa8.on HV.out hB0)).mono ?_;rintro e w1 ⟨rfl,h1⟩;rw[hz0];have hB:Below w.heap.size w w1:=qaa hB0 h1;have c0:=qab (p:=⟨w.heap.size,0,none⟩) (v:=.slice (some ⟨b,o,none⟩) ns.length cap) h1 (by simp[go_sem]);have c1:=qab (p:=⟨w.heap.size+1,0,none⟩) (v:=.int .i64 k) h1 (by simp[go_sem]);have c2:=qab (p:=⟨w.heap.size+1+1,0,none⟩) (v:=.slice none 0 0) h1 (by simp[go_sem]);have f2:w1.frozen? ⟨w.heap.size+1+1,0,none⟩=false:=by rw[h1.frozen (by simp)];simp[go_sem]
   have hsz:w.heap.size+3≤w1.heap.size:=by have:=h1.size;simp at this;omega
   clear h1 hB0
   go_wp2_with fail
   refine(qeo b o cap ns k _ hk hl64 (fun i hi=>(HC.out i hi).on hB)).mono ?_;rintro e w9 ⟨rfl,hw⟩;rw[hw];clear hw w9;have d0:=qab (qac w1 (.cells #[.int .i64 (Pl.behind ns k)] 3)) c0;have d1:=qab (qac w1 (.cells #[.int .i64 (Pl.behind ns k)] 3)) c1;have d2:=qab (qac w1 (.cells #[.int .i64 (Pl.behind ns k)] 3)) c2;have d3:(w1.alloc (.cells #[.int .i64 (Pl.behind ns k)] 3)).cell? ⟨w1.heap.size,0,none⟩=some (.int .i64 (Pl.behind ns k)):=by simp[go_sem]
   have f3:(w1.alloc (.cells #[.int .i64 (Pl.behind ns k)] 3)).frozen? ⟨w.heap.size+1+1,0,none⟩=false:=by rw[(qac w1 _).frozen (by simp;omega)];exact f2
   have hB2:=qaa hB (qac w1 (.cells #[.int .i64 (Pl.behind ns k)] 3));have hsz2:(w1.alloc (.cells #[.int .i64 (Pl.behind ns k)] 3)).heap.size=w1.heap.size+1:=by simp
   go_wp2_with fail
   generalize w1.alloc (.cells #[.int .i64 (Pl.behind ns k)] 3)=w2 at *;clear c0 c1 c2 f2 hB;have HC2:Hid (∀W,Below w2.heap.size w2 W→∀i (h:i<ns.length),NdAt W b (o+i*5) ns[i]):=fun W hW i hi=>((HC.out i hi).on hB2).on hW
   refine(qhh 83 #[] id w2.heap.size _ _ [] (ns.take k) w2 (Nat.le_refl _) (Row.nil _ _) (by simp;omega) enter52 (fun x hx=>HS.out x (List.mem_of_mem_take hx)) (qa8.head (HC2.out _ (Below.refl _ _)) k cap (by omega)) (fun W hW=>qa8.head (HC2.out _ hW) k cap (by omega)) (fun W u _=>qhH u W)).mono ?_;rintro e w3 ⟨v3,rfl,hrow,hb3⟩;rw[List.nil_append]at hrow;replace d0:=qab hb3 d0;replace d1:=qab hb3 d1;replace d2:=qab hb3 d2;replace d3:=qab hb3 d3;replace f3:w3.frozen? ⟨w.heap.size+1+1,0,none⟩=false:=by rw[hb3.frozen (by simp;omega)];exact f3
   obtain⟨a3,l3,c3,rfl,_,_⟩:=Row.cap hrow;have HR:Hid _:=hrow;have HB3:Hid _:=hb3;have HB2:Hid _:=hB2;clear hrow hb3 hB2
   go_wp2_with fail
   all_goals
    refine(qhh 84 #[.pointer (some ⟨w.heap.size+1,0,none⟩),.pointer (some ⟨w1.heap.size,0,none⟩)] (Pl.qdw k ((Pl.behind ns k:Int)-k)) w2.heap.size _ _ _ (ns.drop (Pl.behind ns k)) w3 HB3.out.size HR.out ?_ enter53 (fun x hx=>HS.out x (List.mem_of_mem_drop hx)) ?_ ?_ ?_).mono ?_
    ·simp;omega
    ·first|exact qa8.tail (HC2.out _ HB3.out) (Pl.behind ns k) _ (by omega)|exact qa8.void _ _ _ (by omega)
    ·intro W hW
     first|exact qa8.tail (HC2.out _ (HB3.out.trans hW)) (Pl.behind ns k) _ (by omega)|exact qa8.void _ _ _ (by omega)
    ·intro W u hW;refine rem1_any _ _ _ _ _ _ ?_ ?_ ?_
     ·rw[hW.cell (by simp;omega)];exact d1
     ·rw[hW.cell (by simp;omega)];exact d3
     ·rw[IntWalk.i64_left,IntWalk.wrap64_in _ ⟨by omega,by omega⟩]
    rintro e w4 ⟨v4,rfl,hrow,hb4⟩;have e2:w4.cell? ⟨w.heap.size+1+1,0,none⟩=some (.slice none 0 0):=by rw[hb4.cell (by simp;omega)];exact d2
    have f4:w4.frozen? ⟨w.heap.size+1+1,0,none⟩=false:=by rw[hb4.frozen (by simp;omega)];exact f3
    have hB4:Below w.heap.size w w4:=qaa HB2.out (HB3.out.trans hb4);obtain⟨a4,l4,c4,rfl,_,_⟩:=Row.cap hrow;have HR4:Hid _:=hrow;clear hb4 hrow d0 d1 d2 d3 f3;go_wp2;have q:=World.cell?_setCell_same w4 ⟨w.heap.size+1+1,0,none⟩ (.slice a4 l4 c4) e2
    refine bodyPost_ret (v:=.tuple #[.agg #[.slice a4 l4 c4],.int .i64 0]) (by simp[results,Tryz.results37,go_sem,q]) rfl
     ⟨_,by rw[HE.out],?_,hB4.setCell (p:=⟨w.heap.size+1+1,0,none⟩) (by simp;omega) _⟩
    rw[HP.out];have hr:=Row.set HR4.out (M:=w.heap.size+1+1) (j:=0) (by omega) e2 (by simp) (.slice a4 l4 c4);refine hr.doc (by simp;omega) ?_;intro x hx
    rcases List.mem_append.1 hx with hx|hx
    ·exact qcK (fun x hx=>HS.out x (List.mem_of_mem_take hx)) x hx
    ·exact qcK (fun x hx=>HS.out x (List.mem_of_mem_drop hx)) x hx
end Go.Proofs.YtephhllfodlfbaaGreatDoor
