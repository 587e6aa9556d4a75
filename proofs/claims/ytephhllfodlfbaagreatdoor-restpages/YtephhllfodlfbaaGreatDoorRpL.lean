/-
  The law RestPages, walked: what came is stored over, and nothing that was handed in has changed.
-/
import Derived.Test.YtephhllfodlfbaaGreatDoorRpA
set_option maxRecDepth 100000
set_option maxHeartbeats 16000000
namespace Go.Proofs.YtephhllfodlfbaaGreatDoor
open Go.RowKit
theorem rest_walk (w:World)(a a2 a3 al:Option Addr)(c c2 c3 cl:Nat)(ns es ms D:List Pl.Nd)(ix I:List Pl.Er)(up at_ E:Int)(l m:List Pl.D3)(hC:RCon w a a2 a3 al c c2 c3 cl ns es ms D ix I up at_ E l m)
 (hp:PgAt w (.agg #[.slice a ns.length c,.slice a2 ix.length c2]) ns ix) (hl:A3 w (.slice al l.length cl) l):
 Calls Tryz.prog 5 #[.agg #[.slice a ns.length c,.slice a2 ix.length c2],.int .i64 up,.int .i64 at_,.agg #[.slice a3 es.length c3],.slice al l.length cl] w fun e w'=>e=.returned (.bool true)∧Below w.heap.size w w':=by
 have HC:Hid (RCon w a a2 a3 al c c2 c3 cl ns es ms D ix I up at_ E l m):=hC;have HPG:Hid (PgAt w (.agg #[.slice a ns.length c,.slice a2 ix.length c2]) ns ix):=hp;have HLS:Hid (A3 w (.slice al l.length cl) l):=hl;have hb0:=boxes w (.cells #[.slice a ns.length c,.slice a2 ix.length c2] 32) (.cells #[.slice a3 es.length c3] 24);have bP:Blk2 ((w.alloc (.cells #[.slice a ns.length c,.slice a2 ix.length c2] 32)).alloc (.cells #[.slice a3 es.length c3] 24)) w.heap.size (.slice a ns.length c) (.slice a2 ix.length c2):=(Blk2.new w _ _).on (qac _ _)
 have bE:Blk1 ((w.alloc (.cells #[.slice a ns.length c,.slice a2 ix.length c2] 32)).alloc (.cells #[.slice a3 es.length c3] 24)) (w.heap.size+1) (.slice a3 es.length c3):=by
  have:=Blk1.new (w.alloc (.cells #[.slice a ns.length c,.slice a2 ix.length c2] 32)) (.slice a3 es.length c3)
  simpa using this
 have HB0:Hid (Below w.heap.size w ((w.alloc (.cells #[.slice a ns.length c,.slice a2 ix.length c2] 32)).alloc (.cells #[.slice a3 es.length c3] 24))):=hb0;have HP0:Hid (Blk2 ((w.alloc (.cells #[.slice a ns.length c,.slice a2 ix.length c2] 32)).alloc (.cells #[.slice a3 es.length c3] 24)) w.heap.size (.slice a ns.length c) (.slice a2 ix.length c2)):=bP;have HE0:Hid (Blk1 ((w.alloc (.cells #[.slice a ns.length c,.slice a2 ix.length c2] 32)).alloc (.cells #[.slice a3 es.length c3] 24)) (w.heap.size+1) (.slice a3 es.length c3)):=bE;obtain⟨⟨p0,p1⟩,-⟩:=bP.facts;clear hC hp hl hb0 bP bE;go_enter Tryz.func5,Tryz.ntmps5
 go_wp2_with fail
 generalize ((w.alloc (.cells #[.slice a ns.length c,.slice a2 ix.length c2] 32)).alloc (.cells #[.slice a3 es.length c3] 24))=w0 at *;refine(HC.out.pe _ HB0.out).mono ?_;rintro e w1 ⟨rfl,hb1⟩;have HB1:Hid (Below w.heap.size w w1):=qaa HB0.out hb1;have HP1:Hid (Blk2 w1 w.heap.size (.slice a ns.length c) (.slice a2 ix.length c2)):=Blk2.on HP0.out hb1;have HE1:Hid (Blk1 w1 (w.heap.size+1) (.slice a3 es.length c3)):=Blk1.on HE0.out hb1;clear hb1 p0 p1 HB0 HP0 HE0
 go_wp2_with fail
 refine(HC.out.ckl _ HB1.out).mono ?_;rintro e w2 ⟨rfl,hb2⟩;have HB2:Hid (Below w.heap.size w w2):=qaa HB1.out hb2;have HP2:Hid (Blk2 w2 w.heap.size (.slice a ns.length c) (.slice a2 ix.length c2)):=Blk2.on HP1.out hb2;have HE2:Hid (Blk1 w2 (w.heap.size+1) (.slice a3 es.length c3)):=Blk1.on HE1.out hb2;clear hb2 HB1 HP1 HE1;obtain⟨⟨f0,f1⟩,-⟩:=HP2.out.facts;go_wp2;have S0:w2.drew.cell? ⟨w.heap.size,0,none⟩=some (.slice a ns.length c)∧Below w2.heap.size w2 w2.drew:=⟨f0,(Below.refl _ _).drew⟩
 have hN:w.heap.size<w2.heap.size:=qaV f0
 go_cut [11] (fun s11 wx=>∃M a5 c5 a6 c6,s11=.pointer (some ⟨M,0,none⟩)∧Hid (Blk2 wx M (.slice a5 ns.length c5) (.slice a6 ix.length c6))∧Hid (PgAt wx (.agg #[.slice a5 ns.length c5,.slice a6 ix.length c6]) ns ix)∧Hid (Below w2.heap.size w2 wx))
 case first=>
  clear f0 f1
  go_region_held3 (fun w'=>w'.cell? ⟨w.heap.size,0,none⟩=some (.slice a ns.length c)∧Below w2.heap.size w2 w')
   (first|with_reducible assumption|exact duo1_on (by with_reducible assumption) (by with_reducible assumption)|exact duo1_on (by with_reducible assumption) (qac _ _)|exact qhC hN (by first|exact Nat.le_refl _|omega) (by with_reducible assumption)|exact duo1_set2 hN (by first|exact Nat.le_refl _|omega) (by with_reducible assumption)|exact duo1_re hN (by omega) (by with_reducible assumption))
   (first|(go_at_call 22;refine(HC.out.od _ (qaa HB2.out (qfT (by with_reducible assumption)))).mono ?_;rintro e w5 ⟨a5,c5,rfl,hd5,hb5⟩;have hs5:=hb5.size;(try simp only[World.size_alloc,World.size_drew]at hs5);have e50:=qd4 hb5 ⟨w2.heap.size,0,none⟩;have e51:=qd4 hb5 ⟨w2.heap.size,1,none⟩;have g50:=hb5.frozen (p:=⟨w2.heap.size,0,none⟩);have g51:=hb5.frozen (p:=⟨w2.heap.size,1,none⟩);(try simp[go_sem]at e50);(try simp[go_sem]at e51);(try simp[go_sem]at g50);(try simp[go_sem]at g51))|(go_at_call 23;refine(HC.out.ixo _ (qaa HB2.out (qfT (by with_reducible assumption)))).mono ?_;rintro e w6 ⟨a6,c6,rfl,he6,hb6⟩;have hs6:=hb6.size;(try simp only[World.size_alloc]at hs6);(try (have k60:=(hb6.frozen (p:=⟨w2.heap.size,0,none⟩) (qaV e50)).trans g50));(try (have k61:=(hb6.frozen (p:=⟨w2.heap.size,1,none⟩) (qaV e51)).trans g51));(try (have e60:=qd4 hb6 ⟨w2.heap.size,0,none⟩ _ e50));(try (have e61:=qd4 hb6 ⟨w2.heap.size,1,none⟩ _ e51));have m60:=qd4 hb6 ⟨w5.heap.size,0,none⟩;have m61:=qd4 hb6 ⟨w5.heap.size,1,none⟩;have h60:=hb6.frozen (p:=⟨w5.heap.size,0,none⟩);have h61:=hb6.frozen (p:=⟨w5.heap.size,1,none⟩);(try simp[go_sem]at m60);(try simp[go_sem]at m61);(try simp[go_sem]at h60);(try simp[go_sem]at h61)))
  all_goals
   have hd6:qar w6 (.slice a5 ns.length c5) ns:=by first|exact hd5.on hb6|exact(hd5.on (qac _ _)).on hb6
   have hwx:=qfT (by with_reducible assumption)
   go_wp2_with fail
   go_meet
   first
    | exact⟨_,_,_,_,_,rfl,Blk2.new w6 _ _,⟨_,_,_,_,rfl,hd6.on (qac _ _),he6.on (qac _ _)⟩,hwx⟩
    | exact⟨_,_,_,_,_,rfl,(PgAt.box hd6 he6 ((Blk2.new w5 _ _).on hb6)).2,(PgAt.box hd6 he6 ((Blk2.new w5 _ _).on hb6)).1,hwx⟩
    | exact⟨_,_,_,_,_,rfl,(PgAt.box hd6 he6 (((Blk2.new w2.drew _ _).on hb5).on hb6)).2,(PgAt.box hd6 he6 (((Blk2.new w2.drew _ _).on hb5).on hb6)).1,hwx⟩
    | trace_state
 case' rest=>
  obtain⟨M,a5,c5,a6,c6,rfl,HBM0,HPM0,h3⟩:=hcut;have HB3:Hid (Below w.heap.size w wc):=qaa HB2.out h3.out;have HP3:Hid (Blk2 wc w.heap.size (.slice a ns.length c) (.slice a2 ix.length c2)):=Blk2.on HP2.out h3.out;have HE3:Hid (Blk1 wc (w.heap.size+1) (.slice a3 es.length c3)):=Blk1.on HE2.out h3.out;clear f0 f1 S0 hN h3 HB2 HP2 HE2
  go_wp2_with fail
  refine(HC.out.ol _ HB3.out).mono ?_;rintro e w4 ⟨a7,c7,rfl,hA7,hb4⟩;have HB4:Hid (Below w.heap.size w w4):=qaa HB3.out hb4;have HP4:Hid (Blk2 w4 w.heap.size (.slice a ns.length c) (.slice a2 ix.length c2)):=Blk2.on HP3.out hb4;have HE4:Hid (Blk1 w4 (w.heap.size+1) (.slice a3 es.length c3)):=Blk1.on HE3.out hb4;have HBM4:Hid (Blk2 w4 M (.slice a5 ns.length c5) (.slice a6 ix.length c6)):=Blk2.on HBM0.out hb4;have HPM4:Hid (PgAt w4 (.agg #[.slice a5 ns.length c5,.slice a6 ix.length c6]) ns ix):=PgAt.on HPM0.out hb4;have HA7:Hid (A3 w4 (.slice a7 l.length c7) l):=hA7;clear hb4 hA7 HB3 HP3 HE3 HBM0 HPM0;obtain⟨⟨p0,p1⟩,-⟩:=HP4.out.facts;obtain⟨q0,-⟩:=HE4.out.facts
  go_wp2_with fail
  refine(HC.out.ins _ HB4.out).mono ?_;rintro e w5 ⟨a8,c8,i8,k8,rfl,-,hdk,hik,hb5⟩;have hst:=qac w5 (.cells #[.slice a8 D.length c8,.slice i8 I.length k8] 32);have HN5:Hid (w4.heap.size≤w5.heap.size):=hb5.size;have HBX:Hid (Blk2 (w5.alloc (.cells #[.slice a8 D.length c8,.slice i8 I.length k8] 32)) w5.heap.size (.slice a8 D.length c8) (.slice i8 I.length k8)):=Blk2.new w5 _ _;have HDK:Hid (docK w4.heap.size (w5.alloc (.cells #[.slice a8 D.length c8,.slice i8 I.length k8] 32)) (.slice a8 D.length c8)):=docK.goes _ _ _ _ hst hdk;have HIK:Hid (idxK w4.heap.size (w5.alloc (.cells #[.slice a8 D.length c8,.slice i8 I.length k8] 32)) (.slice i8 I.length k8)):=idxK.goes _ _ _ _ hst hik;have HB6:Hid (Below w4.heap.size w4 (w5.alloc (.cells #[.slice a8 D.length c8,.slice i8 I.length k8] 32))):=qaa hb5 hst;have hdm:=kArr.len hdk;have him:=kArr.len hik;unfold maxLen at hdm him;clear hst hdk hik hb5 p0 p1 q0;go_wp2;generalize w5.alloc (.cells #[.slice a8 D.length c8,.slice i8 I.length k8] 32)=w6 at *;generalize w5.heap.size=B at *;clear w5
  go_loopw [15] (fun i wr=>∃k:Nat,k≤D.length∧i=.int .i64 k∧Hid (Sp1 w4.heap.size w6 B a8 i8 D.length c8 I.length k8 wr)) (fun i _=>D.length-(intOf i).toNat)
  case atStart=>exact⟨0,Nat.zero_le _,rfl,⟨qaX.refl _ _,HBX.out⟩⟩
  case round=>
   obtain⟨k,hk,rfl,HS⟩:=hrel;obtain⟨wq,hwq⟩:∃q,q=wr:=⟨_,rfl⟩
   subst hwq;obtain⟨⟨x0,x1⟩,-⟩:=HS.out.box.facts
   by_cases hlt:k<D.length
   ·as_aux_lemma=>
    have hdW:=(docK.stays _).at HS.out.sp HDK.out;obtain⟨b,o,e8,hnb,hfz⟩:=kArr.open hdW hlt;subst e8;obtain⟨u3,y3,h3⟩:=hdW.cell hlt (j:=3) (by omega);obtain⟨a30,l30,c30,e3⟩:=kArr.form h3;subst e3;have HK3:Hid (kArr w4.heap.size 1 (fun _=>kStr) wq (.slice a30 l30 c30)):=h3;have hl30:=kArr.len h3;unfold maxLen at hl30;have HY3:Hid (wq.cell? ⟨b,o+k*5+3,none⟩=some (.slice a30 l30 c30)):=y3;clear hdW h3 hfz y3;go_wp2;clear x0 x1
    go_loopw [16] (fun i wr=>∃j:Nat,j≤l30∧i=.int .i64 j∧Hid (Sp1 w4.heap.size wq B (some ⟨b,o,none⟩) i8 D.length c8 I.length k8 wr)∧Hid (wr.cell? ⟨b,o+k*5+3,none⟩=some (.slice a30 l30 c30))) (fun i _=>l30-(intOf i).toNat)
    case atStart=>exact⟨0,Nat.zero_le _,rfl,⟨qaX.refl _ _,HS.out.box⟩,HY3⟩
    case round=>
     obtain⟨j,hj,rfl,HT,HY⟩:=hrel;obtain⟨⟨x0,x1⟩,-⟩:=HT.out.box.facts;have y3:=HY.out
     by_cases hjl:j<l30
     ·as_aux_lemma=>
      have hkW:=(kArr.stays (fun _=>kStr.stays _)).at HT.out.sp HK3.out;obtain⟨b3,o3,s3,e3,z0,zf,hz⟩:=HT.out.str hkW hjl;subst e3;have HZ:Hid _:=hz;clear hz hkW HY3;go_wp2;exact⟨⟨j+1,hjl,by go_num,(HZ.out _).1,(HZ.out _).2 _ _ _ _ y3⟩,by simp[intOf];omega⟩
     ·have hje:j=l30:=by omega
      subst hje;have HS2:Hid (Sp1 w4.heap.size w6 B (some ⟨b,o,none⟩) i8 D.length c8 I.length k8 wr):=HS.out.trans HT.out;obtain⟨wt,hwt⟩:∃q,q=wr:=⟨_,rfl⟩
      subst hwt;have hdW:=(docK.stays _).at HS2.out.sp HDK.out;obtain⟨u4,y4,h4⟩:=hdW.cell hlt (j:=4) (by omega);obtain⟨a40,l40,c40,e4⟩:=kArr.form h4;subst e4;have HK4:Hid (kArr w4.heap.size 2 (fun _=>kStr) wt (.slice a40 l40 c40)):=h4;have hl40:=kArr.len h4;unfold maxLen at hl40;have HY4:Hid (wt.cell? ⟨b,o+k*5+4,none⟩=some (.slice a40 l40 c40)):=y4;clear hdW h4 y4 HT HY HK3 HY3;go_wp2;clear x0 x1 y3
      go_loopw [17] (fun i wr=>∃j:Nat,j≤l40∧i=.int .i64 j∧Hid (Sp1 w4.heap.size wt B (some ⟨b,o,none⟩) i8 D.length c8 I.length k8 wr)∧Hid (wr.cell? ⟨b,o+k*5+4,none⟩=some (.slice a40 l40 c40))) (fun i _=>l40-(intOf i).toNat)
      case atStart=>exact⟨0,Nat.zero_le _,rfl,⟨qaX.refl _ _,HS2.out.box⟩,HY4⟩
      case round=>
       obtain⟨i,hi,rfl,HT,HY⟩:=hrel;obtain⟨⟨x0,x1⟩,-⟩:=HT.out.box.facts;have y4:=HY.out
       by_cases hil:i<l40
       ·as_aux_lemma=>
        have hkW:=(kArr.stays (fun _=>kStr.stays _)).at HT.out.sp HK4.out;obtain⟨b4,o4,s4,s5,e4,⟨z0,z1⟩,hf4,hz⟩:=HT.out.two hkW hil;subst e4;have zf0:=hf4 (o4+i*2);have zf1:=hf4 (o4+i*2+1);have HZ:Hid _:=hz;clear hz hkW hf4 HY4;go_wp2;exact⟨⟨i+1,hil,by go_num,(HZ.out _ _).1,(HZ.out _ _).2 _ _ _ _ y4⟩,by simp[intOf];omega⟩
       ·have hie:i=l40:=by omega
        subst hie;have HS3:Hid (Sp1 w4.heap.size w6 B (some ⟨b,o,none⟩) i8 D.length c8 I.length k8 wr):=HS2.out.trans HT.out;have hdW:=(docK.stays _).at HS3.out.sp HDK.out;obtain⟨v0,v1,v2,v3,v4,⟨z0,z1,z2,z3,z4⟩,hf,hz⟩:=HS3.out.nd hdW hlt;have zf0:=hf (o+k*5);have zf1:=hf (o+k*5+1);have zf2:=hf (o+k*5+2);have zf3:=hf (o+k*5+3);have zf4:=hf (o+k*5+4)
        have hv4:v4=.slice a40 i c40:=by
         have:=z4.symm.trans y4;injection this
        subst hv4;have HZ:Hid _:=hz;clear hz hdW hf HT HY HY4 HK4 y4;go_wp2;exact⟨⟨k+1,hlt,by go_num,HZ.out _ _ _⟩,by simp[intOf];omega⟩
   ·have hke:k=D.length:=by omega
    subst hke;have HS1:Hid (Sp1 w4.heap.size w6 B a8 i8 D.length c8 I.length k8 wq):=HS;clear HS hk hlt;go_wp2;clear x0 x1
    go_loopw [18] (fun i wr=>∃k:Nat,k≤I.length∧i=.int .i64 k∧Hid (Sp1 w4.heap.size w6 B a8 i8 D.length c8 I.length k8 wr)) (fun i _=>I.length-(intOf i).toNat)
    case atStart=>exact⟨0,Nat.zero_le _,rfl,HS1⟩
    case round=>
     obtain⟨k,hk,rfl,HS⟩:=hrel;obtain⟨wp,hwp⟩:∃q,q=wr:=⟨_,rfl⟩
     subst hwp;obtain⟨⟨x0,x1⟩,-⟩:=HS.out.box.facts
     by_cases hlt:k<I.length
     ·as_aux_lemma=>
      have hiW:=(idxK.stays _).at HS.out.sp HIK.out;obtain⟨b,o,e8,hnb,hfz⟩:=kArr.open hiW hlt;subst e8;obtain⟨u2,y2,h2⟩:=hiW.cell hlt (j:=2) (by omega);obtain⟨a30,l30,c30,e3⟩:=kArr.form h2;subst e3;have HK2:Hid (kArr w4.heap.size 1 (fun _=>kInt) wp (.slice a30 l30 c30)):=h2;have hl30:=kArr.len h2;unfold maxLen at hl30;have HY2:Hid (wp.cell? ⟨b,o+k*3+2,none⟩=some (.slice a30 l30 c30)):=y2;clear hiW h2 hfz y2 HS1;go_wp2;clear x0 x1
      go_loopw [19] (fun i wr=>∃j:Nat,j≤l30∧i=.int .i64 j∧Hid (Sp1 w4.heap.size wp B a8 (some ⟨b,o,none⟩) D.length c8 I.length k8 wr)∧Hid (wr.cell? ⟨b,o+k*3+2,none⟩=some (.slice a30 l30 c30))) (fun i _=>l30-(intOf i).toNat)
      case atStart=>exact⟨0,Nat.zero_le _,rfl,⟨qaX.refl _ _,HS.out.box⟩,HY2⟩
      case round=>
       obtain⟨j,hj,rfl,HT,HY⟩:=hrel;obtain⟨⟨x0,x1⟩,-⟩:=HT.out.box.facts;have y2:=HY.out
       by_cases hjl:j<l30
       ·as_aux_lemma=>
        have hkW:=(kArr.stays (fun _=>kInt.stays _)).at HT.out.sp HK2.out;obtain⟨b3,o3,s3,e3,z0,zf,hz⟩:=HT.out.int hkW hjl;subst e3;have HZ:Hid _:=hz;clear hz hkW HY2;go_wp2;exact⟨⟨j+1,hjl,by go_num,(HZ.out _).1,(HZ.out _).2 _ _ _ _ y2⟩,by simp[intOf];omega⟩
       ·have hje:j=l30:=by omega
        subst hje;have HS2:Hid (Sp1 w4.heap.size w6 B a8 (some ⟨b,o,none⟩) D.length c8 I.length k8 wr):=HS.out.trans HT.out;clear HT HY HY2 HK2;go_wp2;exact⟨⟨k+1,hlt,by go_num,HS2⟩,by simp[intOf];omega⟩
     ·have hke:k=I.length:=by omega
      subst hke;have HX4:Hid (Below w4.heap.size w4 wp):=HB6.out.trans HS.out.sp.below;have HR4:Hid (RK w a a2 a3 a5 a6 a7 c c2 c3 c5 c6 c7 M ns es ix l wp):=RK.on ⟨HB4.out,HP4.out,HE4.out,HBM4.out,HPM4.out,HA7.out⟩ HX4.out;clear HS HS1 HDK HIK HBX HB6 hk hlt HB4 HP4 HE4 HBM4 HPM4 HA7 HX4 HN5 hdm him
      go_wp2_with fail
      clear x0 x1;refine(HC.out.pl _ HR4.out.bw).mono ?_;rintro e w7 ⟨a9,c9,rfl,-,hls,hb7⟩;have HLK:Hid (lsK wp.heap.size w7 (.slice a9 m.length c9)):=hls;have HX7:Hid (Below wp.heap.size wp w7):=hb7;have hmm:=kRow.len hls;unfold maxLen at hmm;clear hls hb7;obtain⟨n,hn⟩:∃q,q=wp.heap.size:=⟨_,rfl⟩
      rw[←hn]at HLK HX7;have HN:Hid (n=wp.heap.size):=hn;clear hn;go_wp2
      go_loopw [22] (fun i wr=>∃k:Nat,k≤m.length∧i=.int .i64 k∧Hid (qaX n w7 wr)) (fun i _=>m.length-(intOf i).toNat)
      case atStart=>exact⟨0,Nat.zero_le _,rfl,qaX.refl _ _⟩
      case round=>
       obtain⟨k,hk,rfl,HS⟩:=hrel
       by_cases hlt:k<m.length
       ·as_aux_lemma=>
        obtain⟨wq,hwq⟩:∃q,q=wr:=⟨_,rfl⟩
        subst hwq;have hlW:=(lsK.stays _).at HS.out HLK.out;obtain⟨b,o,e9,hnb,-,hfz,hcs⟩:=kRow.open hlW hlt;subst e9;obtain⟨u0,y0,h0⟩:=hcs 0 (by omega);obtain⟨u1,y1,h1⟩:=hcs 1 (by omega);rw[Nat.add_zero]at y0;replace h0:kRow n 2 (spK n) [b] wq u0:=h0;replace h1:kArr n 1 (fun _=>kInt) wq u1:=h1;obtain⟨a20,l20,c20,e2⟩:=kRow.form h0;obtain⟨a10,l10,c10,e1⟩:=kArr.form h1;subst e2 e1;have HK0:Hid (kRow n 2 (spK n) [b] wq (.slice a20 l20 c20)):=h0;have HK1:Hid (kArr n 1 (fun _=>kInt) wq (.slice a10 l10 c10)):=h1;have hl10:=kArr.len h1;have hl20:=kRow.len h0;unfold maxLen at hl10 hl20;have HY0:Hid (wq.cell? ⟨b,o+k*2,none⟩=some (.slice a20 l20 c20)):=y0;have HY1:Hid (wq.cell? ⟨b,o+k*2+1,none⟩=some (.slice a10 l10 c10)):=y1;clear hlW hcs hfz h0 h1 y0 y1;go_wp2
        go_loopw [23] (fun i wr=>∃j:Nat,j≤l10∧i=.int .i64 j∧Hid (qaX n wq wr)∧Hid (wr.cell? ⟨b,o+k*2,none⟩=some (.slice a20 l20 c20))∧Hid (wr.cell? ⟨b,o+k*2+1,none⟩=some (.slice a10 l10 c10))) (fun i _=>l10-(intOf i).toNat)
        case atStart=>exact⟨0,Nat.zero_le _,rfl,qaX.refl _ _,HY0,HY1⟩
        case round=>
         obtain⟨j,hj,rfl,HT,HZ0,HZ1⟩:=hrel;have y1:=HZ1.out
         by_cases hjl:j<l10
         ·as_aux_lemma=>
          have hkW:=(kArr.stays (fun _=>kInt.stays _)).at HT.out HK1.out;obtain⟨b3,o3,s3,e3,z0,zf,hz⟩:=HT.out.int hkW hjl;subst e3;have HZ:Hid _:=hz;clear hz hkW;go_wp2;exact⟨⟨j+1,hjl,by go_num,(HZ.out _).1,(HZ.out _).2 _ _ _ _ HZ0.out,(HZ.out _).2 _ _ _ _ y1⟩,by simp[intOf];omega⟩
         ·have hje:j=l10:=by omega
          subst hje;obtain⟨ws,hws⟩:∃q,q=wr:=⟨_,rfl⟩
          subst hws;have HKS:Hid (kRow n 2 (spK n) [b] ws (.slice a20 l20 c20)):=(kRow.stays (spK.stays n) [b]).at HT.out HK0.out;have HSS:Hid (qaX n w7 ws):=HS.out.trans HT.out;clear HK0 HK1 HY0 HY1 HT HZ1;go_wp2;clear y1
          go_loopw [24] (fun i wr=>∃j:Nat,j≤l20∧i=.int .i64 j∧Hid (qaX n ws wr)∧Hid (wr.cell? ⟨b,o+k*2,none⟩=some (.slice a20 l20 c20))) (fun i _=>l20-(intOf i).toNat)
          case atStart=>exact⟨0,Nat.zero_le _,rfl,qaX.refl _ _,HZ0⟩
          case round=>
           obtain⟨j,hj,rfl,HT,HZ0'⟩:=hrel;have y0:=HZ0'.out
           by_cases hjl:j<l20
           ·as_aux_lemma=>
            obtain⟨wt,hwt⟩:∃q,q=wr:=⟨_,rfl⟩
            subst hwt;have hkW:=(kRow.stays (spK.stays n) [b]).at HT.out HKS.out;obtain⟨b1,o1,e2,hnb1,hx1,hfz,hcs⟩:=kRow.open hkW hjl;subst e2;obtain⟨u1,y1,h1⟩:=hcs 1 (by omega);replace h1:kRow n 6 (teK n) [b1,b] wt u1:=h1;obtain⟨a30,l30,c30,e3⟩:=kRow.form h1;subst e3;have HKT:Hid (kRow n 6 (teK n) [b1,b] wt (.slice a30 l30 c30)):=h1;have hl30:=kRow.len h1;unfold maxLen at hl30;have HY1:Hid (wt.cell? ⟨b1,o1+j*2+1,none⟩=some (.slice a30 l30 c30)):=y1;clear hkW hcs hfz h1 y1 HZ0;go_wp2;clear y0
            go_loopw [25] (fun i wr=>∃q:Nat,q≤l30∧i=.int .i64 q∧Hid (qaX n wt wr)∧Hid (wr.cell? ⟨b,o+k*2,none⟩=some (.slice (some ⟨b1,o1,none⟩) l20 c20))∧Hid (wr.cell? ⟨b1,o1+j*2+1,none⟩=some (.slice a30 l30 c30))) (fun i _=>l30-(intOf i).toNat)
            case atStart=>exact⟨0,Nat.zero_le _,rfl,qaX.refl _ _,HZ0',HY1⟩
            case round=>
             obtain⟨q,hq,rfl,HU,HU0,HU1⟩:=hrel;have y0:=HU0.out;have y1:=HU1.out
             by_cases hql:q<l30
             ·as_aux_lemma=>
              obtain⟨wv,hwv⟩:∃q,q=wr:=⟨_,rfl⟩
              subst hwv;have hkW:=(kRow.stays (teK.stays n) [b1,b]).at HU.out HKT.out;obtain⟨b2,o2,e3,hnb2,hx2,hfz,hcs⟩:=kRow.open hkW hql;subst e3;obtain⟨u5,y5,h5⟩:=hcs 5 (by omega);replace h5:kRow n 2 (fun _ _=>kSl) [b2,b1,b] wv u5:=h5;obtain⟨a40,l40,c40,e4⟩:=kRow.form h5;subst e4;have HKL:Hid (kRow n 2 (fun _ _=>kSl) [b2,b1,b] wv (.slice a40 l40 c40)):=h5;have hl40:=kRow.len h5;unfold maxLen at hl40;have HY5:Hid (wv.cell? ⟨b2,o2+q*6+5,none⟩=some (.slice a40 l40 c40)):=y5;clear hkW hcs hfz h5 y5;go_wp2;clear y0 y1
              go_loopw [26] (fun i wr=>∃r:Nat,r≤l40∧i=.int .i64 r∧Hid (qaX n wv wr)∧Hid (wr.cell? ⟨b,o+k*2,none⟩=some (.slice (some ⟨b1,o1,none⟩) l20 c20))∧Hid (wr.cell? ⟨b1,o1+j*2+1,none⟩=some (.slice (some ⟨b2,o2,none⟩) l30 c30))∧Hid (wr.cell? ⟨b2,o2+q*6+5,none⟩=some (.slice a40 l40 c40))) (fun i _=>l40-(intOf i).toNat)
              case atStart=>exact⟨0,Nat.zero_le _,rfl,qaX.refl _ _,HU0,HU1,HY5⟩
              case round=>
               obtain⟨r,hr,rfl,HV,HV0,HV1,HV2⟩:=hrel;have y0:=HV0.out;have y1:=HV1.out;have y2:=HV2.out
               by_cases hrl:r<l40
               ·as_aux_lemma=>
                have hkW:=(kRow.stays (fun _ _=>kSl.stays n) [b2,b1,b]).at HV.out HKL.out;obtain⟨b3,o3,v0,v1,e4,⟨z0,z1⟩,hf4,hz,hkeep⟩:=HV.out.pth hkW hrl;subst e4;have zf0:=hf4 (o3+r*2);have zf1:=hf4 (o3+r*2+1);have HZ:Hid _:=hz;have HKP:Hid _:=hkeep;clear hz hkW hf4 hkeep HU0 HU1 HY5;go_wp2;exact⟨⟨r+1,hrl,by go_num,HZ,HKP.out b (by simp) _ _ y0,HKP.out b1 (by simp) _ _ y1,HKP.out b2 (by simp) _ _ y2⟩,by simp[intOf];omega⟩
               ·have hre:r=l40:=by omega
                subst hre;have hkW:=(kRow.stays (teK.stays n) [b1,b]).at (HU.out.trans HV.out) HKT.out;obtain⟨v0,v1,v2,v3,v4,v5,⟨z0,z1,z2,z3,z4,z5⟩,hf,hz⟩:=qaX.tst (HU.out.trans HV.out) hkW hql;have zf0:=hf (o2+q*6);have zf1:=hf (o2+q*6+1);have zf2:=hf (o2+q*6+2);have zf3:=hf (o2+q*6+3);have zf4:=hf (o2+q*6+4);have zf5:=hf (o2+q*6+5)
                have hv5:v5=.slice a40 r c40:=by
                 have:=z5.symm.trans y2;injection this
                subst hv5;have HZ:Hid _:=hz;clear hz hkW hf HV HV2 HU HU0 HU1 HY5 HKL y2;go_wp2;exact⟨⟨q+1,hql,by go_num,(HZ.out _ _ _ _ _).1,(HZ.out _ _ _ _ _).2 b (by simp) _ _ y0,(HZ.out _ _ _ _ _).2 b1 (by simp) _ _ y1⟩,by simp[intOf];omega⟩
             ·have hqe:q=l30:=by omega
              subst hqe;have HE:Hid (qaX n ws wr):=HT.out.trans HU.out;clear HT HU HU1 HZ0' HKT HY1;go_wp2;exact⟨⟨j+1,hjl,by go_num,HE,HU0⟩,by simp[intOf];omega⟩
           ·have hje:j=l20:=by omega
            subst hje;have HE:Hid (qaX n w7 wr):=HSS.out.trans HT.out;clear HT HZ0 HZ0' HKS;go_wp2;exact⟨⟨k+1,hlt,by go_num,HE⟩,by simp[intOf];omega⟩
       ·have hke:k=m.length:=by omega
        subst hke
        have HR5:Hid (RK w a a2 a3 a5 a6 a7 c c2 c3 c5 c6 c7 M ns es ix l wr):=HR4.out.on (by
         have h:=HX7.out.trans HS.out.below;rw[HN.out]at h
         exact h)
        clear HS HLK HX7 HN HR4 hk hlt hmm;obtain⟨⟨p0,p1⟩,-⟩:=HR5.out.p.facts;obtain⟨q0,-⟩:=HR5.out.e.facts
        go_wp2_with fail
        refine(HC.out.ins _ HR5.out.bw).mono ?_;rintro e w9 ⟨a10,c10,i10,k10,rfl,hpg,-,-,hb9⟩;have hst:=qac w9 (.cells #[.slice a10 D.length c10,.slice i10 I.length k10] 32);have HN1:Hid (Blk2 (w9.alloc (.cells #[.slice a10 D.length c10,.slice i10 I.length k10] 32)) w9.heap.size (.slice a10 D.length c10) (.slice i10 I.length k10)):=Blk2.new w9 _ _;have HG1:Hid (PgAt (w9.alloc (.cells #[.slice a10 D.length c10,.slice i10 I.length k10] 32)) (.agg #[.slice a10 D.length c10,.slice i10 I.length k10]) D I):=hpg.on hst;have HR6:Hid (RK w a a2 a3 a5 a6 a7 c c2 c3 c5 c6 c7 M ns es ix l (w9.alloc (.cells #[.slice a10 D.length c10,.slice i10 I.length k10] 32))):=(HR5.out.on hb9).on hst;clear hpg hb9 hst p0 p1 q0 HR5;obtain⟨⟨p0,p1⟩,-⟩:=HR6.out.p.facts;obtain⟨q0,-⟩:=HR6.out.e.facts
        go_wp2_with fail
        generalize w9.alloc (.cells #[.slice a10 D.length c10,.slice i10 I.length k10] 32)=w10 at *;generalize w9.heap.size=B1 at *;clear w9;refine(HC.out.ri _ HR6.out.bw).mono ?_;rintro e w11 ⟨a11,c11,rfl,hd11,hb11⟩;have HN2:Hid (Blk2 w11 B1 (.slice a10 D.length c10) (.slice i10 I.length k10)):=HN1.out.on hb11;have HG2:Hid (PgAt w11 (.agg #[.slice a10 D.length c10,.slice i10 I.length k10]) D I):=HG1.out.on hb11;have HR7:Hid (RK w a a2 a3 a5 a6 a7 c c2 c3 c5 c6 c7 M ns es ix l w11):=HR6.out.on hb11;have HD11:Hid (qar w11 (.slice a11 ms.length c11) ms):=hd11;clear hd11 hb11 p0 p1 q0 HR6 HN1 HG1
        go_wp2_with fail
        refine(HC.out.po _ _ _ HD11.out).mono ?_;rintro e w12 ⟨a12,c12,i12,k12,rfl,hp12,hb12⟩;have hst:=qac w12 (.cells #[.slice a12 D.length c12,.slice i12 I.length k12] 32);have HN3:Hid (Blk2 (w12.alloc (.cells #[.slice a12 D.length c12,.slice i12 I.length k12] 32)) B1 (.slice a10 D.length c10) (.slice i10 I.length k10)):=(HN2.out.on hb12).on hst;have HG3:Hid (PgAt (w12.alloc (.cells #[.slice a12 D.length c12,.slice i12 I.length k12] 32)) (.agg #[.slice a10 D.length c10,.slice i10 I.length k10]) D I):=(HG2.out.on hb12).on hst;have HR8:Hid (RK w a a2 a3 a5 a6 a7 c c2 c3 c5 c6 c7 M ns es ix l (w12.alloc (.cells #[.slice a12 D.length c12,.slice i12 I.length k12] 32))):=(HR7.out.on hb12).on hst;have HM3:Hid (Blk2 (w12.alloc (.cells #[.slice a12 D.length c12,.slice i12 I.length k12] 32)) w12.heap.size (.slice a12 D.length c12) (.slice i12 I.length k12)):=Blk2.new w12 _ _;have HW3:Hid (PgAt (w12.alloc (.cells #[.slice a12 D.length c12,.slice i12 I.length k12] 32)) (.agg #[.slice a12 D.length c12,.slice i12 I.length k12]) D I):=hp12.on hst;clear hp12 hb12 hst HR7 HN2 HG2 HD11
        go_wp2_with fail
        generalize w12.alloc (.cells #[.slice a12 D.length c12,.slice i12 I.length k12] 32)=w13 at *;generalize w12.heap.size=B2 at *;clear w12;refine(HC.out.pl _ HR8.out.bw).mono ?_;rintro e w14 ⟨a14,c14,rfl,hA14,-,hb14⟩;have HN4:Hid (Blk2 w14 B1 (.slice a10 D.length c10) (.slice i10 I.length k10)):=HN3.out.on hb14;have HG4:Hid (PgAt w14 (.agg #[.slice a10 D.length c10,.slice i10 I.length k10]) D I):=HG3.out.on hb14;have HM4:Hid (Blk2 w14 B2 (.slice a12 D.length c12) (.slice i12 I.length k12)):=HM3.out.on hb14;have HW4:Hid (PgAt w14 (.agg #[.slice a12 D.length c12,.slice i12 I.length k12]) D I):=HW3.out.on hb14;have HR9:Hid (RK w a a2 a3 a5 a6 a7 c c2 c3 c5 c6 c7 M ns es ix l w14):=HR8.out.on hb14;have HA14:Hid (A3 w14 (.slice a14 m.length c14) m):=hA14;clear hA14 hb14 HN3 HG3 HM3 HW3 HR8
        go_wp2_with fail
        refine(HC.out.lb _).mono ?_;rintro e w15 ⟨rfl,hb15⟩;have HG5:Hid (PgAt w15 (.agg #[.slice a10 D.length c10,.slice i10 I.length k10]) D I):=HG4.out.on hb15;have HW5:Hid (PgAt w15 (.agg #[.slice a12 D.length c12,.slice i12 I.length k12]) D I):=HW4.out.on hb15;have HR10:Hid (RK w a a2 a3 a5 a6 a7 c c2 c3 c5 c6 c7 M ns es ix l w15):=HR9.out.on hb15;have HA15:Hid (A3 w15 (.slice a14 m.length c14) m):=qcB.on HA14.out hb15;obtain⟨⟨r0,r1⟩,-⟩:=(HN4.out.on hb15).facts;obtain⟨⟨t0,t1⟩,-⟩:=(HM4.out.on hb15).facts;clear hb15 HN4 HG4 HM4 HW4 HR9 HA14
        go_wp2_with fail
        refine(HC.out.s1 _ _ _ HG5.out HW5.out).mono ?_;rintro e w16 ⟨rfl,hb16⟩;have HR11:Hid (RK w a a2 a3 a5 a6 a7 c c2 c3 c5 c6 c7 M ns es ix l w16):=HR10.out.on hb16;have HA16:Hid (A3 w16 (.slice a14 m.length c14) m):=qcB.on HA15.out hb16;clear hb16 r0 r1 t0 t1 HG5 HW5 HR10 HA15;obtain⟨⟨p0,p1⟩,-⟩:=HR11.out.p.facts;obtain⟨⟨r0,r1⟩,-⟩:=HR11.out.m.facts
        go_wp2_with fail
        refine(HC.out.s2 _ _ _ (HPG.out.on HR11.out.bw) HR11.out.pm).mono ?_;rintro e w17 ⟨rfl,hb17⟩;have HR12:Hid (RK w a a2 a3 a5 a6 a7 c c2 c3 c5 c6 c7 M ns es ix l w17):=HR11.out.on hb17;have HA17:Hid (A3 w17 (.slice a14 m.length c14) m):=qcB.on HA16.out hb17;clear hb17 p0 p1 r0 r1 HR11 HA16
        go_wp2_with fail
        refine(HC.out.s3 _ _ _ (qcB.on HLS.out HR12.out.bw) HR12.out.ls).mono ?_;rintro e w18 ⟨rfl,hb18⟩;have HB18:Hid (Below w.heap.size w w18):=qaa HR12.out.bw hb18;have HA18:Hid (A3 w18 (.slice a14 m.length c14) m):=qcB.on HA17.out hb18;clear hb18 HR12 HA17
        go_wp2_with fail
        refine(HC.out.pf _ HB18.out).mono ?_;rintro e w19 ⟨a19,c19,rfl,hA19,hb19⟩;have HB19:Hid (Below w.heap.size w w19):=qaa HB18.out hb19;have HA19:Hid (A3 w19 (.slice a14 m.length c14) m):=qcB.on HA18.out hb19;have HA20:Hid (A3 w19 (.slice a19 m.length c19) m):=hA19;clear hb19 hA19 HB18 HA18
        go_wp2_with fail
        refine(HC.out.s4 _ _ _ HA19.out HA20.out).mono ?_;rintro e w20 ⟨rfl,hb20⟩;have HB20:Hid (Below w.heap.size w w20):=qaa HB19.out hb20;clear hb20 HB19 HA19 HA20;go_wp2;go_ret;exact⟨rfl,HB20.out⟩
end Go.Proofs.YtephhllfodlfbaaGreatDoor
