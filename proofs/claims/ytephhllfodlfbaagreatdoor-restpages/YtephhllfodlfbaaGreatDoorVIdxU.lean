/-
  What is the same is told the same.
-/
import Derived.Test.YtephhllfodlfbaaGreatDoorVRem
set_option maxRecDepth 100000
set_option maxHeartbeats 16000000
namespace Go.Proofs.YtephhllfodlfbaaGreatDoor
open Go.RowKit
theorem qio (v1 v2:Value)(ks:List (List UInt8))(w:World)(hl:ks.length≤maxLen)(h1:qa1 w v1 ks)(h2:qa1 w v2 ks):
 Calls Tryz.prog 150 #[v1,v2] w fun e w'=>e=.returned (.bool true)∧Below w.heap.size w w':=by
 obtain⟨a1,c1,rfl,h1⟩:=h1;obtain⟨a2,c2,rfl,h2⟩:=h2;have H1:Hid _:=h1;have H2:Hid _:=h2;clear h1 h2;unfold maxLen at hl;go_enter Tryz.func150,Tryz.ntmps150;go_wp2
 go_loopw [5] (fun i wr=>∃k:Nat,k≤ks.length∧i=.int .i64 k∧Below w.heap.size w wr) (fun i _=>ks.length-(intOf i).toNat)
 case atStart=>exact⟨0,Nat.zero_le _,rfl,Below.refl _ _⟩
 case round=>
  obtain⟨k,hk,rfl,hB⟩:=hrel
  by_cases hlt:k<ks.length
  ·rcases H1.out with h0|⟨b,o,rfl,hc⟩
   ·subst h0;simp at hlt
   rcases H2.out with h0|⟨b2,o2,rfl,hc2⟩
   ·subst h0;simp at hlt
   have n0:wr.cell? ⟨b,o+k,none⟩=some (.string ⟨ks[k].toArray⟩):=qab hB (hc k hlt);have n1:wr.cell? ⟨b2,o2+k,none⟩=some (.string ⟨ks[k].toArray⟩):=qab hB (hc2 k hlt);have i1:(0:Int)≤(k:Int):=by omega
   have i2:(k:Int)<(ks.length:Int):=by omega
   clear hc hc2;generalize ks[k]=u at *;go_wp2
   go_quiet (fail)
   go_wp2;exact⟨⟨k+1,hlt,by go_num,below_drewN hB _⟩,by simp[intOf];omega⟩
  ·have hkl:k=ks.length:=by omega
   subst hkl;go_wp2;go_ret;exact⟨rfl,hB⟩
theorem qiE (v1 v2:Value)(x:Pl.Nd)(w:World)(hf:Fits x)(h1:NdV w v1 x)(h2:NdV w v2 x):
 Calls Tryz.prog 117 #[v1,v2] w fun e w'=>e=.returned (.bool true)∧Below w.heap.size w w':=by
 obtain⟨vc,va,rfl,hc,ha⟩:=h1;obtain⟨vc2,va2,rfl,hc2,ha2⟩:=h2;obtain⟨ac,cc,rfl,_⟩:=id hc;obtain⟨ac2,cc2,rfl,_⟩:=id hc2;obtain⟨aa,ca,rfl,ha⟩:=ha;obtain⟨aa2,ca2,rfl,ha2⟩:=ha2;have HC:Hid (qa1 w (.slice ac x.cls.length cc) x.cls):=hc;have HC2:Hid (qa1 w (.slice ac2 x.cls.length cc2) x.cls):=hc2;have HA:Hid _:=ha;have HA2:Hid _:=ha2;obtain⟨m1,m2⟩:=hf;obtain⟨up,tag,idn,cls,ats⟩:=x;dsimp only at *;clear hc hc2 ha ha2;have M1:Hid _:=m1;unfold maxLen at m1 m2;have hB0:Below w.heap.size w ((w.alloc (.cells #[.int .i64 up,.string ⟨tag.toArray⟩,.string ⟨idn.toArray⟩,.slice ac cls.length cc,.slice aa ats.length ca] 28)).alloc (.cells #[.int .i64 up,.string ⟨tag.toArray⟩,.string ⟨idn.toArray⟩,.slice ac2 cls.length cc2,.slice aa2 ats.length ca2] 28)):=((Below.refl _ _).alloc (Nat.le_refl _) _).alloc (by simp) _;go_enter Tryz.func117,Tryz.ntmps117
 go_wp2_with fail
 refine(qio _ _ cls _ M1.out (qa1.on HC.out hB0) (qa1.on HC2.out hB0)).mono ?_;rintro e w1 ⟨rfl,h1⟩;have c4:=qab (p:=⟨w.heap.size,4,none⟩) (v:=.slice aa ats.length ca) h1 (by simp[go_sem]);have d4:=qab (p:=⟨w.heap.size+1,4,none⟩) (v:=.slice aa2 ats.length ca2) h1 (by simp[go_sem]);have hB:=qaa hB0 h1;clear hB0 h1;go_wp2
 go_loopw [5] (fun i wr=>∃k:Nat,k≤ats.length∧i=.int .i64 k∧Below w.heap.size w wr∧wr.cell? ⟨w.heap.size,4,none⟩=some (.slice aa ats.length ca)∧wr.cell? ⟨w.heap.size+1,4,none⟩=some (.slice aa2 ats.length ca2)) (fun i _=>ats.length-(intOf i).toNat)
 case atStart=>exact⟨0,Nat.zero_le _,rfl,hB,c4,d4⟩
 case round=>
  clear hB c4 d4;obtain⟨k,hk,rfl,hB,c4,d4⟩:=hrel
  by_cases hlt:k<ats.length
  ·rcases HA.out with h0|⟨b,o,rfl,hc⟩
   ·subst h0;simp at hlt
   rcases HA2.out with h0|⟨b2,o2,rfl,hc2⟩
   ·subst h0;simp at hlt
   have n0:wr.cell? ⟨b,o+k*2,none⟩=some (.string ⟨ats[k].1.toArray⟩):=qab hB (hc k hlt).1;have n1:wr.cell? ⟨b,o+k*2+1,none⟩=some (.string ⟨ats[k].2.toArray⟩):=qab hB (hc k hlt).2;have n2:wr.cell? ⟨b2,o2+k*2,none⟩=some (.string ⟨ats[k].1.toArray⟩):=qab hB (hc2 k hlt).1;have n3:wr.cell? ⟨b2,o2+k*2+1,none⟩=some (.string ⟨ats[k].2.toArray⟩):=qab hB (hc2 k hlt).2;have i1:(0:Int)≤(k:Int):=by omega
   have i2:(k:Int)<(ats.length:Int):=by omega
   clear hc hc2;generalize ats[k].1=u at *;generalize ats[k].2=u2 at *;go_wp2
   go_quiet (fail)
   go_wp2;exact⟨⟨k+1,hlt,by go_num,below_drewN hB _,c4,d4⟩,by simp[intOf];omega⟩
  ·have hkl:k=ats.length:=by omega
   subst hkl;go_wp2;go_ret;exact⟨rfl,hB⟩
theorem qiW (v1 v2:Value)(ns:List Pl.Nd)(w:World)(h1:qar w v1 ns)(h2:qar w v2 ns):
 Calls Tryz.prog 71 #[.agg #[v1],.agg #[v2]] w fun e w'=>e=.returned (.bool true)∧Below w.heap.size w w':=by
 have HF:Hid _:=h1.2.2;have hm:=h1.2.2.1;obtain⟨a,cap,rfl,hc⟩:=h1.1;obtain⟨a2,cap2,rfl,hc2⟩:=h2.1;have HC:Hid _:=hc;have HC2:Hid _:=hc2;clear hc hc2 h1 h2;unfold maxLen at hm;have hB0:Below w.heap.size w ((w.alloc (.cells #[.slice a ns.length cap] 24)).alloc (.cells #[.slice a2 ns.length cap2] 24)):=((Below.refl _ _).alloc (Nat.le_refl _) _).alloc (by simp) _;go_enter Tryz.func71,Tryz.ntmps71;go_wp2
 go_loopw [5] (fun i wr=>∃k:Nat,k≤ns.length∧i=.int .i64 k∧Below w.heap.size w wr∧wr.cell? ⟨w.heap.size,0,none⟩=some (.slice a ns.length cap)∧wr.cell? ⟨w.heap.size+1,0,none⟩=some (.slice a2 ns.length cap2)) (fun i _=>ns.length-(intOf i).toNat)
 case atStart=>exact⟨0,Nat.zero_le _,rfl,hB0,by simp[go_sem],by simp[go_sem]⟩
 case round=>
  clear hB0;obtain⟨k,hk,rfl,hB,c4,d4⟩:=hrel
  by_cases hlt:k<ns.length
  ·rcases HC.out with h0|⟨b,o,rfl,hc⟩
   ·subst h0;simp at hlt
   rcases HC2.out with h0|⟨b2,o2,rfl,hc2⟩
   ·subst h0;simp at hlt
   have N1:=(hc k hlt).on hB.drew;have N2:=(hc2 k hlt).on hB.drew;have F1:=HF.out.2 k hlt;clear hc hc2;generalize ns[k]=X at *;obtain⟨up,tag,idn,cls,ats⟩:=X;obtain⟨vc,va,n0,n1,n2,n3,n4,nc,na⟩:=N1;obtain⟨vc2,va2,m0,m1,m2,m3,m4,mc,ma⟩:=N2;dsimp only at n0 n1 n2 m0 m1 m2 nc na mc ma;obtain⟨ac,cc,rfl,_⟩:=id nc;obtain⟨aa,ca,rfl,_⟩:=id na;obtain⟨ac2,cc2,rfl,_⟩:=id mc;obtain⟨aa2,ca2,rfl,_⟩:=id ma;have V1:Hid (NdV wr.drew (.agg #[.int .i64 up,.string ⟨tag.toArray⟩,.string ⟨idn.toArray⟩,.slice ac cls.length cc,.slice aa ats.length ca]) ⟨up,tag,idn,cls,ats⟩):=⟨_,_,rfl,nc,na⟩
   have V2:Hid (NdV wr.drew (.agg #[.int .i64 up,.string ⟨tag.toArray⟩,.string ⟨idn.toArray⟩,.slice ac2 cls.length cc2,.slice aa2 ats.length ca2]) ⟨up,tag,idn,cls,ats⟩):=⟨_,_,rfl,mc,ma⟩
   have FF:Hid _:=F1;clear nc na mc ma F1;have i1:(0:Int)≤(k:Int):=by omega
   have i2:(k:Int)<(ns.length:Int):=by omega
   have S0:wr.drew.cell? ⟨w.heap.size,0,none⟩=some (.slice (some ⟨b,o,none⟩) ns.length cap)∧wr.drew.cell? ⟨w.heap.size+1,0,none⟩=some (.slice (some ⟨b2,o2,none⟩) ns.length cap2)∧wr.drew.cell? ⟨b,o+k*5,none⟩=some (.int .i64 up)∧wr.drew.cell? ⟨b,o+k*5+1,none⟩=some (.string ⟨tag.toArray⟩)∧wr.drew.cell? ⟨b,o+k*5+2,none⟩=some (.string ⟨idn.toArray⟩)∧wr.drew.cell? ⟨b,o+k*5+3,none⟩=some (.slice ac cls.length cc)∧wr.drew.cell? ⟨b,o+k*5+4,none⟩=some (.slice aa ats.length ca)∧wr.drew.cell? ⟨b2,o2+k*5,none⟩=some (.int .i64 up)∧wr.drew.cell? ⟨b2,o2+k*5+1,none⟩=some (.string ⟨tag.toArray⟩)∧wr.drew.cell? ⟨b2,o2+k*5+2,none⟩=some (.string ⟨idn.toArray⟩)∧wr.drew.cell? ⟨b2,o2+k*5+3,none⟩=some (.slice ac2 cls.length cc2)∧wr.drew.cell? ⟨b2,o2+k*5+4,none⟩=some (.slice aa2 ats.length ca2)∧Below w.heap.size w wr.drew:=⟨c4,d4,n0,n1,n2,n3,n4,m0,m1,m2,m3,m4,hB.drew⟩
   go_wp2;clear n0 n1 n2 n3 n4 m0 m1 m2 m3 m4 c4 d4
   go_region_held3 (fun w'=>w'.cell? ⟨w.heap.size,0,none⟩=some (.slice (some ⟨b,o,none⟩) ns.length cap)∧w'.cell? ⟨w.heap.size+1,0,none⟩=some (.slice (some ⟨b2,o2,none⟩) ns.length cap2)∧w'.cell? ⟨b,o+k*5,none⟩=some (.int .i64 up)∧w'.cell? ⟨b,o+k*5+1,none⟩=some (.string ⟨tag.toArray⟩)∧w'.cell? ⟨b,o+k*5+2,none⟩=some (.string ⟨idn.toArray⟩)∧w'.cell? ⟨b,o+k*5+3,none⟩=some (.slice ac cls.length cc)∧w'.cell? ⟨b,o+k*5+4,none⟩=some (.slice aa ats.length ca)∧w'.cell? ⟨b2,o2+k*5,none⟩=some (.int .i64 up)∧w'.cell? ⟨b2,o2+k*5+1,none⟩=some (.string ⟨tag.toArray⟩)∧w'.cell? ⟨b2,o2+k*5+2,none⟩=some (.string ⟨idn.toArray⟩)∧w'.cell? ⟨b2,o2+k*5+3,none⟩=some (.slice ac2 cls.length cc2)∧w'.cell? ⟨b2,o2+k*5+4,none⟩=some (.slice aa2 ats.length ca2)∧Below w.heap.size w w')
    (first|assumption|exact dozen_on (by assumption) (by assumption))
    (first|(go_at_call 117;refine(qiE _ _ ⟨up,tag,idn,cls,ats⟩ _ FF.out V1.out V2.out).mono ?_;rintro e w' ⟨rfl,hw⟩))
   obtain⟨c4,d4,hB3⟩:=dozen_last (by assumption);go_wp2;exact⟨⟨k+1,hlt,by go_num,hB3,c4,d4⟩,by simp[intOf];omega⟩
  ·have hkl:k=ns.length:=by omega
   subst hkl;go_wp2;go_ret;exact⟨rfl,hB⟩
theorem qf7 (a b:Int)(w:World):Calls Tryz.prog 174 #[.int .i64 a,.int .i64 b] w fun e w'=>e=.returned (.bool (a==b))∧w'=w:=by
 go_enter Tryz.func174,Tryz.ntmps174;go_wp2;go_ret;exact⟨rfl,rfl⟩
theorem qh9 (v1 v2:Value)(ks ls:List Int)(w:World)(hl:ks.length≤maxLen)(h1:qbO w v1 ks)(h2:qbO w v2 ls):
 Calls Tryz.prog 143 #[v1,v2,.func (.func 174) #[] #[]] w fun e w'=>e=.returned (.bool (qda ks ls))∧qc8 w w':=by
 obtain⟨a1,c1,rfl,h1⟩:=h1;obtain⟨a2,c2,rfl,h2⟩:=h2;have H1:Hid _:=h1;have H2:Hid _:=h2;clear h1 h2;unfold maxLen at hl
 by_cases hlen:ks.length=ls.length
 ·have hle:((ks.length:Int)==(ls.length:Int))=true:=by simp;omega
  have hle2:((ks.length:Int) !=(ls.length:Int))=false:=by simp;omega
  have HLn:Hid (ks.length=ls.length):=hlen;clear hlen;go_enter Tryz.func143,Tryz.ntmps143;go_wp2;clear hle hle2
  go_loopw [15] (fun i wr=>∃k:Nat,k≤ks.length∧i=.int .i64 k∧Hid (ks.take k=ls.take k)∧Hid (qc8 w wr)) (fun i _=>ks.length-(intOf i).toNat)
  case atStart=>exact⟨0,Nat.zero_le _,rfl,by simp[Hid],qc8.refl _⟩
  case round=>
   obtain⟨k,hk,rfl,ht,hD⟩:=hrel;have hB:=hD.out.below
   by_cases hlt:k<ks.length
   ·have hlt2:k<ls.length:=by have:=HLn.out;omega
    rcases H1.out with h0|⟨b,o,rfl,hc⟩
    ·subst h0;simp at hlt
    rcases H2.out with h0|⟨b2,o2,rfl,hc2⟩
    ·subst h0;simp at hlt2
    have n0:wr.cell? ⟨b,o+k,none⟩=some (.int .i64 ks[k]):=qab hB (hc k hlt);have n1:wr.cell? ⟨b2,o2+k,none⟩=some (.int .i64 ls[k]):=qab hB (hc2 k hlt2);have i1:(0:Int)≤(k:Int):=by omega
    have i2:(k:Int)<(ks.length:Int):=by omega
    have i3:(k:Int)<(ls.length:Int):=by omega
    clear hc hc2
    by_cases he:ks[k]=ls[k]
    ·have HT:Hid (ks.take (k+1)=ls.take (k+1)):=qeM hlt hlt2 ht.out he;have he2:(ks[k]==ls[k])=true:=by simpa using he
     clear ht he;generalize ks[k]=u at *;generalize ls[k]=t at *
     have q:∀n,Calls Tryz.prog 174 #[.int .i64 u,.int .i64 t] (wr.drewN n) fun e w'=>e=.returned (.bool true)∧w'=wr.drewN n:=fun n=>by
      have:=qf7 u t (wr.drewN n);rw[he2]at this;exact this
     go_wp2
     go_quiet ((go_at_call 174;exact Calls.quiet_of_same (q _)))
     go_wp2;exact⟨⟨k+1,hlt,by go_num,HT,hD.out.next _⟩,by simp[intOf];omega⟩
    ·have HF:Hid (qda ks ls=false):=by
      unfold Hid qda;rw[decide_eq_false_iff_not];intro e;subst e;exact he rfl
     have he2:(ks[k]==ls[k])=false:=by simpa using he
     clear ht he;generalize ks[k]=u at *;generalize ls[k]=t at *
     have q:∀n,Calls Tryz.prog 174 #[.int .i64 u,.int .i64 t] (wr.drewN n) fun e w'=>e=.returned (.bool false)∧w'=wr.drewN n:=fun n=>by
      have:=qf7 u t (wr.drewN n);rw[he2]at this;exact this
     go_wp2
     go_quiet ((go_at_call 174;exact Calls.quiet_of_same (q _)))
     go_wp2;go_ret;exact⟨by rw[HF.out];rfl,hD.out.next _⟩
   ·have HT:Hid (qda ks ls=true):=by
     have:=ht.out;rw[List.take_of_length_le (by omega),List.take_of_length_le (by have:=HLn.out;omega)]at this;simp[Hid,qda,this]
    go_wp2;go_ret;exact⟨by rw[HT.out];rfl,hD.out⟩
 ·have hle:((ks.length:Int)==(ls.length:Int))=false:=by simp;omega
  have hle2:((ks.length:Int) !=(ls.length:Int))=true:=by simp;omega
  have HF:Hid (qda ks ls=false):=by
   unfold Hid qda;rw[decide_eq_false_iff_not];intro e;subst e;exact hlen rfl
  go_enter Tryz.func143,Tryz.ntmps143;go_wp2;go_ret;exact⟨by rw[HF.out];rfl,qc8.refl _⟩
theorem qgr (v1 v2:Value)(ks ls:List Int)(w:World)(hl:ks.length≤maxLen)(h1:qbO w v1 ks)(h2:qbO w v2 ls):
 Calls Tryz.prog 154 #[v1,v2] w fun e w'=>e=.returned (.bool (qda ks ls))∧qc8 w w':=by
 obtain⟨a1,c1,rfl,_⟩:=id h1;obtain⟨a2,c2,rfl,_⟩:=id h2;have H1:Hid (qbO _ _ _):=h1;have H2:Hid (qbO _ _ _):=h2;clear h1 h2;go_enter Tryz.func154,Tryz.ntmps154
 go_wp2_with fail
 refine(qh9 _ _ ks ls _ hl H1.out H2.out).mono ?_;rintro e w1 ⟨rfl,hD⟩;have HD:Hid (qc8 _ _):=hD;clear hD;go_wp2;go_ret;exact⟨rfl,HD.out⟩
theorem qed (k1 k2:Int)(s1 s2:List UInt8)(q1 q2:List Int)(a1 a2:Option Addr)(c1 c2:Nat)(w:World)(hl:q1.length≤maxLen)(h1:qbO w (.slice a1 q1.length c1) q1)(h2:qbO w (.slice a2 q2.length c2) q2):
 Calls Tryz.prog 153 #[.agg #[.int .i64 k1,.string ⟨s1.toArray⟩,.slice a1 q1.length c1],.agg #[.int .i64 k2,.string ⟨s2.toArray⟩,.slice a2 q2.length c2]] w fun e w'=>
  e=.returned (.bool (qfr ((k1,s1),q1) ((k2,s2),q2)))∧Below w.heap.size w w':=by
 have hB:=boxes w (.cells #[.int .i64 k1,.string ⟨s1.toArray⟩,.slice a1 q1.length c1] 61) (.cells #[.int .i64 k2,.string ⟨s2.toArray⟩,.slice a2 q2.length c2] 61);have H1:Hid (qbO _ _ _):=h1.on hB;have H2:Hid (qbO _ _ _):=h2.on hB;clear h1 h2
 cases hk:(k1==k2) with
 | false=>
  have HF:Hid (qfr ((k1,s1),q1) ((k2,s2),q2)=false):=by
   unfold Hid qfr;rw[decide_eq_false_iff_not];intro e;injection e with e1 _;injection e1 with e2 _;subst e2;simp at hk
  go_enter Tryz.func153,Tryz.ntmps153;go_wp2;go_ret;exact⟨by rw[HF.out];rfl,hB⟩
 | true=>
  cases hs:(s1==s2) with
  | false=>
   have HF:Hid (qfr ((k1,s1),q1) ((k2,s2),q2)=false):=by
    unfold Hid qfr;rw[decide_eq_false_iff_not];intro e;injection e with e1 _;injection e1 with _ e2;subst e2;simp at hs
   go_enter Tryz.func153,Tryz.ntmps153;go_wp2;go_ret;exact⟨by rw[HF.out];rfl,hB⟩
  | true=>
   have HT:Hid (qfr ((k1,s1),q1) ((k2,s2),q2)=qda q1 q2):=by
    have e1:=eq_of_beq hk;have e2:=eq_of_beq hs;subst e1 e2;unfold Hid qfr qda;simp
   go_enter Tryz.func153,Tryz.ntmps153
   go_wp2_with fail
   generalize (w.alloc (.cells #[.int .i64 k1,.string ⟨s1.toArray⟩,.slice a1 q1.length c1] 61)).alloc (.cells #[.int .i64 k2,.string ⟨s2.toArray⟩,.slice a2 q2.length c2] 61)=w0 at *;refine(qgr _ _ q1 q2 _ hl H1.out H2.out).mono ?_;rintro e w1 ⟨rfl,hD⟩;have hB1:=qaa hB hD.below;clear hD;go_wp2;go_ret;exact⟨by rw[HT.out];rfl,hB1⟩
theorem qi1 (v1 v2:Value)(l m:List Pl.Er)(w:World)(hl:l.length≤maxLen)(hs:∀e∈l,e.2.length≤maxLen)(h1:qbl w v1 l)(h2:qbl w v2 m):
 Calls Tryz.prog 152 #[v1,v2,.func (.func 153) #[] #[]] w fun e w'=>e=.returned (.bool (qco l m))∧Below w.heap.size w w':=by
 obtain⟨a1,c1,rfl,h1⟩:=h1;obtain⟨a2,c2,rfl,h2⟩:=h2;have H1:Hid _:=h1;have H2:Hid _:=h2;have HS:Hid _:=hs;clear h1 h2 hs;unfold maxLen at hl
 by_cases hlen:l.length=m.length
 ·have hle:((l.length:Int)==(m.length:Int))=true:=by simp;omega
  have hle2:((l.length:Int) !=(m.length:Int))=false:=by simp;omega
  have HLn:Hid (l.length=m.length):=hlen;clear hlen;go_enter Tryz.func152,Tryz.ntmps152;go_wp2;clear hle hle2
  go_loopw [15] (fun i wr=>∃k:Nat,k≤l.length∧i=.int .i64 k∧Hid (l.take k=m.take k)∧Hid (Below w.heap.size w wr)) (fun i _=>l.length-(intOf i).toNat)
  case atStart=>exact⟨0,Nat.zero_le _,rfl,by simp[Hid],Below.refl _ _⟩
  case round=>
   obtain⟨k,hk,rfl,ht,hD⟩:=hrel
   by_cases hlt:k<l.length
   ·have hlt2:k<m.length:=by have:=HLn.out;omega
    rcases H1.out with h0|⟨b,o,rfl,hc⟩
    ·subst h0;simp at hlt
    rcases H2.out with h0|⟨b2,o2,rfl,hc2⟩
    ·subst h0;simp at hlt2
    have hDd:=hD.out.drew;obtain⟨vi,n0,n1,n2,n3⟩:=(hc k hlt).on hDd;obtain⟨wi,p0,p1,p2,p3⟩:=(hc2 k hlt2).on hDd;have hlk:=HS.out l[k] (List.getElem_mem hlt);have i1:(0:Int)≤(k:Int):=by omega
    have i2:(k:Int)<(l.length:Int):=by omega
    have i3:(k:Int)<(m.length:Int):=by omega
    have HT:Hid (l[k]=m[k]→l.take (k+1)=m.take (k+1)):=fun he=>qeM hlt hlt2 ht.out he
    have HF:Hid (l[k]≠m[k]→qco l m=false):=by
     intro he;unfold qco;rw[decide_eq_false_iff_not];intro e;subst e;exact he rfl
    obtain⟨ai,ci,rfl,_⟩:=id n3;obtain⟨aj,cj,rfl,_⟩:=id p3;have N3:Hid (qbO _ _ _):=n3;have P3:Hid (qbO _ _ _):=p3;have HDd:Hid (Below w.heap.size w wr.drew):=hDd;clear hc hc2 n3 p3 ht hDd;generalize l[k]=x at *;generalize m[k]=y at *;obtain⟨⟨k1,s1⟩,q1⟩:=x;obtain⟨⟨k2,s2⟩,q2⟩:=y;dsimp only at n0 n1 n2 p0 p1 p2 hlk N3 P3
    cases hq:qfr ((k1,s1),q1) ((k2,s2),q2) with
    | false=>
     have HF2:Hid (qco l m=false):=HF.out (of_decide_eq_false hq);go_wp2
     go_region_law (go_simp;go_at_call 153;refine(qed k1 k2 s1 s2 q1 q2 ai aj ci cj _ hlk N3.out P3.out).mono ?_;rw[hq];rintro e w4 ⟨rfl,hb4⟩)
     all_goals
      have HB4:Hid (Below w.heap.size w w4):=qaa HDd.out hb4;go_wp2;go_ret;exact⟨by rw[HF2.out];rfl,HB4.out⟩
    | true=>
     have HT2:Hid (l.take (k+1)=m.take (k+1)):=HT.out (of_decide_eq_true hq);go_wp2
     go_region_law (go_simp;go_at_call 153;refine(qed k1 k2 s1 s2 q1 q2 ai aj ci cj _ hlk N3.out P3.out).mono ?_;rw[hq];rintro e w4 ⟨rfl,hb4⟩)
     all_goals
      have HB4:Hid (Below w.heap.size w w4):=qaa HDd.out hb4;go_wp2;exact⟨⟨k+1,hlt,by go_num,HT2,HB4⟩,by simp[intOf];omega⟩
   ·have HT:Hid (qco l m=true):=by
     have:=ht.out;rw[List.take_of_length_le (by omega),List.take_of_length_le (by have:=HLn.out;omega)]at this;simp[Hid,qco,this]
    go_wp2;go_ret;exact⟨by rw[HT.out];rfl,hD.out⟩
 ·have hle:((l.length:Int)==(m.length:Int))=false:=by simp;omega
  have hle2:((l.length:Int) !=(m.length:Int))=true:=by simp;omega
  have HF:Hid (qco l m=false):=by
   unfold Hid qco;rw[decide_eq_false_iff_not];intro e;subst e;exact hlen rfl
  go_enter Tryz.func152,Tryz.ntmps152;go_wp2;go_ret;exact⟨by rw[HF.out];rfl,Below.refl _ _⟩
theorem qeR (v1 v2:Value)(l m:List Pl.Er)(w:World)(hl:l.length≤maxLen)(hs:∀e∈l,e.2.length≤maxLen)(h1:qbl w v1 l)(h2:qbl w v2 m):
 Calls Tryz.prog 119 #[v1,v2] w fun e w'=>e=.returned (.bool (qco l m))∧Below w.heap.size w w':=by
 obtain⟨a1,c1,rfl,_⟩:=id h1;obtain⟨a2,c2,rfl,_⟩:=id h2;have H1:Hid (qbl _ _ _):=h1;have H2:Hid (qbl _ _ _):=h2;have HS:Hid _:=hs;clear h1 h2 hs;go_enter Tryz.func119,Tryz.ntmps119
 go_wp2_with fail
 refine(qi1 _ _ l m _ hl HS.out H1.out H2.out).mono ?_;rintro e w1 ⟨rfl,hD⟩;have HD:Hid (Below _ _ _):=hD;clear hD;go_wp2;go_ret;exact⟨rfl,HD.out⟩
end Go.Proofs.YtephhllfodlfbaaGreatDoor
