/-
  A right element, as the document's own answer tells it.
-/
import Derived.Test.YtephhllfodlfbaaGreatDoorRefN
set_option maxRecDepth 100000
set_option maxHeartbeats 16000000
namespace Go.Proofs.YtephhllfodlfbaaGreatDoor
open Go.RowKit
theorem qhs:∀(ss:List (List UInt8)),Pl.rise ss=true↔∀j (h:j+1<ss.length),Op.bytesLess ss[j] ss[j+1]=true
 | []=>by simp[Pl.rise]
 | [a]=>by simp[Pl.rise]
 | a::b::r=>by
  rw[Pl.rise,Bool.and_eq_true,qhs (b::r)];constructor
  ·rintro ⟨h1,h2⟩ j hj
   cases j with
   | zero=>exact h1
   | succ j=>exact h2 j (by simpa using hj)
  ·intro h;exact⟨h 0 (by simp),fun j hj=>h (j+1) (by simpa using hj)⟩
def qc0 (ss:List (List UInt8))(k:Nat):Prop:=∀j (h:j<ss.length),j<k→Pl.qaj ss[j]=true∧(∀(i:Nat) (hi:i+1=j),Op.bytesLess (ss[i]'(by omega)) ss[j]=true)
theorem qgj {ss:List (List UInt8)}{m:Nat}(hm:ss.length≤m)(h:qc0 ss ss.length):Pl.names m ss=true:=by
 unfold Pl.names
 have h2:ss.all Pl.qaj=true:=by
  rw[List.all_eq_true];intro x hx;obtain⟨i,hi,rfl⟩:=List.mem_iff_getElem.mp hx;exact(h i hi hi).1
 have h3:Pl.rise ss=true:=(qhs ss).mpr fun j hj=>(h (j+1) hj hj).2 j rfl
 simp[hm,h2,h3]
theorem qgZ {ss:List (List UInt8)}{m k:Nat}(hk:k<ss.length)(h:Pl.qaj ss[k]=false):Pl.names m ss=false:=by
 unfold Pl.names;rw[qeD ss k hk h];simp
theorem qgI {ss:List (List UInt8)}{m k:Nat}(hk:k+1<ss.length)(h:Op.bytesLess ss[k] ss[k+1]=false):Pl.names m ss=false:=by
 unfold Pl.names
 have:Pl.rise ss=false:=by
  cases hr:Pl.rise ss with
  | false=>rfl
  | true=>rw[qhs]at hr;rw[hr k hk]at h;cases h
 rw[this];simp
theorem qeL {ss:List (List UInt8)}(hk:0<ss.length)(h1:Pl.qaj ss[0]=true):qc0 ss 1:=by
 intro j hj hlt;have:j=0:=by omega
 subst this;exact⟨h1,fun i hi=>by omega⟩
theorem qfv {ss:List (List UInt8)}{k:Nat}(hk:k+1<ss.length)(h:qc0 ss (k+1))(h1:Pl.qaj ss[k+1]=true)(h2:Op.bytesLess ss[k] ss[k+1]=true):qc0 ss (k+2):=by
 intro j hj hlt
 by_cases hjk:j<k+1
 ·exact h j hj hjk
 ·have:j=k+1:=by omega
  subst this;refine⟨h1,fun i hi=>?_⟩;have:i=k:=by omega
  subst this;exact h2
theorem fine_tag (v:Value)(x:Pl.Nd)(w:World)(hv:NdV w v x)(hm:Fits x)(ht:Pl.qaj x.tag=false):
 Calls Tryz.prog 112 #[v] w fun e w'=>e=.returned (.bool (Pl.right x))∧Below w.heap.size w w':=by
 obtain⟨vc,va,rfl,hc,ha⟩:=hv;obtain⟨m1,m2⟩:=hm;obtain⟨ac,cc,rfl,hc'⟩:=id hc;obtain⟨aa,ca,rfl,ha'⟩:=id ha;clear hc ha hc' ha';have HR:Hid (Pl.right x=false):=by simp[Hid,Pl.right,ht]
 go_enter Tryz.func112,Tryz.ntmps112
 go_wp2_with (go_at_call 114;refine(qak _ _).mono ?_;rintro e w' ⟨rfl,rfl⟩;rw[ht])
 go_ret;exact⟨by rw[HR.out];rfl,qac _ _⟩
theorem fine_rest (v:Value)(x:Pl.Nd)(w:World)(hv:NdV w v x)(hm:Fits x)(ht:Pl.qaj x.tag=true):
 Calls Tryz.prog 112 #[v] w fun e w'=>e=.returned (.bool (Pl.right x))∧Below w.heap.size w w':=by
 obtain⟨vc,va,rfl,hc,ha⟩:=hv;obtain⟨m1,m2⟩:=hm;obtain⟨ac,cc,rfl,hc'⟩:=id hc;obtain⟨aa,ca,rfl,ha'⟩:=id ha;have HC:Hid _:=hc';have HA:Hid _:=ha';clear hc ha hc' ha';unfold maxLen at m1 m2
 have hid:x.id=[]∨(x.id≠[]∧Pl.qaj x.id=true)∨(x.id≠[]∧Pl.qaj x.id=false):=by
  by_cases h:x.id=[]
  ·exact Or.inl h
  ·cases Pl.qaj x.id
   ·exact Or.inr (Or.inr ⟨h,rfl⟩)
   ·exact Or.inr (Or.inl ⟨h,rfl⟩)
 rcases hid with hi|⟨hi,hi2⟩|⟨hi,hi2⟩
 case' inr.inr=>
  have HR:Hid (Pl.right x=false):=by simp[Hid,Pl.right,hi,hi2]
  go_enter Tryz.func112,Tryz.ntmps112
  go_wp2_with (go_at_call 114;refine(qak _ _).mono ?_;rintro e w' ⟨rfl,rfl⟩;first|rw[hi2]|rw[ht])
  go_ret;exact⟨by rw[HR.out];rfl,qac _ _⟩
 case' inl=>have HI:Hid ((x.id.isEmpty||Pl.qaj x.id)=true):=by simp[Hid,hi]
 case' inr.inl=>have HI:Hid ((x.id.isEmpty||Pl.qaj x.id)=true):=by simp[Hid,hi2]
 all_goals
  by_cases hl1:(6:Int)<(x.cls.length:Int)
  ·have HR:Hid (Pl.right x=false):=by
    have:¬x.cls.length≤6:=by omega
    simp[Hid,Pl.right,Pl.names,this]
   go_enter Tryz.func112,Tryz.ntmps112
   go_wp2_with (go_at_call 114;refine(qak _ _).mono ?_;rintro e w' ⟨rfl,rfl⟩;first|rw[ht]|rw[hi2])
   go_ret;exact⟨by rw[HR.out];rfl,qac _ _⟩
  ·by_cases hl2:(4:Int)<(x.ats.length:Int)
   ·have HR:Hid (Pl.right x=false):=by
     have:¬x.ats.length≤4:=by omega
     simp[Hid,Pl.right,Pl.names,this]
    go_enter Tryz.func112,Tryz.ntmps112
    go_wp2_with (go_at_call 114;refine(qak _ _).mono ?_;rintro e w' ⟨rfl,rfl⟩;first|rw[ht]|rw[hi2])
    go_ret;exact⟨by rw[HR.out];rfl,qac _ _⟩
   ·go_enter Tryz.func112,Tryz.ntmps112
    go_wp2_with (go_at_call 114;refine(qak _ _).mono ?_;rintro e w' ⟨rfl,rfl⟩;first|rw[ht]|rw[hi2])
    go_loopw [3] (fun i wr=>∃k:Nat,k≤x.cls.length∧i=.int .i64 k∧Hid (qc0 x.cls k)∧Below w.heap.size w wr∧wr.cell? ⟨w.heap.size,3,none⟩=some (.slice ac x.cls.length cc)∧wr.cell? ⟨w.heap.size,4,none⟩=some (.slice aa x.ats.length ca)) (fun i _=>x.cls.length-(intOf i).toNat)
    case atStart=>exact⟨0,Nat.zero_le _,rfl,fun j _ h=>by omega,qac _ _,by simp[go_sem],by simp[go_sem]⟩
    case round=>
     obtain⟨k,hk,rfl,hd,hB,hb3,hb4⟩:=hrel
     by_cases hlt:k<x.cls.length
     ·obtain⟨b,o,rfl,hcell⟩:=HC.out.resolve_left (by intro h;rw[h]at hlt;simp at hlt);have c0:wr.cell? ⟨b,o+k,none⟩=some (.string ⟨x.cls[k].toArray⟩):=qab hB (hcell k hlt);have i3:(k:Int)<(x.cls.length:Int):=by omega
      have i0:(0:Int)≤(k:Int):=by omega
      cases hn:Pl.qaj x.cls[k] with
      | false=>
       have HR:Hid (Pl.right x=false):=by simp[Hid,Pl.right,qgZ (m:=6) hlt hn]
       have q:∀w,Calls Tryz.prog 114 #[.string ⟨x.cls[k].toArray⟩] w fun e w'=>e=.returned (.bool false)∧w'=w:=fun w=>by
        have:=qak x.cls[k] w
        rwa [hn]at this
       clear hcell HC HA;go_wp2
       go_quiet ((go_at_call 114;exact Calls.quiet_of_same (q _)))
       go_wp2;go_ret;exact⟨by rw[HR.out];rfl,below_drewN hB _⟩
      | true=>
       have q:∀w,Calls Tryz.prog 114 #[.string ⟨x.cls[k].toArray⟩] w fun e w'=>e=.returned (.bool true)∧w'=w:=fun w=>by
        have:=qak x.cls[k] w
        rwa [hn]at this
       rcases Nat.eq_zero_or_pos k with rfl|hkp
       ·have HN:Hid (qc0 x.cls 1):=qeL hlt hn;rw[Nat.add_zero]at c0;clear hcell HC HA;go_wp2
        go_quiet ((go_at_call 114;exact Calls.quiet_of_same (q _)))
        go_wp2;exact⟨⟨1,hlt,by go_num,HN,below_drewN hB _,by simpa [go_sem] using hb3,by simpa [go_sem] using hb4⟩,by simp[intOf];omega⟩
       ·obtain⟨j,rfl⟩:∃j,k=j+1:=⟨k-1,by omega⟩
        have c1:wr.cell? ⟨b,o+j,none⟩=some (.string ⟨x.cls[j].toArray⟩):=qab hB (hcell j (by omega));have ek:((j+1:Nat):Int)=(j:Int)+1:=by omega
        rw[ek]at i3 i0;rw[ek];have i1:(0:Int)≤(j:Int):=by omega
        have i2:(j:Int)<(x.cls.length:Int):=by omega
        have i4:(0:Int)<(j:Int)+1:=by omega
        cases hle:Op.bytesLess x.cls[j] x.cls[j+1] with
        | true=>
         have HN:Hid (qc0 x.cls (j+2)):=qfv hlt hd.out hn hle;clear hcell HC HA;go_wp2
         go_quiet ((go_at_call 114;exact Calls.quiet_of_same (q _)))
         go_wp2;exact⟨⟨j+2,by omega,by go_num,HN,below_drewN hB _,by simpa [go_sem] using hb3,by simpa [go_sem] using hb4⟩,by simp[intOf];omega⟩
        | false=>
         have HR:Hid (Pl.right x=false):=by simp[Hid,Pl.right,qgI (m:=6) hlt hle]
         clear hcell HC HA;go_wp2
         go_quiet ((go_at_call 114;exact Calls.quiet_of_same (q _)))
         go_wp2;go_ret;exact⟨by rw[HR.out];rfl,below_drewN hB _⟩
     ·have HN:Hid (Pl.names 6 x.cls=true):=by
       have:k=x.cls.length:=by omega
       subst this;exact qgj (by omega) hd.out
      clear hd HC;go_wp2
      go_loopw [4] (fun i wr=>∃k:Nat,k≤x.ats.length∧i=.int .i64 k∧Hid (qc0 (x.ats.map (·.1)) k∧∀j (h:j<x.ats.length),j<k→Pl.qao x.ats[j].2=true)∧Below w.heap.size w wr∧wr.cell? ⟨w.heap.size,4,none⟩=some (.slice aa x.ats.length ca)) (fun i _=>x.ats.length-(intOf i).toNat)
      case atStart=>exact⟨0,Nat.zero_le _,rfl,⟨fun j _ h=>by omega,fun j _ h=>by omega⟩,hB,hb4⟩
      case round=>
       clear hB hb4;obtain⟨k,hk,rfl,hd,hB,hb4⟩:=hrel
       by_cases hlt:k<x.ats.length
       ·obtain⟨b,o,rfl,hcell⟩:=HA.out.resolve_left (by intro h;rw[h]at hlt;simp at hlt);have c0:wr.cell? ⟨b,o+k*2,none⟩=some (.string ⟨x.ats[k].1.toArray⟩):=qab hB (hcell k hlt).1;have c2:wr.cell? ⟨b,o+k*2+1,none⟩=some (.string ⟨x.ats[k].2.toArray⟩):=qab hB (hcell k hlt).2;have i3:(k:Int)<(x.ats.length:Int):=by omega
        have i0:(0:Int)≤(k:Int):=by omega
        have hltm:k<(x.ats.map (·.1)).length:=by simpa using hlt
        have em:(x.ats.map (·.1))[k]=x.ats[k].1:=by simp
        cases hn:Pl.qaj x.ats[k].1 with
        | false=>
         have HR:Hid (Pl.right x=false):=by simp[Hid,Pl.right,qgZ (m:=4) hltm (by rw[em];exact hn)]
         have q:∀w,Calls Tryz.prog 114 #[.string ⟨x.ats[k].1.toArray⟩] w fun e w'=>e=.returned (.bool false)∧w'=w:=fun w=>by
          have:=qak x.ats[k].1 w
          rwa [hn]at this
         clear hcell HA em;go_wp2
         go_quiet ((go_at_call 114;exact Calls.quiet_of_same (q _)))
         go_wp2;go_ret;exact⟨by rw[HR.out];rfl,below_drewN hB _⟩
        | true=>
         have q:∀w,Calls Tryz.prog 114 #[.string ⟨x.ats[k].1.toArray⟩] w fun e w'=>e=.returned (.bool true)∧w'=w:=fun w=>by
          have:=qak x.ats[k].1 w
          rwa [hn]at this
         cases hva:Pl.qao x.ats[k].2 with
         | false=>
          have HR:Hid (Pl.right x=false):=by
           have:x.ats.all (fun a=>Pl.qao a.2)=false:=qeD (p:=fun (a:List UInt8×List UInt8)=>Pl.qao a.2) x.ats k hlt hva;simp only[Hid,Pl.right,this,Bool.and_false]
          have q2:∀w,Calls Tryz.prog 115 #[.string ⟨x.ats[k].2.toArray⟩] w fun e w'=>e=.returned (.bool false)∧w'=w:=fun w=>by
           have:=qap x.ats[k].2 w
           rwa [hva]at this
          clear hcell HA em;go_wp2
          go_quiet (first|(go_at_call 114;exact Calls.quiet_of_same (q _))|(go_at_call 115;exact Calls.quiet_of_same (q2 _)))
          go_wp2;go_ret;exact⟨by rw[HR.out];rfl,below_drewN hB _⟩
         | true=>
          have q2:∀w,Calls Tryz.prog 115 #[.string ⟨x.ats[k].2.toArray⟩] w fun e w'=>e=.returned (.bool true)∧w'=w:=fun w=>by
           have:=qap x.ats[k].2 w
           rwa [hva]at this
          have HV:Hid (∀j (h:j<x.ats.length),j<k+1→Pl.qao x.ats[j].2=true):=by
           intro j hj hjk
           by_cases h:j<k
           ·exact hd.out.2 j hj h
           ·have:j=k:=by omega
            subst this;exact hva
          rcases Nat.eq_zero_or_pos k with rfl|hkp
          ·have HN:Hid (qc0 (x.ats.map (·.1)) 1):=qeL hltm (by rw[em];exact hn);rw[Nat.zero_mul,Nat.add_zero]at c0 c2;clear hcell HA em;go_wp2
           go_quiet (first|(go_at_call 114;exact Calls.quiet_of_same (q _))|(go_at_call 115;exact Calls.quiet_of_same (q2 _)))
           go_wp2;exact⟨⟨1,hlt,by go_num,⟨HN.out,HV.out⟩,below_drewN hB _,by simpa [go_sem] using hb4⟩,by simp[intOf];omega⟩
          ·obtain⟨j,rfl⟩:∃j,k=j+1:=⟨k-1,by omega⟩
           have c1:wr.cell? ⟨b,o+j*2,none⟩=some (.string ⟨x.ats[j].1.toArray⟩):=qab hB (hcell j (by omega)).1;have ek:((j+1:Nat):Int)=(j:Int)+1:=by omega
           rw[ek]at i3 i0;rw[ek];have i1:(0:Int)≤(j:Int):=by omega
           have i2:(j:Int)<(x.ats.length:Int):=by omega
           have i4:(0:Int)<(j:Int)+1:=by omega
           have em2:(x.ats.map (·.1))[j]'(by simp;omega)=x.ats[j].1:=by simp
           cases hle:Op.bytesLess x.ats[j].1 x.ats[j+1].1 with
           | true=>
            have HN:Hid (qc0 (x.ats.map (·.1)) (j+2)):=qfv hltm hd.out.1 (by rw[em];exact hn) (by rw[em,em2];exact hle);clear hcell HA em em2;go_wp2
            go_quiet (first|(go_at_call 114;exact Calls.quiet_of_same (q _))|(go_at_call 115;exact Calls.quiet_of_same (q2 _)))
            go_wp2;exact⟨⟨j+2,by omega,by go_num,⟨HN.out,HV.out⟩,below_drewN hB _,by simpa [go_sem] using hb4⟩,by simp[intOf];omega⟩
           | false=>
            have HR:Hid (Pl.right x=false):=by simp[Hid,Pl.right,qgI (m:=4) hltm (by rw[em,em2];exact hle)]
            clear hcell HA em em2;go_wp2
            go_quiet (first|(go_at_call 114;exact Calls.quiet_of_same (q _))|(go_at_call 115;exact Calls.quiet_of_same (q2 _)))
            go_wp2;go_ret;exact⟨by rw[HR.out];rfl,below_drewN hB _⟩
       ·have HR:Hid (Pl.right x=true):=by
         have:k=x.ats.length:=by omega
         subst this;have h1:Pl.names 4 (x.ats.map (·.1))=true:=qgj (by simp;omega) (by simpa using hd.out.1)
         have h2:x.ats.all (fun a=>Pl.qao a.2)=true:=by
          rw[List.all_eq_true];intro a ha;obtain⟨i,hi,rfl⟩:=List.mem_iff_getElem.mp ha;exact hd.out.2 i hi hi
         simp only[Hid,Pl.right,ht,HI.out,HN.out,h1,h2,Bool.and_self]
        go_wp2;go_ret;exact⟨by rw[HR.out];rfl,hB⟩
theorem fine_any (v:Value)(x:Pl.Nd)(w:World)(hm:Fits x)(hv:NdV w v x):
 Calls Tryz.prog 112 #[v] w fun e w'=>e=.returned (.bool (Pl.right x))∧Below w.heap.size w w':=by
 cases ht:Pl.qaj x.tag with
 | false=>exact fine_tag v x w hv hm ht
 | true=>exact fine_rest v x w hv hm ht
theorem qhe (a:Option Addr)(n cap:Nat)(w:World)(h:n<1∨64<n)(hm:n≤maxLen):
 Calls Tryz.prog 56 #[.agg #[.slice a n cap]] w fun e w'=>e=.returned (.int .i64 2)∧Below w.heap.size w w':=by
 unfold maxLen at hm;have hw:within (n:Int) 1 64=false:=by unfold within;simp;omega
 go_enter Tryz.func56,Tryz.ntmps56
 go_wp2_with (go_at_call 64;refine(qay _ _ _ _).mono ?_;rintro e w' ⟨rfl,rfl⟩;rw[hw])
 go_ret;exact⟨rfl,qac _ _⟩
theorem qhD (b o cap:Nat)(ns:List Pl.Nd)(w:World)(h1:1≤ns.length)(h64:ns.length≤64)(hf:qdO ns)(hc:∀i (h:i<ns.length),NdAt w b (o+i*5) ns[i]):
 Calls Tryz.prog 56 #[.agg #[.slice (some ⟨b,o,none⟩) ns.length cap]] w fun e w'=>e=.returned (.int .i64 (Pl.qad ns))∧Below w.heap.size w w':=by
 have HC:Hid (∀i (h:i<ns.length),NdAt w b (o+i*5) ns[i]):=hc;have HFit:Hid (qdO ns):=hf;clear hc hf;have hw:within (ns.length:Int) 1 64=true:=by unfold within;simp;omega
 go_enter Tryz.func56,Tryz.ntmps56
 go_wp2_with (go_at_call 64;refine(qay _ _ _ _).mono ?_;rintro e w' ⟨rfl,rfl⟩;rw[hw])
 go_loopw [3] (fun i wr=>∃k:Nat,k≤ns.length∧i=.int .i64 k∧Hid (Pl.okTo ns k=true)∧Below w.heap.size w wr∧wr.cell? ⟨w.heap.size,0,none⟩=some (.slice (some ⟨b,o,none⟩) ns.length cap)) (fun i _=>ns.length-(intOf i).toNat)
 case atStart=>exact⟨0,Nat.zero_le _,rfl,rfl,qac _ _,by simp[go_sem]⟩
 case round=>
  obtain⟨k,hk,rfl,hd,hB,hbox⟩:=hrel
  by_cases hlt:k<ns.length
  ·obtain⟨vc,va,n0,n1,n2,n3,n4,nc,na⟩:=(HC.out k hlt).on hB;obtain⟨ac,cc,rfl,_⟩:=id nc;obtain⟨aa,ca,rfl,_⟩:=id na;have HV:Hid (NdV wr (.agg #[.int .i64 ns[k].up,.string ⟨ns[k].tag.toArray⟩,.string ⟨ns[k].id.toArray⟩,.slice ac ns[k].cls.length cc,.slice aa ns[k].ats.length ca]) ns[k]):=⟨_,_,rfl,nc,na⟩
   clear nc na
   cases hr:Pl.right ns[k] with
   | false=>
    have HF:Hid (Pl.qad ns=1):=qcj h1 h64 (qdj hlt (by rw[hr];rfl))
    go_wp2_with fail
    refine(fine_any _ ns[k] _ (HFit.out.2 k hlt) HV.out).mono ?_;rintro e w1 ⟨rfl,hw1⟩;rw[hr];have hB1:=qaa hB hw1;go_wp2;go_ret;exact⟨by rw[HF.out];rfl,hB1⟩
   | true=>
    go_wp2_with fail
    refine(fine_any _ ns[k] _ (HFit.out.2 k hlt) HV.out).mono ?_;rintro e w1 ⟨rfl,hw1⟩;rw[hr];have hB1:=qaa hB hw1;have hbox1:=qab hw1 hbox;have HC1:Hid (∀k,k<ns.length→w1.cell? ⟨b,o+k*5,none⟩=some (.int .i64 (Pl.upOf ns k))):=fun k h=>qdN (fun i h=>(HC.out i h).on hB1) k h
    have ck:=HC1.out k hlt;clear hw1 hbox n0 n1 n2 n3 n4 HV
    rcases Nat.eq_zero_or_pos k with rfl|hkp
    ·rw[Nat.zero_mul,Nat.add_zero]at ck;have i0:(0:Int)<(ns.length:Int):=by omega
     cases hh:(Pl.upOf ns 0== -1) with
     | false=>
      have hhang:Pl.hangs ns 0=false:=by simp[Pl.hangs,hh]
      have HF:Hid (Pl.qad ns=1):=qcj h1 h64 (qdj hlt (by rw[hhang];simp));generalize Pl.upOf ns 0=u at *;go_wp2;go_ret;exact⟨by rw[HF.out];rfl,hB1⟩
     | true=>
      have hhang:Pl.hangs ns 0=true:=by simp[Pl.hangs,hh]
      have HN:Hid (Pl.okTo ns (0+1)=true):=qgk hlt hd.out hr hhang;generalize Pl.upOf ns 0=u at *;go_wp2;refine wp_loop_rounds 1 ?_;rw[rounds_succ];go_wp2;exact⟨⟨1,hlt,by go_num,HN,hB1,hbox1⟩,by simp[intOf];omega⟩
    ·have hz:((k:Int)==0)=false:=by simp;omega
     have HH:Hid (Pl.hangs ns k=way ns ((k:Int)-1) (Pl.upOf ns k)):=qii ns k (by omega);have HL:Hid (Pl.Low ns k):=Pl.qdY k hd.out;have HF:Hid (Pl.hangs ns k=false→Pl.qad ns=1):=fun hh=>qcj h1 h64 (qdj hlt (by rw[hh];simp))
     have HN:Hid (Pl.hangs ns k=true→Pl.okTo ns (k+1)=true):=fun hh=>qgk hlt hd.out hr hh
     generalize Pl.upOf ns k=t at *;go_wp2
     go_loop [4,5] (fun f u=>∃(fb:Bool) (q:Int),f=.bool fb∧u=.int .i64 q∧ -1≤q∧q<k∧Hid (fb=true→Pl.hangs ns k=true)∧Hid (fb=false→Pl.hangs ns k=way ns q t)) (fun _ u=>(intOf u+1).toNat)
     case atStart=>exact⟨false,(k:Int)-1,rfl,rfl,by omega,by omega,(fun h=>by cases h),fun _=>HH.out⟩
     case round=>
      obtain⟨fb,q,rfl,rfl,hq1,hq2,hf1,hf2⟩:=hrel
      by_cases hneg:q<0
      ·cases fb with
       | true=>
        have HO:Hid (Pl.okTo ns (k+1)=true):=HN.out (hf1.out rfl);go_wp2;exact⟨⟨k+1,hlt,by go_num,HO,hB1,hbox1⟩,by simp[intOf];omega⟩
       | false=>
        have HO:Hid (Pl.qad ns=1):=by
         refine HF.out ?_;have:q= -1:=by omega
         subst this;exact(hf2.out rfl).trans (way_neg ns t)
        go_wp2;go_ret;exact⟨by rw[HO.out];rfl,hB1⟩
      ·cases fb with
       | true=>
        have HO:Hid (Pl.okTo ns (k+1)=true):=HN.out (hf1.out rfl);go_wp2;exact⟨⟨k+1,hlt,by go_num,HO,hB1,hbox1⟩,by simp[intOf];omega⟩
       | false=>
        obtain⟨j,rfl⟩:∃j:Nat,q=j:=⟨q.toNat,by omega⟩
        have hj:j<k:=by omega
        have cj:=HC1.out j (by omega);obtain⟨u1,u2⟩:=HL.out j hj
        cases he:((j:Int)==t) with
        | true=>
         have HT:Hid (Pl.hangs ns k=true):=by
          have:(j:Int)=t:=by simpa using he
          rw[Hid,hf2.out rfl,←this];exact way_hit ns j
         generalize Pl.upOf ns j=u at *;go_wp2;exact⟨⟨true,u,rfl,rfl,u1,by omega,fun _=>HT.out,(fun h=>by cases h)⟩,by simp[intOf];omega⟩
        | false=>
         have HS:Hid (Pl.hangs ns k=way ns (Pl.upOf ns j) t):=(hf2.out rfl).trans (way_step HL.out j hj t he);generalize Pl.upOf ns j=u at *;go_wp2;exact⟨⟨false,u,rfl,rfl,u1,by omega,(fun h=>by cases h),fun _=>HS.out⟩,by simp[intOf];omega⟩
  ·have HF:Hid (Pl.qad ns=0):=by
    have he:k=ns.length:=by omega
    have:=hd.out;rw[he]at this;exact qeQ h1 h64 this
   go_wp2;go_ret;exact⟨by rw[HF.out];rfl,hB⟩
theorem qdR (v:Value)(ns:List Pl.Nd)(w:World)(hf:qdO ns)(hv:qa8 w v ns):
 Calls Tryz.prog 56 #[.agg #[v]] w fun e w'=>e=.returned (.int .i64 (Pl.qad ns))∧Below w.heap.size w w':=by
 obtain⟨a,cap,rfl,h⟩:=hv
 by_cases hl:ns.length<1∨64<ns.length
 ·have:Pl.qad ns=2:=by unfold Pl.qad;rw[if_pos hl]
  rw[this];exact qhe a ns.length cap w hl hf.1
 ·rcases h with rfl|⟨b,o,rfl,hc⟩
  ·simp at hl
  ·exact qhD b o cap ns w (by omega) (by omega) hf hc
theorem within_has (len:Nat)(n:Int):within n 0 ((len:Int)-1)=hasB len n:=by
 unfold within hasB
 congr 1
 rw[decide_eq_decide];omega
def qaH (ns:List Pl.Nd)(up:Int)(place:Nat)(es:List Pl.Nd):List Pl.Nd:=
 (ns.take place).map (Pl.mvd id)++es.map (Pl.mvd (Pl.mvIn up place))++(ns.drop place).map (Pl.mvd (Pl.qdz place es.length))
theorem qdg (w:World)(o1 o2 o3:Obj):Below w.heap.size w (((w.alloc o1).alloc o2).alloc o3):=((Below.refl w.heap.size w).alloc (Nat.le_refl _) o1).alloc (by simp) o2 |>.alloc (by simp;omega) o3
def placeOf (ns:List Pl.Nd)(up at_:Int):Nat:=if at_<((Pl.qae ns up).length:Int) then (Pl.qae ns up).getD at_.toNat 0 else Pl.behind ns up.toNat
def qax (ns:List Pl.Nd)(up at_:Int)(es:List Pl.Nd):Int:=
 if Pl.qad ns=0 then if Pl.qad es=0 then if hasB ns.length up=true then if at_<0∨((Pl.qae ns up).length:Int)<at_ then 3 else if 64<ns.length+es.length then 2 else 0 else 5 else Pl.qad es else Pl.qad ns
def qaO (ns:List Pl.Nd)(up at_:Int)(es:List Pl.Nd):List Pl.Nd:=if qax ns up at_ es=0 then qaH ns up (placeOf ns up at_) es else []
theorem kids_lt {ns:List Pl.Nd}{n:Int}{i:Nat}(h:i∈Pl.qae ns n):i<ns.length:=by
 unfold Pl.qae Pl.qaJ at h;have:=(List.mem_filter.1 h).1
 simpa using this
theorem qdT (ns:List Pl.Nd)(up:Int)(place:Nat)(es:List Pl.Nd):(qaH ns up place es).length=ns.length+es.length:=by
 unfold qaH;simp;omega
theorem qdE {ns es:List Pl.Nd}(h1:∀x∈ns,x.cls.length≤6∧x.ats.length≤4)(h2:∀x∈es,x.cls.length≤6∧x.ats.length≤4)(up:Int)(place:Nat):∀x∈qaH ns up place es,x.cls.length≤6∧x.ats.length≤4:=by
 intro x hx;unfold qaH at hx
 rcases List.mem_append.1 hx with hx|hx
 ·rcases List.mem_append.1 hx with hx|hx
  ·exact qcK (fun x hx=>h1 x (List.mem_of_mem_take hx)) x hx
  ·exact qcK h2 x hx
 ·exact qcK (fun x hx=>h1 x (List.mem_of_mem_drop hx)) x hx
def kidsAns (ns:List Pl.Nd)(n:Int):List Nat:=if qai ns n=0 then Pl.qae ns n else []
end Go.Proofs.YtephhllfodlfbaaGreatDoor
namespace Go.Proofs.YtephhllfodlfbaaGreatDoor.Pl
def qa7 (ns:List Nd)(N:Nat):Prop:=
 ∀n:Nat,n<N→(n=0→upOf ns n= -1)∧(0<n→0≤upOf ns n∧upOf ns n<n∧∀m:Nat,upOf ns n<m→m<n→upOf ns n≤upOf ns m)
theorem chase_iff {ns:List Nd}{n:Nat}(hg:qa7 ns n):∀(f:Nat) (k t:Int),k<n→ -1≤k→k+1<f→(chase ns f k t=true↔0≤t∧t≤k∧∀m:Nat,t<m→(m:Int)≤k→t≤upOf ns m):=by
 intro f
 induction f with
 | zero=>intro k t _ h1 h2;omega
 | succ f ih=>
  intro k t hk h1 h2;unfold chase
  by_cases h0:k<0
  ·rw[if_pos h0];constructor
   ·intro h;cases h
   ·rintro ⟨a,b,_⟩;omega
  ·rw[if_neg h0]
   by_cases he:(k==t)=true
   ·rw[if_pos he];have he':k=t:=by simpa using he
    constructor
    ·intro _;exact⟨by omega,by omega,fun m _ _=>by omega⟩
    ·intro _;rfl
   ·rw[if_neg he];have he':k≠t:=by simpa using he
    obtain⟨k',rfl⟩:∃k':Nat,k=k':=⟨k.toNat,by omega⟩
    obtain⟨g0,g1⟩:=hg k' (by omega)
    have hup: -1≤upOf ns k'∧upOf ns k'<k':=by
     rcases Nat.eq_zero_or_pos k' with h|h
     ·rw[g0 h];omega
     ·have:=g1 h;omega
    rw[show ((k':Int)).toNat=k' by omega,ih _ _ (by omega) hup.1 (by omega)];constructor
    ·rintro ⟨a,b,c⟩;refine⟨a,by omega,fun m hm hmk=>?_⟩
     by_cases hmu:(m:Int)≤upOf ns k'
     ·exact c m hm hmu
     ·by_cases hmk':m=k'
      ·subst hmk';exact b
      ·have hpos:0<k':=by omega
       have:=(g1 hpos).2.2 m (by omega) (by omega);omega
    ·rintro ⟨a,b,c⟩;exact⟨a,c k' (by omega) (by omega),fun m hm hmk=>c m hm (by omega)⟩
theorem qiI {ns:List Nd}{n:Nat}(hg:qa7 ns n):hangs ns n=true↔(n=0→upOf ns n= -1)∧(0<n→0≤upOf ns n∧upOf ns n<n∧∀m:Nat,upOf ns n<m→m<n→upOf ns n≤upOf ns m):=by
 unfold hangs
 by_cases h0:n=0
 ·subst h0;simp
 ·rw[if_neg h0,chase_iff hg _ _ _ (by omega) (by omega) (by omega)];constructor
  ·rintro ⟨a,b,c⟩;exact⟨fun h=>absurd h h0,fun _=>⟨a,by omega,fun m h1 h2=>c m h1 (by omega)⟩⟩
  ·rintro ⟨_,h⟩;obtain⟨a,b,c⟩:=h (by omega);exact⟨a,by omega,fun m h1 h2=>c m h1 (by omega)⟩
theorem qa7.succ {ns:List Nd}{n:Nat}(hg:qa7 ns n)(h:(n=0→upOf ns n= -1)∧(0<n→0≤upOf ns n∧upOf ns n<n∧∀m:Nat,upOf ns n<m→m<n→upOf ns n≤upOf ns m)):qa7 ns (n+1):=by
 intro k hk
 by_cases h1:k=n
 ·subst h1;exact h
 ·exact hg k (by omega)
def qcw (ns:List Nd):Prop:=∀x∈ns,right x=true
theorem qhW {ns:List Nd}:∀N,N≤ns.length→okTo ns N=true→qa7 ns N∧∀k (h:k<ns.length),k<N→right ns[k]=true
 | 0,_,_=>⟨fun n h=>by omega,fun k _ h=>by omega⟩
 | N+1,hN,h=>by
  rw[qde,Bool.and_eq_true,Bool.and_eq_true,List.getElem?_eq_getElem (by omega:N<ns.length)]at h;obtain⟨g,r⟩:=qhW N (by omega) h.1;refine⟨g.succ ((qiI g).1 h.2.2),fun k hk hkN=>?_⟩
  by_cases h1:k=N
  ·subst h1;exact h.2.1
  ·exact r k hk (by omega)
theorem qin {ns:List Nd}(hr:qcw ns):∀N,N≤ns.length→qa7 ns N→okTo ns N=true
 | 0,_,_=>rfl
 | N+1,hN,h=>by
  have hlt:N<ns.length:=by omega
  have g:qa7 ns N:=fun n hn=>h n (by omega)
  rw[qde,List.getElem?_eq_getElem hlt,qin hr N (by omega) g,(qiI g).2 (h N (by omega))];simp[hr _ (List.getElem_mem hlt)]
theorem qbU (ns:List Nd):qad ns=0↔1≤ns.length∧ns.length≤64∧qcw ns∧qa7 ns ns.length:=by
 unfold qad
 by_cases h:ns.length<1∨64<ns.length
 ·rw[if_pos h];constructor
  ·intro h;omega
  ·intro h2;omega
 ·rw[if_neg h];constructor
  ·intro h2
   have hk:okTo ns ns.length=true:=by
    cases hh:okTo ns ns.length with
    | true=>rfl
    | false=>rw[hh]at h2;simp at h2
   obtain⟨g,r⟩:=qhW _ (Nat.le_refl _) hk;refine⟨by omega,by omega,fun x hx=>?_,g⟩;obtain⟨i,hi,rfl⟩:=List.getElem_of_mem hx;exact r i hi hi
  ·rintro ⟨_,_,r,g⟩;rw[if_pos (qin r _ (Nat.le_refl _) g)]
theorem qfL {ns:List Nd}{mv:Int→Int}{i:Nat}(h:i<ns.length):upOf (ns.map (mvd mv)) i=mv (upOf ns i):=by
 unfold upOf;rw[List.getElem?_map,List.getElem?_eq_getElem h];rfl
theorem qeU {a b:List Nd}{i:Nat}(h:i<a.length):upOf (a++b) i=upOf a i:=by
 unfold upOf;rw[List.getElem?_append_left h]
theorem qfk {a b:List Nd}{i:Nat}(h:a.length≤i):upOf (a++b) i=upOf b (i-a.length):=by
 unfold upOf;rw[List.getElem?_append_right h]
theorem qeG {a:List Nd}{k i:Nat}(h:i<k):upOf (a.take k) i=upOf a i:=by
 unfold upOf;rw[List.getElem?_take_of_lt h]
theorem qdb {a:List Nd}{k i:Nat}:upOf (a.drop k) i=upOf a (k+i):=by
 unfold upOf;rw[List.getElem?_drop]
theorem mvd_id:mvd id=(id:Nd→Nd):=by funext x;rfl
theorem qcF (ns:List Nd):ns.map (mvd id)=ns:=by rw[mvd_id,List.map_id]
theorem qfN {ms:List Nd}{f g:Int→Int}(h:∀i,i<ms.length→g (f (upOf ms i))=upOf ms i):(ms.map (mvd f)).map (mvd g)=ms:=by
 rw[List.map_map];refine List.ext_getElem (by simp) fun i h1 h2=>?_
 have:=h i h2;unfold upOf at this;rw[List.getElem?_eq_getElem h2]at this;simp only[List.getElem_map,Function.comp_apply];unfold mvd;dsimp only at this ⊢;rw[this]
theorem qdh {ms:List Nd}{f:Int→Int}(h:qcw ms):qcw (ms.map (mvd f)):=by
 intro x hx;obtain⟨y,hy,rfl⟩:=List.mem_map.1 hx;exact h y hy
theorem qds {a b:List Nd}(h:qcw a)(h2:qcw b):qcw (a++b):=by
 intro x hx
 rcases List.mem_append.1 hx with h'|h'
 ·exact h x h'
 ·exact h2 x h'
theorem qeA {a:List Nd}{k:Nat}(h:qcw a):qcw (a.take k):=fun x hx=>h x (List.mem_of_mem_take hx)
theorem qev {a:List Nd}{k:Nat}(h:qcw a):qcw (a.drop k):=fun x hx=>h x (List.mem_of_mem_drop hx)
theorem qdP (ns:List Nd)(n:Nat):∀(f e:Nat),ns.length≤e+f→(∀m:Nat,e≤m→m<qaZ ns n f e→(n:Int)≤upOf ns m)∧(qaZ ns n f e<ns.length→upOf ns (qaZ ns n f e)<n)
 | 0,e,h=>⟨fun m h1 h2=>by unfold qaZ at h2;omega,fun h1=>by unfold qaZ at h1;omega⟩
 | f+1,e,h=>by
  unfold qaZ
  by_cases hc:e<ns.length∧(n:Int)≤upOf ns e
  ·rw[if_pos hc];obtain⟨a,b⟩:=qdP ns n f (e+1) (by omega);refine⟨fun m h1 h2=>?_,b⟩
   by_cases hm:m=e
   ·subst hm;exact hc.2
   ·exact a m (by omega) h2
  ·rw[if_neg hc];exact⟨fun m h1 h2=>by omega,fun h1=>by omega⟩
theorem qan {ns:List Nd}{n:Nat}(h:n<ns.length):n+1≤behind ns n∧behind ns n≤ns.length∧(∀m:Nat,n<m→m<behind ns n→(n:Int)≤upOf ns m)∧(behind ns n<ns.length→upOf ns (behind ns n)<n):=by
 have h1:=qeF h;obtain⟨a,b⟩:=qdP ns n (ns.length-n) (n+1) (by omega);exact⟨h1.1,h1.2,fun m h2 h3=>a m (by omega) h3,b⟩
theorem qeW {ns:List Nd}{n e:Nat}(h:n<ns.length)(h1:n+1≤e)(h2:e≤ns.length)(h3:∀m:Nat,n<m→m<e→(n:Int)≤upOf ns m)(h4:e<ns.length→upOf ns e<n):behind ns n=e:=by
 obtain⟨a,b,c,d⟩:=qan h
 rcases Nat.lt_trichotomy (behind ns n) e with hh|hh|hh
 ·have:=d (by omega);have:=h3 (behind ns n) (by omega) hh;omega
 ·exact hh
 ·have:=h4 (by omega);have:=c e (by omega) hh;omega
theorem qb4 {ns:List Nd}{n:Nat}(hg:qa7 ns ns.length)(h:n<ns.length)(m:Nat)(hm:behind ns n≤m)(hm2:m<ns.length):upOf ns m<n∨(behind ns n:Int)≤upOf ns m:=by
 obtain⟨a,b,c,d⟩:=qan h
 by_cases he:m=behind ns n
 ·subst he;exact Or.inl (d hm2)
 ·by_cases hu:upOf ns m<(behind ns n:Int)
  ·have hd:=d (by omega);have:=((hg m hm2).2 (by omega)).2.2 (behind ns n) (by omega) (by omega);exact Or.inl (by omega)
  ·exact Or.inr (by omega)
end Go.Proofs.YtephhllfodlfbaaGreatDoor.Pl
namespace Go.Proofs.YtephhllfodlfbaaGreatDoor
open Go.RowKit
def IntsF (B:Nat)(w:World)(v:Value)(ks:List Nat):Prop:=
 ∃a cap,v=.slice a ks.length cap∧(ks=[]∨∃b o,a=some ⟨b,o,none⟩∧B≤b∧∀i (h:i<ks.length),w.cell? ⟨b,o+i,none⟩=some (.int .i64 (ks[i]:Nat)))
theorem qh5 {w:World}{B:Nat}{v:Value}{l:List Nat}(h:w.ownsRow B 3 1 v l.length (qaE l)):IntsF B w v l:=by
 have hh:=h;obtain⟨_,h0|⟨g,cap,cur,rfl,hb,_⟩⟩:=h
 ·obtain⟨rfl,hl⟩:=h0;have:l=[]:=by simpa using hl
  subst this;exact⟨none,0,rfl,Or.inl rfl⟩
 ·refine⟨_,cap,rfl,Or.inr ⟨g,0,rfl,hb,fun i hi=>?_⟩⟩;have:=World.ownsRow.cells hh rfl i (.int .i64 (l[i]:Int)) (by simp[qaE,List.getElem?_eq_getElem hi]);rw[Addr.add_lit]at this
  simpa using this
theorem IntsF.mono {B B':Nat}{w:World}{v:Value}{l:List Nat}(h:IntsF B w v l)(hB:B'≤B):IntsF B' w v l:=by
 obtain⟨a,cap,rfl,h⟩:=h;refine⟨a,cap,rfl,?_⟩
 rcases h with h|⟨b,o,ha,hb,hc⟩
 ·exact Or.inl h
 ·exact Or.inr ⟨b,o,ha,by omega,hc⟩
theorem qdG (b o cap:Nat)(ns:List Pl.Nd)(n:Int)(w:World)(h64:ns.length≤64)(hc:∀i (h:i<ns.length),NdAt w b (o+i*5) ns[i]):
 Calls Tryz.prog 65 #[.agg #[.slice (some ⟨b,o,none⟩) ns.length cap],.int .i64 n] w fun e w'=>
  ∃v,e=.returned v∧IntsF w.heap.size w' v (Pl.qae ns n)∧Below w.heap.size w w':=by
 have HC:Hid (∀k,k<ns.length→w.cell? ⟨b,o+k*5,none⟩=some (.int .i64 (Pl.upOf ns k))):=fun k h=>qdN hc k h
 clear hc;obtain⟨i0,hi,hz0,hz1,hz2⟩:=info_parts Tryz.info3;go_enter Tryz.func65,Tryz.ntmps65;go_wp2
 go_loopw [5,6] (fun v i wr=>∃k:Nat,k≤ns.length∧i=.int .i64 k∧wr.ownsRow (w.heap.size+1) 3 1 v (Pl.qaJ ns n k).length (qaE (Pl.qaJ ns n k))∧Below w.heap.size w wr∧w.heap.size+1≤wr.heap.size∧wr.cell? ⟨w.heap.size,0,none⟩=some (.slice (some ⟨b,o,none⟩) ns.length cap)) (fun _ i _=>ns.length-(intOf i).toNat)
 case atStart=>exact⟨0,Nat.zero_le _,rfl,World.ownsRow_nil _ _ _ _,qac _ _,by simp,by simp[go_sem]⟩
 case round=>
  obtain⟨k,hk,rfl,hown,hB,hsz,hbox⟩:=hrel
  by_cases hlt:k<ns.length
  ·have n0:=qab hB (HC.out k hlt);generalize hU:Pl.upOf ns k=u at n0;have HU2:Hid _:=hU;clear hU
   cases he:(u==n) with
   | true=>
    have HK:Hid (Pl.qaJ ns n (k+1)=Pl.qaJ ns n k++[k]):=Pl.qd2 ns n k (by rw[HU2.out];exact he);have hkl:=Pl.qcE ns n k;have hne:some w.heap.size≠u5.ownBlock:=fun e=>by have:=(World.ownsRow.lt hown _ e.symm).1;omega
    go_wp2_with (at_builtin;refine wpList_append_own _ rfl _ _ 40 rfl (w.heap.size+1) 3 i0 (.int .i64 0) 1 8 Tryz.underlying40 hi hz0 hz1 hz2 rfl (by decide) _ _ _ rfl (hown.alloc _) ⟨wr.heap.size,0,none⟩ 1 1 [.int .i64 k] rfl rfl ?c1 ?c2 ?c3 ?c4 ?c5 ?_)
    case c1=>
     intro j u hj
     match j,hj with
     | 0,hj=>simp at hj;subst hj;simp[Addr.add,go_sem]
    case c2=>intro u hu;simp at hu;subst hu;rfl
    case c3=>unfold maxLen;omega
    case c4=>omega
    case c5=>simp;omega
    intro v' w1 hown' hgrow _;have hB1:Below w.heap.size w w1:=(hB.alloc hB.size _).grown hgrow (by have:=hB.size;simp;omega) (fun g hg=>by have:=(World.ownsRow.lt hown g hg).1;omega);have hbox1:=qbm (b:=w.heap.size) hgrow hne (qab (qac _ _) hbox);have hsz1:w.heap.size+1≤w1.heap.size:=by have:=hgrow.size;simp at this;omega
    clear hgrow hown hbox;go_wp2;refine⟨⟨k+1,hlt,by go_num,?_,hB1,hsz1,hbox1⟩,by simp[intOf];omega⟩;rw[HK.out]
    simpa [qaE] using hown'
   | false=>
    have HK:Hid (Pl.qaJ ns n (k+1)=Pl.qaJ ns n k):=Pl.qes ns n k (by rw[HU2.out];exact he);go_wp2;refine⟨⟨k+1,hlt,by go_num,?_,hB,hsz,hbox⟩,by simp[intOf];omega⟩;rw[HK.out];exact hown
  ·have hkl:k=ns.length:=by omega
   subst hkl;go_wp2;go_ret;exact⟨_,rfl,(qh5 hown).mono (by omega),hB⟩
end Go.Proofs.YtephhllfodlfbaaGreatDoor
