/-
  The document's own check of a list of paths: its forms.
-/
import Derived.Test.YtephhllfodlfbaaGreatDoorRcB
set_option maxRecDepth 100000
set_option maxHeartbeats 16000000
namespace Go.Proofs.YtephhllfodlfbaaGreatDoor
open Go.RowKit
abbrev tF {α:Type}(t:Pl.Tst α):Bool:=Pl.qcq Pl.qaj Pl.qao t
def qbM {α:Type}(g:List α→Bool)(t:Pl.Tst α):Bool:=tF t&&(!Pl.qbb t.kind||g t.list)
def formS {α:Type}(g:List α→Bool)(s:Pl.Stp α):Bool:=(s.tag.isEmpty||Pl.qaj s.tag)&&s.tests.all (qbM g)
def formP {α:Type}(g:List α→Bool)(p:Pl.Pth α):Bool:=p.steps.all (formS g)
theorem form_eq {α:Type}(g:List α→Bool)(l:List (Pl.Pth α)):Pl.evUp (Pl.qc7 Pl.qaj Pl.qao) g l=l.all (formP g):=by
 have e:(fun p=>Pl.qc7 Pl.qaj Pl.qao p&&Pl.inner g p)=formP g:=by
  funext p
  unfold Pl.qc7 Pl.inner formP;rw[Bool.and_assoc,qht,qf9,qht];rfl
 unfold Pl.evUp;rw[e]
theorem Blk2s.new (w:World)(u v:Value):(w.alloc (.cells #[u,v] 67)).cell? ⟨w.heap.size,0,none⟩=some u∧(w.alloc (.cells #[u,v] 67)).cell? ⟨w.heap.size,1,none⟩=some v:=by
 constructor<;>simp[go_sem]
theorem Blk6q.new (w:World)(u0 u1 u2 u3 u4 u5:Value):(w.alloc (.cells #[u0,u1,u2,u3,u4,u5] 71)).cell? ⟨w.heap.size,1,none⟩=some u1∧(w.alloc (.cells #[u0,u1,u2,u3,u4,u5] 71)).cell? ⟨w.heap.size,2,none⟩=some u2∧(w.alloc (.cells #[u0,u1,u2,u3,u4,u5] 71)).cell? ⟨w.heap.size,3,none⟩=some u3∧(w.alloc (.cells #[u0,u1,u2,u3,u4,u5] 71)).cell? ⟨w.heap.size,4,none⟩=some u4:=by
 refine⟨?_,?_,?_,?_⟩<;>simp[go_sem]
theorem form_up {α:Type}{A:MemL α}(hA:IsL A)(ok:List α→Prop)(g:List α→Bool)(hf:∀w v l,A w v l→ok l→Calls Tryz.prog 59 #[v] w fun e w'=>e=.returned (.bool (!g l))∧Below w.heap.size w w')(w:World)(v:Value)(l:List (Pl.Pth α))(h:qbp A w v l)(hok:Inner ok l):
 Calls Tryz.prog 59 #[v] w fun e w'=>e=.returned (.bool (!Pl.evUp (Pl.qc7 Pl.qaj Pl.qao) g l))∧Below w.heap.size w w':=by
 obtain⟨a,c,rfl⟩:=qaf.form h;have HL:Hid (qbp A w (.slice a l.length c) l):=h;have HF:Hid (∀w v l,A w v l→ok l→Calls Tryz.prog 59 #[v] w fun e w'=>e=.returned (.bool (!g l))∧Below w.heap.size w w'):=hf;have HA:Hid (IsL A):=hA;have HIN:Hid (Inner ok l):=hok;obtain⟨EV,hEV⟩:∃x,Pl.evUp (Pl.qc7 Pl.qaj Pl.qao) g l=x:=⟨_,rfl⟩
 rw[hEV];have HE:Hid (EV=l.all (formP g)):=hEV.symm.trans (form_eq g l);have fl0:=qaf.fit h;unfold maxLen at fl0;clear h hf hA hok hEV;go_enter Tryz.func59,Tryz.ntmps59
 go_wp2_with fail
 go_loopw [3] (fun i wr=>∃k:Nat,k≤l.length∧i=.int .i64 k∧Hid ((l.take k).all (formP g)=true)∧Hid (Below w.heap.size w wr)) (fun i _=>l.length-(intOf i).toNat)
 case atStart=>exact⟨0,Nat.zero_le _,rfl,by simp[Hid],Below.refl _ _⟩
 case round=>
  obtain⟨i,hi,rfl,HT,HB⟩:=hrel;obtain⟨wq,hwq⟩:∃q,q=wr:=⟨_,rfl⟩
  subst hwq
  by_cases hlt:i<l.length
  ·obtain⟨-,b,o,rfl,hc⟩:=qaf.at HL.out (by omega);obtain⟨vs,vl,n0,n1,rs,-⟩:=(hc i hlt).on HA.out HB.out;obtain⟨ax,cx,rfl⟩:=rs.form;have i1:(0:Int)≤(i:Int):=by omega
   have i2:(i:Int)<(l.length:Int):=by omega
   have HBAD:Hid (formP g l[i]=false→EV=false):=fun h=>HE.out.trans (qbC hlt h)
   have HOK:Hid (formP g l[i]=true→(l.take (i+1)).all (formP g)=true):=fun h=>qbk hlt HT.out h
   have HIP:Hid (∀s∈l[i].steps,∀t∈s.tests,Pl.qbb t.kind=true→ok t.list):=HIN.out _ (List.getElem_mem hlt);clear hc HT n1;generalize l[i]=p at *;have fs:=rs.fit;unfold maxLen at fs;have HRS1:Hid (qaf (qa3 A) 2 _ (.slice ax p.steps.length cx) p.steps):=rs;clear rs
   go_wp2_with fail
   go_loopw [4] (fun i wr=>∃k:Nat,k≤p.steps.length∧i=.int .i64 k∧Hid ((p.steps.take k).all (formS g)=true)∧Hid (Below wq.heap.size wq wr)) (fun i _=>p.steps.length-(intOf i).toNat)
   case atStart=>exact⟨0,Nat.zero_le _,rfl,by simp[Hid],Below.refl _ _⟩
   case round=>
    obtain⟨k,hk,rfl,HT2,HB3⟩:=hrel;have x0:=qab HB3.out n0
    by_cases hlt3:k<p.steps.length
    ·obtain⟨-,b2,o2,rfl,hc2⟩:=qaf.at HRS1.out (by omega);obtain⟨vt,m0,m1,rt⟩:=(hc2 k hlt3).on HA.out HB3.out;obtain⟨at_,ct,rfl⟩:=rt.form;have k1:(0:Int)≤(k:Int):=by omega
     have k2:(k:Int)<(p.steps.length:Int):=by omega
     have HBAD2:Hid (formS g p.steps[k]=false→EV=false):=fun h=>HBAD.out (qbC hlt3 h)
     have HOK2:Hid (formS g p.steps[k]=true→(p.steps.take (k+1)).all (formS g)=true):=fun h=>qbk hlt3 HT2.out h
     have HIS:Hid (∀t∈p.steps[k].tests,Pl.qbb t.kind=true→ok t.list):=HIP.out _ (List.getElem_mem hlt3);clear hc2 HT2;generalize p.steps[k]=st at *;have ft:=rt.fit;unfold maxLen at ft;have hbs:=qac wr (.cells #[.string ⟨st.tag.toArray⟩,.slice at_ st.tests.length ct] 67);obtain⟨s0,s1⟩:=Blk2s.new wr (.string ⟨st.tag.toArray⟩) (.slice at_ st.tests.length ct);have HRT:Hid (qaf (qaF A) 6 _ (.slice at_ st.tests.length ct) st.tests):=rt.map fun b o x hx=>hx.on HA.out hbs
     have HB6:Hid (Below w.heap.size w _):=qaa HB.out (qaa HB3.out hbs);have HB7:Hid (Below wq.heap.size wq _):=qaa HB3.out hbs;clear rt hbs
     have hcase:(st.tag.isEmpty=true∨(st.tag.isEmpty=false∧Pl.qaj st.tag=true))∨(st.tag.isEmpty=false∧Pl.qaj st.tag=false):=by
      cases st.tag.isEmpty<;>cases Pl.qaj st.tag<;>simp
     rcases hcase with htag|⟨hne,hn⟩
     ·have HSE:Hid (formS g st=st.tests.all (qbM g)):=by
       unfold Hid formS
       rcases htag with h|⟨h,h2⟩
       ·rw[h];rfl
       ·rw[h2];simp
      rcases htag with hne|⟨hne,hn⟩
      all_goals
       go_wp2_with (go_at_call 114;refine(qak _ _).mono ?_;rintro e w9 ⟨rfl,rfl⟩;rw[hn])
       generalize wr.alloc (.cells #[.string ⟨st.tag.toArray⟩,.slice at_ st.tests.length ct] 67)=ww at *;clear hne
       go_loopw [6] (fun i wr=>∃k:Nat,k≤st.tests.length∧i=.int .i64 k∧Hid ((st.tests.take k).all (qbM g)=true)∧Hid (Below ww.heap.size ww wr)) (fun i _=>st.tests.length-(intOf i).toNat)
       case atStart=>exact⟨0,Nat.zero_le _,rfl,by simp[Hid],Below.refl _ _⟩
       case round=>
        obtain⟨j,hj,rfl,HT3,HB4⟩:=hrel;have z1:=qab HB4.out s1
        by_cases hlt4:j<st.tests.length
        ·obtain⟨-,b3,o3,rfl,hc3⟩:=qaf.at HRT.out (by omega);obtain⟨vu,q0,q1,q2,q3,q4,q5,rl⟩:=(hc3 j hlt4).on HA.out HB4.out;obtain⟨au,cu,rfl,-⟩:=HA.out.form rl;have j1:(0:Int)≤(j:Int):=by omega
         have j2:(j:Int)<(st.tests.length:Int):=by omega
         have HBAD3:Hid (qbM g st.tests[j]=false→EV=false):=fun h=>HBAD2.out (HSE.out.trans (qbC hlt4 h))
         have HOK3:Hid (qbM g st.tests[j]=true→(st.tests.take (j+1)).all (qbM g)=true):=fun h=>qbk hlt4 HT3.out h
         have HIT:Hid (Pl.qbb st.tests[j].kind=true→ok st.tests[j].list):=HIS.out _ (List.getElem_mem hlt4);clear hc3 HT3;generalize st.tests[j]=t at *;have hbt:=qac wr (.cells #[.int .i64 t.kind,.string ⟨t.name.toArray⟩,.string ⟨t.value.toArray⟩,.int .i64 t.a,.int .i64 t.b,.slice au t.list.length cu] 71);have HRL:Hid (A _ (.slice au t.list.length cu) t.list):=HA.out.on rl hbt;obtain⟨r0,r5⟩:=Blk6p.new wr (.int .i64 t.kind) (.string ⟨t.name.toArray⟩) (.string ⟨t.value.toArray⟩) (.int .i64 t.a) (.int .i64 t.b) (.slice au t.list.length cu);obtain⟨r1,r2,r3,r4⟩:=Blk6q.new wr (.int .i64 t.kind) (.string ⟨t.name.toArray⟩) (.string ⟨t.value.toArray⟩) (.int .i64 t.a) (.int .i64 t.b) (.slice au t.list.length cu);have HB5:Hid (Below ww.heap.size ww _):=qaa HB4.out hbt;clear rl hbt
         go_wp2_with fail
         generalize wr.alloc (.cells #[.int .i64 t.kind,.string ⟨t.name.toArray⟩,.string ⟨t.value.toArray⟩,.int .i64 t.a,.int .i64 t.b,.slice au t.list.length cu] 71)=w4 at *;refine(has_any t.kind _).mono ?_;rintro e w5 ⟨rfl,hb5⟩;replace HRL:Hid (A _ (.slice au t.list.length cu) t.list):=HA.out.on HRL.out hb5;replace HB5:Hid (Below ww.heap.size ww _):=qaa HB5.out hb5;replace r0:=qab hb5 r0;replace r1:=qab hb5 r1;replace r2:=qab hb5 r2;replace r3:=qab hb5 r3;replace r4:=qab hb5 r4;replace r5:=qab hb5 r5;have HB8:Hid (Below w.heap.size w w5):=qaa HB6.out HB5.out;clear hb5
         cases hbn:Pl.qeh t.kind with
         | true=>
          cases hn:Pl.qaj t.name with
          | false=>
           as_aux_lemma=>
            have HK:Hid (EV=false):=HBAD3.out (by simp[qbM,tF,Pl.qcq,Pl.asked,hbn,hn])
            go_wp2_with (first|(go_at_call 114;refine(qak _ _).mono ?_;rintro e w9 ⟨rfl,rfl⟩;rw[hn])|(go_at_call 115;refine(qap _ _).mono ?_;rintro e w9 ⟨rfl,rfl⟩;rw[hv]))
            go_ret;exact⟨by rw[HK.out];rfl,HB8.out⟩
          | true=>
           cases hbv:Pl.qdv t.kind with
           | true=>
            cases hv:Pl.qao t.value with
            | false=>
             as_aux_lemma=>
              have HK:Hid (EV=false):=HBAD3.out (by simp[qbM,tF,Pl.qcq,Pl.asked,hbn,hn,hbv,hv])
              go_wp2_with (first|(go_at_call 114;refine(qak _ _).mono ?_;rintro e w9 ⟨rfl,rfl⟩;rw[hn])|(go_at_call 115;refine(qap _ _).mono ?_;rintro e w9 ⟨rfl,rfl⟩;rw[hv]))
              go_ret;exact⟨by rw[HK.out];rfl,HB8.out⟩
            | true=>
             have hbc:Pl.kNth t.kind=false:=by have:=hbn;simp[Pl.qeh,Pl.kNth]at this ⊢;omega
             have hbl:Pl.qbb t.kind=false:=by have:=hbn;simp[Pl.qeh,Pl.qbb]at this ⊢;omega
             rw[hbc,hbl]
             by_cases ha:t.a=0
             ·by_cases hb:t.b=0
              ·skip
               by_cases hl:t.list.length=0
               ·have hl2:¬(0:Int)<(t.list.length:Int):=by omega
                as_aux_lemma=>
                 have HK:Hid ((st.tests.take (j+1)).all (qbM g)=true):=HOK3.out (by simp[qbM,tF,Pl.qcq,Pl.asked,hbn,hn,hbv,hv,hbc,hbl,ha,hb,hl])
                 go_wp2_with (first|(go_at_call 114;refine(qak _ _).mono ?_;rintro e w9 ⟨rfl,rfl⟩;rw[hn])|(go_at_call 115;refine(qap _ _).mono ?_;rintro e w9 ⟨rfl,rfl⟩;rw[hv]))
                 exact⟨⟨j+1,hlt4,by go_num,HK,HB5⟩,by simp[intOf];omega⟩
               ·have hl2:(0:Int)<(t.list.length:Int):=by omega
                as_aux_lemma=>
                 have HK:Hid (EV=false):=HBAD3.out (by simp[qbM,tF,Pl.qcq,Pl.asked,hbn,hn,hbv,hv,hbc,hbl,ha,hb,hl])
                 go_wp2_with (first|(go_at_call 114;refine(qak _ _).mono ?_;rintro e w9 ⟨rfl,rfl⟩;rw[hn])|(go_at_call 115;refine(qap _ _).mono ?_;rintro e w9 ⟨rfl,rfl⟩;rw[hv]))
                 go_ret;exact⟨by rw[HK.out];rfl,HB8.out⟩
              ·skip
               as_aux_lemma=>
                have HK:Hid (EV=false):=HBAD3.out (by simp[qbM,tF,Pl.qcq,Pl.asked,hbn,hn,hbv,hv,hbc,hbl,ha,hb])
                go_wp2_with (first|(go_at_call 114;refine(qak _ _).mono ?_;rintro e w9 ⟨rfl,rfl⟩;rw[hn])|(go_at_call 115;refine(qap _ _).mono ?_;rintro e w9 ⟨rfl,rfl⟩;rw[hv]))
                go_ret;exact⟨by rw[HK.out];rfl,HB8.out⟩
             ·skip
              as_aux_lemma=>
               have HK:Hid (EV=false):=HBAD3.out (by simp[qbM,tF,Pl.qcq,Pl.asked,hbn,hn,hbv,hv,hbc,hbl,ha])
               go_wp2_with (first|(go_at_call 114;refine(qak _ _).mono ?_;rintro e w9 ⟨rfl,rfl⟩;rw[hn])|(go_at_call 115;refine(qap _ _).mono ?_;rintro e w9 ⟨rfl,rfl⟩;rw[hv]))
               go_ret;exact⟨by rw[HK.out];rfl,HB8.out⟩
           | false=>
            cases hev:t.value.isEmpty with
            | false=>
             as_aux_lemma=>
              have HK:Hid (EV=false):=HBAD3.out (by simp[qbM,tF,Pl.qcq,Pl.asked,hbn,hn,hbv,hev])
              go_wp2_with (first|(go_at_call 114;refine(qak _ _).mono ?_;rintro e w9 ⟨rfl,rfl⟩;rw[hn])|(go_at_call 115;refine(qap _ _).mono ?_;rintro e w9 ⟨rfl,rfl⟩;rw[hv]))
              go_ret;exact⟨by rw[HK.out];rfl,HB8.out⟩
            | true=>
             have hbc:Pl.kNth t.kind=false:=by have:=hbn;simp[Pl.qeh,Pl.kNth]at this ⊢;omega
             have hbl:Pl.qbb t.kind=false:=by have:=hbn;simp[Pl.qeh,Pl.qbb]at this ⊢;omega
             rw[hbc,hbl]
             by_cases ha:t.a=0
             ·by_cases hb:t.b=0
              ·skip
               by_cases hl:t.list.length=0
               ·have hl2:¬(0:Int)<(t.list.length:Int):=by omega
                as_aux_lemma=>
                 have HK:Hid ((st.tests.take (j+1)).all (qbM g)=true):=HOK3.out (by simp[qbM,tF,Pl.qcq,Pl.asked,hbn,hn,hbv,hev,hbc,hbl,ha,hb,hl])
                 go_wp2_with (first|(go_at_call 114;refine(qak _ _).mono ?_;rintro e w9 ⟨rfl,rfl⟩;rw[hn])|(go_at_call 115;refine(qap _ _).mono ?_;rintro e w9 ⟨rfl,rfl⟩;rw[hv]))
                 exact⟨⟨j+1,hlt4,by go_num,HK,HB5⟩,by simp[intOf];omega⟩
               ·have hl2:(0:Int)<(t.list.length:Int):=by omega
                as_aux_lemma=>
                 have HK:Hid (EV=false):=HBAD3.out (by simp[qbM,tF,Pl.qcq,Pl.asked,hbn,hn,hbv,hev,hbc,hbl,ha,hb,hl])
                 go_wp2_with (first|(go_at_call 114;refine(qak _ _).mono ?_;rintro e w9 ⟨rfl,rfl⟩;rw[hn])|(go_at_call 115;refine(qap _ _).mono ?_;rintro e w9 ⟨rfl,rfl⟩;rw[hv]))
                 go_ret;exact⟨by rw[HK.out];rfl,HB8.out⟩
              ·skip
               as_aux_lemma=>
                have HK:Hid (EV=false):=HBAD3.out (by simp[qbM,tF,Pl.qcq,Pl.asked,hbn,hn,hbv,hev,hbc,hbl,ha,hb])
                go_wp2_with (first|(go_at_call 114;refine(qak _ _).mono ?_;rintro e w9 ⟨rfl,rfl⟩;rw[hn])|(go_at_call 115;refine(qap _ _).mono ?_;rintro e w9 ⟨rfl,rfl⟩;rw[hv]))
                go_ret;exact⟨by rw[HK.out];rfl,HB8.out⟩
             ·skip
              as_aux_lemma=>
               have HK:Hid (EV=false):=HBAD3.out (by simp[qbM,tF,Pl.qcq,Pl.asked,hbn,hn,hbv,hev,hbc,hbl,ha])
               go_wp2_with (first|(go_at_call 114;refine(qak _ _).mono ?_;rintro e w9 ⟨rfl,rfl⟩;rw[hn])|(go_at_call 115;refine(qap _ _).mono ?_;rintro e w9 ⟨rfl,rfl⟩;rw[hv]))
               go_ret;exact⟨by rw[HK.out];rfl,HB8.out⟩
         | false=>
          have hbv:Pl.qdv t.kind=false:=by have:=hbn;simp[Pl.qeh,Pl.qdv]at this ⊢;omega
          rw[hbv]
          cases hen:t.name.isEmpty with
          | false=>
           as_aux_lemma=>
            have HK:Hid (EV=false):=HBAD3.out (by simp[qbM,tF,Pl.qcq,Pl.asked,hbn,hen])
            go_wp2_with (first|(go_at_call 114;refine(qak _ _).mono ?_;rintro e w9 ⟨rfl,rfl⟩;rw[hn])|(go_at_call 115;refine(qap _ _).mono ?_;rintro e w9 ⟨rfl,rfl⟩;rw[hv]))
            go_ret;exact⟨by rw[HK.out];rfl,HB8.out⟩
          | true=>
           cases hev:t.value.isEmpty with
           | false=>
            as_aux_lemma=>
             have HK:Hid (EV=false):=HBAD3.out (by simp[qbM,tF,Pl.qcq,Pl.asked,hbn,hen,hbv,hev])
             go_wp2_with (first|(go_at_call 114;refine(qak _ _).mono ?_;rintro e w9 ⟨rfl,rfl⟩;rw[hn])|(go_at_call 115;refine(qap _ _).mono ?_;rintro e w9 ⟨rfl,rfl⟩;rw[hv]))
             go_ret;exact⟨by rw[HK.out];rfl,HB8.out⟩
           | true=>
            cases hbc:Pl.kNth t.kind with
            | true=>
             have hbl:Pl.qbb t.kind=false:=by have:=hbc;simp[Pl.qbb,Pl.kNth]at this ⊢;omega
             rw[hbl]
             by_cases hl:t.list.length=0
             ·have hl2:¬(0:Int)<(t.list.length:Int):=by omega
              as_aux_lemma=>
               have HK:Hid ((st.tests.take (j+1)).all (qbM g)=true):=HOK3.out (by simp[qbM,tF,Pl.qcq,Pl.asked,hbn,hen,hbv,hev,hbc,hbl,hl])
               go_wp2_with (first|(go_at_call 114;refine(qak _ _).mono ?_;rintro e w9 ⟨rfl,rfl⟩;rw[hn])|(go_at_call 115;refine(qap _ _).mono ?_;rintro e w9 ⟨rfl,rfl⟩;rw[hv]))
               exact⟨⟨j+1,hlt4,by go_num,HK,HB5⟩,by simp[intOf];omega⟩
             ·have hl2:(0:Int)<(t.list.length:Int):=by omega
              as_aux_lemma=>
               have HK:Hid (EV=false):=HBAD3.out (by simp[qbM,tF,Pl.qcq,Pl.asked,hbn,hen,hbv,hev,hbc,hbl,hl])
               go_wp2_with (first|(go_at_call 114;refine(qak _ _).mono ?_;rintro e w9 ⟨rfl,rfl⟩;rw[hn])|(go_at_call 115;refine(qap _ _).mono ?_;rintro e w9 ⟨rfl,rfl⟩;rw[hv]))
               go_ret;exact⟨by rw[HK.out];rfl,HB8.out⟩
            | false=>
             by_cases ha:t.a=0
             ·by_cases hb:t.b=0
              ·skip
               cases hbl:Pl.qbb t.kind with
               | false=>
                by_cases hl:t.list.length=0
                ·have hl2:¬(0:Int)<(t.list.length:Int):=by omega
                 as_aux_lemma=>
                  have HK:Hid ((st.tests.take (j+1)).all (qbM g)=true):=HOK3.out (by simp[qbM,tF,Pl.qcq,Pl.asked,hbn,hen,hbv,hev,hbc,ha,hb,hbl,hl])
                  go_wp2_with (first|(go_at_call 114;refine(qak _ _).mono ?_;rintro e w9 ⟨rfl,rfl⟩;rw[hn])|(go_at_call 115;refine(qap _ _).mono ?_;rintro e w9 ⟨rfl,rfl⟩;rw[hv]))
                  exact⟨⟨j+1,hlt4,by go_num,HK,HB5⟩,by simp[intOf];omega⟩
                ·have hl2:(0:Int)<(t.list.length:Int):=by omega
                 as_aux_lemma=>
                  have HK:Hid (EV=false):=HBAD3.out (by simp[qbM,tF,Pl.qcq,Pl.asked,hbn,hen,hbv,hev,hbc,ha,hb,hbl,hl])
                  go_wp2_with (first|(go_at_call 114;refine(qak _ _).mono ?_;rintro e w9 ⟨rfl,rfl⟩;rw[hn])|(go_at_call 115;refine(qap _ _).mono ?_;rintro e w9 ⟨rfl,rfl⟩;rw[hv]))
                  go_ret;exact⟨by rw[HK.out];rfl,HB8.out⟩
               | true=>
                obtain⟨bf,hbf⟩:∃x,g t.list=x:=⟨_,rfl⟩
                have hcon:=HF.out _ _ _ HRL.out (HIT.out hbl);rw[hbf]at hcon;have HCON:Hid (Calls Tryz.prog 59 _ _ _):=hcon;clear hcon
                go_wp2_with fail
                refine HCON.out.mono ?_;rintro e w7 ⟨rfl,hb6⟩;replace HB5:Hid (Below ww.heap.size ww _):=qaa HB5.out hb6;replace HB8:Hid (Below w.heap.size w _):=qaa HB8.out hb6;clear hb6
                cases bf with
                | true=>
                 as_aux_lemma=>
                  have HK:Hid ((st.tests.take (j+1)).all (qbM g)=true):=HOK3.out (by simp[qbM,tF,Pl.qcq,Pl.asked,hbn,hen,hbv,hev,hbc,ha,hb,hbl,hbf])
                  go_wp2_with (first|(go_at_call 114;refine(qak _ _).mono ?_;rintro e w9 ⟨rfl,rfl⟩;rw[hn])|(go_at_call 115;refine(qap _ _).mono ?_;rintro e w9 ⟨rfl,rfl⟩;rw[hv]))
                  exact⟨⟨j+1,hlt4,by go_num,HK,HB5⟩,by simp[intOf];omega⟩
                | false=>
                 as_aux_lemma=>
                  have HK:Hid (EV=false):=HBAD3.out (by simp[qbM,tF,Pl.qcq,Pl.asked,hbn,hen,hbv,hev,hbc,ha,hb,hbl,hbf])
                  go_wp2_with (first|(go_at_call 114;refine(qak _ _).mono ?_;rintro e w9 ⟨rfl,rfl⟩;rw[hn])|(go_at_call 115;refine(qap _ _).mono ?_;rintro e w9 ⟨rfl,rfl⟩;rw[hv]))
                  go_ret;exact⟨by rw[HK.out];rfl,HB8.out⟩
              ·skip
               as_aux_lemma=>
                have HK:Hid (EV=false):=HBAD3.out (by simp[qbM,tF,Pl.qcq,Pl.asked,hbn,hen,hbv,hev,hbc,ha,hb])
                go_wp2_with (first|(go_at_call 114;refine(qak _ _).mono ?_;rintro e w9 ⟨rfl,rfl⟩;rw[hn])|(go_at_call 115;refine(qap _ _).mono ?_;rintro e w9 ⟨rfl,rfl⟩;rw[hv]))
                go_ret;exact⟨by rw[HK.out];rfl,HB8.out⟩
             ·skip
              as_aux_lemma=>
               have HK:Hid (EV=false):=HBAD3.out (by simp[qbM,tF,Pl.qcq,Pl.asked,hbn,hen,hbv,hev,hbc,ha])
               go_wp2_with (first|(go_at_call 114;refine(qak _ _).mono ?_;rintro e w9 ⟨rfl,rfl⟩;rw[hn])|(go_at_call 115;refine(qap _ _).mono ?_;rintro e w9 ⟨rfl,rfl⟩;rw[hv]))
               go_ret;exact⟨by rw[HK.out];rfl,HB8.out⟩
        ·have HE3:Hid ((p.steps.take (k+1)).all (formS g)=true):=HOK2.out (HSE.out.trans (qbi hlt4 HT3.out));go_wp2;exact⟨⟨k+1,hlt3,by go_num,HE3,qaa HB7.out HB4.out⟩,by simp[intOf];omega⟩
     ·have HK:Hid (EV=false):=HBAD2.out (by simp[formS,hne,hn])
      go_wp2_with (go_at_call 114;refine(qak _ _).mono ?_;rintro e w9 ⟨rfl,rfl⟩;rw[hn])
      go_ret;exact⟨by rw[HK.out];rfl,HB6.out⟩
    ·have HE2:Hid ((l.take (i+1)).all (formP g)=true):=HOK.out (qbi hlt3 HT2.out);go_wp2;exact⟨⟨i+1,hlt,by go_num,HE2,qaa HB.out HB3.out⟩,by simp[intOf];omega⟩
  ·have HE2:Hid (EV=true):=HE.out.trans (qbi hlt HT.out);go_wp2;go_ret;exact⟨by rw[HE2.out];rfl,HB.out⟩
end Go.Proofs.YtephhllfodlfbaaGreatDoor
