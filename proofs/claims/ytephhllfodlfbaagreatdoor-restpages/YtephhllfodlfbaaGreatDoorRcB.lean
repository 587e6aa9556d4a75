/-
  The document's own check of a list of paths: what is too much.
-/
import Derived.Test.YtephhllfodlfbaaGreatDoorLvM
import Derived.Test.YtephhllfodlfbaaGreatDoorRefN
set_option maxRecDepth 100000
set_option maxHeartbeats 16000000
namespace Go.Proofs.YtephhllfodlfbaaGreatDoor
open Go.RowKit
theorem qiD (k:Int):within k 1 8=Pl.qeh k:=by simp[within,Pl.qeh,Bool.decide_and]
theorem qhp (k:Int):within k 4 8=Pl.qdv k:=by simp[within,Pl.qdv,Bool.decide_and]
theorem qiq (k:Int):within k 13 15=Pl.qbb k:=by simp[within,Pl.qbb,Bool.decide_and]
theorem has_any (k:Int)(w:World):Calls Tryz.prog 113 #[.int .i64 k] w fun e w'=>e=.returned (.tuple #[.bool (Pl.qeh k),.bool (Pl.qdv k),.bool (Pl.kNth k),.bool (Pl.qbb k)])∧Below w.heap.size w w':=by
 have H1:=qiD k;have H2:=qhp k;have H3:=qiq k;obtain⟨b9,h9⟩:∃b,(k==9)=b:=⟨_,rfl⟩
 obtain⟨b10,h10⟩:∃b,(k==10)=b:=⟨_,rfl⟩
 have HN:Hid (Pl.kNth k=(b9||b10)):=by
  rw[←h9,←h10];simp[Hid,Pl.kNth,Bool.decide_or];rfl
 cases b9<;>cases b10
 all_goals
  go_enter Tryz.func113,Tryz.ntmps113
  go_wp2_with fail
  refine(qay k 1 8 _).mono ?_;rintro e w1 ⟨rfl,rfl⟩
  go_wp2_with fail
  refine(qay k 4 8 _).mono ?_;rintro e w2 ⟨rfl,rfl⟩
  go_wp2_with fail
  refine(qay k 13 15 _).mono ?_;rintro e w3 ⟨rfl,rfl⟩;go_wp2;refine bodyPost_ret (by simp[results,Tryz.results113,go_sem];rfl) rfl ⟨?_,Below.refl _ _⟩;rw[HN.out];rfl
theorem qbk {β:Type}{l:List β}{p:β→Bool}{i:Nat}(h:i<l.length)(ht:(l.take i).all p=true)(hp:p l[i]=true):(l.take (i+1)).all p=true:=by
 rw[List.take_succ_eq_append_getElem h,List.all_append,ht];simp[hp]
theorem qbi {β:Type}{l:List β}{p:β→Bool}{i:Nat}(h:¬i<l.length)(ht:(l.take i).all p=true):l.all p=true:=by
 rwa [List.take_of_length_le (by omega)]at ht
theorem qbC {β:Type}{l:List β}{p:β→Bool}{i:Nat}(h:i<l.length)(hp:p l[i]=false):l.all p=false:=by
 rw[List.all_eq_false];exact⟨l[i],List.getElem_mem h,by simp[hp]⟩
theorem Blk2p.new (w:World)(u v:Value):(w.alloc (.cells #[u,v] 64)).cell? ⟨w.heap.size,0,none⟩=some u∧(w.alloc (.cells #[u,v] 64)).cell? ⟨w.heap.size,1,none⟩=some v:=by
 constructor<;>simp[go_sem]
theorem Blk6p.new (w:World)(u0 u1 u2 u3 u4 u5:Value):(w.alloc (.cells #[u0,u1,u2,u3,u4,u5] 71)).cell? ⟨w.heap.size,0,none⟩=some u0∧(w.alloc (.cells #[u0,u1,u2,u3,u4,u5] 71)).cell? ⟨w.heap.size,5,none⟩=some u5:=by
 constructor<;>simp[go_sem]
def fitT {α:Type}(f:List α→Bool)(t:Pl.Tst α):Bool:= !Pl.qbb t.kind||f t.list
def fitS {α:Type}(f:List α→Bool)(s:Pl.Stp α):Bool:=decide (s.tests.length≤6)&&s.tests.all (fitT f)
def fitP {α:Type}(f:List α→Bool)(p:Pl.Pth α):Bool:=decide (1≤p.steps.length∧p.steps.length≤5∧p.links.length+1=p.steps.length)&&p.steps.all (fitS f)
theorem fit_eq {α:Type}(f:List α→Bool)(l:List (Pl.Pth α)):Pl.qbd f l=(decide (1≤l.length∧l.length≤5)&&l.all (fitP f)):=by
 have e:(fun p=>Pl.pFits p&&Pl.inner f p)=fitP f:=by
  funext p
  unfold Pl.pFits Pl.inner fitP Pl.Pth.tests;rw[List.all_flatMap,Bool.and_assoc]
  congr 1
  rw[Bool.eq_iff_iff];simp only[Bool.and_eq_true,List.all_eq_true];constructor
  ·rintro ⟨h1,h2⟩ s hs;unfold fitS;rw[h1 s hs,Bool.true_and,List.all_eq_true];exact h2 s hs
  ·intro h;refine⟨fun s hs=>?_,fun s hs t ht=>?_⟩
   ·have:=h s hs;unfold fitS at this;rw[Bool.and_eq_true]at this;exact this.1
   ·have:=h s hs;unfold fitS at this;rw[Bool.and_eq_true,List.all_eq_true]at this;exact this.2 t ht
 unfold Pl.qbd;rw[e]
theorem many_up {α:Type}{A:MemL α}(hA:IsL A)(d:Int)(hd:1≤d∧d≤3)(f:List α→Bool)(hf:∀w v l,A w v l→Calls Tryz.prog 57 #[v,.int .i64 (d+1)] w fun e w'=>e=.returned (.bool (!f l))∧Below w.heap.size w w')(w:World)(v:Value)(l:List (Pl.Pth α))(h:qbp A w v l):
 Calls Tryz.prog 57 #[v,.int .i64 d] w fun e w'=>e=.returned (.bool (!Pl.qbd f l))∧Below w.heap.size w w':=by
 obtain⟨a,c,rfl⟩:=qaf.form h;have HL:Hid (qbp A w (.slice a l.length c) l):=h;have HF:Hid (∀w v l,A w v l→Calls Tryz.prog 57 #[v,.int .i64 (d+1)] w fun e w'=>e=.returned (.bool (!f l))∧Below w.heap.size w w'):=hf;have HA:Hid (IsL A):=hA;have d1:¬3<d:=by omega
 have d2:wrap64 (d+1)=d+1:=IntWalk.wrap64_in _ ⟨by omega,by omega⟩;clear h hf hA
 by_cases hlen:1≤l.length∧l.length≤5
 ·have HE:Hid (Pl.qbd f l=l.all (fitP f)):=by
   unfold Hid;rw[fit_eq,decide_eq_true hlen,Bool.true_and]
  go_enter Tryz.func57,Tryz.ntmps57
  go_wp2_with fail
  have hw:within l.length 1 5=true:=by simp[within];omega
  refine(qay _ _ _ _).mono ?_;rintro e w1 ⟨rfl,rfl⟩;rw[hw];clear hw
  go_wp2_with fail
  go_loopw [5] (fun i wr=>∃k:Nat,k≤l.length∧i=.int .i64 k∧Hid ((l.take k).all (fitP f)=true)∧Hid (Below w1.heap.size w1 wr)) (fun i _=>l.length-(intOf i).toNat)
  case atStart=>exact⟨0,Nat.zero_le _,rfl,by simp[Hid],Below.refl _ _⟩
  case round=>
   obtain⟨i,hi,rfl,HT,HB⟩:=hrel
   by_cases hlt:i<l.length
   ·obtain⟨-,b,o,rfl,hc⟩:=qaf.at HL.out (by omega);obtain⟨vs,vl,n0,n1,rs,rl⟩:=(hc i hlt).on HA.out HB.out;obtain⟨ax,cx,rfl⟩:=rs.form;obtain⟨al,cl,rfl⟩:=rl.form;have i1:(0:Int)≤(i:Int):=by omega
    have i2:(i:Int)<(l.length:Int):=by omega
    have HBAD:Hid (fitP f l[i]=false→Pl.qbd f l=false):=fun h=>HE.out.trans (qbC hlt h)
    have HOK:Hid (fitP f l[i]=true→(l.take (i+1)).all (fitP f)=true):=fun h=>qbk hlt HT.out h
    clear hc HT;generalize l[i]=p at *;have HRS:Hid (qaf (qa3 A) 2 wr (.slice ax p.steps.length cx) p.steps):=rs;have fs:=rs.fit;have fl:=rl.fit;unfold maxLen at fs fl;have bx:=Blk2p.new wr (.slice ax p.steps.length cx) (.slice al p.links.length cl);have hbx:=qac wr (.cells #[.slice ax p.steps.length cx,.slice al p.links.length cl] 64);obtain⟨x0,x1⟩:=bx;have HB1:Hid (Below w1.heap.size w1 _):=qaa HB.out hbx;have HRS1:Hid (qaf (qa3 A) 2 _ (.slice ax p.steps.length cx) p.steps):=rs.map fun b o x hx=>hx.on HA.out hbx
    clear rs rl HRS hbx
    go_wp2_with fail
    generalize wr.alloc (.cells #[.slice ax p.steps.length cx,.slice al p.links.length cl] 64)=W1 at *;refine(qay _ _ _ _).mono ?_;rintro e w2 ⟨rfl,rfl⟩
    by_cases h1:1≤p.steps.length∧p.steps.length≤5
    ·have hw:within p.steps.length 1 5=true:=by simp[within];omega
     have hr:wrap64 ((p.steps.length:Int)-1)=(p.steps.length:Int)-1:=IntWalk.wrap64_in _ ⟨by omega,by omega⟩;rw[hw]
     by_cases h2:p.links.length+1=p.steps.length
     ·have hq:((p.links.length:Int) !=(p.steps.length:Int)-1)=false:=by simp;omega
      have HP:Hid (fitP f p=p.steps.all (fitS f)):=by
       unfold Hid fitP;rw[decide_eq_true ⟨h1.1,h1.2,h2⟩,Bool.true_and]
      go_wp2_with fail
      clear hq hw hr h1 h2
      go_loopw [7] (fun i wr=>∃k:Nat,k≤p.steps.length∧i=.int .i64 k∧Hid ((p.steps.take k).all (fitS f)=true)∧Hid (Below w2.heap.size w2 wr)) (fun i _=>p.steps.length-(intOf i).toNat)
      case atStart=>exact⟨0,Nat.zero_le _,rfl,by simp[Hid],Below.refl _ _⟩
      case round=>
       obtain⟨k,hk,rfl,HT2,HB2⟩:=hrel;obtain⟨wq,hwq⟩:∃q,q=wr:=⟨_,rfl⟩
       subst hwq;have y0:=qab HB2.out x0
       by_cases hlt2:k<p.steps.length
       ·obtain⟨-,b2,o2,rfl,hc2⟩:=qaf.at HRS1.out (by omega);obtain⟨vt,m0,m1,rt⟩:=(hc2 k hlt2).on HA.out HB2.out;obtain⟨at_,ct,rfl⟩:=rt.form;have k1:(0:Int)≤(k:Int):=by omega
        have k2:(k:Int)<(p.steps.length:Int):=by omega
        have HBAD2:Hid (fitS f p.steps[k]=false→Pl.qbd f l=false):=fun h=>HBAD.out (HP.out.trans (qbC hlt2 h))
        have HOK2:Hid (fitS f p.steps[k]=true→(p.steps.take (k+1)).all (fitS f)=true):=fun h=>qbk hlt2 HT2.out h
        clear hc2 HT2;generalize p.steps[k]=st at *;have ft:=rt.fit;unfold maxLen at ft
        by_cases h3:st.tests.length≤6
        ·have hq:¬(6:Int)<(st.tests.length:Int):=by omega
         have HS:Hid (fitS f st=st.tests.all (fitT f)):=by
          unfold Hid fitS;rw[decide_eq_true h3,Bool.true_and]
         have HRT:Hid (qaf (qaF A) 6 _ (.slice at_ st.tests.length ct) st.tests):=rt;clear rt
         go_wp2_with fail
         clear hq h3
         go_loopw [8] (fun i wr=>∃k:Nat,k≤st.tests.length∧i=.int .i64 k∧Hid ((st.tests.take k).all (fitT f)=true)∧Hid (Below wq.heap.size wq wr)) (fun i _=>st.tests.length-(intOf i).toNat)
         case atStart=>exact⟨0,Nat.zero_le _,rfl,by simp[Hid],Below.refl _ _⟩
         case round=>
          obtain⟨j,hj,rfl,HT3,HB3⟩:=hrel;have z0:=qab HB3.out y0;have z1:=qab HB3.out m1
          by_cases hlt3:j<st.tests.length
          ·obtain⟨-,b3,o3,rfl,hc3⟩:=qaf.at HRT.out (by omega);obtain⟨vu,q0,q1,q2,q3,q4,q5,rl⟩:=(hc3 j hlt3).on HA.out HB3.out;obtain⟨au,cu,rfl,-⟩:=HA.out.form rl;have j1:(0:Int)≤(j:Int):=by omega
           have j2:(j:Int)<(st.tests.length:Int):=by omega
           have HBAD3:Hid (fitT f st.tests[j]=false→Pl.qbd f l=false):=fun h=>HBAD2.out (HS.out.trans (qbC hlt3 h))
           have HOK3:Hid (fitT f st.tests[j]=true→(st.tests.take (j+1)).all (fitT f)=true):=fun h=>qbk hlt3 HT3.out h
           clear hc3 HT3;generalize st.tests[j]=t at *;have hbt:=qac wr (.cells #[.int .i64 t.kind,.string ⟨t.name.toArray⟩,.string ⟨t.value.toArray⟩,.int .i64 t.a,.int .i64 t.b,.slice au t.list.length cu] 71);have HRL:Hid (A _ (.slice au t.list.length cu) t.list):=HA.out.on rl hbt;obtain⟨r0,r5⟩:=Blk6p.new wr (.int .i64 t.kind) (.string ⟨t.name.toArray⟩) (.string ⟨t.value.toArray⟩) (.int .i64 t.a) (.int .i64 t.b) (.slice au t.list.length cu);have HB4:Hid (Below w1.heap.size w1 _):=qaa HB1.out (qaa HB2.out (qaa HB3.out hbt));have HB5:Hid (Below wq.heap.size wq _):=qaa HB3.out hbt;clear rl hbt
           go_wp2_with fail
           generalize wr.alloc (.cells #[.int .i64 t.kind,.string ⟨t.name.toArray⟩,.string ⟨t.value.toArray⟩,.int .i64 t.a,.int .i64 t.b,.slice au t.list.length cu] 71)=w4 at *;refine(has_any t.kind _).mono ?_;rintro e w5 ⟨rfl,hb5⟩;replace HRL:Hid (A _ (.slice au t.list.length cu) t.list):=HA.out.on HRL.out hb5;replace HB4:Hid (Below w1.heap.size w1 _):=qaa HB4.out hb5;replace HB5:Hid (Below wq.heap.size wq _):=qaa HB5.out hb5;replace r5:=qab hb5 r5;replace r0:=qab hb5 r0;clear hb5;obtain⟨bl,hbl⟩:∃x,Pl.qbb t.kind=x:=⟨_,rfl⟩
           cases bl with
           | false=>
            have HK:Hid ((st.tests.take (j+1)).all (fitT f)=true):=HOK3.out (by simp[fitT,hbl]);rw[hbl];go_wp2;exact⟨⟨j+1,hlt3,by go_num,HK,HB5⟩,by simp[intOf];omega⟩
           | true=>
            obtain⟨bf,hbf⟩:∃x,f t.list=x:=⟨_,rfl⟩
            have hcon:=HF.out _ _ _ HRL.out;rw[hbf]at hcon;have HCON:Hid (Calls Tryz.prog 57 _ _ _):=hcon;clear hcon;rw[hbl]
            go_wp2_with fail
            refine HCON.out.mono ?_;rintro e w6 ⟨rfl,hb6⟩;replace HB4:Hid (Below w1.heap.size w1 _):=qaa HB4.out hb6;replace HB5:Hid (Below wq.heap.size wq _):=qaa HB5.out hb6;clear hb6
            cases bf with
            | true=>
             have HK:Hid ((st.tests.take (j+1)).all (fitT f)=true):=HOK3.out (by simp[fitT,hbf]);go_wp2;exact⟨⟨j+1,hlt3,by go_num,HK,HB5⟩,by simp[intOf];omega⟩
            | false=>
             have HK:Hid (Pl.qbd f l=false):=HBAD3.out (by simp[fitT,hbf,hbl]);go_wp2;go_ret;exact⟨by rw[HK.out];rfl,HB4.out⟩
          ·have HE3:Hid ((p.steps.take (k+1)).all (fitS f)=true):=HOK2.out (HS.out.trans (qbi hlt3 HT3.out));go_wp2;exact⟨⟨k+1,hlt2,by go_num,HE3,qaa HB2.out HB3.out⟩,by simp[intOf];omega⟩
        ·have hq:(6:Int)<(st.tests.length:Int):=by omega
         have HP2:Hid (Pl.qbd f l=false):=HBAD2.out (by
          unfold fitS;rw[decide_eq_false h3]
          rfl)
         go_wp2;go_ret;exact⟨by rw[HP2.out];rfl,qaa HB1.out HB2.out⟩
       ·have HE2:Hid ((l.take (i+1)).all (fitP f)=true):=HOK.out (HP.out.trans (qbi hlt2 HT2.out));go_wp2;exact⟨⟨i+1,hlt,by go_num,HE2,qaa HB1.out HB2.out⟩,by simp[intOf];omega⟩
     ·have hq:((p.links.length:Int) !=(p.steps.length:Int)-1)=true:=by simp;omega
      have HP:Hid (Pl.qbd f l=false):=HBAD.out (by
       unfold fitP;rw[decide_eq_false (by omega)]
       rfl)
      go_wp2;go_ret;exact⟨by rw[HP.out];rfl,HB1.out⟩
    ·have hw:within p.steps.length 1 5=false:=by simp[within];omega
     have HP:Hid (Pl.qbd f l=false):=HBAD.out (by
      unfold fitP;rw[decide_eq_false (by omega)]
      rfl)
     rw[hw];go_wp2;go_ret;exact⟨by rw[HP.out];rfl,HB1.out⟩
   ·have HE2:Hid (Pl.qbd f l=true):=HE.out.trans (qbi hlt HT.out);go_wp2;go_ret;exact⟨by rw[HE2.out];rfl,HB.out⟩
 ·go_enter Tryz.func57,Tryz.ntmps57
  go_wp2_with fail
  have hw:within l.length 1 5=false:=by simp[within];omega
  have HFF:Hid (Pl.qbd f l=false):=by
   unfold Hid Pl.qbd;rw[decide_eq_false hlen];rfl
  refine(qay _ _ _ _).mono ?_;rintro e w1 ⟨rfl,rfl⟩;rw[hw];go_wp2;go_ret;exact⟨by rw[HFF.out];rfl,Below.refl _ _⟩
theorem many_z (d:Int)(d1:3<d)(w:World)(v:Value)(l:List Unit)(h:ZAt w v l):Calls Tryz.prog 57 #[v,.int .i64 d] w fun e w'=>e=.returned (.bool (!(fun _=>false:List Unit→Bool) l))∧Below w.heap.size w w':=by
 obtain⟨a,c,rfl,-⟩:=h;go_enter Tryz.func57,Tryz.ntmps57;go_wp2;go_ret;exact⟨rfl,Below.refl _ _⟩
theorem many_1 (w:World)(v:Value)(l:List Pl.D1)(h:A1 w v l):Calls Tryz.prog 57 #[v,.int .i64 3] w fun e w'=>e=.returned (.bool (!Pl.qbd (fun _=>false) l))∧Below w.heap.size w w':=
 many_up qcP 3 (by omega) (fun _=>false) (fun w v l h=>many_z (3+1) (by omega) w v l h) w v l h
theorem many_2 (w:World)(v:Value)(l:List Pl.D2)(h:A2 w v l):Calls Tryz.prog 57 #[v,.int .i64 2] w fun e w'=>e=.returned (.bool (!Pl.qbd (Pl.qbd fun _=>false) l))∧Below w.heap.size w w':=
 many_up qdA 2 (by omega) (Pl.qbd fun _=>false) (fun w v l h=>by rw[show (2:Int)+1=3 from rfl];exact many_1 w v l h) w v l h
theorem many_3 (w:World)(v:Value)(l:List Pl.D3)(h:A3 w v l):Calls Tryz.prog 57 #[v,.int .i64 1] w fun e w'=>e=.returned (.bool (!Pl.fit3 l))∧Below w.heap.size w w':=
 many_up qdJ 1 (by omega) (Pl.qbd (Pl.qbd fun _=>false)) (fun w v l h=>by rw[show (1:Int)+1=2 from rfl];exact many_2 w v l h) w v l h
theorem qhc (k:Int):within k 1 4=Pl.qbB k:=by simp[within,Pl.qbB,Bool.decide_and]
theorem qhn (k:Int):within k 1 15=Pl.isKind k:=by simp[within,Pl.isKind,Bool.decide_and]
theorem qf9 {α:Type}(p:Pl.Pth α)(f:Pl.Tst α→Bool):p.tests.all f=p.steps.all fun s=>s.tests.all f:=by
 unfold Pl.Pth.tests;rw[List.all_flatMap]
theorem qht {β:Type}(l:List β)(f g:β→Bool):(l.all f&&l.all g)=l.all fun x=>f x&&g x:=by
 rw[Bool.eq_iff_iff];simp only[Bool.and_eq_true,List.all_eq_true];exact⟨fun h x hx=>⟨h.1 x hx,h.2 x hx⟩,fun h=>⟨fun x hx=>(h x hx).1,fun x hx=>(h x hx).2⟩⟩
def Inner {α:Type}(ok:List α→Prop)(l:List (Pl.Pth α)):Prop:=∀p∈l,∀s∈p.steps,∀t∈s.tests,Pl.qbb t.kind=true→ok t.list
def kindT {α:Type}(g:List α→Bool)(t:Pl.Tst α):Bool:=Pl.isKind t.kind&&(!Pl.qbb t.kind||g t.list)
def kindS {α:Type}(g:List α→Bool)(s:Pl.Stp α):Bool:=s.tests.all (kindT g)
def qfz {α:Type}(g:List α→Bool)(p:Pl.Pth α):Bool:=p.links.all Pl.qbB&&p.steps.all (kindS g)
theorem kind_eq {α:Type}(g:List α→Bool)(l:List (Pl.Pth α)):Pl.evUp Pl.qbh g l=l.all (qfz g):=by
 have e:(fun p=>Pl.qbh p&&Pl.inner g p)=qfz g:=by
  funext p
  unfold Pl.qbh Pl.inner qfz kindS;rw[Bool.and_assoc,qht,qf9];rfl
 unfold Pl.evUp;rw[e]
theorem kind_up {α:Type}{A:MemL α}(hA:IsL A)(ok:List α→Prop)(g:List α→Bool)(hf:∀w v l,A w v l→ok l→Calls Tryz.prog 58 #[v] w fun e w'=>e=.returned (.bool (!g l))∧Below w.heap.size w w')(w:World)(v:Value)(l:List (Pl.Pth α))(h:qbp A w v l)(hok:Inner ok l):
 Calls Tryz.prog 58 #[v] w fun e w'=>e=.returned (.bool (!Pl.evUp Pl.qbh g l))∧Below w.heap.size w w':=by
 obtain⟨a,c,rfl⟩:=qaf.form h;have HL:Hid (qbp A w (.slice a l.length c) l):=h;have HF:Hid (∀w v l,A w v l→ok l→Calls Tryz.prog 58 #[v] w fun e w'=>e=.returned (.bool (!g l))∧Below w.heap.size w w'):=hf;have HA:Hid (IsL A):=hA;have HIN:Hid (Inner ok l):=hok;have HE:Hid (Pl.evUp Pl.qbh g l=l.all (qfz g)):=kind_eq g l;have fl0:=qaf.fit h;unfold maxLen at fl0;clear h hf hA hok;go_enter Tryz.func58,Tryz.ntmps58
 go_wp2_with fail
 go_loopw [3] (fun i wr=>∃k:Nat,k≤l.length∧i=.int .i64 k∧Hid ((l.take k).all (qfz g)=true)∧Hid (Below w.heap.size w wr)) (fun i _=>l.length-(intOf i).toNat)
 case atStart=>exact⟨0,Nat.zero_le _,rfl,by simp[Hid],Below.refl _ _⟩
 case round=>
  obtain⟨i,hi,rfl,HT,HB⟩:=hrel;obtain⟨wp,hwp⟩:∃q,q=wr:=⟨_,rfl⟩
  subst hwp
  by_cases hlt:i<l.length
  ·obtain⟨-,b,o,rfl,hc⟩:=qaf.at HL.out (by omega);obtain⟨vs,vl,n0,n1,rs,rl⟩:=(hc i hlt).on HA.out HB.out;obtain⟨ax,cx,rfl⟩:=rs.form;obtain⟨al,cl,rfl⟩:=rl.form;have i1:(0:Int)≤(i:Int):=by omega
   have i2:(i:Int)<(l.length:Int):=by omega
   have HBAD:Hid (qfz g l[i]=false→Pl.evUp Pl.qbh g l=false):=fun h=>HE.out.trans (qbC hlt h)
   have HOK:Hid (qfz g l[i]=true→(l.take (i+1)).all (qfz g)=true):=fun h=>qbk hlt HT.out h
   have HIP:Hid (∀s∈l[i].steps,∀t∈s.tests,Pl.qbb t.kind=true→ok t.list):=HIN.out _ (List.getElem_mem hlt);clear hc HT;generalize l[i]=p at *;have fs:=rs.fit;have fl:=rl.fit;unfold maxLen at fs fl;have HRS:Hid (qaf (qa3 A) 2 _ (.slice ax p.steps.length cx) p.steps):=rs;have HRL:Hid (qaf qbe 1 _ (.slice al p.links.length cl) p.links):=rl;clear rs rl
   go_wp2_with fail
   go_loopw [4] (fun i wr=>∃k:Nat,k≤p.links.length∧i=.int .i64 k∧Hid ((p.links.take k).all Pl.qbB=true)∧Hid (Below wp.heap.size wp wr)) (fun i _=>p.links.length-(intOf i).toNat)
   case atStart=>exact⟨0,Nat.zero_le _,rfl,by simp[Hid],Below.refl _ _⟩
   case round=>
    obtain⟨k,hk,rfl,HT2,HB2⟩:=hrel;obtain⟨wq,hwq⟩:∃q,q=wr:=⟨_,rfl⟩
    subst hwq;have y0:=qab HB2.out n0;have y1:=qab HB2.out n1
    by_cases hlt2:k<p.links.length
    ·obtain⟨-,b2,o2,rfl,hc2⟩:=qaf.at HRL.out (by omega);have m0:wq.cell? ⟨b2,o2+k,none⟩=some (.int .i64 p.links[k]):=by simpa [qbe] using qab HB2.out (hc2 k hlt2)
     have k1:(0:Int)≤(k:Int):=by omega
     have k2:(k:Int)<(p.links.length:Int):=by omega
     have HBAD2:Hid (Pl.qbB p.links[k]=false→Pl.evUp Pl.qbh g l=false):=fun h=>HBAD.out (by unfold qfz;rw[qbC hlt2 h];rfl)
     have HOK2:Hid (Pl.qbB p.links[k]=true→(p.links.take (k+1)).all Pl.qbB=true):=fun h=>qbk hlt2 HT2.out h
     clear hc2 HT2;generalize p.links[k]=lk at *
     go_wp2_with fail
     refine(qay _ _ _ _).mono ?_;rintro e w2 ⟨rfl,rfl⟩;rw[qhc]
     cases hb:Pl.qbB lk with
     | true=>
      have HK:Hid ((p.links.take (k+1)).all Pl.qbB=true):=HOK2.out hb;go_wp2;exact⟨⟨k+1,hlt2,by go_num,HK,HB2⟩,by simp[intOf];omega⟩
     | false=>
      have HK:Hid (Pl.evUp Pl.qbh g l=false):=HBAD2.out hb;go_wp2;go_ret;exact⟨by rw[HK.out];rfl,qaa HB.out HB2.out⟩
    ·have HLK:Hid (p.links.all Pl.qbB=true):=qbi hlt2 HT2.out;have HB1:Hid (Below w.heap.size w wq):=qaa HB.out HB2.out;have HRS1:Hid (qaf (qa3 A) 2 wq (.slice ax p.steps.length cx) p.steps):=HRS.out.map fun b o x hx=>hx.on HA.out HB2.out
     have HP:Hid (qfz g p=p.steps.all (kindS g)):=by
      unfold Hid qfz;rw[HLK.out,Bool.true_and]
     clear HT2 HRL
     go_wp2_with fail
     go_loopw [5] (fun i wr=>∃k:Nat,k≤p.steps.length∧i=.int .i64 k∧Hid ((p.steps.take k).all (kindS g)=true)∧Hid (Below wq.heap.size wq wr)) (fun i _=>p.steps.length-(intOf i).toNat)
     case atStart=>exact⟨0,Nat.zero_le _,rfl,by simp[Hid],Below.refl _ _⟩
     case round=>
      obtain⟨k,hk,rfl,HT2,HB3⟩:=hrel;obtain⟨ww,hww⟩:∃q,q=wr:=⟨_,rfl⟩
      subst hww;have x0:=qab HB3.out y0
      by_cases hlt3:k<p.steps.length
      ·obtain⟨-,b2,o2,rfl,hc2⟩:=qaf.at HRS1.out (by omega);obtain⟨vt,m0,m1,rt⟩:=(hc2 k hlt3).on HA.out HB3.out;obtain⟨at_,ct,rfl⟩:=rt.form;have k1:(0:Int)≤(k:Int):=by omega
       have k2:(k:Int)<(p.steps.length:Int):=by omega
       have HBAD2:Hid (kindS g p.steps[k]=false→Pl.evUp Pl.qbh g l=false):=fun h=>HBAD.out (HP.out.trans (qbC hlt3 h))
       have HOK2:Hid (kindS g p.steps[k]=true→(p.steps.take (k+1)).all (kindS g)=true):=fun h=>qbk hlt3 HT2.out h
       have HIS:Hid (∀t∈p.steps[k].tests,Pl.qbb t.kind=true→ok t.list):=HIP.out _ (List.getElem_mem hlt3);clear hc2 HT2;generalize p.steps[k]=st at *;have ft:=rt.fit;unfold maxLen at ft;have HRT:Hid (qaf (qaF A) 6 _ (.slice at_ st.tests.length ct) st.tests):=rt;clear rt
       go_wp2_with fail
       go_loopw [6] (fun i wr=>∃k:Nat,k≤st.tests.length∧i=.int .i64 k∧Hid ((st.tests.take k).all (kindT g)=true)∧Hid (Below ww.heap.size ww wr)) (fun i _=>st.tests.length-(intOf i).toNat)
       case atStart=>exact⟨0,Nat.zero_le _,rfl,by simp[Hid],Below.refl _ _⟩
       case round=>
        obtain⟨j,hj,rfl,HT3,HB4⟩:=hrel;have z0:=qab HB4.out x0;have z1:=qab HB4.out m1
        by_cases hlt4:j<st.tests.length
        ·obtain⟨-,b3,o3,rfl,hc3⟩:=qaf.at HRT.out (by omega);obtain⟨vu,q0,q1,q2,q3,q4,q5,rl⟩:=(hc3 j hlt4).on HA.out HB4.out;obtain⟨au,cu,rfl,-⟩:=HA.out.form rl;have j1:(0:Int)≤(j:Int):=by omega
         have j2:(j:Int)<(st.tests.length:Int):=by omega
         have HBAD3:Hid (kindT g st.tests[j]=false→Pl.evUp Pl.qbh g l=false):=fun h=>HBAD2.out (qbC hlt4 h)
         have HOK3:Hid (kindT g st.tests[j]=true→(st.tests.take (j+1)).all (kindT g)=true):=fun h=>qbk hlt4 HT3.out h
         have HIT:Hid (Pl.qbb st.tests[j].kind=true→ok st.tests[j].list):=HIS.out _ (List.getElem_mem hlt4);clear hc3 HT3;generalize st.tests[j]=t at *;have hbt:=qac wr (.cells #[.int .i64 t.kind,.string ⟨t.name.toArray⟩,.string ⟨t.value.toArray⟩,.int .i64 t.a,.int .i64 t.b,.slice au t.list.length cu] 71);have HRL:Hid (A _ (.slice au t.list.length cu) t.list):=HA.out.on rl hbt;obtain⟨r0,r5⟩:=Blk6p.new wr (.int .i64 t.kind) (.string ⟨t.name.toArray⟩) (.string ⟨t.value.toArray⟩) (.int .i64 t.a) (.int .i64 t.b) (.slice au t.list.length cu);have HB5:Hid (Below ww.heap.size ww _):=qaa HB4.out hbt;clear rl hbt
         go_wp2_with fail
         generalize wr.alloc (.cells #[.int .i64 t.kind,.string ⟨t.name.toArray⟩,.string ⟨t.value.toArray⟩,.int .i64 t.a,.int .i64 t.b,.slice au t.list.length cu] 71)=w4 at *;refine(has_any t.kind _).mono ?_;rintro e w5 ⟨rfl,hb5⟩;replace HRL:Hid (A _ (.slice au t.list.length cu) t.list):=HA.out.on HRL.out hb5;replace HB5:Hid (Below ww.heap.size ww _):=qaa HB5.out hb5;replace r5:=qab hb5 r5;replace r0:=qab hb5 r0;clear hb5
         go_wp2_with fail
         refine(qay _ _ _ _).mono ?_;rintro e w6 ⟨rfl,rfl⟩;rw[qhn]
         cases hbk:Pl.isKind t.kind with
         | false=>
          have HK:Hid (Pl.evUp Pl.qbh g l=false):=HBAD3.out (by simp[kindT,hbk]);go_wp2;go_ret;exact⟨by rw[HK.out];rfl,qaa HB1.out (qaa HB3.out HB5.out)⟩
         | true=>
          cases hbl:Pl.qbb t.kind with
          | false=>
           have HK:Hid ((st.tests.take (j+1)).all (kindT g)=true):=HOK3.out (by simp[kindT,hbl,hbk]);go_wp2;exact⟨⟨j+1,hlt4,by go_num,HK,HB5⟩,by simp[intOf];omega⟩
          | true=>
           obtain⟨bf,hbf⟩:∃x,g t.list=x:=⟨_,rfl⟩
           have hcon:=HF.out _ _ _ HRL.out (HIT.out hbl);rw[hbf]at hcon;have HCON:Hid (Calls Tryz.prog 58 _ _ _):=hcon;clear hcon
           go_wp2_with fail
           refine HCON.out.mono ?_;rintro e w7 ⟨rfl,hb6⟩;replace HB5:Hid (Below ww.heap.size ww _):=qaa HB5.out hb6;clear hb6
           cases bf with
           | true=>
            have HK:Hid ((st.tests.take (j+1)).all (kindT g)=true):=HOK3.out (by simp[kindT,hbf,hbk]);go_wp2;exact⟨⟨j+1,hlt4,by go_num,HK,HB5⟩,by simp[intOf];omega⟩
           | false=>
            have HK:Hid (Pl.evUp Pl.qbh g l=false):=HBAD3.out (by simp[kindT,hbf,hbl]);go_wp2;go_ret;exact⟨by rw[HK.out];rfl,qaa HB1.out (qaa HB3.out HB5.out)⟩
        ·have HE3:Hid ((p.steps.take (k+1)).all (kindS g)=true):=HOK2.out (qbi hlt4 HT3.out);go_wp2;exact⟨⟨k+1,hlt3,by go_num,HE3,qaa HB3.out HB4.out⟩,by simp[intOf];omega⟩
      ·have HE2:Hid ((l.take (i+1)).all (qfz g)=true):=HOK.out (HP.out.trans (qbi hlt3 HT2.out));go_wp2;exact⟨⟨i+1,hlt,by go_num,HE2,qaa HB1.out HB3.out⟩,by simp[intOf];omega⟩
  ·have HE2:Hid (Pl.evUp Pl.qbh g l=true):=HE.out.trans (qbi hlt HT.out);go_wp2;go_ret;exact⟨by rw[HE2.out];rfl,HB.out⟩
end Go.Proofs.YtephhllfodlfbaaGreatDoor
