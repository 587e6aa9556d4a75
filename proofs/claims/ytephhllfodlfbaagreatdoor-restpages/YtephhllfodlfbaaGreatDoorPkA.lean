/-
  The document's own check of a list of paths: its counts.
-/
import Derived.Test.YtephhllfodlfbaaGreatDoorRcC
import Derived.RangeFuncNested
import Derived.RangeFuncBound
import Derived.RangeFuncCalls
import Derived.RangeFuncLeaves
import Derived.Shelf.Abstract
import Derived.Shelf.RegionOpen
import Derived.OwnWalkIn
import Derived.TacticsInMore
import Derived.LoopNIn
import Derived.LoopIn
set_option maxRecDepth 100000
set_option maxHeartbeats 16000000
namespace Go.Proofs.YtephhllfodlfbaaGreatDoor
open Go.RowKit
def nB (a b:Int):Bool:=within a (-1048576) 1048576&&within b (-1048576) 1048576
def nErr (a b:Int):Int:=if nB a b=true then 0 else 3
theorem qg4 {a b:Int}(h:nB a b=true):nErr a b=0:=by unfold nErr;rw[if_pos h]
theorem qe3 {a b:Int}(h:nB a b=false):nErr a b=3:=by unfold nErr;rw[h];rfl
theorem Blk6r.new (w:World)(u0 u1 u2 u3 u4 u5:Value):(w.alloc (.cells #[u0,u1,u2,u3,u4,u5] 71)).cell? ⟨w.heap.size,3,none⟩=some u3∧(w.alloc (.cells #[u0,u1,u2,u3,u4,u5] 71)).cell? ⟨w.heap.size,4,none⟩=some u4:=by
 constructor<;>simp[go_sem]
theorem qh3 (a b:Int)(w:World):Calls Tryz.prog 116 #[.agg #[.int .i64 a,.int .i64 b]] w fun e w'=>e=.returned (.int .i64 (nErr a b))∧Below w.heap.size w w':=by
 have HB:=qac w (.cells #[.int .i64 a,.int .i64 b] 69);have HBB:Hid (Below _ _ _):=HB;clear HB
 cases ha:within a (-1048576) 1048576 with
 | false=>
  have HN:Hid (nErr a b=3):=qe3 (by simp[nB,ha]);go_enter Tryz.func116,Tryz.ntmps116
  go_wp2_with fail
  refine(qay _ _ _ _).mono ?_;rintro e w1 ⟨rfl,rfl⟩;rw[ha];go_wp2;go_ret;exact⟨by rw[HN.out];rfl,HBB.out⟩
 | true=>
  cases hb:within b (-1048576) 1048576 with
  | false=>
   have HN:Hid (nErr a b=3):=qe3 (by simp[nB,hb]);go_enter Tryz.func116,Tryz.ntmps116
   go_wp2_with fail
   refine(qay _ _ _ _).mono ?_;rintro e w1 ⟨rfl,rfl⟩;rw[ha]
   go_wp2_with fail
   refine(qay _ _ _ _).mono ?_;rintro e w1 ⟨rfl,rfl⟩;rw[hb];go_wp2;go_ret;exact⟨by rw[HN.out];rfl,HBB.out⟩
  | true=>
   have HN:Hid (nErr a b=0):=qg4 (by simp[nB,ha,hb]);go_enter Tryz.func116,Tryz.ntmps116
   go_wp2_with fail
   refine(qay _ _ _ _).mono ?_;rintro e w1 ⟨rfl,rfl⟩;rw[ha]
   go_wp2_with fail
   refine(qay _ _ _ _).mono ?_;rintro e w1 ⟨rfl,rfl⟩;rw[hb];go_wp2;go_ret;exact⟨by rw[HN.out];rfl,HBB.out⟩
def qft {α:Type}(ok:List α→Prop)(l:List (Pl.Pth α)):Prop:=∀p∈l,∀s∈p.steps,∀t∈s.tests,ok t.list
def nthT {α:Type}(g:List α→Bool)(t:Pl.Tst α):Bool:=nB t.a t.b&&g t.list
def nthS {α:Type}(g:List α→Bool)(s:Pl.Stp α):Bool:=s.tests.all (nthT g)
def nthP {α:Type}(g:List α→Bool)(p:Pl.Pth α):Bool:=p.steps.all (nthS g)
def nthL {α:Type}(g:List α→Bool)(l:List (Pl.Pth α)):Bool:=l.all (nthP g)
theorem nth_up {α:Type}{A:MemL α}(hA:IsL A)(ok:List α→Prop)(g:List α→Bool)(hf:∀w v l,A w v l→ok l→Calls Tryz.prog 60 #[v] w fun e w'=>e=.returned (.bool (!g l))∧Below w.heap.size w w')(w:World)(v:Value)(l:List (Pl.Pth α))(h:qbp A w v l)(hok:qft ok l):
 Calls Tryz.prog 60 #[v] w fun e w'=>e=.returned (.bool (!nthL g l))∧Below w.heap.size w w':=by
 obtain⟨a,c,rfl⟩:=qaf.form h;have HL:Hid (qbp A w (.slice a l.length c) l):=h;have HF:Hid (∀w v l,A w v l→ok l→Calls Tryz.prog 60 #[v] w fun e w'=>e=.returned (.bool (!g l))∧Below w.heap.size w w'):=hf;have HA:Hid (IsL A):=hA;have HIN:Hid (qft ok l):=hok;obtain⟨EV,hEV⟩:∃x,nthL g l=x:=⟨_,rfl⟩
 rw[hEV];have HE:Hid (EV=l.all (nthP g)):=hEV.symm;have fl0:=qaf.fit h;unfold maxLen at fl0;clear h hf hA hok hEV;go_enter Tryz.func60,Tryz.ntmps60
 go_wp2_with fail
 go_loopw [3] (fun i wr=>∃k:Nat,k≤l.length∧i=.int .i64 k∧Hid ((l.take k).all (nthP g)=true)∧Hid (Below w.heap.size w wr)) (fun i _=>l.length-(intOf i).toNat)
 case atStart=>exact⟨0,Nat.zero_le _,rfl,by simp[Hid],Below.refl _ _⟩
 case round=>
  obtain⟨i,hi,rfl,HT,HB⟩:=hrel;obtain⟨wq,hwq⟩:∃q,q=wr:=⟨_,rfl⟩
  subst hwq
  by_cases hlt:i<l.length
  ·obtain⟨-,b,o,rfl,hc⟩:=qaf.at HL.out (by omega);obtain⟨vs,vl,n0,n1,rs,-⟩:=(hc i hlt).on HA.out HB.out;obtain⟨ax,cx,rfl⟩:=rs.form;have i1:(0:Int)≤(i:Int):=by omega
   have i2:(i:Int)<(l.length:Int):=by omega
   have HBAD:Hid (nthP g l[i]=false→EV=false):=fun h=>HE.out.trans (qbC hlt h)
   have HOK:Hid (nthP g l[i]=true→(l.take (i+1)).all (nthP g)=true):=fun h=>qbk hlt HT.out h
   have HIP:Hid (∀s∈l[i].steps,∀t∈s.tests,ok t.list):=HIN.out _ (List.getElem_mem hlt);clear hc HT n1;generalize l[i]=p at *;have fs:=rs.fit;unfold maxLen at fs;have HRS1:Hid (qaf (qa3 A) 2 _ (.slice ax p.steps.length cx) p.steps):=rs;clear rs
   go_wp2_with fail
   go_loopw [4] (fun i wr=>∃k:Nat,k≤p.steps.length∧i=.int .i64 k∧Hid ((p.steps.take k).all (nthS g)=true)∧Hid (Below wq.heap.size wq wr)) (fun i _=>p.steps.length-(intOf i).toNat)
   case atStart=>exact⟨0,Nat.zero_le _,rfl,by simp[Hid],Below.refl _ _⟩
   case round=>
    obtain⟨k,hk,rfl,HT2,HB3⟩:=hrel;obtain⟨ww,hww⟩:∃q,q=wr:=⟨_,rfl⟩
    subst hww;have x0:=qab HB3.out n0
    by_cases hlt3:k<p.steps.length
    ·obtain⟨-,b2,o2,rfl,hc2⟩:=qaf.at HRS1.out (by omega);obtain⟨vt,m0,m1,rt⟩:=(hc2 k hlt3).on HA.out HB3.out;obtain⟨at_,ct,rfl⟩:=rt.form;have k1:(0:Int)≤(k:Int):=by omega
     have k2:(k:Int)<(p.steps.length:Int):=by omega
     have HBAD2:Hid (nthS g p.steps[k]=false→EV=false):=fun h=>HBAD.out (qbC hlt3 h)
     have HOK2:Hid (nthS g p.steps[k]=true→(p.steps.take (k+1)).all (nthS g)=true):=fun h=>qbk hlt3 HT2.out h
     have HIS:Hid (∀t∈p.steps[k].tests,ok t.list):=HIP.out _ (List.getElem_mem hlt3);clear hc2 HT2;generalize p.steps[k]=st at *;have ft:=rt.fit;unfold maxLen at ft;have HRT:Hid (qaf (qaF A) 6 _ (.slice at_ st.tests.length ct) st.tests):=rt;clear rt
     go_wp2_with fail
     go_loopw [5] (fun i wr=>∃k:Nat,k≤st.tests.length∧i=.int .i64 k∧Hid ((st.tests.take k).all (nthT g)=true)∧Hid (Below ww.heap.size ww wr)) (fun i _=>st.tests.length-(intOf i).toNat)
     case atStart=>exact⟨0,Nat.zero_le _,rfl,by simp[Hid],Below.refl _ _⟩
     case round=>
      obtain⟨j,hj,rfl,HT3,HB4⟩:=hrel;have z0:=qab HB4.out x0;have z1:=qab HB4.out m1
      by_cases hlt4:j<st.tests.length
      ·obtain⟨-,b3,o3,rfl,hc3⟩:=qaf.at HRT.out (by omega);obtain⟨vu,q0,q1,q2,q3,q4,q5,rl⟩:=(hc3 j hlt4).on HA.out HB4.out;obtain⟨au,cu,rfl,-⟩:=HA.out.form rl;have j1:(0:Int)≤(j:Int):=by omega
       have j2:(j:Int)<(st.tests.length:Int):=by omega
       have HBAD3:Hid (nthT g st.tests[j]=false→EV=false):=fun h=>HBAD2.out (qbC hlt4 h)
       have HOK3:Hid (nthT g st.tests[j]=true→(st.tests.take (j+1)).all (nthT g)=true):=fun h=>qbk hlt4 HT3.out h
       have HIT:Hid (ok st.tests[j].list):=HIS.out _ (List.getElem_mem hlt4);clear hc3 HT3;generalize st.tests[j]=t at *;have hbt:=qac wr (.cells #[.int .i64 t.kind,.string ⟨t.name.toArray⟩,.string ⟨t.value.toArray⟩,.int .i64 t.a,.int .i64 t.b,.slice au t.list.length cu] 71);have HRL:Hid (A _ (.slice au t.list.length cu) t.list):=HA.out.on rl hbt;obtain⟨r0,r5⟩:=Blk6p.new wr (.int .i64 t.kind) (.string ⟨t.name.toArray⟩) (.string ⟨t.value.toArray⟩) (.int .i64 t.a) (.int .i64 t.b) (.slice au t.list.length cu);have HB5:Hid (Below ww.heap.size ww _):=qaa HB4.out hbt;clear rl hbt r0
       go_wp2_with fail
       generalize wr.alloc (.cells #[.int .i64 t.kind,.string ⟨t.name.toArray⟩,.string ⟨t.value.toArray⟩,.int .i64 t.a,.int .i64 t.b,.slice au t.list.length cu] 71)=w4 at *;obtain⟨bn,hbn⟩:∃x,nB t.a t.b=x:=⟨_,rfl⟩
       refine(qh3 _ _ _).mono ?_;rintro e w5 ⟨rfl,hb5⟩;replace HRL:Hid (A _ (.slice au t.list.length cu) t.list):=HA.out.on HRL.out hb5;replace HB5:Hid (Below ww.heap.size ww _):=qaa HB5.out hb5;replace r5:=qab hb5 r5;clear hb5
       cases bn with
       | false=>
        have HK:Hid (EV=false):=HBAD3.out (by simp[nthT,hbn]);rw[qe3 hbn];go_wp2;go_ret;exact⟨by rw[HK.out];rfl,qaa HB.out (qaa HB3.out HB5.out)⟩
       | true=>
        rw[qg4 hbn];obtain⟨bf,hbf⟩:∃x,g t.list=x:=⟨_,rfl⟩
        have hcon:=HF.out _ _ _ HRL.out HIT.out;rw[hbf]at hcon;have HCON:Hid (Calls Tryz.prog 60 _ _ _):=hcon;clear hcon
        go_wp2_with fail
        refine HCON.out.mono ?_;rintro e w7 ⟨rfl,hb6⟩;replace HB5:Hid (Below ww.heap.size ww _):=qaa HB5.out hb6;clear hb6
        cases bf with
        | true=>
         have HK:Hid ((st.tests.take (j+1)).all (nthT g)=true):=HOK3.out (by simp[nthT,hbf,hbn]);go_wp2;exact⟨⟨j+1,hlt4,by go_num,HK,HB5⟩,by simp[intOf];omega⟩
        | false=>
         have HK:Hid (EV=false):=HBAD3.out (by simp[nthT,hbf]);go_wp2;go_ret;exact⟨by rw[HK.out];rfl,qaa HB.out (qaa HB3.out HB5.out)⟩
      ·have HE3:Hid ((p.steps.take (k+1)).all (nthS g)=true):=HOK2.out (qbi hlt4 HT3.out);go_wp2;exact⟨⟨k+1,hlt3,by go_num,HE3,qaa HB3.out HB4.out⟩,by simp[intOf];omega⟩
    ·have HE2:Hid ((l.take (i+1)).all (nthP g)=true):=HOK.out (qbi hlt3 HT2.out);go_wp2;exact⟨⟨i+1,hlt,by go_num,HE2,qaa HB.out HB3.out⟩,by simp[intOf];omega⟩
  ·have HE2:Hid (EV=true):=HE.out.trans (qbi hlt HT.out);go_wp2;go_ret;exact⟨by rw[HE2.out];rfl,HB.out⟩
theorem nth_z (w:World)(v:Value)(l:List Unit)(h:ZAt w v l)(hl:l=[]):Calls Tryz.prog 60 #[v] w fun e w'=>e=.returned (.bool (!(fun _=>true:List Unit→Bool) l))∧Below w.heap.size w w':=by
 subst hl;obtain⟨a,c,rfl,-⟩:=h;go_enter Tryz.func60,Tryz.ntmps60;go_wp2;refine wp_loop_rounds 1 ?_;rw[rounds_succ];go_wp2;go_ret;exact⟨rfl,Below.refl _ _⟩
namespace Pl
def kind3:List D3→Bool:=evUp qbh (evUp qbh (evUp qbh fun _=>true))
def qeK:List D3→Bool:=evUp (qc7 qaj qao) (evUp (qc7 qaj qao) (evUp (qc7 qaj qao) fun _=>true))
def pick4 (a b c d:Bool):Int:=if a then (if b then (if c then (if d then 0 else 3) else 1) else 4) else 2
end Pl
def nth3:List Pl.D3→Bool:=nthL (nthL (nthL fun _=>true))
def qbs (l:List Pl.D3):Int:=Pl.pick4 (Pl.fit3 l) (Pl.kind3 l) (Pl.qeK l) (nth3 l)
theorem qa5 {α:Type}{f:List α→Bool}{ok:List α→Prop}{l:List (Pl.Pth α)}(h:Pl.qbd f l=true)(hf:∀l,f l=true→ok l):Inner ok l:=by
 intro p hp s hs t ht hk;rw[fit_eq,Bool.and_eq_true,List.all_eq_true]at h;have h1:=h.2 p hp;unfold fitP at h1;rw[Bool.and_eq_true,List.all_eq_true]at h1;have h2:=h1.2 s hs;unfold fitS at h2;rw[Bool.and_eq_true,List.all_eq_true]at h2;have h3:=h2.2 t ht;unfold fitT at h3;rw[hk]at h3;exact hf _ h3
theorem qe6 {α:Type}{g:List α→Bool}{ok:List α→Prop}{l:List (Pl.Pth α)}(h:Pl.evUp (Pl.qc7 Pl.qaj Pl.qao) g l=true)(h0:ok [])(hin:Inner (fun l=>g l=true→ok l) l):qft ok l:=by
 intro p hp s hs t ht;rw[form_eq,List.all_eq_true]at h;have h1:=h p hp;unfold formP at h1;rw[List.all_eq_true]at h1;have h2:=h1 s hs;unfold formS at h2;rw[Bool.and_eq_true,List.all_eq_true]at h2;have h3:=h2.2 t ht;unfold qbM tF Pl.qcq at h3;simp only[Bool.and_eq_true]at h3
 cases hk:Pl.qbb t.kind with
 | true=>
  have:=h3.2;rw[hk]at this;exact hin p hp s hs t ht hk this
 | false=>
  have:=h3.1.2;rw[hk]at this;have hz:t.list.length=0:=by simpa using this
  rw[List.length_eq_zero_iff.1 hz];exact h0
theorem kinds_3 (w:World)(v:Value)(l:List Pl.D3)(h:A3 w v l)(hf:Pl.fit3 l=true):Calls Tryz.prog 58 #[v] w fun e w'=>e=.returned (.bool (!Pl.kind3 l))∧Below w.heap.size w w':=
 kind_up qdJ (fun l=>Pl.qbd (Pl.qbd fun _=>false) l=true) _
  (fun w v l h hl=>kind_up qdA (fun l=>Pl.qbd (fun _=>false) l=true) _
   (fun w v l h hl=>kind_up qcP (fun _=>False) (fun _=>true) (fun _ _ _ _ hx=>hx.elim) w v l h (qa5 hl fun _ hx=>by cases hx)) w v l h (qa5 hl fun _ hx=>hx)) w v l h (qa5 hf fun _ hx=>hx)
theorem forms_3 (w:World)(v:Value)(l:List Pl.D3)(h:A3 w v l)(hf:Pl.fit3 l=true):Calls Tryz.prog 59 #[v] w fun e w'=>e=.returned (.bool (!Pl.qeK l))∧Below w.heap.size w w':=
 form_up qdJ (fun l=>Pl.qbd (Pl.qbd fun _=>false) l=true) _
  (fun w v l h hl=>form_up qdA (fun l=>Pl.qbd (fun _=>false) l=true) _
   (fun w v l h hl=>form_up qcP (fun _=>False) (fun _=>true) (fun _ _ _ _ hx=>hx.elim) w v l h (qa5 hl fun _ hx=>by cases hx)) w v l h (qa5 hl fun _ hx=>hx)) w v l h (qa5 hf fun _ hx=>hx)
def okN1 (l:List Pl.D1):Prop:=qft (fun l=>l=[]) l
def okN2 (l:List Pl.D2):Prop:=qft okN1 l
theorem okN1_of {l:List Pl.D1}(hf:Pl.qbd (fun _=>false) l=true)(hg:Pl.evUp (Pl.qc7 Pl.qaj Pl.qao) (fun _=>true) l=true):okN1 l:=
 qe6 hg rfl (qa5 hf fun _ hx=>by cases hx)
theorem okN2_of {l:List Pl.D2}(hf:Pl.qbd (Pl.qbd fun _=>false) l=true)(hg:Pl.evUp (Pl.qc7 Pl.qaj Pl.qao) (Pl.evUp (Pl.qc7 Pl.qaj Pl.qao) fun _=>true) l=true):okN2 l:=
 qe6 hg (fun _ h=>by cases h) (qa5 hf fun _ hx hy=>okN1_of hx hy)
theorem okN3_of {l:List Pl.D3}(hf:Pl.fit3 l=true)(hg:Pl.qeK l=true):qft okN2 l:=
 qe6 hg (fun _ h=>by cases h) (qa5 hf fun _ hx hy=>okN2_of hx hy)
theorem nths_3 (w:World)(v:Value)(l:List Pl.D3)(h:A3 w v l)(hl:qft okN2 l):Calls Tryz.prog 60 #[v] w fun e w'=>e=.returned (.bool (!nth3 l))∧Below w.heap.size w w':=
 nth_up qdJ okN2 _ (fun w v l h hl=>nth_up qdA okN1 _ (fun w v l h hl=>nth_up qcP (fun l=>l=[]) _ nth_z w v l h hl) w v l h hl) w v l h hl
theorem qf8 (w:World)(v:Value)(l:List Pl.D3)(h:A3 w v l):Calls Tryz.prog 21 #[v] w fun e w'=>e=.returned (.int .i64 (qbs l))∧Below w.heap.size w w':=by
 obtain⟨a,c,rfl,-⟩:=qcB.form h;have HH:Hid (∀W,Below w.heap.size w W→A3 W (.slice a l.length c) l):=fun W hW=>qcB.on h hW
 have HM:=fun W hW=>many_3 W _ l (HH.out W hW)
 have HK:=fun W hW=>kinds_3 W _ l (HH.out W hW)
 have HO:=fun W hW=>forms_3 W _ l (HH.out W hW)
 have HN:=fun W hW=>nths_3 W _ l (HH.out W hW)
 have HR:Hid (Pl.fit3 l=true→Pl.qeK l=true→qft okN2 l):=fun x y=>okN3_of x y
 have HC:Hid (qbs l=Pl.pick4 (Pl.fit3 l) (Pl.kind3 l) (Pl.qeK l) (nth3 l)):=rfl;generalize qbs l=E at *;obtain⟨bm,hbm⟩:∃x,Pl.fit3 l=x:=⟨_,rfl⟩
 obtain⟨bk,hbk⟩:∃x,Pl.kind3 l=x:=⟨_,rfl⟩
 obtain⟨bo,hbo⟩:∃x,Pl.qeK l=x:=⟨_,rfl⟩
 obtain⟨bn,hbn⟩:∃x,nth3 l=x:=⟨_,rfl⟩
 simp only[hbm,hbk,hbo,hbn]at HM HK HO HN HR HC;have HM':Hid _:=HM;have HK':Hid _:=HK;have HO':Hid _:=HO;have HN':Hid _:=HN;clear HM HK HO HN h hbm hbk hbo hbn HH;go_enter Tryz.func21,Tryz.ntmps21
 go_wp2_with fail
 refine(HM'.out _ (Below.refl _ _)).mono ?_;rintro e w1 ⟨rfl,h1⟩;have HB:Hid (Below w.heap.size w w1):=h1;clear h1
 cases bm with
 | false=>
  have HE:Hid (E=2):=HC.out;go_wp2;go_ret;exact⟨by rw[HE.out];rfl,HB.out⟩
 | true=>
  go_wp2_with fail
  refine(HK'.out _ HB.out (by first|rfl|trivial)).mono ?_;rintro e w2 ⟨rfl,h1⟩;replace HB:Hid (Below w.heap.size w w2):=qaa HB.out h1;clear h1
  cases bk with
  | false=>
   have HE:Hid (E=4):=HC.out;go_wp2;go_ret;exact⟨by rw[HE.out];rfl,HB.out⟩
  | true=>
   go_wp2_with fail
   refine(HO'.out _ HB.out (by first|rfl|trivial)).mono ?_;rintro e w3 ⟨rfl,h1⟩;replace HB:Hid (Below w.heap.size w w3):=qaa HB.out h1;clear h1
   cases bo with
   | false=>
    have HE:Hid (E=1):=HC.out;go_wp2;go_ret;exact⟨by rw[HE.out];rfl,HB.out⟩
   | true=>
    go_wp2_with fail
    refine(HN'.out _ HB.out (HR.out (by first|rfl|trivial) (by first|rfl|trivial))).mono ?_;rintro e w4 ⟨rfl,h1⟩;replace HB:Hid (Below w.heap.size w w4):=qaa HB.out h1;clear h1
    cases bn with
    | false=>
     have HE:Hid (E=3):=HC.out;go_wp2;go_ret;exact⟨by rw[HE.out];rfl,HB.out⟩
    | true=>
     have HE:Hid (E=0):=HC.out;go_wp2;go_ret;exact⟨by rw[HE.out];rfl,HB.out⟩
end Go.Proofs.YtephhllfodlfbaaGreatDoor
namespace Go.Proofs.YtephhllfodlfbaaGreatDoor
open Go.RowKit Go.Shelf
attribute [local go_sem] Oper.semAt_some
abbrev XT {α:Type}(A:MemL α)(w0:World)(p:Pl.Pth α):={ x:Value×Pl.Tst α // TstV A w0 x.1 x.2∧x.2∈p.tests }
def XT.tst {α:Type}{A:MemL α}{w0:World}{p:Pl.Pth α}(x:XT A w0 p):Pl.Tst α:=x.1.2
theorem steps_pref {α:Type}{ss:List (Pl.Stp α)}{k j:Nat}(hk:k<ss.length)(hj:j<ss[k].tests.length):((ss.take k).flatMap (·.tests)++ss[k].tests.take j++[ss[k].tests[j]])<+:ss.flatMap (·.tests):=by
 refine⟨ss[k].tests.drop (j+1)++(ss.drop (k+1)).flatMap (·.tests),?_⟩;have e1:ss=ss.take k++ss[k]::ss.drop (k+1):=by rw[←List.drop_eq_getElem_cons hk,List.take_append_drop]
 have e2:ss[k].tests=ss[k].tests.take j++ss[k].tests[j]::ss[k].tests.drop (j+1):=by rw[←List.drop_eq_getElem_cons hj,List.take_append_drop]
 have e3:ss.flatMap (·.tests)=(ss.take k).flatMap (·.tests)++(ss[k].tests++(ss.drop (k+1)).flatMap (·.tests)):=by
  conv=>lhs;rw[e1]
  rw[List.flatMap_append,List.flatMap_cons]
 have e4:ss[k].tests=ss[k].tests.take j++[ss[k].tests[j]]++ss[k].tests.drop (j+1):=by
  rw[List.append_assoc,List.singleton_append];exact e2
 rw[e3]
 conv=>rhs;rw[e4]
 simp only[List.append_assoc]
theorem steps_next {α:Type}{ss:List (Pl.Stp α)}{k:Nat}(hk:k<ss.length):(ss.take (k+1)).flatMap (·.tests)=(ss.take k).flatMap (·.tests)++ss[k].tests:=by
 rw[List.take_succ_eq_append_getElem hk,List.flatMap_append];simp
theorem tests1_in (F:Fence)(n:Nat)(h71:F.fn 165)(hro:F.round=none)(hn:1≤n)(l Bs:Nat){α:Type}{A:MemL α}(hA:IsL A)(w0:World)(p:Pl.Pth α)(vs:Value)(J Jx:List (XT A w0 p)→World→Prop)(W:World)(hJ:AbidesFrom W.heap.size J)
 (hY:∀pre x W1,J pre W1→pre.length<p.tests.length→YieldAt F (n-1) Tryz.prog l #[x.1.1] W1 fun e W'=>
  (e=.returned (.bool true)∧J (pre++[x]) W'∧Below w0.heap.size W1 W')∨(e=.returned (.bool false)∧Jx (pre++[x]) W'))
 (hW:Below w0.heap.size w0 W) (hBs:W.cell? ⟨Bs,0,none⟩=some vs) (hr:qaf (qa3 A) 2 w0 vs p.steps) (h0:J [] W):
 CallsIn F n Tryz.prog 165 #[.func (.yield l) #[] #[],.pointer (some ⟨Bs,0,none⟩)] W fun e W'=>(∃v,e=.returned v)∧
  ((∃ys,ys.map XT.tst=p.tests∧J ys W')∨(∃pre,pre.map XT.tst<+:p.tests∧Jx pre W')):=by
 obtain⟨ax,cx,rfl⟩:=hr.form;have fs:=hr.fit;unfold maxLen at fs;have HA:Hid (IsL A):=hA;have HR:Hid (qaf (qa3 A) 2 w0 (.slice ax p.steps.length cx) p.steps):=hr;have HJ:Hid (∀s W1 o,J s W1→J s (W1.alloc o)):=fun s W1 o h=>hJ s W1 _ none h (World.grownBy_alloc W1 o none) (fun r e=>by cases e)
 have HY:Hid (∀pre x W1,J pre W1→pre.length<p.tests.length→YieldAt F (n-1) Tryz.prog l #[x.1.1] W1 fun e W'=>(e=.returned (.bool true)∧J (pre++[x]) W'∧Below w0.heap.size W1 W')∨(e=.returned (.bool false)∧Jx (pre++[x]) W')):=hY;have HW:Hid (Below w0.heap.size w0 W):=hW;have H0:Hid (J [] W):=h0;clear hA hr hJ hY hW h0;refine callsIn_of_wp Tryz.func165 rfl h71 ?_ hro;simp only[Tryz.ntmps165,List.size_toArray,List.length_cons,List.length_nil,Nat.reduceAdd,Nat.reduceSub,Array.replicate_succ,Array.replicate_zero,List.push_toArray,List.append_toArray,List.nil_append,List.cons_append]
 gi_wp2
 gi_loopw [10] (fun i wr=>∃k:Nat,k≤p.steps.length∧i=.int .i64 k∧Hid (∃pre:List (XT A w0 p),pre.map XT.tst=(p.steps.take k).flatMap (·.tests)∧J pre wr)∧Hid (Below w0.heap.size w0 wr))
  (fun i _=>p.steps.length-(intOf i).toNat)
 case atStart=>exact⟨0,Nat.zero_le _,rfl,⟨[],by simp,H0.out⟩,HW⟩
 case round=>
  obtain⟨k,hk,rfl,HP,HB⟩:=hrel
  by_cases hlt:k<p.steps.length
  ·obtain⟨-,b,o,rfl,hc⟩:=qaf.at HR.out (by omega);obtain⟨vt,m0,m1,rt⟩:=hc k hlt;replace m0:=qab HB.out m0;replace m1:=qab HB.out m1;obtain⟨at_,ct,rfl⟩:=rt.form;have ft:=rt.fit;unfold maxLen at ft;have i1:(0:Int)≤(k:Int):=by omega
   have i2:(k:Int)<(p.steps.length:Int):=by omega
   have HPRE:Hid (∀j (hj:j<p.steps[k].tests.length),((p.steps.take k).flatMap (·.tests)++p.steps[k].tests.take j++[p.steps[k].tests[j]])<+:p.tests):=fun j hj=>steps_pref hlt hj
   have HNXT:Hid ((p.steps.take (k+1)).flatMap (·.tests)=(p.steps.take k).flatMap (·.tests)++p.steps[k].tests):=steps_next hlt;have HRT:Hid (qaf (qaF A) 6 w0 (.slice at_ p.steps[k].tests.length ct) p.steps[k].tests):=rt;clear hc rt;generalize p.steps[k]=st at *;have hbs:=qac wr (.cells #[.string ⟨st.tag.toArray⟩,.slice at_ st.tests.length ct] 67);have HB1:Hid (Below w0.heap.size w0 (wr.alloc (.cells #[.string ⟨st.tag.toArray⟩,.slice at_ st.tests.length ct] 67))):=qaa HB.out hbs
   have HP1:Hid (∃pre:List (XT A w0 p),pre.map XT.tst=(p.steps.take k).flatMap (·.tests)∧J pre (wr.alloc (.cells #[.string ⟨st.tag.toArray⟩,.slice at_ st.tests.length ct] 67))):=by
    obtain⟨pre,h1,h2⟩:=HP.out;exact⟨pre,h1,HJ.out _ _ _ h2⟩
   clear hbs HP
   gi_wp2
   gi_loopw [17] (fun i wr=>∃j:Nat,j≤st.tests.length∧i=.int .i64 j∧Hid (∃pre:List (XT A w0 p),pre.map XT.tst=(p.steps.take k).flatMap (·.tests)++st.tests.take j∧J pre wr)∧Hid (Below w0.heap.size w0 wr))
    (fun i _=>st.tests.length-(intOf i).toNat)
   case atStart=>
    obtain⟨pre,h1,h2⟩:=HP1.out;exact⟨0,Nat.zero_le _,rfl,⟨pre,by simpa using h1,h2⟩,HB1⟩
   case round=>
    obtain⟨j,hj,rfl,HP2,HB2⟩:=hrel
    by_cases hlt2:j<st.tests.length
    ·obtain⟨-,b3,o3,rfl,hc3⟩:=qaf.at HRT.out (by omega);obtain⟨vu,q0,q1,q2,q3,q4,q5,rl⟩:=hc3 j hlt2;replace q0:=qab HB2.out q0;replace q1:=qab HB2.out q1;replace q2:=qab HB2.out q2;replace q3:=qab HB2.out q3;replace q4:=qab HB2.out q4;replace q5:=qab HB2.out q5;obtain⟨au,cu,rfl,-⟩:=HA.out.form rl;have j1:(0:Int)≤(j:Int):=by omega
     have j2:(j:Int)<(st.tests.length:Int):=by omega
     have HPJ:Hid (((p.steps.take k).flatMap (·.tests)++st.tests.take j++[st.tests[j]])<+:p.tests):=HPRE.out j hlt2;have HNJ:Hid (st.tests.take (j+1)=st.tests.take j++[st.tests[j]]):=List.take_succ_eq_append_getElem hlt2;have HX:Hid (TstV A w0 (.agg #[.int .i64 st.tests[j].kind,.string ⟨st.tests[j].name.toArray⟩,.string ⟨st.tests[j].value.toArray⟩,.int .i64 st.tests[j].a,.int .i64 st.tests[j].b,.slice au st.tests[j].list.length cu]) st.tests[j]):=⟨_,rfl,rl⟩
     clear hc3 rl;generalize st.tests[j]=t at *;obtain⟨pre,hp1,hp2⟩:=HP2.out;have hbt:=qac wr (.cells #[.int .i64 t.kind,.string ⟨t.name.toArray⟩,.string ⟨t.value.toArray⟩,.int .i64 t.a,.int .i64 t.b,.slice au t.list.length cu] 71);have HB3:Hid (Below w0.heap.size w0 (wr.alloc (.cells #[.int .i64 t.kind,.string ⟨t.name.toArray⟩,.string ⟨t.value.toArray⟩,.int .i64 t.a,.int .i64 t.b,.slice au t.list.length cu] 71))):=qaa HB2.out hbt
     obtain⟨fn,tmps,assign,body,hy,hR⟩:=HY.out pre ⟨(_,t),HX.out,HPJ.out.subset (by simp)⟩ (wr.alloc (.cells #[.int .i64 t.kind,.string ⟨t.name.toArray⟩,.string ⟨t.value.toArray⟩,.int .i64 t.a,.int .i64 t.b,.slice au t.list.length cu] 71)) (HJ.out _ _ _ hp2) (by
      have h1:=HPJ.out.length_le;have h2:=congrArg List.length hp1;simp only[List.length_map,List.length_append,List.length_cons,List.length_nil]at h1 h2
      omega)
     dsimp only at hy;have HP3:Hid (pre.map XT.tst=(p.steps.take k).flatMap (·.tests)++st.tests.take j):=hp1;have HRR:Hid (RoundIn _ _ _ _ _ _ _ _ _ _):=hR;clear hbt HP2 hp1 hp2 hR
     gi_wp2
     refine HRR.out.mono ?_;rintro e W3 (⟨rfl,hJ3,hk3⟩|⟨rfl,hJx3⟩)
     ·have HP4:Hid (∃pre:List (XT A w0 p),pre.map XT.tst=(p.steps.take k).flatMap (·.tests)++st.tests.take (j+1)∧J pre W3):=⟨_,by rw[HNJ.out,List.map_append,HP3.out];simp[XT.tst],hJ3⟩
      have HB4:Hid (Below w0.heap.size w0 W3):=HB3.out.trans hk3;clear hJ3 hk3
      gi_wp2
      go_roundw
      case rel=>exact⟨j+1,by omega,by simp,HP4,HB4⟩
      case measure=>simp[intOf];omega
     ·have HP4:Hid (∃pre:List (XT A w0 p),pre.map XT.tst<+:p.tests∧Jx pre W3):=⟨_,by rw[List.map_append,HP3.out];simpa [XT.tst] using HPJ.out,hJx3⟩
      clear hJx3
      gi_wp2
      refine bodyPost_ret (results_none rfl _ _ _) rfl ?_;exact⟨⟨_,rfl⟩,.inr HP4.out⟩
    ·have HP3:Hid (∃pre:List (XT A w0 p),pre.map XT.tst=(p.steps.take (k+1)).flatMap (·.tests)∧J pre wr):=by
      obtain⟨pre,h1,h2⟩:=HP2.out;exact⟨pre,by rw[HNXT.out,h1,List.take_of_length_le (l:=st.tests) (i:=j) (by omega)],h2⟩
     gi_wp2
     go_roundw
     case rel=>exact⟨k+1,by omega,by simp,HP3,HB2⟩
     case measure=>simp[intOf];omega
  ·have HD:Hid (∃ys:List (XT A w0 p),ys.map XT.tst=p.tests∧J ys wr):=by
    obtain⟨pre,h1,h2⟩:=HP.out;exact⟨pre,by rw[h1,List.take_of_length_le (by omega)];rfl,h2⟩
   gi_wp2
   go_end0;exact⟨⟨_,rfl⟩,.inl HD.out⟩
theorem qeV (F:Fence)(n:Nat)(h51:F.fn 127)(hro:F.round=none)(v u:Value)(w:World):
 CallsIn F n Tryz.prog 127 #[.agg #[v,u]] w fun e w'=>e=.returned (.func (.func 165) #[] #[.pointer (some ⟨w.heap.size,0,none⟩)])∧w'=w.alloc (.cells #[v,u] 64):=by
 refine callsIn_of_wp Tryz.func127 rfl h51 ?_ hro;simp only[Tryz.ntmps127,List.size_toArray,List.length_cons,List.length_nil,Nat.reduceAdd,Nat.reduceSub,Array.replicate_succ,Array.replicate_zero,List.push_toArray,List.append_toArray,List.nil_append,List.cons_append]
 gi_wp2
 go_ret;exact⟨rfl,rfl⟩
theorem qcJ (F:Fence)(n:Nat)(h71:F.fn 165)(hro:F.round=none)(hn:1≤n){α:Type}{A:MemL α}(hA:IsL A)(Bs:Nat)(w0:World)(p:Pl.Pth α)(vs:Value)(w:World)(hw:Below w0.heap.size w0 w)(hBs:Bs<w.heap.size)
 (hc:w.cell? ⟨Bs,0,none⟩=some vs) (hr:qaf (qa3 A) 2 w0 vs p.steps):
 SeqStopsK F n Tryz.prog 165 #[.pointer (some ⟨Bs,0,none⟩)] (fun x:XT A w0 p=> #[x.1.1]) (Below w0.heap.size) (fun ys=>ys.map XT.tst=p.tests) (fun pre=>pre.map XT.tst<+:p.tests) p.tests.length w:=fun l J Jx W hW hJ _ hY h0=>
 tests1_in F n h71 hro hn l Bs hA w0 p vs J Jx W hJ hY (hw.trans (hW.mono hw.size)) ((hW.cell (p:=⟨Bs,0,none⟩) hBs).trans hc) hr h0
attribute [local go_sem] Oper.semAt_some
theorem qgG (k:Int)(w:World):Calls Tryz.prog 129 #[.int .i64 k] w fun e w'=>e=.returned (.bool (Pl.qbB k))∧w'=w:=by
 by_cases h1:1≤k
 ·by_cases h2:k≤4
  ·have HI:Hid (Pl.qbB k=true):=by simp[Hid,Pl.qbB,h1,h2]
   go_enter Tryz.func129,Tryz.ntmps129;go_wp2;go_ret;exact⟨by rw[HI.out];simp,rfl⟩
  ·have HI:Hid (Pl.qbB k=false):=by simp[Hid,Pl.qbB,h2]
   go_enter Tryz.func129,Tryz.ntmps129;go_wp2;go_ret;exact⟨by rw[HI.out];simp,rfl⟩
 ·have HI:Hid (Pl.qbB k=false):=by simp[Hid,Pl.qbB,h1]
  go_enter Tryz.func129,Tryz.ntmps129;go_wp2;go_ret;exact⟨by rw[HI.out];rfl,rfl⟩
theorem qd3 (k:Int)(w:World):Calls Tryz.prog 130 #[.int .i64 k] w fun e w'=>e=.returned (.bool (Pl.isKind k))∧w'=w:=by
 by_cases h1:1≤k
 ·by_cases h2:k≤15
  ·have HI:Hid (Pl.isKind k=true):=by simp[Hid,Pl.isKind,h1,h2]
   go_enter Tryz.func130,Tryz.ntmps130;go_wp2;go_ret;exact⟨by rw[HI.out];simp,rfl⟩
  ·have HI:Hid (Pl.isKind k=false):=by simp[Hid,Pl.isKind,h2]
   go_enter Tryz.func130,Tryz.ntmps130;go_wp2;go_ret;exact⟨by rw[HI.out];simp,rfl⟩
 ·have HI:Hid (Pl.isKind k=false):=by simp[Hid,Pl.isKind,h1]
  go_enter Tryz.func130,Tryz.ntmps130;go_wp2;go_ret;exact⟨by rw[HI.out];rfl,rfl⟩
theorem qdF {α:Type}{A:MemL α}(hA:IsL A)(v u:Value)(p:Pl.Pth α)(w:World)(hs:qaf (qa3 A) 2 w v p.steps)(hl:qaf qbe 1 w u p.links):
 Calls Tryz.prog 95 #[.agg #[v,u]] w fun e w'=>e=.returned (.bool (Pl.qbh p))∧Below w.heap.size w w':=by
 obtain⟨ax,cx,rfl⟩:=hs.form;obtain⟨al,cl,rfl⟩:=hl.form;have fl:=hl.fit;unfold maxLen at fl;have HS:Hid (qaf (qa3 A) 2 w (.slice ax p.steps.length cx) p.steps):=hs;have HL:Hid (qaf qbe 1 w (.slice al p.links.length cl) p.links):=hl;have HA:Hid (IsL A):=hA;have hB0:Below w.heap.size w ((w.alloc (.cells #[.slice ax p.steps.length cx,.slice al p.links.length cl] 64)).alloc (.cells #[.bool false] 4)):=((Below.refl _ w).alloc (Nat.le_refl _) _).alloc (by simp) _;obtain⟨b0,b1⟩:=Blk2p.new w (.slice ax p.steps.length cx) (.slice al p.links.length cl);have c0:=qab (qac _ (.cells #[.bool false] 4)) b0;have c1:=qab (qac _ (.cells #[.bool false] 4)) b1;have bR:=Boxed.new (w.alloc (.cells #[.slice ax p.steps.length cx,.slice al p.links.length cl] 64)) 4 (.bool false);simp only[World.size_alloc]at bR;clear hs hl hA b0 b1;refine(callsIn_wide (n:=6)).1 ?_;have h1:1≤6:=by omega
 refine callsIn_of_wp_marks Tryz.func95 rfl trivial ?_ rfl;simp only[Tryz.ntmps95,List.size_toArray,List.length_cons,List.length_nil,Nat.reduceAdd,Nat.reduceSub,Array.replicate_succ,Array.replicate_zero,List.push_toArray,List.append_toArray,List.nil_append,List.cons_append]
 gi_wp2
 have HBR:Hid (Boxed _ _ _ _):=bR;have HB0:Hid (Below _ _ _):=hB0;clear bR hB0;generalize (w.alloc (.cells #[.slice ax p.steps.length cx,.slice al p.links.length cl] 64)).alloc (.cells #[.bool false] 4)=W1 at *
 gi_loopw [9] (fun i wr=>∃k:Nat,k≤p.links.length∧i=.int .i64 k∧Hid ((p.links.take k).all Pl.qbB=true)∧wr=W1) (fun i _=>p.links.length-(intOf i).toNat)
 case atStart=>exact⟨0,Nat.zero_le _,rfl,by simp[Hid],rfl⟩
 case round=>
  obtain⟨k,hk,rfl,HT,rfl⟩:=hrel
  by_cases hlt:k<p.links.length
  ·obtain⟨-,b2,o2,rfl,hc2⟩:=qaf.at HL.out (by omega);have m0:wr.cell? ⟨b2,o2+k,none⟩=some (.int .i64 p.links[k]):=by simpa [qbe] using qab HB0.out (hc2 k hlt)
   have k1:(0:Int)≤(k:Int):=by omega
   have k2:(k:Int)<(p.links.length:Int):=by omega
   have HBAD2:Hid (Pl.qbB p.links[k]=false→Pl.qbh p=false):=fun h=>by unfold Pl.qbh;rw[qbC hlt h];rfl
   have HOK2:Hid (Pl.qbB p.links[k]=true→(p.links.take (k+1)).all Pl.qbB=true):=fun h=>qbk hlt HT.out h
   clear hc2 HT;generalize p.links[k]=lk at *
   cases hb:Pl.qbB lk with
   | true=>
    have HK:Hid ((p.links.take (k+1)).all Pl.qbB=true):=HOK2.out hb
    gi_wp2_with (refine⟨trivial,?_⟩;gi_at_call 129;refine(callsIn_wide.2 (qgG _ _)).mono ?_;rintro e w' ⟨rfl,rfl⟩;rw[hb])
    go_roundw
    case rel=>exact⟨k+1,by omega,by simp,HK,by first|rfl|trivial⟩
    case measure=>simp[intOf];omega
   | false=>
    have HK:Hid (Pl.qbh p=false):=HBAD2.out hb;have fR:=HBR.out.frozen;have cR:=HBR.out.cell
    gi_wp2_with (refine⟨trivial,?_⟩;gi_at_call 129;refine(callsIn_wide.2 (qgG _ _)).mono ?_;rintro e w' ⟨rfl,rfl⟩;rw[hb])
    have hc5:=(HBR.out.set (.bool false)).cell;refine⟨.bool false,?_,by rw[HK.out],HB0.out.setCell (p:=⟨w.heap.size+1,0,none⟩) (by simp) _⟩;simp[results,Tryz.results95,go_sem,hc5]
  ·have HLK:Hid (p.links.all Pl.qbB=true):=qbi hlt HT.out
   have HPK:Hid (Pl.qbh p=p.tests.all fun t=>Pl.isKind t.kind):=by
    unfold Hid Pl.qbh;rw[HLK.out,Bool.true_and]
   clear HT HLK
   gi_wp2_with (refine⟨trivial,?_⟩;gi_at_call 127;refine(qeV Fence.wide _ trivial rfl _ _ _).mono ?_;rintro e w' ⟨rfl,rfl⟩)
   have hB2:Below w.heap.size w (wr.alloc (.cells #[.slice ax p.steps.length cx,.slice al p.links.length cl] 64)):=qaa HB0.out (qac _ _);have d0:=(Blk2p.new wr (.slice ax p.steps.length cx) (.slice al p.links.length cl)).1;have bR2:=HBR.out.alloc (.cells #[.slice ax p.steps.length cx,.slice al p.links.length cl] 64);have hszR:=HBR.out.lt;have hsz2:(wr.alloc (.cells #[.slice ax p.steps.length cx,.slice al p.links.length cl] 64)).heap.size=wr.heap.size+1:=by simp
   have hsz0:=HB0.out.size;generalize hW2:wr.alloc (.cells #[.slice ax p.steps.length cx,.slice al p.links.length cl] 64)=W2 at *
   refine wpIn_rangeFunc_ownH rfl h1 (gf:=165) (lb:= #[.pointer (some ⟨wr.heap.size,0,none⟩)]) rfl trivial (enters_of Tryz.func165 (by kernel_rfl) rfl)
    (qcJ Fence.wide (6-1) trivial rfl (by omega) HA.out wr.heap.size w p _ W2 hB2 (by omega) d0 HS.out) belowK_t (belowK_b (by omega)) (Below.refl _ _) (fun _=>rfl)
    (fun pre W=>(((pre.map XT.tst).all (fun t=>Pl.isKind t.kind)=true)∧Boxed W (w.heap.size+1) 4 (.bool false))∧Below w.heap.size w W)
    (fun c pre W=>((c=.ret∧(pre.map XT.tst).all (fun t=>Pl.isKind t.kind)=false)∧Boxed W (w.heap.size+1) 4 (.bool false))∧Below w.heap.size w W)
    (OwnFrom.and (OwnFrom.and (ownFrom_pure _ _) (Own.from (boxed_own _ _ _) _)) (ownFrom_below (Nat.le_refl _) (by omega)))
    (fun c=>OwnFrom.and (OwnFrom.and (ownFrom_pure _ _) (Own.from (boxed_own _ _ _) _)) (ownFrom_below (Nat.le_refl _) (by omega)))
    ⟨⟨by simp,bR2⟩,hB2⟩
    (fun x a' W=>∃Bx,w.heap.size+1<Bx∧W.cell? ⟨Bx,0,none⟩=some (.int .i64 x.1.2.kind)∧a'={ tmps:= #[.agg #[.slice ax p.steps.length cx,.slice al p.links.length cl],.pointer (some ⟨w.heap.size,0,none⟩),.pointer (some ⟨w.heap.size+1,0,none⟩),undef,u4,.pointer (some ⟨Bx,0,none⟩),.pointer (some ⟨w.heap.size,1,none⟩),.slice al p.links.length cl,.int .i64 p.links.length,.int .i64 k,.bool false,u11,u12,u13,u14,u15,u16,.agg #[.slice ax p.steps.length cx,.slice al p.links.length cl],.func (.func 165) #[] #[.pointer (some ⟨wr.heap.size,0,none⟩)],x.1.1,undef,undef,undef,undef],defers:=[] })
    (fun x a' _ X Y row hs hg hr=>by obtain⟨Bx,h1,h2,h3⟩:=hs;exact⟨Bx,h1,cell_kept h2 hg (fun r e=>(hr r e).2),h3⟩)
    ?assign ?body ?done ?stop
   case assign=>
    rintro l pre x W K ⟨⟨hp,hbx⟩,hB⟩ hK;obtain⟨lv,hx,hal⟩:=x.2.1;obtain⟨au,cu,rfl,-⟩:=HA.out.form hal;have HXX:Hid _:=hx;dsimp only;rw[hx];clear hx hal
    gi_wp2
    exact hK _ _ ((KeepsOthers.alloc _ _).from _) ((Below.refl _ W).alloc hB.size _) ⟨⟨hp,hbx.alloc _⟩,hB.alloc hB.size _⟩ ⟨W.heap.size,hbx.lt,(Blk6p.new W _ _ _ _ _ _).1,by rw[HXX.out]⟩
   case body=>
    rintro l pre x a' W hl hr ⟨⟨hp,hbx⟩,hB⟩ ⟨Bx,hBx,hcx,rfl⟩ hlt;have fR:=hbx.frozen;have cR:=hbx.cell;obtain⟨kd,hkd⟩:∃y,x.1.2.kind=y:=⟨_,rfl⟩
    rw[hkd]at hcx;have HKD:Hid (x.tst.kind=kd):=hkd;clear hkd;generalize x.1.1=xv;have h1':1≤6-1-1:=by omega
    cases hb:Pl.isKind kd with
    | true=>
     gi_wp2_with (refine⟨trivial,?_⟩;gi_at_call 130;refine(CallsIn.inRound l (callsIn_wide.2 (qd3 _ _))).mono ?_;rintro e w' ⟨rfl,rfl⟩;rw[hb])
     exact⟨(KeepsOthers.refl _).from _,Below.refl _ _,⟨by rw[List.map_append,List.all_append,hp];simp[HKD.out,hb],hbx⟩,hB⟩
    | false=>
     gi_wp2_with (refine⟨trivial,?_⟩;gi_at_call 130;refine(CallsIn.inRound l (callsIn_wide.2 (qd3 _ _))).mono ?_;rintro e w' ⟨rfl,rfl⟩;rw[hb])
     exact⟨(KeepsOthers.setCell _ _ _).from _,⟨⟨rfl,by rw[List.map_append,List.all_append];simp[HKD.out,hb]⟩,hbx.set _⟩,hB.setCell (p:=⟨w.heap.size+1,0,none⟩) (by simp) _⟩
   case done=>
    rintro D ys W hD hys ⟨⟨hp,hbx⟩,hB⟩ hK;have fR:=hbx.frozen;have cR:=hbx.cell;rw[hys]at hp
    gi_wp2
    have hK':=(KeepsOthers.setCell W ⟨w.heap.size+1,0,none⟩ (.bool true)).same D _ hK rfl;refine⟨by simp,.inl ⟨_,_,rfl,run_takeDeferred hK',?_⟩⟩;have hc5:=cell_kept (hbx.set (.bool true)).cell (grownBy_putObj' _ D (.deferred none)) (fun r e=>by cases e;exact⟨_,hK',rfl⟩);refine⟨.bool true,?_,by rw[HPK.out,hp],(hB.setCell (p:=⟨w.heap.size+1,0,none⟩) (by simp) _).trans (belowK_b (w:=w) (Nat.le_refl _) _ D _ _ (by omega) hK' rfl rfl)⟩;simp[results,Tryz.results95,go_sem,hc5]
   case stop=>
    rintro D c pre W hD hpre ⟨⟨⟨rfl,hp⟩,hbx⟩,hB⟩ hK
    gi_wp2
    refine⟨by simp,.inl ⟨_,_,rfl,run_takeDeferred hK,?_⟩⟩;have hc5:=cell_kept hbx.cell (grownBy_putObj' _ D (.deferred none)) (fun r e=>by cases e;exact⟨_,hK,rfl⟩)
    have hno:(p.tests.all fun t=>Pl.isKind t.kind)=false:=by
     obtain⟨rest,hrest⟩:=hpre;rw[←hrest,List.all_append,hp];rfl
    refine⟨.bool false,?_,by rw[HPK.out,hno],hB.trans (belowK_b (w:=w) (Nat.le_refl _) W D _ _ (by omega) hK rfl rfl)⟩;simp[results,Tryz.results95,go_sem,hc5]
end Go.Proofs.YtephhllfodlfbaaGreatDoor
