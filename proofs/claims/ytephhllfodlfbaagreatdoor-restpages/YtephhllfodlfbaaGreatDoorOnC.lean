/-
  The document's own sameness: paths.
-/
import Derived.Test.YtephhllfodlfbaaGreatDoorDsD
import Derived.Test.YtephhllfodlfbaaGreatDoorIdxS
set_option maxRecDepth 100000
set_option maxHeartbeats 16000000
namespace Go.Proofs.YtephhllfodlfbaaGreatDoor
open Go.RowKit
theorem dSameP_any {α:Type}[DecidableEq α]{A:MemL α}(hA:IsL A)(ok:Pl.Stp α→Prop)(hH:∀(W:World) (x y:Value) (t s:Pl.Stp α),StpV A W x t→StpV A W y s→ok t→ok s→Calls Tryz.prog 111 #[x,y] W fun e w'=>e=.returned (.bool (sm t s))∧Below W.heap.size W w')
 (w:World) (vx vy:Value) (p1 p2:Pl.Pth α) (h1:PthV A w vx p1) (h2:PthV A w vy p2) (o1:∀t∈p1.steps,ok t) (o2:∀t∈p2.steps,ok t):Calls Tryz.prog 55 #[vx,vy] w fun e w'=>e=.returned (.bool (sm p1 p2))∧Below w.heap.size w w':=by
 obtain⟨l,k1⟩:=p1;obtain⟨m,k2⟩:=p2;obtain⟨v1,u1,rfl,h1,z1⟩:=h1;obtain⟨v2,u2,rfl,h2,z2⟩:=h2;dsimp only at *;have hl:=h1.fit;unfold maxLen at hl;obtain⟨a1,c1,rfl,-,h1⟩:=h1;obtain⟨a2,c2,rfl,-,h2⟩:=h2;obtain⟨b1,f1,rfl⟩:=z1.form;obtain⟨b2_,f2_,rfl⟩:=z2.form;have H1:Hid _:=h1;have H2:Hid _:=h2;have HH:Hid _:=hH;have O1:Hid _:=o1;have O2:Hid _:=o2;have hb:Below w.heap.size w ((w.alloc (.cells #[.slice a1 l.length c1,.slice b1 k1.length f1] 64)).alloc (.cells #[.slice a2 m.length c2,.slice b2_ k2.length f2_] 64)):=((Below.refl _ w).alloc (Nat.le_refl _) _).alloc (by simp) _;have HB:Hid (Below w.heap.size w ((w.alloc (.cells #[.slice a1 l.length c1,.slice b1 k1.length f1] 64)).alloc (.cells #[.slice a2 m.length c2,.slice b2_ k2.length f2_] 64))):=hb;have HX1:Hid (((w.alloc (.cells #[.slice a1 l.length c1,.slice b1 k1.length f1] 64)).alloc (.cells #[.slice a2 m.length c2,.slice b2_ k2.length f2_] 64)).heap[w.heap.size]? =some (.cells #[.slice a1 l.length c1,.slice b1 k1.length f1] 64)):=hblk (heap_alloc_new w _) (qac _ _)
 have HX2:Hid (((w.alloc (.cells #[.slice a1 l.length c1,.slice b1 k1.length f1] 64)).alloc (.cells #[.slice a2 m.length c2,.slice b2_ k2.length f2_] 64)).heap[w.heap.size+1]? =some (.cells #[.slice a2 m.length c2,.slice b2_ k2.length f2_] 64)):=by
  have h1:=heap_alloc_new (w.alloc (.cells #[.slice a1 l.length c1,.slice b1 k1.length f1] 64)) (.cells #[.slice a2 m.length c2,.slice b2_ k2.length f2_] 64);unfold Hid
  simpa using h1
 have HC:Hid (Calls Tryz.prog 13 _ _ _):=dSameI_any _ _ k1 k2 ((w.alloc (.cells #[.slice a1 l.length c1,.slice b1 k1.length f1] 64)).alloc (.cells #[.slice a2 m.length c2,.slice b2_ k2.length f2_] 64)) (z1.map fun _ _ _ hx=>qab hb hx) (z2.map fun _ _ _ hx=>qab hb hx);clear h1 h2 hH o1 o2 hb z1 z2
 by_cases hlen:l.length=m.length
 case neg=>
  have hle:((l.length:Int)==(m.length:Int))=false:=by simp;omega
  have hle2:((l.length:Int) !=(m.length:Int))=true:=by simp;omega
  have HF:Hid (sm (⟨l,k1⟩:Pl.Pth α) ⟨m,k2⟩=false):=qbP fun e=>hlen (by injection e with e _;rw[e])
  clear HC;go_enter Tryz.func55,Tryz.ntmps55;go_wp2;go_ret;exact⟨by rw[HF.out];rfl,HB.out⟩
 have hle:((l.length:Int)==(m.length:Int))=true:=by simp;omega
 have hle2:((l.length:Int) !=(m.length:Int))=false:=by simp;omega
 have HLn:Hid (l.length=m.length):=hlen;clear hlen
 by_cases hk:k1=k2
 case neg=>
  have HF:Hid (sm (⟨l,k1⟩:Pl.Pth α) ⟨m,k2⟩=false):=qbP fun e=>hk (by injection e)
  rw[qbP hk]at HC;clear hk;go_enter Tryz.func55,Tryz.ntmps55
  go_wp2_with fail
  refine HC.out.mono ?_;rintro e w3 ⟨rfl,hb3⟩;have HB3:Hid (Below w.heap.size w w3):=qaa HB.out hb3;clear hb3;go_wp2;go_ret;exact⟨by rw[HF.out];rfl,HB3.out⟩
 ·have hsm:sm (⟨l,k1⟩:Pl.Pth α) ⟨m,k2⟩=sm l m:=by unfold sm;simp[hk]
  rw[hsm];have hkk:sm k1 k2=true:=decide_eq_true hk;rw[hkk]at HC;clear hsm hk hkk;go_enter Tryz.func55,Tryz.ntmps55
  go_wp2_with fail
  refine HC.out.mono ?_;rintro e w3 ⟨rfl,hb3⟩;have HST:Hid (Below ((w.alloc (.cells #[.slice a1 l.length c1,.slice b1 k1.length f1] 64)).alloc (.cells #[.slice a2 m.length c2,.slice b2_ k2.length f2_] 64)).heap.size ((w.alloc (.cells #[.slice a1 l.length c1,.slice b1 k1.length f1] 64)).alloc (.cells #[.slice a2 m.length c2,.slice b2_ k2.length f2_] 64)) w3):=hb3;clear hb3 HC;generalize (w.alloc (.cells #[.slice a1 l.length c1,.slice b1 k1.length f1] 64)).alloc (.cells #[.slice a2 m.length c2,.slice b2_ k2.length f2_] 64)=W2 at *;go_wp2;clear hle hle2
  go_loopw [5] (fun i wr=>∃k:Nat,k≤l.length∧i=.int .i64 k∧Hid (l.take k=m.take k)∧Hid (Below W2.heap.size W2 wr)) (fun i _=>l.length-(intOf i).toNat)
  case atStart=>exact⟨0,Nat.zero_le _,rfl,by simp[Hid],HST.out⟩
  case round=>
   obtain⟨k,hk,rfl,ht,hD2⟩:=hrel;have hD:=qaa HB.out hD2.out;have y1:=(f2 (hblk HX1.out hD2.out)).1;have y2:=(f2 (hblk HX2.out hD2.out)).1;have y1d:wr.drew.cell? _=_:=y1;have y2d:wr.drew.cell? _=_:=y2
   by_cases hlt:k<l.length
   ·have hlt2:k<m.length:=by have:=HLn.out;omega
    rcases H1.out with h0|⟨b,o,rfl,hc⟩
    ·subst h0;simp at hlt
    rcases H2.out with h0|⟨b2,o2,rfl,hc2⟩
    ·subst h0;simp at hlt2
    have hDd:=hD.drew;have e1:=hc k hlt;have e2:=hc2 k hlt2;have x1:=O1.out l[k] (List.getElem_mem hlt);have x2:=O2.out m[k] (List.getElem_mem hlt2);have i1:(0:Int)≤(k:Int):=by omega
    have i2:(k:Int)<(l.length:Int):=by omega
    have i3:(k:Int)<(m.length:Int):=by omega
    have HT:Hid (l[k]=m[k]→l.take (k+1)=m.take (k+1)):=fun he=>qcW hlt hlt2 ht.out he
    have HF:Hid (l[k]≠m[k]→sm l m=false):=by
     intro he;refine qbP fun e=>?_
     subst e;exact he rfl
    have HDd:Hid (Below w.heap.size w wr.drew):=hDd;have HD2:Hid (Below W2.heap.size W2 wr.drew):=hD2.out.drew;clear hc hc2 ht;generalize l[k]=x at *;generalize m[k]=y at *;obtain⟨vn,n0,n1,n6⟩:=qa3.on hA e1 hDd;obtain⟨an,dn,rfl⟩:=n6.form;have Nn:Hid (qaf (qaF A) 6 _ _ _):=n6;clear n6;obtain⟨vp,p0,p1,p6⟩:=qa3.on hA e2 hDd;obtain⟨ap,dp,rfl⟩:=p6.form;have Np:Hid (qaf (qaF A) 6 _ _ _):=p6;clear p6;have X1:Hid (ok x):=x1;have X2:Hid (ok y):=x2;clear hDd x1 x2 hD
    cases hq:sm x y with
    | false=>
     have HF2:Hid (sm l m=false):=HF.out (qbW hq);go_wp2
     go_region_law (go_simp;go_at_call 111;refine(HH.out _ _ _ x y (⟨_,rfl,Nn.out⟩) (⟨_,rfl,Np.out⟩) X1.out X2.out).mono ?_;rw[hq];rintro e w4 ⟨rfl,hb4⟩)
     all_goals
      have HB4:Hid (Below w.heap.size w w4):=qaa HDd.out hb4;go_wp2;go_ret;exact⟨by rw[HF2.out];rfl,HB4.out⟩
    | true=>
     have HT2:Hid (l.take (k+1)=m.take (k+1)):=HT.out (qcu hq);go_wp2
     go_region_law (go_simp;go_at_call 111;refine(HH.out _ _ _ x y (⟨_,rfl,Nn.out⟩) (⟨_,rfl,Np.out⟩) X1.out X2.out).mono ?_;rw[hq];rintro e w4 ⟨rfl,hb4⟩)
     all_goals
      have HB4:Hid (Below W2.heap.size W2 w4):=qaa HD2.out hb4;go_wp2;exact⟨⟨k+1,hlt,by go_num,HT2,HB4⟩,by simp[intOf];omega⟩
   ·have HT:Hid (sm l m=true):=by
     have:=ht.out;rw[List.take_of_length_le (by omega),List.take_of_length_le (by have:=HLn.out;omega)]at this;rw[this];exact qef m
    have HDw:Hid _:=hD;clear hD;go_wp2;go_ret;exact⟨by rw[HT.out];rfl,HDw.out⟩
def LF:Pl.Lev Unit:=⟨fun _=>[],fun _=>none,fun _=>0,fun _=>False⟩
theorem isLev_F:Pl.qcR LF:=⟨fun h=>h.elim,fun h=>h.elim,fun h=>h.elim⟩
theorem okL_of {α:Type}{W:List α→Prop}{f g:List α→Bool}(h0:W [])(hfg:∀l,f l=true→g l=true→W l){l:List (Pl.Pth α)}(hf:Pl.qbd f l=true)(hg:Pl.evUp (Pl.qc7 Pl.qaj Pl.qao) g l=true):Pl.okL W l:=by
 rw[fit_eq,Bool.and_eq_true,List.all_eq_true,decide_eq_true_eq]at hf;unfold Pl.evUp at hg;rw[List.all_eq_true]at hg;refine⟨hf.1.2,fun p hp=>?_⟩;have h1:=hf.2 p hp;unfold fitP at h1;rw[Bool.and_eq_true,List.all_eq_true,decide_eq_true_eq]at h1;have h2:=hg p hp;rw[Bool.and_eq_true]at h2;obtain⟨h3,h4⟩:=h2;unfold Pl.qc7 at h3;rw[Bool.and_eq_true,List.all_eq_true,List.all_eq_true]at h3;unfold Pl.inner at h4;rw[List.all_eq_true]at h4;refine⟨h1.1.1,h1.1.2.1,by have:=h1.1.2.2;have:=h1.1.2.1;omega,fun s hs=>?_⟩;have h5:=h1.2 s hs;unfold fitS at h5;rw[Bool.and_eq_true,List.all_eq_true,decide_eq_true_eq]at h5;refine⟨h5.1,fun t ht=>?_⟩;have hmem:t∈p.tests:=by unfold Pl.Pth.tests;exact List.mem_flatMap.2 ⟨s,hs,ht⟩
 have h6:=h5.2 t ht;have h7:=h4 t hmem;have h8:=h3.2 t hmem;unfold fitT at h6;unfold Pl.qcq at h8;rw[Bool.and_eq_true]at h8
 cases hk:Pl.qbb t.kind with
 | true=>
  rw[hk]at h6 h7;exact hfg _ (by simpa using h6) (by simpa using h7)
 | false=>
  have h9:=h8.2;rw[hk,Bool.false_or,decide_eq_true_eq]at h9;rw[List.length_eq_zero_iff.1 h9];exact h0
theorem W3_of {l:List Pl.D3}(h:qbs l=0):Pl.W3 l:=by
 unfold qbs Pl.pick4 at h
 have hf:Pl.fit3 l=true:=by
  cases hq:Pl.fit3 l with
  | true=>rfl
  | false=>rw[hq]at h;simp at h
 have hg:Pl.qeK l=true:=by
  cases hq:Pl.qeK l with
  | true=>rfl
  | false=>
   rw[hq,hf]at h
   revert h
   cases Pl.kind3 l<;>simp
 have n1:Pl.L1.W []:=⟨by simp,fun p hp=>by simp at hp⟩
 have n2:Pl.L2.W []:=⟨by simp,fun p hp=>by simp at hp⟩
 have w1:∀l:List Pl.D1,Pl.qbd (fun _=>false) l=true→Pl.evUp (Pl.qc7 Pl.qaj Pl.qao) (fun _=>true) l=true→Pl.L1.W l:=fun l h1 h2=>okL_of (W:=Pl.L0.W) rfl (fun _ h _=>by cases h) h1 h2
 have w2:∀l:List Pl.D2,Pl.qbd (Pl.qbd fun _=>false) l=true→Pl.evUp (Pl.qc7 Pl.qaj Pl.qao) (Pl.evUp (Pl.qc7 Pl.qaj Pl.qao) fun _=>true) l=true→Pl.L2.W l:=fun l h1 h2=>okL_of (W:=Pl.L1.W) n1 w1 h1 h2
 exact okL_of (W:=Pl.L2.W) n2 w2 hf hg
def qbL (l:List Pl.D3):List Pl.D3:=if qbs l=0 then Pl.qbo l else []
def Uni {α:Type}(A:MemL α):Prop:=∀(w:World) (v:Value) (l m:List α),A w v l→A w v m→l=m
theorem uni_z:Uni ZAt:=by
 rintro w v l m ⟨a,c,e,-⟩ ⟨a',c',e',-⟩;rw[e]at e';injection e' with _ e2 _;exact List.ext_getElem e2 fun _ _ _=>rfl
theorem qhf {β:Type}{E:World→Nat→Nat→β→Prop}{k:Nat}(hE:∀w b o x y,E w b o x→E w b o y→x=y)(w:World)(v:Value)(l m:List β)(h:qaf E k w v l)(h2:qaf E k w v m):l=m:=by
 obtain⟨a,c,e,-,hc⟩:=h;obtain⟨a',c',e',-,hc'⟩:=h2;rw[e]at e';injection e' with e1 e2 _;subst e1
 rcases hc with rfl|⟨b,o,e3,hc⟩
 ·exact(List.length_eq_zero_iff.1 (by simpa using e2.symm)).symm
 rcases hc' with rfl|⟨b',o',e4,hc'⟩
 ·exact List.length_eq_zero_iff.1 (by simpa using e2)
 rw[e3]at e4;injection e4 with e4;injection e4 with e5 e6 _;subst e5 e6;exact List.ext_getElem e2 fun i h1 h2=>hE w b _ _ _ (hc i h1) (hc' i h2)
theorem str_inj {s t:List UInt8}(h:some (Value.string ⟨s.toArray⟩)=some (Value.string ⟨t.toArray⟩)):s=t:=by
 injection h with h;injection h with h;injection h with h
 simpa using h
theorem int_inj {s t:Int}(h:some (Value.int .i64 s)=some (Value.int .i64 t)):s=t:=by
 injection h with h;injection h
theorem uni_up {α:Type}{A:MemL α}(hA:Uni A):Uni (qbp A):=fun w v l m=>qhf (fun w b o p q hp hq=>by
 obtain⟨v,u,p0,p1,p2,p3⟩:=hp;obtain⟨v',u',q0,q1,q2,q3⟩:=hq;rw[p0]at q0;injection q0 with q0;subst q0;rw[p1]at q1;injection q1 with q1;subst q1
 have e1:p.steps=q.steps:=qhf (fun w b o s r hs hr=>by
  obtain⟨v,s0,s1,s2⟩:=hs;obtain⟨v',r0,r1,r2⟩:=hr;rw[s1]at r1;injection r1 with r1;subst r1;rw[s0]at r0;have e0:=str_inj r0
  have e1:s.tests=r.tests:=qhf (fun w b o t y ht hy=>by
   obtain⟨v,t0,t1,t2,t3,t4,t5,t6⟩:=ht;obtain⟨v',y0,y1,y2,y3,y4,y5,y6⟩:=hy;rw[t5]at y5;injection y5 with y5;subst y5;rw[t0]at y0;rw[t1]at y1;rw[t2]at y2;rw[t3]at y3;rw[t4]at y4;have f0:=int_inj y0;have f1:=str_inj y1;have f2:=str_inj y2;have f3:=int_inj y3;have f4:=int_inj y4;have f5:=hA _ _ _ _ t6 y6
   cases t;cases y
   dsimp only at f0 f1 f2 f3 f4 f5;subst f0 f1 f2 f3 f4 f5
   rfl) _ _ _ _ s2 r2
  cases s;cases r
  dsimp only at e0 e1;subst e0 e1
  rfl) _ _ _ _ p2 q2
 have e2:p.links=q.links:=qhf (fun w b o s r hs hr=>by
  unfold qbe at hs hr;rw[hs]at hr
  exact int_inj hr) _ _ _ _ p3 q3
 cases p;cases q
 dsimp only at e1 e2;subst e1 e2
 rfl) w v l m
theorem uni_3:Uni A3:=uni_up (uni_up (uni_up uni_z))
theorem mz_there:∃mz:Value→World→Nat,∀v w l,A3 w v l→mz v w=Pl.qcZ l:=by
 classical
 refine⟨fun v w=>if h:∃l,A3 w v l then Pl.qcZ h.choose else 0,fun v w l h=>?_⟩;have hex:∃l,A3 w v l:=⟨l,h⟩
 show (if h:∃l,A3 w v l then Pl.qcZ h.choose else 0)=_
 rw[dif_pos hex,uni_3 w v _ l hex.choose_spec h]
theorem qiG {α:Type}[DecidableEq α]{A:MemL α}(hA:IsL A)(W0:List α→Prop)(hS:∀(w:World) (v1 v2:Value) (l m:List α),A w v1 l→A w v2 m→W0 l→W0 m→Calls Tryz.prog 19 #[v1,v2] w fun e w'=>e=.returned (.bool (sm l m))∧Below w.heap.size w w')
 (w:World) (vx vy:Value) (x y:Pl.Tst α) (h1:TstV A w vx x) (h2:TstV A w vy y) (o1:W0 x.list) (o2:W0 y.list):Calls Tryz.prog 149 #[vx,vy] w fun e w'=>e=.returned (.bool (sm x y))∧Below w.heap.size w w':=dSameT_any hA W0 hS w vx vy x y h1 h2 o1 o2
theorem qid {α:Type}[DecidableEq α]{A:MemL α}(hA:IsL A)(W0:List α→Prop)(hS:∀(w:World) (v1 v2:Value) (l m:List α),A w v1 l→A w v2 m→W0 l→W0 m→Calls Tryz.prog 19 #[v1,v2] w fun e w'=>e=.returned (.bool (sm l m))∧Below w.heap.size w w')
 (w:World) (vx vy:Value) (x y:Pl.Pth α) (h1:PthV A w vx x) (h2:PthV A w vy y) (o1:∀s∈x.steps,∀t∈s.tests,W0 t.list) (o2:∀s∈y.steps,∀t∈s.tests,W0 t.list):Calls Tryz.prog 55 #[vx,vy] w fun e w'=>e=.returned (.bool (sm x y))∧Below w.heap.size w w':=
 dSameP_any hA (fun s=>∀t∈s.tests,W0 t.list) (fun W x y t s h1 h2 p q=>dSameS_any hA (fun t=>W0 t.list) (fun W x y t s h1 h2 p q=>qiG hA W0 hS W x y t s h1 h2 p q) W x y t s h1 h2 p q) w vx vy x y h1 h2 o1 o2
theorem qeJ {α:Type}[DecidableEq α]{A:MemL α}(hA:IsL A)(W0:List α→Prop)(hS:∀(w:World) (v1 v2:Value) (l m:List α),A w v1 l→A w v2 m→W0 l→W0 m→Calls Tryz.prog 19 #[v1,v2] w fun e w'=>e=.returned (.bool (sm l m))∧Below w.heap.size w w')
 (w:World) (v1 v2:Value) (l m:List (Pl.Pth α)) (h1:qbp A w v1 l) (h2:qbp A w v2 m) (o1:Pl.okL W0 l) (o2:Pl.okL W0 m):Calls Tryz.prog 19 #[v1,v2] w fun e w'=>e=.returned (.bool (sm l m))∧Below w.heap.size w w':=
 dSameL_any hA (fun p=>∀s∈p.steps,∀t∈s.tests,W0 t.list) (fun W x y t s h1 h2 p q=>qid hA W0 hS W x y t s h1 h2 p q) v1 v2 l m w h1 h2 (fun p hp s hs t ht=>((o1.2 p hp).2.2.2 s hs).2 t ht) (fun p hp s hs t ht=>((o2.2 p hp).2.2.2 s hs).2 t ht)
theorem dSameL_z (w:World)(v1 v2:Value)(l m:List Unit)(h1:ZAt w v1 l)(h2:ZAt w v2 m)(o1:l=[])(o2:m=[]):Calls Tryz.prog 19 #[v1,v2] w fun e w'=>e=.returned (.bool (sm l m))∧Below w.heap.size w w':=by
 subst o1 o2;obtain⟨a1,c1,rfl,h1,h1'⟩:=h1;obtain⟨a2,c2,rfl,h2,h2'⟩:=h2;exact qeJ qcP (fun _=>False) (fun _ _ _ _ _ _ _ h=>h.elim) w (.slice a1 0 c1) (.slice a2 0 c2) [] [] ⟨a1,c1,rfl,⟨h1,h1'⟩,Or.inl rfl⟩ ⟨a2,c2,rfl,⟨h2,h2'⟩,Or.inl rfl⟩ ⟨by simp,fun p hp=>by simp at hp⟩ ⟨by simp,fun p hp=>by simp at hp⟩
theorem dSameL_1 (w:World)(v1 v2:Value)(l m:List Pl.D1)(h1:A1 w v1 l)(h2:A1 w v2 m)(o1:Pl.L1.W l)(o2:Pl.L1.W m):Calls Tryz.prog 19 #[v1,v2] w fun e w'=>e=.returned (.bool (sm l m))∧Below w.heap.size w w':=
 qeJ qcP Pl.L0.W dSameL_z w v1 v2 l m h1 h2 o1 o2
theorem dSameL_2 (w:World)(v1 v2:Value)(l m:List Pl.D2)(h1:A2 w v1 l)(h2:A2 w v2 m)(o1:Pl.L2.W l)(o2:Pl.L2.W m):Calls Tryz.prog 19 #[v1,v2] w fun e w'=>e=.returned (.bool (sm l m))∧Below w.heap.size w w':=
 qeJ qdA Pl.L1.W dSameL_1 w v1 v2 l m h1 h2 o1 o2
theorem qg7 (w:World)(v1 v2:Value)(l m:List Pl.D3)(h1:A3 w v1 l)(h2:A3 w v2 m)(o1:Pl.L3.W l)(o2:Pl.L3.W m):Calls Tryz.prog 19 #[v1,v2] w fun e w'=>e=.returned (.bool (sm l m))∧Below w.heap.size w w':=
 qeJ qdJ Pl.L2.W dSameL_2 w v1 v2 l m h1 h2 o1 o2
def DPlC {α:Type}(A:MemL α)(L:Pl.Lev α):Prop:=∀(w:World) (v:Value) (l:List α),A w v l→L.W l→Calls Tryz.prog 72 #[v] w fun e w'=>∃a c,e=.returned (.slice a (L.f l).length c)∧A (mask (frm w.heap.size) w') (.slice a (L.f l).length c) (L.f l)∧Below w.heap.size w w'
theorem qi4 (hO:DPlC A3 Pl.L3)(w:World)(v:Value)(l:List Pl.D3)(h:A3 w v l)(hw:Pl.W3 l):Calls Tryz.prog 28 #[v] w fun e w'=>∃a c,e=.returned (.slice a (Pl.qbo l).length c)∧A3 (mask (frm w.heap.size) w') (.slice a (Pl.qbo l).length c) (Pl.qbo l)∧Below w.heap.size w w':=by
 have HV:Hid (A3 w v l):=h;have HW:Hid (Pl.W3 l):=hw;obtain⟨mz,hmz⟩:=mz_there;have HMZ:Hid (∀v w l,A3 w v l→mz v w=Pl.qcZ l):=hmz;clear hmz;obtain⟨a,c,rfl,-⟩:=qcB.form h;obtain⟨pl,hpl⟩:∃q,q=Pl.qbo l:=⟨_,rfl⟩
 rw[←hpl];have HPL:Hid (pl=Pl.qbo l):=hpl;clear h hw hpl;go_enter Tryz.func28,Tryz.ntmps28;go_wp2
 go_loopw [0] (fun v wr=>∃(l':List Pl.D3) (a':Option Addr) (c':Nat),v=.slice a' l'.length c'∧Hid (A3 wr (.slice a' l'.length c') l')∧Hid (Pl.W3 l')∧Hid (pl=Pl.qbo l')∧Hid (Below w.heap.size w wr)) (fun v wr=>mz v wr)
 case atStart=>exact⟨l,a,c,rfl,HV,HW,HPL,Below.refl _ _⟩
 case round=>
  obtain⟨l',a',c',rfl,HA,HWl,HP,HB⟩:=hrel;have HC:Hid (Calls Tryz.prog 72 _ _ _):=hO wr _ l' HA.out HWl.out;have hmz:=HMZ.out _ _ _ HA.out;have HZ:Hid _:=hmz;clear hmz HV HW HPL;obtain⟨wq,hwq⟩:∃q,q=wr:=⟨_,rfl⟩
  subst hwq
  go_wp2_with fail
  refine HC.out.mono ?_;rintro e w2 ⟨a2,c2,rfl,hr2,hb2⟩;have hA2:A3 w2 (.slice a2 (Pl.L3.f l').length c2) (Pl.L3.f l'):=(qbf (qbf (qbf qbE))).sub hr2 (qav _ _);have HA2:Hid (A3 w2 (.slice a2 (Pl.L3.f l').length c2) (Pl.L3.f l')):=hA2;have HS2:Hid (Calls Tryz.prog 19 _ _ _):=qg7 w2 _ _ l' (Pl.L3.f l') (qcB.on HA.out hb2) hA2 HWl.out (Pl.qet HWl.out);have HR2:Hid (A3 (mask (frm w.heap.size) w2) (.slice a2 (Pl.L3.f l').length c2) (Pl.L3.f l')):=(qbf (qbf (qbf qbE))).sub hr2 (qam fun j hj _=>⟨by have:=HB.out.size;simp only[frm,decide_eq_true_eq]at hj ⊢;omega,rfl⟩);have HB2:Hid (Below w.heap.size w w2):=qaa HB.out hb2;have HW2:Hid (Pl.W3 (Pl.L3.f l')):=Pl.qet HWl.out;have HST:Hid (l'=Pl.L3.f l'→pl=Pl.L3.f l'):=fun e=>by rw[HP.out,Pl.qdm (show Pl.qdS l'=l' from e.symm)];exact e
  have HGO:Hid (¬l'=Pl.L3.f l'→pl=Pl.qbo (Pl.L3.f l')∧Pl.qcZ (Pl.L3.f l')<Pl.qcZ l'):=fun e=>⟨by rw[HP.out];exact Pl.qe2 HWl.out (fun h=>e h.symm),(Pl.qdK HWl.out).resolve_left (fun h=>e h.symm)⟩
  clear hA2 hr2 hb2 HC HA HB;generalize Pl.L3.f l'=m at *
  by_cases hem:l'=m
  ·have hsm:sm l' m=true:=by unfold sm;exact decide_eq_true hem
   rw[hsm]at HS2;have hpm:=HST.out hem;clear HGO HST hem
   go_wp2_with fail
   refine HS2.out.mono ?_;rintro e w3 ⟨rfl,hb3⟩;have HB3:Hid (Below w.heap.size w w3):=qaa HB2.out hb3;have HR3:Hid (A3 (mask (frm w.heap.size) w3) (.slice a2 m.length c2) m):=(qbf (qbf (qbf qbE))).sub HR2.out (qaY hb3);subst hpm;clear hb3;go_wp2;go_ret;exact⟨a2,c2,rfl,HR3.out,HB3.out⟩
  ·have hsm:sm l' m=false:=by unfold sm;exact decide_eq_false hem
   rw[hsm]at HS2;obtain⟨hp3,hlt⟩:=HGO.out hem;have HP3:Hid (pl=Pl.qbo m):=hp3;have HLT:Hid _:=hlt;clear HGO HST hem hp3 hlt
   go_wp2_with fail
   refine HS2.out.mono ?_;rintro e w3 ⟨rfl,hb3⟩;have HB3:Hid (Below w.heap.size w w3):=qaa HB2.out hb3;have HA3:Hid (A3 w3 (.slice a2 m.length c2) m):=qcB.on HA2.out hb3;clear hb3;go_wp2;refine⟨⟨m,a2,c2,rfl,HA3,HW2,HP3,HB3⟩,?_⟩;have h1:=HMZ.out _ _ _ HA3.out;have h2:=HZ.out;have h3:=HLT.out;omega
def qgP {α:Type}(A:MemL α)(L:Pl.Lev α):Prop:=∀(w:World) (Q:Nat→Bool) (v:Value) (l:List α),A (mask Q w) v l→L.W l→Calls Tryz.prog 151 #[v] w (qdX A (L.only l) Q w)
theorem qg2 (a:Option Addr)(n c:Nat)(w:World)(hn:n≠1):Calls Tryz.prog 151 #[.slice a n c] w fun e w'=>e=.returned (.tuple #[.agg #[.string ⟨#[]⟩,.slice none 0 0],.bool false])∧Below w.heap.size w w':=by
 have r1:((n:Int) !=1)=true:=by simp;omega
 have HB:Hid (Below w.heap.size w (w.alloc (.cells #[.string ⟨#[]⟩,.slice none 0 0] 67))):=qac w _;go_enter Tryz.func151,Tryz.ntmps151;go_wp2;exact bodyPost_ret (v:=.tuple #[.agg #[.string ⟨#[]⟩,.slice none 0 0],.bool false]) (by simp[results,Tryz.results151,go_sem]) rfl ⟨rfl,HB.out⟩
theorem qgV (b o c:Nat)(as_:Option Addr)(n cs:Nat)(w:World)(hc:w.cell? ⟨b,o,none⟩=some (.slice as_ n cs))(hn:n≠1):Calls Tryz.prog 151 #[.slice (some ⟨b,o,none⟩) 1 c] w fun e w'=>e=.returned (.tuple #[.agg #[.string ⟨#[]⟩,.slice none 0 0],.bool false])∧Below w.heap.size w w':=by
 have r1:((n:Int) !=1)=true:=by simp;omega
 have HB:Hid (Below w.heap.size w (w.alloc (.cells #[.string ⟨#[]⟩,.slice none 0 0] 67))):=qac w _;have c1:=qab (qac w (.cells #[.string ⟨#[]⟩,.slice none 0 0] 67)) hc;clear hc;go_enter Tryz.func151,Tryz.ntmps151;go_wp2;exact bodyPost_ret (v:=.tuple #[.agg #[.string ⟨#[]⟩,.slice none 0 0],.bool false]) (by simp[results,Tryz.results151,go_sem]) rfl ⟨rfl,HB.out⟩
theorem dOnly_yes (b o c b2 o2 cs:Nat)(tag:ByteArray)(at_:Option Addr)(nt ct:Nat)(w:World)(hc:w.cell? ⟨b,o,none⟩=some (.slice (some ⟨b2,o2,none⟩) 1 cs))(h0:w.cell? ⟨b2,o2,none⟩=some (.string tag))(h1:w.cell? ⟨b2,o2+1,none⟩=some (.slice at_ nt ct)):
 Calls Tryz.prog 151 #[.slice (some ⟨b,o,none⟩) 1 c] w fun e w'=>e=.returned (.tuple #[.agg #[.string tag,.slice at_ nt ct],.bool true])∧Below w.heap.size w w':=by
 have hb:=qac w (.cells #[.string ⟨#[]⟩,.slice none 0 0] 67);have c1:=qab hb hc;have c2:=qab hb h0;have c3:=qab hb h1;have HB:Hid (Below w.heap.size w (w.alloc (.cells #[.string tag,.slice at_ nt ct] 67))):=qac w _;clear hc h0 h1 hb;go_enter Tryz.func151,Tryz.ntmps151;go_wp2;exact bodyPost_ret (v:=.tuple #[.agg #[.string tag,.slice at_ nt ct],.bool true]) (by simp[results,Tryz.results151,go_sem]) rfl ⟨rfl,HB.out⟩
theorem dOnlyC_0:qgP ZAt Pl.L0:=fun w Q v l h hw=>by
 have hw:l=[]:=hw;subst hw;obtain⟨a,c,rfl,-⟩:=h;refine(qg2 a 0 c w (by decide)).mono ?_;rintro e w' ⟨rfl,hb⟩;exact⟨Or.inl ⟨rfl,rfl⟩,hb⟩
theorem qhY {α:Type}[DecidableEq α]{A:MemL α}{L:Pl.Lev α}{lift:List α→List (Pl.Pth α)}(hl:LiftM A L.W lift):qgP (qbp A) (L.up lift):=fun w Q v l h hw=>by
 have hw:Pl.okL L.W l:=hw;have h':qaf (qct A) 2 (mask Q w) v l:=h;obtain⟨a,c,rfl,-,hcs⟩:=h'
 show Calls Tryz.prog 151 _ w (qdX (qbp A) (Pl.qf4 lift l) Q w)
 match l,hcs,hw with
 | [],_,_=>
  refine(qg2 a 0 c w (by decide)).mono ?_;rintro e w' ⟨rfl,hb⟩;exact⟨Or.inl ⟨rfl,rfl⟩,hb⟩
 | p::q::r,_,_=>
  refine(qg2 a _ c w (by simp)).mono ?_;rintro e w' ⟨rfl,hb⟩;exact⟨Or.inl ⟨rfl,rfl⟩,hb⟩
 | [p],hcs,hw=>
  rcases hcs with h0|⟨b,o,rfl,hc⟩
  ·cases h0
  obtain⟨vs,vl,n0,n1,hP,hL⟩:=hc 0 (by simp);have n0':=(qah.1 n0).2;have hp:Pl.okP L.W p:=hw.2 p (List.mem_singleton.2 rfl);obtain⟨as_,cs,rfl,-,hs⟩:=hP;have hlen:([p]:List (Pl.Pth α))[0].steps=p.steps:=rfl;rw[hlen]at n0' hs;simp only[Nat.zero_mul,Nat.add_zero]at n0';obtain⟨ss,hss⟩:∃ss,ss=p.steps:=⟨_,rfl⟩
  rw[←hss]at n0' hs;unfold Pl.qf4;dsimp only;rw[←hss]
  match ss,hs,hss with
  | [],_,_=>
   refine(qgV b o c as_ 0 cs w n0' (by decide)).mono ?_;rintro e w' ⟨rfl,hb⟩;exact⟨Or.inl ⟨rfl,rfl⟩,hb⟩
  | s::s2::r,_,_=>
   refine(qgV b o c as_ _ cs w n0' (by simp)).mono ?_;rintro e w' ⟨rfl,hb⟩;exact⟨Or.inl ⟨rfl,rfl⟩,hb⟩
  | [s],hs,hss=>
   rcases hs with h0|⟨b2,o2,rfl,hc2⟩
   ·cases h0
   obtain⟨vt,m0,m1,hT⟩:=hc2 0 (by simp);obtain⟨at_,ct,rfl⟩:=hT.form;have k0:=(qah.1 m0).2;have k1:=(qah.1 m1).2;simp only[Nat.zero_mul,Nat.add_zero]at k0 k1;have hok:=(hp.2.2.2 s (by rw[←hss];exact List.mem_singleton.2 rfl)).2;refine(dOnly_yes b o c b2 o2 cs _ at_ _ ct w n0' k0 k1).mono ?_;rintro e w' ⟨rfl,hb⟩;have hr:=liftT hl hT hok;refine⟨Or.inr ⟨trS lift s,at_,ct,rfl,?_,?_⟩,hb⟩
   ·simp[trS]
   ·simpa [trS] using hr
theorem dOnlyC_1:qgP A1 Pl.L1:=qhY liftM_0
theorem dOnlyC_2:qgP A2 Pl.L2:=qhY liftM_1
def OwnC {α:Type}(A:MemL α)(W0:List α→Prop):Prop:=∀(w:World) (v:Value) (l:List α),A w v l→W0 l→Calls Tryz.prog 24 #[v] w fun e w'=>∃a c,e=.returned (.slice a l.length c)∧A (mask (frm w.heap.size) w') (.slice a l.length c) l∧Below w.heap.size w w'
theorem qfP {α:Type}{A:MemL α}(hA:IsL A)(hS:qaK A)(W0:List α→Prop)(hO:OwnC A W0):OwnC (qbp A) (Pl.okL W0):=fun w v l hl hok=>by
 refine(own_up hA hS W0 hO w v l hl hok).mono ?_;rintro e w' ⟨a,c,rfl,hg,hb⟩;exact⟨a,c,rfl,Grow.row (qfx hS) (hg.weak (qfx hS).b fun q=>q.weak hS),hb⟩
theorem ownC_0:OwnC ZAt Pl.L0.W:=fun w v l h hw=>by
 have hw:l=[]:=hw;subst hw;obtain⟨a,c,rfl,h1,h2⟩:=h;refine(qfP qcP qbE (fun _=>False) (fun _ _ _ _ h=>h.elim) w (.slice a 0 c) [] ⟨a,c,rfl,⟨h1,h2⟩,Or.inl rfl⟩ ⟨by simp,fun p hp=>by simp at hp⟩).mono ?_;rintro e w' ⟨a',c',rfl,hr,hb⟩;obtain⟨a'',c'',e',hf,-⟩:=hr;exact⟨a',c',rfl,⟨a'',c'',e',hf.1,hf.2⟩,hb⟩
theorem ownC_1:OwnC A1 Pl.L1.W:=qfP qcP qbE Pl.L0.W ownC_0
theorem ownC_2:OwnC A2 Pl.L2.W:=qfP qdA (qbf qbE) Pl.L1.W ownC_1
theorem ownC_3:OwnC A3 Pl.L3.W:=qfP qdJ (qbf (qbf qbE)) Pl.L2.W ownC_2
structure qbA {α:Type}(A:MemL α)(P:Nat→Bool)(M:Nat)(w:World)(tp:Pl.Stp α)(u:Value):Prop where
 box:w.heap[M]? =some (.cells #[.string ⟨tp.tag.toArray⟩,u] 67)
 row:Grow P (M+1) 71 6 (VT A) w u tp.tests
 out:P M=false
section
variable {α:Type} {A:MemL α} {P:Nat→Bool} {M:Nat} {w w' W W1 W2:World} {tp:Pl.Stp α} {u v':Value} {ts:List (Pl.Tst α)}
theorem qbA.sz (h:qbA A P M w tp u):M+1≤w.heap.size:=(Array.getElem?_eq_some_iff.1 h.box).1
theorem qbA.on (hS:qaK A)(h:qbA A P M w tp u)(hb:Below w.heap.size w w'):qbA A P M w' tp u:=
 ⟨hblk h.box hb,h.row.move (qba hS) fun j hj hjw=>⟨hj,hb.block j hjw⟩,h.out⟩
theorem qbA.drew (hS:qaK A)(h:qbA A P M w tp u):qbA A P M w.drew tp u:=
 ⟨h.box,h.row.move (qba hS) fun _ hj _=>⟨hj,rfl⟩,h.out⟩
theorem qbA.put (hS:qaK A)(h:qbA A P M W tp u)(hb:Below W.heap.size W W1)(hg:W1.grownBy W2 u.ownBlock)(hr:Grow P (M+1) 71 6 (VT A) W2 v' ts):
 qbA A P M (W2.setCell ⟨M,1,none⟩ v') ⟨tp.tag,ts⟩ v'∧FrA (M+1) M W (W2.setCell ⟨M,1,none⟩ v')∧(W2.cell? ⟨M,1,none⟩=some u∧W2.frozen? ⟨M,1,none⟩=false):=by
 have hown:∀j,u.ownBlock=some j→M+1≤j:=fun j hj=>(h.row.own j hj).2
 have h1:=h.on hS hb
 have hM:W2.heap[M]? =some (.cells #[.string ⟨tp.tag.toArray⟩,u] 67):=by
  rw[hg.block M (Array.getElem?_eq_some_iff.1 h1.box).1 (fun e=>by have:=hown M e.symm;omega)];exact h1.box
 refine⟨⟨qge hM _,hr.move (qba hS) fun j hj _=>⟨hj,Below.heap_setCell _ _ _ _ ?_⟩,h.out⟩,((FrA.below hb h.sz).trans (FrA.grown hg h1.sz hown)).set 1 _,(qcd hM).2.1,(qcd hM).2.2.2⟩
 show j≠M
 rintro rfl;rw[h.out]at hj
 cases hj
theorem qbA.tag (hS:qaK A)(h:qbA A P M W tp u)(tag:List UInt8):qbA A P M (W.setCell ⟨M,0,none⟩ (.string ⟨tag.toArray⟩)) ⟨tag,tp.tests⟩ u:=by
 refine⟨set41_0 h.box _,h.row.move (qba hS) fun j hj _=>⟨hj,Below.heap_setCell _ _ _ _ ?_⟩,h.out⟩
 show j≠M
 rintro rfl;rw[h.out]at hj
 cases hj
end
theorem qd5 {α:Type}{A:MemL α}(hA:IsL A)(hS:qaK A){P:Nat→Bool}{B:Nat}{W:World}{ops:Array Oper}{rest:List Oper}{o:Oper}{a:Act}{Q:Exit→Act→World→Prop}{ts ms:List (Pl.Tst α)}{au as_:Option Addr}{cu cs:Nat}(hgd:o.guard=none)(s x:Operand)
 (ho:o.op=.call { callee:=.builtin .append,args:= #[s,x],argTypes:= #[65,65] }) (hs:a.eval s=.slice au ts.length cu) (hx:a.eval x=.slice as_ ms.length cs)
 (hold:Grow P B 71 6 (VT A) W (.slice au ts.length cu) ts) (hr:qaf (qaF A) 6 (mask (Off P (.slice au ts.length cu)) W) (.slice as_ ms.length cs) ms) (hlen:ts.length+ms.length≤64) (hB:B≤W.heap.size) (hPH:P W.heap.size=true)
 (h:∀a' c' W',Grow P B 71 6 (VT A) W' (.slice a' (ts.length+ms.length) c') (ts++ms)→W.grownBy W' (Value.slice au ts.length cu).ownBlock→wpList Tryz.prog ops Q rest (a.put o.dst (.slice a' (ts.length+ms.length) c')) W'):
 wpList Tryz.prog ops Q (o::rest) a W:=by
 obtain⟨i0,hi,hz0,hz1,hz2⟩:=info_parts infT;obtain⟨xs,hown,hPo,hvs⟩:=hold
 by_cases h0:ms=[]
 ·subst h0
  have hk:=h au cu W (by
   have hg0:Grow P B 71 6 (VT A) W (.slice au ts.length cu) ts:=⟨xs,hown,hPo,hvs⟩
   rw[List.append_nil,List.length_nil,Nat.add_zero]
   exact hg0) (World.grownBy.refl _ _)
  refine wpList_plain hgd fun K hK=>?_
  rcases hown.2 with ⟨e,e0⟩|⟨g,cap,cur,e,_,_,h1,_⟩
  ·injection e with e1 e2 e3;subst e1 e3;have hr2:=qf3 hi as_ cs o.type W;unfold Oper.wp execOp;rw[e0]at hs;simp only[ho,resolve,invoke,builtin,Sem.run_bind,Sem.run_pure,Result.andThen_ok,List.map_toArray,List.map_cons,List.map_nil,hs,hx,List.length_nil,hr2];refine hK _ _ ?_
   simpa [e0] using hk
  ·injection e with e1 e2 e3;subst e1 e3;have hr2:=qfl hi ⟨g,0,none⟩ ts.length cu h1 as_ cs o.type W;unfold Oper.wp execOp;simp only[ho,resolve,invoke,builtin,Sem.run_bind,Sem.run_pure,Result.andThen_ok,List.map_toArray,List.map_cons,List.map_nil,hs,hx,List.length_nil,hr2];refine hK _ _ ?_
   simpa using hk
 ·obtain⟨a',c',e,-,hc⟩:=hr;injection e with e1 e2 e3;subst e1 e3
  rcases hc with h1|⟨b,of,rfl,hcs⟩
  ·exact absurd h1 h0
  ·obtain⟨ys,hl,hcell,hone,hvt⟩:=cellsT hA hcs;have hpos:0<ms.length:=List.length_pos_iff.2 h0;refine wpList_append_lies _ hgd s x 65 ho B 71 i0 _ 6 80 Tryz.underlying65 hi hz0 hz1 hz2 rfl (by decide) _ ts.length xs hs hown ⟨b,of,none⟩ ms.length cs ys hx hl (fun j u hj=>by rw[Addr.add_lit];exact(qah.1 (hcell j u hj)).2) hone hpos (by unfold maxLen;omega) (by omega) hB _ rfl ?_;intro g cap w' h1 h2 h3 _;exact h _ cap w' (Grow.app (qba hS) hPo hPH hown hvs h1 h2 h3 hvt) h2
theorem qcn (d:Nat){P:Program}{ops:Array Oper}{Q:Exit→Act→World→Prop}{op:Op}{ty:TypeId}{pos:String}{af:Array Edge}{gd:Option (Nat×Bool)}{rest:List Oper}{a:Act}{w:World}(h:Hid (wpList P ops Q ({ dst:=some d,op:=op,type:=ty,pos:=pos,after:=af,guard:=gd }::rest) a w)):wpList P ops Q ({ dst:=some d,op:=op,type:=ty,pos:=pos,after:=af,guard:=gd }::rest) a w:=h
def gap (P:Nat→Bool)(B M:Nat):Nat→Bool:=fun j=>P j&&(decide (j<B)||decide (M+1≤j))
theorem gap_lo {P:Nat→Bool}{B M j:Nat}(h:P j=true)(hj:j<B):gap P B M j=true:=by
 unfold gap;rw[h];simp[hj]
theorem qcv {P:Nat→Bool}{B M j:Nat}(h:P j=true)(hj:M+1≤j):gap P B M j=true:=by
 unfold gap;rw[h];simp;omega
theorem gap_out {P:Nat→Bool}{B M:Nat}(h:B≤M):gap P B M M=false:=by
 unfold gap;have e:(decide (M<B)||decide (M+1≤M))=false:=by simp;omega
 rw[e,Bool.and_false]
theorem gap_sub {P:Nat→Bool}{B M j:Nat}(h:gap P B M j=true):P j=true:=by
 unfold gap at h;rw[Bool.and_eq_true]at h;exact h.1
structure AddG {α:Type}(A:MemL α)(P:Nat→Bool)(M N:Nat)(w W:World)(tp:Pl.Stp α)(t:Pl.Tst α)(au al:Option Addr)(cu dl:Nat):Prop where
 made:qbA A P M W tp (.slice au tp.tests.length cu)
 tb:W.heap[N]? =some (.cells #[.int .i64 t.kind,.string ⟨t.name.toArray⟩,.string ⟨t.value.toArray⟩,.int .i64 t.a,.int .i64 t.b,.slice al t.list.length dl] 71)
 new:A (mask (Off P (.slice au tp.tests.length cu)) W) (.slice al t.list.length dl) t.list
 fr:FrA (M+1) M w W
section
variable {α:Type} {A:MemL α} {P:Nat→Bool} {M N:Nat} {w W W':World} {tp:Pl.Stp α} {t:Pl.Tst α} {au al:Option Addr} {cu dl:Nat}
theorem AddG.on (hS:qaK A)(h:AddG A P M N w W tp t au al cu dl)(hb:Below W.heap.size W W'):AddG A P M N w W' tp t au al cu dl:=
 ⟨h.made.on hS hb,hblk h.tb hb,hS.sub h.new (qaY hb),h.fr.trans (FrA.below hb h.made.sz)⟩
theorem AddG.drew (hS:qaK A)(h:AddG A P M N w W tp t au al cu dl):AddG A P M N w W.drew tp t au al cu dl:=
 ⟨h.made.drew hS,h.tb,hS.sub h.new (qam fun _ hj _=>⟨hj,rfl⟩),h.fr.drew⟩
theorem AddG.facts (h:AddG A P M N w W tp t au al cu dl):(W.cell? ⟨M,0,none⟩=some (.string ⟨tp.tag.toArray⟩)∧W.cell? ⟨M,1,none⟩=some (.slice au tp.tests.length cu)∧W.frozen? ⟨M,0,none⟩=false∧W.frozen? ⟨M,1,none⟩=false)∧W.cell? ⟨N,0,none⟩=some (.int .i64 t.kind)∧W.cell? ⟨N,1,none⟩=some (.string ⟨t.name.toArray⟩)∧W.cell? ⟨N,2,none⟩=some (.string ⟨t.value.toArray⟩)∧W.cell? ⟨N,3,none⟩=some (.int .i64 t.a)∧W.cell? ⟨N,4,none⟩=some (.int .i64 t.b)∧W.cell? ⟨N,5,none⟩=some (.slice al t.list.length dl):=
 ⟨qcd h.made.box,f6 h.tb⟩
end
theorem qb0 {w:World}{B:Nat}{e:TypeId}{k:Nat}{n cap g:Nat}{xs:List Value}(h:w.ownsRow B e k (.slice (some ⟨g,0,none⟩) n cap) n xs){i:Nat}(hi:i<n*k)(u:Value):
 (w.setCell ⟨g,i,none⟩ u).ownsRow B e k (.slice (some ⟨g,0,none⟩) n cap) n (xs.set i u)∧w.frozen? ⟨g,i,none⟩=false∧∃x,w.cell? ⟨g,i,none⟩=some x:=by
 obtain⟨h1,h2⟩:=h
 rcases h2 with ⟨h2,-⟩|⟨g',cap',cur,e1,e2,e3,e4,e5,e6,e7⟩
 ·cases h2
 ·injection e1 with e1 _ e8;injection e1 with e1;injection e1 with e1 _ _;subst e1 e8
  have hic:i<cur.size:=by
   have:n*k≤cap*k:=Nat.mul_le_mul_right k e4;omega
  refine⟨⟨by simpa using h1,Or.inr ⟨g,cap,cur.set i u,rfl,e2,?_,e4,e5,by simpa using e6,?_⟩⟩,?_,cur[i],?_⟩
  ·simp[World.setCell,Array.getElem?_modify,e3,Array.setIfInBounds,hic]
  ·rw[←e7,Array.toList_set,List.take_set]
  ·simp[World.frozen?,e3]
  ·simp[World.cell?,e3,hic]
theorem qem {xs:List Value}{k m i:Nat}{u:Value}(h:i<m*k∨m*k+k≤i):((xs.set i u).drop (m*k)).take k=(xs.drop (m*k)).take k:=by
 apply List.ext_getElem?
 intro r;rw[List.getElem?_take,List.getElem?_take,List.getElem?_drop,List.getElem?_drop]
 by_cases hr:r<k
 ·rw[if_pos hr,if_pos hr,List.getElem?_set_ne (by omega)]
 ·rw[if_neg hr,if_neg hr]
theorem qhv {xs:List Value}{k m r:Nat}{u:Value}(hr:r<k):((xs.set (m*k+r) u).drop (m*k)).take k=((xs.drop (m*k)).take k).set r u:=by
 apply List.ext_getElem?
 intro q;rw[List.getElem?_take,List.getElem?_drop,List.getElem?_set,List.getElem?_set,List.length_take,List.length_drop,List.getElem?_take,List.getElem?_drop]
 by_cases hq:q<k
 ·rw[if_pos hq,if_pos hq]
  by_cases e:r=q
  ·subst e;rw[if_pos rfl,if_pos rfl]
   by_cases hl:m*k+r<xs.length
   ·rw[if_pos hl,if_pos (by omega)]
   ·rw[if_neg hl,if_neg (by omega)]
  ·rw[if_neg (by omega),if_neg e]
 ·rw[if_neg hq,if_neg hq,if_neg (by omega)]
theorem qcT {P:Nat→Bool}{w:World}{g n cap i:Nat}{u:Value}:qen (mask (Off P (.slice (some ⟨g,0,none⟩) n cap)) w) (mask (Off P (.slice (some ⟨g,0,none⟩) n cap)) (w.setCell ⟨g,i,none⟩ u)):=qbn fun j hj _=>⟨hj,Below.heap_setCell _ _ _ _ (by
 show j≠g
 rintro rfl;unfold Off at hj
 simp[Value.ownBlock]at hj)⟩
theorem Grow.setList {α:Type}{A:MemL α}(hS:qaK A){P:Nat→Bool}{B g cap:Nat}{w:World}{ts:List (Pl.Tst α)}(h:Grow P B 71 6 (VT A) w (.slice (some ⟨g,0,none⟩) ts.length cap) ts){j:Nat}(hj:j<ts.length){u:Value}{l:List α}(hu:A (mask (Off P (.slice (some ⟨g,0,none⟩) ts.length cap)) w) u l):
 Grow P B 71 6 (VT A) (w.setCell ⟨g,j*6+5,none⟩ u) (.slice (some ⟨g,0,none⟩) ts.length cap) (ts.set j { ts[j] with list:=l }):=by
 obtain⟨xs,hown,hPo,hv⟩:=h;refine⟨xs.set (j*6+5) u,by rw[List.length_set];exact(qb0 hown (by omega) u).1,hPo,fun m hm=>?_⟩;have hm':m<ts.length:=by simpa using hm
 by_cases e:j=m
 ·subst e;rw[qhv (by omega),List.getElem_set_self];obtain⟨v,hc,-⟩:=hv j hj;rw[hc];exact⟨u,rfl,hS.sub hu qcT.cells⟩
 ·rw[qem (by omega),List.getElem_set_ne e];exact(qba hS).sub (hv m hm') qcT.cells
theorem Grow.unmask {β:Type}{P Q:Nat→Bool}{B:Nat}{e:TypeId}{k:Nat}{V:World→List Value→β→Prop}(hV:IsVB k V)(he:e≠0){w:World}{v:Value}{l:List β}(h:Grow P B e k V (mask Q w) v l):Grow (fun j=>P j&&Q j) B e k V w v l:=by
 obtain⟨xs,⟨h1,h2⟩,hPo,hv⟩:=h;refine⟨xs,⟨h1,?_⟩,fun g hg=>?_,fun i hi=>hV.sub (hv i hi) ?_⟩
 ·rcases h2 with h2|⟨g,cap,cur,rfl,e2,e3,e4⟩
  ·exact Or.inl h2
  ·exact Or.inr ⟨g,cap,cur,rfl,e2,(qeC e3 he).2,e4⟩
 ·rcases h2 with ⟨rfl,-⟩|⟨g',cap,cur,rfl,e2,e3,e4⟩
  ·simp[Value.ownBlock]at hg
  ·have e0:g'=g:=by simpa [Value.ownBlock] using hg
   subst e0;simp only[hPo g' rfl,(qeC e3 he).1,Bool.and_self]
 ·rw[qaU];refine qbn fun j hj _=>⟨?_,rfl⟩
  unfold Off at hj ⊢
  cases hp:P j<;>cases hq:Q j<;>simp_all
theorem qa4.toI {β:Type}{P Q:Nat→Bool}{B:Nat}{e:TypeId}{k:Nat}{V:World→List Value→β→Prop}(hV:IsVB k V)(he:e≠0){w:World}{v:Value}{l:List β}(h:qa4 P B e k V (mask Q w) v l):
 ∃own:Nat→Nat,qbV (fun j=>P j&&Q j) B e k (fun i W c=>∃h:i<l.length,V (mask (fun j=>own j==i) W) c l[i]) l.length w v:=by
 obtain⟨own,xs,⟨h1,h2⟩,hPo,hv⟩:=h;refine⟨own,xs,⟨h1,?_⟩,fun g hg=>?_,fun i hi=>⟨hi,hV.sub (hv i hi) ?_⟩⟩
 ·rcases h2 with h2|⟨g,cap,cur,rfl,e2,e3,e4⟩
  ·exact Or.inl h2
  ·exact Or.inr ⟨g,cap,cur,rfl,e2,(qeC e3 he).2,e4⟩
 ·rcases h2 with ⟨rfl,-⟩|⟨g',cap,cur,rfl,e2,e3,e4⟩
  ·simp[Value.ownBlock]at hg
  ·have e0:g'=g:=by simpa [Value.ownBlock] using hg
   subst e0;simp only[hPo g' rfl,(qeC e3 he).1,Bool.and_self]
 ·rw[qaU,qaU];refine qbn fun j hj _=>⟨?_,rfl⟩
  unfold Off at hj ⊢
  cases hp:P j<;>cases hq:Q j<;>simp_all
section
variable {P P':Nat→Bool} {B:Nat} {e:TypeId} {k:Nat} {V V':Nat→World→List Value→Prop} {n:Nat} {w w':World} {v:Value}
theorem qbV.form (h:qbV P B e k V n w v):∃a c,v=.slice a n c:=by
 obtain⟨xs,h,_⟩:=h
 rcases h.2 with ⟨rfl,h0⟩|⟨g,cap,cur,rfl,_⟩
 ·exact⟨none,0,by rw[h0]⟩
 ·exact⟨_,cap,rfl⟩
theorem qbV.at (h:qbV P B e k V n w v){i:Nat}(hi:i<n):∃g cap c,v=.slice (some ⟨g,0,none⟩) n cap∧P g=true∧V i (mask (Off P v) w) c∧∀r x,r<k→c[r]? =some x→w.cell? ⟨g,i*k+r,none⟩=some x:=by
 obtain⟨xs,hown,hPo,hv⟩:=h;have hh:=hown
 rcases hown.2 with ⟨-,h0⟩|⟨g,cap,cur,rfl,_⟩
 ·omega
 ·refine⟨g,cap,_,rfl,hPo g rfl,hv i hi,fun r x hr hx=>?_⟩;rw[List.getElem?_take,if_pos hr,List.getElem?_drop]at hx;have h0:=World.ownsRow.cells hh rfl (i*k+r) x hx;rw[Addr.add_lit]at h0
  simpa using h0
theorem qbV.to (h:qbV P B e k V n w v)(hs:∀g,v.ownBlock=some g→w'.heap[g]? =w.heap[g]?∧P' g=true)(hv:∀i c,i<n→V i (mask (Off P v) w) c→V' i (mask (Off P' v) w') c):qbV P' B e k V' n w' v:=by
 obtain⟨xs,⟨h1,h2⟩,hPo,hvs⟩:=h;refine⟨xs,⟨h1,?_⟩,fun g hg=>(hs g hg).2,fun i hi=>hv i _ hi (hvs i hi)⟩
 rcases h2 with h2|⟨g,cap,cur,rfl,e2,e3,e4⟩
 ·exact Or.inl h2
 ·exact Or.inr ⟨g,cap,cur,rfl,e2,(hs g rfl).1.trans e3,e4⟩
theorem qbV.set2 {g cap:Nat}(h:qbV P B e 2 V n w (.slice (some ⟨g,0,none⟩) n cap)){i:Nat}(hi:i<n){c0 c1:Value}
 (ho:∀m c,m<n→m≠i→V m (mask (Off P (.slice (some ⟨g,0,none⟩) n cap)) w) c→V' m (mask (Off P (.slice (some ⟨g,0,none⟩) n cap)) ((w.setCell ⟨g,i*2,none⟩ c0).setCell ⟨g,i*2+1,none⟩ c1)) c) (hn:V' i (mask (Off P (.slice (some ⟨g,0,none⟩) n cap)) ((w.setCell ⟨g,i*2,none⟩ c0).setCell ⟨g,i*2+1,none⟩ c1)) [c0,c1]):
 qbV P B e 2 V' n ((w.setCell ⟨g,i*2,none⟩ c0).setCell ⟨g,i*2+1,none⟩ c1) (.slice (some ⟨g,0,none⟩) n cap):=by
 obtain⟨xs,hown,hPo,hvs⟩:=h;have h1:=(qb0 hown (i:=i*2) (by omega) c0).1;have h2:=(qb0 h1 (i:=i*2+1) (by omega) c1).1;refine⟨(xs.set (i*2) c0).set (i*2+1) c1,h2,hPo,fun m hm=>?_⟩
 by_cases e:m=i
 ·subst e;have e1:=qhv (xs:=xs.set (m*2) c0) (k:=2) (m:=m) (r:=1) (u:=c1) (by omega);have e2:=qhv (xs:=xs) (k:=2) (m:=m) (r:=0) (u:=c0) (by omega);rw[Nat.add_zero]at e2;rw[e1,e2]
  have hl:((xs.drop (m*2)).take 2).length=2:=by
   rw[List.length_take,List.length_drop,hown.1];omega
  match (xs.drop (m*2)).take 2,hl with
  | [x,y],_=>exact hn
 ·rw[qem (by omega),qem (by omega)];exact ho m _ hm e (hvs m hm)
theorem qbV.store {g cap:Nat}(h:qbV P B e 2 V n w (.slice (some ⟨g,0,none⟩) n cap)){i:Nat}(hi:i<n)(c0:Value):(w.frozen? ⟨g,i*2,none⟩=false∧∃x,w.cell? ⟨g,i*2,none⟩=some x)∧(w.setCell ⟨g,i*2,none⟩ c0).frozen? ⟨g,i*2+1,none⟩=false∧∃x,(w.setCell ⟨g,i*2,none⟩ c0).cell? ⟨g,i*2+1,none⟩=some x:=by
 obtain⟨xs,hown,hPo,hvs⟩:=h;have h1:=qb0 hown (i:=i*2) (by omega) c0;exact⟨h1.2,(qb0 h1.1 (i:=i*2+1) (by omega) c0).2⟩
end
theorem qbV.grow {β:Type}{P:Nat→Bool}{B:Nat}{e:TypeId}{k:Nat}{V:Nat→World→List Value→Prop}{V0:World→List Value→β→Prop}{w:World}{v:Value}{l:List β}(h:qbV P B e k V l.length w v)(hv:∀i c (hi:i<l.length),V i (mask (Off P v) w) c→V0 (mask (Off P v) w) c l[i]):Grow P B e k V0 w v l:=by
 obtain⟨xs,hown,hPo,hvs⟩:=h;exact⟨xs,hown,hPo,fun i hi=>hv i _ hi (hvs i hi)⟩
end Go.Proofs.YtephhllfodlfbaaGreatDoor
