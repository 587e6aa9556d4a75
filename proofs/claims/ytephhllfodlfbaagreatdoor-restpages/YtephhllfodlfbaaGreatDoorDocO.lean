/-
  Where Up goes: the five rules that elements are copied by.
-/
import Derived.Test.YtephhllfodlfbaaGreatDoorAdd
import Derived.Deep.DeepCutAuto
import Derived.Deep.SlicePairs
import Derived.SliceStrings
import Derived.OpenShut
import Derived.Lib.SmallJoins
set_option maxRecDepth 100000
set_option maxHeartbeats 16000000
namespace Go.Proofs.YtephhllfodlfbaaGreatDoor
open Go.RowKit
namespace Pl
def wr (u:Int):Int:=RowKit.wrap64 u
theorem wr_in {u:Int}(h: -9223372036854775808≤u)(h2:u≤9223372036854775807):wr u=u:=by
 unfold wr;rw[IntWalk.wrap64_in _ ⟨by omega,by omega⟩]
def qcy (n:Int)(u:Int):Int:=if u<n then -1 else wr (u-n)
def qdw (n d:Int)(u:Int):Int:=if u<n then u else wr (u-d)
def mvIn (up place:Int)(u:Int):Int:=if u<0 then up else wr (u+place)
def qdz (place k:Int)(u:Int):Int:=if u<place then u else wr (u+k)
end Pl
theorem part1_any (M:Nat)(n u:Int)(w:World)(hc:w.cell? ⟨M,0,none⟩=some (.int .i64 n)):Calls Tryz.prog 77 #[.int .i64 u,.pointer (some ⟨M,0,none⟩)] w fun e w'=>e=.returned (.int .i64 (Pl.qcy n u))∧w'=w:=by
 by_cases h:u<n
 ·have HH:Hid (Pl.qcy n u= -1):=by unfold Hid Pl.qcy;rw[if_pos h]
  go_enter Tryz.func77,Tryz.ntmps77;go_wp2;go_ret;exact⟨by rw[HH.out];rfl,rfl⟩
 ·have HH:Hid (Pl.qcy n u=RowKit.wrap64 (u-n)):=by unfold Hid Pl.qcy Pl.wr;rw[if_neg h]
  go_enter Tryz.func77,Tryz.ntmps77;go_wp2;go_ret;exact⟨by rw[HH.out];rfl,rfl⟩
theorem enter36 (args:Array Value)(W:World):(callFunc 77 args).run Tryz.prog W=.ok (.enter 77 args) W:=by simp[callFunc,go_sem,Tryz.func77,Tryz.f77]
theorem add_none (F:Fn)(caps bs:Array Value)(v0:Value)(a:Option Addr)(cap:Nat)(w:World):
 Calls Tryz.prog 75 #[v0,.slice a 0 cap,.func F bs caps] w fun e w'=>e=.returned v0∧w'=w:=by
 go_enter Tryz.func75,Tryz.ntmps75;go_wp2;refine wp_loop_rounds 1 ?_;rw[rounds_succ];go_wp2;go_ret;exact⟨rfl,rfl⟩
theorem qhh (F:Nat)(caps:Array Value)(mv:Int→Int)(B:Nat)(v0 v1:Value)(ns ms:List Pl.Nd)(w:World)(hB:B≤w.heap.size)(hr:Row B w v0 ns)(h64:ns.length+ms.length≤64)
 (hen:∀args W,(callFunc F args).run Tryz.prog W=.ok (.enter F args) W) (hl:∀x∈ms,x.cls.length≤6∧x.ats.length≤4) (hm:qa8 w v1 ms) (hlow:∀W,Below B w W→qa8 W v1 ms)
 (hf:∀W (u:Int),Below B w W→Calls Tryz.prog F (#[.int .i64 u]++caps) W fun e w'=>e=.returned (.int .i64 (mv u))∧w'=W):
 Calls Tryz.prog 75 #[v0,v1,.func (.func F) #[] caps] w fun e w'=>∃v',e=.returned v'∧Row B w' v' (ns++ms.map (Pl.mvd mv))∧Below B w w':=by
 obtain⟨a,cap,rfl,hc⟩:=hm
 rcases hc with rfl|⟨b,o,rfl,hc⟩
 ·refine(add_none (.func F) caps #[] v0 a cap w).mono ?_;rintro e w' ⟨rfl,rfl⟩;exact⟨v0,rfl,by simpa using hr,Below.refl _ _⟩
 ·refine(add_some F caps mv B b o cap v0 ns ms w hB hr h64 hen hl ?_ hf);intro W hW i hi;obtain⟨a',cap',e,hc'⟩:=hlow W hW;injection e with e1 e2 e3;subst e1
  rcases hc' with h0|⟨b',o',e',hc'⟩
  ·subst h0;simp at hi
  ·injection e' with e';injection e' with e1 e2;subst e1 e2;exact hc' i hi
def Capd (v:Value):Prop:=∃a l c,v=.slice a l c∧l≤c∧c≤maxLen
def qar (w:World)(v:Value)(ns:List Pl.Nd):Prop:=qa8 w v ns∧Capd v∧qdO ns
theorem qar.on {w w':World}{v:Value}{ns:List Pl.Nd}(h:qar w v ns)(hb:Below w.heap.size w w'):qar w' v ns:=⟨h.1.on hb,h.2⟩
theorem qar.nil (w:World):qar w (.slice none 0 0) []:=⟨⟨none,0,rfl,Or.inl rfl⟩,⟨_,_,_,rfl,Nat.le_refl _,by unfold maxLen;omega⟩,by simp,fun i h=>by simp at h⟩
theorem qbH {w:World}{b o M j:Nat}{s:ByteArray}{u old:Value}(h:w.cell? ⟨b,o,none⟩=some (.string s))(h2:w.cell? ⟨M,j,none⟩=some old)(hs:∀s,old≠ .string s):(w.setCell ⟨M,j,none⟩ u).cell? ⟨b,o,none⟩=some (.string s):=by
 rw[World.cell?_setCell_other _ _ _ _ (by intro e;rw[e,h]at h2;injection h2 with h2;exact hs s h2.symm)];exact h
theorem qbT.set {g:Option Nat}{w:World}{v:Value}{ss:List (List UInt8)}(h:qbT g w v ss){M j:Nat}{old:Value}(h2:w.cell? ⟨M,j,none⟩=some old)(hs:∀s,old≠ .string s)(u:Value):qbT g (w.setCell ⟨M,j,none⟩ u) v ss:=by
 obtain⟨a,cap,rfl,h⟩:=h;refine⟨a,cap,rfl,?_⟩
 rcases h with h|⟨b,o,ha,hB,hc⟩
 ·exact Or.inl h
 ·exact Or.inr ⟨b,o,ha,hB,fun i hi=>qbH (hc i hi) h2 hs⟩
theorem qcY.set {g:Option Nat}{w:World}{v:Value}{ss:List (List UInt8×List UInt8)}(h:qcY g w v ss){M j:Nat}{old:Value}(h2:w.cell? ⟨M,j,none⟩=some old)(hs:∀s,old≠ .string s)(u:Value):qcY g (w.setCell ⟨M,j,none⟩ u) v ss:=by
 obtain⟨a,cap,rfl,h⟩:=h;refine⟨a,cap,rfl,?_⟩
 rcases h with h|⟨b,o,ha,hB,hc⟩
 ·exact Or.inl h
 ·exact Or.inr ⟨b,o,ha,hB,fun i hi=>⟨qbH (hc i hi).1 h2 hs,qbH (hc i hi).2 h2 hs⟩⟩
theorem qaz.set {g:Option Nat}{w:World}{M j:Nat}{old:Value}(h2:w.cell? ⟨M,j,none⟩=some old)(hs:∀s,old≠ .string s)(u:Value):∀(xs:List Value) (ns:List Pl.Nd),qaz g w xs ns→qaz g (w.setCell ⟨M,j,none⟩ u) xs ns
 | [],[],_=>trivial
 | c0::c1::c2::c3::c4::r,x::t,h=>⟨⟨h.1.1,h.1.2.1,h.1.2.2.1,h.1.2.2.2.1.set h2 hs u,h.1.2.2.2.2.set h2 hs u⟩,qaz.set h2 hs u r t h.2⟩
 | [],_::_,h=>h.elim
 | _::_,[],h=>by simp[qaz]at h
 | [_],_::_,h=>by cases h
 | [_,_],_::_,h=>by cases h
 | [_,_,_],_::_,h=>by cases h
 | [_,_,_,_],_::_,h=>by cases h
theorem Row.set {B:Nat}{w:World}{v:Value}{ns:List Pl.Nd}(h:Row B w v ns){M j:Nat}{old:Value}(hM:M<B)(h2:w.cell? ⟨M,j,none⟩=some old)(hs:∀s,old≠ .string s)(u:Value):Row B (w.setCell ⟨M,j,none⟩ u) v ns:=by
 obtain⟨xs,ho,hc⟩:=h;refine⟨xs,?_,qaz.set h2 hs u _ _ hc⟩;refine⟨ho.1,?_⟩
 rcases ho.2 with h0|⟨g,cap,cur,rfl,hb,hgg,rest⟩
 ·exact Or.inl h0
 ·exact Or.inr ⟨g,cap,cur,rfl,hb,by rw[Below.heap_setCell _ _ _ _ (by simp;omega)];exact hgg,rest⟩
theorem Row.cap {B:Nat}{w:World}{v:Value}{ns:List Pl.Nd}(h:Row B w v ns):Capd v:=by
 obtain⟨xs,ho,_⟩:=h
 rcases ho.2 with ⟨rfl,h0⟩|⟨g,cap,cur,rfl,hb,hgg,h1,h2,_⟩
 ·exact⟨none,0,0,rfl,Nat.le_refl _,by unfold maxLen;omega⟩
 ·exact⟨_,_,_,rfl,h1,h2⟩
theorem Row.doc {B:Nat}{w:World}{v:Value}{ns:List Pl.Nd}(h:Row B w v ns)(hl:ns.length≤64)(hf:∀x∈ns,x.cls.length≤6∧x.ats.length≤4):qar w v ns:=
 ⟨h.nds,h.cap,by unfold maxLen;omega,fun i hi=>⟨by have:=(hf _ (List.getElem_mem hi)).1;unfold maxLen;omega,by have:=(hf _ (List.getElem_mem hi)).2;unfold maxLen;omega⟩⟩
theorem qa9 {ns:List Pl.Nd}(h:Pl.qad ns=0):1≤ns.length∧ns.length≤64∧Pl.okTo ns ns.length=true:=by
 unfold Pl.qad at h
 split at h
 ·omega
 ·split at h
  ·exact⟨by omega,by omega,by assumption⟩
  ·omega
theorem qe5 {ns:List Pl.Nd}{n k:Nat}(h:Pl.okTo ns n=true)(hk:k<n)(hn:k<ns.length):Pl.right ns[k]=true∧Pl.hangs ns k=true:=by
 have:=Pl.okTo_le h (n:=k+1) (by omega);rw[Pl.qde,List.getElem?_eq_getElem hn]at this;simp only[Bool.and_eq_true]at this;exact this.2
theorem qfQ {x:Pl.Nd}(h:Pl.right x=true):x.cls.length≤6∧x.ats.length≤4:=by
 unfold Pl.right Pl.names at h;simp only[Bool.and_eq_true,decide_eq_true_eq,List.length_map]at h;exact⟨h.1.1.2.1.1,h.1.2.1.1⟩
theorem qa6 {ns:List Pl.Nd}(h:Pl.qad ns=0):∀x∈ns,x.cls.length≤6∧x.ats.length≤4:=by
 intro x hx;obtain⟨_,_,hk⟩:=qa9 h;obtain⟨i,hi,rfl⟩:=List.getElem_of_mem hx;exact qfQ (qe5 hk hi hi).1
theorem qcp {ns:List Pl.Nd}{n:Int}(h:qai ns n=0):Pl.qad ns=0∧∃k:Nat,n=k∧k<ns.length:=by
 unfold qai at h
 split at h
 ·split at h
  ·rename_i h1 h2;refine⟨h1,n.toNat,?_⟩;unfold hasB at h2;simp only[Bool.and_eq_true,decide_eq_true_eq]at h2;omega
  ·omega
 ·omega
theorem qe0 (ns:List Pl.Nd)(n:Nat):∀(f e:Nat),e≤ns.length→e≤Pl.qaZ ns n f e∧Pl.qaZ ns n f e≤ns.length
 | 0,e,h=>⟨Nat.le_refl _,h⟩
 | f+1,e,h=>by
  unfold Pl.qaZ
  split
  ·rename_i h1;have:=qe0 ns n f (e+1) (by omega);omega
  ·exact⟨Nat.le_refl _,h⟩
theorem qeF {ns:List Pl.Nd}{n:Nat}(h:n<ns.length):n+1≤Pl.behind ns n∧Pl.behind ns n≤ns.length:=qe0 ns n _ _ h
theorem qa8.part {w:World}{b o:Nat}{ns:List Pl.Nd}(h:∀i (h:i<ns.length),NdAt w b (o+i*5) ns[i])(lo m cap':Nat)(hm:lo+m≤ns.length):qa8 w (.slice (some ⟨b,o+lo*5,none⟩) m cap') ((ns.drop lo).take m):=by
 have hl:((ns.drop lo).take m).length=m:=by simp;omega
 refine⟨_,_,by rw[hl],Or.inr ⟨b,_,rfl,fun i hi=>?_⟩⟩;have:=h (lo+i) (by omega);rw[show o+lo*5+i*5=o+(lo+i)*5 by omega]
 simpa using this
theorem qf5 {α:Type}{l:List α}{lo m:Nat}{x:α}(h:x∈(l.drop lo).take m):x∈l:=List.mem_of_mem_drop (List.mem_of_mem_take h)
def partOf (ns:List Pl.Nd)(n:Int):List Pl.Nd:=if qai ns n=0 then ((ns.drop n.toNat).take (Pl.behind ns n.toNat-n.toNat)).map (Pl.mvd (Pl.qcy n)) else []
theorem qcK {mv:Int→Int}{ms:List Pl.Nd}(h:∀x∈ms,x.cls.length≤6∧x.ats.length≤4):∀x∈ms.map (Pl.mvd mv),x.cls.length≤6∧x.ats.length≤4:=by
 intro x hx;obtain⟨y,hy,rfl⟩:=List.mem_map.1 hx;exact h y hy
theorem three_on {W w':World}{p0 p1 p2:Addr}{v0 v1 v2:Value}(h:W.cell? p0=some v0∧W.cell? p1=some v1∧W.cell? p2=some v2)(hb:Below W.heap.size W w'):w'.cell? p0=some v0∧w'.cell? p1=some v1∧w'.cell? p2=some v2:=
 ⟨qab hb h.1,qab hb h.2.1,qab hb h.2.2⟩
theorem part_any (v:Value)(ns:List Pl.Nd)(n:Int)(w:World)(hd:qar w v ns):
 Calls Tryz.prog 30 #[.agg #[v],.int .i64 n] w fun e w'=>∃v',e=.returned (.tuple #[.agg #[v'],.int .i64 (qai ns n)])∧qar w' v' (partOf ns n)∧Below w.heap.size w w':=by
 obtain⟨hv,hcap,hf⟩:=hd;obtain⟨a,cap,rfl,hc⟩:=id hv;have HV:Hid _:=hv;clear hv;obtain⟨_,_,_,e0,hc1,hc2⟩:=hcap;injection e0 with e1 e2 e3;subst e1 e2 e3
 cases hz:(qai ns n !=0) with
 | true=>
  have HP:Hid (partOf ns n=[]):=by unfold Hid partOf;rw[if_neg (by simpa using hz)]
  clear hc;go_enter Tryz.func30,Tryz.ntmps30
  go_wp2_with fail
  refine(qcf _ ns _ _ hf (qa8.on HV.out (((Below.refl _ _).alloc (Nat.le_refl _) _).alloc (by simp) _ |>.alloc (by simp;omega) _))).mono ?_;rintro e w1 ⟨rfl,h1⟩;have hB:Below w.heap.size w w1:=qaa (((Below.refl _ _).alloc (Nat.le_refl _) _).alloc (by simp) _ |>.alloc (by simp;omega) _) h1;have c0:=qab (p:=⟨w.heap.size+1+1,0,none⟩) (v:=.slice none 0 0) h1 (by simp[go_sem]);have f0:w1.frozen? ⟨w.heap.size+1+1,0,none⟩=false:=by rw[h1.frozen (by simp)];simp[go_sem]
  generalize hE:qai ns n=E at *;clear h1;go_wp2;have q:=World.cell?_setCell_same w1 ⟨w.heap.size+1+1,0,none⟩ (.slice none 0 0) c0
  exact bodyPost_ret (v:=.tuple #[.agg #[.slice none 0 0],.int .i64 E]) (by simp[results,Tryz.results30,go_sem,q]) rfl
   ⟨_,by rw[hE],by rw[HP.out];exact qar.nil _,hB.setCell (p:=⟨w.heap.size+1+1,0,none⟩) (by simp;omega) _⟩
 | false=>
  have hz0:qai ns n=0:=by simpa using hz
  obtain⟨hk0,k,rfl,hk⟩:=qcp hz0;obtain⟨hl1,hl64,_⟩:=qa9 hk0;have hsh:=qa6 hk0
  rcases hc with hc|⟨b,o,rfl,hc⟩
  ·subst hc;simp at hl1
  have hbe:=qeF hk;have HP:Hid (partOf ns k=((ns.drop k).take (Pl.behind ns k-k)).map (Pl.mvd (Pl.qcy k))):=by unfold Hid partOf;rw[if_pos hz0];rfl
  have HC:Hid _:=hc;have HS:Hid _:=hsh;clear hc hz hk0 hsh;have i1:(0:Int)≤(k:Int):=by omega
  have i2:(k:Int)≤(Pl.behind ns k:Int):=by omega
  have i3:(Pl.behind ns k:Int)≤(cap:Int):=by omega
  have i4:¬cap=k:=by omega
  go_enter Tryz.func30,Tryz.ntmps30
  go_wp2_with fail
  have hB0:=(((Below.refl w.heap.size w).alloc (Nat.le_refl _) (.cells #[.slice (some ⟨b,o,none⟩) ns.length cap] 24)).alloc (by simp) (.cells #[.int .i64 k] 3)).alloc (by simp;omega) (.cells #[.slice none 0 0] 24);refine(qcf _ ns _ _ hf (qa8.on HV.out hB0)).mono ?_;rintro e w1 ⟨rfl,h1⟩;rw[hz0];have hB:Below w.heap.size w w1:=qaa hB0 h1;have c0:=qab (p:=⟨w.heap.size,0,none⟩) (v:=.slice (some ⟨b,o,none⟩) ns.length cap) h1 (by simp[go_sem]);have c1:=qab (p:=⟨w.heap.size+1,0,none⟩) (v:=.int .i64 k) h1 (by simp[go_sem]);have c2:=qab (p:=⟨w.heap.size+1+1,0,none⟩) (v:=.slice none 0 0) h1 (by simp[go_sem]);have f2:w1.frozen? ⟨w.heap.size+1+1,0,none⟩=false:=by rw[h1.frozen (by simp)];simp[go_sem]
  have hsz:w.heap.size+3≤w1.heap.size:=by have:=h1.size;simp at this;omega
  clear h1 hB0;go_wp2;have S0:w1.drew.cell? ⟨w.heap.size,0,none⟩=some (.slice (some ⟨b,o,none⟩) ns.length cap)∧w1.drew.cell? ⟨w.heap.size+1,0,none⟩=some (.int .i64 k)∧w1.drew.cell? ⟨w.heap.size+1+1,0,none⟩=some (.slice none 0 0):=⟨c0,c1,c2⟩
  have HC1:∀i (h:i<ns.length),NdAt w1.drew b (o+i*5) ns[i]:=fun i hi=>(HC.out i hi).on hB.drew
  have hW:∀W,Below w1.drew.heap.size w1.drew W→qa8 W (.slice (some ⟨b,o+k*5,none⟩) (Pl.behind ns k-k) (cap-k)) ((ns.drop k).take (Pl.behind ns k-k)):=fun W hW=>qa8.part (fun i hi=>(HC1 i hi).on hW) k _ _ (by omega)
  have hF:∀W (u:Int),Below w1.drew.heap.size w1.drew W→Calls Tryz.prog 77 (#[.int .i64 u]++ #[.pointer (some ⟨w.heap.size+1,0,none⟩)]) W fun e w'=>e=.returned (.int .i64 (Pl.qcy k u))∧w'=W:=fun W u hb=>part1_any _ _ _ _ (qab hb S0.2.1)
  have HW:Hid _:=hW;have HF:Hid _:=hF;have HC2:Hid _:=HC1;clear c0 c1 c2 hW hF HC1
  go_region_held3 (fun w'=>w'.cell? ⟨w.heap.size,0,none⟩=some (.slice (some ⟨b,o,none⟩) ns.length cap)∧w'.cell? ⟨w.heap.size+1,0,none⟩=some (.int .i64 k)∧w'.cell? ⟨w.heap.size+1+1,0,none⟩=some (.slice none 0 0))
   (first|assumption|exact three_on (by assumption) (by assumption))
   (first|(go_at_call 76;refine(qeo b o cap ns k _ hk hl64 HC2.out).mono ?_;rintro e w' ⟨rfl,rfl⟩)|(go_at_call 75;refine(qhh 77 _ _ w1.drew.heap.size _ _ [] _ _ (Nat.le_refl _) (Row.nil _ _) (by simp;omega) enter36 (fun x hx=>HS.out x (qf5 hx)) (HW.out _ (Below.refl _ _)) HW.out HF.out).mono ?_;rintro e w2 ⟨v2,rfl,hrow,hb2⟩))
  all_goals
   have c2:w2.cell? ⟨w.heap.size+1+1,0,none⟩=some (.slice none 0 0):=qab hb2 S0.2.2;have f3:w2.frozen? ⟨w.heap.size+1+1,0,none⟩=false:=by rw[hb2.frozen (by show _<w1.heap.size;simp;omega)];exact f2
   have hB2:Below w.heap.size w w2:=qaa hB.drew hb2;obtain⟨a2,l2,c3,rfl,_,_⟩:=Row.cap hrow;have HR:Hid _:=hrow;clear hb2 S0 f2 hB hrow;go_wp2;have q:=World.cell?_setCell_same w2 ⟨w.heap.size+1+1,0,none⟩ (.slice a2 l2 c3) c2
   refine bodyPost_ret (v:=.tuple #[.agg #[.slice a2 l2 c3],.int .i64 0]) (by simp[results,Tryz.results30,go_sem,q]) rfl
    ⟨_,by rw[hz0],?_,hB2.setCell (p:=⟨w.heap.size+1+1,0,none⟩) (by simp;omega) _⟩
   rw[HP.out];have hr:=Row.set HR.out (M:=w.heap.size+1+1) (j:=0) (by show _<w1.heap.size;omega) c2 (by simp) (.slice a2 l2 c3);rw[List.nil_append]at hr;exact hr.doc (by simp;omega) (qcK (fun x hx=>HS.out x (qf5 hx)))
def qbz (ns:List Pl.Nd)(n:Int):Int:=if qai ns n=0 then (if n=0 then 3 else 0) else qai ns n
def qcc (ns:List Pl.Nd)(n:Int):List Pl.Nd:=
 if qbz ns n=0 then (ns.take n.toNat).map (Pl.mvd id)++(ns.drop (Pl.behind ns n.toNat)).map (Pl.mvd (Pl.qdw n ((Pl.behind ns n.toNat:Int)-n))) else []
theorem qa8.head {w:World}{b o:Nat}{ns:List Pl.Nd}(h:∀i (h:i<ns.length),NdAt w b (o+i*5) ns[i])(m cap':Nat)(hm:m≤ns.length):qa8 w (.slice (some ⟨b,o,none⟩) m cap') (ns.take m):=by
 have:=qa8.part h 0 m cap' (by omega)
 simpa using this
theorem qa8.void {w:World}{ns:List Pl.Nd}(a:Option Addr)(lo c:Nat)(h:lo=ns.length):qa8 w (.slice a (ns.length-lo) c) (ns.drop lo):=by
 subst h;exact⟨a,c,by rw[List.drop_length,Nat.sub_self];rfl,Or.inl (by simp)⟩
theorem qa8.tail {w:World}{b o:Nat}{ns:List Pl.Nd}(h:∀i (h:i<ns.length),NdAt w b (o+i*5) ns[i])(lo cap':Nat)(hm:lo≤ns.length):qa8 w (.slice (some ⟨b,o+lo*5,none⟩) (ns.length-lo) cap') (ns.drop lo):=by
 have:=qa8.part h lo (ns.length-lo) cap' (by omega)
 rwa [List.take_of_length_le (by simp)]at this
theorem boxes (w:World)(o1 o2:Obj):Below w.heap.size w ((w.alloc o1).alloc o2):=((Below.refl w.heap.size w).alloc (Nat.le_refl _) o1).alloc (by simp) o2
theorem qar.form {W:World}{v:Value}{ns:List Pl.Nd}(h:qar W v ns):∃a c,v=.slice a ns.length c:=by
 obtain⟨a,c,h1,_⟩:=h.1;exact⟨a,c,h1⟩
theorem qd4 {W w':World}(hb:Below W.heap.size W w')(p:Addr):∀v,W.cell? p=some v→w'.cell? p=some v:=fun _ h=>qab hb h
theorem d_cl9:Tryz.prog.cellsOf 9=1:=by kernel_rfl
theorem d_cl3:Tryz.prog.cellsOf 3=1:=by kernel_rfl
theorem cl44:Tryz.prog.cellsOf 25=1:=by kernel_rfl
theorem cl45:Tryz.prog.cellsOf 26=1:=by kernel_rfl
theorem d_cl22:Tryz.prog.cellsOf 22=1:=by kernel_rfl
theorem cl95:Tryz.prog.cellsOf 59=2:=by kernel_rfl
theorem cl47:Tryz.prog.cellsOf 28=5:=by kernel_rfl
theorem qgw {W:World}{a:Addr}{v:Value}(h:W.cell? a=some v):a=⟨a.block,a.off,none⟩:=by
 obtain⟨b,o,s⟩:=a
 cases s with
 | none=>rfl
 | some s=>
  exfalso
  unfold World.cell? at h
  split at h
  ·simp at h
  ·cases h
theorem add_zero (a:Addr):a.add 0=a:=by unfold Addr.add;simp
def bytesOf:Value→List UInt8
 | .string s=>s.data.toList
 | _=>[]
theorem d_list5 {α:Type}{l:List α}(h:l.length=5):∃a b c d e,l=[a,b,c,d,e]:=by
 rcases l with _|⟨a,_|⟨b,_|⟨c,_|⟨d,_|⟨e,_|⟨f,r⟩⟩⟩⟩⟩⟩
 all_goals first|exact⟨_,_,_,_,_,rfl⟩|(simp at h;done)|(simp at h;omega)
section
variable {H:Type} {enc:TypeId×Value→H} {W:World} {held:Bool} {fuel:Nat} {cs:List Value} {x:DataW H×List MemPlace}
theorem strs_open (h:DataW.trod enc Tryz.prog W 0 (fun _=>true) held fuel 25 cs=some x):∃v ss,cs=[v]∧qa1 W v ss∧ss.length≤maxLen:=by
 rcases ChangeShapes.open_strings Tryz.underlying25 Tryz.underlying9 d_cl9 h with ⟨rfl,_⟩|⟨a,len,cap,ss,rfl,_,hl,hm,hlen,_,hc,_⟩
 ·exact⟨_,[],rfl,⟨none,0,rfl,Or.inl rfl⟩,by simp⟩
 ·simp at hlen;have hL:((ss.take len).map fun s=>s.data.toList).length=len:=by simp;omega
  refine⟨_,(ss.take len).map fun s=>s.data.toList,rfl,⟨some a,cap,by rw[hL],?_⟩,by omega⟩
  rcases Nat.eq_zero_or_pos len with h0|h0
  ·left;subst h0;simp
  ·right
   have ha:=qgw (by have:=hc 0 (by omega);rwa [add_zero]at this);refine⟨a.block,a.off,by rw[←ha],fun i hi=>?_⟩;rw[hL]at hi;have:=hc i (by omega);rw[ha,Addr.add_lit]at this;rw[this];simp[List.getD,List.getElem?_eq_getElem (show i<ss.length by omega)]
theorem ats_open (h:DataW.trod enc Tryz.prog W 0 (fun _=>true) held fuel 26 cs=some x):∃v ss,cs=[v]∧qbY W v ss∧ss.length≤maxLen:=by
 rcases Deep.open_slice_pairs Tryz.underlying26 Tryz.underlying59 cl95 rfl rfl d_cl9 d_cl9 h with ⟨rfl,_⟩|⟨a,len,cap,m,n,V0,V1,D0,D1,P0,P1,rfl,_,hl,hm,hmm,_,hc⟩
 ·exact⟨_,[],rfl,⟨none,0,rfl,Or.inl rfl⟩,by simp⟩
 ·simp at hmm;have hL:((List.range len).map fun i=>(bytesOf (V0 i),bytesOf (V1 i))).length=len:=by simp
  refine⟨_,(List.range len).map fun i=>(bytesOf (V0 i),bytesOf (V1 i)),rfl,⟨some a,cap,by rw[hL],?_⟩,by omega⟩
  rcases Nat.eq_zero_or_pos len with h0|h0
  ·left;subst h0;simp
  ·right
   have ha:=qgw (by have:=(hc 0 (by omega)).1;rw[Nat.zero_mul,add_zero]at this;exact this);refine⟨a.block,a.off,by rw[←ha],fun i hi=>?_⟩;rw[hL]at hi;obtain⟨q0,q1,t0,t1⟩:=hc i (by omega);obtain⟨s0,e0,_,_⟩:=DataW.trod_string Tryz.underlying9 t0;obtain⟨s1,e1,_,_⟩:=DataW.trod_string Tryz.underlying9 t1;injection e0 with e0 _;injection e1 with e1 _;rw[ha,Addr.add_lit]at q0 q1;rw[←Nat.add_assoc]at q1;simp only[List.getElem_map,List.getElem_range];rw[q0,q1,e0,e1];exact⟨rfl,rfl⟩
theorem elem_open {b o n:Nat}{cs':List Value}{y:DataW H×List MemPlace}(hb:∀i,i<5→W.cell? ⟨b,o+i,none⟩=cs'[i]?)(h:DataW.trod enc Tryz.prog W 0 (fun _=>true) held n 28 cs'=some y):∃x,NdAt W b o x∧Fits x:=by
 obtain⟨xs,m,_,_,hl,hlen,hf⟩:=DataW.trod_struct Tryz.underlying28 h;rw[cl47]at hl;obtain⟨v0,v1,v2,v3,v4,rfl⟩:=d_list5 hl;obtain⟨y0,y1,y2,y3,y4,rfl⟩:=d_list5 hlen;have f0:DataW.trod enc Tryz.prog W 0 (fun _=>true) held m 3 (([v0,v1,v2,v3,v4].drop 0).take (Tryz.prog.cellsOf 3))=some y0:=hf 0 _ rfl;rw[d_cl3]at f0;replace f0:DataW.trod enc Tryz.prog W 0 (fun _=>true) held m 3 [v0]=some y0:=f0;have f1:DataW.trod enc Tryz.prog W 0 (fun _=>true) held m 9 (([v0,v1,v2,v3,v4].drop 1).take (Tryz.prog.cellsOf 9))=some y1:=hf 1 _ rfl;rw[d_cl9]at f1;replace f1:DataW.trod enc Tryz.prog W 0 (fun _=>true) held m 9 [v1]=some y1:=f1;have f2:DataW.trod enc Tryz.prog W 0 (fun _=>true) held m 9 (([v0,v1,v2,v3,v4].drop 2).take (Tryz.prog.cellsOf 9))=some y2:=hf 2 _ rfl;rw[d_cl9]at f2;replace f2:DataW.trod enc Tryz.prog W 0 (fun _=>true) held m 9 [v2]=some y2:=f2;have f3:DataW.trod enc Tryz.prog W 0 (fun _=>true) held m 25 (([v0,v1,v2,v3,v4].drop 3).take (Tryz.prog.cellsOf 25))=some y3:=hf 3 _ rfl;rw[cl44]at f3;replace f3:DataW.trod enc Tryz.prog W 0 (fun _=>true) held m 25 [v3]=some y3:=f3;have f4:DataW.trod enc Tryz.prog W 0 (fun _=>true) held m 26 (([v0,v1,v2,v3,v4].drop 4).take (Tryz.prog.cellsOf 26))=some y4:=hf 4 _ rfl;rw[cl45]at f4;replace f4:DataW.trod enc Tryz.prog W 0 (fun _=>true) held m 26 [v4]=some y4:=f4;obtain⟨k,e0,_,_⟩:=DataW.trod_int Tryz.underlying3 f0;obtain⟨s1,e1,_,_⟩:=DataW.trod_string Tryz.underlying9 f1;obtain⟨s2,e2,_,_⟩:=DataW.trod_string Tryz.underlying9 f2;obtain⟨w3,ss,e3,hs,ls⟩:=strs_open f3;obtain⟨w4,ts,e4,ha,la⟩:=ats_open f4;injection e0 with e0 _;injection e1 with e1 _;injection e2 with e2 _;injection e3 with e3 _;injection e4 with e4 _;subst e0 e1 e2 e3 e4;exact⟨⟨k,s1.data.toList,s2.data.toList,ss,ts⟩,⟨v3,v4,hb 0 (by omega),hb 1 (by omega),hb 2 (by omega),hb 3 (by omega),hb 4 (by omega),hs,ha⟩,ls,la⟩
instance:Inhabited Pl.Nd:=⟨⟨0,[],[],[],[]⟩⟩
theorem nds_open (h:DataW.trod enc Tryz.prog W 0 (fun _=>true) held fuel 22 cs=some x):∃v ns,cs=[v]∧qar W v ns:=by
 rcases Deep.open_slice Tryz.underlying22 h with ⟨rfl,_⟩|⟨a,len,cap,m,n,D,Pl,rfl,_,hl,hm,hmm,_,hc⟩
 ·exact⟨_,[],rfl,qar.nil W⟩
 ·simp at hmm
  rcases Nat.eq_zero_or_pos len with h0|h0
  ·subst h0;exact⟨_,[],rfl,⟨some a,cap,rfl,Or.inl rfl⟩,⟨_,_,_,rfl,hl,hm⟩,by simp,fun i h=>by simp at h⟩
  have hcell:∀i,i<len→∃cs':List Value,(∀j,j<5→W.cell? ((a.add (i*5)).add j)=cs'[j]?)∧∃y,DataW.trod enc Tryz.prog W 0 (fun _=>true) held n 28 cs'=some y:=by
   intro i hi;obtain⟨cs',h1,h2⟩:=hc i (by omega);rw[cl47]at h1;obtain⟨_,h4,h3⟩:=World.cells?_some h1;exact⟨cs',fun j hj=>h3 j hj,_,h2⟩
  have ha:a=⟨a.block,a.off,none⟩:=by
   obtain⟨cs',h1,y,h2⟩:=hcell 0 h0;obtain⟨_,_,_,_,hl5,_⟩:=DataW.trod_struct Tryz.underlying28 h2;rw[cl47]at hl5;have h3:=h1 0 (by omega);rw[Nat.zero_mul,add_zero,add_zero,List.getElem?_eq_getElem (by omega)]at h3;exact qgw h3
  have hex:∀i,i<len→∃x,NdAt W a.block (a.off+i*5) x∧Fits x:=by
   intro i hi;obtain⟨cs',h1,y,h2⟩:=hcell i hi;refine elem_open (fun j hj=>?_) h2;have:=h1 j hj;rw[ha,Addr.add_lit,Addr.add_lit]at this;exact this
  obtain⟨f,hf⟩:=Deep.choose_lt hex;have hL:((List.range len).map f).length=len:=by simp
  refine⟨_,(List.range len).map f,rfl,⟨some a,cap,by rw[hL],Or.inr ⟨a.block,a.off,by rw[←ha],fun i hi=>?_⟩⟩,⟨_,_,_,rfl,hl,hm⟩,by omega,fun i hi=>?_⟩
  ·rw[hL]at hi;simp only[List.getElem_map,List.getElem_range];exact(hf i hi).1
  ·rw[hL]at hi;simp only[List.getElem_map,List.getElem_range];exact(hf i hi).2
end
end Go.Proofs.YtephhllfodlfbaaGreatDoor
namespace Go.Proofs.YtephhllfodlfbaaGreatDoor
open Go.ChangeShapes Go.WideShapes Go.ChangeAt Go.RowKit Go.Joins
theorem ownTryz:ownKnob Tryz.prog.godebug=none:=by kernel_rfl
theorem qb2:laidOutB Tryz.prog=true:=by kernel_rfl
theorem doc_open {H:Type}{enc:TypeId×Value→H}{W:World}{r:Reach}{b0:Nat}{v:Value}{d:DataW H}{p:List MemPlace}(hv:Value.okWide Tryz.prog W r b0 24 v)(h:DataW.Trod enc Tryz.prog W 0 (fun _=>true) true 24 v d p):∃s ns,v=.agg #[s]∧qar W s ns:=by
 obtain⟨cs,rfl,_⟩:=okWide_struct Tryz.underlying24 hv;obtain⟨fuel,hf⟩:=h;obtain⟨y0,n,_,hl,h0⟩:=trod_struct1 Tryz.underlying24 hf
 have hl1:cs.toList.length=1:=by
  have:Tryz.prog.cellsOf 24=1:=by kernel_rfl
  rw[this]at hl;exact hl
 obtain⟨s,hs⟩:∃s,cs= #[s]:=by
  obtain⟨l⟩:=cs
  match l,hl1 with
  | [s],_=>exact⟨s,rfl⟩
 subst hs;have h1:DataW.trod enc Tryz.prog W 0 (fun _=>true) true n 22 (([s].drop 0).take (Tryz.prog.cellsOf 22))=some y0:=h0;rw[d_cl22]at h1;obtain⟨v,ns,e,hd⟩:=nds_open h1;injection e with e _;subst e;exact⟨_,ns,rfl,hd⟩
end Go.Proofs.YtephhllfodlfbaaGreatDoor
