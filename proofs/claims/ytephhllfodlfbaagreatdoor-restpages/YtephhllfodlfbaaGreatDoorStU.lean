/-
  What the document's own OnceOf needs: plain facts, what stays in a world.
-/
import Derived.Test.YtephhllfodlfbaaGreatDoorOnC
set_option maxRecDepth 100000
set_option maxHeartbeats 16000000
namespace Go.Proofs.YtephhllfodlfbaaGreatDoor
open Go.RowKit
namespace Pl
section
variable {α:Type} [DecidableEq α] {L:Lev α}
omit [DecidableEq α] in
theorem qiz (f:List α→List α)(only:List α→Option (Stp α))(s:Stp α):∀k,qaA id only ⟨s.tag,s.tests.map (plT f)⟩ k=qaA f only s k
 | 0=>rfl
 | k+1=>by
  unfold qaA;rw[qiz f only s k];simp only[List.getElem?_map,List.length_map]
  cases s.tests[k]? with
  | none=>rfl
  | some t=>rfl
theorem plS_map (f:List α→List α)(only:List α→Option (Stp α))(s:Stp α):plS id only ⟨s.tag,s.tests.map (plT f)⟩=plS f only s:=by
 unfold plS;rw[qiz,List.length_map]
def mix (f:List α→List α)(ts:List (Tst α))(j:Nat):List (Tst α):=(ts.take j).map (plT f)++ts.drop j
omit [DecidableEq α] in
theorem qer (f:List α→List α)(ts:List (Tst α))(j:Nat):(mix f ts j).length=ts.length:=by
 unfold mix;rw[List.length_append,List.length_map,List.length_take,List.length_drop];omega
omit [DecidableEq α] in
theorem mix_zero (f:List α→List α)(ts:List (Tst α)):mix f ts 0=ts:=by simp[mix]
omit [DecidableEq α] in
theorem mix_all (f:List α→List α)(ts:List (Tst α)):mix f ts ts.length=ts.map (plT f):=by simp[mix]
omit [DecidableEq α] in
theorem mix_get (f:List α→List α)(ts:List (Tst α)){j:Nat}(h:j<ts.length):(mix f ts j)[j]'(by rw[qer];exact h)=ts[j]:=by
 unfold mix;rw[List.getElem_append_right (by simp;omega)];simp only[List.length_map,List.length_take,List.getElem_drop]
 congr 1
 omega
omit [DecidableEq α] in
theorem mix_next (f:List α→List α)(ts:List (Tst α)){j:Nat}(h:j<ts.length):mix f ts (j+1)=(mix f ts j).set j { ts[j] with list:=f ts[j].list }:=by
 unfold mix;rw[List.take_succ_eq_append_getElem h,List.map_append,List.append_assoc,List.set_append_right _ _ (by simp;omega)]
 congr 1
 rw[List.drop_eq_getElem_cons h];have e:j-(List.map (plT f) (List.take j ts)).length=0:=by simp;omega
 rw[e];rfl
theorem plL_ok (hL:qcR L){l:List (Pth α)}(h:okL L.W l):okL L.W (plL L.f L.only l):=by
 obtain⟨h1,h2⟩:=h;refine⟨?_,fun p hp=>?_⟩
 ·have:=qe4 (l.map (plP L.f L.only));unfold plL;rw[List.length_map]at this;omega
 ·obtain⟨q,hq,rfl⟩:=List.mem_map.1 (qfj.1 hp);exact(qgc hL (h2 q hq)).2
end
end Pl
structure Kp (keep:Nat→Bool)(w w':World):Prop where
 os:w'.os=w.os
 tape:w'.tape=w.tape
 output:w'.output=w.output
 size:w.heap.size≤w'.heap.size
 blk:∀j,j<w.heap.size→keep j=true→w'.heap[j]? =w.heap[j]?
section
variable {keep keep':Nat→Bool} {w w1 w2:World}
theorem Kp.refl (keep:Nat→Bool)(w:World):Kp keep w w:=⟨rfl,rfl,rfl,Nat.le_refl _,fun _ _ _=>rfl⟩
theorem Kp.below (h:Kp keep w w1)(hb:Below w1.heap.size w1 w2):Kp keep w w2:=⟨hb.os.trans h.os,hb.tape.trans h.tape,hb.output.trans h.output,Nat.le_trans h.size hb.size,fun j hj hk=>(hb.block j (by have:=h.size;omega)).trans (h.blk j hj hk)⟩
theorem Kp.set (h:Kp keep w w1){g i:Nat}(v:Value)(hg:g<w.heap.size→keep g=false):Kp keep w (w1.setCell ⟨g,i,none⟩ v):=⟨h.os,h.tape,h.output,by simpa [World.setCell] using h.size,fun j hj hk=>(Below.heap_setCell _ _ _ _ (by
 show j≠g
 rintro rfl;rw[hg hj]at hk
 cases hk)).trans (h.blk j hj hk)⟩
theorem Kp.trans (h:Kp keep w w1)(h2:Kp keep' w1 w2)(hk:∀j,j<w.heap.size→keep j=true→keep' j=true):Kp keep w w2:=⟨h2.os.trans h.os,h2.tape.trans h.tape,h2.output.trans h.output,Nat.le_trans h.size h2.size,fun j hj hq=>(h2.blk j (by have:=h.size;omega) (hk j hj hq)).trans (h.blk j hj hq)⟩
theorem Kp.mono (h:Kp keep w w1)(hk:∀j,j<w.heap.size→keep' j=true→keep j=true):Kp keep' w w1:=⟨h.os,h.tape,h.output,h.size,fun j hj hq=>h.blk j hj (hk j hj hq)⟩
theorem Kp.cell (h:Kp keep w w1){j o:Nat}{x:Value}(hc:w.cell? ⟨j,o,none⟩=some x)(hk:keep j=true):w1.cell? ⟨j,o,none⟩=some x:=by
 have hb:=h.blk j (qaV hc) hk;unfold World.cell? at hc ⊢;dsimp only at hc ⊢;rw[hb];exact hc
theorem Kp.grown (h:Kp keep w w1){r:Option Nat}(hg:w1.grownBy w2 r)(hr:∀g,r=some g→g<w.heap.size→keep g=false):Kp keep w w2:=⟨hg.os.trans h.os,hg.tape.trans h.tape,hg.output.trans h.output,Nat.le_trans h.size hg.size,fun j hj hk=>(hg.block j (by have:=h.size;omega) (fun e=>by rw[hr j e.symm hj]at hk;cases hk)).trans (h.blk j hj hk)⟩
theorem Kp.belowB (h:Kp keep w1 w2){n:Nat}(h0:Below n w w1)(hn:n≤w1.heap.size)(hk:∀j,j<n→keep j=true):Below n w w2:=⟨h.os.trans h0.os,h.tape.trans h0.tape,h.output.trans h0.output,Nat.le_trans h0.size h.size,fun j hj=>by
 exact(h.blk j (by omega) (hk j hj)).trans (h0.block j hj)⟩
end
theorem qbV.own {P:Nat→Bool}{B:Nat}{e:TypeId}{k:Nat}{V:Nat→World→List Value→Prop}{n:Nat}{w:World}{v:Value}(h:qbV P B e k V n w v):∀g,v.ownBlock=some g→P g=true∧B≤g∧g<w.heap.size:=by
 obtain⟨xs,hown,hPo,_⟩:=h;intro g hg;exact⟨hPo g hg,(World.ownsRow.lt hown g hg).1,(World.ownsRow.lt hown g hg).2⟩
theorem qa4.toI' {β:Type}{P:Nat→Bool}{B:Nat}{e:TypeId}{k:Nat}{V:World→List Value→β→Prop}(hV:IsVB k V){w:World}{v:Value}{l:List β}(h:qa4 P B e k V w v l):
 ∃own:Nat→Nat,qbV P B e k (fun i W c=>∃h:i<l.length,V (mask (fun j=>own j==i) W) c l[i]) l.length w v:=by
 obtain⟨own,xs,h1,hPo,hv⟩:=h;refine⟨own,xs,h1,hPo,fun i hi=>⟨hi,hV.sub (hv i hi) ?_⟩⟩;rw[qaU];refine qbn fun j hj _=>⟨?_,rfl⟩
 rw[Bool.and_eq_true]at hj ⊢;exact⟨hj.2,hj.1⟩
def VO {α:Type}(A:MemL α)(own:Nat→Nat)(l:List (Pl.Pth α))(w:World)(c:List Value)(x:Pl.Pth α):Prop:=∃q,l[q]? =some x∧VPd A (mask (fun j=>own j==q) w) c x
theorem isVB_vo {α:Type}{A:MemL α}(hS:qaK A){own:Nat→Nat}{l:List (Pl.Pth α)}:IsVB 2 (VO A own l) where
 sub h hi:=by
  obtain⟨q,e,h⟩:=h;exact⟨q,e,(qcQ hS).sub h (qdi hi)⟩
 len h:=by
  obtain⟨q,e,h⟩:=h;exact(qcQ (A:=A) hS).len h
theorem VO.weak {α:Type}{A:MemL α}(hS:qaK A){own:Nat→Nat}{l:List (Pl.Pth α)}{w:World}{c:List Value}{x:Pl.Pth α}(h:VO A own l w c x):VP A w c x:=by
 obtain⟨q,e,h⟩:=h;exact(qfx hS).sub (h.weak hS) (qav _ _)
theorem vo_in {α:Type}{A:MemL α}{own:Nat→Nat}{P:Nat→Bool}{B:Nat}{w:World}{v:Value}{l:List (Pl.Pth α)}(h:qbV P B 64 2 (fun i W c=>∃h:i<l.length,VPd A (mask (fun j=>own j==i) W) c l[i]) l.length w v):Grow P B 64 2 (VO A own l) w v l:=by
 refine h.grow fun i c hi hv=>?_
 obtain⟨q,hv⟩:=hv;exact⟨i,List.getElem?_eq_getElem hi,hv⟩
theorem qip {β:Type}[DecidableEq β](l:List β):(Pl.qaR l).Nodup:=by
 unfold Pl.qaR
 suffices h:∀k:List β,k.Nodup→(l.foldl Pl.qbu k).Nodup from h [] List.nodup_nil
 induction l with
 | nil=>intro k hk;exact hk
 | cons x r ih=>
  intro k hk;rw[List.foldl_cons];refine ih _ ?_;unfold Pl.qbu
  split
  ·exact hk
  ·rename_i hx;rw[List.nodup_append];refine⟨hk,by simp,fun a ha b hb=>?_⟩;rw[List.mem_singleton.1 hb];rintro rfl;exact hx ha
theorem vo_out {α:Type}[DecidableEq α]{A:MemL α}(hS:qaK A){own:Nat→Nat}{P:Nat→Bool}{B:Nat}{w:World}{v:Value}{l:List (Pl.Pth α)}(h:Grow P B 64 2 (VO A own l) w v (Pl.qaR l)):qa4 P B 64 2 (VPd A) w v (Pl.qaR l):=by
 obtain⟨xs,h1,h2,h3⟩:=h;refine⟨fun j=>match l[own j]? with|some x=>(Pl.qaR l).idxOf x|none=>(Pl.qaR l).length,xs,h1,h2,fun i hi=>?_⟩;obtain⟨q,hq,hv⟩:=h3 i hi;refine(qcQ hS).sub hv ?_;rw[qaU];refine qam fun j hj _=>⟨?_,rfl⟩
 rw[Bool.and_eq_true,beq_iff_eq]at hj;rw[Bool.and_eq_true,beq_iff_eq];refine⟨hj.2,?_⟩
 show (match l[own j]? with|some x=>(Pl.qaR l).idxOf x|none=>(Pl.qaR l).length)=i
 rw[hj.1,hq];exact List.Nodup.idxOf_getElem (qip l) i hi
theorem qiR {α:Type}[DecidableEq α]{A0 A:MemL α}(hA0:IsL A0)(hA:IsL A)(hS:qaK A)(L:Pl.Lev α)(hL:Pl.qcR L)(hPath:PathC2 A0 A L)(hsame:∀(w:World) (v1 v2:Value) (l m:List α),A w v1 l→A w v2 m→L.W l→L.W m→Calls Tryz.prog 52 #[v1,v2] w fun e w'=>e=.returned (.bool (sm l m))∧Below w.heap.size w w')
 (w:World) (v:Value) (l:List (Pl.Pth α)) (hl:qbp A0 w v l) (hok:Pl.okL L.W l):
 Calls Tryz.prog 51 #[v] w fun e w'=>∃a c,e=.returned (.slice a (Pl.plL L.f L.only l).length c)∧qa4 (frm w.heap.size) w.heap.size 64 2 (VPd A) w' (.slice a (Pl.plL L.f L.only l).length c) (Pl.plL L.f L.only l)∧Below w.heap.size w w':=by
 obtain⟨a,c,rfl,-,hcs⟩:=hl;have HR:Hid _:=hcs;have HOK:Hid (Pl.okL L.W l):=hok;have h5:=hok.1;clear hcs hok;go_enter Tryz.func51,Tryz.ntmps51;go_wp2
 go_loopw [3,8] (fun u i wr=>∃k:Nat,k≤l.length∧i=.int .i64 k∧Hid (qa4 (frm w.heap.size) w.heap.size 64 2 (VPd A) wr u (plTo L l k))∧Hid (Below w.heap.size w wr)) (fun _ i _=>l.length-(intOf i).toNat)
 case atStart=>exact⟨0,Nat.zero_le _,rfl,qa4.nil _ _ _ _ _ _,Below.refl _ _⟩
 case round=>
  obtain⟨k,hk,rfl,HG,HB⟩:=hrel;obtain⟨au,cu,rfl⟩:=HG.out.form
  by_cases hlt:k<l.length
  ·as_aux_lemma=>
   rcases HR.out with h0|⟨b,o,rfl,hc⟩
   ·rw[h0]at hlt;simp at hlt
   obtain⟨vs,vl,n0,n1,hP,hLk⟩:=hc k hlt;obtain⟨as_,cs,rfl⟩:=hP.form;obtain⟨al,cl,rfl⟩:=hLk.form;replace n0:=qab HB.out n0;replace n1:=qab HB.out n1;have hokp:=HOK.out.2 l[k] (List.getElem_mem hlt);have HNX:Hid _:=plTo_next (L:=L) hlt;have HLN:Hid ((plTo L l k).length+1≤64):=by unfold Hid;have:=plTo_len L l k;omega
   have i1:(0:Int)≤(k:Int):=by omega
   have i2:(k:Int)<(l.length:Int):=by omega
   clear hc;generalize l[k]=p at *;generalize plTo L l k=done at *;have hba:=qac wr (.cells #[.slice as_ p.steps.length cs,.slice al p.links.length cl] 64);have hbw:=qaa HB.out hba;have HC:Hid (Calls Tryz.prog 106 _ _ _):=hPath as_ al cs cl p (wr.alloc (.cells #[.slice as_ p.steps.length cs,.slice al p.links.length cl] 64)) (hP.map fun _ _ _ hq=>hq.on hA0 hbw) (hLk.map fun _ _ _ hq=>qab hbw hq) hokp;have HBA:Hid (Below wr.heap.size wr (wr.alloc (.cells #[.slice as_ p.steps.length cs,.slice al p.links.length cl] 64))):=hba;have HBW:Hid (Below w.heap.size w (wr.alloc (.cells #[.slice as_ p.steps.length cs,.slice al p.links.length cl] 64))):=hbw;clear hba hbw hP hLk hokp;obtain⟨wq,hwq⟩:∃q,q=wr:=⟨_,rfl⟩
   subst hwq
   go_wp2_with fail
   clear n0 n1;generalize wq.alloc (.cells #[.slice as_ p.steps.length cs,.slice al p.links.length cl] 64)=wa at *;refine HC.out.mono ?_;rintro e w2 ⟨a1,c1,a2,c2,rfl,hr1,hb2⟩;generalize Pl.plP L.f L.only p=q at *;have hbq:Below wq.heap.size wq w2:=qaa HBA.out hb2;have HSM:Hid (∀j,j<wq.heap.size→w2.heap[j]? =wq.heap[j]?):=fun j hj=>hbq.block j hj
   have HS2:Hid (wq.heap.size≤w2.heap.size):=hbq.size;have hsz:w.heap.size≤w2.heap.size:=(qaa HBW.out hb2).size;have HSZ:Hid _:=hsz
   have HNEW:Hid (VPd A (mask (fun j=>frm w.heap.size j&&decide (wq.heap.size≤j)) w2) [.slice a1 q.steps.length c1,.slice a2 q.links.length c2] q):=(qcQ hS).sub hr1 (qam fun j hj _=>⟨by
    have h1:=HBA.out.size;have h2:=HB.out.size;simp only[frm,decide_eq_true_eq,Bool.and_eq_true]at hj ⊢
    omega,rfl⟩)
   have HB2:Hid (Below w.heap.size w w2):=qaa HBW.out hb2;clear hr1 hb2 hbq hsz HC
   go_wp2_with (at_builtin;refine Hid.out ?_)
   unfold Hid;refine qdI (P:=frm w.heap.size) (B:=w.heap.size) (qcQ hS) Tryz.underlying29 infP rfl (by decide) (by decide) (w0:=wq) (w2:=w2) (v:=.slice au done.length cu) (l:=done) (x:=q) (news:=[.slice a1 q.steps.length c1,.slice a2 q.links.length c2]) ?_ (.tmp 12) (.tmp 15) ?_ ?_ ?_ HG.out HSM.out HS2.out HNEW.out ?_ HLN.out HSZ.out ?_ ?_
   ·rfl
   ·rfl
   ·rfl
   ·first|rfl|(simp[Act.eval];done)
   ·intro u hu;simp only[List.mem_cons,List.not_mem_nil,or_false]at hu
    rcases hu with rfl|rfl<;>rfl
   ·have:=HSZ.out;simp only[frm,decide_eq_true_eq];omega
   intro g cap w3 hg3 hb3 _;have HG3:Hid (qa4 (frm w.heap.size) w.heap.size 64 2 (VPd A) w3 (.slice (some ⟨g,0,none⟩) (done.length+1) cap) (plTo L l (k+1))):=by unfold Hid;rw[HNX.out];exact hg3
   have HB3:Hid (Below w.heap.size w w3):=(qaa HB2.out (qac _ _)).grown hb3 (by have:=HB2.out.size;simp;omega) (fun j hj=>(HG.out.own j hj).2.1);clear hg3 hb3;go_wp2;exact⟨⟨k+1,hlt,by go_num,HG3,HB3⟩,by simp[intOf];omega⟩
  ·as_aux_lemma=>
   have hke:k=l.length:=by omega
   subst hke;have HPL:Hid (Pl.plL L.f L.only l=Pl.qaR (plTo L l l.length)):=by unfold Hid Pl.plL plTo;rw[List.take_length]
   have hlen:=plTo_len L l l.length
   have hw:∀q∈plTo L l l.length,∀s∈q.steps,∀t∈s.tests,L.W t.list:=by
    intro q hq s hs t ht;unfold plTo at hq;rw[List.take_length]at hq;obtain⟨p,hp,rfl⟩:=List.mem_map.1 hq;exact(((Pl.qgc hL (HOK.out.2 p hp)).2.2.2.2) s hs).2 t ht
   obtain⟨own,hI⟩:=HG.out.toI' (qcQ hS);have HCF:Hid (Calls Tryz.prog 107 _ _ _):=qiQ hA (fun p=>∀s∈p.steps,∀t∈s.tests,L.W t.list) (fun W v u t s ht hs p q=>qhV hA L.W hsame W v u t s ht hs p q) hS (VO A own (plTo L l l.length)) (isVB_vo hS) (fun h=>h.weak hS) w.heap.size _ _ wr HB.out.size (Grow.row (isV_ev (isVB_vo hS)) (vo_in hI)) (by omega) hw;clear hw hlen hI;generalize plTo L l l.length=done at *
   go_wp2_with fail
   refine HCF.out.mono ?_;rintro e w8 ⟨v8,rfl,hr8,hb8⟩;obtain⟨a8,c8,rfl⟩:=hr8.form;have HR8:Hid (qa4 (frm w.heap.size) w.heap.size 64 2 (VPd A) w8 (.slice a8 (Pl.qaR done).length c8) (Pl.qaR done)):=vo_out hS hr8;have HB8:Hid (Below w.heap.size w w8):=qaa HB.out hb8;clear hr8 hb8 HCF;go_wp2;go_ret;rw[HPL.out];exact⟨a8,c8,rfl,HR8.out,HB8.out⟩
def Str {α:Type}(A:MemL α):MemL (Pl.Pth α):=fun w v l=>(∃a c,v=.slice a l.length c∧l.length≤c∧c≤maxLen)∧(l=[]∨∃B,qa4 (frm B) B 64 2 (VPd A) w v l)
theorem qa4.bound {β:Type}{P:Nat→Bool}{B:Nat}{e:TypeId}{k:Nat}{V:World→List Value→β→Prop}{w:World}{v:Value}{l:List β}(h:qa4 P B e k V w v l):∃a c,v=.slice a l.length c∧l.length≤c∧c≤maxLen:=by
 obtain⟨own,xs,h,_⟩:=h
 rcases h.2 with ⟨rfl,h0⟩|⟨g,cap,cur,rfl,_,_,h1,h2,_⟩
 ·exact⟨none,0,by rw[h0],by omega,by unfold maxLen;omega⟩
 ·exact⟨_,cap,rfl,h1,h2⟩
section
variable {α:Type} {A A':MemL α}
theorem isL_str (hS:qaK A):IsL (Str A) where
 form h:=by
  obtain⟨⟨a,c,e,h1,h2⟩,_⟩:=h;exact⟨a,c,e,Nat.le_trans h1 h2⟩
 on h hb:=by
  obtain⟨h0,h|⟨B,h⟩⟩:=h
  ·exact⟨h0,Or.inl h⟩
  ·exact⟨h0,Or.inr ⟨B,h.move (qcQ hS) fun j _ hj=>hb.block j hj⟩⟩
 nil w:=⟨⟨none,0,rfl,by simp,by unfold maxLen;omega⟩,Or.inl rfl⟩
theorem qfZ (hS:qaK A):qaK (Str A):=⟨fun h hi=>by
 obtain⟨h0,h|⟨B,h⟩⟩:=h
 ·exact⟨h0,Or.inl h⟩
 ·exact⟨h0,Or.inr ⟨B,h.sub (qcQ hS) (by decide) hi⟩⟩⟩
theorem Str.weak (hS:qaK A){w:World}{v:Value}{l:List (Pl.Pth α)}(h:Str A w v l):qbp A w v l:=by
 obtain⟨⟨a,c,rfl,h1,h2⟩,rfl|⟨B,h⟩⟩:=h
 ·exact⟨a,c,rfl,⟨h1,h2⟩,Or.inl rfl⟩
 ·exact qaf.map (Grow.row (qfx hS) (h.weak (qfx hS).b fun q=>q.weak hS)) fun _ _ _ hq=>hq.sub hS (qav _ _)
theorem qbp.mono (hm:∀{w:World} {v:Value} {l:List α},A w v l→A' w v l){w:World}{v:Value}{l:List (Pl.Pth α)}(h:qbp A w v l):qbp A' w v l:=qaf.map h fun _ _ _ hp=>by
 obtain⟨v,u,h0,h1,h2,h3⟩:=hp;refine⟨v,u,h0,h1,h2.map fun _ _ _ hs=>?_,h3⟩;obtain⟨v,g0,g1,g2⟩:=hs;refine⟨v,g0,g1,g2.map fun _ _ _ ht=>?_⟩;obtain⟨x,t0,t1,t2,t3,t4,t5,t6⟩:=ht;exact⟨x,t0,t1,t2,t3,t4,t5,hm t6⟩
theorem Grow.mapV {β γ:Type}{P:Nat→Bool}{B:Nat}{e:TypeId}{k:Nat}{V:World→List Value→β→Prop}{V':World→List Value→γ→Prop}{w:World}{v:Value}{l:List β}(f:β→γ)(h:Grow P B e k V w v l)(hv:∀W c x,x∈l→V W c x→V' W c (f x)):Grow P B e k V' w v (l.map f):=by
 obtain⟨xs,h1,h2,h3⟩:=h;exact⟨xs,by rw[List.length_map];exact h1,h2,fun i hi=>by rw[List.getElem_map];exact hv _ _ _ (List.getElem_mem _) (h3 i (by simpa using hi))⟩
theorem qa4.mapV {β γ:Type}{P:Nat→Bool}{B:Nat}{e:TypeId}{k:Nat}{V:World→List Value→β→Prop}{V':World→List Value→γ→Prop}{w:World}{v:Value}{l:List β}(f:β→γ)(h:qa4 P B e k V w v l)(hv:∀W c x,x∈l→V W c x→V' W c (f x)):qa4 P B e k V' w v (l.map f):=by
 obtain⟨own,xs,h1,h2,h3⟩:=h;exact⟨own,xs,by rw[List.length_map];exact h1,h2,fun i hi=>by rw[List.getElem_map];exact hv _ _ _ (List.getElem_mem _) (h3 i (by simpa using hi))⟩
def LiftS (A:MemL α)(W0:List α→Prop)(lift:List α→List (Pl.Pth α)):Prop:=∀(W:World) (v:Value) (l:List α),A W v l→W0 l→Str A W v (lift l)
theorem liftS_up {W0:List α→Prop}{lift:List α→List (Pl.Pth α)}(h:LiftS A W0 lift):LiftS (Str A) (Pl.okL W0) (trL lift):=fun W v l hl hw=>by
 obtain⟨h0,h1⟩:=hl;refine⟨by unfold trL;rw[List.length_map];exact h0,?_⟩
 rcases h1 with rfl|⟨B,h1⟩
 ·exact Or.inl rfl
 ·refine Or.inr ⟨B,h1.mapV (trP lift) fun W' c p hp hv=>?_⟩;obtain⟨v,u,B2,e,g1,g2⟩:=hv;refine⟨v,u,B2,e,g1.mapV (trS lift) fun W2 c2 s hs hv2=>?_,g2⟩;obtain⟨v2,B3,e2,g3⟩:=hv2;refine⟨v2,B3,e2,g3.mapV (trT lift) fun W3 c3 t ht hv3=>?_⟩;obtain⟨v3,e3,g4⟩:=hv3;exact⟨v3,e3,h _ _ _ g4 (((hw.2 p hp).2.2.2 s hs).2 t ht)⟩
theorem liftG {W0:List α→Prop}{T:MemL (Pl.Pth α)}{lift:List α→List (Pl.Pth α)}(h:∀(W:World) (v:Value) (l:List α),A W v l→W0 l→T W v (lift l)){W:World}{v:Value}{ts:List (Pl.Tst α)}(ht:qaf (qaF A) 6 W v ts)(hw:∀t∈ts,W0 t.list):qaf (qaF T) 6 W v (ts.map (trT lift)):=by
 refine qg9 _ ht fun b o t hm ht=>?_
 obtain⟨x,t0,t1,t2,t3,t4,t5,t6⟩:=ht;exact⟨x,t0,t1,t2,t3,t4,t5,h _ _ _ t6 (hw t hm)⟩
end
theorem only_gen {α:Type}[DecidableEq α]{A:MemL α}{T:MemL (Pl.Pth α)}{L:Pl.Lev α}{lift:List α→List (Pl.Pth α)}(hl:∀(W:World) (v:Value) (l:List α),A W v l→L.W l→T W v (lift l))(w:World)(Q:Nat→Bool)(v:Value)(l:List (Pl.Pth α))(h:qbp A (mask Q w) v l)(hw:Pl.okL L.W l):Calls Tryz.prog 199 #[v] w (qdX T ((L.up lift).only l) Q w):=by
 have h':qaf (qct A) 2 (mask Q w) v l:=h;obtain⟨a,c,rfl,-,hcs⟩:=h'
 show Calls Tryz.prog 199 _ w (qdX T (Pl.qf4 lift l) Q w)
 match l,hcs,hw with
 | [],_,_=>
  refine(only_no a 0 c w (by decide)).mono ?_;rintro e w' ⟨rfl,hb⟩;exact⟨Or.inl ⟨rfl,rfl⟩,hb⟩
 | p::q::r,_,_=>
  refine(only_no a _ c w (by simp)).mono ?_;rintro e w' ⟨rfl,hb⟩;exact⟨Or.inl ⟨rfl,rfl⟩,hb⟩
 | [p],hcs,hw=>
  rcases hcs with h0|⟨b,o,rfl,hc⟩
  ·cases h0
  obtain⟨vs,vl,n0,n1,hP,hL⟩:=hc 0 (by simp);have n0':=(qah.1 n0).2;have hp:Pl.okP L.W p:=hw.2 p (List.mem_singleton.2 rfl);obtain⟨as_,cs,rfl,-,hs⟩:=hP;have hlen:([p]:List (Pl.Pth α))[0].steps=p.steps:=rfl;rw[hlen]at n0' hs;simp only[Nat.zero_mul,Nat.add_zero]at n0';obtain⟨ss,hss⟩:∃ss,ss=p.steps:=⟨_,rfl⟩
  rw[←hss]at n0' hs;unfold Pl.qf4;dsimp only;rw[←hss]
  match ss,hs,hss with
  | [],_,_=>
   refine(qie b o c as_ 0 cs w n0' (by decide)).mono ?_;rintro e w' ⟨rfl,hb⟩;exact⟨Or.inl ⟨rfl,rfl⟩,hb⟩
  | s::s2::r,_,_=>
   refine(qie b o c as_ _ cs w n0' (by simp)).mono ?_;rintro e w' ⟨rfl,hb⟩;exact⟨Or.inl ⟨rfl,rfl⟩,hb⟩
  | [s],hs,hss=>
   rcases hs with h0|⟨b2,o2,rfl,hc2⟩
   ·cases h0
   obtain⟨vt,m0,m1,hT⟩:=hc2 0 (by simp);obtain⟨at_,ct,rfl⟩:=hT.form;have k0:=(qah.1 m0).2;have k1:=(qah.1 m1).2;simp only[Nat.zero_mul,Nat.add_zero]at k0 k1;have hok:=(hp.2.2.2 s (by rw[←hss];exact List.mem_singleton.2 rfl)).2;refine(only_yes b o c b2 o2 cs _ at_ _ ct w n0' k0 k1).mono ?_;rintro e w' ⟨rfl,hb⟩;have hr:=liftG hl hT hok;refine⟨Or.inr ⟨trS lift s,at_,ct,rfl,?_,?_⟩,hb⟩
   ·simp[trS]
   ·simpa [trS] using hr
theorem qiw {α:Type}[DecidableEq α]{A:MemL α}(hS:qaK A){L:Pl.Lev α}{lift:List α→List (Pl.Pth α)}(hl:LiftS A L.W lift):OnlyC (Str A) (L.up lift):=fun w Q v l h hw=>only_gen hl w Q v l (h.weak hS) hw
theorem qhi {α:Type}[DecidableEq α]{A0 A:MemL α}(hA0:IsL A0)(hA:IsL A)(hS:qaK A)(L:Pl.Lev α)(hL:Pl.qcR L)(hO:OnlyC A L)(hP:PlC2 A0 A L)(hsame:∀(w:World) (v1 v2:Value) (l m:List α),A w v1 l→A w v2 m→L.W l→L.W m→Calls Tryz.prog 52 #[v1,v2] w fun e w'=>e=.returned (.bool (sm l m))∧Below w.heap.size w w')(lift:List α→List (Pl.Pth α)):PlC2 (qbp A0) (Str A) (L.up lift):=fun w v l h hw=>by
 refine(qiR hA0 hA hS L hL (path_str hA0 hS L (fun a c s w h ok=>plStep_str hA0 hA hS L hL (padd_any hA hS L hL hO) hP hsame a c s w h ok)) hsame w v l h hw).mono ?_;rintro e w' ⟨a,c,rfl,hg,hb⟩;exact⟨a,c,rfl,⟨hg.bound,Or.inr ⟨w.heap.size,hg.masked (qcQ hS) fun j hj _=>hj⟩⟩,hb⟩
theorem plC2_0:PlC2 ZAt ZAt Pl.L0:=fun w v l h hw=>by
 have hw:l=[]:=hw;subst hw;obtain⟨a,c,rfl,h1,h2⟩:=h;have:=qhi qcP qcP qbE LF isLev_F (fun _ _ _ _ _ h=>h.elim) (fun _ _ _ _ h=>h.elim) (fun _ _ _ _ _ _ _ h=>h.elim) (fun _=>[]) w (.slice a 0 c) [] ⟨a,c,rfl,⟨h1,h2⟩,Or.inl rfl⟩ ⟨by simp,fun p hp=>by simp at hp⟩;refine this.mono ?_;rintro e w' ⟨a',c',rfl,hr,hb⟩;obtain⟨⟨a2,c2,e2,h3,h4⟩,-⟩:=hr;exact⟨a',c',rfl,⟨a2,c2,e2,h3,h4⟩,hb⟩
abbrev S1:MemL Pl.D1:=Str ZAt
abbrev S2:MemL Pl.D2:=Str S1
abbrev S3:MemL Pl.D3:=Str S2
theorem sub_1:qaK S1:=qfZ qbE
theorem sub_2:qaK S2:=qfZ sub_1
theorem weak_1 {w:World}{v:Value}{l:List Pl.D1}(h:S1 w v l):A1 w v l:=Str.weak qbE h
theorem weak_2 {w:World}{v:Value}{l:List Pl.D2}(h:S2 w v l):A2 w v l:=qbp.mono weak_1 (Str.weak sub_1 h)
theorem weak_3 {w:World}{v:Value}{l:List Pl.D3}(h:S3 w v l):A3 w v l:=qbp.mono weak_2 (Str.weak sub_2 h)
theorem liftS_0:LiftS ZAt Pl.L0.W Pl.qfy:=fun W v l h hw=>by
 obtain⟨a,c,rfl,h1,h2⟩:=h;have hw:l=[]:=hw;subst hw;exact⟨⟨a,c,rfl,by simp[Pl.qfy],h2⟩,Or.inl rfl⟩
theorem liftS_1:LiftS S1 Pl.L1.W Pl.lift1:=liftS_up liftS_0
theorem plC2_1:PlC2 A1 S1 Pl.L1:=qhi qcP qcP qbE Pl.L0 Pl.isLev_0 onlyC_0 plC2_0 sameL_z Pl.qfy
theorem plC2_2:PlC2 A2 S2 Pl.L2:=qhi qdA (isL_str qbE) sub_1 Pl.L1 Pl.isLev_1 (qiw qbE liftS_0) plC2_1 (fun w v1 v2 l m h1 h2 o1 o2=>sameL_1 w v1 v2 l m (weak_1 h1) (weak_1 h2) o1 o2) Pl.lift1
theorem plC2_3:PlC2 A3 S3 Pl.L3:=qhi qdJ (isL_str sub_1) sub_2 Pl.L2 Pl.isLev_2 (qiw sub_1 liftS_1) plC2_2 (fun w v1 v2 l m h1 h2 o1 o2=>sameL_2 w v1 v2 l m (weak_2 h1) (weak_2 h2) o1 o2) Pl.lift2
theorem sub_3:qaK S3:=qfZ sub_2
theorem qgz (w:World)(v:Value)(l:List Pl.D3)(h:A3 w v l)(hF:qaL w):Calls Tryz.prog 15 #[v] w fun e w'=>∃a c,e=.returned (.tuple #[.slice a (qbL l).length c,.int .i64 (qbs l)])∧S3 (mask (frm w.heap.size) w') (.slice a (qbL l).length c) (qbL l)∧Below w.heap.size w w':=by
 have hC:=qg6 w v l h hF;have HV:Hid (A3 w v l):=h;obtain⟨mz,hmz⟩:=mz_there;have HMZ:Hid (∀v w l,A3 w v l→mz v w=Pl.qcZ l):=hmz;clear hmz;obtain⟨a,c,rfl,-⟩:=qcB.form h
 by_cases h0:qbs l=0
 ·have hs:qbL l=Pl.qbo l:=by unfold qbL;rw[if_pos h0]
  have HW:Hid (Pl.W3 l):=W3_of h0;rw[hs,h0];rw[h0]at hC;have HC:Hid (Calls Tryz.prog 44 _ _ _):=hC;obtain⟨pl,hpl⟩:∃q,q=Pl.qbo l:=⟨_,rfl⟩
  rw[←hpl];have HPL:Hid (pl=Pl.qbo l):=hpl;clear h hF hC h0 hs hpl;go_enter Tryz.func15,Tryz.ntmps15
  go_wp2_with fail
  refine HC.out.mono ?_;rintro e w1 ⟨rfl,hb1⟩;have HB1:Hid (Below w.heap.size w w1):=hb1;have HA1:Hid (A3 w1 (.slice a l.length c) l):=qcB.on HV.out hb1;clear hb1 HC;go_wp2
  go_loopw [0] (fun v wr=>∃(l':List Pl.D3) (a':Option Addr) (c':Nat),v=.slice a' l'.length c'∧Hid (A3 wr (.slice a' l'.length c') l')∧Hid (Pl.W3 l')∧Hid (pl=Pl.qbo l')∧Hid (Below w.heap.size w wr)) (fun v wr=>mz v wr)
  case atStart=>exact⟨l,a,c,rfl,HA1,HW,HPL,HB1⟩
  case round=>
   obtain⟨l',a',c',rfl,HA,HWl,HP,HB⟩:=hrel;have HC:Hid (Calls Tryz.prog 51 _ _ _):=plC2_3 wr _ l' HA.out HWl.out;have hmz:=HMZ.out _ _ _ HA.out;have HZ:Hid _:=hmz;clear hmz HA1 HB1 HV HW HPL;obtain⟨wq,hwq⟩:∃q,q=wr:=⟨_,rfl⟩
   subst hwq
   go_wp2_with fail
   refine HC.out.mono ?_;rintro e w2 ⟨a2,c2,rfl,hr2,hb2⟩;have hA2:A3 w2 (.slice a2 (Pl.L3.f l').length c2) (Pl.L3.f l'):=weak_3 (sub_3.sub hr2 (qav _ _));have HA2:Hid (A3 w2 (.slice a2 (Pl.L3.f l').length c2) (Pl.L3.f l')):=hA2;have HS2:Hid (Calls Tryz.prog 52 _ _ _):=sameL_3 w2 _ _ l' (Pl.L3.f l') (qcB.on HA.out hb2) hA2 HWl.out (Pl.qet HWl.out);have HR2:Hid (S3 (mask (frm w.heap.size) w2) (.slice a2 (Pl.L3.f l').length c2) (Pl.L3.f l')):=sub_3.sub hr2 (qam fun j hj _=>⟨by have:=HB.out.size;simp only[frm,decide_eq_true_eq]at hj ⊢;omega,rfl⟩);have HB2:Hid (Below w.heap.size w w2):=qaa HB.out hb2;have HW2:Hid (Pl.W3 (Pl.L3.f l')):=Pl.qet HWl.out;have HST:Hid (l'=Pl.L3.f l'→pl=Pl.L3.f l'):=fun e=>by rw[HP.out,Pl.qdm (show Pl.qdS l'=l' from e.symm)];exact e
   have HGO:Hid (¬l'=Pl.L3.f l'→pl=Pl.qbo (Pl.L3.f l')∧Pl.qcZ (Pl.L3.f l')<Pl.qcZ l'):=fun e=>⟨by rw[HP.out];exact Pl.qe2 HWl.out (fun h=>e h.symm),(Pl.qdK HWl.out).resolve_left (fun h=>e h.symm)⟩
   clear hA2 hr2 hb2 HC HA HB;generalize Pl.L3.f l'=m at *
   by_cases hem:l'=m
   ·have hsm:sm l' m=true:=by unfold sm;exact decide_eq_true hem
    rw[hsm]at HS2;have hpm:=HST.out hem;clear HGO HST hem
    go_wp2_with fail
    refine HS2.out.mono ?_;rintro e w3 ⟨rfl,hb3⟩;have HB3:Hid (Below w.heap.size w w3):=qaa HB2.out hb3;have HR3:Hid (S3 (mask (frm w.heap.size) w3) (.slice a2 m.length c2) m):=sub_3.sub HR2.out (qaY hb3);subst hpm;clear hb3;go_wp2;go_ret2;exact⟨a2,c2,rfl,HR3.out,HB3.out⟩
   ·have hsm:sm l' m=false:=by unfold sm;exact decide_eq_false hem
    rw[hsm]at HS2;obtain⟨hp3,hlt⟩:=HGO.out hem;have HP3:Hid (pl=Pl.qbo m):=hp3;have HLT:Hid _:=hlt;clear HGO HST hem hp3 hlt
    go_wp2_with fail
    refine HS2.out.mono ?_;rintro e w3 ⟨rfl,hb3⟩;have HB3:Hid (Below w.heap.size w w3):=qaa HB2.out hb3;have HA3:Hid (A3 w3 (.slice a2 m.length c2) m):=qcB.on HA2.out hb3;clear hb3;go_wp2;refine⟨⟨m,a2,c2,rfl,HA3,HW2,HP3,HB3⟩,?_⟩;have h1:=HMZ.out _ _ _ HA3.out;have h2:=HZ.out;have h3:=HLT.out;omega
 ·have hs:qbL l=[]:=by unfold qbL;rw[if_neg h0]
  rw[hs];have HC:Hid (Calls Tryz.prog 44 _ _ _):=hC;have hne:(qbs l==0)=false:=by simpa using h0
  generalize qbs l=er at *;clear h hF hC h0 hs HV HMZ;go_enter Tryz.func15,Tryz.ntmps15
  go_wp2_with fail
  refine HC.out.mono ?_;rintro e w1 ⟨rfl,hb1⟩;have HB1:Hid (Below w.heap.size w w1):=hb1;clear hb1;go_wp2;go_ret2;exact⟨none,0,rfl,(isL_str sub_2).nil _,HB1.out⟩
end Go.Proofs.YtephhllfodlfbaaGreatDoor
