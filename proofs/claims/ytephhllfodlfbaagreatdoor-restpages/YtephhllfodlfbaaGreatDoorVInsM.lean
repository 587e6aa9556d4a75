/-
  foreign: a tree whose marks are no element's; what it turns in memory are marks alone; walked.
-/
import Derived.Test.YtephhllfodlfbaaGreatDoorVRemM
set_option maxRecDepth 100000
set_option maxHeartbeats 16000000
namespace Go.Proofs.YtephhllfodlfbaaGreatDoor
open Go.RowKit
namespace Pl
def F.bare:F→F
 | .nil=> .nil
 | .cons x k r=> .cons { x with up:=0 } k.bare r.bare
theorem F.bare_len {f g:F}(h:f.bare=g.bare):f.len=g.len:=by
 have e:∀f:F,f.bare.len=f.len:=by
  intro f
  induction f with
  | nil=>rfl
  | cons x k r _ ih=>simp[F.bare,F.len,ih]
 rw[←e f,h,e g]
theorem F.bare_size {f g:F}(h:f.bare=g.bare):f.size=g.size:=by
 have e:∀f:F,f.bare.size=f.size:=by
  intro f
  induction f with
  | nil=>rfl
  | cons x k r ihk ih=>simp[F.bare,F.size,ihk,ih]
 rw[←e f,h,e g]
theorem lay_bare (f:F):∀(pos:Nat) (up:Int),layF f.bare pos up=layF f pos up:=by
 have hs:∀f:F,f.bare.size=f.size:=by
  intro f
  induction f with
  | nil=>rfl
  | cons x k r ihk ih=>simp[F.bare,F.size,ihk,ih]
 induction f with
 | nil=>intro _ _;rfl
 | cons x k r ihk ihr=>
  intro pos up;rw[F.bare,layF,layF,ihk,ihr,hs]
end Pl
structure Ups (P:Nat→Prop)(w w':World):Prop where
 os:w'.os=w.os
 tape:w'.tape=w.tape
 output:w'.output=w.output
 size:w.heap.size≤w'.heap.size
 block:∀j:Nat,j<w.heap.size→¬P j→w'.heap[j]? =w.heap[j]?
 cell:∀(j o:Nat) (v:Value),w.cell? ⟨j,o,none⟩=some v→(∀a,v≠ .int .i64 a)→w'.cell? ⟨j,o,none⟩=some v
 num:∀(j o:Nat) (a:Int),w.cell? ⟨j,o,none⟩=some (.int .i64 a)→w'.cell? ⟨j,o,none⟩=some (.int .i64 a)∨w'.cell? ⟨j,o,none⟩=some (.int .i64 (-2))
 frozen:∀j o:Nat,j<w.heap.size→w'.frozen? ⟨j,o,none⟩=w.frozen? ⟨j,o,none⟩
theorem Ups.refl (P:Nat→Prop)(w:World):Ups P w w:=⟨rfl,rfl,rfl,Nat.le_refl _,fun _ _ _=>rfl,fun _ _ _ h _=>h,fun _ _ _ h=>Or.inl h,fun _ _ _=>rfl⟩
theorem Ups.of_on {P:Nat→Prop}{w w':World}(h:Below w.heap.size w w'):Ups P w w':=
 ⟨h.os,h.tape,h.output,h.size,fun j hj _=>h.block j hj,fun _ _ _ hc _=>qab h hc,fun _ _ _ hc=>Or.inl (qab h hc),fun j o hj=>h.frozen (p:=⟨j,o,none⟩) hj⟩
theorem Ups.below {P:Nat→Prop}{w w':World}(h:Ups P w w'){B:Nat}(hB:B≤w.heap.size)(hP:∀j,P j→B≤j):Below B w w':=
 ⟨h.os,h.tape,h.output,h.size,fun k hk=>h.block k (Nat.lt_of_lt_of_le hk hB) (fun hp=>by have:=hP k hp;omega)⟩
theorem Ups.trans {P:Nat→Prop}{a b c:World}(h:Ups P a b)(k:Ups P b c):Ups P a c:=by
 refine⟨k.os.trans h.os,k.tape.trans h.tape,k.output.trans h.output,Nat.le_trans h.size k.size,fun j hj hn=>(k.block j (Nat.lt_of_lt_of_le hj h.size) hn).trans (h.block j hj hn),fun j o v hc hn=>k.cell j o v (h.cell j o v hc hn) hn,fun j o u hc=>?_,fun j o hj=>(k.frozen j o (Nat.lt_of_lt_of_le hj h.size)).trans (h.frozen j o hj)⟩
 rcases h.num j o u hc with h1|h1
 ·exact k.num j o u h1
 ·rcases k.num j o _ h1 with h2|h2<;>exact Or.inr h2
theorem Ups.drew {P:Nat→Prop}{a w:World}(h:Ups P a w):Ups P a w.drew:=⟨h.os,h.tape,h.output,h.size,h.block,h.cell,h.num,h.frozen⟩
theorem fz_set (w:World)(p:Addr)(u:Value)(a:Addr):(w.setCell p u).frozen? a=w.frozen? a:=by simp
theorem Ups.setNew {P:Nat→Prop}{a w:World}(h:Ups P a w){M:Nat}(hM:a.heap.size≤M)(i:Nat)(u:Value):Ups P a (w.setCell ⟨M,i,none⟩ u):=by
 refine⟨h.os,h.tape,h.output,by have:=h.size;simpa [World.setCell] using this,fun j hj hn=>?_,fun j o v hc hn=>?_,fun j o v hc=>?_,fun j o hj=>?_⟩
 ·rw[Below.heap_setCell _ _ _ _ (by show j≠M;omega)];exact h.block j hj hn
 ·have:=qaV hc;exact qbj (h.cell j o v hc hn) (by simp at this;omega)
 ·have:=qaV hc
  rcases h.num j o v hc with h1|h1
  ·exact Or.inl (qbj h1 (by simp at this;omega))
  ·exact Or.inr (qbj h1 (by simp at this;omega))
 ·rw[fz_set];exact h.frozen j o hj
theorem Ups.setOld {P:Nat→Prop}{w:World}{M i:Nat}{u v:Value}(hM:P M)(hc:w.cell? ⟨M,i,none⟩=some v)(hu:u=v∧(∀a,v≠ .int .i64 a)∨(∃a,v=.int .i64 a)∧u=.int .i64 (-2)):Ups P w (w.setCell ⟨M,i,none⟩ u):=by
 have hs:=World.cell?_setCell_same w ⟨M,i,none⟩ u hc;refine⟨rfl,rfl,rfl,by simp[World.setCell],fun j hj hn=>?_,fun j o x hx hn=>?_,fun j o x hx=>?_,fun j o _=>fz_set _ _ _ _⟩
 ·exact Below.heap_setCell _ _ _ _ (by show j≠M;intro e;subst e;exact hn hM)
 ·by_cases e:(⟨M,i,none⟩:Addr)=⟨j,o,none⟩
  ·rw[←e]at hx ⊢;rw[hc]at hx;injection hx with hx;subst hx
   rcases hu with ⟨rfl,_⟩|⟨⟨a,rfl⟩,_⟩
   ·exact hs
   ·exact absurd rfl (hn a)
  ·rw[World.cell?_setCell_other _ _ _ _ e];exact hx
 ·by_cases e:(⟨M,i,none⟩:Addr)=⟨j,o,none⟩
  ·rw[←e]at hx ⊢;rw[hc]at hx;injection hx with hx;subst hx
   rcases hu with ⟨_,h⟩|⟨_,rfl⟩
   ·exact absurd rfl (h x)
   ·exact Or.inr hs
  ·rw[World.cell?_setCell_other _ _ _ _ e];exact Or.inl hx
theorem qb7.ups {R P:Nat→Prop}{w w':World}{v:Value}{ss:List (List UInt8)}(h:qb7 P w v ss)(hu:Ups R w w'):qb7 P w' v ss:=by
 obtain⟨a,cap,rfl,h⟩:=h;refine⟨a,cap,rfl,?_⟩
 rcases h with h|⟨b,o,ha,hp,hc⟩
 ·exact Or.inl h
 ·exact Or.inr ⟨b,o,ha,hp,fun i hi=>hu.cell _ _ _ (hc i hi) (fun _=>by simp)⟩
theorem AtsP.ups {R P:Nat→Prop}{w w':World}{v:Value}{ss:List (List UInt8×List UInt8)}(h:AtsP P w v ss)(hu:Ups R w w'):AtsP P w' v ss:=by
 obtain⟨a,cap,rfl,h⟩:=h;refine⟨a,cap,rfl,?_⟩
 rcases h with h|⟨b,o,ha,hp,hc⟩
 ·exact Or.inl h
 ·exact Or.inr ⟨b,o,ha,hp,fun i hi=>⟨hu.cell _ _ _ (hc i hi).1 (fun _=>by simp),hu.cell _ _ _ (hc i hi).2 (fun _=>by simp)⟩⟩
theorem FIn.ups {R P:Nat→Prop}{w w':World}(hu:Ups R w w')(f:Pl.F):∀b o,FIn P w f b o→∃g:Pl.F,FIn P w' g b o∧g.bare=f.bare:=by
 induction f with
 | nil=>intro _ _ _;exact⟨.nil,trivial,rfl⟩
 | cons x k r ihk ihr=>
  rintro b o ⟨⟨vc,va,h0,h1,h2,h3,h4,hs,ha⟩,⟨a,cap,h5,h6⟩,h7⟩;obtain⟨r',hr,er⟩:=ihr b (o+6) h7
  obtain⟨u,hU⟩:∃u,w'.cell? ⟨b,o,none⟩=some (.int .i64 u):=by
   rcases hu.num _ _ _ h0 with h|h
   ·exact⟨_,h⟩
   ·exact⟨_,h⟩
  have q5:=hu.cell _ _ _ h5 (fun _=>by simp);obtain⟨ac,cc,rfl,_⟩:=id hs;obtain⟨aa,ca,rfl,_⟩:=id ha;have q3:=hu.cell _ _ _ h3 (fun _=>by simp);have q4:=hu.cell _ _ _ h4 (fun _=>by simp);have hN:NdP P w' b o { x with up:=u }:=⟨_,_,hU,hu.cell _ _ _ h1 (fun _=>by simp),hu.cell _ _ _ h2 (fun _=>by simp),q3,q4,hs.ups hu,ha.ups hu⟩
  by_cases hk:k.len=0
  ·exact⟨.cons { x with up:=u } k r',⟨hN,⟨a,cap,q5,Or.inl hk⟩,hr⟩,by simp[Pl.F.bare,er]⟩
  ·obtain⟨b',o',e,hp,hf⟩:=h6.resolve_left hk;obtain⟨k',hk',ek⟩:=ihk b' o' hf
   have hlt:b'<w.heap.size:=by
    cases k with
    | nil=>simp[Pl.F.len]at hk
    | cons y k2 r2=>
     obtain⟨⟨_,_,g0,_⟩,_⟩:=hf;exact qaV g0
   exact⟨.cons { x with up:=u } k' r',⟨hN,⟨a,cap,by rw[Pl.F.bare_len ek];exact q5,Or.inr ⟨b',o',e,⟨hp.1,fun i=>by rw[hu.frozen b' i hlt];exact hp.2 i⟩,hk'⟩⟩,hr⟩,by simp[Pl.F.bare,er,ek]⟩
theorem Sub.ups {R P:Nat→Prop}{w w':World}{v:Value}{k:Pl.F}(h:Sub P w v k)(hu:Ups R w w'):∃g:Pl.F,Sub P w' v g∧g.bare=k.bare:=by
 obtain⟨a,cap,rfl,h⟩:=h
 by_cases hk:k.len=0
 ·exact⟨k,⟨a,cap,rfl,Or.inl hk⟩,rfl⟩
 ·obtain⟨b,o,ha,hp,hf⟩:=h.resolve_left hk;obtain⟨g,hg,eg⟩:=FIn.ups hu k b o hf
  have hlt:b<w.heap.size:=by
   cases k with
   | nil=>simp[Pl.F.len]at hk
   | cons y k2 r2=>
    obtain⟨⟨_,_,g0,_⟩,_⟩:=hf;exact qaV g0
  exact⟨g,⟨a,cap,by rw[Pl.F.bare_len eg],Or.inr ⟨b,o,ha,⟨hp.1,fun i=>by rw[hu.frozen b i hlt];exact hp.2 i⟩,hg⟩⟩,eg⟩
theorem Ups.six {P:Nat→Prop}{w:World}{b o:Nat}{a:Int}{c1 c2 c3 c4 c5:Value}(hb:P b)(h0:w.cell? ⟨b,o,none⟩=some (.int .i64 a))(h1:w.cell? ⟨b,o+1,none⟩=some c1)(h2:w.cell? ⟨b,o+2,none⟩=some c2)
 (h3:w.cell? ⟨b,o+3,none⟩=some c3) (h4:w.cell? ⟨b,o+4,none⟩=some c4) (h5:w.cell? ⟨b,o+5,none⟩=some c5) (n1:∀a,c1≠ .int .i64 a) (n2:∀a,c2≠ .int .i64 a) (n3:∀a,c3≠ .int .i64 a) (n4:∀a,c4≠ .int .i64 a) (n5:∀a,c5≠ .int .i64 a):
 Ups P w ((((((w.setCell ⟨b,o,none⟩ (.int .i64 (-2))).setCell ⟨b,o+1,none⟩ c1).setCell ⟨b,o+2,none⟩ c2).setCell ⟨b,o+3,none⟩ c3).setCell ⟨b,o+4,none⟩ c4).setCell ⟨b,o+5,none⟩ c5):=by
 have u0:=Ups.setOld (P:=P) hb h0 (u:=.int .i64 (-2)) (Or.inr ⟨⟨a,rfl⟩,rfl⟩);have u1:=u0.trans (Ups.setOld hb (u0.cell _ _ _ h1 n1) (u:=c1) (Or.inl ⟨rfl,n1⟩));have u2:=u1.trans (Ups.setOld hb (u1.cell _ _ _ h2 n2) (u:=c2) (Or.inl ⟨rfl,n2⟩));have u3:=u2.trans (Ups.setOld hb (u2.cell _ _ _ h3 n3) (u:=c3) (Or.inl ⟨rfl,n3⟩));have u4:=u3.trans (Ups.setOld hb (u3.cell _ _ _ h4 n4) (u:=c4) (Or.inl ⟨rfl,n4⟩));exact u4.trans (Ups.setOld hb (u4.cell _ _ _ h5 n5) (u:=c5) (Or.inl ⟨rfl,n5⟩))
theorem TV.ups {R P:Nat→Prop}{w w':World}{tag idn:List UInt8}{v:Int}{cls:List (List UInt8)}{ats:List (List UInt8×List UInt8)}{vc va vk:Value}{k:Pl.F}(hc:qb7 P w vc cls)(ha:AtsP P w va ats)(hk:Sub P w vk k)(hu:Ups R w w'):
 ∃g:Pl.F,TV P w' (.agg #[.int .i64 v,.string ⟨tag.toArray⟩,.string ⟨idn.toArray⟩,vc,va,vk]) ⟨v,tag,idn,cls,ats⟩ g∧g.bare=k.bare:=by
 obtain⟨g,hg,e⟩:=hk.ups hu;exact⟨g,⟨_,_,_,rfl,hc.ups hu,ha.ups hu,hg⟩,e⟩
theorem qby {w:World}{a:Addr}(b:Addr)(v:Value)(h:∃u,w.cell? a=some u):∃u,(w.setCell b v).cell? a=some u:=by
 obtain⟨u,hu⟩:=h
 by_cases e:b=a
 ·subst e;exact⟨v,World.cell?_setCell_same _ _ _ hu⟩
 ·exact⟨u,by rw[World.cell?_setCell_other _ _ _ _ e];exact hu⟩
theorem qdV {w:World}{a:Addr}(v:Value)(h:∃u,w.cell? a=some u):(w.setCell a v).cell? a=some v:=by
 obtain⟨u,hu⟩:=h;exact World.cell?_setCell_same _ _ _ hu
theorem qbZ {w:World}{N i j:Nat}{u v:Value}(hne:i≠j)(h:w.cell? ⟨N,j,none⟩=some v):(w.setCell ⟨N,i,none⟩ u).cell? ⟨N,j,none⟩=some v:=by
 rw[World.cell?_setCell_other _ _ _ _ (by intro e;injection e;omega)];exact h
theorem six_cells {w:World}{N:Nat}{d0 d1 d2 d3 d4 d5:Value}(h:w.cell? ⟨N,0,none⟩=some d0∧w.cell? ⟨N,1,none⟩=some d1∧w.cell? ⟨N,2,none⟩=some d2∧w.cell? ⟨N,3,none⟩=some d3∧w.cell? ⟨N,4,none⟩=some d4∧w.cell? ⟨N,5,none⟩=some d5)(c0 c1 c2 c3 c4 c5:Value):
 (qbN w N c0 c1 c2 c3 c4 c5).cell? ⟨N,0,none⟩=some c0∧(qbN w N c0 c1 c2 c3 c4 c5).cell? ⟨N,1,none⟩=some c1∧(qbN w N c0 c1 c2 c3 c4 c5).cell? ⟨N,2,none⟩=some c2∧(qbN w N c0 c1 c2 c3 c4 c5).cell? ⟨N,3,none⟩=some c3∧(qbN w N c0 c1 c2 c3 c4 c5).cell? ⟨N,4,none⟩=some c4∧(qbN w N c0 c1 c2 c3 c4 c5).cell? ⟨N,5,none⟩=some c5:=by
 obtain⟨h0,h1,h2,h3,h4,h5⟩:=h;unfold qbN;refine⟨?_,?_,?_,?_,?_,?_⟩
 ·exact qbZ (by decide) (qbZ (by decide) (qbZ (by decide) (qbZ (by decide) (qbZ (by decide) (qdV _ ⟨_,h0⟩)))))
 ·exact qbZ (by decide) (qbZ (by decide) (qbZ (by decide) (qbZ (by decide) (qdV _ (qby _ _ ⟨_,h1⟩)))))
 ·exact qbZ (by decide) (qbZ (by decide) (qbZ (by decide) (qdV _ (qby _ _ (qby _ _ ⟨_,h2⟩)))))
 ·exact qbZ (by decide) (qbZ (by decide) (qdV _ (qby _ _ (qby _ _ (qby _ _ ⟨_,h3⟩)))))
 ·exact qbZ (by decide) (qdV _ (qby _ _ (qby _ _ (qby _ _ (qby _ _ ⟨_,h4⟩)))))
 ·exact qdV _ (qby _ _ (qby _ _ (qby _ _ (qby _ _ (qby _ _ ⟨_,h5⟩)))))
theorem Ups.int {P:Nat→Prop}{w w':World}(h:Ups P w w'){j o:Nat}{a:Int}(hc:w.cell? ⟨j,o,none⟩=some (.int .i64 a)):∃b,w'.cell? ⟨j,o,none⟩=some (.int .i64 b):=by
 rcases h.num _ _ _ hc with h|h
 ·exact⟨_,h⟩
 ·exact⟨_,h⟩
theorem Ups.two {P:Nat→Prop}{w w':World}(h:Ups P w w'){j o:Nat}(hc:w.cell? ⟨j,o,none⟩=some (.int .i64 (-2))):w'.cell? ⟨j,o,none⟩=some (.int .i64 (-2)):=by
 rcases h.num _ _ _ hc with h|h<;>exact h
theorem qi0 (P:Nat→Prop):∀(N:Nat) (k:Pl.F) (u:Int) (tag idn:List UInt8) (ac:Option Addr) (lc cc:Nat) (aa:Option Addr) (la ca:Nat) (ak:Option Addr) (ck:Nat) (w:World),k.size<N→k.size≤64→Sub P w (.slice ak k.len ck) k→
 Calls Tryz.prog 69 #[.agg #[.int .i64 u,.string ⟨tag.toArray⟩,.string ⟨idn.toArray⟩,.slice ac lc cc,.slice aa la ca,.slice ak k.len ck]] w fun e w'=>e=.returned (.agg #[.int .i64 (-2),.string ⟨tag.toArray⟩,.string ⟨idn.toArray⟩,.slice ac lc cc,.slice aa la ca,.slice ak k.len ck])∧Ups P w w':=by
 intro N
 induction N with
 | zero=>intro k u tag idn ac lc cc aa la ca ak ck w h;omega
 | succ N ih=>
  intro k u tag idn ac lc cc aa la ca ak ck w hN h64 hS;obtain⟨_,_,e,hkk⟩:=hS;injection e with e1 e2 e3;subst e1 e3;have HK:Hid (k.len=0∨∃b o,ak=some ⟨b,o,none⟩∧Own P w b∧FIn P w k b o):=hkk;have HIH:Hid _:=ih;have hkl:=Pl.F.len_le_size k;obtain⟨bM,bR⟩:=qiK w (.int .i64 (-2)) (.string ⟨tag.toArray⟩) (.string ⟨idn.toArray⟩) (.slice ac lc cc) (.slice aa la ca) (.slice ak k.len ck) (.int .i64 0) (.string ⟨#[]⟩) (.string ⟨#[]⟩) (.slice none 0 0) (.slice none 0 0) (.slice none 0 0);have hB0:=boxes' w (.cells #[.int .i64 (-2),.string ⟨tag.toArray⟩,.string ⟨idn.toArray⟩,.slice ac lc cc,.slice aa la ca,.slice ak k.len ck] 109) (.cells #[.int .i64 0,.string ⟨#[]⟩,.string ⟨#[]⟩,.slice none 0 0,.slice none 0 0,.slice none 0 0] 109);clear hkk ih;go_enter Tryz.func69,Tryz.ntmps69
  go_wp2_with fail
  generalize (w.alloc (.cells #[.int .i64 (-2),.string ⟨tag.toArray⟩,.string ⟨idn.toArray⟩,.slice ac lc cc,.slice aa la ca,.slice ak k.len ck] 109)).alloc (.cells #[.int .i64 0,.string ⟨#[]⟩,.string ⟨#[]⟩,.slice none 0 0,.slice none 0 0,.slice none 0 0] 109)=w0 at *;have hz0:=bR.lt;have HBM:Hid (Blk6 w0 w.heap.size (.int .i64 (-2)) (.string ⟨tag.toArray⟩) (.string ⟨idn.toArray⟩) (.slice ac lc cc) (.slice aa la ca) (.slice ak k.len ck)):=bM;have HBR:Hid (Blk6 w0 (w.heap.size+1) (.int .i64 0) (.string ⟨#[]⟩) (.string ⟨#[]⟩) (.slice none 0 0) (.slice none 0 0) (.slice none 0 0)):=bR;have HU0:Hid (Ups P w w0):=Ups.of_on hB0;clear bM bR
  go_loopw [3] (fun i wr=>∃j:Nat,j≤k.len∧i=.int .i64 j∧Hid (Ups P w0 wr)) (fun i _=>k.len-(intOf i).toNat)
  case atStart=>exact⟨0,Nat.zero_le _,rfl,Ups.refl _ _⟩
  case round=>
   obtain⟨j,hj,rfl,hU⟩:=hrel;obtain⟨⟨g0,g1,g2,g3,g4,g5⟩,fM⟩:=HBM.out.facts;obtain⟨⟨r0,r1,r2,r3,r4,r5⟩,fR⟩:=HBR.out.facts;have m5:=hU.out.cell _ _ _ g5 (fun _=>by simp)
   by_cases hlt:j<k.len
   ·obtain⟨bk,ok,rfl,hown,hfin⟩:=HK.out.resolve_left (by omega);obtain⟨y,ky,hd,hsz⟩:=Pl.F.drop_lt k j hlt;have hf:=FIn.drop k j bk ok hfin;rw[hd]at hf;obtain⟨⟨vc',va',n0,n1,n2,n3,n4,nc,na⟩,⟨a',cap',n5,hsub⟩,_⟩:=hf;obtain⟨ac',cc',rfl,_⟩:=id nc;obtain⟨aa',ca',rfl,_⟩:=id na;have hUw:=HU0.out.trans hU.out;have hbk:=qaV n0;obtain⟨a0,p0⟩:=hUw.int n0;have p1:=hUw.cell _ _ _ n1 (fun _=>by simp);have p2:=hUw.cell _ _ _ n2 (fun _=>by simp);have p3:=hUw.cell _ _ _ n3 (fun _=>by simp);have p4:=hUw.cell _ _ _ n4 (fun _=>by simp);have p5:=hUw.cell _ _ _ n5 (fun _=>by simp);obtain⟨ky',hs',ek'⟩:=Sub.ups (w':=wr.drew) ⟨_,_,rfl,hsub⟩ hUw.drew;have hl':=Pl.F.bare_len ek';have hz':=Pl.F.bare_size ek'
    have HCALL:Hid (Calls Tryz.prog 69 #[.agg #[.int .i64 a0,.string ⟨y.tag.toArray⟩,.string ⟨y.id.toArray⟩,.slice ac' y.cls.length cc',.slice aa' y.ats.length ca',.slice a' ky.len cap']] wr.drew fun e w'=>e=.returned (.agg #[.int .i64 (-2),.string ⟨y.tag.toArray⟩,.string ⟨y.id.toArray⟩,.slice ac' y.cls.length cc',.slice aa' y.ats.length ca',.slice a' ky.len cap'])∧Ups P wr.drew w'):=by
     have hs2:Sub P wr.drew (.slice a' ky'.len cap') ky':=by rw[hl'];exact hs'
     have:=HIH.out ky' a0 y.tag y.id ac' y.cls.length cc' aa' y.ats.length ca' a' cap' wr.drew (by omega) (by omega) hs2;rw[hl']at this;exact this
    have fk:∀i,wr.frozen? ⟨bk,i,none⟩=false:=fun i=>by rw[hUw.frozen bk i hbk];exact hown.2 i
    have hBk:P bk:=hown.1;have hbr:bk<wr.heap.size:=qaV p0;have d0:wr.drew.cell? ⟨bk,ok+j*6,none⟩=some (.int .i64 a0):=p0;have d1:wr.drew.cell? ⟨bk,ok+j*6+1,none⟩=some (.string ⟨y.tag.toArray⟩):=p1;have d2:wr.drew.cell? ⟨bk,ok+j*6+2,none⟩=some (.string ⟨y.id.toArray⟩):=p2;have d3:wr.drew.cell? ⟨bk,ok+j*6+3,none⟩=some (.slice ac' y.cls.length cc'):=p3;have d4:wr.drew.cell? ⟨bk,ok+j*6+4,none⟩=some (.slice aa' y.ats.length ca'):=p4;have d5:wr.drew.cell? ⟨bk,ok+j*6+5,none⟩=some (.slice a' ky.len cap'):=p5;have dm:wr.drew.cell? ⟨w.heap.size,5,none⟩=some (.slice (some ⟨bk,ok,none⟩) k.len ck):=m5;have fd:∀i,wr.drew.frozen? ⟨bk,i,none⟩=false:=fk;clear nc na hsub hfin hd hs' ek' hl' hz' n0 n1 n2 n3 n4 n5 hown hUw p0 p1 p2 p3 p4 p5 r0 r1 r2 r3 r4 r5 g0 g1 g2 g3 g4 g5 fR
    go_wp2_with fail
    go_region_law (go_simp;go_at_call 69;refine HCALL.out.mono ?_;rintro e w4 ⟨rfl,hu4⟩;obtain⟨a4,q0⟩:=hu4.int d0;have q1:=hu4.cell _ _ _ d1 (fun _=>by simp);have q2:=hu4.cell _ _ _ d2 (fun _=>by simp);have q3:=hu4.cell _ _ _ d3 (fun _=>by simp);have q4:=hu4.cell _ _ _ d4 (fun _=>by simp);have q5:=hu4.cell _ _ _ d5 (fun _=>by simp);have qm:=hu4.cell _ _ _ dm (fun _=>by simp);have qf:=fun i=>(hu4.frozen bk i hbr).trans (fd i))
    all_goals
     have hU6:=(hU.out.drew.trans hu4).trans (Ups.six (P:=P) hBk q0 q1 q2 q3 q4 q5 (by simp) (by simp) (by simp) (by simp) (by simp));have HU6:Hid _:=hU6;clear hU6 q0 q1 q2 q3 q4 q5 qm qf hu4;go_wp2;exact⟨⟨j+1,hlt,by go_num,HU6⟩,by simp[intOf];omega⟩
   ·have k0:=hU.out.two g0;have k1:=hU.out.cell _ _ _ g1 (fun _=>by simp);have k2:=hU.out.cell _ _ _ g2 (fun _=>by simp);have k3:=hU.out.cell _ _ _ g3 (fun _=>by simp);have k4:=hU.out.cell _ _ _ g4 (fun _=>by simp);obtain⟨a0,s0⟩:=hU.out.int r0;have s1:=hU.out.cell _ _ _ r1 (fun _=>by simp);have s2:=hU.out.cell _ _ _ r2 (fun _=>by simp);have s3:=hU.out.cell _ _ _ r3 (fun _=>by simp);have s4:=hU.out.cell _ _ _ r4 (fun _=>by simp);have s5:=hU.out.cell _ _ _ r5 (fun _=>by simp);have fz:∀i,wr.frozen? ⟨w.heap.size+1,i,none⟩=false:=fun i=>by rw[hU.out.frozen _ i hz0];exact fR i
    have HS:Hid _:=And.intro s0 (And.intro s1 (And.intro s2 (And.intro s3 (And.intro s4 s5))))
    have hUF:Ups P w (qbN wr (w.heap.size+1) (.int .i64 (-2)) (.string ⟨tag.toArray⟩) (.string ⟨idn.toArray⟩) (.slice ac lc cc) (.slice aa la ca) (.slice ak k.len ck)):=
     ((((((HU0.out.trans hU.out).setNew (M:=w.heap.size+1) (by omega) 0 _).setNew (M:=w.heap.size+1) (by omega) 1 _).setNew (M:=w.heap.size+1) (by omega) 2 _).setNew (M:=w.heap.size+1) (by omega) 3 _).setNew (M:=w.heap.size+1) (by omega) 4 _).setNew (M:=w.heap.size+1) (by omega) 5 _
    have HUF:Hid _:=hUF;clear g0 g1 g2 g3 g4 g5 r0 r1 r2 r3 r4 r5 fR fM hUF
    go_wp2_with fail
    have hq:=six_cells HS.out (.int .i64 (-2)) (.string ⟨tag.toArray⟩) (.string ⟨idn.toArray⟩) (.slice ac lc cc) (.slice aa la ca) (.slice ak k.len ck)
    change bodyPost _ _ _ _ _ (qbN wr (w.heap.size+1) (.int .i64 (-2)) (.string ⟨tag.toArray⟩) (.string ⟨idn.toArray⟩) (.slice ac lc cc) (.slice aa la ca) (.slice ak k.len ck))
    generalize qbN wr (w.heap.size+1) (.int .i64 (-2)) (.string ⟨tag.toArray⟩) (.string ⟨idn.toArray⟩) (.slice ac lc cc) (.slice aa la ca) (.slice ak k.len ck)=wF at *;obtain⟨q0,q1,q2,q3,q4,q5⟩:=hq;exact bodyPost_ret (v:=.agg #[.int .i64 (-2),.string ⟨tag.toArray⟩,.string ⟨idn.toArray⟩,.slice ac lc cc,.slice aa la ca,.slice ak k.len ck]) (by simp[results,Tryz.results69,go_sem,q0,q1,q2,q3,q4,q5]) rfl ⟨rfl,HUF.out⟩
end Go.Proofs.YtephhllfodlfbaaGreatDoor
namespace Go.Proofs.YtephhllfodlfbaaGreatDoor.Pl
theorem qg3 (ex:Nd)(ek:F)(a:Int)(f:F):qbG ex ek false a f=f:=by
 unfold qbG;rw[if_neg (by simp)]
theorem insIf_at (ex:Nd)(ek:F)(a:Nat)(f:F)(h:a≤f.len):qbG ex ek true a f=insAt ex ek f a:=by
 unfold qbG;rw[if_pos ⟨rfl,by omega,by omega⟩,show ((a:Int)).toNat=a by omega]
theorem qim {ns:List Nd}{m n:Nat}(hm:m≤n)(hn:n<ns.length)(h:n<behind ns m):behind ns n≤behind ns m:=by
 obtain⟨a1,a2,a3,a4⟩:=qan (ns:=ns) (n:=m) (by omega);obtain⟨e1,e2,e3,e4⟩:=qan hn
 rcases Nat.lt_or_ge (behind ns m) (behind ns n) with h2|h2
 ·have:=a4 (by omega);have:=e3 (behind ns m) h h2;omega
 ·exact h2
theorem from_mem {ns:List Nd}{m lo k:Nat}(h:k∈qaI ns m lo):lo≤k∧k<ns.length:=by
 unfold qaI at h;rw[List.mem_filter,List.mem_range'_1]at h;omega
section
variable {ns:List Nd} (hg:qa7 ns ns.length)
include hg
theorem qhF {up:Nat}(at_:Int)(ex:Nd)(ek:F):∀(f:Nat) (l:List Nat),(∀m∈l,m<ns.length∧(up<m∨behind ns m≤up))→qbF up at_ ex ek (qal ns f l)=qal ns f l:=by
 intro f
 induction f with
 | zero=>intro l _;rfl
 | succ f ih=>
  intro l
  induction l with
  | nil=>intro _;rfl
  | cons a r ihr=>
   intro h;obtain⟨h1,h2⟩:=h a (by simp);have hb:=(qan h1).1;have e1:qal ns (f+1) (a::r)=.cons (mark ns a) (qal ns f (qae ns a)) (qal ns (f+1) r):=rfl
   have hne:((mark ns a).up==(up:Int))=false:=by
    show ((a:Int)==(up:Int))=false
    simp;omega
   rw[e1,qbF,hne,qg3,ihr (fun m hm=>h m (by simp[hm])),ih (qae ns a) (fun k hk=>by
    obtain⟨k1,k2,k3,k4⟩:=kid_in hg h1 hk
    exact⟨k1,by omega⟩)]
theorem ins_tree {up P S:Nat}{at_:Nat}{ex:Nd}{ek:F}(hup:up<ns.length)(hS:S=ek.size+1)(hat:at_≤(qae ns up).length)(hP:(qae ns up)[at_]? =some P∨(at_=(qae ns up).length∧P=behind ns up)):
 ∀(f m pos:Nat) (upv:Int),m≤up→up<behind ns m→ns.length≤m+f→
 layT (mark ns m) (qbG ex ek ((m:Int)==(up:Int)) at_ (qbF up at_ ex ek (qal ns f (qae ns m)))) pos upv=
  seg ns m P (fun u=>if u<m then upv else u-m+pos)++layT ex ek (pos+(P-m)) ((pos:Int)+(up-m))++seg ns P (behind ns m) (fun u=>if u<P then u-m+pos else u+S-m+pos):=by
 have hPb:up<P∧P≤behind ns up:=by
  obtain⟨e1,e2,_,_⟩:=qan hup
  rcases hP with h|⟨_,h⟩
  ·have hk:=List.mem_of_getElem? h;obtain⟨_,k2,k3,_⟩:=kid_in hg hup hk;omega
  ·omega
 intro f
 induction f with
 | zero=>intro m pos upv h1 h2 h3;omega
 | succ f ih=>
  intro m pos upv hmu hub hf;have hm:m<ns.length:=by omega
  obtain⟨a1,a2,a3,a4⟩:=qan hm;have hbb:=qim hmu hup hub;have hk:qae ns m=qaI ns m (m+1):=qh6 (by omega) fun i hi=>by have:=low_of hg i (by omega);omega
  have hnext:∀lo,lo=m+1→lo<behind ns m→upOf ns lo=m:=fun lo e h=>by
   subst e;have:=a3 (m+1) (by omega) h;have:=low_of hg (m+1) (by omega);omega
  -- behind the place
  have after:∀(d lo p:Nat),behind ns m-lo=d→m<lo→P≤lo→lo≤behind ns m→(lo<behind ns m→upOf ns lo=m)→p+m=pos+lo+S→
   layF (qbv (fun k=>qal ns f (qae ns k)) ns (qaI ns m lo)) p pos=seg ns lo (behind ns m) (fun u=>if u<P then u-m+pos else u+S-m+pos):=by
   intro d
   induction d using Nat.strongRecOn with
   | ind d ihd=>
    intro lo p hd h0 h1 h2 h3 hp
    rcases Nat.lt_or_ge lo (behind ns m) with h4|h4
    ·have hu:=h3 h4;obtain⟨b1,b2,b3,b4⟩:=qd0 hg hm h0 h4 hu;rw[qdD b1 (by omega) hu b4];have hT:=qeP hg f lo p pos (by omega) (by omega)
     have hsz:(qal ns f (qae ns lo)).size+1=behind ns lo-lo:=by
      have:=congrArg List.length hT
      rwa [qbX,qbQ (by omega)]at this
     have hR:=ihd (behind ns m-behind ns lo) (by omega) (behind ns lo) (p+(behind ns lo-lo)) rfl (by omega) (by omega) b2 b3 (by omega)
     show layF (.cons (mark ns lo) (qal ns f (qae ns lo)) (qbv (fun k=>qal ns f (qae ns k)) ns (qaI ns m (behind ns lo)))) p pos=_
     rw[layF,show p+1+(qal ns f (qae ns lo)).size=p+(behind ns lo-lo) by omega,hR];rw[show ({ mark ns lo with up:=(pos:Int) }::layF (qal ns f (qae ns lo)) (p+1) p)=layT (mark ns lo) (qal ns f (qae ns lo)) p pos from rfl,hT];rw[←seg_append (lo:=lo) (mid:=behind ns lo) (hi:=behind ns m) (by omega) b2 a2]
     congr 1
     refine qbJ (by omega) fun x h5 h6=>?_
     by_cases hx:x=lo
     ·subst hx;rw[if_pos (by omega),if_pos (by omega),hu];omega
     ·have h7:=(qan (ns:=ns) (n:=lo) (by omega)).2.2.1 x (by omega) h6;rw[if_neg (by omega),if_neg (by omega)];omega
    ·have:lo=behind ns m:=by omega
     subst this;rw[qfA]
     ·unfold seg;simp[qbv,layF]
     ·intro i h5 h6;have:=qb4 hg hm i h5 h6;omega
  have core:layF (qbG ex ek ((m:Int)==(up:Int)) at_ (qbF up at_ ex ek (qal ns (f+1) (qae ns m)))) (pos+1) pos=
   seg ns (m+1) P (fun u=>u-m+pos)++layT ex ek (pos+(P-m)) ((pos:Int)+(up-m))++seg ns P (behind ns m) (fun u=>if u<P then u-m+pos else u+S-m+pos):=by
   by_cases hmu2:m=up
   ·subst hmu2
    rw[show ((m:Int)==(m:Int))=true by simp,qhF hg (up:=m) at_ ex ek (f+1) (qae ns m) (fun k hk=>by
     obtain⟨k1,k2,_,_⟩:=kid_in hg hm hk
     exact⟨k1,Or.inl k2⟩)]
    have hlen:(qal ns (f+1) (qae ns m)).len=(qae ns m).length:=qe7 _ _ _;rw[insIf_at _ _ _ _ (by rw[hlen];exact hat)]
    show layF (insAt ex ek (qbv (fun k=>qal ns f (qae ns k)) ns (qae ns m)) at_) (pos+1) pos=_
    have step:∀(a lo:Nat),m<lo→lo≤behind ns m→(lo<behind ns m→upOf ns lo=m)→((qaI ns m lo)[a]? =some P∨(a=(qaI ns m lo).length∧P=behind ns m))→
     lo≤P∧layF (insAt ex ek (qbv (fun k=>qal ns f (qae ns k)) ns (qaI ns m lo)) a) (pos+(lo-m)) pos=
      seg ns lo P (fun u=>u-m+pos)++layT ex ek (pos+(P-m)) pos++seg ns P (behind ns m) (fun u=>if u<P then u-m+pos else u+S-m+pos):=by
     intro a
     induction a with
     | zero=>
      intro lo h1 h2 h3 h4
      have hPl:P=lo:=by
       rcases Nat.lt_or_ge lo (behind ns m) with h5|h5
       ·obtain⟨b1,b2,b3,b4⟩:=qd0 hg hm h1 h5 (h3 h5);rw[qdD b1 (by omega) (h3 h5) b4]at h4;simp at h4;omega
       ·have hn:qaI ns m lo=[]:=qfA fun i h6 h7=>by
         have:=qb4 hg hm i (by omega) h7;omega
        rw[hn]at h4;simp at h4;omega
      subst hPl;refine⟨Nat.le_refl _,?_⟩
      have e0:insAt ex ek (qbv (fun k=>qal ns f (qae ns k)) ns (qaI ns m P)) 0=.cons ex ek (qbv (fun k=>qal ns f (qae ns k)) ns (qaI ns m P)):=by
       unfold insAt;rfl
      rw[e0,layF,after _ P (pos+(P-m)+1+ek.size) rfl h1 (Nat.le_refl _) h2 h3 (by omega)];have:seg ns P P (fun u=>u-m+(pos:Int))=[]:=by unfold seg;simp
      rw[this];rfl
     | succ a iha=>
      intro lo h1 h2 h3 h4
      rcases Nat.lt_or_ge lo (behind ns m) with h5|h5
      ·have hu:=h3 h5;obtain⟨b1,b2,b3,b4⟩:=qd0 hg hm h1 h5 hu;rw[qdD b1 (by omega) hu b4]at h4 ⊢;simp only[List.getElem?_cons_succ,List.length_cons,Nat.add_right_cancel_iff]at h4;obtain⟨hle,hR⟩:=iha (behind ns lo) (by omega) b2 b3 h4;refine⟨by omega,?_⟩;have hT:=qeP hg f lo (pos+(lo-m)) pos (by omega) (by omega)
       have hsz:(qal ns f (qae ns lo)).size+1=behind ns lo-lo:=by
        have:=congrArg List.length hT
        rwa [qbX,qbQ (by omega)]at this
       show layF (.cons (mark ns lo) (qal ns f (qae ns lo)) (insAt ex ek (qbv (fun k=>qal ns f (qae ns k)) ns (qaI ns m (behind ns lo))) a)) (pos+(lo-m)) pos=_
       rw[layF,show pos+(lo-m)+1+(qal ns f (qae ns lo)).size=pos+(behind ns lo-m) by omega,hR];rw[show ({ mark ns lo with up:=(pos:Int) }::layF (qal ns f (qae ns lo)) (pos+(lo-m)+1) (pos+(lo-m):Nat))=layT (mark ns lo) (qal ns f (qae ns lo)) (pos+(lo-m)) pos from rfl,hT];rw[←seg_append (lo:=lo) (mid:=behind ns lo) (hi:=P) (by omega) hle (by omega),List.append_assoc,List.append_assoc,List.append_assoc]
       congr 1
       refine qbJ (by omega) fun x h5 h6=>?_
       by_cases hx:x=lo
       ·subst hx;rw[if_pos (by omega),hu];omega
       ·have h7:=(qan (ns:=ns) (n:=lo) (by omega)).2.2.1 x (by omega) h6;rw[if_neg (by omega)];omega
      ·have hn:qaI ns m lo=[]:=qfA fun i h6 h7=>by
        have:=qb4 hg hm i (by omega) h7;omega
       rw[hn]at h4;simp at h4
    have:=(step at_ (m+1) (by omega) a1 (hnext _ rfl) (by rw[←hk];exact hP)).2;rw[hk,show pos+1=pos+(m+1-m) by omega,this,show ((pos:Int)+((m:Int)-m))=pos by omega]
   ·have hmu3:m<up:=by omega
    have hne:((m:Int)==(up:Int))=false:=by simp;omega
    rw[hne,qg3]
    have ahead:∀(d lo:Nat),up-lo=d→m<lo→lo≤up→upOf ns lo=m→
     layF (qbF up at_ ex ek (qbv (fun k=>qal ns f (qae ns k)) ns (qaI ns m lo))) (pos+(lo-m)) pos=
      seg ns lo P (fun u=>u-m+pos)++layT ex ek (pos+(P-m)) ((pos:Int)+(up-m))++seg ns P (behind ns m) (fun u=>if u<P then u-m+pos else u+S-m+pos):=by
     intro d
     induction d using Nat.strongRecOn with
     | ind d ihd=>
      intro lo hd h1 h2 hu;obtain⟨b1,b2,b3,b4⟩:=qd0 hg hm h1 (by omega) hu;rw[qdD b1 (by omega) hu b4]
      show layF (qbF up at_ ex ek (.cons (mark ns lo) (qal ns f (qae ns lo)) (qbv (fun k=>qal ns f (qae ns k)) ns (qaI ns m (behind ns lo))))) (pos+(lo-m)) pos=_
      rw[qbF,show ((mark ns lo).up==(up:Int))=((lo:Int)==(up:Int)) from rfl,layF];rw[show ({ mark ns lo with up:=(pos:Int) }::layF (qbG ex ek ((lo:Int)==(up:Int)) at_ (qbF up at_ ex ek (qal ns f (qae ns lo)))) (pos+(lo-m)+1) (pos+(lo-m):Nat))=layT (mark ns lo) (qbG ex ek ((lo:Int)==(up:Int)) at_ (qbF up at_ ex ek (qal ns f (qae ns lo)))) (pos+(lo-m)) pos from rfl]
      rcases Nat.lt_or_ge up (behind ns lo) with h4|h4
      ·have hT:=ih lo (pos+(lo-m)) pos h2 h4 (by omega);have hbl:=qim h2 hup h4
       have hfar:qbF up at_ ex ek (qbv (fun k=>qal ns f (qae ns k)) ns (qaI ns m (behind ns lo)))=qbv (fun k=>qal ns f (qae ns k)) ns (qaI ns m (behind ns lo)):=
        qhF hg (up:=up) at_ ex ek (f+1) (qaI ns m (behind ns lo)) (fun k hk=>by
         have:=from_mem hk
         exact⟨this.2,Or.inl (by omega)⟩)
       have hsz:(qbG ex ek ((lo:Int)==(up:Int)) at_ (qbF up at_ ex ek (qal ns f (qae ns lo)))).size+1=behind ns lo-lo+S:=by
        have:=congrArg List.length hT;rw[qbX,List.length_append,List.length_append,qbQ (by omega),qbQ (by omega),qbX]at this;omega
       rw[hT,hfar,after _ (behind ns lo) (pos+(lo-m)+1+(qbG ex ek ((lo:Int)==(up:Int)) at_ (qbF up at_ ex ek (qal ns f (qae ns lo)))).size) rfl (by omega) (by omega) b2 b3 (by omega)];rw[←seg_append (lo:=P) (mid:=behind ns lo) (hi:=behind ns m) (by omega) b2 a2,←List.append_assoc]
       congr 1
       congr 1
       ·congr 1
        ·refine qbJ (by omega) fun x h5 h6=>?_
         by_cases hx:x=lo
         ·subst hx;rw[if_pos (by omega),hu];omega
         ·have h7:=(qan (ns:=ns) (n:=lo) (by omega)).2.2.1 x (by omega) (by omega);rw[if_neg (by omega)];omega
        ·rw[show pos+(lo-m)+(P-lo)=pos+(P-m) by omega]
         congr 1
         omega
       ·refine qbJ (by omega) fun x h5 h6=>?_
        by_cases hx:upOf ns x<P
        ·rw[if_pos hx,if_pos hx];omega
        ·rw[if_neg hx,if_neg hx];omega
      ·have hin:qbG ex ek ((lo:Int)==(up:Int)) at_ (qbF up at_ ex ek (qal ns f (qae ns lo)))=qal ns f (qae ns lo):=by
        have hne2:((lo:Int)==(up:Int))=false:=by simp;omega
        rw[hne2,qg3]
        exact qhF hg (up:=up) at_ ex ek f (qae ns lo) (fun k hk=>by
         obtain⟨k1,k2,k3,k4⟩:=kid_in hg (by omega) hk
         exact⟨k1,Or.inr (by omega)⟩)
       rw[hin];have hT:=qeP hg f lo (pos+(lo-m)) pos (by omega) (by omega)
       have hsz:(qal ns f (qae ns lo)).size+1=behind ns lo-lo:=by
        have:=congrArg List.length hT
        rwa [qbX,qbQ (by omega)]at this
       have hR:=ihd (up-behind ns lo) (by omega) (behind ns lo) rfl (by omega) h4 (b3 (by omega));rw[hT,show pos+(lo-m)+1+(qal ns f (qae ns lo)).size=pos+(behind ns lo-m) by omega,hR];rw[←seg_append (lo:=lo) (mid:=behind ns lo) (hi:=P) (by omega) (by omega) (by omega),List.append_assoc,List.append_assoc,List.append_assoc]
       congr 1
       refine qbJ (by omega) fun x h5 h6=>?_
       by_cases hx:x=lo
       ·subst hx;rw[if_pos (by omega),hu];omega
       ·have h7:=(qan (ns:=ns) (n:=lo) (by omega)).2.2.1 x (by omega) h6;rw[if_neg (by omega)];omega
    have:=ahead _ (m+1) rfl (by omega) (by omega) (hnext _ rfl (by omega))
    show layF (qbF up at_ ex ek (qbv (fun k=>qal ns f (qae ns k)) ns (qae ns m))) (pos+1) pos=_
    rw[hk,show pos+1=pos+(m+1-m) by omega,this]
  rw[seg_cons (lo:=m) (hi:=P) (by omega) (by omega)];unfold layT;rw[core,List.cons_append,List.cons_append]
  congr 1
  ·rw[if_pos (low_of hg m hm).2];rfl
  ·congr 1
   congr 1
   refine qbJ (by omega) fun x h5 h6=>?_
   have:=a3 x (by omega) (by omega);rw[if_neg (by omega)]
end
end Go.Proofs.YtephhllfodlfbaaGreatDoor.Pl
namespace Go.Proofs.YtephhllfodlfbaaGreatDoor
theorem qhS {es:List Pl.Nd}(hg:Pl.qa7 es es.length)(h1:1≤es.length)(h64:es.length≤64){ek:Pl.F}(he:ek.bare=(Pl.qat es es.length (Pl.qae es (0:Nat))).bare)(p:Nat)(hp:p≤64)(up:Int)(u:Int):
 Pl.layT { Pl.ndAt es 0 with up:=u } ek p up=es.map (Pl.mvd (Pl.mvIn up p)):=by
 have hb:Pl.behind es 0=es.length:=Pl.qeW (by omega) (by omega) (Nat.le_refl _) (fun m h1 h2=>by have:=(hg m h2).2 h1;omega) (fun h=>by omega);have h2:=Pl.qho hg es.length 0 p up (by omega) (by omega)
 have h3:Pl.layT { Pl.ndAt es 0 with up:=u } ek p up=Pl.layT (Pl.ndAt es 0) (Pl.qat es es.length (Pl.qae es (0:Nat))) p up:=by
  unfold Pl.layT;rw[←Pl.lay_bare ek,he,Pl.lay_bare]
 rw[h3,h2,hb]
 have h4:es.map (Pl.mvd (Pl.mvIn up p))=Pl.seg es 0 es.length (Pl.mvIn up p):=by
  unfold Pl.seg;rw[List.drop_zero,List.take_of_length_le (by omega)]
 rw[h4];refine Pl.qbJ (Nat.le_refl _) fun m _ h6=>?_
 unfold Pl.mvIn
 rcases Nat.eq_zero_or_pos m with h|h
 ·rw[(hg m h6).1 h];rfl
 ·have:=(hg m h6).2 h;rw[if_neg (by omega),if_neg (by omega),Pl.wr_in (by omega) (by omega)];omega
theorem place_is {ns:List Pl.Nd}{k a:Nat}(ha:a≤(Pl.qae ns k).length):(Pl.qae ns k)[a]? =some (placeOf ns k a)∨(a=(Pl.qae ns k).length∧placeOf ns k a=Pl.behind ns k):=by
 unfold placeOf
 by_cases h:a<(Pl.qae ns k).length
 ·refine Or.inl ?_;rw[if_pos (by omega),show ((a:Int)).toNat=a by omega,List.getD_eq_getElem?_getD,List.getElem?_eq_getElem h];rfl
 ·refine Or.inr ⟨by omega,?_⟩;rw[if_neg (by omega),show ((k:Int)).toNat=k by omega]
theorem ins_root {ns es:List Pl.Nd}(hg:Pl.qa7 ns ns.length)(he:Pl.qa7 es es.length)(h1:1≤es.length){k a:Nat}(hk:k<ns.length)(ha:a≤(Pl.qae ns k).length)(h64:ns.length+es.length≤64){ek:Pl.F}(hek:ek.bare=(Pl.qat es es.length (Pl.qae es (0:Nat))).bare)(u:Int):
 Pl.layT (Pl.mark ns 0) (Pl.qbG { Pl.ndAt es 0 with up:=u } ek ((Pl.mark ns 0).up==(k:Int)) a (Pl.qbF k a { Pl.ndAt es 0 with up:=u } ek (Pl.qal ns ns.length (Pl.qae ns (0:Nat))))) 0 (-1)=qaH ns k (placeOf ns k a) es:=by
 have hb:Pl.behind ns 0=ns.length:=Pl.qeW (by omega) (by omega) (Nat.le_refl _) (fun m h1 h2=>by have:=(hg m h2).2 h1;omega) (fun h=>by omega);have hP:=place_is ha
 have hpb:k<placeOf ns k a∧placeOf ns k a≤Pl.behind ns k∧Pl.behind ns k≤ns.length:=by
  obtain⟨e1,e2,_,_⟩:=Pl.qan hk
  rcases hP with h|⟨_,h⟩
  ·have hm:=List.mem_of_getElem? h;obtain⟨_,k2,k3,_⟩:=Pl.kid_in hg hk hm;omega
  ·omega
 have hsz:es.length=ek.size+1:=by
  have:=congrArg List.length (qhS he h1 (by omega) hek 0 (by omega) 0 0);rw[Pl.qbX,List.length_map]at this;omega
 have h2:=Pl.ins_tree hg (ex:={ Pl.ndAt es 0 with up:=u }) (ek:=ek) (P:=placeOf ns k a) (S:=es.length) (at_:=a) hk hsz ha hP ns.length 0 0 (-1) (by omega) (by omega) (by omega);have e0:((Pl.mark ns 0).up==(k:Int))=(((0:Nat):Int)==(k:Int)):=rfl;rw[e0,h2,hb];unfold qaH;have ht:(ns.take (placeOf ns k a)).map (Pl.mvd id)=Pl.seg ns 0 (placeOf ns k a) id:=by unfold Pl.seg;simp
 have hd:(ns.drop (placeOf ns k a)).map (Pl.mvd (Pl.qdz (placeOf ns k a) es.length))=Pl.seg ns (placeOf ns k a) ns.length (Pl.qdz (placeOf ns k a) es.length):=by
  unfold Pl.seg;rw[List.take_of_length_le (by simp)]
 rw[ht,hd];have hw:=qhS he h1 (by omega) hek (placeOf ns k a) (by omega) k u;rw[show 0+(placeOf ns k a-0)=placeOf ns k a by omega,show (((0:Nat):Int)+((k:Int)-((0:Nat):Int)))=(k:Int) by omega,hw]
 congr 1
 ·congr 1
  refine Pl.qbJ (by omega) fun x h3 h4=>?_
  rcases Nat.eq_zero_or_pos x with h|h
  ·rw[(hg x (by omega)).1 h];rfl
  ·have:=(hg x (by omega)).2 h;rw[if_neg (by omega)];simp
 ·refine Pl.qbJ (Nat.le_refl _) fun x h3 h4=>?_
  have hx:=(hg x h4).2 (by omega);unfold Pl.qdz
  by_cases hu:Pl.upOf ns x<placeOf ns k a
  ·rw[if_pos hu,if_pos hu];omega
  ·rw[if_neg hu,if_neg hu,Pl.wr_in (by omega) (by omega)];omega
end Go.Proofs.YtephhllfodlfbaaGreatDoor
