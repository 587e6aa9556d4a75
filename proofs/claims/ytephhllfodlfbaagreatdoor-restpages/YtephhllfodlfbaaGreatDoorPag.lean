/-
  What was taken out and laid in again leaves all as it was: in plain lists.
-/
import Derived.Test.YtephhllfodlfbaaGreatDoorTrek
namespace Go.Proofs.YtephhllfodlfbaaGreatDoor
open Pl
def qaN (ns:List Pl.Nd)(N e:Nat):List Pl.Nd:=ns.take N++(ns.drop e).map (mvd (qdw N ((e:Int)-N)))
def qbR (ns:List Pl.Nd)(N e:Nat):List Pl.Nd:=((ns.drop N).take (e-N)).map (mvd (qcy N))
section
variable {ns:List Pl.Nd} {N e:Nat}
theorem rest_len (h1:N≤e)(h2:e≤ns.length):(qaN ns N e).length=ns.length-(e-N):=by unfold qaN;simp;omega
theorem qhL (h1:N≤e)(h2:e≤ns.length):(qbR ns N e).length=e-N:=by unfold qbR;simp;omega
theorem qhy (h1:N≤e)(h2:e≤ns.length){i:Nat}(h:i<N):upOf (qaN ns N e) i=upOf ns i:=by
 unfold qaN;rw[qeU (by simp;omega),qeG h]
theorem rest_up2 (h1:N≤e)(h2:e≤ns.length){i:Nat}(h:e≤i)(h3:i<ns.length):upOf (qaN ns N e) (i-(e-N))=qdw N ((e:Int)-N) (upOf ns i):=by
 unfold qaN;have hl:(ns.take N).length=N:=by simp;omega
 rw[qfk (by omega),hl,qfL (by simp;omega),qdb]
 congr 2
 omega
theorem part_up (h2:e≤ns.length){i:Nat}(h:N≤i)(h3:i<e):upOf (qbR ns N e) (i-N)=qcy N (upOf ns i):=by
 unfold qbR;rw[qfL (by simp;omega),qeG (by omega),qdb]
 congr 2
 omega
theorem mvRem_lt (d u:Int)(h:u<N):qdw N d u=u:=by unfold qdw;rw[if_pos h]
theorem mvRem_ge (d u:Int)(h:(N:Int)≤u)(h2:u<1000)(h3:0≤d)(h4:d≤1000):qdw N d u=u-d:=by unfold qdw;rw[if_neg (by omega),wr_in (by omega) (by omega)]
theorem qij (u:Int)(h:u<N):qcy N u= -1:=by unfold qcy;rw[if_pos h]
theorem qih (u:Int)(h:(N:Int)≤u)(h2:u<1000):qcy N u=u-N:=by unfold qcy;rw[if_neg (by omega),wr_in (by omega) (by omega)]
theorem part_good (hg:qa7 ns ns.length)(h64:ns.length≤64)(hN:N<ns.length)(he:e=behind ns N):qa7 (qbR ns N e) (qbR ns N e).length:=by
 obtain⟨b1,b2,b3,b4⟩:=qan hN;rw[←he]at b1 b2 b3 b4;rw[qhL (by omega) b2]
 have hU:∀i:Nat,0<i→i<e-N→(N:Int)≤upOf ns (N+i)∧upOf ns (N+i)<N+i∧upOf (qbR ns N e) i=upOf ns (N+i)-N:=by
  intro i h1 h2;have h3:=part_up (ns:=ns) (N:=N) b2 (i:=N+i) (by omega) (by omega);rw[show N+i-N=i by omega]at h3;have h4:=b3 (N+i) (by omega) (by omega);have hl:=qdy hg (i:=N+i) (by omega);exact⟨h4,by omega,by rw[h3,qih _ h4 (by omega)]⟩
 intro n hn;refine⟨fun h0=>?_,fun h0=>?_⟩
 ·have h3:=part_up (ns:=ns) (N:=N) b2 (i:=N) (Nat.le_refl _) (by omega);rw[Nat.sub_self]at h3;rw[h0,h3,qij _ (qdy hg hN).2.1]
 ·obtain⟨q1,q2,q3⟩:=hU n h0 hn;rw[q3];refine⟨by omega,by omega,fun m h1 h2=>?_⟩;obtain⟨s1,s2,s3⟩:=hU m (by omega) (by omega);rw[s3];have:=((hg (N+n) (by omega)).2 (by omega)).2.2 (N+m) (by omega) (by omega);omega
theorem qfJ (hg:qa7 ns ns.length)(h64:ns.length≤64)(hN:N<ns.length)(he:e=behind ns N)(i:Nat)(hi:e≤i)(hi2:i<ns.length):
 (upOf ns i<N→upOf (qaN ns N e) (i-(e-N))=upOf ns i)∧((N:Int)≤upOf ns i→(e:Int)≤upOf ns i∧upOf (qaN ns N e) (i-(e-N))=upOf ns i-((e:Int)-N)):=by
 obtain⟨b1,b2,b3,b4⟩:=qan hN;rw[←he]at b1 b2 b3 b4;have h3:=rest_up2 (ns:=ns) (N:=N) (by omega) b2 hi hi2;have ho:=qb4 hg hN i (by omega) hi2;rw[←he]at ho;have hl:=qdy hg hi2;refine⟨fun h=>by rw[h3,mvRem_lt _ _ h],fun h=>⟨by omega,by rw[h3,mvRem_ge _ _ h (by omega) (by omega) (by omega)]⟩⟩
theorem rest_good (hg:qa7 ns ns.length)(h64:ns.length≤64)(hN:N<ns.length)(hN1:1≤N)(he:e=behind ns N):qa7 (qaN ns N e) (qaN ns N e).length:=by
 obtain⟨b1,b2,b3,b4⟩:=qan hN;rw[←he]at b1 b2 b3 b4;rw[rest_len (by omega) b2];have hI:∀i:Nat,i<N→upOf (qaN ns N e) i=upOf ns i:=fun i h=>qhy (by omega) b2 h
 intro n hn
 by_cases c1:n<N
 ·rw[hI n c1];obtain⟨a,b⟩:=hg n (by omega);refine⟨a,fun h0=>?_⟩;obtain⟨q1,q2,q3⟩:=b h0;exact⟨q1,q2,fun m h1 h2=>by rw[hI m (by omega)];exact q3 m h1 h2⟩
 refine⟨fun h0=>by omega,fun _=>?_⟩;obtain⟨i,hi1,hi2,rfl⟩:∃i,e≤i∧i<ns.length∧n=i-(e-N):=⟨n+(e-N),by omega,by omega,by omega⟩
 obtain⟨o1,o2⟩:=qfJ hg h64 hN he i hi1 hi2;have hgi:=(hg i hi2).2 (by omega)
 by_cases hu:upOf ns i<N
 ·rw[o1 hu];refine⟨hgi.1,by omega,fun m h1 h2=>?_⟩
  by_cases m1:m<N
  ·rw[hI m m1];exact hgi.2.2 m h1 (by omega)
  ·obtain⟨j,hj1,hj2,rfl⟩:∃j,e≤j∧j<i∧m=j-(e-N):=⟨m+(e-N),by omega,by omega,by omega⟩
   obtain⟨s1,s2⟩:=qfJ hg h64 hN he j hj1 (by omega);have:=hgi.2.2 j (by omega) (by omega)
   by_cases hv:upOf ns j<N
   ·rw[s1 hv];exact this
   ·have:=s2 (by omega);omega
 ·obtain⟨u1,u2⟩:=o2 (by omega);rw[u2];refine⟨by omega,by omega,fun m h1 h2=>?_⟩;obtain⟨j,hj1,hj2,rfl⟩:∃j,e≤j∧j<i∧m=j-(e-N):=⟨m+(e-N),by omega,by omega,by omega⟩
  obtain⟨s1,s2⟩:=qfJ hg h64 hN he j hj1 (by omega);have:=hgi.2.2 j (by omega) (by omega);have:=s2 (by omega);omega
theorem rest_ins (hg:qa7 ns ns.length)(h64:ns.length≤64)(hN:N<ns.length)(hN1:1≤N)(he:e=behind ns N)(u:Nat)(hu:upOf ns N=u):qaH (qaN ns N e) u N (qbR ns N e)=ns:=by
 obtain⟨b1,b2,b3,b4⟩:=qan hN;rw[←he]at b1 b2 b3 b4;unfold qaH;have hl:(ns.take N).length=N:=by simp;omega
 have h1:(qaN ns N e).take N=ns.take N:=by
  unfold qaN;rw[List.take_append_of_le_length (by omega),List.take_of_length_le (by omega)]
 have h2:(qaN ns N e).drop N=(ns.drop e).map (mvd (qdw N ((e:Int)-N))):=by
  unfold qaN;rw[List.drop_append_of_le_length (by omega),List.drop_of_length_le (by omega),List.nil_append]
 have h3:(qbR ns N e).map (mvd (mvIn u N))=(ns.drop N).take (e-N):=by
  unfold qbR;refine qfN fun i hi=>?_
  have hi':i<e-N:=by simp at hi;omega
  rw[qeG hi',qdb]
  rcases Nat.eq_zero_or_pos i with h0|h0
  ·subst h0;rw[Nat.add_zero,qij _ (qdy hg hN).2.1,qfB _ (by omega),hu]
  ·have h4:=b3 (N+i) (by omega) (by omega);have hlw:=qdy hg (i:=N+i) (by omega);rw[qih _ h4 (by omega),qfH _ (by omega) (by omega) (by omega)];omega
 have h4:((ns.drop e).map (mvd (qdw N ((e:Int)-N)))).map (mvd (qdz N (qbR ns N e).length))=ns.drop e:=by
  refine qfN fun i hi=>?_
  have hi':e+i<ns.length:=by simp at hi;omega
  rw[qdb,qhL (by omega) b2];have ho:=qb4 hg hN (e+i) (by omega) hi';rw[←he]at ho;have hlw:=qdy hg hi'
  by_cases hv:upOf ns (e+i)<N
  ·rw[mvRem_lt _ _ hv,qfM _ _ hv]
  ·rw[mvRem_ge _ _ (by omega) (by omega) (by omega) (by omega),qhq _ _ (by omega) (by omega) (by omega)];omega
 rw[h1,h2,h3,h4,qcF];have h5:ns.drop e=(ns.drop N).drop (e-N):=by rw[List.drop_drop];congr 1;omega
 rw[h5,List.append_assoc,List.take_append_drop,List.take_append_drop]
end
theorem rem_back {ns:List Pl.Nd}{n:Int}(h:qai ns n=0)(h2:qbz ns n=0):∃N u:Nat,n=N∧N<ns.length∧upOf ns N=u∧qai ns u=0∧(qae ns u)[(qaJ ns u N).length]? =some N∧ns.length≤64∧
 qax (qcc ns n) u ((qaJ ns u N).length:Int) (partOf ns n)=0∧qaO (qcc ns n) u ((qaJ ns u N).length:Int) (partOf ns n)=ns:=by
 obtain⟨c1,N,rfl,hN⟩:=qcp h;obtain⟨l1,l2,r1,g1⟩:=(qbU ns).1 c1
 have hN1:1≤N:=by
  unfold qbz at h2;rw[if_pos h]at h2
  split at h2
  ·omega
  ·omega
 have hgN:=(g1 N hN).2 (by omega);obtain⟨u,hu⟩:∃u:Nat,upOf ns N=u:=⟨(upOf ns N).toNat,by omega⟩
 obtain⟨b1,b2,b3,b4⟩:=qan hN;have hY:qcc ns N=qaN ns N (behind ns N):=by unfold qcc qaN;rw[if_pos h2,show ((N:Int)).toNat=N by omega,qcF]
 have hP:partOf ns N=qbR ns N (behind ns N):=by unfold partOf qbR;rw[if_pos h,show ((N:Int)).toNat=N by omega]
 rw[hY,hP];have gY:=rest_good g1 l2 hN hN1 rfl;have gP:=part_good g1 l2 hN rfl;have lY:=rest_len (ns:=ns) (N:=N) (by omega) b2;have lP:=qhL (ns:=ns) (N:=N) (by omega) b2;have rY:qcw (qaN ns N (behind ns N)):=qds (qeA r1) (qdh (qev r1));have rP:qcw (qbR ns N (behind ns N)):=qdh (qeA (qev r1));have cY:qad (qaN ns N (behind ns N))=0:=(qbU _).2 ⟨by omega,by omega,rY,gY⟩;have cP:qad (qbR ns N (behind ns N))=0:=(qbU _).2 ⟨by omega,by omega,rP,gP⟩;have hins:=rest_ins g1 l2 hN hN1 rfl u hu;have hcg:qaJ (qaN ns N (behind ns N)) u N=qaJ ns u N:=qfu u N (fun i hi=>qhy (by omega) b2 hi);have hout:=qfJ g1 l2 hN rfl;obtain⟨r,hr1,hr2⟩:=qcS (qaN ns N (behind ns N)) u N (qaN ns N (behind ns N)).length (by omega)
 have hle:(qaJ ns u N).length≤(qae (qaN ns N (behind ns N)) u).length:=by
  unfold qae;rw[hr1,hcg,List.length_append];omega
 have hpl:placeOf (qaN ns N (behind ns N)) u ((qaJ ns u N).length:Int)=N:=by
  unfold placeOf
  by_cases hc:N<(qaN ns N (behind ns N)).length∧upOf (qaN ns N (behind ns N)) N=u
  ·have hk:=kid_at hc.1 hc.2;rw[hcg]at hk;obtain⟨hk1,hk2⟩:=List.getElem?_eq_some_iff.1 hk;rw[if_pos (by omega),show (((qaJ ns u N).length:Int)).toNat=(qaJ ns u N).length by omega,List.getD,hk];rfl
  ·have hEN:behind ns N<ns.length→upOf ns (behind ns N)≤u∧upOf (qaN ns N (behind ns N)) N=upOf ns (behind ns N):=by
    intro hlt;have h5:=b4 hlt;have h6:=((g1 _ hlt).2 (by omega)).2.2 N (by omega) (by omega);have h7:=(hout (behind ns N) (Nat.le_refl _) hlt).1 h5;rw[show behind ns N-(behind ns N-N)=N by omega]at h7;exact⟨by omega,h7⟩
   have hrn:r=[]:=by
    rcases r with _|⟨s,r⟩
    ·rfl
    ·have hs:s∈qae (qaN ns N (behind ns N)) u:=by unfold qae;rw[hr1];simp
     obtain⟨m1,m2⟩:=qfG hs;have hsN:=hr2 s (by simp)
     exfalso
     apply hc
     refine⟨by omega,?_⟩
     by_cases hse:s=N
     ·rw[hse]at m2;exact m2
     ·have hlt:behind ns N<ns.length:=by omega
      obtain⟨h8,h9⟩:=hEN hlt;obtain⟨o1,o2⟩:=hout (s+(behind ns N-N)) (by omega) (by omega);rw[show s+(behind ns N-N)-(behind ns N-N)=s by omega]at o1 o2
      have hus:upOf ns (s+(behind ns N-N))=u:=by
       by_cases hv:upOf ns (s+(behind ns N-N))<N
       ·rw[←o1 hv];exact m2
       ·have:=o2 (by omega);omega
      have:=((g1 (s+(behind ns N-N)) (by omega)).2 (by omega)).2.2 (behind ns N) (by omega) (by omega);rw[h9];omega
   have hlen:(qae (qaN ns N (behind ns N)) u).length=(qaJ ns u N).length:=by
    unfold qae;rw[hr1,hrn,List.append_nil,hcg]
   rw[if_neg (by omega),show ((u:Int)).toNat=u by omega];refine qeW (by omega) (by omega) (by omega) (fun m h5 h6=>?_) (fun h5=>?_)
   ·rw[qhy (by omega) b2 h6];have:=hgN.2.2 m (by omega) h6;omega
   ·obtain⟨h8,h9⟩:=hEN (by omega);have:¬upOf (qaN ns N (behind ns N)) N=u:=fun h=>hc ⟨h5,h⟩
    omega
 have hE:qax (qaN ns N (behind ns N)) u ((qaJ ns u N).length:Int) (qbR ns N (behind ns N))=0:=by
  unfold qax hasB;rw[if_pos cY,if_pos cP,if_pos (by simp;omega),if_neg (by omega),if_neg (by omega)]
 refine⟨N,u,rfl,hN,hu,qfg c1 (by omega),kid_at hN hu,l2,hE,?_⟩;unfold qaO;rw[if_pos hE,hpl];exact hins
end Go.Proofs.YtephhllfodlfbaaGreatDoor
namespace Go.Proofs.YtephhllfodlfbaaGreatDoor
open Go.RowKit
theorem seven_on {W w':World}{p0 p1 p2 p3 p4 p5 p6:Addr}{v0 v1 v2 v3 v4 v5 v6:Value}(h:W.cell? p0=some v0∧W.cell? p1=some v1∧W.cell? p2=some v2∧W.cell? p3=some v3∧W.cell? p4=some v4∧W.cell? p5=some v5∧W.cell? p6=some v6)(hb:Below W.heap.size W w'):w'.cell? p0=some v0∧w'.cell? p1=some v1∧w'.cell? p2=some v2∧w'.cell? p3=some v3∧w'.cell? p4=some v4∧w'.cell? p5=some v5∧w'.cell? p6=some v6:=
 ⟨qab hb h.1,qab hb h.2.1,qab hb h.2.2.1,qab hb h.2.2.2.1,qab hb h.2.2.2.2.1,qab hb h.2.2.2.2.2.1,qab hb h.2.2.2.2.2.2⟩
def wput (W:World)(g k:Nat)(u0 u1 u2 u3 u4:Value):World:=((((W.setCell ⟨g,k*5,none⟩ u0).setCell ⟨g,k*5+1,none⟩ u1).setCell ⟨g,k*5+2,none⟩ u2).setCell ⟨g,k*5+3,none⟩ u3).setCell ⟨g,k*5+4,none⟩ u4
theorem qbw {W:World}{g k:Nat}{u0 u1 u2 u3 u4:Value}{p:Addr}{v:Value}(hne:p.block≠g∨p.off<k*5∨k*5+5≤p.off)(h:W.cell? p=some v):(wput W g k u0 u1 u2 u3 u4).cell? p=some v:=by
 have hn:∀i,i<5→(⟨g,k*5+i,none⟩:Addr)≠p:=by
  intro i hi e;subst e;simp at hne;omega
 unfold wput;rw[World.cell?_setCell_other _ _ _ _ (hn 4 (by omega)),World.cell?_setCell_other _ _ _ _ (hn 3 (by omega)),World.cell?_setCell_other _ _ _ _ (hn 2 (by omega)),World.cell?_setCell_other _ _ _ _ (hn 1 (by omega)),World.cell?_setCell_other _ _ _ _ (show (⟨g,k*5,none⟩:Addr)≠p from hn 0 (by omega))];exact h
theorem wput_in {W:World}{g k:Nat}{u0 u1 u2 u3 u4 c0 c1 c2 c3 c4:Value}(h0:W.cell? ⟨g,k*5,none⟩=some c0)(h1:W.cell? ⟨g,k*5+1,none⟩=some c1)(h2:W.cell? ⟨g,k*5+2,none⟩=some c2)(h3:W.cell? ⟨g,k*5+3,none⟩=some c3)(h4:W.cell? ⟨g,k*5+4,none⟩=some c4):
 (wput W g k u0 u1 u2 u3 u4).cell? ⟨g,k*5,none⟩=some u0∧(wput W g k u0 u1 u2 u3 u4).cell? ⟨g,k*5+1,none⟩=some u1∧(wput W g k u0 u1 u2 u3 u4).cell? ⟨g,k*5+2,none⟩=some u2∧(wput W g k u0 u1 u2 u3 u4).cell? ⟨g,k*5+3,none⟩=some u3∧(wput W g k u0 u1 u2 u3 u4).cell? ⟨g,k*5+4,none⟩=some u4:=by
 have hn:∀i j,i<5→j<5→i≠j→(⟨g,k*5+i,none⟩:Addr)≠⟨g,k*5+j,none⟩:=by
  intro i j _ _ h e;injection e with e1 e2;omega
 have hn0:∀j,0<j→j<5→(⟨g,k*5+j,none⟩:Addr)≠⟨g,k*5,none⟩:=by
  intro j _ _ e;injection e with e1 e2;omega
 have hn1:∀j,0<j→j<5→(⟨g,k*5,none⟩:Addr)≠⟨g,k*5+j,none⟩:=by
  intro j _ _ e;injection e with e1 e2;omega
 unfold wput;refine⟨?_,?_,?_,?_,?_⟩
 ·rw[World.cell?_setCell_other _ _ _ _ (hn0 4 (by omega) (by omega)),World.cell?_setCell_other _ _ _ _ (hn0 3 (by omega) (by omega)),World.cell?_setCell_other _ _ _ _ (hn0 2 (by omega) (by omega)),World.cell?_setCell_other _ _ _ _ (hn0 1 (by omega) (by omega))];exact World.cell?_setCell_same _ _ _ h0
 ·rw[World.cell?_setCell_other _ _ _ _ (hn 4 1 (by omega) (by omega) (by omega)),World.cell?_setCell_other _ _ _ _ (hn 3 1 (by omega) (by omega) (by omega)),World.cell?_setCell_other _ _ _ _ (hn 2 1 (by omega) (by omega) (by omega))];refine World.cell?_setCell_same _ _ _ (u:=c1) ?_;rw[World.cell?_setCell_other _ _ _ _ (hn1 1 (by omega) (by omega))];exact h1
 ·rw[World.cell?_setCell_other _ _ _ _ (hn 4 2 (by omega) (by omega) (by omega)),World.cell?_setCell_other _ _ _ _ (hn 3 2 (by omega) (by omega) (by omega))];refine World.cell?_setCell_same _ _ _ (u:=c2) ?_;rw[World.cell?_setCell_other _ _ _ _ (hn 1 2 (by omega) (by omega) (by omega)),World.cell?_setCell_other _ _ _ _ (hn1 2 (by omega) (by omega))];exact h2
 ·rw[World.cell?_setCell_other _ _ _ _ (hn 4 3 (by omega) (by omega) (by omega))];refine World.cell?_setCell_same _ _ _ (u:=c3) ?_;rw[World.cell?_setCell_other _ _ _ _ (hn 2 3 (by omega) (by omega) (by omega)),World.cell?_setCell_other _ _ _ _ (hn 1 3 (by omega) (by omega) (by omega)),World.cell?_setCell_other _ _ _ _ (hn1 3 (by omega) (by omega))];exact h3
 ·refine World.cell?_setCell_same _ _ _ (u:=c4) ?_;rw[World.cell?_setCell_other _ _ _ _ (hn 3 4 (by omega) (by omega) (by omega)),World.cell?_setCell_other _ _ _ _ (hn 2 4 (by omega) (by omega) (by omega)),World.cell?_setCell_other _ _ _ _ (hn 1 4 (by omega) (by omega) (by omega)),World.cell?_setCell_other _ _ _ _ (hn1 4 (by omega) (by omega))];exact h4
theorem seven_put {W:World}{g k:Nat}{u0 u1 u2 u3 u4:Value}{p0 p1 p2 p3 p4 p5 p6:Addr}{v0 v1 v2 v3 v4 v5 v6:Value}(h:W.cell? p0=some v0∧W.cell? p1=some v1∧W.cell? p2=some v2∧W.cell? p3=some v3∧W.cell? p4=some v4∧W.cell? p5=some v5∧W.cell? p6=some v6)(hg:p0.block≠g∧p1.block≠g∧p2.block≠g∧p3.block≠g∧p4.block≠g∧p5.block≠g∧p6.block≠g):(wput W g k u0 u1 u2 u3 u4).cell? p0=some v0∧(wput W g k u0 u1 u2 u3 u4).cell? p1=some v1∧(wput W g k u0 u1 u2 u3 u4).cell? p2=some v2∧(wput W g k u0 u1 u2 u3 u4).cell? p3=some v3∧(wput W g k u0 u1 u2 u3 u4).cell? p4=some v4∧(wput W g k u0 u1 u2 u3 u4).cell? p5=some v5∧(wput W g k u0 u1 u2 u3 u4).cell? p6=some v6:=
 ⟨qbw (Or.inl hg.1) h.1,qbw (Or.inl hg.2.1) h.2.1,qbw (Or.inl hg.2.2.1) h.2.2.1,qbw (Or.inl hg.2.2.2.1) h.2.2.2.1,qbw (Or.inl hg.2.2.2.2.1) h.2.2.2.2.1,qbw (Or.inl hg.2.2.2.2.2.1) h.2.2.2.2.2.1,qbw (Or.inl hg.2.2.2.2.2.2) h.2.2.2.2.2.2⟩
theorem Row.put {B:Nat}{w W:World}{g cap k M:Nat}{ns:List Pl.Nd}{x:Pl.Nd}{vc va u old:Value}(h:Row B w (.slice (some ⟨g,0,none⟩) ns.length cap) ns)(hW:Below w.heap.size w W)(hk:k<ns.length)(hvc:qaB w.heap.size W vc x.cls)(hva:qaM w.heap.size W va x.ats)
 (hM:M≠g) (ho:W.cell? ⟨M,0,none⟩=some old) (hs:∀s,old≠ .string s):
 qa8 ((wput W g k (.int .i64 x.up) (.string ⟨x.tag.toArray⟩) (.string ⟨x.id.toArray⟩) vc va).setCell ⟨M,0,none⟩ u) (.slice (some ⟨g,0,none⟩) ns.length cap) (ns.set k x):=by
 have hR:=h.on hW;obtain⟨xs,hown,hc⟩:=id hR
 have hgw:g<w.heap.size:=by
  obtain⟨ys,h2,_⟩:=h;exact(World.ownsRow.lt h2 g rfl).2
 have ho2:(wput W g k (.int .i64 x.up) (.string ⟨x.tag.toArray⟩) (.string ⟨x.id.toArray⟩) vc va).cell? ⟨M,0,none⟩=some old:=qbw (Or.inl hM) ho
 have hcells:∀i (hi:i<ns.length),∃vc va,W.cell? ⟨g,i*5,none⟩=some (.int .i64 ns[i].up)∧W.cell? ⟨g,i*5+1,none⟩=some (.string ⟨ns[i].tag.toArray⟩)∧W.cell? ⟨g,i*5+2,none⟩=some (.string ⟨ns[i].id.toArray⟩)∧W.cell? ⟨g,i*5+3,none⟩=some vc∧W.cell? ⟨g,i*5+4,none⟩=some va∧qbT (some g) W vc ns[i].cls∧qcY (some g) W va ns[i].ats:=by
  intro i hi;obtain⟨vc,va,h0,h1,h2,h3,h4,hcc,haa⟩:=qaz.get xs ns hc i hi;have k0:=World.ownsRow.cells hown rfl _ _ h0;have k1:=World.ownsRow.cells hown rfl _ _ h1;have k2:=World.ownsRow.cells hown rfl _ _ h2;have k3:=World.ownsRow.cells hown rfl _ _ h3;have k4:=World.ownsRow.cells hown rfl _ _ h4;simp only[Addr.add_lit,Nat.zero_add]at k0 k1 k2 k3 k4;exact⟨vc,va,k0,k1,k2,k3,k4,hcc,haa⟩
 have far:∀{p:Addr} {v:Value},p.block=g→(wput W g k (.int .i64 x.up) (.string ⟨x.tag.toArray⟩) (.string ⟨x.id.toArray⟩) vc va).cell? p=some v→((wput W g k (.int .i64 x.up) (.string ⟨x.tag.toArray⟩) (.string ⟨x.id.toArray⟩) vc va).setCell ⟨M,0,none⟩ u).cell? p=some v:=by
  intro p v hp hc;rw[World.cell?_setCell_other _ _ _ _ (by intro e;rw[←e]at hp;exact hM hp)];exact hc
 have str:∀{b o:Nat} {s:List UInt8},b≠g→W.cell? ⟨b,o,none⟩=some (.string ⟨s.toArray⟩)→((wput W g k (.int .i64 x.up) (.string ⟨x.tag.toArray⟩) (.string ⟨x.id.toArray⟩) vc va).setCell ⟨M,0,none⟩ u).cell? ⟨b,o,none⟩=some (.string ⟨s.toArray⟩):=by
  intro b o s hb hc;exact qbH (qbw (Or.inl hb) hc) ho2 hs
 have strs:∀{v:Value} {ss:List (List UInt8)},qbT (some g) W v ss→qa1 ((wput W g k (.int .i64 x.up) (.string ⟨x.tag.toArray⟩) (.string ⟨x.id.toArray⟩) vc va).setCell ⟨M,0,none⟩ u) v ss:=by
  rintro v ss ⟨a,c,rfl,h⟩;refine⟨a,c,rfl,?_⟩
  rcases h with h|⟨b,o,ha,hne,hc⟩
  ·exact Or.inl h
  ·exact Or.inr ⟨b,o,ha,fun i hi=>str (fun e=>hne (by rw[e])) (hc i hi)⟩
 have atss:∀{v:Value} {ss:List (List UInt8×List UInt8)},qcY (some g) W v ss→qbY ((wput W g k (.int .i64 x.up) (.string ⟨x.tag.toArray⟩) (.string ⟨x.id.toArray⟩) vc va).setCell ⟨M,0,none⟩ u) v ss:=by
  rintro v ss ⟨a,c,rfl,h⟩;refine⟨a,c,rfl,?_⟩
  rcases h with h|⟨b,o,ha,hne,hc⟩
  ·exact Or.inl h
  ·exact Or.inr ⟨b,o,ha,fun i hi=>⟨str (fun e=>hne (by rw[e])) (hc i hi).1,str (fun e=>hne (by rw[e])) (hc i hi).2⟩⟩
 refine⟨_,cap,by rw[List.length_set],Or.inr ⟨g,0,rfl,fun i hi=>?_⟩⟩;rw[List.length_set]at hi;rw[Nat.zero_add]
 by_cases hik:i=k
 ·subst hik;rw[List.getElem_set_self];obtain⟨vc',va',k0,k1,k2,k3,k4,_,_⟩:=hcells i hk;obtain⟨q0,q1,q2,q3,q4⟩:=wput_in (u0:=.int .i64 x.up) (u1:=.string ⟨x.tag.toArray⟩) (u2:=.string ⟨x.id.toArray⟩) (u3:=vc) (u4:=va) k0 k1 k2 k3 k4;exact⟨vc,va,far rfl q0,far rfl q1,far rfl q2,far rfl q3,far rfl q4,strs (hvc.ne (fun j hj=>by injection hj;omega)),atss (hva.ne (fun j hj=>by injection hj;omega))⟩
 ·rw[List.getElem_set_ne (Ne.symm hik)];obtain⟨vc',va',k0,k1,k2,k3,k4,hcc,haa⟩:=hcells i hi;have hoff:∀j,j<5→i*5+j<k*5∨k*5+5≤i*5+j:=by intro j hj;omega
  exact⟨vc',va',far rfl (qbw (Or.inr (hoff 0 (by omega))) k0),far rfl (qbw (Or.inr (hoff 1 (by omega))) k1),far rfl (qbw (Or.inr (hoff 2 (by omega))) k2),far rfl (qbw (Or.inr (hoff 3 (by omega))) k3),far rfl (qbw (Or.inr (hoff 4 (by omega))) k4),strs hcc,atss haa⟩
def qcb (ns:List Pl.Nd)(n:Int)(x:Pl.Nd):Int:=if qai ns n=0 then (if Pl.right x=true then 0 else 1) else qai ns n
def qcG (ns:List Pl.Nd)(n:Int)(x:Pl.Nd):List Pl.Nd:=if qcb ns n x=0 then (ns.map (Pl.mvd id)).set n.toNat { x with up:=Pl.upOf ns n.toNat } else []
theorem put_cells {B:Nat}{w W:World}{g n cap k:Nat}{ns:List Pl.Nd}(h:Row B w (.slice (some ⟨g,0,none⟩) n cap) ns)(hW:Below w.heap.size w W)(hk:k<ns.length):
 (∃c,W.cell? ⟨g,k*5,none⟩=some c)∧(∃c,W.cell? ⟨g,k*5+1,none⟩=some c)∧(∃c,W.cell? ⟨g,k*5+2,none⟩=some c)∧(∃c,W.cell? ⟨g,k*5+3,none⟩=some c)∧∃c,W.cell? ⟨g,k*5+4,none⟩=some c:=by
 obtain⟨xs,hown,hc⟩:=h.on hW;obtain⟨vc,va,h0,h1,h2,h3,h4,_,_⟩:=qaz.get xs ns hc k hk;have k0:=World.ownsRow.cells hown rfl _ _ h0;have k1:=World.ownsRow.cells hown rfl _ _ h1;have k2:=World.ownsRow.cells hown rfl _ _ h2;have k3:=World.ownsRow.cells hown rfl _ _ h3;have k4:=World.ownsRow.cells hown rfl _ _ h4;simp only[Addr.add_lit,Nat.zero_add]at k0 k1 k2 k3 k4;exact⟨⟨_,k0⟩,⟨_,k1⟩,⟨_,k2⟩,⟨_,k3⟩,⟨_,k4⟩⟩
theorem qgd {ns es:List Pl.Nd}{up at_:Int}(h:qax ns up at_ es=0):Pl.qad (qaO ns up at_ es)=0:=by
 obtain⟨_,_,_,h1,_⟩:=ins_back h;exact h1
theorem rem_right {ns:List Pl.Nd}{n:Int}(h:qbz ns n=0):Pl.qad (qcc ns n)=0:=by
 have h1:qai ns n=0:=by
  unfold qbz at h
  split at h
  ·assumption
  ·assumption
 obtain⟨_,_,_,_,_,_,_,_,h2,_⟩:=rem_back h1 h;exact(ins_zero h2).1
theorem put_right {ns:List Pl.Nd}{n:Int}{x:Pl.Nd}(h:qcb ns n x=0):Pl.qad (qcG ns n x)=0:=by
 have h0:=h;unfold qcb at h
 split at h
 ·rename_i h1
  split at h
  ·rename_i hr;obtain⟨c1,k,rfl,hk⟩:=qcp h1;obtain⟨l1,l2,r1,g1⟩:=(Pl.qbU ns).1 c1;unfold qcG;rw[if_pos h0,Pl.qcF,Int.toNat_natCast]
   have hup:∀i,Pl.upOf (ns.set k { x with up:=Pl.upOf ns k }) i=Pl.upOf ns i:=by
    intro i;unfold Pl.upOf;rw[List.getElem?_set]
    by_cases hki:k=i
    ·subst hki;rw[if_pos rfl,if_pos hk,List.getElem?_eq_getElem hk]
    ·rw[if_neg hki]
   refine(Pl.qbU _).2 ⟨by simpa using l1,by simpa using l2,?_,?_⟩
   ·intro y hy
    rcases List.mem_or_eq_of_mem_set hy with hy|rfl
    ·exact r1 y hy
    ·exact hr
   ·intro i hi;rw[List.length_set]at hi;have:=g1 i hi;simp only[hup];exact this
  ·omega
 ·rename_i h1;exact absurd h h1
def qd8 (err:Int)(ns:List Pl.Nd):Int:=if err=0 then Pl.qad ns else err
def qd9 (err:Int)(ns:List Pl.Nd):List Pl.Nd:=if err=0 then (if Pl.qad ns=0 then ns else []) else []
def qeb (err:Int)(ns:List Pl.Nd):List Pl.Er:=if err=0 then Pl.qaq ns else []
def qaw (ns:List Pl.Nd)(l:List Pl.Er):Int:=if Pl.qad ns=0 then (if l=Pl.qaq ns then 0 else 1) else Pl.qad ns
theorem qis (ns:List Pl.Nd):(Pl.qaq ns).length≤512∧∀e∈Pl.qaq ns,e.2.length≤512:=by
 unfold Pl.qaq
 split
 ·rename_i h;obtain⟨_,h64,_⟩:=qa9 h;have:=Pl.idx_fit (fun x hx=>(qa6 h x hx).1) ns.length;refine⟨by have:=this.1;simp;omega,fun e he=>?_⟩;obtain⟨f,hf,rfl⟩:=List.mem_map.1 he;have:=this.2 f hf;simp[Pl.erOf];omega
 ·simp
structure Sm (W:World)(N:Nat):Prop where
 ex:∃cs t,W.heap[N]? =some (.cells cs t (0,0))∧cs.size≤2∧∀c∈cs.toList,∃a l k,c=.slice a l k
theorem Sm.cell {W:World}{N j:Nat}{v:Value}(h:Sm W N)(hc:W.cell? ⟨N,j,none⟩=some v):j<2∧∃a l k,v=.slice a l k:=by
 obtain⟨cs,t,h1,h2,h3⟩:=h.ex;rw[cell_of_row W N j cs t (0,0) h1]at hc
 have hj:j<cs.size:=by
  rcases Nat.lt_or_ge j cs.size with h4|h4
  ·exact h4
  ·rw[Array.getElem?_eq_none h4]at hc;cases hc
 refine⟨by omega,h3 v ?_⟩;rw[Array.getElem?_eq_getElem hj]at hc;injection hc with hc;rw[←hc];simp
theorem sm_str {W:World}{N j b o:Nat}{u:Value}{s:ByteArray}(h:Sm W N)(hc:W.cell? ⟨b,o,none⟩=some (.string s)):(W.setCell ⟨N,j,none⟩ u).cell? ⟨b,o,none⟩=some (.string s):=by
 rw[World.cell?_setCell_other _ _ _ _ (by
  intro e;injection e with e1 _ _;subst e1;obtain⟨_,_,_,_,e⟩:=h.cell hc
  cases e)]
 exact hc
theorem sm_int {W:World}{N j b o:Nat}{u:Value}{k:IntKind}{z:Int}(h:Sm W N)(hc:W.cell? ⟨b,o,none⟩=some (.int k z)):(W.setCell ⟨N,j,none⟩ u).cell? ⟨b,o,none⟩=some (.int k z):=by
 rw[World.cell?_setCell_other _ _ _ _ (by
  intro e;injection e with e1 _ _;subst e1;obtain⟨_,_,_,_,e⟩:=h.cell hc
  cases e)]
 exact hc
theorem qar.sm {W:World}{v u:Value}{ns:List Pl.Nd}{N j:Nat}(h:qar W v ns)(hS:Sm W N):qar (W.setCell ⟨N,j,none⟩ u) v ns:=by
 refine⟨?_,h.2⟩;obtain⟨a,c,rfl,hc⟩:=h.1;refine⟨a,c,rfl,?_⟩
 rcases hc with hc|⟨b,o,rfl,hc⟩
 ·exact Or.inl hc
 ·refine Or.inr ⟨b,o,rfl,fun i hi=>?_⟩;obtain⟨vc,va,n0,n1,n2,n3,n4,nc,na⟩:=hc i hi
  have hb:N≠b:=by
   intro e;subst e;have:=(hS.cell n4).1;omega
  refine⟨vc,va,qbj n0 hb,qbj n1 hb,qbj n2 hb,qbj n3 hb,qbj n4 hb,?_,?_⟩
  ·obtain⟨a,c,rfl,h⟩:=nc;refine⟨a,c,rfl,?_⟩
   rcases h with h|⟨b,o,ha,hc⟩
   ·exact Or.inl h
   ·exact Or.inr ⟨b,o,ha,fun i hi=>sm_str hS (hc i hi)⟩
  ·obtain⟨a,c,rfl,h⟩:=na;refine⟨a,c,rfl,?_⟩
   rcases h with h|⟨b,o,ha,hc⟩
   ·exact Or.inl h
   ·exact Or.inr ⟨b,o,ha,fun i hi=>⟨sm_str hS (hc i hi).1,sm_str hS (hc i hi).2⟩⟩
theorem qbl.sm {W:World}{v u:Value}{l:List Pl.Er}{N j:Nat}(h:qbl W v l)(hS:Sm W N):qbl (W.setCell ⟨N,j,none⟩ u) v l:=by
 obtain⟨a,c,rfl,hc⟩:=h;refine⟨a,c,rfl,?_⟩
 rcases hc with hc|⟨b,o,rfl,hc⟩
 ·exact Or.inl hc
 ·refine Or.inr ⟨b,o,rfl,fun i hi=>?_⟩;obtain⟨vi,n0,n1,n2,n3⟩:=hc i hi
  have hb:N≠b:=by
   intro e;subst e;have:=(hS.cell n2).1;omega
  refine⟨vi,qbj n0 hb,qbj n1 hb,qbj n2 hb,?_⟩;obtain⟨a,c,rfl,h⟩:=n3;refine⟨a,c,rfl,?_⟩
  rcases h with h|⟨b,o,ha,hc⟩
  ·exact Or.inl h
  ·exact Or.inr ⟨b,o,ha,fun i hi=>sm_int hS (hc i hi)⟩
def Blk2 (w:World)(N:Nat)(c0 c1:Value):Prop:=w.heap[N]? =some (.cells #[c0,c1] 32)
theorem Blk2.facts {w:World}{N:Nat}{c0 c1:Value}(h:Blk2 w N c0 c1):(w.cell? ⟨N,0,none⟩=some c0∧w.cell? ⟨N,1,none⟩=some c1)∧∀i,w.frozen? ⟨N,i,none⟩=false:=by
 unfold Blk2 at h;refine⟨⟨?_,?_⟩,fun i=>?_⟩
 all_goals simp[World.cell?,World.frozen?,h]
theorem Blk2.lt {w:World}{N:Nat}{c0 c1:Value}(h:Blk2 w N c0 c1):N<w.heap.size:=(Array.getElem?_eq_some_iff.1 h).1
theorem Blk2.on {w w':World}{N:Nat}{c0 c1:Value}(h:Blk2 w N c0 c1)(hb:Below w.heap.size w w'):Blk2 w' N c0 c1:=by
 unfold Blk2;rw[hb.block N h.lt];exact h
theorem Blk2.new (w:World)(c0 c1:Value):Blk2 (w.alloc (.cells #[c0,c1] 32)) w.heap.size c0 c1:=heap_alloc_new w _
theorem Blk2.set0 {w:World}{N:Nat}{c0 c1:Value}(h:Blk2 w N c0 c1)(v:Value):Blk2 (w.setCell ⟨N,0,none⟩ v) N v c1:=by
 unfold Blk2 at *;simp[World.setCell,Array.getElem?_modify,h]
theorem Blk2.set1 {w:World}{N:Nat}{c0 c1:Value}(h:Blk2 w N c0 c1)(v:Value):Blk2 (w.setCell ⟨N,1,none⟩ v) N c0 v:=by
 unfold Blk2 at *;simp[World.setCell,Array.getElem?_modify,h]
theorem Blk2.sm {w:World}{N:Nat}{a0 a1:Option Addr}{l0 l1 k0 k1:Nat}(h:Blk2 w N (.slice a0 l0 k0) (.slice a1 l1 k1)):Sm w N:=⟨_,_,h,by simp,fun c hc=>by
 simp only[List.mem_cons,List.not_mem_nil,or_false]at hc
 rcases hc with rfl|rfl
 ·exact⟨_,_,_,rfl⟩
 ·exact⟨_,_,_,rfl⟩⟩
theorem Blk1.sm {w:World}{N:Nat}{a0:Option Addr}{l0 k0:Nat}(h:Blk1 w N (.slice a0 l0 k0)):Sm w N:=⟨_,_,h,by simp,fun c hc=>by
 simp only[List.mem_cons,List.not_mem_nil,or_false]at hc;subst hc
 exact⟨_,_,_,rfl⟩⟩
theorem qbl.form {w:World}{v:Value}{l:List Pl.Er}(h:qbl w v l):∃a c,v=.slice a l.length c:=by
 obtain⟨a,c,e,_⟩:=h;exact⟨a,c,e⟩
def PgAt (w:World)(v:Value)(ns:List Pl.Nd)(l:List Pl.Er):Prop:=∃a c a2 c2,v=.agg #[.slice a ns.length c,.slice a2 l.length c2]∧qar w (.slice a ns.length c) ns∧qbl w (.slice a2 l.length c2) l
theorem PgAt.on {w w':World}{v:Value}{ns:List Pl.Nd}{l:List Pl.Er}(h:PgAt w v ns l)(hb:Below w.heap.size w w'):PgAt w' v ns l:=by
 obtain⟨a,c,a2,c2,e,h1,h2⟩:=h;exact⟨a,c,a2,c2,e,h1.on hb,h2.on hb⟩
theorem PgAt.nil (w:World):PgAt w (.agg #[.slice none 0 0,.slice none 0 0]) [] []:=⟨none,0,none,0,rfl,qar.nil w,qbl.nil w⟩
theorem PgAt.box {w:World}{N:Nat}{ns:List Pl.Nd}{l:List Pl.Er}{a a2 a3 a4:Option Addr}{c c2 l3 c3 l4 c4:Nat}(h1:qar w (.slice a ns.length c) ns)(h2:qbl w (.slice a2 l.length c2) l)(hb:Blk2 w N (.slice a3 l3 c3) (.slice a4 l4 c4)):
 PgAt ((w.setCell ⟨N,0,none⟩ (.slice a ns.length c)).setCell ⟨N,1,none⟩ (.slice a2 l.length c2)) (.agg #[.slice a ns.length c,.slice a2 l.length c2]) ns l∧
  Blk2 ((w.setCell ⟨N,0,none⟩ (.slice a ns.length c)).setCell ⟨N,1,none⟩ (.slice a2 l.length c2)) N (.slice a ns.length c) (.slice a2 l.length c2):=by
 have hb1:=hb.set0 (.slice a ns.length c);exact⟨⟨a,c,a2,c2,rfl,(h1.sm hb.sm).sm hb1.sm,(h2.sm hb.sm).sm hb1.sm⟩,hb1.set1 _⟩
end Go.Proofs.YtephhllfodlfbaaGreatDoor
