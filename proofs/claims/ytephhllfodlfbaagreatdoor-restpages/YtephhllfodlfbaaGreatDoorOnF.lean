/-
  A path whose steps are made plainer in place: what is done lies in some blocks, what is not yet done in others.
-/
import Derived.Test.YtephhllfodlfbaaGreatDoorStU
namespace Go.Proofs.YtephhllfodlfbaaGreatDoor
open Go.RowKit
section
variable {α:Type} [DecidableEq α] {A:MemL α}
def qi (B H:Nat)(own:Nat→Nat)(v:Value)(k:Nat):Nat→Bool:=fun j=>own j==k&&Off (frm B) v j&&decide (j<H)
def pdn (B H:Nat)(own:Nat→Nat)(v:Value)(k:Nat):Nat→Bool:=fun j=>(Off (frm B) v j&&decide (own j<k)&&decide (j<H))||decide (H≤j)
def kp1 (B:Nat)(own:Nat→Nat)(v:Value)(k:Nat):Nat→Bool:=fun j=>decide (j<B)||decide (k≤own j)||(v.ownBlock==some j)
def p2 (Bp:Nat)(Q:Nat→Bool):Nat→Bool:=fun j=>frm Bp j&&Q j
def plus (P:Nat→Bool)(H:Nat):Nat→Bool:=fun j=>P j||decide (H≤j)
def kp2 (P:Nat→Bool)(own2:Nat→Nat)(v:Value)(m:Nat):Nat→Bool:=fun j=> !(P j)||(decide (m≤own2 j)&&!(v.ownBlock==some j))
def v2 (A:MemL α)(f:List α→List α)(only:List α→Option (Pl.Stp α))(own2:Nat→Nat)(H m:Nat)(ss:List (Pl.Stp α))(i:Nat)(W:World)(c:List Value):Prop:=∃h:i<ss.length,if i<m then VS A (mask (fun j=>decide (own2 j<m)||decide (H≤j)) W) c (Pl.plS f only ss[i]) else VSd A (mask (fun j=>own2 j==i&&decide (j<H)) W) c ss[i]
variable {f:List α→List α} {only:List α→Option (Pl.Stp α)} {own2:Nat→Nat} {H m:Nat} {ss:List (Pl.Stp α)}
theorem v2_sub (hS:qaK A){i:Nat}{W W':World}{c:List Value}(h:v2 A f only own2 H m ss i W c)(hi:qen W W'):v2 A f only own2 H m ss i W' c:=by
 obtain⟨h,hv⟩:=h;refine⟨h,?_⟩
 by_cases e:i<m
 ·rw[if_pos e]at hv ⊢;exact(isV_s hS).b.sub hv (qdi hi)
 ·rw[if_neg e]at hv ⊢;exact(qcg hS).sub hv (qdi hi)
theorem st_enter (hS:qaK A){B H1 k Bp:Nat}{own:Nat→Nat}{v0 vs:Value}{w1 wr:World}(hH:w1.heap.size=H1)(h:qbV (fun j=>frm Bp j&&(own j==k&&Off (frm B) v0 j)) Bp 67 2 (fun i W c=>∃h:i<ss.length,VSd A (mask (fun j=>own2 j==i) W) c ss[i]) ss.length w1 vs)(hk:Kp (kp1 B own v0 k) w1 wr):
 qbV (plus (p2 Bp (qi B H1 own v0 k)) wr.heap.size) Bp 67 2 (v2 A f only own2 wr.heap.size 0 ss) ss.length wr vs:=by
 have hkeep:∀j,own j=k→j<w1.heap.size→wr.heap[j]? =w1.heap[j]? :=fun j hj hl=>hk.blk j hl (by unfold kp1;simp[hj])
 refine h.to (fun g hg=>?_) fun i c hi hv=>?_
 ·obtain⟨h1,h2,h3⟩:=h.own g hg;simp only[Bool.and_eq_true,beq_iff_eq]at h1;refine⟨hkeep g h1.2.1 h3,?_⟩;unfold plus p2 qi;rw[h1.1,h1.2.2,h1.2.1];simp;omega
 ·obtain⟨h',hv⟩:=hv;refine⟨h',?_⟩;rw[if_neg (by omega)];refine(qcg hS).sub hv ?_;rw[qaU,qaU];refine qbn fun j hj hl=>?_
  unfold Off at hj;simp only[Bool.and_eq_true,beq_iff_eq]at hj;have hsz:=hk.size;refine⟨?_,hkeep j hj.2.1.2.1 hl⟩;unfold plus p2 qi;unfold Off;dsimp only;rw[hj.1,hj.2.1.1,hj.2.1.2.1,hj.2.1.2.2.1,hj.2.1.2.2.2,hj.2.2];simp;omega
theorem st_step (hS:qaK A){P2 P3:Nat→Bool}{Bp s2 cap2:Nat}{w2 w6:World}(h:qbV (plus P2 H) Bp 67 2 (v2 A f only own2 H m ss) ss.length w2 (.slice (some ⟨s2,0,none⟩) ss.length cap2))(hm:m<ss.length)(hH:H≤w2.heap.size)(hs2:s2<H){t3:Option Nat}(ht3:∀j,t3=some j→own2 j=m∧j<H∧j≠s2)
 (hk:∀j,j<w2.heap.size→t3≠some j→w6.heap[j]? =w2.heap[j]?) {vt:Value} (hn:qaf (qaF A) 6 (mask P3 w6) vt (Pl.plS f only ss[m]).tests) (hP3:∀j,P3 j=true→(own2 j=m∧j<H∧Off (plus P2 H) (.slice (some ⟨s2,0,none⟩) ss.length cap2) j=true)∨w2.heap.size≤j):
 qbV (plus P2 H) Bp 67 2 (v2 A f only own2 H (m+1) ss) ss.length ((w6.setCell ⟨s2,m*2,none⟩ (.string ⟨(Pl.plS f only ss[m]).tag.toArray⟩)).setCell ⟨s2,m*2+1,none⟩ vt) (.slice (some ⟨s2,0,none⟩) ss.length cap2):=by
 have h1:qbV (plus P2 H) Bp 67 2 (fun i W c=>i≠m→v2 A f only own2 H (m+1) ss i W c) ss.length w6 (.slice (some ⟨s2,0,none⟩) ss.length cap2):=by
  refine h.to (fun g hg=>?_) fun i c hi hv hne=>?_
  ·obtain⟨q1,q2,q3⟩:=h.own g hg;have e:s2=g:=by simpa [Value.ownBlock] using hg
   subst e;exact⟨hk s2 q3 (fun e=>(ht3 s2 e).2.2 rfl),q1⟩
  ·obtain⟨h',hv⟩:=hv;refine⟨h',?_⟩
   by_cases e:i<m
   ·rw[if_pos e]at hv;rw[if_pos (by omega)];refine(isV_s hS).b.sub hv ?_;rw[qaU,qaU];refine qbn fun j hj hl=>?_
    rw[Bool.and_eq_true,Bool.or_eq_true,decide_eq_true_eq,decide_eq_true_eq]at hj;refine⟨?_,hk j hl (fun e=>by have:=ht3 j e;omega)⟩;rw[Bool.and_eq_true,Bool.or_eq_true,decide_eq_true_eq,decide_eq_true_eq];exact⟨by omega,hj.2⟩
   ·rw[if_neg e]at hv;rw[if_neg (by omega)];refine(qcg hS).sub hv ?_;rw[qaU,qaU];refine qbn fun j hj hl=>⟨hj,hk j hl (fun e=>?_)⟩
    have:=ht3 j e;simp only[Bool.and_eq_true,beq_iff_eq]at hj;omega
 refine h1.set2 hm (fun i c hi hne hv=>v2_sub hS (hv hne) (qcT.trans qcT)) ⟨hm,?_⟩;rw[if_pos (by omega)];refine⟨vt,rfl,hn.map fun _ _ _ hq=>hq.sub hS ?_⟩;rw[qaU];refine qam fun j hj _=>?_
 have hoff:(decide (own2 j<m+1)||decide (H≤j))=true∧Off (plus P2 H) (.slice (some ⟨s2,0,none⟩) ss.length cap2) j=true:=by
  rcases hP3 j hj with ⟨q1,q2,q3⟩|q
  ·exact⟨by simp;omega,q3⟩
  ·refine⟨by simp;omega,?_⟩;unfold Off plus;have e1:decide (H≤j)=true:=decide_eq_true (by omega);rw[e1];simp[Value.ownBlock];omega
 have hne:j≠s2:=by
  rintro rfl;have:=hoff.2;unfold Off at this;simp[Value.ownBlock]at this
 refine⟨by rw[hoff.1,hoff.2];rfl,?_⟩;rw[Below.heap_setCell _ _ _ _ (by show j≠s2;omega),Below.heap_setCell _ _ _ _ (by show j≠s2;omega)]
theorem st_end (hS:qaK A){P2:Nat→Bool}{Bp:Nat}{w:World}{v:Value}(h:qbV (plus P2 H) Bp 67 2 (v2 A f only own2 H ss.length ss) ss.length w v):Grow (plus P2 H) Bp 67 2 (VS A) w v (ss.map (Pl.plS f only)):=by
 have h':qbV (plus P2 H) Bp 67 2 (v2 A f only own2 H ss.length ss) (ss.map (Pl.plS f only)).length w v:=by rw[List.length_map];exact h
 refine h'.grow fun i c hi hv=>?_
 obtain⟨q,hv⟩:=hv;rw[if_pos q]at hv;rw[List.getElem_map];refine(isV_s hS).b.sub hv ?_;rw[qaU];refine qbn fun j hj _=>⟨?_,rfl⟩
 rw[Bool.and_eq_true]at hj;exact hj.2
theorem st_tests (hS:qaK A){P2:Nat→Bool}{Bp:Nat}{w:World}{v:Value}(h:qbV (plus P2 H) Bp 67 2 (v2 A f only own2 H m ss) ss.length w v)(hm:m<ss.length):∃s2 cap2 vt Bt,v=.slice (some ⟨s2,0,none⟩) ss.length cap2∧plus P2 H s2=true∧w.cell? ⟨s2,m*2,none⟩=some (.string ⟨ss[m].tag.toArray⟩)∧w.cell? ⟨s2,m*2+1,none⟩=some vt∧Grow (fun j=>frm Bt j&&(own2 j==m&&decide (j<H)&&Off (plus P2 H) v j)) Bt 71 6 (VT A) w vt ss[m].tests:=by
 obtain⟨s2,cap2,c,e,hP,⟨h',hv⟩,hc⟩:=h.at hm;rw[if_neg (by omega),qaU]at hv;obtain⟨vt,Bt,rfl,hg⟩:=hv;have c0:=hc 0 _ (by omega) rfl;have c1:=hc 1 _ (by omega) rfl;exact⟨s2,cap2,vt,Bt,e,hP,c0,c1,hg.unmask (qba hS).b (by decide)⟩
end
end Go.Proofs.YtephhllfodlfbaaGreatDoor
