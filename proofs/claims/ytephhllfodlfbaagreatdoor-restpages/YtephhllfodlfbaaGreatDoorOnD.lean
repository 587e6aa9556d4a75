/-
  The document's own OnceOf, one level: its own copy is changed in place.
-/
import Derived.Test.YtephhllfodlfbaaGreatDoorOnB
import Derived.Test.YtephhllfodlfbaaGreatDoorOnF
set_option maxRecDepth 100000
set_option maxHeartbeats 16000000
namespace Go.Proofs.YtephhllfodlfbaaGreatDoor
open Go.RowKit
theorem Grow.at {β:Type}{P:Nat→Bool}{B:Nat}{e:TypeId}{k:Nat}{V:World→List Value→β→Prop}{w:World}{v:Value}{l:List β}(h:Grow P B e k V w v l){i:Nat}(hi:i<l.length):∃g cap c,v=.slice (some ⟨g,0,none⟩) l.length cap∧P g=true∧V (mask (Off P v) w) c l[i]∧∀r x,r<k→c[r]? =some x→w.cell? ⟨g,i*k+r,none⟩=some x:=by
 obtain⟨xs,hown,hPo,hv⟩:=h;have hI:qbV P B e k (fun i W c=>∃h:i<l.length,V W c l[i]) l.length w v:=⟨xs,hown,hPo,fun i hi=>⟨hi,hv i hi⟩⟩
 obtain⟨g,cap,c,e1,e2,⟨_,e3⟩,e4⟩:=hI.at hi;exact⟨g,cap,c,e1,e2,e3,e4⟩
theorem plus_l {P:Nat→Bool}{H j:Nat}(h:P j=true):plus P H j=true:=by unfold plus;rw[h];rfl
theorem plus_r {P:Nat→Bool}{H j:Nat}(h:H≤j):plus P H j=true:=by unfold plus;rw[decide_eq_true h,Bool.or_true]
theorem off_plus {P:Nat→Bool}{H j g n cap:Nat}(h:H≤j)(hne:j≠g):Off (plus P H) (.slice (some ⟨g,0,none⟩) n cap) j=true:=by
 unfold Off;rw[plus_r h];simp[Value.ownBlock];omega
theorem pdn_next {B H:Nat}{own:Nat→Nat}{v:Value}{k j:Nat}(h:pdn B H own v k j=true):pdn B H own v (k+1) j=true:=by
 unfold pdn at h ⊢;simp only[Bool.or_eq_true,Bool.and_eq_true,decide_eq_true_eq]at h ⊢
 rcases h with ⟨⟨h1,h2⟩,h3⟩|h
 ·exact Or.inl ⟨⟨h1,by omega⟩,h3⟩
 ·exact Or.inr h
theorem qfa {w w':World}{j i:Nat}(h:w'.heap[j]? =w.heap[j]?)(hf:w.frozen? ⟨j,i,none⟩=false):w'.frozen? ⟨j,i,none⟩=false:=by
 unfold World.frozen? at hf ⊢;dsimp only at hf ⊢;rw[h];exact hf
theorem cell_blk {w w':World}{j i:Nat}{x:Value}(h:w'.heap[j]? =w.heap[j]?)(hf:w.cell? ⟨j,i,none⟩=some x):w'.cell? ⟨j,i,none⟩=some x:=by
 unfold World.cell? at hf ⊢;dsimp only at hf ⊢;rw[h];exact hf
theorem onceOf_up {α:Type}[DecidableEq α]{A:MemL α}(hA:IsL A)(hS:qaK A)(L:Pl.Lev α)(hL:Pl.qcR L)(hOwn:OwnC A L.W)(hD:DPlC A L)(hStep:StepD A L)(hsame:∀(w:World) (v1 v2:Value) (l m:List α),A w v1 l→A w v2 m→L.W l→L.W m→Calls Tryz.prog 19 #[v1,v2] w fun e w'=>e=.returned (.bool (sm l m))∧Below w.heap.size w w')(lift:List α→List (Pl.Pth α)):DPlC (qbp A) (L.up lift):=by
 intro w v l hl hok;have hok:Pl.okL L.W l:=hok
 show Calls Tryz.prog 72 #[v] w fun e w'=>∃a c,e=.returned (.slice a (Pl.plL L.f L.only l).length c)∧qbp A (mask (frm w.heap.size) w') (.slice a (Pl.plL L.f L.only l).length c) (Pl.plL L.f L.only l)∧Below w.heap.size w w'
 have HOW:Hid (Calls Tryz.prog 24 _ _ _):=own_up hA hS L.W hOwn w v l hl hok;have HOK:Hid (Pl.okL L.W l):=hok;have h5:=hok.1;obtain⟨R,hR⟩:∃q,q=Pl.plL L.f L.only l:=⟨_,rfl⟩
 rw[←hR];have HR:Hid (R=Pl.qaR (l.map (Pl.plP L.f L.only))):=hR;have HRK:Hid (Pl.okL L.W R):=by unfold Hid;rw[hR];exact Pl.plL_ok hL hok
 obtain⟨a,c,rfl⟩:=qaf.form hl;clear hl hok hR;go_enter Tryz.func72,Tryz.ntmps72
 go_wp2_with fail
 refine HOW.out.mono ?_;rintro e w1 ⟨a0,c0,rfl,hg,hb1⟩;obtain⟨own,hI⟩:=hg.toI' (qcQ hS);have HI1:Hid (qbV (frm w.heap.size) w.heap.size 64 2 (fun i W c=>∃h:i<l.length,VPd A (mask (fun j=>own j==i) W) c l[i]) l.length w1 (.slice a0 l.length c0)):=hI;have HB1:Hid (Below w.heap.size w w1):=hb1;clear hg hI hb1 HOW;obtain⟨PL,hPL⟩:∃q,q=l.map (Pl.plP L.f L.only):=⟨_,rfl⟩
 have HPL:Hid (PL=l.map (Pl.plP L.f L.only)):=hPL;rw[←hPL]at HR;clear hPL;go_wp2
 go_loopw [3,4] (fun u i wr=>∃k:Nat,k≤l.length∧i=.int .i64 k∧Hid (Grow (pdn w.heap.size w1.heap.size own (.slice a0 l.length c0) k) w1.heap.size 64 2 (VP A) wr u (Pl.qag PL k))∧Hid (Kp (kp1 w.heap.size own (.slice a0 l.length c0) k) w1 wr)) (fun _ i _=>l.length-(intOf i).toNat)
 case atStart=>exact⟨0,Nat.zero_le _,rfl,Grow.nil _ _ _ _ _ _,Kp.refl _ _⟩
 case round=>
  obtain⟨k,hk,rfl,HG,HF⟩:=hrel;obtain⟨ao,co,rfl⟩:=HG.out.form;have HBW:Hid (Below w.heap.size w wr):=HF.out.belowB HB1.out HB1.out.size (fun j hj=>by unfold kp1;simp[hj])
  by_cases hlt:k<l.length
  ·as_aux_lemma=>
   obtain⟨g,cap,cc,ev0,hPg,⟨_,hVP⟩,hcell⟩:=HI1.out.at hlt;injection ev0 with ev1 _ ev3;subst ev1 ev3;obtain⟨vs,vl,Bp,rfl,hGD,hLk⟩:=hVP;rw[qaU]at hGD;rw[qaU,qaU]at hLk;have x0:=hcell 0 vs (by omega) rfl;have x1:=hcell 1 vl (by omega) rfl;simp only[Nat.add_zero]at x0;obtain⟨own2,hI2⟩:=hGD.toI (qcg hS) (by decide);obtain⟨as_,cs,rfl⟩:=hI2.form;obtain⟨al,cl,rfl⟩:=qaf.form hLk;have hgl:g<w1.heap.size:=qaV x0;have HQ:Hid (qbV (plus (p2 Bp (qi w.heap.size w1.heap.size own (.slice (some ⟨g,0,none⟩) l.length c0) k)) wr.heap.size) Bp 67 2 (v2 A L.f L.only own2 wr.heap.size 0 (l[k]).steps) (l[k]).steps.length wr (.slice as_ (l[k]).steps.length cs)):=st_enter hS rfl hI2 HF.out
   have HLK:Hid (qaf qbe 1 (mask (fun j=>decide (j<Bp)&&qi w.heap.size w1.heap.size own (.slice (some ⟨g,0,none⟩) l.length c0) k j) wr) (.slice al (l[k]).links.length cl) (l[k]).links):=qdZ (qgY hLk) (qam fun j hj hjl=>by
    simp only[Bool.and_eq_true,beq_iff_eq]at hj;refine⟨?_,HF.out.blk j hjl (by unfold kp1;simp[hj])⟩;unfold qi
    simp[hj,hjl])
   have HXG:Hid (∀W:World,W.heap[g]? =w1.heap[g]?→W.cell? ⟨g,k*2,none⟩=some (.slice as_ (l[k]).steps.length cs)∧W.cell? ⟨g,k*2+1,none⟩=some (.slice al (l[k]).links.length cl)):=fun W hW=>⟨cell_blk hW x0,cell_blk hW x1⟩
   have HGG:Hid (wr.heap[g]? =w1.heap[g]?):=HF.out.blk g hgl (by unfold kp1;simp[Value.ownBlock]);have HGL:Hid (g<wr.heap.size):=by unfold Hid;have:=HF.out.size;omega
   have HOKP:Hid (Pl.okP L.W l[k]):=HOK.out.2 l[k] (List.getElem_mem hlt);have hpk:k<PL.length:=by rw[HPL.out,List.length_map];exact hlt
   have HNX:Hid (Pl.qag PL (k+1)=Pl.qbu (Pl.qag PL k) (Pl.plP L.f L.only l[k])):=by
    unfold Hid;rw[Pl.qbx hpk]
    congr 1
    simp[HPL.out]
   have HKL:Hid ((Pl.qag PL k).length≤5):=by unfold Hid;have:=Pl.qb3 PL k (by omega);omega
   have HKW:Hid (∀y∈Pl.qag PL k,∀s∈y.steps,∀t∈s.tests,L.W t.list):=by
    intro y hy s hs t ht;have hy':=List.mem_of_mem_take (Pl.qfp.1 hy);rw[HPL.out]at hy';obtain⟨q,hq,rfl⟩:=List.mem_map.1 hy';exact(((Pl.qgc hL (HOK.out.2 q hq)).2.2.2.2) s hs).2 t ht
   have i1:(0:Int)≤(k:Int):=by omega
   have i2:(k:Int)<(l.length:Int):=by omega
   have hp5:(l[k]).steps.length≤5:=HOKP.out.2.1;clear hGD hLk hI2 hcell x0 x1 hpk hgl;generalize l[k]=p at *;generalize Pl.qag PL k=kept at *;obtain⟨Q,hQ⟩:∃q,q=qi w.heap.size w1.heap.size own (.slice (some ⟨g,0,none⟩) l.length c0) k:=⟨_,rfl⟩
   rw[←hQ]at HQ HLK
   have HQD:Hid (∀j,Q j=true→own j=k∧w.heap.size≤j∧j<w1.heap.size∧j≠g):=by
    intro j hj;rw[hQ]at hj;unfold qi Off frm at hj;simp[Value.ownBlock]at hj;exact⟨hj.1.1,hj.1.2.1,hj.2,fun e=>hj.1.2.2 e.symm⟩
   have HQI:Hid (Q=qi w.heap.size w1.heap.size own (.slice (some ⟨g,0,none⟩) l.length c0) k):=hQ;clear hQ;obtain⟨wq,hwq⟩:∃q,q=wr:=⟨_,rfl⟩
   subst hwq;go_wp2
   go_loopw [5] (fun i wr=>∃m:Nat,m≤p.steps.length∧i=.int .i64 m∧Hid (qbV (plus (p2 Bp Q) wq.heap.size) Bp 67 2 (v2 A L.f L.only own2 wq.heap.size m p.steps) p.steps.length wr (.slice as_ p.steps.length cs))∧Hid (Kp (kp2 (p2 Bp Q) own2 (.slice as_ p.steps.length cs) m) wq wr)) (fun i _=>p.steps.length-(intOf i).toNat)
   case atStart=>exact⟨0,Nat.zero_le _,rfl,HQ,Kp.refl _ _⟩
   case round=>
    obtain⟨m,hm,rfl,HV,HK⟩:=hrel
    have HQG:Hid (Q g=false):=by
     unfold Hid
     cases h:Q g with
     | false=>rfl
     | true=>exact absurd rfl (HQD.out g h).2.2.2
    have HGm:Hid (wr.heap[g]? =w1.heap[g]?):=(HK.out.blk g HGL.out (by unfold kp2 p2;simp[HQG.out])).trans HGG.out;obtain⟨y0,y1⟩:=HXG.out wr HGm.out
    by_cases hml:m<p.steps.length
    ·as_aux_lemma=>
     obtain⟨s2,cap2,vt,Bt,evs,hPs,z0,z1,hT⟩:=st_tests hS HV.out hml;injection evs with ev1 _ ev3;subst ev1 ev3;obtain⟨at_,ct,rfl⟩:=hT.form;have HS2L:Hid (s2<wq.heap.size):=(HQ.out.own s2 rfl).2.2;have HOKS:Hid (Pl.okS L.W p.steps[m]):=HOKP.out.2.2.2 p.steps[m] (List.getElem_mem hml);have HSTO:Hid (∀c0,(wr.frozen? ⟨s2,m*2,none⟩=false∧∃x,wr.cell? ⟨s2,m*2,none⟩=some x)∧(wr.setCell ⟨s2,m*2,none⟩ c0).frozen? ⟨s2,m*2+1,none⟩=false∧∃x,(wr.setCell ⟨s2,m*2,none⟩ c0).cell? ⟨s2,m*2+1,none⟩=some x):=fun c0=>HV.out.store hml c0
     have HFZ1:Hid (wr.frozen? ⟨s2,m*2+1,none⟩=false):=by
      obtain⟨xs,hown,-⟩:=HV.out;exact(qb0 hown (i:=m*2+1) (by omega) undef).2.1
     have HTW:Hid (Grow (fun j=>frm Bt j&&(own2 j==m&&decide (j<wq.heap.size)&&Off (plus (p2 Bp Q) wq.heap.size) (.slice (some ⟨s2,0,none⟩) p.steps.length cs) j)) Bt 71 6 (VT A) wr (.slice at_ (p.steps[m]).tests.length ct) (p.steps[m]).tests):=hT
     have HPK:Hid (∀j,(fun j=>frm Bt j&&(own2 j==m&&decide (j<wq.heap.size)&&Off (plus (p2 Bp Q) wq.heap.size) (.slice (some ⟨s2,0,none⟩) p.steps.length cs) j)) j=true→own2 j=m∧j<wq.heap.size∧Off (plus (p2 Bp Q) wq.heap.size) (.slice (some ⟨s2,0,none⟩) p.steps.length cs) j=true∧Q j=true∧j≠s2∧Bp≤j):=by
      intro j hj;simp only[Bool.and_eq_true,beq_iff_eq,decide_eq_true_eq]at hj;obtain⟨-,⟨h1,h2⟩,h3⟩:=hj;refine⟨h1,h2,h3,?_⟩;unfold Off plus p2 frm at h3;simp[Value.ownBlock]at h3;obtain⟨h4|h4,h5⟩:=h3
      ·exact⟨h4.2,fun e=>h5 e.symm,h4.1⟩
      ·omega
     obtain⟨s,hs⟩:∃s,s=p.steps[m]:=⟨_,rfl⟩
     rw[←hs]at HOKS HTW z0;have z1':wr.cell? ⟨s2,m*2+1,none⟩=some (.slice at_ s.tests.length ct):=by rw[hs];exact z1
     have HSE:Hid (s=p.steps[m]):=hs
     have HT0:Hid (Grow (plus (fun j=>frm Bt j&&(own2 j==m&&decide (j<wq.heap.size)&&Off (plus (p2 Bp Q) wq.heap.size) (.slice (some ⟨s2,0,none⟩) p.steps.length cs) j)) wr.heap.size) Bt 71 6 (VT A) wr (.slice at_ s.tests.length ct) (Pl.mix L.f s.tests 0)):=by
      unfold Hid;rw[Pl.mix_zero];exact HTW.out.move (qba hS) fun j hj _=>⟨plus_l hj,rfl⟩
     have HTO:Hid (∀j,(.slice at_ s.tests.length ct:Value).ownBlock=some j→(fun j=>frm Bt j&&(own2 j==m&&decide (j<wq.heap.size)&&Off (plus (p2 Bp Q) wq.heap.size) (.slice (some ⟨s2,0,none⟩) p.steps.length cs) j)) j=true∧j<wr.heap.size):=fun j hj=>⟨(HTW.out.own j hj).1,HTW.out.lt j hj⟩
     have j1:(0:Int)≤(m:Int):=by omega
     have j2:(m:Int)<(p.steps.length:Int):=by omega
     have h6:s.tests.length≤6:=HOKS.out.1;clear hT z1 hs hPs HTW;obtain⟨w2,hw2⟩:∃q,q=wr:=⟨_,rfl⟩
     subst hw2;have HY0:Hid (w2.cell? ⟨g,k*2,none⟩=some (.slice (some ⟨s2,0,none⟩) p.steps.length cs)):=y0;have HZ0:Hid (w2.cell? ⟨s2,m*2,none⟩=some (.string ⟨s.tag.toArray⟩)):=z0;have HZ1:Hid (w2.cell? ⟨s2,m*2+1,none⟩=some (.slice at_ s.tests.length ct)):=z1';go_wp2;clear y0 y1 z0 z1'
     go_loopw [6] (fun i wr=>∃q:Nat,q≤s.tests.length∧i=.int .i64 q∧Hid (Grow (plus (fun j=>frm Bt j&&(own2 j==m&&decide (j<wq.heap.size)&&Off (plus (p2 Bp Q) wq.heap.size) (.slice (some ⟨s2,0,none⟩) p.steps.length cs) j)) w2.heap.size) Bt 71 6 (VT A) wr (.slice at_ s.tests.length ct) (Pl.mix L.f s.tests q))∧Hid (Kp (fun j=> !((.slice at_ s.tests.length ct:Value).ownBlock==some j)) w2 wr)) (fun i _=>s.tests.length-(intOf i).toNat)
     case atStart=>exact⟨0,Nat.zero_le _,rfl,HT0,Kp.refl _ _⟩
     case round=>
      obtain⟨q,hq,rfl,HT,HKq⟩:=hrel;have HNG:Hid ((.slice at_ s.tests.length ct:Value).ownBlock≠some g∧(.slice at_ s.tests.length ct:Value).ownBlock≠some s2):=⟨fun h=>absurd (HPK.out g (HTO.out g h).1).2.2.2.1 (by rw[HQG.out];simp),fun h=>(HPK.out s2 (HTO.out s2 h).1).2.2.2.2.1 rfl⟩
      have y0:=HKq.out.cell HY0.out (by simpa using HNG.out.1);have z0:=HKq.out.cell HZ0.out (by simpa using HNG.out.2);have z1:=HKq.out.cell HZ1.out (by simpa using HNG.out.2)
      by_cases hql:q<s.tests.length
      ·as_aux_lemma=>
       obtain⟨t3,cap3,cc3,evt,hPt,hVT,hc3⟩:=HT.out.at (i:=q) (by rw[Pl.qer];exact hql)
       injection evt with ev1 _ ev3;subst ev1 ev3;have hg:=Pl.mix_get L.f s.tests hql;rw[hg]at hVT;obtain⟨vL,rfl,hA1⟩:=hVT;obtain⟨a5,d5,rfl,-⟩:=hA.form hA1;have c5:=hc3 5 (.slice a5 (s.tests[q]).list.length d5) (by omega) rfl;have HWL:Hid (L.W (s.tests[q]).list):=HOKS.out.2 _ (List.getElem_mem hql)
       have HNXT:Hid (Pl.mix L.f s.tests (q+1)=(Pl.mix L.f s.tests q).set q { (Pl.mix L.f s.tests q)[q]'(by rw[Pl.qer];exact hql) with list:=L.f (s.tests[q]).list }):=by
        unfold Hid;rw[Pl.mix_next L.f s.tests hql,hg]
       have HNE:Hid (t3≠g∧t3≠s2):=⟨fun e=>HNG.out.1 (by rw[e];rfl),fun e=>HNG.out.2 (by rw[e];rfl)⟩
       have HC:Hid (Calls Tryz.prog 72 _ _ _):=hD wr.drew (.slice a5 (s.tests[q]).list.length d5) (s.tests[q]).list (hS.sub hA1 (qav _ _)) HWL.out;have S0:(fun w'=>w'.cell? ⟨g,k*2,none⟩=some (.slice (some ⟨s2,0,none⟩) p.steps.length cs)∧w'.cell? ⟨s2,m*2+1,none⟩=some (.slice (some ⟨t3,0,none⟩) s.tests.length ct)) wr.drew:=⟨y0,z1⟩
       have HS0:Hid _:=S0;have c5d:wr.drew.cell? ⟨t3,q*6+5,none⟩=some (.slice a5 (s.tests[q]).list.length d5):=c5;have HC5:Hid (wr.cell? ⟨t3,q*6+5,none⟩=some (.slice a5 (s.tests[q]).list.length d5)):=c5
       have HFZ:Hid (wr.frozen? ⟨t3,q*6+5,none⟩=false):=by
        obtain⟨xs,hown,-⟩:=HT.out;rw[Pl.qer]at hown;exact(qb0 hown (i:=q*6+5) (by omega) undef).2.1
       have q1:(0:Int)≤(q:Int):=by omega
       have q2:(q:Int)<(s.tests.length:Int):=by omega
       clear hc3 hg hPt hA1;generalize s.tests[q]=t at *;obtain⟨wz,hwz⟩:∃q,q=wr:=⟨_,rfl⟩
       subst hwz
       go_wp2_with fail
       clear y0 z0 z1 c5;refine wp_region_held_drew (S:=(fun w'=>w'.cell? ⟨g,k*2,none⟩=some (.slice (some ⟨s2,0,none⟩) p.steps.length cs)∧w'.cell? ⟨s2,m*2+1,none⟩=some (.slice (some ⟨t3,0,none⟩) s.tests.length ct))) (by kernel_rfl) S0 (fun hHeld=>?_);clear S0;refine wpAnyH_take (i:=0) (oi:=(⟨some 41,.move (.tmp 0),29, "match.go:340",#[],none⟩:Oper)) (v:=?_) rfl (by kernel_rfl) (by kernel_rfl) (by kernel_rfl) (fun _ _ _ h=>h) (Or.inl ⟨by rfl,?_⟩) (by assumption) ?_;rotate_left
       ·intro w9 hSw
        (try dsimp only at hSw)
        go_simp
        all_goals (with_reducible rfl)
       try simp only[Act.put,zsa,zs0,zs1]
       refine wpAnyH_take (i:=1) (oi:=(⟨some 42,.move (.tmp 4),3, "match.go:340",#[],none⟩:Oper)) (v:=?_) rfl (by kernel_rfl) (by kernel_rfl) (by kernel_rfl) (fun _ _ _ h=>h) (Or.inl ⟨by rfl,?_⟩) (by assumption) ?_;rotate_left
       ·intro w9 hSw
        (try dsimp only at hSw)
        go_simp
        all_goals (with_reducible rfl)
       try simp only[Act.put,zsa,zs0,zs1]
       refine wpAnyH_take (i:=2) (oi:=(⟨some 43,.indexAddr 29 (.tmp 41) (.tmp 42),0, "match.go:340",#[⟨0,.data⟩,⟨1,.data⟩],none⟩:Oper)) (v:=?_) rfl (by kernel_rfl) (by kernel_rfl) (by kernel_rfl) (fun _ _ _ h=>h) (Or.inl ⟨by rfl,?_⟩) (by assumption) ?_;rotate_left
       ·intro w9 hSw
        (try dsimp only at hSw)
        go_simp
        all_goals (with_reducible rfl)
       try simp only[Act.put,zsa,zs0,zs1]
       refine wpAnyH_take (i:=3) (oi:=(⟨some 44,.fieldAddr 64 (.tmp 43) 0,0, "match.go:340",#[⟨2,.data⟩],none⟩:Oper)) (v:=?_) rfl (by kernel_rfl) (by kernel_rfl) (by kernel_rfl) (fun _ _ _ h=>h) (Or.inl ⟨by rfl,?_⟩) (by assumption) ?_;rotate_left
       ·intro w9 hSw
        (try dsimp only at hSw)
        go_simp
        all_goals (with_reducible rfl)
       try simp only[Act.put,zsa,zs0,zs1]
       refine wpAnyH_take (i:=4) (oi:=(⟨some 45,.load 62 (.tmp 44),62, "match.go:340",#[⟨3,.data⟩],none⟩:Oper)) (v:=?_) rfl (by kernel_rfl) (by kernel_rfl) (by kernel_rfl) (fun _ _ _ h=>h) (Or.inl ⟨by rfl,?_⟩) (by assumption) ?_;rotate_left
       ·intro w9 hSw
        (try dsimp only at hSw)
        go_simp
        all_goals (with_reducible rfl)
       try simp only[Act.put,zsa,zs0,zs1]
       refine wpAnyH_take (i:=5) (oi:=(⟨some 46,.move (.tmp 5),3, "match.go:340",#[],none⟩:Oper)) (v:=?_) rfl (by kernel_rfl) (by kernel_rfl) (by kernel_rfl) (fun _ _ _ h=>h) (Or.inl ⟨by rfl,?_⟩) (by assumption) ?_;rotate_left
       ·intro w9 hSw
        (try dsimp only at hSw)
        go_simp
        all_goals (with_reducible rfl)
       try simp only[Act.put,zsa,zs0,zs1]
       refine wpAnyH_take (i:=6) (oi:=(⟨some 47,.indexAddr 62 (.tmp 45) (.tmp 46),0, "match.go:340",#[⟨4,.data⟩,⟨5,.data⟩],none⟩:Oper)) (v:=?_) rfl (by kernel_rfl) (by kernel_rfl) (by kernel_rfl) (fun _ _ _ h=>h) (Or.inl ⟨by rfl,?_⟩) (by assumption) ?_;rotate_left
       ·intro w9 hSw
        (try dsimp only at hSw)
        go_simp
        all_goals (with_reducible rfl)
       try simp only[Act.put,zsa,zs0,zs1]
       refine wpAnyH_take (i:=7) (oi:=(⟨some 48,.fieldAddr 67 (.tmp 47) 1,0, "match.go:340",#[⟨6,.data⟩],none⟩:Oper)) (v:=?_) rfl (by kernel_rfl) (by kernel_rfl) (by kernel_rfl) (fun _ _ _ h=>h) (Or.inl ⟨by rfl,?_⟩) (by assumption) ?_;rotate_left
       ·intro w9 hSw
        (try dsimp only at hSw)
        go_simp
        all_goals (with_reducible rfl)
       try simp only[Act.put,zsa,zs0,zs1]
       refine wpAnyH_take (i:=8) (oi:=(⟨some 49,.load 65 (.tmp 48),65, "match.go:340",#[⟨7,.data⟩],none⟩:Oper)) (v:=?_) rfl (by kernel_rfl) (by kernel_rfl) (by kernel_rfl) (fun _ _ _ h=>h) (Or.inl ⟨by rfl,?_⟩) (by assumption) ?_;rotate_left
       ·intro w9 hSw
        (try dsimp only at hSw)
        go_simp
        all_goals (with_reducible rfl)
       try simp only[Act.put,zsa,zs0,zs1]
       refine wpAnyH_take (i:=9) (oi:=(⟨some 50,.move (.tmp 6),3, "match.go:340",#[],none⟩:Oper)) (v:=?_) rfl (by kernel_rfl) (by kernel_rfl) (by kernel_rfl) (fun _ _ _ h=>h) (Or.inl ⟨by rfl,?_⟩) (by assumption) ?_;rotate_left
       ·intro w9 hSw
        (try dsimp only at hSw)
        go_simp
        all_goals (with_reducible rfl)
       try simp only[Act.put,zsa,zs0,zs1]
       refine wpAnyH_take (i:=10) (oi:=(⟨some 51,.move (.tmp 0),29, "match.go:340",#[],none⟩:Oper)) (v:=?_) rfl (by kernel_rfl) (by kernel_rfl) (by kernel_rfl) (fun _ _ _ h=>h) (Or.inl ⟨by rfl,?_⟩) (by assumption) ?_;rotate_left
       ·intro w9 hSw
        (try dsimp only at hSw)
        go_simp
        all_goals (with_reducible rfl)
       try simp only[Act.put,zsa,zs0,zs1]
       refine wpAnyH_take (i:=11) (oi:=(⟨some 52,.move (.tmp 4),3, "match.go:340",#[],none⟩:Oper)) (v:=?_) rfl (by kernel_rfl) (by kernel_rfl) (by kernel_rfl) (fun _ _ _ h=>h) (Or.inl ⟨by rfl,?_⟩) (by assumption) ?_;rotate_left
       ·intro w9 hSw
        (try dsimp only at hSw)
        go_simp
        all_goals (with_reducible rfl)
       try simp only[Act.put,zsa,zs0,zs1]
       refine wpAnyH_take (i:=12) (oi:=(⟨some 53,.indexAddr 29 (.tmp 51) (.tmp 52),0, "match.go:340",#[⟨10,.data⟩,⟨11,.data⟩],none⟩:Oper)) (v:=?_) rfl (by kernel_rfl) (by kernel_rfl) (by kernel_rfl) (fun _ _ _ h=>h) (Or.inl ⟨by rfl,?_⟩) (by assumption) ?_;rotate_left
       ·intro w9 hSw
        (try dsimp only at hSw)
        go_simp
        all_goals (with_reducible rfl)
       try simp only[Act.put,zsa,zs0,zs1]
       refine wpAnyH_take (i:=13) (oi:=(⟨some 54,.fieldAddr 64 (.tmp 53) 0,0, "match.go:340",#[⟨12,.data⟩],none⟩:Oper)) (v:=?_) rfl (by kernel_rfl) (by kernel_rfl) (by kernel_rfl) (fun _ _ _ h=>h) (Or.inl ⟨by rfl,?_⟩) (by assumption) ?_;rotate_left
       ·intro w9 hSw
        (try dsimp only at hSw)
        go_simp
        all_goals (with_reducible rfl)
       try simp only[Act.put,zsa,zs0,zs1]
       refine wpAnyH_take (i:=14) (oi:=(⟨some 55,.load 62 (.tmp 54),62, "match.go:340",#[⟨13,.data⟩],none⟩:Oper)) (v:=?_) rfl (by kernel_rfl) (by kernel_rfl) (by kernel_rfl) (fun _ _ _ h=>h) (Or.inl ⟨by rfl,?_⟩) (by assumption) ?_;rotate_left
       ·intro w9 hSw
        (try dsimp only at hSw)
        go_simp
        all_goals (with_reducible rfl)
       try simp only[Act.put,zsa,zs0,zs1]
       refine wpAnyH_take (i:=15) (oi:=(⟨some 56,.move (.tmp 5),3, "match.go:340",#[],none⟩:Oper)) (v:=?_) rfl (by kernel_rfl) (by kernel_rfl) (by kernel_rfl) (fun _ _ _ h=>h) (Or.inl ⟨by rfl,?_⟩) (by assumption) ?_;rotate_left
       ·intro w9 hSw
        (try dsimp only at hSw)
        go_simp
        all_goals (with_reducible rfl)
       try simp only[Act.put,zsa,zs0,zs1]
       refine wpAnyH_take (i:=16) (oi:=(⟨some 57,.indexAddr 62 (.tmp 55) (.tmp 56),0, "match.go:340",#[⟨14,.data⟩,⟨15,.data⟩],none⟩:Oper)) (v:=?_) rfl (by kernel_rfl) (by kernel_rfl) (by kernel_rfl) (fun _ _ _ h=>h) (Or.inl ⟨by rfl,?_⟩) (by assumption) ?_;rotate_left
       ·intro w9 hSw
        (try dsimp only at hSw)
        go_simp
        all_goals (with_reducible rfl)
       try simp only[Act.put,zsa,zs0,zs1]
       refine wpAnyH_take (i:=17) (oi:=(⟨some 58,.fieldAddr 67 (.tmp 57) 1,0, "match.go:340",#[⟨16,.data⟩],none⟩:Oper)) (v:=?_) rfl (by kernel_rfl) (by kernel_rfl) (by kernel_rfl) (fun _ _ _ h=>h) (Or.inl ⟨by rfl,?_⟩) (by assumption) ?_;rotate_left
       ·intro w9 hSw
        (try dsimp only at hSw)
        go_simp
        all_goals (with_reducible rfl)
       try simp only[Act.put,zsa,zs0,zs1]
       refine wpAnyH_take (i:=18) (oi:=(⟨some 59,.load 65 (.tmp 58),65, "match.go:340",#[⟨17,.data⟩],none⟩:Oper)) (v:=?_) rfl (by kernel_rfl) (by kernel_rfl) (by kernel_rfl) (fun _ _ _ h=>h) (Or.inl ⟨by rfl,?_⟩) (by assumption) ?_;rotate_left
       ·intro w9 hSw
        (try dsimp only at hSw)
        go_simp
        all_goals (with_reducible rfl)
       try simp only[Act.put,zsa,zs0,zs1]
       refine wpAnyH_take (i:=19) (oi:=(⟨some 60,.move (.tmp 6),3, "match.go:340",#[],none⟩:Oper)) (v:=?_) rfl (by kernel_rfl) (by kernel_rfl) (by kernel_rfl) (fun _ _ _ h=>h) (Or.inl ⟨by rfl,?_⟩) (by assumption) ?_;rotate_left
       ·intro w9 hSw
        (try dsimp only at hSw)
        go_simp
        all_goals (with_reducible rfl)
       try simp only[Act.put,zsa,zs0,zs1]
       refine wpAnyH_take (i:=20) (oi:=(⟨some 61,.indexAddr 65 (.tmp 59) (.tmp 60),0, "match.go:340",#[⟨18,.data⟩,⟨19,.data⟩],none⟩:Oper)) (v:=?_) rfl (by kernel_rfl) (by kernel_rfl) (by kernel_rfl) (fun _ _ _ h=>h) (Or.inl ⟨by rfl,?_⟩) (by assumption) ?_;rotate_left
       ·intro w9 hSw
        (try dsimp only at hSw)
        go_simp
        all_goals (with_reducible rfl)
       try simp only[Act.put,zsa,zs0,zs1]
       refine wpAnyH_take (i:=21) (oi:=(⟨some 62,.fieldAddr 71 (.tmp 61) 4,0, "match.go:340",#[⟨20,.data⟩],none⟩:Oper)) (v:=?_) rfl (by kernel_rfl) (by kernel_rfl) (by kernel_rfl) (fun _ _ _ h=>h) (Or.inl ⟨by rfl,?_⟩) (by assumption) ?_;rotate_left
       ·intro w9 hSw
        (try dsimp only at hSw)
        go_simp
        all_goals (with_reducible rfl)
       try simp only[Act.put,zsa,zs0,zs1]
       refine wpAnyH_ready (rs:=[22]) (by kernel_rfl) (by simp) ?_;refine AllReadyH.cons (o:=(⟨some 63,.load 29 (.tmp 62),29, "match.go:340",#[⟨21,.data⟩],none⟩:Oper)) rfl (fun K hK=>?_) AllReadyH.nil;go_simp;refine hK.out _ _ HS0.out (fun hHeld1=>?_);clear hK K hHeld
       try simp only[Act.put,zsa,zs0,zs1]
       refine wpAnyH_ready (rs:=[23]) (by kernel_rfl) (by simp) ?_;refine AllReadyH.cons (o:=(⟨some 64,.call { callee:=Callee.value (.func 72),args:= #[.tmp 63],argTypes:= #[29] },29, "match.go:340",#[⟨22,.data⟩],none⟩:Oper)) rfl (fun K hK=>?_) AllReadyH.nil;go_simp
       go_at_call 72
       refine HC.out.mono ?_;rintro e w5 ⟨a6,c6,rfl,hm5,hb5⟩;have HS5:Hid ((fun w'=>w'.cell? ⟨g,k*2,none⟩=some (.slice (some ⟨s2,0,none⟩) p.steps.length cs)∧w'.cell? ⟨s2,m*2+1,none⟩=some (.slice (some ⟨t3,0,none⟩) s.tests.length ct)) w5):=⟨qab hb5 HS0.out.1,qab hb5 HS0.out.2⟩
       have HB5:Hid (Below wz.heap.size wz w5):=(Below.refl _ wz).drew.trans hb5;have HM5:Hid (A (mask (frm wz.heap.size) w5) (.slice a6 (L.f t.list).length c6) (L.f t.list)):=hm5;refine hK.out _ _ HS5.out (fun hHeld2=>?_);clear hK K hHeld1 c5d hm5 hb5
       try simp only[Act.put,zsa,zs0,zs1]
       refine wpAnyH_take (i:=24) (oi:=(⟨some 65,.indexAddr 65 (.tmp 49) (.tmp 50),0, "match.go:340",#[⟨8,.data⟩,⟨9,.data⟩,⟨0,.phase⟩,⟨1,.phase⟩,⟨2,.phase⟩,⟨3,.phase⟩,⟨4,.phase⟩,⟨5,.phase⟩,⟨6,.phase⟩,⟨7,.phase⟩,⟨8,.phase⟩,⟨9,.phase⟩,⟨10,.phase⟩,⟨11,.phase⟩,⟨12,.phase⟩,⟨13,.phase⟩,⟨14,.phase⟩,⟨15,.phase⟩,⟨16,.phase⟩,⟨17,.phase⟩,⟨18,.phase⟩,⟨19,.phase⟩,⟨20,.phase⟩,⟨21,.phase⟩,⟨22,.phase⟩,⟨23,.phase⟩],none⟩:Oper)) (v:=?_) rfl (by kernel_rfl) (by kernel_rfl) (by kernel_rfl) (fun _ _ _ h=>h) (Or.inl ⟨by rfl,?_⟩) (by assumption) ?_;rotate_left
       ·intro w9 hSw
        (try dsimp only at hSw)
        go_simp
        all_goals (with_reducible rfl)
       try simp only[Act.put,zsa,zs0,zs1]
       refine wpAnyH_take (i:=25) (oi:=(⟨some 66,.fieldAddr 71 (.tmp 65) 4,0, "match.go:340",#[⟨24,.data⟩,⟨0,.phase⟩,⟨1,.phase⟩,⟨2,.phase⟩,⟨3,.phase⟩,⟨4,.phase⟩,⟨5,.phase⟩,⟨6,.phase⟩,⟨7,.phase⟩,⟨8,.phase⟩,⟨9,.phase⟩,⟨10,.phase⟩,⟨11,.phase⟩,⟨12,.phase⟩,⟨13,.phase⟩,⟨14,.phase⟩,⟨15,.phase⟩,⟨16,.phase⟩,⟨17,.phase⟩,⟨18,.phase⟩,⟨19,.phase⟩,⟨20,.phase⟩,⟨21,.phase⟩,⟨22,.phase⟩,⟨23,.phase⟩],none⟩:Oper)) (v:=?_) rfl (by kernel_rfl) (by kernel_rfl) (by kernel_rfl) (fun _ _ _ h=>h) (Or.inl ⟨by rfl,?_⟩) (by assumption) ?_;rotate_left
       ·intro w9 hSw
        (try dsimp only at hSw)
        go_simp
        all_goals (with_reducible rfl)
       try simp only[Act.put,zsa,zs0,zs1]
       have c6':=qab HB5.out HC5.out;have f6':=qfa (HB5.out.block t3 (qaV HC5.out)) HFZ.out;refine wpAnyH_ready (rs:=[26]) (by kernel_rfl) (by simp) ?_;refine AllReadyH.cons (o:=(⟨none,.store 29 (.tmp 66) (.tmp 64),0, "match.go:340",#[⟨25,.data⟩,⟨23,.data⟩,⟨23,.chain⟩,⟨0,.phase⟩,⟨1,.phase⟩,⟨2,.phase⟩,⟨3,.phase⟩,⟨4,.phase⟩,⟨5,.phase⟩,⟨6,.phase⟩,⟨7,.phase⟩,⟨8,.phase⟩,⟨9,.phase⟩,⟨10,.phase⟩,⟨11,.phase⟩,⟨12,.phase⟩,⟨13,.phase⟩,⟨14,.phase⟩,⟨15,.phase⟩,⟨16,.phase⟩,⟨17,.phase⟩,⟨18,.phase⟩,⟨19,.phase⟩,⟨20,.phase⟩,⟨21,.phase⟩,⟨22,.phase⟩,⟨23,.phase⟩],none⟩:Oper)) rfl (fun K hK=>?_) AllReadyH.nil;go_simp;refine hK.out _ _ ⟨by rw[World.cell?_setCell_far _ _ _ _ HNE.out.1];exact HS5.out.1,by rw[World.cell?_setCell_far _ _ _ _ HNE.out.2];exact HS5.out.2⟩ (fun hHeld3=>?_);clear hK K hHeld2 c6' f6'
       try simp only[Act.put,zsa,zs0,zs1]
       refine wpAnyH_done (by kernel_rfl) ?_ _;clear hHeld3
       have HT7:Hid (Grow (plus (fun j=>frm Bt j&&(own2 j==m&&decide (j<wq.heap.size)&&Off (plus (p2 Bp Q) wq.heap.size) (.slice (some ⟨s2,0,none⟩) p.steps.length cs) j)) w2.heap.size) Bt 71 6 (VT A) (w5.setCell ⟨t3,q*6+5,none⟩ (.slice a6 (L.f t.list).length c6)) (.slice (some ⟨t3,0,none⟩) s.tests.length ct) (Pl.mix L.f s.tests (q+1))):=by
        unfold Hid;rw[HNXT.out]
        have hT5:Grow (plus (fun j=>frm Bt j&&(own2 j==m&&decide (j<wq.heap.size)&&Off (plus (p2 Bp Q) wq.heap.size) (.slice (some ⟨s2,0,none⟩) p.steps.length cs) j)) w2.heap.size) Bt 71 6 (VT A) w5 (.slice (some ⟨t3,0,none⟩) (Pl.mix L.f s.tests q).length ct) (Pl.mix L.f s.tests q):=by
         rw[Pl.qer];exact HT.out.move (qba hS) fun j hj hjl=>⟨hj,HB5.out.block j hjl⟩
        have h7:=hT5.setList hS (j:=q) (by rw[Pl.qer];exact hql) (u:=.slice a6 (L.f t.list).length c6) (l:=L.f t.list) (hS.sub HM5.out (qam fun j hj _=>⟨by
         simp only[frm,decide_eq_true_eq]at hj;have h1:=HKq.out.size;have h2:=(HTO.out t3 rfl).2
         exact off_plus (by omega) (by omega),rfl⟩))
        rw[show (Value.slice (some ⟨t3,0,none⟩) (Pl.mix L.f s.tests q).length ct)=.slice (some ⟨t3,0,none⟩) s.tests.length ct by rw[Pl.qer]]at h7;exact h7
       have HK7:Hid (Kp (fun j=> !((.slice (some ⟨t3,0,none⟩) s.tests.length ct:Value).ownBlock==some j)) w2 (w5.setCell ⟨t3,q*6+5,none⟩ (.slice a6 (L.f t.list).length c6))):=(HKq.out.below HB5.out).set _ (fun _=>by simp[Value.ownBlock]);clear HM5 HS5 HB5;go_wp2;exact⟨⟨q+1,hql,by go_num,HT7,HK7⟩,by simp[intOf];omega⟩
      ·as_aux_lemma=>
       have hqe:q=s.tests.length:=by omega
       subst hqe;rw[Pl.mix_all]at HT;have hrow:=Grow.row (qba hS) HT.out
       have HC:Hid (Calls Tryz.prog 118 _ _ _):=hStep (plus (fun j=>frm Bt j&&(own2 j==m&&decide (j<wq.heap.size)&&Off (plus (p2 Bp Q) wq.heap.size) (.slice (some ⟨s2,0,none⟩) p.steps.length cs) j)) w2.heap.size) at_ ct ⟨s.tag,s.tests.map (Pl.plT L.f)⟩ wr.drew (fun j hj=>by
        have h1:=HKq.out.size;exact plus_r (by have:wr.heap.size≤j:=hj;omega)) (by
        rw[List.length_map];exact hrow.map fun _ _ _ hq=>hq.sub hS (qam fun _ hj _=>⟨hj,rfl⟩)) ⟨by rw[List.length_map];exact h6,fun y hy=>by
        obtain⟨y0,hy0,rfl⟩:=List.mem_map.1 hy
        exact hL.ok (HOKS.out.2 y0 hy0)⟩
       rw[Pl.plS_map,List.length_map]at HC;have S0:(fun w'=>w'.cell? ⟨g,k*2,none⟩=some (.slice (some ⟨s2,0,none⟩) p.steps.length cs)) wr.drew:=y0;have HS0:Hid _:=S0;have z0d:wr.drew.cell? ⟨s2,m*2,none⟩=some (.string ⟨s.tag.toArray⟩):=z0;have z1d:wr.drew.cell? ⟨s2,m*2+1,none⟩=some (.slice at_ s.tests.length ct):=z1;have HBLK:Hid (wr.heap[s2]? =w2.heap[s2]?):=HKq.out.blk s2 (qaV HZ0.out) (by simpa using HNG.out.2);have HZ0r:Hid (wr.cell? ⟨s2,m*2,none⟩=some (.string ⟨s.tag.toArray⟩)):=z0;have HZ1r:Hid (wr.cell? ⟨s2,m*2+1,none⟩=some (.slice at_ s.tests.length ct)):=z1
       have hs2g:s2≠g:=by
        intro e;have:=(HV.out.own s2 rfl).1;rw[e]at this;unfold plus p2 at this;rw[HQG.out]at this;have h1:=HGL.out;simp at this;omega
       have HS2G:Hid (s2≠g):=hs2g;obtain⟨R2,hR2⟩:∃q,q=Pl.plS L.f L.only s:=⟨_,rfl⟩
       rw[←hR2]at HC;have HR2:Hid (R2=Pl.plS L.f L.only s):=hR2;clear hrow hR2 hs2g;obtain⟨wz,hwz⟩:∃q,q=wr:=⟨_,rfl⟩
       subst hwz
       go_wp2_with fail
       clear y0 z0 z1;refine wp_region_held_drew (S:=(fun w'=>w'.cell? ⟨g,k*2,none⟩=some (.slice (some ⟨s2,0,none⟩) p.steps.length cs))) (by kernel_rfl) S0 (fun hHeld=>?_);clear S0;refine wpAnyH_take (i:=0) (oi:=(⟨some 67,.move (.tmp 0),29, "match.go:342",#[],none⟩:Oper)) (v:=?_) rfl (by kernel_rfl) (by kernel_rfl) (by kernel_rfl) (fun _ _ _ h=>h) (Or.inl ⟨by rfl,?_⟩) (by assumption) ?_;rotate_left
       ·intro w9 hSw
        (try dsimp only at hSw)
        go_simp
        all_goals (with_reducible rfl)
       try simp only[Act.put,zsa,zs0,zs1]
       refine wpAnyH_take (i:=1) (oi:=(⟨some 68,.move (.tmp 4),3, "match.go:342",#[],none⟩:Oper)) (v:=?_) rfl (by kernel_rfl) (by kernel_rfl) (by kernel_rfl) (fun _ _ _ h=>h) (Or.inl ⟨by rfl,?_⟩) (by assumption) ?_;rotate_left
       ·intro w9 hSw
        (try dsimp only at hSw)
        go_simp
        all_goals (with_reducible rfl)
       try simp only[Act.put,zsa,zs0,zs1]
       refine wpAnyH_take (i:=2) (oi:=(⟨some 69,.indexAddr 29 (.tmp 67) (.tmp 68),0, "match.go:342",#[⟨0,.data⟩,⟨1,.data⟩],none⟩:Oper)) (v:=?_) rfl (by kernel_rfl) (by kernel_rfl) (by kernel_rfl) (fun _ _ _ h=>h) (Or.inl ⟨by rfl,?_⟩) (by assumption) ?_;rotate_left
       ·intro w9 hSw
        (try dsimp only at hSw)
        go_simp
        all_goals (with_reducible rfl)
       try simp only[Act.put,zsa,zs0,zs1]
       refine wpAnyH_take (i:=3) (oi:=(⟨some 70,.fieldAddr 64 (.tmp 69) 0,0, "match.go:342",#[⟨2,.data⟩],none⟩:Oper)) (v:=?_) rfl (by kernel_rfl) (by kernel_rfl) (by kernel_rfl) (fun _ _ _ h=>h) (Or.inl ⟨by rfl,?_⟩) (by assumption) ?_;rotate_left
       ·intro w9 hSw
        (try dsimp only at hSw)
        go_simp
        all_goals (with_reducible rfl)
       try simp only[Act.put,zsa,zs0,zs1]
       refine wpAnyH_take (i:=4) (oi:=(⟨some 71,.load 62 (.tmp 70),62, "match.go:342",#[⟨3,.data⟩],none⟩:Oper)) (v:=?_) rfl (by kernel_rfl) (by kernel_rfl) (by kernel_rfl) (fun _ _ _ h=>h) (Or.inl ⟨by rfl,?_⟩) (by assumption) ?_;rotate_left
       ·intro w9 hSw
        (try dsimp only at hSw)
        go_simp
        all_goals (with_reducible rfl)
       try simp only[Act.put,zsa,zs0,zs1]
       refine wpAnyH_take (i:=5) (oi:=(⟨some 72,.move (.tmp 5),3, "match.go:342",#[],none⟩:Oper)) (v:=?_) rfl (by kernel_rfl) (by kernel_rfl) (by kernel_rfl) (fun _ _ _ h=>h) (Or.inl ⟨by rfl,?_⟩) (by assumption) ?_;rotate_left
       ·intro w9 hSw
        (try dsimp only at hSw)
        go_simp
        all_goals (with_reducible rfl)
       try simp only[Act.put,zsa,zs0,zs1]
       refine wpAnyH_take (i:=6) (oi:=(⟨some 73,.move (.tmp 0),29, "match.go:342",#[],none⟩:Oper)) (v:=?_) rfl (by kernel_rfl) (by kernel_rfl) (by kernel_rfl) (fun _ _ _ h=>h) (Or.inl ⟨by rfl,?_⟩) (by assumption) ?_;rotate_left
       ·intro w9 hSw
        (try dsimp only at hSw)
        go_simp
        all_goals (with_reducible rfl)
       try simp only[Act.put,zsa,zs0,zs1]
       refine wpAnyH_take (i:=7) (oi:=(⟨some 74,.move (.tmp 4),3, "match.go:342",#[],none⟩:Oper)) (v:=?_) rfl (by kernel_rfl) (by kernel_rfl) (by kernel_rfl) (fun _ _ _ h=>h) (Or.inl ⟨by rfl,?_⟩) (by assumption) ?_;rotate_left
       ·intro w9 hSw
        (try dsimp only at hSw)
        go_simp
        all_goals (with_reducible rfl)
       try simp only[Act.put,zsa,zs0,zs1]
       refine wpAnyH_take (i:=8) (oi:=(⟨some 75,.indexAddr 29 (.tmp 73) (.tmp 74),0, "match.go:342",#[⟨6,.data⟩,⟨7,.data⟩],none⟩:Oper)) (v:=?_) rfl (by kernel_rfl) (by kernel_rfl) (by kernel_rfl) (fun _ _ _ h=>h) (Or.inl ⟨by rfl,?_⟩) (by assumption) ?_;rotate_left
       ·intro w9 hSw
        (try dsimp only at hSw)
        go_simp
        all_goals (with_reducible rfl)
       try simp only[Act.put,zsa,zs0,zs1]
       refine wpAnyH_take (i:=9) (oi:=(⟨some 76,.fieldAddr 64 (.tmp 75) 0,0, "match.go:342",#[⟨8,.data⟩],none⟩:Oper)) (v:=?_) rfl (by kernel_rfl) (by kernel_rfl) (by kernel_rfl) (fun _ _ _ h=>h) (Or.inl ⟨by rfl,?_⟩) (by assumption) ?_;rotate_left
       ·intro w9 hSw
        (try dsimp only at hSw)
        go_simp
        all_goals (with_reducible rfl)
       try simp only[Act.put,zsa,zs0,zs1]
       refine wpAnyH_take (i:=10) (oi:=(⟨some 77,.load 62 (.tmp 76),62, "match.go:342",#[⟨9,.data⟩],none⟩:Oper)) (v:=?_) rfl (by kernel_rfl) (by kernel_rfl) (by kernel_rfl) (fun _ _ _ h=>h) (Or.inl ⟨by rfl,?_⟩) (by assumption) ?_;rotate_left
       ·intro w9 hSw
        (try dsimp only at hSw)
        go_simp
        all_goals (with_reducible rfl)
       try simp only[Act.put,zsa,zs0,zs1]
       refine wpAnyH_take (i:=11) (oi:=(⟨some 78,.move (.tmp 5),3, "match.go:342",#[],none⟩:Oper)) (v:=?_) rfl (by kernel_rfl) (by kernel_rfl) (by kernel_rfl) (fun _ _ _ h=>h) (Or.inl ⟨by rfl,?_⟩) (by assumption) ?_;rotate_left
       ·intro w9 hSw
        (try dsimp only at hSw)
        go_simp
        all_goals (with_reducible rfl)
       try simp only[Act.put,zsa,zs0,zs1]
       refine wpAnyH_take (i:=12) (oi:=(⟨some 79,.indexAddr 62 (.tmp 77) (.tmp 78),0, "match.go:342",#[⟨10,.data⟩,⟨11,.data⟩],none⟩:Oper)) (v:=?_) rfl (by kernel_rfl) (by kernel_rfl) (by kernel_rfl) (fun _ _ _ h=>h) (Or.inl ⟨by rfl,?_⟩) (by assumption) ?_;rotate_left
       ·intro w9 hSw
        (try dsimp only at hSw)
        go_simp
        all_goals (with_reducible rfl)
       try simp only[Act.put,zsa,zs0,zs1]
       refine wpAnyH_ready (rs:=[13]) (by kernel_rfl) (by simp) ?_;refine AllReadyH.cons (o:=(⟨some 80,.load 67 (.tmp 79),67, "match.go:342",#[⟨12,.data⟩],none⟩:Oper)) rfl (fun K hK=>?_) AllReadyH.nil;go_simp;refine hK.out _ _ HS0.out (fun hHeld1=>?_);clear hK K hHeld
       try simp only[Act.put,zsa,zs0,zs1]
       refine wpAnyH_ready (rs:=[14]) (by kernel_rfl) (by simp) ?_;refine AllReadyH.cons (o:=(⟨some 81,.call { callee:=Callee.value (.func 118),args:= #[.tmp 80],argTypes:= #[67] },67, "match.go:342",#[⟨13,.data⟩],none⟩:Oper)) rfl (fun K hK=>?_) AllReadyH.nil;go_simp
       go_at_call 118
       refine HC.out.mono ?_;rintro e w5 ⟨a6,c6,rfl,hm5,hb5⟩;have HS5:Hid ((fun w'=>w'.cell? ⟨g,k*2,none⟩=some (.slice (some ⟨s2,0,none⟩) p.steps.length cs)) w5):=qab hb5 HS0.out;have HB5:Hid (Below wz.heap.size wz w5):=(Below.refl _ wz).drew.trans hb5;have HM5:Hid (qaf (qaF A) 6 (mask (plus (fun j=>frm Bt j&&(own2 j==m&&decide (j<wq.heap.size)&&Off (plus (p2 Bp Q) wq.heap.size) (.slice (some ⟨s2,0,none⟩) p.steps.length cs) j)) w2.heap.size) w5) (.slice a6 R2.tests.length c6) R2.tests):=hm5;refine hK.out _ _ HS5.out (fun hHeld2=>?_);clear hK K hHeld1 z0d z1d hm5 hb5
       try simp only[Act.put,zsa,zs0,zs1]
       refine wpAnyH_take (i:=15) (oi:=(⟨some 82,.indexAddr 62 (.tmp 71) (.tmp 72),0, "match.go:342",#[⟨4,.data⟩,⟨5,.data⟩,⟨0,.phase⟩,⟨1,.phase⟩,⟨2,.phase⟩,⟨3,.phase⟩,⟨4,.phase⟩,⟨5,.phase⟩,⟨6,.phase⟩,⟨7,.phase⟩,⟨8,.phase⟩,⟨9,.phase⟩,⟨10,.phase⟩,⟨11,.phase⟩,⟨12,.phase⟩,⟨13,.phase⟩,⟨14,.phase⟩],none⟩:Oper)) (v:=?_) rfl (by kernel_rfl) (by kernel_rfl) (by kernel_rfl) (fun _ _ _ h=>h) (Or.inl ⟨by rfl,?_⟩) (by assumption) ?_;rotate_left
       ·intro w9 hSw
        (try dsimp only at hSw)
        go_simp
        all_goals (with_reducible rfl)
       try simp only[Act.put,zsa,zs0,zs1]
       have u0:=qab HB5.out HZ0r.out;have u1:=qab HB5.out HZ1r.out;have hb5:w5.heap[s2]? =w2.heap[s2]? :=(HB5.out.block s2 (qaV HZ0r.out)).trans HBLK.out;have u2:=qfa hb5 (HSTO.out undef).1.1;have u3:=qfa hb5 HFZ1.out;clear hb5;refine wpAnyH_ready (rs:=[16]) (by kernel_rfl) (by simp) ?_;refine AllReadyH.cons (o:=(⟨none,.store 67 (.tmp 82) (.tmp 81),0, "match.go:342",#[⟨15,.data⟩,⟨14,.data⟩,⟨14,.chain⟩,⟨0,.phase⟩,⟨1,.phase⟩,⟨2,.phase⟩,⟨3,.phase⟩,⟨4,.phase⟩,⟨5,.phase⟩,⟨6,.phase⟩,⟨7,.phase⟩,⟨8,.phase⟩,⟨9,.phase⟩,⟨10,.phase⟩,⟨11,.phase⟩,⟨12,.phase⟩,⟨13,.phase⟩,⟨14,.phase⟩],none⟩:Oper)) rfl (fun K hK=>?_) AllReadyH.nil;go_simp
       refine hK.out _ _ (by
        show World.cell? _ _=_
        rw[World.cell?_setCell_far _ _ _ _ HS2G.out,World.cell?_setCell_far _ _ _ _ HS2G.out]
        exact HS5.out) (fun hHeld3=>?_)
       clear hK K hHeld2 u0 u1 u2 u3
       try simp only[Act.put,zsa,zs0,zs1]
       refine wpAnyH_done (by kernel_rfl) ?_ _;clear hHeld3;have HKS:Hid (∀j,j<w2.heap.size→(.slice at_ s.tests.length ct:Value).ownBlock≠some j→w5.heap[j]? =w2.heap[j]?):=fun j hj hne=>(HB5.out.block j (by have:=HKq.out.size;omega)).trans (HKq.out.blk j hj (by simpa using hne))
       have HV7:Hid (qbV (plus (p2 Bp Q) wq.heap.size) Bp 67 2 (v2 A L.f L.only own2 wq.heap.size (m+1) p.steps) p.steps.length ((w5.setCell ⟨s2,m*2,none⟩ (.string ⟨R2.tag.toArray⟩)).setCell ⟨s2,m*2+1,none⟩ (.slice a6 R2.tests.length c6)) (.slice (some ⟨s2,0,none⟩) p.steps.length cs)):=by
        have e1:R2=Pl.plS L.f L.only p.steps[m]:=by rw[HR2.out,HSE.out]
        have h7:=st_step hS (P3:=plus (fun j=>frm Bt j&&(own2 j==m&&decide (j<wq.heap.size)&&Off (plus (p2 Bp Q) wq.heap.size) (.slice (some ⟨s2,0,none⟩) p.steps.length cs) j)) w2.heap.size) HV.out hml HK.out.size HS2L.out (t3:=(.slice at_ s.tests.length ct:Value).ownBlock) (fun j hj=>⟨(HPK.out j (HTO.out j hj).1).1,(HPK.out j (HTO.out j hj).1).2.1,(HPK.out j (HTO.out j hj).1).2.2.2.2.1⟩) HKS.out (vt:=.slice a6 R2.tests.length c6) (by rw[←e1];exact HM5.out) (fun j hj=>by
         unfold plus at hj;rw[Bool.or_eq_true,decide_eq_true_eq]at hj
         rcases hj with h|h
         ·exact Or.inl ⟨(HPK.out j h).1,(HPK.out j h).2.1,(HPK.out j h).2.2.1⟩
         ·exact Or.inr h)
        rw[←e1]at h7;exact h7
       have HK7:Hid (Kp (kp2 (p2 Bp Q) own2 (.slice (some ⟨s2,0,none⟩) p.steps.length cs) (m+1)) wq ((w5.setCell ⟨s2,m*2,none⟩ (.string ⟨R2.tag.toArray⟩)).setCell ⟨s2,m*2+1,none⟩ (.slice a6 R2.tests.length c6))):=by
        have hS2P:p2 Bp Q s2=true:=by
         have:=(HV.out.own s2 rfl).1;unfold plus at this;have h1:=HS2L.out;rw[Bool.or_eq_true,decide_eq_true_eq]at this
         rcases this with h|h
         ·exact h
         ·omega
        have k1:Kp (kp2 (p2 Bp Q) own2 (.slice (some ⟨s2,0,none⟩) p.steps.length cs) (m+1)) wq w5:=((HK.out.mono (keep':=kp2 (p2 Bp Q) own2 (.slice (some ⟨s2,0,none⟩) p.steps.length cs) (m+1)) (fun j _ hj=>by
         unfold kp2 at hj ⊢;simp only[Bool.or_eq_true,Bool.and_eq_true,decide_eq_true_eq]at hj ⊢
         rcases hj with h|h
         ·exact Or.inl h
         ·exact Or.inr ⟨by omega,h.2⟩)).trans HKq.out (fun j _ hj=>by
         cases hq:((.slice at_ s.tests.length ct:Value).ownBlock==some j) with
         | false=>rfl
         | true=>
          have hh:=HPK.out j (HTO.out j (by simpa using hq)).1;unfold kp2 p2 frm at hj;simp[hh.2.2.2.1,hh.2.2.2.2.2]at hj
          omega)).below HB5.out
        exact(k1.set _ (fun _=>by unfold kp2;simp[hS2P,Value.ownBlock])).set _ (fun _=>by unfold kp2;simp[hS2P,Value.ownBlock])
       clear HM5 HS5 HB5;go_wp2;exact⟨⟨m+1,hml,by go_num,HV7,HK7⟩,by simp[intOf];omega⟩
    ·as_aux_lemma=>
     have hme:m=p.steps.length:=by omega
     subst hme;have hgr:=st_end hS HV.out
     have HPV:Hid (VP A (mask (fun j=>Q j||decide (wq.heap.size≤j)) wr) [.slice as_ p.steps.length cs,.slice al p.links.length cl] (Pl.plP L.f L.only p)):=⟨_,_,rfl,(Grow.row (isV_s hS) hgr).map fun _ _ _ hq=>hq.sub hS (qam fun j hj _=>⟨by
      unfold plus p2 at hj;simp only[Bool.or_eq_true,Bool.and_eq_true,decide_eq_true_eq]at hj ⊢
      rcases hj with h|h
      ·exact Or.inl h.2
      ·exact Or.inr h,rfl⟩),qdZ HLK.out (qam fun j hj hjl=>by
      simp only[Bool.and_eq_true,decide_eq_true_eq]at hj;refine⟨by simp[hj.2],HK.out.blk j hjl ?_⟩;unfold kp2 p2 frm;have:decide (Bp≤j)=false:=decide_eq_false (by omega);rw[this]
      rfl)⟩
     have HGm':Hid (Grow (pdn w.heap.size w1.heap.size own (.slice (some ⟨g,0,none⟩) l.length c0) k) w1.heap.size 64 2 (VP A) wr (.slice ao kept.length co) kept):=HG.out.move (qfx hS) fun j hj hjl=>⟨hj,HK.out.blk j hjl (by
      have hq:Q j=false:=by
       cases h:Q j with
       | false=>rfl
       | true=>
        have h1:=HQD.out j h;unfold pdn at hj;simp only[Bool.or_eq_true,Bool.and_eq_true,decide_eq_true_eq]at hj
        rcases hj with h2|h2<;>omega
      unfold kp2 p2;rw[hq,Bool.and_false]
      rfl)⟩
     have HPW:Hid (∀s∈(Pl.plP L.f L.only p).steps,∀t∈s.tests,L.W t.list):=fun s hs t ht=>(((Pl.qgc hL HOKP.out).2.2.2.2) s hs).2 t ht
     have HPS:Hid ((Pl.plP L.f L.only p).steps.length=p.steps.length∧(Pl.plP L.f L.only p).links.length=p.links.length):=⟨by unfold Pl.plP;rw[List.length_map],rfl⟩
     have HKF:Hid (Kp (kp1 w.heap.size own (.slice (some ⟨g,0,none⟩) l.length c0) (k+1)) w1 wr):=(HF.out.mono (keep':=kp1 w.heap.size own (.slice (some ⟨g,0,none⟩) l.length c0) (k+1)) (fun j _ hj=>by
      unfold kp1 at hj ⊢;simp only[Bool.or_eq_true,decide_eq_true_eq]at hj ⊢
      rcases hj with (h|h)|h
      ·exact Or.inl (Or.inl h)
      ·exact Or.inl (Or.inr (by omega))
      ·exact Or.inr h)).trans HK.out (fun j _ hj=>by
      have hq:Q j=false:=by
       cases h:Q j with
       | false=>rfl
       | true=>
        have h1:=HQD.out j h;unfold kp1 at hj;simp only[Bool.or_eq_true,decide_eq_true_eq,Value.ownBlock,beq_iff_eq,Option.some.injEq]at hj
        rcases hj with (h2|h2)|h2<;>omega
      unfold kp2 p2;rw[hq,Bool.and_false]
      rfl)
     have HOWN:Hid (∀j,(.slice ao kept.length co:Value).ownBlock=some j→w1.heap.size≤j∧j<wq.heap.size):=fun j hj=>⟨(HG.out.own j hj).2,HG.out.lt j hj⟩
     generalize Pl.plP L.f L.only p=z at *;have HKR:Hid (qaf (qct A) 2 wr (.slice ao kept.length co) kept):=(Grow.row (qfx hS) HGm'.out).map fun _ _ _ hq=>hq.sub hS (qav _ _)
     have h5k:=HKL.out;clear hgr;obtain⟨wm,hwm⟩:∃q,q=wr:=⟨_,rfl⟩
     subst hwm;have HY:Hid (∀W,Below wm.heap.size wm W→W.cell? ⟨g,k*2,none⟩=some (.slice as_ p.steps.length cs)∧W.cell? ⟨g,k*2+1,none⟩=some (.slice al p.links.length cl)):=fun W hb=>⟨qab hb y0,qab hb y1⟩
     go_wp2;clear y0 y1
     go_loopw [7,8] (fun bb i wr=>∃n:Nat,n≤kept.length∧i=.int .i64 n∧bb=.bool (decide (z∈kept.take n))∧Hid (Below wm.heap.size wm wr)) (fun _ i _=>kept.length-(intOf i).toNat)
     case atStart=>exact⟨0,Nat.zero_le _,rfl,by simp,Below.refl _ _⟩
     case round=>
      obtain⟨n,hn,rfl,rfl,HBm⟩:=hrel
      by_cases hnl:n<kept.length
      ·have n1:(0:Int)≤(n:Int):=by omega
       have n2:(n:Int)<(kept.length:Int):=by omega
       have HTK:Hid (kept.take (n+1)=kept.take n++[kept[n]]):=List.take_succ_eq_append_getElem hnl
       by_cases hin:z∈kept.take n
       ·as_aux_lemma=>
        have hd:decide (z∈kept.take n)=true:=decide_eq_true hin;have HD1:Hid (decide (z∈kept.take (n+1))=true):=decide_eq_true (by rw[HTK.out];exact List.mem_append_left _ hin);rw[hd];clear hd hin;go_wp2
        go_quiet (fail)
        go_wp2;have HBn:Hid (Below wm.heap.size wm (wr.drewN nq)):=below_drewN HBm.out nq;exact⟨⟨n+1,hnl,by go_num,by rw[HD1.out],HBn⟩,by simp[intOf];omega⟩
       ·as_aux_lemma=>
        have hd:decide (z∈kept.take n)=false:=decide_eq_false hin;obtain⟨_,bo,oo,ha,hc⟩:=qaf.at HKR.out (by omega);subst ha;obtain⟨vs7,vl7,k0,k1,hs7,hl7⟩:=hc n hnl;obtain⟨a7,c7,rfl⟩:=hs7.form;obtain⟨a8,c8,rfl⟩:=hl7.form;have HWY:Hid (∀s∈(kept[n]).steps,∀t∈s.tests,L.W t.list):=HKW.out _ (List.getElem_mem hnl)
        have HD1:Hid (decide (z∈kept.take (n+1))=sm kept[n] z):=by
         unfold Hid sm;rw[HTK.out];simp only[List.mem_append,List.mem_singleton,hin,false_or];exact decide_eq_decide.2 ⟨fun h=>h.symm,fun h=>h.symm⟩
        have hbd:Below wm.heap.size wm wr.drew:=HBm.out.drew;obtain⟨g0,g1⟩:=HY.out wr.drew hbd;have k0d:=qab hbd k0;have k1d:=qab hbd k1
        have hz:PthV A wr.drew (.agg #[.slice as_ p.steps.length cs,.slice al p.links.length cl]) z:=by
         obtain⟨v9,u9,e9,r1,r2⟩:=HPV.out;injection e9 with e1 e2;injection e2 with e2 _;subst e1 e2;exact⟨_,_,rfl,r1.map fun _ _ _ hq=>(hq.sub hS (qav _ _)).on hA hbd,r2.map fun _ _ _ hx=>qab hbd ((qav _ _).cell hx)⟩
        have hy:PthV A wr.drew (.agg #[.slice a7 (kept[n]).steps.length c7,.slice a8 (kept[n]).links.length c8]) kept[n]:=⟨_,_,rfl,hs7.map fun _ _ _ hq=>hq.on hA hbd,hl7.map fun _ _ _ hx=>qab hbd hx⟩
        clear hc hs7 hl7 k0 k1 HTK hbd;generalize kept[n]=y at *;have HC:Hid (Calls Tryz.prog 55 _ _ _):=qid hA L.W hsame wr.drew _ _ y z hy hz HWY.out HPW.out;have S0:(fun w'=>w'.cell? ⟨bo,oo+n*2,none⟩=some (.slice a7 (y).steps.length c7)∧w'.cell? ⟨bo,oo+n*2+1,none⟩=some (.slice a8 (y).links.length c8)∧w'.cell? ⟨g,k*2,none⟩=some (.slice as_ p.steps.length cs)∧w'.cell? ⟨g,k*2+1,none⟩=some (.slice al p.links.length cl)) wr.drew:=⟨k0d,k1d,g0,g1⟩
        have HS0:Hid _:=S0;rw[hd];clear hd hin hy hz k0d k1d g0 g1
        go_wp2_with fail
        refine wp_region_held_drew (S:=(fun w'=>w'.cell? ⟨bo,oo+n*2,none⟩=some (.slice a7 (y).steps.length c7)∧w'.cell? ⟨bo,oo+n*2+1,none⟩=some (.slice a8 (y).links.length c8)∧w'.cell? ⟨g,k*2,none⟩=some (.slice as_ p.steps.length cs)∧w'.cell? ⟨g,k*2+1,none⟩=some (.slice al p.links.length cl))) (by kernel_rfl) S0 (fun hHeld=>?_);clear S0;refine wpAnyH_take (i:=0) (oi:=(⟨some 89,.move (.tmp 7),4, "match.go:346",#[],none⟩:Oper)) (v:=?_) rfl (by kernel_rfl) (by kernel_rfl) (by kernel_rfl) (fun _ _ _ h=>h) (Or.inl ⟨by rfl,?_⟩) (by assumption) ?_;rotate_left
        ·intro w9 hSw
         (try dsimp only at hSw)
         go_simp
         all_goals (with_reducible rfl)
        try simp only[Act.put,zsa,zs0,zs1]
        refine wpAnyH_take (i:=1) (oi:=(⟨some 90,.move (.tmp 89),4, "match.go:346",#[⟨0,.data⟩],none⟩:Oper)) (v:=?_) rfl (by kernel_rfl) (by kernel_rfl) (by kernel_rfl) (fun _ _ _ h=>h) (Or.inl ⟨by rfl,?_⟩) (by assumption) ?_;rotate_left
        ·intro w9 hSw
         (try dsimp only at hSw)
         go_simp
         all_goals (with_reducible rfl)
        try simp only[Act.put,zsa,zs0,zs1]
        refine wpAnyH_take (i:=2) (oi:=(⟨some 91,.move (.tmp 3),29, "match.go:346",#[⟨1,.guard⟩],some (1,false)⟩:Oper)) (v:=?_) rfl (by kernel_rfl) (by kernel_rfl) (by kernel_rfl) (fun _ _ _ h=>h) (Or.inl ⟨by rfl,?_⟩) (by assumption) ?_;rotate_left
        ·intro w9 hSw
         (try dsimp only at hSw)
         go_simp
         all_goals (with_reducible rfl)
        try simp only[Act.put,zsa,zs0,zs1]
        refine wpAnyH_take (i:=3) (oi:=(⟨some 92,.move (.tmp 8),3, "match.go:346",#[⟨1,.guard⟩],some (1,false)⟩:Oper)) (v:=?_) rfl (by kernel_rfl) (by kernel_rfl) (by kernel_rfl) (fun _ _ _ h=>h) (Or.inl ⟨by rfl,?_⟩) (by assumption) ?_;rotate_left
        ·intro w9 hSw
         (try dsimp only at hSw)
         go_simp
         all_goals (with_reducible rfl)
        try simp only[Act.put,zsa,zs0,zs1]
        refine wpAnyH_take (i:=4) (oi:=(⟨some 93,.indexAddr 29 (.tmp 91) (.tmp 92),0, "match.go:346",#[⟨2,.data⟩,⟨3,.data⟩,⟨1,.guard⟩],some (1,false)⟩:Oper)) (v:=?_) rfl (by kernel_rfl) (by kernel_rfl) (by kernel_rfl) (fun _ _ _ h=>h) (Or.inl ⟨by rfl,?_⟩) (by assumption) ?_;rotate_left
        ·intro w9 hSw
         (try dsimp only at hSw)
         go_simp
         all_goals (with_reducible rfl)
        try simp only[Act.put,zsa,zs0,zs1]
        refine wpAnyH_take (i:=5) (oi:=(⟨some 94,.load 64 (.tmp 93),64, "match.go:346",#[⟨4,.data⟩,⟨1,.guard⟩],some (1,false)⟩:Oper)) (v:=?_) rfl (by kernel_rfl) (by kernel_rfl) (by kernel_rfl) (fun _ _ _ h=>h) (Or.inl ⟨by rfl,?_⟩) (by assumption) ?_;rotate_left
        ·intro w9 hSw
         (try dsimp only at hSw)
         go_simp
         all_goals (with_reducible rfl)
        try simp only[Act.put,zsa,zs0,zs1]
        refine wpAnyH_take (i:=6) (oi:=(⟨some 95,.move (.tmp 0),29, "match.go:346",#[⟨1,.guard⟩],some (1,false)⟩:Oper)) (v:=?_) rfl (by kernel_rfl) (by kernel_rfl) (by kernel_rfl) (fun _ _ _ h=>h) (Or.inl ⟨by rfl,?_⟩) (by assumption) ?_;rotate_left
        ·intro w9 hSw
         (try dsimp only at hSw)
         go_simp
         all_goals (with_reducible rfl)
        try simp only[Act.put,zsa,zs0,zs1]
        refine wpAnyH_take (i:=7) (oi:=(⟨some 96,.move (.tmp 4),3, "match.go:346",#[⟨1,.guard⟩],some (1,false)⟩:Oper)) (v:=?_) rfl (by kernel_rfl) (by kernel_rfl) (by kernel_rfl) (fun _ _ _ h=>h) (Or.inl ⟨by rfl,?_⟩) (by assumption) ?_;rotate_left
        ·intro w9 hSw
         (try dsimp only at hSw)
         go_simp
         all_goals (with_reducible rfl)
        try simp only[Act.put,zsa,zs0,zs1]
        refine wpAnyH_take (i:=8) (oi:=(⟨some 97,.indexAddr 29 (.tmp 95) (.tmp 96),0, "match.go:346",#[⟨6,.data⟩,⟨7,.data⟩,⟨1,.guard⟩],some (1,false)⟩:Oper)) (v:=?_) rfl (by kernel_rfl) (by kernel_rfl) (by kernel_rfl) (fun _ _ _ h=>h) (Or.inl ⟨by rfl,?_⟩) (by assumption) ?_;rotate_left
        ·intro w9 hSw
         (try dsimp only at hSw)
         go_simp
         all_goals (with_reducible rfl)
        try simp only[Act.put,zsa,zs0,zs1]
        refine wpAnyH_take (i:=9) (oi:=(⟨some 98,.load 64 (.tmp 97),64, "match.go:346",#[⟨8,.data⟩,⟨1,.guard⟩],some (1,false)⟩:Oper)) (v:=?_) rfl (by kernel_rfl) (by kernel_rfl) (by kernel_rfl) (fun _ _ _ h=>h) (Or.inl ⟨by rfl,?_⟩) (by assumption) ?_;rotate_left
        ·intro w9 hSw
         (try dsimp only at hSw)
         go_simp
         all_goals (with_reducible rfl)
        try simp only[Act.put,zsa,zs0,zs1]
        refine wpAnyH_ready (rs:=[10]) (by kernel_rfl) (by simp) ?_;refine AllReadyH.cons (o:=(⟨some 99,.call { callee:=Callee.value (.func 55),args:= #[.tmp 94,.tmp 98],argTypes:= #[64,64] },4, "match.go:346",#[⟨5,.data⟩,⟨9,.data⟩,⟨1,.chain⟩,⟨1,.guard⟩],some (1,false)⟩:Oper)) rfl (fun K hK=>?_) AllReadyH.nil;go_simp
        go_at_call 55
        refine HC.out.mono ?_;rintro e w6 ⟨rfl,hb6⟩;refine hK.out _ _ ⟨qab hb6 HS0.out.1,qab hb6 HS0.out.2.1,qab hb6 HS0.out.2.2.1,qab hb6 HS0.out.2.2.2⟩ (fun hHeld2=>?_);clear hK K hHeld
        try simp only[Act.put,zsa,zs0,zs1]
        refine wpAnyH_take (i:=11) (oi:=(⟨some 100,.pick (.tmp 90) (.const (Value.bool true)) (.tmp 99),4, "match.go:346",#[⟨1,.data⟩,⟨10,.data⟩],none⟩:Oper)) (v:=?_) rfl (by kernel_rfl) (by kernel_rfl) (by kernel_rfl) (fun _ _ _ h=>h) (Or.inl ⟨by rfl,?_⟩) (by assumption) ?_;rotate_left
        ·intro w9 hSw
         (try dsimp only at hSw)
         go_simp
         all_goals (with_reducible rfl)
        try simp only[Act.put,zsa,zs0,zs1]
        refine wpAnyH_take (i:=12) (oi:=(⟨some 7,.assign (.tmp 100),4, "match.go:346",#[⟨11,.data⟩,⟨10,.chain⟩,⟨0,.phase⟩,⟨1,.phase⟩,⟨2,.phase⟩,⟨3,.phase⟩,⟨4,.phase⟩,⟨5,.phase⟩,⟨6,.phase⟩,⟨7,.phase⟩,⟨8,.phase⟩,⟨9,.phase⟩,⟨10,.phase⟩,⟨11,.phase⟩],none⟩:Oper)) (v:=?_) rfl (by kernel_rfl) (by kernel_rfl) (by kernel_rfl) (fun _ _ _ h=>h) (Or.inl ⟨by rfl,?_⟩) (by assumption) ?_;rotate_left
        ·intro w9 hSw
         (try dsimp only at hSw)
         go_simp
         all_goals (with_reducible rfl)
        try simp only[Act.put,zsa,zs0,zs1]
        refine wpAnyH_done (by kernel_rfl) ?_ _;have HBn:Hid (Below wm.heap.size wm w6):=qaa HBm.out.drew hb6;clear hHeld2 hb6;go_wp2;exact⟨⟨n+1,hnl,by go_num,by rw[HD1.out],HBn⟩,by simp[intOf];omega⟩
      ·by_cases hin:z∈kept
       ·as_aux_lemma=>
        have hne:n=kept.length:=by omega
        subst hne;rw[List.take_length];have hd:decide (z∈kept)=true:=decide_eq_true hin;have HK9:Hid (Pl.qag PL (k+1)=kept):=by unfold Hid;rw[HNX.out];unfold Pl.qbu;rw[if_pos hin]
        have HG9:Hid (Grow (pdn w.heap.size w1.heap.size own (.slice (some ⟨g,0,none⟩) l.length c0) (k+1)) w1.heap.size 64 2 (VP A) wr (.slice ao kept.length co) kept):=HGm'.out.move (qfx hS) fun j hj hjl=>⟨pdn_next hj,HBm.out.block j hjl⟩
        have HF9:Hid (Kp (kp1 w.heap.size own (.slice (some ⟨g,0,none⟩) l.length c0) (k+1)) w1 wr):=HKF.out.below HBm.out;rw[hd];clear hd hin;go_wp2;exact⟨⟨k+1,hlt,by go_num,by rw[HK9.out];exact HG9.out,HF9⟩,by simp[intOf];omega⟩
       ·as_aux_lemma=>
        have hne:n=kept.length:=by omega
        subst hne;rw[List.take_length];have hd:decide (z∈kept)=false:=decide_eq_false hin;have HK9:Hid (Pl.qag PL (k+1)=kept++[z]):=by unfold Hid;rw[HNX.out];unfold Pl.qbu;rw[if_neg hin]
        have HG9:Hid (Grow (pdn w.heap.size w1.heap.size own (.slice (some ⟨g,0,none⟩) l.length c0) (k+1)) w1.heap.size 64 2 (VP A) wr (.slice ao kept.length co) kept):=HGm'.out.move (qfx hS) fun j hj hjl=>⟨pdn_next hj,HBm.out.block j hjl⟩
        have HNEW:Hid (VP A (mask (Off (pdn w.heap.size w1.heap.size own (.slice (some ⟨g,0,none⟩) l.length c0) (k+1)) (.slice ao kept.length co)) wr) [.slice as_ p.steps.length cs,.slice al p.links.length cl] z):=(qfx hS).sub HPV.out (qam fun j hj hjl=>⟨by
         have h1:=HF.out.size
         have hp:pdn w.heap.size w1.heap.size own (.slice (some ⟨g,0,none⟩) l.length c0) (k+1) j=true∧(.slice ao kept.length co:Value).ownBlock≠some j:=by
          simp only[Bool.or_eq_true,decide_eq_true_eq]at hj
          rcases hj with h|h
          ·have h2:=HQD.out j h;rw[HQI.out]at h;refine⟨?_,fun e=>by have:=(HOWN.out j e).1;omega⟩;unfold qi at h;simp only[Bool.and_eq_true,beq_iff_eq]at h;unfold pdn;simp[h.1.2,h2.1,h2.2.2.1]
          ·refine⟨?_,fun e=>by have:=(HOWN.out j e).2;omega⟩;unfold pdn;simp;omega
         unfold Off;rw[hp.1]
         simpa using hp.2,HBm.out.block j hjl⟩)
        have HONE:Hid (∀u∈[.slice as_ p.steps.length cs,.slice al p.links.length cl],Value.oneCell' u=true):=by
         intro u hu;simp only[List.mem_cons,List.not_mem_nil,or_false]at hu
         rcases hu with rfl|rfl<;>rfl
        have HSZ:Hid (w1.heap.size≤wr.heap.size):=by unfold Hid;have:=HKF.out.size;have:=HBm.out.size;omega
        have HPH:Hid (pdn w.heap.size w1.heap.size own (.slice (some ⟨g,0,none⟩) l.length c0) (k+1) (wr.heap.size+1)=true):=by
         unfold Hid pdn;have:=HSZ.out;simp;omega
        have HF9:Hid (Kp (kp1 w.heap.size own (.slice (some ⟨g,0,none⟩) l.length c0) (k+1)) w1 wr):=HKF.out.below HBm.out;obtain⟨g0,g1⟩:=HY.out wr HBm.out;rw[hd];clear hd hin;obtain⟨wz,hwz⟩:∃q,q=wr:=⟨_,rfl⟩
        subst hwz
        go_wp2_with (at_builtin;refine Hid.out ?_)
        unfold Hid;refine qaQ (P:=pdn w.heap.size w1.heap.size own (.slice (some ⟨g,0,none⟩) l.length c0) (k+1)) (B:=w1.heap.size) (qfx hS) Tryz.underlying29 infP rfl (by decide) (by decide) (w2:=wz) (v:=.slice ao kept.length co) (l:=kept) (x:=z) (news:=[.slice as_ p.steps.length cs,.slice al p.links.length cl]) ?_ (.tmp 103) (.tmp 108) ?_ ?_ ?_ HG9.out HNEW.out HONE.out (by omega) HSZ.out HPH.out ?_
        ·rfl
        ·rfl
        ·rfl
        ·first|rfl|(simp[Act.eval];done)
        intro g9 cap9 w7 hg7 hb7 _;clear g0 g1;have HG8:Hid (Grow (pdn w.heap.size w1.heap.size own (.slice (some ⟨g,0,none⟩) l.length c0) (k+1)) w1.heap.size 64 2 (VP A) w7 (.slice (some ⟨g9,0,none⟩) (kept.length+1) cap9) (Pl.qag PL (k+1))):=by unfold Hid;rw[HK9.out];exact hg7
        have HF8:Hid (Kp (kp1 w.heap.size own (.slice (some ⟨g,0,none⟩) l.length c0) (k+1)) w1 w7):=(HF9.out.below (qac wz _)).grown hb7 (fun j hj hjl=>by have:=(HOWN.out j hj).1;omega);clear hg7 hb7 HNEW HG9;go_wp2;exact⟨⟨k+1,hlt,by go_num,HG8,HF8⟩,by simp[intOf];omega⟩
  ·as_aux_lemma=>
   have hke:k=l.length:=by omega
   subst hke
   have hall:Pl.qag PL l.length=R:=by
    have e1:l.length=PL.length:=by rw[HPL.out,List.length_map]
    rw[HR.out,e1,Pl.qbI]
   rw[hall]at HG ⊢;have hreal:qbp A wr (.slice ao R.length co) R:=qaf.map (Grow.row (qfx hS) HG.out) fun _ _ _ hq=>hq.sub hS (qav _ _)
   have HC:Hid (Calls Tryz.prog 24 _ _ _):=qfP hA hS L.W hOwn wr (.slice ao R.length co) R hreal HRK.out;clear hreal hall
   go_wp2_with fail
   refine HC.out.mono ?_;rintro e w9 ⟨a9,c9,rfl,h9,hb9⟩;have HB9:Hid (Below w.heap.size w w9):=qaa HBW.out hb9;have HR9:Hid (qbp A (mask (frm w.heap.size) w9) (.slice a9 R.length c9) R):=(qbf hS).sub h9 (qam fun j hj _=>⟨by have:=HBW.out.size;simp only[frm,decide_eq_true_eq]at hj ⊢;omega,rfl⟩);clear h9 hb9 HC;go_wp2;go_ret;exact⟨a9,c9,rfl,HR9.out,HB9.out⟩
end Go.Proofs.YtephhllfodlfbaaGreatDoor
