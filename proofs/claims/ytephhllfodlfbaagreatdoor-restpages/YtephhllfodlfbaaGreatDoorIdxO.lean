/-
  IndexOf: the document's own answer.
-/
import Derived.Test.YtephhllfodlfbaaGreatDoorOwnD
set_option maxRecDepth 100000
set_option maxHeartbeats 16000000
namespace Go.Proofs.YtephhllfodlfbaaGreatDoor
open Go.RowKit
namespace Pl
theorem put1_len {k:Key}{n:Nat}:∀{l:List En},(put1 k n l).length≤l.length+1
 | []=>by simp[put1]
 | e::r=>by
  have:=put1_len (k:=k) (n:=n) (l:=r);unfold put1
  split
  ·simp;omega
  ·split<;>simp
theorem qgW {k:Key}{n m:Nat}:∀{l:List En},(∀e∈l,e.nodes.length≤m)→∀e∈put1 k n l,e.nodes.length≤m+1
 | [],_,e,he=>by
  simp[put1]at he;subst he;simp
 | f::r,h,e,he=>by
  unfold put1 at he
  split at he
  ·rcases List.mem_cons.1 he with rfl|he
   ·have:=h e (by simp);omega
   ·exact qgW (fun x hx=>h x (by simp[hx])) e he
  ·split at he
   ·rcases List.mem_cons.1 he with rfl|he
    ·simp
    ·have:=h e he;omega
   ·rcases List.mem_cons.1 he with rfl|he
    ·have:=h f (by simp);simp;omega
    ·have:=h e (by simp[he]);omega
def Fit (m:Nat)(l:List En):Prop:=l.length≤m∧∀e∈l,e.nodes.length≤m
theorem Fit.put {m:Nat}{l:List En}(h:Fit m l)(k:Key)(n:Nat):Fit (m+1) (put1 k n l):=⟨by have:=put1_len (k:=k) (n:=n) (l:=l);have:=h.1;omega,qgW h.2⟩
theorem qfc (n:Nat):∀(ks:List Key) {m:Nat} {l:List En},Fit m l→Fit (m+ks.length) (qca ks n l)
 | [],_,_,h=>h
 | k::ks,m,l,h=>by
  have:=qfc n ks (h.put k n);rw[List.length_cons,show m+(ks.length+1)=m+1+ks.length by omega];exact this
theorem qi2 (ks:List Key)(k:Key)(n:Nat)(l:List En):qca (ks++[k]) n l=put1 k n (qca ks n l):=by simp[qca,List.foldl_append]
theorem qgN (x:Nd)(h:x.cls.length≤6):(keysOf x).length≤8:=by
 unfold keysOf
 split<;>simp<;>omega
theorem idx_fit {ns:List Nd}(h:∀x∈ns,x.cls.length≤6):∀n,Fit (8*n) (qb8 ns n)
 | 0=>⟨by simp[qb8],by simp[qb8]⟩
 | n+1=>by
  have ih:=idx_fit h n;unfold qb8
  split
  ·exact⟨by have:=ih.1;omega,fun e he=>by have:=ih.2 e he;omega⟩
  ·rename_i x hx;have hl:=qgN x (h x (List.mem_of_getElem? hx));have:=qfc n (keysOf x) ih;exact⟨by have:=this.1;omega,fun e he=>by have:=this.2 e he;omega⟩
theorem qik {k:Key}{n:Nat}{α:Type}{ps:List (En×α)}{i:Nat}(hi:i≤ps.length)(h1:∀j (h:j<ps.length),j<i→qas ps[j].1.key k=true)(h2:∀h:i<ps.length,qas ps[i].1.key k=false∧qas k ps[i].1.key=true)(y z:α):
 ((ps.take i++(⟨k,[]⟩,y)::ps.drop i).set i (⟨k,[n]⟩,z)).map (·.1)=put1 k n (ps.map (·.1)):=by
 rw[put1_ins (i:=i) (by simpa using hi) (fun j hj hji=>by have:=h1 j (by simpa using hj) hji;simpa using this) (fun h=>by have:=h2 (by simpa using h);simpa using this)];have e:i-(ps.take i).length=0:=by simp;omega
 rw[List.set_append_right _ _ (by simp;omega),e];simp
theorem put1_set' {k:Key}{n:Nat}{α:Type}{ps:List (En×α)}{i:Nat}(hi:i<ps.length)(h1:∀j (h:j<ps.length),j<i→qas ps[j].1.key k=true)(h2:qas ps[i].1.key k=false)(h3:qas k ps[i].1.key=false)(z:α):
 (ps.set i (⟨ps[i].1.key,ps[i].1.nodes++[n]⟩,z)).map (·.1)=put1 k n (ps.map (·.1)):=by
 rw[put1_set (i:=i) (by simpa using hi) (fun j hj hji=>by have:=h1 j (by simpa using hj) hji;simpa using this) (by simpa using h2) (by simpa using h3)];simp[List.map_set]
end Pl
theorem qdk:∀(ks:List Pl.Key) (i:Nat) (h:i<ks.length),(qbq ks)[i*3]? =some (.int .i64 ks[i].1)∧(qbq ks)[i*3+1]? =some (.string ⟨ks[i].2.toArray⟩)∧(qbq ks)[i*3+2]? =some (.slice none 0 0)
 | [],i,h=>by simp at h
 | p::r,0,_=>by simp[qbq]
 | p::r,i+1,h=>by
  have:=qdk r i (by simpa using h);rw[show qbq (p::r)=.int .i64 p.1:: .string ⟨p.2.toArray⟩:: .slice none 0 0::qbq r by simp[qbq],show (i+1)*3=i*3+1+1+1 by omega]
  simpa using this
theorem qcO {w:World}{B g n cap:Nat}{e:TypeId}{xs:List Value}(h:w.ownsRow B e 3 (.slice (some ⟨g,0,none⟩) n cap) n xs){i:Nat}(hi:i<n){a b c:Value}(hx:xs[i*3]? =some a∧xs[i*3+1]? =some b∧xs[i*3+2]? =some c):
 w.cell? ⟨g,i*3,none⟩=some a∧w.cell? ⟨g,i*3+1,none⟩=some b∧w.cell? ⟨g,i*3+2,none⟩=some c:=by
 refine⟨?_,?_,?_⟩
 ·rw[World.ownsRow.cellAt h _ (by omega)];exact hx.1
 ·rw[World.ownsRow.cellAt h _ (by omega)];exact hx.2.1
 ·rw[World.ownsRow.cellAt h _ (by omega)];exact hx.2.2
theorem qha {w W w':World}{p0 p1 p2 p3 p4 p5:Addr}{v0 v1 v2 v3 v4 v5:Value}(h:W.cell? p0=some v0∧W.cell? p1=some v1∧W.cell? p2=some v2∧W.cell? p3=some v3∧W.cell? p4=some v4∧W.cell? p5=some v5∧Below w.heap.size w W)(hb:Below W.heap.size W w'):
 w'.cell? p0=some v0∧w'.cell? p1=some v1∧w'.cell? p2=some v2∧w'.cell? p3=some v3∧w'.cell? p4=some v4∧w'.cell? p5=some v5∧Below w.heap.size w w':=
 ⟨qab hb h.1,qab hb h.2.1,qab hb h.2.2.1,qab hb h.2.2.2.1,qab hb h.2.2.2.2.1,qab hb h.2.2.2.2.2.1,qaa h.2.2.2.2.2.2 hb⟩
theorem qgo {w W:World}{p0 p1 p2 p3 p4 p5:Addr}{v0 v1 v2 v3 v4 v5:Value}(h:W.cell? p0=some v0∧W.cell? p1=some v1∧W.cell? p2=some v2∧W.cell? p3=some v3∧W.cell? p4=some v4∧W.cell? p5=some v5∧Below w.heap.size w W):Below w.heap.size w W:=h.2.2.2.2.2.2
theorem sixb_drew {w W:World}{p0 p1 p2 p3 p4 p5:Addr}{v0 v1 v2 v3 v4 v5:Value}(h:W.cell? p0=some v0∧W.cell? p1=some v1∧W.cell? p2=some v2∧W.cell? p3=some v3∧W.cell? p4=some v4∧W.cell? p5=some v5∧Below w.heap.size w W):W.drew.cell? p0=some v0∧W.drew.cell? p1=some v1∧W.drew.cell? p2=some v2∧W.drew.cell? p3=some v3∧W.drew.cell? p4=some v4∧W.drew.cell? p5=some v5∧Below w.heap.size w W.drew:=⟨h.1,h.2.1,h.2.2.1,h.2.2.2.1,h.2.2.2.2.1,h.2.2.2.2.2.1,h.2.2.2.2.2.2.drew⟩
theorem qhG {w:World}{B g n cap:Nat}{e:TypeId}{size:Nat}{xs:List Value}(h:w.ownsRow B e size (.slice (some ⟨g,0,none⟩) n cap) n xs):n≤cap∧cap≤maxLen:=by
 rcases h.2 with ⟨h0,_⟩|⟨g',cap',cur,e1,_,_,h1,h2,_⟩
 ·cases h0
 ·injection e1 with _ _ e3;subst e3;exact⟨h1,h2⟩
theorem ins_at {α:Type}{ps:List α}{y:α}{j:Nat}(hj:j≤ps.length){h:j<(ps.take j++y::ps.drop j).length}:(ps.take j++y::ps.drop j)[j]=y:=by
 rw[List.getElem_append_right (by simp;omega)];have e:j-(ps.take j).length=0:=by simp;omega
 simp only[e,List.getElem_cons_zero]
theorem qdM (b o cap:Nat)(ns:List Pl.Nd)(w:World)(h64:ns.length≤64)(hsh:∀x∈ns,x.cls.length≤6)(hc:∀i (h:i<ns.length),NdAt w b (o+i*5) ns[i]):
 Calls Tryz.prog 23 #[.agg #[.slice (some ⟨b,o,none⟩) ns.length cap]] w fun e w'=>∃v ps,e=.returned v∧ERow (w.heap.size+1) w' v ps∧ps.map (·.1)=Pl.qb8 ns ns.length∧Below w.heap.size w w':=by
 have HC:Hid _:=hc;have HSH:Hid _:=hsh;have HFIT:Hid _:=Pl.idx_fit hsh;clear hc hsh;have hB0:Hid (Below w.heap.size w (w.alloc (.cells #[.slice (some ⟨b,o,none⟩) ns.length cap] 24))):=qac _ _;have bS:Hid (Blk1 (w.alloc (.cells #[.slice (some ⟨b,o,none⟩) ns.length cap] 24)) w.heap.size (.slice (some ⟨b,o,none⟩) ns.length cap)):=Blk1.new w _;have hz0:Hid ((w.alloc (.cells #[.slice (some ⟨b,o,none⟩) ns.length cap] 24)).heap.size=w.heap.size+1):=by unfold Hid;simp
 go_enter Tryz.func23,Tryz.ntmps23
 go_wp2_with fail
 generalize w.alloc (.cells #[.slice (some ⟨b,o,none⟩) ns.length cap] 24)=w0 at *
 go_loopw [3,4] (fun v i wr=>∃n:Nat,n≤ns.length∧i=.int .i64 n∧∃ps,Hid (ERow w0.heap.size wr v ps)∧Hid (ps.map (·.1)=Pl.qb8 ns n)∧Hid (Below w0.heap.size w0 wr)) (fun _ i _=>ns.length-(intOf i).toNat)
 case atStart=>exact⟨0,Nat.zero_le _,rfl,[],ERow.nil _ _,rfl,Below.refl _ _⟩
 case round=>
  obtain⟨n,hn,rfl,ps,hrow,hmap,hbe⟩:=hrel;have hBr:Below w.heap.size w wr:=qaa hB0.out hbe.out;have bW:=Blk1.on bS.out hbe.out;have s0:=bW.facts.1;obtain⟨av,cv,rfl⟩:=hrow.out.form
  by_cases hlt:n<ns.length
  ·obtain⟨vc,va,n0,n1,n2,n3,n4,nc,na⟩:=(HC.out n hlt).on hBr;obtain⟨ac,cc,rfl,-⟩:=id nc;obtain⟨aa,ca,rfl,-⟩:=id na;have L1:=HSH.out ns[n] (List.getElem_mem hlt);have NV:Hid (NdV wr (.agg #[.int .i64 ns[n].up,.string ⟨ns[n].tag.toArray⟩,.string ⟨ns[n].id.toArray⟩,.slice ac ns[n].cls.length cc,.slice aa ns[n].ats.length ca]) ns[n]):=⟨_,_,rfl,nc,na⟩
   have HNX:Hid (Pl.qb8 ns (n+1)=Pl.qca (Pl.keysOf ns[n]) n (Pl.qb8 ns n)):=by
    unfold Hid;rw[show Pl.qb8 ns (n+1)=(match ns[n]? with|none=>Pl.qb8 ns n|some x=>Pl.qca (Pl.keysOf x) n (Pl.qb8 ns n)) from rfl,List.getElem?_eq_getElem hlt]
   clear nc na;generalize ns[n]=x at *;have HF0:Hid (Pl.Fit (8*n) (Pl.qb8 ns n)):=HFIT.out n
   go_wp2_with fail
   refine(keys_any _ x _ NV.out L1).mono ?_;rintro e w1 ⟨u,rfl,hku,hb1⟩;have hkl:=Pl.qgN x L1;have hkp:0<(Pl.keysOf x).length:=by simp[Pl.keysOf]
   obtain⟨gk,ck,rfl,hgk,hgk2⟩:=hku.form hkp;have HH:Hid (Held w0 (wr.heap.size+1) gk ck (Pl.keysOf x) w1 (.slice av ps.length cv) ps):=⟨hrow.out.on hb1,hrow.out.clear (Or.inr (by omega)),hku,qaa hbe.out hb1⟩
   have HMP:Hid (ps.map (·.1)=Pl.qca ((Pl.keysOf x).take 0) n (Pl.qb8 ns n)):=hmap;clear hrow hku hbe hmap hb1 n0 n1 n2 n3 n4 NV L1 bW s0 hBr HFIT hgk hgk2;generalize Pl.qb8 ns n=L0 at *;generalize Pl.keysOf x=K at *;generalize wr.heap.size+1=BK at *;clear wr
   go_wp2_with fail
   go_loopw [3,6] (fun v i wr=>∃k:Nat,k≤K.length∧i=.int .i64 k∧∃ps,Hid (Held w0 BK gk ck K wr v ps)∧Hid (ps.map (·.1)=Pl.qca (K.take k) n L0)) (fun _ i _=>K.length-(intOf i).toNat)
   case atStart=>exact⟨0,Nat.zero_le _,rfl,ps,HH,HMP⟩
   case round=>
    clear HH HMP;obtain⟨k,hk,rfl,ps,HH,HMP⟩:=hrel;obtain⟨av,cv,rfl⟩:=HH.out.row.form
    by_cases hlk:k<K.length
    ·obtain⟨q0,q1,q2⟩:=qcO HH.out.keys hlk (qdk K k hlk)
     have HNX2:Hid (Pl.qca (K.take (k+1)) n L0=Pl.put1 K[k] n (Pl.qca (K.take k) n L0)):=by
      unfold Hid;rw[List.take_succ_eq_append_getElem hlk,Pl.qi2]
     have hfit:Pl.Fit (8*n+8) (ps.map (·.1)):=by
      rw[HMP.out];have:=Pl.qfc n (K.take k) HF0.out;have hl:(K.take k).length≤8:=by simp;omega
      exact⟨by have:=this.1;omega,fun e he=>by have:=this.2 e he;omega⟩
     have hpl:ps.length≤8*n+8:=by have:=hfit.1;simpa using this
     have hpn:∀p∈ps,p.1.nodes.length≤8*n+8:=fun p hp=>hfit.2 p.1 (List.mem_map_of_mem hp)
     have HPN:Hid _:=hpn;clear hfit hpn;obtain⟨key,hkey⟩:∃key,K[k]=key:=⟨_,rfl⟩
     have HKK:Hid (K[k]=key):=hkey;rw[hkey]at q0 q1;have HNX3:Hid (Pl.qca (K.take (k+1)) n L0=Pl.put1 key n (Pl.qca (K.take k) n L0)):=by unfold Hid;rw[←hkey];exact HNX2.out
     clear hkey HNX2;have HNX2:Hid _:=HNX3.out;clear HNX3;obtain⟨kk,kn⟩:=key;dsimp only at q0 q1;obtain⟨W,hW⟩:∃W,W=wr:=⟨_,rfl⟩
     subst hW
     go_wp2_with fail
     go_loopw [7] (fun i wr=>∃j:Nat,j≤ps.length∧i=.int .i64 j∧Hid (∀q (h:q<ps.length),q<j→Pl.qas ps[q].1.key (kk,kn)=true)∧Hid (Below W.heap.size W wr)) (fun i _=>ps.length-(intOf i).toNat)
     case atStart=>exact⟨0,Nat.zero_le _,rfl,fun q _ hq=>absurd hq (by omega),Below.refl _ _⟩
     case round=>
      obtain⟨j,hj,rfl,hless,hbW⟩:=hrel
      by_cases hjl:j<ps.length
      ·obtain⟨g,cg,eg,hgB,hgS⟩:=HH.out.row.own.form (by omega);obtain⟨rfl,rfl⟩:av=some ⟨g,0,none⟩∧cv=cg:=by injection eg with q1 q2 q3;exact⟨q1,q3⟩
       obtain⟨p0,p1,p2⟩:=qcO HH.out.row.own hjl (qb6 ps j hjl);obtain⟨as_,cs,es⟩:=qcV (HH.out.row.ints ps[j] (List.getElem_mem hjl));have hnl0:=HPN.out ps[j] (List.getElem_mem hjl);obtain⟨ep,hep⟩:∃e,ps[j]=e:=⟨_,rfl⟩
       have HEP:Hid (ps[j]=ep):=hep;rw[hep]at p0 p1 p2 es hnl0;obtain⟨⟨⟨ek,en⟩,en2⟩,sv⟩:=ep;dsimp only at p0 p1 p2 es hnl0;subst es;clear hep eg;have i1:(0:Int)≤(j:Int):=by omega
       have i2:(j:Int)<(ps.length:Int):=by omega
       have i3:(0:Int)≤(k:Int):=by omega
       have i4:(k:Int)<(K.length:Int):=by omega
       have S0:wr.drew.cell? ⟨gk,k*3,none⟩=some (.int .i64 kk)∧wr.drew.cell? ⟨gk,k*3+1,none⟩=some (.string ⟨kn.toArray⟩)∧wr.drew.cell? ⟨gk,k*3+2,none⟩=some (.slice none 0 0)∧wr.drew.cell? ⟨g,j*3,none⟩=some (.int .i64 ek)∧wr.drew.cell? ⟨g,j*3+1,none⟩=some (.string ⟨en.toArray⟩)∧wr.drew.cell? ⟨g,j*3+2,none⟩=some (.slice as_ en2.length cs)∧Below W.heap.size W wr.drew:=⟨qab hbW.out.drew q0,qab hbW.out.drew q1,qab hbW.out.drew q2,qab hbW.out.drew p0,qab hbW.out.drew p1,qab hbW.out.drew p2,hbW.out.drew⟩
       have hd:decide ((j:Int)<(ps.length:Int))=true:=by simp;omega
       have hd2:((j:Int)==(ps.length:Int))=false:=by simp;omega
       cases hle:Pl.qas (ek,en) (kk,kn) with
       | true=>
        have HN:Hid (∀q (h:q<ps.length),q<j+1→Pl.qas ps[q].1.key (kk,kn)=true):=by
         intro q hq hqj
         by_cases e:q=j
         ·subst e;rw[HEP.out];exact hle
         ·exact hless.out q hq (by omega)
        go_wp2;clear p0 p1 p2 q0 q1 q2
        go_region_held3 (fun w'=>w'.cell? ⟨gk,k*3,none⟩=some (.int .i64 kk)∧w'.cell? ⟨gk,k*3+1,none⟩=some (.string ⟨kn.toArray⟩)∧w'.cell? ⟨gk,k*3+2,none⟩=some (.slice none 0 0)∧w'.cell? ⟨g,j*3,none⟩=some (.int .i64 ek)∧w'.cell? ⟨g,j*3+1,none⟩=some (.string ⟨en.toArray⟩)∧w'.cell? ⟨g,j*3+2,none⟩=some (.slice as_ en2.length cs)∧Below W.heap.size W w')
         (first|with_reducible assumption|exact qha (by with_reducible assumption) (by with_reducible assumption))
         (first|(go_at_call 63;refine(qcC _ _ _ _ _ _ _ _ _ _ _).mono ?_;rintro e w' ⟨rfl,hw⟩))
        go_wp2;exact⟨⟨j+1,by omega,by go_num,HN,qgo (by assumption)⟩,by simp[intOf];omega⟩
       | false=>
        go_wp2;clear p0 p1 p2 q0 q1 q2
        go_region_held3 (fun w'=>w'.cell? ⟨gk,k*3,none⟩=some (.int .i64 kk)∧w'.cell? ⟨gk,k*3+1,none⟩=some (.string ⟨kn.toArray⟩)∧w'.cell? ⟨gk,k*3+2,none⟩=some (.slice none 0 0)∧w'.cell? ⟨g,j*3,none⟩=some (.int .i64 ek)∧w'.cell? ⟨g,j*3+1,none⟩=some (.string ⟨en.toArray⟩)∧w'.cell? ⟨g,j*3+2,none⟩=some (.slice as_ en2.length cs)∧Below W.heap.size W w')
         (first|with_reducible assumption|exact qha (by with_reducible assumption) (by with_reducible assumption))
         (first|(go_at_call 63;refine(qcC _ _ _ _ _ _ _ _ _ _ _).mono ?_;rintro e w' ⟨rfl,hw⟩))
        have S1:=sixb_drew (by with_reducible assumption)
        cases hgt:Pl.qas (kk,kn) (ek,en) with
        | true=>
         have HLS:Hid (∀h:j<ps.length,Pl.qas ps[j].1.key (kk,kn)=false∧Pl.qas (kk,kn) ps[j].1.key=true):=fun h=>by rw[HEP.out];exact⟨hle,hgt⟩
         go_wp2
         go_region_held3 (fun w'=>w'.cell? ⟨gk,k*3,none⟩=some (.int .i64 kk)∧w'.cell? ⟨gk,k*3+1,none⟩=some (.string ⟨kn.toArray⟩)∧w'.cell? ⟨gk,k*3+2,none⟩=some (.slice none 0 0)∧w'.cell? ⟨g,j*3,none⟩=some (.int .i64 ek)∧w'.cell? ⟨g,j*3+1,none⟩=some (.string ⟨en.toArray⟩)∧w'.cell? ⟨g,j*3+2,none⟩=some (.slice as_ en2.length cs)∧Below W.heap.size W w')
          (first|with_reducible assumption|exact qha (by with_reducible assumption) (by with_reducible assumption))
          (first|(go_at_call 63;refine(qcC _ _ _ _ _ _ _ _ _ _ _).mono ?_;rintro e w' ⟨rfl,hw⟩))
         have HB3:Hid (Below W.heap.size W w'):=qgo (by with_reducible assumption)
         go_wp2_with (at_builtin;refine Hid.out ?_)
         unfold Hid;refine qfs (B:=w0.heap.size) (v:=.slice (some ⟨g,0,none⟩) ps.length cv) (ps:=ps) ?_ (.tmp 59) (.tmp 61) ?_ ?_ ?_ (HH.out.on (HB3.out)).row.own (by omega) (HH.out.on (HB3.out)).old.size ?_
         ·rfl
         ·rfl
         ·rfl
         ·rfl
         intro g1 cap1 w4 ho4 hg4 hat4 hlt4;have hcap:ps.length+1≤cap1:=(qhG ho4).1;have hcap2:cap1≤maxLen:=(qhG ho4).2;unfold maxLen at hcap2;have HO4d:Hid (World.ownsRow w4.drew _ _ _ _ _ _):=ho4.drew;have HG4:Hid (World.grownBy _ w4.drew _):=qci hg4 (Below.refl _ _).drew;have HAT:Hid _:=hat4;have HONE:Hid (∀u∈qau (ps++[e0]),u.oneCell'=true):=HH.out.row.one1;clear ho4 hg4 hat4;have j1:(0:Int)≤(j:Int)+1:=by omega
         have j2:(j:Int)+1≤(ps.length:Int)+1:=by omega
         have j3:IntKind.i64.wrap ((j:Int)+1)=(j:Int)+1:=by rw[IntWalk.i64_left,IntWalk.wrap64_in _ ⟨by omega,by omega⟩]
         have j4:((j:Int)+1).toNat=j+1:=by omega
         have j5:(j:Int)≤(ps.length:Int)+1:=by omega
         have j6:cap1≠j:=by omega
         have j7:Hid (j<ps.length→(if cap1=j+1 then (some ⟨g1,0,none⟩:Option Addr) else some ⟨g1,(j+1)*3,none⟩)=some ⟨g1,(j+1)*3,none⟩):=fun h=>if_neg (by omega)
         go_wp2
         go_region_law (refine qgJ (by rfl) (.tmp 66) (.tmp 69) (by rfl) (if cap1=j+1 then some ⟨g1,0,none⟩ else some ⟨g1,(j+1)*3,none⟩) (some ⟨g1,j*3,none⟩) (ps.length-j) (cap1-(j+1)) (ps.length+1-j) (cap1-j) (by go_simp) (by go_simp) w0.heap.size g1 ps.length cap1 j (ps++[e0]) HO4d.out (by simp) hj rfl rfl j7.out (fun _=>rfl) HONE.out ?_;intro w5 ho5 hg5)
         obtain⟨hK5,hH5⟩:=Held.inserted (HH.out.on HB3.out) rfl hj HG4.out HAT.out ho5.out hg5.out (kk,kn);have HH5:Hid (Held w0 BK gk ck K (((w5.setCell ⟨g1,j*3,none⟩ (.int .i64 kk)).setCell ⟨g1,j*3+1,none⟩ (.string ⟨kn.toArray⟩)).setCell ⟨g1,j*3+2,none⟩ (.slice none 0 0)) (.slice (some ⟨g1,0,none⟩) (ps.length+1) cap1) (ps.take j++(⟨(kk,kn),[]⟩,.slice none 0 0)::ps.drop j)):=hH5;obtain⟨r0,r1,r2⟩:=qcO hK5 hlk (by have:=qdk K k hlk;rw[HKK.out]at this;exact this);have hRl:j<((ps++[e0]).take (j+1)++((ps++[e0]).drop j).take (ps.length-j)).length:=by simp;omega
         obtain⟨t0,t1,t2⟩:=qcO ho5.out (by omega) (qb6 _ j hRl);have f5:=World.ownsRow.frozenAt ho5.out;generalize ((ps++[e0]).take (j+1)++((ps++[e0]).drop j).take (ps.length-j))[j]=ee at t0 t1 t2;have i6:(j:Int)<(ps.length:Int)+1:=by omega
         clear hK5 hH5 ho5 hg5 HG4 HO4d HAT HONE j7 hRl
         go_wp2_with (at_builtin;refine Hid.out ?_)
         clear t0 t1 t2 f5 r0 r1 r2;have hs6:(((w5.setCell ⟨g1,j*3,none⟩ (.int .i64 kk)).setCell ⟨g1,j*3+1,none⟩ (.string ⟨kn.toArray⟩)).setCell ⟨g1,j*3+2,none⟩ (.slice none 0 0)).heap.size=w5.heap.size:=by simp[World.setCell]
         generalize hW6:((w5.setCell ⟨g1,j*3,none⟩ (.int .i64 kk)).setCell ⟨g1,j*3+1,none⟩ (.string ⟨kn.toArray⟩)).setCell ⟨g1,j*3+2,none⟩ (.slice none 0 0)=W6 at *;clear hW6;have HE3:Hid (∃h:j<(ps.take j++(⟨(kk,kn),[]⟩,.slice none 0 0)::ps.drop j).length,(ps.take j++((⟨(kk,kn),[]⟩,.slice none 0 0):EP)::ps.drop j)[j]=(⟨(kk,kn),[]⟩,.slice none 0 0)):=⟨by simp;omega,ins_at hj⟩
         have HP3:Hid (∀z:Value,((ps.take j++(⟨(kk,kn),[]⟩,.slice none 0 0)::ps.drop j).set j (⟨(kk,kn),[]++[n]⟩,z)).map (·.1)=Pl.put1 (kk,kn) n (ps.map (·.1))):=fun z=>Pl.qik hj hless.out (HLS.out) _ z
         generalize ps.take j++(⟨(kk,kn),[]⟩,.slice none 0 0)::ps.drop j=ps3 at *;obtain⟨hj3,he3⟩:=HE3.out;have hint:=HH5.out.row.ints ps3[j] (List.getElem_mem hj3);rw[he3]at hint;dsimp only at hint;have HINT:Hid (World.ownsRow _ _ _ _ _ _ _):=hint;have HE4:Hid (ps3[j]=(⟨(kk,kn),[]⟩,.slice none 0 0)):=he3;clear he3 hint HE3;unfold Hid;refine qei (B:=w0.heap.size) (w2:=W6) (v:=.slice none 0 0) (l:=[]) (n:=n) ?_ (.tmp 84) (.tmp 86) ?_ ?_ ?_ HINT.out (by simp) HH5.out.old.size ?_
         ·rfl
         ·rfl
         ·rfl
         ·first|rfl|(simp[Act.eval,hs6];done)
         clear hs6;intro g7 cap7 w7 ho7 hg7 hat7 hlt7;obtain⟨⟨u7,z7⟩,f7,hH7⟩:=HH5.out.placed hj3 HE4.out rfl ho7 hg7 hat7;have HH7:Hid (Held w0 BK gk ck K _ _ _):=hH7;clear ho7 hg7 hat7 hlt7 hH7;go_wp2;exact⟨⟨k+1,by omega,by go_num,_,HH7,by unfold Hid;rw[HNX2.out,←HMP.out];exact HP3.out _⟩,by simp[intOf];omega⟩
        | false=>
         have HP3:Hid (∀z:Value,(ps.set j (⟨(ek,en),en2++[n]⟩,z)).map (·.1)=Pl.put1 (kk,kn) n (ps.map (·.1))):=fun z=>by
          have:=Pl.put1_set' (k:=(kk,kn)) (n:=n) hjl hless.out (by rw[HEP.out];exact hle) (by rw[HEP.out];exact hgt) z;rw[HEP.out]at this;exact this
         go_wp2
         go_region_held3 (fun w'=>w'.cell? ⟨gk,k*3,none⟩=some (.int .i64 kk)∧w'.cell? ⟨gk,k*3+1,none⟩=some (.string ⟨kn.toArray⟩)∧w'.cell? ⟨gk,k*3+2,none⟩=some (.slice none 0 0)∧w'.cell? ⟨g,j*3,none⟩=some (.int .i64 ek)∧w'.cell? ⟨g,j*3+1,none⟩=some (.string ⟨en.toArray⟩)∧w'.cell? ⟨g,j*3+2,none⟩=some (.slice as_ en2.length cs)∧Below W.heap.size W w')
          (first|with_reducible assumption|exact qha (by with_reducible assumption) (by with_reducible assumption))
          (first|(go_at_call 63;refine(qcC _ _ _ _ _ _ _ _ _ _ _).mono ?_;rintro e w' ⟨rfl,hw⟩))
         have HB3:Hid (Below W.heap.size W w'):=qgo (by with_reducible assumption);have HH5:Hid (Held w0 BK gk ck K w' (.slice (some ⟨g,0,none⟩) ps.length cv) ps):=HH.out.on HB3.out;have hint:=HH5.out.row.ints ps[j] (List.getElem_mem hjl);rw[HEP.out]at hint;dsimp only at hint;have HINT:Hid (World.ownsRow _ _ _ _ _ _ _):=hint;have hhl:(w'.cell? ⟨gk,k*3,none⟩=some (.int .i64 kk)∧w'.cell? ⟨gk,k*3+1,none⟩=some (.string ⟨kn.toArray⟩)∧w'.cell? ⟨gk,k*3+2,none⟩=some (.slice none 0 0)∧w'.cell? ⟨g,j*3,none⟩=some (.int .i64 ek)∧w'.cell? ⟨g,j*3+1,none⟩=some (.string ⟨en.toArray⟩)∧w'.cell? ⟨g,j*3+2,none⟩=some (.slice as_ en2.length cs)∧Below W.heap.size W w'):=by with_reducible assumption
         have p2:=hhl.2.2.2.2.2.1;clear hint hhl
         go_wp2_with (at_builtin;refine Hid.out ?_)
         unfold Hid;refine qei (B:=w0.heap.size) (w2:=w') (v:=.slice as_ en2.length cs) (l:=en2) (n:=n) ?_ (.tmp 84) (.tmp 86) ?_ ?_ ?_ HINT.out (by omega) HH5.out.old.size ?_
         ·rfl
         ·rfl
         ·rfl
         ·rfl
         intro g7 cap7 w7 ho7 hg7 hat7 hlt7;obtain⟨⟨u7,z7⟩,f7,hH7⟩:=HH5.out.placed hjl HEP.out rfl ho7 hg7 hat7;have HH7:Hid (Held w0 BK gk ck K _ _ _):=hH7;clear ho7 hg7 hat7 hlt7 hH7 p2;go_wp2;exact⟨⟨k+1,by omega,by go_num,_,HH7,by unfold Hid;rw[HNX2.out,←HMP.out];exact HP3.out _⟩,by simp[intOf];omega⟩
      ·have HJE:Hid (j=ps.length):=by unfold Hid;omega
       have i1:(0:Int)≤(j:Int):=by omega
       have i3:(0:Int)≤(k:Int):=by omega
       have i4:(k:Int)<(K.length:Int):=by omega
       have hd:decide ((j:Int)<(ps.length:Int))=false:=by simp;omega
       have hd2:((j:Int)==(ps.length:Int))=true:=by simp;omega
       go_wp2
       go_quiet (fail)
       go_wp2
       go_quiet (fail)
       go_wp2_with (at_builtin;refine Hid.out ?_)
       unfold Hid;refine qfs (B:=w0.heap.size) (v:=.slice av ps.length cv) (ps:=ps) ?_ (.tmp 59) (.tmp 61) ?_ ?_ ?_ (HH.out.on (below_drewN hbW.out _)).row.own (by omega) (HH.out.on (below_drewN hbW.out _)).old.size ?_
       ·rfl
       ·rfl
       ·rfl
       ·rfl
       intro g1 cap1 w4 ho4 hg4 hat4 hlt4;have hcap:ps.length+1≤cap1:=(qhG ho4).1;have hcap2:cap1≤maxLen:=(qhG ho4).2;unfold maxLen at hcap2;have HO4d:Hid (World.ownsRow w4.drew _ _ _ _ _ _):=ho4.drew;have HG4:Hid (World.grownBy _ w4.drew _):=qci hg4 (Below.refl _ _).drew;have HAT:Hid _:=hat4;have HONE:Hid (∀u∈qau (ps++[e0]),u.oneCell'=true):=HH.out.row.one1;clear ho4 hg4 hat4;have j1:(0:Int)≤(j:Int)+1:=by omega
       have j2:(j:Int)+1≤(ps.length:Int)+1:=by omega
       have j3:IntKind.i64.wrap ((j:Int)+1)=(j:Int)+1:=by rw[IntWalk.i64_left,IntWalk.wrap64_in _ ⟨by omega,by omega⟩]
       have j4:((j:Int)+1).toNat=j+1:=by omega
       have j5:(j:Int)≤(ps.length:Int)+1:=by omega
       have j6:cap1≠j:=by omega
       have j7:Hid (j<ps.length→(if cap1=j+1 then (some ⟨g1,0,none⟩:Option Addr) else some ⟨g1,(j+1)*3,none⟩)=some ⟨g1,(j+1)*3,none⟩):=fun h=>if_neg (by omega)
       go_wp2
       go_region_law (refine qgJ (by rfl) (.tmp 66) (.tmp 69) (by rfl) (if cap1=j+1 then some ⟨g1,0,none⟩ else some ⟨g1,(j+1)*3,none⟩) (some ⟨g1,j*3,none⟩) (ps.length-j) (cap1-(j+1)) (ps.length+1-j) (cap1-j) (by go_simp) (by go_simp) w0.heap.size g1 ps.length cap1 j (ps++[e0]) HO4d.out (by simp) hj rfl rfl j7.out (fun _=>rfl) HONE.out ?_;intro w5 ho5 hg5)
       generalize (if cap1=j+1 then (some ⟨g1,0,none⟩:Option Addr) else some ⟨g1,(j+1)*3,none⟩)=dp at *;obtain⟨hK5,hH5⟩:=Held.inserted (HH.out.on (below_drewN hbW.out _)) rfl hj HG4.out HAT.out ho5.out hg5.out (kk,kn);have HH5:Hid (Held w0 BK gk ck K (((w5.setCell ⟨g1,j*3,none⟩ (.int .i64 kk)).setCell ⟨g1,j*3+1,none⟩ (.string ⟨kn.toArray⟩)).setCell ⟨g1,j*3+2,none⟩ (.slice none 0 0)) (.slice (some ⟨g1,0,none⟩) (ps.length+1) cap1) (ps.take j++(⟨(kk,kn),[]⟩,.slice none 0 0)::ps.drop j)):=hH5;obtain⟨r0,r1,r2⟩:=qcO hK5 hlk (by have:=qdk K k hlk;rw[HKK.out]at this;exact this);have hRl:j<((ps++[e0]).take (j+1)++((ps++[e0]).drop j).take (ps.length-j)).length:=by simp;omega
       obtain⟨t0,t1,t2⟩:=qcO ho5.out (by omega) (qb6 _ j hRl);have f5:=World.ownsRow.frozenAt ho5.out;generalize ((ps++[e0]).take (j+1)++((ps++[e0]).drop j).take (ps.length-j))[j]=ee at t0 t1 t2;have i6:(j:Int)<(ps.length:Int)+1:=by omega
       clear hK5 hH5 ho5 hg5 HG4 HO4d HAT HONE j7 hRl
       go_wp2_with (at_builtin;refine Hid.out ?_)
       clear t0 t1 t2 f5 r0 r1 r2;have hs6:(((w5.setCell ⟨g1,j*3,none⟩ (.int .i64 kk)).setCell ⟨g1,j*3+1,none⟩ (.string ⟨kn.toArray⟩)).setCell ⟨g1,j*3+2,none⟩ (.slice none 0 0)).heap.size=w5.heap.size:=by simp[World.setCell]
       generalize hW6:((w5.setCell ⟨g1,j*3,none⟩ (.int .i64 kk)).setCell ⟨g1,j*3+1,none⟩ (.string ⟨kn.toArray⟩)).setCell ⟨g1,j*3+2,none⟩ (.slice none 0 0)=W6 at *;clear hW6;have HE3:Hid (∃h:j<(ps.take j++(⟨(kk,kn),[]⟩,.slice none 0 0)::ps.drop j).length,(ps.take j++((⟨(kk,kn),[]⟩,.slice none 0 0):EP)::ps.drop j)[j]=(⟨(kk,kn),[]⟩,.slice none 0 0)):=⟨by simp;omega,ins_at hj⟩
       have HP3:Hid (∀z:Value,((ps.take j++(⟨(kk,kn),[]⟩,.slice none 0 0)::ps.drop j).set j (⟨(kk,kn),[]++[n]⟩,z)).map (·.1)=Pl.put1 (kk,kn) n (ps.map (·.1))):=fun z=>Pl.qik hj hless.out (fun h=>absurd h hjl) _ z
       generalize ps.take j++(⟨(kk,kn),[]⟩,.slice none 0 0)::ps.drop j=ps3 at *;obtain⟨hj3,he3⟩:=HE3.out;have hint:=HH5.out.row.ints ps3[j] (List.getElem_mem hj3);rw[he3]at hint;dsimp only at hint;have HINT:Hid (World.ownsRow _ _ _ _ _ _ _):=hint;have HE4:Hid (ps3[j]=(⟨(kk,kn),[]⟩,.slice none 0 0)):=he3;clear he3 hint HE3;unfold Hid;refine qei (B:=w0.heap.size) (w2:=W6) (v:=.slice none 0 0) (l:=[]) (n:=n) ?_ (.tmp 84) (.tmp 86) ?_ ?_ ?_ HINT.out (by simp) HH5.out.old.size ?_
       ·rfl
       ·rfl
       ·rfl
       ·first|rfl|(simp[Act.eval,hs6];done)
       clear hs6;intro g7 cap7 w7 ho7 hg7 hat7 hlt7;obtain⟨⟨u7,z7⟩,f7,hH7⟩:=HH5.out.placed hj3 HE4.out rfl ho7 hg7 hat7;have HH7:Hid (Held w0 BK gk ck K _ _ _):=hH7;clear ho7 hg7 hat7 hlt7 hH7;go_wp2;exact⟨⟨k+1,by omega,by go_num,_,HH7,by unfold Hid;rw[HNX2.out,←HMP.out];exact HP3.out _⟩,by simp[intOf];omega⟩
    ·have hkl:k=K.length:=by omega
     subst hkl;go_wp2;exact⟨⟨n+1,hlt,by go_num,ps,HH.out.row,by unfold Hid;rw[HNX.out,HMP.out,List.take_length],HH.out.old⟩,by simp[intOf];omega⟩
  ·have hnl:n=ns.length:=by omega
   subst hnl;go_wp2;go_ret;exact⟨_,ps,rfl,by rw[←hz0.out];exact hrow.out,hmap.out,hBr⟩
end Go.Proofs.YtephhllfodlfbaaGreatDoor
