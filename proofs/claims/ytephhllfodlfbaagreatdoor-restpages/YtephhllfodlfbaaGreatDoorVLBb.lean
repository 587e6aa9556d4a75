/-
  plain.Plain's answer lies in memory of its own, that may be stored over.
-/
import Derived.Test.YtephhllfodlfbaaGreatDoorStU
import Derived.Test.YtephhllfodlfbaaGreatDoorSpB
set_option maxRecDepth 100000
set_option maxHeartbeats 16000000
namespace Go.Proofs.YtephhllfodlfbaaGreatDoor
open Go.RowKit
def KLift (F:List Nat→Kd):Prop:=∀X Y w w' v,Incl w w'→(∀b∈X,∀o u,w.cell? ⟨b,o,none⟩≠some u)→F Y w v→F (Y++X) w' v
theorem kStr.lift:KLift fun _=>kStr:=fun _ _ _ _ _ _ _ h=>h
theorem kInt.lift:KLift fun _=>kInt:=fun _ _ _ _ _ _ _ h=>h
theorem kSl.lift:KLift fun _=>kSl:=fun _ _ _ _ _ _ _ h=>h
theorem qfD {w w':World}{b o:Nat}{u:Value}(h:Soft w b)(hc:w.cell? ⟨b,o,none⟩=some u)(hi:Incl w w'):Soft w' b:=by
 obtain⟨cs,t,hb⟩:=h;refine⟨cs,t,hi b _ hb ?_⟩;intro e;injection e with e1;subst e1;unfold World.cell? at hc;simp[hb]at hc
theorem kRow.lift {n k:Nat}{F:List Nat→Nat→Kd}(hk:0<k)(hF:∀j,KLift fun X=>F X j):KLift fun X=>kRow n k F X:=by
 rintro X Y w w' v hi hX ⟨a,l,c,rfl,hmx,h⟩;refine⟨a,l,c,rfl,hmx,?_⟩
 by_cases hl:l=0
 ·exact Or.inl hl
 rcases h with h|⟨b,o,ha,hn,hx,hsf,hc⟩
 ·exact Or.inl h
 ·obtain⟨u0,h0,_⟩:=hc 0 (by omega) 0 hk;refine Or.inr ⟨b,o,ha,hn,?_,qfD hsf h0 hi,fun i hi2 j hj=>?_⟩
  ·intro hm
   rcases List.mem_append.1 hm with hm|hm
   ·exact hx hm
   ·exact hX b hm _ _ h0
  ·obtain⟨u,hu,hf⟩:=hc i hi2 j hj;exact⟨u,hi.cell hu,hF j X (b::Y) w w' u hi hX hf⟩
theorem kInts.lift {n:Nat}:KLift fun _=>kArr n 1 fun _=>kInt:=by
 rintro X Y w w' v hi hX ⟨a,l,c,rfl,hmx,h⟩;refine⟨a,l,c,rfl,hmx,?_⟩
 by_cases hl:l=0
 ·exact Or.inl hl
 rcases h with h|⟨b,o,ha,hn,hsf,hc⟩
 ·exact Or.inl h
 ·obtain⟨u0,h0,_⟩:=hc 0 (by omega) 0 (by omega);refine Or.inr ⟨b,o,ha,hn,qfD hsf h0 hi,fun i hi2 j hj=>?_⟩;obtain⟨u,hu,hf⟩:=hc i hi2 j hj;exact⟨u,hi.cell hu,hf⟩
theorem teK.lift:∀j,KLift fun X=>teK 0 X j
 | 0=>kInt.lift
 | 1=>kStr.lift
 | 2=>kStr.lift
 | 3=>kInt.lift
 | 4=>kInt.lift
 | 5=>kRow.lift (by omega) fun _=>kSl.lift
 | _+6=>kSl.lift
theorem spK.lift:∀j,KLift fun X=>spK 0 X j
 | 0=>kStr.lift
 | 1=>kRow.lift (by omega) teK.lift
 | _+2=>kSl.lift
theorem paK.lift:∀j,KLift fun X=>paK 0 X j
 | 0=>kRow.lift (by omega) spK.lift
 | 1=>kInts.lift
 | _+2=>kSl.lift
theorem own_k {w:World}{B:Nat}{e:TypeId}{k:Nat}{v:Value}{n:Nat}{xs:List Value}{F:List Nat→Nat→Kd}(h:w.ownsRow B e k v n xs)(hF:∀g,v.ownBlock=some g→∀i,i<n→∀j,j<k→∃u,((xs.drop (i*k)).take k)[j]? =some u∧F [g] j w u):kRow 0 k F [] w v:=by
 rcases id h.2 with ⟨rfl,h0⟩|⟨g,cap,cur,rfl,hB,hg,hc1,hc2,_⟩
 ·exact kRow.nil _ _ _ _ _
 ·refine⟨_,_,cap,rfl,Nat.le_trans hc1 hc2,Or.inr ⟨g,0,rfl,Nat.zero_le _,by simp,⟨cur,e,hg⟩,fun i hi j hj=>?_⟩⟩;obtain⟨u,hu,hf⟩:=hF g rfl i hi j hj;rw[List.getElem?_take,if_pos hj,List.getElem?_drop]at hu
  have hlt:i*k+j<n*k:=by
   have h1:(i+1)*k≤n*k:=Nat.mul_le_mul_right k hi;rw[Nat.add_mul,Nat.one_mul]at h1;omega
  rw[Nat.zero_add];exact⟨u,(World.ownsRow.cellAt h (i*k+j) hlt).trans hu,hf⟩
theorem mask_no {Q:Nat→Bool}{w:World}{g:Nat}(h:Q g=false):∀b∈[g],∀o u,(mask Q w).cell? ⟨b,o,none⟩≠some u:=by
 intro b hb o u hc;obtain rfl:=List.mem_singleton.1 hb;have:=(qah.1 hc).1;rw[h]at this
 cases this
theorem off_own {P:Nat→Bool}{v:Value}{g:Nat}(h:v.ownBlock=some g):Off P v g=false:=by
 unfold Off;simp[h]
theorem Grow.k {β:Type}{P:Nat→Bool}{B:Nat}{e:TypeId}{k:Nat}{V:World→List Value→β→Prop}{w:World}{v:Value}{l:List β}{F:List Nat→Nat→Kd}(h:Grow P B e k V w v l)(hs:∀j,KLift fun X=>F X j)(hF:∀W c x,V W c x→∀j,j<k→∃u,c[j]? =some u∧F [] j W u):kRow 0 k F [] w v:=by
 obtain⟨xs,ho,_,hv⟩:=h;refine own_k ho fun g hg i hi j hj=>?_
 obtain⟨u,hu,hf⟩:=hF _ _ _ (hv i hi) j hj;exact⟨u,hu,hs j [g] [] _ _ _ (qav _ _) (mask_no (off_own hg)) hf⟩
theorem qa4.k {β:Type}{P:Nat→Bool}{B:Nat}{e:TypeId}{k:Nat}{V:World→List Value→β→Prop}{w:World}{v:Value}{l:List β}{F:List Nat→Nat→Kd}(h:qa4 P B e k V w v l)(hs:∀j,KLift fun X=>F X j)(hF:∀W c x,V W c x→∀j,j<k→∃u,c[j]? =some u∧F [] j W u):kRow 0 k F [] w v:=by
 obtain⟨own,xs,ho,_,hv⟩:=h;refine own_k ho fun g hg i hi j hj=>?_
 obtain⟨u,hu,hf⟩:=hF _ _ _ (hv i hi) j hj;exact⟨u,hu,hs j [g] [] _ _ _ (qav _ _) (mask_no (by rw[off_own hg];rfl)) hf⟩
theorem ints_k {w:World}{v:Value}{l:List Int}(h:qaf IntS 1 w v l):kArr 0 1 (fun _=>kInt) w v:=by
 obtain⟨a,c,rfl,hcc,h⟩:=h;refine⟨a,_,c,rfl,Nat.le_trans hcc.1 hcc.2,?_⟩
 by_cases hl:l.length=0
 ·exact Or.inl hl
 rcases h with h|⟨b,o,ha,hc⟩
 ·exact Or.inl (by rw[h];rfl)
 ·refine Or.inr ⟨b,o,ha,Nat.zero_le _,(hc 0 (by omega)).2,fun i hi j hj=>?_⟩;obtain rfl:j=0:=by omega
  exact⟨_,(hc i hi).1,⟨_,rfl⟩⟩
section
variable {α:Type}
theorem lst_k {A:MemL α}{w:World}{v:Value}{l:List (Pl.Pth α)}(h:Str A w v l):kRow 0 2 (fun _ _=>kSl) [] w v:=by
 obtain⟨⟨a,c,e,hc1,hc2⟩,h⟩:=h
 rcases h with h|⟨B,h⟩
 ·exact⟨a,_,c,e,Nat.le_trans hc1 hc2,Or.inl (by rw[h];rfl)⟩
 ·refine qa4.k h (fun _=>kSl.lift) fun W cs x hx j hj=>?_
  obtain⟨u0,u1,B',rfl,h0,h1⟩:=hx;obtain⟨a0,c0,e0⟩:=qa4.form h0;obtain⟨a1,c1,e1⟩:=qaf.form h1;have e:j=0∨j=1:=by omega
  rcases e with rfl|rfl
  ·exact⟨_,rfl,_,_,_,e0⟩
  ·exact⟨_,rfl,_,_,_,e1⟩
theorem test_k {A:MemL (Pl.Pth α)}(hA:∀W v l,A W v l→kRow 0 2 (fun _ _=>kSl) [] W v)(W:World)(c:List Value)(t:Pl.Tst (Pl.Pth α))(h:VT A W c t)(j:Nat)(hj:j<6):∃u,c[j]? =some u∧teK 0 [] j W u:=by
 obtain⟨v,rfl,h⟩:=h;have e:j=0∨j=1∨j=2∨j=3∨j=4∨j=5:=by omega
 rcases e with rfl|rfl|rfl|rfl|rfl|rfl
 ·exact⟨_,rfl,_,rfl⟩
 ·exact⟨_,rfl,_,rfl⟩
 ·exact⟨_,rfl,_,rfl⟩
 ·exact⟨_,rfl,_,rfl⟩
 ·exact⟨_,rfl,_,rfl⟩
 ·exact⟨_,rfl,hA _ _ _ h⟩
theorem step_k {A:MemL (Pl.Pth α)}(hA:∀W v l,A W v l→kRow 0 2 (fun _ _=>kSl) [] W v)(W:World)(c:List Value)(s:Pl.Stp (Pl.Pth α))(h:VSd A W c s)(j:Nat)(hj:j<2):∃u,c[j]? =some u∧spK 0 [] j W u:=by
 obtain⟨v,B,rfl,h⟩:=h;have e:j=0∨j=1:=by omega
 rcases e with rfl|rfl
 ·exact⟨_,rfl,_,rfl⟩
 ·exact⟨_,rfl,Grow.k h teK.lift (test_k hA)⟩
theorem path_k {A:MemL (Pl.Pth α)}(hA:∀W v l,A W v l→kRow 0 2 (fun _ _=>kSl) [] W v)(W:World)(c:List Value)(p:Pl.Pth (Pl.Pth α))(h:VPd A W c p)(j:Nat)(hj:j<2):∃u,c[j]? =some u∧paK 0 [] j W u:=by
 obtain⟨v,u,B,rfl,h,h2⟩:=h;have e:j=0∨j=1:=by omega
 rcases e with rfl|rfl
 ·exact⟨_,rfl,qa4.k h spK.lift (step_k hA)⟩
 ·exact⟨_,rfl,kInts.lift [] [] _ _ _ (qav _ _) (by simp) (ints_k h2)⟩
end
theorem ls_k {w:World}{v:Value}{l:List Pl.D3}(h:S3 w v l):lsK 0 w v:=by
 obtain⟨⟨a,c,e,hc1,hc2⟩,h⟩:=h
 rcases h with h|⟨B,h⟩
 ·exact⟨a,_,c,e,Nat.le_trans hc1 hc2,Or.inl (by rw[h];rfl)⟩
 ·exact qa4.k h paK.lift (path_k fun W v l hl=>lst_k hl)
theorem kRow.up {n k:Nat}{w:World}{X:List Nat}{F G:List Nat→Nat→Kd}(hk:0<k)(hF:∀X j u,F X j (mask (frm n) w) u→G X j w u){v:Value}(h:kRow 0 k F X (mask (frm n) w) v):kRow n k G X w v:=by
 obtain⟨a,l,c,rfl,hmx,h⟩:=h;refine⟨a,l,c,rfl,hmx,?_⟩
 by_cases hl:l=0
 ·exact Or.inl hl
 rcases h with h|⟨b,o,ha,hn,hx,hsf,hc⟩
 ·exact Or.inl h
 ·obtain⟨u0,h0,_⟩:=hc 0 (by omega) 0 hk;have hb:=(qah.1 h0).1;simp only[frm,decide_eq_true_eq]at hb;refine Or.inr ⟨b,o,ha,hb,hx,qfD hsf h0 (qav _ _),fun i hi2 j hj=>?_⟩;obtain⟨u,hu,hf⟩:=hc i hi2 j hj;exact⟨u,(qah.1 hu).2,hF _ j u hf⟩
theorem kInts.up {n:Nat}{w:World}{v:Value}(h:kArr 0 1 (fun _=>kInt) (mask (frm n) w) v):kArr n 1 (fun _=>kInt) w v:=by
 obtain⟨a,l,c,rfl,hmx,h⟩:=h;refine⟨a,l,c,rfl,hmx,?_⟩
 by_cases hl:l=0
 ·exact Or.inl hl
 rcases h with h|⟨b,o,ha,hn,hsf,hc⟩
 ·exact Or.inl h
 ·obtain⟨u0,h0,_⟩:=hc 0 (by omega) 0 (by omega);have hb:=(qah.1 h0).1;simp only[frm,decide_eq_true_eq]at hb;refine Or.inr ⟨b,o,ha,hb,qfD hsf h0 (qav _ _),fun i hi2 j hj=>?_⟩;obtain⟨u,hu,hf⟩:=hc i hi2 j hj;exact⟨u,(qah.1 hu).2,hf⟩
theorem lsK.up {n:Nat}{w:World}{v:Value}(h:lsK 0 (mask (frm n) w) v):lsK n w v:=by
 refine kRow.up (by omega) (fun X j u hu=>?_) h
 match j,hu with
 | 0,hu=>
  refine kRow.up (by omega) (fun X j u hu=>?_) hu
  match j,hu with
  | 0,hu=>exact hu
  | 1,hu=>
   refine kRow.up (by omega) (fun X j u hu=>?_) hu
   match j,hu with
   | 0,hu=>exact hu
   | 1,hu=>exact hu
   | 2,hu=>exact hu
   | 3,hu=>exact hu
   | 4,hu=>exact hu
   | 5,hu=>exact kRow.up (k:=2) (F:=fun _ _=>kSl) (G:=fun _ _=>kSl) (by omega) (fun _ _ _ h=>h) (show kRow 0 2 (fun _ _=>kSl) X (mask (frm n) w) u from hu)
   | _+6,hu=>exact hu
  | _+2,hu=>exact hu
 | 1,hu=>exact kInts.up hu
 | _+2,hu=>exact hu
theorem qiv (w:World)(v:Value)(l:List Pl.D3)(h:A3 w v l)(hF:qaL w):Calls Tryz.prog 15 #[v] w fun e w'=>∃a c,e=.returned (.tuple #[.slice a (qbL l).length c,.int .i64 (qbs l)])∧A3 w' (.slice a (qbL l).length c) (qbL l)∧lsK w.heap.size w' (.slice a (qbL l).length c)∧Below w.heap.size w w':=by
 refine(qgz w v l h hF).mono ?_;rintro e w' ⟨a,c,rfl,hs,hb⟩;exact⟨a,c,rfl,weak_3 (sub_3.sub hs (qav _ _)),lsK.up (ls_k hs),hb⟩
theorem ref_idx {ns:List Pl.Nd}{ps:List EP}(hc:Pl.qad ns=0)(hm:ps.map (·.1)=Pl.qb8 ns ns.length):ps.map (fun p=>Pl.erOf p.1)=Pl.qaq ns:=by
 unfold Pl.qaq;rw[if_pos hc,←hm,List.map_map];rfl
theorem qek {l:List Pl.Er}{ns:List Pl.Nd}{B:Nat}{w:World}{v v1:Value}{ps:List EP}{b:Bool}(hc:Pl.qad ns=0)(hrow:ERow B w v ps)(hm:ps.map (·.1)=Pl.qb8 ns ns.length)(h1:qbl w v1 l)(hl:qcI l)(hb:qco l (Pl.qaq ns)=b):
 Calls Tryz.prog 32 #[v1,v] w fun e w'=>e=.returned (.bool b)∧Below w.heap.size w w':=by
 have h2:=hrow.ens;rw[ref_idx hc hm]at h2;refine(qdB v1 v l (Pl.qaq ns) w hl.1 hl.2 h1 h2).mono ?_;rintro e w' ⟨rfl,hd⟩;exact⟨by rw[hb],hd.below⟩
theorem pair_on {w W w':World}{p0 p1:Addr}{v0 v1:Value}(h:W.cell? p0=some v0∧W.cell? p1=some v1∧Below w.heap.size w W)(hb:Below W.heap.size W w'):w'.cell? p0=some v0∧w'.cell? p1=some v1∧Below w.heap.size w w':=⟨qab hb h.1,qab hb h.2.1,qaa h.2.2 hb⟩
theorem qdd {w W:World}{p0 p1:Addr}{v0 v1:Value}(h:W.cell? p0=some v0∧W.cell? p1=some v1∧Below w.heap.size w W):Below w.heap.size w W:=h.2.2
theorem qdr (v:Value)(ns:List Pl.Nd)(l:List Pl.Er)(w:World)(hp:PgAt w v ns l)(hl:qcI l):
 Calls Tryz.prog 20 #[v] w fun e w'=>e=.returned (.int .i64 (qaw ns l))∧Below w.heap.size w w':=by
 obtain⟨a,c,a2,c2,rfl,hd,he⟩:=hp;have hb0:=qac w (.cells #[.slice a ns.length c,.slice a2 l.length c2] 32);have bS:=Blk2.new w (.slice a ns.length c) (.slice a2 l.length c2);have HB0:Hid (Below _ _ _):=hb0;have HBS:Hid (Blk2 _ _ _ _):=bS;have HE:Hid (∀W,Below w.heap.size w W→qbl W (.slice a2 l.length c2) l):=fun W hW=>he.on hW
 have HL:Hid (qcI _):=hl;obtain⟨⟨s0,s1⟩,_⟩:=bS.facts;have hchk:=qdR (.slice a ns.length c) ns _ hd.2.2 (hd.1.on hb0);have HCHK:Hid (Calls Tryz.prog 56 _ _ _):=hchk
 cases hc:(Pl.qad ns !=0) with
 | true=>
  have HA:Hid (qaw ns l=Pl.qad ns):=by
   have:¬Pl.qad ns=0:=by simpa using hc
   unfold Hid qaw;rw[if_neg this]
  clear hd he hb0 bS hchk;generalize Pl.qad ns=r at *;go_enter Tryz.func20,Tryz.ntmps20
  go_wp2_with fail
  refine HCHK.out.mono ?_;rintro e w1 ⟨rfl,hb1⟩;have HB1:Hid (Below w.heap.size w w1):=qaa HB0.out hb1;clear hb1;go_wp2;go_ret;exact⟨by rw[HA.out];rfl,HB1.out⟩
 | false=>
  have hc0:Pl.qad ns=0:=by simpa using hc
  have HC0:Hid (Pl.qad ns=0):=hc0;obtain⟨h1n,h64,_⟩:=qa9 hc0;have HSH:Hid (∀x∈ns,x.cls.length≤6):=fun x hx=>(qa6 hc0 x hx).1
  obtain⟨a',c',e2,hnil|⟨b,o,ha,hcell⟩⟩:=hd.1
  ·subst hnil;simp at h1n
  injection e2 with q1 _ q3;subst q1 q3 ha;have HC:Hid (∀W,Below w.heap.size w W→∀i (h:i<ns.length),NdAt W b (o+i*5) ns[i]):=fun W hW i hi=>(hcell i hi).on hW
  rw[hc0]at HCHK;clear hd he hb0 bS hchk hcell hc0 hc;obtain⟨bb,hbb⟩:∃bb,qco l (Pl.qaq ns)=bb:=⟨_,rfl⟩
  have HBB:Hid _:=hbb
  have HA:Hid (qaw ns l=if bb=true then 0 else 1):=by
   unfold Hid qaw;rw[if_pos HC0.out,←hbb]
   by_cases h:l=Pl.qaq ns
   ·rw[if_pos h,if_pos (show qco l (Pl.qaq ns)=true from decide_eq_true h)]
   ·rw[if_neg h,if_neg (by unfold qco;rw[decide_eq_false h];simp)]
  clear hbb;go_enter Tryz.func20,Tryz.ntmps20
  go_wp2_with fail
  generalize w.alloc (.cells #[.slice (some ⟨b,o,none⟩) ns.length c,.slice a2 l.length c2] 32)=w0 at *;refine HCHK.out.mono ?_;rintro e w1 ⟨rfl,hb1⟩;have hB1:Below w.heap.size w w1:=qaa HB0.out hb1;obtain⟨⟨t0,t1⟩,_⟩:=(Blk2.on HBS.out hb1).facts;have S0:w1.drew.cell? ⟨w.heap.size,0,none⟩=some (.slice (some ⟨b,o,none⟩) ns.length c)∧w1.drew.cell? ⟨w.heap.size,1,none⟩=some (.slice a2 l.length c2)∧Below w.heap.size w w1.drew:=⟨t0,t1,hB1.drew⟩
  clear hb1 hB1 t0 t1 s0 s1
  cases bb with
  | true=>
   go_wp2
   go_region_held3 (fun w'=>w'.cell? ⟨w.heap.size,0,none⟩=some (.slice (some ⟨b,o,none⟩) ns.length c)∧w'.cell? ⟨w.heap.size,1,none⟩=some (.slice a2 l.length c2)∧Below w.heap.size w w')
    (first|with_reducible assumption|exact pair_on (by with_reducible assumption) (by with_reducible assumption))
    (first|(go_at_call 23;refine(qdM b o c ns _ h64 HSH.out (HC.out _ (qdd (by with_reducible assumption)))).mono ?_;rintro e w' ⟨u,ps,rfl,hrow,hmp,hw⟩;obtain⟨au,cu,rfl⟩:=hrow.form)|(go_at_call 32;refine(qek HC0.out hrow hmp (HE.out _ (qdd (by with_reducible assumption))) HL.out HBB.out).mono ?_;rintro e w' ⟨rfl,hw⟩))
   have HB5:=qdd (by with_reducible assumption);go_wp2;go_ret;exact⟨by rw[HA.out];rfl,HB5⟩
  | false=>
   go_wp2
   go_region_held3 (fun w'=>w'.cell? ⟨w.heap.size,0,none⟩=some (.slice (some ⟨b,o,none⟩) ns.length c)∧w'.cell? ⟨w.heap.size,1,none⟩=some (.slice a2 l.length c2)∧Below w.heap.size w w')
    (first|with_reducible assumption|exact pair_on (by with_reducible assumption) (by with_reducible assumption))
    (first|(go_at_call 23;refine(qdM b o c ns _ h64 HSH.out (HC.out _ (qdd (by with_reducible assumption)))).mono ?_;rintro e w' ⟨u,ps,rfl,hrow,hmp,hw⟩;obtain⟨au,cu,rfl⟩:=hrow.form)|(go_at_call 32;refine(qek HC0.out hrow hmp (HE.out _ (qdd (by with_reducible assumption))) HL.out HBB.out).mono ?_;rintro e w' ⟨rfl,hw⟩))
   have HB5:=qdd (by with_reducible assumption);go_wp2;go_ret;exact⟨by rw[HA.out];rfl,HB5⟩
theorem PgAt.box2 {w:World}{N m k:Nat}{ns:List Pl.Nd}{l:List Pl.Er}{a a2 a3 a4:Option Addr}{c c2 l3 c3 l4 c4:Nat}(h1:qar w (.slice a k c) ns)(h2:qbl w (.slice a2 m c2) l)(hb:Blk2 w N (.slice a3 l3 c3) (.slice a4 l4 c4)):
 PgAt ((w.setCell ⟨N,0,none⟩ (.slice a k c)).setCell ⟨N,1,none⟩ (.slice a2 m c2)) (.agg #[.slice a k c,.slice a2 m c2]) ns l∧
  Blk2 ((w.setCell ⟨N,0,none⟩ (.slice a k c)).setCell ⟨N,1,none⟩ (.slice a2 m c2)) N (.slice a k c) (.slice a2 m c2):=by
 obtain⟨_,_,e1⟩:=h1.form;obtain⟨_,_,e2⟩:=h2.form;injection e1 with _ e1 _;injection e2 with _ e2 _;subst e1 e2;exact PgAt.box h1 h2 hb
def PoSays (err:Int)(ns:List Pl.Nd)(w:World)(e:Ending)(w':World):Prop:=
 ∃v,e=.returned (.tuple #[v,.int .i64 err])∧PgAt w' v (if err=0 then ns else []) (if err=0 then Pl.qaq ns else [])∧Below w.heap.size w w'
theorem one_on {w W w':World}{p0:Addr}{v0:Value}{N:Nat}{c0 c1:Value}(h:W.cell? p0=some v0∧Blk2 W N c0 c1∧Below w.heap.size w W)(hb:Below W.heap.size W w'):w'.cell? p0=some v0∧Blk2 w' N c0 c1∧Below w.heap.size w w':=⟨qab hb h.1,h.2.1.on hb,qaa h.2.2 hb⟩
theorem qfm (v1 v2:Value)(ns:List Pl.Nd)(l:List Pl.Er)(w:World)(h1:PgAt w v1 ns l)(h2:PgAt w v2 ns l)(hl:qcI l):
 Calls Tryz.prog 27 #[v1,v2] w fun e w'=>e=.returned (.bool true)∧Below w.heap.size w w':=by
 obtain⟨a,c,a2,c2,rfl,hd,he⟩:=h1;obtain⟨a',c',a2',c2',rfl,hd',he'⟩:=h2;have hb0:=boxes w (.cells #[.slice a ns.length c,.slice a2 l.length c2] 32) (.cells #[.slice a' ns.length c',.slice a2' l.length c2'] 32);have b1:Blk2 ((w.alloc (.cells #[.slice a ns.length c,.slice a2 l.length c2] 32)).alloc (.cells #[.slice a' ns.length c',.slice a2' l.length c2'] 32)) w.heap.size (.slice a ns.length c) (.slice a2 l.length c2):=(Blk2.new w _ _).on (qac _ _)
 have b2:Blk2 ((w.alloc (.cells #[.slice a ns.length c,.slice a2 l.length c2] 32)).alloc (.cells #[.slice a' ns.length c',.slice a2' l.length c2'] 32)) (w.heap.size+1) (.slice a' ns.length c') (.slice a2' l.length c2'):=by
  have:=Blk2.new (w.alloc (.cells #[.slice a ns.length c,.slice a2 l.length c2] 32)) (.slice a' ns.length c') (.slice a2' l.length c2')
  simpa using this
 have HD1:Hid (qar _ _ _):=hd.on hb0;have HD2:Hid (qar _ _ _):=hd'.on hb0;have HE1:Hid (qbl _ _ _):=he.on hb0;have HE2:Hid (qbl _ _ _):=he'.on hb0;have HB0:Hid (Below _ _ _):=hb0;have HBL1:Hid (Blk2 _ _ _ _):=b1;have HBL2:Hid (Blk2 _ _ _ _):=b2;obtain⟨⟨s0,s1⟩,_⟩:=b1.facts;obtain⟨⟨t0,t1⟩,_⟩:=b2.facts;clear hd hd' he he' hb0 b1 b2;go_enter Tryz.func27,Tryz.ntmps27
 go_wp2_with fail
 generalize (w.alloc (.cells #[.slice a ns.length c,.slice a2 l.length c2] 32)).alloc (.cells #[.slice a' ns.length c',.slice a2' l.length c2'] 32)=w0 at *;refine(qiW _ _ ns _ HD1.out HD2.out).mono ?_;rintro e w1 ⟨rfl,hb1⟩;have HB1:Hid (Below w.heap.size w w1):=qaa HB0.out hb1;have HE1':Hid (qbl _ _ _):=qbl.on HE1.out hb1;have HE2':Hid (qbl _ _ _):=qbl.on HE2.out hb1;obtain⟨⟨u0,u1⟩,_⟩:=(Blk2.on HBL1.out hb1).facts;obtain⟨⟨x0,x1⟩,_⟩:=(Blk2.on HBL2.out hb1).facts;clear hb1 s0 s1 t0 t1;have hcon:=qdB _ _ l l w1 hl.1 hl.2 HE1'.out HE2'.out;rw[show qco l l=true from decide_eq_true rfl]at hcon;have HCON:Hid (Calls Tryz.prog 32 _ _ _):=hcon;clear hcon
 go_wp2_with fail
 refine HCON.out.mono ?_;rintro e w2 ⟨rfl,hd2⟩;have HB2:Hid (Below w.heap.size w w2):=qaa HB1.out hd2.below;clear hd2;go_wp2;go_ret;exact⟨rfl,HB2.out⟩
theorem pageOf_err (v:Value)(ns:List Pl.Nd)(err:Int)(w:World)(hd:qar w v ns)(he:(err !=0)=true):
 Calls Tryz.prog 25 #[.agg #[v],.int .i64 err] w fun e w'=>PoSays err ns w e w':=by
 obtain⟨a,c,rfl⟩:=hd.form;have hb0:=boxes w (.cells #[.slice a ns.length c] 24) (.cells #[.slice none 0 0,.slice none 0 0] 32);have HB0:Hid (Below _ _ _):=hb0;have hne:¬err=0:=by simpa using he
 clear hd hb0;have HN:Hid _:=hne;clear hne;go_enter Tryz.func25,Tryz.ntmps25;go_wp2
 exact bodyPost_ret (v:=.tuple #[.agg #[.slice none 0 0,.slice none 0 0],.int .i64 err]) (by simp[results,Tryz.results25,go_sem]) rfl
  ⟨_,rfl,by rw[if_neg HN.out,if_neg HN.out];exact PgAt.nil _,HB0.out⟩
theorem pageOf_ok (v:Value)(ns:List Pl.Nd)(w:World)(hd:qar w v ns)(hc:Pl.qad ns=0):
 Calls Tryz.prog 25 #[.agg #[v],.int .i64 0] w fun e w'=>PoSays 0 ns w e w':=by
 obtain⟨h1n,h64,_⟩:=qa9 hc;have HSH2:Hid (∀x∈ns,x.cls.length≤6∧x.ats.length≤4):=qa6 hc;have HSH:Hid (∀x∈ns,x.cls.length≤6):=fun x hx=>(qa6 hc x hx).1
 have HC0:Hid _:=hc;obtain⟨a,c,rfl⟩:=hd.form;obtain⟨a',c',e2,hnil|⟨b,o,ha,hcell⟩⟩:=hd.1
 ·subst hnil;simp at h1n
 injection e2 with q1 _ q3;subst q1 q3 ha;have HC:Hid (∀W,Below w.heap.size w W→∀i (h:i<ns.length),NdAt W b (o+i*5) ns[i]):=fun W hW i hi=>(hcell i hi).on hW
 have hb0:=boxes w (.cells #[.slice (some ⟨b,o,none⟩) ns.length c] 24) (.cells #[.slice none 0 0,.slice none 0 0] 32)
 have bR:Blk2 ((w.alloc (.cells #[.slice (some ⟨b,o,none⟩) ns.length c] 24)).alloc (.cells #[.slice none 0 0,.slice none 0 0] 32)) (w.heap.size+1) (.slice none 0 0) (.slice none 0 0):=by
  have:=Blk2.new (w.alloc (.cells #[.slice (some ⟨b,o,none⟩) ns.length c] 24)) (.slice none 0 0) (.slice none 0 0)
  simpa using this
 have bS:Blk1 ((w.alloc (.cells #[.slice (some ⟨b,o,none⟩) ns.length c] 24)).alloc (.cells #[.slice none 0 0,.slice none 0 0] 32)) w.heap.size (.slice (some ⟨b,o,none⟩) ns.length c):=(Blk1.new w _).on (qac _ _);have x0:=bS.facts.1;have S0:((w.alloc (.cells #[.slice (some ⟨b,o,none⟩) ns.length c] 24)).alloc (.cells #[.slice none 0 0,.slice none 0 0] 32)).drew.cell? ⟨w.heap.size,0,none⟩=some (.slice (some ⟨b,o,none⟩) ns.length c)∧Blk2 ((w.alloc (.cells #[.slice (some ⟨b,o,none⟩) ns.length c] 24)).alloc (.cells #[.slice none 0 0,.slice none 0 0] 32)).drew (w.heap.size+1) (.slice none 0 0) (.slice none 0 0)∧Below w.heap.size w ((w.alloc (.cells #[.slice (some ⟨b,o,none⟩) ns.length c] 24)).alloc (.cells #[.slice none 0 0,.slice none 0 0] 32)).drew:=⟨x0,bR,hb0.drew⟩
 clear hd hcell hb0 bR bS x0 hc;go_enter Tryz.func25,Tryz.ntmps25;go_wp2
 go_region_law (first|(go_simp;go_at_call 22;refine(qgv b o c ns _ h64 HSH2.out (HC.out _ S0.2.2)).mono ?_;rintro e w2 ⟨v2,rfl,hrow2,hb2⟩;obtain⟨a5,c5,e5,_⟩:=id hrow2.nds;subst e5;have S1:=one_on S0 hb2)|(go_simp;go_at_call 23;refine(qdM b o c ns _ h64 HSH.out (HC.out _ S1.2.2)).mono ?_;rintro e w3 ⟨u,ps,rfl,hrow,hmp,hw⟩;obtain⟨au,cu,rfl⟩:=hrow.form;have S2:=one_on S1 hw;obtain⟨⟨r0,r1⟩,fR⟩:=S2.2.1.facts))
 all_goals
  obtain⟨p1,p2⟩:=PgAt.box2 (qar.on (hrow2.doc h64 HSH2.out) hw) (ref_idx HC0.out hmp▸hrow.ens) S2.2.1;obtain⟨⟨q0,q1⟩,_⟩:=p2.facts;have HP1:Hid (PgAt _ _ _ _):=p1;have HQ0:Hid _:=q0;have HQ1:Hid _:=q1;have HB3:Hid (Below w.heap.size w w3):=S2.2.2;clear p1 p2 q0 q1 hrow2 hrow hmp S0 S1 S2 hb2 hw r0 r1 fR;go_wp2;have q0:=HQ0.out;have q1:=HQ1.out
  exact bodyPost_ret (v:=.tuple #[.agg #[.slice a5 ns.length c5,.slice au ps.length cu],.int .i64 0]) (by simp[results,Tryz.results25,go_sem,q0,q1]) rfl
   ⟨_,rfl,by rw[if_pos rfl,if_pos rfl];exact HP1.out,(HB3.out.setCell (p:=⟨w.heap.size+1,0,none⟩) (by simp) _).setCell (p:=⟨w.heap.size+1,1,none⟩) (by simp) _⟩
theorem pageOf_any (v:Value)(ns:List Pl.Nd)(err:Int)(w:World)(hd:qar w v ns)(hc:err=0→Pl.qad ns=0):
 Calls Tryz.prog 25 #[.agg #[v],.int .i64 err] w fun e w'=>PoSays err ns w e w':=by
 by_cases he:err=0
 ·subst he;exact pageOf_ok v ns w hd (hc rfl)
 ·exact pageOf_err v ns err w hd (by simpa using he)
def nodeX1:Pl.Nd:=⟨-1,[120],[],[],[]⟩
def nodeY1:Pl.Nd:=⟨0,[121],[],[],[]⟩
def nsA:List Pl.Nd:=[⟨-1,[108,105,115,116],[116,111,112],[],[]⟩,⟨0,[105,116,101,109],[],[[97]],[]⟩,⟨0,[105,116,101,109],[],[[97]],[]⟩]
def nsB:List Pl.Nd:=[⟨-1,[108,105,115,116],[116,111,112],[],[]⟩,⟨0,[105,116,101,109],[],[[97]],[]⟩,⟨0,[105,116,101,109],[],[[97]],[]⟩,⟨0,[120],[],[],[]⟩]
def nsC:List Pl.Nd:=[⟨-1,[108,105,115,116],[116,111,112],[],[]⟩,⟨0,[105,116,101,109],[],[[97]],[]⟩,⟨0,[105,116,101,109],[],[[97]],[]⟩,⟨0,[121],[],[],[]⟩]
theorem a_err:qbz qaC 2=0:=by kernel_rfl
theorem a_of:qcc qaC 2=nsA:=by kernel_rfl
theorem b_err:qax nsA 0 2 [nodeX1]=0:=by kernel_rfl
theorem b_of:qaO nsA 0 2 [nodeX1]=nsB:=by kernel_rfl
theorem c_err:qcb nsB 3 nodeY1=0:=by kernel_rfl
theorem c_of:qcG nsB 3 nodeY1=nsC:=by kernel_rfl
theorem a_len:(Pl.qaq nsA).length=4:=by kernel_rfl
theorem b_len:(Pl.qaq nsB).length=5:=by kernel_rfl
theorem a_chk:Pl.qad nsA=0:=by rw[←a_of];exact rem_right a_err
theorem b_chk:Pl.qad nsB=0:=by rw[←b_of];exact qgd b_err
theorem c_chk:Pl.qad nsC=0:=by rw[←c_of];exact put_right c_err
theorem page_ok {ns:List Pl.Nd}(h:Pl.qad ns=0):qaw ns (Pl.qaq ns)=0:=by
 unfold qaw;rw[if_pos h,if_pos rfl]
theorem pg_ok {ms:List Pl.Nd}(h:Pl.qad ms=0):qd8 0 ms=0∧qd9 0 ms=ms∧qeb 0 ms=Pl.qaq ms:=by
 unfold qd8 qd9 qeb;simp[h]
theorem ch_ok {ns ms:List Pl.Nd}{E:Int}(h:Pl.qad ns=0)(hE:E=0)(hm:Pl.qad ms=0):qe8 (qaw ns (Pl.qaq ns)) E ms=0∧qeT (qaw ns (Pl.qaq ns)) E ms=ms∧qeZ (qaw ns (Pl.qaq ns)) E ms=Pl.qaq ms:=by
 unfold qe8 qeT qeZ;rw[page_ok h,hE,if_pos rfl,if_pos rfl,if_pos rfl];exact pg_ok hm
theorem s_chk:Pl.qad qaC=0:=by kernel_rfl
theorem s_at:qai qaC 0=0:=by kernel_rfl
theorem s_part:partOf qaC 0=qaC:=by kernel_rfl
theorem s_err:qd8 (qai qaC 0) (partOf qaC 0)=0:=by rw[s_at,s_part];unfold qd8;rw[if_pos rfl,s_chk]
theorem s_doc:qd9 (qai qaC 0) (partOf qaC 0)=qaC:=by rw[s_at,s_part];unfold qd9;rw[if_pos rfl,s_chk];rfl
theorem s_idx:qeb (qai qaC 0) (partOf qaC 0)=Pl.qaq qaC:=by rw[s_at,s_part];unfold qeb;rw[if_pos rfl]
theorem page_any (w:World):Calls Tryz.prog 31 #[] w fun e w'=>∃v,e=.returned v∧PgAt w' v qaC (Pl.qaq qaC)∧Below w.heap.size w w':=by
 have bR:=Blk2.new w (.slice none 0 0) (.slice none 0 0);have HB0:Hid (Below w.heap.size w (w.alloc (.cells #[.slice none 0 0,.slice none 0 0] 32))):=qac _ _;have HBR0:Hid (Blk2 _ _ _ _):=bR;clear bR;go_enter Tryz.func31,Tryz.ntmps31
 go_wp2_with fail
 generalize w.alloc (.cells #[.slice none 0 0,.slice none 0 0] 32)=w0 at *;refine(small_any _).mono ?_;rintro e w1 ⟨v1,rfl,hd1,hb1⟩;have HD1:Hid (qar _ _ _):=hd1;have HBR1:Hid (Blk2 _ _ _ _):=Blk2.on HBR0.out hb1;have HB1:Hid (Below w.heap.size w w1):=qaa HB0.out hb1;clear hd1 hb1 HBR0 HB0
 go_wp2_with fail
 refine(open_any _ qaC _ HD1.out).mono ?_;rintro e wy ⟨vz,rfl,hpz,hbz⟩;rw[s_err];rw[s_doc,s_idx]at hpz;obtain⟨a8,c8,a9,c9,rfl,hd8,he9⟩:=hpz;generalize hsm:qaC=S at *;generalize hI:Pl.qaq S=I at *;have hba:=qac wy (.cells #[.slice a8 S.length c8,.slice a9 I.length c9] 32);have HBz:Hid (Below w.heap.size w (wy.alloc (.cells #[.slice a8 S.length c8,.slice a9 I.length c9] 32))):=qaa (qaa HB1.out hbz) hba;have bRz:=Blk2.on (Blk2.on HBR1.out hbz) hba;obtain⟨⟨r0,r1⟩,fR⟩:=bRz.facts;obtain⟨p1,p2⟩:=PgAt.box (hd8.on hba) (he9.on hba) bRz;obtain⟨⟨q0,q1⟩,_⟩:=p2.facts;have HP1:Hid (PgAt _ _ _ _):=p1;have HQ0:Hid _:=q0;have HQ1:Hid _:=q1;clear p1 p2 q0 q1 hd8 he9 bRz hbz hba HD1 HBR1 HB1;have HS:Hid _:=hsm;have HI:Hid _:=hI;clear hsm hI;go_wp2;have q0:=HQ0.out;have q1:=HQ1.out
 exact bodyPost_ret (v:=.agg #[.slice a8 S.length c8,.slice a9 I.length c9]) (by simp[results,Tryz.results31,go_sem,q0,q1]) rfl
  ⟨_,rfl,by rw[HS.out,HI.out];exact HP1.out,(HBz.out.setCell (p:=⟨w.heap.size,0,none⟩) (by first|(simp;done)|(simp;omega)) _).setCell (p:=⟨w.heap.size,1,none⟩) (by first|(simp;done)|(simp;omega)) _⟩
theorem cinq_on {w W w':World}{p0 p1 p2 p3 p4:Addr}{v0 v1 v2 v3 v4:Value}(h:W.cell? p0=some v0∧W.cell? p1=some v1∧W.cell? p2=some v2∧W.cell? p3=some v3∧W.cell? p4=some v4∧Below w.heap.size w W)(hb:Below W.heap.size W w'):
 w'.cell? p0=some v0∧w'.cell? p1=some v1∧w'.cell? p2=some v2∧w'.cell? p3=some v3∧w'.cell? p4=some v4∧Below w.heap.size w w':=
 ⟨qab hb h.1,qab hb h.2.1,qab hb h.2.2.1,qab hb h.2.2.2.1,qab hb h.2.2.2.2.1,qaa h.2.2.2.2.2 hb⟩
theorem qgf {w W:World}{p0 p1 p2 p3 p4:Addr}{v0 v1 v2 v3 v4:Value}(h:W.cell? p0=some v0∧W.cell? p1=some v1∧W.cell? p2=some v2∧W.cell? p3=some v3∧W.cell? p4=some v4∧Below w.heap.size w W):Below w.heap.size w W:=h.2.2.2.2.2
theorem doc_one {w:World}(up:Int)(tag:List UInt8):qar (w.alloc (.cells #[.int .i64 up,.string ⟨tag.toArray⟩,.string ⟨#[]⟩,.slice none 0 0,.slice none 0 0] 28)) (.slice (some ⟨w.heap.size,0,none⟩) 1 1) [⟨up,tag,[],[],[]⟩]:=by
 refine⟨⟨_,1,rfl,Or.inr ⟨w.heap.size,0,rfl,fun i hi=>?_⟩⟩,⟨_,_,_,rfl,Nat.le_refl _,by decide⟩,by unfold maxLen;simp,fun i hi=>?_⟩
 ·match i,hi with
  | 0,_=>exact⟨.slice none 0 0,.slice none 0 0,by simp[go_sem],by simp[go_sem],by simp[go_sem],by simp[go_sem],by simp[go_sem],qfC _,qff _⟩
 ·match i,hi with
  | 0,_=>exact⟨by simp,by simp⟩
theorem qdq (w:World):Calls Tryz.prog 7 #[] w fun e w'=>e=.returned (.bool true)∧Below w.heap.size w w':=by
 go_enter Tryz.func7,Tryz.ntmps7
 go_wp2_with fail
 refine(page_any _).mono ?_;rintro e w1 ⟨v1,rfl,hp1,hb1⟩;obtain⟨a,c,a2,c2,rfl⟩:=hp1.form;have HP1:Hid (PgAt _ _ _ _):=hp1;have hB:Below w.heap.size w w1:=hb1;clear hp1 hb1
 go_wp2_with fail
 refine(qiS _ qaC (Pl.qaq qaC) 2 _ HP1.out (ix_ans _)).mono ?_;rintro e w2 ⟨v2,rfl,hp2,hb2⟩;obtain⟨o1,o2,o3⟩:=ch_ok (E:=qbz qaC 2) (ms:=qcc qaC 2) s_chk a_err (by rw[a_of];exact a_chk);rw[o2,o3,a_of]at hp2;rw[o1];obtain⟨a,c,a2,c2,rfl⟩:=hp2.form;replace hB:=qaa hB hb2;clear o1 o2 o3 hb2;have b1:=Blk2.new w2 (.slice a nsA.length c) (.slice a2 (Pl.qaq nsA).length c2);have hb3:=qac w2 (.cells #[.slice a nsA.length c,.slice a2 (Pl.qaq nsA).length c2] 32);obtain⟨⟨x0,x1⟩,_⟩:=b1.facts;have HPA:Hid (PgAt _ _ _ _):=hp2.on hb3;replace hB:=qaa hB hb3;clear b1 hb3 hp2;have hone:=doc_one (w:=w2.alloc (.cells #[.slice a nsA.length c,.slice a2 (Pl.qaq nsA).length c2] 32)) (-1) [120];have hb4:=qac (w2.alloc (.cells #[.slice a nsA.length c,.slice a2 (Pl.qaq nsA).length c2] 32)) (.cells #[.int .i64 (-1),.string ⟨#[120]⟩,.string ⟨#[]⟩,.slice none 0 0,.slice none 0 0] 28);have y0:=qab hb4 x0;have y1:=qab hb4 x1;have HONE:Hid (qar _ _ _):=hone;have HPA2:Hid (PgAt _ _ _ _):=PgAt.on HPA.out hb4;have hB4:=qaa hB hb4;have hz:(w2.alloc (.cells #[.slice a nsA.length c,.slice a2 (Pl.qaq nsA).length c2] 32)).heap.size=w2.heap.size+1:=by simp
 clear hone hb4
 go_wp2_with fail
 rw[hz]at HONE;refine(qiZ _ nsA (Pl.qaq nsA) 0 2 _ [nodeX1] _ HPA2.out (ix_ans _) HONE.out).mono ?_;rintro e w3 ⟨v3,rfl,hp3,hb3⟩;obtain⟨o1,o2,o3⟩:=ch_ok (E:=qax nsA 0 2 [nodeX1]) (ms:=qaO nsA 0 2 [nodeX1]) a_chk b_err (by rw[b_of];exact b_chk);rw[o2,o3,b_of]at hp3;rw[o1];obtain⟨ab,cb,ab2,cb2,rfl⟩:=hp3.form;replace hB:=qaa hB4 hb3;replace x1:=qab hb3 y1;clear o1 o2 o3 hb3 hB4 HPA HPA2 HONE hz x0 y0 y1;have b1:=Blk2.new w3 (.slice ab nsB.length cb) (.slice ab2 (Pl.qaq nsB).length cb2);have hb4:=qac w3 (.cells #[.slice ab nsB.length cb,.slice ab2 (Pl.qaq nsB).length cb2] 32);obtain⟨⟨z0,z1⟩,_⟩:=b1.facts;have HPB:Hid (PgAt _ _ _ _):=hp3.on hb4;replace x1:=qab hb4 x1;replace hB:=qaa hB hb4;clear b1 hb4 hp3
 go_wp2_with fail
 generalize w3.alloc (.cells #[.slice ab nsB.length cb,.slice ab2 (Pl.qaq nsB).length cb2] 32)=w4 at *;refine(lput_any _ nsB (Pl.qaq nsB) 3 _ nodeY1 _ HPB.out (ix_ans _) ⟨_,_,rfl,qfC _,qff _⟩ ⟨by decide,by decide⟩).mono ?_;rintro e w5 ⟨v5,rfl,hp5,hb5⟩;obtain⟨o1,o2,o3⟩:=ch_ok (E:=qcb nsB 3 nodeY1) (ms:=qcG nsB 3 nodeY1) b_chk c_err (by rw[c_of];exact c_chk);rw[o2,o3,c_of]at hp5;rw[o1];obtain⟨ac,cc,ac2,cc2,rfl,hdc,hec⟩:=hp5;replace hB:=qaa hB hb5;replace x1:=qab hb5 x1;replace z1:=qab hb5 z1;clear o1 o2 o3 hb5 HPB z0;obtain⟨_,_,e3,hnil|⟨bx,ox,hax,hcell⟩⟩:=hdc.1
 ·cases hnil
 injection e3 with q1 _ q3;subst q1 q3 hax;obtain⟨vc3,va3,_,n1,_⟩:=hcell 3 (by decide);have b1:=Blk2.new w5 (.slice (some ⟨bx,ox,none⟩) nsC.length cc) (.slice ac2 (Pl.qaq nsC).length cc2);have hb6:=qac w5 (.cells #[.slice (some ⟨bx,ox,none⟩) nsC.length cc,.slice ac2 (Pl.qaq nsC).length cc2] 32);obtain⟨⟨z3,z4⟩,_⟩:=b1.facts;replace x1:=qab hb6 x1;replace z1:=qab hb6 z1;replace n1:=qab hb6 n1;have HEC:Hid (qbl _ _ _):=hec.on hb6;have HCELL:Hid (∀W,Below (w5.alloc (.cells #[.slice (some ⟨bx,ox,none⟩) nsC.length cc,.slice ac2 (Pl.qaq nsC).length cc2] 32)).heap.size (w5.alloc (.cells #[.slice (some ⟨bx,ox,none⟩) nsC.length cc,.slice ac2 (Pl.qaq nsC).length cc2] 32)) W→∀i (h:i<nsC.length),NdAt W bx (ox+i*5) nsC[i]):=fun W hW i hi=>((hcell i hi).on hb6).on hW
 replace hB:=qaa hB hb6;rw[a_len]at x1;rw[b_len]at z1;clear b1 hb6 hec hdc hcell;have n2:(w5.alloc (.cells #[.slice (some ⟨bx,ox,none⟩) nsC.length cc,.slice ac2 (Pl.qaq nsC).length cc2] 32)).cell? ⟨bx,ox+3*5+1,none⟩=some (.string ⟨#[121]⟩):=n1;clear n1;go_wp2;generalize w5.alloc (.cells #[.slice (some ⟨bx,ox,none⟩) nsC.length cc,.slice ac2 (Pl.qaq nsC).length cc2] 32)=w6 at *;have hl4:nsC.length=4:=rfl;rw[hl4]at z3 ⊢;have HIO:Hid (∀W,Below w6.heap.size w6 W→Calls Tryz.prog 23 #[.agg #[.slice (some ⟨bx,ox,none⟩) 4 cc]] W fun e w'=>∃v ps,e=.returned v∧ERow (W.heap.size+1) w' v ps∧ps.map (·.1)=Pl.qb8 nsC nsC.length∧Below W.heap.size W w'):=fun W hW=>qdM bx ox cc nsC W (by decide) (by decide) (HCELL.out W hW)
 have HSE:Hid (qco (Pl.qaq nsC) (Pl.qaq nsC)=true):=decide_eq_true rfl;have S0:w6.drew.cell? ⟨w2.heap.size,1,none⟩=some (.slice a2 4 c2)∧w6.drew.cell? ⟨w3.heap.size,1,none⟩=some (.slice ab2 5 cb2)∧w6.drew.cell? ⟨w5.heap.size,0,none⟩=some (.slice (some ⟨bx,ox,none⟩) 4 cc)∧w6.drew.cell? ⟨w5.heap.size,1,none⟩=some (.slice ac2 (Pl.qaq nsC).length cc2)∧w6.drew.cell? ⟨bx,ox+3*5+1,none⟩=some (.string ⟨#[121]⟩)∧Below w6.heap.size w6 w6.drew:=⟨x1,z1,z3,z4,n2,(Below.refl _ _).drew⟩
 clear x1 z1 z3 z4 n2 hl4 HCELL
 go_region_held3 (fun w'=>w'.cell? ⟨w2.heap.size,1,none⟩=some (.slice a2 4 c2)∧w'.cell? ⟨w3.heap.size,1,none⟩=some (.slice ab2 5 cb2)∧w'.cell? ⟨w5.heap.size,0,none⟩=some (.slice (some ⟨bx,ox,none⟩) 4 cc)∧w'.cell? ⟨w5.heap.size,1,none⟩=some (.slice ac2 (Pl.qaq nsC).length cc2)∧w'.cell? ⟨bx,ox+3*5+1,none⟩=some (.string ⟨#[121]⟩)∧Below w6.heap.size w6 w')
  (first|with_reducible assumption|exact cinq_on (by with_reducible assumption) (by with_reducible assumption))
  (first|(go_at_call 23;refine(HIO.out _ (qgf (by with_reducible assumption))).mono ?_;rintro e w' ⟨u,ps,rfl,hrow,hmp,hw⟩;obtain⟨au,cu,rfl⟩:=hrow.form)|(go_at_call 32;refine(qek c_chk hrow hmp (qbl.on HEC.out (qgf (by with_reducible assumption))) (ix_ans _) HSE.out).mono ?_;rintro e w' ⟨rfl,hw⟩))
 have hB3:=qaa hB (qgf (by with_reducible assumption));clear S0;go_wp2;go_ret;exact⟨rfl,hB3⟩
end Go.Proofs.YtephhllfodlfbaaGreatDoor
