/-
  The document's own OwnList: the same list in new memory, one level.
-/
import Derived.Test.YtephhllfodlfbaaGreatDoorStF
set_option maxRecDepth 100000
set_option maxHeartbeats 16000000
namespace Go.Proofs.YtephhllfodlfbaaGreatDoor
open Go.RowKit
theorem qaP {ops:Array Oper}{Q:Exit→Act→World→Prop}{d:Nat}{ty:TypeId}{pos:String}{af:Array Edge}{rest:List Oper}{a:Act}{w:World}(n:Nat)(v0 v1 v2 v3 v4 v5:Value)(hx:a.eval (.tmp n)=.agg #[v0,v1,v2,v3,v4,v5])
 (h:wpList Tryz.prog ops Q rest (a.put (some d) (.slice (some ⟨w.heap.size,0,none⟩) 1 1)) (w.alloc (.cells #[v0,v1,v2,v3,v4,v5] 71))):
 wpList Tryz.prog ops Q ({ dst:=some d,op:=.buildSlice 65 1 #[(0,.tmp n)],type:=ty,pos:=pos,after:=af,guard:=none }::rest) a w:=by
 refine wpList_plain rfl fun K hK=>?_
 unfold Oper.wp execOp;have hx':a.tmps[n]?.getD undef=.agg #[v0,v1,v2,v3,v4,v5]:=by simpa [Act.eval] using hx
 go_simp;exact hK _ _ h
theorem stop_at (T:TypeId)(s k:Nat){P:Program}{ops:Array Oper}{Q:Exit→Act→World→Prop}{d:Option Nat}{ty:TypeId}{pos:String}{af:Array Edge}{gd:Option (Nat×Bool)}{rest:List Oper}{a:Act}{w:World}(h:Hid (wpList P ops Q ({ dst:=d,op:=.fieldAddr T (.tmp s) k,type:=ty,pos:=pos,after:=af,guard:=gd }::rest) a w)):wpList P ops Q ({ dst:=d,op:=.fieldAddr T (.tmp s) k,type:=ty,pos:=pos,after:=af,guard:=gd }::rest) a w:=h
theorem Made.put {α:Type}{A:MemL α}(hS:qaK A){B M:Nat}{W W1 W2:World}{tp:Pl.Stp α}{u v':Value}{ts:List (Pl.Tst α)}(h:Made A B M W tp u)(hb:Below W.heap.size W W1)(hg:W1.grownBy W2 u.ownBlock)(hr:Grow (frm B) B 71 6 (VT A) W2 v' ts):
 Made A B M (W2.setCell ⟨M,1,none⟩ v') ⟨tp.tag,ts⟩ v'∧FrA B M W (W2.setCell ⟨M,1,none⟩ v')∧(W2.cell? ⟨M,1,none⟩=some u∧W2.frozen? ⟨M,1,none⟩=false):=by
 have hown:∀j,u.ownBlock=some j→B≤j:=fun j hj=>(h.row.own j hj).2
 have h1:=h.on hS hb
 have hM:W2.heap[M]? =some (.cells #[.string ⟨tp.tag.toArray⟩,u] 67):=by
  rw[hg.block M (Array.getElem?_eq_some_iff.1 h1.box).1 (fun e=>by have:=hown M e.symm;have:=h.lt;omega)];exact h1.box
 have hf:=(FrA.below (M:=M) hb h.sz).trans (FrA.grown hg h1.sz hown);exact⟨⟨qge hM _,hr.apart hS h.lt,h.lt,Nat.le_trans h1.sz (by simpa [World.setCell] using hg.size)⟩,hf.set 1 _,(qcd hM).2.1,(qcd hM).2.2.2⟩
theorem off_of {B j:Nat}{v:Value}(hj:B≤j)(hv:v.ownBlock≠some j):Off (frm B) v j=true:=by
 unfold Off;rw[show frm B j=true by simp only[frm,decide_eq_true_eq];exact hj]
 simpa using hv
theorem qg5 {β:Type}{l:List β}{k:Nat}(h:k<l.length):l.take (k+1)=l.take k++[l[k]]:=List.take_succ_eq_append_getElem h
theorem qa4.masked {β:Type}{P Q:Nat→Bool}{B:Nat}{e:TypeId}{k:Nat}{V:World→List Value→β→Prop}(hV:IsVB k V){w:World}{v:Value}{l:List β}(h:qa4 P B e k V w v l)(hPQ:∀j,P j=true→j<w.heap.size→Q j=true):qa4 P B e k V (mask Q w) v l:=by
 refine h.move hV fun j hj hl=>?_
 rw[qck,hPQ j hj hl];simp
theorem Grow.masked {β:Type}{P Q:Nat→Bool}{B:Nat}{e:TypeId}{k:Nat}{V:World→List Value→β→Prop}{E:World→Nat→Nat→β→Prop}(hV:IsV k V E){w:World}{v:Value}{l:List β}(h:Grow P B e k V w v l)(hPQ:∀j,P j=true→j<w.heap.size→Q j=true):Grow P B e k V (mask Q w) v l:=by
 refine h.move hV fun j hj hl=>⟨hj,?_⟩
 rw[qck,hPQ j hj hl];simp
structure qcL {α:Type}(A:MemL α)(M:Nat)(w:World)(ss:List (Pl.Stp α))(u lv:Value):Prop where
 box:w.heap[M]? =some (.cells #[u,lv] 64)
 row:qa4 (frm (M+1)) (M+1) 67 2 (VSd A) w u ss
theorem qcL.sz {α:Type}{A:MemL α}{M:Nat}{w:World}{ss:List (Pl.Stp α)}{u lv:Value}(h:qcL A M w ss u lv):M+1≤w.heap.size:=(Array.getElem?_eq_some_iff.1 h.box).1
theorem qcL.on {α:Type}{A:MemL α}(hS:qaK A){M:Nat}{w w':World}{ss:List (Pl.Stp α)}{u lv:Value}(h:qcL A M w ss u lv)(hb:Below w.heap.size w w'):qcL A M w' ss u lv:=
 ⟨hblk h.box hb,h.row.move (qcg hS) fun j _ hjw=>hb.block j hjw⟩
theorem qcL.put {α:Type}{A:MemL α}(hS:qaK A){M:Nat}{W W1 W2:World}{ss ss':List (Pl.Stp α)}{u lv v':Value}(h:qcL A M W ss u lv)(hb:Below W.heap.size W W1)(hg:W1.grownBy W2 u.ownBlock)(hr:qa4 (frm (M+1)) (M+1) 67 2 (VSd A) W2 v' ss'):
 qcL A M (W2.setCell ⟨M,0,none⟩ v') ss' v' lv∧FrA (M+1) M W (W2.setCell ⟨M,0,none⟩ v')∧(W2.cell? ⟨M,0,none⟩=some u∧W2.frozen? ⟨M,0,none⟩=false):=by
 have hown:∀j,u.ownBlock=some j→M+1≤j:=fun j hj=>(h.row.own j hj).2.1
 have h1:=h.on hS hb
 have hM:W2.heap[M]? =some (.cells #[u,lv] 64):=by
  rw[hg.block M (Array.getElem?_eq_some_iff.1 h1.box).1 (fun e=>by have:=hown M e.symm;omega)];exact h1.box
 refine⟨⟨set38_0 hM _,?_⟩,?_,(res38 hM).1,(res38 hM).2.2.1⟩
 ·exact hr.move (qcg hS) fun j hj _=>Below.heap_setCell _ _ _ _ (by
   have:M+1≤j:=by simpa [frm] using hj
   show j≠M
   omega)
 ·exact((FrA.below hb h.sz).trans (FrA.grown hg h1.sz hown)).set 0 _
theorem own_up {α:Type}{A:MemL α}(hA:IsL A)(hS:qaK A)(W0:List α→Prop)(hO:∀(w:World) (v:Value) (l:List α),A w v l→W0 l→Calls Tryz.prog 24 #[v] w fun e w'=>∃a c,e=.returned (.slice a l.length c)∧A (mask (frm w.heap.size) w') (.slice a l.length c) l∧Below w.heap.size w w')
 (w:World) (v:Value) (l:List (Pl.Pth α)) (hl:qbp A w v l) (hok:Pl.okL W0 l):Calls Tryz.prog 24 #[v] w fun e w'=>∃a c,e=.returned (.slice a l.length c)∧qa4 (frm w.heap.size) w.heap.size 64 2 (VPd A) w' (.slice a l.length c) l∧Below w.heap.size w w':=by
 obtain⟨a,c,rfl,-,hcs⟩:=hl;have HR:Hid _:=hcs;have HOK:Hid (Pl.okL W0 l):=hok;have HO:Hid _:=hO;have h5:=hok.1;clear hcs hok hO;go_enter Tryz.func24,Tryz.ntmps24;go_wp2
 go_loopw [3,4] (fun u i wr=>∃k:Nat,k≤l.length∧i=.int .i64 k∧Hid (qa4 (frm w.heap.size) w.heap.size 64 2 (VPd A) wr u (l.take k))∧Hid (Below w.heap.size w wr)) (fun _ i _=>l.length-(intOf i).toNat)
 case atStart=>exact⟨0,Nat.zero_le _,rfl,qa4.nil _ _ _ _ _ _,Below.refl _ _⟩
 case round=>
  obtain⟨k,hk,rfl,HG,HB⟩:=hrel;obtain⟨ao,co,rfl⟩:=HG.out.form
  by_cases hlt:k<l.length
  ·as_aux_lemma=>
   rcases HR.out with h0|⟨b,o,rfl,hc⟩
   ·rw[h0]at hlt;simp at hlt
   obtain⟨vs,vl,n0,n1,hP,hLk⟩:=hc k hlt;obtain⟨as_,cs,rfl⟩:=hP.form;obtain⟨al,cl,rfl⟩:=hLk.form;have hokp:=HOK.out.2 l[k] (List.getElem_mem hlt);have HNX:Hid _:=qg5 hlt;have HLN:Hid ((l.take k).length+1≤64):=by unfold Hid;rw[List.length_take];omega
   have i1:(0:Int)≤(k:Int):=by omega
   have i2:(k:Int)<(l.length:Int):=by omega
   clear hc;generalize l[k]=p at *;generalize l.take k=done at *;have HN0:Hid (∀W,Below w.heap.size w W→W.cell? ⟨b,o+k*2,none⟩=some (.slice as_ p.steps.length cs)):=fun W hW=>qab hW n0
   have HP:Hid (∀W,Below w.heap.size w W→qaf (qa3 A) 2 W (.slice as_ p.steps.length cs) p.steps):=fun W hW=>hP.map fun _ _ _ hq=>hq.on hA hW
   have H5P:Hid (p.steps.length≤5):=hokp.2.1;have H64:Hid (p.links.length≤64):=by unfold Hid;have:=hokp.2.2.1;omega
   have HOS:Hid (∀s∈p.steps,Pl.okS W0 s):=hokp.2.2.2;have hba:=qac wr (.cells #[] 3);have HBa:Hid (Below wr.heap.size wr (wr.alloc (.cells #[] 3))):=hba;have HLR:Hid (qaf qbe 1 (wr.alloc (.cells #[] 3)) (.slice al p.links.length cl) p.links):=hLk.map fun _ _ _ hx=>qab (qaa HB.out hba) hx
   have HE:Hid ((wr.alloc (.cells #[] 3)).heap[wr.heap.size]? =some (.cells #[] 3)):=heap_alloc_new wr _;replace n1:=qab HB.out n1;have n1a:=qab hba n1;clear hP hLk hokp n0 hba;obtain⟨wq,hwq⟩:∃q,q=wr:=⟨_,rfl⟩
   subst hwq
   go_wp2_with (at_builtin;refine Hid.out ?_)
   unfold Hid;refine qiJ (B:=wq.heap.size) (g:=wq.heap.size) rfl (.tmp 16) (.tmp 21) rfl rfl HE.out (Nat.le_refl _) (.slice al p.links.length cl) p.links rfl HLR.out H64.out ?_;intro a2 c2 wB hr2 hbB;have hbA:=qac wB (.cells #[.slice none 0 0,.slice a2 p.links.length c2] 64);have hqB:Below wq.heap.size wq wB:=HBa.out.trans hbB;have HBq3:Hid (Below wq.heap.size wq (wB.alloc (.cells #[.slice none 0 0,.slice a2 p.links.length c2] 64))):=hqB.trans (hbA.mono hqB.size);have HM0:Hid (qcL A wB.heap.size (wB.alloc (.cells #[.slice none 0 0,.slice a2 p.links.length c2] 64)) (p.steps.take 0) (.slice none 0 0) (.slice a2 p.links.length c2)):=⟨heap_alloc_new wB _,qa4.nil _ _ _ _ _ _⟩
   have HLK:Hid (qaf IntS 1 (mask (frm wq.heap.size) wB) (.slice a2 p.links.length c2) p.links):=hr2;have HBLK:Hid (∀j,j<wB.heap.size→(wB.alloc (.cells #[.slice none 0 0,.slice a2 p.links.length c2] 64)).heap[j]? =wB.heap[j]?):=fun j hj=>hbA.block j hj
   have HQM:Hid (wq.heap.size≤wB.heap.size):=hqB.size;have HB3:Hid (Below w.heap.size w (wB.alloc (.cells #[.slice none 0 0,.slice a2 p.links.length c2] 64))):=qaa HB.out HBq3.out;clear hr2 hbB hbA hqB HE HLR HBa n1 n1a;go_wp2;generalize wB.alloc (.cells #[.slice none 0 0,.slice a2 p.links.length c2] 64)=w3 at *;obtain⟨M,hM⟩:∃q,q=wB.heap.size:=⟨_,rfl⟩
   rw[←hM]at HM0 HBLK HQM ⊢;have HMB:Hid _:=hM;clear hM
   go_loopw [6] (fun i wr=>∃j:Nat,j≤p.steps.length∧i=.int .i64 j∧Hid (∃au cu,qcL A M wr (p.steps.take j) (.slice au (p.steps.take j).length cu) (.slice a2 p.links.length c2))∧Hid (FrA (M+1) M w3 wr)) (fun i _=>p.steps.length-(intOf i).toNat)
   case atStart=>exact⟨0,Nat.zero_le _,rfl,⟨none,0,HM0.out⟩,FrA.refl _ _ _⟩
   case round=>
    obtain⟨j,hj,rfl,HMj,HFj⟩:=hrel;obtain⟨au,cu,hmj⟩:=HMj.out;have HM:Hid (qcL A M wr (p.steps.take j) (.slice au (p.steps.take j).length cu) (.slice a2 p.links.length c2)):=hmj;clear HMj hmj;have HBqr:Hid (Below wq.heap.size wq wr):=HFj.out.belowW HBq3.out (by have:=HQM.out;omega) HQM.out;have HBW:Hid (Below w.heap.size w wr):=qaa HB.out HBqr.out;have n0:=HN0.out wr HBW.out
    by_cases hjl:j<p.steps.length
    ·as_aux_lemma=>
     obtain⟨_,_,es,_,hcs2⟩:=HP.out w (Below.refl _ _);injection es with es1 _ es3;subst es1 es3
     rcases hcs2 with h0|⟨b2,o2,rfl,hc2⟩
     ·rw[h0]at hjl;simp at hjl
     obtain⟨vt,m0,m1,hT⟩:=hc2 j hjl;obtain⟨at_,ct,rfl⟩:=hT.form;have hoks:=HOS.out p.steps[j] (List.getElem_mem hjl);have HN2:Hid _:=qg5 hjl;have HL2:Hid ((p.steps.take j).length+1≤64):=by unfold Hid;rw[List.length_take];have:=H5P.out;omega
     have j1:(0:Int)≤(j:Int):=by omega
     have j2:(j:Int)<(p.steps.length:Int):=by omega
     have h5p:=H5P.out;clear hc2;generalize p.steps[j]=s at *;generalize p.steps.take j=made at *;have HM1:Hid (∀W,Below w.heap.size w W→W.cell? ⟨b2,o2+j*2+1,none⟩=some (.slice at_ s.tests.length ct)):=fun W hW=>qab hW m1
     have HT:Hid (∀W,Below w.heap.size w W→qaf (qaF A) 6 W (.slice at_ s.tests.length ct) s.tests):=fun W hW=>hT.map fun _ _ _ hq=>hq.on hA hW
     replace m0:=qab HBW.out m0;have HOT:Hid (∀t∈s.tests,W0 t.list):=hoks.2;have H6:Hid (s.tests.length≤6):=hoks.1;have HBs:Hid (Below wr.heap.size wr (wr.alloc (.cells #[.string ⟨s.tag.toArray⟩,.slice none 0 0] 67))):=qac _ _;have HS0:Hid (Made A (wr.heap.size+1) wr.heap.size (wr.alloc (.cells #[.string ⟨s.tag.toArray⟩,.slice none 0 0] 67)) ⟨s.tag,s.tests.take 0⟩ (.slice none 0 0)):=⟨heap_alloc_new wr _,Grow.nil _ _ _ _ _ _,by omega,by simp⟩
     clear hT m1 hoks;obtain⟨w2,hw2⟩:∃q,q=wr:=⟨_,rfl⟩
     subst hw2;go_wp2;clear n0 m0;generalize w2.alloc (.cells #[.string ⟨s.tag.toArray⟩,.slice none 0 0] 67)=w5 at *;obtain⟨N,hN⟩:∃q,q=w2.heap.size:=⟨_,rfl⟩
     rw[←hN]at HS0 HBs ⊢;have HNW:Hid _:=hN;clear hN
     go_loopw [8] (fun i wr=>∃q:Nat,q≤s.tests.length∧i=.int .i64 q∧Hid (∃ax cx,Made A (N+1) N wr ⟨s.tag,s.tests.take q⟩ (.slice ax (s.tests.take q).length cx))∧Hid (FrA (N+1) N w5 wr)) (fun i _=>s.tests.length-(intOf i).toNat)
     case atStart=>exact⟨0,Nat.zero_le _,rfl,⟨none,0,HS0.out⟩,FrA.refl _ _ _⟩
     case round=>
      obtain⟨q,hq,rfl,HXq,HFq⟩:=hrel;obtain⟨ax,cx,hxq⟩:=HXq.out;have HX:Hid (Made A (N+1) N wr ⟨s.tag,s.tests.take q⟩ (.slice ax (s.tests.take q).length cx)):=hxq;clear HXq hxq;have HB2r:Hid (Below N w2 wr):=HFq.out.belowW HBs.out (by omega) (Nat.le_refl _);have HBw:Hid (Below w.heap.size w wr):=qaa HBW.out (by have:=HB2r.out;rw[HNW.out]at this;exact this);have n0:=HN0.out wr HBw.out;have m1:=HM1.out wr HBw.out
      by_cases hql:q<s.tests.length
      ·as_aux_lemma=>
       obtain⟨_,_,et,_,hcs3⟩:=HT.out wr HBw.out;injection et with et1 _ et3;subst et1 et3
       rcases hcs3 with h0|⟨b3,o3,rfl,hc3⟩
       ·rw[h0]at hql;simp at hql
       obtain⟨vv,t0,t1,t2,t3,t4,t5,t6⟩:=hc3 q hql;obtain⟨al,dl,rfl,-⟩:=hA.form t6;have hwl:=HOT.out s.tests[q] (List.getElem_mem hql);have HN3:Hid _:=qg5 hql;have HL3:Hid ((s.tests.take q).length+1≤64):=by unfold Hid;rw[List.length_take];have:=H6.out;omega
       have q1:(0:Int)≤(q:Int):=by omega
       have q2:(q:Int)<(s.tests.length:Int):=by omega
       have h6s:=H6.out;clear hc3;generalize s.tests[q]=t at *;generalize s.tests.take q=ts at *;have hba:=qac wr (.cells #[.int .i64 t.kind,.string ⟨t.name.toArray⟩,.string ⟨t.value.toArray⟩,.int .i64 t.a,.int .i64 t.b,.slice al t.list.length dl] 71);have HBA:Hid (Below wr.heap.size wr (wr.alloc (.cells #[.int .i64 t.kind,.string ⟨t.name.toArray⟩,.string ⟨t.value.toArray⟩,.int .i64 t.a,.int .i64 t.b,.slice al t.list.length dl] 71))):=hba;have H5:Hid ((wr.alloc (.cells #[.int .i64 t.kind,.string ⟨t.name.toArray⟩,.string ⟨t.value.toArray⟩,.int .i64 t.a,.int .i64 t.b,.slice al t.list.length dl] 71)).heap[wr.heap.size]? =some (.cells #[.int .i64 t.kind,.string ⟨t.name.toArray⟩,.string ⟨t.value.toArray⟩,.int .i64 t.a,.int .i64 t.b,.slice al t.list.length dl] 71)):=heap_alloc_new wr _;have HC:Hid (Calls Tryz.prog 24 _ _ _):=HO.out (wr.alloc (.cells #[.int .i64 t.kind,.string ⟨t.name.toArray⟩,.string ⟨t.value.toArray⟩,.int .i64 t.a,.int .i64 t.b,.slice al t.list.length dl] 71)) (.slice al t.list.length dl) t.list (hA.on t6 hba) hwl;have HZA:Hid ((wr.alloc (.cells #[.int .i64 t.kind,.string ⟨t.name.toArray⟩,.string ⟨t.value.toArray⟩,.int .i64 t.a,.int .i64 t.b,.slice al t.list.length dl] 71)).heap.size=wr.heap.size+1):=by unfold Hid;simp
       clear hba t6 hwl;obtain⟨wz,hwz⟩:∃q,q=wr:=⟨_,rfl⟩
       subst hwz
       go_wp2_with fail
       clear t0 t1 t2 t3 t4 t5 n0 m1;generalize wz.alloc (.cells #[.int .i64 t.kind,.string ⟨t.name.toArray⟩,.string ⟨t.value.toArray⟩,.int .i64 t.a,.int .i64 t.b,.slice al t.list.length dl] 71)=wa at *;refine HC.out.mono ?_;rintro e w6 ⟨a5,c5,rfl,hm5,hb5⟩;have B5:=hblk H5.out hb5;obtain⟨q0,q1',q2',q3,q4,q5⟩:=f6 B5;have hfz:=fz6 B5 5;have B6:=b45_5 B5 (.slice a5 t.list.length c5)
       have hsame5:∀j,j<wz.heap.size→(w6.setCell ⟨wz.heap.size,5,none⟩ (.slice a5 t.list.length c5)).heap[j]? =wz.heap[j]? :=fun j hj=>by
        rw[Below.heap_setCell _ _ _ _ (by show j≠wz.heap.size;omega),hb5.block j (by have:=HZA.out;omega)];exact HBA.out.block j hj
       have hsz6:wz.heap.size≤(w6.setCell ⟨wz.heap.size,5,none⟩ (.slice a5 t.list.length c5)).heap.size:=by
        have:=hb5.size;have:=HZA.out;simp[World.setCell];omega
       have HX6:Hid (Made A (N+1) N (w6.setCell ⟨wz.heap.size,5,none⟩ (.slice a5 t.list.length c5)) ⟨s.tag,ts⟩ (.slice ax ts.length cx)):=HX.out.to hS hsame5 hsz6
       have HF6:Hid (FrA (N+1) N w5 (w6.setCell ⟨wz.heap.size,5,none⟩ (.slice a5 t.list.length c5))):=by
        refine⟨?_,?_,?_,Nat.le_trans HFq.out.size hsz6,fun j hj hne=>?_⟩
        ·exact(hb5.os.trans HBA.out.os).trans HFq.out.os
        ·exact(hb5.tape.trans HBA.out.tape).trans HFq.out.tape
        ·exact(hb5.output.trans HBA.out.output).trans HFq.out.output
        ·rw[hsame5 j (by have:=HX.out.sz;omega)];exact HFq.out.blk j hj hne
       have HNEW:Hid (VT A (mask (Off (frm (N+1)) (.slice ax ts.length cx)) (w6.setCell ⟨wz.heap.size,5,none⟩ (.slice a5 t.list.length c5))) [.int .i64 t.kind,.string ⟨t.name.toArray⟩,.string ⟨t.value.toArray⟩,.int .i64 t.a,.int .i64 t.b,.slice a5 t.list.length c5] t):=⟨_,rfl,hS.sub hm5 (qam fun j hj _=>by
        have hj2:wz.heap.size+1≤j:=by have:=HZA.out;simp only[frm,decide_eq_true_eq]at hj;omega
        have hz:=HX.out.sz
        refine⟨off_of (by omega) (fun h=>by have:=HX.out.row.lt j h;omega),Below.heap_setCell _ _ _ _ (by show j≠wz.heap.size;omega)⟩)⟩
       obtain⟨d0,d1,d2,d3⟩:=qcd HX6.out.box;obtain⟨r0,r1,r2,r3,r4,r5⟩:=f6 B6
       have HONE:Hid (∀u∈[.int .i64 t.kind,.string ⟨t.name.toArray⟩,.string ⟨t.value.toArray⟩,.int .i64 t.a,.int .i64 t.b,.slice a5 t.list.length c5],Value.oneCell' u=true):=by
        intro u hu;simp only[List.mem_cons,List.not_mem_nil,or_false]at hu
        rcases hu with rfl|rfl|rfl|rfl|rfl|rfl<;>rfl
       have HPH:Hid (frm (N+1) ((w6.setCell ⟨wz.heap.size,5,none⟩ (.slice a5 t.list.length c5)).heap.size+1)=true):=by have:=HX6.out.sz;unfold Hid;simp only[frm,decide_eq_true_eq];omega
       have HSZ:Hid (N+1≤(w6.setCell ⟨wz.heap.size,5,none⟩ (.slice a5 t.list.length c5)).heap.size):=HX6.out.sz;clear B5 B6 hm5 hb5 hsame5 hsz6 HC
       go_wp2_with (with_reducible refine stop_at 67 7 1 ?_)
       unfold Hid;clear q0 q1' q2' q3 q4 q5 hfz;generalize w6.setCell ⟨wz.heap.size,5,none⟩ (.slice a5 t.list.length c5)=W6 at *
       iterate 9 (first|go_values|go_skip|go_guarded|go_step|go_upon)
       refine qaP 76 _ _ _ _ _ _ rfl ?_;refine qaQ (P:=frm (N+1)) (B:=N+1) (qba hS) Tryz.underlying65 infT rfl (by decide) (by decide) (w2:=W6) (v:=.slice ax ts.length cx) (l:=ts) (x:=t) (news:=[.int .i64 t.kind,.string ⟨t.name.toArray⟩,.string ⟨t.value.toArray⟩,.int .i64 t.a,.int .i64 t.b,.slice a5 t.list.length c5]) ?_ (.tmp 75) (.tmp 77) ?_ ?_ ?_ HX6.out.row HNEW.out HONE.out HL3.out HSZ.out HPH.out ?_
       ·rfl
       ·rfl
       ·rfl
       ·first|rfl|(simp[Act.eval];done)
       intro g cap w7 hg7 hb7 _;clear d0 d1 d2 d3 r0 r1 r2 r3 r4 r5;have HPUT:=HX6.out.put hS (qac _ _) hb7 hg7;have z7:=HPUT.2.2.1;have zf7:=HPUT.2.2.2
       have HX7:Hid (∃ax cx,Made A (N+1) N (w7.setCell ⟨N,1,none⟩ (.slice (some ⟨g,0,none⟩) (ts.length+1) cap)) ⟨s.tag,s.tests.take (q+1)⟩ (.slice ax (s.tests.take (q+1)).length cx)):=by
        unfold Hid;rw[HN3.out];refine⟨some ⟨g,0,none⟩,cap,?_⟩;rw[List.length_append];exact HPUT.1
       have HF7:Hid (FrA (N+1) N w5 (w7.setCell ⟨N,1,none⟩ (.slice (some ⟨g,0,none⟩) (ts.length+1) cap))):=HF6.out.trans HPUT.2.1;clear HPUT hg7 hb7 HNEW HX6 HF6;go_wp2;exact⟨⟨q+1,hql,by go_num,HX7,HF7⟩,by simp[intOf];omega⟩
      ·as_aux_lemma=>
       have hqe:q=s.tests.length:=by omega
       subst hqe;rw[List.take_length]at HX;have hbr:Below w2.heap.size w2 wr:=by have:=HB2r.out;rw[HNW.out]at this;exact this
       have HMr:Hid (qcL A M wr made (.slice au made.length cu) (.slice a2 p.links.length c2)):=HM.out.on hS hbr;obtain⟨d0,d1,d2,d3⟩:=qcd HX.out.box;obtain⟨y0,y1,y2,y3⟩:=res38 HMr.out.box
       have HNEW:Hid (VSd A (mask (fun j=>frm (M+1) j&&decide (w2.heap.size≤j)) wr) [.string ⟨s.tag.toArray⟩,.slice ax s.tests.length cx] s):=⟨_,N+1,rfl,HX.out.row.masked (qba hS) fun j hj _=>by
        have h1:=HM.out.sz;have h2:=HNW.out;simp only[frm,decide_eq_true_eq,Bool.and_eq_true]at hj ⊢
        omega⟩
       have HSM:Hid (∀j,j<w2.heap.size→wr.heap[j]? =w2.heap[j]?):=fun j hj=>hbr.block j hj
       have HS2:Hid (w2.heap.size≤wr.heap.size):=hbr.size
       have HONE:Hid (∀u∈[.string ⟨s.tag.toArray⟩,.slice ax s.tests.length cx],Value.oneCell' u=true):=by
        intro u hu;simp only[List.mem_cons,List.not_mem_nil,or_false]at hu
        rcases hu with rfl|rfl<;>rfl
       have HSZ:Hid (M+1≤wr.heap.size):=HMr.out.sz;have HPH:Hid (frm (M+1) (wr.heap.size+1)=true):=by have:=HSZ.out;unfold Hid;simp only[frm,decide_eq_true_eq];omega
       have HFr:Hid (FrA (M+1) M w3 wr):=HFj.out.trans (FrA.below hbr HM.out.sz);clear hbr;obtain⟨wz,hwz⟩:∃q,q=wr:=⟨_,rfl⟩
       subst hwz
       go_wp2_with (at_builtin;refine Hid.out ?_)
       unfold Hid;refine qdI (P:=frm (M+1)) (B:=M+1) (qcg hS) Tryz.underlying62 infS rfl (by decide) (by decide) (w0:=w2) (w2:=wz) (v:=.slice au made.length cu) (l:=made) (x:=s) (news:=[.string ⟨s.tag.toArray⟩,.slice ax s.tests.length cx]) ?_ (.tmp 81) (.tmp 83) ?_ ?_ ?_ HM.out.row HSM.out HS2.out HNEW.out HONE.out HL2.out HSZ.out HPH.out ?_
       ·rfl
       ·rfl
       ·rfl
       ·first|rfl|(simp[Act.eval];done)
       intro g cap w7 hg7 hb7 _;clear d0 d1 d2 d3 y0 y1 y2 y3 n0 m1;have HPUT:=HMr.out.put hS (qac _ _) hb7 hg7;have z7:=HPUT.2.2.1;have zf7:=HPUT.2.2.2
       have HM7:Hid (∃au cu,qcL A M (w7.setCell ⟨M,0,none⟩ (.slice (some ⟨g,0,none⟩) (made.length+1) cap)) (p.steps.take (j+1)) (.slice au (p.steps.take (j+1)).length cu) (.slice a2 p.links.length c2)):=by
        unfold Hid;rw[HN2.out];refine⟨some ⟨g,0,none⟩,cap,?_⟩;rw[List.length_append];exact HPUT.1
       have HF7:Hid (FrA (M+1) M w3 (w7.setCell ⟨M,0,none⟩ (.slice (some ⟨g,0,none⟩) (made.length+1) cap))):=HFr.out.trans HPUT.2.1;clear HPUT hg7 hb7 HNEW HMr HFr HSM HS2;go_wp2;exact⟨⟨j+1,hjl,by go_num,HM7,HF7⟩,by simp[intOf];omega⟩
    ·as_aux_lemma=>
     have hje:j=p.steps.length:=by omega
     subst hje;rw[List.take_length]at HM;obtain⟨y0,y1,y2,y3⟩:=res38 HM.out.box;have HOW:Hid (∀j,(.slice ao done.length co:Value).ownBlock=some j→w.heap.size≤j):=fun j hj=>(HG.out.own j hj).2.1
     have HNEW:Hid (VPd A (mask (fun j=>frm w.heap.size j&&decide (wq.heap.size≤j)) wr) [.slice au p.steps.length cu,.slice a2 p.links.length c2] p):=⟨_,_,M+1,rfl,HM.out.row.masked (qcg hS) (fun j hj _=>by
      have h1:=HQM.out;have h2:=HB.out.size;simp only[frm,decide_eq_true_eq,Bool.and_eq_true]at hj ⊢
      omega),by
      rw[qaU];refine qfY HLK.out (qam fun j hj h3=>?_);have h2:=HB.out.size;have h4:=HMB.out;simp only[frm,decide_eq_true_eq]at hj
      exact⟨by simp only[frm,decide_eq_true_eq,Bool.and_eq_true];omega,(HFj.out.blk j (by omega) (by omega)).trans (HBLK.out j (by omega))⟩⟩
     have HSM:Hid (∀j,j<wq.heap.size→wr.heap[j]? =wq.heap[j]?):=fun j hj=>HBqr.out.block j hj
     have HS2:Hid (wq.heap.size≤wr.heap.size):=HBqr.out.size
     have HONE:Hid (∀u∈[.slice au p.steps.length cu,.slice a2 p.links.length c2],Value.oneCell' u=true):=by
      intro u hu;simp only[List.mem_cons,List.not_mem_nil,or_false]at hu
      rcases hu with rfl|rfl<;>rfl
     have HSZ:Hid (w.heap.size≤wr.heap.size):=HBW.out.size;have HPH:Hid (frm w.heap.size (wr.heap.size+1)=true):=by have:=HSZ.out;unfold Hid;simp only[frm,decide_eq_true_eq];omega
     obtain⟨wz,hwz⟩:∃q,q=wr:=⟨_,rfl⟩
     subst hwz
     go_wp2_with (at_builtin;refine Hid.out ?_)
     unfold Hid;refine qdI (P:=frm w.heap.size) (B:=w.heap.size) (qcQ hS) Tryz.underlying29 infP rfl (by decide) (by decide) (w0:=wq) (w2:=wz) (v:=.slice ao done.length co) (l:=done) (x:=p) (news:=[.slice au p.steps.length cu,.slice a2 p.links.length c2]) ?_ (.tmp 86) (.tmp 88) ?_ ?_ ?_ HG.out HSM.out HS2.out HNEW.out HONE.out HLN.out HSZ.out HPH.out ?_
     ·rfl
     ·rfl
     ·rfl
     ·first|rfl|(simp[Act.eval];done)
     intro g cap w7 hg7 hb7 _;clear y0 y1 y2 y3 n0;have HG7:Hid (qa4 (frm w.heap.size) w.heap.size 64 2 (VPd A) w7 (.slice (some ⟨g,0,none⟩) (done.length+1) cap) (l.take (k+1))):=by unfold Hid;rw[HNX.out];exact hg7
     have HB7:Hid (Below w.heap.size w w7):=(qaa HBW.out (qac _ _)).grown hb7 (by have:=HBW.out.size;simp;omega) (fun j hj=>HOW.out j hj);clear hg7 hb7 HNEW HSM HS2;go_wp2;exact⟨⟨k+1,hlt,by go_num,HG7,HB7⟩,by simp[intOf];omega⟩
  ·as_aux_lemma=>
   have hke:k=l.length:=by omega
   subst hke;rw[List.take_length]at HG;rw[List.take_length];go_wp2;go_ret;exact⟨ao,co,rfl,HG.out,HB.out⟩
end Go.Proofs.YtephhllfodlfbaaGreatDoor
