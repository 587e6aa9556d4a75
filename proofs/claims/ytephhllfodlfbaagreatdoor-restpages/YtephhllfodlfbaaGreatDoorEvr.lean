/-
  path's fits.
-/
import Derived.Test.YtephhllfodlfbaaGreatDoorPkF
set_option maxRecDepth 100000
set_option maxHeartbeats 16000000
namespace Go.Proofs.YtephhllfodlfbaaGreatDoor
open Go.RowKit Go.Shelf
attribute [local go_sem] Oper.semAt_some
theorem qeY {β:Type}{B n₀:Nat}{Ds:List Nat}(h:∀D∈Ds,D<B):OwnFrom B (fun(_:β) W=>∀D∈Ds,n₀≤D∧W.heap[D]? =some (.deferred (some []))):=fun _ X Y row hs hg hr D hD=>
 ⟨(hs D hD).1,(hg.block D (Array.getElem?_eq_some_iff.1 (hs D hD).2).1 (fun e=>by have:=(hr D e.symm).1;have:=h D hD;omega)).trans (hs D hD).2⟩
def fitQ {α:Type}(f:List α→Bool)(p:Pl.Pth α):Bool:=Pl.pFits p&&Pl.inner f p
theorem fits_up {α:Type}{A:MemL α}(hA:IsL A)(d:Int)(hd:1≤d∧d≤3)(f:List α→Bool)(hf:∀w v l,A w v l→qaL w→Calls Tryz.prog 93 #[v,.int .i64 (d+1)] w fun e w'=>e=.returned (.bool (f l))∧Below w.heap.size w w')(w:World)(v:Value)(l:List (Pl.Pth α))(h:qbp A w v l)(hF:qaL w):
 Calls Tryz.prog 93 #[v,.int .i64 d] w fun e w'=>e=.returned (.bool (Pl.qbd f l))∧Below w.heap.size w w':=by
 obtain⟨a,c,rfl⟩:=qaf.form h;have HL:Hid (qbp A w (.slice a l.length c) l):=h;have HF:Hid (∀w v l,A w v l→qaL w→Calls Tryz.prog 93 #[v,.int .i64 (d+1)] w fun e w'=>e=.returned (.bool (f l))∧Below w.heap.size w w'):=hf;have HA:Hid (IsL A):=hA;have HFM:Hid (qaL w):=hF;have d1:¬3<d:=by omega
 have d2:wrap64 (d+1)=d+1:=IntWalk.wrap64_in _ ⟨by omega,by omega⟩;have fl0:=qaf.fit h;unfold maxLen at fl0;have bD:=(Boxed.new w 3 (.int .i64 d)).alloc (.cells #[.bool false] 4);have bR:=Boxed.new (w.alloc (.cells #[.int .i64 d] 3)) 4 (.bool false);simp only[World.size_alloc]at bR;have hB0:Below w.heap.size w ((w.alloc (.cells #[.int .i64 d] 3)).alloc (.cells #[.bool false] 4)):=((Below.refl _ w).alloc (Nat.le_refl _) _).alloc (by simp) _;have HBD:Hid (Boxed _ _ _ _):=bD;have HBR:Hid (Boxed _ _ _ _):=bR;have HB0:Hid (Below _ _ _):=hB0;obtain⟨EV,hEV⟩:∃x,Pl.qbd f l=x:=⟨_,rfl⟩
 rw[hEV];have cD:=bD.cell;have cR:=bR.cell;have fR:=bR.frozen;clear h hf hA hF bD bR hB0;refine(callsIn_wide (n:=6)).1 ?_;have h1:1≤6:=by omega
 by_cases hlen:1≤l.length∧l.length≤5
 ·have HE:Hid (EV=l.all (fitQ f)):=by
   unfold Hid;rw[←hEV];unfold Pl.qbd;rw[decide_eq_true hlen,Bool.true_and];rfl
  have l1:¬(l.length:Int)<1:=by omega
  have l2:¬(5:Int)<(l.length:Int):=by omega
  clear hEV;refine callsIn_of_wp_marks Tryz.func93 rfl trivial ?_ rfl;simp only[Tryz.ntmps93,List.size_toArray,List.length_cons,List.length_nil,Nat.reduceAdd,Nat.reduceSub,Array.replicate_succ,Array.replicate_zero,List.push_toArray,List.append_toArray,List.nil_append,List.cons_append]
  gi_wp2
  generalize (w.alloc (.cells #[.int .i64 d] 3)).alloc (.cells #[.bool false] 4)=W1 at *;refine wpIn_loop (fun a' w'=>∃(k:Nat) (ds:List Deferred) (u6 u7 u23 u24 u25 u26 u27 u28 u29 u30 u31 u32 u33 u34 u35 u36 u37 u38 u39 u40 u41 u42:Value),(k≤l.length∧Hid ((l.take k).all (fitQ f)=true)∧Hid (Below w.heap.size w w')∧Hid (Boxed w' w.heap.size 3 (.int .i64 d))∧Hid (Boxed w' (w.heap.size+1) 4 (.bool false))∧Hid (Marks w.heap.size w' ds))∧a'={ tmps:= #[.slice a l.length c,.int .i64 d,undef,.pointer (some ⟨w.heap.size,0,none⟩),.pointer (some ⟨w.heap.size+1,0,none⟩),undef,u6,u7,.int .i64 d,.bool false,.bool false,.slice a l.length c,.int .i64 l.length,.bool false,.bool false,.bool false,.slice a l.length c,.int .i64 l.length,.bool false,.bool false,.slice a l.length c,.int .i64 l.length,.int .i64 k,u23,u24,u25,u26,u27,u28,u29,u30,u31,u32,u33,u34,u35,u36,u37,u38,u39,u40,u41,u42],defers:=ds }) (fun a' _=>l.length-(intOf (a'.tmps.getD 22 undef)).toNat) ?_ ?_
  ·exact⟨0,[],_,_,_,_,_,_,_,_,_,_,_,_,_,_,_,_,_,_,_,_,_,_,⟨Nat.zero_le _,by simp[Hid],HB0,HBD,HBR,Marks.nil _ _⟩,rfl⟩
  ·rintro a' wr ⟨k,ds,u6,u7,u23,u24,u25,u26,u27,u28,u29,u30,u31,u32,u33,u34,u35,u36,u37,u38,u39,u40,u41,u42,⟨hk,HT,HB,HD,HR,HM⟩,rfl⟩;dsimp only;clear cD cR fR;have cD:=HD.out.cell;have cR:=HR.out.cell;have fR:=HR.out.frozen
   by_cases hlt:k<l.length
   ·obtain⟨-,b,o,rfl,hc⟩:=qaf.at HL.out (by omega);obtain⟨vs,vl,n0,n1,rs,rl⟩:=(hc k hlt).on HA.out HB.out;obtain⟨ax,cx,rfl⟩:=rs.form;obtain⟨al,cl,rfl⟩:=rl.form;have i1:(0:Int)≤(k:Int):=by omega
    have i2:(k:Int)<(l.length:Int):=by omega
    have HBAD:Hid (fitQ f l[k]=false→EV=false):=fun h=>HE.out.trans (qbC hlt h)
    have HOK:Hid (fitQ f l[k]=true→(l.take (k+1)).all (fitQ f)=true):=fun h=>qbk hlt HT.out h
    clear hc HT;generalize l[k]=p at *;have hbx:=qac wr (.cells #[.slice ax p.steps.length cx,.slice al p.links.length cl] 64);have HRS:Hid (qaf (qa3 A) 2 wr (.slice ax p.steps.length cx) p.steps):=rs;have HPF:Hid (Calls Tryz.prog 126 _ _ _):=qhO HA.out _ _ p _ (rs.map fun b o x hx=>hx.on HA.out hbx) (rl.map fun b o x hx=>qab hbx hx);have HBx:Hid (Below wr.heap.size wr _):=hbx;obtain⟨x0,x1⟩:=Blk2p.new wr (.slice ax p.steps.length cx) (.slice al p.links.length cl);clear rs rl hbx
    gi_wp2_with fail
    generalize wr.alloc (.cells #[.slice ax p.steps.length cx,.slice al p.links.length cl] 64)=wa at *;obtain⟨bp,hbp⟩:∃y,Pl.pFits p=y:=⟨_,rfl⟩
    have hPF:=HPF.out;rw[hbp]at hPF;refine⟨trivial,(callsIn_wide.2 hPF).mono ?_⟩;rintro e wb ⟨rfl,hb⟩;have HBb:Hid (Below wr.heap.size wr wb):=qaa HBx.out hb;replace x0:=qab hb x0;replace x1:=qab hb x1;have HRb:Hid (Boxed wb (w.heap.size+1) 4 (.bool false)):=qaG HR.out HBb.out;have HDb:Hid (Boxed wb w.heap.size 3 (.int .i64 d)):=qaG HD.out HBb.out;have HMb:Hid (Marks w.heap.size wb ds):=HM.out.keeps (qaS HBb.out);have HBwb:Hid (Below w.heap.size w wb):=qaa HB.out HBb.out;clear hPF HPF HBx hb cD cR fR;have cD:=HDb.out.cell;have cR:=HRb.out.cell;have fR:=HRb.out.frozen
    cases bp with
    | false=>
     have HK:Hid (EV=false):=HBAD.out (by simp[fitQ,hbp])
     gi_wp2
     obtain⟨Ds,rfl,hnd,hDs⟩:=HMb.out.keeps (KeepsOthers.setCell wb ⟨w.heap.size+1,0,none⟩ (.bool false));refine qb5 (Nat.le_refl _) Ds _ hnd hDs fun W' hb hc=>⟨.bool false,?_,by rw[HK.out],(HBwb.out.setCell (p:=⟨w.heap.size+1,0,none⟩) (by simp) _).trans hb⟩
     have hc5:=hc ⟨w.heap.size+1,0,none⟩ _ (HRb.out.set (.bool false)).cell;simp[results,Tryz.results93,go_sem,hc5]
    | true=>
     gi_wp2_with (refine⟨trivial,?_⟩;gi_at_call 127;refine(qeV Fence.wide _ trivial rfl _ _ _).mono ?_;rintro e w' ⟨rfl,rfl⟩)
     have hB2:Below wr.heap.size wr (wb.alloc (.cells #[.slice ax p.steps.length cx,.slice al p.links.length cl] 64)):=qaa HBb.out (qac _ _);have d0:=(Blk2p.new wb (.slice ax p.steps.length cx) (.slice al p.links.length cl)).1;have hsz2:(wb.alloc (.cells #[.slice ax p.steps.length cx,.slice al p.links.length cl] 64)).heap.size=wb.heap.size+1:=by simp
     have hszb:=HBb.out.size;have hszr:=HB.out.size;have hszR:=HR.out.lt;generalize hW2:wb.alloc (.cells #[.slice ax p.steps.length cx,.slice al p.links.length cl] 64)=W2 at *;obtain⟨Ds,hds,hnd,hDs⟩:=HM.out;have hDlt:∀D∈Ds,D<wr.heap.size:=fun D hD=>(Array.getElem?_eq_some_iff.1 (hDs D hD).2).1
     have HDs:Hid (∀D∈Ds,w.heap.size≤D∧wr.heap[D]? =some (.deferred (some []))):=hDs;have HND:Hid Ds.Nodup:=hnd;have HDL:Hid (∀D∈Ds,D<wr.heap.size):=hDlt;have HPA:Hid (Pl.inner f p=p.tests.all (fitT f)):=rfl;subst hds;clear hnd hDs hDlt
     refine wpIn_rangeFunc_ownH rfl h1 (gf:=165) (lb:= #[.pointer (some ⟨wb.heap.size,0,none⟩)]) rfl trivial (enters_of Tryz.func165 (by kernel_rfl) rfl)
      (qcJ Fence.wide (6-1) trivial rfl (by omega) HA.out wb.heap.size wr p _ W2 hB2 (by omega) d0 HRS.out) belowK_t (belowK_b (by omega)) (Below.refl _ _) (fun _=>rfl)
      (fun pre W=>((pre.map XT.tst).all (fitT f)=true)∧Below wr.heap.size wr W)
      (fun c pre W=>((c=.ret∧(pre.map XT.tst).all (fitT f)=false)∧Boxed W (w.heap.size+1) 4 (.bool false))∧(Below w.heap.size w W∧∀D∈Ds,w.heap.size≤D∧W.heap[D]? =some (.deferred (some []))))
      (OwnFrom.and (ownFrom_pure _ _) (ownFrom_below (Nat.le_refl _) (by omega)))
      (fun c=>OwnFrom.and (OwnFrom.and (ownFrom_pure _ _) (Own.from (boxed_own _ _ _) _)) (OwnFrom.and (ownFrom_below (Nat.le_refl _) (by omega)) (qeY (fun D hD=>by have:=HDL.out D hD;omega))))
      ⟨by simp,hB2⟩
      (fun x a' W=>∃Bx au cu,wr.heap.size≤Bx∧(W.cell? ⟨Bx,0,none⟩=some (.int .i64 x.1.2.kind)∧W.cell? ⟨Bx,1,none⟩=some (.string ⟨x.1.2.name.toArray⟩)∧W.cell? ⟨Bx,2,none⟩=some (.string ⟨x.1.2.value.toArray⟩)∧W.cell? ⟨Bx,3,none⟩=some (.int .i64 x.1.2.a)∧W.cell? ⟨Bx,4,none⟩=some (.int .i64 x.1.2.b)∧W.cell? ⟨Bx,5,none⟩=some (.slice au x.1.2.list.length cu))∧A wr (.slice au x.1.2.list.length cu) x.1.2.list∧a'={ tmps:= #[.slice (some ⟨b,o,none⟩) l.length c,.int .i64 d,undef,.pointer (some ⟨w.heap.size,0,none⟩),.pointer (some ⟨w.heap.size+1,0,none⟩),undef,.pointer (some ⟨wr.heap.size,0,none⟩),.pointer (some ⟨Bx,0,none⟩),.int .i64 d,.bool false,.bool false,.slice (some ⟨b,o,none⟩) l.length c,.int .i64 l.length,.bool false,.bool false,.bool false,.slice (some ⟨b,o,none⟩) l.length c,.int .i64 l.length,.bool false,.bool false,.slice (some ⟨b,o,none⟩) l.length c,.int .i64 l.length,.int .i64 k,.bool true,.pointer (some ⟨b,o+k*2,none⟩),.agg #[.slice ax p.steps.length cx,.slice al p.links.length cl],.agg #[.slice ax p.steps.length cx,.slice al p.links.length cl],.bool true,.bool false,.agg #[.slice ax p.steps.length cx,.slice al p.links.length cl],.func (.func 165) #[] #[.pointer (some ⟨wb.heap.size,0,none⟩)],x.1.1,u32,u33,u34,u35,u36,u37,u38,u39,u40,u41,u42],defers:=[] })
      (fun x a' _ X Y row hs hg hr=>by obtain⟨Bx,au,cu,h1,⟨q0,q1,q2,q3,q4,q5⟩,h2,h3⟩:=hs;exact⟨Bx,au,cu,h1,⟨cell_kept q0 hg (fun r e=>(hr r e).2),cell_kept q1 hg (fun r e=>(hr r e).2),cell_kept q2 hg (fun r e=>(hr r e).2),cell_kept q3 hg (fun r e=>(hr r e).2),cell_kept q4 hg (fun r e=>(hr r e).2),cell_kept q5 hg (fun r e=>(hr r e).2)⟩,h2,h3⟩)
      ?assign ?body ?done ?stop
     case assign=>
      rintro lo pre x W K ⟨hp,hB⟩ hK;obtain⟨lv,hx,hal⟩:=x.2.1;obtain⟨au,cu,rfl,-⟩:=HA.out.form hal;have HXX:Hid _:=hx;have HAL:Hid _:=hal;dsimp only;rw[hx];clear hx hal
      gi_wp2
      exact hK _ _ ((KeepsOthers.alloc _ _).from _) ((Below.refl _ W).alloc hB.size _) ⟨hp,hB.alloc hB.size _⟩ ⟨W.heap.size,au,cu,hB.size,⟨(Blk6p.new W _ _ _ _ _ _).1,(Blk6q.new W _ _ _ _ _ _).1,(Blk6q.new W _ _ _ _ _ _).2.1,(Blk6q.new W _ _ _ _ _ _).2.2.1,(Blk6q.new W _ _ _ _ _ _).2.2.2,(Blk6p.new W _ _ _ _ _ _).2⟩,HAL.out,by rw[HXX.out]⟩
     case body=>
      rintro lo pre x a' W hl hr ⟨hp,hB⟩ ⟨Bx,au,cu,hBx,⟨q0,q1,q2,q3,q4,q5⟩,hal,rfl⟩ hlt;have HXT:Hid (fitT f x.tst=(!Pl.qbb x.1.2.kind||f x.1.2.list)):=rfl;generalize x.1.1=xv;generalize x.1.2=t at *;have HHL:Hid (Calls Tryz.prog 128 #[.agg #[.int .i64 t.kind,.string ⟨t.name.toArray⟩,.string ⟨t.value.toArray⟩,.int .i64 t.a,.int .i64 t.b,.slice au t.list.length cu]] W _):=qfV t.kind t.a t.b _ _ _ au t.list.length cu W rfl _ _ rfl rfl (HFM.out.on (qaa HB.out hB));have HAL:Hid (A W (.slice au t.list.length cu) t.list):=HA.out.on hal hB;have HPP:Hid _:=hp;have HBW:Hid (Below wr.heap.size wr W):=hB;have h1':1≤6-1-1:=by omega
      clear hp hal hB
      gi_wp2_with fail
      obtain⟨bl,hbl⟩:∃y,Pl.qbb t.kind=y:=⟨_,rfl⟩
      have hh:=HHL.out;rw[hbl]at hh;refine⟨trivial,(CallsIn.inRound lo (callsIn_wide.2 hh)).mono ?_⟩;rintro e w6 ⟨rfl,hb6⟩;have HB6:Hid (Below wr.heap.size wr w6):=qaa HBW.out hb6;replace q5:=qab hb6 q5;have hszW:=HBW.out.size;have HAL6:Hid (A w6 (.slice au t.list.length cu) t.list):=HA.out.on HAL.out hb6;have cD6:=(qaG HD.out HB6.out).cell;have cR6:=(qaG HR.out HB6.out).cell;have fR6:=(qaG HR.out HB6.out).frozen;have HK6:Hid (KeepsOthers W w6):=qaS hb6;have HW6:Hid (Below wr.heap.size W w6):=hb6.mono hszW;clear hh HHL hb6
      cases bl with
      | false=>
       gi_wp2
       refine⟨trivial,?_⟩
       gi_wp2
       exact⟨HK6.out.from _,HW6.out,by rw[List.map_append,List.all_append,HPP.out];simp[HXT.out,hbl],HB6.out⟩
      | true=>
       obtain⟨bf,hbf⟩:∃y,f t.list=y:=⟨_,rfl⟩
       have hcon:=HF.out w6 _ _ HAL6.out (HFM.out.on (qaa HB.out HB6.out));rw[hbf]at hcon;have HCON:Hid (Calls Tryz.prog 93 _ _ _):=hcon;clear hcon
       gi_wp2_with fail
       refine⟨trivial,(CallsIn.inRound lo (callsIn_wide.2 HCON.out)).mono ?_⟩;rintro e w7 ⟨rfl,hb7⟩;have HB7:Hid (Below wr.heap.size wr w7):=qaa HB6.out hb7;have HK7:Hid (KeepsOthers W w7):=HK6.out.trans (qaS hb7);have HW7:Hid (Below wr.heap.size W w7):=HW6.out.trans (hb7.mono HB6.out.size);have cR7:=(qaG HR.out HB7.out).cell;have fR7:=(qaG HR.out HB7.out).frozen;clear hb7
       cases bf with
       | true=>
        gi_wp2
        exact⟨HK7.out.from _,HW7.out,by rw[List.map_append,List.all_append,HPP.out];simp[HXT.out,hbf],HB7.out⟩
       | false=>
        gi_wp2
        exact⟨(HK7.out.trans (KeepsOthers.setCell _ _ _)).from _,⟨⟨rfl,by rw[List.map_append,List.all_append];simp[HXT.out,hbl,hbf]⟩,(qaG HR.out HB7.out).set _⟩,(qaa HB.out HB7.out).setCell (p:=⟨w.heap.size+1,0,none⟩) (by simp) _,fun D hD=>⟨(HDs.out D hD).1,(KeepsOthers.setCell _ _ _).same D _ ((HB7.out.block D (HDL.out D hD)).trans (HDs.out D hD).2) rfl⟩⟩
     case done=>
      rintro D ys W hD hys ⟨hp,hB⟩ hK;rw[hys]at hp;have HK:Hid ((l.take (k+1)).all (fitQ f)=true):=HOK.out (by unfold fitQ;rw[hbp,HPA.out,hp];rfl)
      gi_wp2
      refine⟨⟨k+1,_,_,_,_,_,_,_,_,_,_,_,_,_,_,_,_,_,_,_,_,_,_,_,⟨hlt,HK,qaa HB.out hB,qaG HD.out hB,qaG HR.out hB,⟨D::Ds,rfl,List.nodup_cons.2 ⟨fun hm=>by have:=HDL.out D hm;omega,HND.out⟩,fun E hE=>?_⟩⟩,rfl⟩,by simp[intOf];omega⟩
      rcases List.mem_cons.1 hE with rfl|hE
      ·exact⟨by omega,hK⟩
      ·exact⟨(HDs.out E hE).1,(hB.block E (HDL.out E hE)).trans (HDs.out E hE).2⟩
     case stop=>
      rintro D c pre W hD hpre ⟨⟨⟨rfl,hp⟩,hbx⟩,hB,hDW⟩ hK
      have hno:fitQ f p=false:=by
       unfold fitQ;obtain⟨rest,hrest⟩:=hpre;rw[HPA.out,←hrest,List.all_append,hp,hbp];rfl
      have HK:Hid (EV=false):=HBAD.out hno
      gi_wp2
      refine qb5 (Nat.le_refl _) (D::Ds) W (List.nodup_cons.2 ⟨fun hm=>by have:=HDL.out D hm;omega,HND.out⟩) (fun E hE=>?_) fun W' hb hc=>⟨.bool false,?_,by rw[HK.out],hB.trans hb⟩
      ·rcases List.mem_cons.1 hE with rfl|hE
       ·exact⟨by omega,hK⟩
       ·exact hDW E hE
      ·have hc5:=hc ⟨w.heap.size+1,0,none⟩ _ hbx.cell;simp[results,Tryz.results93,go_sem,hc5]
   ·have HE2:Hid (EV=true):=HE.out.trans (qbi hlt HT.out)
    gi_wp2
    obtain⟨Ds,rfl,hnd,hDs⟩:=HM.out.keeps (KeepsOthers.setCell wr ⟨w.heap.size+1,0,none⟩ (.bool true));refine qb5 (Nat.le_refl _) Ds _ hnd hDs fun W' hb hc=>⟨.bool true,?_,by rw[HE2.out],(HB.out.setCell (p:=⟨w.heap.size+1,0,none⟩) (by simp) _).trans hb⟩
    have hc5:=hc ⟨w.heap.size+1,0,none⟩ _ (HR.out.set (.bool true)).cell;simp[results,Tryz.results93,go_sem,hc5]
 ·have HE:Hid (EV=false):=by
   unfold Hid;rw[←hEV];unfold Pl.qbd;rw[decide_eq_false hlen];rfl
  clear hEV
  by_cases l1:(l.length:Int)<1
  ·refine callsIn_of_wp_marks Tryz.func93 rfl trivial ?_ rfl;simp only[Tryz.ntmps93,List.size_toArray,List.length_cons,List.length_nil,Nat.reduceAdd,Nat.reduceSub,Array.replicate_succ,Array.replicate_zero,List.push_toArray,List.append_toArray,List.nil_append,List.cons_append]
   gi_wp2
   exact⟨.bool false,by simp[results,Tryz.results93,go_sem],by rw[HE.out],HB0.out⟩
  ·have l2:(5:Int)<(l.length:Int):=by omega
   refine callsIn_of_wp_marks Tryz.func93 rfl trivial ?_ rfl;simp only[Tryz.ntmps93,List.size_toArray,List.length_cons,List.length_nil,Nat.reduceAdd,Nat.reduceSub,Array.replicate_succ,Array.replicate_zero,List.push_toArray,List.append_toArray,List.nil_append,List.cons_append]
   gi_wp2
   exact⟨.bool false,by simp[results,Tryz.results93,go_sem],by rw[HE.out],HB0.out⟩
attribute [local go_sem] Oper.semAt_some
def evQ {α:Type}(r:Pl.Pth α→Bool)(f:List α→Bool)(p:Pl.Pth α):Bool:=r p&&Pl.inner f p
theorem qcz (G:Nat)(hen:∀args W,(callFunc G args).run Tryz.prog W=.ok (.enter G args) W){α:Type}{A:MemL α}(hA:IsL A)(r:Pl.Pth α→Bool)(okP:Pl.Pth α→Prop)(ok:List α→Prop)(f:List α→Bool)
 (hr:∀W v u p,qaf (qa3 A) 2 W v p.steps→qaf qbe 1 W u p.links→qaL W→okP p→Calls Tryz.prog G #[.agg #[v,u]] W fun e w'=>e=.returned (.bool (r p))∧Below W.heap.size W w')
 (hf:∀w v l,A w v l→qaL w→ok l→Calls Tryz.prog 94 #[v,.func (.func G) #[] #[]] w fun e w'=>e=.returned (.bool (f l))∧Below w.heap.size w w') (w:World) (v:Value) (l:List (Pl.Pth α)) (h:qbp A w v l) (hF:qaL w) (hpo:∀p∈l,okP p) (hin:∀p∈l,∀t∈p.tests,Pl.qbb t.kind=true→ok t.list):
 Calls Tryz.prog 94 #[v,.func (.func G) #[] #[]] w fun e w'=>e=.returned (.bool (Pl.evUp r f l))∧Below w.heap.size w w':=by
 obtain⟨a,c,rfl⟩:=qaf.form h;have HL:Hid (qbp A w (.slice a l.length c) l):=h;have HRR:Hid (∀W v u p,qaf (qa3 A) 2 W v p.steps→qaf qbe 1 W u p.links→qaL W→okP p→Calls Tryz.prog G #[.agg #[v,u]] W fun e w'=>e=.returned (.bool (r p))∧Below W.heap.size W w'):=hr;have HF:Hid (∀w v l,A w v l→qaL w→ok l→Calls Tryz.prog 94 #[v,.func (.func G) #[] #[]] w fun e w'=>e=.returned (.bool (f l))∧Below w.heap.size w w'):=hf;have HA:Hid (IsL A):=hA;have HFM:Hid (qaL w):=hF;have HPO:Hid (∀p∈l,okP p):=hpo;have HIN:Hid (∀p∈l,∀t∈p.tests,Pl.qbb t.kind=true→ok t.list):=hin;have fl0:=qaf.fit h;unfold maxLen at fl0;have bD:=(Boxed.new w 135 (.func (.func G) #[] #[])).alloc (.cells #[.bool false] 4);have bR:=Boxed.new (w.alloc (.cells #[.func (.func G) #[] #[]] 135)) 4 (.bool false);simp only[World.size_alloc]at bR;have hB0:Below w.heap.size w ((w.alloc (.cells #[.func (.func G) #[] #[]] 135)).alloc (.cells #[.bool false] 4)):=((Below.refl _ w).alloc (Nat.le_refl _) _).alloc (by simp) _;have HBD:Hid (Boxed _ _ _ _):=bD;have HBR:Hid (Boxed _ _ _ _):=bR;have HB0:Hid (Below _ _ _):=hB0;obtain⟨EV,hEV⟩:∃x,Pl.evUp r f l=x:=⟨_,rfl⟩
 rw[hEV];have HE:Hid (EV=l.all (evQ r f)):=hEV.symm;have cD:=bD.cell;have cR:=bR.cell;have fR:=bR.frozen;clear h hr hf hA hF bD bR hB0 hpo hin hEV;refine(callsIn_wide (n:=6)).1 ?_;have h1:1≤6:=by omega
 refine callsIn_of_wp_marks Tryz.func94 rfl trivial ?_ rfl;simp only[Tryz.ntmps94,List.size_toArray,List.length_cons,List.length_nil,Nat.reduceAdd,Nat.reduceSub,Array.replicate_succ,Array.replicate_zero,List.push_toArray,List.append_toArray,List.nil_append,List.cons_append]
 gi_wp2
 generalize (w.alloc (.cells #[.func (.func G) #[] #[]] 135)).alloc (.cells #[.bool false] 4)=W1 at *;refine wpIn_loop (fun a' w'=>∃(k:Nat) (ds:List Deferred) (u6 u7 u11 u12 u13 u14 u15 u16 u17 u18 u19 u20 u21 u22 u23 u24 u25 u26 u27 u28 u29 u30:Value),(k≤l.length∧Hid ((l.take k).all (evQ r f)=true)∧Hid (Below w.heap.size w w')∧Hid (Boxed w' w.heap.size 135 (.func (.func G) #[] #[]))∧Hid (Boxed w' (w.heap.size+1) 4 (.bool false))∧Hid (Marks w.heap.size w' ds))∧a'={ tmps:= #[.slice a l.length c,.func (.func G) #[] #[],undef,.pointer (some ⟨w.heap.size,0,none⟩),.pointer (some ⟨w.heap.size+1,0,none⟩),undef,u6,u7,.slice a l.length c,.int .i64 l.length,.int .i64 k,u11,u12,u13,u14,u15,u16,u17,u18,u19,u20,u21,u22,u23,u24,u25,u26,u27,u28,u29,u30],defers:=ds }) (fun a' _=>l.length-(intOf (a'.tmps.getD 10 undef)).toNat) ?_ ?_
 ·exact⟨0,[],_,_,_,_,_,_,_,_,_,_,_,_,_,_,_,_,_,_,_,_,_,_,⟨Nat.zero_le _,by simp[Hid],HB0,HBD,HBR,Marks.nil _ _⟩,rfl⟩
 ·rintro a' wr ⟨k,ds,u6,u7,u11,u12,u13,u14,u15,u16,u17,u18,u19,u20,u21,u22,u23,u24,u25,u26,u27,u28,u29,u30,⟨hk,HT,HB,HD,HR,HM⟩,rfl⟩;dsimp only;clear cD cR fR;have cD:=HD.out.cell;have cR:=HR.out.cell;have fR:=HR.out.frozen
  by_cases hlt:k<l.length
  ·obtain⟨-,b,o,rfl,hc⟩:=qaf.at HL.out (by omega);obtain⟨vs,vl,n0,n1,rs,rl⟩:=(hc k hlt).on HA.out HB.out;obtain⟨ax,cx,rfl⟩:=rs.form;obtain⟨al,cl,rfl⟩:=rl.form;have i1:(0:Int)≤(k:Int):=by omega
   have i2:(k:Int)<(l.length:Int):=by omega
   have HBAD:Hid (evQ r f l[k]=false→EV=false):=fun h=>HE.out.trans (qbC hlt h)
   have HOK:Hid (evQ r f l[k]=true→(l.take (k+1)).all (evQ r f)=true):=fun h=>qbk hlt HT.out h
   have HOP:Hid (okP l[k]):=HPO.out _ (List.getElem_mem hlt);have HIP:Hid (∀t∈l[k].tests,Pl.qbb t.kind=true→ok t.list):=HIN.out _ (List.getElem_mem hlt);clear hc HT;generalize l[k]=p at *;have hbx:=qac wr (.cells #[.slice ax p.steps.length cx,.slice al p.links.length cl] 64);have HRS:Hid (qaf (qa3 A) 2 wr (.slice ax p.steps.length cx) p.steps):=rs;have HPF:Hid (Calls Tryz.prog G _ _ _):=HRR.out _ _ _ p (rs.map fun b o x hx=>hx.on HA.out hbx) (rl.map fun b o x hx=>qab hbx hx) (HFM.out.on (qaa HB.out hbx)) HOP.out;have HBx:Hid (Below wr.heap.size wr _):=hbx;obtain⟨x0,x1⟩:=Blk2p.new wr (.slice ax p.steps.length cx) (.slice al p.links.length cl);have cD2:=(HD.out.alloc (.cells #[.slice ax p.steps.length cx,.slice al p.links.length cl] 64)).cell;clear rs rl hbx
   gi_wp2_with fail
   generalize wr.alloc (.cells #[.slice ax p.steps.length cx,.slice al p.links.length cl] 64)=wa at *;obtain⟨bp,hbp⟩:∃y,r p=y:=⟨_,rfl⟩
   have hPF:=HPF.out;rw[hbp]at hPF;refine⟨trivial,(callsIn_wide.2 hPF).mono ?_⟩;rintro e wb ⟨rfl,hb⟩;have HBb:Hid (Below wr.heap.size wr wb):=qaa HBx.out hb;replace x0:=qab hb x0;replace x1:=qab hb x1;have HRb:Hid (Boxed wb (w.heap.size+1) 4 (.bool false)):=qaG HR.out HBb.out;have HDb:Hid (Boxed wb w.heap.size 135 (.func (.func G) #[] #[])):=qaG HD.out HBb.out;have HMb:Hid (Marks w.heap.size wb ds):=HM.out.keeps (qaS HBb.out);have HBwb:Hid (Below w.heap.size w wb):=qaa HB.out HBb.out;clear hPF HPF HBx hb cD cR fR;have cD:=HDb.out.cell;have cR:=HRb.out.cell;have fR:=HRb.out.frozen
   cases bp with
   | false=>
    have HK:Hid (EV=false):=HBAD.out (by simp[evQ,hbp])
    gi_wp2
    obtain⟨Ds,rfl,hnd,hDs⟩:=HMb.out.keeps (KeepsOthers.setCell wb ⟨w.heap.size+1,0,none⟩ (.bool false));refine qb5 (Nat.le_refl _) Ds _ hnd hDs fun W' hb hc=>⟨.bool false,?_,by rw[HK.out],(HBwb.out.setCell (p:=⟨w.heap.size+1,0,none⟩) (by simp) _).trans hb⟩
    have hc5:=hc ⟨w.heap.size+1,0,none⟩ _ (HRb.out.set (.bool false)).cell;simp[results,Tryz.results94,go_sem,hc5]
   | true=>
    gi_wp2_with (refine⟨trivial,?_⟩;gi_at_call 127;refine(qeV Fence.wide _ trivial rfl _ _ _).mono ?_;rintro e w' ⟨rfl,rfl⟩)
    have hB2:Below wr.heap.size wr (wb.alloc (.cells #[.slice ax p.steps.length cx,.slice al p.links.length cl] 64)):=qaa HBb.out (qac _ _);have d0:=(Blk2p.new wb (.slice ax p.steps.length cx) (.slice al p.links.length cl)).1;have hsz2:(wb.alloc (.cells #[.slice ax p.steps.length cx,.slice al p.links.length cl] 64)).heap.size=wb.heap.size+1:=by simp
    have hszb:=HBb.out.size;have hszr:=HB.out.size;have hszR:=HR.out.lt;generalize hW2:wb.alloc (.cells #[.slice ax p.steps.length cx,.slice al p.links.length cl] 64)=W2 at *;obtain⟨Ds,hds,hnd,hDs⟩:=HM.out;have hDlt:∀D∈Ds,D<wr.heap.size:=fun D hD=>(Array.getElem?_eq_some_iff.1 (hDs D hD).2).1
    have HDs:Hid (∀D∈Ds,w.heap.size≤D∧wr.heap[D]? =some (.deferred (some []))):=hDs;have HND:Hid Ds.Nodup:=hnd;have HDL:Hid (∀D∈Ds,D<wr.heap.size):=hDlt;have HPA:Hid (Pl.inner f p=p.tests.all (fitT f)):=rfl;subst hds;clear hnd hDs hDlt
    refine wpIn_rangeFunc_ownH rfl h1 (gf:=165) (lb:= #[.pointer (some ⟨wb.heap.size,0,none⟩)]) rfl trivial (enters_of Tryz.func165 (by kernel_rfl) rfl)
     (qcJ Fence.wide (6-1) trivial rfl (by omega) HA.out wb.heap.size wr p _ W2 hB2 (by omega) d0 HRS.out) belowK_t (belowK_b (by omega)) (Below.refl _ _) (fun _=>rfl)
     (fun pre W=>((pre.map XT.tst).all (fitT f)=true)∧Below wr.heap.size wr W)
     (fun c pre W=>((c=.ret∧(pre.map XT.tst).all (fitT f)=false)∧Boxed W (w.heap.size+1) 4 (.bool false))∧(Below w.heap.size w W∧∀D∈Ds,w.heap.size≤D∧W.heap[D]? =some (.deferred (some []))))
     (OwnFrom.and (ownFrom_pure _ _) (ownFrom_below (Nat.le_refl _) (by omega)))
     (fun c=>OwnFrom.and (OwnFrom.and (ownFrom_pure _ _) (Own.from (boxed_own _ _ _) _)) (OwnFrom.and (ownFrom_below (Nat.le_refl _) (by omega)) (qeY (fun D hD=>by have:=HDL.out D hD;omega))))
     ⟨by simp,hB2⟩
     (fun x a' W=>∃Bx au cu,wr.heap.size≤Bx∧(W.cell? ⟨Bx,0,none⟩=some (.int .i64 x.1.2.kind)∧W.cell? ⟨Bx,1,none⟩=some (.string ⟨x.1.2.name.toArray⟩)∧W.cell? ⟨Bx,2,none⟩=some (.string ⟨x.1.2.value.toArray⟩)∧W.cell? ⟨Bx,3,none⟩=some (.int .i64 x.1.2.a)∧W.cell? ⟨Bx,4,none⟩=some (.int .i64 x.1.2.b)∧W.cell? ⟨Bx,5,none⟩=some (.slice au x.1.2.list.length cu))∧A wr (.slice au x.1.2.list.length cu) x.1.2.list∧a'={ tmps:= #[.slice (some ⟨b,o,none⟩) l.length c,.func (.func G) #[] #[],undef,.pointer (some ⟨w.heap.size,0,none⟩),.pointer (some ⟨w.heap.size+1,0,none⟩),undef,.pointer (some ⟨wr.heap.size,0,none⟩),.pointer (some ⟨Bx,0,none⟩),.slice (some ⟨b,o,none⟩) l.length c,.int .i64 l.length,.int .i64 k,.bool true,.pointer (some ⟨b,o+k*2,none⟩),.agg #[.slice ax p.steps.length cx,.slice al p.links.length cl],.func (.func G) #[] #[],.agg #[.slice ax p.steps.length cx,.slice al p.links.length cl],.bool true,.bool false,.agg #[.slice ax p.steps.length cx,.slice al p.links.length cl],.func (.func 165) #[] #[.pointer (some ⟨wb.heap.size,0,none⟩)],x.1.1,u21,u22,u23,u24,u25,u26,u27,u28,u29,u30],defers:=[] })
     (fun x a' _ X Y row hs hg hr=>by obtain⟨Bx,au,cu,h1,⟨q0,q1,q2,q3,q4,q5⟩,h2,h3⟩:=hs;exact⟨Bx,au,cu,h1,⟨cell_kept q0 hg (fun r e=>(hr r e).2),cell_kept q1 hg (fun r e=>(hr r e).2),cell_kept q2 hg (fun r e=>(hr r e).2),cell_kept q3 hg (fun r e=>(hr r e).2),cell_kept q4 hg (fun r e=>(hr r e).2),cell_kept q5 hg (fun r e=>(hr r e).2)⟩,h2,h3⟩)
     ?assign ?body ?done ?stop
    case assign=>
     rintro lo pre x W K ⟨hp,hB⟩ hK;obtain⟨lv,hx,hal⟩:=x.2.1;obtain⟨au,cu,rfl,-⟩:=HA.out.form hal;have HXX:Hid _:=hx;have HAL:Hid _:=hal;dsimp only;rw[hx];clear hx hal
     gi_wp2
     exact hK _ _ ((KeepsOthers.alloc _ _).from _) ((Below.refl _ W).alloc hB.size _) ⟨hp,hB.alloc hB.size _⟩ ⟨W.heap.size,au,cu,hB.size,⟨(Blk6p.new W _ _ _ _ _ _).1,(Blk6q.new W _ _ _ _ _ _).1,(Blk6q.new W _ _ _ _ _ _).2.1,(Blk6q.new W _ _ _ _ _ _).2.2.1,(Blk6q.new W _ _ _ _ _ _).2.2.2,(Blk6p.new W _ _ _ _ _ _).2⟩,HAL.out,by rw[HXX.out]⟩
    case body=>
     rintro lo pre x a' W hl hr ⟨hp,hB⟩ ⟨Bx,au,cu,hBx,⟨q0,q1,q2,q3,q4,q5⟩,hal,rfl⟩ hlt;have HXT:Hid (fitT f x.tst=(!Pl.qbb x.1.2.kind||f x.1.2.list)):=rfl;have HXM:Hid (Pl.qbb x.1.2.kind=true→ok x.1.2.list):=HIP.out _ x.2.2;generalize x.1.1=xv;generalize x.1.2=t at *;have HHL:Hid (Calls Tryz.prog 128 #[.agg #[.int .i64 t.kind,.string ⟨t.name.toArray⟩,.string ⟨t.value.toArray⟩,.int .i64 t.a,.int .i64 t.b,.slice au t.list.length cu]] W _):=qfV t.kind t.a t.b _ _ _ au t.list.length cu W rfl _ _ rfl rfl (HFM.out.on (qaa HB.out hB));have HAL:Hid (A W (.slice au t.list.length cu) t.list):=HA.out.on hal hB;have HPP:Hid _:=hp;have HBW:Hid (Below wr.heap.size wr W):=hB;have h1':1≤6-1-1:=by omega
     clear hp hal hB
     gi_wp2_with fail
     obtain⟨bl,hbl⟩:∃y,Pl.qbb t.kind=y:=⟨_,rfl⟩
     have hh:=HHL.out;rw[hbl]at hh;refine⟨trivial,(CallsIn.inRound lo (callsIn_wide.2 hh)).mono ?_⟩;rintro e w6 ⟨rfl,hb6⟩;have HB6:Hid (Below wr.heap.size wr w6):=qaa HBW.out hb6;replace q5:=qab hb6 q5;have hszW:=HBW.out.size;have HAL6:Hid (A w6 (.slice au t.list.length cu) t.list):=HA.out.on HAL.out hb6;have cD6:=(qaG HD.out HB6.out).cell;have cR6:=(qaG HR.out HB6.out).cell;have fR6:=(qaG HR.out HB6.out).frozen;have HK6:Hid (KeepsOthers W w6):=qaS hb6;have HW6:Hid (Below wr.heap.size W w6):=hb6.mono hszW;clear hh HHL hb6
     cases bl with
     | false=>
      gi_wp2
      refine⟨trivial,?_⟩
      gi_wp2
      exact⟨HK6.out.from _,HW6.out,by rw[List.map_append,List.all_append,HPP.out];simp[HXT.out,hbl],HB6.out⟩
     | true=>
      obtain⟨bf,hbf⟩:∃y,f t.list=y:=⟨_,rfl⟩
      have hcon:=HF.out w6 _ _ HAL6.out (HFM.out.on (qaa HB.out HB6.out)) (HXM.out hbl);rw[hbf]at hcon;have HCON:Hid (Calls Tryz.prog 94 _ _ _):=hcon;clear hcon
      gi_wp2_with fail
      refine⟨trivial,(CallsIn.inRound lo (callsIn_wide.2 HCON.out)).mono ?_⟩;rintro e w7 ⟨rfl,hb7⟩;have HB7:Hid (Below wr.heap.size wr w7):=qaa HB6.out hb7;have HK7:Hid (KeepsOthers W w7):=HK6.out.trans (qaS hb7);have HW7:Hid (Below wr.heap.size W w7):=HW6.out.trans (hb7.mono HB6.out.size);have cR7:=(qaG HR.out HB7.out).cell;have fR7:=(qaG HR.out HB7.out).frozen;clear hb7
      cases bf with
      | true=>
       gi_wp2
       exact⟨HK7.out.from _,HW7.out,by rw[List.map_append,List.all_append,HPP.out];simp[HXT.out,hbf],HB7.out⟩
      | false=>
       gi_wp2
       exact⟨(HK7.out.trans (KeepsOthers.setCell _ _ _)).from _,⟨⟨rfl,by rw[List.map_append,List.all_append];simp[HXT.out,hbl,hbf]⟩,(qaG HR.out HB7.out).set _⟩,(qaa HB.out HB7.out).setCell (p:=⟨w.heap.size+1,0,none⟩) (by simp) _,fun D hD=>⟨(HDs.out D hD).1,(KeepsOthers.setCell _ _ _).same D _ ((HB7.out.block D (HDL.out D hD)).trans (HDs.out D hD).2) rfl⟩⟩
    case done=>
     rintro D ys W hD hys ⟨hp,hB⟩ hK;rw[hys]at hp;have HK:Hid ((l.take (k+1)).all (evQ r f)=true):=HOK.out (by unfold evQ;rw[hbp,HPA.out,hp];rfl)
     gi_wp2
     refine⟨⟨k+1,_,_,_,_,_,_,_,_,_,_,_,_,_,_,_,_,_,_,_,_,_,_,_,⟨hlt,HK,qaa HB.out hB,qaG HD.out hB,qaG HR.out hB,⟨D::Ds,rfl,List.nodup_cons.2 ⟨fun hm=>by have:=HDL.out D hm;omega,HND.out⟩,fun E hE=>?_⟩⟩,rfl⟩,by simp[intOf];omega⟩
     rcases List.mem_cons.1 hE with rfl|hE
     ·exact⟨by omega,hK⟩
     ·exact⟨(HDs.out E hE).1,(hB.block E (HDL.out E hE)).trans (HDs.out E hE).2⟩
    case stop=>
     rintro D c pre W hD hpre ⟨⟨⟨rfl,hp⟩,hbx⟩,hB,hDW⟩ hK
     have hno:evQ r f p=false:=by
      unfold evQ;obtain⟨rest,hrest⟩:=hpre;rw[HPA.out,←hrest,List.all_append,hp,hbp];rfl
     have HK:Hid (EV=false):=HBAD.out hno
     gi_wp2
     refine qb5 (Nat.le_refl _) (D::Ds) W (List.nodup_cons.2 ⟨fun hm=>by have:=HDL.out D hm;omega,HND.out⟩) (fun E hE=>?_) fun W' hb hc=>⟨.bool false,?_,by rw[HK.out],hB.trans hb⟩
     ·rcases List.mem_cons.1 hE with rfl|hE
      ·exact⟨by omega,hK⟩
      ·exact hDW E hE
     ·have hc5:=hc ⟨w.heap.size+1,0,none⟩ _ hbx.cell;simp[results,Tryz.results94,go_sem,hc5]
  ·have HE2:Hid (EV=true):=HE.out.trans (qbi hlt HT.out)
   gi_wp2
   obtain⟨Ds,rfl,hnd,hDs⟩:=HM.out.keeps (KeepsOthers.setCell wr ⟨w.heap.size+1,0,none⟩ (.bool true));refine qb5 (Nat.le_refl _) Ds _ hnd hDs fun W' hb hc=>⟨.bool true,?_,by rw[HE2.out],(HB.out.setCell (p:=⟨w.heap.size+1,0,none⟩) (by simp) _).trans hb⟩
   have hc5:=hc ⟨w.heap.size+1,0,none⟩ _ (HR.out.set (.bool true)).cell;simp[results,Tryz.results94,go_sem,hc5]
end Go.Proofs.YtephhllfodlfbaaGreatDoor
