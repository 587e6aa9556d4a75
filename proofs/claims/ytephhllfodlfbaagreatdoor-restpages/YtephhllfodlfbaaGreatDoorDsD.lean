/-
  plain.plainerPath: its steps lie in a row of its own, each step in blocks of its own.
-/
import Derived.Test.YtephhllfodlfbaaGreatDoorStL
import Derived.Test.YtephhllfodlfbaaGreatDoorOwD
set_option maxRecDepth 100000
set_option maxHeartbeats 16000000
namespace Go.Proofs.YtephhllfodlfbaaGreatDoor
open Go.RowKit
theorem qcL.drewD {α:Type}{A:MemL α}(hS:qaK A){M:Nat}{w:World}{ss:List (Pl.Stp α)}{u lv:Value}(h:qcL A M w ss u lv):qcL A M w.drew ss u lv:=
 ⟨h.box,h.row.move (qcg hS) fun _ _ _=>rfl⟩
def StepC2 {α:Type}[DecidableEq α](A0 A:MemL α)(L:Pl.Lev α):Prop:=∀(a:Option Addr) (c:Nat) (s:Pl.Stp α) (w:World),qaf (qaF A0) 6 w (.slice a s.tests.length c) s.tests→Pl.okS L.W s→
 Calls Tryz.prog 140 #[.agg #[.string ⟨s.tag.toArray⟩,.slice a s.tests.length c]] w fun e w'=>∃a' c',e=.returned (.agg #[.string ⟨(Pl.plS L.f L.only s).tag.toArray⟩,.slice a' (Pl.plS L.f L.only s).tests.length c'])∧Grow (frm w.heap.size) w.heap.size 71 6 (VT A) w' (.slice a' (Pl.plS L.f L.only s).tests.length c') (Pl.plS L.f L.only s).tests∧Below w.heap.size w w'
def PathC2 {α:Type}[DecidableEq α](A0 A:MemL α)(L:Pl.Lev α):Prop:=∀(as_ al:Option Addr) (cs cl:Nat) (p:Pl.Pth α) (w:World),qaf (qa3 A0) 2 w (.slice as_ p.steps.length cs) p.steps→qaf qbe 1 w (.slice al p.links.length cl) p.links→Pl.okP L.W p→
 Calls Tryz.prog 106 #[.agg #[.slice as_ p.steps.length cs,.slice al p.links.length cl]] w fun e w'=>∃a1 c1 a2 c2,e=.returned (.agg #[.slice a1 (Pl.plP L.f L.only p).steps.length c1,.slice a2 (Pl.plP L.f L.only p).links.length c2])∧VPd A (mask (frm w.heap.size) w') [.slice a1 (Pl.plP L.f L.only p).steps.length c1,.slice a2 (Pl.plP L.f L.only p).links.length c2] (Pl.plP L.f L.only p)∧Below w.heap.size w w'
section
variable {β:Type} {P:Nat→Bool} {B:Nat} {e:TypeId} {k:Nat} {V:World→List Value→β→Prop}
theorem step_growD (hV:IsVB k V){T:TypeId}{z:Value}{bytes:Nat}(hT:Tryz.prog.underlying T=some (.slice e))(hinf:(Tryz.prog.info? e).map (fun i=>(i.zero,i.size,i.bytes))=some (some z,k,bytes))(hz:z.cells.size=k)(hk:0<k)(hby:64*bytes≤140737488355328)
 {ops:Array Oper} {o:Oper} {a:Act} {K:Act→World→Prop} {Q:Exit→Act→World→Prop} {R:Prop} {w0 w2:World} {v:Value} {l:List β} {x:β} {news:List Value} (hgd:o.guard=none) (s t:Operand)
 (ho:o.op=.call { callee:=.builtin .append,args:= #[s,t],argTypes:= #[T,T] }) (hs:a.eval s=v) (hx:a.eval t=.slice (some ⟨w2.heap.size,0,none⟩) 1 1)
 (hold:qa4 P B e k V w0 v l) (hb2:∀j,j<w0.heap.size→w2.heap[j]? =w0.heap[j]?) (hsz:w0.heap.size≤w2.heap.size) (hnew:V (mask (fun j=>P j&&decide (w0.heap.size≤j)) w2) news x) (hone:∀u∈news,u.oneCell'=true) (hlen:l.length+1≤64) (hB:B≤w2.heap.size) (hPH:P (w2.heap.size+1)=true)
 (h:∀g cap w',qa4 P B e k V w' (.slice (some ⟨g,0,none⟩) (l.length+1) cap) (l++[x])→(w2.alloc (.cells news.toArray e)).grownBy w' v.ownBlock→(v.ownBlock=some g∨g=w2.heap.size+1)→K (a.put o.dst (.slice (some ⟨g,0,none⟩) (l.length+1) cap)) w'):
 if Region.wanted o (yielded ops a.tmps)=true then Oper.wp Tryz.prog o a (w2.alloc (.cells news.toArray e)) K Q else R:=by
 obtain⟨own,xs,hown,hPo,hvs⟩:=hold;obtain⟨i0,hi,hz0,hz1,hz2⟩:=info_parts hinf;have hb:=qac w2 (.cells news.toArray e)
 have hown1:(w2.alloc (.cells news.toArray e)).ownsRow B e k v l.length xs:=by
  refine⟨hown.1,?_⟩
  rcases hown.2 with h1|⟨g,cap,cur,e1,e2,e3,e4⟩
  ·exact Or.inl h1
  ·have hgl:=(Array.getElem?_eq_some_iff.1 e3).1;exact Or.inr ⟨g,cap,cur,e1,e2,((hb.block g (by omega)).trans (hb2 g hgl)).trans e3,e4⟩
 have hbytes:(l.length+1)*bytes≤140737488355328:=Nat.le_trans (Nat.mul_le_mul_right bytes hlen) hby;refine step_append_lies _ hgd s t T ho B e i0 z k bytes hT hi hz0 hz1 hz2 hz hk v l.length xs hs hown1 ⟨w2.heap.size,0,none⟩ 1 1 news hx (by rw[hV.len hnew];omega) (World.news_of_block (heap_alloc_new w2 _)) hone (by omega) (by unfold maxLen;omega) hbytes (by simp;omega) (w2.heap.size+1) (by simp) ?_;intro g cap w' h1 h2 h3 _;exact h g cap w' (qa4.next hV hown hPo hvs hb2 hsz hnew hPH h1 h2 h3) h2 h3
end
theorem path_str {α:Type}[DecidableEq α]{A0 A:MemL α}(hA0:IsL A0)(hS:qaK A)(L:Pl.Lev α)(hStep:StepC2 A0 A L):PathC2 A0 A L:=by
 intro as_ al cs cl p w hrow hlinks hok;have HOK:Hid (Pl.okP L.W p):=hok;have HROW:Hid (qaf (qa3 A0) 2 w (.slice as_ p.steps.length cs) p.steps):=hrow;have h5:=hok.2.1;have H64:Hid (p.links.length≤64):=by unfold Hid;have:=hok.2.2.1;omega
 have hb1:=qac w (.cells #[.slice as_ p.steps.length cs,.slice al p.links.length cl] 64);have hb2:=qac (w.alloc (.cells #[.slice as_ p.steps.length cs,.slice al p.links.length cl] 64)) (.cells #[.slice none 0 0,.slice none 0 0] 64);have HLNK:Hid (qaf qbe 1 ((w.alloc (.cells #[.slice as_ p.steps.length cs,.slice al p.links.length cl] 64)).alloc (.cells #[.slice none 0 0,.slice none 0 0] 64)) (.slice al p.links.length cl) p.links):=hlinks.map fun _ _ _ hx=>qab hb2 (qab hb1 hx)
 have HX1:Hid (((w.alloc (.cells #[.slice as_ p.steps.length cs,.slice al p.links.length cl] 64)).alloc (.cells #[.slice none 0 0,.slice none 0 0] 64)).heap[w.heap.size]? =some (.cells #[.slice as_ p.steps.length cs,.slice al p.links.length cl] 64)):=hblk (heap_alloc_new w _) hb2
 have HX2:Hid (((w.alloc (.cells #[.slice as_ p.steps.length cs,.slice al p.links.length cl] 64)).alloc (.cells #[.slice none 0 0,.slice none 0 0] 64)).heap[w.heap.size+1]? =some (.cells #[.slice none 0 0,.slice none 0 0] 64)):=by
  have h1:=heap_alloc_new (w.alloc (.cells #[.slice as_ p.steps.length cs,.slice al p.links.length cl] 64)) (.cells #[.slice none 0 0,.slice none 0 0] 64);unfold Hid
  simpa using h1
 have HZ:Hid (((w.alloc (.cells #[.slice as_ p.steps.length cs,.slice al p.links.length cl] 64)).alloc (.cells #[.slice none 0 0,.slice none 0 0] 64)).heap.size=w.heap.size+2):=by unfold Hid;simp
 have HB0:Hid (Below w.heap.size w ((w.alloc (.cells #[.slice as_ p.steps.length cs,.slice al p.links.length cl] 64)).alloc (.cells #[.slice none 0 0,.slice none 0 0] 64))):=((Below.refl w.heap.size w).alloc (Nat.le_refl _) _).alloc (by simp) _;clear hrow hlinks hok hb1 hb2;go_enter Tryz.func106,Tryz.ntmps106
 go_wp2_with (at_builtin;refine Hid.out ?_)
 unfold Hid;refine qhQ rfl (.const (.slice none 0 0)) (.tmp 7) rfl rfl (.slice al p.links.length cl) p.links rfl ?_ H64.out ?_
 ·exact HLNK.out
 intro a2 c2 wB hr2 hbB;clear HLNK;generalize (w.alloc (.cells #[.slice as_ p.steps.length cs,.slice al p.links.length cl] 64)).alloc (.cells #[.slice none 0 0,.slice none 0 0] 64)=wA at *;have HR2:Hid _:=hr2;have HBB:Hid _:=hbB;have HX1B:Hid _:=hblk HX1.out hbB;have x0:=(res38 HX1B.out).1;have x0a:=qab (qac wB (.cells #[.slice none 0 0,.slice a2 p.links.length c2] 64)) x0;have hbA:=qac wB (.cells #[.slice none 0 0,.slice a2 p.links.length c2] 64);have HB3:Hid (Below w.heap.size w (wB.alloc (.cells #[.slice none 0 0,.slice a2 p.links.length c2] 64))):=(qaa HB0.out hbB).trans (hbA.mono (qaa HB0.out hbB).size);have HX23:Hid ((wB.alloc (.cells #[.slice none 0 0,.slice a2 p.links.length c2] 64)).heap[w.heap.size+1]? =some (.cells #[.slice none 0 0,.slice none 0 0] 64)):=hblk (hblk HX2.out hbB) hbA;have HM0:Hid (qcL A wB.heap.size (wB.alloc (.cells #[.slice none 0 0,.slice a2 p.links.length c2] 64)) (stTo L p.steps 0) (.slice none 0 0) (.slice a2 p.links.length c2)):=⟨heap_alloc_new wB _,qa4.nil _ _ _ _ _ _⟩
 have HLK3:Hid (qaf IntS 1 (mask (frm wA.heap.size) wB) (.slice a2 p.links.length c2) p.links):=hr2;have HBA:Hid _:=hbA;clear hr2 hbB hbA;go_wp2;have hBz:wB.heap.size≥w.heap.size+2:=by have:=HBB.out.size;have:=HZ.out;omega
 have HBZ:Hid (wB.heap.size≥w.heap.size+2):=hBz;have HZ3:Hid ((wB.alloc (.cells #[.slice none 0 0,.slice a2 p.links.length c2] 64)).heap.size=wB.heap.size+1):=by unfold Hid;simp
 have HBLK:Hid (∀j,j<wB.heap.size→(wB.alloc (.cells #[.slice none 0 0,.slice a2 p.links.length c2] 64)).heap[j]? =wB.heap[j]?):=fun j hj=>HBA.out.block j hj
 clear x0 x0a HBA HX1B HX1 HX2 hBz HBB;generalize wB.alloc (.cells #[.slice none 0 0,.slice a2 p.links.length c2] 64)=w3 at *;obtain⟨M,hM⟩:∃q,q=wB.heap.size:=⟨_,rfl⟩
 rw[←hM]at HM0 HBZ HZ3 HBLK ⊢;have HMB:Hid _:=hM;clear hM
 go_loopw [13] (fun i wr=>∃k:Nat,k≤p.steps.length∧i=.int .i64 k∧Hid (∃au cu,qcL A M wr (stTo L p.steps k) (.slice au (stTo L p.steps k).length cu) (.slice a2 p.links.length c2))∧Hid (FrA (M+1) M w3 wr)) (fun i _=>p.steps.length-(intOf i).toNat)
 case atStart=>exact⟨0,Nat.zero_le _,rfl,⟨none,0,HM0.out⟩,FrA.refl _ _ _⟩
 case round=>
  obtain⟨k,hk,rfl,HMk,HFk⟩:=hrel;obtain⟨au,cu,hmk⟩:=HMk.out;have HM:Hid (qcL A M wr (stTo L p.steps k) (.slice au (stTo L p.steps k).length cu) (.slice a2 p.links.length c2)):=hmk;clear HMk hmk;have HBW:Hid (Below w.heap.size w wr):=HFk.out.belowW HB3.out (by have:=HBZ.out;omega) (by have:=HBZ.out;omega)
  by_cases hlt:k<p.steps.length
  ·as_aux_lemma=>
   obtain⟨a',c',e',-,hcs⟩:=HROW.out;injection e' with e1 _ e3;subst e1 e3
   rcases hcs with h0|⟨b,o,rfl,hc⟩
   ·rw[h0]at hlt;simp at hlt
   obtain⟨vv,n0,n1,hm5⟩:=hc k hlt;obtain⟨at_,ct,rfl⟩:=hm5.form;replace n0:=qab HBW.out n0;replace n1:=qab HBW.out n1;have hoks:=HOK.out.2.2.2 p.steps[k] (List.getElem_mem hlt);have HNX:Hid _:=stTo_next (L:=L) hlt;have HLN:Hid ((stTo L p.steps k).length+1≤64):=by unfold Hid;have:=stTo_len L p.steps k;omega
   have i1:(0:Int)≤(k:Int):=by omega
   have i2:(k:Int)<(p.steps.length:Int):=by omega
   clear hc;generalize p.steps[k]=s at *;generalize stTo L p.steps k=done at *;have hba:=qac wr (.cells #[.string ⟨s.tag.toArray⟩,.slice at_ s.tests.length ct] 67);have H5:Hid ((wr.alloc (.cells #[.string ⟨s.tag.toArray⟩,.slice at_ s.tests.length ct] 67)).heap[wr.heap.size]? =some (.cells #[.string ⟨s.tag.toArray⟩,.slice at_ s.tests.length ct] 67)):=heap_alloc_new wr _;have HMA:Hid (qcL A M (wr.alloc (.cells #[.string ⟨s.tag.toArray⟩,.slice at_ s.tests.length ct] 67)) done (.slice au done.length cu) (.slice a2 p.links.length c2)):=HM.out.on hS hba;have HFA:Hid (FrA (M+1) M w3 (wr.alloc (.cells #[.string ⟨s.tag.toArray⟩,.slice at_ s.tests.length ct] 67))):=HFk.out.trans (FrA.below hba HM.out.sz);have HC:Hid (Calls Tryz.prog 140 _ _ _):=hStep at_ ct s (wr.alloc (.cells #[.string ⟨s.tag.toArray⟩,.slice at_ s.tests.length ct] 67)).drew (hm5.map fun _ _ _ hq=>((hq.on hA0 (qaa HBW.out hba)).on hA0 (show Below (wr.alloc (.cells #[.string ⟨s.tag.toArray⟩,.slice at_ s.tests.length ct] 67)).heap.size (wr.alloc (.cells #[.string ⟨s.tag.toArray⟩,.slice at_ s.tests.length ct] 67)) (wr.alloc (.cells #[.string ⟨s.tag.toArray⟩,.slice at_ s.tests.length ct] 67)).drew from (Below.refl _ _).drew))) hoks;have HOW:Hid (∀j,(.slice au done.length cu:Value).ownBlock=some j→j<(wr.alloc (.cells #[.string ⟨s.tag.toArray⟩,.slice at_ s.tests.length ct] 67)).heap.size):=fun j hj=>(HMA.out.row.own j hj).2.2
   clear hm5 hoks hba HM HFk HBW;obtain⟨wq,hwq⟩:∃q,q=wr:=⟨_,rfl⟩
   subst hwq;generalize hq:Pl.plS L.f L.only s=q at *;clear hq
   go_wp2_with fail
   clear n0 n1;generalize wq.alloc (.cells #[.string ⟨s.tag.toArray⟩,.slice at_ s.tests.length ct] 67)=wa at *;have HMD:Hid (qcL A M wa.drew done (.slice au done.length cu) (.slice a2 p.links.length c2)):=HMA.out.drewD hS;have HFD:Hid (FrA (M+1) M w3 wa.drew):=HFA.out.drew;obtain⟨b0,b1,b2,b3⟩:=res38 HMD.out.box;obtain⟨v0,v1⟩:=f2 (W:=wa.drew) H5.out;clear HMA HFA H5
   have HARM:Hid (∀(a6:Option Addr) (c6:Nat) (w6:World),Grow (frm wa.drew.heap.size) wa.drew.heap.size 71 6 (VT A) w6 (.slice a6 q.tests.length c6) q.tests→Below wa.drew.heap.size wa.drew w6→qcL A M w6 done (.slice au done.length cu) (.slice a2 p.links.length c2)∧FrA (M+1) M w3 w6∧VSd A (mask (fun j=>frm (M+1) j&&decide (wa.drew.heap.size≤j)) w6) [.string ⟨q.tag.toArray⟩,.slice a6 q.tests.length c6] q∧M+1≤w6.heap.size∧frm (M+1) (w6.heap.size+1)=true∧(∀j,j<wa.drew.heap.size→w6.heap[j]? =wa.drew.heap[j]?)∧wa.drew.heap.size≤w6.heap.size):=by
    intro a6 c6 w6 hr6 hb6;have hsz:=HMD.out.sz
    change M+1≤wa.heap.size at hsz
    have h6:=HMD.out.on hS hb6;refine⟨h6,HFD.out.trans (FrA.below hb6 HMD.out.sz),⟨_,wa.drew.heap.size,rfl,hr6.masked (qba hS) fun j hj _=>?_⟩,h6.sz,?_,fun j hj=>hb6.block j hj,hb6.size⟩
    ·simp only[frm,decide_eq_true_eq,Bool.and_eq_true]at hj ⊢
     change wa.heap.size≤j at hj
     exact⟨by omega,hj⟩
    ·have:=h6.sz;simp only[frm,decide_eq_true_eq];omega
   go_region_law (first|(go_simp;go_at_call 140;refine HC.out.mono ?_;rintro e w6 ⟨a6,c6,rfl,hr6,hb6⟩;have HAR:Hid _:=HARM.out a6 c6 w6 hr6 hb6;have z6:=(res38 HAR.out.1.box).1;have z6a:=qab (qac w6 (.cells #[.string ⟨q.tag.toArray⟩,.slice a6 q.tests.length c6] 67)) z6;clear hr6 hb6)|(refine step_growD (P:=frm (M+1)) (B:=(M+1)) (qcg hS) Tryz.underlying62 infS rfl (by decide) (by decide) (w0:=wa.drew) (w2:=w6) (v:=.slice au done.length cu) (l:=done) (x:=q) (news:=[.string ⟨q.tag.toArray⟩,.slice a6 q.tests.length c6]) rfl (.tmp 18) (.tmp 21) rfl rfl rfl HMD.out.row HAR.out.2.2.2.2.2.1 HAR.out.2.2.2.2.2.2 HAR.out.2.2.1 (by intro u hu;simp only[List.mem_cons,List.not_mem_nil,or_false]at hu;rcases hu with rfl|rfl<;>rfl) HLN.out HAR.out.2.2.2.1 HAR.out.2.2.2.2.1 ?_;intro g cap w7 hrow' hgr _;have HPUT:=HAR.out.1.put hS (qac w6 _) hgr hrow';have z7:=HPUT.2.2.1;have zf7:=HPUT.2.2.2))
   all_goals
    have HM7:Hid (∃au cu,qcL A M (w7.setCell ⟨M,0,none⟩ (.slice (some ⟨g,0,none⟩) (done.length+1) cap)) (stTo L p.steps (k+1)) (.slice au (stTo L p.steps (k+1)).length cu) (.slice a2 p.links.length c2)):=by
     unfold Hid;rw[HNX.out];refine⟨some ⟨g,0,none⟩,cap,?_⟩;rw[List.length_append];exact HPUT.1
    have HF7:Hid (FrA (M+1) M w3 _):=HAR.out.2.1.trans HPUT.2.1;clear HPUT hrow' hgr z7 zf7 HAR;go_wp2;exact⟨⟨k+1,hlt,by go_num,HM7,HF7⟩,by simp[intOf];omega⟩
  ·as_aux_lemma=>
   have hke:k=p.steps.length:=by omega
   subst hke;have HPT:Hid ((Pl.plP L.f L.only p).steps=stTo L p.steps p.steps.length∧(Pl.plP L.f L.only p).links=p.links):=⟨by unfold stTo Pl.plP;rw[List.take_length],rfl⟩
   have HX2k:Hid (wr.heap[w.heap.size+1]? =some (.cells #[.slice none 0 0,.slice none 0 0] 64)):=HFk.out.blkAt HX23.out (by have:=HBZ.out;omega) (by have:=HBZ.out;omega);have hln:=stTo_len L p.steps p.steps.length;have HLN:Hid ((stTo L p.steps p.steps.length).length≤64):=by unfold Hid;omega
   clear hln;generalize stTo L p.steps p.steps.length=done at *;obtain⟨b0,b1,b2,b3⟩:=res38 HM.out.box;obtain⟨g0,g1,g2,g3⟩:=res38 HX2k.out;have Z2:=b38 HX2k.out (.slice au done.length cu) (.slice a2 p.links.length c2);obtain⟨z0,z1,-,-⟩:=res38 Z2
   have HR1:Hid (∀z:Pl.Pth α,z.steps=done→z.links=p.links→VPd A (mask (frm w.heap.size) ((wr.setCell ⟨w.heap.size+1,0,none⟩ (.slice au done.length cu)).setCell ⟨w.heap.size+1,1,none⟩ (.slice a2 p.links.length c2))) [.slice au done.length cu,.slice a2 p.links.length c2] z):=fun z hz1 hz2=>by
    have hz:=HBZ.out;refine⟨_,_,M+1,rfl,?_,?_⟩
    ·rw[hz1];refine qa4.masked (qcg hS) (HM.out.row.move (qcg hS) fun j hj _=>?_) fun j hj _=>?_
     ·simp only[frm,decide_eq_true_eq]at hj;rw[Below.heap_setCell _ _ _ _ (by show j≠w.heap.size+1;omega),Below.heap_setCell _ _ _ _ (by show j≠w.heap.size+1;omega)]
     ·simp only[frm,decide_eq_true_eq]at hj ⊢;omega
    ·rw[hz2,qaU];refine qfY HLK3.out (qam fun j hj hjl=>?_);have hzz:=HZ.out;have hmb:=HMB.out;simp only[frm,decide_eq_true_eq,Bool.and_eq_true]at hj ⊢;refine⟨by omega,?_⟩;rw[Below.heap_setCell _ _ _ _ (by show j≠w.heap.size+1;omega),Below.heap_setCell _ _ _ _ (by show j≠w.heap.size+1;omega),HFk.out.blk j (by omega) (by omega)];exact HBLK.out j (by omega)
   have HBE:Hid (Below w.heap.size w ((wr.setCell ⟨w.heap.size+1,0,none⟩ (.slice au done.length cu)).setCell ⟨w.heap.size+1,1,none⟩ (.slice a2 p.links.length c2))):=(HBW.out.setCell (p:=⟨w.heap.size+1,0,none⟩) (by show w.heap.size≤w.heap.size+1;omega) _).setCell (p:=⟨w.heap.size+1,1,none⟩) (by show w.heap.size≤w.heap.size+1;omega) _;have HZ0':Hid _:=z0;have HZ1':Hid _:=z1;clear Z2 z0 z1;go_wp2;have z0:=HZ0'.out;have z1:=HZ1'.out
   exact bodyPost_ret (v:=.agg #[.slice au done.length cu,.slice a2 p.links.length c2]) (by simp[results,Tryz.results106,go_sem,z0,z1]) rfl (by
    rw[show (Pl.plP L.f L.only p).steps.length=done.length by rw[HPT.out.1],show (Pl.plP L.f L.only p).links.length=p.links.length by rw[HPT.out.2]]
    exact⟨au,cu,a2,c2,rfl,HR1.out _ HPT.out.1 HPT.out.2,HBE.out⟩)
section
variable {α:Type} [DecidableEq α] {A:MemL α} (hA:IsL A) (W0:List α→Prop) (hS:∀(w:World) (v1 v2:Value) (l m:List α),A w v1 l→A w v2 m→W0 l→W0 m→Calls Tryz.prog 19 #[v1,v2] w fun e w'=>e=.returned (.bool (sm l m))∧Below w.heap.size w w')
include hA hS
theorem dSameT_any (w:World)(vx vy:Value)(x y:Pl.Tst α)(h1:TstV A w vx x)(h2:TstV A w vy y)(o1:W0 x.list)(o2:W0 y.list):Calls Tryz.prog 149 #[vx,vy] w fun e w'=>e=.returned (.bool (sm x y))∧Below w.heap.size w w':=by
 obtain⟨v1,rfl,h1⟩:=h1;obtain⟨v2,rfl,h2⟩:=h2;obtain⟨ax,dx,rfl,-⟩:=hA.form h1;obtain⟨ay,dy,rfl,-⟩:=hA.form h2;obtain⟨k1,n1,u1,a1,b1,l1⟩:=x;obtain⟨k2,n2,u2,a2,b2,l2⟩:=y;dsimp only at *;have hb:Below w.heap.size w ((w.alloc (.cells #[.int .i64 k1,.string ⟨n1.toArray⟩,.string ⟨u1.toArray⟩,.int .i64 a1,.int .i64 b1,.slice ax l1.length dx] 71)).alloc (.cells #[.int .i64 k2,.string ⟨n2.toArray⟩,.string ⟨u2.toArray⟩,.int .i64 a2,.int .i64 b2,.slice ay l2.length dy] 71)):=((Below.refl _ w).alloc (Nat.le_refl _) _).alloc (by simp) _;have HB:Hid (Below w.heap.size w ((w.alloc (.cells #[.int .i64 k1,.string ⟨n1.toArray⟩,.string ⟨u1.toArray⟩,.int .i64 a1,.int .i64 b1,.slice ax l1.length dx] 71)).alloc (.cells #[.int .i64 k2,.string ⟨n2.toArray⟩,.string ⟨u2.toArray⟩,.int .i64 a2,.int .i64 b2,.slice ay l2.length dy] 71))):=hb;have HC:Hid (Calls Tryz.prog 19 _ _ _):=hS _ _ _ l1 l2 (hA.on h1 hb) (hA.on h2 hb) o1 o2;clear h1 h2 hb o1 o2
 by_cases e1:k1=k2
 case neg=>
  have HS:Hid (sm (⟨k1,n1,u1,a1,b1,l1⟩:Pl.Tst α) ⟨k2,n2,u2,a2,b2,l2⟩=false):=qbP fun e=>e1 (by injection e)
  have r1:(k1==k2)=false:=by simpa using e1
  clear HC;go_enter Tryz.func149,Tryz.ntmps149;go_wp2;go_ret;exact⟨by rw[HS.out];rfl,HB.out⟩
 subst e1
 by_cases e2:n1=n2
 case neg=>
  have HS:Hid (sm (⟨k1,n1,u1,a1,b1,l1⟩:Pl.Tst α) ⟨k1,n2,u2,a2,b2,l2⟩=false):=qbP fun e=>e2 (by injection e)
  have r2:(n1==n2)=false:=by simpa using e2
  clear HC e2;go_enter Tryz.func149,Tryz.ntmps149;go_wp2;go_ret;exact⟨by rw[HS.out];rfl,HB.out⟩
 subst e2
 by_cases e3:u1=u2
 case neg=>
  have HS:Hid (sm (⟨k1,n1,u1,a1,b1,l1⟩:Pl.Tst α) ⟨k1,n1,u2,a2,b2,l2⟩=false):=qbP fun e=>e3 (by injection e)
  have r3:(u1==u2)=false:=by simpa using e3
  clear HC e3;go_enter Tryz.func149,Tryz.ntmps149;go_wp2;go_ret;exact⟨by rw[HS.out];rfl,HB.out⟩
 subst e3
 by_cases e4:a1=a2
 case neg=>
  have HS:Hid (sm (⟨k1,n1,u1,a1,b1,l1⟩:Pl.Tst α) ⟨k1,n1,u1,a2,b2,l2⟩=false):=qbP fun e=>e4 (by injection e)
  have r4:(a1==a2)=false:=by simpa using e4
  clear HC;go_enter Tryz.func149,Tryz.ntmps149;go_wp2;go_ret;exact⟨by rw[HS.out];rfl,HB.out⟩
 subst e4
 by_cases e5:b1=b2
 case neg=>
  have HS:Hid (sm (⟨k1,n1,u1,a1,b1,l1⟩:Pl.Tst α) ⟨k1,n1,u1,a1,b2,l2⟩=false):=qbP fun e=>e5 (by injection e)
  have r5:(b1==b2)=false:=by simpa using e5
  clear HC;go_enter Tryz.func149,Tryz.ntmps149;go_wp2;go_ret;exact⟨by rw[HS.out];rfl,HB.out⟩
 subst e5
 have HS:Hid (sm (⟨k1,n1,u1,a1,b1,l1⟩:Pl.Tst α) ⟨k1,n1,u1,a1,b1,l2⟩=sm l1 l2):=by
  unfold Hid sm;simp
 rw[HS.out];clear HS;generalize sm l1 l2=r at *;go_enter Tryz.func149,Tryz.ntmps149
 go_wp2_with fail
 refine HC.out.mono ?_;rintro e w2 ⟨rfl,hb2⟩;have HB2:Hid (Below w.heap.size w w2):=qaa HB.out hb2;clear hb2;go_wp2;go_ret;exact⟨rfl,HB2.out⟩
end
theorem dSameL_any {α:Type}[DecidableEq α]{A:MemL α}(hA:IsL A)(ok:Pl.Pth α→Prop)(hH:∀(W:World) (x y:Value) (t s:Pl.Pth α),PthV A W x t→PthV A W y s→ok t→ok s→Calls Tryz.prog 55 #[x,y] W fun e w'=>e=.returned (.bool (sm t s))∧Below W.heap.size W w')
 (v1 v2:Value) (l m:List (Pl.Pth α)) (w:World) (h1:qaf (qct A) 2 w v1 l) (h2:qaf (qct A) 2 w v2 m) (o1:∀t∈l,ok t) (o2:∀t∈m,ok t):
 Calls Tryz.prog 19 #[v1,v2] w fun e w'=>e=.returned (.bool (sm l m))∧Below w.heap.size w w':=by
 have hl:=h1.fit;unfold maxLen at hl;obtain⟨a1,c1,rfl,-,h1⟩:=h1;obtain⟨a2,c2,rfl,-,h2⟩:=h2;have H1:Hid _:=h1;have H2:Hid _:=h2;have HH:Hid _:=hH;have O1:Hid _:=o1;have O2:Hid _:=o2;clear h1 h2 hH o1 o2
 by_cases hlen:l.length=m.length
 ·have hle:((l.length:Int)==(m.length:Int))=true:=by simp;omega
  have hle2:((l.length:Int) !=(m.length:Int))=false:=by simp;omega
  have HLn:Hid (l.length=m.length):=hlen;clear hlen;go_enter Tryz.func19,Tryz.ntmps19;go_wp2;clear hle hle2
  go_loopw [5] (fun i wr=>∃k:Nat,k≤l.length∧i=.int .i64 k∧Hid (l.take k=m.take k)∧Hid (Below w.heap.size w wr)) (fun i _=>l.length-(intOf i).toNat)
  case atStart=>exact⟨0,Nat.zero_le _,rfl,by simp[Hid],Below.refl _ _⟩
  case round=>
   obtain⟨k,hk,rfl,ht,hD⟩:=hrel
   by_cases hlt:k<l.length
   ·have hlt2:k<m.length:=by have:=HLn.out;omega
    rcases H1.out with h0|⟨b,o,rfl,hc⟩
    ·subst h0;simp at hlt
    rcases H2.out with h0|⟨b2,o2,rfl,hc2⟩
    ·subst h0;simp at hlt2
    have hDd:=hD.out.drew;have e1:=hc k hlt;have e2:=hc2 k hlt2;have x1:=O1.out l[k] (List.getElem_mem hlt);have x2:=O2.out m[k] (List.getElem_mem hlt2);have i1:(0:Int)≤(k:Int):=by omega
    have i2:(k:Int)<(l.length:Int):=by omega
    have i3:(k:Int)<(m.length:Int):=by omega
    have HT:Hid (l[k]=m[k]→l.take (k+1)=m.take (k+1)):=fun he=>qcW hlt hlt2 ht.out he
    have HF:Hid (l[k]≠m[k]→sm l m=false):=by
     intro he;refine qbP fun e=>?_
     subst e;exact he rfl
    have HDd:Hid (Below w.heap.size w wr.drew):=hDd;clear hc hc2 ht;generalize l[k]=x at *;generalize m[k]=y at *;obtain⟨vn,un,n0,n1,n6,n7⟩:=qct.on hA e1 hDd;obtain⟨an,dn,rfl⟩:=n6.form;obtain⟨bn,fn,rfl⟩:=n7.form;have Nn:Hid (qaf (qa3 A) 2 _ _ _):=n6;have Mn:Hid (qaf qbe 1 _ _ _):=n7;clear n6 n7;obtain⟨vp,up,p0,p1,p6,p7⟩:=qct.on hA e2 hDd;obtain⟨ap,dp,rfl⟩:=p6.form;obtain⟨bp,fp,rfl⟩:=p7.form;have Np:Hid (qaf (qa3 A) 2 _ _ _):=p6;have Mp:Hid (qaf qbe 1 _ _ _):=p7;clear p6 p7;have X1:Hid (ok x):=x1;have X2:Hid (ok y):=x2;clear hDd x1 x2
    cases hq:sm x y with
    | false=>
     have HF2:Hid (sm l m=false):=HF.out (qbW hq);go_wp2
     go_region_law (go_simp;go_at_call 55;refine(HH.out _ _ _ x y (⟨_,_,rfl,Nn.out,Mn.out⟩) (⟨_,_,rfl,Np.out,Mp.out⟩) X1.out X2.out).mono ?_;rw[hq];rintro e w4 ⟨rfl,hb4⟩)
     all_goals
      have HB4:Hid (Below w.heap.size w w4):=qaa HDd.out hb4;go_wp2;go_ret;exact⟨by rw[HF2.out];rfl,HB4.out⟩
    | true=>
     have HT2:Hid (l.take (k+1)=m.take (k+1)):=HT.out (qcu hq);go_wp2
     go_region_law (go_simp;go_at_call 55;refine(HH.out _ _ _ x y (⟨_,_,rfl,Nn.out,Mn.out⟩) (⟨_,_,rfl,Np.out,Mp.out⟩) X1.out X2.out).mono ?_;rw[hq];rintro e w4 ⟨rfl,hb4⟩)
     all_goals
      have HB4:Hid (Below w.heap.size w w4):=qaa HDd.out hb4;go_wp2;exact⟨⟨k+1,hlt,by go_num,HT2,HB4⟩,by simp[intOf];omega⟩
   ·have HT:Hid (sm l m=true):=by
     have:=ht.out;rw[List.take_of_length_le (by omega),List.take_of_length_le (by have:=HLn.out;omega)]at this;rw[this];exact qef m
    go_wp2;go_ret;exact⟨by rw[HT.out];rfl,hD.out⟩
 ·have hle:((l.length:Int)==(m.length:Int))=false:=by simp;omega
  have hle2:((l.length:Int) !=(m.length:Int))=true:=by simp;omega
  have HF:Hid (sm l m=false):=qbP fun e=>hlen (by rw[e])
  go_enter Tryz.func19,Tryz.ntmps19;go_wp2;go_ret;exact⟨by rw[HF.out];rfl,Below.refl _ _⟩
theorem dSameI_any (v1 v2:Value)(l m:List (Int))(w:World)(h1:qaf (qbe) 1 w v1 l)(h2:qaf (qbe) 1 w v2 m):
 Calls Tryz.prog 13 #[v1,v2] w fun e w'=>e=.returned (.bool (sm l m))∧Below w.heap.size w w':=by
 have hl:=h1.fit;unfold maxLen at hl;obtain⟨a1,c1,rfl,-,h1⟩:=h1;obtain⟨a2,c2,rfl,-,h2⟩:=h2;have H1:Hid _:=h1;have H2:Hid _:=h2;clear h1 h2
 by_cases hlen:l.length=m.length
 ·have hle:((l.length:Int)==(m.length:Int))=true:=by simp;omega
  have hle2:((l.length:Int) !=(m.length:Int))=false:=by simp;omega
  have HLn:Hid (l.length=m.length):=hlen;clear hlen;go_enter Tryz.func13,Tryz.ntmps13;go_wp2;clear hle hle2
  go_loopw [5] (fun i wr=>∃k:Nat,k≤l.length∧i=.int .i64 k∧Hid (l.take k=m.take k)∧Hid (Below w.heap.size w wr)) (fun i _=>l.length-(intOf i).toNat)
  case atStart=>exact⟨0,Nat.zero_le _,rfl,by simp[Hid],Below.refl _ _⟩
  case round=>
   obtain⟨k,hk,rfl,ht,hD⟩:=hrel
   by_cases hlt:k<l.length
   ·have hlt2:k<m.length:=by have:=HLn.out;omega
    rcases H1.out with h0|⟨b,o,rfl,hc⟩
    ·subst h0;simp at hlt
    rcases H2.out with h0|⟨b2,o2,rfl,hc2⟩
    ·subst h0;simp at hlt2
    have hDd:=hD.out.drew;have e1:=hc k hlt;have e2:=hc2 k hlt2;have i1:(0:Int)≤(k:Int):=by omega
    have i2:(k:Int)<(l.length:Int):=by omega
    have i3:(k:Int)<(m.length:Int):=by omega
    have HT:Hid (l[k]=m[k]→l.take (k+1)=m.take (k+1)):=fun he=>qcW hlt hlt2 ht.out he
    have HF:Hid (l[k]≠m[k]→sm l m=false):=by
     intro he;refine qbP fun e=>?_
     subst e;exact he rfl
    have HDd:Hid (Below w.heap.size w wr.drew):=hDd;clear hc hc2 ht;generalize l[k]=x at *;generalize m[k]=y at *
    have n0:wr.drew.cell? ⟨b,o+k,none⟩=some (.int .i64 x):=by
     have:=qab hDd e1
     rwa [Nat.mul_one]at this
    clear e1
    have p0:wr.drew.cell? ⟨b2,o2+k,none⟩=some (.int .i64 y):=by
     have:=qab hDd e2
     rwa [Nat.mul_one]at this
    clear e2;clear hDd
    cases hq:sm x y with
    | false=>
     have HF2:Hid (sm l m=false):=HF.out (qbW hq);have r1:(x==y)=false:=by simpa using qbW hq
     have r2:(x !=y)=true:=by simpa using qbW hq
     clear HF HT;go_wp2
     go_region_law (fail)
     all_goals
      go_wp2;go_ret;exact⟨by rw[HF2.out];rfl,HDd.out⟩
    | true=>
     have HT2:Hid (l.take (k+1)=m.take (k+1)):=HT.out (qcu hq);have r1:(x==y)=true:=by simpa using qcu hq
     have r2:(x !=y)=false:=by simpa using qcu hq
     clear HF HT;go_wp2
     go_region_law (fail)
     all_goals
      go_wp2;exact⟨⟨k+1,hlt,by go_num,HT2,HDd⟩,by simp[intOf];omega⟩
   ·have HT:Hid (sm l m=true):=by
     have:=ht.out;rw[List.take_of_length_le (by omega),List.take_of_length_le (by have:=HLn.out;omega)]at this;rw[this];exact qef m
    go_wp2;go_ret;exact⟨by rw[HT.out];rfl,hD.out⟩
 ·have hle:((l.length:Int)==(m.length:Int))=false:=by simp;omega
  have hle2:((l.length:Int) !=(m.length:Int))=true:=by simp;omega
  have HF:Hid (sm l m=false):=qbP fun e=>hlen (by rw[e])
  go_enter Tryz.func13,Tryz.ntmps13;go_wp2;go_ret;exact⟨by rw[HF.out];rfl,Below.refl _ _⟩
theorem dSameS_any {α:Type}[DecidableEq α]{A:MemL α}(hA:IsL A)(ok:Pl.Tst α→Prop)(hH:∀(W:World) (x y:Value) (t s:Pl.Tst α),TstV A W x t→TstV A W y s→ok t→ok s→Calls Tryz.prog 149 #[x,y] W fun e w'=>e=.returned (.bool (sm t s))∧Below W.heap.size W w')
 (w:World) (vx vy:Value) (s1 s2:Pl.Stp α) (h1:StpV A w vx s1) (h2:StpV A w vy s2) (o1:∀t∈s1.tests,ok t) (o2:∀t∈s2.tests,ok t):Calls Tryz.prog 111 #[vx,vy] w fun e w'=>e=.returned (.bool (sm s1 s2))∧Below w.heap.size w w':=by
 obtain⟨g1,l⟩:=s1;obtain⟨g2,m⟩:=s2;obtain⟨v1,rfl,h1⟩:=h1;obtain⟨v2,rfl,h2⟩:=h2;dsimp only at *;have hl:=h1.fit;unfold maxLen at hl;obtain⟨a1,c1,rfl,-,h1⟩:=h1;obtain⟨a2,c2,rfl,-,h2⟩:=h2;have H1:Hid _:=h1;have H2:Hid _:=h2;have HH:Hid _:=hH;have O1:Hid _:=o1;have O2:Hid _:=o2;have HB:Hid (Below w.heap.size w ((w.alloc (.cells #[.string ⟨g1.toArray⟩,.slice a1 l.length c1] 67)).alloc (.cells #[.string ⟨g2.toArray⟩,.slice a2 m.length c2] 67))):=((Below.refl _ w).alloc (Nat.le_refl _) _).alloc (by simp) _;have HX1:Hid (((w.alloc (.cells #[.string ⟨g1.toArray⟩,.slice a1 l.length c1] 67)).alloc (.cells #[.string ⟨g2.toArray⟩,.slice a2 m.length c2] 67)).heap[w.heap.size]? =some (.cells #[.string ⟨g1.toArray⟩,.slice a1 l.length c1] 67)):=hblk (heap_alloc_new w _) (qac _ _)
 have HX2:Hid (((w.alloc (.cells #[.string ⟨g1.toArray⟩,.slice a1 l.length c1] 67)).alloc (.cells #[.string ⟨g2.toArray⟩,.slice a2 m.length c2] 67)).heap[w.heap.size+1]? =some (.cells #[.string ⟨g2.toArray⟩,.slice a2 m.length c2] 67)):=by
  have h1:=heap_alloc_new (w.alloc (.cells #[.string ⟨g1.toArray⟩,.slice a1 l.length c1] 67)) (.cells #[.string ⟨g2.toArray⟩,.slice a2 m.length c2] 67);unfold Hid
  simpa using h1
 clear h1 h2 hH o1 o2
 by_cases htag:g1=g2
 case neg=>
  have HS:Hid (sm (⟨g1,l⟩:Pl.Stp α) ⟨g2,m⟩=false):=qbP fun e=>htag (by injection e)
  have r1:(g1==g2)=false:=by simpa using htag
  have r2:(g1 !=g2)=true:=by simpa using htag
  clear htag H1 H2 HH O1 O2;go_enter Tryz.func111,Tryz.ntmps111;go_wp2;go_ret;exact⟨by rw[HS.out];rfl,HB.out⟩
 subst htag;have hsm:sm (⟨g1,l⟩:Pl.Stp α) ⟨g1,m⟩=sm l m:=by unfold sm;simp
 rw[hsm];clear hsm;have r1:(g1==g1)=true:=by simp
 have r2:(g1 !=g1)=false:=by simp
 by_cases hlen:l.length=m.length
 ·have hle:((l.length:Int)==(m.length:Int))=true:=by simp;omega
  have hle2:((l.length:Int) !=(m.length:Int))=false:=by simp;omega
  have HLn:Hid (l.length=m.length):=hlen;clear hlen;go_enter Tryz.func111,Tryz.ntmps111;go_wp2;clear hle hle2 r1 r2;generalize (w.alloc (.cells #[.string ⟨g1.toArray⟩,.slice a1 l.length c1] 67)).alloc (.cells #[.string ⟨g1.toArray⟩,.slice a2 m.length c2] 67)=W2 at *;have HST:Hid (Below W2.heap.size W2 W2):=Below.refl _ _
  go_loopw [5] (fun i wr=>∃k:Nat,k≤l.length∧i=.int .i64 k∧Hid (l.take k=m.take k)∧Hid (Below W2.heap.size W2 wr)) (fun i _=>l.length-(intOf i).toNat)
  case atStart=>exact⟨0,Nat.zero_le _,rfl,by simp[Hid],HST.out⟩
  case round=>
   obtain⟨k,hk,rfl,ht,hD2⟩:=hrel;have hD:=qaa HB.out hD2.out;have y1:=(qcd (hblk HX1.out hD2.out)).2.1;have y2:=(qcd (hblk HX2.out hD2.out)).2.1;have y1d:wr.drew.cell? _=_:=y1;have y2d:wr.drew.cell? _=_:=y2
   by_cases hlt:k<l.length
   ·have hlt2:k<m.length:=by have:=HLn.out;omega
    rcases H1.out with h0|⟨b,o,rfl,hc⟩
    ·subst h0;simp at hlt
    rcases H2.out with h0|⟨b2,o2,rfl,hc2⟩
    ·subst h0;simp at hlt2
    have hDd:=hD.drew;have e1:=hc k hlt;have e2:=hc2 k hlt2;have x1:=O1.out l[k] (List.getElem_mem hlt);have x2:=O2.out m[k] (List.getElem_mem hlt2);have i1:(0:Int)≤(k:Int):=by omega
    have i2:(k:Int)<(l.length:Int):=by omega
    have i3:(k:Int)<(m.length:Int):=by omega
    have HT:Hid (l[k]=m[k]→l.take (k+1)=m.take (k+1)):=fun he=>qcW hlt hlt2 ht.out he
    have HF:Hid (l[k]≠m[k]→sm l m=false):=by
     intro he;refine qbP fun e=>?_
     subst e;exact he rfl
    have HDd:Hid (Below w.heap.size w wr.drew):=hDd;have HD2:Hid (Below W2.heap.size W2 wr.drew):=hD2.out.drew;clear hc hc2 ht;generalize l[k]=x at *;generalize m[k]=y at *;obtain⟨vn,n0,n1,n2,n3,n4,n5,n6⟩:=qaF.on hA e1 hDd;obtain⟨an,dn,rfl,-⟩:=hA.form n6;have Nn:Hid (A _ _ _):=n6;clear n6;obtain⟨vp,p0,p1,p2,p3,p4,p5,p6⟩:=qaF.on hA e2 hDd;obtain⟨ap,dp,rfl,-⟩:=hA.form p6;have Np:Hid (A _ _ _):=p6;clear p6;have X1:Hid (ok x):=x1;have X2:Hid (ok y):=x2;clear hDd x1 x2 hD
    cases hq:sm x y with
    | false=>
     have HF2:Hid (sm l m=false):=HF.out (qbW hq);go_wp2
     go_region_law (go_simp;go_at_call 149;refine(HH.out _ _ _ x y (⟨_,rfl,Nn.out⟩) (⟨_,rfl,Np.out⟩) X1.out X2.out).mono ?_;rw[hq];rintro e w4 ⟨rfl,hb4⟩)
     all_goals
      have HB4:Hid (Below w.heap.size w w4):=qaa HDd.out hb4;go_wp2;go_ret;exact⟨by rw[HF2.out];rfl,HB4.out⟩
    | true=>
     have HT2:Hid (l.take (k+1)=m.take (k+1)):=HT.out (qcu hq);go_wp2
     go_region_law (go_simp;go_at_call 149;refine(HH.out _ _ _ x y (⟨_,rfl,Nn.out⟩) (⟨_,rfl,Np.out⟩) X1.out X2.out).mono ?_;rw[hq];rintro e w4 ⟨rfl,hb4⟩)
     all_goals
      have HB4:Hid (Below W2.heap.size W2 w4):=qaa HD2.out hb4;go_wp2;exact⟨⟨k+1,hlt,by go_num,HT2,HB4⟩,by simp[intOf];omega⟩
   ·have HT:Hid (sm l m=true):=by
     have:=ht.out;rw[List.take_of_length_le (by omega),List.take_of_length_le (by have:=HLn.out;omega)]at this;rw[this];exact qef m
    have HDw:Hid _:=hD;clear hD;go_wp2;go_ret;exact⟨by rw[HT.out];rfl,HDw.out⟩
 ·have hle:((l.length:Int)==(m.length:Int))=false:=by simp;omega
  have hle2:((l.length:Int) !=(m.length:Int))=true:=by simp;omega
  have HF:Hid (sm l m=false):=qbP fun e=>hlen (by rw[e])
  go_enter Tryz.func111,Tryz.ntmps111;go_wp2;go_ret;exact⟨by rw[HF.out];rfl,HB.out⟩
end Go.Proofs.YtephhllfodlfbaaGreatDoor
