/-
  Put: the call.
-/
import Derived.Test.YtephhllfodlfbaaGreatDoorVIdxU
set_option maxRecDepth 100000
set_option maxHeartbeats 16000000
namespace Go.Proofs.YtephhllfodlfbaaGreatDoor
open Go.RowKit
theorem put_any (v xv:Value)(ns:List Pl.Nd)(n:Int)(x:Pl.Nd)(w:World)(hd:qar w v ns)(hx:NdV w xv x)(hfx:Fits x):
 Calls Tryz.prog 39 #[.agg #[v],.int .i64 n,xv] w fun e w'=>∃v',e=.returned (.tuple #[.agg #[v'],.int .i64 (qcb ns n x)])∧qar w' v' (qcG ns n x)∧Below w.heap.size w w':=by
 obtain⟨hv,hcap,hf⟩:=hd;obtain⟨a,cap,rfl,hc⟩:=id hv;have HV:Hid _:=hv;obtain⟨_,_,_,e0,hc1,hc2⟩:=hcap;injection e0 with e1 e2 e3;subst e1 e2 e3;obtain⟨vc,va,rfl,xc,xa⟩:=id hx;obtain⟨ac,cc,rfl,_⟩:=id xc;obtain⟨aa,ca,rfl,_⟩:=id xa;have HX:Hid _:=hx;clear hv hx xc xa;have HC:Hid _:=hc;clear hc;obtain⟨up,tag,idn,cls,ats⟩:=x;dsimp only at *;have hB0:=qdg w (.cells #[.slice a ns.length cap] 24) (.cells #[.int .i64 up,.string ⟨tag.toArray⟩,.string ⟨idn.toArray⟩,.slice ac cls.length cc,.slice aa ats.length ca] 28) (.cells #[.slice none 0 0] 24);go_enter Tryz.func39,Tryz.ntmps39
 go_wp2_with fail
 refine(qcf _ ns _ _ hf (qa8.on HV.out hB0)).mono ?_;rintro e w1 ⟨rfl,h1⟩;have hB:Below w.heap.size w w1:=qaa hB0 h1;have c0:=qab (p:=⟨w.heap.size,0,none⟩) (v:=.slice a ns.length cap) h1 (by simp[go_sem]);have x0:=qab (p:=⟨w.heap.size+1,0,none⟩) (v:=.int .i64 up) h1 (by simp[go_sem]);have x1:=qab (p:=⟨w.heap.size+1,1,none⟩) (v:=.string ⟨tag.toArray⟩) h1 (by simp[go_sem]);have x2:=qab (p:=⟨w.heap.size+1,2,none⟩) (v:=.string ⟨idn.toArray⟩) h1 (by simp[go_sem]);have x3:=qab (p:=⟨w.heap.size+1,3,none⟩) (v:=.slice ac cls.length cc) h1 (by simp[go_sem]);have x4:=qab (p:=⟨w.heap.size+1,4,none⟩) (v:=.slice aa ats.length ca) h1 (by simp[go_sem]);have c2:=qab (p:=⟨w.heap.size+1+1,0,none⟩) (v:=.slice none 0 0) h1 (by simp[go_sem]);have f2:w1.frozen? ⟨w.heap.size+1+1,0,none⟩=false:=by rw[h1.frozen (by simp)];simp[go_sem]
 have hsz:w.heap.size+3≤w1.heap.size:=by have:=h1.size;simp at this;omega
 clear h1 hB0
 cases hz:(qai ns n !=0) with
 | true=>
  have hz1:¬qai ns n=0:=by simpa using hz
  have HE:Hid (qcb ns n ⟨up,tag,idn,cls,ats⟩=qai ns n):=by unfold Hid qcb;rw[if_neg hz1]
  have HP:Hid (qcG ns n ⟨up,tag,idn,cls,ats⟩=[]):=by unfold Hid qcG;rw[if_neg (by rw[HE.out];exact hz1)]
  clear hz1;generalize hE:qai ns n=E at *;go_wp2;have q:=World.cell?_setCell_same w1 ⟨w.heap.size+1+1,0,none⟩ (.slice none 0 0) c2
  exact bodyPost_ret (v:=.tuple #[.agg #[.slice none 0 0],.int .i64 E]) (by simp[results,Tryz.results39,go_sem,q]) rfl
   ⟨_,by rw[HE.out],by rw[HP.out];exact qar.nil _,hB.setCell (p:=⟨w.heap.size+1+1,0,none⟩) (by simp;omega) _⟩
 | false=>
 have hz0:qai ns n=0:=by simpa using hz
 clear hz;rw[hz0]
 go_wp2_with fail
 refine(qeq _ ⟨up,tag,idn,cls,ats⟩ _ hfx (NdV.on HX.out hB)).mono ?_;rintro e w2 ⟨rfl,h1⟩;replace c0:=qab h1 c0;replace x0:=qab h1 x0;replace x1:=qab h1 x1;replace x2:=qab h1 x2;replace x3:=qab h1 x3;replace x4:=qab h1 x4;replace c2:=qab h1 c2;replace f2:w2.frozen? ⟨w.heap.size+1+1,0,none⟩=false:=by rw[h1.frozen (by simp;omega)];exact f2
 replace hB:=qaa hB h1;replace hsz:w.heap.size+3≤w2.heap.size:=Nat.le_trans hsz h1.size;clear h1
 cases hr:Pl.right ⟨up,tag,idn,cls,ats⟩ with
 | false=>
  have HE:Hid (qcb ns n ⟨up,tag,idn,cls,ats⟩=1):=by unfold Hid qcb;rw[if_pos hz0,if_neg (by rw[hr];simp)]
  have HP:Hid (qcG ns n ⟨up,tag,idn,cls,ats⟩=[]):=by unfold Hid qcG;rw[if_neg (by rw[HE.out];omega)]
  go_wp2;have q:=World.cell?_setCell_same w2 ⟨w.heap.size+1+1,0,none⟩ (.slice none 0 0) c2
  exact bodyPost_ret (v:=.tuple #[.agg #[.slice none 0 0],.int .i64 1]) (by simp[results,Tryz.results39,go_sem,q]) rfl
   ⟨_,by rw[HE.out],by rw[HP.out];exact qar.nil _,hB.setCell (p:=⟨w.heap.size+1+1,0,none⟩) (by simp;omega) _⟩
 | true=>
 have HE:Hid (qcb ns n ⟨up,tag,idn,cls,ats⟩=0):=by unfold Hid qcb;rw[if_pos hz0,if_pos hr]
 have HP:Hid (qcG ns n ⟨up,tag,idn,cls,ats⟩=(ns.map (Pl.mvd id)).set n.toNat ⟨Pl.upOf ns n.toNat,tag,idn,cls,ats⟩):=by unfold Hid qcG;rw[if_pos HE.out]
 obtain⟨L1,L2⟩:=qfQ hr;dsimp only at L1 L2;obtain⟨hk0,k,rfl,hk⟩:=qcp hz0;obtain⟨hl1,hl64,_⟩:=qa9 hk0;have HS:Hid _:=qa6 hk0
 rcases HC.out with hc|⟨b,o,rfl,hc⟩
 ·subst hc;simp at hl1
 clear HC;have HC:Hid _:=hc;clear hc hk0 hr;have HC2:Hid (∀W,Below w2.heap.size w2 W→∀i (h:i<ns.length),NdAt W b (o+i*5) ns[i]):=fun W hW i hi=>((HC.out i hi).on hB).on hW
 go_wp2_with fail
 refine(qhh 83 #[] id w2.heap.size _ _ [] ns w2 (Nat.le_refl _) (Row.nil _ _) (by simp;omega) enter52 HS.out ⟨_,_,rfl,Or.inr ⟨_,_,rfl,HC2.out _ (Below.refl _ _)⟩⟩ (fun W hW=>⟨_,_,rfl,Or.inr ⟨_,_,rfl,HC2.out _ hW⟩⟩) (fun W u _=>qhH u W)).mono ?_;rintro e w3 ⟨v3,rfl,hrow,hb3⟩;rw[List.nil_append]at hrow
 obtain⟨g,cap3,rfl,hgB⟩:∃g cap3,v3=.slice (some ⟨g,0,none⟩) ns.length cap3∧w2.heap.size≤g:=by
  obtain⟨xs,ho,_⟩:=hrow;obtain⟨g,c,rfl,h1,_⟩:=ho.form (by simp;omega);exact⟨g,c,by simp,h1⟩
 have fg:∀i,w3.frozen? ⟨g,i,none⟩=false:=by
  obtain⟨xs,ho,_⟩:=hrow;intro i
  rcases ho.2 with ⟨h0,_⟩|⟨g',c',cur,h0,_,hh,_⟩
  ·cases h0
  ·injection h0 with h0 _ _;injection h0 with h0;injection h0 with h0;subst h0;simp[World.frozen?,hh]
 have hglt:g<w3.heap.size:=by
  obtain⟨xs,ho,_⟩:=hrow;exact(World.ownsRow.lt ho g rfl).2
 have hupc:w3.drew.cell? ⟨b,o+k*5,none⟩=some (.int .i64 (Pl.upOf ns k)):=qdN (HC2.out _ hb3.drew) k hk;replace c0:w3.drew.cell? ⟨w.heap.size,0,none⟩=some (.slice (some ⟨b,o,none⟩) ns.length cap):=qab hb3.drew c0;replace x0:w3.drew.cell? ⟨w.heap.size+1,0,none⟩=some (.int .i64 up):=qab hb3.drew x0;replace x1:w3.drew.cell? ⟨w.heap.size+1,1,none⟩=some (.string ⟨tag.toArray⟩):=qab hb3.drew x1;replace x2:w3.drew.cell? ⟨w.heap.size+1,2,none⟩=some (.string ⟨idn.toArray⟩):=qab hb3.drew x2;replace x3:w3.drew.cell? ⟨w.heap.size+1,3,none⟩=some (.slice ac cls.length cc):=qab hb3.drew x3;replace x4:w3.drew.cell? ⟨w.heap.size+1,4,none⟩=some (.slice aa ats.length ca):=qab hb3.drew x4;replace c2:=qab hb3 c2;replace f2:w3.frozen? ⟨w.heap.size+1+1,0,none⟩=false:=by rw[hb3.frozen (by simp;omega)];exact f2
 have hbg:b≠g:=by have:=qaV (qdN (HC2.out _ (Below.refl _ _)) k hk);simp at this;omega
 have S0:=And.intro c0 (And.intro x0 (And.intro x1 (And.intro x2 (And.intro x3 (And.intro x4 hupc)))));have hne:w.heap.size≠g∧w.heap.size+1≠g∧w.heap.size+1≠g∧w.heap.size+1≠g∧w.heap.size+1≠g∧w.heap.size+1≠g∧b≠g:=⟨by omega,by omega,by omega,by omega,by omega,by omega,hbg⟩
 have HR:Hid (Row w2.heap.size w3.drew (.slice (some ⟨g,0,none⟩) ns.length cap3) (ns.map (Pl.mvd id))):=hrow.on (Below.refl _ _).drew;have HB3:Hid (Below w.heap.size w w3.drew):=qaa hB hb3.drew;have NV:Hid (NdV w3.drew (.agg #[.int .i64 up,.string ⟨tag.toArray⟩,.string ⟨idn.toArray⟩,.slice ac cls.length cc,.slice aa ats.length ca]) ⟨up,tag,idn,cls,ats⟩):=NdV.on HX.out HB3.out;have i1:(0:Int)≤(k:Int):=by omega
 have i2:(k:Int)<(ns.length:Int):=by omega
 have FG:Hid (∀i,w3.drew.frozen? ⟨g,i,none⟩=false):=fg;clear hrow hb3 hB fg x0 x1 x2 x3 x4 c0 hupc;go_wp2
 go_region_held3 (fun w'=>w'.cell? ⟨w.heap.size,0,none⟩=some (.slice (some ⟨b,o,none⟩) ns.length cap)∧w'.cell? ⟨w.heap.size+1,0,none⟩=some (.int .i64 up)∧w'.cell? ⟨w.heap.size+1,1,none⟩=some (.string ⟨tag.toArray⟩)∧w'.cell? ⟨w.heap.size+1,2,none⟩=some (.string ⟨idn.toArray⟩)∧w'.cell? ⟨w.heap.size+1,3,none⟩=some (.slice ac cls.length cc)∧w'.cell? ⟨w.heap.size+1,4,none⟩=some (.slice aa ats.length ca)∧w'.cell? ⟨b,o+k*5,none⟩=some (.int .i64 (Pl.upOf ns k)))
  (first|with_reducible assumption|exact seven_on (by with_reducible assumption) (by with_reducible assumption)|(refine seven_put (W:=w4) (g:=g) (k:=k) ?_ hne;with_reducible assumption))
  (first|(go_at_call 85;refine(qf6 _ ⟨up,tag,idn,cls,ats⟩ _ _ L1 L2 NV.out).mono ?_;rintro e w4 ⟨nv,rfl,⟨vc,va,rfl,hs,ha⟩,hb⟩;obtain⟨a1,c1,rfl,_⟩:=id hs;obtain⟨a2,c3,rfl,_⟩:=id ha;have fg4:∀i,w4.frozen? ⟨g,i,none⟩=false:=fun i=>(by rw[hb.frozen hglt];exact FG.out i);obtain⟨⟨k0,r0⟩,⟨k1,r1⟩,⟨k2,r2⟩,⟨k3,r3⟩,⟨k4,r4⟩⟩:=put_cells HR.out hb (by rw[List.length_map];exact hk)))
 have e4:w4.cell? ⟨w.heap.size+1+1,0,none⟩=some (.slice none 0 0):=qab hb c2;have f4:w4.frozen? ⟨w.heap.size+1+1,0,none⟩=false:=by rw[hb.frozen (qaV c2)];exact f2
 have HN:Hid (qa8 ((wput w4 g k (.int .i64 (Pl.upOf ns k)) (.string ⟨tag.toArray⟩) (.string ⟨idn.toArray⟩) (.slice a1 cls.length c1) (.slice a2 ats.length c3)).setCell ⟨w.heap.size+1+1,0,none⟩ (.slice (some ⟨g,0,none⟩) ns.length cap3)) (.slice (some ⟨g,0,none⟩) ns.length cap3) ((ns.map (Pl.mvd id)).set k ⟨Pl.upOf ns k,tag,idn,cls,ats⟩)):=by
  have hR:=HR.out;have hl:ns.length=(ns.map (Pl.mvd id)).length:=by simp
  rw[hl]at hR ⊢;exact Row.put (x:=⟨Pl.upOf ns k,tag,idn,cls,ats⟩) hR hb (by simpa using hk) hs ha (by omega) e4 (by simp)
 have HB5:Hid (Below w.heap.size w (wput w4 g k (.int .i64 (Pl.upOf ns k)) (.string ⟨tag.toArray⟩) (.string ⟨idn.toArray⟩) (.slice a1 cls.length c1) (.slice a2 ats.length c3))):=by
  have h0:=qaa HB3.out hb;unfold wput;exact((((h0.setCell (p:=⟨g,k*5,none⟩) (by simp;omega) _).setCell (p:=⟨g,k*5+1,none⟩) (by simp;omega) _).setCell (p:=⟨g,k*5+2,none⟩) (by simp;omega) _).setCell (p:=⟨g,k*5+3,none⟩) (by simp;omega) _).setCell (p:=⟨g,k*5+4,none⟩) (by simp;omega) _
 have e5:=qbw (g:=g) (k:=k) (u0:=.int .i64 (Pl.upOf ns k)) (u1:=.string ⟨tag.toArray⟩) (u2:=.string ⟨idn.toArray⟩) (u3:=.slice a1 cls.length c1) (u4:=.slice a2 ats.length c3) (p:=⟨w.heap.size+1+1,0,none⟩) (Or.inl (by simp;omega)) e4
 have f5:(wput w4 g k (.int .i64 (Pl.upOf ns k)) (.string ⟨tag.toArray⟩) (.string ⟨idn.toArray⟩) (.slice a1 cls.length c1) (.slice a2 ats.length c3)).frozen? ⟨w.heap.size+1+1,0,none⟩=false:=by
  unfold wput;simp[go_sem,f4]
 change Exit.then _ _ Exit.normal _ (wput w4 g k (.int .i64 (Pl.upOf ns k)) (.string ⟨tag.toArray⟩) (.string ⟨idn.toArray⟩) (.slice a1 cls.length c1) (.slice a2 ats.length c3))
 clear S0 NV hs ha hb fg4 r0 r1 r2 r3 r4 e4 f4 c2 f2;rename_i hHeld;clear hHeld;generalize wput w4 g k (.int .i64 (Pl.upOf ns k)) (.string ⟨tag.toArray⟩) (.string ⟨idn.toArray⟩) (.slice a1 cls.length c1) (.slice a2 ats.length c3)=w5 at *;go_wp2;have q:=World.cell?_setCell_same w5 ⟨w.heap.size+1+1,0,none⟩ (.slice (some ⟨g,0,none⟩) ns.length cap3) e5
 refine bodyPost_ret (v:=.tuple #[.agg #[.slice (some ⟨g,0,none⟩) ns.length cap3],.int .i64 0]) (by simp[results,Tryz.results39,go_sem,q]) rfl
  ⟨_,by rw[HE.out],?_,HB5.out.setCell (p:=⟨w.heap.size+1+1,0,none⟩) (by simp;omega) _⟩
 rw[HP.out];have hcp:=Row.cap HR.out;refine⟨HN.out,hcp,by rw[List.length_set,List.length_map];unfold maxLen;omega,fun i hi=>?_⟩
 have hmem:∀y∈(ns.map (Pl.mvd id)).set k ⟨Pl.upOf ns k,tag,idn,cls,ats⟩,y.cls.length≤6∧y.ats.length≤4:=by
  intro y hy
  rcases List.mem_or_eq_of_mem_set hy with h|h
  ·exact qcK HS.out y h
  ·subst h;exact⟨L1,L2⟩
 have:=hmem _ (List.getElem_mem hi);exact⟨by unfold maxLen;omega,by unfold maxLen;omega⟩
namespace Pl
namespace F
end F
end Pl
def TRow (B:Nat)(P:Nat→Prop)(w:World)(v:Value)(f:Pl.F):Prop:=∃xs,w.ownsRow B 109 6 v f.len xs∧qa0 (fun j=>P j∧some j≠v.ownBlock) w xs f
theorem TRow.nil (B:Nat)(P:Nat→Prop)(w:World):TRow B P w (.slice none 0 0) .nil:=⟨[],World.ownsRow_nil _ _ _ _,trivial⟩
theorem TRow.form {B:Nat}{P:Nat→Prop}{w:World}{v:Value}{f:Pl.F}(h:TRow B P w v f):∃a c,v=.slice a f.len c:=by
 obtain⟨xs,ho,_⟩:=h
 rcases ho.2 with ⟨rfl,h0⟩|⟨g,cap,cur,rfl,_⟩
 ·exact⟨none,0,by rw[h0]⟩
 ·exact⟨_,cap,rfl⟩
theorem TRow.sub {B:Nat}{P:Nat→Prop}{w:World}{v:Value}{f:Pl.F}(h:TRow B P w v f)(hP:∀j,B≤j→P j):Sub P w v f:=by
 obtain⟨xs,ho,hc⟩:=h;have hh:=ho
 rcases ho.2 with ⟨rfl,h0⟩|⟨g,cap,cur,rfl,hb,hg,_⟩
 ·exact⟨none,0,by rw[h0],Or.inl h0⟩
 ·refine⟨_,cap,rfl,Or.inr ⟨g,0,rfl,⟨hP g hb,fun i=>by simp[World.frozen?,hg]⟩,?_⟩⟩;have hc2:=qa0.to (P':=P) (w':=w) (fun j hj _=>⟨hj.1,rfl⟩) f xs hc;refine qa0.fin g f xs 0 hc2 fun j u hj=>?_
  have:=World.ownsRow.cells hh rfl j u hj
  rwa [Addr.add_lit]at this
theorem qhT {B:Nat}{P:Nat→Prop}{W w':World}{v:Value}{f:Pl.F}{xs:List Value}{x:Pl.Nd}{k:Pl.F}{vc va vk:Value}{g cap:Nat}(hc:qa0 (fun j=>P j∧some j≠v.ownBlock) W xs f)
 (hvc:qb7 (fun j=>P j∧some j≠v.ownBlock) W vc x.cls) (hva:AtsP (fun j=>P j∧some j≠v.ownBlock) W va x.ats) (hvk:Sub (fun j=>P j∧some j≠v.ownBlock) W vk k)
 (h1:w'.ownsRow B 109 6 (.slice (some ⟨g,0,none⟩) (f.len+1) cap) (f.len+1) (xs++[.int .i64 x.up,.string ⟨x.tag.toArray⟩,.string ⟨x.id.toArray⟩,vc,va,vk])) (hg:W.grownBy w' v.ownBlock) (hat:v.ownBlock=some g∨g=W.heap.size):
 TRow B P w' (.slice (some ⟨g,0,none⟩) (f.len+1) cap) (f.app (.cons x k .nil)):=by
 have hl:(f.app (.cons x k .nil)).len=f.len+1:=by rw[Pl.F.app_len];rfl
 refine⟨_,by rw[hl];exact h1,?_⟩
 have hm:Mv (fun j=>P j∧some j≠v.ownBlock) W (fun j=>P j∧some j≠(Value.slice (some ⟨g,0,none⟩) (f.len+1) cap).ownBlock) w':=by
  intro j hj hlt;refine⟨⟨hj.1,?_⟩,hg.block j hlt hj.2⟩
  rcases hat with h|h
  ·rw[h]at hj;exact hj.2
  ·intro e;have:j=g:=by simpa [Value.ownBlock] using e
   omega
 exact qa0.append f _ _ _ (qa0.to hm f _ hc) ⟨⟨rfl,rfl,rfl,hvc.to hm,hva.to hm,hvk.to hm⟩,trivial⟩
theorem Tryz.info109:(Tryz.prog.info? 109).map (fun i=>(i.zero,i.size,i.bytes))=some (some (.agg #[.int .i64 0,.string ⟨#[]⟩,.string ⟨#[]⟩,.slice none 0 0,.slice none 0 0,.slice none 0 0]),6,112):=by kernel_rfl
theorem own_any (v:Value)(x:Pl.Nd)(w:World)(hr:x.cls.length≤6)(hr2:x.ats.length≤4)(hv:NdV w v x):
 Calls Tryz.prog 61 #[v] w fun e w'=>∃nv,e=.returned nv∧NdF w.heap.size w' nv x∧Below w.heap.size w w':=by
 obtain⟨vc,va,rfl,hc,ha⟩:=hv;obtain⟨ac,cc,rfl,_⟩:=id hc;obtain⟨aa,ca,rfl,_⟩:=id ha;have HC:Hid (qa1 w (.slice ac x.cls.length cc) x.cls):=hc;have HA:Hid (qbY w (.slice aa x.ats.length ca) x.ats):=ha;clear hc ha;go_enter Tryz.func61,Tryz.ntmps61
 go_wp2_with (at_builtin;refine qhd rfl _ _ rfl _ ?hH0 rfl _ x.cls rfl (qa1.on HC.out ?hb0) hr ?_;rotate_left 2;intro a1 c1 w1 hs1 hb1;refine Hid.out ?_)
 case hH0=>simp
 case hb0=>exact((Below.refl _ _).alloc (Nat.le_refl _) _).alloc (by simp) _
 unfold Hid;obtain⟨bN,bR⟩:=two_blks w (.int .i64 x.up) (.string ⟨x.tag.toArray⟩) (.string ⟨x.id.toArray⟩) (.slice ac x.cls.length cc) (.slice aa x.ats.length ca) (.int .i64 0) (.string ⟨#[]⟩) (.string ⟨#[]⟩) (.slice none 0 0) (.slice none 0 0);replace bN:=bN.on hb1;replace bR:=bR.on hb1;have hB1:Below w.heap.size w w1:=qaa (((Below.refl _ _).alloc (Nat.le_refl _) _).alloc (by simp) _) hb1;clear hb1;obtain⟨⟨c0,c1',c2,c3,c4⟩,fN⟩:=bN.facts;have bN2:=bN.set3 (.slice a1 x.cls.length c1);have bR2:=bR.other (i:=3) (M:=w.heap.size) (by omega) (.slice a1 x.cls.length c1);have hB2:Below w.heap.size w (w1.setCell ⟨w.heap.size,3,none⟩ (.slice a1 x.cls.length c1)):=hB1.setCell (p:=⟨w.heap.size,3,none⟩) (Nat.le_refl _) _;have hs2:qaB (w.heap.size+1+1) _ _ _:=(by simpa using hs1:qaB (w.heap.size+1+1) w1 (.slice a1 x.cls.length c1) x.cls).set (M:=w.heap.size) (by omega) 3 (.slice a1 x.cls.length c1);have hsz:=bR.lt;obtain⟨⟨e0,e1,e2,e3,e4⟩,fN2⟩:=bN2.facts;have e4':=qab (qac (w1.setCell ⟨w.heap.size,3,none⟩ (.slice a1 x.cls.length c1)) (.cells #[] 59)) e4;clear bN bR hB1 hs1
 go_wp2_with (at_builtin;refine qhw rfl _ _ rfl _ ?hH1 rfl _ x.ats rfl (qbY.on HA.out ?hb1) hr2 ?_;rotate_left 2;intro a2 c2' w2 hs3 hb2;refine Hid.out ?_)
 case hH1=>simp[World.setCell]
 case hb1=>exact hB2
 unfold Hid;have hz1:(w1.setCell ⟨w.heap.size,3,none⟩ (.slice a1 x.cls.length c1)).heap.size=w1.heap.size:=by simp[World.setCell]
 replace hs3:qaM (w.heap.size+1+1) w2 (.slice a2 x.ats.length c2') x.ats:=qaM.mono hs3 (by omega);have hs4:=hs2.on hb2;have bN3:=bN2.on hb2;have bR3:=bR2.on hb2;have hB3:Below w.heap.size w w2:=qaa hB2 hb2;clear hb2 hs2 bN2 bR2 hB2 e0 e1 e2 e3 e4 e4' fN2 c0 c1' c2 c3 c4 fN hz1;have bN4:=bN3.set4 (.slice a2 x.ats.length c2');have bR4:=bR3.other (i:=4) (M:=w.heap.size) (by omega) (.slice a2 x.ats.length c2');obtain⟨⟨g0,g1,g2,g3,g4⟩,fN3⟩:=bN3.facts;obtain⟨⟨n0,n1,n2,n3,n4⟩,fN4⟩:=bN4.facts;obtain⟨⟨r0,r1,r2,r3,r4⟩,fR4⟩:=bR4.facts;have hs5:=(hs4.set (M:=w.heap.size) (by omega) 4 (.slice a2 x.ats.length c2'))
 have hs6:=(hs3.set (M:=w.heap.size) (by omega) 4 (.slice a2 x.ats.length c2'))
 have hB4:Below w.heap.size w (w2.setCell ⟨w.heap.size,4,none⟩ (.slice a2 x.ats.length c2')):=hB3.setCell (p:=⟨w.heap.size,4,none⟩) (Nat.le_refl _) _;clear bN3 bR3 hs4 hs3 hB3
 go_wp2_with fail
 have bF:=((((bR4.set0 (.int .i64 x.up)).set1 (.string ⟨x.tag.toArray⟩)).set2 (.string ⟨x.id.toArray⟩)).set3 (.slice a1 x.cls.length c1)).set4 (.slice a2 x.ats.length c2');have hs7:=((((hs5.set (M:=w.heap.size+1) (by omega) 0 (.int .i64 x.up)).set (M:=w.heap.size+1) (by omega) 1 (.string ⟨x.tag.toArray⟩)).set (M:=w.heap.size+1) (by omega) 2 (.string ⟨x.id.toArray⟩)).set (M:=w.heap.size+1) (by omega) 3 (.slice a1 x.cls.length c1)).set (M:=w.heap.size+1) (by omega) 4 (.slice a2 x.ats.length c2');have hs8:=((((hs6.set (M:=w.heap.size+1) (by omega) 0 (.int .i64 x.up)).set (M:=w.heap.size+1) (by omega) 1 (.string ⟨x.tag.toArray⟩)).set (M:=w.heap.size+1) (by omega) 2 (.string ⟨x.id.toArray⟩)).set (M:=w.heap.size+1) (by omega) 3 (.slice a1 x.cls.length c1)).set (M:=w.heap.size+1) (by omega) 4 (.slice a2 x.ats.length c2');have hB5:=((((hB4.setCell (p:=⟨w.heap.size+1,0,none⟩) (Nat.le_succ _) (.int .i64 x.up)).setCell (p:=⟨w.heap.size+1,1,none⟩) (Nat.le_succ _) (.string ⟨x.tag.toArray⟩)).setCell (p:=⟨w.heap.size+1,2,none⟩) (Nat.le_succ _) (.string ⟨x.id.toArray⟩)).setCell (p:=⟨w.heap.size+1,3,none⟩) (Nat.le_succ _) (.slice a1 x.cls.length c1)).setCell (p:=⟨w.heap.size+1,4,none⟩) (Nat.le_succ _) (.slice a2 x.ats.length c2');generalize (((((w2.setCell ⟨w.heap.size,4,none⟩ (.slice a2 x.ats.length c2')).setCell ⟨w.heap.size+1,0,none⟩ (.int .i64 x.up)).setCell ⟨w.heap.size+1,1,none⟩ (.string ⟨x.tag.toArray⟩)).setCell ⟨w.heap.size+1,2,none⟩ (.string ⟨x.id.toArray⟩)).setCell ⟨w.heap.size+1,3,none⟩ (.slice a1 x.cls.length c1)).setCell ⟨w.heap.size+1,4,none⟩ (.slice a2 x.ats.length c2')=wF at *;obtain⟨⟨q0,q1,q2,q3,q4⟩,_⟩:=bF.facts
 exact bodyPost_ret (v:=.agg #[.int .i64 x.up,.string ⟨x.tag.toArray⟩,.string ⟨x.id.toArray⟩,.slice a1 x.cls.length c1,.slice a2 x.ats.length c2']) (by simp[results,Tryz.results61,go_sem,q0,q1,q2,q3,q4]) rfl
  ⟨_,rfl,⟨_,_,rfl,hs7.mono (by omega),hs8.mono (by omega)⟩,hB5⟩
namespace Pl
end Pl
def Blk6 (w:World)(N:Nat)(c0 c1 c2 c3 c4 c5:Value):Prop:=w.heap[N]? =some (.cells #[c0,c1,c2,c3,c4,c5] 109)
theorem Blk6.facts {w:World}{N:Nat}{c0 c1 c2 c3 c4 c5:Value}(h:Blk6 w N c0 c1 c2 c3 c4 c5):
 (w.cell? ⟨N,0,none⟩=some c0∧w.cell? ⟨N,1,none⟩=some c1∧w.cell? ⟨N,2,none⟩=some c2∧w.cell? ⟨N,3,none⟩=some c3∧w.cell? ⟨N,4,none⟩=some c4∧w.cell? ⟨N,5,none⟩=some c5)∧∀i,w.frozen? ⟨N,i,none⟩=false:=by
 unfold Blk6 at h;refine⟨⟨?_,?_,?_,?_,?_,?_⟩,fun i=>?_⟩
 all_goals simp[World.cell?,World.frozen?,h]
theorem Blk6.lt {w:World}{N:Nat}{c0 c1 c2 c3 c4 c5:Value}(h:Blk6 w N c0 c1 c2 c3 c4 c5):N<w.heap.size:=(Array.getElem?_eq_some_iff.1 h).1
theorem Blk6.on {w w':World}{N:Nat}{c0 c1 c2 c3 c4 c5:Value}(h:Blk6 w N c0 c1 c2 c3 c4 c5)(hb:Below w.heap.size w w'):Blk6 w' N c0 c1 c2 c3 c4 c5:=by
 unfold Blk6;rw[hb.block N h.lt];exact h
theorem Blk6.grown {w w':World}{N:Nat}{g:Option Nat}{c0 c1 c2 c3 c4 c5:Value}(h:Blk6 w N c0 c1 c2 c3 c4 c5)(hb:w.grownBy w' g)(hne:some N≠g):Blk6 w' N c0 c1 c2 c3 c4 c5:=by
 unfold Blk6;rw[hb.block N h.lt hne];exact h
theorem Blk6.new (w:World)(c0 c1 c2 c3 c4 c5:Value):Blk6 (w.alloc (.cells #[c0,c1,c2,c3,c4,c5] 109)) w.heap.size c0 c1 c2 c3 c4 c5:=by
 unfold Blk6
 show (w.heap.push _)[w.heap.size]? =_
 simp
theorem Blk6.set0 {w:World}{N:Nat}{c0 c1 c2 c3 c4 c5:Value}(h:Blk6 w N c0 c1 c2 c3 c4 c5)(v:Value):Blk6 (w.setCell ⟨N,0,none⟩ v) N v c1 c2 c3 c4 c5:=by
 unfold Blk6 at *;simp[World.setCell,Array.getElem?_modify,h]
theorem Blk6.set1 {w:World}{N:Nat}{c0 c1 c2 c3 c4 c5:Value}(h:Blk6 w N c0 c1 c2 c3 c4 c5)(v:Value):Blk6 (w.setCell ⟨N,1,none⟩ v) N c0 v c2 c3 c4 c5:=by
 unfold Blk6 at *;simp[World.setCell,Array.getElem?_modify,h]
theorem Blk6.set2 {w:World}{N:Nat}{c0 c1 c2 c3 c4 c5:Value}(h:Blk6 w N c0 c1 c2 c3 c4 c5)(v:Value):Blk6 (w.setCell ⟨N,2,none⟩ v) N c0 c1 v c3 c4 c5:=by
 unfold Blk6 at *;simp[World.setCell,Array.getElem?_modify,h]
theorem Blk6.set3 {w:World}{N:Nat}{c0 c1 c2 c3 c4 c5:Value}(h:Blk6 w N c0 c1 c2 c3 c4 c5)(v:Value):Blk6 (w.setCell ⟨N,3,none⟩ v) N c0 c1 c2 v c4 c5:=by
 unfold Blk6 at *;simp[World.setCell,Array.getElem?_modify,h]
theorem Blk6.set4 {w:World}{N:Nat}{c0 c1 c2 c3 c4 c5:Value}(h:Blk6 w N c0 c1 c2 c3 c4 c5)(v:Value):Blk6 (w.setCell ⟨N,4,none⟩ v) N c0 c1 c2 c3 v c5:=by
 unfold Blk6 at *;simp[World.setCell,Array.getElem?_modify,h]
theorem Blk6.set5 {w:World}{N:Nat}{c0 c1 c2 c3 c4 c5:Value}(h:Blk6 w N c0 c1 c2 c3 c4 c5)(v:Value):Blk6 (w.setCell ⟨N,5,none⟩ v) N c0 c1 c2 c3 c4 v:=by
 unfold Blk6 at *;simp[World.setCell,Array.getElem?_modify,h]
theorem Blk6.other {w:World}{N M i:Nat}{c0 c1 c2 c3 c4 c5:Value}(h:Blk6 w N c0 c1 c2 c3 c4 c5)(hne:M≠N)(v:Value):Blk6 (w.setCell ⟨M,i,none⟩ v) N c0 c1 c2 c3 c4 c5:=by
 unfold Blk6 at *;rw[Below.heap_setCell _ _ _ _ (by exact fun e=>hne e.symm)];exact h
theorem Blk6.six {w:World}{N:Nat}{d0 d1 d2 d3 d4 d5:Value}(h:Blk6 w N d0 d1 d2 d3 d4 d5)(c0 c1 c2 c3 c4 c5:Value):Blk6 (qbN w N c0 c1 c2 c3 c4 c5) N c0 c1 c2 c3 c4 c5:=(((((h.set0 c0).set1 c1).set2 c2).set3 c3).set4 c4).set5 c5
theorem qfS {ops:Array Oper}{o:Oper}{a:Act}{K:Act→World→Prop}{Q:Exit→Act→World→Prop}{E:Prop}{B:Nat}{P:Nat→Prop}{w2:World}{v:Value}{f:Pl.F}{xs:List Value}{x:Pl.Nd}{k:Pl.F}{vc va vk:Value}(hgd:o.guard=none)(s t:Operand)
 (ho:o.op=.call { callee:=.builtin .append,args:= #[s,t],argTypes:= #[107,107] }) (hs:a.eval s=v) (hx:a.eval t=.slice (some ⟨w2.heap.size,0,none⟩) 1 1)
 (hown:w2.ownsRow B 109 6 v f.len xs) (hcs:qa0 (fun j=>P j∧some j≠v.ownBlock) w2 xs f) (hlen:f.len+1≤64) (hB:B≤w2.heap.size)
 (hvc:qb7 (fun j=>P j∧some j≠v.ownBlock) w2 vc x.cls) (hva:AtsP (fun j=>P j∧some j≠v.ownBlock) w2 va x.ats) (hvk:Sub (fun j=>P j∧some j≠v.ownBlock) w2 vk k)
 (h:∀g cap w',TRow B P w' (.slice (some ⟨g,0,none⟩) (f.len+1) cap) (f.app (.cons x k .nil))→(w2.alloc (.cells #[.int .i64 x.up,.string ⟨x.tag.toArray⟩,.string ⟨x.id.toArray⟩,vc,va,vk] 109)).grownBy w' v.ownBlock→K (a.put o.dst (.slice (some ⟨g,0,none⟩) (f.len+1) cap)) w'):
 if Region.wanted o (yielded ops a.tmps)=true then Oper.wp Tryz.prog o a (w2.alloc (.cells #[.int .i64 x.up,.string ⟨x.tag.toArray⟩,.string ⟨x.id.toArray⟩,vc,va,vk] 109)) K Q else E:=by
 obtain⟨i0,hi,hz0,hz1,hz2⟩:=info_parts Tryz.info109;have hm:Mv (fun j=>P j∧some j≠v.ownBlock) w2 (fun j=>P j∧some j≠v.ownBlock) (w2.alloc (.cells #[.int .i64 x.up,.string ⟨x.tag.toArray⟩,.string ⟨x.id.toArray⟩,vc,va,vk] 109)):=fun j hj hl=>⟨hj,(qac _ _).block j hl⟩
 obtain⟨_,_,e3,_⟩:=id hvc;obtain⟨_,_,e4,_⟩:=id hva;obtain⟨_,_,e5,_⟩:=id hvk;refine step_append_lies _ hgd s t 107 ho B 109 i0 _ 6 112 Tryz.underlying107 hi hz0 hz1 hz2 rfl (by decide) v f.len xs hs (qbt hown (qac _ _)) ⟨w2.heap.size,0,none⟩ 1 1 [.int .i64 x.up,.string ⟨x.tag.toArray⟩,.string ⟨x.id.toArray⟩,vc,va,vk] hx rfl ?_ ?_ (by decide) (by unfold maxLen;omega) (by omega) (by simp;omega) _ rfl ?_
 ·exact World.news_of_block (heap_alloc_new w2 _)
 ·intro u hu;simp only[List.mem_cons,List.not_mem_nil,or_false]at hu
  rcases hu with rfl|rfl|rfl|rfl|rfl|rfl
  ·rfl
  ·rfl
  ·rfl
  ·rw[e3];rfl
  ·rw[e4];rfl
  ·rw[e5];rfl
 ·intro g cap w' h1 h2 h3 _;exact h g cap w' (qhT (qa0.to hm f _ hcs) (hvc.to hm) (hva.to hm) (hvk.to hm) h1 h2 h3) h2
end Go.Proofs.YtephhllfodlfbaaGreatDoor
