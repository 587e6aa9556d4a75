/-
  plain.add: what comes in the place of a test.
-/
import Derived.Test.YtephhllfodlfbaaGreatDoorPnD
set_option maxRecDepth 100000
set_option maxHeartbeats 16000000
namespace Go.Proofs.YtephhllfodlfbaaGreatDoor
open Go.RowKit
def qcs {α:Type}(A:MemL α)(B M:Nat)(w:World)(r:Pl.Stp α)(e:Ending)(w':World):Prop:=e=.returned (.tuple #[])∧∃u',Made A B M w' r u'∧FrA B M w w'
structure AddW {α:Type}(A:MemL α)(B M:Nat)(w W:World)(tp:Pl.Stp α)(t:Pl.Tst α)(au al:Option Addr)(cu dl:Nat):Prop where
 made:Made A B M W tp (.slice au tp.tests.length cu)
 tb:W.heap[w.heap.size]? =some (.cells #[.int .i64 t.kind,.string ⟨t.name.toArray⟩,.string ⟨t.value.toArray⟩,.int .i64 t.a,.int .i64 t.b,.slice al t.list.length dl] 71)
 new:A (mask (Off (frm B) (.slice au tp.tests.length cu)) W) (.slice al t.list.length dl) t.list
 fr:FrA B M w W
 sz:B≤w.heap.size
section
variable {α:Type} {A:MemL α} {B M:Nat} {w W W':World} {tp:Pl.Stp α} {t:Pl.Tst α} {au al:Option Addr} {cu dl:Nat}
theorem qaY {Q:Nat→Bool}(hb:Below W.heap.size W W'):Incl (mask Q W) (mask Q W'):=qam fun j hj hl=>⟨hj,hb.block j hl⟩
theorem AddW.on (hS:qaK A)(h:AddW A B M w W tp t au al cu dl)(hb:Below W.heap.size W W'):AddW A B M w W' tp t au al cu dl:=
 ⟨h.made.on hS hb,hblk h.tb hb,hS.sub h.new (qaY hb),h.fr.trans (FrA.below hb h.made.sz),h.sz⟩
theorem AddW.drew (hS:qaK A)(h:AddW A B M w W tp t au al cu dl):AddW A B M w W.drew tp t au al cu dl:=
 ⟨h.made.drew hS,h.tb,hS.sub h.new (qam fun _ hj _=>⟨hj,rfl⟩),h.fr.drew,h.sz⟩
theorem AddW.start (hS:qaK A)(hm:Made A B M w tp (.slice au tp.tests.length cu))(hv:A (mask (Off (frm B) (.slice au tp.tests.length cu)) w) (.slice al t.list.length dl) t.list):AddW A B M w (w.alloc (.cells #[.int .i64 t.kind,.string ⟨t.name.toArray⟩,.string ⟨t.value.toArray⟩,.int .i64 t.a,.int .i64 t.b,.slice al t.list.length dl] 71)) tp t au al cu dl:=
 ⟨hm.on hS (qac _ _),heap_alloc_new w _,hS.sub hv (qaY (qac _ _)),FrA.below (qac _ _) hm.sz,hm.sz⟩
theorem AddW.facts (h:AddW A B M w W tp t au al cu dl):(W.cell? ⟨M,0,none⟩=some (.string ⟨tp.tag.toArray⟩)∧W.cell? ⟨M,1,none⟩=some (.slice au tp.tests.length cu)∧W.frozen? ⟨M,0,none⟩=false∧W.frozen? ⟨M,1,none⟩=false)∧W.cell? ⟨w.heap.size,0,none⟩=some (.int .i64 t.kind)∧W.cell? ⟨w.heap.size,1,none⟩=some (.string ⟨t.name.toArray⟩)∧W.cell? ⟨w.heap.size,2,none⟩=some (.string ⟨t.value.toArray⟩)∧W.cell? ⟨w.heap.size,3,none⟩=some (.int .i64 t.a)∧W.cell? ⟨w.heap.size,4,none⟩=some (.int .i64 t.b)∧W.cell? ⟨w.heap.size,5,none⟩=some (.slice al t.list.length dl):=
 ⟨qcd h.made.box,f6 h.tb⟩
theorem AddW.put (hS:qaK A)(h:AddW A B M w W tp t au al cu dl){W1 W2:World}{v':Value}{ts:List (Pl.Tst α)}(hb:Below W.heap.size W W1)(hg:W1.grownBy W2 (Value.slice au tp.tests.length cu).ownBlock)(hr:Grow (frm B) B 71 6 (VT A) W2 v' ts):
 Made A B M (W2.setCell ⟨M,1,none⟩ v') ⟨tp.tag,ts⟩ v'∧FrA B M w (W2.setCell ⟨M,1,none⟩ v')∧(W2.cell? ⟨M,1,none⟩=some (.slice au tp.tests.length cu)∧W2.frozen? ⟨M,1,none⟩=false):=by
 have hown:∀j,(.slice au tp.tests.length cu:Value).ownBlock=some j→B≤j:=fun j hj=>(h.made.row.own j hj).2
 have h1:=h.made.on hS hb
 have hM:W2.heap[M]? =some (.cells #[.string ⟨tp.tag.toArray⟩,.slice au tp.tests.length cu] 67):=by
  rw[hg.block M (Array.getElem?_eq_some_iff.1 h1.box).1 (fun e=>by have:=hown M e.symm;have:=h.made.lt;omega)];exact h1.box
 have hf:=h.fr.trans ((FrA.below hb h.made.sz).trans (FrA.grown hg h1.sz hown));exact⟨⟨qge hM _,hr.apart hS h.made.lt,h.made.lt,Nat.le_trans h1.sz (by simpa [World.setCell] using hg.size)⟩,hf.set 1 _,(qcd hM).2.1,(qcd hM).2.2.2⟩
end
theorem qfl {i:TypeInfo}(hi:Tryz.prog.info? 71=some i)(q:Addr)(n c:Nat)(hn:n≤c)(a:Option Addr)(c':Nat)(ty:TypeId)(w:World):
 (Builtin.append_ #[65,65] ty #[.slice (some q) n c,.slice a 0 c']).run Tryz.prog w=.ok (.slice (some q) n c) w:=by
 cases a with
 | none=>simp[Builtin.append_,run_underlying Tryz.underlying65,sizeOf,typeInfo,hi,Builtin.lenOf,Builtin.firstCells,storeCells,hn]
 | some p=>
  have h0:=run_loadCells_list (P:=Tryz.prog) w p [] (fun j v hj=>by simp at hj);simp only[List.length_nil]at h0;simp[Builtin.append_,run_underlying Tryz.underlying65,sizeOf,typeInfo,hi,Builtin.lenOf,Builtin.firstCells,h0,storeCells,hn]
theorem qf3 {i:TypeInfo}(hi:Tryz.prog.info? 71=some i)(a:Option Addr)(c:Nat)(ty:TypeId)(w:World):
 (Builtin.append_ #[65,65] ty #[.slice none 0 0,.slice a 0 c]).run Tryz.prog w=.ok (.slice none 0 0) w:=by
 cases a with
 | none=>simp[Builtin.append_,run_underlying Tryz.underlying65,sizeOf,typeInfo,hi,Builtin.lenOf,Builtin.firstCells]
 | some p=>
  have h0:=run_loadCells_list (P:=Tryz.prog) w p [] (fun j v hj=>by simp at hj);simp only[List.length_nil]at h0;simp[Builtin.append_,run_underlying Tryz.underlying65,sizeOf,typeInfo,hi,Builtin.lenOf,Builtin.firstCells,h0]
theorem step_app {α:Type}{A:MemL α}(hA:IsL A)(hS:qaK A){B:Nat}{W:World}{ops:Array Oper}{o:Oper}{a:Act}{K:Act→World→Prop}{Q:Exit→Act→World→Prop}{R:Prop}{ts ms:List (Pl.Tst α)}{au as_:Option Addr}{cu cs:Nat}(hgd:o.guard=none)(s x:Operand)
 (ho:o.op=.call { callee:=.builtin .append,args:= #[s,x],argTypes:= #[65,65] }) (hs:a.eval s=.slice au ts.length cu) (hx:a.eval x=.slice as_ ms.length cs)
 (hold:Grow (frm B) B 71 6 (VT A) W (.slice au ts.length cu) ts) (hr:qaf (qaF A) 6 (mask (Off (frm B) (.slice au ts.length cu)) W) (.slice as_ ms.length cs) ms) (hlen:ts.length+ms.length≤64) (hB:B≤W.heap.size)
 (h:∀a' c' W',Grow (frm B) B 71 6 (VT A) W' (.slice a' (ts.length+ms.length) c') (ts++ms)→W.grownBy W' (Value.slice au ts.length cu).ownBlock→K (a.put o.dst (.slice a' (ts.length+ms.length) c')) W'):
 if Region.wanted o (yielded ops a.tmps)=true then Oper.wp Tryz.prog o a W K Q else R:=by
 obtain⟨i0,hi,hz0,hz1,hz2⟩:=info_parts infT;obtain⟨xs,hown,hPo,hvs⟩:=hold
 by_cases h0:ms=[]
 ·subst h0;have hw:Region.wanted o (yielded ops a.tmps)=true:=by simp[Region.wanted,hgd]
  rw[if_pos hw]
  have hk:=h au cu W (by
   have hg0:Grow (frm B) B 71 6 (VT A) W (.slice au ts.length cu) ts:=⟨xs,hown,hPo,hvs⟩
   rw[List.append_nil,List.length_nil,Nat.add_zero]
   exact hg0) (World.grownBy.refl _ _)
  have hk':K (a.put o.dst (.slice au ts.length cu)) W:=by simpa using hk
  rcases hown.2 with ⟨e,e0⟩|⟨g,cap,cur,e,_,_,h1,_⟩
  ·injection e with e1 e2 e3;subst e1 e3;have hr2:=qf3 hi as_ cs o.type W;unfold Oper.wp execOp;rw[e0]at hs hk';simp only[ho,resolve,invoke,builtin,Sem.run_bind,Sem.run_pure,Result.andThen_ok,List.map_toArray,List.map_cons,List.map_nil,hs,hx,List.length_nil,hr2];exact hk'
  ·injection e with e1 e2 e3;subst e1 e3;have hr2:=qfl hi ⟨g,0,none⟩ ts.length cu h1 as_ cs o.type W;unfold Oper.wp execOp;simp only[ho,resolve,invoke,builtin,Sem.run_bind,Sem.run_pure,Result.andThen_ok,List.map_toArray,List.map_cons,List.map_nil,hs,hx,List.length_nil,hr2];exact hk'
 ·obtain⟨a',c',e,-,hc⟩:=hr;injection e with e1 e2 e3;subst e1 e3
  rcases hc with h1|⟨b,of,rfl,hcs⟩
  ·exact absurd h1 h0
  ·obtain⟨ys,hl,hcell,hone,hvt⟩:=cellsT hA hcs;have hpos:0<ms.length:=List.length_pos_iff.2 h0;refine step_append_lies _ hgd s x 65 ho B 71 i0 _ 6 80 Tryz.underlying65 hi hz0 hz1 hz2 rfl (by decide) _ ts.length xs hs hown ⟨b,of,none⟩ ms.length cs ys hx hl (fun j u hj=>by rw[Addr.add_lit];exact(qah.1 (hcell j u hj)).2) hone hpos (by unfold maxLen;omega) (by omega) hB _ rfl ?_;intro g cap w' h1 h2 h3 _;exact h _ cap w' (Grow.app (qba hS) hPo (by simp only[frm,decide_eq_true_eq];exact hB) hown hvs h1 h2 h3 hvt) h2
theorem AddW.step6 {W:World}{N:Nat}{v0 v1:Value}(h:W.heap[N]? =some (.cells #[v0,v1] 67)):W.cell? ⟨N,0,none⟩=some v0∧W.cell? ⟨N,1,none⟩=some v1:=⟨(qcd h).1,(qcd h).2.1⟩
theorem qfF {w W w':World}{p0 p1 p2 p3 p4:Addr}{v0 v1 v2 v3 v4:Value}(h:W.cell? p0=some v0∧W.cell? p1=some v1∧W.cell? p2=some v2∧W.cell? p3=some v3∧W.cell? p4=some v4∧Below w.heap.size w W)(hb:Below W.heap.size W w'):
 w'.cell? p0=some v0∧w'.cell? p1=some v1∧w'.cell? p2=some v2∧w'.cell? p3=some v3∧w'.cell? p4=some v4∧Below w.heap.size w w':=
 ⟨qab hb h.1,qab hb h.2.1,qab hb h.2.2.1,qab hb h.2.2.2.1,qab hb h.2.2.2.2.1,qaa h.2.2.2.2.2 hb⟩
theorem qhj {w W:World}{p0 p1 p2 p3 p4:Addr}{v0 v1 v2 v3 v4:Value}(h:W.cell? p0=some v0∧W.cell? p1=some v1∧W.cell? p2=some v2∧W.cell? p3=some v3∧W.cell? p4=some v4∧Below w.heap.size w W):W.cell? p0=some v0∧W.cell? p1=some v1∧W.cell? p2=some v2∧W.cell? p3=some v3∧W.cell? p4=some v4∧Below w.heap.size w W:=h
section
variable {α:Type} {A:MemL α} (hA:IsL A) (hS:qaK A) (L:Pl.Lev α) (hO:OnlyC A L) (B M:Nat) (tp:Pl.Stp α) (t:Pl.Tst α) (au al:Option Addr) (cu dl:Nat) (n:Nat) (w:World)
 (hm:Made A B M w tp (.slice au tp.tests.length cu)) (hv:A (mask (Off (frm B) (.slice au tp.tests.length cu)) w) (.slice al t.list.length dl) t.list) (hw:L.W t.list) (h6:tp.tests.length+1+n≤6)
include hA hS hO hm hv hw h6
omit hA in
theorem add_none13 (hno:L.only t.list=none)(k13:t.kind=13):Calls Tryz.prog 171 #[.pointer (some ⟨M,0,none⟩),.agg #[.int .i64 t.kind,.string ⟨t.name.toArray⟩,.string ⟨t.value.toArray⟩,.int .i64 t.a,.int .i64 t.b,.slice al t.list.length dl],.int .i64 n] w (qcs A B M w (Pl.addT L.only tp t n)):=by
 have h64:tp.tests.length+1≤64:=by omega
 have HL64:Hid _:=h64;have HAW:Hid (AddW A B M w (w.alloc (.cells #[.int .i64 t.kind,.string ⟨t.name.toArray⟩,.string ⟨t.value.toArray⟩,.int .i64 t.a,.int .i64 t.b,.slice al t.list.length dl] 71)) tp t au al cu dl):=AddW.start hS hm hv;have HCO:Hid (Calls Tryz.prog 199 _ _ _):=hO (w.alloc (.cells #[.int .i64 t.kind,.string ⟨t.name.toArray⟩,.string ⟨t.value.toArray⟩,.int .i64 t.a,.int .i64 t.b,.slice al t.list.length dl] 71)) (Off (frm B) (.slice au tp.tests.length cu)) (.slice al t.list.length dl) t.list HAW.out.new hw;have HAT:Hid (Pl.addT L.only tp t n=⟨tp.tag,tp.tests++[t]⟩):=by unfold Hid Pl.addT;rw[hno]
 have r13:(t.kind==13)=true:=by simpa using k13
 have r14:(t.kind==14)=false:=by rw[k13];rfl
 clear k13;clear hv hw h6 hm h64;go_enter Tryz.func171,Tryz.ntmps171
 go_wp2_with fail
 generalize w.alloc (.cells #[.int .i64 t.kind,.string ⟨t.name.toArray⟩,.string ⟨t.value.toArray⟩,.int .i64 t.a,.int .i64 t.b,.slice al t.list.length dl] 71)=w1 at *;refine HCO.out.mono ?_;rintro e w2 ⟨⟨-,rfl⟩|⟨s,as_,cs,hs,-⟩,hb2⟩
 case inr=>rw[hno]at hs;cases hs
 have HAW3:Hid (AddW A B M w (w2.alloc (.cells #[.string ⟨#[]⟩,.slice none 0 0] 67)) tp t au al cu dl):=(HAW.out.on hS hb2).on hS (qac _ _);obtain⟨⟨b0,b1,b2,b3⟩,q0,q1,q2,q3,q4,q5⟩:=HAW3.out.facts;clear hb2 hno;go_wp2;generalize w2.alloc (.cells #[.string ⟨#[]⟩,.slice none 0 0] 67)=W2 at *
 go_quiet (fail)
 go_wp2;have HAW3':Hid (AddW A B M w (W2.drewN nq) tp t au al cu dl):=HAW3.out.on hS (below_drewN (Below.refl _ _) nq);clear HAW3 b0 b1 b2 b3 q0 q1 q2 q3 q4 q5;generalize W2.drewN nq=W3 at *;have HAW3:=HAW3';clear HAW3';have HAD:=HAW3.out.drew hS;obtain⟨⟨b0,b1,b2,b3⟩,q0,q1,q2,q3,q4,q5⟩:=HAD.facts;have b1a:=qab (qac W3 (.cells #[.int .i64 t.kind,.string ⟨t.name.toArray⟩,.string ⟨t.value.toArray⟩,.int .i64 t.a,.int .i64 t.b,.slice al t.list.length dl] 71)) HAW3.out.facts.1.2.1;have HADH:Hid (AddW _ _ _ _ _ _ _ _ _ _ _):=HAD;have hBz:B≤W3.drew.heap.size:=HAD.made.sz;have HBZ:Hid _:=hBz;have HPH:Hid (frm B (W3.drew.heap.size+1)=true):=by unfold Hid;simp only[frm,decide_eq_true_eq];omega
 have HONE:Hid (∀u∈[.int .i64 t.kind,.string ⟨t.name.toArray⟩,.string ⟨t.value.toArray⟩,.int .i64 t.a,.int .i64 t.b,.slice al t.list.length dl],Value.oneCell' u=true):=by
  intro u hu;simp only[List.mem_cons,List.not_mem_nil,or_false]at hu
  rcases hu with rfl|rfl|rfl|rfl|rfl|rfl<;>rfl
 have HNW:Hid (VT A (mask (Off (frm B) (.slice au tp.tests.length cu)) W3.drew) [.int .i64 t.kind,.string ⟨t.name.toArray⟩,.string ⟨t.value.toArray⟩,.int .i64 t.a,.int .i64 t.b,.slice al t.list.length dl] t):=⟨_,rfl,HAD.new⟩
 clear HAD hBz
 go_wp2_with fail
 go_region_law (refine qbS (P:=frm B) (B:=B) (qba hS) Tryz.underlying65 infT rfl (by decide) (by decide) (w2:=W3.drew) (v:=.slice au tp.tests.length cu) (l:=tp.tests) (x:=t) (news:=[.int .i64 t.kind,.string ⟨t.name.toArray⟩,.string ⟨t.value.toArray⟩,.int .i64 t.a,.int .i64 t.b,.slice al t.list.length dl]) rfl (.tmp 18) (.tmp 20) rfl rfl rfl HADH.out.made.row HNW.out HONE.out HL64.out HBZ.out HPH.out ?_;intro g cap w7 hrow' hgr _;have HPUT:=HADH.out.put hS (qac W3.drew _) hgr hrow';have z7:=HPUT.2.2.1;have zf7:=HPUT.2.2.2)
 all_goals
  have HMD:Hid (Made A B M _ _ _):=HPUT.1;have HFR:Hid (FrA B M w _):=HPUT.2.1;clear HPUT hrow' hgr z7 zf7;go_wp2;go_end0;exact⟨rfl,_,by rw[HAT.out];exact HMD.out,HFR.out⟩
omit hA in
theorem add_none14 (hno:L.only t.list=none)(k14:t.kind=14):Calls Tryz.prog 171 #[.pointer (some ⟨M,0,none⟩),.agg #[.int .i64 t.kind,.string ⟨t.name.toArray⟩,.string ⟨t.value.toArray⟩,.int .i64 t.a,.int .i64 t.b,.slice al t.list.length dl],.int .i64 n] w (qcs A B M w (Pl.addT L.only tp t n)):=by
 have h64:tp.tests.length+1≤64:=by omega
 have HL64:Hid _:=h64;have HAW:Hid (AddW A B M w (w.alloc (.cells #[.int .i64 t.kind,.string ⟨t.name.toArray⟩,.string ⟨t.value.toArray⟩,.int .i64 t.a,.int .i64 t.b,.slice al t.list.length dl] 71)) tp t au al cu dl):=AddW.start hS hm hv;have HCO:Hid (Calls Tryz.prog 199 _ _ _):=hO (w.alloc (.cells #[.int .i64 t.kind,.string ⟨t.name.toArray⟩,.string ⟨t.value.toArray⟩,.int .i64 t.a,.int .i64 t.b,.slice al t.list.length dl] 71)) (Off (frm B) (.slice au tp.tests.length cu)) (.slice al t.list.length dl) t.list HAW.out.new hw;have HAT:Hid (Pl.addT L.only tp t n=⟨tp.tag,tp.tests++[t]⟩):=by unfold Hid Pl.addT;rw[hno]
 have r13:(t.kind==13)=false:=by rw[k14];rfl
 have r14:(t.kind==14)=true:=by simpa using k14
 clear k14;clear hv hw h6 hm h64;go_enter Tryz.func171,Tryz.ntmps171
 go_wp2_with fail
 generalize w.alloc (.cells #[.int .i64 t.kind,.string ⟨t.name.toArray⟩,.string ⟨t.value.toArray⟩,.int .i64 t.a,.int .i64 t.b,.slice al t.list.length dl] 71)=w1 at *;refine HCO.out.mono ?_;rintro e w2 ⟨⟨-,rfl⟩|⟨s,as_,cs,hs,-⟩,hb2⟩
 case inr=>rw[hno]at hs;cases hs
 have HAW3:Hid (AddW A B M w (w2.alloc (.cells #[.string ⟨#[]⟩,.slice none 0 0] 67)) tp t au al cu dl):=(HAW.out.on hS hb2).on hS (qac _ _);obtain⟨⟨b0,b1,b2,b3⟩,q0,q1,q2,q3,q4,q5⟩:=HAW3.out.facts;clear hb2 hno;go_wp2;generalize w2.alloc (.cells #[.string ⟨#[]⟩,.slice none 0 0] 67)=W2 at *
 go_quiet (fail)
 go_wp2;have HAW3':Hid (AddW A B M w (W2.drewN nq) tp t au al cu dl):=HAW3.out.on hS (below_drewN (Below.refl _ _) nq);clear HAW3 b0 b1 b2 b3 q0 q1 q2 q3 q4 q5;generalize W2.drewN nq=W3 at *;have HAW3:=HAW3';clear HAW3';have HAD:=HAW3.out.drew hS;obtain⟨⟨b0,b1,b2,b3⟩,q0,q1,q2,q3,q4,q5⟩:=HAD.facts;have b1a:=qab (qac W3 (.cells #[.int .i64 t.kind,.string ⟨t.name.toArray⟩,.string ⟨t.value.toArray⟩,.int .i64 t.a,.int .i64 t.b,.slice al t.list.length dl] 71)) HAW3.out.facts.1.2.1;have HADH:Hid (AddW _ _ _ _ _ _ _ _ _ _ _):=HAD;have hBz:B≤W3.drew.heap.size:=HAD.made.sz;have HBZ:Hid _:=hBz;have HPH:Hid (frm B (W3.drew.heap.size+1)=true):=by unfold Hid;simp only[frm,decide_eq_true_eq];omega
 have HONE:Hid (∀u∈[.int .i64 t.kind,.string ⟨t.name.toArray⟩,.string ⟨t.value.toArray⟩,.int .i64 t.a,.int .i64 t.b,.slice al t.list.length dl],Value.oneCell' u=true):=by
  intro u hu;simp only[List.mem_cons,List.not_mem_nil,or_false]at hu
  rcases hu with rfl|rfl|rfl|rfl|rfl|rfl<;>rfl
 have HNW:Hid (VT A (mask (Off (frm B) (.slice au tp.tests.length cu)) W3.drew) [.int .i64 t.kind,.string ⟨t.name.toArray⟩,.string ⟨t.value.toArray⟩,.int .i64 t.a,.int .i64 t.b,.slice al t.list.length dl] t):=⟨_,rfl,HAD.new⟩
 clear HAD hBz
 go_wp2_with fail
 go_region_law (refine qbS (P:=frm B) (B:=B) (qba hS) Tryz.underlying65 infT rfl (by decide) (by decide) (w2:=W3.drew) (v:=.slice au tp.tests.length cu) (l:=tp.tests) (x:=t) (news:=[.int .i64 t.kind,.string ⟨t.name.toArray⟩,.string ⟨t.value.toArray⟩,.int .i64 t.a,.int .i64 t.b,.slice al t.list.length dl]) rfl (.tmp 18) (.tmp 20) rfl rfl rfl HADH.out.made.row HNW.out HONE.out HL64.out HBZ.out HPH.out ?_;intro g cap w7 hrow' hgr _;have HPUT:=HADH.out.put hS (qac W3.drew _) hgr hrow';have z7:=HPUT.2.2.1;have zf7:=HPUT.2.2.2)
 all_goals
  have HMD:Hid (Made A B M _ _ _):=HPUT.1;have HFR:Hid (FrA B M w _):=HPUT.2.1;clear HPUT hrow' hgr z7 zf7;go_wp2;go_end0;exact⟨rfl,_,by rw[HAT.out];exact HMD.out,HFR.out⟩
omit hA in
theorem add_none0 (hno:L.only t.list=none)(k13:¬t.kind=13)(k14:¬t.kind=14):Calls Tryz.prog 171 #[.pointer (some ⟨M,0,none⟩),.agg #[.int .i64 t.kind,.string ⟨t.name.toArray⟩,.string ⟨t.value.toArray⟩,.int .i64 t.a,.int .i64 t.b,.slice al t.list.length dl],.int .i64 n] w (qcs A B M w (Pl.addT L.only tp t n)):=by
 have h64:tp.tests.length+1≤64:=by omega
 have HL64:Hid _:=h64;have HAW:Hid (AddW A B M w (w.alloc (.cells #[.int .i64 t.kind,.string ⟨t.name.toArray⟩,.string ⟨t.value.toArray⟩,.int .i64 t.a,.int .i64 t.b,.slice al t.list.length dl] 71)) tp t au al cu dl):=AddW.start hS hm hv;have HCO:Hid (Calls Tryz.prog 199 _ _ _):=hO (w.alloc (.cells #[.int .i64 t.kind,.string ⟨t.name.toArray⟩,.string ⟨t.value.toArray⟩,.int .i64 t.a,.int .i64 t.b,.slice al t.list.length dl] 71)) (Off (frm B) (.slice au tp.tests.length cu)) (.slice al t.list.length dl) t.list HAW.out.new hw;have HAT:Hid (Pl.addT L.only tp t n=⟨tp.tag,tp.tests++[t]⟩):=by unfold Hid Pl.addT;rw[hno]
 have r13:(t.kind==13)=false:=by simpa using k13
 have r14:(t.kind==14)=false:=by simpa using k14
 clear k13 k14;clear hv hw h6 hm h64;go_enter Tryz.func171,Tryz.ntmps171
 go_wp2_with fail
 generalize w.alloc (.cells #[.int .i64 t.kind,.string ⟨t.name.toArray⟩,.string ⟨t.value.toArray⟩,.int .i64 t.a,.int .i64 t.b,.slice al t.list.length dl] 71)=w1 at *;refine HCO.out.mono ?_;rintro e w2 ⟨⟨-,rfl⟩|⟨s,as_,cs,hs,-⟩,hb2⟩
 case inr=>rw[hno]at hs;cases hs
 have HAW3:Hid (AddW A B M w (w2.alloc (.cells #[.string ⟨#[]⟩,.slice none 0 0] 67)) tp t au al cu dl):=(HAW.out.on hS hb2).on hS (qac _ _);obtain⟨⟨b0,b1,b2,b3⟩,q0,q1,q2,q3,q4,q5⟩:=HAW3.out.facts;clear hb2 hno;go_wp2;generalize w2.alloc (.cells #[.string ⟨#[]⟩,.slice none 0 0] 67)=W2 at *
 go_quiet (fail)
 go_wp2;have HAW3':Hid (AddW A B M w (W2.drewN nq) tp t au al cu dl):=HAW3.out.on hS (below_drewN (Below.refl _ _) nq);clear HAW3 b0 b1 b2 b3 q0 q1 q2 q3 q4 q5;generalize W2.drewN nq=W3 at *;have HAW3:=HAW3';clear HAW3';have HAD:=HAW3.out.drew hS;obtain⟨⟨b0,b1,b2,b3⟩,q0,q1,q2,q3,q4,q5⟩:=HAD.facts;have b1a:=qab (qac W3 (.cells #[.int .i64 t.kind,.string ⟨t.name.toArray⟩,.string ⟨t.value.toArray⟩,.int .i64 t.a,.int .i64 t.b,.slice al t.list.length dl] 71)) HAW3.out.facts.1.2.1;have HADH:Hid (AddW _ _ _ _ _ _ _ _ _ _ _):=HAD;have hBz:B≤W3.drew.heap.size:=HAD.made.sz;have HBZ:Hid _:=hBz;have HPH:Hid (frm B (W3.drew.heap.size+1)=true):=by unfold Hid;simp only[frm,decide_eq_true_eq];omega
 have HONE:Hid (∀u∈[.int .i64 t.kind,.string ⟨t.name.toArray⟩,.string ⟨t.value.toArray⟩,.int .i64 t.a,.int .i64 t.b,.slice al t.list.length dl],Value.oneCell' u=true):=by
  intro u hu;simp only[List.mem_cons,List.not_mem_nil,or_false]at hu
  rcases hu with rfl|rfl|rfl|rfl|rfl|rfl<;>rfl
 have HNW:Hid (VT A (mask (Off (frm B) (.slice au tp.tests.length cu)) W3.drew) [.int .i64 t.kind,.string ⟨t.name.toArray⟩,.string ⟨t.value.toArray⟩,.int .i64 t.a,.int .i64 t.b,.slice al t.list.length dl] t):=⟨_,rfl,HAD.new⟩
 clear HAD hBz
 go_wp2_with fail
 go_region_law (refine qbS (P:=frm B) (B:=B) (qba hS) Tryz.underlying65 infT rfl (by decide) (by decide) (w2:=W3.drew) (v:=.slice au tp.tests.length cu) (l:=tp.tests) (x:=t) (news:=[.int .i64 t.kind,.string ⟨t.name.toArray⟩,.string ⟨t.value.toArray⟩,.int .i64 t.a,.int .i64 t.b,.slice al t.list.length dl]) rfl (.tmp 18) (.tmp 20) rfl rfl rfl HADH.out.made.row HNW.out HONE.out HL64.out HBZ.out HPH.out ?_;intro g cap w7 hrow' hgr _;have HPUT:=HADH.out.put hS (qac W3.drew _) hgr hrow';have z7:=HPUT.2.2.1;have zf7:=HPUT.2.2.2)
 all_goals
  have HMD:Hid (Made A B M _ _ _):=HPUT.1;have HFR:Hid (FrA B M w _):=HPUT.2.1;clear HPUT hrow' hgr z7 zf7;go_wp2;go_end0;exact⟨rfl,_,by rw[HAT.out];exact HMD.out,HFR.out⟩
omit hA in
theorem add_some0 (s:Pl.Stp α)(hso:L.only t.list=some s)(k13:¬t.kind=13)(k14:¬t.kind=14):Calls Tryz.prog 171 #[.pointer (some ⟨M,0,none⟩),.agg #[.int .i64 t.kind,.string ⟨t.name.toArray⟩,.string ⟨t.value.toArray⟩,.int .i64 t.a,.int .i64 t.b,.slice al t.list.length dl],.int .i64 n] w (qcs A B M w (Pl.addT L.only tp t n)):=by
 have h64:tp.tests.length+1≤64:=by omega
 have HL64:Hid _:=h64;have HAW:Hid (AddW A B M w (w.alloc (.cells #[.int .i64 t.kind,.string ⟨t.name.toArray⟩,.string ⟨t.value.toArray⟩,.int .i64 t.a,.int .i64 t.b,.slice al t.list.length dl] 71)) tp t au al cu dl):=AddW.start hS hm hv;have HCO:Hid (Calls Tryz.prog 199 _ _ _):=hO (w.alloc (.cells #[.int .i64 t.kind,.string ⟨t.name.toArray⟩,.string ⟨t.value.toArray⟩,.int .i64 t.a,.int .i64 t.b,.slice al t.list.length dl] 71)) (Off (frm B) (.slice au tp.tests.length cu)) (.slice al t.list.length dl) t.list HAW.out.new hw
 have HAT:Hid (Pl.addT L.only tp t n=⟨tp.tag,tp.tests++[t]⟩):=by
  unfold Hid Pl.addT;rw[hso];dsimp only;rw[if_neg k13];dsimp only;rw[if_neg (fun h=>k14 h.1)]
 have r13:(t.kind==13)=false:=by simpa using k13
 have r14:(t.kind==14)=false:=by simpa using k14
 clear k13 k14;clear hv hw h6 hm h64;go_enter Tryz.func171,Tryz.ntmps171
 go_wp2_with fail
 generalize w.alloc (.cells #[.int .i64 t.kind,.string ⟨t.name.toArray⟩,.string ⟨t.value.toArray⟩,.int .i64 t.a,.int .i64 t.b,.slice al t.list.length dl] 71)=w1 at *;refine HCO.out.mono ?_;rintro e w2 ⟨⟨hs,-⟩|⟨s',as_,cs,hs,rfl,hrow⟩,hb2⟩
 case inl=>rw[hso]at hs;cases hs
 obtain rfl:s=s':=Option.some.inj (hso.symm.trans hs);have hb3:=qac w2 (.cells #[.string ⟨s.tag.toArray⟩,.slice as_ s.tests.length cs] 67);have HAW3:Hid (AddW A B M w (w2.alloc (.cells #[.string ⟨s.tag.toArray⟩,.slice as_ s.tests.length cs] 67)) tp t au al cu dl):=(HAW.out.on hS hb2).on hS hb3;have HR3:Hid (qaf (qaF A) 6 (mask (Off (frm B) (.slice au tp.tests.length cu)) (w2.alloc (.cells #[.string ⟨s.tag.toArray⟩,.slice as_ s.tests.length cs] 67))) (.slice as_ s.tests.length cs) s.tests):=hrow.map fun _ _ _ hq=>(hq.sub hS (qaY hb2)).sub hS (qaY hb3)
 have H6:Hid ((w2.alloc (.cells #[.string ⟨s.tag.toArray⟩,.slice as_ s.tests.length cs] 67)).heap[w2.heap.size]? =some (.cells #[.string ⟨s.tag.toArray⟩,.slice as_ s.tests.length cs] 67)):=heap_alloc_new w2 _;obtain⟨⟨b0,b1,b2,b3⟩,q0,q1,q2,q3,q4,q5⟩:=HAW3.out.facts;obtain⟨v0,v1⟩:=AddW.step6 H6.out;clear hb2 hb3 hs hrow hso;clear HR3 H6 v0 v1;go_wp2;generalize w2.alloc (.cells #[.string ⟨s.tag.toArray⟩,.slice as_ s.tests.length cs] 67)=W2 at *
 go_quiet (fail)
 go_wp2;have HAW3':Hid (AddW A B M w (W2.drewN nq) tp t au al cu dl):=HAW3.out.on hS (below_drewN (Below.refl _ _) nq);clear HAW3 b0 b1 b2 b3 q0 q1 q2 q3 q4 q5;generalize W2.drewN nq=W3 at *;have HAW3:=HAW3';clear HAW3';have HAD:=HAW3.out.drew hS;obtain⟨⟨b0,b1,b2,b3⟩,q0,q1,q2,q3,q4,q5⟩:=HAD.facts;have b1a:=qab (qac W3 (.cells #[.int .i64 t.kind,.string ⟨t.name.toArray⟩,.string ⟨t.value.toArray⟩,.int .i64 t.a,.int .i64 t.b,.slice al t.list.length dl] 71)) HAW3.out.facts.1.2.1;have HADH:Hid (AddW _ _ _ _ _ _ _ _ _ _ _):=HAD;have hBz:B≤W3.drew.heap.size:=HAD.made.sz;have HBZ:Hid _:=hBz;have HPH:Hid (frm B (W3.drew.heap.size+1)=true):=by unfold Hid;simp only[frm,decide_eq_true_eq];omega
 have HONE:Hid (∀u∈[.int .i64 t.kind,.string ⟨t.name.toArray⟩,.string ⟨t.value.toArray⟩,.int .i64 t.a,.int .i64 t.b,.slice al t.list.length dl],Value.oneCell' u=true):=by
  intro u hu;simp only[List.mem_cons,List.not_mem_nil,or_false]at hu
  rcases hu with rfl|rfl|rfl|rfl|rfl|rfl<;>rfl
 have HNW:Hid (VT A (mask (Off (frm B) (.slice au tp.tests.length cu)) W3.drew) [.int .i64 t.kind,.string ⟨t.name.toArray⟩,.string ⟨t.value.toArray⟩,.int .i64 t.a,.int .i64 t.b,.slice al t.list.length dl] t):=⟨_,rfl,HAD.new⟩
 clear HAD hBz
 go_wp2_with fail
 go_region_law (refine qbS (P:=frm B) (B:=B) (qba hS) Tryz.underlying65 infT rfl (by decide) (by decide) (w2:=W3.drew) (v:=.slice au tp.tests.length cu) (l:=tp.tests) (x:=t) (news:=[.int .i64 t.kind,.string ⟨t.name.toArray⟩,.string ⟨t.value.toArray⟩,.int .i64 t.a,.int .i64 t.b,.slice al t.list.length dl]) rfl (.tmp 18) (.tmp 20) rfl rfl rfl HADH.out.made.row HNW.out HONE.out HL64.out HBZ.out HPH.out ?_;intro g cap w7 hrow' hgr _;have HPUT:=HADH.out.put hS (qac W3.drew _) hgr hrow';have z7:=HPUT.2.2.1;have zf7:=HPUT.2.2.2)
 all_goals
  have HMD:Hid (Made A B M _ _ _):=HPUT.1;have HFR:Hid (FrA B M w _):=HPUT.2.1;clear HPUT hrow' hgr z7 zf7;go_wp2;go_end0;exact⟨rfl,_,by rw[HAT.out];exact HMD.out,HFR.out⟩
theorem add_not0 (s:Pl.Stp α)(hso:L.only t.list=some s)(k13:t.kind=13)(hnb:qcx s=false):Calls Tryz.prog 171 #[.pointer (some ⟨M,0,none⟩),.agg #[.int .i64 t.kind,.string ⟨t.name.toArray⟩,.string ⟨t.value.toArray⟩,.int .i64 t.a,.int .i64 t.b,.slice al t.list.length dl],.int .i64 n] w (qcs A B M w (Pl.addT L.only tp t n)):=by
 have h64:tp.tests.length+1≤64:=by omega
 have HL64:Hid _:=h64;have HAW:Hid (AddW A B M w (w.alloc (.cells #[.int .i64 t.kind,.string ⟨t.name.toArray⟩,.string ⟨t.value.toArray⟩,.int .i64 t.a,.int .i64 t.b,.slice al t.list.length dl] 71)) tp t au al cu dl):=AddW.start hS hm hv;have HCO:Hid (Calls Tryz.prog 199 _ _ _):=hO (w.alloc (.cells #[.int .i64 t.kind,.string ⟨t.name.toArray⟩,.string ⟨t.value.toArray⟩,.int .i64 t.a,.int .i64 t.b,.slice al t.list.length dl] 71)) (Off (frm B) (.slice au tp.tests.length cu)) (.slice al t.list.length dl) t.list HAW.out.new hw
 have HAT:Hid (Pl.addT L.only tp t n=⟨tp.tag,tp.tests++[t]⟩):=by
  unfold Hid Pl.addT;rw[hso];dsimp only;rw[if_pos k13];have hn0:Pl.qch s=none:=by unfold qcx at hnb;cases hq:Pl.qch s with|none=>rfl|some _=>rw[hq]at hnb;cases hnb
  rw[hn0];dsimp only;rw[if_neg (fun h=>by rw[k13]at h;exact absurd h.1 (by decide))]
 have r13:(t.kind==13)=true:=by simpa using k13
 have r14:(t.kind==14)=false:=by rw[k13];rfl
 clear k13;clear hv hw h6 hm h64;go_enter Tryz.func171,Tryz.ntmps171
 go_wp2_with fail
 generalize w.alloc (.cells #[.int .i64 t.kind,.string ⟨t.name.toArray⟩,.string ⟨t.value.toArray⟩,.int .i64 t.a,.int .i64 t.b,.slice al t.list.length dl] 71)=w1 at *;refine HCO.out.mono ?_;rintro e w2 ⟨⟨hs,-⟩|⟨s',as_,cs,hs,rfl,hrow⟩,hb2⟩
 case inl=>rw[hso]at hs;cases hs
 obtain rfl:s=s':=Option.some.inj (hso.symm.trans hs);have hb3:=qac w2 (.cells #[.string ⟨s.tag.toArray⟩,.slice as_ s.tests.length cs] 67);have HAW3:Hid (AddW A B M w (w2.alloc (.cells #[.string ⟨s.tag.toArray⟩,.slice as_ s.tests.length cs] 67)) tp t au al cu dl):=(HAW.out.on hS hb2).on hS hb3;have HR3:Hid (qaf (qaF A) 6 (mask (Off (frm B) (.slice au tp.tests.length cu)) (w2.alloc (.cells #[.string ⟨s.tag.toArray⟩,.slice as_ s.tests.length cs] 67))) (.slice as_ s.tests.length cs) s.tests):=hrow.map fun _ _ _ hq=>(hq.sub hS (qaY hb2)).sub hS (qaY hb3)
 have H6:Hid ((w2.alloc (.cells #[.string ⟨s.tag.toArray⟩,.slice as_ s.tests.length cs] 67)).heap[w2.heap.size]? =some (.cells #[.string ⟨s.tag.toArray⟩,.slice as_ s.tests.length cs] 67)):=heap_alloc_new w2 _;obtain⟨⟨b0,b1,b2,b3⟩,q0,q1,q2,q3,q4,q5⟩:=HAW3.out.facts;obtain⟨v0,v1⟩:=AddW.step6 H6.out;clear hb2 hb3 hs hrow hso;have HCN:Hid (Calls Tryz.prog 200 _ _ _):=qil hA as_ cs s _ (HR3.out.map fun _ _ _ hq=>hq.sub hS (qav _ _));rw[hnb]at HCN
 go_wp2_with fail
 generalize w2.alloc (.cells #[.string ⟨s.tag.toArray⟩,.slice as_ s.tests.length cs] 67)=W2 at *;refine HCN.out.mono ?_;rintro e W4 ⟨rfl,hb4⟩;have HAW4:Hid (AddW A B M w W4 tp t au al cu dl):=HAW3.out.on hS hb4;have HR4:Hid (qaf (qaF A) 6 (mask (Off (frm B) (.slice au tp.tests.length cu)) W4) (.slice as_ s.tests.length cs) s.tests):=HR3.out.map fun _ _ _ hq=>hq.sub hS (qaY hb4)
 have H64:Hid (W4.heap[w2.heap.size]? =some (.cells #[.string ⟨s.tag.toArray⟩,.slice as_ s.tests.length cs] 67)):=hblk H6.out hb4;clear hb4 HAW3 HR3 H6 HCN b0 b1 b2 b3 q0 q1 q2 q3 q4 q5 v0 v1;obtain⟨⟨b0,b1,b2,b3⟩,q0,q1,q2,q3,q4,q5⟩:=HAW4.out.facts;clear HR4 H64;go_wp2;generalize hW4:W4=W2 at *;clear hW4;have HAW3:=HAW4;clear HAW4
 go_quiet (fail)
 go_wp2;have HAW3':Hid (AddW A B M w (W2.drewN nq) tp t au al cu dl):=HAW3.out.on hS (below_drewN (Below.refl _ _) nq);clear HAW3 b0 b1 b2 b3 q0 q1 q2 q3 q4 q5;generalize W2.drewN nq=W3 at *;have HAW3:=HAW3';clear HAW3';have HAD:=HAW3.out.drew hS;obtain⟨⟨b0,b1,b2,b3⟩,q0,q1,q2,q3,q4,q5⟩:=HAD.facts;have b1a:=qab (qac W3 (.cells #[.int .i64 t.kind,.string ⟨t.name.toArray⟩,.string ⟨t.value.toArray⟩,.int .i64 t.a,.int .i64 t.b,.slice al t.list.length dl] 71)) HAW3.out.facts.1.2.1;have HADH:Hid (AddW _ _ _ _ _ _ _ _ _ _ _):=HAD;have hBz:B≤W3.drew.heap.size:=HAD.made.sz;have HBZ:Hid _:=hBz;have HPH:Hid (frm B (W3.drew.heap.size+1)=true):=by unfold Hid;simp only[frm,decide_eq_true_eq];omega
 have HONE:Hid (∀u∈[.int .i64 t.kind,.string ⟨t.name.toArray⟩,.string ⟨t.value.toArray⟩,.int .i64 t.a,.int .i64 t.b,.slice al t.list.length dl],Value.oneCell' u=true):=by
  intro u hu;simp only[List.mem_cons,List.not_mem_nil,or_false]at hu
  rcases hu with rfl|rfl|rfl|rfl|rfl|rfl<;>rfl
 have HNW:Hid (VT A (mask (Off (frm B) (.slice au tp.tests.length cu)) W3.drew) [.int .i64 t.kind,.string ⟨t.name.toArray⟩,.string ⟨t.value.toArray⟩,.int .i64 t.a,.int .i64 t.b,.slice al t.list.length dl] t):=⟨_,rfl,HAD.new⟩
 clear HAD hBz
 go_wp2_with fail
 go_region_law (refine qbS (P:=frm B) (B:=B) (qba hS) Tryz.underlying65 infT rfl (by decide) (by decide) (w2:=W3.drew) (v:=.slice au tp.tests.length cu) (l:=tp.tests) (x:=t) (news:=[.int .i64 t.kind,.string ⟨t.name.toArray⟩,.string ⟨t.value.toArray⟩,.int .i64 t.a,.int .i64 t.b,.slice al t.list.length dl]) rfl (.tmp 18) (.tmp 20) rfl rfl rfl HADH.out.made.row HNW.out HONE.out HL64.out HBZ.out HPH.out ?_;intro g cap w7 hrow' hgr _;have HPUT:=HADH.out.put hS (qac W3.drew _) hgr hrow';have z7:=HPUT.2.2.1;have zf7:=HPUT.2.2.2)
 all_goals
  have HMD:Hid (Made A B M _ _ _):=HPUT.1;have HFR:Hid (FrA B M w _):=HPUT.2.1;clear HPUT hrow' hgr z7 zf7;go_wp2;go_end0;exact⟨rfl,_,by rw[HAT.out];exact HMD.out,HFR.out⟩
end
end Go.Proofs.YtephhllfodlfbaaGreatDoor
