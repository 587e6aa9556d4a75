/-
  plain.add: a no tp a no.
-/
import Derived.Test.YtephhllfodlfbaaGreatDoorPnE
set_option maxRecDepth 100000
set_option maxHeartbeats 16000000
namespace Go.Proofs.YtephhllfodlfbaaGreatDoor
open Go.RowKit
section
variable {α:Type} {A:MemL α} (hA:IsL A) (hS:qaK A) (L:Pl.Lev α) (hO:OnlyC A L) (B M:Nat) (tp:Pl.Stp α) (t:Pl.Tst α) (au al:Option Addr) (cu dl:Nat) (n:Nat) (w:World)
 (hm:Made A B M w tp (.slice au tp.tests.length cu)) (hv:A (mask (Off (frm B) (.slice au tp.tests.length cu)) w) (.slice al t.list.length dl) t.list) (hw:L.W t.list) (h6:tp.tests.length+1+n≤6)
include hA hS hO hm hv hw h6
theorem add_not1 (s:Pl.Stp α)(hso:L.only t.list=some s)(k13:t.kind=13)(t1:Pl.Tst α)(hsv:s=⟨[],[t1]⟩)(hk1:t1.kind=13):Calls Tryz.prog 171 #[.pointer (some ⟨M,0,none⟩),.agg #[.int .i64 t.kind,.string ⟨t.name.toArray⟩,.string ⟨t.value.toArray⟩,.int .i64 t.a,.int .i64 t.b,.slice al t.list.length dl],.int .i64 n] w (qcs A B M w (Pl.addT L.only tp t n)):=by
 have h64:tp.tests.length+1≤64:=by omega
 have HL64:Hid _:=h64;have HAW:Hid (AddW A B M w (w.alloc (.cells #[.int .i64 t.kind,.string ⟨t.name.toArray⟩,.string ⟨t.value.toArray⟩,.int .i64 t.a,.int .i64 t.b,.slice al t.list.length dl] 71)) tp t au al cu dl):=AddW.start hS hm hv;have HCO:Hid (Calls Tryz.prog 199 _ _ _):=hO (w.alloc (.cells #[.int .i64 t.kind,.string ⟨t.name.toArray⟩,.string ⟨t.value.toArray⟩,.int .i64 t.a,.int .i64 t.b,.slice al t.list.length dl] 71)) (Off (frm B) (.slice au tp.tests.length cu)) (.slice al t.list.length dl) t.list HAW.out.new hw;have hnb:qcx s=true:=by rw[hsv];unfold qcx Pl.qch;simp[hk1]
 have HAT:Hid (Pl.addT L.only tp t n=⟨tp.tag,tp.tests++[⟨14,[],[],0,0,t1.list⟩]⟩):=by
  unfold Hid Pl.addT;rw[hso];dsimp only;rw[if_pos k13];have hn0:Pl.qch s=some t1.list:=by rw[hsv];unfold Pl.qch;simp[hk1]
  rw[hn0]
 have r13:(t.kind==13)=true:=by simpa using k13
 have r14:(t.kind==14)=false:=by rw[k13];rfl
 have HSV:Hid _:=hsv;clear k13 hk1 hsv;clear hv hw h6 hm h64;go_enter Tryz.func171,Tryz.ntmps171
 go_wp2_with fail
 generalize w.alloc (.cells #[.int .i64 t.kind,.string ⟨t.name.toArray⟩,.string ⟨t.value.toArray⟩,.int .i64 t.a,.int .i64 t.b,.slice al t.list.length dl] 71)=w1 at *;refine HCO.out.mono ?_;rintro e w2 ⟨⟨hs,-⟩|⟨s',as_,cs,hs,rfl,hrow⟩,hb2⟩
 case inl=>rw[hso]at hs;cases hs
 obtain rfl:s=s':=Option.some.inj (hso.symm.trans hs);have hb3:=qac w2 (.cells #[.string ⟨s.tag.toArray⟩,.slice as_ s.tests.length cs] 67);have HAW3:Hid (AddW A B M w (w2.alloc (.cells #[.string ⟨s.tag.toArray⟩,.slice as_ s.tests.length cs] 67)) tp t au al cu dl):=(HAW.out.on hS hb2).on hS hb3;have HR3:Hid (qaf (qaF A) 6 (mask (Off (frm B) (.slice au tp.tests.length cu)) (w2.alloc (.cells #[.string ⟨s.tag.toArray⟩,.slice as_ s.tests.length cs] 67))) (.slice as_ s.tests.length cs) s.tests):=hrow.map fun _ _ _ hq=>(hq.sub hS (qaY hb2)).sub hS (qaY hb3)
 have H6:Hid ((w2.alloc (.cells #[.string ⟨s.tag.toArray⟩,.slice as_ s.tests.length cs] 67)).heap[w2.heap.size]? =some (.cells #[.string ⟨s.tag.toArray⟩,.slice as_ s.tests.length cs] 67)):=heap_alloc_new w2 _;obtain⟨⟨b0,b1,b2,b3⟩,q0,q1,q2,q3,q4,q5⟩:=HAW3.out.facts;obtain⟨v0,v1⟩:=AddW.step6 H6.out;clear hb2 hb3 hs hrow hso;have HCN:Hid (Calls Tryz.prog 200 _ _ _):=qil hA as_ cs s _ (HR3.out.map fun _ _ _ hq=>hq.sub hS (qav _ _));rw[hnb]at HCN
 go_wp2_with fail
 generalize w2.alloc (.cells #[.string ⟨s.tag.toArray⟩,.slice as_ s.tests.length cs] 67)=W2 at *;refine HCN.out.mono ?_;rintro e W4 ⟨rfl,hb4⟩;have HAW4:Hid (AddW A B M w W4 tp t au al cu dl):=HAW3.out.on hS hb4;have HR4:Hid (qaf (qaF A) 6 (mask (Off (frm B) (.slice au tp.tests.length cu)) W4) (.slice as_ s.tests.length cs) s.tests):=HR3.out.map fun _ _ _ hq=>hq.sub hS (qaY hb4)
 have H64:Hid (W4.heap[w2.heap.size]? =some (.cells #[.string ⟨s.tag.toArray⟩,.slice as_ s.tests.length cs] 67)):=hblk H6.out hb4;clear hb4 HAW3 HR3 H6 HCN b0 b1 b2 b3 q0 q1 q2 q3 q4 q5 v0 v1;have hsv:s=⟨[],[t1]⟩:=HSV.out;clear HSV;subst hsv;dsimp only at *;obtain⟨a',c',e',-,hcs⟩:=HR4.out;injection e' with e1 _ e3;subst e1 e3
 rcases hcs with h0|⟨b5,o5,rfl,hc5⟩
 ·cases h0
 obtain⟨vv,-,-,-,-,-,n5,hml⟩:=hc5 0 (by simp);obtain⟨a1,d1,rfl,-⟩:=hA.form hml
 have n5':W4.cell? ⟨b5,o5+5,none⟩=some (.slice a1 t1.list.length d1):=by
  have:=(qah.1 n5).2
  simpa using this
 have HML:Hid (A (mask (Off (frm B) (.slice au tp.tests.length cu)) W4) (.slice a1 t1.list.length d1) t1.list):=hml;have HAD:=HAW4.out.drew hS;obtain⟨⟨b0,b1,b2,b3⟩,q0,q1,q2,q3,q4,q5⟩:=HAD.facts;obtain⟨v0,v1⟩:=AddW.step6 (W:=W4.drew) H64.out;have n5d:W4.drew.cell? ⟨b5,o5+5,none⟩=some (.slice a1 t1.list.length d1):=n5';have b1a:=qab (qac W4 (.cells #[.int .i64 14,.string ⟨#[]⟩,.string ⟨#[]⟩,.int .i64 0,.int .i64 0,.slice a1 t1.list.length d1] 71)) HAW4.out.facts.1.2.1;have HADH:Hid (AddW _ _ _ _ _ _ _ _ _ _ _):=HAD;have hBz:B≤W4.drew.heap.size:=HAD.made.sz;have HBZ:Hid _:=hBz;have HPH:Hid (frm B (W4.drew.heap.size+1)=true):=by unfold Hid;simp only[frm,decide_eq_true_eq];omega
 have HONE:Hid (∀u∈[.int .i64 14,.string ⟨#[]⟩,.string ⟨#[]⟩,.int .i64 0,.int .i64 0,.slice a1 t1.list.length d1],Value.oneCell' u=true):=by
  intro u hu;simp only[List.mem_cons,List.not_mem_nil,or_false]at hu
  rcases hu with rfl|rfl|rfl|rfl|rfl|rfl<;>rfl
 have HNW:Hid (VT A (mask (Off (frm B) (.slice au tp.tests.length cu)) W4.drew) [.int .i64 14,.string ⟨#[]⟩,.string ⟨#[]⟩,.int .i64 0,.int .i64 0,.slice a1 t1.list.length d1] ⟨14,[],[],0,0,t1.list⟩):=⟨_,rfl,hS.sub hml (qam fun _ hj _=>⟨hj,rfl⟩)⟩
 clear HAD hBz hc5 n5 hml n5' HR4 H64
 go_wp2_with fail
 go_region_law (refine qbS (P:=frm B) (B:=B) (qba hS) Tryz.underlying65 infT rfl (by decide) (by decide) (w2:=W4.drew) (v:=.slice au tp.tests.length cu) (l:=tp.tests) (x:=⟨14,[],[],0,0,t1.list⟩) (news:=[.int .i64 14,.string ⟨#[]⟩,.string ⟨#[]⟩,.int .i64 0,.int .i64 0,.slice a1 t1.list.length d1]) rfl (.tmp 39) (.tmp 46) rfl rfl rfl HADH.out.made.row HNW.out HONE.out HL64.out HBZ.out HPH.out ?_;intro g cap w7 hrow' hgr _;have HPUT:=HADH.out.put hS (qac W4.drew _) hgr hrow';have z7:=HPUT.2.2.1;have zf7:=HPUT.2.2.2)
 all_goals
  have HMD:Hid (Made A B M _ _ _):=HPUT.1;have HFR:Hid (FrA B M w _):=HPUT.2.1;clear HPUT hrow' hgr z7 zf7;go_wp2;go_end0;exact⟨rfl,_,by rw[HAT.out];exact HMD.out,HFR.out⟩
end
theorem zsa {α:Type}(l:List α)(i:Nat)(a:α):l.toArray.setIfInBounds i a=(l.set i a).toArray:=by simp
theorem zs0 {α:Type}(x b:α)(l:List α):(x::l).set 0 b=b::l:=rfl
theorem zs1 {α:Type}(x b:α)(l:List α)(n:Nat):(x::l).set (n+1) b=x::l.set n b:=rfl
section
variable {α:Type} {A:MemL α} (hA:IsL A) (hS:qaK A) (L:Pl.Lev α) (hO:OnlyC A L) (B M:Nat) (tp:Pl.Stp α) (t:Pl.Tst α) (au al:Option Addr) (cu dl:Nat) (n:Nat) (w:World)
 (hm:Made A B M w tp (.slice au tp.tests.length cu)) (hv:A (mask (Off (frm B) (.slice au tp.tests.length cu)) w) (.slice al t.list.length dl) t.list) (hw:L.W t.list) (h6:tp.tests.length+1+n≤6)
include hA hS hO hm hv hw h6
omit hA in
theorem add_is0 (s:Pl.Stp α)(hso:L.only t.list=some s)(k14:t.kind=14)(htg:Pl.together tp.tag s.tag=false):Calls Tryz.prog 171 #[.pointer (some ⟨M,0,none⟩),.agg #[.int .i64 t.kind,.string ⟨t.name.toArray⟩,.string ⟨t.value.toArray⟩,.int .i64 t.a,.int .i64 t.b,.slice al t.list.length dl],.int .i64 n] w (qcs A B M w (Pl.addT L.only tp t n)):=by
 have h64:tp.tests.length+1≤64:=by omega
 have HL64:Hid _:=h64;have HAW:Hid (AddW A B M w (w.alloc (.cells #[.int .i64 t.kind,.string ⟨t.name.toArray⟩,.string ⟨t.value.toArray⟩,.int .i64 t.a,.int .i64 t.b,.slice al t.list.length dl] 71)) tp t au al cu dl):=AddW.start hS hm hv;have HCO:Hid (Calls Tryz.prog 199 _ _ _):=hO (w.alloc (.cells #[.int .i64 t.kind,.string ⟨t.name.toArray⟩,.string ⟨t.value.toArray⟩,.int .i64 t.a,.int .i64 t.b,.slice al t.list.length dl] 71)) (Off (frm B) (.slice au tp.tests.length cu)) (.slice al t.list.length dl) t.list HAW.out.new hw
 have HAT:Hid (Pl.addT L.only tp t n=⟨tp.tag,tp.tests++[t]⟩):=by
  unfold Hid Pl.addT;rw[hso];dsimp only;rw[if_neg (by rw[k14];decide)];dsimp only;rw[if_neg (fun h=>by rw[htg]at h;exact absurd h.2.1 (by decide))]
 have r13:(t.kind==13)=false:=by rw[k14];rfl
 have r14:(t.kind==14)=true:=by simpa using k14
 clear k14;clear hv hw h6 hm h64;go_enter Tryz.func171,Tryz.ntmps171
 go_wp2_with fail
 generalize w.alloc (.cells #[.int .i64 t.kind,.string ⟨t.name.toArray⟩,.string ⟨t.value.toArray⟩,.int .i64 t.a,.int .i64 t.b,.slice al t.list.length dl] 71)=w1 at *;refine HCO.out.mono ?_;rintro e w2 ⟨⟨hs,-⟩|⟨s',as_,cs,hs,rfl,hrow⟩,hb2⟩
 case inl=>rw[hso]at hs;cases hs
 obtain rfl:s=s':=Option.some.inj (hso.symm.trans hs);have hb3:=qac w2 (.cells #[.string ⟨s.tag.toArray⟩,.slice as_ s.tests.length cs] 67);have HAW3:Hid (AddW A B M w (w2.alloc (.cells #[.string ⟨s.tag.toArray⟩,.slice as_ s.tests.length cs] 67)) tp t au al cu dl):=(HAW.out.on hS hb2).on hS hb3;have HR3:Hid (qaf (qaF A) 6 (mask (Off (frm B) (.slice au tp.tests.length cu)) (w2.alloc (.cells #[.string ⟨s.tag.toArray⟩,.slice as_ s.tests.length cs] 67))) (.slice as_ s.tests.length cs) s.tests):=hrow.map fun _ _ _ hq=>(hq.sub hS (qaY hb2)).sub hS (qaY hb3)
 have H6:Hid ((w2.alloc (.cells #[.string ⟨s.tag.toArray⟩,.slice as_ s.tests.length cs] 67)).heap[w2.heap.size]? =some (.cells #[.string ⟨s.tag.toArray⟩,.slice as_ s.tests.length cs] 67)):=heap_alloc_new w2 _;obtain⟨⟨b0,b1,b2,b3⟩,q0,q1,q2,q3,q4,q5⟩:=HAW3.out.facts;obtain⟨v0,v1⟩:=AddW.step6 H6.out;clear hb2 hb3 hs hrow hso;go_wp2;generalize w2.alloc (.cells #[.string ⟨s.tag.toArray⟩,.slice as_ s.tests.length cs] 67)=W2 at *
 have HTG:Hid (∀W,Calls Tryz.prog 201 #[.agg #[.string ⟨tp.tag.toArray⟩,.slice au tp.tests.length cu],.agg #[.string ⟨s.tag.toArray⟩,.slice as_ s.tests.length cs]] W fun e w'=>e=.returned (.bool false)∧Below W.heap.size W w'):=fun W=>by
  have:=qcX tp.tag s.tag au as_ tp.tests.length cu s.tests.length cs W;rw[htg]at this;exact this
 have S0:W2.drew.cell? ⟨w.heap.size,0,none⟩=some (.int .i64 t.kind)∧W2.drew.cell? ⟨M,0,none⟩=some (.string ⟨tp.tag.toArray⟩)∧W2.drew.cell? ⟨M,1,none⟩=some (.slice au tp.tests.length cu)∧W2.drew.cell? ⟨w2.heap.size,0,none⟩=some (.string ⟨s.tag.toArray⟩)∧W2.drew.cell? ⟨w2.heap.size,1,none⟩=some (.slice as_ s.tests.length cs)∧Below W2.heap.size W2 W2.drew:=⟨q0,b0,b1,v0,v1,(Below.refl _ _).drew⟩
 clear b0 b1 b2 b3 q0 q1 q2 q3 q4 q5 v0 v1;refine wp_region_held_drew (S:=(fun w'=>w'.cell? ⟨w.heap.size,0,none⟩=some (.int .i64 t.kind)∧w'.cell? ⟨M,0,none⟩=some (.string ⟨tp.tag.toArray⟩)∧w'.cell? ⟨M,1,none⟩=some (.slice au tp.tests.length cu)∧w'.cell? ⟨w2.heap.size,0,none⟩=some (.string ⟨s.tag.toArray⟩)∧w'.cell? ⟨w2.heap.size,1,none⟩=some (.slice as_ s.tests.length cs)∧Below W2.heap.size W2 w')) (by kernel_rfl) S0 (fun hHeld=>?_);refine wpAnyH_take (i:=0) (oi:=(⟨some 51,.fieldAddr 71 (.tmp 4) 0,0, "once.go:43",#[],none⟩:Oper)) (v:=?_) rfl (by kernel_rfl) (by kernel_rfl) (by kernel_rfl) (fun _ _ _ h=>h) (Or.inl ⟨by rfl,?_⟩) (by assumption) ?_;rotate_left
 ·intro w9 hSw
  (try dsimp only at hSw)
  go_simp
  all_goals (with_reducible rfl)
 try simp only[Act.put,zsa,zs0,zs1]
 refine wpAnyH_take (i:=1) (oi:=(⟨some 52,.load 3 (.tmp 51),3, "once.go:43",#[⟨0,.data⟩],none⟩:Oper)) (v:=?_) rfl (by kernel_rfl) (by kernel_rfl) (by kernel_rfl) (fun _ _ _ h=>h) (Or.inl ⟨by rfl,?_⟩) (by assumption) ?_;rotate_left
 ·intro w9 hSw
  (try dsimp only at hSw)
  go_simp
  all_goals (with_reducible rfl)
 try simp only[Act.put,zsa,zs0,zs1]
 refine wpAnyH_take (i:=2) (oi:=(⟨some 53,.binOp BinOp.eql 3 (.tmp 52) (.const (Value.int IntKind.i64 14)) 3,4, "once.go:43",#[⟨1,.data⟩],none⟩:Oper)) (v:=?_) rfl (by kernel_rfl) (by kernel_rfl) (by kernel_rfl) (fun _ _ _ h=>h) (Or.inl ⟨by rfl,?_⟩) (by assumption) ?_;rotate_left
 ·intro w9 hSw
  (try dsimp only at hSw)
  go_simp
  all_goals (with_reducible rfl)
 try simp only[Act.put,zsa,zs0,zs1]
 refine wpAnyH_take (i:=3) (oi:=(⟨some 54,.move (.tmp 53),4, "once.go:43",#[⟨2,.data⟩],none⟩:Oper)) (v:=?_) rfl (by kernel_rfl) (by kernel_rfl) (by kernel_rfl) (fun _ _ _ h=>h) (Or.inl ⟨by rfl,?_⟩) (by assumption) ?_;rotate_left
 ·intro w9 hSw
  (try dsimp only at hSw)
  go_simp
  all_goals (with_reducible rfl)
 try simp only[Act.put,zsa,zs0,zs1]
 refine wpAnyH_take (i:=4) (oi:=(⟨some 55,.move (.tmp 7),4, "once.go:43",#[⟨3,.guard⟩],some (3,true)⟩:Oper)) (v:=?_) rfl (by kernel_rfl) (by kernel_rfl) (by kernel_rfl) (fun _ _ _ h=>h) (Or.inl ⟨by rfl,?_⟩) (by assumption) ?_;rotate_left
 ·intro w9 hSw
  (try dsimp only at hSw)
  go_simp
  all_goals (with_reducible rfl)
 try simp only[Act.put,zsa,zs0,zs1]
 refine wpAnyH_take (i:=5) (oi:=(⟨some 56,.pick (.tmp 54) (.tmp 55) (.const (Value.bool false)),4, "once.go:43",#[⟨3,.data⟩,⟨4,.data⟩],none⟩:Oper)) (v:=?_) rfl (by kernel_rfl) (by kernel_rfl) (by kernel_rfl) (fun _ _ _ h=>h) (Or.inl ⟨by rfl,?_⟩) (by assumption) ?_;rotate_left
 ·intro w9 hSw
  (try dsimp only at hSw)
  go_simp
  all_goals (with_reducible rfl)
 try simp only[Act.put,zsa,zs0,zs1]
 refine wpAnyH_take (i:=6) (oi:=(⟨some 57,.move (.tmp 56),4, "once.go:43",#[⟨5,.data⟩,⟨3,.chain⟩],none⟩:Oper)) (v:=?_) rfl (by kernel_rfl) (by kernel_rfl) (by kernel_rfl) (fun _ _ _ h=>h) (Or.inl ⟨by rfl,?_⟩) (by assumption) ?_;rotate_left
 ·intro w9 hSw
  (try dsimp only at hSw)
  go_simp
  all_goals (with_reducible rfl)
 try simp only[Act.put,zsa,zs0,zs1]
 refine wpAnyH_take (i:=7) (oi:=(⟨some 58,.move (.tmp 0),196, "once.go:43",#[⟨6,.guard⟩],some (6,true)⟩:Oper)) (v:=?_) rfl (by kernel_rfl) (by kernel_rfl) (by kernel_rfl) (fun _ _ _ h=>h) (Or.inl ⟨by rfl,?_⟩) (by assumption) ?_;rotate_left
 ·intro w9 hSw
  (try dsimp only at hSw)
  go_simp
  all_goals (with_reducible rfl)
 try simp only[Act.put,zsa,zs0,zs1]
 refine wpAnyH_take (i:=8) (oi:=(⟨some 59,.nilCheck (.tmp 58),0, "once.go:43",#[⟨7,.data⟩,⟨6,.guard⟩],some (6,true)⟩:Oper)) (v:=?_) rfl (by kernel_rfl) (by kernel_rfl) (by kernel_rfl) (fun _ _ _ h=>h) (Or.inl ⟨by rfl,?_⟩) (by assumption) ?_;rotate_left
 ·intro w9 hSw
  (try dsimp only at hSw)
  go_simp
  all_goals (with_reducible rfl)
 try simp only[Act.put,zsa,zs0,zs1]
 refine wpAnyH_take (i:=9) (oi:=(⟨some 60,.load 67 (.tmp 59),67, "once.go:43",#[⟨8,.data⟩,⟨6,.guard⟩],some (6,true)⟩:Oper)) (v:=?_) rfl (by kernel_rfl) (by kernel_rfl) (by kernel_rfl) (fun _ _ _ h=>h) (Or.inl ⟨by rfl,?_⟩) (by assumption) ?_;rotate_left
 ·intro w9 hSw
  (try dsimp only at hSw)
  go_simp
  all_goals (with_reducible rfl)
 try simp only[Act.put,zsa,zs0,zs1]
 refine wpAnyH_take (i:=10) (oi:=(⟨some 61,.load 67 (.tmp 6),67, "once.go:43",#[⟨6,.guard⟩],some (6,true)⟩:Oper)) (v:=?_) rfl (by kernel_rfl) (by kernel_rfl) (by kernel_rfl) (fun _ _ _ h=>h) (Or.inl ⟨by rfl,?_⟩) (by assumption) ?_;rotate_left
 ·intro w9 hSw
  (try dsimp only at hSw)
  go_simp
  all_goals (with_reducible rfl)
 try simp only[Act.put,zsa,zs0,zs1]
 refine wpAnyH_ready (rs:=[11]) (by kernel_rfl) (by simp) ?_;refine AllReadyH.cons (o:=(⟨some 62,.call { callee:=Callee.value (.func 201),args:= #[.tmp 60,.tmp 61],argTypes:= #[67,67] },4, "once.go:43",#[⟨9,.data⟩,⟨10,.data⟩,⟨6,.chain⟩,⟨6,.guard⟩],some (6,true)⟩:Oper)) rfl (fun K hK=>?_) AllReadyH.nil;go_simp
 go_at_call 201
 refine(HTG.out _).mono ?_;rintro e w' ⟨rfl,hw⟩;refine hK.out _ _ (qfF (by with_reducible assumption) (by with_reducible assumption)) (fun hHeld2=>?_);clear hK K hHeld
 try simp only[Act.put,zsa,zs0,zs1]
 refine wpAnyH_take (i:=12) (oi:=(⟨some 63,.pick (.tmp 57) (.tmp 62) (.const (Value.bool false)),4, "once.go:43",#[⟨6,.data⟩,⟨11,.data⟩],none⟩:Oper)) (v:=?_) rfl (by kernel_rfl) (by kernel_rfl) (by kernel_rfl) (fun _ _ _ h=>h) (Or.inl ⟨by rfl,?_⟩) (by assumption) ?_;rotate_left
 ·intro w9 hSw
  (try dsimp only at hSw)
  go_simp
  all_goals (with_reducible rfl)
 try simp only[Act.put,zsa,zs0,zs1]
 refine wpAnyH_take (i:=13) (oi:=(⟨some 64,.move (.tmp 63),4, "once.go:43",#[⟨12,.data⟩,⟨11,.chain⟩],none⟩:Oper)) (v:=?_) rfl (by kernel_rfl) (by kernel_rfl) (by kernel_rfl) (fun _ _ _ h=>h) (Or.inl ⟨by rfl,?_⟩) (by assumption) ?_;rotate_left
 ·intro w9 hSw
  (try dsimp only at hSw)
  go_simp
  all_goals (with_reducible rfl)
 try simp only[Act.put,zsa,zs0,zs1]
 refine wpAnyH_take (i:=14) (oi:=(⟨some 65,.move (.tmp 0),196, "once.go:43",#[⟨13,.guard⟩],some (13,true)⟩:Oper)) (v:=undef) rfl (by kernel_rfl) (by kernel_rfl) (by kernel_rfl) (fun _ _ _ h=>h) (Or.inr ⟨by rfl,rfl⟩) (by assumption) ?_
 try simp only[Act.put,zsa,zs0,zs1]
 refine wpAnyH_take (i:=15) (oi:=(⟨some 66,.nilCheck (.tmp 65),0, "once.go:43",#[⟨14,.data⟩,⟨13,.guard⟩],some (13,true)⟩:Oper)) (v:=undef) rfl (by kernel_rfl) (by kernel_rfl) (by kernel_rfl) (fun _ _ _ h=>h) (Or.inr ⟨by rfl,rfl⟩) (by assumption) ?_
 try simp only[Act.put,zsa,zs0,zs1]
 refine wpAnyH_take (i:=16) (oi:=(⟨some 67,.fieldAddr 67 (.tmp 66) 1,0, "once.go:43",#[⟨15,.data⟩,⟨13,.guard⟩],some (13,true)⟩:Oper)) (v:=undef) rfl (by kernel_rfl) (by kernel_rfl) (by kernel_rfl) (fun _ _ _ h=>h) (Or.inr ⟨by rfl,rfl⟩) (by assumption) ?_
 try simp only[Act.put,zsa,zs0,zs1]
 refine wpAnyH_take (i:=17) (oi:=(⟨some 68,.load 65 (.tmp 67),65, "once.go:43",#[⟨16,.data⟩,⟨13,.guard⟩],some (13,true)⟩:Oper)) (v:=undef) rfl (by kernel_rfl) (by kernel_rfl) (by kernel_rfl) (fun _ _ _ h=>h) (Or.inr ⟨by rfl,rfl⟩) (by assumption) ?_
 try simp only[Act.put,zsa,zs0,zs1]
 refine wpAnyH_take (i:=18) (oi:=(⟨some 69,.call { callee:=Callee.builtin Builtin.len,args:= #[.tmp 68],argTypes:= #[65] },3, "once.go:43",#[⟨17,.data⟩,⟨13,.guard⟩],some (13,true)⟩:Oper)) (v:=undef) rfl (by kernel_rfl) (by kernel_rfl) (by kernel_rfl) (fun _ _ _ h=>h) (Or.inr ⟨by rfl,rfl⟩) (by assumption) ?_
 try simp only[Act.put,zsa,zs0,zs1]
 refine wpAnyH_take (i:=19) (oi:=(⟨some 70,.fieldAddr 67 (.tmp 6) 1,0, "once.go:43",#[⟨13,.guard⟩],some (13,true)⟩:Oper)) (v:=undef) rfl (by kernel_rfl) (by kernel_rfl) (by kernel_rfl) (fun _ _ _ h=>h) (Or.inr ⟨by rfl,rfl⟩) (by assumption) ?_
 try simp only[Act.put,zsa,zs0,zs1]
 refine wpAnyH_take (i:=20) (oi:=(⟨some 71,.load 65 (.tmp 70),65, "once.go:43",#[⟨19,.data⟩,⟨13,.guard⟩],some (13,true)⟩:Oper)) (v:=undef) rfl (by kernel_rfl) (by kernel_rfl) (by kernel_rfl) (fun _ _ _ h=>h) (Or.inr ⟨by rfl,rfl⟩) (by assumption) ?_
 try simp only[Act.put,zsa,zs0,zs1]
 refine wpAnyH_take (i:=21) (oi:=(⟨some 72,.call { callee:=Callee.builtin Builtin.len,args:= #[.tmp 71],argTypes:= #[65] },3, "once.go:43",#[⟨20,.data⟩,⟨13,.guard⟩],some (13,true)⟩:Oper)) (v:=undef) rfl (by kernel_rfl) (by kernel_rfl) (by kernel_rfl) (fun _ _ _ h=>h) (Or.inr ⟨by rfl,rfl⟩) (by assumption) ?_
 try simp only[Act.put,zsa,zs0,zs1]
 refine wpAnyH_take (i:=22) (oi:=(⟨some 73,.binOp BinOp.add 3 (.tmp 69) (.tmp 72) 3,3, "once.go:43",#[⟨18,.data⟩,⟨21,.data⟩,⟨13,.guard⟩],some (13,true)⟩:Oper)) (v:=undef) rfl (by kernel_rfl) (by kernel_rfl) (by kernel_rfl) (fun _ _ _ h=>h) (Or.inr ⟨by rfl,rfl⟩) (by assumption) ?_
 try simp only[Act.put,zsa,zs0,zs1]
 refine wpAnyH_take (i:=23) (oi:=(⟨some 74,.move (.tmp 2),3, "once.go:43",#[⟨13,.guard⟩],some (13,true)⟩:Oper)) (v:=undef) rfl (by kernel_rfl) (by kernel_rfl) (by kernel_rfl) (fun _ _ _ h=>h) (Or.inr ⟨by rfl,rfl⟩) (by assumption) ?_
 try simp only[Act.put,zsa,zs0,zs1]
 refine wpAnyH_take (i:=24) (oi:=(⟨some 75,.binOp BinOp.add 3 (.tmp 73) (.tmp 74) 3,3, "once.go:43",#[⟨22,.data⟩,⟨23,.data⟩,⟨13,.guard⟩],some (13,true)⟩:Oper)) (v:=undef) rfl (by kernel_rfl) (by kernel_rfl) (by kernel_rfl) (fun _ _ _ h=>h) (Or.inr ⟨by rfl,rfl⟩) (by assumption) ?_
 try simp only[Act.put,zsa,zs0,zs1]
 refine wpAnyH_take (i:=25) (oi:=(⟨some 76,.binOp BinOp.leq 3 (.tmp 75) (.const (Value.int IntKind.i64 6)) 3,4, "once.go:43",#[⟨24,.data⟩,⟨13,.guard⟩],some (13,true)⟩:Oper)) (v:=undef) rfl (by kernel_rfl) (by kernel_rfl) (by kernel_rfl) (fun _ _ _ h=>h) (Or.inr ⟨by rfl,rfl⟩) (by assumption) ?_
 try simp only[Act.put,zsa,zs0,zs1]
 refine wpAnyH_take (i:=26) (oi:=(⟨some 77,.pick (.tmp 64) (.tmp 76) (.const (Value.bool false)),4, "once.go:43",#[⟨13,.data⟩,⟨25,.data⟩],none⟩:Oper)) (v:=?_) rfl (by kernel_rfl) (by kernel_rfl) (by kernel_rfl) (fun _ _ _ h=>h) (Or.inl ⟨by rfl,?_⟩) (by assumption) ?_;rotate_left
 ·intro w9 hSw
  (try dsimp only at hSw)
  go_simp
  all_goals (with_reducible rfl)
 try simp only[Act.put,zsa,zs0,zs1]
 refine wpAnyH_take (i:=27) (oi:=(⟨some 50,.assign (.tmp 77),4, "once.go:43",#[⟨26,.data⟩,⟨13,.chain⟩],none⟩:Oper)) (v:=?_) rfl (by kernel_rfl) (by kernel_rfl) (by kernel_rfl) (fun _ _ _ h=>h) (Or.inl ⟨by rfl,?_⟩) (by assumption) ?_;rotate_left
 ·intro w9 hSw
  (try dsimp only at hSw)
  go_simp
  all_goals (with_reducible rfl)
 try simp only[Act.put,zsa,zs0,zs1]
 refine wpAnyH_done (by kernel_rfl) ?_ _;have HS5:=qhj (by with_reducible assumption);obtain⟨-,-,-,-,-,hB5⟩:=HS5;have HAW3':=HAW3.out.on hS hB5;clear HAW3 hB5 S0 HR3 H6 HTG;generalize w'=W3 at *;have HAW3:Hid (AddW A B M w W3 tp t au al cu dl):=HAW3';clear HAW3';have HAD:=HAW3.out.drew hS;obtain⟨⟨b0,b1,b2,b3⟩,q0,q1,q2,q3,q4,q5⟩:=HAD.facts;have b1a:=qab (qac W3 (.cells #[.int .i64 t.kind,.string ⟨t.name.toArray⟩,.string ⟨t.value.toArray⟩,.int .i64 t.a,.int .i64 t.b,.slice al t.list.length dl] 71)) HAW3.out.facts.1.2.1;have HADH:Hid (AddW _ _ _ _ _ _ _ _ _ _ _):=HAD;have hBz:B≤W3.drew.heap.size:=HAD.made.sz;have HBZ:Hid _:=hBz;have HPH:Hid (frm B (W3.drew.heap.size+1)=true):=by unfold Hid;simp only[frm,decide_eq_true_eq];omega
 have HONE:Hid (∀u∈[.int .i64 t.kind,.string ⟨t.name.toArray⟩,.string ⟨t.value.toArray⟩,.int .i64 t.a,.int .i64 t.b,.slice al t.list.length dl],Value.oneCell' u=true):=by
  intro u hu;simp only[List.mem_cons,List.not_mem_nil,or_false]at hu
  rcases hu with rfl|rfl|rfl|rfl|rfl|rfl<;>rfl
 have HNW:Hid (VT A (mask (Off (frm B) (.slice au tp.tests.length cu)) W3.drew) [.int .i64 t.kind,.string ⟨t.name.toArray⟩,.string ⟨t.value.toArray⟩,.int .i64 t.a,.int .i64 t.b,.slice al t.list.length dl] t):=⟨_,rfl,HAD.new⟩
 clear HAD hBz
 go_wp2_with fail
 go_region_law (refine qbS (P:=frm B) (B:=B) (qba hS) Tryz.underlying65 infT rfl (by decide) (by decide) (w2:=W3.drew) (v:=.slice au tp.tests.length cu) (l:=tp.tests) (x:=t) (news:=[.int .i64 t.kind,.string ⟨t.name.toArray⟩,.string ⟨t.value.toArray⟩,.int .i64 t.a,.int .i64 t.b,.slice al t.list.length dl]) rfl (.tmp 18) (.tmp 20) rfl rfl rfl HADH.out.made.row HNW.out HONE.out HL64.out HBZ.out HPH.out ?_;intro g cap w7 hrow' hgr _;have HPUT:=HADH.out.put hS (qac W3.drew _) hgr hrow';have z7:=HPUT.2.2.1;have zf7:=HPUT.2.2.2)
 all_goals
  have HMD:Hid (Made A B M _ _ _):=HPUT.1;have HFR:Hid (FrA B M w _):=HPUT.2.1;clear HPUT hrow' hgr z7 zf7;go_wp2;go_end0;exact⟨rfl,_,by rw[HAT.out];exact HMD.out,HFR.out⟩
end
section
variable {α:Type} {A:MemL α} (hA:IsL A) (hS:qaK A) (L:Pl.Lev α) (hO:OnlyC A L) (B M:Nat) (tp:Pl.Stp α) (t:Pl.Tst α) (au al:Option Addr) (cu dl:Nat) (n:Nat) (w:World)
 (hm:Made A B M w tp (.slice au tp.tests.length cu)) (hv:A (mask (Off (frm B) (.slice au tp.tests.length cu)) w) (.slice al t.list.length dl) t.list) (hw:L.W t.list) (h6:tp.tests.length+1+n≤6)
include hA hS hO hm hv hw h6
omit hA in
theorem add_is1 (s:Pl.Stp α)(hso:L.only t.list=some s)(k14:t.kind=14)(htg:Pl.together tp.tag s.tag=true)(h6s:s.tests.length≤6)(hbig:¬tp.tests.length+s.tests.length+n≤6):Calls Tryz.prog 171 #[.pointer (some ⟨M,0,none⟩),.agg #[.int .i64 t.kind,.string ⟨t.name.toArray⟩,.string ⟨t.value.toArray⟩,.int .i64 t.a,.int .i64 t.b,.slice al t.list.length dl],.int .i64 n] w (qcs A B M w (Pl.addT L.only tp t n)):=by
 have h64:tp.tests.length+1≤64:=by omega
 have HL64:Hid _:=h64;have HAW:Hid (AddW A B M w (w.alloc (.cells #[.int .i64 t.kind,.string ⟨t.name.toArray⟩,.string ⟨t.value.toArray⟩,.int .i64 t.a,.int .i64 t.b,.slice al t.list.length dl] 71)) tp t au al cu dl):=AddW.start hS hm hv;have HCO:Hid (Calls Tryz.prog 199 _ _ _):=hO (w.alloc (.cells #[.int .i64 t.kind,.string ⟨t.name.toArray⟩,.string ⟨t.value.toArray⟩,.int .i64 t.a,.int .i64 t.b,.slice al t.list.length dl] 71)) (Off (frm B) (.slice au tp.tests.length cu)) (.slice al t.list.length dl) t.list HAW.out.new hw
 have HAT:Hid (Pl.addT L.only tp t n=⟨tp.tag,tp.tests++[t]⟩):=by
  unfold Hid Pl.addT;rw[hso];dsimp only;rw[if_neg (by rw[k14];decide)];dsimp only;rw[if_neg (fun h=>hbig h.2.2)]
 have r13:(t.kind==13)=false:=by rw[k14];rfl
 have r14:(t.kind==14)=true:=by simpa using k14
 have hbi:¬((tp.tests.length:Int)+(s.tests.length:Int)+(n:Int)≤6):=by omega
 have w1':IntKind.i64.wrap ((tp.tests.length:Int)+(s.tests.length:Int))=(tp.tests.length:Int)+(s.tests.length:Int):=IntWalk.i64_in _ ⟨by omega,by omega⟩;have w2':IntKind.i64.wrap ((tp.tests.length:Int)+(s.tests.length:Int)+(n:Int))=(tp.tests.length:Int)+(s.tests.length:Int)+(n:Int):=IntWalk.i64_in _ ⟨by omega,by omega⟩;clear k14 hbig;clear hv hw h6 hm h64;go_enter Tryz.func171,Tryz.ntmps171
 go_wp2_with fail
 generalize w.alloc (.cells #[.int .i64 t.kind,.string ⟨t.name.toArray⟩,.string ⟨t.value.toArray⟩,.int .i64 t.a,.int .i64 t.b,.slice al t.list.length dl] 71)=w1 at *;refine HCO.out.mono ?_;rintro e w2 ⟨⟨hs,-⟩|⟨s',as_,cs,hs,rfl,hrow⟩,hb2⟩
 case inl=>rw[hso]at hs;cases hs
 obtain rfl:s=s':=Option.some.inj (hso.symm.trans hs);have hb3:=qac w2 (.cells #[.string ⟨s.tag.toArray⟩,.slice as_ s.tests.length cs] 67);have HAW3:Hid (AddW A B M w (w2.alloc (.cells #[.string ⟨s.tag.toArray⟩,.slice as_ s.tests.length cs] 67)) tp t au al cu dl):=(HAW.out.on hS hb2).on hS hb3;have HR3:Hid (qaf (qaF A) 6 (mask (Off (frm B) (.slice au tp.tests.length cu)) (w2.alloc (.cells #[.string ⟨s.tag.toArray⟩,.slice as_ s.tests.length cs] 67))) (.slice as_ s.tests.length cs) s.tests):=hrow.map fun _ _ _ hq=>(hq.sub hS (qaY hb2)).sub hS (qaY hb3)
 have H6:Hid ((w2.alloc (.cells #[.string ⟨s.tag.toArray⟩,.slice as_ s.tests.length cs] 67)).heap[w2.heap.size]? =some (.cells #[.string ⟨s.tag.toArray⟩,.slice as_ s.tests.length cs] 67)):=heap_alloc_new w2 _;obtain⟨⟨b0,b1,b2,b3⟩,q0,q1,q2,q3,q4,q5⟩:=HAW3.out.facts;obtain⟨v0,v1⟩:=AddW.step6 H6.out;clear hb2 hb3 hs hrow hso;go_wp2;generalize w2.alloc (.cells #[.string ⟨s.tag.toArray⟩,.slice as_ s.tests.length cs] 67)=W2 at *
 have HTG:Hid (∀W,Calls Tryz.prog 201 #[.agg #[.string ⟨tp.tag.toArray⟩,.slice au tp.tests.length cu],.agg #[.string ⟨s.tag.toArray⟩,.slice as_ s.tests.length cs]] W fun e w'=>e=.returned (.bool true)∧Below W.heap.size W w'):=fun W=>by
  have:=qcX tp.tag s.tag au as_ tp.tests.length cu s.tests.length cs W;rw[htg]at this;exact this
 have S0:W2.drew.cell? ⟨w.heap.size,0,none⟩=some (.int .i64 t.kind)∧W2.drew.cell? ⟨M,0,none⟩=some (.string ⟨tp.tag.toArray⟩)∧W2.drew.cell? ⟨M,1,none⟩=some (.slice au tp.tests.length cu)∧W2.drew.cell? ⟨w2.heap.size,0,none⟩=some (.string ⟨s.tag.toArray⟩)∧W2.drew.cell? ⟨w2.heap.size,1,none⟩=some (.slice as_ s.tests.length cs)∧Below W2.heap.size W2 W2.drew:=⟨q0,b0,b1,v0,v1,(Below.refl _ _).drew⟩
 clear b0 b1 b2 b3 q0 q1 q2 q3 q4 q5 v0 v1
 go_region_held3 (fun w'=>w'.cell? ⟨w.heap.size,0,none⟩=some (.int .i64 t.kind)∧w'.cell? ⟨M,0,none⟩=some (.string ⟨tp.tag.toArray⟩)∧w'.cell? ⟨M,1,none⟩=some (.slice au tp.tests.length cu)∧w'.cell? ⟨w2.heap.size,0,none⟩=some (.string ⟨s.tag.toArray⟩)∧w'.cell? ⟨w2.heap.size,1,none⟩=some (.slice as_ s.tests.length cs)∧Below W2.heap.size W2 w')
  (first|with_reducible assumption|exact qfF (by with_reducible assumption) (by with_reducible assumption))
  (first|(go_at_call 201;refine(HTG.out _).mono ?_;rintro e w' ⟨rfl,hw⟩))
 have HS5:=qhj (by with_reducible assumption);obtain⟨-,-,-,-,-,hB5⟩:=HS5;have HAW3':=HAW3.out.on hS hB5;clear HAW3 hB5 S0 HR3 H6 HTG;generalize w'=W3 at *;have HAW3:Hid (AddW A B M w W3 tp t au al cu dl):=HAW3';clear HAW3';have HAD:=HAW3.out.drew hS;obtain⟨⟨b0,b1,b2,b3⟩,q0,q1,q2,q3,q4,q5⟩:=HAD.facts;have b1a:=qab (qac W3 (.cells #[.int .i64 t.kind,.string ⟨t.name.toArray⟩,.string ⟨t.value.toArray⟩,.int .i64 t.a,.int .i64 t.b,.slice al t.list.length dl] 71)) HAW3.out.facts.1.2.1;have HADH:Hid (AddW _ _ _ _ _ _ _ _ _ _ _):=HAD;have hBz:B≤W3.drew.heap.size:=HAD.made.sz;have HBZ:Hid _:=hBz;have HPH:Hid (frm B (W3.drew.heap.size+1)=true):=by unfold Hid;simp only[frm,decide_eq_true_eq];omega
 have HONE:Hid (∀u∈[.int .i64 t.kind,.string ⟨t.name.toArray⟩,.string ⟨t.value.toArray⟩,.int .i64 t.a,.int .i64 t.b,.slice al t.list.length dl],Value.oneCell' u=true):=by
  intro u hu;simp only[List.mem_cons,List.not_mem_nil,or_false]at hu
  rcases hu with rfl|rfl|rfl|rfl|rfl|rfl<;>rfl
 have HNW:Hid (VT A (mask (Off (frm B) (.slice au tp.tests.length cu)) W3.drew) [.int .i64 t.kind,.string ⟨t.name.toArray⟩,.string ⟨t.value.toArray⟩,.int .i64 t.a,.int .i64 t.b,.slice al t.list.length dl] t):=⟨_,rfl,HAD.new⟩
 clear HAD hBz
 go_wp2_with fail
 go_region_law (refine qbS (P:=frm B) (B:=B) (qba hS) Tryz.underlying65 infT rfl (by decide) (by decide) (w2:=W3.drew) (v:=.slice au tp.tests.length cu) (l:=tp.tests) (x:=t) (news:=[.int .i64 t.kind,.string ⟨t.name.toArray⟩,.string ⟨t.value.toArray⟩,.int .i64 t.a,.int .i64 t.b,.slice al t.list.length dl]) rfl (.tmp 18) (.tmp 20) rfl rfl rfl HADH.out.made.row HNW.out HONE.out HL64.out HBZ.out HPH.out ?_;intro g cap w7 hrow' hgr _;have HPUT:=HADH.out.put hS (qac W3.drew _) hgr hrow';have z7:=HPUT.2.2.1;have zf7:=HPUT.2.2.2)
 all_goals
  have HMD:Hid (Made A B M _ _ _):=HPUT.1;have HFR:Hid (FrA B M w _):=HPUT.2.1;clear HPUT hrow' hgr z7 zf7;go_wp2;go_end0;exact⟨rfl,_,by rw[HAT.out];exact HMD.out,HFR.out⟩
end
theorem Grow.ownLt {β:Type}{P:Nat→Bool}{B:Nat}{e:TypeId}{k:Nat}{V:World→List Value→β→Prop}{w:World}{v:Value}{l:List β}(h:Grow P B e k V w v l):∀g,v.ownBlock=some g→g<w.heap.size:=by
 obtain⟨xs,hown,_⟩:=h;intro g hg
 rcases hown.2 with ⟨rfl,_⟩|⟨g',cap,cur,rfl,_,e3,_⟩
 ·simp[Value.ownBlock]at hg
 ·simp[Value.ownBlock]at hg;subst hg;exact(Array.getElem?_eq_some_iff.1 e3).1
theorem Made.retag {α:Type}{A:MemL α}(hS:qaK A){B M:Nat}{w:World}{tp:Pl.Stp α}{u:Value}(h:Made A B M w tp u)(x:List UInt8):Made A B M (w.setCell ⟨M,0,none⟩ (.string ⟨x.toArray⟩)) ⟨x,tp.tests⟩ u:=
 ⟨set41_0 h.box _,h.row.apart hS h.lt,h.lt,by have:=h.sz;simpa [World.setCell] using this⟩
theorem AddW.keep6 {α:Type}{A:MemL α}{B M N:Nat}{w W W2:World}{tp:Pl.Stp α}{t:Pl.Tst α}{au al:Option Addr}{cu dl:Nat}{o:Obj}(h:AddW A B M w W tp t au al cu dl)(h6:W.heap[N]? =some o)(hN:B≤N)(hlt:∀j,(Value.slice au tp.tests.length cu).ownBlock=some j→j<N)(hg:W.grownBy W2 (Value.slice au tp.tests.length cu).ownBlock)(v':Value):(W2.setCell ⟨M,1,none⟩ v').heap[N]? =some o:=by
 have hM:=h.made.lt;rw[Below.heap_setCell _ _ _ _ (by show N≠M;omega),hg.block N (Array.getElem?_eq_some_iff.1 h6).1 (fun e=>by have:=hlt N e.symm;omega)];exact h6
section
variable {α:Type} {A:MemL α} (hA:IsL A) (hS:qaK A) (L:Pl.Lev α) (hO:OnlyC A L) (B M:Nat) (tp:Pl.Stp α) (t:Pl.Tst α) (au al:Option Addr) (cu dl:Nat) (n:Nat) (w:World)
 (hm:Made A B M w tp (.slice au tp.tests.length cu)) (hv:A (mask (Off (frm B) (.slice au tp.tests.length cu)) w) (.slice al t.list.length dl) t.list) (hw:L.W t.list) (h6:tp.tests.length+1+n≤6)
include hA hS hO hm hv hw h6
theorem add_is2 (s:Pl.Stp α)(hso:L.only t.list=some s)(k14:t.kind=14)(htg:Pl.together tp.tag s.tag=true)(h6s:s.tests.length≤6)(hbig:tp.tests.length+s.tests.length+n≤6)(hte:tp.tag.isEmpty=false):Calls Tryz.prog 171 #[.pointer (some ⟨M,0,none⟩),.agg #[.int .i64 t.kind,.string ⟨t.name.toArray⟩,.string ⟨t.value.toArray⟩,.int .i64 t.a,.int .i64 t.b,.slice al t.list.length dl],.int .i64 n] w (qcs A B M w (Pl.addT L.only tp t n)):=by
 have h64:tp.tests.length+1≤64:=by omega
 have HL64:Hid _:=h64;have HAW:Hid (AddW A B M w (w.alloc (.cells #[.int .i64 t.kind,.string ⟨t.name.toArray⟩,.string ⟨t.value.toArray⟩,.int .i64 t.a,.int .i64 t.b,.slice al t.list.length dl] 71)) tp t au al cu dl):=AddW.start hS hm hv;have HCO:Hid (Calls Tryz.prog 199 _ _ _):=hO (w.alloc (.cells #[.int .i64 t.kind,.string ⟨t.name.toArray⟩,.string ⟨t.value.toArray⟩,.int .i64 t.a,.int .i64 t.b,.slice al t.list.length dl] 71)) (Off (frm B) (.slice au tp.tests.length cu)) (.slice al t.list.length dl) t.list HAW.out.new hw
 have HAT:Hid (Pl.addT L.only tp t n=⟨tp.tag,tp.tests++s.tests⟩):=by
  unfold Hid Pl.addT;rw[hso];dsimp only;rw[if_neg (by rw[k14];decide)];dsimp only;rw[if_pos ⟨k14,htg,hbig⟩,if_neg (fun h0=>by rw[h0]at hte;cases hte)]
 have r13:(t.kind==13)=false:=by rw[k14];rfl
 have r14:(t.kind==14)=true:=by simpa using k14
 have hbi:(tp.tests.length:Int)+(s.tests.length:Int)+(n:Int)≤6:=by omega
 have HLEN:Hid (tp.tests.length+s.tests.length≤64):=by unfold Hid;omega
 have w1':IntKind.i64.wrap ((tp.tests.length:Int)+(s.tests.length:Int))=(tp.tests.length:Int)+(s.tests.length:Int):=IntWalk.i64_in _ ⟨by omega,by omega⟩;have w2':IntKind.i64.wrap ((tp.tests.length:Int)+(s.tests.length:Int)+(n:Int))=(tp.tests.length:Int)+(s.tests.length:Int)+(n:Int):=IntWalk.i64_in _ ⟨by omega,by omega⟩;clear k14 hbig;clear hv hw h6 hm h64;go_enter Tryz.func171,Tryz.ntmps171
 go_wp2_with fail
 generalize w.alloc (.cells #[.int .i64 t.kind,.string ⟨t.name.toArray⟩,.string ⟨t.value.toArray⟩,.int .i64 t.a,.int .i64 t.b,.slice al t.list.length dl] 71)=w1 at *;refine HCO.out.mono ?_;rintro e w2 ⟨⟨hs,-⟩|⟨s',as_,cs,hs,rfl,hrow⟩,hb2⟩
 case inl=>rw[hso]at hs;cases hs
 obtain rfl:s=s':=Option.some.inj (hso.symm.trans hs);have hb3:=qac w2 (.cells #[.string ⟨s.tag.toArray⟩,.slice as_ s.tests.length cs] 67);have HAW3:Hid (AddW A B M w (w2.alloc (.cells #[.string ⟨s.tag.toArray⟩,.slice as_ s.tests.length cs] 67)) tp t au al cu dl):=(HAW.out.on hS hb2).on hS hb3;have HR3:Hid (qaf (qaF A) 6 (mask (Off (frm B) (.slice au tp.tests.length cu)) (w2.alloc (.cells #[.string ⟨s.tag.toArray⟩,.slice as_ s.tests.length cs] 67))) (.slice as_ s.tests.length cs) s.tests):=hrow.map fun _ _ _ hq=>(hq.sub hS (qaY hb2)).sub hS (qaY hb3)
 have H6:Hid ((w2.alloc (.cells #[.string ⟨s.tag.toArray⟩,.slice as_ s.tests.length cs] 67)).heap[w2.heap.size]? =some (.cells #[.string ⟨s.tag.toArray⟩,.slice as_ s.tests.length cs] 67)):=heap_alloc_new w2 _;obtain⟨⟨b0,b1,b2,b3⟩,q0,q1,q2,q3,q4,q5⟩:=HAW3.out.facts;obtain⟨v0,v1⟩:=AddW.step6 H6.out;have HNE:Hid (∀j,(Value.slice au tp.tests.length cu).ownBlock=some j→j<w2.heap.size):=(HAW.out.on hS hb2).made.row.ownLt;have HBN:Hid (B≤w2.heap.size):=(HAW.out.on hS hb2).made.sz;clear hb2 hb3 hs hrow hso;go_wp2;generalize w2.alloc (.cells #[.string ⟨s.tag.toArray⟩,.slice as_ s.tests.length cs] 67)=W2 at *
 have HTG:Hid (∀W,Calls Tryz.prog 201 #[.agg #[.string ⟨tp.tag.toArray⟩,.slice au tp.tests.length cu],.agg #[.string ⟨s.tag.toArray⟩,.slice as_ s.tests.length cs]] W fun e w'=>e=.returned (.bool true)∧Below W.heap.size W w'):=fun W=>by
  have:=qcX tp.tag s.tag au as_ tp.tests.length cu s.tests.length cs W;rw[htg]at this;exact this
 have S0:W2.drew.cell? ⟨w.heap.size,0,none⟩=some (.int .i64 t.kind)∧W2.drew.cell? ⟨M,0,none⟩=some (.string ⟨tp.tag.toArray⟩)∧W2.drew.cell? ⟨M,1,none⟩=some (.slice au tp.tests.length cu)∧W2.drew.cell? ⟨w2.heap.size,0,none⟩=some (.string ⟨s.tag.toArray⟩)∧W2.drew.cell? ⟨w2.heap.size,1,none⟩=some (.slice as_ s.tests.length cs)∧Below W2.heap.size W2 W2.drew:=⟨q0,b0,b1,v0,v1,(Below.refl _ _).drew⟩
 clear b0 b1 b2 b3 q0 q1 q2 q3 q4 q5 v0 v1
 go_region_held3 (fun w'=>w'.cell? ⟨w.heap.size,0,none⟩=some (.int .i64 t.kind)∧w'.cell? ⟨M,0,none⟩=some (.string ⟨tp.tag.toArray⟩)∧w'.cell? ⟨M,1,none⟩=some (.slice au tp.tests.length cu)∧w'.cell? ⟨w2.heap.size,0,none⟩=some (.string ⟨s.tag.toArray⟩)∧w'.cell? ⟨w2.heap.size,1,none⟩=some (.slice as_ s.tests.length cs)∧Below W2.heap.size W2 w')
  (first|with_reducible assumption|exact qfF (by with_reducible assumption) (by with_reducible assumption))
  (first|(go_at_call 201;refine(HTG.out _).mono ?_;rintro e w' ⟨rfl,hw⟩))
 have HS5:=qhj (by with_reducible assumption);obtain⟨-,-,-,-,-,hB5⟩:=HS5;have HAW3':=HAW3.out.on hS hB5;have HR3':qaf (qaF A) 6 (mask (Off (frm B) (.slice au tp.tests.length cu)) w') (.slice as_ s.tests.length cs) s.tests:=HR3.out.map fun _ _ _ hq=>hq.sub hS (qaY hB5)
 have H6':=hblk H6.out hB5;clear HAW3 hB5 S0 HR3 H6 HTG;generalize w'=W3 at *;have HAW3:Hid (AddW A B M w W3 tp t au al cu dl):=HAW3';have HRD:Hid (qaf (qaF A) 6 (mask (Off (frm B) (.slice au tp.tests.length cu)) W3.drew) (.slice as_ s.tests.length cs) s.tests):=HR3'.map fun _ _ _ hq=>hq.sub hS (qam fun _ hj _=>⟨hj,rfl⟩)
 have H6:Hid (W3.drew.heap[w2.heap.size]? =some (.cells #[.string ⟨s.tag.toArray⟩,.slice as_ s.tests.length cs] 67)):=H6';clear HAW3' HR3' H6';have HAD:=HAW3.out.drew hS;obtain⟨⟨b0,b1,b2,b3⟩,q0,q1,q2,q3,q4,q5⟩:=HAD.facts;obtain⟨v0,v1⟩:=AddW.step6 (W:=W3.drew) H6.out;have HADH:Hid (AddW _ _ _ _ _ _ _ _ _ _ _):=HAD;have HBZ:Hid (B≤W3.drew.heap.size):=HAD.made.sz;clear HAD HAW3 q0 q1 q2 q3 q4 q5
 go_wp2_with fail
 go_region_law (refine step_app hA hS (B:=B) (W:=W3.drew) (ts:=tp.tests) (ms:=s.tests) rfl (.tmp 82) (.tmp 84) rfl rfl rfl HADH.out.made.row HRD.out HLEN.out HBZ.out ?_;intro a7 c7 w7 hrow' hgr;have HPUT:=HADH.out.put hS (Below.refl _ _) hgr hrow';have HK6:=HADH.out.keep6 H6.out HBN.out HNE.out hgr (.slice a7 (tp.tests.length+s.tests.length) c7);have z7:=HPUT.2.2.1;have zf7:=HPUT.2.2.2)
 all_goals
  have HMD:Hid (Made A B M _ _ _):=HPUT.1;have HFR:Hid (FrA B M w _):=HPUT.2.1;have HK:Hid _:=HK6;clear HPUT HK6 hrow' hgr z7 zf7 b0 b1 b2 b3 v0 v1 HADH HRD H6;generalize w7.setCell ⟨M,1,none⟩ (.slice a7 (tp.tests.length+s.tests.length) c7)=W8 at *;obtain⟨b0,b1,b2,b3⟩:=qcd HMD.out.box;obtain⟨v0,v1⟩:=AddW.step6 HK.out;dsimp only at b0 b1;go_wp2;go_end0;exact⟨rfl,_,by rw[HAT.out];exact HMD.out,HFR.out⟩
end
end Go.Proofs.YtephhllfodlfbaaGreatDoor
