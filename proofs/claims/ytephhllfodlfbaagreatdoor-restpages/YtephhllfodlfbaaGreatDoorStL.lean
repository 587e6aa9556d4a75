/-
  plain.add: an Is whose step goes into this one, with its tag.
-/
import Derived.Test.YtephhllfodlfbaaGreatDoorPnJ
import Derived.Test.YtephhllfodlfbaaGreatDoorStF
set_option maxRecDepth 100000
set_option maxHeartbeats 16000000
namespace Go.Proofs.YtephhllfodlfbaaGreatDoor
open Go.RowKit
section
variable {α:Type} {A:MemL α} (hA:IsL A) (hS:qaK A) (L:Pl.Lev α) (hO:OnlyC A L) (B M:Nat) (tp:Pl.Stp α) (t:Pl.Tst α) (au al:Option Addr) (cu dl:Nat) (n:Nat) (w:World)
 (hm:Made A B M w tp (.slice au tp.tests.length cu)) (hv:A (mask (Off (frm B) (.slice au tp.tests.length cu)) w) (.slice al t.list.length dl) t.list) (hw:L.W t.list) (h6:tp.tests.length+1+n≤6)
include hA hS hO hm hv hw h6
theorem add_is3 (s:Pl.Stp α)(hso:L.only t.list=some s)(k14:t.kind=14)(htg:Pl.together tp.tag s.tag=true)(h6s:s.tests.length≤6)(hbig:tp.tests.length+s.tests.length+n≤6)(hte:tp.tag.isEmpty=true):Calls Tryz.prog 171 #[.pointer (some ⟨M,0,none⟩),.agg #[.int .i64 t.kind,.string ⟨t.name.toArray⟩,.string ⟨t.value.toArray⟩,.int .i64 t.a,.int .i64 t.b,.slice al t.list.length dl],.int .i64 n] w (qcs A B M w (Pl.addT L.only tp t n)):=by
 have h64:tp.tests.length+1≤64:=by omega
 have HL64:Hid _:=h64;have HAW:Hid (AddW A B M w (w.alloc (.cells #[.int .i64 t.kind,.string ⟨t.name.toArray⟩,.string ⟨t.value.toArray⟩,.int .i64 t.a,.int .i64 t.b,.slice al t.list.length dl] 71)) tp t au al cu dl):=AddW.start hS hm hv;have HCO:Hid (Calls Tryz.prog 199 _ _ _):=hO (w.alloc (.cells #[.int .i64 t.kind,.string ⟨t.name.toArray⟩,.string ⟨t.value.toArray⟩,.int .i64 t.a,.int .i64 t.b,.slice al t.list.length dl] 71)) (Off (frm B) (.slice au tp.tests.length cu)) (.slice al t.list.length dl) t.list HAW.out.new hw
 have HAT:Hid (Pl.addT L.only tp t n=⟨s.tag,tp.tests++s.tests⟩):=by
  unfold Hid Pl.addT;rw[hso];dsimp only;rw[if_neg (by rw[k14];decide)];dsimp only;rw[if_pos ⟨k14,htg,hbig⟩,if_pos (List.isEmpty_iff.1 hte)]
 have r13:(t.kind==13)=false:=by rw[k14];rfl
 have r14:(t.kind==14)=true:=by simpa using k14
 have hbi:(tp.tests.length:Int)+(s.tests.length:Int)+(n:Int)≤6:=by omega
 have HLEN:Hid (tp.tests.length+s.tests.length≤64):=by unfold Hid;omega
 have w1':IntKind.i64.wrap ((tp.tests.length:Int)+(s.tests.length:Int))=(tp.tests.length:Int)+(s.tests.length:Int):=IntWalk.i64_in _ ⟨by omega,by omega⟩;have w2':IntKind.i64.wrap ((tp.tests.length:Int)+(s.tests.length:Int)+(n:Int))=(tp.tests.length:Int)+(s.tests.length:Int)+(n:Int):=IntWalk.i64_in _ ⟨by omega,by omega⟩;clear k14 hbig;clear hv hw h6 hm h64;go_enter Tryz.func171,Tryz.ntmps171
 go_wp2_with fail
 generalize w.alloc (.cells #[.int .i64 t.kind,.string ⟨t.name.toArray⟩,.string ⟨t.value.toArray⟩,.int .i64 t.a,.int .i64 t.b,.slice al t.list.length dl] 71)=w1 at *;refine HCO.out.mono ?_;rintro e w2 ⟨⟨hs,-⟩|⟨s',as_,cs,hs,rfl,hrow⟩,hb2⟩
 case inl=>rw[hso]at hs;cases hs
 obtain rfl:s=s':=Option.some.inj (hso.symm.trans hs);have hb3:=qac w2 (.cells #[.string ⟨s.tag.toArray⟩,.slice as_ s.tests.length cs] 67);have HAW3:Hid (AddW A B M w (w2.alloc (.cells #[.string ⟨s.tag.toArray⟩,.slice as_ s.tests.length cs] 67)) tp t au al cu dl):=(HAW.out.on hS hb2).on hS hb3;have HR3:Hid (qaf (qaF A) 6 (mask (Off (frm B) (.slice au tp.tests.length cu)) (w2.alloc (.cells #[.string ⟨s.tag.toArray⟩,.slice as_ s.tests.length cs] 67))) (.slice as_ s.tests.length cs) s.tests):=hrow.map fun _ _ _ hq=>(hq.sub hS (qaY hb2)).sub hS (qaY hb3)
 have H6:Hid ((w2.alloc (.cells #[.string ⟨s.tag.toArray⟩,.slice as_ s.tests.length cs] 67)).heap[w2.heap.size]? =some (.cells #[.string ⟨s.tag.toArray⟩,.slice as_ s.tests.length cs] 67)):=heap_alloc_new w2 _;obtain⟨⟨b0,b1,b2,b3⟩,q0,q1,q2,q3,q4,q5⟩:=HAW3.out.facts;obtain⟨v0,v1⟩:=AddW.step6 H6.out;have HNE:Hid (∀j,(Value.slice au tp.tests.length cu).ownBlock=some j→j<w2.heap.size):=(HAW.out.on hS hb2).made.row.ownLt;have HBN:Hid (B≤w2.heap.size):=(HAW.out.on hS hb2).made.sz;clear hb2 hb3 hs hrow hso;go_wp2;generalize w2.alloc (.cells #[.string ⟨s.tag.toArray⟩,.slice as_ s.tests.length cs] 67)=W2 at *
 have HTG:Hid (∀W,Calls Tryz.prog 201 #[.agg #[.string ⟨tp.tag.toArray⟩,.slice au tp.tests.length cu],.agg #[.string ⟨s.tag.toArray⟩,.slice as_ s.tests.length cs]] W fun e w'=>e=.returned (.bool true)∧Below W.heap.size W w'):=fun W=>by
  have:=qcX tp.tag s.tag au as_ tp.tests.length cu s.tests.length cs W;rw[htg]at this;exact this
 have S0:W2.drew.cell? ⟨w.heap.size,0,none⟩=some (.int .i64 t.kind)∧W2.drew.cell? ⟨M,0,none⟩=some (.string ⟨tp.tag.toArray⟩)∧W2.drew.cell? ⟨M,1,none⟩=some (.slice au tp.tests.length cu)∧W2.drew.cell? ⟨w2.heap.size,0,none⟩=some (.string ⟨s.tag.toArray⟩)∧W2.drew.cell? ⟨w2.heap.size,1,none⟩=some (.slice as_ s.tests.length cs)∧Below W2.heap.size W2 W2.drew:=⟨q0,b0,b1,v0,v1,(Below.refl _ _).drew⟩
 clear b0 b1 b2 b3 q0 q1 q2 q3 q4 q5 v0 v1
 go_region_held3 (fun w'=>w'.cell? ⟨w.heap.size,0,none⟩=some (.int .i64 t.kind)∧w'.cell? ⟨M,0,none⟩=some (.string ⟨tp.tag.toArray⟩)∧w'.cell? ⟨M,1,none⟩=some (.slice au tp.tests.length cu)∧w'.cell? ⟨w2.heap.size,0,none⟩=some (.string ⟨s.tag.toArray⟩)∧w'.cell? ⟨w2.heap.size,1,none⟩=some (.slice as_ s.tests.length cs)∧Below W2.heap.size W2 w')
  (first|with_reducible assumption|exact qfF (by with_reducible assumption) (by with_reducible assumption))
  (first|(go_at_call 201;refine(HTG.out _).mono ?_;rintro e w' ⟨rfl,hw⟩))
 have HS5:=qhj (by with_reducible assumption);obtain⟨-,-,-,-,-,hB5⟩:=HS5;have HAW3':=HAW3.out.on hS hB5;have HR3':qaf (qaF A) 6 (mask (Off (frm B) (.slice au tp.tests.length cu)) w') (.slice as_ s.tests.length cs) s.tests:=HR3.out.map fun _ _ _ hq=>hq.sub hS (qaY hB5)
 have H6':=hblk H6.out hB5;clear HAW3 hB5 S0 HR3 H6 HTG;generalize w'=W3 at *;have HAW3:Hid (AddW A B M w W3 tp t au al cu dl):=HAW3';have HRD:Hid (qaf (qaF A) 6 (mask (Off (frm B) (.slice au tp.tests.length cu)) W3.drew) (.slice as_ s.tests.length cs) s.tests):=HR3'.map fun _ _ _ hq=>hq.sub hS (qam fun _ hj _=>⟨hj,rfl⟩)
 have H6:Hid (W3.drew.heap[w2.heap.size]? =some (.cells #[.string ⟨s.tag.toArray⟩,.slice as_ s.tests.length cs] 67)):=H6';clear HAW3' HR3' H6';have HAD:=HAW3.out.drew hS;obtain⟨⟨b0,b1,b2,b3⟩,q0,q1,q2,q3,q4,q5⟩:=HAD.facts;obtain⟨v0,v1⟩:=AddW.step6 (W:=W3.drew) H6.out;have HADH:Hid (AddW _ _ _ _ _ _ _ _ _ _ _):=HAD;have HBZ:Hid (B≤W3.drew.heap.size):=HAD.made.sz;clear HAD HAW3 q0 q1 q2 q3 q4 q5
 go_wp2_with fail
 go_region_law (refine step_app hA hS (B:=B) (W:=W3.drew) (ts:=tp.tests) (ms:=s.tests) rfl (.tmp 82) (.tmp 84) rfl rfl rfl HADH.out.made.row HRD.out HLEN.out HBZ.out ?_;intro a7 c7 w7 hrow' hgr;have HPUT:=HADH.out.put hS (Below.refl _ _) hgr hrow';have HK6:=HADH.out.keep6 H6.out HBN.out HNE.out hgr (.slice a7 (tp.tests.length+s.tests.length) c7);have z7:=HPUT.2.2.1;have zf7:=HPUT.2.2.2)
 all_goals
  have HMD:Hid (Made A B M _ _ _):=HPUT.1;have HFR:Hid (FrA B M w _):=HPUT.2.1;have HK:Hid _:=HK6;clear HPUT HK6 hrow' hgr z7 zf7 b0 b1 b2 b3 v0 v1 HADH HRD H6;generalize w7.setCell ⟨M,1,none⟩ (.slice a7 (tp.tests.length+s.tests.length) c7)=W8 at *;obtain⟨b0,b1,b2,b3⟩:=qcd HMD.out.box;obtain⟨v0,v1⟩:=AddW.step6 HK.out;dsimp only at b0 b1;go_wp2;go_end0;exact⟨rfl,_,by rw[HAT.out];exact HMD.out.retag hS s.tag,HFR.out.set 0 _⟩
end
theorem isNot_is {α:Type}{s:Pl.Stp α}(h:qcx s=true):∃t1:Pl.Tst α,s=⟨[],[t1]⟩∧t1.kind=13:=by
 obtain⟨tag,ts⟩:=s;unfold qcx Pl.qch at h
 rcases ts with _|⟨t1,_|⟨t2,ts⟩⟩
 ·simp at h
 ·dsimp only at h
  by_cases hc:tag=[]∧t1.kind=13
  ·exact⟨t1,by rw[hc.1],hc.2⟩
  ·rw[if_neg hc]at h;simp at h
 ·simp at h
theorem padd_any {α:Type}{A:MemL α}(hA:IsL A)(hS:qaK A)(L:Pl.Lev α)(hL:Pl.qcR L)(hO:OnlyC A L):AddC A L:=by
 intro B M tp t au al cu dl n w hm hv hw h6
 have key:Calls Tryz.prog 171 #[.pointer (some ⟨M,0,none⟩),.agg #[.int .i64 t.kind,.string ⟨t.name.toArray⟩,.string ⟨t.value.toArray⟩,.int .i64 t.a,.int .i64 t.b,.slice al t.list.length dl],.int .i64 n] w (qcs A B M w (Pl.addT L.only tp t n)):=by
  cases hso:L.only t.list with
  | none=>
   by_cases k13:t.kind=13
   ·exact add_none13 hS L hO B M tp t au al cu dl n w hm hv hw h6 hso k13
   ·by_cases k14:t.kind=14
    ·exact add_none14 hS L hO B M tp t au al cu dl n w hm hv hw h6 hso k14
    ·exact add_none0 hS L hO B M tp t au al cu dl n w hm hv hw h6 hso k13 k14
  | some s=>
   have h6s:s.tests.length≤6:=(hL.one hw hso).1.1
   by_cases k13:t.kind=13
   ·by_cases hnb:qcx s=true
    ·obtain⟨t1,e1,e2⟩:=isNot_is hnb;exact add_not1 hA hS L hO B M tp t au al cu dl n w hm hv hw h6 s hso k13 t1 e1 e2
    ·exact add_not0 hA hS L hO B M tp t au al cu dl n w hm hv hw h6 s hso k13 (by simpa using hnb)
   ·by_cases k14:t.kind=14
    ·by_cases htg:Pl.together tp.tag s.tag=true
     ·by_cases hbig:tp.tests.length+s.tests.length+n≤6
      ·cases hte:tp.tag.isEmpty with
       | false=>exact add_is2 hA hS L hO B M tp t au al cu dl n w hm hv hw h6 s hso k14 htg h6s hbig hte
       | true=>exact add_is3 hA hS L hO B M tp t au al cu dl n w hm hv hw h6 s hso k14 htg h6s hbig hte
      ·exact add_is1 hS L hO B M tp t au al cu dl n w hm hv hw h6 s hso k14 htg h6s hbig
     ·exact add_is0 hS L hO B M tp t au al cu dl n w hm hv hw h6 s hso k14 (by simpa using htg)
    ·exact add_some0 hS L hO B M tp t au al cu dl n w hm hv hw h6 s hso k13 k14
 exact key
def PlC2 {α:Type}(A0 A:MemL α)(L:Pl.Lev α):Prop:=∀(w:World) (v:Value) (l:List α),A0 w v l→L.W l→Calls Tryz.prog 51 #[v] w fun e w'=>∃a c,e=.returned (.slice a (L.f l).length c)∧A (mask (frm w.heap.size) w') (.slice a (L.f l).length c) (L.f l)∧Below w.heap.size w w'
theorem plStep_str {α:Type}[DecidableEq α]{A0 A:MemL α}(hA0:IsL A0)(hA:IsL A)(hS:qaK A)(L:Pl.Lev α)(hL:Pl.qcR L)(hAdd:AddC A L)(hPl:PlC2 A0 A L)(hsame:∀(w:World) (v1 v2:Value) (l m:List α),A w v1 l→A w v2 m→L.W l→L.W m→Calls Tryz.prog 52 #[v1,v2] w fun e w'=>e=.returned (.bool (sm l m))∧Below w.heap.size w w')
 (a:Option Addr) (c:Nat) (s:Pl.Stp α) (w:World) (hrow:qaf (qaF A0) 6 w (.slice a s.tests.length c) s.tests) (hok:Pl.okS L.W s):
 Calls Tryz.prog 140 #[.agg #[.string ⟨s.tag.toArray⟩,.slice a s.tests.length c]] w fun e w'=>∃a' c',e=.returned (.agg #[.string ⟨(Pl.plS L.f L.only s).tag.toArray⟩,.slice a' (Pl.plS L.f L.only s).tests.length c'])∧Grow (frm w.heap.size) w.heap.size 71 6 (VT A) w' (.slice a' (Pl.plS L.f L.only s).tests.length c') (Pl.plS L.f L.only s).tests∧Below w.heap.size w w':=by
 have HOK:Hid (Pl.okS L.W s):=hok;have HROW:Hid (qaf (qaF A0) 6 w (.slice a s.tests.length c) s.tests):=hrow;have h6:=hok.1;have hz0:(((w.alloc (.cells #[.string ⟨s.tag.toArray⟩,.slice a s.tests.length c] 67)).alloc (.cells #[.string ⟨#[]⟩,.slice none 0 0] 67)).alloc (.cells #[.string ⟨s.tag.toArray⟩,.slice none 0 0] 67)).heap.size=w.heap.size+3:=by simp
 have HB0:Hid (Below w.heap.size w (((w.alloc (.cells #[.string ⟨s.tag.toArray⟩,.slice a s.tests.length c] 67)).alloc (.cells #[.string ⟨#[]⟩,.slice none 0 0] 67)).alloc (.cells #[.string ⟨s.tag.toArray⟩,.slice none 0 0] 67))):=((((Below.refl w.heap.size w).alloc (Nat.le_refl _) _).alloc (by simp) _).alloc (by simp;omega) _)
 have X1:(((w.alloc (.cells #[.string ⟨s.tag.toArray⟩,.slice a s.tests.length c] 67)).alloc (.cells #[.string ⟨#[]⟩,.slice none 0 0] 67)).alloc (.cells #[.string ⟨s.tag.toArray⟩,.slice none 0 0] 67)).heap[w.heap.size]? =some (.cells #[.string ⟨s.tag.toArray⟩,.slice a s.tests.length c] 67):=hblk (hblk (heap_alloc_new w _) (qac _ (.cells #[.string ⟨#[]⟩,.slice none 0 0] 67))) (qac _ _)
 have X2:(((w.alloc (.cells #[.string ⟨s.tag.toArray⟩,.slice a s.tests.length c] 67)).alloc (.cells #[.string ⟨#[]⟩,.slice none 0 0] 67)).alloc (.cells #[.string ⟨s.tag.toArray⟩,.slice none 0 0] 67)).heap[w.heap.size+1]? =some (.cells #[.string ⟨#[]⟩,.slice none 0 0] 67):=by
  have h1:=heap_alloc_new (w.alloc (.cells #[.string ⟨s.tag.toArray⟩,.slice a s.tests.length c] 67)) (.cells #[.string ⟨#[]⟩,.slice none 0 0] 67);have h2:=hblk h1 (qac _ (.cells #[.string ⟨s.tag.toArray⟩,.slice none 0 0] 67))
  simpa using h2
 have X3:(((w.alloc (.cells #[.string ⟨s.tag.toArray⟩,.slice a s.tests.length c] 67)).alloc (.cells #[.string ⟨#[]⟩,.slice none 0 0] 67)).alloc (.cells #[.string ⟨s.tag.toArray⟩,.slice none 0 0] 67)).heap[w.heap.size+2]? =some (.cells #[.string ⟨s.tag.toArray⟩,.slice none 0 0] 67):=by
  have h1:=heap_alloc_new ((w.alloc (.cells #[.string ⟨s.tag.toArray⟩,.slice a s.tests.length c] 67)).alloc (.cells #[.string ⟨#[]⟩,.slice none 0 0] 67)) (.cells #[.string ⟨s.tag.toArray⟩,.slice none 0 0] 67)
  simpa using h1
 have HX1:Hid _:=X1;have HX2:Hid _:=X2;have HX3:Hid _:=X3;have HZ0:Hid _:=hz0;clear X1 X2 X3 hz0 hok hrow;go_enter Tryz.func140,Tryz.ntmps140;go_wp2;generalize hw3:((w.alloc (.cells #[.string ⟨s.tag.toArray⟩,.slice a s.tests.length c] 67)).alloc (.cells #[.string ⟨#[]⟩,.slice none 0 0] 67)).alloc (.cells #[.string ⟨s.tag.toArray⟩,.slice none 0 0] 67)=w3 at *;clear hw3;have HM0:Hid (Made A (w.heap.size+3) (w.heap.size+2) w3 (Pl.qaA L.f L.only s 0) (.slice none 0 0)):=⟨HX3.out,Grow.nil _ _ _ _ _ _,by omega,by have:=HZ0.out;omega⟩
 go_loopw [12] (fun i wr=>∃k:Nat,k≤s.tests.length∧i=.int .i64 k∧Hid (∃au cu,Made A (w.heap.size+3) (w.heap.size+2) wr (Pl.qaA L.f L.only s k) (.slice au (Pl.qaA L.f L.only s k).tests.length cu))∧Hid (FrA (w.heap.size+3) (w.heap.size+2) w3 wr)) (fun i _=>s.tests.length-(intOf i).toNat)
 case atStart=>exact⟨0,Nat.zero_le _,rfl,⟨none,0,HM0.out⟩,FrA.refl _ _ _⟩
 case round=>
  obtain⟨k,hk,rfl,HMk,HFk⟩:=hrel;obtain⟨au,cu,hmk⟩:=HMk.out;have HM:Hid (Made A (w.heap.size+3) (w.heap.size+2) wr (Pl.qaA L.f L.only s k) (.slice au (Pl.qaA L.f L.only s k).tests.length cu)):=hmk;clear HMk hmk;have HX1k:Hid (wr.heap[w.heap.size]? =some (.cells #[.string ⟨s.tag.toArray⟩,.slice a s.tests.length c] 67)):=HFk.out.blkAt HX1.out (by omega) (by omega)
  by_cases hlt:k<s.tests.length
  ·as_aux_lemma=>
   obtain⟨a',c',e',-,hcs⟩:=HROW.out;injection e' with e1 _ e3;subst e1 e3
   rcases hcs with h0|⟨b,o,rfl,hc⟩
   ·rw[h0]at hlt;simp at hlt
   obtain⟨vv,n0,n1,n2,n3,n4,n5,hm5⟩:=hc k hlt;obtain⟨al,dl,rfl,-⟩:=hA0.form hm5;have hbw:b<w.heap.size:=qaV n0;have hBW:Below w.heap.size w wr:=HFk.out.belowW HB0.out (by omega) (by omega);replace n0:=qab hBW n0;replace n1:=qab hBW n1;replace n2:=qab hBW n2;replace n3:=qab hBW n3;replace n4:=qab hBW n4;replace n5:=qab hBW n5;have hwl:=HOK.out.2 s.tests[k] (List.getElem_mem hlt);have HNX:Hid _:=Pl.qfe (f:=L.f) (only:=L.only) hlt;have HLE:Hid _:=addTo_len hL HOK.out hlt;have i1:(0:Int)≤(k:Int):=by omega
   have i2:(k:Int)<(s.tests.length:Int):=by omega
   clear hc;generalize s.tests[k]=t at *;generalize Pl.qaA L.f L.only s k=tp at *;have hba:=qac wr (.cells #[.int .i64 t.kind,.string ⟨t.name.toArray⟩,.string ⟨t.value.toArray⟩,.int .i64 t.a,.int .i64 t.b,.slice al t.list.length dl] 71);have HBA:Hid (Below wr.heap.size wr (wr.alloc (.cells #[.int .i64 t.kind,.string ⟨t.name.toArray⟩,.string ⟨t.value.toArray⟩,.int .i64 t.a,.int .i64 t.b,.slice al t.list.length dl] 71))):=hba;have H5:Hid ((wr.alloc (.cells #[.int .i64 t.kind,.string ⟨t.name.toArray⟩,.string ⟨t.value.toArray⟩,.int .i64 t.a,.int .i64 t.b,.slice al t.list.length dl] 71)).heap[wr.heap.size]? =some (.cells #[.int .i64 t.kind,.string ⟨t.name.toArray⟩,.string ⟨t.value.toArray⟩,.int .i64 t.a,.int .i64 t.b,.slice al t.list.length dl] 71)):=heap_alloc_new wr _;have HC:Hid (Calls Tryz.prog 51 _ _ _):=hPl (wr.alloc (.cells #[.int .i64 t.kind,.string ⟨t.name.toArray⟩,.string ⟨t.value.toArray⟩,.int .i64 t.a,.int .i64 t.b,.slice al t.list.length dl] 71)) (.slice al t.list.length dl) t.list (hA0.on (hA0.on hm5 hBW) hba) hwl;have hza:(wr.alloc (.cells #[.int .i64 t.kind,.string ⟨t.name.toArray⟩,.string ⟨t.value.toArray⟩,.int .i64 t.a,.int .i64 t.b,.slice al t.list.length dl] 71)).heap.size=wr.heap.size+1:=by simp
   have HZA:Hid _:=hza;have HWL:Hid (L.W t.list):=hwl;clear hba hza hm5 hBW hwl;obtain⟨wq,hwq⟩:∃q,q=wr:=⟨_,rfl⟩
   subst hwq
   go_wp2_with fail
   clear n0 n1 n2 n3 n4 n5;generalize wq.alloc (.cells #[.int .i64 t.kind,.string ⟨t.name.toArray⟩,.string ⟨t.value.toArray⟩,.int .i64 t.a,.int .i64 t.b,.slice al t.list.length dl] 71)=wa at *;refine HC.out.mono ?_;rintro e w5 ⟨a5,c5,rfl,hm5,hb5⟩;have B5:=hblk H5.out hb5;obtain⟨q0,q1,q2,q3,q4,q5⟩:=f6 B5;have hfz:=fz6 B5 5;have B6:=b45_5 B5 (.slice a5 (L.f t.list).length c5);obtain⟨r0,r1,r2,r3,r4,r5⟩:=f6 B6
   have hsame5:∀j,j<wq.heap.size→(w5.setCell ⟨wq.heap.size,5,none⟩ (.slice a5 (L.f t.list).length c5)).heap[j]? =wq.heap[j]? :=fun j hj=>by
    rw[Below.heap_setCell _ _ _ _ (by show j≠wq.heap.size;omega),hb5.block j (by have:=HZA.out;omega)];exact HBA.out.block j hj
   have hsz6:wq.heap.size≤(w5.setCell ⟨wq.heap.size,5,none⟩ (.slice a5 (L.f t.list).length c5)).heap.size:=by
    have:=hb5.size;have:=HZA.out;simp[World.setCell];omega
   have HM6:Hid (Made A (w.heap.size+3) (w.heap.size+2) (w5.setCell ⟨wq.heap.size,5,none⟩ (.slice a5 (L.f t.list).length c5)) tp (.slice au tp.tests.length cu)):=HM.out.to hS hsame5 hsz6
   have HF6:Hid (FrA (w.heap.size+3) (w.heap.size+2) w3 (w5.setCell ⟨wq.heap.size,5,none⟩ (.slice a5 (L.f t.list).length c5))):=by
    refine⟨?_,?_,?_,Nat.le_trans HFk.out.size hsz6,fun j hj hne=>?_⟩
    ·exact(hb5.os.trans HBA.out.os).trans HFk.out.os
    ·exact(hb5.tape.trans HBA.out.tape).trans HFk.out.tape
    ·exact(hb5.output.trans HBA.out.output).trans HFk.out.output
    ·rw[hsame5 j (by have:=HM.out.sz;omega)];exact HFk.out.blk j hj hne
   have HV6:Hid (A (mask (Off (frm (w.heap.size+3)) (.slice au tp.tests.length cu)) (w5.setCell ⟨wq.heap.size,5,none⟩ (.slice a5 (L.f t.list).length c5))) (.slice a5 (L.f t.list).length c5) (L.f t.list)):=hS.sub hm5 (qam fun j hj _=>by
    have hj2:wq.heap.size+1≤j:=by have:=HZA.out;simp only[frm,decide_eq_true_eq]at hj;omega
    refine⟨?_,?_⟩
    ·unfold Off;rw[show frm (w.heap.size+3) j=true by simp only[frm,decide_eq_true_eq];have:=HM.out.sz;omega];have:(Value.slice au tp.tests.length cu).ownBlock≠some j:=fun h=>by have:=HM.out.ownLt j h;omega
     simpa using this
    ·exact Below.heap_setCell _ _ _ _ (by show j≠wq.heap.size;omega))
   have x1:=(f2 (HF6.out.blkAt HX1.out (by omega) (by omega))).2;have HC6:Hid (Calls Tryz.prog 171 _ _ _):=hAdd (w.heap.size+3) (w.heap.size+2) tp (Pl.plT L.f t) au a5 cu c5 (s.tests.length-k-1) _ HM6.out HV6.out (hL.ok HWL.out) HLE.out;have hbe:((s.tests.length-k-1:Nat):Int)=(s.tests.length:Int)-k-1:=by omega
   rw[hbe]at HC6;clear hbe B5 B6 hm5 hb5 hsame5 hsz6 HC
   go_wp2_with fail
   clear q0 q1 q2 q3 q4 q5 r0 r1 r2 r3 r4 r5 hfz x1;generalize w5.setCell ⟨wq.heap.size,5,none⟩ (.slice a5 (L.f t.list).length c5)=w6 at *;refine HC6.out.mono ?_;rintro e w7 ⟨rfl,u7,hm7,hf7⟩;obtain⟨a7,c7,rfl⟩:=hm7.row.form
   have HM7:Hid (∃au cu,Made A (w.heap.size+3) (w.heap.size+2) w7 (Pl.qaA L.f L.only s (k+1)) (.slice au (Pl.qaA L.f L.only s (k+1)).tests.length cu)):=by
    unfold Hid;rw[HNX.out];exact⟨a7,c7,hm7⟩
   have HF7:Hid (FrA (w.heap.size+3) (w.heap.size+2) w3 w7):=HF6.out.trans hf7;clear hm7 hf7;go_wp2;exact⟨⟨k+1,hlt,by go_num,HM7,HF7⟩,by simp[intOf];omega⟩
  ·as_aux_lemma=>
   have hke:k=s.tests.length:=by omega
   subst hke;have HPT:Hid ((Pl.plS L.f L.only s).tests=Pl.qaR (Pl.qaA L.f L.only s s.tests.length).tests∧(Pl.plS L.f L.only s).tag=(Pl.qaA L.f L.only s s.tests.length).tag):=⟨rfl,rfl⟩
   obtain⟨-,hts,hln⟩:=Pl.qeI hL HOK.out s.tests.length (Nat.le_refl _);have HBW:Hid (Below w.heap.size w wr):=HFk.out.belowW HB0.out (by omega) (by omega);have HX2k:Hid (wr.heap[w.heap.size+1]? =some (.cells #[.string ⟨#[]⟩,.slice none 0 0] 67)):=HFk.out.blkAt HX2.out (by omega) (by omega);have HCF:Hid (Calls Tryz.prog 172 _ _ _):=qi5 hA (fun t=>L.W t.list) (fun W v u t s ht hs p q=>qhX hA L.W hsame W v u t s ht hs p q) hS (w.heap.size+3) _ _ wr HM.out.sz (Grow.row (qba hS) HM.out.row) (by omega) hts;clear hts hln;generalize Pl.qaA L.f L.only s s.tests.length=tp at *;obtain⟨b0,b1,b2,b3⟩:=qcd HM.out.box
   go_wp2_with fail
   clear b0 b1 b2 b3;refine HCF.out.mono ?_;rintro e w8 ⟨v8,rfl,hr8,hb8⟩;obtain⟨a8,c8,rfl⟩:=hr8.form;have X3:=hblk HM.out.box hb8;have X2:=hblk HX2k.out hb8;have Y3:=qge X3 (.slice a8 (Pl.qaR tp.tests).length c8)
   have Y2:(w8.setCell ⟨w.heap.size+2,1,none⟩ (.slice a8 (Pl.qaR tp.tests).length c8)).heap[w.heap.size+1]? =some (.cells #[.string ⟨#[]⟩,.slice none 0 0] 67):=by
    rw[Below.heap_setCell _ _ _ _ (by show w.heap.size+1≠w.heap.size+2;omega)];exact X2
   have Z2:=b41 Y2 (.string ⟨tp.tag.toArray⟩) (.slice a8 (Pl.qaR tp.tests).length c8);obtain⟨b0,b1,b2,b3⟩:=qcd X3;obtain⟨d0,d1,d2,d3⟩:=qcd Y3;obtain⟨g0,g1,g2,g3⟩:=qcd Y2;obtain⟨z0,z1,-,-⟩:=qcd Z2
   have HROWZ:Hid (Grow (frm w.heap.size) w.heap.size 71 6 (VT A) (((w8.setCell ⟨w.heap.size+2,1,none⟩ (.slice a8 (Pl.qaR tp.tests).length c8)).setCell ⟨w.heap.size+1,0,none⟩ (.string ⟨tp.tag.toArray⟩)).setCell ⟨w.heap.size+1,1,none⟩ (.slice a8 (Pl.qaR tp.tests).length c8)) (.slice a8 (Pl.qaR tp.tests).length c8) (Pl.qaR tp.tests)):=(hr8.move (P':=frm w.heap.size) (qba hS) fun j hj _=>by
    simp only[frm,decide_eq_true_eq]at hj ⊢;refine⟨by omega,?_⟩
    rw[Below.heap_setCell _ _ _ _ (by show j≠w.heap.size+1;omega),Below.heap_setCell _ _ _ _ (by show j≠w.heap.size+1;omega),Below.heap_setCell _ _ _ _ (by show j≠w.heap.size+2;omega)]).base (by omega)
   have HBZ:Hid (Below w.heap.size w (((w8.setCell ⟨w.heap.size+2,1,none⟩ (.slice a8 (Pl.qaR tp.tests).length c8)).setCell ⟨w.heap.size+1,0,none⟩ (.string ⟨tp.tag.toArray⟩)).setCell ⟨w.heap.size+1,1,none⟩ (.slice a8 (Pl.qaR tp.tests).length c8))):=(((qaa HBW.out hb8).setCell (p:=⟨w.heap.size+2,1,none⟩) (by show w.heap.size≤w.heap.size+2;omega) _).setCell (p:=⟨w.heap.size+1,0,none⟩) (by show w.heap.size≤w.heap.size+1;omega) _).setCell (p:=⟨w.heap.size+1,1,none⟩) (by show w.heap.size≤w.heap.size+1;omega) _;have HZ0':Hid _:=z0;have HZ1':Hid _:=z1;clear X3 X2 Y3 Y2 Z2 hr8 hb8 z0 z1 HCF;go_wp2;have z0:=HZ0'.out;have z1:=HZ1'.out;exact bodyPost_ret (v:=.agg #[.string ⟨tp.tag.toArray⟩,.slice a8 (Pl.qaR tp.tests).length c8]) (by simp[results,Tryz.results140,go_sem,z0,z1]) rfl (by rw[HPT.out.1,HPT.out.2];exact⟨a8,c8,rfl,HROWZ.out,HBZ.out⟩)
end Go.Proofs.YtephhllfodlfbaaGreatDoor
