/-
  path's fits, at the three levels.
-/
import Derived.Test.YtephhllfodlfbaaGreatDoorEvr
set_option maxRecDepth 100000
set_option maxHeartbeats 16000000
namespace Go.Proofs.YtephhllfodlfbaaGreatDoor
open Go.RowKit Go.Shelf
attribute [local go_sem] Oper.semAt_some
theorem fits_z (d:Int)(d1:3<d)(w:World)(v:Value)(l:List Unit)(h:ZAt w v l):Calls Tryz.prog 93 #[v,.int .i64 d] w fun e w'=>e=.returned (.bool ((fun _=>false:List Unit→Bool) l))∧Below w.heap.size w w':=by
 obtain⟨a,c,rfl,-⟩:=h;have HB0:Hid (Below w.heap.size w ((w.alloc (.cells #[.int .i64 d] 3)).alloc (.cells #[.bool false] 4))):=((Below.refl _ w).alloc (Nat.le_refl _) _).alloc (by simp) _;refine(callsIn_wide (n:=6)).1 ?_;refine callsIn_of_wp_marks Tryz.func93 rfl trivial ?_ rfl;simp only[Tryz.ntmps93,List.size_toArray,List.length_cons,List.length_nil,Nat.reduceAdd,Nat.reduceSub,Array.replicate_succ,Array.replicate_zero,List.push_toArray,List.append_toArray,List.nil_append,List.cons_append]
 gi_wp2
 exact⟨.bool false,by simp[results,Tryz.results93,go_sem],rfl,HB0.out⟩
theorem fits_1 (w:World)(v:Value)(l:List Pl.D1)(h:A1 w v l)(hF:qaL w):Calls Tryz.prog 93 #[v,.int .i64 3] w fun e w'=>e=.returned (.bool (Pl.qbd (fun _=>false) l))∧Below w.heap.size w w':=
 fits_up qcP 3 (by omega) (fun _=>false) (fun w v l h _=>fits_z (3+1) (by omega) w v l h) w v l h hF
theorem fits_2 (w:World)(v:Value)(l:List Pl.D2)(h:A2 w v l)(hF:qaL w):Calls Tryz.prog 93 #[v,.int .i64 2] w fun e w'=>e=.returned (.bool (Pl.qbd (Pl.qbd fun _=>false) l))∧Below w.heap.size w w':=
 fits_up qdA 2 (by omega) (Pl.qbd fun _=>false) (fun w v l h hF=>by rw[show (2:Int)+1=3 from rfl];exact fits_1 w v l h hF) w v l h hF
theorem fits_3 (w:World)(v:Value)(l:List Pl.D3)(h:A3 w v l)(hF:qaL w):Calls Tryz.prog 93 #[v,.int .i64 1] w fun e w'=>e=.returned (.bool (Pl.fit3 l))∧Below w.heap.size w w':=
 fits_up qdJ 1 (by omega) (Pl.qbd (Pl.qbd fun _=>false)) (fun w v l h hF=>by rw[show (1:Int)+1=2 from rfl];exact fits_2 w v l h hF) w v l h hF
end Go.Proofs.YtephhllfodlfbaaGreatDoor
namespace Go.Proofs.YtephhllfodlfbaaGreatDoor
open Go.RowKit
theorem qgb (a b c:Bool)(w:World):Calls Tryz.prog 166 #[.bool a,.bool b,.bool c] w fun e w'=>e=.returned (.bool (Pl.asked a b c))∧w'=w:=by
 cases a
 all_goals
  go_enter Tryz.func166,Tryz.ntmps166;go_wp2;go_ret;exact⟨rfl,rfl⟩
theorem qgn {α:Type}(t:Pl.Tst α)(au:Option Addr)(cu:Nat)(w:World)(hF:qaL w)(hk:Pl.isKind t.kind=true):
 Calls Tryz.prog 131 #[.agg #[.int .i64 t.kind,.string ⟨t.name.toArray⟩,.string ⟨t.value.toArray⟩,.int .i64 t.a,.int .i64 t.b,.slice au t.list.length cu]] w fun e w'=>e=.returned (.bool (tF t))∧Below w.heap.size w w':=by
 obtain⟨m,hm,hm15,-⟩:=qhK hk;have hbt:=qac w (.cells #[.int .i64 t.kind,.string ⟨t.name.toArray⟩,.string ⟨t.value.toArray⟩,.int .i64 t.a,.int .i64 t.b,.slice au t.list.length cu] 71);obtain⟨f0,f1,f2,f3,f4,f5,f6⟩:=(hF.on hbt) m hm15;obtain⟨EV,hEV⟩:∃x,tF t=x:=⟨_,rfl⟩
 rw[hEV];have HE:Hid (EV=(Pl.asked (Pl.qeh t.kind) (Pl.qaj t.name) t.name.isEmpty&&Pl.asked (Pl.qdv t.kind) (Pl.qao t.value) t.value.isEmpty&&(Pl.kNth t.kind||decide (t.a=0∧t.b=0))&&(Pl.qbb t.kind||decide (t.list.length=0)))):=hEV.symm;rw[hm]at HE hbt ⊢ f0 f1 f2 f3 f4 f5 f6;have i1:(0:Int)≤(m:Int):=by omega
 have i2:(m:Int)<16:=by omega
 have HB:Hid (Below _ _ _):=hbt;clear hbt hF hEV hk;generalize Pl.qeh m=kn at *;generalize Pl.qdv m=kv at *;generalize Pl.kNth m=kc at *;generalize Pl.qbb m=kl at *;generalize t.a=na at *;generalize t.b=nb at *;generalize t.list.length=len at *;have n1:=qbr t.name;have n2:=qej t.value;generalize Pl.qaj t.name=nm at *;generalize Pl.qao t.value=vm at *;obtain⟨ne,hne⟩:∃y,t.name.isEmpty=y:=⟨_,rfl⟩
 obtain⟨ve,hve⟩:∃y,t.value.isEmpty=y:=⟨_,rfl⟩
 rw[hne,hve]at HE;have c1:=qgb kn nm ne;have c2:=qgb kv vm ve;generalize Pl.asked kn nm ne=A1 at *;generalize Pl.asked kv vm ve=A2 at *;have HB2:Hid (Below w.heap.size w ((w.alloc (.cells #[.int .i64 m,.string ⟨t.name.toArray⟩,.string ⟨t.value.toArray⟩,.int .i64 na,.int .i64 nb,.slice au len cu] 71)).alloc (.cells #[.bool kn,.bool kv,.bool kc,.bool kl,.string ⟨(fBegin m).toArray⟩,.string ⟨(fSign m).toArray⟩,.string ⟨(fEnd m).toArray⟩] 163))):=qaa HB.out (qac _ _)
 cases A1 with
 | false=>
  go_enter Tryz.func131,Tryz.ntmps131;go_wp2
  go_quiet ((first|(go_at_call 100;with_reducible exact Calls.quiet_of_same (n1 _))|(go_at_call 139;with_reducible exact Calls.quiet_of_same (n2 _))|(go_at_call 166;with_reducible exact Calls.quiet_of_same (c1 _))|(go_at_call 166;with_reducible exact Calls.quiet_of_same (c2 _))))
  go_wp2;go_ret;exact⟨by rw[HE.out];simp,below_drewN HB2.out _⟩
 | true=>
  cases A2 with
  | false=>
   go_enter Tryz.func131,Tryz.ntmps131;go_wp2
   go_quiet ((first|(go_at_call 100;with_reducible exact Calls.quiet_of_same (n1 _))|(go_at_call 139;with_reducible exact Calls.quiet_of_same (n2 _))|(go_at_call 166;with_reducible exact Calls.quiet_of_same (c1 _))|(go_at_call 166;with_reducible exact Calls.quiet_of_same (c2 _))))
   go_wp2;go_ret;exact⟨by rw[HE.out];simp,below_drewN HB2.out _⟩
  | true=>
   cases kc with
   | true=>
    cases kl with
    | true=>
     go_enter Tryz.func131,Tryz.ntmps131;go_wp2
     go_quiet ((first|(go_at_call 100;with_reducible exact Calls.quiet_of_same (n1 _))|(go_at_call 139;with_reducible exact Calls.quiet_of_same (n2 _))|(go_at_call 166;with_reducible exact Calls.quiet_of_same (c1 _))|(go_at_call 166;with_reducible exact Calls.quiet_of_same (c2 _))))
     go_wp2;go_ret;exact⟨by rw[HE.out];simp,below_drewN HB2.out _⟩
    | false=>
     by_cases hl:len=0
     ·subst hl;go_enter Tryz.func131,Tryz.ntmps131;go_wp2
      go_quiet ((first|(go_at_call 100;with_reducible exact Calls.quiet_of_same (n1 _))|(go_at_call 139;with_reducible exact Calls.quiet_of_same (n2 _))|(go_at_call 166;with_reducible exact Calls.quiet_of_same (c1 _))|(go_at_call 166;with_reducible exact Calls.quiet_of_same (c2 _))))
      go_wp2;go_ret;exact⟨by rw[HE.out];simp,below_drewN HB2.out _⟩
     ·have hl2:((len:Int)==0)=false:=by simp[hl]
      have HHL:Hid (¬len=0):=hl;clear hl;go_enter Tryz.func131,Tryz.ntmps131;go_wp2
      go_quiet ((first|(go_at_call 100;with_reducible exact Calls.quiet_of_same (n1 _))|(go_at_call 139;with_reducible exact Calls.quiet_of_same (n2 _))|(go_at_call 166;with_reducible exact Calls.quiet_of_same (c1 _))|(go_at_call 166;with_reducible exact Calls.quiet_of_same (c2 _))))
      go_wp2;go_ret;exact⟨by rw[HE.out];simp[HHL.out],below_drewN HB2.out _⟩
   | false=>
    by_cases ha:na=0
    ·by_cases hb:nb=0
     ·subst ha hb
      cases kl with
      | true=>
       go_enter Tryz.func131,Tryz.ntmps131;go_wp2
       go_quiet ((first|(go_at_call 100;with_reducible exact Calls.quiet_of_same (n1 _))|(go_at_call 139;with_reducible exact Calls.quiet_of_same (n2 _))|(go_at_call 166;with_reducible exact Calls.quiet_of_same (c1 _))|(go_at_call 166;with_reducible exact Calls.quiet_of_same (c2 _))))
       go_wp2;go_ret;exact⟨by rw[HE.out];simp,below_drewN HB2.out _⟩
      | false=>
       by_cases hl:len=0
       ·subst hl;go_enter Tryz.func131,Tryz.ntmps131;go_wp2
        go_quiet ((first|(go_at_call 100;with_reducible exact Calls.quiet_of_same (n1 _))|(go_at_call 139;with_reducible exact Calls.quiet_of_same (n2 _))|(go_at_call 166;with_reducible exact Calls.quiet_of_same (c1 _))|(go_at_call 166;with_reducible exact Calls.quiet_of_same (c2 _))))
        go_wp2;go_ret;exact⟨by rw[HE.out];simp,below_drewN HB2.out _⟩
       ·have hl2:((len:Int)==0)=false:=by simp[hl]
        have HHL:Hid (¬len=0):=hl;clear hl;go_enter Tryz.func131,Tryz.ntmps131;go_wp2
        go_quiet ((first|(go_at_call 100;with_reducible exact Calls.quiet_of_same (n1 _))|(go_at_call 139;with_reducible exact Calls.quiet_of_same (n2 _))|(go_at_call 166;with_reducible exact Calls.quiet_of_same (c1 _))|(go_at_call 166;with_reducible exact Calls.quiet_of_same (c2 _))))
        go_wp2;go_ret;exact⟨by rw[HE.out];simp[HHL.out],below_drewN HB2.out _⟩
     ·subst ha;have hb2:(nb==0)=false:=by simp[hb]
      have HNB:Hid (¬nb=0):=hb;clear hb;go_enter Tryz.func131,Tryz.ntmps131;go_wp2
      go_quiet ((first|(go_at_call 100;with_reducible exact Calls.quiet_of_same (n1 _))|(go_at_call 139;with_reducible exact Calls.quiet_of_same (n2 _))|(go_at_call 166;with_reducible exact Calls.quiet_of_same (c1 _))|(go_at_call 166;with_reducible exact Calls.quiet_of_same (c2 _))))
      go_wp2;go_ret;exact⟨by rw[HE.out];simp[HNB.out],below_drewN HB2.out _⟩
    ·have ha2:(na==0)=false:=by simp[ha]
     have HNA:Hid (¬na=0):=ha;clear ha;go_enter Tryz.func131,Tryz.ntmps131;go_wp2
     go_quiet ((first|(go_at_call 100;with_reducible exact Calls.quiet_of_same (n1 _))|(go_at_call 139;with_reducible exact Calls.quiet_of_same (n2 _))|(go_at_call 166;with_reducible exact Calls.quiet_of_same (c1 _))|(go_at_call 166;with_reducible exact Calls.quiet_of_same (c2 _))))
     go_wp2;go_ret;exact⟨by rw[HE.out];simp[HNA.out],below_drewN HB2.out _⟩
end Go.Proofs.YtephhllfodlfbaaGreatDoor
namespace Go.Proofs.YtephhllfodlfbaaGreatDoor
open Go.RowKit Go.Shelf
attribute [local go_sem] Oper.semAt_some
theorem qeu {α:Type}{A:MemL α}(hA:IsL A)(v u:Value)(p:Pl.Pth α)(w:World)(hs:qaf (qa3 A) 2 w v p.steps)(hu:qaf qbe 1 w u p.links)(hF:qaL w)(hk:∀t∈p.tests,Pl.isKind t.kind=true):
 Calls Tryz.prog 96 #[.agg #[v,u]] w fun e w'=>e=.returned (.bool (Pl.qc7 Pl.qaj Pl.qao p))∧Below w.heap.size w w':=by
 obtain⟨ax,cx,rfl⟩:=hs.form;obtain⟨al,cl,rfl⟩:=hu.form;have fs:=hs.fit;unfold maxLen at fs;have HS:Hid (qaf (qa3 A) 2 w (.slice ax p.steps.length cx) p.steps):=hs;have HA:Hid (IsL A):=hA;have HFM:Hid (qaL w):=hF;have HKN:Hid (∀t∈p.tests,Pl.isKind t.kind=true):=hk;have hB0:Below w.heap.size w ((w.alloc (.cells #[.slice ax p.steps.length cx,.slice al p.links.length cl] 64)).alloc (.cells #[.bool false] 4)):=((Below.refl _ w).alloc (Nat.le_refl _) _).alloc (by simp) _;obtain⟨b0,b1⟩:=Blk2p.new w (.slice ax p.steps.length cx) (.slice al p.links.length cl);have c0:=qab (qac _ (.cells #[.bool false] 4)) b0;have c1:=qab (qac _ (.cells #[.bool false] 4)) b1;have bR:=Boxed.new (w.alloc (.cells #[.slice ax p.steps.length cx,.slice al p.links.length cl] 64)) 4 (.bool false);simp only[World.size_alloc]at bR;obtain⟨EV,hEV⟩:∃x,Pl.qc7 Pl.qaj Pl.qao p=x:=⟨_,rfl⟩
 rw[hEV];have HE:Hid (EV=((p.steps.all fun s=>s.tag.isEmpty||Pl.qaj s.tag)&&p.tests.all tF)):=hEV.symm;clear hs hu hA hF hk b0 b1 hEV;refine(callsIn_wide (n:=6)).1 ?_;have h1:1≤6:=by omega
 refine callsIn_of_wp_marks Tryz.func96 rfl trivial ?_ rfl;simp only[Tryz.ntmps96,List.size_toArray,List.length_cons,List.length_nil,Nat.reduceAdd,Nat.reduceSub,Array.replicate_succ,Array.replicate_zero,List.push_toArray,List.append_toArray,List.nil_append,List.cons_append]
 gi_wp2
 have HBR1:Hid (Boxed _ _ _ _):=bR;have HB1:Hid (Below _ _ _):=hB0;clear bR hB0;generalize (w.alloc (.cells #[.slice ax p.steps.length cx,.slice al p.links.length cl] 64)).alloc (.cells #[.bool false] 4)=W1 at *
 gi_loopw [9] (fun i wr=>∃k:Nat,k≤p.steps.length∧i=.int .i64 k∧Hid ((p.steps.take k).all (fun s=>s.tag.isEmpty||Pl.qaj s.tag)=true)∧Hid (Below W1.heap.size W1 wr)) (fun i _=>p.steps.length-(intOf i).toNat)
 case atStart=>exact⟨0,Nat.zero_le _,rfl,by simp[Hid],Below.refl _ _⟩
 case round=>
  obtain⟨k,hk,rfl,HT,HBw⟩:=hrel;have HBR:Hid (Boxed wr (w.heap.size+1) 4 (.bool false)):=qaG HBR1.out HBw.out;have HB0:Hid (Below w.heap.size w wr):=qaa HB1.out HBw.out;replace c0:=qab HBw.out c0;replace c1:=qab HBw.out c1
  by_cases hlt:k<p.steps.length
  ·obtain⟨-,b2,o2,rfl,hc2⟩:=qaf.at HS.out (by omega);obtain⟨vt,m0,m1,rt⟩:=(hc2 k hlt).on HA.out HB0.out;obtain⟨at_,ct,rfl⟩:=rt.form;have k1:(0:Int)≤(k:Int):=by omega
   have k2:(k:Int)<(p.steps.length:Int):=by omega
   have HBAD:Hid ((p.steps[k].tag.isEmpty||Pl.qaj p.steps[k].tag)=false→EV=false):=fun h=>by rw[HE.out,qbC hlt h];rfl
   have HOK:Hid ((p.steps[k].tag.isEmpty||Pl.qaj p.steps[k].tag)=true→(p.steps.take (k+1)).all (fun s=>s.tag.isEmpty||Pl.qaj s.tag)=true):=fun h=>qbk hlt HT.out h
   clear hc2 HT rt;generalize p.steps[k]=st at *;have hbs:=qac wr (.cells #[.string ⟨st.tag.toArray⟩,.slice at_ st.tests.length ct] 67);have bR2:=HBR.out.alloc (.cells #[.string ⟨st.tag.toArray⟩,.slice at_ st.tests.length ct] 67);have fR:=bR2.frozen;have cR:=bR2.cell;have HB3:Hid (Below W1.heap.size W1 _):=qaa HBw.out hbs;have HB4:Hid (Below w.heap.size w _):=qaa HB0.out hbs;clear hbs
   cases he:st.tag.isEmpty with
   | true=>
    have HK:Hid ((p.steps.take (k+1)).all (fun s=>s.tag.isEmpty||Pl.qaj s.tag)=true):=HOK.out (by rw[he];rfl)
    gi_wp2
    refine⟨trivial,?_⟩
    gi_wp2
    go_roundw
    case rel=>exact⟨k+1,by omega,by simp,HK,HB3⟩
    case measure=>simp[intOf];omega
   | false=>
    cases hn:Pl.qaj st.tag with
    | true=>
     have HK:Hid ((p.steps.take (k+1)).all (fun s=>s.tag.isEmpty||Pl.qaj s.tag)=true):=HOK.out (by rw[hn];simp)
     gi_wp2_with (refine⟨trivial,?_⟩;gi_at_call 100;refine(callsIn_wide.2 (qbr _ _)).mono ?_;rintro e w' ⟨rfl,rfl⟩;rw[hn])
     go_roundw
     case rel=>exact⟨k+1,by omega,by simp,HK,HB3⟩
     case measure=>simp[intOf];omega
    | false=>
     have HK:Hid (EV=false):=HBAD.out (by rw[he,hn];rfl)
     gi_wp2_with (refine⟨trivial,?_⟩;gi_at_call 100;refine(callsIn_wide.2 (qbr _ _)).mono ?_;rintro e w' ⟨rfl,rfl⟩;rw[hn])
     have hc5:=(bR2.set (.bool false)).cell;refine⟨.bool false,?_,by rw[HK.out],HB4.out.setCell (p:=⟨w.heap.size+1,0,none⟩) (by simp) _⟩;simp[results,Tryz.results96,go_sem,hc5]
  ·have HPK:Hid (EV=p.tests.all tF):=by
    unfold Hid;rw[HE.out,qbi hlt HT.out,Bool.true_and]
   clear HT
   gi_wp2_with (refine⟨trivial,?_⟩;gi_at_call 127;refine(qeV Fence.wide _ trivial rfl _ _ _).mono ?_;rintro e w' ⟨rfl,rfl⟩)
   have hB2:Below w.heap.size w (wr.alloc (.cells #[.slice ax p.steps.length cx,.slice al p.links.length cl] 64)):=qaa HB0.out (qac _ _);have d0:=(Blk2p.new wr (.slice ax p.steps.length cx) (.slice al p.links.length cl)).1;have bR2:=HBR.out.alloc (.cells #[.slice ax p.steps.length cx,.slice al p.links.length cl] 64);have hszR:=HBR.out.lt;have hsz2:(wr.alloc (.cells #[.slice ax p.steps.length cx,.slice al p.links.length cl] 64)).heap.size=wr.heap.size+1:=by simp
   have hsz0:=HB0.out.size;generalize hW2:wr.alloc (.cells #[.slice ax p.steps.length cx,.slice al p.links.length cl] 64)=W2 at *
   refine wpIn_rangeFunc_ownH rfl h1 (gf:=165) (lb:= #[.pointer (some ⟨wr.heap.size,0,none⟩)]) rfl trivial (enters_of Tryz.func165 (by kernel_rfl) rfl)
    (qcJ Fence.wide (6-1) trivial rfl (by omega) HA.out wr.heap.size w p _ W2 hB2 (by omega) d0 HS.out) belowK_t (belowK_b (by omega)) (Below.refl _ _) (fun _=>rfl)
    (fun pre W=>(((pre.map XT.tst).all tF=true)∧Boxed W (w.heap.size+1) 4 (.bool false))∧Below w.heap.size w W)
    (fun c pre W=>((c=.ret∧(pre.map XT.tst).all tF=false)∧Boxed W (w.heap.size+1) 4 (.bool false))∧Below w.heap.size w W)
    (OwnFrom.and (OwnFrom.and (ownFrom_pure _ _) (Own.from (boxed_own _ _ _) _)) (ownFrom_below (Nat.le_refl _) (by omega)))
    (fun c=>OwnFrom.and (OwnFrom.and (ownFrom_pure _ _) (Own.from (boxed_own _ _ _) _)) (ownFrom_below (Nat.le_refl _) (by omega)))
    ⟨⟨by simp,bR2⟩,hB2⟩
    (fun x a' W=>∃Bx au cu,w.heap.size+1<Bx∧(W.cell? ⟨Bx,0,none⟩=some (.int .i64 x.1.2.kind)∧W.cell? ⟨Bx,1,none⟩=some (.string ⟨x.1.2.name.toArray⟩)∧W.cell? ⟨Bx,2,none⟩=some (.string ⟨x.1.2.value.toArray⟩)∧W.cell? ⟨Bx,3,none⟩=some (.int .i64 x.1.2.a)∧W.cell? ⟨Bx,4,none⟩=some (.int .i64 x.1.2.b)∧W.cell? ⟨Bx,5,none⟩=some (.slice au x.1.2.list.length cu))∧a'={ tmps:= #[.agg #[.slice ax p.steps.length cx,.slice al p.links.length cl],.pointer (some ⟨w.heap.size,0,none⟩),.pointer (some ⟨w.heap.size+1,0,none⟩),undef,u4,.pointer (some ⟨Bx,0,none⟩),.pointer (some ⟨w.heap.size,0,none⟩),.slice ax p.steps.length cx,.int .i64 p.steps.length,.int .i64 k,.bool false,u11,u12,u13,u14,u15,u16,u17,u18,u19,u20,u21,u22,.agg #[.slice ax p.steps.length cx,.slice al p.links.length cl],.func (.func 165) #[] #[.pointer (some ⟨wr.heap.size,0,none⟩)],x.1.1,undef,undef,undef],defers:=[] })
    (fun x a' _ X Y row hs hg hr=>by obtain⟨Bx,au,cu,h1,⟨q0,q1,q2,q3,q4,q5⟩,h3⟩:=hs;exact⟨Bx,au,cu,h1,⟨cell_kept q0 hg (fun r e=>(hr r e).2),cell_kept q1 hg (fun r e=>(hr r e).2),cell_kept q2 hg (fun r e=>(hr r e).2),cell_kept q3 hg (fun r e=>(hr r e).2),cell_kept q4 hg (fun r e=>(hr r e).2),cell_kept q5 hg (fun r e=>(hr r e).2)⟩,h3⟩)
    ?assign ?body ?done ?stop
   case assign=>
    rintro l pre x W K ⟨⟨hp,hbx⟩,hB⟩ hK;obtain⟨lv,hx,hal⟩:=x.2.1;obtain⟨au,cu,rfl,-⟩:=HA.out.form hal;have HXX:Hid _:=hx;dsimp only;rw[hx];clear hx hal
    gi_wp2
    exact hK _ _ ((KeepsOthers.alloc _ _).from _) ((Below.refl _ W).alloc hB.size _) ⟨⟨hp,hbx.alloc _⟩,hB.alloc hB.size _⟩ ⟨W.heap.size,au,cu,hbx.lt,⟨(Blk6p.new W _ _ _ _ _ _).1,(Blk6q.new W _ _ _ _ _ _).1,(Blk6q.new W _ _ _ _ _ _).2.1,(Blk6q.new W _ _ _ _ _ _).2.2.1,(Blk6q.new W _ _ _ _ _ _).2.2.2,(Blk6p.new W _ _ _ _ _ _).2⟩,by rw[HXX.out]⟩
   case body=>
    rintro lo pre x a' W hl hr ⟨⟨hp,hbx⟩,hB⟩ ⟨Bx,au,cu,hBx,⟨q0,q1,q2,q3,q4,q5⟩,rfl⟩ hlt;have fR:=hbx.frozen;have cR:=hbx.cell;have HTF:Hid (Calls Tryz.prog 131 _ W _):=qgn x.1.2 au cu W (HFM.out.on hB) (HKN.out _ x.2.2);obtain⟨bt,hbt⟩:∃y,tF x.1.2=y:=⟨_,rfl⟩
    have hTF:=HTF.out;rw[hbt]at hTF;have HTF2:Hid (Calls Tryz.prog 131 _ W _):=hTF;have HKD:Hid (tF x.tst=bt):=hbt;clear hTF HTF hbt;generalize x.1.1=xv;generalize x.1.2=t at *;have h1':1≤6-1-1:=by omega
    gi_wp2_with fail
    refine⟨trivial,(CallsIn.inRound lo (callsIn_wide.2 HTF2.out)).mono ?_⟩;rintro e w6 ⟨rfl,hb6⟩;have fR6:=(qaG hbx hb6).frozen;have cR6:=(qaG hbx hb6).cell
    cases bt with
    | true=>
     gi_wp2
     exact⟨(qaS hb6).from _,hb6.mono hB.size,⟨by rw[List.map_append,List.all_append,hp];simp[HKD.out],qaG hbx hb6⟩,qaa hB hb6⟩
    | false=>
     gi_wp2
     exact⟨((qaS hb6).trans (KeepsOthers.setCell _ _ _)).from _,⟨⟨rfl,by rw[List.map_append,List.all_append];simp[HKD.out]⟩,(qaG hbx hb6).set _⟩,(qaa hB hb6).setCell (p:=⟨w.heap.size+1,0,none⟩) (by simp) _⟩
   case done=>
    rintro D ys W hD hys ⟨⟨hp,hbx⟩,hB⟩ hK;have fR:=hbx.frozen;have cR:=hbx.cell;rw[hys]at hp
    gi_wp2
    have hK':=(KeepsOthers.setCell W ⟨w.heap.size+1,0,none⟩ (.bool true)).same D _ hK rfl;refine⟨by simp,.inl ⟨_,_,rfl,run_takeDeferred hK',?_⟩⟩;have hc5:=cell_kept (hbx.set (.bool true)).cell (grownBy_putObj' _ D (.deferred none)) (fun r e=>by cases e;exact⟨_,hK',rfl⟩);refine⟨.bool true,?_,by rw[HPK.out,hp],(hB.setCell (p:=⟨w.heap.size+1,0,none⟩) (by simp) _).trans (belowK_b (w:=w) (Nat.le_refl _) _ D _ _ (by omega) hK' rfl rfl)⟩;simp[results,Tryz.results96,go_sem,hc5]
   case stop=>
    rintro D c pre W hD hpre ⟨⟨⟨rfl,hp⟩,hbx⟩,hB⟩ hK
    gi_wp2
    refine⟨by simp,.inl ⟨_,_,rfl,run_takeDeferred hK,?_⟩⟩;have hc5:=cell_kept hbx.cell (grownBy_putObj' _ D (.deferred none)) (fun r e=>by cases e;exact⟨_,hK,rfl⟩)
    have hno:p.tests.all tF=false:=by
     obtain⟨rest,hrest⟩:=hpre;rw[←hrest,List.all_append,hp];rfl
    refine⟨.bool false,?_,by rw[HPK.out,hno],hB.trans (belowK_b (w:=w) (Nat.le_refl _) W D _ _ (by omega) hK rfl rfl)⟩;simp[results,Tryz.results96,go_sem,hc5]
end Go.Proofs.YtephhllfodlfbaaGreatDoor
