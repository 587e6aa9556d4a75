/-
  The table of forms, and what is asked of it.
-/
import Derived.Test.YtephhllfodlfbaaGreatDoorPkA
set_option maxRecDepth 100000
set_option maxHeartbeats 16000000
namespace Go.Proofs.YtephhllfodlfbaaGreatDoor
open Go.RowKit Go.Shelf
def fBegin:Nat→List UInt8
 | 1=>[46]|2=>[35]|3=>[91]|4=>[91]|5=>[91]|6=>[91]|7=>[91]|8=>[91]
 | 9=>[58,110,116,104,40]|10=>[58,108,97,115,116,40]|11=>[58,101,109,112,116,121]|12=>[58,114,111,111,116]
 | 13=>[58,110,111,116,40]|14=>[58,105,115,40]|15=>[58,104,97,115,40]
 | _=>[]
def fSign:Nat→List UInt8
 | 3=>[93]|4=>[61]|5=>[94,61]|6=>[36,61]|7=>[42,61]|8=>[126,61]
 | _=>[]
def fEnd:Nat→List UInt8
 | 4=>[93]|5=>[93]|6=>[93]|7=>[93]|8=>[93]|9=>[41]|10=>[41]|13=>[41]|14=>[41]|15=>[41]
 | _=>[]
def qaL (w:World):Prop:=∀k:Nat,k≤15→w.cell? ⟨0,k*7,none⟩=some (.bool (Pl.qeh k))∧w.cell? ⟨0,k*7+1,none⟩=some (.bool (Pl.qdv k))∧w.cell? ⟨0,k*7+2,none⟩=some (.bool (Pl.kNth k))∧w.cell? ⟨0,k*7+3,none⟩=some (.bool (Pl.qbb k))∧
 w.cell? ⟨0,k*7+4,none⟩=some (.string ⟨(fBegin k).toArray⟩)∧w.cell? ⟨0,k*7+5,none⟩=some (.string ⟨(fSign k).toArray⟩)∧w.cell? ⟨0,k*7+6,none⟩=some (.string ⟨(fEnd k).toArray⟩)
theorem qaL.on {w w':World}(h:qaL w)(hb:Below w.heap.size w w'):qaL w':=fun k hk=>by
 obtain⟨h0,h1,h2,h3,h4,h5,h6⟩:=h k hk;exact⟨qab hb h0,qab hb h1,qab hb h2,qab hb h3,qab hb h4,qab hb h5,qab hb h6⟩
theorem kList_kind {k:Int}(h:Pl.isKind k=false):Pl.qbb k=false:=by
 simp[Pl.isKind,Pl.qbb]at *;omega
theorem qhK {k:Int}(h:Pl.isKind k=true):∃n:Nat,k=n∧n≤15∧1≤n:=by
 simp[Pl.isKind]at h;exact⟨k.toNat,by omega,by omega,by omega⟩
theorem qfV (k a b:Int)(nm vl:Value)(v:Value)(au:Option Addr)(n cu:Nat)(w:World)(hv:v=.agg #[.int .i64 k,nm,vl,.int .i64 a,.int .i64 b,.slice au n cu])(nb vb:ByteArray)(hn:nm=.string nb)(hvl:vl=.string vb)(hF:qaL w):
 Calls Tryz.prog 128 #[v] w fun e w'=>e=.returned (.bool (Pl.qbb k))∧Below w.heap.size w w':=by
 subst hv hn hvl;have hbt:=qac w (.cells #[.int .i64 k,.string nb,.string vb,.int .i64 a,.int .i64 b,.slice au n cu] 71);have HB:Hid (Below _ _ _):=hbt;have HF:Hid (qaL _):=hF.on hbt;obtain⟨r0,-⟩:=Blk6p.new w (.int .i64 k) (.string nb) (.string vb) (.int .i64 a) (.int .i64 b) (.slice au n cu);clear hbt hF
 cases hk:Pl.isKind k with
 | false=>
  have HK:Hid (Pl.qbb k=false):=kList_kind hk;go_enter Tryz.func128,Tryz.ntmps128
  go_wp2_with fail
  refine(qd3 _ _).mono ?_;rintro e w1 ⟨rfl,rfl⟩;rw[hk];go_wp2;go_ret;exact⟨by rw[HK.out];rfl,HB.out⟩
 | true=>
  obtain⟨m,rfl,hm,h1⟩:=qhK hk;obtain⟨-,-,-,f3,-⟩:=HF.out m hm;have i1:(0:Int)≤(m:Int):=by omega
  have i2:(m:Int)<16:=by omega
  go_enter Tryz.func128,Tryz.ntmps128
  go_wp2_with fail
  refine(qd3 _ _).mono ?_;rintro e w1 ⟨rfl,rfl⟩;rw[hk];go_wp2;go_ret;exact⟨rfl,HB.out⟩
attribute [local go_sem] Oper.semAt_some
theorem qaS {W W':World}(hb:Below W.heap.size W W'):KeepsOthers W W':=⟨hb.size,fun k _ hk _=>(hb.block k (Array.getElem?_eq_some_iff.1 hk).1).trans hk⟩
theorem qaG {W W':World}{B:Nat}{t:TypeId}{v:Value}(h:Boxed W B t v)(hb:Below W.heap.size W W'):Boxed W' B t v:=(hb.block B h.lt).trans h
theorem qcr (k:Int)(w:World):Calls Tryz.prog 167 #[.int .i64 k] w fun e w'=>e=.returned (.bool (within k (-1048576) 1048576))∧w'=w:=by
 by_cases h1: -1048576≤k
 ·by_cases h2:k≤1048576
  ·have HI:Hid (within k (-1048576) 1048576=true):=by simp[Hid,within,h1,h2]
   go_enter Tryz.func167,Tryz.ntmps167;go_wp2;go_ret;exact⟨by rw[HI.out];simp,rfl⟩
  ·have HI:Hid (within k (-1048576) 1048576=false):=by simp[Hid,within,h2]
   go_enter Tryz.func167,Tryz.ntmps167;go_wp2;go_ret;exact⟨by rw[HI.out];simp,rfl⟩
 ·have HI:Hid (within k (-1048576) 1048576=false):=by simp[Hid,within,h1]
  go_enter Tryz.func167,Tryz.ntmps167;go_wp2;go_ret;exact⟨by rw[HI.out];rfl,rfl⟩
theorem qfo (a b:Int)(w:World):Calls Tryz.prog 132 #[.agg #[.int .i64 a,.int .i64 b]] w fun e w'=>e=.returned (.int .i64 (nErr a b))∧Below w.heap.size w w':=by
 have HBB:Hid (Below _ _ _):=qac w (.cells #[.int .i64 a,.int .i64 b] 69)
 cases ha:within a (-1048576) 1048576 with
 | false=>
  have HN:Hid (nErr a b=3):=qe3 (by simp[nB,ha]);go_enter Tryz.func132,Tryz.ntmps132
  go_wp2_with fail
  refine(qcr _ _).mono ?_;rintro e w1 ⟨rfl,rfl⟩;rw[ha];go_wp2;go_ret;exact⟨by rw[HN.out];rfl,HBB.out⟩
 | true=>
  cases hb:within b (-1048576) 1048576 with
  | false=>
   have HN:Hid (nErr a b=3):=qe3 (by simp[nB,hb]);go_enter Tryz.func132,Tryz.ntmps132
   go_wp2_with fail
   refine(qcr _ _).mono ?_;rintro e w1 ⟨rfl,rfl⟩;rw[ha]
   go_wp2_with fail
   refine(qcr _ _).mono ?_;rintro e w1 ⟨rfl,rfl⟩;rw[hb];go_wp2;go_ret;exact⟨by rw[HN.out];rfl,HBB.out⟩
  | true=>
   have HN:Hid (nErr a b=0):=qg4 (by simp[nB,ha,hb]);go_enter Tryz.func132,Tryz.ntmps132
   go_wp2_with fail
   refine(qcr _ _).mono ?_;rintro e w1 ⟨rfl,rfl⟩;rw[ha]
   go_wp2_with fail
   refine(qcr _ _).mono ?_;rintro e w1 ⟨rfl,rfl⟩;rw[hb];go_wp2;go_ret;exact⟨by rw[HN.out];rfl,HBB.out⟩
def cntT {α:Type}(t:Pl.Tst α):Bool:= !Pl.kNth t.kind||nB t.a t.b
theorem qdt {α:Type}{A:MemL α}(hA:IsL A)(v u:Value)(p:Pl.Pth α)(w:World)(hs:qaf (qa3 A) 2 w v p.steps)(hu:qaf qbe 1 w u p.links)(hF:qaL w)(hk:∀t∈p.tests,Pl.isKind t.kind=true):
 Calls Tryz.prog 97 #[.agg #[v,u]] w fun e w'=>e=.returned (.bool (Pl.qey nB p))∧Below w.heap.size w w':=by
 obtain⟨ax,cx,rfl⟩:=hs.form;obtain⟨al,cl,rfl⟩:=hu.form;have HS:Hid (qaf (qa3 A) 2 w (.slice ax p.steps.length cx) p.steps):=hs;have HA:Hid (IsL A):=hA;have HF:Hid (qaL w):=hF;have HKN:Hid (∀t∈p.tests,Pl.isKind t.kind=true):=hk;have HPK:Hid (Pl.qey nB p=p.tests.all cntT):=rfl;have hB0:Below w.heap.size w ((w.alloc (.cells #[.slice ax p.steps.length cx,.slice al p.links.length cl] 64)).alloc (.cells #[.bool false] 4)):=((Below.refl _ w).alloc (Nat.le_refl _) _).alloc (by simp) _;have bR:=Boxed.new (w.alloc (.cells #[.slice ax p.steps.length cx,.slice al p.links.length cl] 64)) 4 (.bool false);simp only[World.size_alloc]at bR;have HBR:Hid (Boxed _ _ _ _):=bR;have HB0:Hid (Below _ _ _):=hB0;clear hs hu hA hF hk bR hB0;refine(callsIn_wide (n:=6)).1 ?_;have h1:1≤6:=by omega
 refine callsIn_of_wp_marks Tryz.func97 rfl trivial ?_ rfl;simp only[Tryz.ntmps97,List.size_toArray,List.length_cons,List.length_nil,Nat.reduceAdd,Nat.reduceSub,Array.replicate_succ,Array.replicate_zero,List.push_toArray,List.append_toArray,List.nil_append,List.cons_append]
 gi_wp2_with (refine⟨trivial,?_⟩;gi_at_call 127;refine(qeV Fence.wide _ trivial rfl _ _ _).mono ?_;rintro e w' ⟨rfl,rfl⟩)
 have hszW:((w.alloc (.cells #[.slice ax p.steps.length cx,.slice al p.links.length cl] 64)).alloc (.cells #[.bool false] 4)).heap.size=w.heap.size+1+1:=by simp
 generalize (w.alloc (.cells #[.slice ax p.steps.length cx,.slice al p.links.length cl] 64)).alloc (.cells #[.bool false] 4)=wr at *;have hB2:Below w.heap.size w (wr.alloc (.cells #[.slice ax p.steps.length cx,.slice al p.links.length cl] 64)):=qaa HB0.out (qac _ _);have d0:=(Blk2p.new wr (.slice ax p.steps.length cx) (.slice al p.links.length cl)).1;have bR2:=HBR.out.alloc (.cells #[.slice ax p.steps.length cx,.slice al p.links.length cl] 64);have hszR:=HBR.out.lt;have hsz2:(wr.alloc (.cells #[.slice ax p.steps.length cx,.slice al p.links.length cl] 64)).heap.size=wr.heap.size+1:=by simp
 have hsz0:=HB0.out.size;rw[hszW]at d0;generalize hW2:wr.alloc (.cells #[.slice ax p.steps.length cx,.slice al p.links.length cl] 64)=W2 at *
 refine wpIn_rangeFunc_ownH rfl h1 (gf:=165) (lb:= #[.pointer (some ⟨w.heap.size+1+1,0,none⟩)]) rfl trivial (enters_of Tryz.func165 (by kernel_rfl) rfl)
  (qcJ Fence.wide (6-1) trivial rfl (by omega) HA.out (w.heap.size+1+1) w p _ W2 hB2 (by omega) d0 HS.out) belowK_t (belowK_b (by omega)) (Below.refl _ _) (fun _=>rfl)
  (fun pre W=>(((pre.map XT.tst).all cntT=true)∧Boxed W (w.heap.size+1) 4 (.bool false))∧Below w.heap.size w W)
  (fun c pre W=>((c=.ret∧(pre.map XT.tst).all cntT=false)∧Boxed W (w.heap.size+1) 4 (.bool false))∧Below w.heap.size w W)
  (OwnFrom.and (OwnFrom.and (ownFrom_pure _ _) (Own.from (boxed_own _ _ _) _)) (ownFrom_below (Nat.le_refl _) (by omega)))
  (fun c=>OwnFrom.and (OwnFrom.and (ownFrom_pure _ _) (Own.from (boxed_own _ _ _) _)) (ownFrom_below (Nat.le_refl _) (by omega)))
  ⟨⟨by simp,bR2⟩,hB2⟩
  (fun x a' W=>∃Bx,w.heap.size+1<Bx∧(W.cell? ⟨Bx,0,none⟩=some (.int .i64 x.1.2.kind)∧W.cell? ⟨Bx,3,none⟩=some (.int .i64 x.1.2.a)∧W.cell? ⟨Bx,4,none⟩=some (.int .i64 x.1.2.b))∧a'={ tmps:= #[.agg #[.slice ax p.steps.length cx,.slice al p.links.length cl],.pointer (some ⟨w.heap.size,0,none⟩),.pointer (some ⟨w.heap.size+1,0,none⟩),.pointer (some ⟨Bx,0,none⟩),.agg #[.slice ax p.steps.length cx,.slice al p.links.length cl],.func (.func 165) #[] #[.pointer (some ⟨w.heap.size+1+1,0,none⟩)],x.1.1,undef,undef,undef,undef,undef,undef,undef,undef,undef,undef,undef],defers:=[] })
  (fun x a' _ X Y row hs hg hr=>by obtain⟨Bx,h1,⟨h2,h4,h5⟩,h3⟩:=hs;exact⟨Bx,h1,⟨cell_kept h2 hg (fun r e=>(hr r e).2),cell_kept h4 hg (fun r e=>(hr r e).2),cell_kept h5 hg (fun r e=>(hr r e).2)⟩,h3⟩)
  ?assign ?body ?done ?stop
 case assign=>
  rintro l pre x W K ⟨⟨hp,hbx⟩,hB⟩ hK;obtain⟨lv,hx,hal⟩:=x.2.1;obtain⟨au,cu,rfl,-⟩:=HA.out.form hal;have HXX:Hid _:=hx;dsimp only;rw[hx];clear hx hal
  gi_wp2
  exact hK _ _ ((KeepsOthers.alloc _ _).from _) ((Below.refl _ W).alloc hB.size _) ⟨⟨hp,hbx.alloc _⟩,hB.alloc hB.size _⟩ ⟨W.heap.size,hbx.lt,⟨(Blk6p.new W _ _ _ _ _ _).1,(Blk6r.new W _ _ _ _ _ _).1,(Blk6r.new W _ _ _ _ _ _).2⟩,by rw[HXX.out]⟩
 case body=>
  rintro l pre x a' W hl hr ⟨⟨hp,hbx⟩,hB⟩ ⟨Bx,hBx,⟨hcx,hca,hcb⟩,rfl⟩ hlt;have fR:=hbx.frozen;have cR:=hbx.cell;have hkk:=HKN.out _ x.2.2;obtain⟨kd,hkd,hk15,-⟩:=qhK hkk;rw[hkd]at hcx;obtain⟨-,-,f2,-⟩:=(HF.out.on hB) kd hk15;obtain⟨bc,hbc⟩:∃y,Pl.kNth kd=y:=⟨_,rfl⟩
  rw[hbc]at f2;have i1:(0:Int)≤(kd:Int):=by omega
  have i2:(kd:Int)<16:=by omega
  obtain⟨na,hna⟩:∃y,x.1.2.a=y:=⟨_,rfl⟩
  obtain⟨nb,hnb⟩:∃y,x.1.2.b=y:=⟨_,rfl⟩
  rw[hna]at hca;rw[hnb]at hcb
  have HKD:Hid (cntT x.tst=(!bc||nB na nb)):=by
   unfold Hid cntT XT.tst;rw[hkd,hbc,hna,hnb]
  clear hkd hkk hna hnb hbc;generalize x.1.1=xv;have h1':1≤6-1-1:=by omega
  cases bc with
  | false=>
   gi_wp2
   refine⟨trivial,?_⟩
   gi_wp2
   exact⟨(KeepsOthers.refl _).from _,Below.refl _ _,⟨by rw[List.map_append,List.all_append,hp];simp[HKD.out],hbx⟩,hB⟩
  | true=>
   cases hb:nB na nb with
   | true=>
    gi_wp2_with (refine⟨trivial,?_⟩;gi_at_call 132;refine(CallsIn.inRound l (callsIn_wide.2 (qfo _ _ _))).mono ?_;rintro e w' ⟨rfl,hb6⟩;rw[qg4 hb])
    exact⟨(qaS hb6).from _,hb6.mono hB.size,⟨by rw[List.map_append,List.all_append,hp];simp[HKD.out,hb],qaG hbx hb6⟩,qaa hB hb6⟩
   | false=>
    gi_wp2_with (refine⟨trivial,?_⟩;gi_at_call 132;refine(CallsIn.inRound l (callsIn_wide.2 (qfo _ _ _))).mono ?_;rintro e w' ⟨rfl,hb6⟩;rw[qe3 hb];have fR2:=(qaG hbx hb6).frozen;have cR2:=(qaG hbx hb6).cell)
    exact⟨((qaS hb6).trans (KeepsOthers.setCell _ _ _)).from _,⟨⟨rfl,by rw[List.map_append,List.all_append];simp[HKD.out,hb]⟩,(qaG hbx hb6).set _⟩,(qaa hB hb6).setCell (p:=⟨w.heap.size+1,0,none⟩) (by simp) _⟩
 case done=>
  rintro D ys W hD hys ⟨⟨hp,hbx⟩,hB⟩ hK;have fR:=hbx.frozen;have cR:=hbx.cell;rw[hys]at hp
  gi_wp2
  have hK':=(KeepsOthers.setCell W ⟨w.heap.size+1,0,none⟩ (.bool true)).same D _ hK rfl;refine⟨by simp,.inl ⟨_,_,rfl,run_takeDeferred hK',?_⟩⟩;have hc5:=cell_kept (hbx.set (.bool true)).cell (grownBy_putObj' _ D (.deferred none)) (fun r e=>by cases e;exact⟨_,hK',rfl⟩);refine⟨.bool true,?_,by rw[HPK.out,hp],(hB.setCell (p:=⟨w.heap.size+1,0,none⟩) (by simp) _).trans (belowK_b (w:=w) (Nat.le_refl _) _ D _ _ (by omega) hK' rfl rfl)⟩;simp[results,Tryz.results97,go_sem,hc5]
 case stop=>
  rintro D c pre W hD hpre ⟨⟨⟨rfl,hp⟩,hbx⟩,hB⟩ hK
  gi_wp2
  refine⟨by simp,.inl ⟨_,_,rfl,run_takeDeferred hK,?_⟩⟩;have hc5:=cell_kept hbx.cell (grownBy_putObj' _ D (.deferred none)) (fun r e=>by cases e;exact⟨_,hK,rfl⟩)
  have hno:p.tests.all cntT=false:=by
   obtain⟨rest,hrest⟩:=hpre;rw[←hrest,List.all_append,hp];rfl
  refine⟨.bool false,?_,by rw[HPK.out,hno],hB.trans (belowK_b (w:=w) (Nat.le_refl _) W D _ _ (by omega) hK rfl rfl)⟩;simp[results,Tryz.results97,go_sem,hc5]
def Marks (B:Nat)(W:World)(ds:List Deferred):Prop:=∃Ds:List Nat,ds=Ds.map (fun D=>{ target:=.collected D,args:= #[] })∧Ds.Nodup∧∀D∈Ds,B≤D∧W.heap[D]? =some (.deferred (some []))
theorem Marks.nil (B:Nat)(W:World):Marks B W []:=⟨[],rfl,List.nodup_nil,fun D h=>by cases h⟩
theorem Marks.keeps {B:Nat}{W W':World}{ds:List Deferred}(h:Marks B W ds)(hk:KeepsOthers W W'):Marks B W' ds:=by
 obtain⟨Ds,h1,h2,h3⟩:=h;exact⟨Ds,h1,h2,fun D hD=>⟨(h3 D hD).1,hk.same D _ (h3 D hD).2 rfl⟩⟩
theorem qb5 {F:Fence}{n:Nat}{P:Program}{fn:Func}{tmps:Array Value}{R:Ending→World→Prop}{B n₀:Nat}(hn:n₀≤B):∀(Ds:List Nat) (W:World),Ds.Nodup→(∀D∈Ds,B≤D∧W.heap[D]? =some (.deferred (some [])))→
 (∀W',Below n₀ W W'→(∀(a:Addr) v,W.cell? a=some v→W'.cell? a=some v)→LeavesIn F n P fn tmps R [] .returning W')→LeavesInM F n P fn tmps R (Ds.map fun D=>{ target:=.collected D,args:= #[] }) .returning W:=by
 intro Ds
 induction Ds with
 | nil=>exact fun W _ _ h=>h W (Below.refl _ _) (fun _ _ h=>h)
 | cons D Ds ih=>
  intro W hnd hD h;obtain⟨hB,hK⟩:=hD D (by simp);obtain⟨hnot,hnd2⟩:=List.nodup_cons.1 hnd;refine⟨by simp,.inl ⟨D,_,rfl,run_takeDeferred hK,ih _ hnd2 (fun E hE=>⟨(hD E (by simp[hE])).1,?_⟩) fun W' hb hc=>h W' ?_ ?_⟩⟩
  ·have hne:E≠D:=fun e=>hnot (e▸hE)
   have:=(grownBy_putObj' W D (.deferred none)).block E (Array.getElem?_eq_some_iff.1 (hD E (by simp[hE])).2).1 (by intro e;exact hne (by injection e));exact this.trans (hD E (by simp[hE])).2
  ·exact((Below.refl n₀ W).grown (grownBy_putObj' W D (.deferred none)) (by have:=(Array.getElem?_eq_some_iff.1 hK).1;omega) (fun k e=>by cases e;omega)).trans hb
  ·intro a v hv;exact hc a v (cell_kept hv (grownBy_putObj' W D (.deferred none)) (fun r e=>by cases e;exact⟨_,hK,rfl⟩))
end Go.Proofs.YtephhllfodlfbaaGreatDoor
namespace Go.Proofs.YtephhllfodlfbaaGreatDoor
open Go.RowKit
theorem qhO {α:Type}{A:MemL α}(hA:IsL A)(v u:Value)(p:Pl.Pth α)(w:World)(hs:qaf (qa3 A) 2 w v p.steps)(hu:qaf qbe 1 w u p.links):
 Calls Tryz.prog 126 #[.agg #[v,u]] w fun e w'=>e=.returned (.bool (Pl.pFits p))∧Below w.heap.size w w':=by
 obtain⟨ax,cx,rfl⟩:=hs.form;obtain⟨al,cl,rfl⟩:=hu.form;have fs:=hs.fit;have fl:=hu.fit;unfold maxLen at fs fl;have hbx:=qac w (.cells #[.slice ax p.steps.length cx,.slice al p.links.length cl] 64);have HB:Hid (Below w.heap.size w _):=hbx;have HA:Hid (IsL A):=hA;have HS:Hid (qaf (qa3 A) 2 _ (.slice ax p.steps.length cx) p.steps):=hs.map fun b o x hx=>hx.on hA hbx
 obtain⟨x0,x1⟩:=Blk2p.new w (.slice ax p.steps.length cx) (.slice al p.links.length cl);obtain⟨EV,hEV⟩:∃x,Pl.pFits p=x:=⟨_,rfl⟩
 rw[hEV];clear hs hu hA hbx
 by_cases h1:p.steps.length<1
 ·have HE:Hid (EV=false):=by
   unfold Hid;rw[←hEV];unfold Pl.pFits;rw[decide_eq_false (by omega)];rfl
  have h1':(p.steps.length:Int)<1:=by omega
  clear hEV;go_enter Tryz.func126,Tryz.ntmps126;go_wp2;go_ret;exact⟨by rw[HE.out];rfl,HB.out⟩
 ·have h1':¬(p.steps.length:Int)<1:=by omega
  by_cases h2:5<p.steps.length
  ·have HE:Hid (EV=false):=by
    unfold Hid;rw[←hEV];unfold Pl.pFits;rw[decide_eq_false (by omega)];rfl
   have h2':(5:Int)<(p.steps.length:Int):=by omega
   clear hEV;go_enter Tryz.func126,Tryz.ntmps126;go_wp2;go_ret;exact⟨by rw[HE.out];rfl,HB.out⟩
  ·have h2':¬(5:Int)<(p.steps.length:Int):=by omega
   have hr:wrap64 ((p.steps.length:Int)-1)=(p.steps.length:Int)-1:=IntWalk.wrap64_in _ ⟨by omega,by omega⟩
   by_cases h3:p.links.length+1=p.steps.length
   ·have hq:((p.links.length:Int) !=(p.steps.length:Int)-1)=false:=by simp;omega
    have HE:Hid (EV=p.steps.all fun s=>decide (s.tests.length≤6)):=by
     unfold Hid;rw[←hEV];unfold Pl.pFits;rw[decide_eq_true (by omega),Bool.true_and]
    clear hEV;go_enter Tryz.func126,Tryz.ntmps126;go_wp2;generalize w.alloc (.cells #[.slice ax p.steps.length cx,.slice al p.links.length cl] 64)=W1 at *
    go_loopw [28] (fun i wr=>∃k:Nat,k≤p.steps.length∧i=.int .i64 k∧Hid ((p.steps.take k).all (fun s=>decide (s.tests.length≤6))=true)∧Hid (Below W1.heap.size W1 wr)) (fun i _=>p.steps.length-(intOf i).toNat)
    case atStart=>exact⟨0,Nat.zero_le _,rfl,by simp[Hid],Below.refl _ _⟩
    case round=>
     obtain⟨k,hk,rfl,HT,HB2⟩:=hrel
     by_cases hlt:k<p.steps.length
     ·obtain⟨-,b2,o2,rfl,hc2⟩:=qaf.at HS.out (by omega);obtain⟨vt,m0,m1,rt⟩:=(hc2 k hlt).on HA.out HB2.out;obtain⟨at_,ct,rfl⟩:=rt.form;have ft:=rt.fit;unfold maxLen at ft;have k1:(0:Int)≤(k:Int):=by omega
      have k2:(k:Int)<(p.steps.length:Int):=by omega
      have HBAD:Hid (decide (p.steps[k].tests.length≤6)=false→EV=false):=fun h=>HE.out.trans (qbC hlt h)
      have HOK:Hid (decide (p.steps[k].tests.length≤6)=true→(p.steps.take (k+1)).all (fun s=>decide (s.tests.length≤6))=true):=fun h=>qbk hlt HT.out h
      clear hc2 HT rt;generalize p.steps[k]=st at *;have hbs:=qac wr (.cells #[.string ⟨st.tag.toArray⟩,.slice at_ st.tests.length ct] 67);have HB3:Hid (Below W1.heap.size W1 _):=qaa HB2.out hbs;clear hbs
      by_cases h6:st.tests.length≤6
      ·have h6':¬(6:Int)<(st.tests.length:Int):=by omega
       have HK:Hid ((p.steps.take (k+1)).all (fun s=>decide (s.tests.length≤6))=true):=HOK.out (decide_eq_true h6);go_wp2;exact⟨⟨k+1,hlt,by go_num,HK,HB3⟩,by simp[intOf];omega⟩
      ·have h6':(6:Int)<(st.tests.length:Int):=by omega
       have HK:Hid (EV=false):=HBAD.out (decide_eq_false h6);go_wp2;go_ret;exact⟨by rw[HK.out];rfl,qaa HB.out HB3.out⟩
     ·have HK:Hid (EV=true):=HE.out.trans (qbi hlt HT.out);go_wp2;go_ret;exact⟨by rw[HK.out];rfl,qaa HB.out HB2.out⟩
   ·have hq:((p.links.length:Int) !=(p.steps.length:Int)-1)=true:=by simp;omega
    have HE:Hid (EV=false):=by
     unfold Hid;rw[←hEV];unfold Pl.pFits;rw[decide_eq_false (by omega)];rfl
    clear hEV;go_enter Tryz.func126,Tryz.ntmps126;go_wp2;go_ret;exact⟨by rw[HE.out];rfl,HB.out⟩
end Go.Proofs.YtephhllfodlfbaaGreatDoor
