/-
  RestPages, whatever it is handed: the card. The variable of its road holds what the program's text lays; no other condition.
-/
import Derived.Test.YtephhllfodlfbaaGreatDoorCards
import Derived.Test.YtephhllfodlfbaaGreatDoorTie
import Derived.Test.YtephhllfodlfbaaGreatDoorLaF
import Derived.Deep.DeepHandedRow
import Derived.SizedLaws
set_option maxRecDepth 100000
set_option maxHeartbeats 16000000
namespace Go.Proofs.YtephhllfodlfbaaGreatDoor.RPages
open Go.ChangeShapes Go.WideShapes Go.ChangeAt Go.RowKit Go.Joins
open Go.ChangeMaps (open_string shut_string)
theorem contract (H:Type)(enc:TypeId×Value→H)(W:World)(base:Nat)(args:Array Value)(ds gs:List (DataW H))(before:List MemPlace)
 (hval:∀(j:Nat) t v,Tryz.f5.params[j]? =some t→args[j]? =some v→Value.okWide Tryz.prog W .any base t v)
 (hW:DataW.Whole enc Tryz.prog Tryz.f5.params.toList Rows.restPagesSpec.vars false W args.toList ds gs before) (hL:laidMetH Tryz.prog Rows.restPagesRow.laid W) (_hS:W.ShapedOpen Tryz.prog):
 Calls Tryz.prog 5 args W fun e W'=>∃v,e=.returned v∧Rows.restPagesSpec.post enc Tryz.prog Tryz.f5 false true false false W args v W':=by
 have hW':=hW;obtain⟨p,q,hA0,hV,rfl,hfz,hnd⟩:=hW;have hA:DataW.TrodAll enc Tryz.prog W 0 (fun _=>true) true Tryz.f5.params.toList args.toList ds p:=hA0;rw[Tryz.params5]at hA hval;obtain⟨v0,r0,d0,e0,p0,q0,ha0,rfl,rfl,h0,hA⟩:=trodAll_cons hA;obtain⟨v1,r1,d1,e1,p1,q1,rfl,rfl,rfl,h1,hA⟩:=trodAll_cons hA;obtain⟨v2,r2,d2,e2,p2,q2,rfl,rfl,rfl,h2,hA⟩:=trodAll_cons hA;obtain⟨v3,r3,d3,e3,p3,q3,rfl,rfl,rfl,h3,hA⟩:=trodAll_cons hA;obtain⟨v4,r4,d4,e4,p4,q4,rfl,rfl,rfl,h4,hA⟩:=trodAll_cons hA
 obtain⟨rfl,rfl,rfl⟩:r4=[]∧e4=[]∧q4=[]:=by
  cases r4<;>cases e4<;>simp[DataW.TrodAll]at hA
  exact⟨rfl,rfl,hA⟩
 obtain⟨rfl⟩:args= #[v0,v1,v2,v3,v4]:=by
  obtain⟨l⟩:=args;simp at ha0;rw[ha0]
 obtain⟨rfl,rfl⟩:=trodVars_none hV;have hlt0:∀x∈p0,x.block<W.heap.size:=fun x hx=>by simpa using hW'.lt x (by simp[hx])
 have hlt1:∀x∈p1,x.block<W.heap.size:=fun x hx=>by simpa using hW'.lt x (by simp[hx])
 have hlt2:∀x∈p2,x.block<W.heap.size:=fun x hx=>by simpa using hW'.lt x (by simp[hx])
 have hlt3:∀x∈p3,x.block<W.heap.size:=fun x hx=>by simpa using hW'.lt x (by simp[hx])
 have hlt4:∀x∈p4,x.block<W.heap.size:=fun x hx=>by simpa using hW'.lt x (by simp[hx])
 have g0:=h0;have g1:=h1;have g2:=h2;have g3:=h3;have g4:=h4;obtain⟨ns0,ix0,hpg0,hix0⟩:=page_open (hval 0 32 v0 rfl rfl) h0;obtain⟨z1,rfl,rfl,rfl,_⟩:=open_int Tryz.underlying3 (hval 1 3 v1 rfl rfl) h1;obtain⟨z2,rfl,rfl,rfl,_⟩:=open_int Tryz.underlying3 (hval 2 3 v2 rfl rfl) h2;obtain⟨sv3,ns3,rfl,hdoc3⟩:=doc_open (hval 3 24 v3 rfl rfl) h3;obtain⟨a4,nn4,c4,rfl⟩:=okWide_slice Tryz.underlying29 (hval 4 29 v4 rfl rfl);obtain⟨fuel4,hf4⟩:=h4;obtain⟨u4,l4,eu4,hl4⟩:=open_3 hf4
 obtain rfl:Value.slice a4 nn4 c4=u4:=by
  have e':[Value.slice a4 nn4 c4]=[u4]:=eu4;injection e'
 have walk:=rest_law _ _ _ ns0 ns3 ix0 z1 z2 l4 W hpg0 hix0 hdoc3 hl4 (forms_of hL);refine walk.mono ?_;rintro e W' ⟨rfl,hb⟩;refine⟨_,rfl,_,_,_,[],p0++([]++([]++(p3++(p4++[])))),[],hW',?_,?_,rfl,hb.frame _,fun h=>by cases h⟩
 ·exact trodAll_mk1 (shut_bool Tryz.underlying4 _)
 ·exact trodAll_cons_mk (Below.trod qb2 (by kernel_rfl) (of_decide_eq_true (by kernel_rfl)) g0 hb hlt0) (trodAll_cons_mk (Below.trod qb2 (by kernel_rfl) (of_decide_eq_true (by kernel_rfl)) g1 hb hlt1) (trodAll_cons_mk (Below.trod qb2 (by kernel_rfl) (of_decide_eq_true (by kernel_rfl)) g2 hb hlt2) (trodAll_cons_mk (Below.trod qb2 (by kernel_rfl) (of_decide_eq_true (by kernel_rfl)) g3 hb hlt3) (trodAll_cons_mk (Below.trod qb2 (by kernel_rfl) (of_decide_eq_true (by kernel_rfl)) g4 hb hlt4) (rfl)))))
theorem laid_met (os:Os):laidMet Tryz.prog Rows.restPagesRow.laid ((laidIn (World.holding Tryz.prog os ⟨#[],#[],[]⟩)).forCall (fun _ _=>0) ⟨#[],#[.agg #[.slice none 0 0,.slice none 0 0],.int .i64 0,.int .i64 0,.agg #[.slice none 0 0],.slice none 0 0],[]⟩).memory:=
 laidMet_of_run' 8 (by kernel_rfl) (by kernel_rfl)
theorem reads (os:Os){H:Type}(enc:TypeId×Value→H):∃places,DataW.whole enc Tryz.prog ((laidIn (World.holding Tryz.prog os ⟨#[],#[],[]⟩)).forCall (fun _ _=>0) ⟨#[],#[.agg #[.slice none 0 0,.slice none 0 0],.int .i64 0,.int .i64 0,.agg #[.slice none 0 0],.slice none 0 0],[]⟩).memory Tryz.f5.params.toList Rows.restPagesSpec.vars false #[.agg #[.slice none 0 0,.slice none 0 0],.int .i64 0,.int .i64 0,.agg #[.slice none 0 0],.slice none 0 0].toList 8=some ([.agg [.agg [.nil],.nil],.lit (.int .i64 0),.lit (.int .i64 0),.agg [.nil],.nil],[],places):=
 ⟨[],by kernel_rfl⟩
theorem lifted (os:Os)(started:os.Started)(H:Type)(enc:TypeId×Value→H)(F:Stop.Interp):
 ReturnsInHanded {} Tryz.checked os 5 .any ((OpenSpec.ofChange Rows.restPagesSpec).preRow enc Tryz.prog Tryz.f5 Rows.restPagesRow.domain false Rows.restPagesRow.laid) (((OpenSpec.ofChange Rows.restPagesSpec).at F).post enc Tryz.prog Tryz.f5 false true false false):=by
 obtain⟨places,hx⟩:=reads os enc
 refine returnsInHanded_of_row (C:=Tryz.checked) (s:=OpenSpec.ofChange Rows.restPagesSpec) ownTryz started (by kernel_rfl) Tryz.func5
  (witness_row_at (enc:=enc) (C:=Tryz.checked) false (laidIn (World.holding Tryz.prog os ⟨#[],#[],[]⟩)) #[.agg #[.slice none 0 0,.slice none 0 0],.int .i64 0,.int .i64 0,.agg #[.slice none 0 0],.slice none 0 0] rfl (by kernel_rfl) (by kernel_rfl) (by kernel_rfl)
   (OpenSpec.preRow_of_cond 8 hx (by kernel_rfl) (fun k hk=>by cases hk) (by kernel_rfl) (laid_met os))) ?_
 intro W base args ds gs before hval hW _ _ _ hL hS _;exact contract H enc W base args ds gs before hval hW hL hS
theorem said:Rows.RestPagesSaid:=
 OpenClaim.holds_of_cond 5 Tryz.f5 rfl rfl rfl rfl rfl rfl rfl ⟨rfl,rfl,rfl,rfl,rfl⟩ rfl rfl rfl rfl rfl (by kernel_rfl) Tryz.func5 (by kernel_rfl)
  (of_decide_eq_true (by kernel_rfl)) (by unfold Func.isWrapper;first|(rw[if_pos (by decide+kernel)];kernel_rfl)|(rw[if_neg (by decide+kernel)];exact⟨rfl,rfl⟩))
  (fun os started H enc _ F=>by rw[OpenClaim.pre_eq_preRow];exact lifted os started H enc F)
theorem plain (f:FuncId)(fn:Func)(hf:Tryz.pinned.checked.prog.funcNamed "pathfindery/pathfinderylaw.RestPages" =some f)(hfn:Tryz.pinned.checked.prog.funcs[f]? =some fn):
 false=Tryz.pinned.checked.prog.looks []∧∀(j:Nat) t,fn.params[j]? =some t→Tryz.pinned.checked.prog.wantsStandIn t=false:=by
 obtain rfl:f=5:=Option.some.inj ((show Tryz.prog.funcNamed "pathfindery/pathfinderylaw.RestPages" =some 5 by kernel_rfl).symm.trans hf) |>.symm;obtain rfl:fn=Tryz.f5:=(Option.some.inj (Tryz.func5.symm.trans hfn)).symm;refine⟨by kernel_rfl,fun j t ht=>?_⟩;rw[Tryz.params5]at ht;have hm:=Array.mem_of_getElem? ht;simp at hm
 rcases hm with rfl|rfl|rfl|rfl
 ·exact(show Tryz.prog.wantsStandIn 32=false by kernel_rfl)
 ·exact(show Tryz.prog.wantsStandIn 3=false by kernel_rfl)
 ·exact(show Tryz.prog.wantsStandIn 24=false by kernel_rfl)
 ·exact(show Tryz.prog.wantsStandIn 29=false by kernel_rfl)
theorem card:Rows.RestPagesCardSaid:=
 Claim7.holds_tied_plain_at .later [] _ _ _ _ said (fun _ h=>by cases h) (by kernel_rfl) (fun _ h=>by cases h) restPages_row_tie rfl ⟨rfl,rfl⟩ (by kernel_rfl) rfl plain (by kernel_rfl)
end Go.Proofs.YtephhllfodlfbaaGreatDoor.RPages
namespace Go.Proofs.YtephhllfodlfbaaGreatDoor
theorem restPagesCard:Rows.RestPagesCardSaid:=RPages.card
end Go.Proofs.YtephhllfodlfbaaGreatDoor
