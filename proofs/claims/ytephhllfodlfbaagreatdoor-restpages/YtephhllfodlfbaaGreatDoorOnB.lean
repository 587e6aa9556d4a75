/-
  The document's own onceStep: a step whose tests' lists are made plainer.
-/
import Derived.Test.YtephhllfodlfbaaGreatDoorOnC
set_option maxRecDepth 100000
set_option maxHeartbeats 16000000
namespace Go.Proofs.YtephhllfodlfbaaGreatDoor
open Go.RowKit
namespace Pl
section
variable {α:Type} {only:List α→Option (Stp α)} {tp x:Stp α} {t:Tst α} {b:Nat}
theorem addT_none (h:only t.list=none):addT only tp t b=⟨tp.tag,tp.tests++[t]⟩:=by unfold addT;rw[h]
theorem addT_13 (h:only t.list=some x)(k:t.kind=13)(hn:qch x=none):addT only tp t b=⟨tp.tag,tp.tests++[t]⟩:=by
 unfold addT;rw[h];dsimp only;rw[if_pos k,hn];dsimp only;rw[if_neg (by rw[k];simp)]
theorem addT_not (h:only t.list=some x)(k:t.kind=13){l:List α}(hn:qch x=some l):addT only tp t b=⟨tp.tag,tp.tests++[⟨14,[],[],0,0,l⟩]⟩:=by
 unfold addT;rw[h];dsimp only;rw[if_pos k,hn]
theorem qdc (h:only t.list=some x)(k:¬t.kind=13)(hn:¬(t.kind=14∧together tp.tag x.tag=true∧tp.tests.length+x.tests.length+b≤6)):addT only tp t b=⟨tp.tag,tp.tests++[t]⟩:=by
 unfold addT;rw[h];dsimp only;rw[if_neg k];dsimp only;rw[if_neg hn]
theorem qhu (h:only t.list=some x)(k:¬t.kind=13)(hn:t.kind=14∧together tp.tag x.tag=true∧tp.tests.length+x.tests.length+b≤6):addT only tp t b=⟨if tp.tag=[] then x.tag else tp.tag,tp.tests++x.tests⟩:=by
 unfold addT;rw[h];dsimp only;rw[if_neg k];dsimp only;rw[if_pos hn]
theorem notOf_tag (h:x.tag.isEmpty=false):qch x=none:=by
 unfold qch
 split
 ·rw[if_neg (by rintro ⟨e,-⟩;rw[e]at h;cases h)]
 ·rfl
theorem notOf_len (h:¬x.tests.length=1):qch x=none:=by
 unfold qch
 split
 ·rename_i e;rw[e]at h;exact absurd rfl h
 ·rfl
theorem notOf_kind {t1:Tst α}(h:x.tests=[t1])(hk:¬t1.kind=13):qch x=none:=by
 unfold qch;rw[h];dsimp only;rw[if_neg (fun e=>hk e.2)]
theorem notOf_yes {t1:Tst α}(h:x.tests=[t1])(hg:x.tag.isEmpty=true)(hk:t1.kind=13):qch x=some t1.list:=by
 unfold qch;rw[h];dsimp only;rw[if_pos ⟨List.isEmpty_iff.1 hg,hk⟩]
def Lid (L:Lev α):Lev α:=⟨id,L.only,L.z,L.W⟩
theorem isLev_id {L:Lev α}(h:qcR L):qcR (Lid L):=⟨fun h=>h,fun _=>Or.inl rfl,fun h1 h2=>h.one h1 h2⟩
theorem qfp [DecidableEq α]{l:List α}{k:Nat}{y:α}:y∈qag l k↔y∈l.take k:=by
 unfold qag;rw[qeN];simp
end
end Pl
theorem only_n {α:Type}{A:MemL α}{only:Option (Pl.Stp α)}{Q:Nat→Bool}{w w':World}{e:Ending}(h:qdX A only Q w e w'):((only=none∧e=.returned (.tuple #[.agg #[.string ⟨#[]⟩,.slice none 0 0],.bool false]))∨(∃s a c n,s.tests.length=n∧only=some s∧e=.returned (.tuple #[.agg #[.string ⟨s.tag.toArray⟩,.slice a n c],.bool true])∧qaf (qaF A) 6 (mask Q w) (.slice a n c) s.tests))∧Below w.heap.size w w':=by
 obtain⟨h|⟨s,a,c,h1,h2,h3⟩,hb⟩:=h
 ·exact⟨Or.inl h,hb⟩
 ·exact⟨Or.inr ⟨s,a,c,_,rfl,h1,h2,h3⟩,hb⟩
theorem qdu {w w':World}{r:Option Nat}(hg:w.grownBy w' r){k o:Nat}{x:Value}(hc:w.cell? ⟨k,o,none⟩=some x)(hne:r≠some k):w'.cell? ⟨k,o,none⟩=some x:=by
 have h:=hg.block k (qaV hc) (fun e=>hne e.symm);unfold World.cell? at hc ⊢;dsimp only at hc ⊢;rw[h];exact hc
theorem qgp {ops:Array Oper}{o:Oper}{a:Act}{w:World}{K:Act→World→Prop}{Q:Exit→Act→World→Prop}{R:Prop}(n:Nat)(v0 v1 v2 v3 v4 v5:Value)(hgd:o.guard=none)(ho:o.op=.buildSlice 65 1 #[(0,.tmp n)])(hx:a.eval (.tmp n)=.agg #[v0,v1,v2,v3,v4,v5])
 (h:K (a.put o.dst (.slice (some ⟨w.heap.size,0,none⟩) 1 1)) (w.alloc (.cells #[v0,v1,v2,v3,v4,v5] 71))):if Region.wanted o (yielded ops a.tmps)=true then Oper.wp Tryz.prog o a w K Q else R:=by
 have hw:Region.wanted o (yielded ops a.tmps)=true:=by simp[Region.wanted,hgd]
 rw[if_pos hw];obtain⟨d,op,ty,pos,af,gd⟩:=o;have ho':op=.buildSlice 65 1 #[(0,.tmp n)]:=ho;subst ho';have hx':a.tmps[n]?.getD undef=.agg #[v0,v1,v2,v3,v4,v5]:=by simpa [Act.eval] using hx
 unfold Oper.wp execOp;go_simp;exact h
def StepD {α:Type}[DecidableEq α](A:MemL α)(L:Pl.Lev α):Prop:=∀(P:Nat→Bool) (a:Option Addr) (c:Nat) (s:Pl.Stp α) (w:World),(∀j,w.heap.size≤j→P j=true)→qaf (qaF A) 6 (mask P w) (.slice a s.tests.length c) s.tests→Pl.okS L.W s→
 Calls Tryz.prog 118 #[.agg #[.string ⟨s.tag.toArray⟩,.slice a s.tests.length c]] w fun e w'=>∃a' c',e=.returned (.agg #[.string ⟨(Pl.plS id L.only s).tag.toArray⟩,.slice a' (Pl.plS id L.only s).tests.length c'])∧qaf (qaF A) 6 (mask P w') (.slice a' (Pl.plS id L.only s).tests.length c') (Pl.plS id L.only s).tests∧Below w.heap.size w w'
theorem qiy {α:Type}[DecidableEq α]{A:MemL α}(hA:IsL A)(hS:qaK A)(L:Pl.Lev α)(hL:Pl.qcR L)(hO:qgP A L)(hsame:∀(w:World) (v1 v2:Value) (l m:List α),A w v1 l→A w v2 m→L.W l→L.W m→Calls Tryz.prog 19 #[v1,v2] w fun e w'=>e=.returned (.bool (sm l m))∧Below w.heap.size w w'):StepD A L:=by
 intro P a c s w hP hrow hok;have HP:Hid (∀j,w.heap.size≤j→P j=true):=hP;have HROW:Hid (qaf (qaF A) 6 (mask P w) (.slice a s.tests.length c) s.tests):=hrow;have HOK:Hid (Pl.okS L.W s):=hok;have h6:s.tests.length≤6:=hok.1;have HSZ:Hid (∀k,k≤s.tests.length→(∀t∈(Pl.qaA id L.only s k).tests,L.W t.list)∧(Pl.qaA id L.only s k).tests.length+(s.tests.length-k)≤6):=fun k hk=>(Pl.qeI (Pl.isLev_id hL) (s:=s) hok k hk).2
 have hb1:=qac w (.cells #[.string ⟨s.tag.toArray⟩,.slice a s.tests.length c] 67);have hb2:=qac (w.alloc (.cells #[.string ⟨s.tag.toArray⟩,.slice a s.tests.length c] 67)) (.cells #[.string ⟨#[]⟩,.slice none 0 0] 67);have hb3:=qac ((w.alloc (.cells #[.string ⟨s.tag.toArray⟩,.slice a s.tests.length c] 67)).alloc (.cells #[.string ⟨#[]⟩,.slice none 0 0] 67)) (.cells #[.string ⟨s.tag.toArray⟩,.slice none 0 0] 67);have HX1:Hid ((((w.alloc (.cells #[.string ⟨s.tag.toArray⟩,.slice a s.tests.length c] 67)).alloc (.cells #[.string ⟨#[]⟩,.slice none 0 0] 67)).alloc (.cells #[.string ⟨s.tag.toArray⟩,.slice none 0 0] 67)).heap[w.heap.size]? =some (.cells #[.string ⟨s.tag.toArray⟩,.slice a s.tests.length c] 67)):=hblk (hblk (heap_alloc_new w _) hb2) hb3
 have HX2:Hid ((((w.alloc (.cells #[.string ⟨s.tag.toArray⟩,.slice a s.tests.length c] 67)).alloc (.cells #[.string ⟨#[]⟩,.slice none 0 0] 67)).alloc (.cells #[.string ⟨s.tag.toArray⟩,.slice none 0 0] 67)).heap[w.heap.size+1]? =some (.cells #[.string ⟨#[]⟩,.slice none 0 0] 67)):=by
  have h1:=hblk (heap_alloc_new (w.alloc (.cells #[.string ⟨s.tag.toArray⟩,.slice a s.tests.length c] 67)) (.cells #[.string ⟨#[]⟩,.slice none 0 0] 67)) hb3;unfold Hid
  simpa using h1
 have HM0:Hid (qbA A (gap P w.heap.size (w.heap.size+2)) (w.heap.size+2) (((w.alloc (.cells #[.string ⟨s.tag.toArray⟩,.slice a s.tests.length c] 67)).alloc (.cells #[.string ⟨#[]⟩,.slice none 0 0] 67)).alloc (.cells #[.string ⟨s.tag.toArray⟩,.slice none 0 0] 67)) (Pl.qaA id L.only s 0) (.slice none 0 0)):=⟨by
  have h1:=heap_alloc_new ((w.alloc (.cells #[.string ⟨s.tag.toArray⟩,.slice a s.tests.length c] 67)).alloc (.cells #[.string ⟨#[]⟩,.slice none 0 0] 67)) (.cells #[.string ⟨s.tag.toArray⟩,.slice none 0 0] 67);simp only[World.size_alloc]at h1
  exact h1,Grow.nil _ _ _ _ _ _,gap_out (by omega)⟩
 have HB3:Hid (Below w.heap.size w (((w.alloc (.cells #[.string ⟨s.tag.toArray⟩,.slice a s.tests.length c] 67)).alloc (.cells #[.string ⟨#[]⟩,.slice none 0 0] 67)).alloc (.cells #[.string ⟨s.tag.toArray⟩,.slice none 0 0] 67))):=qaa hb1 (qaa hb2 hb3);clear hP hrow hok hb1 hb2 hb3;obtain⟨R,hR⟩:∃q,q=Pl.plS id L.only s:=⟨_,rfl⟩
 rw[←hR];have HR:Hid (R=⟨(Pl.qaA id L.only s s.tests.length).tag,Pl.qaR (Pl.qaA id L.only s s.tests.length).tests⟩):=hR;clear hR;go_enter Tryz.func118,Tryz.ntmps118;go_wp2;generalize ((w.alloc (.cells #[.string ⟨s.tag.toArray⟩,.slice a s.tests.length c] 67)).alloc (.cells #[.string ⟨#[]⟩,.slice none 0 0] 67)).alloc (.cells #[.string ⟨s.tag.toArray⟩,.slice none 0 0] 67)=w3 at *;obtain⟨M,hM⟩:∃q,q=w.heap.size+2:=⟨_,rfl⟩
 rw[←hM]at HM0 ⊢;have HMW:Hid (M=w.heap.size+2):=hM;clear hM;obtain⟨PP,hPP⟩:∃q,q=gap P w.heap.size M:=⟨_,rfl⟩
 rw[←hPP]at HM0;have HPP:Hid (PP=gap P w.heap.size M):=hPP;clear hPP
 go_loopw [4] (fun i wr=>∃k:Nat,k≤s.tests.length∧i=.int .i64 k∧Hid (∃au cu,qbA A PP M wr (Pl.qaA id L.only s k) (.slice au (Pl.qaA id L.only s k).tests.length cu))∧Hid (FrA (M+1) M w3 wr)) (fun i _=>s.tests.length-(intOf i).toNat)
 case atStart=>exact⟨0,Nat.zero_le _,rfl,⟨none,0,HM0.out⟩,FrA.refl _ _ _⟩
 case round=>
  obtain⟨k,hk,rfl,HMk,HFk⟩:=hrel;obtain⟨au,cu,hmk⟩:=HMk.out;have HM:Hid (qbA A PP M wr (Pl.qaA id L.only s k) (.slice au (Pl.qaA id L.only s k).tests.length cu)):=hmk;clear HMk hmk;have HBW:Hid (Below w.heap.size w wr):=HFk.out.belowW HB3.out (by have:=HMW.out;omega) (by have:=HMW.out;omega);have HX1k:Hid (wr.heap[w.heap.size]? =some (.cells #[.string ⟨s.tag.toArray⟩,.slice a s.tests.length c] 67)):=HFk.out.blkAt HX1.out (by have:=HMW.out;omega) (by have:=HMW.out;omega);have HX2k:Hid (wr.heap[w.heap.size+1]? =some (.cells #[.string ⟨#[]⟩,.slice none 0 0] 67)):=HFk.out.blkAt HX2.out (by have:=HMW.out;omega) (by have:=HMW.out;omega);have x1:=(f2 HX1k.out).2;have hszk:=HSZ.out k hk
  by_cases hlt:k<s.tests.length
  ·as_aux_lemma=>
   obtain⟨a',c',e',-,hcs⟩:=HROW.out;injection e' with e1 _ e3;subst e1 e3
   rcases hcs with h0|⟨b,o,rfl,hc⟩
   ·rw[h0]at hlt;simp at hlt
   obtain⟨vv,n0,n1,n2,n3,n4,n5,hml⟩:=hc k hlt;obtain⟨al,dl,rfl,-⟩:=hA.form hml;replace n0:=qab HBW.out (qah.1 n0).2;replace n1:=qab HBW.out (qah.1 n1).2;replace n2:=qab HBW.out (qah.1 n2).2;replace n3:=qab HBW.out (qah.1 n3).2;replace n4:=qab HBW.out (qah.1 n4).2;replace n5:=qab HBW.out (qah.1 n5).2;have hw:=HOK.out.2 s.tests[k] (List.getElem_mem hlt);have HNX:Hid (Pl.qaA id L.only s (k+1)=Pl.addT L.only (Pl.qaA id L.only s k) s.tests[k] (s.tests.length-k-1)):=Pl.qfe hlt;have i1:(0:Int)≤(k:Int):=by omega
   have i2:(k:Int)<(s.tests.length:Int):=by omega
   have hlen:=hszk.2;have HLN:Hid ((Pl.qaA id L.only s k).tests.length+(s.tests.length-k)≤6):=hlen;clear hc hszk;generalize s.tests[k]=t at *;generalize Pl.qaA id L.only s k=tp at *;have hba:=qac wr (.cells #[.int .i64 t.kind,.string ⟨t.name.toArray⟩,.string ⟨t.value.toArray⟩,.int .i64 t.a,.int .i64 t.b,.slice al t.list.length dl] 71);have HBA:Hid (Below wr.heap.size wr (wr.alloc (.cells #[.int .i64 t.kind,.string ⟨t.name.toArray⟩,.string ⟨t.value.toArray⟩,.int .i64 t.a,.int .i64 t.b,.slice al t.list.length dl] 71))):=hba
   have HG0:Hid (AddG A PP M wr.heap.size w3 (wr.alloc (.cells #[.int .i64 t.kind,.string ⟨t.name.toArray⟩,.string ⟨t.value.toArray⟩,.int .i64 t.a,.int .i64 t.b,.slice al t.list.length dl] 71)) tp t au al cu dl):=by
    refine⟨HM.out.on hS hba,heap_alloc_new wr _,hS.sub hml (qam fun j hj hjw=>?_),HFk.out.trans (FrA.below hba HM.out.sz)⟩;refine⟨?_,(hba.block j (by have:=HBW.out.size;omega)).trans (HBW.out.block j hjw)⟩;unfold Off;rw[HPP.out,gap_lo hj hjw];have:(.slice au tp.tests.length cu:Value).ownBlock≠some j:=fun h=>by have:=(HM.out.row.own j h).2;have:=HMW.out;omega
    simpa using this
   have HC:Hid (Calls Tryz.prog 151 _ _ _):=hO (wr.alloc (.cells #[.int .i64 t.kind,.string ⟨t.name.toArray⟩,.string ⟨t.value.toArray⟩,.int .i64 t.a,.int .i64 t.b,.slice al t.list.length dl] 71)) (Off PP (.slice au tp.tests.length cu)) (.slice al t.list.length dl) t.list HG0.out.new hw;have HX1a:Hid ((wr.alloc (.cells #[.int .i64 t.kind,.string ⟨t.name.toArray⟩,.string ⟨t.value.toArray⟩,.int .i64 t.a,.int .i64 t.b,.slice al t.list.length dl] 71)).heap[w.heap.size]? =some (.cells #[.string ⟨s.tag.toArray⟩,.slice (some ⟨b,o,none⟩) s.tests.length c] 67)):=hblk HX1k.out hba;have HW:Hid (L.W t.list):=hw;clear hml hw hba HM HFk;obtain⟨wq,hwq⟩:∃q,q=wr:=⟨_,rfl⟩
   subst hwq
   go_wp2_with fail
   clear n0 n1 n2 n3 n4 n5 x1;generalize wq.alloc (.cells #[.int .i64 t.kind,.string ⟨t.name.toArray⟩,.string ⟨t.value.toArray⟩,.int .i64 t.a,.int .i64 t.b,.slice al t.list.length dl] 71)=wa at *;obtain⟨N,hN⟩:∃q,q=wq.heap.size:=⟨_,rfl⟩
   rw[←hN]at HG0 ⊢;clear hN HBA;refine HC.out.mono ?_;intro e w2 hsays;replace hsays:=only_n hsays;obtain⟨⟨hno,rfl⟩|⟨x,ax,cx,nx,hnx,hso,rfl,hrow⟩,hb2⟩:=hsays
   ·as_aux_lemma=>
    have hb3:=qac w2 (.cells #[.string ⟨#[]⟩,.slice none 0 0] 67);have HG3:Hid (AddG A PP M N w3 (w2.alloc (.cells #[.string ⟨#[]⟩,.slice none 0 0] 67)) tp t au al cu dl):=(HG0.out.on hS hb2).on hS hb3;obtain⟨⟨b0,b1,b2,b3⟩,q0,q1,q2,q3,q4,q5⟩:=HG3.out.facts;obtain⟨v0,v1⟩:=f2 (heap_alloc_new w2 (.cells #[.string ⟨#[]⟩,.slice none 0 0] 67));have x3:=(f2 (hblk (hblk HX1a.out hb2) hb3)).2
    have HONE:Hid (∀u∈[.int .i64 t.kind,.string ⟨t.name.toArray⟩,.string ⟨t.value.toArray⟩,.int .i64 t.a,.int .i64 t.b,.slice al t.list.length dl],Value.oneCell' u=true):=by
     intro u hu;simp only[List.mem_cons,List.not_mem_nil,or_false]at hu
     rcases hu with rfl|rfl|rfl|rfl|rfl|rfl<;>rfl
    have HAT:Hid (Pl.addT L.only tp t (s.tests.length-k-1)=⟨tp.tag,tp.tests++[t]⟩):=Pl.addT_none hno;clear hb2 hb3 hno HC
    go_wp2_with (with_reducible refine qcn 49 ?_)
    unfold Hid;generalize w2.alloc (.cells #[.string ⟨#[]⟩,.slice none 0 0] 67)=W at *
    iterate 9 (first|go_values|go_skip|go_guarded|go_step|go_upon)
    refine qaP 51 _ _ _ _ _ _ rfl ?_;refine qaQ (P:=PP) (B:=M+1) (qba hS) Tryz.underlying65 infT rfl (by decide) (by decide) (w2:=W) (v:=.slice au tp.tests.length cu) (l:=tp.tests) (x:=t) (news:=[.int .i64 t.kind,.string ⟨t.name.toArray⟩,.string ⟨t.value.toArray⟩,.int .i64 t.a,.int .i64 t.b,.slice al t.list.length dl]) ?_ (.tmp 50) (.tmp 52) ?_ ?_ ?_ HG3.out.made.row ⟨_,rfl,HG3.out.new⟩ HONE.out (by have:=HLN.out;omega) HG3.out.made.sz ?_ ?_
    ·rfl
    ·rfl
    ·rfl
    ·first|rfl|(simp[Act.eval];done)
    ·rw[HPP.out];have h1:=HG3.out.made.sz;have h2:=HMW.out;exact qcv (HP.out _ (by omega)) (by omega)
    intro g cap w7 hg7 hb7 _;clear b0 b1 b2 b3 q0 q1 q2 q3 q4 q5 v0 v1;have HPUT:=HG3.out.made.put hS (qac _ _) hb7 hg7;have z7:=HPUT.2.2.1;have zf7:=HPUT.2.2.2
    have HM7:Hid (∃au cu,qbA A PP M (w7.setCell ⟨M,1,none⟩ (.slice (some ⟨g,0,none⟩) (tp.tests.length+1) cap)) (Pl.qaA id L.only s (k+1)) (.slice au (Pl.qaA id L.only s (k+1)).tests.length cu)):=by
     unfold Hid;rw[HNX.out,HAT.out];refine⟨some ⟨g,0,none⟩,cap,?_⟩;rw[List.length_append];exact HPUT.1
    have HF7:Hid (FrA (M+1) M w3 _):=HG3.out.fr.trans HPUT.2.1;clear HPUT hg7 hb7 HG3;go_wp2;exact⟨⟨k+1,hlt,by go_num,HM7,HF7⟩,by simp[intOf];omega⟩
   ·have HRX:Hid (qaf (qaF A) 6 (mask (Off PP (.slice au tp.tests.length cu)) wa) (.slice ax nx cx) x.tests):=hrow;have hxs:x.tests.length≤6:=(hL.one HW.out hso).1.1;clear hrow
    by_cases k13:t.kind=13
    ·have r13:(t.kind==13)=true:=by simpa using k13
     have r14:(t.kind==14)=false:=by rw[k13];rfl
     cases hxt:x.tag.isEmpty with
     | false=>
      as_aux_lemma=>
       subst hnx;have hb3:=qac w2 (.cells #[.string ⟨x.tag.toArray⟩,.slice ax x.tests.length cx] 67);have HG3:Hid (AddG A PP M N w3 (w2.alloc (.cells #[.string ⟨x.tag.toArray⟩,.slice ax x.tests.length cx] 67)) tp t au al cu dl):=(HG0.out.on hS hb2).on hS hb3;obtain⟨⟨b0,b1,b2,b3⟩,q0,q1,q2,q3,q4,q5⟩:=HG3.out.facts;obtain⟨v0,v1⟩:=f2 (heap_alloc_new w2 (.cells #[.string ⟨x.tag.toArray⟩,.slice ax x.tests.length cx] 67));have x3:=(f2 (hblk (hblk HX1a.out hb2) hb3)).2
       have HONE:Hid (∀u∈[.int .i64 t.kind,.string ⟨t.name.toArray⟩,.string ⟨t.value.toArray⟩,.int .i64 t.a,.int .i64 t.b,.slice al t.list.length dl],Value.oneCell' u=true):=by
        intro u hu;simp only[List.mem_cons,List.not_mem_nil,or_false]at hu
        rcases hu with rfl|rfl|rfl|rfl|rfl|rfl<;>rfl
       have HAT:Hid (Pl.addT L.only tp t (s.tests.length-k-1)=⟨tp.tag,tp.tests++[t]⟩):=Pl.addT_13 hso k13 (Pl.notOf_tag hxt);clear hb2 hb3 hso HC HRX k13
       go_wp2_with (with_reducible refine qcn 49 ?_)
       unfold Hid;generalize w2.alloc (.cells #[.string ⟨x.tag.toArray⟩,.slice ax x.tests.length cx] 67)=W at *
       iterate 9 (first|go_values|go_skip|go_guarded|go_step|go_upon)
       refine qaP 51 _ _ _ _ _ _ rfl ?_;refine qaQ (P:=PP) (B:=M+1) (qba hS) Tryz.underlying65 infT rfl (by decide) (by decide) (w2:=W) (v:=.slice au tp.tests.length cu) (l:=tp.tests) (x:=t) (news:=[.int .i64 t.kind,.string ⟨t.name.toArray⟩,.string ⟨t.value.toArray⟩,.int .i64 t.a,.int .i64 t.b,.slice al t.list.length dl]) ?_ (.tmp 50) (.tmp 52) ?_ ?_ ?_ HG3.out.made.row ⟨_,rfl,HG3.out.new⟩ HONE.out (by have:=HLN.out;omega) HG3.out.made.sz ?_ ?_
       ·rfl
       ·rfl
       ·rfl
       ·first|rfl|(simp[Act.eval];done)
       ·rw[HPP.out];have h1:=HG3.out.made.sz;have h2:=HMW.out;exact qcv (HP.out _ (by omega)) (by omega)
       intro g cap w7 hg7 hb7 _;clear b0 b1 b2 b3 q0 q1 q2 q3 q4 q5 v0 v1;have HPUT:=HG3.out.made.put hS (qac _ _) hb7 hg7;have z7:=HPUT.2.2.1;have zf7:=HPUT.2.2.2
       have HM7:Hid (∃au cu,qbA A PP M (w7.setCell ⟨M,1,none⟩ (.slice (some ⟨g,0,none⟩) (tp.tests.length+1) cap)) (Pl.qaA id L.only s (k+1)) (.slice au (Pl.qaA id L.only s (k+1)).tests.length cu)):=by
        unfold Hid;rw[HNX.out,HAT.out];refine⟨some ⟨g,0,none⟩,cap,?_⟩;rw[List.length_append];exact HPUT.1
       have HF7:Hid (FrA (M+1) M w3 _):=HG3.out.fr.trans HPUT.2.1;clear HPUT hg7 hb7 HG3;go_wp2;exact⟨⟨k+1,hlt,by go_num,HM7,HF7⟩,by simp[intOf];omega⟩
     | true=>
      by_cases hx1:x.tests.length=1
      ·obtain⟨xg,xts⟩:=x
       obtain⟨t1,rfl⟩:∃t1,xts=[t1]:=by
        match xts,hx1 with
        | [t1],_=>exact⟨t1,rfl⟩
       replace hxt:xg.isEmpty=true:=hxt;replace hso:L.only t.list=some ⟨xg,[t1]⟩:=hso;obtain rfl:nx=1:=by rw[←hnx];rfl
       replace HRX:Hid (qaf (qaF A) 6 (mask (Off PP (.slice au tp.tests.length cu)) wa) (.slice ax 1 cx) [t1]):=HRX;clear hx1 hxs hnx;obtain⟨-,b5,o5,rfl,-⟩:=qaf.at HRX.out (by simp)
       by_cases hk1:t1.kind=13
       ·as_aux_lemma=>
        have hb3:=qac w2 (.cells #[.string ⟨xg.toArray⟩,.slice (some ⟨b5,o5,none⟩) 1 cx] 67);have HG3:Hid (AddG A PP M N w3 (w2.alloc (.cells #[.string ⟨xg.toArray⟩,.slice (some ⟨b5,o5,none⟩) 1 cx] 67)) tp t au al cu dl):=(HG0.out.on hS hb2).on hS hb3;obtain⟨⟨b0,b1,b2,b3⟩,q0,q1,q2,q3,q4,q5⟩:=HG3.out.facts;obtain⟨v0,v1⟩:=f2 (heap_alloc_new w2 (.cells #[.string ⟨xg.toArray⟩,.slice (some ⟨b5,o5,none⟩) 1 cx] 67));have x3:=(f2 (hblk (hblk HX1a.out hb2) hb3)).2
        have HONE:Hid (∀u∈[.int .i64 t.kind,.string ⟨t.name.toArray⟩,.string ⟨t.value.toArray⟩,.int .i64 t.a,.int .i64 t.b,.slice al t.list.length dl],Value.oneCell' u=true):=by
         intro u hu;simp only[List.mem_cons,List.not_mem_nil,or_false]at hu
         rcases hu with rfl|rfl|rfl|rfl|rfl|rfl<;>rfl
        have HAT:Hid (Pl.addT L.only tp t (s.tests.length-k-1)=⟨tp.tag,tp.tests++[⟨14,[],[],0,0,t1.list⟩]⟩):=Pl.addT_not hso k13 (Pl.notOf_yes rfl hxt hk1);have HR3:qaf (qaF A) 6 (mask (Off PP (.slice au tp.tests.length cu)) (w2.alloc (.cells #[.string ⟨xg.toArray⟩,.slice (some ⟨b5,o5,none⟩) 1 cx] 67))) (.slice (some ⟨b5,o5,none⟩) 1 cx) [t1]:=HRX.out.map fun _ _ _ hq=>hq.sub hS (qaY (qaa hb2 hb3))
        obtain⟨-,b5',o5',e5,hc5⟩:=qaf.at HR3 (by simp);injection e5 with e5;injection e5 with e5 e6 _;subst e5 e6;obtain⟨vv,y0,-,-,-,-,y5,hml⟩:=hc5 0 (by simp);obtain⟨a1,d1,rfl,-⟩:=hA.form hml;have hoff:=(qah.1 y5).1;replace y0:=(qah.1 y0).2;replace y5:=(qah.1 y5).2;simp only[Nat.zero_mul,Nat.add_zero,List.getElem_cons_zero]at y0 y5 hml
        have HNE:Hid ((.slice au tp.tests.length cu:Value).ownBlock≠some w2.heap.size∧(.slice au tp.tests.length cu:Value).ownBlock≠some b5):=by
         refine⟨fun h=>?_,fun h=>?_⟩
         ·have h1:=(HG0.out.on hS hb2).made.row.lt _ h;omega
         ·unfold Off at hoff;rw[h]at hoff;simp at hoff
        have HNM:Hid ((M:Nat)≠w2.heap.size∧M≠b5):=by
         refine⟨?_,?_⟩
         ·have h1:=(HG0.out.on hS hb2).made.sz;omega
         ·rintro rfl;unfold Off at hoff;rw[HG0.out.made.out]at hoff
          cases hoff
        clear hoff;have rk:(t1.kind==13)=true:=by simpa using hk1
        have HML:Hid (A (mask (Off PP (.slice au tp.tests.length cu)) (w2.alloc (.cells #[.string ⟨xg.toArray⟩,.slice (some ⟨b5,o5,none⟩) 1 cx] 67))) (.slice a1 t1.list.length d1) t1.list):=hml;clear hb2 hb3 hso HC HRX hc5 hml HR3 k13 hk1
        go_wp2_with (with_reducible refine qcn 34 ?_)
        unfold Hid;generalize w2.alloc (.cells #[.string ⟨xg.toArray⟩,.slice (some ⟨b5,o5,none⟩) 1 cx] 67)=W at *
        go_wp2_with (fail)
        have HGD:Hid (AddG A PP M N w3 W.drew tp t au al cu dl):=HG3.out.drew hS;have b1a:=qab (qac W (.cells #[.int .i64 14,.string ⟨#[]⟩,.string ⟨#[]⟩,.int .i64 0,.int .i64 0,.slice a1 t1.list.length d1] 71)) b1;have HB1B:Hid ((W.alloc (.cells #[.int .i64 14,.string ⟨#[]⟩,.string ⟨#[]⟩,.int .i64 0,.int .i64 0,.slice a1 t1.list.length d1] 71)).cell? ⟨M,1,none⟩=some (.slice au tp.tests.length cu)):=b1a;have b0':W.drew.cell? ⟨M,0,none⟩=_:=b0;have b1':W.drew.cell? ⟨M,1,none⟩=_:=b1;have b3':W.drew.frozen? ⟨M,1,none⟩=_:=b3;have v1':W.drew.cell? ⟨w2.heap.size,1,none⟩=_:=v1;have y5':W.drew.cell? ⟨b5,o5+5,none⟩=_:=y5;clear b0 b1 b2 b3 q0 q1 q2 q3 q4 q5 v0 v1 y0 y5 x3 HG3;have HBZ:Hid (M+1≤W.drew.heap.size):=HGD.out.made.sz
        have HPH:Hid (PP (W.drew.heap.size+1)=true):=by
         unfold Hid;rw[HPP.out];have h1:=HBZ.out;have h2:=HMW.out;exact qcv (HP.out _ (by omega)) (by omega)
        have HONE2:Hid (∀u∈[.int .i64 14,.string ⟨#[]⟩,.string ⟨#[]⟩,.int .i64 0,.int .i64 0,.slice a1 t1.list.length d1],Value.oneCell' u=true):=by
         intro u hu;simp only[List.mem_cons,List.not_mem_nil,or_false]at hu
         rcases hu with rfl|rfl|rfl|rfl|rfl|rfl<;>rfl
        have HL64:Hid (tp.tests.length+1≤64):=by unfold Hid;omega
        have HNW:Hid (VT A (mask (Off PP (.slice au tp.tests.length cu)) W.drew) [.int .i64 14,.string ⟨#[]⟩,.string ⟨#[]⟩,.int .i64 0,.int .i64 0,.slice a1 t1.list.length d1] ⟨14,[],[],0,0,t1.list⟩):=⟨_,rfl,hS.sub HML.out (qam fun _ hj _=>⟨hj,rfl⟩)⟩
        have HB1A:Hid ((W.drew.alloc (.cells #[.int .i64 14,.string ⟨#[]⟩,.string ⟨#[]⟩,.int .i64 0,.int .i64 0,.slice a1 t1.list.length d1] 71)).cell? ⟨M,1,none⟩=some (.slice au tp.tests.length cu)):=qab (qac W.drew _) b1';have HS1:Hid ((W.drew.alloc (.cells #[.int .i64 14,.string ⟨#[]⟩,.string ⟨#[]⟩,.int .i64 0,.int .i64 0,.slice a1 t1.list.length d1] 71)).cell? ⟨w2.heap.size,1,none⟩=some (.slice (some ⟨b5,o5,none⟩) 1 cx)∧(W.drew.alloc (.cells #[.int .i64 14,.string ⟨#[]⟩,.string ⟨#[]⟩,.int .i64 0,.int .i64 0,.slice a1 t1.list.length d1] 71)).cell? ⟨b5,o5+5,none⟩=some (.slice a1 t1.list.length d1)):=⟨qab (qac W.drew _) v1',qab (qac W.drew _) y5'⟩
        have S0:(fun w'=>w'.cell? ⟨w2.heap.size,1,none⟩=some (.slice (some ⟨b5,o5,none⟩) 1 cx)∧w'.cell? ⟨b5,o5+5,none⟩=some (.slice a1 t1.list.length d1)) W.drew:=⟨v1',y5'⟩
        clear v1' y5' b0' b3' b1a;refine wp_region_held_drew (S:=(fun w'=>w'.cell? ⟨w2.heap.size,1,none⟩=some (.slice (some ⟨b5,o5,none⟩) 1 cx)∧w'.cell? ⟨b5,o5+5,none⟩=some (.slice a1 t1.list.length d1))) (by kernel_rfl) S0 (fun hHeld=>?_);have HS0:Hid _:=S0;clear S0;refine wpAnyH_take (i:=0) (oi:=(⟨some 81,.fieldAddr 67 (.tmp 3) 1,0, "match.go:309",#[],none⟩:Oper)) (v:=?_) rfl (by kernel_rfl) (by kernel_rfl) (by kernel_rfl) (fun _ _ _ h=>h) (Or.inl ⟨by rfl,?_⟩) (by assumption) ?_;rotate_left
        ·intro w9 hSw
         (try dsimp only at hSw)
         go_simp
         all_goals (with_reducible rfl)
        try simp only[Act.put,zsa,zs0,zs1]
        refine wpAnyH_take (i:=2) (oi:=(⟨some 83,.fieldAddr 67 (.tmp 6) 1,0, "match.go:309",#[],none⟩:Oper)) (v:=?_) rfl (by kernel_rfl) (by kernel_rfl) (by kernel_rfl) (fun _ _ _ h=>h) (Or.inl ⟨by rfl,?_⟩) (by assumption) ?_;rotate_left
        ·intro w9 hSw
         (try dsimp only at hSw)
         go_simp
         all_goals (with_reducible rfl)
        try simp only[Act.put,zsa,zs0,zs1]
        refine wpAnyH_take (i:=3) (oi:=(⟨some 84,.load 65 (.tmp 83),65, "match.go:309",#[⟨2,.data⟩],none⟩:Oper)) (v:=?_) rfl (by kernel_rfl) (by kernel_rfl) (by kernel_rfl) (fun _ _ _ h=>h) (Or.inl ⟨by rfl,?_⟩) (by assumption) ?_;rotate_left
        ·intro w9 hSw
         (try dsimp only at hSw)
         go_simp
         all_goals (with_reducible rfl)
        try simp only[Act.put,zsa,zs0,zs1]
        refine wpAnyH_take (i:=4) (oi:=(⟨some 85,.indexAddr 65 (.tmp 84) (.const (Value.int IntKind.i64 0)),0, "match.go:309",#[⟨3,.data⟩],none⟩:Oper)) (v:=?_) rfl (by kernel_rfl) (by kernel_rfl) (by kernel_rfl) (fun _ _ _ h=>h) (Or.inl ⟨by rfl,?_⟩) (by assumption) ?_;rotate_left
        ·intro w9 hSw
         (try dsimp only at hSw)
         go_simp
         all_goals (with_reducible rfl)
        try simp only[Act.put,zsa,zs0,zs1]
        refine wpAnyH_take (i:=5) (oi:=(⟨some 86,.fieldAddr 71 (.tmp 85) 4,0, "match.go:309",#[⟨4,.data⟩],none⟩:Oper)) (v:=?_) rfl (by kernel_rfl) (by kernel_rfl) (by kernel_rfl) (fun _ _ _ h=>h) (Or.inl ⟨by rfl,?_⟩) (by assumption) ?_;rotate_left
        ·intro w9 hSw
         (try dsimp only at hSw)
         go_simp
         all_goals (with_reducible rfl)
        try simp only[Act.put,zsa,zs0,zs1]
        refine wpAnyH_take (i:=6) (oi:=(⟨some 87,.load 29 (.tmp 86),29, "match.go:309",#[⟨5,.data⟩],none⟩:Oper)) (v:=?_) rfl (by kernel_rfl) (by kernel_rfl) (by kernel_rfl) (fun _ _ _ h=>h) (Or.inl ⟨by rfl,?_⟩) (by assumption) ?_;rotate_left
        ·intro w9 hSw
         (try dsimp only at hSw)
         go_simp
         all_goals (with_reducible rfl)
        try simp only[Act.put,zsa,zs0,zs1]
        refine wpAnyH_take (i:=7) (oi:=(⟨some 88,.build 71 #[(0,.const (Value.int IntKind.i64 14)),(4,.tmp 87)],71, "match.go:309",#[⟨6,.data⟩],none⟩:Oper)) (v:=?_) rfl (by kernel_rfl) (by kernel_rfl) (by kernel_rfl) (fun _ _ _ h=>h) (Or.inl ⟨by rfl,?_⟩) (by assumption) ?_;rotate_left
        ·intro w9 hSw
         (try dsimp only at hSw)
         go_simp
         all_goals (with_reducible rfl)
        try simp only[Act.put,zsa,zs0,zs1]
        refine wpAnyH_ready (rs:=[1,8]) (by kernel_rfl) (by simp) ?_;refine AllReadyH.cons (o:=(⟨some 82,.load 65 (.tmp 81),65, "match.go:309",#[⟨0,.data⟩],none⟩:Oper)) rfl (fun K hK=>?_) (AllReadyH.cons (o:=(⟨some 89,.buildSlice 65 1 #[(0,.tmp 88)],65, "match.go:309",#[⟨7,.data⟩],none⟩:Oper)) rfl (fun K hK=>?_) AllReadyH.nil)
        ·go_simp;refine hK.out _ _ HS0.out (fun hHeld1=>?_);clear hK K hHeld
         try simp only[Act.put,zsa,zs0,zs1]
         refine wpAnyH_ready (rs:=[8]) (by kernel_rfl) (by simp) ?_;refine AllReadyH.cons (o:=(⟨some 89,.buildSlice 65 1 #[(0,.tmp 88)],65, "match.go:309",#[⟨7,.data⟩],none⟩:Oper)) rfl (fun K hK=>?_) AllReadyH.nil;refine qgp 88 (.int .i64 14) (.string ⟨#[]⟩) (.string ⟨#[]⟩) (.int .i64 0) (.int .i64 0) (.slice a1 t1.list.length d1) rfl rfl rfl ?_;refine hK.out _ _ HS1.out (fun hHeld2=>?_);clear hK K hHeld1
         try simp only[Act.put,zsa,zs0,zs1]
         refine wpAnyH_ready (rs:=[9]) (by kernel_rfl) (by simp) ?_;refine AllReadyH.cons (o:=(⟨some 90,.call { callee:=Callee.builtin Builtin.append,args:= #[.tmp 82,.tmp 89],argTypes:= #[65,65] },65, "match.go:309",#[⟨1,.data⟩,⟨8,.data⟩],none⟩:Oper)) rfl (fun K hK=>?_) AllReadyH.nil;refine qbS (P:=PP) (B:=M+1) (qba hS) Tryz.underlying65 infT rfl (by decide) (by decide) (w2:=W.drew) (v:=.slice au tp.tests.length cu) (l:=tp.tests) (x:=⟨14,[],[],0,0,t1.list⟩) (news:=[.int .i64 14,.string ⟨#[]⟩,.string ⟨#[]⟩,.int .i64 0,.int .i64 0,.slice a1 t1.list.length d1]) rfl (.tmp 82) (.tmp 89) rfl rfl rfl HGD.out.made.row HNW.out HONE2.out HL64.out HBZ.out HPH.out ?_;intro g cap w7 hrow' hgr _;have HPUT:=HGD.out.made.put hS (qac W.drew _) hgr hrow';have HS7:Hid ((fun w'=>w'.cell? ⟨w2.heap.size,1,none⟩=some (.slice (some ⟨b5,o5,none⟩) 1 cx)∧w'.cell? ⟨b5,o5+5,none⟩=some (.slice a1 t1.list.length d1)) w7):=⟨qdu hgr HS1.out.1 HNE.out.1,qdu hgr HS1.out.2 HNE.out.2⟩
         refine hK.out _ _ HS7.out (fun hHeld3=>?_);clear hK K hHeld2
         try simp only[Act.put,zsa,zs0,zs1]
         have z7:=HPUT.2.2.1;have zf7:=HPUT.2.2.2;refine wpAnyH_take (i:=10) (oi:=(⟨some 91,.fieldAddr 67 (.tmp 3) 1,0, "match.go:309",#[⟨0,.phase⟩,⟨1,.phase⟩,⟨2,.phase⟩,⟨3,.phase⟩,⟨4,.phase⟩,⟨5,.phase⟩,⟨6,.phase⟩,⟨7,.phase⟩,⟨8,.phase⟩,⟨9,.phase⟩],none⟩:Oper)) (v:=?_) rfl (by kernel_rfl) (by kernel_rfl) (by kernel_rfl) (fun _ _ _ h=>h) (Or.inl ⟨by rfl,?_⟩) (by assumption) ?_;rotate_left
         ·intro w9 hSw
          (try dsimp only at hSw)
          go_simp
          all_goals (with_reducible rfl)
         try simp only[Act.put,zsa,zs0,zs1]
         refine wpAnyH_ready (rs:=[11]) (by kernel_rfl) (by simp) ?_;refine AllReadyH.cons (o:=(⟨none,.store 65 (.tmp 91) (.tmp 90),0, "match.go:309",#[⟨10,.data⟩,⟨9,.data⟩,⟨9,.chain⟩,⟨0,.phase⟩,⟨1,.phase⟩,⟨2,.phase⟩,⟨3,.phase⟩,⟨4,.phase⟩,⟨5,.phase⟩,⟨6,.phase⟩,⟨7,.phase⟩,⟨8,.phase⟩,⟨9,.phase⟩],none⟩:Oper)) rfl (fun K hK=>?_) AllReadyH.nil;go_simp;refine hK.out _ _ ⟨by rw[World.cell?_setCell_far _ _ _ _ HNM.out.1];exact HS7.out.1,by rw[World.cell?_setCell_far _ _ _ _ HNM.out.2];exact HS7.out.2⟩ (fun hHeld4=>?_);clear hK K hHeld3
         try simp only[Act.put,zsa,zs0,zs1]
         refine wpAnyH_done (by kernel_rfl) ?_ _;clear hHeld4
         have HM7:Hid (∃au cu,qbA A PP M (w7.setCell ⟨M,1,none⟩ (.slice (some ⟨g,0,none⟩) (tp.tests.length+1) cap)) (Pl.qaA id L.only s (k+1)) (.slice au (Pl.qaA id L.only s (k+1)).tests.length cu)):=by
          unfold Hid;rw[HNX.out,HAT.out];refine⟨some ⟨g,0,none⟩,cap,?_⟩;rw[List.length_append];exact HPUT.1
         have HF7:Hid (FrA (M+1) M w3 _):=HGD.out.fr.trans HPUT.2.1;clear HPUT hrow' hgr z7 zf7;go_wp2;exact⟨⟨k+1,hlt,by go_num,HM7,HF7⟩,by simp[intOf];omega⟩
        ·refine qgp 88 (.int .i64 14) (.string ⟨#[]⟩) (.string ⟨#[]⟩) (.int .i64 0) (.int .i64 0) (.slice a1 t1.list.length d1) rfl rfl rfl ?_;refine hK.out _ _ HS1.out (fun hHeld1=>?_);clear hK K hHeld
         try simp only[Act.put,zsa,zs0,zs1]
         refine wpAnyH_ready (rs:=[1]) (by kernel_rfl) (by simp) ?_;refine AllReadyH.cons (o:=(⟨some 82,.load 65 (.tmp 81),65, "match.go:309",#[⟨0,.data⟩],none⟩:Oper)) rfl (fun K hK=>?_) AllReadyH.nil;have b1b:=HB1A.out;have b1c:=HB1B.out;go_simp;refine hK.out _ _ HS1.out (fun hHeld2=>?_);clear hK K hHeld1 b1b b1c
         try simp only[Act.put,zsa,zs0,zs1]
         refine wpAnyH_ready (rs:=[9]) (by kernel_rfl) (by simp) ?_;refine AllReadyH.cons (o:=(⟨some 90,.call { callee:=Callee.builtin Builtin.append,args:= #[.tmp 82,.tmp 89],argTypes:= #[65,65] },65, "match.go:309",#[⟨1,.data⟩,⟨8,.data⟩],none⟩:Oper)) rfl (fun K hK=>?_) AllReadyH.nil;refine qbS (P:=PP) (B:=M+1) (qba hS) Tryz.underlying65 infT rfl (by decide) (by decide) (w2:=W.drew) (v:=.slice au tp.tests.length cu) (l:=tp.tests) (x:=⟨14,[],[],0,0,t1.list⟩) (news:=[.int .i64 14,.string ⟨#[]⟩,.string ⟨#[]⟩,.int .i64 0,.int .i64 0,.slice a1 t1.list.length d1]) rfl (.tmp 82) (.tmp 89) rfl rfl rfl HGD.out.made.row HNW.out HONE2.out HL64.out HBZ.out HPH.out ?_;intro g cap w7 hrow' hgr _;have HPUT:=HGD.out.made.put hS (qac W.drew _) hgr hrow';have HS7:Hid ((fun w'=>w'.cell? ⟨w2.heap.size,1,none⟩=some (.slice (some ⟨b5,o5,none⟩) 1 cx)∧w'.cell? ⟨b5,o5+5,none⟩=some (.slice a1 t1.list.length d1)) w7):=⟨qdu hgr HS1.out.1 HNE.out.1,qdu hgr HS1.out.2 HNE.out.2⟩
         refine hK.out _ _ HS7.out (fun hHeld3=>?_);clear hK K hHeld2
         try simp only[Act.put,zsa,zs0,zs1]
         have z7:=HPUT.2.2.1;have zf7:=HPUT.2.2.2;refine wpAnyH_take (i:=10) (oi:=(⟨some 91,.fieldAddr 67 (.tmp 3) 1,0, "match.go:309",#[⟨0,.phase⟩,⟨1,.phase⟩,⟨2,.phase⟩,⟨3,.phase⟩,⟨4,.phase⟩,⟨5,.phase⟩,⟨6,.phase⟩,⟨7,.phase⟩,⟨8,.phase⟩,⟨9,.phase⟩],none⟩:Oper)) (v:=?_) rfl (by kernel_rfl) (by kernel_rfl) (by kernel_rfl) (fun _ _ _ h=>h) (Or.inl ⟨by rfl,?_⟩) (by assumption) ?_;rotate_left
         ·intro w9 hSw
          (try dsimp only at hSw)
          go_simp
          all_goals (with_reducible rfl)
         try simp only[Act.put,zsa,zs0,zs1]
         refine wpAnyH_ready (rs:=[11]) (by kernel_rfl) (by simp) ?_;refine AllReadyH.cons (o:=(⟨none,.store 65 (.tmp 91) (.tmp 90),0, "match.go:309",#[⟨10,.data⟩,⟨9,.data⟩,⟨9,.chain⟩,⟨0,.phase⟩,⟨1,.phase⟩,⟨2,.phase⟩,⟨3,.phase⟩,⟨4,.phase⟩,⟨5,.phase⟩,⟨6,.phase⟩,⟨7,.phase⟩,⟨8,.phase⟩,⟨9,.phase⟩],none⟩:Oper)) rfl (fun K hK=>?_) AllReadyH.nil;go_simp;refine hK.out _ _ ⟨by rw[World.cell?_setCell_far _ _ _ _ HNM.out.1];exact HS7.out.1,by rw[World.cell?_setCell_far _ _ _ _ HNM.out.2];exact HS7.out.2⟩ (fun hHeld4=>?_);clear hK K hHeld3
         try simp only[Act.put,zsa,zs0,zs1]
         refine wpAnyH_done (by kernel_rfl) ?_ _;clear hHeld4
         have HM7:Hid (∃au cu,qbA A PP M (w7.setCell ⟨M,1,none⟩ (.slice (some ⟨g,0,none⟩) (tp.tests.length+1) cap)) (Pl.qaA id L.only s (k+1)) (.slice au (Pl.qaA id L.only s (k+1)).tests.length cu)):=by
          unfold Hid;rw[HNX.out,HAT.out];refine⟨some ⟨g,0,none⟩,cap,?_⟩;rw[List.length_append];exact HPUT.1
         have HF7:Hid (FrA (M+1) M w3 _):=HGD.out.fr.trans HPUT.2.1;clear HPUT hrow' hgr z7 zf7;go_wp2;exact⟨⟨k+1,hlt,by go_num,HM7,HF7⟩,by simp[intOf];omega⟩
       ·as_aux_lemma=>
        have hb3:=qac w2 (.cells #[.string ⟨xg.toArray⟩,.slice (some ⟨b5,o5,none⟩) 1 cx] 67);have HG3:Hid (AddG A PP M N w3 (w2.alloc (.cells #[.string ⟨xg.toArray⟩,.slice (some ⟨b5,o5,none⟩) 1 cx] 67)) tp t au al cu dl):=(HG0.out.on hS hb2).on hS hb3;obtain⟨⟨b0,b1,b2,b3⟩,q0,q1,q2,q3,q4,q5⟩:=HG3.out.facts;obtain⟨v0,v1⟩:=f2 (heap_alloc_new w2 (.cells #[.string ⟨xg.toArray⟩,.slice (some ⟨b5,o5,none⟩) 1 cx] 67));have x3:=(f2 (hblk (hblk HX1a.out hb2) hb3)).2
        have HONE:Hid (∀u∈[.int .i64 t.kind,.string ⟨t.name.toArray⟩,.string ⟨t.value.toArray⟩,.int .i64 t.a,.int .i64 t.b,.slice al t.list.length dl],Value.oneCell' u=true):=by
         intro u hu;simp only[List.mem_cons,List.not_mem_nil,or_false]at hu
         rcases hu with rfl|rfl|rfl|rfl|rfl|rfl<;>rfl
        have HR3:qaf (qaF A) 6 (mask (Off PP (.slice au tp.tests.length cu)) (w2.alloc (.cells #[.string ⟨xg.toArray⟩,.slice (some ⟨b5,o5,none⟩) 1 cx] 67))) (.slice (some ⟨b5,o5,none⟩) 1 cx) [t1]:=HRX.out.map fun _ _ _ hq=>hq.sub hS (qaY (qaa hb2 hb3))
        obtain⟨-,b5',o5',e5,hc5⟩:=qaf.at HR3 (by simp);injection e5 with e5;injection e5 with e5 e6 _;subst e5 e6;obtain⟨vv,y0,-,-,-,-,y5,hml⟩:=hc5 0 (by simp);obtain⟨a1,d1,rfl,-⟩:=hA.form hml;have hoff:=(qah.1 y5).1;replace y0:=(qah.1 y0).2;replace y5:=(qah.1 y5).2;simp only[Nat.zero_mul,Nat.add_zero,List.getElem_cons_zero]at y0 y5 hml;have HAT:Hid (Pl.addT L.only tp t (s.tests.length-k-1)=⟨tp.tag,tp.tests++[t]⟩):=Pl.addT_13 hso k13 (Pl.notOf_kind rfl hk1);have rk:(t1.kind==13)=false:=by simpa using hk1
        clear hb2 hb3 hso HC HRX hc5 hml HR3 k13 hk1 y5 hoff
        go_wp2_with (with_reducible refine qcn 34 ?_)
        unfold Hid;generalize w2.alloc (.cells #[.string ⟨xg.toArray⟩,.slice (some ⟨b5,o5,none⟩) 1 cx] 67)=W at *
        go_wp2_with (with_reducible refine qcn 49 ?_)
        unfold Hid
        iterate 9 (first|go_values|go_skip|go_guarded|go_step|go_upon)
        refine qaP 51 _ _ _ _ _ _ rfl ?_;refine qaQ (P:=PP) (B:=M+1) (qba hS) Tryz.underlying65 infT rfl (by decide) (by decide) (w2:=W) (v:=.slice au tp.tests.length cu) (l:=tp.tests) (x:=t) (news:=[.int .i64 t.kind,.string ⟨t.name.toArray⟩,.string ⟨t.value.toArray⟩,.int .i64 t.a,.int .i64 t.b,.slice al t.list.length dl]) ?_ (.tmp 50) (.tmp 52) ?_ ?_ ?_ HG3.out.made.row ⟨_,rfl,HG3.out.new⟩ HONE.out (by have:=HLN.out;omega) HG3.out.made.sz ?_ ?_
        ·rfl
        ·rfl
        ·rfl
        ·first|rfl|(simp[Act.eval];done)
        ·rw[HPP.out];have h1:=HG3.out.made.sz;have h2:=HMW.out;exact qcv (HP.out _ (by omega)) (by omega)
        intro g cap w7 hg7 hb7 _;clear b0 b1 b2 b3 q0 q1 q2 q3 q4 q5 v0 v1;have HPUT:=HG3.out.made.put hS (qac _ _) hb7 hg7;have z7:=HPUT.2.2.1;have zf7:=HPUT.2.2.2
        have HM7:Hid (∃au cu,qbA A PP M (w7.setCell ⟨M,1,none⟩ (.slice (some ⟨g,0,none⟩) (tp.tests.length+1) cap)) (Pl.qaA id L.only s (k+1)) (.slice au (Pl.qaA id L.only s (k+1)).tests.length cu)):=by
         unfold Hid;rw[HNX.out,HAT.out];refine⟨some ⟨g,0,none⟩,cap,?_⟩;rw[List.length_append];exact HPUT.1
        have HF7:Hid (FrA (M+1) M w3 _):=HG3.out.fr.trans HPUT.2.1;clear HPUT hg7 hb7 HG3;go_wp2;exact⟨⟨k+1,hlt,by go_num,HM7,HF7⟩,by simp[intOf];omega⟩
      ·as_aux_lemma=>
       subst hnx;have hb3:=qac w2 (.cells #[.string ⟨x.tag.toArray⟩,.slice ax x.tests.length cx] 67);have HG3:Hid (AddG A PP M N w3 (w2.alloc (.cells #[.string ⟨x.tag.toArray⟩,.slice ax x.tests.length cx] 67)) tp t au al cu dl):=(HG0.out.on hS hb2).on hS hb3;obtain⟨⟨b0,b1,b2,b3⟩,q0,q1,q2,q3,q4,q5⟩:=HG3.out.facts;obtain⟨v0,v1⟩:=f2 (heap_alloc_new w2 (.cells #[.string ⟨x.tag.toArray⟩,.slice ax x.tests.length cx] 67));have x3:=(f2 (hblk (hblk HX1a.out hb2) hb3)).2
       have HONE:Hid (∀u∈[.int .i64 t.kind,.string ⟨t.name.toArray⟩,.string ⟨t.value.toArray⟩,.int .i64 t.a,.int .i64 t.b,.slice al t.list.length dl],Value.oneCell' u=true):=by
        intro u hu;simp only[List.mem_cons,List.not_mem_nil,or_false]at hu
        rcases hu with rfl|rfl|rfl|rfl|rfl|rfl<;>rfl
       have rl:((x.tests.length:Int)==1)=false:=by simp;omega
       have HAT:Hid (Pl.addT L.only tp t (s.tests.length-k-1)=⟨tp.tag,tp.tests++[t]⟩):=Pl.addT_13 hso k13 (Pl.notOf_len hx1);clear hb2 hb3 hso HC HRX k13
       go_wp2_with (with_reducible refine qcn 49 ?_)
       unfold Hid;generalize w2.alloc (.cells #[.string ⟨x.tag.toArray⟩,.slice ax x.tests.length cx] 67)=W at *
       iterate 9 (first|go_values|go_skip|go_guarded|go_step|go_upon)
       refine qaP 51 _ _ _ _ _ _ rfl ?_;refine qaQ (P:=PP) (B:=M+1) (qba hS) Tryz.underlying65 infT rfl (by decide) (by decide) (w2:=W) (v:=.slice au tp.tests.length cu) (l:=tp.tests) (x:=t) (news:=[.int .i64 t.kind,.string ⟨t.name.toArray⟩,.string ⟨t.value.toArray⟩,.int .i64 t.a,.int .i64 t.b,.slice al t.list.length dl]) ?_ (.tmp 50) (.tmp 52) ?_ ?_ ?_ HG3.out.made.row ⟨_,rfl,HG3.out.new⟩ HONE.out (by have:=HLN.out;omega) HG3.out.made.sz ?_ ?_
       ·rfl
       ·rfl
       ·rfl
       ·first|rfl|(simp[Act.eval];done)
       ·rw[HPP.out];have h1:=HG3.out.made.sz;have h2:=HMW.out;exact qcv (HP.out _ (by omega)) (by omega)
       intro g cap w7 hg7 hb7 _;clear b0 b1 b2 b3 q0 q1 q2 q3 q4 q5 v0 v1;have HPUT:=HG3.out.made.put hS (qac _ _) hb7 hg7;have z7:=HPUT.2.2.1;have zf7:=HPUT.2.2.2
       have HM7:Hid (∃au cu,qbA A PP M (w7.setCell ⟨M,1,none⟩ (.slice (some ⟨g,0,none⟩) (tp.tests.length+1) cap)) (Pl.qaA id L.only s (k+1)) (.slice au (Pl.qaA id L.only s (k+1)).tests.length cu)):=by
        unfold Hid;rw[HNX.out,HAT.out];refine⟨some ⟨g,0,none⟩,cap,?_⟩;rw[List.length_append];exact HPUT.1
       have HF7:Hid (FrA (M+1) M w3 _):=HG3.out.fr.trans HPUT.2.1;clear HPUT hg7 hb7 HG3;go_wp2;exact⟨⟨k+1,hlt,by go_num,HM7,HF7⟩,by simp[intOf];omega⟩
    ·have r13:(t.kind==13)=false:=by simpa using k13
     by_cases k14:t.kind=14
     ·have r14:(t.kind==14)=true:=by simpa using k14
      by_cases hfit:tp.tests.length+x.tests.length+(s.tests.length-k-1)≤6
      ·cases hxt:x.tag.isEmpty with
       | true=>
        cases ht:tp.tag.isEmpty with
        | true=>
         as_aux_lemma=>
          subst hnx;have hb3:=qac w2 (.cells #[.string ⟨x.tag.toArray⟩,.slice ax x.tests.length cx] 67);have HG3:Hid (AddG A PP M N w3 (w2.alloc (.cells #[.string ⟨x.tag.toArray⟩,.slice ax x.tests.length cx] 67)) tp t au al cu dl):=(HG0.out.on hS hb2).on hS hb3;obtain⟨⟨b0,b1,b2,b3⟩,q0,q1,q2,q3,q4,q5⟩:=HG3.out.facts;obtain⟨v0,v1⟩:=f2 (heap_alloc_new w2 (.cells #[.string ⟨x.tag.toArray⟩,.slice ax x.tests.length cx] 67));have x3:=(f2 (hblk (hblk HX1a.out hb2) hb3)).2
          have HONE:Hid (∀u∈[.int .i64 t.kind,.string ⟨t.name.toArray⟩,.string ⟨t.value.toArray⟩,.int .i64 t.a,.int .i64 t.b,.slice al t.list.length dl],Value.oneCell' u=true):=by
           intro u hu;simp only[List.mem_cons,List.not_mem_nil,or_false]at hu
           rcases hu with rfl|rfl|rfl|rfl|rfl|rfl<;>rfl
          have g1:IntKind.i64.wrap ((tp.tests.length:Int)+(x.tests.length:Int))=(tp.tests.length:Int)+(x.tests.length:Int):=IntWalk.i64_in _ ⟨by omega,by omega⟩;have g2:IntKind.i64.wrap ((tp.tests.length:Int)+(x.tests.length:Int)+(s.tests.length:Int))=(tp.tests.length:Int)+(x.tests.length:Int)+(s.tests.length:Int):=IntWalk.i64_in _ ⟨by omega,by omega⟩;have g3:IntKind.i64.wrap ((tp.tests.length:Int)+(x.tests.length:Int)+(s.tests.length:Int)-(k:Int))=(tp.tests.length:Int)+(x.tests.length:Int)+(s.tests.length:Int)-(k:Int):=IntWalk.i64_in _ ⟨by omega,by omega⟩;have g4:IntKind.i64.wrap ((tp.tests.length:Int)+(x.tests.length:Int)+(s.tests.length:Int)-(k:Int)-1)=(tp.tests.length:Int)+(x.tests.length:Int)+(s.tests.length:Int)-(k:Int)-1:=IntWalk.i64_in _ ⟨by omega,by omega⟩;have gf:decide ((tp.tests.length:Int)+(x.tests.length:Int)+(s.tests.length:Int)-(k:Int)-1≤6)=true:=decide_eq_true (by omega);have htog:Pl.together tp.tag x.tag=true:=by unfold Pl.together;rw[ht];rfl
          have HAT:Hid (Pl.addT L.only tp t (s.tests.length-k-1)=⟨x.tag,tp.tests++x.tests⟩):=by
           unfold Hid;rw[Pl.qhu hso k13 ⟨k14,htog,by omega⟩];rw[if_pos (List.isEmpty_iff.1 ht)]
          have HL64:Hid (tp.tests.length+x.tests.length≤64):=by unfold Hid;omega
          have HM4:Hid (qbA A PP M ((w2.alloc (.cells #[.string ⟨x.tag.toArray⟩,.slice ax x.tests.length cx] 67)).setCell ⟨M,0,none⟩ (.string ⟨x.tag.toArray⟩)) ⟨x.tag,tp.tests⟩ (.slice au tp.tests.length cu)):=HG3.out.made.tag hS x.tag;have HF4:Hid (FrA (M+1) M w3 ((w2.alloc (.cells #[.string ⟨x.tag.toArray⟩,.slice ax x.tests.length cx] 67)).setCell ⟨M,0,none⟩ (.string ⟨x.tag.toArray⟩))):=HG3.out.fr.set 0 _
          have HRX4:Hid (qaf (qaF A) 6 (mask (Off PP (.slice au tp.tests.length cu)) ((w2.alloc (.cells #[.string ⟨x.tag.toArray⟩,.slice ax x.tests.length cx] 67)).setCell ⟨M,0,none⟩ (.string ⟨x.tag.toArray⟩))) (.slice ax x.tests.length cx) x.tests):=HRX.out.map fun _ _ _ hq=>(hq.sub hS (qaY (qaa hb2 hb3))).sub hS (qam fun j hj _=>⟨hj,Below.heap_setCell _ _ _ _ (by
           show j≠M
           rintro rfl;unfold Off at hj;rw[HG3.out.made.out]at hj
           cases hj)⟩)
          have y1:((w2.alloc (.cells #[.string ⟨x.tag.toArray⟩,.slice ax x.tests.length cx] 67)).setCell ⟨M,0,none⟩ (.string ⟨x.tag.toArray⟩)).cell? ⟨w2.heap.size,1,none⟩=some (.slice ax x.tests.length cx):=by
           rw[World.cell?_setCell_other _ _ _ _ (by intro e;injection e with e1 _ _;have:=(HG0.out.on hS hb2).made.sz;omega)];exact v1
          have m1:=(qcd HM4.out.box).2.1;clear hb2 hb3 hso HC HRX HG3 htog;have hr13:=r13;have hr14:=r14;clear k13 k14 hfit
          go_wp2_with (with_reducible refine qcn 125 ?_)
          unfold Hid;clear b0 b2 b3 q0 q1 q2 q3 q4 q5 v0;generalize (w2.alloc (.cells #[.string ⟨x.tag.toArray⟩,.slice ax x.tests.length cx] 67)).setCell ⟨M,0,none⟩ (.string ⟨x.tag.toArray⟩)=W at *
          iterate 12 (first|go_values|go_skip|go_guarded|go_step|go_upon)
          refine qd5 hA hS (P:=PP) (B:=M+1) (W:=W) (ts:=tp.tests) (ms:=x.tests) ?_ (.tmp 126) (.tmp 128) ?_ ?_ ?_ HM4.out.row HRX4.out HL64.out HM4.out.sz ?_ ?_
          ·rfl
          ·rfl
          ·rfl
          ·rfl
          ·rw[HPP.out];have h1:=HM4.out.sz;have h2:=HMW.out;exact qcv (HP.out _ (by omega)) (by omega)
          intro g cap w7 hg7 hb7;clear y1 m1;have HPUT:=HM4.out.put hS (Below.refl _ _) hb7 hg7;have z7:=HPUT.2.2.1;have zf7:=HPUT.2.2.2
          have HM7:Hid (∃au cu,qbA A PP M (w7.setCell ⟨M,1,none⟩ (.slice g (tp.tests.length+x.tests.length) cap)) (Pl.qaA id L.only s (k+1)) (.slice au (Pl.qaA id L.only s (k+1)).tests.length cu)):=by
           unfold Hid;rw[HNX.out,HAT.out];refine⟨g,cap,?_⟩;rw[List.length_append];exact HPUT.1
          have HF7:Hid (FrA (M+1) M w3 _):=HF4.out.trans HPUT.2.1;clear HPUT hg7 hb7;go_wp2;exact⟨⟨k+1,hlt,by go_num,HM7,HF7⟩,by simp[intOf];omega⟩
        | false=>
         as_aux_lemma=>
          subst hnx;have hb3:=qac w2 (.cells #[.string ⟨x.tag.toArray⟩,.slice ax x.tests.length cx] 67);have HG3:Hid (AddG A PP M N w3 (w2.alloc (.cells #[.string ⟨x.tag.toArray⟩,.slice ax x.tests.length cx] 67)) tp t au al cu dl):=(HG0.out.on hS hb2).on hS hb3;obtain⟨⟨b0,b1,b2,b3⟩,q0,q1,q2,q3,q4,q5⟩:=HG3.out.facts;obtain⟨v0,v1⟩:=f2 (heap_alloc_new w2 (.cells #[.string ⟨x.tag.toArray⟩,.slice ax x.tests.length cx] 67));have x3:=(f2 (hblk (hblk HX1a.out hb2) hb3)).2
          have HONE:Hid (∀u∈[.int .i64 t.kind,.string ⟨t.name.toArray⟩,.string ⟨t.value.toArray⟩,.int .i64 t.a,.int .i64 t.b,.slice al t.list.length dl],Value.oneCell' u=true):=by
           intro u hu;simp only[List.mem_cons,List.not_mem_nil,or_false]at hu
           rcases hu with rfl|rfl|rfl|rfl|rfl|rfl<;>rfl
          have g1:IntKind.i64.wrap ((tp.tests.length:Int)+(x.tests.length:Int))=(tp.tests.length:Int)+(x.tests.length:Int):=IntWalk.i64_in _ ⟨by omega,by omega⟩;have g2:IntKind.i64.wrap ((tp.tests.length:Int)+(x.tests.length:Int)+(s.tests.length:Int))=(tp.tests.length:Int)+(x.tests.length:Int)+(s.tests.length:Int):=IntWalk.i64_in _ ⟨by omega,by omega⟩;have g3:IntKind.i64.wrap ((tp.tests.length:Int)+(x.tests.length:Int)+(s.tests.length:Int)-(k:Int))=(tp.tests.length:Int)+(x.tests.length:Int)+(s.tests.length:Int)-(k:Int):=IntWalk.i64_in _ ⟨by omega,by omega⟩;have g4:IntKind.i64.wrap ((tp.tests.length:Int)+(x.tests.length:Int)+(s.tests.length:Int)-(k:Int)-1)=(tp.tests.length:Int)+(x.tests.length:Int)+(s.tests.length:Int)-(k:Int)-1:=IntWalk.i64_in _ ⟨by omega,by omega⟩;have gf:decide ((tp.tests.length:Int)+(x.tests.length:Int)+(s.tests.length:Int)-(k:Int)-1≤6)=true:=decide_eq_true (by omega);have htog:Pl.together tp.tag x.tag=true:=by unfold Pl.together;rw[hxt];simp
          have HAT:Hid (Pl.addT L.only tp t (s.tests.length-k-1)=⟨tp.tag,tp.tests++x.tests⟩):=by
           unfold Hid;rw[Pl.qhu hso k13 ⟨k14,htog,by omega⟩];rw[if_neg (fun e=>by rw[e]at ht;cases ht)]
          have HL64:Hid (tp.tests.length+x.tests.length≤64):=by unfold Hid;omega
          have HM4:Hid (qbA A PP M (w2.alloc (.cells #[.string ⟨x.tag.toArray⟩,.slice ax x.tests.length cx] 67)) tp (.slice au tp.tests.length cu)):=HG3.out.made;have HF4:Hid (FrA (M+1) M w3 (w2.alloc (.cells #[.string ⟨x.tag.toArray⟩,.slice ax x.tests.length cx] 67))):=HG3.out.fr;have HRX4:Hid (qaf (qaF A) 6 (mask (Off PP (.slice au tp.tests.length cu)) (w2.alloc (.cells #[.string ⟨x.tag.toArray⟩,.slice ax x.tests.length cx] 67))) (.slice ax x.tests.length cx) x.tests):=HRX.out.map fun _ _ _ hq=>hq.sub hS (qaY (qaa hb2 hb3))
          have y1:=v1;have m1:=b1;clear hb2 hb3 hso HC HRX HG3 htog;have hr13:=r13;have hr14:=r14;clear k13 k14 hfit
          go_wp2_with (with_reducible refine qcn 125 ?_)
          unfold Hid;clear b0 b2 b3 q0 q1 q2 q3 q4 q5 v0;generalize w2.alloc (.cells #[.string ⟨x.tag.toArray⟩,.slice ax x.tests.length cx] 67)=W at *
          iterate 12 (first|go_values|go_skip|go_guarded|go_step|go_upon)
          refine qd5 hA hS (P:=PP) (B:=M+1) (W:=W) (ts:=tp.tests) (ms:=x.tests) ?_ (.tmp 126) (.tmp 128) ?_ ?_ ?_ HM4.out.row HRX4.out HL64.out HM4.out.sz ?_ ?_
          ·rfl
          ·rfl
          ·rfl
          ·rfl
          ·rw[HPP.out];have h1:=HM4.out.sz;have h2:=HMW.out;exact qcv (HP.out _ (by omega)) (by omega)
          intro g cap w7 hg7 hb7;clear y1 m1;have HPUT:=HM4.out.put hS (Below.refl _ _) hb7 hg7;have z7:=HPUT.2.2.1;have zf7:=HPUT.2.2.2
          have HM7:Hid (∃au cu,qbA A PP M (w7.setCell ⟨M,1,none⟩ (.slice g (tp.tests.length+x.tests.length) cap)) (Pl.qaA id L.only s (k+1)) (.slice au (Pl.qaA id L.only s (k+1)).tests.length cu)):=by
           unfold Hid;rw[HNX.out,HAT.out];refine⟨g,cap,?_⟩;rw[List.length_append];exact HPUT.1
          have HF7:Hid (FrA (M+1) M w3 _):=HF4.out.trans HPUT.2.1;clear HPUT hg7 hb7;go_wp2;exact⟨⟨k+1,hlt,by go_num,HM7,HF7⟩,by simp[intOf];omega⟩
       | false=>
        cases ht:tp.tag.isEmpty with
        | true=>
         as_aux_lemma=>
          subst hnx;have hb3:=qac w2 (.cells #[.string ⟨x.tag.toArray⟩,.slice ax x.tests.length cx] 67);have HG3:Hid (AddG A PP M N w3 (w2.alloc (.cells #[.string ⟨x.tag.toArray⟩,.slice ax x.tests.length cx] 67)) tp t au al cu dl):=(HG0.out.on hS hb2).on hS hb3;obtain⟨⟨b0,b1,b2,b3⟩,q0,q1,q2,q3,q4,q5⟩:=HG3.out.facts;obtain⟨v0,v1⟩:=f2 (heap_alloc_new w2 (.cells #[.string ⟨x.tag.toArray⟩,.slice ax x.tests.length cx] 67));have x3:=(f2 (hblk (hblk HX1a.out hb2) hb3)).2
          have HONE:Hid (∀u∈[.int .i64 t.kind,.string ⟨t.name.toArray⟩,.string ⟨t.value.toArray⟩,.int .i64 t.a,.int .i64 t.b,.slice al t.list.length dl],Value.oneCell' u=true):=by
           intro u hu;simp only[List.mem_cons,List.not_mem_nil,or_false]at hu
           rcases hu with rfl|rfl|rfl|rfl|rfl|rfl<;>rfl
          have g1:IntKind.i64.wrap ((tp.tests.length:Int)+(x.tests.length:Int))=(tp.tests.length:Int)+(x.tests.length:Int):=IntWalk.i64_in _ ⟨by omega,by omega⟩;have g2:IntKind.i64.wrap ((tp.tests.length:Int)+(x.tests.length:Int)+(s.tests.length:Int))=(tp.tests.length:Int)+(x.tests.length:Int)+(s.tests.length:Int):=IntWalk.i64_in _ ⟨by omega,by omega⟩;have g3:IntKind.i64.wrap ((tp.tests.length:Int)+(x.tests.length:Int)+(s.tests.length:Int)-(k:Int))=(tp.tests.length:Int)+(x.tests.length:Int)+(s.tests.length:Int)-(k:Int):=IntWalk.i64_in _ ⟨by omega,by omega⟩;have g4:IntKind.i64.wrap ((tp.tests.length:Int)+(x.tests.length:Int)+(s.tests.length:Int)-(k:Int)-1)=(tp.tests.length:Int)+(x.tests.length:Int)+(s.tests.length:Int)-(k:Int)-1:=IntWalk.i64_in _ ⟨by omega,by omega⟩;have gf:decide ((tp.tests.length:Int)+(x.tests.length:Int)+(s.tests.length:Int)-(k:Int)-1≤6)=true:=decide_eq_true (by omega);have htog:Pl.together tp.tag x.tag=true:=by unfold Pl.together;rw[ht];rfl
          have HAT:Hid (Pl.addT L.only tp t (s.tests.length-k-1)=⟨x.tag,tp.tests++x.tests⟩):=by
           unfold Hid;rw[Pl.qhu hso k13 ⟨k14,htog,by omega⟩];rw[if_pos (List.isEmpty_iff.1 ht)]
          have HL64:Hid (tp.tests.length+x.tests.length≤64):=by unfold Hid;omega
          have HM4:Hid (qbA A PP M ((w2.alloc (.cells #[.string ⟨x.tag.toArray⟩,.slice ax x.tests.length cx] 67)).setCell ⟨M,0,none⟩ (.string ⟨x.tag.toArray⟩)) ⟨x.tag,tp.tests⟩ (.slice au tp.tests.length cu)):=HG3.out.made.tag hS x.tag;have HF4:Hid (FrA (M+1) M w3 ((w2.alloc (.cells #[.string ⟨x.tag.toArray⟩,.slice ax x.tests.length cx] 67)).setCell ⟨M,0,none⟩ (.string ⟨x.tag.toArray⟩))):=HG3.out.fr.set 0 _
          have HRX4:Hid (qaf (qaF A) 6 (mask (Off PP (.slice au tp.tests.length cu)) ((w2.alloc (.cells #[.string ⟨x.tag.toArray⟩,.slice ax x.tests.length cx] 67)).setCell ⟨M,0,none⟩ (.string ⟨x.tag.toArray⟩))) (.slice ax x.tests.length cx) x.tests):=HRX.out.map fun _ _ _ hq=>(hq.sub hS (qaY (qaa hb2 hb3))).sub hS (qam fun j hj _=>⟨hj,Below.heap_setCell _ _ _ _ (by
           show j≠M
           rintro rfl;unfold Off at hj;rw[HG3.out.made.out]at hj
           cases hj)⟩)
          have y1:((w2.alloc (.cells #[.string ⟨x.tag.toArray⟩,.slice ax x.tests.length cx] 67)).setCell ⟨M,0,none⟩ (.string ⟨x.tag.toArray⟩)).cell? ⟨w2.heap.size,1,none⟩=some (.slice ax x.tests.length cx):=by
           rw[World.cell?_setCell_other _ _ _ _ (by intro e;injection e with e1 _ _;have:=(HG0.out.on hS hb2).made.sz;omega)];exact v1
          have m1:=(qcd HM4.out.box).2.1;clear hb2 hb3 hso HC HRX HG3 htog;have hr13:=r13;have hr14:=r14;clear k13 k14 hfit
          go_wp2_with (with_reducible refine qcn 125 ?_)
          unfold Hid;clear b0 b2 b3 q0 q1 q2 q3 q4 q5 v0;generalize (w2.alloc (.cells #[.string ⟨x.tag.toArray⟩,.slice ax x.tests.length cx] 67)).setCell ⟨M,0,none⟩ (.string ⟨x.tag.toArray⟩)=W at *
          iterate 12 (first|go_values|go_skip|go_guarded|go_step|go_upon)
          refine qd5 hA hS (P:=PP) (B:=M+1) (W:=W) (ts:=tp.tests) (ms:=x.tests) ?_ (.tmp 126) (.tmp 128) ?_ ?_ ?_ HM4.out.row HRX4.out HL64.out HM4.out.sz ?_ ?_
          ·rfl
          ·rfl
          ·rfl
          ·rfl
          ·rw[HPP.out];have h1:=HM4.out.sz;have h2:=HMW.out;exact qcv (HP.out _ (by omega)) (by omega)
          intro g cap w7 hg7 hb7;clear y1 m1;have HPUT:=HM4.out.put hS (Below.refl _ _) hb7 hg7;have z7:=HPUT.2.2.1;have zf7:=HPUT.2.2.2
          have HM7:Hid (∃au cu,qbA A PP M (w7.setCell ⟨M,1,none⟩ (.slice g (tp.tests.length+x.tests.length) cap)) (Pl.qaA id L.only s (k+1)) (.slice au (Pl.qaA id L.only s (k+1)).tests.length cu)):=by
           unfold Hid;rw[HNX.out,HAT.out];refine⟨g,cap,?_⟩;rw[List.length_append];exact HPUT.1
          have HF7:Hid (FrA (M+1) M w3 _):=HF4.out.trans HPUT.2.1;clear HPUT hg7 hb7;go_wp2;exact⟨⟨k+1,hlt,by go_num,HM7,HF7⟩,by simp[intOf];omega⟩
        | false=>
         cases heq:(x.tag==tp.tag) with
         | true=>
          as_aux_lemma=>
           subst hnx;have hb3:=qac w2 (.cells #[.string ⟨x.tag.toArray⟩,.slice ax x.tests.length cx] 67);have HG3:Hid (AddG A PP M N w3 (w2.alloc (.cells #[.string ⟨x.tag.toArray⟩,.slice ax x.tests.length cx] 67)) tp t au al cu dl):=(HG0.out.on hS hb2).on hS hb3;obtain⟨⟨b0,b1,b2,b3⟩,q0,q1,q2,q3,q4,q5⟩:=HG3.out.facts;obtain⟨v0,v1⟩:=f2 (heap_alloc_new w2 (.cells #[.string ⟨x.tag.toArray⟩,.slice ax x.tests.length cx] 67));have x3:=(f2 (hblk (hblk HX1a.out hb2) hb3)).2
           have HONE:Hid (∀u∈[.int .i64 t.kind,.string ⟨t.name.toArray⟩,.string ⟨t.value.toArray⟩,.int .i64 t.a,.int .i64 t.b,.slice al t.list.length dl],Value.oneCell' u=true):=by
            intro u hu;simp only[List.mem_cons,List.not_mem_nil,or_false]at hu
            rcases hu with rfl|rfl|rfl|rfl|rfl|rfl<;>rfl
           have g1:IntKind.i64.wrap ((tp.tests.length:Int)+(x.tests.length:Int))=(tp.tests.length:Int)+(x.tests.length:Int):=IntWalk.i64_in _ ⟨by omega,by omega⟩;have g2:IntKind.i64.wrap ((tp.tests.length:Int)+(x.tests.length:Int)+(s.tests.length:Int))=(tp.tests.length:Int)+(x.tests.length:Int)+(s.tests.length:Int):=IntWalk.i64_in _ ⟨by omega,by omega⟩;have g3:IntKind.i64.wrap ((tp.tests.length:Int)+(x.tests.length:Int)+(s.tests.length:Int)-(k:Int))=(tp.tests.length:Int)+(x.tests.length:Int)+(s.tests.length:Int)-(k:Int):=IntWalk.i64_in _ ⟨by omega,by omega⟩;have g4:IntKind.i64.wrap ((tp.tests.length:Int)+(x.tests.length:Int)+(s.tests.length:Int)-(k:Int)-1)=(tp.tests.length:Int)+(x.tests.length:Int)+(s.tests.length:Int)-(k:Int)-1:=IntWalk.i64_in _ ⟨by omega,by omega⟩;have gf:decide ((tp.tests.length:Int)+(x.tests.length:Int)+(s.tests.length:Int)-(k:Int)-1≤6)=true:=decide_eq_true (by omega);have htog:Pl.together tp.tag x.tag=true:=by unfold Pl.together;rw[eq_of_beq heq];simp
           have HAT:Hid (Pl.addT L.only tp t (s.tests.length-k-1)=⟨tp.tag,tp.tests++x.tests⟩):=by
            unfold Hid;rw[Pl.qhu hso k13 ⟨k14,htog,by omega⟩];rw[if_neg (fun e=>by rw[e]at ht;cases ht)]
           have HL64:Hid (tp.tests.length+x.tests.length≤64):=by unfold Hid;omega
           have HM4:Hid (qbA A PP M (w2.alloc (.cells #[.string ⟨x.tag.toArray⟩,.slice ax x.tests.length cx] 67)) tp (.slice au tp.tests.length cu)):=HG3.out.made;have HF4:Hid (FrA (M+1) M w3 (w2.alloc (.cells #[.string ⟨x.tag.toArray⟩,.slice ax x.tests.length cx] 67))):=HG3.out.fr;have HRX4:Hid (qaf (qaF A) 6 (mask (Off PP (.slice au tp.tests.length cu)) (w2.alloc (.cells #[.string ⟨x.tag.toArray⟩,.slice ax x.tests.length cx] 67))) (.slice ax x.tests.length cx) x.tests):=HRX.out.map fun _ _ _ hq=>hq.sub hS (qaY (qaa hb2 hb3))
           have y1:=v1;have m1:=b1;clear hb2 hb3 hso HC HRX HG3 htog;have hr13:=r13;have hr14:=r14;clear k13 k14 hfit
           go_wp2_with (with_reducible refine qcn 125 ?_)
           unfold Hid;clear b0 b2 b3 q0 q1 q2 q3 q4 q5 v0;generalize w2.alloc (.cells #[.string ⟨x.tag.toArray⟩,.slice ax x.tests.length cx] 67)=W at *
           iterate 12 (first|go_values|go_skip|go_guarded|go_step|go_upon)
           refine qd5 hA hS (P:=PP) (B:=M+1) (W:=W) (ts:=tp.tests) (ms:=x.tests) ?_ (.tmp 126) (.tmp 128) ?_ ?_ ?_ HM4.out.row HRX4.out HL64.out HM4.out.sz ?_ ?_
           ·rfl
           ·rfl
           ·rfl
           ·rfl
           ·rw[HPP.out];have h1:=HM4.out.sz;have h2:=HMW.out;exact qcv (HP.out _ (by omega)) (by omega)
           intro g cap w7 hg7 hb7;clear y1 m1;have HPUT:=HM4.out.put hS (Below.refl _ _) hb7 hg7;have z7:=HPUT.2.2.1;have zf7:=HPUT.2.2.2
           have HM7:Hid (∃au cu,qbA A PP M (w7.setCell ⟨M,1,none⟩ (.slice g (tp.tests.length+x.tests.length) cap)) (Pl.qaA id L.only s (k+1)) (.slice au (Pl.qaA id L.only s (k+1)).tests.length cu)):=by
            unfold Hid;rw[HNX.out,HAT.out];refine⟨g,cap,?_⟩;rw[List.length_append];exact HPUT.1
           have HF7:Hid (FrA (M+1) M w3 _):=HF4.out.trans HPUT.2.1;clear HPUT hg7 hb7;go_wp2;exact⟨⟨k+1,hlt,by go_num,HM7,HF7⟩,by simp[intOf];omega⟩
         | false=>
          as_aux_lemma=>
           subst hnx;have hb3:=qac w2 (.cells #[.string ⟨x.tag.toArray⟩,.slice ax x.tests.length cx] 67);have HG3:Hid (AddG A PP M N w3 (w2.alloc (.cells #[.string ⟨x.tag.toArray⟩,.slice ax x.tests.length cx] 67)) tp t au al cu dl):=(HG0.out.on hS hb2).on hS hb3;obtain⟨⟨b0,b1,b2,b3⟩,q0,q1,q2,q3,q4,q5⟩:=HG3.out.facts;obtain⟨v0,v1⟩:=f2 (heap_alloc_new w2 (.cells #[.string ⟨x.tag.toArray⟩,.slice ax x.tests.length cx] 67));have x3:=(f2 (hblk (hblk HX1a.out hb2) hb3)).2
           have HONE:Hid (∀u∈[.int .i64 t.kind,.string ⟨t.name.toArray⟩,.string ⟨t.value.toArray⟩,.int .i64 t.a,.int .i64 t.b,.slice al t.list.length dl],Value.oneCell' u=true):=by
            intro u hu;simp only[List.mem_cons,List.not_mem_nil,or_false]at hu
            rcases hu with rfl|rfl|rfl|rfl|rfl|rfl<;>rfl
           have g1:IntKind.i64.wrap ((tp.tests.length:Int)+(x.tests.length:Int))=(tp.tests.length:Int)+(x.tests.length:Int):=IntWalk.i64_in _ ⟨by omega,by omega⟩;have g2:IntKind.i64.wrap ((tp.tests.length:Int)+(x.tests.length:Int)+(s.tests.length:Int))=(tp.tests.length:Int)+(x.tests.length:Int)+(s.tests.length:Int):=IntWalk.i64_in _ ⟨by omega,by omega⟩;have g3:IntKind.i64.wrap ((tp.tests.length:Int)+(x.tests.length:Int)+(s.tests.length:Int)-(k:Int))=(tp.tests.length:Int)+(x.tests.length:Int)+(s.tests.length:Int)-(k:Int):=IntWalk.i64_in _ ⟨by omega,by omega⟩;have g4:IntKind.i64.wrap ((tp.tests.length:Int)+(x.tests.length:Int)+(s.tests.length:Int)-(k:Int)-1)=(tp.tests.length:Int)+(x.tests.length:Int)+(s.tests.length:Int)-(k:Int)-1:=IntWalk.i64_in _ ⟨by omega,by omega⟩;have gf:decide ((tp.tests.length:Int)+(x.tests.length:Int)+(s.tests.length:Int)-(k:Int)-1≤6)=true:=decide_eq_true (by omega)
           have HAT:Hid (Pl.addT L.only tp t (s.tests.length-k-1)=⟨tp.tag,tp.tests++[t]⟩):=(Pl.qdc hso k13 (by
            rintro ⟨-,h,-⟩;unfold Pl.together at h;rw[ht,hxt]at h;have e:=eq_of_beq (by simpa using h:(tp.tag==x.tag)=true);rw[e]at heq
            simp at heq))
           clear hb2 hb3 hso HC HRX k13 k14 hfit
           go_wp2_with (with_reducible refine qcn 49 ?_)
           unfold Hid;generalize w2.alloc (.cells #[.string ⟨x.tag.toArray⟩,.slice ax x.tests.length cx] 67)=W at *
           iterate 9 (first|go_values|go_skip|go_guarded|go_step|go_upon)
           refine qaP 51 _ _ _ _ _ _ rfl ?_;refine qaQ (P:=PP) (B:=M+1) (qba hS) Tryz.underlying65 infT rfl (by decide) (by decide) (w2:=W) (v:=.slice au tp.tests.length cu) (l:=tp.tests) (x:=t) (news:=[.int .i64 t.kind,.string ⟨t.name.toArray⟩,.string ⟨t.value.toArray⟩,.int .i64 t.a,.int .i64 t.b,.slice al t.list.length dl]) ?_ (.tmp 50) (.tmp 52) ?_ ?_ ?_ HG3.out.made.row ⟨_,rfl,HG3.out.new⟩ HONE.out (by have:=HLN.out;omega) HG3.out.made.sz ?_ ?_
           ·rfl
           ·rfl
           ·rfl
           ·first|rfl|(simp[Act.eval];done)
           ·rw[HPP.out];have h1:=HG3.out.made.sz;have h2:=HMW.out;exact qcv (HP.out _ (by omega)) (by omega)
           intro g cap w7 hg7 hb7 _;clear b0 b1 b2 b3 q0 q1 q2 q3 q4 q5 v0 v1;have HPUT:=HG3.out.made.put hS (qac _ _) hb7 hg7;have z7:=HPUT.2.2.1;have zf7:=HPUT.2.2.2
           have HM7:Hid (∃au cu,qbA A PP M (w7.setCell ⟨M,1,none⟩ (.slice (some ⟨g,0,none⟩) (tp.tests.length+1) cap)) (Pl.qaA id L.only s (k+1)) (.slice au (Pl.qaA id L.only s (k+1)).tests.length cu)):=by
            unfold Hid;rw[HNX.out,HAT.out];refine⟨some ⟨g,0,none⟩,cap,?_⟩;rw[List.length_append];exact HPUT.1
           have HF7:Hid (FrA (M+1) M w3 _):=HG3.out.fr.trans HPUT.2.1;clear HPUT hg7 hb7 HG3;go_wp2;exact⟨⟨k+1,hlt,by go_num,HM7,HF7⟩,by simp[intOf];omega⟩
      ·cases hxt:x.tag.isEmpty with
       | true=>
        as_aux_lemma=>
         subst hnx;have hb3:=qac w2 (.cells #[.string ⟨x.tag.toArray⟩,.slice ax x.tests.length cx] 67);have HG3:Hid (AddG A PP M N w3 (w2.alloc (.cells #[.string ⟨x.tag.toArray⟩,.slice ax x.tests.length cx] 67)) tp t au al cu dl):=(HG0.out.on hS hb2).on hS hb3;obtain⟨⟨b0,b1,b2,b3⟩,q0,q1,q2,q3,q4,q5⟩:=HG3.out.facts;obtain⟨v0,v1⟩:=f2 (heap_alloc_new w2 (.cells #[.string ⟨x.tag.toArray⟩,.slice ax x.tests.length cx] 67));have x3:=(f2 (hblk (hblk HX1a.out hb2) hb3)).2
         have HONE:Hid (∀u∈[.int .i64 t.kind,.string ⟨t.name.toArray⟩,.string ⟨t.value.toArray⟩,.int .i64 t.a,.int .i64 t.b,.slice al t.list.length dl],Value.oneCell' u=true):=by
          intro u hu;simp only[List.mem_cons,List.not_mem_nil,or_false]at hu
          rcases hu with rfl|rfl|rfl|rfl|rfl|rfl<;>rfl
         have g1:IntKind.i64.wrap ((tp.tests.length:Int)+(x.tests.length:Int))=(tp.tests.length:Int)+(x.tests.length:Int):=IntWalk.i64_in _ ⟨by omega,by omega⟩;have g2:IntKind.i64.wrap ((tp.tests.length:Int)+(x.tests.length:Int)+(s.tests.length:Int))=(tp.tests.length:Int)+(x.tests.length:Int)+(s.tests.length:Int):=IntWalk.i64_in _ ⟨by omega,by omega⟩;have g3:IntKind.i64.wrap ((tp.tests.length:Int)+(x.tests.length:Int)+(s.tests.length:Int)-(k:Int))=(tp.tests.length:Int)+(x.tests.length:Int)+(s.tests.length:Int)-(k:Int):=IntWalk.i64_in _ ⟨by omega,by omega⟩;have g4:IntKind.i64.wrap ((tp.tests.length:Int)+(x.tests.length:Int)+(s.tests.length:Int)-(k:Int)-1)=(tp.tests.length:Int)+(x.tests.length:Int)+(s.tests.length:Int)-(k:Int)-1:=IntWalk.i64_in _ ⟨by omega,by omega⟩;have gf:decide ((tp.tests.length:Int)+(x.tests.length:Int)+(s.tests.length:Int)-(k:Int)-1≤6)=false:=decide_eq_false (by omega);have HAT:Hid (Pl.addT L.only tp t (s.tests.length-k-1)=⟨tp.tag,tp.tests++[t]⟩):=(Pl.qdc hso k13 (fun h=>hfit h.2.2))
         clear hb2 hb3 hso HC HRX k13 k14 hfit
         go_wp2_with (with_reducible refine qcn 49 ?_)
         unfold Hid;generalize w2.alloc (.cells #[.string ⟨x.tag.toArray⟩,.slice ax x.tests.length cx] 67)=W at *
         iterate 9 (first|go_values|go_skip|go_guarded|go_step|go_upon)
         refine qaP 51 _ _ _ _ _ _ rfl ?_;refine qaQ (P:=PP) (B:=M+1) (qba hS) Tryz.underlying65 infT rfl (by decide) (by decide) (w2:=W) (v:=.slice au tp.tests.length cu) (l:=tp.tests) (x:=t) (news:=[.int .i64 t.kind,.string ⟨t.name.toArray⟩,.string ⟨t.value.toArray⟩,.int .i64 t.a,.int .i64 t.b,.slice al t.list.length dl]) ?_ (.tmp 50) (.tmp 52) ?_ ?_ ?_ HG3.out.made.row ⟨_,rfl,HG3.out.new⟩ HONE.out (by have:=HLN.out;omega) HG3.out.made.sz ?_ ?_
         ·rfl
         ·rfl
         ·rfl
         ·first|rfl|(simp[Act.eval];done)
         ·rw[HPP.out];have h1:=HG3.out.made.sz;have h2:=HMW.out;exact qcv (HP.out _ (by omega)) (by omega)
         intro g cap w7 hg7 hb7 _;clear b0 b1 b2 b3 q0 q1 q2 q3 q4 q5 v0 v1;have HPUT:=HG3.out.made.put hS (qac _ _) hb7 hg7;have z7:=HPUT.2.2.1;have zf7:=HPUT.2.2.2
         have HM7:Hid (∃au cu,qbA A PP M (w7.setCell ⟨M,1,none⟩ (.slice (some ⟨g,0,none⟩) (tp.tests.length+1) cap)) (Pl.qaA id L.only s (k+1)) (.slice au (Pl.qaA id L.only s (k+1)).tests.length cu)):=by
          unfold Hid;rw[HNX.out,HAT.out];refine⟨some ⟨g,0,none⟩,cap,?_⟩;rw[List.length_append];exact HPUT.1
         have HF7:Hid (FrA (M+1) M w3 _):=HG3.out.fr.trans HPUT.2.1;clear HPUT hg7 hb7 HG3;go_wp2;exact⟨⟨k+1,hlt,by go_num,HM7,HF7⟩,by simp[intOf];omega⟩
       | false=>
        cases ht:tp.tag.isEmpty with
        | true=>
         as_aux_lemma=>
          subst hnx;have hb3:=qac w2 (.cells #[.string ⟨x.tag.toArray⟩,.slice ax x.tests.length cx] 67);have HG3:Hid (AddG A PP M N w3 (w2.alloc (.cells #[.string ⟨x.tag.toArray⟩,.slice ax x.tests.length cx] 67)) tp t au al cu dl):=(HG0.out.on hS hb2).on hS hb3;obtain⟨⟨b0,b1,b2,b3⟩,q0,q1,q2,q3,q4,q5⟩:=HG3.out.facts;obtain⟨v0,v1⟩:=f2 (heap_alloc_new w2 (.cells #[.string ⟨x.tag.toArray⟩,.slice ax x.tests.length cx] 67));have x3:=(f2 (hblk (hblk HX1a.out hb2) hb3)).2
          have HONE:Hid (∀u∈[.int .i64 t.kind,.string ⟨t.name.toArray⟩,.string ⟨t.value.toArray⟩,.int .i64 t.a,.int .i64 t.b,.slice al t.list.length dl],Value.oneCell' u=true):=by
           intro u hu;simp only[List.mem_cons,List.not_mem_nil,or_false]at hu
           rcases hu with rfl|rfl|rfl|rfl|rfl|rfl<;>rfl
          have g1:IntKind.i64.wrap ((tp.tests.length:Int)+(x.tests.length:Int))=(tp.tests.length:Int)+(x.tests.length:Int):=IntWalk.i64_in _ ⟨by omega,by omega⟩;have g2:IntKind.i64.wrap ((tp.tests.length:Int)+(x.tests.length:Int)+(s.tests.length:Int))=(tp.tests.length:Int)+(x.tests.length:Int)+(s.tests.length:Int):=IntWalk.i64_in _ ⟨by omega,by omega⟩;have g3:IntKind.i64.wrap ((tp.tests.length:Int)+(x.tests.length:Int)+(s.tests.length:Int)-(k:Int))=(tp.tests.length:Int)+(x.tests.length:Int)+(s.tests.length:Int)-(k:Int):=IntWalk.i64_in _ ⟨by omega,by omega⟩;have g4:IntKind.i64.wrap ((tp.tests.length:Int)+(x.tests.length:Int)+(s.tests.length:Int)-(k:Int)-1)=(tp.tests.length:Int)+(x.tests.length:Int)+(s.tests.length:Int)-(k:Int)-1:=IntWalk.i64_in _ ⟨by omega,by omega⟩;have gf:decide ((tp.tests.length:Int)+(x.tests.length:Int)+(s.tests.length:Int)-(k:Int)-1≤6)=false:=decide_eq_false (by omega);have HAT:Hid (Pl.addT L.only tp t (s.tests.length-k-1)=⟨tp.tag,tp.tests++[t]⟩):=(Pl.qdc hso k13 (fun h=>hfit h.2.2))
          clear hb2 hb3 hso HC HRX k13 k14 hfit
          go_wp2_with (with_reducible refine qcn 49 ?_)
          unfold Hid;generalize w2.alloc (.cells #[.string ⟨x.tag.toArray⟩,.slice ax x.tests.length cx] 67)=W at *
          iterate 9 (first|go_values|go_skip|go_guarded|go_step|go_upon)
          refine qaP 51 _ _ _ _ _ _ rfl ?_;refine qaQ (P:=PP) (B:=M+1) (qba hS) Tryz.underlying65 infT rfl (by decide) (by decide) (w2:=W) (v:=.slice au tp.tests.length cu) (l:=tp.tests) (x:=t) (news:=[.int .i64 t.kind,.string ⟨t.name.toArray⟩,.string ⟨t.value.toArray⟩,.int .i64 t.a,.int .i64 t.b,.slice al t.list.length dl]) ?_ (.tmp 50) (.tmp 52) ?_ ?_ ?_ HG3.out.made.row ⟨_,rfl,HG3.out.new⟩ HONE.out (by have:=HLN.out;omega) HG3.out.made.sz ?_ ?_
          ·rfl
          ·rfl
          ·rfl
          ·first|rfl|(simp[Act.eval];done)
          ·rw[HPP.out];have h1:=HG3.out.made.sz;have h2:=HMW.out;exact qcv (HP.out _ (by omega)) (by omega)
          intro g cap w7 hg7 hb7 _;clear b0 b1 b2 b3 q0 q1 q2 q3 q4 q5 v0 v1;have HPUT:=HG3.out.made.put hS (qac _ _) hb7 hg7;have z7:=HPUT.2.2.1;have zf7:=HPUT.2.2.2
          have HM7:Hid (∃au cu,qbA A PP M (w7.setCell ⟨M,1,none⟩ (.slice (some ⟨g,0,none⟩) (tp.tests.length+1) cap)) (Pl.qaA id L.only s (k+1)) (.slice au (Pl.qaA id L.only s (k+1)).tests.length cu)):=by
           unfold Hid;rw[HNX.out,HAT.out];refine⟨some ⟨g,0,none⟩,cap,?_⟩;rw[List.length_append];exact HPUT.1
          have HF7:Hid (FrA (M+1) M w3 _):=HG3.out.fr.trans HPUT.2.1;clear HPUT hg7 hb7 HG3;go_wp2;exact⟨⟨k+1,hlt,by go_num,HM7,HF7⟩,by simp[intOf];omega⟩
        | false=>
         cases heq:(x.tag==tp.tag) with
         | true=>
          as_aux_lemma=>
           subst hnx;have hb3:=qac w2 (.cells #[.string ⟨x.tag.toArray⟩,.slice ax x.tests.length cx] 67);have HG3:Hid (AddG A PP M N w3 (w2.alloc (.cells #[.string ⟨x.tag.toArray⟩,.slice ax x.tests.length cx] 67)) tp t au al cu dl):=(HG0.out.on hS hb2).on hS hb3;obtain⟨⟨b0,b1,b2,b3⟩,q0,q1,q2,q3,q4,q5⟩:=HG3.out.facts;obtain⟨v0,v1⟩:=f2 (heap_alloc_new w2 (.cells #[.string ⟨x.tag.toArray⟩,.slice ax x.tests.length cx] 67));have x3:=(f2 (hblk (hblk HX1a.out hb2) hb3)).2
           have HONE:Hid (∀u∈[.int .i64 t.kind,.string ⟨t.name.toArray⟩,.string ⟨t.value.toArray⟩,.int .i64 t.a,.int .i64 t.b,.slice al t.list.length dl],Value.oneCell' u=true):=by
            intro u hu;simp only[List.mem_cons,List.not_mem_nil,or_false]at hu
            rcases hu with rfl|rfl|rfl|rfl|rfl|rfl<;>rfl
           have g1:IntKind.i64.wrap ((tp.tests.length:Int)+(x.tests.length:Int))=(tp.tests.length:Int)+(x.tests.length:Int):=IntWalk.i64_in _ ⟨by omega,by omega⟩;have g2:IntKind.i64.wrap ((tp.tests.length:Int)+(x.tests.length:Int)+(s.tests.length:Int))=(tp.tests.length:Int)+(x.tests.length:Int)+(s.tests.length:Int):=IntWalk.i64_in _ ⟨by omega,by omega⟩;have g3:IntKind.i64.wrap ((tp.tests.length:Int)+(x.tests.length:Int)+(s.tests.length:Int)-(k:Int))=(tp.tests.length:Int)+(x.tests.length:Int)+(s.tests.length:Int)-(k:Int):=IntWalk.i64_in _ ⟨by omega,by omega⟩;have g4:IntKind.i64.wrap ((tp.tests.length:Int)+(x.tests.length:Int)+(s.tests.length:Int)-(k:Int)-1)=(tp.tests.length:Int)+(x.tests.length:Int)+(s.tests.length:Int)-(k:Int)-1:=IntWalk.i64_in _ ⟨by omega,by omega⟩;have gf:decide ((tp.tests.length:Int)+(x.tests.length:Int)+(s.tests.length:Int)-(k:Int)-1≤6)=false:=decide_eq_false (by omega);have HAT:Hid (Pl.addT L.only tp t (s.tests.length-k-1)=⟨tp.tag,tp.tests++[t]⟩):=(Pl.qdc hso k13 (fun h=>hfit h.2.2))
           clear hb2 hb3 hso HC HRX k13 k14 hfit
           go_wp2_with (with_reducible refine qcn 49 ?_)
           unfold Hid;generalize w2.alloc (.cells #[.string ⟨x.tag.toArray⟩,.slice ax x.tests.length cx] 67)=W at *
           iterate 9 (first|go_values|go_skip|go_guarded|go_step|go_upon)
           refine qaP 51 _ _ _ _ _ _ rfl ?_;refine qaQ (P:=PP) (B:=M+1) (qba hS) Tryz.underlying65 infT rfl (by decide) (by decide) (w2:=W) (v:=.slice au tp.tests.length cu) (l:=tp.tests) (x:=t) (news:=[.int .i64 t.kind,.string ⟨t.name.toArray⟩,.string ⟨t.value.toArray⟩,.int .i64 t.a,.int .i64 t.b,.slice al t.list.length dl]) ?_ (.tmp 50) (.tmp 52) ?_ ?_ ?_ HG3.out.made.row ⟨_,rfl,HG3.out.new⟩ HONE.out (by have:=HLN.out;omega) HG3.out.made.sz ?_ ?_
           ·rfl
           ·rfl
           ·rfl
           ·first|rfl|(simp[Act.eval];done)
           ·rw[HPP.out];have h1:=HG3.out.made.sz;have h2:=HMW.out;exact qcv (HP.out _ (by omega)) (by omega)
           intro g cap w7 hg7 hb7 _;clear b0 b1 b2 b3 q0 q1 q2 q3 q4 q5 v0 v1;have HPUT:=HG3.out.made.put hS (qac _ _) hb7 hg7;have z7:=HPUT.2.2.1;have zf7:=HPUT.2.2.2
           have HM7:Hid (∃au cu,qbA A PP M (w7.setCell ⟨M,1,none⟩ (.slice (some ⟨g,0,none⟩) (tp.tests.length+1) cap)) (Pl.qaA id L.only s (k+1)) (.slice au (Pl.qaA id L.only s (k+1)).tests.length cu)):=by
            unfold Hid;rw[HNX.out,HAT.out];refine⟨some ⟨g,0,none⟩,cap,?_⟩;rw[List.length_append];exact HPUT.1
           have HF7:Hid (FrA (M+1) M w3 _):=HG3.out.fr.trans HPUT.2.1;clear HPUT hg7 hb7 HG3;go_wp2;exact⟨⟨k+1,hlt,by go_num,HM7,HF7⟩,by simp[intOf];omega⟩
         | false=>
          as_aux_lemma=>
           subst hnx;have hb3:=qac w2 (.cells #[.string ⟨x.tag.toArray⟩,.slice ax x.tests.length cx] 67);have HG3:Hid (AddG A PP M N w3 (w2.alloc (.cells #[.string ⟨x.tag.toArray⟩,.slice ax x.tests.length cx] 67)) tp t au al cu dl):=(HG0.out.on hS hb2).on hS hb3;obtain⟨⟨b0,b1,b2,b3⟩,q0,q1,q2,q3,q4,q5⟩:=HG3.out.facts;obtain⟨v0,v1⟩:=f2 (heap_alloc_new w2 (.cells #[.string ⟨x.tag.toArray⟩,.slice ax x.tests.length cx] 67));have x3:=(f2 (hblk (hblk HX1a.out hb2) hb3)).2
           have HONE:Hid (∀u∈[.int .i64 t.kind,.string ⟨t.name.toArray⟩,.string ⟨t.value.toArray⟩,.int .i64 t.a,.int .i64 t.b,.slice al t.list.length dl],Value.oneCell' u=true):=by
            intro u hu;simp only[List.mem_cons,List.not_mem_nil,or_false]at hu
            rcases hu with rfl|rfl|rfl|rfl|rfl|rfl<;>rfl
           have g1:IntKind.i64.wrap ((tp.tests.length:Int)+(x.tests.length:Int))=(tp.tests.length:Int)+(x.tests.length:Int):=IntWalk.i64_in _ ⟨by omega,by omega⟩;have g2:IntKind.i64.wrap ((tp.tests.length:Int)+(x.tests.length:Int)+(s.tests.length:Int))=(tp.tests.length:Int)+(x.tests.length:Int)+(s.tests.length:Int):=IntWalk.i64_in _ ⟨by omega,by omega⟩;have g3:IntKind.i64.wrap ((tp.tests.length:Int)+(x.tests.length:Int)+(s.tests.length:Int)-(k:Int))=(tp.tests.length:Int)+(x.tests.length:Int)+(s.tests.length:Int)-(k:Int):=IntWalk.i64_in _ ⟨by omega,by omega⟩;have g4:IntKind.i64.wrap ((tp.tests.length:Int)+(x.tests.length:Int)+(s.tests.length:Int)-(k:Int)-1)=(tp.tests.length:Int)+(x.tests.length:Int)+(s.tests.length:Int)-(k:Int)-1:=IntWalk.i64_in _ ⟨by omega,by omega⟩;have gf:decide ((tp.tests.length:Int)+(x.tests.length:Int)+(s.tests.length:Int)-(k:Int)-1≤6)=false:=decide_eq_false (by omega);have HAT:Hid (Pl.addT L.only tp t (s.tests.length-k-1)=⟨tp.tag,tp.tests++[t]⟩):=(Pl.qdc hso k13 (fun h=>hfit h.2.2))
           clear hb2 hb3 hso HC HRX k13 k14 hfit
           go_wp2_with (with_reducible refine qcn 49 ?_)
           unfold Hid;generalize w2.alloc (.cells #[.string ⟨x.tag.toArray⟩,.slice ax x.tests.length cx] 67)=W at *
           iterate 9 (first|go_values|go_skip|go_guarded|go_step|go_upon)
           refine qaP 51 _ _ _ _ _ _ rfl ?_;refine qaQ (P:=PP) (B:=M+1) (qba hS) Tryz.underlying65 infT rfl (by decide) (by decide) (w2:=W) (v:=.slice au tp.tests.length cu) (l:=tp.tests) (x:=t) (news:=[.int .i64 t.kind,.string ⟨t.name.toArray⟩,.string ⟨t.value.toArray⟩,.int .i64 t.a,.int .i64 t.b,.slice al t.list.length dl]) ?_ (.tmp 50) (.tmp 52) ?_ ?_ ?_ HG3.out.made.row ⟨_,rfl,HG3.out.new⟩ HONE.out (by have:=HLN.out;omega) HG3.out.made.sz ?_ ?_
           ·rfl
           ·rfl
           ·rfl
           ·first|rfl|(simp[Act.eval];done)
           ·rw[HPP.out];have h1:=HG3.out.made.sz;have h2:=HMW.out;exact qcv (HP.out _ (by omega)) (by omega)
           intro g cap w7 hg7 hb7 _;clear b0 b1 b2 b3 q0 q1 q2 q3 q4 q5 v0 v1;have HPUT:=HG3.out.made.put hS (qac _ _) hb7 hg7;have z7:=HPUT.2.2.1;have zf7:=HPUT.2.2.2
           have HM7:Hid (∃au cu,qbA A PP M (w7.setCell ⟨M,1,none⟩ (.slice (some ⟨g,0,none⟩) (tp.tests.length+1) cap)) (Pl.qaA id L.only s (k+1)) (.slice au (Pl.qaA id L.only s (k+1)).tests.length cu)):=by
            unfold Hid;rw[HNX.out,HAT.out];refine⟨some ⟨g,0,none⟩,cap,?_⟩;rw[List.length_append];exact HPUT.1
           have HF7:Hid (FrA (M+1) M w3 _):=HG3.out.fr.trans HPUT.2.1;clear HPUT hg7 hb7 HG3;go_wp2;exact⟨⟨k+1,hlt,by go_num,HM7,HF7⟩,by simp[intOf];omega⟩
     ·as_aux_lemma=>
      subst hnx;have hb3:=qac w2 (.cells #[.string ⟨x.tag.toArray⟩,.slice ax x.tests.length cx] 67);have HG3:Hid (AddG A PP M N w3 (w2.alloc (.cells #[.string ⟨x.tag.toArray⟩,.slice ax x.tests.length cx] 67)) tp t au al cu dl):=(HG0.out.on hS hb2).on hS hb3;obtain⟨⟨b0,b1,b2,b3⟩,q0,q1,q2,q3,q4,q5⟩:=HG3.out.facts;obtain⟨v0,v1⟩:=f2 (heap_alloc_new w2 (.cells #[.string ⟨x.tag.toArray⟩,.slice ax x.tests.length cx] 67));have x3:=(f2 (hblk (hblk HX1a.out hb2) hb3)).2
      have HONE:Hid (∀u∈[.int .i64 t.kind,.string ⟨t.name.toArray⟩,.string ⟨t.value.toArray⟩,.int .i64 t.a,.int .i64 t.b,.slice al t.list.length dl],Value.oneCell' u=true):=by
       intro u hu;simp only[List.mem_cons,List.not_mem_nil,or_false]at hu
       rcases hu with rfl|rfl|rfl|rfl|rfl|rfl<;>rfl
      have r14:(t.kind==14)=false:=by simpa using k14
      have HAT:Hid (Pl.addT L.only tp t (s.tests.length-k-1)=⟨tp.tag,tp.tests++[t]⟩):=(Pl.qdc hso k13 (fun h=>k14 h.1))
      clear hb2 hb3 hso HC HRX k13 k14
      go_wp2_with (with_reducible refine qcn 49 ?_)
      unfold Hid;generalize w2.alloc (.cells #[.string ⟨x.tag.toArray⟩,.slice ax x.tests.length cx] 67)=W at *
      iterate 9 (first|go_values|go_skip|go_guarded|go_step|go_upon)
      refine qaP 51 _ _ _ _ _ _ rfl ?_;refine qaQ (P:=PP) (B:=M+1) (qba hS) Tryz.underlying65 infT rfl (by decide) (by decide) (w2:=W) (v:=.slice au tp.tests.length cu) (l:=tp.tests) (x:=t) (news:=[.int .i64 t.kind,.string ⟨t.name.toArray⟩,.string ⟨t.value.toArray⟩,.int .i64 t.a,.int .i64 t.b,.slice al t.list.length dl]) ?_ (.tmp 50) (.tmp 52) ?_ ?_ ?_ HG3.out.made.row ⟨_,rfl,HG3.out.new⟩ HONE.out (by have:=HLN.out;omega) HG3.out.made.sz ?_ ?_
      ·rfl
      ·rfl
      ·rfl
      ·first|rfl|(simp[Act.eval];done)
      ·rw[HPP.out];have h1:=HG3.out.made.sz;have h2:=HMW.out;exact qcv (HP.out _ (by omega)) (by omega)
      intro g cap w7 hg7 hb7 _;clear b0 b1 b2 b3 q0 q1 q2 q3 q4 q5 v0 v1;have HPUT:=HG3.out.made.put hS (qac _ _) hb7 hg7;have z7:=HPUT.2.2.1;have zf7:=HPUT.2.2.2
      have HM7:Hid (∃au cu,qbA A PP M (w7.setCell ⟨M,1,none⟩ (.slice (some ⟨g,0,none⟩) (tp.tests.length+1) cap)) (Pl.qaA id L.only s (k+1)) (.slice au (Pl.qaA id L.only s (k+1)).tests.length cu)):=by
       unfold Hid;rw[HNX.out,HAT.out];refine⟨some ⟨g,0,none⟩,cap,?_⟩;rw[List.length_append];exact HPUT.1
      have HF7:Hid (FrA (M+1) M w3 _):=HG3.out.fr.trans HPUT.2.1;clear HPUT hg7 hb7 HG3;go_wp2;exact⟨⟨k+1,hlt,by go_num,HM7,HF7⟩,by simp[intOf];omega⟩
  ·as_aux_lemma=>
   have hke:k=s.tests.length:=by omega
   subst hke;have HWD:Hid (∀t∈(Pl.qaA id L.only s s.tests.length).tests,L.W t.list):=hszk.1;have h6D:(Pl.qaA id L.only s s.tests.length).tests.length≤6:=by have:=hszk.2;omega
   clear hszk;generalize Pl.qaA id L.only s s.tests.length=D at *;obtain⟨b0,b1,b2,b3⟩:=qcd HM.out.box;have HD:Hid (qaf (qaF A) 6 (mask PP wr) (.slice au D.tests.length cu) D.tests):=Grow.row (qba hS) HM.out.row;obtain⟨wl,hwl⟩:∃q,q=wr:=⟨_,rfl⟩
   subst hwl;have HB1:Hid (∀W,Below wl.heap.size wl W→W.cell? ⟨M,1,none⟩=some (.slice au D.tests.length cu)):=fun W hb=>qab hb b1
   go_wp2;clear b0 b1 b2 b3
   go_loopw [9,10] (fun u i wr=>∃j:Nat,j≤D.tests.length∧i=.int .i64 j∧Hid (Grow PP wl.heap.size 71 6 (VT A) wr u (Pl.qag D.tests j))∧Hid (Below wl.heap.size wl wr)) (fun _ i _=>D.tests.length-(intOf i).toNat)
   case atStart=>exact⟨0,Nat.zero_le _,rfl,Grow.nil _ _ _ _ _ _,Below.refl _ _⟩
   case round=>
    obtain⟨j,hj,rfl,HG,HB⟩:=hrel;obtain⟨ak,ck,rfl⟩:=HG.out.form;have b1:=HB1.out wr HB.out
    by_cases hjl:j<D.tests.length
    ·as_aux_lemma=>
     obtain⟨_,_,e',-,hcs⟩:=HD.out;injection e' with e1 _ e3;subst e1 e3
     rcases hcs with h0|⟨b4,o4,rfl,hc⟩
     ·rw[h0]at hjl;simp at hjl
     have HCS:Hid (∀m (h:m<D.tests.length),qaF A (mask PP wl) b4 (o4+m*6) D.tests[m]):=hc;obtain⟨vv,nm0,nm1,nm2,nm3,nm4,nm5,hml⟩:=hc j hjl;obtain⟨al,dl,rfl,-⟩:=hA.form hml;have HML:Hid (A (mask PP wl) (.slice al (D.tests[j]).list.length dl) (D.tests[j]).list):=hml;have HNM:Hid (∀W,Below wl.heap.size wl W→W.cell? ⟨b4,o4+j*6,none⟩=some (.int .i64 (D.tests[j]).kind)∧W.cell? ⟨b4,o4+j*6+1,none⟩=some (.string ⟨(D.tests[j]).name.toArray⟩)∧W.cell? ⟨b4,o4+j*6+2,none⟩=some (.string ⟨(D.tests[j]).value.toArray⟩)∧W.cell? ⟨b4,o4+j*6+3,none⟩=some (.int .i64 (D.tests[j]).a)∧W.cell? ⟨b4,o4+j*6+4,none⟩=some (.int .i64 (D.tests[j]).b)∧W.cell? ⟨b4,o4+j*6+5,none⟩=some (.slice al (D.tests[j]).list.length dl)):=fun W hb=>⟨qab hb (qah.1 nm0).2,qab hb (qah.1 nm1).2,qab hb (qah.1 nm2).2,qab hb (qah.1 nm3).2,qab hb (qah.1 nm4).2,qab hb (qah.1 nm5).2⟩
     have HWJ:Hid (L.W (D.tests[j]).list):=HWD.out _ (List.getElem_mem hjl);have HNX:Hid (Pl.qag D.tests (j+1)=Pl.qbu (Pl.qag D.tests j) D.tests[j]):=Pl.qbx hjl;have HMEM:Hid (D.tests[j]∈Pl.qag D.tests j↔D.tests[j]∈D.tests.take j):=Pl.qfp;have HKL:Hid ((Pl.qag D.tests j).length+1≤64):=by unfold Hid;have:=Pl.qb3 D.tests j (by omega);omega
     have j1:(0:Int)≤(j:Int):=by omega
     have j2:(j:Int)<(D.tests.length:Int):=by omega
     clear hc hml nm0 nm1 nm2 nm3 nm4 nm5;generalize D.tests[j]=t at *;generalize Pl.qag D.tests j=kept at *;obtain⟨wq,hwq⟩:∃q,q=wr:=⟨_,rfl⟩
     subst hwq;go_wp2;clear b1
     go_loopw [11,12] (fun bb i wr=>∃m:Nat,m≤j∧i=.int .i64 m∧bb=.bool (decide (t∈D.tests.take m))∧Hid (Below wq.heap.size wq wr)) (fun _ i _=>j-(intOf i).toNat)
     case atStart=>exact⟨0,Nat.zero_le _,rfl,by simp,Below.refl _ _⟩
     case round=>
      obtain⟨m,hm,rfl,rfl,HBm⟩:=hrel;have HBlm:Hid (Below wl.heap.size wl wr):=qaa HB.out HBm.out;have b1:=HB1.out wr HBlm.out
      by_cases hmj:m<j
      ·have i1:(0:Int)≤(m:Int):=by omega
       have i2:(m:Int)<(D.tests.length:Int):=by omega
       have i3:(m:Int)<(j:Int):=by omega
       have hml:m<D.tests.length:=by omega
       have HTK:Hid (D.tests.take (m+1)=D.tests.take m++[D.tests[m]]):=List.take_succ_eq_append_getElem hml
       by_cases hin:t∈D.tests.take m
       ·as_aux_lemma=>
        have hd:decide (t∈D.tests.take m)=true:=decide_eq_true hin;have HD1:Hid (decide (t∈D.tests.take (m+1))=true):=decide_eq_true (by rw[HTK.out];exact List.mem_append_left _ hin);rw[hd];clear hd hin;go_wp2
        go_quiet (fail)
        go_wp2;have HBn:Hid (Below wq.heap.size wq (wr.drewN nq)):=below_drewN HBm.out nq;exact⟨⟨m+1,hmj,by go_num,by rw[HD1.out],HBn⟩,by simp[intOf];omega⟩
       ·as_aux_lemma=>
        have hd:decide (t∈D.tests.take m)=false:=decide_eq_false hin;obtain⟨v2,mm0,mm1,mm2,mm3,mm4,mm5,hl2⟩:=HCS.out m hml;obtain⟨a2,d2,rfl,-⟩:=hA.form hl2;have HW2:Hid (L.W (D.tests[m]).list):=HWD.out _ (List.getElem_mem hml)
        have HD1:Hid (decide (t∈D.tests.take (m+1))=sm D.tests[m] t):=by
         unfold Hid sm;rw[HTK.out];simp only[List.mem_append,List.mem_singleton,hin,false_or];exact decide_eq_decide.2 ⟨fun h=>h.symm,fun h=>h.symm⟩
        have hbd:Below wl.heap.size wl wr.drew:=HBlm.out.drew;have b1d:wr.drew.cell? ⟨M,1,none⟩=_:=b1;have m0:=qab hbd (qah.1 mm0).2;have m1:=qab hbd (qah.1 mm1).2;have m2:=qab hbd (qah.1 mm2).2;have m3:=qab hbd (qah.1 mm3).2;have m4:=qab hbd (qah.1 mm4).2;have m5:=qab hbd (qah.1 mm5).2;obtain⟨n0,n1,n2,n3,n4,n5⟩:=HNM.out wr.drew hbd;have hl2':A wr.drew (.slice a2 (D.tests[m]).list.length d2) (D.tests[m]).list:=hA.on (hS.sub hl2 (qav _ _)) hbd;have hl1':A wr.drew (.slice al t.list.length dl) t.list:=hA.on (hS.sub HML.out (qav _ _)) hbd;clear hl2 mm0 mm1 mm2 mm3 mm4 mm5 hbd HTK HCS;generalize D.tests[m]=t2 at *;have HC:Hid (Calls Tryz.prog 149 _ _ _):=qiG hA L.W hsame wr.drew (.agg #[.int .i64 t2.kind,.string ⟨t2.name.toArray⟩,.string ⟨t2.value.toArray⟩,.int .i64 t2.a,.int .i64 t2.b,.slice a2 t2.list.length d2]) (.agg #[.int .i64 t.kind,.string ⟨t.name.toArray⟩,.string ⟨t.value.toArray⟩,.int .i64 t.a,.int .i64 t.b,.slice al t.list.length dl]) t2 t ⟨_,rfl,hl2'⟩ ⟨_,rfl,hl1'⟩ HW2.out HWJ.out;rw[hd];clear hd hin hl2' hl1';have S0:(fun w'=>w'.cell? ⟨M,1,none⟩=some (.slice (some ⟨b4,o4,none⟩) D.tests.length cu)∧w'.cell? ⟨b4,o4+m*6,none⟩=some (.int .i64 t2.kind)∧w'.cell? ⟨b4,o4+m*6+1,none⟩=some (.string ⟨t2.name.toArray⟩)∧w'.cell? ⟨b4,o4+m*6+2,none⟩=some (.string ⟨t2.value.toArray⟩)∧w'.cell? ⟨b4,o4+m*6+3,none⟩=some (.int .i64 t2.a)∧w'.cell? ⟨b4,o4+m*6+4,none⟩=some (.int .i64 t2.b)∧w'.cell? ⟨b4,o4+m*6+5,none⟩=some (.slice a2 t2.list.length d2)∧w'.cell? ⟨b4,o4+j*6,none⟩=some (.int .i64 t.kind)∧w'.cell? ⟨b4,o4+j*6+1,none⟩=some (.string ⟨t.name.toArray⟩)∧w'.cell? ⟨b4,o4+j*6+2,none⟩=some (.string ⟨t.value.toArray⟩)∧w'.cell? ⟨b4,o4+j*6+3,none⟩=some (.int .i64 t.a)∧w'.cell? ⟨b4,o4+j*6+4,none⟩=some (.int .i64 t.b)∧w'.cell? ⟨b4,o4+j*6+5,none⟩=some (.slice al t.list.length dl)) wr.drew:=⟨b1d,m0,m1,m2,m3,m4,m5,n0,n1,n2,n3,n4,n5⟩
        have HS0:Hid _:=S0;clear m0 m1 m2 m3 m4 m5 n0 n1 n2 n3 n4 n5 b1d
        go_wp2_with fail
        clear b1;refine wp_region_held_drew (S:=(fun w'=>w'.cell? ⟨M,1,none⟩=some (.slice (some ⟨b4,o4,none⟩) D.tests.length cu)∧w'.cell? ⟨b4,o4+m*6,none⟩=some (.int .i64 t2.kind)∧w'.cell? ⟨b4,o4+m*6+1,none⟩=some (.string ⟨t2.name.toArray⟩)∧w'.cell? ⟨b4,o4+m*6+2,none⟩=some (.string ⟨t2.value.toArray⟩)∧w'.cell? ⟨b4,o4+m*6+3,none⟩=some (.int .i64 t2.a)∧w'.cell? ⟨b4,o4+m*6+4,none⟩=some (.int .i64 t2.b)∧w'.cell? ⟨b4,o4+m*6+5,none⟩=some (.slice a2 t2.list.length d2)∧w'.cell? ⟨b4,o4+j*6,none⟩=some (.int .i64 t.kind)∧w'.cell? ⟨b4,o4+j*6+1,none⟩=some (.string ⟨t.name.toArray⟩)∧w'.cell? ⟨b4,o4+j*6+2,none⟩=some (.string ⟨t.value.toArray⟩)∧w'.cell? ⟨b4,o4+j*6+3,none⟩=some (.int .i64 t.a)∧w'.cell? ⟨b4,o4+j*6+4,none⟩=some (.int .i64 t.b)∧w'.cell? ⟨b4,o4+j*6+5,none⟩=some (.slice al t.list.length dl))) (by kernel_rfl) S0 (fun hHeld=>?_);refine wpAnyH_take (i:=0) (oi:=(⟨some 143,.move (.tmp 11),4, "match.go:323",#[],none⟩:Oper)) (v:=?_) rfl (by kernel_rfl) (by kernel_rfl) (by kernel_rfl) (fun _ _ _ h=>h) (Or.inl ⟨by rfl,?_⟩) (by assumption) ?_;rotate_left
        ·intro w9 hSw
         (try dsimp only at hSw)
         go_simp
         all_goals (with_reducible rfl)
        try simp only[Act.put,zsa,zs0,zs1]
        refine wpAnyH_take (i:=1) (oi:=(⟨some 144,.move (.tmp 143),4, "match.go:323",#[⟨0,.data⟩],none⟩:Oper)) (v:=?_) rfl (by kernel_rfl) (by kernel_rfl) (by kernel_rfl) (fun _ _ _ h=>h) (Or.inl ⟨by rfl,?_⟩) (by assumption) ?_;rotate_left
        ·intro w9 hSw
         (try dsimp only at hSw)
         go_simp
         all_goals (with_reducible rfl)
        try simp only[Act.put,zsa,zs0,zs1]
        refine wpAnyH_take (i:=2) (oi:=(⟨some 145,.fieldAddr 67 (.tmp 3) 1,0, "match.go:323",#[⟨1,.guard⟩],some (1,false)⟩:Oper)) (v:=?_) rfl (by kernel_rfl) (by kernel_rfl) (by kernel_rfl) (fun _ _ _ h=>h) (Or.inl ⟨by rfl,?_⟩) (by assumption) ?_;rotate_left
        ·intro w9 hSw
         (try dsimp only at hSw)
         go_simp
         all_goals (with_reducible rfl)
        try simp only[Act.put,zsa,zs0,zs1]
        refine wpAnyH_take (i:=3) (oi:=(⟨some 146,.load 65 (.tmp 145),65, "match.go:323",#[⟨2,.data⟩,⟨1,.guard⟩],some (1,false)⟩:Oper)) (v:=?_) rfl (by kernel_rfl) (by kernel_rfl) (by kernel_rfl) (fun _ _ _ h=>h) (Or.inl ⟨by rfl,?_⟩) (by assumption) ?_;rotate_left
        ·intro w9 hSw
         (try dsimp only at hSw)
         go_simp
         all_goals (with_reducible rfl)
        try simp only[Act.put,zsa,zs0,zs1]
        refine wpAnyH_take (i:=4) (oi:=(⟨some 147,.move (.tmp 12),3, "match.go:323",#[⟨1,.guard⟩],some (1,false)⟩:Oper)) (v:=?_) rfl (by kernel_rfl) (by kernel_rfl) (by kernel_rfl) (fun _ _ _ h=>h) (Or.inl ⟨by rfl,?_⟩) (by assumption) ?_;rotate_left
        ·intro w9 hSw
         (try dsimp only at hSw)
         go_simp
         all_goals (with_reducible rfl)
        try simp only[Act.put,zsa,zs0,zs1]
        refine wpAnyH_take (i:=5) (oi:=(⟨some 148,.indexAddr 65 (.tmp 146) (.tmp 147),0, "match.go:323",#[⟨3,.data⟩,⟨4,.data⟩,⟨1,.guard⟩],some (1,false)⟩:Oper)) (v:=?_) rfl (by kernel_rfl) (by kernel_rfl) (by kernel_rfl) (fun _ _ _ h=>h) (Or.inl ⟨by rfl,?_⟩) (by assumption) ?_;rotate_left
        ·intro w9 hSw
         (try dsimp only at hSw)
         go_simp
         all_goals (with_reducible rfl)
        try simp only[Act.put,zsa,zs0,zs1]
        refine wpAnyH_take (i:=6) (oi:=(⟨some 149,.load 71 (.tmp 148),71, "match.go:323",#[⟨5,.data⟩,⟨1,.guard⟩],some (1,false)⟩:Oper)) (v:=?_) rfl (by kernel_rfl) (by kernel_rfl) (by kernel_rfl) (fun _ _ _ h=>h) (Or.inl ⟨by rfl,?_⟩) (by assumption) ?_;rotate_left
        ·intro w9 hSw
         (try dsimp only at hSw)
         go_simp
         all_goals (with_reducible rfl)
        try simp only[Act.put,zsa,zs0,zs1]
        refine wpAnyH_take (i:=7) (oi:=(⟨some 150,.fieldAddr 67 (.tmp 3) 1,0, "match.go:323",#[⟨1,.guard⟩],some (1,false)⟩:Oper)) (v:=?_) rfl (by kernel_rfl) (by kernel_rfl) (by kernel_rfl) (fun _ _ _ h=>h) (Or.inl ⟨by rfl,?_⟩) (by assumption) ?_;rotate_left
        ·intro w9 hSw
         (try dsimp only at hSw)
         go_simp
         all_goals (with_reducible rfl)
        try simp only[Act.put,zsa,zs0,zs1]
        refine wpAnyH_take (i:=8) (oi:=(⟨some 151,.load 65 (.tmp 150),65, "match.go:323",#[⟨7,.data⟩,⟨1,.guard⟩],some (1,false)⟩:Oper)) (v:=?_) rfl (by kernel_rfl) (by kernel_rfl) (by kernel_rfl) (fun _ _ _ h=>h) (Or.inl ⟨by rfl,?_⟩) (by assumption) ?_;rotate_left
        ·intro w9 hSw
         (try dsimp only at hSw)
         go_simp
         all_goals (with_reducible rfl)
        try simp only[Act.put,zsa,zs0,zs1]
        refine wpAnyH_take (i:=9) (oi:=(⟨some 152,.move (.tmp 10),3, "match.go:323",#[⟨1,.guard⟩],some (1,false)⟩:Oper)) (v:=?_) rfl (by kernel_rfl) (by kernel_rfl) (by kernel_rfl) (fun _ _ _ h=>h) (Or.inl ⟨by rfl,?_⟩) (by assumption) ?_;rotate_left
        ·intro w9 hSw
         (try dsimp only at hSw)
         go_simp
         all_goals (with_reducible rfl)
        try simp only[Act.put,zsa,zs0,zs1]
        refine wpAnyH_take (i:=10) (oi:=(⟨some 153,.indexAddr 65 (.tmp 151) (.tmp 152),0, "match.go:323",#[⟨8,.data⟩,⟨9,.data⟩,⟨1,.guard⟩],some (1,false)⟩:Oper)) (v:=?_) rfl (by kernel_rfl) (by kernel_rfl) (by kernel_rfl) (fun _ _ _ h=>h) (Or.inl ⟨by rfl,?_⟩) (by assumption) ?_;rotate_left
        ·intro w9 hSw
         (try dsimp only at hSw)
         go_simp
         all_goals (with_reducible rfl)
        try simp only[Act.put,zsa,zs0,zs1]
        refine wpAnyH_take (i:=11) (oi:=(⟨some 154,.load 71 (.tmp 153),71, "match.go:323",#[⟨10,.data⟩,⟨1,.guard⟩],some (1,false)⟩:Oper)) (v:=?_) rfl (by kernel_rfl) (by kernel_rfl) (by kernel_rfl) (fun _ _ _ h=>h) (Or.inl ⟨by rfl,?_⟩) (by assumption) ?_;rotate_left
        ·intro w9 hSw
         (try dsimp only at hSw)
         go_simp
         all_goals (with_reducible rfl)
        try simp only[Act.put,zsa,zs0,zs1]
        refine wpAnyH_ready (rs:=[12]) (by kernel_rfl) (by simp) ?_;refine AllReadyH.cons (o:=(⟨some 155,.call { callee:=Callee.value (.func 149),args:= #[.tmp 149,.tmp 154],argTypes:= #[71,71] },4, "match.go:323",#[⟨6,.data⟩,⟨11,.data⟩,⟨1,.chain⟩,⟨1,.guard⟩],some (1,false)⟩:Oper)) rfl (fun K hK=>?_) AllReadyH.nil;go_simp
        go_at_call 149
        refine HC.out.mono ?_;rintro e w6 ⟨rfl,hb6⟩;refine hK.out _ _ (by obtain⟨s0,s1,s2,s3,s4,s5,s6,s7,s8,s9,s10,s11,s12⟩:=HS0.out;exact⟨qab hb6 s0,qab hb6 s1,qab hb6 s2,qab hb6 s3,qab hb6 s4,qab hb6 s5,qab hb6 s6,qab hb6 s7,qab hb6 s8,qab hb6 s9,qab hb6 s10,qab hb6 s11,qab hb6 s12⟩) (fun hHeld2=>?_);clear hK K hHeld
        try simp only[Act.put,zsa,zs0,zs1]
        refine wpAnyH_take (i:=13) (oi:=(⟨some 156,.pick (.tmp 144) (.const (Value.bool true)) (.tmp 155),4, "match.go:323",#[⟨1,.data⟩,⟨12,.data⟩],none⟩:Oper)) (v:=?_) rfl (by kernel_rfl) (by kernel_rfl) (by kernel_rfl) (fun _ _ _ h=>h) (Or.inl ⟨by rfl,?_⟩) (by assumption) ?_;rotate_left
        ·intro w9 hSw
         (try dsimp only at hSw)
         go_simp
         all_goals (with_reducible rfl)
        try simp only[Act.put,zsa,zs0,zs1]
        refine wpAnyH_take (i:=14) (oi:=(⟨some 11,.assign (.tmp 156),4, "match.go:323",#[⟨13,.data⟩,⟨12,.chain⟩,⟨0,.phase⟩,⟨1,.phase⟩,⟨2,.phase⟩,⟨3,.phase⟩,⟨4,.phase⟩,⟨5,.phase⟩,⟨6,.phase⟩,⟨7,.phase⟩,⟨8,.phase⟩,⟨9,.phase⟩,⟨10,.phase⟩,⟨11,.phase⟩,⟨12,.phase⟩,⟨13,.phase⟩],none⟩:Oper)) (v:=?_) rfl (by kernel_rfl) (by kernel_rfl) (by kernel_rfl) (fun _ _ _ h=>h) (Or.inl ⟨by rfl,?_⟩) (by assumption) ?_;rotate_left
        ·intro w9 hSw
         (try dsimp only at hSw)
         go_simp
         all_goals (with_reducible rfl)
        try simp only[Act.put,zsa,zs0,zs1]
        refine wpAnyH_done (by kernel_rfl) ?_ _;have HBn:Hid (Below wq.heap.size wq w6):=qaa HBm.out.drew hb6;clear hHeld2 S0 hb6;go_wp2;exact⟨⟨m+1,hmj,by go_num,by rw[HD1.out],HBn⟩,by simp[intOf];omega⟩
      ·by_cases hin:t∈D.tests.take j
       ·as_aux_lemma=>
        have hme:m=j:=by omega
        subst hme;have hd:decide (t∈D.tests.take m)=true:=decide_eq_true hin;have HK:Hid (Pl.qag D.tests (m+1)=kept):=by unfold Hid;rw[HNX.out];unfold Pl.qbu;rw[if_pos (HMEM.out.2 hin)]
        have HG7:Hid (Grow PP wl.heap.size 71 6 (VT A) wr (.slice ak kept.length ck) kept):=HG.out.move (qba hS) fun i hi hiw=>⟨hi,HBm.out.block i hiw⟩
        rw[hd];clear hd hin;go_wp2;exact⟨⟨m+1,hjl,by go_num,by rw[HK.out];exact HG7.out,HBlm⟩,by simp[intOf];omega⟩
       ·as_aux_lemma=>
        have hme:m=j:=by omega
        subst hme;have hd:decide (t∈D.tests.take m)=false:=decide_eq_false hin;have HK:Hid (Pl.qag D.tests (m+1)=kept++[t]):=by unfold Hid;rw[HNX.out];unfold Pl.qbu;rw[if_neg (fun h=>hin (HMEM.out.1 h))]
        have HG7:Hid (Grow PP wl.heap.size 71 6 (VT A) wr (.slice ak kept.length ck) kept):=HG.out.move (qba hS) fun i hi hiw=>⟨hi,HBm.out.block i hiw⟩
        have HNEW:Hid (VT A (mask (Off PP (.slice ak kept.length ck)) wr) [.int .i64 t.kind,.string ⟨t.name.toArray⟩,.string ⟨t.value.toArray⟩,.int .i64 t.a,.int .i64 t.b,.slice al t.list.length dl] t):=⟨_,rfl,hS.sub HML.out (qam fun i hi hil=>by
         refine⟨?_,HBlm.out.block i hil⟩;unfold Off;rw[hi];have:(.slice ak kept.length ck:Value).ownBlock≠some i:=fun h=>by have:=(HG.out.own i h).2;omega
         simpa using this)⟩
        have HONE:Hid (∀u∈[.int .i64 t.kind,.string ⟨t.name.toArray⟩,.string ⟨t.value.toArray⟩,.int .i64 t.a,.int .i64 t.b,.slice al t.list.length dl],Value.oneCell' u=true):=by
         intro u hu;simp only[List.mem_cons,List.not_mem_nil,or_false]at hu
         rcases hu with rfl|rfl|rfl|rfl|rfl|rfl<;>rfl
        obtain⟨n0,n1,n2,n3,n4,n5⟩:=HNM.out wr HBlm.out;have HOW:Hid (∀i,(.slice ak kept.length ck:Value).ownBlock=some i→wl.heap.size≤i):=fun i hi=>(HG.out.own i hi).2
        rw[hd];clear hd hin;obtain⟨wz,hwz⟩:∃q,q=wr:=⟨_,rfl⟩
        subst hwz
        go_wp2_with (with_reducible refine qcn 164 ?_)
        unfold Hid
        iterate 3 (first|go_values|go_skip|go_guarded|go_step|go_upon)
        refine qaP 164 _ _ _ _ _ _ rfl ?_;refine qaQ (P:=PP) (B:=wl.heap.size) (qba hS) Tryz.underlying65 infT rfl (by decide) (by decide) (w2:=wz) (v:=.slice ak kept.length ck) (l:=kept) (x:=t) (news:=[.int .i64 t.kind,.string ⟨t.name.toArray⟩,.string ⟨t.value.toArray⟩,.int .i64 t.a,.int .i64 t.b,.slice al t.list.length dl]) ?_ (.tmp 159) (.tmp 165) ?_ ?_ ?_ HG7.out HNEW.out HONE.out HKL.out HBlm.out.size ?_ ?_
        ·rfl
        ·rfl
        ·rfl
        ·first|rfl|(simp[Act.eval];done)
        ·rw[HPP.out];have h1:=HM.out.sz;have h2:=HMW.out;have h3:=HBlm.out.size;exact qcv (HP.out _ (by omega)) (by omega)
        intro g cap w7 hg7 hb7 _;clear b1 n0 n1 n2 n3 n4 n5;have HG8:Hid (Grow PP wl.heap.size 71 6 (VT A) w7 (.slice (some ⟨g,0,none⟩) (kept.length+1) cap) (Pl.qag D.tests (m+1))):=by unfold Hid;rw[HK.out];exact hg7
        have HB8:Hid (Below wl.heap.size wl w7):=(qaa HBlm.out (qac _ _)).grown hb7 (by have:=HBlm.out.size;simp;omega) (fun i hi=>HOW.out i hi);clear hg7 hb7 HNEW HG7;go_wp2;exact⟨⟨m+1,hjl,by go_num,HG8,HB8⟩,by simp[intOf];omega⟩
    ·as_aux_lemma=>
     have hje:j=D.tests.length:=by omega
     subst hje;have HG9:Hid (Grow PP wl.heap.size 71 6 (VT A) wr (.slice ak (Pl.qag D.tests D.tests.length).length ck) (Pl.qag D.tests D.tests.length)):=HG;have HBW9:Hid (Below w.heap.size w wr):=qaa HBW.out HB.out;rw[Pl.qbI]at HG9 ⊢;generalize Pl.qaR D.tests=F at *;have MB:Hid (wr.heap[M]? =some (.cells #[.string ⟨D.tag.toArray⟩,.slice au D.tests.length cu] 67)):=hblk HM.out.box HB.out;have X2:Hid (wr.heap[w.heap.size+1]? =some (.cells #[.string ⟨#[]⟩,.slice none 0 0] 67)):=hblk HX2k.out HB.out;have hMw:=HMW.out;obtain⟨c0,c1,c2,c3⟩:=qcd MB.out;have MB1:Hid ((wr.setCell ⟨M,1,none⟩ (.slice ak F.length ck)).heap[M]? =some (.cells #[.string ⟨D.tag.toArray⟩,.slice ak F.length ck] 67)):=qge MB.out _
     have X21:Hid ((wr.setCell ⟨M,1,none⟩ (.slice ak F.length ck)).heap[w.heap.size+1]? =some (.cells #[.string ⟨#[]⟩,.slice none 0 0] 67)):=by
      unfold Hid;rw[Below.heap_setCell _ _ _ _ (by show w.heap.size+1≠M;omega)];exact X2.out
     obtain⟨d0,d1,d2,d3⟩:=qcd MB1.out;obtain⟨g0,g1,g2,g3⟩:=qcd X21.out;have Z2:Hid ((((wr.setCell ⟨M,1,none⟩ (.slice ak F.length ck)).setCell ⟨w.heap.size+1,0,none⟩ (.string ⟨D.tag.toArray⟩)).setCell ⟨w.heap.size+1,1,none⟩ (.slice ak F.length ck)).heap[w.heap.size+1]? =some (.cells #[.string ⟨D.tag.toArray⟩,.slice ak F.length ck] 67)):=b41 X21.out _ _
     have HRW:Hid (qaf (qaF A) 6 (mask P (((wr.setCell ⟨M,1,none⟩ (.slice ak F.length ck)).setCell ⟨w.heap.size+1,0,none⟩ (.string ⟨D.tag.toArray⟩)).setCell ⟨w.heap.size+1,1,none⟩ (.slice ak F.length ck))) (.slice ak F.length ck) F):=(Grow.row (qba hS) HG9.out).map fun _ _ _ hq=>hq.sub hS (qam fun i hi _=>by
      rw[HPP.out]at hi;refine⟨gap_sub hi,?_⟩
      have hn:¬(w.heap.size≤i∧i<M+1):=by
       rintro ⟨h1,h2⟩;unfold gap at hi;rw[Bool.and_eq_true,Bool.or_eq_true,decide_eq_true_eq,decide_eq_true_eq]at hi;omega
      rw[Below.heap_setCell _ _ _ _ (by show i≠w.heap.size+1;omega),Below.heap_setCell _ _ _ _ (by show i≠w.heap.size+1;omega),Below.heap_setCell _ _ _ _ (by show i≠M;omega)])
     have HBE:Hid (Below w.heap.size w (((wr.setCell ⟨M,1,none⟩ (.slice ak F.length ck)).setCell ⟨w.heap.size+1,0,none⟩ (.string ⟨D.tag.toArray⟩)).setCell ⟨w.heap.size+1,1,none⟩ (.slice ak F.length ck))):=((HBW9.out.setCell (p:=⟨M,1,none⟩) (by show w.heap.size≤M;omega) _).setCell (p:=⟨w.heap.size+1,0,none⟩) (by show w.heap.size≤w.heap.size+1;omega) _).setCell (p:=⟨w.heap.size+1,1,none⟩) (by show w.heap.size≤w.heap.size+1;omega) _;clear hMw;go_wp2;obtain⟨z0,z1,-,-⟩:=qcd Z2.out;exact bodyPost_ret (v:=.agg #[.string ⟨D.tag.toArray⟩,.slice ak F.length ck]) (by simp[results,Tryz.results118,go_sem,z0,z1]) rfl (by rw[HR.out];exact⟨ak,ck,rfl,HRW.out,HBE.out⟩)
end Go.Proofs.YtephhllfodlfbaaGreatDoor
