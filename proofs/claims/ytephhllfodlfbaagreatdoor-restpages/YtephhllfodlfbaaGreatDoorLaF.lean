/-
  The document's own OnceOf and PlainOf at each level.
-/
import Derived.Test.YtephhllfodlfbaaGreatDoorOnD
import Derived.Test.YtephhllfodlfbaaGreatDoorRpL
import Derived.Test.YtephhllfodlfbaaGreatDoorVLBb
import Derived.Test.YtephhllfodlfbaaGreatDoorVRefI
set_option maxRecDepth 100000
set_option maxHeartbeats 16000000
namespace Go.Proofs.YtephhllfodlfbaaGreatDoor
open Go.RowKit
theorem qhr {α:Type}[DecidableEq α]{A:MemL α}(hA:IsL A)(hS:qaK A)(L:Pl.Lev α)(hL:Pl.qcR L)(hOwn:OwnC A L.W)(hO:qgP A L)(hD:DPlC A L)(hsame:∀(w:World) (v1 v2:Value) (l m:List α),A w v1 l→A w v2 m→L.W l→L.W m→Calls Tryz.prog 19 #[v1,v2] w fun e w'=>e=.returned (.bool (sm l m))∧Below w.heap.size w w')(lift:List α→List (Pl.Pth α)):DPlC (qbp A) (L.up lift):=
 onceOf_up hA hS L hL hOwn hD (qiy hA hS L hL hO hsame) hsame lift
theorem dPlC_0:DPlC ZAt Pl.L0:=fun w v l h hw=>by
 have hw:l=[]:=hw;subst hw;obtain⟨a,c,rfl,h1,h2⟩:=h;have:=qhr qcP qbE LF isLev_F (fun _ _ _ _ h=>h.elim) (fun _ _ _ _ _ h=>h.elim) (fun _ _ _ _ h=>h.elim) (fun _ _ _ _ _ _ _ h=>h.elim) (fun _=>[]) w (.slice a 0 c) [] ⟨a,c,rfl,⟨h1,h2⟩,Or.inl rfl⟩ ⟨by simp,fun p hp=>by simp at hp⟩;refine this.mono ?_;rintro e w' ⟨a',c',rfl,hr,hb⟩;obtain⟨a'',c'',e',hf,-⟩:=hr;exact⟨a',c',rfl,⟨a'',c'',e',hf.1,hf.2⟩,hb⟩
theorem dPlC_1:DPlC A1 Pl.L1:=qhr qcP qbE Pl.L0 Pl.isLev_0 ownC_0 dOnlyC_0 dPlC_0 dSameL_z Pl.qfy
theorem dPlC_2:DPlC A2 Pl.L2:=qhr qdA (qbf qbE) Pl.L1 Pl.isLev_1 ownC_1 dOnlyC_1 dPlC_1 dSameL_1 Pl.lift1
theorem dPlC_3:DPlC A3 Pl.L3:=qhr qdJ (qbf (qbf qbE)) Pl.L2 Pl.isLev_2 ownC_2 dOnlyC_2 dPlC_2 dSameL_2 Pl.lift2
theorem sub3:qaK A3:=qbf (qbf (qbf qbE))
theorem page_right {ns:List Pl.Nd}{ix:List Pl.Er}(h:qaw ns ix=0):Pl.qad ns=0∧ix=Pl.qaq ns:=by
 unfold qaw at h
 split at h
 ·rename_i h1
  split at h
  ·rename_i h2;exact⟨h1,h2⟩
  ·omega
 ·rename_i h1;exact absurd h h1
theorem ins_page (ns es:List Pl.Nd)(up at_:Int):qe8 0 (qax ns up at_ es) (qaO ns up at_ es)=qax ns up at_ es∧qeT 0 (qax ns up at_ es) (qaO ns up at_ es)=(if qax ns up at_ es=0 then qaO ns up at_ es else [])∧qeZ 0 (qax ns up at_ es) (qaO ns up at_ es)=(if qax ns up at_ es=0 then Pl.qaq (qaO ns up at_ es) else []):=by
 unfold qe8 qeT qeZ qd8 qd9 qeb
 by_cases h:qax ns up at_ es=0
 ·have h2:=qgd h;simp[h,h2]
 ·simp[h]
theorem rest_con (w:World)(a a2 a3 al:Option Addr)(c c2 c3 cl:Nat)(ns es:List Pl.Nd)(ix:List Pl.Er)(up at_:Int)(l:List Pl.D3)(hp:PgAt w (.agg #[.slice a ns.length c,.slice a2 ix.length c2]) ns ix)(hix:qcI ix)(he:qar w (.slice a3 es.length c3) es)(hl:A3 w (.slice al l.length cl) l)(hF:qaL w)(hpe:qaw ns ix=0)(hce:qbs l=0):
 RCon w a a2 a3 al c c2 c3 cl ns es (qaO ns up at_ es) (if qax ns up at_ es=0 then qaO ns up at_ es else []) ix (if qax ns up at_ es=0 then Pl.qaq (qaO ns up at_ es) else []) up at_ (qax ns up at_ es) l (Pl.qbo l):=by
 obtain⟨hc0,hxi⟩:=page_right hpe;obtain⟨h1n,h64,_⟩:=qa9 hc0;have hsh:=qa6 hc0;obtain⟨q1,q2,q3⟩:=ins_page ns es up at_;have hW:=W3_of hce;have hWp:Pl.W3 (Pl.qbo l):=(Pl.plain_fix (Pl.qcZ l) l hW (Nat.le_refl _)).2.1;have hpl:qbL l=Pl.qbo l:=by unfold qbL;rw[if_pos hce]
 have hd:qar w (.slice a ns.length c) ns:=by
  obtain⟨x,y,x2,y2,e,h,_⟩:=hp;injection e with e;injection e with e;injection e with e _;rw[e];exact h
 have hcell:∃b o,a=some ⟨b,o,none⟩∧∀i (h:i<ns.length),NdAt w b (o+i*5) ns[i]:=by
  obtain⟨a',c',e2,hnil|⟨b,o,ha,hc⟩⟩:=hd.1
  ·subst hnil;simp at h1n
  ·injection e2 with q _ _;exact⟨b,o,q.trans ha,hc⟩
 have hIx:qcI (if qax ns up at_ es=0 then Pl.qaq (qaO ns up at_ es) else []):=by
  split
  ·exact ix_ans _
  ·exact⟨by simp,by simp⟩
 constructor
 case pe=>
  intro W hW;have:=qdr _ ns ix W (hp.on hW) hix;rw[hpe]at this;exact this
 case ckl=>
  intro W hW;have:=qf8 W _ l (qcB.on hl hW);rw[hce]at this;exact this
 case od=>
  intro W hW;obtain⟨b,o,rfl,hc⟩:=hcell;refine(qgv b o c ns W h64 hsh (fun i hi=>(hc i hi).on hW)).mono ?_;rintro e w' ⟨v',rfl,hr,hb⟩;have hd':=hr.doc h64 hsh;obtain⟨a',c',rfl⟩:=hd'.form;exact⟨a',c',rfl,hd',hb⟩
 case ixo=>
  intro W hW;obtain⟨b,o,rfl,hc⟩:=hcell;refine(qdM b o c ns W h64 (fun x hx=>(hsh x hx).1) (fun i hi=>(hc i hi).on hW)).mono ?_;rintro e w' ⟨v',ps,rfl,hr,hm,hb⟩;have he':=hr.ens;rw[ref_idx hc0 hm,←hxi]at he';obtain⟨a',c',rfl⟩:=he'.form;exact⟨a',c',rfl,he',hb⟩
 case ol=>
  intro W hB;refine(ownC_3 W _ l (qcB.on hl hB) hW).mono ?_;rintro e w' ⟨a',c',rfl,hA,hb⟩;exact⟨a',c',rfl,sub3.sub hA (qav _ _),hb⟩
 case ins=>
  intro W hW;refine(qir _ ns ix up at_ _ es W (hp.on hW) hix (he.on hW)).mono ?_;rw[hpe];rintro e w' ⟨v,rfl,⟨hpg,hk⟩,hb⟩;rw[q2,q3]at hpg;obtain⟨a',c',i',k',rfl⟩:=hpg.form;obtain⟨dv,iv,e4,hdk,hik⟩:=hk;injection e4 with e4;injection e4 with e4;injection e4 with e4 e5;injection e5 with e5;subst e4 e5;exact⟨a',c',i',k',by rw[q1],hpg,hdk,hik,hb⟩
 case pl=>
  intro W hW;have:=qiv W _ l (qcB.on hl hW) (hF.on hW);rw[hpl,hce]at this;exact this
 case ri=>
  intro W hW;refine(refIns_any _ _ ns es up at_ W (hd.on hW) (he.on hW)).mono ?_;rintro e w' ⟨v',rfl,hd',hb⟩;obtain⟨a',c',rfl⟩:=hd'.form;exact⟨a',c',rfl,hd',hb⟩
 case po=>
  intro W a' c' hd';refine(pageOf_any _ _ (qax ns up at_ es) W hd' qgd).mono ?_;rintro e w' ⟨v,rfl,hpg,hb⟩;obtain⟨a',c',i',k',rfl⟩:=hpg.form;exact⟨a',c',i',k',rfl,hpg,hb⟩
 case lb=>exact fun W=>qdq W
 case s1=>exact fun W v1 v2 h1 h2=>qfm v1 v2 _ _ W h1 h2 hIx
 case s2=>exact fun W v1 v2 h1 h2=>qfm v1 v2 _ _ W h1 h2 hix
 case s3=>
  intro W v1 v2 h1 h2;have:=qg7 W v1 v2 l l h1 h2 hW hW;rw[show sm l l=true from decide_eq_true rfl]at this;exact this
 case s4=>
  intro W v1 v2 h1 h2;have:=qg7 W v1 v2 _ _ h1 h2 hWp hWp;rw[show sm (Pl.qbo l) (Pl.qbo l)=true from decide_eq_true rfl]at this;exact this
 case pf=>
  intro W hB;refine(qi4 dPlC_3 W _ l (qcB.on hl hB) hW).mono ?_;rintro e w' ⟨a',c',rfl,hA,hb⟩;exact⟨a',c',rfl,sub3.sub hA (qav _ _),hb⟩
theorem rest_bad1 (w:World)(a a2 a3 al:Option Addr)(c c2 c3 cl:Nat)(ns es:List Pl.Nd)(ix:List Pl.Er)(up at_:Int)(l:List Pl.D3)(hp:PgAt w (.agg #[.slice a ns.length c,.slice a2 ix.length c2]) ns ix)(hix:qcI ix)(hpe:¬qaw ns ix=0):
 Calls Tryz.prog 5 #[.agg #[.slice a ns.length c,.slice a2 ix.length c2],.int .i64 up,.int .i64 at_,.agg #[.slice a3 es.length c3],.slice al l.length cl] w fun e w'=>e=.returned (.bool true)∧Below w.heap.size w w':=by
 have hb0:=boxes w (.cells #[.slice a ns.length c,.slice a2 ix.length c2] 32) (.cells #[.slice a3 es.length c3] 24);have bP:Blk2 ((w.alloc (.cells #[.slice a ns.length c,.slice a2 ix.length c2] 32)).alloc (.cells #[.slice a3 es.length c3] 24)) w.heap.size (.slice a ns.length c) (.slice a2 ix.length c2):=(Blk2.new w _ _).on (qac _ _);obtain⟨⟨p0,p1⟩,-⟩:=bP.facts;have HC:Hid (Calls Tryz.prog 20 _ _ _):=qdr _ ns ix _ (hp.on hb0) hix;have HB0:Hid (Below w.heap.size w _):=hb0;have hne:(qaw ns ix !=0)=true:=by simpa using hpe
 generalize qaw ns ix=r at *;clear hp hb0 bP hpe;go_enter Tryz.func5,Tryz.ntmps5
 go_wp2_with fail
 refine HC.out.mono ?_;rintro e w1 ⟨rfl,hb1⟩;have HB1:Hid (Below w.heap.size w w1):=qaa HB0.out hb1;clear hb1 HB0 HC p0 p1
 go_wp2_with fail
 refine(qdq w1).mono ?_;rintro e w2 ⟨rfl,hb2⟩;have HB2:Hid (Below w.heap.size w w2):=qaa HB1.out hb2;clear hb2;go_wp2;go_ret;exact⟨rfl,HB2.out⟩
theorem rest_bad2 (w:World)(a a2 a3 al:Option Addr)(c c2 c3 cl:Nat)(ns es:List Pl.Nd)(ix:List Pl.Er)(up at_:Int)(l:List Pl.D3)(hp:PgAt w (.agg #[.slice a ns.length c,.slice a2 ix.length c2]) ns ix)(hix:qcI ix)(hl:A3 w (.slice al l.length cl) l)(hpe:qaw ns ix=0)(hce:¬qbs l=0):
 Calls Tryz.prog 5 #[.agg #[.slice a ns.length c,.slice a2 ix.length c2],.int .i64 up,.int .i64 at_,.agg #[.slice a3 es.length c3],.slice al l.length cl] w fun e w'=>e=.returned (.bool true)∧Below w.heap.size w w':=by
 have hb0:=boxes w (.cells #[.slice a ns.length c,.slice a2 ix.length c2] 32) (.cells #[.slice a3 es.length c3] 24);have bP:Blk2 ((w.alloc (.cells #[.slice a ns.length c,.slice a2 ix.length c2] 32)).alloc (.cells #[.slice a3 es.length c3] 24)) w.heap.size (.slice a ns.length c) (.slice a2 ix.length c2):=(Blk2.new w _ _).on (qac _ _);obtain⟨⟨p0,p1⟩,-⟩:=bP.facts;have hcon:=qdr _ ns ix _ (hp.on hb0) hix;rw[hpe]at hcon;have HC:Hid (Calls Tryz.prog 20 _ _ _):=hcon;have HL:Hid (∀W,Below w.heap.size w W→Calls Tryz.prog 21 #[.slice al l.length cl] W fun e w'=>e=.returned (.int .i64 (qbs l))∧Below W.heap.size W w'):=fun W hW=>qf8 W _ l (qcB.on hl hW)
 have HB0:Hid (Below w.heap.size w _):=hb0;have hne:(qbs l !=0)=true:=by simpa using hce
 generalize qbs l=r at *;clear hp hb0 bP hpe hce hl hcon;go_enter Tryz.func5,Tryz.ntmps5
 go_wp2_with fail
 refine HC.out.mono ?_;rintro e w1 ⟨rfl,hb1⟩;have HB1:Hid (Below w.heap.size w w1):=qaa HB0.out hb1;clear hb1 HB0 HC p0 p1
 go_wp2_with fail
 refine(HL.out w1 HB1.out).mono ?_;rintro e w2 ⟨rfl,hb2⟩;have HB2:Hid (Below w.heap.size w w2):=qaa HB1.out hb2;clear hb2 HB1 HL
 go_wp2_with fail
 refine(qdq w2).mono ?_;rintro e w3 ⟨rfl,hb3⟩;have HB3:Hid (Below w.heap.size w w3):=qaa HB2.out hb3;clear hb3;go_wp2;go_ret;exact⟨rfl,HB3.out⟩
theorem rest_law (v ev lv:Value)(ns es:List Pl.Nd)(ix:List Pl.Er)(up at_:Int)(l:List Pl.D3)(w:World)(hp:PgAt w v ns ix)(hix:qcI ix)(he:qar w ev es)(hl:A3 w lv l)(hF:qaL w):
 Calls Tryz.prog 5 #[v,.int .i64 up,.int .i64 at_,.agg #[ev],lv] w fun e w'=>e=.returned (.bool true)∧Below w.heap.size w w':=by
 obtain⟨a,c,a2,c2,rfl⟩:=hp.form;obtain⟨a3,c3,rfl⟩:=he.form;obtain⟨al,cl,rfl,-⟩:=qcB.form hl
 by_cases hpe:qaw ns ix=0
 ·by_cases hce:qbs l=0
  ·exact rest_walk _ _ _ _ _ _ _ _ _ _ _ _ _ _ _ _ _ _ _ _ (rest_con w a a2 a3 al c c2 c3 cl ns es ix up at_ l hp hix he hl hF hpe hce) hp hl
  ·exact rest_bad2 w a a2 a3 al c c2 c3 cl ns es ix up at_ l hp hix hl hpe hce
 ·exact rest_bad1 w a a2 a3 al c c2 c3 cl ns es ix up at_ l hp hix hpe
theorem cl55:Tryz.prog.cellsOf 40=1:=by kernel_rfl
theorem cl25:Tryz.prog.cellsOf 30=1:=by kernel_rfl
theorem cl24:Tryz.prog.cellsOf 24=1:=by kernel_rfl
theorem cl27:Tryz.prog.cellsOf 32=2:=by kernel_rfl
theorem cl81:Tryz.prog.cellsOf 61=3:=by kernel_rfl
theorem list3 {α:Type}{l:List α}(h:l.length=3):∃a b c,l=[a,b,c]:=by
 rcases l with _|⟨a,_|⟨b,_|⟨c,_|⟨d,r⟩⟩⟩⟩
 all_goals first|exact⟨_,_,_,rfl⟩|(simp at h;done)|(simp at h;omega)
section
variable {H:Type} {enc:TypeId×Value→H} {W:World} {held:Bool} {fuel:Nat} {cs:List Value} {x:DataW H×List MemPlace}
theorem ints_open (h:DataW.trod enc Tryz.prog W 0 (fun _=>true) held fuel 40 cs=some x):∃v ks,cs=[v]∧qbO W v ks∧ks.length≤maxLen:=by
 rcases ChangeShapes.open_ints Tryz.underlying40 Tryz.underlying3 cl3 h with ⟨rfl,_⟩|⟨a,len,cap,ss,rfl,_,hl,hm,hlen,_,hc,_⟩
 ·exact⟨_,[],rfl,⟨none,0,rfl,Or.inl rfl⟩,by simp⟩
 ·simp at hlen;have hL:(ss.take len).length=len:=by simp;omega
  refine⟨_,ss.take len,rfl,⟨some a,cap,by rw[hL],?_⟩,by omega⟩
  rcases Nat.eq_zero_or_pos len with h0|h0
  ·left;subst h0;simp
  ·right
   have ha:=qgw (by have:=hc 0 (by omega);rwa [add_zero]at this);refine⟨a.block,a.off,by rw[←ha],fun i hi=>?_⟩;rw[hL]at hi;have:=hc i (by omega);rw[ha,Addr.add_lit]at this;rw[this];simp[List.getD,List.getElem?_eq_getElem (show i<ss.length by omega)]
theorem entry_open {b o n:Nat}{cs':List Value}{y:DataW H×List MemPlace}(hb:∀i,i<3→W.cell? ⟨b,o+i,none⟩=cs'[i]?)(h:DataW.trod enc Tryz.prog W 0 (fun _=>true) held n 61 cs'=some y):∃e:Pl.Er,EnAt W b o e∧e.2.length≤maxLen:=by
 obtain⟨xs,m,_,_,hl,hlen,hf⟩:=DataW.trod_struct Tryz.underlying61 h;rw[cl81]at hl;obtain⟨v0,v1,v2,rfl⟩:=list3 hl;obtain⟨y0,y1,y2,rfl⟩:=list3 hlen;have f0:DataW.trod enc Tryz.prog W 0 (fun _=>true) held m 3 (([v0,v1,v2].drop 0).take (Tryz.prog.cellsOf 3))=some y0:=hf 0 _ rfl;rw[cl3]at f0;replace f0:DataW.trod enc Tryz.prog W 0 (fun _=>true) held m 3 [v0]=some y0:=f0;have f1:DataW.trod enc Tryz.prog W 0 (fun _=>true) held m 9 (([v0,v1,v2].drop 1).take (Tryz.prog.cellsOf 9))=some y1:=hf 1 _ rfl;rw[cl9]at f1;replace f1:DataW.trod enc Tryz.prog W 0 (fun _=>true) held m 9 [v1]=some y1:=f1;have f2:DataW.trod enc Tryz.prog W 0 (fun _=>true) held m 40 (([v0,v1,v2].drop 2).take (Tryz.prog.cellsOf 40))=some y2:=hf 2 _ rfl;rw[cl55]at f2;replace f2:DataW.trod enc Tryz.prog W 0 (fun _=>true) held m 40 [v2]=some y2:=f2;obtain⟨k,e0,_,_⟩:=DataW.trod_int Tryz.underlying3 f0;obtain⟨s1,e1,_,_⟩:=DataW.trod_string Tryz.underlying9 f1;obtain⟨w2,ks,e2,hs,ls⟩:=ints_open f2;injection e0 with e0 _;injection e1 with e1 _;injection e2 with e2 _;subst e0 e1 e2;exact⟨((k,s1.data.toList),ks),⟨v2,hb 0 (by omega),hb 1 (by omega),hb 2 (by omega),hs⟩,ls⟩
instance:Inhabited Pl.Er:=⟨((0,[]),[])⟩
theorem ens_open (h:DataW.trod enc Tryz.prog W 0 (fun _=>true) held fuel 30 cs=some x):∃v l,cs=[v]∧qbl W v l∧qcI l:=by
 rcases Deep.open_slice Tryz.underlying30 h with ⟨rfl,_⟩|⟨a,len,cap,m,n,D,PL,rfl,_,hl,hm,hmm,_,hc⟩
 ·exact⟨_,[],rfl,qbl.nil W,by simp,by simp⟩
 ·simp at hmm
  rcases Nat.eq_zero_or_pos len with h0|h0
  ·subst h0;exact⟨_,[],rfl,⟨some a,cap,rfl,Or.inl rfl⟩,by simp,by simp⟩
  have hcell:∀i,i<len→∃cs':List Value,(∀j,j<3→W.cell? ((a.add (i*3)).add j)=cs'[j]?)∧∃y,DataW.trod enc Tryz.prog W 0 (fun _=>true) held n 61 cs'=some y:=by
   intro i hi;obtain⟨cs',h1,h2⟩:=hc i (by omega);rw[cl81]at h1;obtain⟨_,h4,h3⟩:=World.cells?_some h1;exact⟨cs',fun j hj=>h3 j hj,_,h2⟩
  have ha:a=⟨a.block,a.off,none⟩:=by
   obtain⟨cs',h1,y,h2⟩:=hcell 0 h0;obtain⟨_,_,_,_,hl5,_⟩:=DataW.trod_struct Tryz.underlying61 h2;rw[cl81]at hl5;have h3:=h1 0 (by omega);rw[Nat.zero_mul,add_zero,add_zero,List.getElem?_eq_getElem (by omega)]at h3;exact qgw h3
  have hex:∀i,i<len→∃e:Pl.Er,EnAt W a.block (a.off+i*3) e∧e.2.length≤maxLen:=by
   intro i hi;obtain⟨cs',h1,y,h2⟩:=hcell i hi;refine entry_open (fun j hj=>?_) h2;have:=h1 j hj;rw[ha,Addr.add_lit,Addr.add_lit]at this;exact this
  obtain⟨f,hf⟩:=Deep.choose_lt hex;have hL:((List.range len).map f).length=len:=by simp
  refine⟨_,(List.range len).map f,rfl,⟨some a,cap,by rw[hL],Or.inr ⟨a.block,a.off,by rw[←ha],fun i hi=>?_⟩⟩,by omega,fun e he=>?_⟩
  ·rw[hL]at hi;simp only[List.getElem_map,List.getElem_range];exact(hf i hi).1
  ·obtain⟨i,hi,rfl⟩:=List.mem_map.1 he;exact(hf i (List.mem_range.1 hi)).2
end
end Go.Proofs.YtephhllfodlfbaaGreatDoor
namespace Go.Proofs.YtephhllfodlfbaaGreatDoor
open Go.ChangeShapes Go.WideShapes Go.ChangeAt Go.RowKit Go.Joins
theorem page_open {H:Type}{enc:TypeId×Value→H}{W:World}{r:Reach}{b0:Nat}{v:Value}{d:DataW H}{p:List MemPlace}(hv:Value.okWide Tryz.prog W r b0 32 v)(h:DataW.Trod enc Tryz.prog W 0 (fun _=>true) true 32 v d p):∃ns l,PgAt W v ns l∧qcI l:=by
 obtain⟨cs,rfl,_⟩:=okWide_struct Tryz.underlying32 hv;obtain⟨fuel,hf0⟩:=h;have hf1:DataW.trod enc Tryz.prog W 0 (fun _=>true) true fuel 32 cs.toList=some (d,p):=hf0;obtain⟨l⟩:=cs;obtain⟨xs,m,_,_,hl,hlen,hf⟩:=DataW.trod_struct Tryz.underlying32 hf1;rw[cl27]at hl;obtain⟨v0,v1,rfl⟩:=list2 hl;obtain⟨y0,y1,rfl⟩:=list2 hlen;have f0:DataW.trod enc Tryz.prog W 0 (fun _=>true) true m 24 (([v0,v1].drop 0).take (Tryz.prog.cellsOf 24))=some y0:=hf 0 _ rfl;rw[cl24]at f0;replace f0:DataW.trod enc Tryz.prog W 0 (fun _=>true) true m 24 [v0]=some y0:=f0;have f1:DataW.trod enc Tryz.prog W 0 (fun _=>true) true m 30 (([v0,v1].drop 1).take (Tryz.prog.cellsOf 30))=some y1:=hf 1 _ rfl;rw[cl25]at f1;replace f1:DataW.trod enc Tryz.prog W 0 (fun _=>true) true m 30 [v1]=some y1:=f1;obtain⟨y2,n2,_,_,h2⟩:=trod_struct1 Tryz.underlying24 f0;have h3:DataW.trod enc Tryz.prog W 0 (fun _=>true) true n2 22 (([v0].drop 0).take (Tryz.prog.cellsOf 22))=some y2:=h2;rw[d_cl22]at h3;obtain⟨u0,ns,e0,hd⟩:=nds_open h3;obtain⟨u1,l,e1,he,hx⟩:=ens_open f1;injection e0 with e0 _;injection e1 with e1 _;subst e0 e1;obtain⟨a,c,rfl⟩:=hd.form;obtain⟨a2,c2,rfl⟩:=he.form;exact⟨ns,l,⟨a,c,a2,c2,rfl,hd,he⟩,hx⟩
end Go.Proofs.YtephhllfodlfbaaGreatDoor
namespace Go.Proofs.YtephhllfodlfbaaGreatDoor
open Go.RowKit
theorem cl4f:Tryz.prog.cellsOf 4=1:=by kernel_rfl
theorem cl151:Tryz.prog.cellsOf 163=7:=by kernel_rfl
theorem list7 {α:Type}{l:List α}(h:l.length=7):∃a b c d e f g,l=[a,b,c,d,e,f,g]:=by
 match l,h with
 | [a,b,c,d,e,f,g],_=>exact⟨a,b,c,d,e,f,g,rfl⟩
section
variable {H:Type} {enc:TypeId×Value→H} {W:World} {base:Nat} {sp:Nat→Bool} {held:Bool} {fuel:Nat} {cs:List Value} {p:List MemPlace}
theorem form_vals {a b c d:Bool}{e f g:List UInt8}(h:DataW.trod enc Tryz.prog W base sp held fuel 163 cs=some (.agg [.lit (.bool a),.lit (.bool b),.lit (.bool c),.lit (.bool d),.lit (.string e),.lit (.string f),.lit (.string g)],p)):
 cs=[.bool a,.bool b,.bool c,.bool d,.string ⟨e.toArray⟩,.string ⟨f.toArray⟩,.string ⟨g.toArray⟩]:=by
 obtain⟨xs,m,_,hx,hl,hlen,hf⟩:=DataW.trod_struct Tryz.underlying163 h;rw[cl151]at hl;obtain⟨v0,v1,v2,v3,v4,v5,v6,rfl⟩:=list7 hl;obtain⟨y0,y1,y2,y3,y4,y5,y6,rfl⟩:=list7 hlen;have f0:DataW.trod enc Tryz.prog W base sp held m 4 (([v0,v1,v2,v3,v4,v5,v6].drop 0).take (Tryz.prog.cellsOf 4))=some y0:=hf 0 _ rfl;rw[cl4f]at f0;replace f0:DataW.trod enc Tryz.prog W base sp held m 4 [v0]=some y0:=f0;have f1:DataW.trod enc Tryz.prog W base sp held m 4 (([v0,v1,v2,v3,v4,v5,v6].drop 1).take (Tryz.prog.cellsOf 4))=some y1:=hf 1 _ rfl;rw[cl4f]at f1;replace f1:DataW.trod enc Tryz.prog W base sp held m 4 [v1]=some y1:=f1;have f2:DataW.trod enc Tryz.prog W base sp held m 4 (([v0,v1,v2,v3,v4,v5,v6].drop 2).take (Tryz.prog.cellsOf 4))=some y2:=hf 2 _ rfl;rw[cl4f]at f2;replace f2:DataW.trod enc Tryz.prog W base sp held m 4 [v2]=some y2:=f2;have f3:DataW.trod enc Tryz.prog W base sp held m 4 (([v0,v1,v2,v3,v4,v5,v6].drop 3).take (Tryz.prog.cellsOf 4))=some y3:=hf 3 _ rfl;rw[cl4f]at f3;replace f3:DataW.trod enc Tryz.prog W base sp held m 4 [v3]=some y3:=f3;have f4:DataW.trod enc Tryz.prog W base sp held m 9 (([v0,v1,v2,v3,v4,v5,v6].drop 4).take (Tryz.prog.cellsOf 9))=some y4:=hf 4 _ rfl;rw[cl9]at f4;replace f4:DataW.trod enc Tryz.prog W base sp held m 9 [v4]=some y4:=f4;have f5:DataW.trod enc Tryz.prog W base sp held m 9 (([v0,v1,v2,v3,v4,v5,v6].drop 5).take (Tryz.prog.cellsOf 9))=some y5:=hf 5 _ rfl;rw[cl9]at f5;replace f5:DataW.trod enc Tryz.prog W base sp held m 9 [v5]=some y5:=f5;have f6:DataW.trod enc Tryz.prog W base sp held m 9 (([v0,v1,v2,v3,v4,v5,v6].drop 6).take (Tryz.prog.cellsOf 9))=some y6:=hf 6 _ rfl;rw[cl9]at f6;replace f6:DataW.trod enc Tryz.prog W base sp held m 9 [v6]=some y6:=f6;obtain⟨b0,e0,rfl⟩:=DataW.trod_bool Tryz.underlying4 f0;obtain⟨b1,e1,rfl⟩:=DataW.trod_bool Tryz.underlying4 f1;obtain⟨b2,e2,rfl⟩:=DataW.trod_bool Tryz.underlying4 f2;obtain⟨b3,e3,rfl⟩:=DataW.trod_bool Tryz.underlying4 f3;obtain⟨s4,e4,rfl,_⟩:=DataW.trod_string Tryz.underlying9 f4;obtain⟨s5,e5,rfl,_⟩:=DataW.trod_string Tryz.underlying9 f5;obtain⟨s6,e6,rfl,_⟩:=DataW.trod_string Tryz.underlying9 f6;injection e0 with e0 _;injection e1 with e1 _;injection e2 with e2 _;injection e3 with e3 _;injection e4 with e4 _;injection e5 with e5 _;injection e6 with e6 _;subst e0 e1 e2 e3 e4 e5 e6;have hx1:=congrArg Prod.fst hx;simp only[List.map_cons,List.map_nil,DataW.agg.injEq,List.cons.injEq,DataW.lit.injEq,Lit.bool.injEq,Lit.string.injEq,and_true]at hx1;obtain⟨rfl,rfl,rfl,rfl,rfl,rfl,rfl⟩:=hx1;simp
end
def fD (k:Nat):DataW Unit:=.agg [.lit (.bool (Pl.qeh k)),.lit (.bool (Pl.qdv k)),.lit (.bool (Pl.kNth k)),.lit (.bool (Pl.qbb k)),.lit (.string (fBegin k)),.lit (.string (fSign k)),.lit (.string (fEnd k))]
theorem forms_data:(Rows.laid_pathfindery_path_forms:DataW Unit)=.agg ((List.range 16).map fD):=by kernel_rfl
theorem gForms:Tryz.prog.globalNamed "pathfindery/path.forms" =some 0:=by kernel_rfl
theorem tForms:(Tryz.prog.globals[0]?).map (·.type)=some 164:=by kernel_rfl
theorem at_k {xs:List (DataW Unit×List MemPlace)}{n:Nat}{g:Nat→DataW Unit}(h:xs.map (·.1)=(List.range n).map g){k:Nat}(hk:k<n):∃p,xs[k]? =some (g k,p):=by
 have:(xs.map (·.1))[k]? =some (g k):=by rw[h];simp[hk]
 rw[List.getElem?_map,Option.map_eq_some_iff]at this;obtain⟨⟨y,p⟩,h1,h2⟩:=this;exact⟨p,by rw[h1];simp only at h2;rw[h2]⟩
theorem forms_of {W:World}{r:List (String×DataW Unit)}(h:laidMet Tryz.prog (("pathfindery/path.forms",Rows.laid_pathfindery_path_forms)::r) W):qaL W:=by
 rw[forms_data]at h;obtain⟨ps,⟨g,t,cs,fuel,p,q,hg,ht,hvar,hd,_,_⟩,_⟩:=h;obtain rfl:=Option.some.inj (gForms.symm.trans hg);obtain rfl:=Option.some.inj (tForms.symm.trans ht);obtain⟨xs,m,_,hx,hl,hlen,hf⟩:=DataW.trod_array Tryz.underlying164 hd;have hx1:=congrArg Prod.fst hx;simp only[DataW.agg.injEq]at hx1;intro k hk;obtain⟨p',hk'⟩:=at_k hx1.symm (k:=k) (by omega);have hf':=hf k (by omega);rw[hk',cl151]at hf';have hv:=form_vals hf'
 have hget:∀(j:Nat),j<7→W.cell? ⟨0,k*7+j,none⟩=((cs.toList.drop (k*7)).take 7)[j]? :=by
  intro j hj;rw[World.var?_cell gForms hvar,List.getElem?_take_of_lt hj,List.getElem?_drop,Array.getElem?_toList]
 rw[hv]at hget;exact⟨hget 0 (by omega),hget 1 (by omega),hget 2 (by omega),hget 3 (by omega),hget 4 (by omega),hget 5 (by omega),hget 6 (by omega)⟩
def filled (vs:List Value):Obj→Obj
 | .cells _ t frozen=> .cells vs.toArray t frozen
 | o=>o
def formsV:List Value:=(List.range 16).flatMap fun(k:Nat)=>[.bool (Pl.qeh k),.bool (Pl.qdv k),.bool (Pl.kNth k),.bool (Pl.qbb k),.string ⟨(fBegin k).toArray⟩,.string ⟨(fSign k).toArray⟩,.string ⟨(fEnd k).toArray⟩]
def laidIn (w:World):World:={ w with heap:=w.heap.modify 0 (filled formsV) }
end Go.Proofs.YtephhllfodlfbaaGreatDoor
