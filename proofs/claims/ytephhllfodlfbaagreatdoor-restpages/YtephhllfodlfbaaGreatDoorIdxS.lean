/-
  path's every, at the three levels.
-/
import Derived.Test.YtephhllfodlfbaaGreatDoorPkB
import Derived.Test.YtephhllfodlfbaaGreatDoorRefK
import Derived.RangeFuncBox
import Derived.Deep.RegionLaw
import Derived.Laws.MakeOwn
import Derived.Laws.OwnMore
import Derived.Shelf.Small.Bits
import Derived.Shelf.Small.Wraps
import Derived.Shelf.Strconv.Itoa0
import Derived.Shelf.Strings.Search1
import Derived.Shelf.Strings.Search2
import Derived.Shelf.Strings.Search3
import Derived.Shelf.LaysM
import Derived.Shelf.Strings.Shaped
import Derived.Shelf.Strings.Prefix
import Derived.Shelf.Unicode.Decode
import Derived.Shelf.Unicode.DecodeSlow
import Derived.Shelf.Unicode.DecodeAny
import Derived.Shelf.Slices.Turned
import Derived.Shelf.Slices.Equal
import Derived.Ground.Names2Prog
import Derived.Shelf.Slices.SearchI
import Derived.Shelf.Slices.Empties2
import Derived.WalkMore
import Derived.Test.YtephhllfodlfbaaGreatDoorRows
import Derived.Lib.LaidTab
import Derived.Stop.LaidErr
import Derived.LaidLaws
import Derived.Shelf.Vars
set_option maxRecDepth 100000
set_option maxHeartbeats 16000000
namespace Go.Proofs.YtephhllfodlfbaaGreatDoor
open Go.RowKit Go.Shelf
theorem ent95 (args:Array Value)(W:World):(callFunc 95 args).run Tryz.prog W=.ok (.enter 95 args) W:=enters_of Tryz.func95 (by kernel_rfl) rfl args W
theorem ent96 (args:Array Value)(W:World):(callFunc 96 args).run Tryz.prog W=.ok (.enter 96 args) W:=enters_of Tryz.func96 (by kernel_rfl) rfl args W
theorem ent97 (args:Array Value)(W:World):(callFunc 97 args).run Tryz.prog W=.ok (.enter 97 args) W:=enters_of Tryz.func97 (by kernel_rfl) rfl args W
theorem qiH {α:Type}{p:Pl.Pth α}{t:Pl.Tst α}(h:t∈p.tests):∃s∈p.steps,t∈s.tests:=by
 unfold Pl.Pth.tests at h;exact List.mem_flatMap.1 h
theorem qb9 {α:Type}{ok:List α→Prop}{l:List (Pl.Pth α)}(h:Inner ok l):∀p∈l,∀t∈p.tests,Pl.qbb t.kind=true→ok t.list:=fun p hp t ht hk=>by
 obtain⟨s,hs,hts⟩:=qiH ht;exact h p hp s hs t hts hk
theorem qcD {α:Type}{g:List α→Bool}{l:List (Pl.Pth α)}(h:Pl.evUp Pl.qbh g l=true):∀p∈l,∀t∈p.tests,Pl.isKind t.kind=true:=fun p hp t ht=>by
 unfold Pl.evUp at h;rw[List.all_eq_true]at h;have h1:=h p hp;rw[Bool.and_eq_true]at h1;have h2:=h1.1;unfold Pl.qbh at h2;rw[Bool.and_eq_true,List.all_eq_true,List.all_eq_true]at h2;exact h2.2 t ht
theorem qdo {α:Type}{g:List α→Bool}{l:List (Pl.Pth α)}(h:Pl.evUp Pl.qbh g l=true):∀p∈l,∀t∈p.tests,Pl.qbb t.kind=true→g t.list=true:=fun p hp t ht hk=>by
 unfold Pl.evUp at h;rw[List.all_eq_true]at h;have h1:=h p hp;rw[Bool.and_eq_true]at h1;have h2:=h1.2;unfold Pl.inner at h2;rw[List.all_eq_true]at h2;have h3:=h2 t ht;rw[hk]at h3;exact h3
abbrev P1:List Pl.D1→Prop:=fun l=>Pl.qbd (fun _=>false) l=true
abbrev P2:List Pl.D2→Prop:=fun l=>Pl.qbd (Pl.qbd fun _=>false) l=true
abbrev Q1:List Pl.D1→Prop:=fun l=>P1 l∧Pl.evUp Pl.qbh (fun _=>true) l=true
abbrev Q2:List Pl.D2→Prop:=fun l=>P2 l∧Pl.evUp Pl.qbh (Pl.evUp Pl.qbh fun _=>true) l=true
theorem evKinds_3 (w:World)(v:Value)(l:List Pl.D3)(h:A3 w v l)(hF:qaL w)(hf:Pl.fit3 l=true):Calls Tryz.prog 94 #[v,.func (.func 95) #[] #[]] w fun e w'=>e=.returned (.bool (Pl.kind3 l))∧Below w.heap.size w w':=
 qcz 95 ent95 qdJ Pl.qbh (fun _=>True) P2 _ (fun W v u p hs hu _ _=>qdF qdJ v u p W hs hu)
  (fun w v l h hF hl=>qcz 95 ent95 qdA Pl.qbh (fun _=>True) P1 _ (fun W v u p hs hu _ _=>qdF qdA v u p W hs hu)
   (fun w v l h hF hl=>qcz 95 ent95 qcP Pl.qbh (fun _=>True) (fun _=>False) (fun _=>true) (fun W v u p hs hu _ _=>qdF qcP v u p W hs hu) (fun _ _ _ _ _ hx=>hx.elim) w v l h hF (fun _ _=>trivial) (qb9 (ok:=fun _=>False) (qa5 hl fun _ hx=>by cases hx)))
   w v l h hF (fun _ _=>trivial) (qb9 (qa5 hl fun _ hx=>hx)))
  w v l h hF (fun _ _=>trivial) (qb9 (qa5 hf fun _ hx=>hx))
theorem evForms_3 (w:World)(v:Value)(l:List Pl.D3)(h:A3 w v l)(hF:qaL w)(hf:Pl.fit3 l=true)(hk:Pl.kind3 l=true):Calls Tryz.prog 94 #[v,.func (.func 96) #[] #[]] w fun e w'=>e=.returned (.bool (Pl.qeK l))∧Below w.heap.size w w':=
 qcz 96 ent96 qdJ _ (fun p=>∀t∈p.tests,Pl.isKind t.kind=true) Q2 _ (fun W v u p hs hu hF hp=>qeu qdJ v u p W hs hu hF hp)
  (fun w v l h hF hl=>qcz 96 ent96 qdA _ (fun p=>∀t∈p.tests,Pl.isKind t.kind=true) Q1 _ (fun W v u p hs hu hF hp=>qeu qdA v u p W hs hu hF hp)
   (fun w v l h hF hl=>qcz 96 ent96 qcP _ (fun p=>∀t∈p.tests,Pl.isKind t.kind=true) (fun _=>False) (fun _=>true) (fun W v u p hs hu hF hp=>qeu qcP v u p W hs hu hF hp) (fun _ _ _ _ _ hx=>hx.elim) w v l h hF (qcD hl.2) (qb9 (ok:=fun _=>False) (qa5 hl.1 fun _ hx=>by cases hx)))
   w v l h hF (qcD hl.2) (fun p hp t ht hkl=>⟨qb9 (qa5 hl.1 fun _ hx=>hx) p hp t ht hkl,qdo hl.2 p hp t ht hkl⟩))
  w v l h hF (qcD hk) (fun p hp t ht hkl=>⟨qb9 (ok:=P2) (qa5 hf fun _ hx=>hx) p hp t ht hkl,qdo hk p hp t ht hkl⟩)
def cnt3:List Pl.D3→Bool:=Pl.evUp (Pl.qey nB) (Pl.evUp (Pl.qey nB) (Pl.evUp (Pl.qey nB) fun _=>true))
theorem evCounts_3 (w:World)(v:Value)(l:List Pl.D3)(h:A3 w v l)(hF:qaL w)(hf:Pl.fit3 l=true)(hk:Pl.kind3 l=true):Calls Tryz.prog 94 #[v,.func (.func 97) #[] #[]] w fun e w'=>e=.returned (.bool (cnt3 l))∧Below w.heap.size w w':=
 qcz 97 ent97 qdJ _ (fun p=>∀t∈p.tests,Pl.isKind t.kind=true) Q2 _ (fun W v u p hs hu hF hp=>qdt qdJ v u p W hs hu hF hp)
  (fun w v l h hF hl=>qcz 97 ent97 qdA _ (fun p=>∀t∈p.tests,Pl.isKind t.kind=true) Q1 _ (fun W v u p hs hu hF hp=>qdt qdA v u p W hs hu hF hp)
   (fun w v l h hF hl=>qcz 97 ent97 qcP _ (fun p=>∀t∈p.tests,Pl.isKind t.kind=true) (fun _=>False) (fun _=>true) (fun W v u p hs hu hF hp=>qdt qcP v u p W hs hu hF hp) (fun _ _ _ _ _ hx=>hx.elim) w v l h hF (qcD hl.2) (qb9 (ok:=fun _=>False) (qa5 hl.1 fun _ hx=>by cases hx)))
   w v l h hF (qcD hl.2) (fun p hp t ht hkl=>⟨qb9 (qa5 hl.1 fun _ hx=>hx) p hp t ht hkl,qdo hl.2 p hp t ht hkl⟩))
  w v l h hF (qcD hk) (fun p hp t ht hkl=>⟨qb9 (ok:=P2) (qa5 hf fun _ hx=>hx) p hp t ht hkl,qdo hk p hp t ht hkl⟩)
end Go.Proofs.YtephhllfodlfbaaGreatDoor
namespace Go.Proofs.YtephhllfodlfbaaGreatDoor
open Go.RowKit
def chkP (l:List Pl.D3):Int:=Pl.pick4 (Pl.fit3 l) (Pl.kind3 l) (Pl.qeK l) (cnt3 l)
theorem check_pick (w:World)(v:Value)(l:List Pl.D3)(h:A3 w v l)(hF:qaL w):Calls Tryz.prog 44 #[v] w fun e w'=>e=.returned (.int .i64 (chkP l))∧Below w.heap.size w w':=by
 obtain⟨a,c,rfl,-⟩:=qcB.form h;have HH:Hid (∀W,Below w.heap.size w W→A3 W (.slice a l.length c) l):=fun W hW=>qcB.on h hW
 have HM:=fun W hW=>fits_3 W _ l (HH.out W hW) (hF.on hW)
 have HK:=fun W hW=>evKinds_3 W _ l (HH.out W hW) (hF.on hW)
 have HO:=fun W hW=>evForms_3 W _ l (HH.out W hW) (hF.on hW)
 have HN:=fun W hW=>evCounts_3 W _ l (HH.out W hW) (hF.on hW)
 have HC:Hid (chkP l=Pl.pick4 (Pl.fit3 l) (Pl.kind3 l) (Pl.qeK l) (cnt3 l)):=rfl;generalize chkP l=E at *;obtain⟨bm,hbm⟩:∃x,Pl.fit3 l=x:=⟨_,rfl⟩
 obtain⟨bk,hbk⟩:∃x,Pl.kind3 l=x:=⟨_,rfl⟩
 obtain⟨bo,hbo⟩:∃x,Pl.qeK l=x:=⟨_,rfl⟩
 obtain⟨bn,hbn⟩:∃x,cnt3 l=x:=⟨_,rfl⟩
 simp only[hbm,hbk,hbo,hbn]at HM HK HO HN HC;have HM':Hid _:=HM;have HK':Hid _:=HK;have HO':Hid _:=HO;have HN':Hid _:=HN;clear HM HK HO HN h hF hbm hbk hbo hbn HH;go_enter Tryz.func44,Tryz.ntmps44
 go_wp2_with fail
 refine(HM'.out _ (Below.refl _ _)).mono ?_;rintro e w1 ⟨rfl,h1⟩;have HB:Hid (Below w.heap.size w w1):=h1;clear h1
 cases bm with
 | false=>
  have HE:Hid (E=2):=HC.out;go_wp2;go_ret;exact⟨by rw[HE.out];rfl,HB.out⟩
 | true=>
  go_wp2_with fail
  refine(HK'.out _ HB.out (by first|rfl|trivial)).mono ?_;rintro e w2 ⟨rfl,h1⟩;replace HB:Hid (Below w.heap.size w w2):=qaa HB.out h1;clear h1
  cases bk with
  | false=>
   have HE:Hid (E=4):=HC.out;go_wp2;go_ret;exact⟨by rw[HE.out];rfl,HB.out⟩
  | true=>
   go_wp2_with fail
   refine(HO'.out _ HB.out (by first|rfl|trivial) (by first|rfl|trivial)).mono ?_;rintro e w3 ⟨rfl,h1⟩;replace HB:Hid (Below w.heap.size w w3):=qaa HB.out h1;clear h1
   cases bo with
   | false=>
    have HE:Hid (E=1):=HC.out;go_wp2;go_ret;exact⟨by rw[HE.out];rfl,HB.out⟩
   | true=>
    go_wp2_with fail
    refine(HN'.out _ HB.out (by first|rfl|trivial) (by first|rfl|trivial)).mono ?_;rintro e w4 ⟨rfl,h1⟩;replace HB:Hid (Below w.heap.size w w4):=qaa HB.out h1;clear h1
    cases bn with
    | false=>
     have HE:Hid (E=3):=HC.out;go_wp2;go_ret;exact⟨by rw[HE.out];rfl,HB.out⟩
    | true=>
     have HE:Hid (E=0):=HC.out;go_wp2;go_ret;exact⟨by rw[HE.out];rfl,HB.out⟩
theorem nB_zero:nB 0 0=true:=by decide
theorem cnt_test {α:Type}{c n:List α→Bool}(t:Pl.Tst α)(hf:tF t=true)(hc:Pl.qbb t.kind=true→c t.list=n t.list)(h0:n []=true):(cntT t&&(!Pl.qbb t.kind||c t.list))=nthT n t:=by
 unfold tF Pl.qcq at hf;simp only[Bool.and_eq_true]at hf;obtain⟨⟨_,h3⟩,h4⟩:=hf;unfold cntT nthT
 cases hl:Pl.qbb t.kind with
 | true=>
  have hn:Pl.kNth t.kind=false:=by
   simp[Pl.qbb,Pl.kNth]at hl ⊢;omega
  rw[hn]at h3 ⊢;have hz:t.a=0∧t.b=0:=by simpa using h3
  rw[hz.1,hz.2,nB_zero,hc hl];rfl
 | false=>
  rw[hl]at h4;have hz:t.list.length=0:=by simpa using h4
  rw[List.length_eq_zero_iff.1 hz,h0]
  cases hn:Pl.kNth t.kind with
  | true=>simp
  | false=>
   rw[hn]at h3;have hz:t.a=0∧t.b=0:=by simpa using h3
   rw[hz.1,hz.2,nB_zero];rfl
theorem all_eq {β:Type}{l:List β}{f g:β→Bool}(h:∀x∈l,f x=g x):l.all f=l.all g:=by
 rw[Bool.eq_iff_iff,List.all_eq_true,List.all_eq_true];exact⟨fun k x hx=>by rw[←h x hx];exact k x hx,fun k x hx=>by rw[h x hx];exact k x hx⟩
theorem forms_path {α:Type}{g:List α→Bool}{l:List (Pl.Pth α)}(h:Pl.evUp (Pl.qc7 Pl.qaj Pl.qao) g l=true):∀p∈l,∀t∈p.tests,tF t=true∧(Pl.qbb t.kind=true→g t.list=true):=fun p hp t ht=>by
 rw[form_eq,List.all_eq_true]at h;have h1:=h p hp;unfold formP at h1;rw[List.all_eq_true]at h1;obtain⟨s,hs,hts⟩:=qiH ht;have h2:=h1 s hs;unfold formS at h2;rw[Bool.and_eq_true,List.all_eq_true]at h2;have h3:=h2.2 t hts;unfold qbM at h3;rw[Bool.and_eq_true]at h3;refine⟨h3.1,fun hk=>?_⟩;have:=h3.2;rw[hk]at this;exact this
theorem qgq {α:Type}{g c n:List α→Bool}{l:List (Pl.Pth α)}(h:Pl.evUp (Pl.qc7 Pl.qaj Pl.qao) g l=true)(hc:∀m,g m=true→c m=n m)(h0:n []=true):Pl.evUp (Pl.qey nB) c l=nthL n l:=by
 unfold Pl.evUp nthL;refine all_eq fun p hp=>?_
 have e1:(Pl.qey nB p&&Pl.inner c p)=p.tests.all fun t=>cntT t&&(!Pl.qbb t.kind||c t.list):=qht _ _ _
 have e2:nthP n p=p.tests.all (nthT n):=(qf9 p (nthT n)).symm;rw[e1,e2];refine all_eq fun t ht=>?_
 obtain⟨h1,h2⟩:=forms_path h p hp t ht;exact cnt_test t h1 (fun hk=>hc _ (h2 hk)) h0
theorem cnt3_eq {l:List Pl.D3}(h:Pl.qeK l=true):cnt3 l=nth3 l:=by
 refine qgq h (fun m hm=>?_) rfl;refine qgq hm (fun m hm=>?_) rfl;exact qgq hm (fun m _=>rfl) rfl
theorem chk_eq (l:List Pl.D3):chkP l=qbs l:=by
 unfold chkP qbs
 cases h:Pl.qeK l with
 | true=>rw[cnt3_eq h]
 | false=>unfold Pl.pick4;rfl
theorem qg6 (w:World)(v:Value)(l:List Pl.D3)(h:A3 w v l)(hF:qaL w):Calls Tryz.prog 44 #[v] w fun e w'=>e=.returned (.int .i64 (qbs l))∧Below w.heap.size w w':=by
 rw[←chk_eq];exact check_pick w v l h hF
end Go.Proofs.YtephhllfodlfbaaGreatDoor
namespace Go.Proofs.YtephhllfodlfbaaGreatDoor
open Go.RowKit Go.Shelf
attribute [local go_sem] Oper.semAt_some
attribute [local go_sem] Oper.semAt_some
end Go.Proofs.YtephhllfodlfbaaGreatDoor
namespace Go.Proofs.YtephhllfodlfbaaGreatDoor
open Go.RowKit
theorem dozen_on {w W w':World}{p0 p1 p2 p3 p4 p5 p6 p7 p8 p9 p10 p11:Addr}{v0 v1 v2 v3 v4 v5 v6 v7 v8 v9 v10 v11:Value}(h:W.cell? p0=some v0∧W.cell? p1=some v1∧W.cell? p2=some v2∧W.cell? p3=some v3∧W.cell? p4=some v4∧W.cell? p5=some v5∧W.cell? p6=some v6∧W.cell? p7=some v7∧W.cell? p8=some v8∧W.cell? p9=some v9∧W.cell? p10=some v10∧W.cell? p11=some v11∧Below w.heap.size w W)(hb:Below W.heap.size W w'):w'.cell? p0=some v0∧w'.cell? p1=some v1∧w'.cell? p2=some v2∧w'.cell? p3=some v3∧w'.cell? p4=some v4∧w'.cell? p5=some v5∧w'.cell? p6=some v6∧w'.cell? p7=some v7∧w'.cell? p8=some v8∧w'.cell? p9=some v9∧w'.cell? p10=some v10∧w'.cell? p11=some v11∧Below w.heap.size w w':=
 ⟨qab hb h.1,qab hb h.2.1,qab hb h.2.2.1,qab hb h.2.2.2.1,qab hb h.2.2.2.2.1,qab hb h.2.2.2.2.2.1,qab hb h.2.2.2.2.2.2.1,qab hb h.2.2.2.2.2.2.2.1,qab hb h.2.2.2.2.2.2.2.2.1,qab hb h.2.2.2.2.2.2.2.2.2.1,qab hb h.2.2.2.2.2.2.2.2.2.2.1,qab hb h.2.2.2.2.2.2.2.2.2.2.2.1,qaa h.2.2.2.2.2.2.2.2.2.2.2.2 hb⟩
theorem dozen_last {w W:World}{p0 p1 p2 p3 p4 p5 p6 p7 p8 p9 p10 p11:Addr}{v0 v1 v2 v3 v4 v5 v6 v7 v8 v9 v10 v11:Value}(h:W.cell? p0=some v0∧W.cell? p1=some v1∧W.cell? p2=some v2∧W.cell? p3=some v3∧W.cell? p4=some v4∧W.cell? p5=some v5∧W.cell? p6=some v6∧W.cell? p7=some v7∧W.cell? p8=some v8∧W.cell? p9=some v9∧W.cell? p10=some v10∧W.cell? p11=some v11∧Below w.heap.size w W):W.cell? p0=some v0∧W.cell? p1=some v1∧Below w.heap.size w W:=⟨h.1,h.2.1,h.2.2.2.2.2.2.2.2.2.2.2.2⟩
def qaC:List Pl.Nd:=
 [⟨-1,[108,105,115,116],[116,111,112],[],[]⟩,⟨0,[105,116,101,109],[],[[97]],[]⟩,⟨0,[105,116,101,109],[],[[98]],[]⟩,⟨2,[108,105,110,107],[],[],[([116,111],[111,110,101,32,116,119,111])]⟩,⟨0,[105,116,101,109],[],[[97]],[]⟩]
theorem qfC (w:World):qa1 w (.slice none 0 0) []:=⟨none,0,rfl,Or.inl rfl⟩
theorem qff (w:World):qbY w (.slice none 0 0) []:=⟨none,0,rfl,Or.inl rfl⟩
theorem qhM {w:World}{b c:Nat}{s:List UInt8}(h:w.cell? ⟨b,0,none⟩=some (.string ⟨s.toArray⟩)):qa1 w (.slice (some ⟨b,0,none⟩) 1 c) [s]:=by
 refine⟨_,c,rfl,Or.inr ⟨b,0,rfl,fun i hi=>?_⟩⟩
 match i,hi with
 | 0,_=>exact h
theorem ats_one {w:World}{b c:Nat}{s t:List UInt8}(h:w.cell? ⟨b,0,none⟩=some (.string ⟨s.toArray⟩))(h2:w.cell? ⟨b,1,none⟩=some (.string ⟨t.toArray⟩)):qbY w (.slice (some ⟨b,0,none⟩) 1 c) [(s,t)]:=by
 refine⟨_,c,rfl,Or.inr ⟨b,0,rfl,fun i hi=>?_⟩⟩
 match i,hi with
 | 0,_=>exact⟨h,h2⟩
theorem small_any (w:World):Calls Tryz.prog 78 #[] w fun e w'=>∃v,e=.returned (.agg #[v])∧qar w' v qaC∧Below w.heap.size w w':=by
 go_enter Tryz.func78,Tryz.ntmps78;go_wp2
 refine bodyPost_ret (v:=.agg #[.slice (some ⟨w.heap.size+1+1+1+1+1,0,none⟩) 5 5]) (by simp[results,Tryz.results78,go_sem]) rfl
  ⟨_,rfl,⟨⟨_,5,rfl,Or.inr ⟨_,0,rfl,fun i hi=>?_⟩⟩,⟨_,_,_,rfl,Nat.le_refl _,by decide⟩,by decide,fun i hi=>?_⟩,?_⟩
 ·match i,hi with
  | 0,_=>exact⟨_,_,by simp[go_sem,qaC],by simp[go_sem,qaC],by simp[go_sem,qaC],by simp[go_sem],by simp[go_sem],qfC _,qff _⟩
  | 1,_=>exact⟨.slice (some ⟨w.heap.size+1,0,none⟩) 1 1,.slice none 0 0,by simp[go_sem,qaC],by simp[go_sem,qaC],by simp[go_sem,qaC],by simp[go_sem],by simp[go_sem],qhM (by simp[go_sem]),qff _⟩
  | 2,_=>exact⟨.slice (some ⟨w.heap.size+1+1,0,none⟩) 1 1,.slice none 0 0,by simp[go_sem,qaC],by simp[go_sem,qaC],by simp[go_sem,qaC],by simp[go_sem],by simp[go_sem],qhM (by simp[go_sem]),qff _⟩
  | 3,_=>exact⟨.slice none 0 0,.slice (some ⟨w.heap.size+1+1+1,0,none⟩) 1 1,by simp[go_sem,qaC],by simp[go_sem,qaC],by simp[go_sem,qaC],by simp[go_sem],by simp[go_sem],qfC _,ats_one (by simp[go_sem]) (by simp[go_sem])⟩
  | 4,_=>exact⟨.slice (some ⟨w.heap.size+1+1+1+1,0,none⟩) 1 1,.slice none 0 0,by simp[go_sem,qaC],by simp[go_sem,qaC],by simp[go_sem,qaC],by simp[go_sem],by simp[go_sem],qhM (by simp[go_sem]),qff _⟩
 ·have h:∀x∈qaC,x.cls.length≤6∧x.ats.length≤4:=by decide
  have:=h _ (List.getElem_mem hi);exact⟨by unfold maxLen;omega,by unfold maxLen;omega⟩
 ·exact qaa (qdg w _ _ _) (qdg _ _ _ _)
def qc8 (w w':World):Prop:=∃m,w'=w.drewN m
theorem qc8.refl (w:World):qc8 w w:=⟨0,rfl⟩
theorem qc8.next {w w':World}(h:qc8 w w')(n:Nat):qc8 w (w'.drewN n):=by
 obtain⟨m,rfl⟩:=h;exact⟨m+n,by rw[World.drewN_drewN]⟩
theorem qc8.below {w w':World}(h:qc8 w w'):Below w.heap.size w w':=by
 obtain⟨m,rfl⟩:=h;exact below_drewN (Below.refl _ _) m
def qda (ks ls:List Int):Bool:=decide (ks=ls)
theorem qeM {α:Type}{ks ls:List α}{k:Nat}(h1:k<ks.length)(h2:k<ls.length)(h:ks.take k=ls.take k)(he:ks[k]=ls[k]):ks.take (k+1)=ls.take (k+1):=by
 rw[List.take_succ_eq_append_getElem h1,List.take_succ_eq_append_getElem h2,h,he]
theorem qia (v1 v2:Value)(ks ls:List Int)(w:World)(hl:ks.length≤maxLen)(h1:qbO w v1 ks)(h2:qbO w v2 ls):
 Calls Tryz.prog 13 #[v1,v2] w fun e w'=>e=.returned (.bool (qda ks ls))∧qc8 w w':=by
 obtain⟨a1,c1,rfl,h1⟩:=h1;obtain⟨a2,c2,rfl,h2⟩:=h2;have H1:Hid _:=h1;have H2:Hid _:=h2;clear h1 h2;unfold maxLen at hl
 by_cases hlen:ks.length=ls.length
 ·have hle:((ks.length:Int)==(ls.length:Int))=true:=by simp;omega
  have hle2:((ks.length:Int) !=(ls.length:Int))=false:=by simp;omega
  go_enter Tryz.func13,Tryz.ntmps13;go_wp2
  go_loopw [5] (fun i wr=>∃k:Nat,k≤ks.length∧i=.int .i64 k∧Hid (ks.take k=ls.take k)∧Hid (qc8 w wr)) (fun i _=>ks.length-(intOf i).toNat)
  case atStart=>exact⟨0,Nat.zero_le _,rfl,by simp[Hid],qc8.refl _⟩
  case round=>
   obtain⟨k,hk,rfl,ht,hD⟩:=hrel;have hB:=hD.out.below
   by_cases hlt:k<ks.length
   ·have hlt2:k<ls.length:=by omega
    rcases H1.out with h0|⟨b,o,rfl,hc⟩
    ·subst h0;simp at hlt
    rcases H2.out with h0|⟨b2,o2,rfl,hc2⟩
    ·subst h0;simp at hlt2
    have n0:wr.cell? ⟨b,o+k,none⟩=some (.int .i64 ks[k]):=qab hB (hc k hlt);have n1:wr.cell? ⟨b2,o2+k,none⟩=some (.int .i64 ls[k]):=qab hB (hc2 k hlt2);have i1:(0:Int)≤(k:Int):=by omega
    have i2:(k:Int)<(ks.length:Int):=by omega
    have i3:(k:Int)<(ls.length:Int):=by omega
    clear hc hc2
    by_cases he:ks[k]=ls[k]
    ·have HT:Hid (ks.take (k+1)=ls.take (k+1)):=qeM hlt hlt2 ht.out he;rw[←he]at n1;clear ht he;generalize ks[k]=u at *;go_wp2
     go_quiet (fail)
     go_wp2;exact⟨⟨k+1,hlt,by go_num,HT,hD.out.next _⟩,by simp[intOf];omega⟩
    ·have HF:Hid (qda ks ls=false):=by
      unfold Hid qda;rw[decide_eq_false_iff_not];intro e;subst e;exact he rfl
     have he2:(ks[k]==ls[k])=false:=by simpa using he
     have he3:(ks[k] !=ls[k])=true:=by simpa using he
     clear ht he;generalize ks[k]=u at *;generalize ls[k]=t at *;go_wp2
     go_quiet (fail)
     go_wp2;go_ret;exact⟨by rw[HF.out];rfl,hD.out.next _⟩
   ·have HT:Hid (qda ks ls=true):=by
     have:=ht.out;rw[List.take_of_length_le (by omega),List.take_of_length_le (by omega)]at this;simp[Hid,qda,this]
    go_wp2;go_ret;exact⟨by rw[HT.out];rfl,hD.out⟩
 ·have hle:((ks.length:Int)==(ls.length:Int))=false:=by simp;omega
  have hle2:((ks.length:Int) !=(ls.length:Int))=true:=by simp;omega
  have HF:Hid (qda ks ls=false):=by
   unfold Hid qda;rw[decide_eq_false_iff_not];intro e;subst e;exact hlen rfl
  go_enter Tryz.func13,Tryz.ntmps13;go_wp2;go_ret;exact⟨by rw[HF.out];rfl,qc8.refl _⟩
abbrev Pl.Er:=Pl.Key×List Int
def EnAt (w:World)(b o:Nat)(e:Pl.Er):Prop:=∃vi,w.cell? ⟨b,o,none⟩=some (.int .i64 e.1.1)∧w.cell? ⟨b,o+1,none⟩=some (.string ⟨e.1.2.toArray⟩)∧w.cell? ⟨b,o+2,none⟩=some vi∧qbO w vi e.2
def qbl (w:World)(v:Value)(l:List Pl.Er):Prop:=∃a cap,v=.slice a l.length cap∧(l=[]∨∃b o,a=some ⟨b,o,none⟩∧∀i (h:i<l.length),EnAt w b (o+i*3) l[i])
theorem EnAt.on {w w':World}{b o:Nat}{e:Pl.Er}(h:EnAt w b o e)(hb:Below w.heap.size w w'):EnAt w' b o e:=by
 obtain⟨vi,h0,h1,h2,h3⟩:=h;exact⟨vi,qab hb h0,qab hb h1,qab hb h2,h3.on hb⟩
theorem qbl.on {w w':World}{v:Value}{l:List Pl.Er}(h:qbl w v l)(hb:Below w.heap.size w w'):qbl w' v l:=by
 obtain⟨a,cap,rfl,h⟩:=h;refine⟨a,cap,rfl,?_⟩
 rcases h with h|⟨b,o,ha,hc⟩
 ·exact Or.inl h
 ·exact Or.inr ⟨b,o,ha,fun i hi=>(hc i hi).on hb⟩
def qco (l m:List Pl.Er):Bool:=decide (l=m)
theorem qdB (v1 v2:Value)(l m:List Pl.Er)(w:World)(hl:l.length≤maxLen)(hs:∀e∈l,e.2.length≤maxLen)(h1:qbl w v1 l)(h2:qbl w v2 m):
 Calls Tryz.prog 32 #[v1,v2] w fun e w'=>e=.returned (.bool (qco l m))∧qc8 w w':=by
 obtain⟨a1,c1,rfl,h1⟩:=h1;obtain⟨a2,c2,rfl,h2⟩:=h2;have H1:Hid _:=h1;have H2:Hid _:=h2;have HS:Hid _:=hs;clear h1 h2 hs;unfold maxLen at hl
 by_cases hlen:l.length=m.length
 ·have hle:((l.length:Int)==(m.length:Int))=true:=by simp;omega
  have hle2:((l.length:Int) !=(m.length:Int))=false:=by simp;omega
  have HLn:Hid (l.length=m.length):=hlen;clear hlen;go_enter Tryz.func32,Tryz.ntmps32;go_wp2;clear hle hle2
  go_loopw [5] (fun i wr=>∃k:Nat,k≤l.length∧i=.int .i64 k∧Hid (l.take k=m.take k)∧Hid (qc8 w wr)) (fun i _=>l.length-(intOf i).toNat)
  case atStart=>exact⟨0,Nat.zero_le _,rfl,by simp[Hid],qc8.refl _⟩
  case round=>
   obtain⟨k,hk,rfl,ht,hD⟩:=hrel;have hB:=hD.out.below
   by_cases hlt:k<l.length
   ·have hlt2:k<m.length:=by have:=HLn.out;omega
    rcases H1.out with h0|⟨b,o,rfl,hc⟩
    ·subst h0;simp at hlt
    rcases H2.out with h0|⟨b2,o2,rfl,hc2⟩
    ·subst h0;simp at hlt2
    obtain⟨vi,n0,n1,n2,n3⟩:=(hc k hlt).on hB;obtain⟨wi,p0,p1,p2,p3⟩:=(hc2 k hlt2).on hB;have hlk:=HS.out l[k] (List.getElem_mem hlt);have i1:(0:Int)≤(k:Int):=by omega
    have i2:(k:Int)<(l.length:Int):=by omega
    have i3:(k:Int)<(m.length:Int):=by omega
    have HT:Hid (l[k]=m[k]→l.take (k+1)=m.take (k+1)):=fun he=>qeM hlt hlt2 ht.out he
    have HF:Hid (l[k]≠m[k]→qco l m=false):=by
     intro he;unfold qco;rw[decide_eq_false_iff_not];intro e;subst e;exact he rfl
    obtain⟨ai,ci,rfl,_⟩:=id n3;obtain⟨aj,cj,rfl,_⟩:=id p3;have N3:Hid (qbO _ _ _):=n3;have P3:Hid (qbO _ _ _):=p3;clear hc hc2 n3 p3 ht;generalize l[k]=x at *;generalize m[k]=y at *;obtain⟨⟨k1,s1⟩,q1⟩:=x;obtain⟨⟨k2,s2⟩,q2⟩:=y;dsimp only at n0 n1 n2 p0 p1 p2 hlk N3 P3;have q:∀n,Calls Tryz.prog 13 #[.slice ai q1.length ci,.slice aj q2.length cj] (wr.drewN n) fun e w'=>e=.returned (.bool (qda q1 q2))∧∃m,w'=(wr.drewN n).drewN m:=fun n=>qia _ _ q1 q2 _ hlk (N3.out.on (below_drewN (Below.refl _ _) n)) (P3.out.on (below_drewN (Below.refl _ _) n))
    cases hk1:(k1==k2) with
    | false=>
     have hk2:(k1 !=k2)=true:=by simp[bne,hk1]
     have HF2:Hid (qco l m=false):=HF.out (by intro e;injection e with e1 _;injection e1 with e2 _;subst e2;simp at hk1);go_wp2
     go_quiet (fail)
     go_wp2;go_ret;exact⟨by rw[HF2.out];rfl,hD.out.next _⟩
    | true=>
     have hk2:(k1 !=k2)=false:=by simp[bne,hk1]
     cases hs1:(s1==s2) with
     | false=>
      have HF2:Hid (qco l m=false):=HF.out (by intro e;injection e with e1 _;injection e1 with _ e2;subst e2;simp at hs1);go_wp2
      go_quiet (fail)
      go_wp2;go_ret;exact⟨by rw[HF2.out];rfl,hD.out.next _⟩
     | true=>
      cases hq:qda q1 q2 with
      | false=>
       have HF2:Hid (qco l m=false):=HF.out (by intro e;injection e with _ e2;subst e2;simp[qda]at hq);rw[hq]at q;go_wp2
       go_quiet ((go_at_call 13;exact Calls.quiet_of (q _)))
       go_wp2;go_ret;exact⟨by rw[HF2.out];rfl,hD.out.next _⟩
      | true=>
       have HT2:Hid (l.take (k+1)=m.take (k+1)):=HT.out (by
        have e1:=eq_of_beq hk1;have e2:=eq_of_beq hs1;have e3:q1=q2:=of_decide_eq_true hq
        rw[e1,e2,e3])
       rw[hq]at q;go_wp2
       go_quiet ((go_at_call 13;exact Calls.quiet_of (q _)))
       go_wp2;exact⟨⟨k+1,hlt,by go_num,HT2,hD.out.next _⟩,by simp[intOf];omega⟩
   ·have HT:Hid (qco l m=true):=by
     have:=ht.out;rw[List.take_of_length_le (by omega),List.take_of_length_le (by have:=HLn.out;omega)]at this;simp[Hid,qco,this]
    go_wp2;go_ret;exact⟨by rw[HT.out];rfl,hD.out⟩
 ·have hle:((l.length:Int)==(m.length:Int))=false:=by simp;omega
  have hle2:((l.length:Int) !=(m.length:Int))=true:=by simp;omega
  have HF:Hid (qco l m=false):=by
   unfold Hid qco;rw[decide_eq_false_iff_not];intro e;subst e;exact hlen rfl
  go_enter Tryz.func32,Tryz.ntmps32;go_wp2;go_ret;exact⟨by rw[HF.out];rfl,qc8.refl _⟩
end Go.Proofs.YtephhllfodlfbaaGreatDoor
