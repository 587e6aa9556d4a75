/-
  Plainer lists of paths, in plain form, level by level: what is done once, how great a list is; what is done makes a list smaller or leaves it as it is. No program in this text.
-/
import Derived.Test.YtephhllfodlfbaaGreatDoorLvM
namespace Go.Proofs.YtephhllfodlfbaaGreatDoor
section
variable {α β:Type}
def trT (f:List α→List β)(t:Pl.Tst α):Pl.Tst β:=⟨t.kind,t.name,t.value,t.a,t.b,f t.list⟩
def trS (f:List α→List β)(s:Pl.Stp α):Pl.Stp β:=⟨s.tag,s.tests.map (trT f)⟩
def trP (f:List α→List β)(p:Pl.Pth α):Pl.Pth β:=⟨p.steps.map (trS f),p.links⟩
def trL (f:List α→List β)(l:List (Pl.Pth α)):List (Pl.Pth β):=l.map (trP f)
end
namespace Pl
section
variable {β:Type} [DecidableEq β]
def qbu (kept:List β)(x:β):List β:=if x∈kept then kept else kept++[x]
def qaR (l:List β):List β:=l.foldl qbu []
def qag (l:List β)(k:Nat):List β:=(l.take k).foldl qbu []
theorem qbx {l:List β}{k:Nat}(h:k<l.length):qag l (k+1)=qbu (qag l k) l[k]:=by
 unfold qag;rw[List.take_succ_eq_append_getElem h,List.foldl_append];rfl
theorem qbI (l:List β):qag l l.length=qaR l:=by
 unfold qag qaR;rw[List.take_length]
theorem keepIn_len (kept:List β)(x:β):(qbu kept x).length≤kept.length+1:=by
 unfold qbu
 split
 ·omega
 ·simp
theorem qb3 (l:List β):∀k,k≤l.length→(qag l k).length≤k
 | 0,_=>by simp[qag]
 | k+1,h=>by
  rw[qbx (by omega)];have:=keepIn_len (qag l k) l[k];have:=qb3 l k (by omega);omega
theorem qe4 (l:List β):(qaR l).length≤l.length:=by
 rw[←qbI];exact qb3 l _ (Nat.le_refl _)
theorem keepIn_mem {kept:List β}{x y:β}:y∈qbu kept x↔y∈kept∨y=x:=by
 unfold qbu
 split
 ·constructor
  ·exact Or.inl
  ·rintro (h|rfl)
   ·exact h
   ·assumption
 ·simp
theorem qeN (l:List β):∀(k:List β) (y:β),y∈l.foldl qbu k↔y∈k∨y∈l:=by
 induction l with
 | nil=>simp
 | cons x r ih=>
  intro k y;rw[List.foldl_cons,ih,keepIn_mem,List.mem_cons];constructor
  ·rintro ((h|h)|h)
   ·exact Or.inl h
   ·exact Or.inr (Or.inl h)
   ·exact Or.inr (Or.inr h)
  ·rintro (h|h|h)
   ·exact Or.inl (Or.inl h)
   ·exact Or.inl (Or.inr h)
   ·exact Or.inr h
theorem qfj {l:List β}{y:β}:y∈qaR l↔y∈l:=by
 unfold qaR;rw[qeN];simp
theorem foldl_sum (g:β→Nat)(l:List β)(hg:∀x∈l,0<g x):∀k:List β,((l.foldl qbu k)=k++l)∨((l.foldl qbu k).map g).sum<((k++l).map g).sum:=by
 induction l with
 | nil=>intro k;left;simp
 | cons x r ih=>
  intro k;have ih:=ih fun y hy=>hg y (List.mem_cons_of_mem _ hy)
  have hx:=hg x List.mem_cons_self;rw[List.foldl_cons]
  by_cases h:x∈k
  ·right
   have e:qbu k x=k:=by unfold qbu;rw[if_pos h]
   rw[e];have h1:((k++r).map g).sum+g x=((k++x::r).map g).sum:=by simp;omega
   rcases ih k with h2|h2
   ·rw[h2];omega
   ·omega
  ·have e:qbu k x=k++[x]:=by unfold qbu;rw[if_neg h]
   rw[e];have h1:k++x::r=k++[x]++r:=by simp
   rw[h1];exact ih (k++[x])
theorem qgM (g:β→Nat)(l:List β)(hg:∀x∈l,0<g x):qaR l=l∨((qaR l).map g).sum<(l.map g).sum:=by
 have:=foldl_sum g l hg []
 simpa [qaR] using this
end
section
variable {α:Type}
def qch (s:Stp α):Option (List α):=match s.tests with
 | [t]=>if s.tag=[]∧t.kind=13 then some t.list else none
 | _=>none
def together (a b:List UInt8):Bool:=a.isEmpty||b.isEmpty||(a==b)
def addT (only:List α→Option (Stp α))(to:Stp α)(t:Tst α)(behind:Nat):Stp α:=
 match only t.list with
 | none=>⟨to.tag,to.tests++[t]⟩
 | some s=>
  match (if t.kind=13 then qch s else none) with
  | some l=>⟨to.tag,to.tests++[⟨14,[],[],0,0,l⟩]⟩
  | none=>
   if t.kind=14∧together to.tag s.tag=true∧to.tests.length+s.tests.length+behind≤6 then ⟨if to.tag=[] then s.tag else to.tag,to.tests++s.tests⟩
   else ⟨to.tag,to.tests++[t]⟩
def plT (f:List α→List α)(t:Tst α):Tst α:={ t with list:=f t.list }
def qaA (f:List α→List α)(only:List α→Option (Stp α))(s:Stp α):Nat→Stp α
 | 0=>⟨s.tag,[]⟩
 | k+1=>match s.tests[k]? with
  | some t=>addT only (qaA f only s k) (plT f t) (s.tests.length-k-1)
  | none=>qaA f only s k
def plS [DecidableEq α](f:List α→List α)(only:List α→Option (Stp α))(s:Stp α):Stp α:=⟨(qaA f only s s.tests.length).tag,qaR (qaA f only s s.tests.length).tests⟩
def plP [DecidableEq α](f:List α→List α)(only:List α→Option (Stp α))(p:Pth α):Pth α:=⟨p.steps.map (plS f only),p.links⟩
def plL [DecidableEq α](f:List α→List α)(only:List α→Option (Stp α))(l:List (Pth α)):List (Pth α):=qaR (l.map (plP f only))
def qf4 (lift:List α→List (Pth α))(l:List (Pth α)):Option (Stp (Pth α)):=match l with
 | [p]=>match p.steps with
  | [s]=>some (trS lift s)
  | _=>none
 | _=>none
theorem qfe {f:List α→List α}{only:List α→Option (Stp α)}{s:Stp α}{k:Nat}(h:k<s.tests.length):qaA f only s (k+1)=addT only (qaA f only s k) (plT f s.tests[k]) (s.tests.length-k-1):=by
 rw[qaA,List.getElem?_eq_getElem h]
def szT (z:List α→Nat)(t:Tst α):Nat:=1+z t.list
def szS (z:List α→Nat)(s:Stp α):Nat:=1+(s.tests.map (szT z)).sum
def szP (z:List α→Nat)(p:Pth α):Nat:=(p.steps.map (szS z)).sum
def szL (z:List α→Nat)(l:List (Pth α)):Nat:=(l.map (szP z)).sum
def okS (W:List α→Prop)(s:Stp α):Prop:=s.tests.length≤6∧∀t∈s.tests,W t.list
def okP (W:List α→Prop)(p:Pth α):Prop:=1≤p.steps.length∧p.steps.length≤5∧p.links.length≤5∧∀s∈p.steps,okS W s
def okL (W:List α→Prop)(l:List (Pth α)):Prop:=l.length≤5∧∀p∈l,okP W p
end
structure Lev (α:Type) where
 f:List α→List α
 only:List α→Option (Stp α)
 z:List α→Nat
 W:List α→Prop
structure qcR {α:Type}(L:Lev α):Prop where
 ok:∀{l},L.W l→L.W (L.f l)
 sz:∀{l},L.W l→L.f l=l∨L.z (L.f l)<L.z l
 one:∀{l s},L.W l→L.only l=some s→okS L.W s∧szS L.z s=L.z l
section
variable {α:Type} [DecidableEq α] {L:Lev α}
def L0:Lev Unit:=⟨fun _=>[],fun _=>none,fun _=>0,fun l=>l=[]⟩
def Lev.up (L:Lev α)(lift:List α→List (Pth α)):Lev (Pth α):=⟨plL L.f L.only,qf4 lift,szL L.z,okL L.W⟩
theorem isLev_0:qcR L0:=⟨fun _=>rfl,fun h=>Or.inl (by cases h;rfl),fun _ h=>by cases h⟩
omit [DecidableEq α] in
theorem addT_sz (hL:qcR L){to:Stp α}{t:Tst α}{n:Nat}(ht:L.W t.list):addT L.only to t n=⟨to.tag,to.tests++[t]⟩∨szS L.z (addT L.only to t n)<szS L.z ⟨to.tag,to.tests++[t]⟩:=by
 unfold addT
 cases ho:L.only t.list with
 | none=>left;rfl
 | some s=>
  obtain⟨h1,h2⟩:=hL.one ht ho;have hz:szT L.z t=1+szS L.z s:=by unfold szT;rw[h2]
  dsimp only
  cases hn:(if t.kind=13 then qch s else none) with
  | some l=>
   right
   have h3:qch s=some l:=by
    split at hn
    ·exact hn
    ·cases hn
   unfold qch at h3
   split at h3
   ·rename_i t1 ht1
    split at h3
    ·injection h3 with h3
     have h4:szS L.z s=1+(1+L.z l):=by
      unfold szS szT;rw[ht1];simp[h3]
     unfold szS;simp only[List.map_append,List.map_cons,List.map_nil,List.sum_append,List.sum_cons,List.sum_nil];rw[hz,h4];unfold szT;dsimp only;omega
    ·cases h3
   ·cases h3
  | none=>
   dsimp only
   split
   ·right
    have h4:szS L.z s=1+(s.tests.map (szT L.z)).sum:=rfl;unfold szS;simp only[List.map_append,List.map_cons,List.map_nil,List.sum_append,List.sum_cons,List.sum_nil];rw[hz,h4];omega
   ·left;rfl
omit [DecidableEq α] in
theorem addT_ok {to:Stp α}{t:Tst α}{n:Nat}(ht:L.W t.list)(hto:∀y∈to.tests,L.W y.list)(hn:to.tests.length+1+n≤6)(hd:∀l s,L.W l→L.only l=some s→∀y∈s.tests,L.W y.list):(∀y∈(addT L.only to t n).tests,L.W y.list)∧(addT L.only to t n).tests.length+n≤6:=by
 have plain:(∀t'∈(⟨to.tag,to.tests++[t]⟩:Stp α).tests,L.W t'.list)∧(⟨to.tag,to.tests++[t]⟩:Stp α).tests.length+n≤6:=by
  refine⟨fun t' h'=>?_,by simp;omega⟩
  rcases List.mem_append.1 h' with h'|h'
  ·exact hto t' h'
  ·rw[List.mem_singleton.1 h'];exact ht
 unfold addT
 cases ho:L.only t.list with
 | none=>exact plain
 | some s=>
  have hs:=hd _ _ ht ho;dsimp only
  cases hn':(if t.kind=13 then qch s else none) with
  | some l=>
   have h3:qch s=some l:=by
    split at hn'
    ·exact hn'
    ·cases hn'
   unfold qch at h3
   split at h3
   ·rename_i t1 ht1
    split at h3
    ·injection h3 with h3;refine⟨fun t' h'=>?_,by simp;omega⟩
     rcases List.mem_append.1 h' with h'|h'
     ·exact hto t' h'
     ·rw[List.mem_singleton.1 h'];have:=hs t1 (by rw[ht1];exact List.mem_singleton.2 rfl);rw[h3]at this;exact this
    ·cases h3
   ·cases h3
  | none=>
   dsimp only
   split
   ·rename_i h6;refine⟨fun t' h'=>?_,by simp;omega⟩
    rcases List.mem_append.1 h' with h'|h'
    ·exact hto t' h'
    ·exact hs t' h'
   ·exact plain
omit [DecidableEq α] in
theorem qeI (hL:qcR L){s:Stp α}(hs:okS L.W s):∀k,k≤s.tests.length→(qaA L.f L.only s k=⟨s.tag,s.tests.take k⟩∨szS L.z (qaA L.f L.only s k)<szS L.z ⟨s.tag,s.tests.take k⟩)∧(∀t∈(qaA L.f L.only s k).tests,L.W t.list)∧(qaA L.f L.only s k).tests.length+(s.tests.length-k)≤6
 | 0,_=>by
  refine⟨Or.inl (by simp[qaA]),fun t h=>by simp[qaA]at h,?_⟩;simp[qaA];exact hs.1
 | k+1,hk=>by
  have hlt:k<s.tests.length:=by omega
  obtain⟨h1,h2,h3⟩:=qeI hL hs k (by omega);have hw:=hs.2 _ (List.getElem_mem hlt);have hw':L.W (plT L.f s.tests[k]).list:=hL.ok hw;rw[qfe hlt];obtain⟨o1,o2⟩:=addT_ok (to:=qaA L.f L.only s k) (n:=s.tests.length-k-1) hw' h2 (by omega) (fun l s h ho=>(hL.one h ho).1.2);refine⟨?_,o1,by omega⟩;have e1:s.tests.take (k+1)=s.tests.take k++[s.tests[k]]:=List.take_succ_eq_append_getElem hlt
  have z1:szS L.z ⟨s.tag,s.tests.take (k+1)⟩=szS L.z ⟨s.tag,s.tests.take k⟩+szT L.z s.tests[k]:=by
   unfold szS;dsimp only;rw[e1,List.map_append,List.sum_append];simp only[List.map_cons,List.map_nil,List.sum_cons,List.sum_nil];omega
  have z2:∀to:Stp α,∀t,szS L.z ⟨to.tag,to.tests++[t]⟩=szS L.z to+szT L.z t:=by
   intro to t;unfold szS;dsimp only;rw[List.map_append,List.sum_append];simp only[List.map_cons,List.map_nil,List.sum_cons,List.sum_nil];omega
  have hT:plT L.f s.tests[k]=s.tests[k]∨szT L.z (plT L.f s.tests[k])<szT L.z s.tests[k]:=by
   rcases hL.sz hw with e|e
   ·left
    unfold plT;rw[e]
   ·right
    unfold szT plT;dsimp only;omega
  have hTle:szT L.z (plT L.f s.tests[k])≤szT L.z s.tests[k]:=by
   rcases hT with e|e
   ·rw[e];exact Nat.le_refl _
   ·omega
  have hA:=addT_sz hL (to:=qaA L.f L.only s k) (t:=plT L.f s.tests[k]) (n:=s.tests.length-k-1) hw'
  rcases h1 with h1|h1
  ·rcases hA with hA|hA
   ·rcases hT with hT|hT
    ·left
     rw[hA,hT,h1,e1]
    ·right
     rw[hA,z2,h1,z1];omega
   ·right
    rw[z2]at hA;have e2:szS L.z (qaA L.f L.only s k)=szS L.z ⟨s.tag,s.tests.take k⟩:=by rw[h1]
    omega
  ·right
   have:szS L.z (addT L.only (qaA L.f L.only s k) (plT L.f s.tests[k]) (s.tests.length-k-1))≤szS L.z (qaA L.f L.only s k)+szT L.z (plT L.f s.tests[k]):=by
    rcases hA with hA|hA
    ·rw[hA,z2];exact Nat.le_refl _
    ·rw[z2]at hA;omega
   omega
theorem plS_sz (hL:qcR L){s:Stp α}(hs:okS L.W s):(plS L.f L.only s=s∨szS L.z (plS L.f L.only s)<szS L.z s)∧okS L.W (plS L.f L.only s):=by
 obtain⟨h1,h2,h3⟩:=qeI hL hs s.tests.length (Nat.le_refl _);rw[List.take_length]at h1;have hf:=qgM (szT L.z) (qaA L.f L.only s s.tests.length).tests (fun t _=>by unfold szT;omega);have hle:=qe4 (qaA L.f L.only s s.tests.length).tests;refine⟨?_,⟨?_,fun t ht=>h2 t (qfj.1 ht)⟩⟩
 ·rcases h1 with h1|h1
  ·rcases hf with hf|hf
   ·left
    unfold plS;rw[hf,h1]
   ·right
    unfold plS szS;dsimp only;rw[h1]at hf ⊢;dsimp only at hf ⊢;omega
  ·right
   have:szS L.z (plS L.f L.only s)≤szS L.z (qaA L.f L.only s s.tests.length):=by
    rcases hf with hf|hf
    ·unfold plS;rw[hf];exact Nat.le_refl _
    ·unfold plS szS;dsimp only;omega
   have e:szS L.z ⟨s.tag,s.tests⟩=szS L.z s:=rfl;omega
 ·show (qaR _).length≤6
  omega
theorem map_sz {β:Type}{g:β→Nat}{f:β→β}:∀{l:List β},(∀x∈l,f x=x∨g (f x)<g x)→(l.map f=l∨((l.map f).map g).sum<(l.map g).sum)
 | [],_=>Or.inl rfl
 | x::r,h=>by
  have hx:=h x List.mem_cons_self;have hr:=map_sz (l:=r) fun y hy=>h y (List.mem_cons_of_mem _ hy)
  simp only[List.map_cons,List.sum_cons]
  rcases hx with hx|hx
  ·rcases hr with hr|hr
   ·left;rw[hx,hr]
   ·right;rw[hx];omega
  ·right
   rcases hr with hr|hr
   ·rw[hr];omega
   ·omega
theorem qgc (hL:qcR L){p:Pth α}(hp:okP L.W p):(plP L.f L.only p=p∨szP L.z (plP L.f L.only p)<szP L.z p)∧okP L.W (plP L.f L.only p):=by
 obtain⟨h1,h2,h3,h4⟩:=hp;refine⟨?_,by simpa [plP] using h1,by simpa [plP] using h2,h3,fun s hs=>?_⟩
 ·rcases map_sz (g:=szS L.z) (f:=plS L.f L.only) (l:=p.steps) (fun s hs=>(plS_sz hL (h4 s hs)).1) with h|h
  ·left
   unfold plP;rw[h]
  ·exact Or.inr h
 ·obtain⟨s0,hs0,rfl⟩:=List.mem_map.1 hs;exact(plS_sz hL (h4 s0 hs0)).2
omit [DecidableEq α] in
theorem szP_pos {z:List α→Nat}{p:Pth α}(h:1≤p.steps.length):0<szP z p:=by
 unfold szP
 cases hs:p.steps with
 | nil=>rw[hs]at h;simp at h
 | cons s r=>
  simp only[List.map_cons,List.sum_cons];unfold szS;omega
structure qgS (L:Lev α)(M:Lev (Pth α))(lift:List α→List (Pth α)):Prop where
 ok:∀{l},L.W l→M.W (lift l)
 sz:∀{l},L.W l→M.z (lift l)=L.z l
theorem qhJ (hL:qcR L){lift:List α→List (Pth α)}(hlift:qgS L (L.up lift) lift):qcR (L.up lift) where
 ok {l} h:=by
  show okL L.W (plL L.f L.only l)
  obtain⟨h1,h2⟩:=h;refine⟨?_,fun p hp=>?_⟩
  ·have:=qe4 (l.map (plP L.f L.only));unfold plL;rw[List.length_map]at this;omega
  ·obtain⟨q,hq,rfl⟩:=List.mem_map.1 (qfj.1 hp);exact(qgc hL (h2 q hq)).2
 sz {l} h:=by
  show plL L.f L.only l=l∨szL L.z (plL L.f L.only l)<szL L.z l
  obtain⟨h1,h2⟩:=h;have hm:=map_sz (g:=szP L.z) (f:=plP L.f L.only) (l:=l) (fun p hp=>(qgc hL (h2 p hp)).1)
  have hf:=qgM (szP L.z) (l.map (plP L.f L.only)) (fun p hp=>by
   obtain⟨q,hq,rfl⟩:=List.mem_map.1 hp
   exact szP_pos (qgc hL (h2 q hq)).2.1)
  unfold plL szL
  rcases hf with hf|hf
  ·rw[hf];exact hm
  ·rcases hm with hm|hm
   ·right;rw[hm]at hf ⊢;exact hf
   ·right;omega
 one {l s} h ho:=by
  have h':okL L.W l:=h;have ho':qf4 lift l=some s:=ho;unfold qf4 at ho'
  split at ho'
  ·rename_i p
   split at ho'
   ·rename_i s0 hs0;injection ho' with e;have hp:=h'.2 p (List.mem_singleton.2 rfl);have hs:=hp.2.2.2 s0 (by rw[hs0];exact List.mem_singleton.2 rfl);subst e;refine⟨⟨by simpa [trS] using hs.1,fun t ht=>?_⟩,?_⟩
    ·obtain⟨t0,ht0,rfl⟩:=List.mem_map.1 ht;exact hlift.ok (hs.2 t0 ht0)
    ·show szS (szL L.z) (trS lift s0)=szL L.z [p]
     have e0:szL L.z [p]=szS L.z s0:=by
      unfold szL szP;simp only[List.map_cons,List.map_nil,List.sum_cons,List.sum_nil,Nat.add_zero];rw[hs0];simp only[List.map_cons,List.map_nil,List.sum_cons,List.sum_nil,Nat.add_zero]
     rw[e0];unfold szS trS;dsimp only;rw[List.map_map]
     congr 1
     have:∀t∈s0.tests,(szT (szL L.z)∘trT lift) t=szT L.z t:=by
      intro t ht
      show 1+szL L.z (lift t.list)=1+L.z t.list
      have:=hlift.sz (hs.2 t ht);have e2:szL L.z (lift t.list)=(L.up lift).z (lift t.list):=rfl;rw[e2,this]
     exact congrArg List.sum (List.map_congr_left this)
   ·cases ho'
  ·cases ho'
end
end Pl
namespace Pl
def qfy (_:List Unit):List D1:=[]
def lift1:List D1→List D2:=trL qfy
def lift2:List D2→List D3:=trL lift1
def L1:Lev D1:=L0.up qfy
def L2:Lev D2:=L1.up lift1
def L3:Lev D3:=L2.up lift2
theorem isLift_0:qgS L0 (L0.up qfy) qfy:=⟨fun _=>⟨by simp[qfy],fun p hp=>by simp[qfy]at hp⟩,fun _=>rfl⟩
section
variable {α:Type} [DecidableEq α] {L:Lev α} {lift:List α→List (Pth α)}
theorem map_sum {β γ:Type}{f:β→γ}{g:γ→Nat}{h:β→Nat}{l:List β}(e:∀x∈l,g (f x)=h x):((l.map f).map g).sum=(l.map h).sum:=by
 rw[List.map_map];exact congrArg List.sum (List.map_congr_left e)
theorem qhR (hl:qgS L (L.up lift) lift):qgS (L.up lift) ((L.up lift).up (trL lift)) (trL lift) where
 ok {l} h:=by
  have h':okL L.W l:=h;refine⟨by simpa [trL] using h'.1,fun p hp=>?_⟩;obtain⟨q,hq,rfl⟩:=List.mem_map.1 hp;obtain⟨q1,q2,q3,q4⟩:=h'.2 q hq;refine⟨by simpa [trP] using q1,by simpa [trP] using q2,q3,fun s hs=>?_⟩;obtain⟨s0,hs0,rfl⟩:=List.mem_map.1 hs;obtain⟨s1,s2⟩:=q4 s0 hs0;refine⟨by simpa [trS] using s1,fun t ht=>?_⟩;obtain⟨t0,ht0,rfl⟩:=List.mem_map.1 ht;exact hl.ok (s2 t0 ht0)
 sz {l} h:=by
  have h':okL L.W l:=h;refine map_sum fun p hp=>map_sum fun s hs=>?_
  show 1+_=1+_
  refine congrArg (1+ ·) (map_sum fun t ht=>?_);exact congrArg (1+ ·) (hl.sz (((h'.2 p hp).2.2.2 s hs).2 t ht))
end
theorem isLev_1:qcR L1:=qhJ isLev_0 isLift_0
theorem isLift_1:qgS L1 (L1.up lift1) lift1:=qhR isLift_0
theorem isLev_2:qcR L2:=qhJ isLev_1 isLift_1
theorem isLift_2:qgS L2 (L2.up lift2) lift2:=qhR isLift_1
theorem isLev_3:qcR L3:=qhJ isLev_2 isLift_2
def qdS:List D3→List D3:=L3.f
def plN:Nat→List D3→List D3
 | 0,l=>l
 | n+1,l=>if qdS l=l then l else plN n (qdS l)
def qcZ:List D3→Nat:=L3.z
def W3:List D3→Prop:=L3.W
def qbo (l:List D3):List D3:=plN (qcZ l) l
theorem qdK {l:List D3}(h:W3 l):qdS l=l∨qcZ (qdS l)<qcZ l:=isLev_3.sz h
theorem qet {l:List D3}(h:W3 l):W3 (qdS l):=isLev_3.ok h
theorem plN_more:∀(n m:Nat) (l:List D3),W3 l→qcZ l≤n→qcZ l≤m→plN n l=plN m l
 | 0,0,l,_,_,_=>rfl
 | 0,m+1,l,hw,h1,_=>by
  unfold plN
  rcases qdK hw with e|e
  ·rw[if_pos e]
  ·omega
 | n+1,0,l,hw,_,h2=>by
  unfold plN
  rcases qdK hw with e|e
  ·rw[if_pos e]
  ·omega
 | n+1,m+1,l,hw,h1,h2=>by
  unfold plN
  by_cases e:qdS l=l
  ·rw[if_pos e,if_pos e]
  ·rw[if_neg e,if_neg e];have:=(qdK hw).resolve_left e;exact plN_more n m _ (qet hw) (by omega) (by omega)
theorem qdm {l:List D3}(h:qdS l=l):qbo l=l:=by
 unfold qbo
 cases qcZ l with
 | zero=>rfl
 | succ n=>unfold plN;rw[if_pos h]
theorem qe2 {l:List D3}(hw:W3 l)(h:qdS l≠l):qbo l=qbo (qdS l):=by
 have hs:=(qdK hw).resolve_left h;unfold qbo;obtain⟨n,hn⟩:∃n,qcZ l=n+1:=⟨qcZ l-1,by omega⟩
 rw[hn]
 show (if qdS l=l then l else plN n (qdS l))=_
 rw[if_neg h];exact plN_more _ _ _ (qet hw) (by omega) (Nat.le_refl _)
theorem plain_fix (n:Nat):∀l:List D3,W3 l→qcZ l≤n→qdS (qbo l)=qbo l∧W3 (qbo l)∧qcZ (qbo l)≤qcZ l:=by
 induction n with
 | zero=>
  intro l hw h
  have e:qdS l=l:=by
   rcases qdK hw with e|e
   ·exact e
   ·omega
  rw[qdm e];exact⟨e,hw,Nat.le_refl _⟩
 | succ n ih=>
  intro l hw h
  by_cases e:qdS l=l
  ·rw[qdm e];exact⟨e,hw,Nat.le_refl _⟩
  ·rw[qe2 hw e];have hs:=(qdK hw).resolve_left e;obtain⟨i1,i2,i3⟩:=ih (qdS l) (qet hw) (by omega);exact⟨i1,i2,by omega⟩
end Pl
end Go.Proofs.YtephhllfodlfbaaGreatDoor
