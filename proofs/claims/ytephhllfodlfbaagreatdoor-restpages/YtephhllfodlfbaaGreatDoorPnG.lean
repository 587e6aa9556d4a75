/-
  Memory that a call makes: what lies in some blocks only, and rows that grow.
-/
import Derived.Test.YtephhllfodlfbaaGreatDoorPnS
namespace Go.Proofs.YtephhllfodlfbaaGreatDoor
open Go.RowKit
def mask (P:Nat→Bool)(w:World):World:={ w with heap:=w.heap.mapIdx fun i o=>if P i=true then o else .cells #[] 0 }
theorem qck (P:Nat→Bool)(w:World)(k:Nat):(mask P w).heap[k]? =(w.heap[k]?).map fun o=>if P k=true then o else .cells #[] 0:=by
 simp[mask]
theorem qah {P:Nat→Bool}{w:World}{k o:Nat}{x:Value}:(mask P w).cell? ⟨k,o,none⟩=some x↔P k=true∧w.cell? ⟨k,o,none⟩=some x:=by
 unfold World.cell?;dsimp only;rw[qck]
 cases h:w.heap[k]? with
 | none=>simp
 | some ob=>
  cases hp:P k with
  | false=>simp
  | true=>simp
def Incl (w w':World):Prop:=∀(k:Nat) (ob:Obj),w.heap[k]? =some ob→ob≠ .cells #[] 0→w'.heap[k]? =some ob
theorem Incl.cell {w w':World}(h:Incl w w'){k o:Nat}{x:Value}(hx:w.cell? ⟨k,o,none⟩=some x):w'.cell? ⟨k,o,none⟩=some x:=by
 unfold World.cell? at hx ⊢;dsimp only at hx ⊢
 cases hk:w.heap[k]? with
 | none=>rw[hk]at hx;simp at hx
 | some ob=>
  rw[hk]at hx;rw[h k ob hk (by rintro rfl;simp at hx)];exact hx
theorem qam {P P':Nat→Bool}{w w':World}(h:∀j,P j=true→j<w.heap.size→P' j=true∧w'.heap[j]? =w.heap[j]?):Incl (mask P w) (mask P' w'):=by
 intro k ob hk hne;rw[qck]at hk ⊢
 cases hw:w.heap[k]? with
 | none=>rw[hw]at hk;simp at hk
 | some o0=>
  rw[hw]at hk;simp only[Option.map_some]at hk
  cases hp:P k with
  | false=>
   rw[hp]at hk;simp at hk;exact absurd hk.symm hne
  | true=>
   rw[hp]at hk;simp at hk;subst hk;obtain⟨h1,h2⟩:=h k hp (Array.getElem?_eq_some_iff.1 hw).1;rw[h2,hw,h1];rfl
theorem qav (P:Nat→Bool)(w:World):Incl (mask P w) w:=by
 intro k ob hk hne;rw[qck]at hk
 cases hw:w.heap[k]? with
 | none=>rw[hw]at hk;simp at hk
 | some o0=>
  rw[hw]at hk;simp only[Option.map_some]at hk
  cases hp:P k with
  | false=>
   rw[hp]at hk;simp at hk;exact absurd hk.symm hne
  | true=>
   rw[hp]at hk;simp at hk;rw[hk]
structure qaK {α:Type}(A:MemL α):Prop where
 sub:∀{w w' v l},A w v l→Incl w w'→A w' v l
theorem qaF.sub {α:Type}{A:MemL α}(hA:qaK A){w w':World}{b o:Nat}{t:Pl.Tst α}(h:qaF A w b o t)(hi:Incl w w'):qaF A w' b o t:=by
 obtain⟨v,h0,h1,h2,h3,h4,h5,h6⟩:=h;exact⟨v,hi.cell h0,hi.cell h1,hi.cell h2,hi.cell h3,hi.cell h4,hi.cell h5,hA.sub h6 hi⟩
theorem qa3.sub {α:Type}{A:MemL α}(hA:qaK A){w w':World}{b o:Nat}{s:Pl.Stp α}(h:qa3 A w b o s)(hi:Incl w w'):qa3 A w' b o s:=by
 obtain⟨v,h0,h1,h2⟩:=h;exact⟨v,hi.cell h0,hi.cell h1,h2.map fun b o x hx=>hx.sub hA hi⟩
theorem qdZ {w w':World}{v:Value}{l:List Int}(h:qaf qbe 1 w v l)(hi:Incl w w'):qaf qbe 1 w' v l:=h.map fun _ _ _ hx=>hi.cell hx
def IntS (w:World)(b o:Nat)(k:Int):Prop:=qbe w b o k∧∃cs t,w.heap[b]? =some (.cells cs t)
theorem qfY {w w':World}{v:Value}{l:List Int}(h:qaf IntS 1 w v l)(hi:Incl w w'):qaf IntS 1 w' v l:=h.map fun b o _ hx=>by
 obtain⟨hc,cs,t,hb⟩:=hx;refine⟨hi.cell hc,cs,t,hi b _ hb ?_⟩;intro e;injection e with e1;subst e1;unfold qbe World.cell? at hc;simp[hb]at hc
theorem qgY {w:World}{v:Value}{l:List Int}(h:qaf IntS 1 w v l):qaf qbe 1 w v l:=h.map fun _ _ _ hx=>hx.1
theorem qct.sub {α:Type}{A:MemL α}(hA:qaK A){w w':World}{b o:Nat}{p:Pl.Pth α}(h:qct A w b o p)(hi:Incl w w'):qct A w' b o p:=by
 obtain⟨v,u,h0,h1,h2,h3⟩:=h;exact⟨v,u,hi.cell h0,hi.cell h1,h2.map fun b o x hx=>hx.sub hA hi,qdZ h3 hi⟩
theorem qbE:qaK ZAt:=⟨fun h _=>h⟩
theorem qbf {α:Type}{A:MemL α}(hA:qaK A):qaK (qbp A):=⟨fun h hi=>qaf.map h fun _ _ _ hx=>hx.sub hA hi⟩
def VT {α:Type}(A:MemL α)(w:World)(c:List Value)(t:Pl.Tst α):Prop:=∃v,c=[.int .i64 t.kind,.string ⟨t.name.toArray⟩,.string ⟨t.value.toArray⟩,.int .i64 t.a,.int .i64 t.b,v]∧A w v t.list
def VS {α:Type}(A:MemL α)(w:World)(c:List Value)(s:Pl.Stp α):Prop:=∃v,c=[.string ⟨s.tag.toArray⟩,v]∧qaf (qaF A) 6 w v s.tests
def VP {α:Type}(A:MemL α)(w:World)(c:List Value)(p:Pl.Pth α):Prop:=∃v u,c=[v,u]∧qaf (qa3 A) 2 w v p.steps∧qaf qbe 1 w u p.links
structure IsV {β:Type}(k:Nat)(V:World→List Value→β→Prop)(E:World→Nat→Nat→β→Prop):Prop where
 sub:∀{w w' c x},V w c x→Incl w w'→V w' c x
 len:∀{w c x},V w c x→c.length=k
 at_:∀{w c x b o},V w c x→(∀j (h:j<c.length),w.cell? ⟨b,o+j,none⟩=some c[j])→E w b o x
theorem qba {α:Type}{A:MemL α}(hA:qaK A):IsV 6 (VT A) (qaF A) where
 sub h hi:=by
  obtain⟨v,e,h⟩:=h;exact⟨v,e,hA.sub h hi⟩
 len h:=by
  obtain⟨v,rfl,h⟩:=h;rfl
 at_ h hc:=by
  obtain⟨v,rfl,h⟩:=h;exact⟨v,hc 0 (by simp),hc 1 (by simp),hc 2 (by simp),hc 3 (by simp),hc 4 (by simp),hc 5 (by simp),h⟩
theorem isV_s {α:Type}{A:MemL α}(hA:qaK A):IsV 2 (VS A) (qa3 A) where
 sub h hi:=by
  obtain⟨v,e,h⟩:=h;exact⟨v,e,h.map fun b o x hx=>hx.sub hA hi⟩
 len h:=by
  obtain⟨v,rfl,h⟩:=h;rfl
 at_ h hc:=by
  obtain⟨v,rfl,h⟩:=h;exact⟨v,hc 0 (by simp),hc 1 (by simp),h⟩
theorem qfx {α:Type}{A:MemL α}(hA:qaK A):IsV 2 (VP A) (qct A) where
 sub h hi:=by
  obtain⟨v,u,e,h,h2⟩:=h;exact⟨v,u,e,h.map fun b o x hx=>hx.sub hA hi,qdZ h2 hi⟩
 len h:=by
  obtain⟨v,u,rfl,h⟩:=h;rfl
 at_ h hc:=by
  obtain⟨v,u,rfl,h,h2⟩:=h;exact⟨v,u,hc 0 (by simp),hc 1 (by simp),h,h2⟩
def Off (P:Nat→Bool)(v:Value)(j:Nat):Bool:=P j&&!(v.ownBlock==some j)
def Grow {β:Type}(P:Nat→Bool)(B:Nat)(e:TypeId)(k:Nat)(V:World→List Value→β→Prop)(w:World)(v:Value)(l:List β):Prop:=
 ∃xs:List Value,w.ownsRow B e k v l.length xs∧(∀g,v.ownBlock=some g→P g=true)∧∀i (h:i<l.length),V (mask (Off P v) w) ((xs.drop (i*k)).take k) l[i]
theorem Grow.nil {β:Type}(P:Nat→Bool)(B:Nat)(e:TypeId)(k:Nat)(V:World→List Value→β→Prop)(w:World):Grow P B e k V w (.slice none 0 0) []:=
 ⟨[],⟨by simp,Or.inl ⟨rfl,rfl⟩⟩,fun g h=>by simp[Value.ownBlock]at h,fun i h=>by simp at h⟩
theorem Grow.form {β:Type}{P:Nat→Bool}{B:Nat}{e:TypeId}{k:Nat}{V:World→List Value→β→Prop}{w:World}{v:Value}{l:List β}(h:Grow P B e k V w v l):∃a c,v=.slice a l.length c:=by
 obtain⟨xs,h,_⟩:=h
 rcases h.2 with ⟨rfl,h0⟩|⟨g,cap,cur,rfl,_⟩
 ·exact⟨none,0,by rw[h0]⟩
 ·exact⟨_,cap,rfl⟩
theorem Grow.move {β:Type}{P P':Nat→Bool}{B:Nat}{e:TypeId}{k:Nat}{V:World→List Value→β→Prop}{E:World→Nat→Nat→β→Prop}(hV:IsV k V E){w w':World}{v:Value}{l:List β}(h:Grow P B e k V w v l)(hs:∀j,P j=true→j<w.heap.size→P' j=true∧w'.heap[j]? =w.heap[j]?):Grow P' B e k V w' v l:=by
 obtain⟨xs,⟨h1,h2⟩,hp,hv⟩:=h;refine⟨xs,⟨h1,?_⟩,?_,fun i hi=>hV.sub (hv i hi) (qam fun j hj hjl=>?_)⟩
 ·rcases h2 with h2|⟨g,cap,cur,rfl,e2,e3,e4⟩
  ·exact Or.inl h2
  ·refine Or.inr ⟨g,cap,cur,rfl,e2,?_,e4⟩;rw[(hs g (hp g rfl) (Array.getElem?_eq_some_iff.1 e3).1).2];exact e3
 ·intro g hg
  rcases h2 with ⟨rfl,_⟩|⟨g',cap,cur,rfl,e2,e3,e4⟩
  ·simp[Value.ownBlock]at hg
  ·simp[Value.ownBlock]at hg;subst hg;exact(hs _ (hp _ rfl) (Array.getElem?_eq_some_iff.1 e3).1).1
 ·unfold Off at hj ⊢;rw[Bool.and_eq_true]at hj;obtain⟨a,b⟩:=hs j hj.1 hjl;exact⟨by rw[a,hj.2];rfl,b⟩
theorem Grow.row {β:Type}{P:Nat→Bool}{B:Nat}{e:TypeId}{k:Nat}{V:World→List Value→β→Prop}{E:World→Nat→Nat→β→Prop}(hV:IsV k V E){w:World}{v:Value}{l:List β}(h:Grow P B e k V w v l):qaf E k (mask P w) v l:=by
 obtain⟨xs,⟨h1,h2⟩,hp,hv⟩:=h
 rcases h2 with ⟨rfl,h0⟩|⟨g,cap,cur,rfl,e2,e3,e4,e5,e6,e7⟩
 ·have:l=[]:=List.length_eq_zero_iff.1 h0;subst this;exact qaf.nil _ _ _
 ·refine⟨_,_,rfl,⟨e4,e5⟩,Or.inr ⟨g,0,rfl,fun i hi=>?_⟩⟩;have hc:=hv i hi;have hlen:=hV.len hc;refine hV.at_ (hV.sub hc (qam fun j hj _=>?_)) fun j hj=>?_
  ·unfold Off at hj;rw[Bool.and_eq_true]at hj;exact⟨hj.1,rfl⟩
  ·rw[qah];refine⟨hp g rfl,?_⟩;have hjk:j<k:=by omega
   have hik:i*k+j<l.length*k:=by
    have:(i+1)*k≤l.length*k:=Nat.mul_le_mul_right k hi;rw[Nat.succ_mul]at this;omega
   have hxl:i*k+j<xs.length:=by omega
   have hcl:i*k+j<cur.size:=by
    have:l.length*k≤cap*k:=Nat.mul_le_mul_right k e4;omega
   unfold World.cell?;rw[e3];simp only[Option.isSome_none,Bool.false_eq_true,if_false,Nat.zero_add]
   have hx:xs[i*k+j]'hxl=cur[i*k+j]'hcl:=by
    simp only[←e7];simp
   rw[Array.getElem?_eq_getElem hcl,←hx]
   congr 1
   simp
theorem Grow.push {β:Type}{P:Nat→Bool}{B:Nat}{e:TypeId}{k:Nat}{V:World→List Value→β→Prop}{E:World→Nat→Nat→β→Prop}(hV:IsV k V E){w w1 w':World}{v:Value}{l:List β}{x:β}{xs news:List Value}{g cap H:Nat}(hPo:∀g,v.ownBlock=some g→P g=true)(hPH:P H=true)
 (hown:w.ownsRow B e k v l.length xs) (hold:∀i (h:i<l.length),V (mask (Off P v) w) ((xs.drop (i*k)).take k) l[i])
 (h1:∀j,j<w.heap.size→w1.heap[j]? =w.heap[j]?) (hw1:w.heap.size≤w1.heap.size) (hH:w.heap.size≤H)
 (hrow:w'.ownsRow B e k (.slice (some ⟨g,0,none⟩) (l.length+1) cap) (l.length+1) (xs++news)) (hg:w1.grownBy w' v.ownBlock) (hat:v.ownBlock=some g∨g=H) (hfar:V (mask (fun j=>Off P v j&&j !=H) w1) news x):Grow P B e k V w' (.slice (some ⟨g,0,none⟩) (l.length+1) cap) (l++[x]):=by
 have hxl:xs.length=l.length*k:=hown.1
 have hkeep:∀j,Off P v j=true→j<w1.heap.size→w'.heap[j]? =w1.heap[j]? :=by
  intro j hj hjl;unfold Off at hj;rw[Bool.and_eq_true]at hj
  exact hg.block j hjl (by
   intro h;rw[←h]at hj
   simp at hj)
 have hlen1:(l++[x]).length=l.length+1:=by simp
 refine⟨xs++news,by rw[hlen1];exact hrow,fun g' hg'=>?_,fun i hi=>?_⟩
 ·simp[Value.ownBlock]at hg';subst hg'
  rcases hat with h|h
  ·exact hPo _ h
  ·rw[h];exact hPH
 ·have hoff:∀j,Off P v j=true→j≠H→Off P (.slice (some ⟨g,0,none⟩) (l.length+1) cap) j=true:=by
   intro j hj hne;unfold Off at hj ⊢;rw[Bool.and_eq_true]at hj ⊢;refine⟨hj.1,?_⟩
   rcases hat with h|h
   ·rw[h]at hj
    simpa [Value.ownBlock] using hj.2
   ·subst h;simp[Value.ownBlock];exact fun h=>hne h.symm
  rcases Nat.lt_or_ge i l.length with hlt|hge
  ·have e1:(l++[x])[i]=l[i]:=List.getElem_append_left hlt;rw[e1]
   have e2:((xs++news).drop (i*k)).take k=(xs.drop (i*k)).take k:=by
    have:(i+1)*k≤l.length*k:=Nat.mul_le_mul_right k hlt;rw[Nat.succ_mul]at this;rw[List.drop_append_of_le_length (by omega),List.take_append_of_le_length (by simp;omega)]
   rw[e2];refine hV.sub (hold i hlt) (qam fun j hj hjw=>?_);exact⟨hoff j hj (by omega),(hkeep j hj (by omega)).trans (h1 j hjw)⟩
  ·have hil:i=l.length:=by simp at hi;omega
   subst hil;have e1:(l++[x])[l.length]=x:=by simp
   rw[e1]
   have e2:((xs++news).drop (l.length*k)).take k=news:=by
    rw[←hxl,List.drop_left];exact List.take_of_length_le (by rw[hV.len hfar];exact Nat.le_refl _)
   rw[e2];refine hV.sub hfar (qam fun j hj hjw=>?_);rw[Bool.and_eq_true]at hj;exact⟨hoff j hj.1 (by simpa using hj.2),hkeep j hj.1 hjw⟩
def frm (n:Nat):Nat→Bool:=fun j=>decide (n≤j)
theorem infT:(Tryz.prog.info? 71).map (fun i=>(i.zero,i.size,i.bytes))=some (some (.agg #[.int .i64 0,.string ⟨#[]⟩,.string ⟨#[]⟩,.int .i64 0,.int .i64 0,.slice none 0 0]),6,80):=by kernel_rfl
theorem infS:(Tryz.prog.info? 67).map (fun i=>(i.zero,i.size,i.bytes))=some (some (.agg #[.string ⟨#[]⟩,.slice none 0 0]),2,40):=by kernel_rfl
theorem infP:(Tryz.prog.info? 64).map (fun i=>(i.zero,i.size,i.bytes))=some (some (.agg #[.slice none 0 0,.slice none 0 0]),2,48):=by kernel_rfl
theorem infI:(Tryz.prog.info? 3).map (fun i=>(i.zero,i.size,i.bytes))=some (some (.int .i64 0),1,8):=by kernel_rfl
section
variable {β:Type} {P:Nat→Bool} {B:Nat} {e:TypeId} {k:Nat} {V:World→List Value→β→Prop} {E:World→Nat→Nat→β→Prop}
theorem qh8 (hV:IsV k V E){w2 w':World}{v:Value}{l:List β}{x:β}{xs news:List Value}{g cap:Nat}(hown:w2.ownsRow B e k v l.length xs)(hPo:∀g,v.ownBlock=some g→P g=true)(hold:∀i (h:i<l.length),V (mask (Off P v) w2) ((xs.drop (i*k)).take k) l[i])(hnew:V (mask (Off P v) w2) news x)(hPH:P (w2.heap.size+1)=true)
 (hrow:w'.ownsRow B e k (.slice (some ⟨g,0,none⟩) (l.length+1) cap) (l.length+1) (xs++news)) (hg:(w2.alloc (.cells news.toArray e)).grownBy w' v.ownBlock) (hat:v.ownBlock=some g∨g=w2.heap.size+1):Grow P B e k V w' (.slice (some ⟨g,0,none⟩) (l.length+1) cap) (l++[x]):=by
 have hb:=qac w2 (.cells news.toArray e);refine Grow.push hV (w:=w2) (w1:=w2.alloc (.cells news.toArray e)) (H:=w2.heap.size+1) hPo hPH hown hold (fun j hj=>hb.block j hj) hb.size (by omega) hrow hg hat ?_;refine hV.sub hnew (qam fun j hj hjw=>?_);refine⟨?_,hb.block j hjw⟩;rw[hj];simp;omega
theorem qbS (hV:IsV k V E){T:TypeId}{z:Value}{bytes:Nat}(hT:Tryz.prog.underlying T=some (.slice e))(hinf:(Tryz.prog.info? e).map (fun i=>(i.zero,i.size,i.bytes))=some (some z,k,bytes))(hz:z.cells.size=k)(hk:0<k)(hby:64*bytes≤140737488355328)
 {ops:Array Oper} {o:Oper} {a:Act} {K:Act→World→Prop} {Q:Exit→Act→World→Prop} {R:Prop} {w2:World} {v:Value} {l:List β} {x:β} {news:List Value} (hgd:o.guard=none) (s t:Operand)
 (ho:o.op=.call { callee:=.builtin .append,args:= #[s,t],argTypes:= #[T,T] }) (hs:a.eval s=v) (hx:a.eval t=.slice (some ⟨w2.heap.size,0,none⟩) 1 1)
 (hold:Grow P B e k V w2 v l) (hnew:V (mask (Off P v) w2) news x) (hone:∀u∈news,u.oneCell'=true) (hlen:l.length+1≤64) (hB:B≤w2.heap.size) (hPH:P (w2.heap.size+1)=true)
 (h:∀g cap w',Grow P B e k V w' (.slice (some ⟨g,0,none⟩) (l.length+1) cap) (l++[x])→(w2.alloc (.cells news.toArray e)).grownBy w' v.ownBlock→(v.ownBlock=some g∨g=w2.heap.size+1)→K (a.put o.dst (.slice (some ⟨g,0,none⟩) (l.length+1) cap)) w'):
 if Region.wanted o (yielded ops a.tmps)=true then Oper.wp Tryz.prog o a (w2.alloc (.cells news.toArray e)) K Q else R:=by
 obtain⟨xs,hown,hPo,hvs⟩:=hold;obtain⟨i0,hi,hz0,hz1,hz2⟩:=info_parts hinf;have hb:=qac w2 (.cells news.toArray e)
 have hown1:(w2.alloc (.cells news.toArray e)).ownsRow B e k v l.length xs:=by
  refine⟨hown.1,?_⟩
  rcases hown.2 with h1|⟨g,cap,cur,e1,e2,e3,e4⟩
  ·exact Or.inl h1
  ·exact Or.inr ⟨g,cap,cur,e1,e2,(hb.block g (Array.getElem?_eq_some_iff.1 e3).1).trans e3,e4⟩
 have hbytes:(l.length+1)*bytes≤140737488355328:=Nat.le_trans (Nat.mul_le_mul_right bytes hlen) hby;refine step_append_lies _ hgd s t T ho B e i0 z k bytes hT hi hz0 hz1 hz2 hz hk v l.length xs hs hown1 ⟨w2.heap.size,0,none⟩ 1 1 news hx (by rw[hV.len hnew];omega) (World.news_of_block (heap_alloc_new w2 _)) hone (by omega) (by unfold maxLen;omega) hbytes (by simp;omega) (w2.heap.size+1) (by simp) ?_;intro g cap w' h1 h2 h3 _;exact h g cap w' (qh8 hV hown hPo hvs hnew hPH h1 h2 h3) h2 h3
theorem qaQ (hV:IsV k V E){T:TypeId}{z:Value}{bytes:Nat}(hT:Tryz.prog.underlying T=some (.slice e))(hinf:(Tryz.prog.info? e).map (fun i=>(i.zero,i.size,i.bytes))=some (some z,k,bytes))(hz:z.cells.size=k)(hk:0<k)(hby:64*bytes≤140737488355328)
 {ops:Array Oper} {rest:List Oper} {o:Oper} {a:Act} {Q:Exit→Act→World→Prop} {w2:World} {v:Value} {l:List β} {x:β} {news:List Value} (hgd:o.guard=none) (s t:Operand)
 (ho:o.op=.call { callee:=.builtin .append,args:= #[s,t],argTypes:= #[T,T] }) (hs:a.eval s=v) (hx:a.eval t=.slice (some ⟨w2.heap.size,0,none⟩) 1 1)
 (hold:Grow P B e k V w2 v l) (hnew:V (mask (Off P v) w2) news x) (hone:∀u∈news,u.oneCell'=true) (hlen:l.length+1≤64) (hB:B≤w2.heap.size) (hPH:P (w2.heap.size+1)=true)
 (h:∀g cap w',Grow P B e k V w' (.slice (some ⟨g,0,none⟩) (l.length+1) cap) (l++[x])→(w2.alloc (.cells news.toArray e)).grownBy w' v.ownBlock→(v.ownBlock=some g∨g=w2.heap.size+1)→wpList Tryz.prog ops Q rest (a.put o.dst (.slice (some ⟨g,0,none⟩) (l.length+1) cap)) w'):
 wpList Tryz.prog ops Q (o::rest) a (w2.alloc (.cells news.toArray e)):=by
 obtain⟨xs,hown,hPo,hvs⟩:=hold;obtain⟨i0,hi,hz0,hz1,hz2⟩:=info_parts hinf;have hb:=qac w2 (.cells news.toArray e)
 have hown1:(w2.alloc (.cells news.toArray e)).ownsRow B e k v l.length xs:=by
  refine⟨hown.1,?_⟩
  rcases hown.2 with h1|⟨g,cap,cur,e1,e2,e3,e4⟩
  ·exact Or.inl h1
  ·exact Or.inr ⟨g,cap,cur,e1,e2,(hb.block g (Array.getElem?_eq_some_iff.1 e3).1).trans e3,e4⟩
 have hbytes:(l.length+1)*bytes≤140737488355328:=Nat.le_trans (Nat.mul_le_mul_right bytes hlen) hby;refine wpList_append_lies _ hgd s t T ho B e i0 z k bytes hT hi hz0 hz1 hz2 hz hk v l.length xs hs hown1 ⟨w2.heap.size,0,none⟩ 1 1 news hx (by rw[hV.len hnew];omega) (World.news_of_block (heap_alloc_new w2 _)) hone (by omega) (by unfold maxLen;omega) hbytes (by simp;omega) (w2.heap.size+1) (by simp) ?_;intro g cap w' h1 h2 h3 _;exact h g cap w' (qh8 hV hown hPo hvs hnew hPH h1 h2 h3) h2 h3
theorem Grow.own {w:World}{v:Value}{l:List β}(h:Grow P B e k V w v l):∀g,v.ownBlock=some g→P g=true∧B≤g:=by
 obtain⟨xs,hown,hPo,_⟩:=h;intro g hg;refine⟨hPo g hg,?_⟩
 rcases hown.2 with ⟨rfl,_⟩|⟨g',cap,cur,rfl,e2,_⟩
 ·simp[Value.ownBlock]at hg
 ·simp[Value.ownBlock]at hg;omega
end
end Go.Proofs.YtephhllfodlfbaaGreatDoor
