/-
  Which entry comes behind which, as the document's own answer tells it.
-/
import Derived.Test.YtephhllfodlfbaaGreatDoorDocO
set_option maxRecDepth 100000
set_option maxHeartbeats 16000000
namespace Go.Proofs.YtephhllfodlfbaaGreatDoor
open Go.RowKit
theorem Pl.bl_gtr (a b:List UInt8):(!(Op.bytesLess a b||a==b))=Op.bytesLess b a:=by
 rcases Pl.qhb a b with h|h|h
 ·have h2:Op.bytesLess b a=false:=by
   cases h3:Op.bytesLess b a with
   | false=>rfl
   | true=>have:=Pl.qeH _ _ _ h h3;rw[Pl.qcN]at this;cases this
  rw[h,h2];rfl
 ·subst h;simp[Pl.qcN]
 ·have h2:Op.bytesLess a b=false:=by
   cases h3:Op.bytesLess a b with
   | false=>rfl
   | true=>have:=Pl.qeH _ _ _ h h3;rw[Pl.qcN]at this;cases this
  have h4:(a==b)=false:=by
   cases h5:a==b with
   | false=>rfl
   | true=>
    have:=eq_of_beq h5;subst this;rw[Pl.qcN]at h
    cases h
  rw[h,h2,h4];rfl
theorem Pl.bl_gtr2 (a b:List UInt8):(!Op.bytesLess a b&&!a==b)=Op.bytesLess b a:=by
 have h:=Pl.bl_gtr a b;rw[Bool.not_or]at h;exact h
theorem qcC (k1 k2:Int)(n1 n2:List UInt8)(a1 a2:Option Addr)(l1 c1 l2 c2:Nat)(w:World):
 Calls Tryz.prog 63 #[.agg #[.int .i64 k1,.string ⟨n1.toArray⟩,.slice a1 l1 c1],.agg #[.int .i64 k2,.string ⟨n2.toArray⟩,.slice a2 l2 c2]] w fun e w'=>
  e=.returned (.bool (Pl.qas (k2,n2) (k1,n1)))∧Below w.heap.size w w':=by
 have hB:=boxes w (.cells #[.int .i64 k1,.string ⟨n1.toArray⟩,.slice a1 l1 c1] 61) (.cells #[.int .i64 k2,.string ⟨n2.toArray⟩,.slice a2 l2 c2] 61)
 cases he:(k1==k2) with
 | true=>
  have e:=eq_of_beq he
  have HH:Hid (Pl.qas (k2,n2) (k1,n1)=(!Op.bytesLess n1 n2&&!n1==n2)):=by
   unfold Hid Pl.qas;rw[Pl.bl_gtr2,e];simp
  clear e;go_enter Tryz.func63,Tryz.ntmps63;go_wp2;go_ret;exact⟨by rw[HH.out];rfl,hB⟩
 | false=>
  have HH:Hid (Pl.qas (k2,n2) (k1,n1)=decide (k2<k1)):=by
   have h2:(k2==k1)=false:=by
    cases h:k2==k1 with
    | false=>rfl
    | true=>have:=eq_of_beq h;subst this;simp at he
   unfold Hid Pl.qas;simp only;rw[h2];simp
  go_enter Tryz.func63,Tryz.ntmps63;go_wp2;go_ret;exact⟨by rw[HH.out];rfl,hB⟩
namespace Pl
inductive F where
 | nil:F
 | cons (x:Nd) (k r:F):F
namespace F
def len:F→Nat
 | .nil=>0
 | .cons _ _ r=>r.len+1
def size:F→Nat
 | .nil=>0
 | .cons _ k r=>k.size+r.size+1
def app:F→F→F
 | .nil,g=>g
 | .cons x k r,g=> .cons x k (r.app g)
def drop:F→Nat→F
 | f,0=>f
 | .nil,_+1=> .nil
 | .cons _ _ r,n+1=>r.drop n
theorem app_len (f g:F):(f.app g).len=f.len+g.len:=by
 induction f with
 | nil=>simp[app,len]
 | cons x k r _ ih=>simp[app,len,ih];omega
theorem app_nil (f:F):f.app .nil=f:=by
 induction f with
 | nil=>rfl
 | cons x k r _ ih=>simp[app,ih]
theorem app_assoc (f g h:F):(f.app g).app h=f.app (g.app h):=by
 induction f with
 | nil=>rfl
 | cons x k r _ ih=>simp[app,ih]
theorem drop_zero (f:F):f.drop 0=f:=by cases f<;>rfl
theorem drop_len:∀(f:F) (n:Nat),f.len≤n→f.drop n=.nil
 | .nil,0,_=>rfl
 | .nil,_+1,_=>rfl
 | .cons _ _ r,0,h=>by simp[len]at h
 | .cons _ _ r,n+1,h=>by simp only[len]at h;exact drop_len r n (by omega)
theorem drop_lt:∀(f:F) (n:Nat),n<f.len→∃x k,f.drop n=.cons x k (f.drop (n+1))∧k.size<f.size
 | .nil,n,h=>by simp[len]at h
 | .cons x k r,0,_=>⟨x,k,by simp[drop,drop_zero],by simp[size];omega⟩
 | .cons x k r,n+1,h=>by
  obtain⟨y,l,h1,h2⟩:=drop_lt r n (by simp only[len]at h;omega);exact⟨y,l,by simp only[drop];exact h1,by simp only[size];omega⟩
theorem len_le_size (f:F):f.len≤f.size:=by
 induction f with
 | nil=>simp[len]
 | cons x k r _ ih=>simp[len,size];omega
end F
def layF:F→Nat→Int→List Nd
 | .nil,_,_=>[]
 | .cons x k r,pos,up=>({ x with up:=up }::layF k (pos+1) pos)++layF r (pos+1+k.size) up
theorem layF_len (f:F):∀pos up,(layF f pos up).length=f.size:=by
 induction f with
 | nil=>intro _ _;rfl
 | cons x k r ihk ihr=>intro pos up;simp[layF,F.size,ihk,ihr];try omega
def layT (x:Nd)(k:F)(pos:Nat)(up:Int):List Nd:={ x with up:=up }::layF k (pos+1) pos
theorem qbX (x:Nd)(k:F)(pos:Nat)(up:Int):(layT x k pos up).length=k.size+1:=by simp[layT,layF_len]
end Pl
def qb7 (P:Nat→Prop)(w:World)(v:Value)(ss:List (List UInt8)):Prop:=
 ∃a cap,v=.slice a ss.length cap∧(ss=[]∨∃b o,a=some ⟨b,o,none⟩∧P b∧∀i (h:i<ss.length),w.cell? ⟨b,o+i,none⟩=some (.string ⟨ss[i].toArray⟩))
def AtsP (P:Nat→Prop)(w:World)(v:Value)(ss:List (List UInt8×List UInt8)):Prop:=
 ∃a cap,v=.slice a ss.length cap∧(ss=[]∨∃b o,a=some ⟨b,o,none⟩∧P b∧∀i (h:i<ss.length),w.cell? ⟨b,o+i*2,none⟩=some (.string ⟨ss[i].1.toArray⟩)∧w.cell? ⟨b,o+i*2+1,none⟩=some (.string ⟨ss[i].2.toArray⟩))
def Mv (P:Nat→Prop)(w:World)(P':Nat→Prop)(w':World):Prop:=∀j,P j→j<w.heap.size→P' j∧w'.heap[j]? =w.heap[j]?
theorem Mv.cell {P P':Nat→Prop}{w w':World}(h:Mv P w P' w'){b o:Nat}{v:Value}(hb:P b)(hc:w.cell? ⟨b,o,none⟩=some v):w'.cell? ⟨b,o,none⟩=some v:=by
 rw[World.cell?_of_block (w:=w) (h b hb (qaV hc)).2];exact hc
theorem qb7.to {P P':Nat→Prop}{w w':World}{v:Value}{ss:List (List UInt8)}(h:qb7 P w v ss)(hm:Mv P w P' w'):qb7 P' w' v ss:=by
 obtain⟨a,cap,rfl,h⟩:=h;refine⟨a,cap,rfl,?_⟩
 rcases h with h|⟨b,o,ha,hp,hc⟩
 ·exact Or.inl h
 ·by_cases hn:ss=[]
  ·exact Or.inl hn
  ·have hl:0<ss.length:=List.length_pos_iff.2 hn;exact Or.inr ⟨b,o,ha,(hm b hp (qaV (hc 0 hl))).1,fun i hi=>hm.cell hp (hc i hi)⟩
theorem AtsP.to {P P':Nat→Prop}{w w':World}{v:Value}{ss:List (List UInt8×List UInt8)}(h:AtsP P w v ss)(hm:Mv P w P' w'):AtsP P' w' v ss:=by
 obtain⟨a,cap,rfl,h⟩:=h;refine⟨a,cap,rfl,?_⟩
 rcases h with h|⟨b,o,ha,hp,hc⟩
 ·exact Or.inl h
 ·by_cases hn:ss=[]
  ·exact Or.inl hn
  ·have hl:0<ss.length:=List.length_pos_iff.2 hn;exact Or.inr ⟨b,o,ha,(hm b hp (qaV (hc 0 hl).1)).1,fun i hi=>⟨hm.cell hp (hc i hi).1,hm.cell hp (hc i hi).2⟩⟩
def NdP (P:Nat→Prop)(w:World)(b o:Nat)(x:Pl.Nd):Prop:=
 ∃vc va,w.cell? ⟨b,o,none⟩=some (.int .i64 x.up)∧w.cell? ⟨b,o+1,none⟩=some (.string ⟨x.tag.toArray⟩)∧w.cell? ⟨b,o+2,none⟩=some (.string ⟨x.id.toArray⟩)∧
  w.cell? ⟨b,o+3,none⟩=some vc∧w.cell? ⟨b,o+4,none⟩=some va∧qb7 P w vc x.cls∧AtsP P w va x.ats
def Own (P:Nat→Prop)(w:World)(b:Nat):Prop:=P b∧∀i,w.frozen? ⟨b,i,none⟩=false
theorem Own.to {P P':Nat→Prop}{w w':World}{b:Nat}(h:Own P w b)(hm:Mv P w P' w')(hl:b<w.heap.size):Own P' w' b:=
 ⟨(hm b h.1 hl).1,fun i=>by rw[World.frozen?_of_block (w:=w) (a:=⟨b,i,none⟩) (hm b h.1 hl).2];exact h.2 i⟩
def FIn (P:Nat→Prop)(w:World):Pl.F→Nat→Nat→Prop
 | .nil,_,_=>True
 | .cons x k r,b,o=>NdP P w b o x∧(∃a cap,w.cell? ⟨b,o+5,none⟩=some (.slice a k.len cap)∧(k.len=0∨∃b' o',a=some ⟨b',o',none⟩∧Own P w b'∧FIn P w k b' o'))∧FIn P w r b (o+6)
theorem FIn.to {P P':Nat→Prop}{w w':World}(hm:Mv P w P' w')(f:Pl.F):∀b o,P b→FIn P w f b o→FIn P' w' f b o:=by
 induction f with
 | nil=>intro _ _ _ _;trivial
 | cons x k r ihk ihr=>
  rintro b o hp ⟨⟨vc,va,h0,h1,h2,h3,h4,hs,ha⟩,⟨a,cap,h5,h6⟩,h7⟩;refine⟨⟨vc,va,hm.cell hp h0,hm.cell hp h1,hm.cell hp h2,hm.cell hp h3,hm.cell hp h4,hs.to hm,ha.to hm⟩,⟨a,cap,hm.cell hp h5,?_⟩,ihr b _ hp h7⟩
  rcases h6 with h6|⟨b',o',e,hp',h6⟩
  ·exact Or.inl h6
  ·by_cases hk:k.len=0
   ·exact Or.inl hk
   ·refine Or.inr ⟨b',o',e,?_,ihk b' o' hp'.1 h6⟩
    cases k with
    | nil=>simp[Pl.F.len]at hk
    | cons y k2 r2=>
     obtain⟨⟨_,_,g0,_⟩,_⟩:=h6;exact hp'.to hm (qaV g0)
theorem FIn.drop {P:Nat→Prop}{w:World}:∀(f:Pl.F) (n b o:Nat),FIn P w f b o→FIn P w (f.drop n) b (o+n*6)
 | f,0,b,o,h=>by rw[Pl.F.drop_zero];simpa using h
 | .nil,_+1,_,_,_=>trivial
 | .cons x k r,n+1,b,o,h=>by
  have:=FIn.drop r n b (o+6) h.2.2;rw[show o+(n+1)*6=o+6+n*6 by omega];exact this
def Sub (P:Nat→Prop)(w:World)(v:Value)(k:Pl.F):Prop:=∃a cap,v=.slice a k.len cap∧(k.len=0∨∃b o,a=some ⟨b,o,none⟩∧Own P w b∧FIn P w k b o)
theorem Sub.to {P P':Nat→Prop}{w w':World}{v:Value}{k:Pl.F}(h:Sub P w v k)(hm:Mv P w P' w'):Sub P' w' v k:=by
 obtain⟨a,cap,rfl,h⟩:=h;refine⟨a,cap,rfl,?_⟩
 rcases h with h|⟨b,o,ha,hp,hf⟩
 ·exact Or.inl h
 ·cases k with
  | nil=>exact Or.inl rfl
  | cons y k2 r2=>
   have hf2:=hf;obtain⟨⟨_,_,g0,_⟩,_⟩:=hf2;exact Or.inr ⟨b,o,ha,hp.to hm (qaV g0),FIn.to hm _ b o hp.1 hf⟩
def TV (P:Nat→Prop)(w:World)(v:Value)(x:Pl.Nd)(k:Pl.F):Prop:=
 ∃vc va vk,v=.agg #[.int .i64 x.up,.string ⟨x.tag.toArray⟩,.string ⟨x.id.toArray⟩,vc,va,vk]∧qb7 P w vc x.cls∧AtsP P w va x.ats∧Sub P w vk k
theorem TV.to {P P':Nat→Prop}{w w':World}{v:Value}{x:Pl.Nd}{k:Pl.F}(h:TV P w v x k)(hm:Mv P w P' w'):TV P' w' v x k:=by
 obtain⟨vc,va,vk,rfl,hc,ha,hk⟩:=h;exact⟨vc,va,vk,rfl,hc.to hm,ha.to hm,hk.to hm⟩
def qa0 (P:Nat→Prop)(w:World):List Value→Pl.F→Prop
 | [],.nil=>True
 | c0::c1::c2::c3::c4::c5::r,.cons x k t=>(c0=.int .i64 x.up∧c1=.string ⟨x.tag.toArray⟩∧c2=.string ⟨x.id.toArray⟩∧qb7 P w c3 x.cls∧AtsP P w c4 x.ats∧Sub P w c5 k)∧qa0 P w r t
 | _,_=>False
theorem qa0.split {P:Nat→Prop}{w:World}{xs:List Value}{x:Pl.Nd}{k t:Pl.F}(h:qa0 P w xs (.cons x k t)):
 ∃c3 c4 c5 r,xs=.int .i64 x.up:: .string ⟨x.tag.toArray⟩:: .string ⟨x.id.toArray⟩::c3::c4::c5::r∧qb7 P w c3 x.cls∧AtsP P w c4 x.ats∧Sub P w c5 k∧qa0 P w r t:=by
 match xs,h with
 | c0::c1::c2::c3::c4::c5::r,⟨⟨h0,h1,h2,h3,h4,h5⟩,h6⟩=>exact⟨c3,c4,c5,r,by rw[h0,h1,h2],h3,h4,h5,h6⟩
theorem qa0.empty {P:Nat→Prop}{w:World}{xs:List Value}(h:qa0 P w xs .nil):xs=[]:=by
 cases xs with
 | nil=>rfl
 | cons c r=>simp[qa0]at h
theorem qa0.to {P P':Nat→Prop}{w w':World}(hm:Mv P w P' w')(f:Pl.F):∀xs,qa0 P w xs f→qa0 P' w' xs f:=by
 induction f with
 | nil=>intro xs h;rw[h.empty];trivial
 | cons x k t _ ih=>
  intro xs h;obtain⟨c3,c4,c5,r,rfl,h3,h4,h5,h6⟩:=h.split;exact⟨⟨rfl,rfl,rfl,h3.to hm,h4.to hm,h5.to hm⟩,ih r h6⟩
theorem qa0.append {P:Nat→Prop}{w:World}(f:Pl.F):∀xs ys g,qa0 P w xs f→qa0 P w ys g→qa0 P w (xs++ys) (f.app g):=by
 induction f with
 | nil=>intro xs ys g h h2;rw[h.empty];exact h2
 | cons x k t _ ih=>
  intro xs ys g h h2;obtain⟨c3,c4,c5,r,rfl,h3,h4,h5,h6⟩:=h.split;exact⟨⟨rfl,rfl,rfl,h3,h4,h5⟩,ih r ys g h6 h2⟩
theorem qa0.fin {P:Nat→Prop}{w:World}(b:Nat)(f:Pl.F):∀xs o,qa0 P w xs f→(∀j u,xs[j]? =some u→w.cell? ⟨b,o+j,none⟩=some u)→FIn P w f b o:=by
 induction f with
 | nil=>intro _ _ _ _;trivial
 | cons x k t _ ih=>
  intro xs o h hc;obtain⟨c3,c4,c5,r,rfl,h3,h4,h5,h6⟩:=h.split;obtain⟨a,cap,rfl,hs⟩:=h5;refine⟨⟨c3,c4,hc 0 _ rfl,hc 1 _ rfl,hc 2 _ rfl,hc 3 _ rfl,hc 4 _ rfl,h3,h4⟩,⟨a,cap,hc 5 _ rfl,hs⟩,ih r (o+6) h6 fun j u hj=>?_⟩;have:=hc (j+6) u (by simpa using hj);rw[show o+6+j=o+(j+6) by omega];exact this
theorem qeE {w w':World}{N:Nat}{g:Option Nat}{c0 c1 c2 c3 c4:Value}(h:Blk w N c0 c1 c2 c3 c4)(hg:w.grownBy w' g)(hne:some N≠g):Blk w' N c0 c1 c2 c3 c4:=(hg.block N h.lt hne).trans h
theorem Tryz.info61:(Tryz.prog.info? 61).map (fun i=>(i.zero,i.size,i.bytes))=some (some (.agg #[.int .i64 0,.string ⟨#[]⟩,.slice none 0 0]),3,48):=by kernel_rfl
theorem qcV {w:World}{B:Nat}{e:TypeId}{size:Nat}{v:Value}{n:Nat}{xs:List Value}(h:w.ownsRow B e size v n xs):∃a c,v=.slice a n c:=by
 rcases h.2 with ⟨rfl,h0⟩|⟨g,cap,cur,rfl,_⟩
 ·exact⟨none,0,by rw[h0]⟩
 ·exact⟨_,cap,rfl⟩
theorem below_grow {w W w':World}{g:Option Nat}(h:Below w.heap.size w W)(hg:W.grownBy w' g)(hn:∀k,g=some k→w.heap.size≤k):Below w.heap.size w w':=
 h.trans ⟨hg.os,hg.tape,hg.output,hg.size,fun k hk=>hg.block k (Nat.lt_of_lt_of_le hk h.size) (fun e=>by have:=hn k e.symm;omega)⟩
def qbq (ks:List Pl.Key):List Value:=ks.flatMap fun k=>[.int .i64 k.1,.string ⟨k.2.toArray⟩,.slice none 0 0]
theorem qfU {ops:Array Oper}{rest:List Oper}{o:Oper}{a:Act}{Q:Exit→Act→World→Prop}{B:Nat}{w2:World}{v:Value}{ks:List Pl.Key}{k:Pl.Key}(hgd:o.guard=none)(s t:Operand)
 (ho:o.op=.call { callee:=.builtin .append,args:= #[s,t],argTypes:= #[30,30] }) (hs:a.eval s=v) (hx:a.eval t=.slice (some ⟨w2.heap.size,0,none⟩) 1 1)
 (hown:w2.ownsRow B 61 3 v ks.length (qbq ks)) (hlen:ks.length+1≤64) (hB:B≤w2.heap.size)
 (h:∀g cap w',w'.ownsRow B 61 3 (.slice (some ⟨g,0,none⟩) (ks.length+1) cap) (ks.length+1) (qbq (ks++[k]))→(w2.alloc (.cells #[.int .i64 k.1,.string ⟨k.2.toArray⟩,.slice none 0 0] 61)).grownBy w' v.ownBlock→wpList Tryz.prog ops Q rest (a.put o.dst (.slice (some ⟨g,0,none⟩) (ks.length+1) cap)) w'):
 wpList Tryz.prog ops Q (o::rest) a (w2.alloc (.cells #[.int .i64 k.1,.string ⟨k.2.toArray⟩,.slice none 0 0] 61)):=by
 obtain⟨i0,hi,hz0,hz1,hz2⟩:=info_parts Tryz.info61;refine wpList_append_lies _ hgd s t 30 ho B 61 i0 _ 3 48 Tryz.underlying30 hi hz0 hz1 hz2 rfl (by decide) v ks.length (qbq ks) hs (qbt hown (qac _ _)) ⟨w2.heap.size,0,none⟩ 1 1 [.int .i64 k.1,.string ⟨k.2.toArray⟩,.slice none 0 0] hx rfl ?_ ?_ (by decide) (by unfold maxLen;omega) (by omega) (by simp;omega) _ rfl ?_
 ·exact World.news_of_block (heap_alloc_new w2 _)
 ·intro u hu;simp only[List.mem_cons,List.not_mem_nil,or_false]at hu
  rcases hu with rfl|rfl|rfl<;>rfl
 ·intro g cap w' h1 h2 _ _;exact h g cap w' (by rw[show qbq (ks++[k])=qbq ks++[.int .i64 k.1,.string ⟨k.2.toArray⟩,.slice none 0 0] by simp[qbq]];exact h1) h2
namespace Pl
def qbc (x:Nd)(j:Nat):List Key:=(1,x.tag)::((if x.id=[] then [] else [(2,x.id)])++(x.cls.take j).map fun c=>(3,c))
theorem qd6 (x:Nd):qbc x x.cls.length=keysOf x:=by simp[qbc,keysOf]
theorem qf0 (x:Nd)(j:Nat)(h:j<x.cls.length):qbc x (j+1)=qbc x j++[(3,x.cls[j])]:=by
 unfold qbc;rw[List.take_succ_eq_append_getElem h,List.map_append];simp only[List.map_cons,List.map_nil,List.cons_append,List.append_assoc]
theorem qgQ (x:Nd)(j:Nat):(qbc x j).length≤2+j:=by
 unfold qbc
 split<;>simp<;>omega
end Pl
theorem keys_any (v:Value)(x:Pl.Nd)(w:World)(hv:NdV w v x)(h6:x.cls.length≤6):
 Calls Tryz.prog 62 #[v] w fun e w'=>∃u,e=.returned u∧w'.ownsRow (w.heap.size+1) 61 3 u (Pl.keysOf x).length (qbq (Pl.keysOf x))∧Below w.heap.size w w':=by
 obtain⟨vc,va,rfl,hvc,hva⟩:=hv;obtain⟨ac,cc,rfl,_⟩:=id hvc;obtain⟨aa,ca,rfl,_⟩:=id hva;have HVC:Hid (qa1 _ _ _):=hvc;have hB:=boxes w (.cells #[.int .i64 x.up,.string ⟨x.tag.toArray⟩,.string ⟨x.id.toArray⟩,.slice ac x.cls.length cc,.slice aa x.ats.length ca] 28) (.cells #[.int .i64 1,.string ⟨x.tag.toArray⟩,.slice none 0 0] 61);have bX:Blk (w.alloc (.cells #[.int .i64 x.up,.string ⟨x.tag.toArray⟩,.string ⟨x.id.toArray⟩,.slice ac x.cls.length cc,.slice aa x.ats.length ca] 28)) w.heap.size (.int .i64 x.up) (.string ⟨x.tag.toArray⟩) (.string ⟨x.id.toArray⟩) (.slice ac x.cls.length cc) (.slice aa x.ats.length ca):=heap_alloc_new w _;have bY:=bX.on (qac _ (.cells #[.int .i64 1,.string ⟨x.tag.toArray⟩,.slice none 0 0] 61));have hz:(w.alloc (.cells #[.int .i64 x.up,.string ⟨x.tag.toArray⟩,.string ⟨x.id.toArray⟩,.slice ac x.cls.length cc,.slice aa x.ats.length ca] 28)).heap.size=w.heap.size+1:=by simp
 have O1:Hid _:=World.ownsRow_lit (base:=w.heap.size+1) (e:=61) (size:=3) (w.alloc (.cells #[.int .i64 x.up,.string ⟨x.tag.toArray⟩,.string ⟨x.id.toArray⟩,.slice ac x.cls.length cc,.slice aa x.ats.length ca] 28)) #[.int .i64 1,.string ⟨x.tag.toArray⟩,.slice none 0 0] 1 (by rw[hz];exact Nat.le_refl _) (by unfold maxLen;omega) rfl;have hsz:((w.alloc (.cells #[.int .i64 x.up,.string ⟨x.tag.toArray⟩,.string ⟨x.id.toArray⟩,.slice ac x.cls.length cc,.slice aa x.ats.length ca] 28)).alloc (.cells #[.int .i64 1,.string ⟨x.tag.toArray⟩,.slice none 0 0] 61)).heap.size=w.heap.size+2:=by simp
 have HBY:Hid _:=bY;obtain⟨⟨_,x1,_,_,_⟩,_⟩:=bX.facts;obtain⟨⟨_,_,y2,y3,_⟩,_⟩:=bY.facts;clear hvc hva bX bY;have hcase:x.id.isEmpty=true∨x.id.isEmpty=false:=by cases x.id.isEmpty<;>simp
 go_enter Tryz.func62,Tryz.ntmps62
 rcases hcase with hi|hi
 case' inl=>
  have hk0:Pl.qbc x 0=[(1,x.tag)]:=by unfold Pl.qbc;rw[if_pos (List.isEmpty_iff.1 hi)];simp
  have HO:Hid (((w.alloc (.cells #[.int .i64 x.up,.string ⟨x.tag.toArray⟩,.string ⟨x.id.toArray⟩,.slice ac x.cls.length cc,.slice aa x.ats.length ca] 28)).alloc (.cells #[.int .i64 1,.string ⟨x.tag.toArray⟩,.slice none 0 0] 61)).ownsRow (w.heap.size+1) 61 3 (.slice (some ⟨w.heap.size+1,0,none⟩) 1 1) (Pl.qbc x 0).length (qbq (Pl.qbc x 0))):=by
   unfold Hid;rw[hk0];have:=O1.out;rw[hz]at this;exact this
  clear hk0 O1
  go_wp2_with fail
  generalize (w.alloc (.cells #[.int .i64 x.up,.string ⟨x.tag.toArray⟩,.string ⟨x.id.toArray⟩,.slice ac x.cls.length cc,.slice aa x.ats.length ca] 28)).alloc (.cells #[.int .i64 1,.string ⟨x.tag.toArray⟩,.slice none 0 0] 61)=wl at *;have HBl:Hid (Blk wl w.heap.size (.int .i64 x.up) (.string ⟨x.tag.toArray⟩) (.string ⟨x.id.toArray⟩) (.slice ac x.cls.length cc) (.slice aa x.ats.length ca)):=HBY.out;have HBe:Hid (Below w.heap.size w wl):=hB;have hsl:w.heap.size+2≤wl.heap.size:=by omega
  clear HBY hB x1 y2 y3
 case' inr=>
  have hk0:Pl.qbc x 0=[(1,x.tag)]++[(2,x.id)]:=by unfold Pl.qbc;rw[if_neg (by intro e;rw[e]at hi;simp at hi)];simp
  have HK0:Hid _:=hk0
  have HO1:Hid (((w.alloc (.cells #[.int .i64 x.up,.string ⟨x.tag.toArray⟩,.string ⟨x.id.toArray⟩,.slice ac x.cls.length cc,.slice aa x.ats.length ca] 28)).alloc (.cells #[.int .i64 1,.string ⟨x.tag.toArray⟩,.slice none 0 0] 61)).ownsRow (w.heap.size+1) 61 3 (.slice (some ⟨w.heap.size+1,0,none⟩) 1 1) [((1:Int),x.tag)].length (qbq [(1,x.tag)])):=by
   unfold Hid;have:=O1.out;rw[hz]at this;exact this
  clear hk0 O1
  go_wp2_with (at_builtin;refine Hid.out ?_)
  generalize (w.alloc (.cells #[.int .i64 x.up,.string ⟨x.tag.toArray⟩,.string ⟨x.id.toArray⟩,.slice ac x.cls.length cc,.slice aa x.ats.length ca] 28)).alloc (.cells #[.int .i64 1,.string ⟨x.tag.toArray⟩,.slice none 0 0] 61)=w1 at *;unfold Hid;refine qfU (B:=w.heap.size+1) (w2:=w1) (v:=.slice (some ⟨w.heap.size+1,0,none⟩) 1 1) (ks:=[(1,x.tag)]) (k:=(2,x.id)) ?_ (.tmp 12) (.tmp 16) ?_ ?_ ?_ HO1.out (by simp) (by omega) ?_
  ·rfl
  ·rfl
  ·rfl
  ·first|rfl|(simp[Act.eval,hsz];done)
  intro g cap wl hrow hgr
  have HO:Hid (wl.ownsRow (w.heap.size+1) 61 3 (.slice (some ⟨g,0,none⟩) 2 cap) (Pl.qbc x 0).length (qbq (Pl.qbc x 0))):=by
   unfold Hid;rw[HK0.out];exact hrow
  have HBl:Hid (Blk wl w.heap.size (.int .i64 x.up) (.string ⟨x.tag.toArray⟩) (.string ⟨x.id.toArray⟩) (.slice ac x.cls.length cc) (.slice aa x.ats.length ca)):=qeE ((show Blk w1 _ _ _ _ _ _ from HBY.out).on (qac _ _)) hgr (by simp[Value.ownBlock]);have HBe:Hid (Below w.heap.size w wl):=below_grow (qaa hB (qac _ _)) hgr (fun k hk=>by simp[Value.ownBlock]at hk;omega)
  have hsl:w.heap.size+2≤wl.heap.size:=by
   have h1:=hgr.size;have h2:∀ob:Obj,(w1.alloc ob).heap.size=w1.heap.size+1:=fun ob=>by simp
   rw[h2]at h1;omega
  clear HBY hB x1 y2 y3 hrow hgr HO1 HK0
  go_wp2_with fail
 all_goals
  go_loopw [3,4] (fun s i wr=>∃j:Nat,j≤x.cls.length∧i=.int .i64 j∧Hid (wr.ownsRow (w.heap.size+1) 61 3 s (Pl.qbc x j).length (qbq (Pl.qbc x j)))∧Hid (Blk wr w.heap.size (.int .i64 x.up) (.string ⟨x.tag.toArray⟩) (.string ⟨x.id.toArray⟩) (.slice ac x.cls.length cc) (.slice aa x.ats.length ca))∧Hid (Below w.heap.size w wr)∧w.heap.size+2≤wr.heap.size) (fun _ i _=>x.cls.length-(intOf i).toNat)
  case atStart=>exact⟨0,Nat.zero_le _,rfl,HO,HBl,HBe,hsl⟩
  case round=>
   obtain⟨j,hj,rfl,hr,hb,hbe,hs⟩:=hrel;obtain⟨av,cv,rfl⟩:=qcV hr.out;have y3:=hb.out.facts.1.2.2.2.1
   by_cases hlt:j<x.cls.length
   ·obtain⟨a9,c9,e9,h9⟩:=qa1.on HVC.out hbe.out;obtain⟨rfl,rfl⟩:a9=ac∧c9=cc:=by injection e9 with q1 q2 q3;exact⟨q1.symm,q3.symm⟩
    obtain⟨b9,o9,rfl,hc9⟩:=h9.resolve_left (by intro h;rw[h]at hlt;simp at hlt);have q9:=hc9 j hlt;have hkl:=Pl.qgQ x j;have HKS:Hid _:=Pl.qf0 x j hlt;have hOwn:=World.ownsRow.lt hr.out;clear hc9 e9;generalize Pl.qbc x j=ks at *
    go_wp2_with (at_builtin;refine Hid.out ?_)
    unfold Hid;refine qfU (B:=w.heap.size+1) (w2:=wr) (v:=.slice av ks.length cv) (ks:=ks) (k:=(3,x.cls[j])) ?_ (.tmp 25) (.tmp 32) ?_ ?_ ?_ hr.out (by omega) (by omega) ?_
    ·rfl
    ·rfl
    ·rfl
    ·rfl
    intro g cap' w5 hrow hgr
    have HO5:Hid (w5.ownsRow (w.heap.size+1) 61 3 (.slice (some ⟨g,0,none⟩) (ks.length+1) cap') (Pl.qbc x (j+1)).length (qbq (Pl.qbc x (j+1)))):=by
     unfold Hid;rw[HKS.out,List.length_append];exact hrow
    have HBl5:Hid (Blk w5 w.heap.size (.int .i64 x.up) (.string ⟨x.tag.toArray⟩) (.string ⟨x.id.toArray⟩) (.slice (some ⟨b9,o9,none⟩) x.cls.length c9) (.slice aa x.ats.length ca)):=qeE (hb.out.on (qac _ _)) hgr (fun e=>by have:=(hOwn _ e.symm).1;omega);have HBe5:Hid (Below w.heap.size w w5):=below_grow (qaa hbe.out (qac _ _)) hgr (fun k hk=>by have:=(hOwn k hk).1;omega)
    have hs5:w.heap.size+2≤w5.heap.size:=by
     have h1:=hgr.size;have h2:∀ob:Obj,(wr.alloc ob).heap.size=wr.heap.size+1:=fun ob=>by simp
     rw[h2]at h1;omega
    clear hrow hgr;go_wp2;exact⟨⟨j+1,hlt,by go_num,HO5,HBl5,HBe5,hs5⟩,by simp[intOf];omega⟩
   ·obtain rfl:j=x.cls.length:=by omega
    have hr2:=hr.out;rw[Pl.qd6]at hr2;have HR2:Hid _:=hr2;clear hr hr2;go_wp2;go_ret;exact⟨_,rfl,by first|exact HR2.out|(rw[Pl.qd6];exact HR2.out),hbe.out⟩
def within (n lo hi:Int):Bool:=decide (lo≤n)&&decide (n≤hi)
theorem qay (n lo hi:Int)(w:World):Calls Tryz.prog 64 #[.int .i64 n,.int .i64 lo,.int .i64 hi] w fun e w'=>e=.returned (.bool (within n lo hi))∧w'=w:=by
 by_cases h:lo≤n
 ·have HH:Hid (within n lo hi=decide (n≤hi)):=by simp[Hid,within,h]
  go_enter Tryz.func64,Tryz.ntmps64;go_wp2;go_ret;exact⟨by rw[HH.out];rfl,rfl⟩
 ·have HH:Hid (within n lo hi=false):=by simp[Hid,within,h]
  go_enter Tryz.func64,Tryz.ntmps64;go_wp2;go_ret;exact⟨by rw[HH.out];rfl,rfl⟩
theorem qap (l:List UInt8)(w:World):
 Calls Tryz.prog 115 #[.string ⟨l.toArray⟩] w fun e w'=>e=.returned (.bool (Pl.qao l))∧w'=w:=by
 by_cases h16:16<l.length
 ·have hh:Pl.qao l=false:=by
   have:¬l.length≤16:=by omega
   simp[Pl.qao,this]
  go_enter Tryz.func115,Tryz.ntmps115;go_wp2;go_ret;exact⟨by first|rfl|(rw[hh];rfl),rfl⟩
 ·have hle:l.length≤16:=by omega
  have HH:Hid (Pl.qao l=l.all Pl.isVB):=by
   unfold Hid;simp[Pl.qao,hle]
  go_enter Tryz.func115,Tryz.ntmps115;go_wp2
  go_loop [3] (fun i=>∃k:Nat,k≤l.length∧i=.int .i64 k∧Hid ((l.take k).all Pl.isVB=true)) (fun i=>l.length-(intOf i).toNat)
  case atStart=>exact⟨0,Nat.zero_le _,rfl,rfl⟩
  case round=>
   obtain⟨k,hk,rfl,hd⟩:=hrel
   by_cases hlt:k<l.length
   ·cases hx:Pl.isVB l[k] with
    | true=>
     obtain⟨b1,b2,b3⟩:=vb_true _ hx;have y1:¬(((⟨l.toArray⟩:ByteArray)[k]'hlt).toNat:Int)<32:=b1;have y2:¬126<(((⟨l.toArray⟩:ByteArray)[k]'hlt).toNat:Int):=b2;have y3:((((⟨l.toArray⟩:ByteArray)[k]'hlt).toNat:Int)==34)=false:=b3;have HX:Hid _:=hx;clear hx b1 b2 b3;go_wp2
     go_round
     case rel=>exact⟨k+1,hlt,by go_num,qdW l k hlt hd.out HX.out⟩
     case measure=>simp[intOf];omega
    | false=>
     have HF:Hid (l.all Pl.isVB=false):=qfb l k hlt hx;have hcs:=vb_cases _ hx;clear hx;have hcs':(((⟨l.toArray⟩:ByteArray)[k]'hlt).toNat:Int)<32∨(¬(((⟨l.toArray⟩:ByteArray)[k]'hlt).toNat:Int)<32∧126<(((⟨l.toArray⟩:ByteArray)[k]'hlt).toNat:Int))∨(¬(((⟨l.toArray⟩:ByteArray)[k]'hlt).toNat:Int)<32∧¬126<(((⟨l.toArray⟩:ByteArray)[k]'hlt).toNat:Int)∧((((⟨l.toArray⟩:ByteArray)[k]'hlt).toNat:Int)==34)=true):=hcs;clear hcs
     rcases hcs' with y1|⟨y1,y2⟩|⟨y1,y2,y3⟩
     all_goals
      go_wp2;go_ret;exact⟨by rw[HH.out,HF.out];rfl,rfl⟩
   ·have HF:Hid (l.all Pl.isVB=true):=by
     have:=hd.out
     rwa [List.take_of_length_le (by omega)]at this
    go_wp2;go_ret;exact⟨by rw[HH.out,HF.out];rfl,rfl⟩
theorem nb_class (c:UInt8):((97:Int)≤(c.toNat:Int)∧(c.toNat:Int)≤122∧Pl.isNB c=true)∨((97:Int)≤(c.toNat:Int)∧¬(c.toNat:Int)≤122∧(48:Int)≤(c.toNat:Int)∧¬(c.toNat:Int)≤57∧((c.toNat:Int)==45)=false∧Pl.isNB c=false)∨
 (¬(97:Int)≤(c.toNat:Int)∧(48:Int)≤(c.toNat:Int)∧(c.toNat:Int)≤57∧Pl.isNB c=true)∨(¬(97:Int)≤(c.toNat:Int)∧(48:Int)≤(c.toNat:Int)∧¬(c.toNat:Int)≤57∧((c.toNat:Int)==45)=false∧Pl.isNB c=false)∨
 (¬(97:Int)≤(c.toNat:Int)∧¬(48:Int)≤(c.toNat:Int)∧((c.toNat:Int)==45)=true∧Pl.isNB c=true)∨(¬(97:Int)≤(c.toNat:Int)∧¬(48:Int)≤(c.toNat:Int)∧((c.toNat:Int)==45)=false∧Pl.isNB c=false):=by
 unfold Pl.isNB Pl.isLet Pl.isDig;generalize c.toNat=n
 by_cases h1:97≤n
 ·by_cases h2:n≤122
  ·left;simp;omega
  ·right;left;simp;omega
 ·by_cases h3:48≤n
  ·by_cases h4:n≤57
   ·right;right;left;simp;omega
   ·right;right;right;left;simp;omega
  ·by_cases h5:n=45
   ·right;right;right;right;left;simp;omega
   ·right;right;right;right;right;simp;omega
theorem qak (l:List UInt8)(w:World):
 Calls Tryz.prog 114 #[.string ⟨l.toArray⟩] w fun e w'=>e=.returned (.bool (Pl.qaj l))∧w'=w:=by
 by_cases hw:within (l.length:Int) 1 12=true
 ·have hl:1≤l.length∧l.length≤12:=by
   unfold within at hw;simp only[Bool.and_eq_true,decide_eq_true_eq]at hw;omega
  obtain⟨l1,l12⟩:=hl;have hlt0:0<l.length:=by omega
  by_cases ha:((l[0].toNat:Int))<97
  ·have hh:Pl.qaj l=false:=by
    obtain⟨c,t,rfl⟩:∃c t,l=c::t:=by
     cases l with
     | nil=>simp at l1
     | cons c t=>exact⟨c,t,rfl⟩
    have:Pl.isLet c=false:=by simp at ha;simp[Pl.isLet];omega
    simp[Pl.qaj,Pl.qfh,this]
   have ha':((((⟨l.toArray⟩:ByteArray)[0]'hlt0).toNat:Int))<97:=ha;have HH:Hid _:=hh;clear hh ha;go_enter Tryz.func114,Tryz.ntmps114
   go_wp2_with (go_at_call 64;refine(qay _ _ _ _).mono ?_;rintro e w' ⟨rfl,rfl⟩;rw[hw])
   go_ret;exact⟨by rw[HH.out];rfl,rfl⟩
  ·by_cases hz:(122:Int)<(l[0].toNat:Int)
   ·have hh:Pl.qaj l=false:=by
     obtain⟨c,t,rfl⟩:∃c t,l=c::t:=by
      cases l with
      | nil=>simp at l1
      | cons c t=>exact⟨c,t,rfl⟩
     have:Pl.isLet c=false:=by simp at hz;simp[Pl.isLet];omega
     simp[Pl.qaj,Pl.qfh,this]
    have ha':¬((((⟨l.toArray⟩:ByteArray)[0]'hlt0).toNat:Int))<97:=ha;have hz':(122:Int)<((((⟨l.toArray⟩:ByteArray)[0]'hlt0).toNat:Int)):=hz;have HH:Hid _:=hh;clear hh ha hz;go_enter Tryz.func114,Tryz.ntmps114
    go_wp2_with (go_at_call 64;refine(qay _ _ _ _).mono ?_;rintro e w' ⟨rfl,rfl⟩;rw[hw])
    go_ret;exact⟨by rw[HH.out];rfl,rfl⟩
   ·have HH:Hid (Pl.qaj l=l.all Pl.isNB):=by
     unfold Hid
     obtain⟨c,t,rfl⟩:∃c t,l=c::t:=by
      cases l with
      | nil=>simp at l1
      | cons c t=>exact⟨c,t,rfl⟩
     have:Pl.isLet c=true:=by simp at ha hz;simp[Pl.isLet];omega
     have h3:(c::t).length≤12:=l12;simp only[Pl.qaj,Pl.qfh,this,Bool.and_true];have e1:decide (1≤(c::t).length)=true:=by simp
     have e2:decide ((c::t).length≤12)=true:=by simpa using h3
     rw[e1,e2];rfl
    have ha':¬((((⟨l.toArray⟩:ByteArray)[0]'hlt0).toNat:Int))<97:=ha;have hz':¬(122:Int)<((((⟨l.toArray⟩:ByteArray)[0]'hlt0).toNat:Int)):=hz;clear ha hz;go_enter Tryz.func114,Tryz.ntmps114
    go_wp2_with (go_at_call 64;refine(qay _ _ _ _).mono ?_;rintro e w' ⟨rfl,rfl⟩;rw[hw])
    clear ha' hz'
    go_loop [3] (fun i=>∃k:Nat,k≤l.length∧i=.int .i64 k∧Hid ((l.take k).all Pl.isNB=true)) (fun i=>l.length-(intOf i).toNat)
    case atStart=>exact⟨0,Nat.zero_le _,rfl,rfl⟩
    case round=>
     obtain⟨k,hk,rfl,hd⟩:=hrel
     by_cases hlt:k<l.length
     ·rcases nb_class l[k] with ⟨y1,y2,hx⟩|⟨y1,y2,y3,y4,y5,hx⟩|⟨y1,y2,y3,hx⟩|⟨y1,y2,y3,y4,hx⟩|⟨y1,y2,y3,hx⟩|⟨y1,y2,y3,hx⟩
      ·have HX:Hid _:=hx;clear hx
       change (97:Int)≤(((⟨l.toArray⟩:ByteArray)[k]'hlt).toNat:Int) at y1
       change (((⟨l.toArray⟩:ByteArray)[k]'hlt).toNat:Int)≤122 at y2
       go_wp2
       go_round
       case rel=>exact⟨k+1,hlt,by go_num,qdW l k hlt hd.out HX.out⟩
       case measure=>simp[intOf];omega
      ·have HF:Hid (l.all Pl.isNB=false):=qfb l k hlt hx;clear hx
       change (97:Int)≤(((⟨l.toArray⟩:ByteArray)[k]'hlt).toNat:Int) at y1
       change¬(((⟨l.toArray⟩:ByteArray)[k]'hlt).toNat:Int)≤122 at y2
       change (48:Int)≤(((⟨l.toArray⟩:ByteArray)[k]'hlt).toNat:Int) at y3
       change¬(((⟨l.toArray⟩:ByteArray)[k]'hlt).toNat:Int)≤57 at y4
       change ((((⟨l.toArray⟩:ByteArray)[k]'hlt).toNat:Int)==45)=false at y5
       go_wp2;go_ret;exact⟨by rw[HH.out,HF.out];rfl,rfl⟩
      ·have HX:Hid _:=hx;clear hx
       change¬(97:Int)≤(((⟨l.toArray⟩:ByteArray)[k]'hlt).toNat:Int) at y1
       change (48:Int)≤(((⟨l.toArray⟩:ByteArray)[k]'hlt).toNat:Int) at y2
       change (((⟨l.toArray⟩:ByteArray)[k]'hlt).toNat:Int)≤57 at y3
       go_wp2
       go_round
       case rel=>exact⟨k+1,hlt,by go_num,qdW l k hlt hd.out HX.out⟩
       case measure=>simp[intOf];omega
      ·have HF:Hid (l.all Pl.isNB=false):=qfb l k hlt hx;clear hx
       change¬(97:Int)≤(((⟨l.toArray⟩:ByteArray)[k]'hlt).toNat:Int) at y1
       change (48:Int)≤(((⟨l.toArray⟩:ByteArray)[k]'hlt).toNat:Int) at y2
       change¬(((⟨l.toArray⟩:ByteArray)[k]'hlt).toNat:Int)≤57 at y3
       change ((((⟨l.toArray⟩:ByteArray)[k]'hlt).toNat:Int)==45)=false at y4
       go_wp2;go_ret;exact⟨by rw[HH.out,HF.out];rfl,rfl⟩
      ·have HX:Hid _:=hx;clear hx
       change¬(97:Int)≤(((⟨l.toArray⟩:ByteArray)[k]'hlt).toNat:Int) at y1
       change¬(48:Int)≤(((⟨l.toArray⟩:ByteArray)[k]'hlt).toNat:Int) at y2
       change ((((⟨l.toArray⟩:ByteArray)[k]'hlt).toNat:Int)==45)=true at y3
       go_wp2
       go_round
       case rel=>exact⟨k+1,hlt,by go_num,qdW l k hlt hd.out HX.out⟩
       case measure=>simp[intOf];omega
      ·have HF:Hid (l.all Pl.isNB=false):=qfb l k hlt hx;clear hx
       change¬(97:Int)≤(((⟨l.toArray⟩:ByteArray)[k]'hlt).toNat:Int) at y1
       change¬(48:Int)≤(((⟨l.toArray⟩:ByteArray)[k]'hlt).toNat:Int) at y2
       change ((((⟨l.toArray⟩:ByteArray)[k]'hlt).toNat:Int)==45)=false at y3
       go_wp2;go_ret;exact⟨by rw[HH.out,HF.out];rfl,rfl⟩
     ·have HF:Hid (l.all Pl.isNB=true):=by
       have:=hd.out
       rwa [List.take_of_length_le (by omega)]at this
      go_wp2;go_ret;exact⟨by rw[HH.out,HF.out];rfl,rfl⟩
 ·have hw':within (l.length:Int) 1 12=false:=by simpa using hw
  have HH:Hid (Pl.qaj l=false):=by
   unfold Hid;unfold within at hw';simp only[Bool.and_eq_false_iff,decide_eq_false_iff_not]at hw';unfold Pl.qaj
   rcases hw' with h|h
   ·have:decide (1≤l.length)=false:=decide_eq_false (by omega);rw[this];rfl
   ·have:decide (l.length≤12)=false:=decide_eq_false (by omega);rw[this];simp
  clear hw;go_enter Tryz.func114,Tryz.ntmps114
  go_wp2_with (go_at_call 64;refine(qay _ _ _ _).mono ?_;rintro e w' ⟨rfl,rfl⟩;rw[hw'])
  go_ret;exact⟨by rw[HH.out];rfl,rfl⟩
end Go.Proofs.YtephhllfodlfbaaGreatDoor
