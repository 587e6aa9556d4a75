/-
  Documents in plain lists: names, values, right elements, where elements hang. No program in this text.
-/
import Derived.Lib.Strings
import GoSem.Op.String
import Derived.Test.YtephhllfodlfbaaGreatDoorProg
import Derived.WalkKit
import Derived.WalkSpells
import Derived.WalkLawsBesides
import Derived.ProofKit
set_option maxRecDepth 100000
set_option maxHeartbeats 16000000
namespace Go.Proofs.YtephhllfodlfbaaGreatDoor.Pl
def isDig (c:UInt8):Bool:=decide (48≤c.toNat)&&decide (c.toNat≤57)
def isLet (c:UInt8):Bool:=decide (97≤c.toNat)&&decide (c.toNat≤122)
def isNB (c:UInt8):Bool:=isLet c||isDig c||(c.toNat==45)
def isVB (c:UInt8):Bool:=decide (32≤c.toNat)&&decide (c.toNat≤126)&&!(c.toNat==34)
def qfh:List UInt8→Bool
 | []=>false
 | c::_=>isLet c
def qaj (l:List UInt8):Bool:=decide (1≤l.length)&&decide (l.length≤12)&&qfh l&&l.all isNB
def qao (l:List UInt8):Bool:=decide (l.length≤16)&&l.all isVB
def rise:List (List UInt8)→Bool
 | a::b::r=>Op.bytesLess a b&&rise (b::r)
 | _=>true
structure Nd where
 up:Int
 tag:List UInt8
 id:List UInt8
 cls:List (List UInt8)
 ats:List (List UInt8×List UInt8)
def names (most:Nat)(l:List (List UInt8)):Bool:=decide (l.length≤most)&&l.all qaj&&rise l
def right (x:Nd):Bool:=
 qaj x.tag&&(x.id.isEmpty||qaj x.id)&&names 6 x.cls&&names 4 (x.ats.map (·.1))&&x.ats.all (fun a=>qao a.2)
end Go.Proofs.YtephhllfodlfbaaGreatDoor.Pl
namespace Go.Proofs.YtephhllfodlfbaaGreatDoor
open Go.RowKit
theorem qcm (c:UInt8)(w:World):
 Calls Tryz.prog 135 #[.int .u8 c.toNat] w fun e w'=>e=.returned (.bool (Pl.isLet c))∧w'=w:=by
 have hc:=c.toNat_lt
 by_cases h1:(97:Int)≤(c.toNat:Int)
 ·by_cases h2:(c.toNat:Int)≤122
  ·have hh:Pl.isLet c=true:=by simp[Pl.isLet];omega
   go_enter Tryz.func135,Tryz.ntmps135;go_wp2;go_ret;exact⟨by first|rfl|(rw[hh];rfl),rfl⟩
  ·have hh:Pl.isLet c=false:=by simp[Pl.isLet];omega
   go_enter Tryz.func135,Tryz.ntmps135;go_wp2;go_ret;exact⟨by first|rfl|(rw[hh];rfl),rfl⟩
 ·have hh:Pl.isLet c=false:=by simp[Pl.isLet];omega
  go_enter Tryz.func135,Tryz.ntmps135;go_wp2;go_ret;exact⟨by first|rfl|(rw[hh];rfl),rfl⟩
theorem qex (c:UInt8)(w:World):
 Calls Tryz.prog 170 #[.int .u8 c.toNat] w fun e w'=>e=.returned (.bool (Pl.isDig c))∧w'=w:=by
 have hc:=c.toNat_lt
 by_cases h1:(48:Int)≤(c.toNat:Int)
 ·by_cases h2:(c.toNat:Int)≤57
  ·have hh:Pl.isDig c=true:=by simp[Pl.isDig];omega
   go_enter Tryz.func170,Tryz.ntmps170;go_wp2;go_ret;exact⟨by first|rfl|(rw[hh];rfl),rfl⟩
  ·have hh:Pl.isDig c=false:=by simp[Pl.isDig];omega
   go_enter Tryz.func170,Tryz.ntmps170;go_wp2;go_ret;exact⟨by first|rfl|(rw[hh];rfl),rfl⟩
 ·have hh:Pl.isDig c=false:=by simp[Pl.isDig];omega
  go_enter Tryz.func170,Tryz.ntmps170;go_wp2;go_ret;exact⟨by first|rfl|(rw[hh];rfl),rfl⟩
theorem qee (c:UInt8)(w:World):
 Calls Tryz.prog 136 #[.int .u8 c.toNat] w fun e w'=>e=.returned (.bool (Pl.isNB c))∧w'=w:=by
 cases h1:Pl.isLet c with
 | true=>
  have hh:Pl.isNB c=true:=by simp[Pl.isNB,h1]
  go_enter Tryz.func136,Tryz.ntmps136
  go_wp2_with (first|(go_at_call 135;refine(qcm _ _).mono ?_;rintro e w' ⟨rfl,rfl⟩)|(go_at_call 170;refine(qex _ _).mono ?_;rintro e w' ⟨rfl,rfl⟩))
  go_ret;exact⟨by first|rfl|(rw[hh];rfl),rfl⟩
 | false=>
  cases h2:Pl.isDig c with
  | true=>
   have hh:Pl.isNB c=true:=by simp[Pl.isNB,h1,h2]
   go_enter Tryz.func136,Tryz.ntmps136
   go_wp2_with (first|(go_at_call 135;refine(qcm _ _).mono ?_;rintro e w' ⟨rfl,rfl⟩)|(go_at_call 170;refine(qex _ _).mono ?_;rintro e w' ⟨rfl,rfl⟩))
   go_ret;exact⟨by first|rfl|(rw[hh];rfl),rfl⟩
  | false=>
   have HH:Hid (Pl.isNB c=((c.toNat:Int)==45)):=by
    unfold Hid;rw[Pl.isNB,h1,h2,Bool.eq_iff_iff];simp;omega
   go_enter Tryz.func136,Tryz.ntmps136
   go_wp2_with (first|(go_at_call 135;refine(qcm _ _).mono ?_;rintro e w' ⟨rfl,rfl⟩)|(go_at_call 170;refine(qex _ _).mono ?_;rintro e w' ⟨rfl,rfl⟩))
   go_ret;exact⟨by rw[HH.out];rfl,rfl⟩
theorem qdW {p:UInt8→Bool}(l:List UInt8)(k:Nat)(h:k<l.length)(h1:(l.take k).all p=true)(h2:p l[k]=true):(l.take (k+1)).all p=true:=by
 rw[List.take_succ_eq_append_getElem h,List.all_append,h1];simp[h2]
theorem qfb {p:UInt8→Bool}(l:List UInt8)(k:Nat)(h:k<l.length)(h2:p l[k]=false):l.all p=false:=by
 rw[List.all_eq_false];exact⟨l[k],List.getElem_mem h,by simp[h2]⟩
theorem qbr (l:List UInt8)(w:World):
 Calls Tryz.prog 100 #[.string ⟨l.toArray⟩] w fun e w'=>e=.returned (.bool (Pl.qaj l))∧w'=w:=by
 by_cases h0:l.length<1
 ·have hh:Pl.qaj l=false:=by
   have:¬1≤l.length:=by omega
   simp[Pl.qaj,this]
  go_enter Tryz.func100,Tryz.ntmps100;go_wp2;go_ret;exact⟨by first|rfl|(rw[hh];rfl),rfl⟩
 ·by_cases h12:12<l.length
  ·have hh:Pl.qaj l=false:=by
    have:¬l.length≤12:=by omega
    simp[Pl.qaj,this]
   go_enter Tryz.func100,Tryz.ntmps100;go_wp2;go_ret;exact⟨by first|rfl|(rw[hh];rfl),rfl⟩
  ·obtain⟨c,t,rfl⟩:∃c t,l=c::t:=by
    cases l with
    | nil=>simp at h0
    | cons c t=>exact⟨c,t,rfl⟩
   have hlen:t.length≤11:=by simp at h12;omega
   cases hc:Pl.isLet c with
   | false=>
    have hh:Pl.qaj (c::t)=false:=by simp[Pl.qaj,Pl.qfh,hc]
    have hc':Pl.isLet ((⟨(c::t).toArray⟩:ByteArray)[0]'(Nat.succ_pos _))=false:=hc;clear h0 h12;go_enter Tryz.func100,Tryz.ntmps100
    go_wp2_with (go_at_call 135;refine(qcm _ _).mono ?_;rintro e w' ⟨rfl,rfl⟩)
    go_ret;exact⟨by first|rfl|(rw[hh];rfl),rfl⟩
   | true=>
    have HH:Hid (Pl.qaj (c::t)=(c::t).all Pl.isNB):=by
     unfold Hid;have h3:(c::t).length≤12:=by omega
     simp[Pl.qaj,Pl.qfh,hc];intro _ _;simpa using h3
    have hc':Pl.isLet ((⟨(c::t).toArray⟩:ByteArray)[0]'(Nat.succ_pos _))=true:=hc;clear h0 h12 hc;go_enter Tryz.func100,Tryz.ntmps100
    go_wp2_with (go_at_call 135;refine(qcm _ _).mono ?_;rintro e w' ⟨rfl,rfl⟩)
    go_loop [20] (fun i=>∃k:Nat,k≤t.length+1∧i=.int .i64 k∧Hid (((c::t).take k).all Pl.isNB=true)) (fun i=>t.length+1-(intOf i).toNat)
    case atStart=>exact⟨0,Nat.zero_le _,rfl,rfl⟩
    case round=>
     obtain⟨k,hk,rfl,hd⟩:=hrel
     by_cases hlt:k<t.length+1
     ·cases hx:Pl.isNB (c::t)[k] with
      | true=>
       have hy:Pl.isNB (⟨(c::t).toArray⟩:ByteArray)[k]=true:=hx;have HX:Hid _:=hx;clear hx
       go_wp2_with (go_at_call 136;refine(qee _ _).mono ?_;rintro e w' ⟨rfl,rfl⟩)
       go_round
       case rel=>exact⟨k+1,hlt,by go_num,qdW (c::t) k hlt hd.out HX.out⟩
       case measure=>simp[intOf];omega
      | false=>
       have hy:Pl.isNB (⟨(c::t).toArray⟩:ByteArray)[k]=false:=hx;have HF:Hid ((c::t).all Pl.isNB=false):=qfb (c::t) k hlt hx;clear hx
       go_wp2_with (go_at_call 136;refine(qee _ _).mono ?_;rintro e w' ⟨rfl,rfl⟩)
       go_ret;exact⟨by rw[HH.out,HF.out];rfl,rfl⟩
     ·have HF:Hid ((c::t).all Pl.isNB=true):=by
       have:=hd.out
       rwa [List.take_of_length_le (by simp;omega)]at this
      go_wp2;go_ret;exact⟨by rw[HH.out,HF.out];rfl,rfl⟩
theorem vb_cases (c:UInt8)(h:Pl.isVB c=false):(c.toNat:Int)<32∨(¬(c.toNat:Int)<32∧126<(c.toNat:Int))∨(¬(c.toNat:Int)<32∧¬126<(c.toNat:Int)∧((c.toNat:Int)==34)=true):=by
 by_cases h1:(c.toNat:Int)<32
 ·exact Or.inl h1
 ·by_cases h2:126<(c.toNat:Int)
  ·exact Or.inr (Or.inl ⟨h1,h2⟩)
  ·refine Or.inr (Or.inr ⟨h1,h2,?_⟩);have a1:decide (32≤c.toNat)=true:=by simp;omega
   have a2:decide (c.toNat≤126)=true:=by simp;omega
   simp[Pl.isVB,a1,a2]at h;simp;omega
theorem vb_true (c:UInt8)(h:Pl.isVB c=true):¬(c.toNat:Int)<32∧¬126<(c.toNat:Int)∧((c.toNat:Int)==34)=false:=by
 simp[Pl.isVB]at h;refine⟨by omega,by omega,?_⟩;simp;omega
theorem qej (l:List UInt8)(w:World):
 Calls Tryz.prog 139 #[.string ⟨l.toArray⟩] w fun e w'=>e=.returned (.bool (Pl.qao l))∧w'=w:=by
 by_cases h16:16<l.length
 ·have hh:Pl.qao l=false:=by
   have:¬l.length≤16:=by omega
   simp[Pl.qao,this]
  go_enter Tryz.func139,Tryz.ntmps139;go_wp2;go_ret;exact⟨by first|rfl|(rw[hh];rfl),rfl⟩
 ·have hle:l.length≤16:=by omega
  have HH:Hid (Pl.qao l=l.all Pl.isVB):=by
   unfold Hid;simp[Pl.qao,hle]
  go_enter Tryz.func139,Tryz.ntmps139;go_wp2
  go_loop [9] (fun i=>∃k:Nat,k≤l.length∧i=.int .i64 k∧Hid ((l.take k).all Pl.isVB=true)) (fun i=>l.length-(intOf i).toNat)
  case atStart=>exact⟨0,Nat.zero_le _,rfl,rfl⟩
  case round=>
   obtain⟨k,hk,rfl,hd⟩:=hrel
   by_cases hlt:k<l.length
   ·cases hx:Pl.isVB l[k] with
    | true=>
     obtain⟨b1,b2,b3⟩:=vb_true _ hx;have y1:¬(((⟨l.toArray⟩:ByteArray)[k]'hlt).toNat:Int)<32:=b1;have y2:¬126<(((⟨l.toArray⟩:ByteArray)[k]'hlt).toNat:Int):=b2;have y3:((((⟨l.toArray⟩:ByteArray)[k]'hlt).toNat:Int)==34)=false:=b3;have HX:Hid _:=hx;clear hx b1 b2 b3;go_wp2
     go_round
     case rel=>exact⟨k+1,hlt,by go_num,qdW l k hlt hd.out HX.out⟩
     case measure=>simp[intOf];omega
    | false=>
     have HF:Hid (l.all Pl.isVB=false):=qfb l k hlt hx;have hcs:=vb_cases _ hx;clear hx;have hcs':(((⟨l.toArray⟩:ByteArray)[k]'hlt).toNat:Int)<32∨(¬(((⟨l.toArray⟩:ByteArray)[k]'hlt).toNat:Int)<32∧126<(((⟨l.toArray⟩:ByteArray)[k]'hlt).toNat:Int))∨(¬(((⟨l.toArray⟩:ByteArray)[k]'hlt).toNat:Int)<32∧¬126<(((⟨l.toArray⟩:ByteArray)[k]'hlt).toNat:Int)∧((((⟨l.toArray⟩:ByteArray)[k]'hlt).toNat:Int)==34)=true):=hcs;clear hcs
     rcases hcs' with y1|⟨y1,y2⟩|⟨y1,y2,y3⟩
     all_goals
      go_wp2;go_ret;exact⟨by rw[HH.out,HF.out];rfl,rfl⟩
   ·have HF:Hid (l.all Pl.isVB=true):=by
     have:=hd.out
     rwa [List.take_of_length_le (by omega)]at this
    go_wp2;go_ret;exact⟨by rw[HH.out,HF.out];rfl,rfl⟩
def qa1 (w:World)(v:Value)(ss:List (List UInt8)):Prop:=
 ∃a cap,v=.slice a ss.length cap∧(ss=[]∨∃b o,a=some ⟨b,o,none⟩∧∀i (h:i<ss.length),w.cell? ⟨b,o+i,none⟩=some (.string ⟨ss[i].toArray⟩))
def qbY (w:World)(v:Value)(ss:List (List UInt8×List UInt8)):Prop:=
 ∃a cap,v=.slice a ss.length cap∧(ss=[]∨∃b o,a=some ⟨b,o,none⟩∧∀i (h:i<ss.length),w.cell? ⟨b,o+i*2,none⟩=some (.string ⟨ss[i].1.toArray⟩)∧w.cell? ⟨b,o+i*2+1,none⟩=some (.string ⟨ss[i].2.toArray⟩))
def NdAt (w:World)(b o:Nat)(x:Pl.Nd):Prop:=
 ∃vc va,w.cell? ⟨b,o,none⟩=some (.int .i64 x.up)∧w.cell? ⟨b,o+1,none⟩=some (.string ⟨x.tag.toArray⟩)∧w.cell? ⟨b,o+2,none⟩=some (.string ⟨x.id.toArray⟩)∧
  w.cell? ⟨b,o+3,none⟩=some vc∧w.cell? ⟨b,o+4,none⟩=some va∧qa1 w vc x.cls∧qbY w va x.ats
def qa8 (w:World)(v:Value)(ns:List Pl.Nd):Prop:=
 ∃a cap,v=.slice a ns.length cap∧(ns=[]∨∃b o,a=some ⟨b,o,none⟩∧∀i (h:i<ns.length),NdAt w b (o+i*5) ns[i])
def qbO (w:World)(v:Value)(ks:List Int):Prop:=
 ∃a cap,v=.slice a ks.length cap∧(ks=[]∨∃b o,a=some ⟨b,o,none⟩∧∀i (h:i<ks.length),w.cell? ⟨b,o+i,none⟩=some (.int .i64 ks[i]))
theorem qaV {w:World}{p:Addr}{v:Value}(h:w.cell? p=some v):p.block<w.heap.size:=by
 rcases Nat.lt_or_ge p.block w.heap.size with h1|h1
 ·exact h1
 ·unfold World.cell? at h;rw[Array.getElem?_eq_none h1]at h
  cases h
theorem qab {w w':World}{p:Addr}{v:Value}(hb:Below w.heap.size w w')(h:w.cell? p=some v):w'.cell? p=some v:=by
 rw[hb.cell (qaV h)];exact h
theorem qa1.on {w w':World}{v:Value}{ss:List (List UInt8)}(h:qa1 w v ss)(hb:Below w.heap.size w w'):qa1 w' v ss:=by
 obtain⟨a,cap,rfl,h⟩:=h;refine⟨a,cap,rfl,?_⟩
 rcases h with h|⟨b,o,ha,hc⟩
 ·exact Or.inl h
 ·exact Or.inr ⟨b,o,ha,fun i hi=>qab hb (hc i hi)⟩
theorem qbY.on {w w':World}{v:Value}{ss:List (List UInt8×List UInt8)}(h:qbY w v ss)(hb:Below w.heap.size w w'):qbY w' v ss:=by
 obtain⟨a,cap,rfl,h⟩:=h;refine⟨a,cap,rfl,?_⟩
 rcases h with h|⟨b,o,ha,hc⟩
 ·exact Or.inl h
 ·exact Or.inr ⟨b,o,ha,fun i hi=>⟨qab hb (hc i hi).1,qab hb (hc i hi).2⟩⟩
theorem NdAt.on {w w':World}{b o:Nat}{x:Pl.Nd}(h:NdAt w b o x)(hb:Below w.heap.size w w'):NdAt w' b o x:=by
 obtain⟨vc,va,h0,h1,h2,h3,h4,hc,ha⟩:=h;exact⟨vc,va,qab hb h0,qab hb h1,qab hb h2,qab hb h3,qab hb h4,hc.on hb,ha.on hb⟩
theorem qa8.on {w w':World}{v:Value}{ns:List Pl.Nd}(h:qa8 w v ns)(hb:Below w.heap.size w w'):qa8 w' v ns:=by
 obtain⟨a,cap,rfl,h⟩:=h;refine⟨a,cap,rfl,?_⟩
 rcases h with h|⟨b,o,ha,hc⟩
 ·exact Or.inl h
 ·exact Or.inr ⟨b,o,ha,fun i hi=>(hc i hi).on hb⟩
theorem qbO.on {w w':World}{v:Value}{ks:List Int}(h:qbO w v ks)(hb:Below w.heap.size w w'):qbO w' v ks:=by
 obtain⟨a,cap,rfl,h⟩:=h;refine⟨a,cap,rfl,?_⟩
 rcases h with h|⟨b,o,ha,hc⟩
 ·exact Or.inl h
 ·exact Or.inr ⟨b,o,ha,fun i hi=>qab hb (hc i hi)⟩
theorem qac (w:World)(o:Obj):Below w.heap.size w (w.alloc o):=(Below.refl _ _).alloc (Nat.le_refl _) o
theorem qaa {w w1 w2:World}(h1:Below w.heap.size w w1)(h2:Below w1.heap.size w1 w2):Below w.heap.size w w2:=h1.trans (h2.mono h1.size)
end Go.Proofs.YtephhllfodlfbaaGreatDoor
namespace Go.Proofs.YtephhllfodlfbaaGreatDoor.Pl
theorem qcN:∀a:List UInt8,Op.bytesLess a a=false
 | []=>rfl
 | x::r=>by simp[Op.bytesLess,qcN r]
theorem qeH:∀a b c:List UInt8,Op.bytesLess a b=true→Op.bytesLess b c=true→Op.bytesLess a c=true
 | [],b,c,_,h2=>by
  cases c with
  | nil=>cases b<;>simp[Op.bytesLess]at h2
  | cons z t=>rfl
 | x::r,[],c,h1,_=>by simp[Op.bytesLess]at h1
 | x::r,y::s,[],_,h2=>by simp[Op.bytesLess]at h2
 | x::r,y::s,z::t,h1,h2=>by
  simp only[Op.bytesLess,Bool.or_eq_true,Bool.and_eq_true,decide_eq_true_eq,beq_iff_eq]at *
  rcases h1 with h1|⟨rfl,h1⟩
  ·rcases h2 with h2|⟨rfl,h2⟩
   ·exact Or.inl (UInt8.lt_trans h1 h2)
   ·exact Or.inl h1
  ·rcases h2 with h2|⟨rfl,h2⟩
   ·exact Or.inl h2
   ·exact Or.inr ⟨rfl,qeH r s t h1 h2⟩
theorem qhb:∀a b:List UInt8,Op.bytesLess a b=true∨a=b∨Op.bytesLess b a=true
 | [],[]=>Or.inr (Or.inl rfl)
 | [],y::s=>Or.inl rfl
 | x::r,[]=>Or.inr (Or.inr rfl)
 | x::r,y::s=>by
  simp only[Op.bytesLess,Bool.or_eq_true,Bool.and_eq_true,decide_eq_true_eq,beq_iff_eq]
  by_cases h1:x<y
  ·exact Or.inl (Or.inl h1)
  ·by_cases h2:y<x
   ·exact Or.inr (Or.inr (Or.inl h2))
   ·have e:x=y:=by
     apply UInt8.toNat_inj.1
     rw[UInt8.lt_iff_toNat_lt]at h1 h2;omega
    subst e
    rcases qhb r s with h|h|h
    ·exact Or.inl (Or.inr ⟨rfl,h⟩)
    ·exact Or.inr (Or.inl (by rw[h]))
    ·exact Or.inr (Or.inr (Or.inr ⟨rfl,h⟩))
abbrev Key:=Int×List UInt8
def qas (a b:Key):Bool:=decide (a.1<b.1)||(a.1==b.1&&Op.bytesLess a.2 b.2)
theorem qh2 (a:Key):qas a a=false:=by simp[qas,qcN]
theorem qdU {a b c:Key}(h1:qas a b=true)(h2:qas b c=true):qas a c=true:=by
 simp only[qas,Bool.or_eq_true,Bool.and_eq_true,decide_eq_true_eq,beq_iff_eq]at *
 rcases h1 with h1|⟨e1,h1⟩
 ·rcases h2 with h2|⟨e2,h2⟩
  ·left;omega
  ·left;omega
 ·rcases h2 with h2|⟨e2,h2⟩
  ·left;omega
  ·right;exact⟨e1.trans e2,qeH _ _ _ h1 h2⟩
theorem qfI (a b:Key):qas a b=true∨a=b∨qas b a=true:=by
 simp only[qas,Bool.or_eq_true,Bool.and_eq_true,decide_eq_true_eq,beq_iff_eq]
 rcases Int.lt_trichotomy a.1 b.1 with h|h|h
 ·exact Or.inl (Or.inl h)
 ·rcases qhb a.2 b.2 with h2|h2|h2
  ·exact Or.inl (Or.inr ⟨h,h2⟩)
  ·exact Or.inr (Or.inl (Prod.ext h h2))
  ·exact Or.inr (Or.inr (Or.inr ⟨h.symm,h2⟩))
 ·exact Or.inr (Or.inr (Or.inl h))
theorem kl_ne {a b:Key}(h:qas a b=true):a≠b:=by
 intro e;subst e;rw[qh2]at h;cases h
structure En where
 key:Key
 nodes:List Nat
def keysOf (x:Nd):List Key:=(1,x.tag)::((if x.id=[] then [] else [(2,x.id)])++x.cls.map fun c=>(3,c))
def put1 (k:Key)(n:Nat):List En→List En
 | []=>[⟨k,[n]⟩]
 | e::r=>if qas e.key k=true then e::put1 k n r else if qas k e.key=true then ⟨k,[n]⟩::e::r else ⟨e.key,e.nodes++[n]⟩::r
def qca (ks:List Key)(n:Nat)(out:List En):List En:=ks.foldl (fun o k=>put1 k n o) out
def Ups:List En→Prop
 | []=>True
 | e::r=>e.nodes≠[]∧(∀f∈r,qas e.key f.key=true)∧Ups r
def placesOf (k:Key):List En→List Nat
 | []=>[]
 | e::r=>if e.key=k then e.nodes else placesOf k r
theorem qce {k:Key}:∀{l:List En},(∀e∈l,e.key≠k)→placesOf k l=[]
 | [],_=>rfl
 | e::r,h=>by
  rw[placesOf,if_neg (h e (by simp))];exact qce fun f hf=>h f (by simp[hf])
theorem put1_mem {k:Key}{n:Nat}:∀{l:List En} {e:En},e∈put1 k n l→e.key=k∨∃f∈l,f.key=e.key
 | [],e,h=>by
  simp[put1]at h;subst h;exact Or.inl rfl
 | f::r,e,h=>by
  unfold put1 at h
  split at h
  ·rcases List.mem_cons.1 h with h|h
   ·subst h;exact Or.inr ⟨e,by simp,rfl⟩
   ·rcases put1_mem h with h|⟨g,hg,he⟩
    ·exact Or.inl h
    ·exact Or.inr ⟨g,by simp[hg],he⟩
  ·split at h
   ·rcases List.mem_cons.1 h with h|h
    ·subst h;exact Or.inl rfl
    ·exact Or.inr ⟨e,h,rfl⟩
   ·rcases List.mem_cons.1 h with h|h
    ·subst h;exact Or.inr ⟨f,by simp,rfl⟩
    ·exact Or.inr ⟨e,by simp[h],rfl⟩
theorem qhN {k:Key}{n:Nat}:∀{l:List En},Ups l→Ups (put1 k n l)
 | [],_=>⟨by simp,by simp,trivial⟩
 | e::r,⟨h1,h2,h3⟩=>by
  unfold put1
  by_cases a:qas e.key k=true
  ·rw[if_pos a];refine⟨h1,fun f hf=>?_,qhN h3⟩
   rcases put1_mem hf with h|⟨g,hg,he⟩
   ·rw[h];exact a
   ·rw[←he];exact h2 g hg
  ·rw[if_neg a]
   by_cases b:qas k e.key=true
   ·rw[if_pos b];refine⟨by simp,fun f hf=>?_,h1,h2,h3⟩
    rcases List.mem_cons.1 hf with h|h
    ·rw[h];exact b
    ·exact qdU b (h2 f h)
   ·rw[if_neg b];exact⟨by simp,h2,h3⟩
theorem qgh {k:Key}{n:Nat}(q:Key):∀{l:List En},Ups l→placesOf q (put1 k n l)=if q=k then placesOf k l++[n] else placesOf q l
 | [],_=>by
  by_cases h:q=k
  ·subst h;simp[put1,placesOf]
  ·rw[if_neg h]
   show (if k=q then [n] else placesOf q [])=placesOf q []
   rw[if_neg (fun e:k=q=>h e.symm)]
 | e::r,⟨h1,h2,h3⟩=>by
  unfold put1
  by_cases a:qas e.key k=true
  ·have hek:e.key≠k:=kl_ne a;rw[if_pos a,placesOf,qgh q h3]
   by_cases hq:q=k
   ·subst hq;rw[if_neg hek,if_pos rfl,if_pos rfl,placesOf,if_neg hek]
   ·rw[if_neg hq,if_neg hq,placesOf]
  ·rw[if_neg a]
   by_cases b:qas k e.key=true
   ·have hne:∀f∈e::r,f.key≠k:=by
     intro f hf
     rcases List.mem_cons.1 hf with h|h
     ·rw[h];exact fun e=>kl_ne b e.symm
     ·exact fun e2=>kl_ne (qdU b (h2 f h)) e2.symm
    rw[if_pos b,placesOf]
    by_cases hq:q=k
    ·subst hq;rw[if_pos rfl,if_pos rfl,qce hne];rfl
    ·rw[if_neg (fun e:k=q=>hq e.symm),if_neg hq]
   ·have hek:e.key=k:=by
     rcases qfI e.key k with h|h|h
     ·exact absurd h a
     ·exact h
     ·exact absurd h b
    rw[if_neg b,placesOf]
    by_cases hq:q=k
    ·subst hq;rw[if_pos hek,if_pos rfl,placesOf,if_pos hek]
    ·rw[if_neg (fun e2=>hq (e2.symm.trans hek)),if_neg hq,placesOf,if_neg (fun e2=>hq (e2.symm.trans hek))]
theorem ups_same:∀{l m:List En},Ups l→Ups m→(∀k,placesOf k l=placesOf k m)→l=m
 | [],[],_,_,_=>rfl
 | [],e::r,_,⟨h1,_,_⟩,h=>by
  have:=h e.key;rw[placesOf,placesOf,if_pos rfl]at this;exact absurd this.symm h1
 | e::r,[],⟨h1,_,_⟩,_,h=>by
  have:=h e.key;rw[placesOf,placesOf,if_pos rfl]at this;exact absurd this h1
 | e::r,f::s,⟨h1,h2,h3⟩,⟨g1,g2,g3⟩,h=>by
  have hk:e.key=f.key:=by
   rcases qfI e.key f.key with a|a|a
   ·have:=h e.key;rw[placesOf,if_pos rfl,qce (l:=f::s)]at this
    ·exact absurd this h1
    ·intro q hq
     rcases List.mem_cons.1 hq with hq|hq
     ·rw[hq];exact fun x=>kl_ne a x.symm
     ·exact fun x=>kl_ne (qdU a (g2 q hq)) x.symm
   ·exact a
   ·have:=h f.key;rw[placesOf.eq_2 f.key f s,if_pos rfl,qce (l:=e::r)]at this
    ·exact absurd this.symm g1
    ·intro q hq
     rcases List.mem_cons.1 hq with hq|hq
     ·rw[hq];exact fun x=>kl_ne a x.symm
     ·exact fun x=>kl_ne (qdU a (h2 q hq)) x.symm
  have hn:e.nodes=f.nodes:=by
   have:=h e.key
   rwa [placesOf,if_pos rfl,placesOf,if_pos hk.symm]at this
  have hr:r=s:=by
   refine ups_same h3 g3 fun k=>?_
   by_cases hke:e.key=k
   ·rw[qce fun q hq x=>kl_ne (h2 q hq) (hke.trans x.symm),qce fun q hq x=>kl_ne (g2 q hq) (hk.symm.trans (hke.trans x.symm))]
   ·have:=h k
    rwa [placesOf,if_neg hke,placesOf,if_neg (fun x=>hke (hk.trans x))]at this
  obtain⟨ek,en⟩:=e;obtain⟨fk,fn⟩:=f;simp only at hk hn;rw[hk,hn,hr]
def qb8 (ns:List Nd):Nat→List En
 | 0=>[]
 | n+1=>match ns[n]? with
  | none=>qb8 ns n
  | some x=>qca (keysOf x) n (qb8 ns n)
theorem qgL (n:Nat):∀(ks:List Key) {l:List En},Ups l→Ups (qca ks n l)
 | [],_,h=>h
 | k::ks,l,h=>by
  show Ups (qca ks n (put1 k n l))
  exact qgL n ks (qhN h)
theorem qeS (n:Nat)(q:Key):∀(ks:List Key) {l:List En},Ups l→ks.Nodup→placesOf q (qca ks n l)=placesOf q l++(if q∈ks then [n] else [])
 | [],l,_,_=>by simp[qca]
 | k::ks,l,h,hd=>by
  show placesOf q (qca ks n (put1 k n l))=_
  obtain⟨h1,h2⟩:=List.nodup_cons.1 hd;rw[qeS n q ks (qhN h) h2,qgh q h]
  by_cases hq:q=k
  ·subst hq;rw[if_pos rfl,if_neg h1,if_pos (by simp),List.append_nil]
  ·rw[if_neg hq]
   by_cases hm:q∈ks
   ·rw[if_pos hm,if_pos (by simp[hm])]
   ·rw[if_neg hm,if_neg (by simp[hm,hq])]
theorem qg8 (ns:List Nd):∀n,Ups (qb8 ns n)
 | 0=>trivial
 | n+1=>by
  unfold qb8
  split
  ·exact qg8 ns n
  ·exact qgL n _ (qg8 ns n)
def whoTo (ns:List Nd)(k:Key)(n:Nat):List Nat:=(List.range n).filter fun i=>match ns[i]? with|some x=>decide (k∈keysOf x)|none=>false
theorem qgE {ns:List Nd}(hd:∀x∈ns,(keysOf x).Nodup)(k:Key):∀n,placesOf k (qb8 ns n)=whoTo ns k n
 | 0=>rfl
 | n+1=>by
  have ih:=qgE hd k n;unfold whoTo at *;rw[List.range_succ,List.filter_append,←ih,show qb8 ns (n+1)=(match ns[n]? with|none=>qb8 ns n|some x=>qca (keysOf x) n (qb8 ns n)) from rfl]
  cases h:ns[n]? with
  | none=>simp[h]
  | some x=>
   simp only;rw[qeS n k _ (qg8 ns n) (hd x (List.mem_of_getElem? h))]
   by_cases hk:k∈keysOf x
   ·simp[h,hk]
   ·simp[h,hk]
theorem idx_only {ns:List Nd}(hd:∀x∈ns,(keysOf x).Nodup){l:List En}(hu:Ups l)(hl:∀k,placesOf k l=whoTo ns k ns.length):l=qb8 ns ns.length:=
 ups_same hu (qg8 ns _) fun k=>(hl k).trans (qgE hd k _).symm
theorem qh0:∀{l:List (List UInt8)},rise l=true→l.Pairwise (fun a b=>Op.bytesLess a b=true)
 | [],_=>List.Pairwise.nil
 | [a],_=>List.pairwise_singleton _ _
 | a::b::r,h=>by
  simp only[rise,Bool.and_eq_true]at h;have ih:=qh0 h.2;refine List.pairwise_cons.2 ⟨fun c hc=>?_,ih⟩
  rcases List.mem_cons.1 hc with e|e
  ·rw[e];exact h.1
  ·exact qeH _ _ _ h.1 ((List.pairwise_cons.1 ih).1 c e)
theorem keys_nodup {x:Nd}(h:right x=true):(keysOf x).Nodup:=by
 have hr:rise x.cls=true:=by
  unfold right names at h;simp only[Bool.and_eq_true]at h;exact h.1.1.2.2
 have hc:(x.cls.map fun c=>((3:Int),c)).Nodup:=by
  rw[List.nodup_iff_pairwise_ne,List.pairwise_map];refine(qh0 hr).imp fun{a b} hab e=>?_
  have:a=b:=(Prod.mk.inj e).2;subst this;rw[qcN]at hab
  cases hab
 unfold keysOf;rw[List.nodup_cons];refine⟨?_,?_⟩
 ·simp only[List.mem_append,List.mem_map,not_or,not_exists,not_and];refine⟨?_,fun c _ e=>by have:=(Prod.mk.inj e).1;omega⟩
  split
  ·simp
  ·intro e;have:=(Prod.mk.inj (List.mem_singleton.1 e)).1;omega
 ·split
  ·exact hc
  ·rw[List.singleton_append,List.nodup_cons];refine⟨?_,hc⟩;simp only[List.mem_map,not_exists,not_and];exact fun c _ e=>by have:=(Prod.mk.inj e).1;omega
end Go.Proofs.YtephhllfodlfbaaGreatDoor.Pl
