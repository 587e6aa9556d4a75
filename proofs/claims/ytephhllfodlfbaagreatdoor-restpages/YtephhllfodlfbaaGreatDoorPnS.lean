/-
  Whether two lists of paths are the same, as package plain tells it: one level, from the level below.
-/
import Derived.Test.YtephhllfodlfbaaGreatDoorPnB
import Derived.Test.YtephhllfodlfbaaGreatDoorRefN
import Derived.Deep.RegionLaw
set_option maxRecDepth 100000
set_option maxHeartbeats 16000000
namespace Go.Proofs.YtephhllfodlfbaaGreatDoor
open Go.RowKit
def sm {β:Type}[DecidableEq β](x y:β):Bool:=decide (x=y)
theorem qcu {β:Type}[DecidableEq β]{x y:β}(h:sm x y=true):x=y:=of_decide_eq_true h
theorem qbW {β:Type}[DecidableEq β]{x y:β}(h:sm x y=false):x≠y:=of_decide_eq_false h
theorem qef {β:Type}[DecidableEq β](x:β):sm x x=true:=decide_eq_true rfl
theorem qbP {β:Type}[DecidableEq β]{x y:β}(h:x≠y):sm x y=false:=decide_eq_false h
theorem qcW {β:Type}{ks ls:List β}{k:Nat}(h1:k<ks.length)(h2:k<ls.length)(h:ks.take k=ls.take k)(he:ks[k]=ls[k]):ks.take (k+1)=ls.take (k+1):=by
 rw[List.take_succ_eq_append_getElem h1,List.take_succ_eq_append_getElem h2,h,he]
def IntV (_:World)(v:Value)(k:Int):Prop:=v=.int .i64 k
theorem listsI_any (ok:Int→Prop)(hH:∀(W:World) (x y:Value) (t s:Int),IntV W x t→IntV W y s→ok t→ok s→Calls Tryz.prog 144 #[x,y] W fun e w'=>e=.returned (.bool (sm t s))∧Below W.heap.size W w')
 (v1 v2:Value) (l m:List (Int)) (w:World) (h1:qaf (qbe) 1 w v1 l) (h2:qaf (qbe) 1 w v2 m) (o1:∀t∈l,ok t) (o2:∀t∈m,ok t):
 Calls Tryz.prog 143 #[v1,v2,.func (.func 144) #[] #[]] w fun e w'=>e=.returned (.bool (sm l m))∧Below w.heap.size w w':=by
 have hl:=h1.fit;unfold maxLen at hl;obtain⟨a1,c1,rfl,-,h1⟩:=h1;obtain⟨a2,c2,rfl,-,h2⟩:=h2;have H1:Hid _:=h1;have H2:Hid _:=h2;have HH:Hid _:=hH;have O1:Hid _:=o1;have O2:Hid _:=o2;clear h1 h2 hH o1 o2
 by_cases hlen:l.length=m.length
 ·have hle:((l.length:Int)==(m.length:Int))=true:=by simp;omega
  have hle2:((l.length:Int) !=(m.length:Int))=false:=by simp;omega
  have HLn:Hid (l.length=m.length):=hlen;clear hlen;go_enter Tryz.func143,Tryz.ntmps143;go_wp2;clear hle hle2
  go_loopw [15] (fun i wr=>∃k:Nat,k≤l.length∧i=.int .i64 k∧Hid (l.take k=m.take k)∧Hid (Below w.heap.size w wr)) (fun i _=>l.length-(intOf i).toNat)
  case atStart=>exact⟨0,Nat.zero_le _,rfl,by simp[Hid],Below.refl _ _⟩
  case round=>
   obtain⟨k,hk,rfl,ht,hD⟩:=hrel
   by_cases hlt:k<l.length
   ·have hlt2:k<m.length:=by have:=HLn.out;omega
    rcases H1.out with h0|⟨b,o,rfl,hc⟩
    ·subst h0;simp at hlt
    rcases H2.out with h0|⟨b2,o2,rfl,hc2⟩
    ·subst h0;simp at hlt2
    have hDd:=hD.out.drew;have e1:=hc k hlt;have e2:=hc2 k hlt2;have x1:=O1.out l[k] (List.getElem_mem hlt);have x2:=O2.out m[k] (List.getElem_mem hlt2);have i1:(0:Int)≤(k:Int):=by omega
    have i2:(k:Int)<(l.length:Int):=by omega
    have i3:(k:Int)<(m.length:Int):=by omega
    have HT:Hid (l[k]=m[k]→l.take (k+1)=m.take (k+1)):=fun he=>qcW hlt hlt2 ht.out he
    have HF:Hid (l[k]≠m[k]→sm l m=false):=by
     intro he;refine qbP fun e=>?_
     subst e;exact he rfl
    have HDd:Hid (Below w.heap.size w wr.drew):=hDd;clear hc hc2 ht;generalize l[k]=x at *;generalize m[k]=y at *
    have n0:wr.drew.cell? ⟨b,o+k,none⟩=some (.int .i64 x):=by
     have:=qab hDd e1
     rwa [Nat.mul_one]at this
    clear e1
    have p0:wr.drew.cell? ⟨b2,o2+k,none⟩=some (.int .i64 y):=by
     have:=qab hDd e2
     rwa [Nat.mul_one]at this
    clear e2;have X1:Hid (ok x):=x1;have X2:Hid (ok y):=x2;clear hDd x1 x2
    cases hq:sm x y with
    | false=>
     have HF2:Hid (sm l m=false):=HF.out (qbW hq);go_wp2
     go_region_law (go_simp;go_at_call 144;refine(HH.out _ _ _ x y (rfl) (rfl) X1.out X2.out).mono ?_;rw[hq];rintro e w4 ⟨rfl,hb4⟩)
     all_goals
      have HB4:Hid (Below w.heap.size w w4):=qaa HDd.out hb4;go_wp2;go_ret;exact⟨by rw[HF2.out];rfl,HB4.out⟩
    | true=>
     have HT2:Hid (l.take (k+1)=m.take (k+1)):=HT.out (qcu hq);go_wp2
     go_region_law (go_simp;go_at_call 144;refine(HH.out _ _ _ x y (rfl) (rfl) X1.out X2.out).mono ?_;rw[hq];rintro e w4 ⟨rfl,hb4⟩)
     all_goals
      have HB4:Hid (Below w.heap.size w w4):=qaa HDd.out hb4;go_wp2;exact⟨⟨k+1,hlt,by go_num,HT2,HB4⟩,by simp[intOf];omega⟩
   ·have HT:Hid (sm l m=true):=by
     have:=ht.out;rw[List.take_of_length_le (by omega),List.take_of_length_le (by have:=HLn.out;omega)]at this;rw[this];exact qef m
    go_wp2;go_ret;exact⟨by rw[HT.out];rfl,hD.out⟩
 ·have hle:((l.length:Int)==(m.length:Int))=false:=by simp;omega
  have hle2:((l.length:Int) !=(m.length:Int))=true:=by simp;omega
  have HF:Hid (sm l m=false):=qbP fun e=>hlen (by rw[e])
  go_enter Tryz.func143,Tryz.ntmps143;go_wp2;go_ret;exact⟨by rw[HF.out];rfl,Below.refl _ _⟩
theorem listsT_any {α:Type}[DecidableEq α]{A:MemL α}(hA:IsL A)(ok:Pl.Tst α→Prop)(hH:∀(W:World) (x y:Value) (t s:Pl.Tst α),TstV A W x t→TstV A W y s→ok t→ok s→Calls Tryz.prog 148 #[x,y] W fun e w'=>e=.returned (.bool (sm t s))∧Below W.heap.size W w')
 (v1 v2:Value) (l m:List (Pl.Tst α)) (w:World) (h1:qaf (qaF A) 6 w v1 l) (h2:qaf (qaF A) 6 w v2 m) (o1:∀t∈l,ok t) (o2:∀t∈m,ok t):
 Calls Tryz.prog 147 #[v1,v2,.func (.func 148) #[] #[]] w fun e w'=>e=.returned (.bool (sm l m))∧Below w.heap.size w w':=by
 have hl:=h1.fit;unfold maxLen at hl;obtain⟨a1,c1,rfl,-,h1⟩:=h1;obtain⟨a2,c2,rfl,-,h2⟩:=h2;have H1:Hid _:=h1;have H2:Hid _:=h2;have HH:Hid _:=hH;have O1:Hid _:=o1;have O2:Hid _:=o2;clear h1 h2 hH o1 o2
 by_cases hlen:l.length=m.length
 ·have hle:((l.length:Int)==(m.length:Int))=true:=by simp;omega
  have hle2:((l.length:Int) !=(m.length:Int))=false:=by simp;omega
  have HLn:Hid (l.length=m.length):=hlen;clear hlen;go_enter Tryz.func147,Tryz.ntmps147;go_wp2;clear hle hle2
  go_loopw [15] (fun i wr=>∃k:Nat,k≤l.length∧i=.int .i64 k∧Hid (l.take k=m.take k)∧Hid (Below w.heap.size w wr)) (fun i _=>l.length-(intOf i).toNat)
  case atStart=>exact⟨0,Nat.zero_le _,rfl,by simp[Hid],Below.refl _ _⟩
  case round=>
   obtain⟨k,hk,rfl,ht,hD⟩:=hrel
   by_cases hlt:k<l.length
   ·have hlt2:k<m.length:=by have:=HLn.out;omega
    rcases H1.out with h0|⟨b,o,rfl,hc⟩
    ·subst h0;simp at hlt
    rcases H2.out with h0|⟨b2,o2,rfl,hc2⟩
    ·subst h0;simp at hlt2
    have hDd:=hD.out.drew;have e1:=hc k hlt;have e2:=hc2 k hlt2;have x1:=O1.out l[k] (List.getElem_mem hlt);have x2:=O2.out m[k] (List.getElem_mem hlt2);have i1:(0:Int)≤(k:Int):=by omega
    have i2:(k:Int)<(l.length:Int):=by omega
    have i3:(k:Int)<(m.length:Int):=by omega
    have HT:Hid (l[k]=m[k]→l.take (k+1)=m.take (k+1)):=fun he=>qcW hlt hlt2 ht.out he
    have HF:Hid (l[k]≠m[k]→sm l m=false):=by
     intro he;refine qbP fun e=>?_
     subst e;exact he rfl
    have HDd:Hid (Below w.heap.size w wr.drew):=hDd;clear hc hc2 ht;generalize l[k]=x at *;generalize m[k]=y at *;obtain⟨vn,n0,n1,n2,n3,n4,n5,n6⟩:=qaF.on hA e1 hDd;obtain⟨an,dn,rfl,-⟩:=hA.form n6;have Nn:Hid (A _ _ _):=n6;clear n6;obtain⟨vp,p0,p1,p2,p3,p4,p5,p6⟩:=qaF.on hA e2 hDd;obtain⟨ap,dp,rfl,-⟩:=hA.form p6;have Np:Hid (A _ _ _):=p6;clear p6;have X1:Hid (ok x):=x1;have X2:Hid (ok y):=x2;clear hDd x1 x2
    cases hq:sm x y with
    | false=>
     have HF2:Hid (sm l m=false):=HF.out (qbW hq);go_wp2
     go_region_law (go_simp;go_at_call 148;refine(HH.out _ _ _ x y (⟨_,rfl,Nn.out⟩) (⟨_,rfl,Np.out⟩) X1.out X2.out).mono ?_;rw[hq];rintro e w4 ⟨rfl,hb4⟩)
     all_goals
      have HB4:Hid (Below w.heap.size w w4):=qaa HDd.out hb4;go_wp2;go_ret;exact⟨by rw[HF2.out];rfl,HB4.out⟩
    | true=>
     have HT2:Hid (l.take (k+1)=m.take (k+1)):=HT.out (qcu hq);go_wp2
     go_region_law (go_simp;go_at_call 148;refine(HH.out _ _ _ x y (⟨_,rfl,Nn.out⟩) (⟨_,rfl,Np.out⟩) X1.out X2.out).mono ?_;rw[hq];rintro e w4 ⟨rfl,hb4⟩)
     all_goals
      have HB4:Hid (Below w.heap.size w w4):=qaa HDd.out hb4;go_wp2;exact⟨⟨k+1,hlt,by go_num,HT2,HB4⟩,by simp[intOf];omega⟩
   ·have HT:Hid (sm l m=true):=by
     have:=ht.out;rw[List.take_of_length_le (by omega),List.take_of_length_le (by have:=HLn.out;omega)]at this;rw[this];exact qef m
    go_wp2;go_ret;exact⟨by rw[HT.out];rfl,hD.out⟩
 ·have hle:((l.length:Int)==(m.length:Int))=false:=by simp;omega
  have hle2:((l.length:Int) !=(m.length:Int))=true:=by simp;omega
  have HF:Hid (sm l m=false):=qbP fun e=>hlen (by rw[e])
  go_enter Tryz.func147,Tryz.ntmps147;go_wp2;go_ret;exact⟨by rw[HF.out];rfl,Below.refl _ _⟩
theorem listsS_any {α:Type}[DecidableEq α]{A:MemL α}(hA:IsL A)(ok:Pl.Stp α→Prop)(hH:∀(W:World) (x y:Value) (t s:Pl.Stp α),StpV A W x t→StpV A W y s→ok t→ok s→Calls Tryz.prog 146 #[x,y] W fun e w'=>e=.returned (.bool (sm t s))∧Below W.heap.size W w')
 (v1 v2:Value) (l m:List (Pl.Stp α)) (w:World) (h1:qaf (qa3 A) 2 w v1 l) (h2:qaf (qa3 A) 2 w v2 m) (o1:∀t∈l,ok t) (o2:∀t∈m,ok t):
 Calls Tryz.prog 145 #[v1,v2,.func (.func 146) #[] #[]] w fun e w'=>e=.returned (.bool (sm l m))∧Below w.heap.size w w':=by
 have hl:=h1.fit;unfold maxLen at hl;obtain⟨a1,c1,rfl,-,h1⟩:=h1;obtain⟨a2,c2,rfl,-,h2⟩:=h2;have H1:Hid _:=h1;have H2:Hid _:=h2;have HH:Hid _:=hH;have O1:Hid _:=o1;have O2:Hid _:=o2;clear h1 h2 hH o1 o2
 by_cases hlen:l.length=m.length
 ·have hle:((l.length:Int)==(m.length:Int))=true:=by simp;omega
  have hle2:((l.length:Int) !=(m.length:Int))=false:=by simp;omega
  have HLn:Hid (l.length=m.length):=hlen;clear hlen;go_enter Tryz.func145,Tryz.ntmps145;go_wp2;clear hle hle2
  go_loopw [15] (fun i wr=>∃k:Nat,k≤l.length∧i=.int .i64 k∧Hid (l.take k=m.take k)∧Hid (Below w.heap.size w wr)) (fun i _=>l.length-(intOf i).toNat)
  case atStart=>exact⟨0,Nat.zero_le _,rfl,by simp[Hid],Below.refl _ _⟩
  case round=>
   obtain⟨k,hk,rfl,ht,hD⟩:=hrel
   by_cases hlt:k<l.length
   ·have hlt2:k<m.length:=by have:=HLn.out;omega
    rcases H1.out with h0|⟨b,o,rfl,hc⟩
    ·subst h0;simp at hlt
    rcases H2.out with h0|⟨b2,o2,rfl,hc2⟩
    ·subst h0;simp at hlt2
    have hDd:=hD.out.drew;have e1:=hc k hlt;have e2:=hc2 k hlt2;have x1:=O1.out l[k] (List.getElem_mem hlt);have x2:=O2.out m[k] (List.getElem_mem hlt2);have i1:(0:Int)≤(k:Int):=by omega
    have i2:(k:Int)<(l.length:Int):=by omega
    have i3:(k:Int)<(m.length:Int):=by omega
    have HT:Hid (l[k]=m[k]→l.take (k+1)=m.take (k+1)):=fun he=>qcW hlt hlt2 ht.out he
    have HF:Hid (l[k]≠m[k]→sm l m=false):=by
     intro he;refine qbP fun e=>?_
     subst e;exact he rfl
    have HDd:Hid (Below w.heap.size w wr.drew):=hDd;clear hc hc2 ht;generalize l[k]=x at *;generalize m[k]=y at *;obtain⟨vn,n0,n1,n6⟩:=qa3.on hA e1 hDd;obtain⟨an,dn,rfl⟩:=n6.form;have Nn:Hid (qaf (qaF A) 6 _ _ _):=n6;clear n6;obtain⟨vp,p0,p1,p6⟩:=qa3.on hA e2 hDd;obtain⟨ap,dp,rfl⟩:=p6.form;have Np:Hid (qaf (qaF A) 6 _ _ _):=p6;clear p6;have X1:Hid (ok x):=x1;have X2:Hid (ok y):=x2;clear hDd x1 x2
    cases hq:sm x y with
    | false=>
     have HF2:Hid (sm l m=false):=HF.out (qbW hq);go_wp2
     go_region_law (go_simp;go_at_call 146;refine(HH.out _ _ _ x y (⟨_,rfl,Nn.out⟩) (⟨_,rfl,Np.out⟩) X1.out X2.out).mono ?_;rw[hq];rintro e w4 ⟨rfl,hb4⟩)
     all_goals
      have HB4:Hid (Below w.heap.size w w4):=qaa HDd.out hb4;go_wp2;go_ret;exact⟨by rw[HF2.out];rfl,HB4.out⟩
    | true=>
     have HT2:Hid (l.take (k+1)=m.take (k+1)):=HT.out (qcu hq);go_wp2
     go_region_law (go_simp;go_at_call 146;refine(HH.out _ _ _ x y (⟨_,rfl,Nn.out⟩) (⟨_,rfl,Np.out⟩) X1.out X2.out).mono ?_;rw[hq];rintro e w4 ⟨rfl,hb4⟩)
     all_goals
      have HB4:Hid (Below w.heap.size w w4):=qaa HDd.out hb4;go_wp2;exact⟨⟨k+1,hlt,by go_num,HT2,HB4⟩,by simp[intOf];omega⟩
   ·have HT:Hid (sm l m=true):=by
     have:=ht.out;rw[List.take_of_length_le (by omega),List.take_of_length_le (by have:=HLn.out;omega)]at this;rw[this];exact qef m
    go_wp2;go_ret;exact⟨by rw[HT.out];rfl,hD.out⟩
 ·have hle:((l.length:Int)==(m.length:Int))=false:=by simp;omega
  have hle2:((l.length:Int) !=(m.length:Int))=true:=by simp;omega
  have HF:Hid (sm l m=false):=qbP fun e=>hlen (by rw[e])
  go_enter Tryz.func145,Tryz.ntmps145;go_wp2;go_ret;exact⟨by rw[HF.out];rfl,Below.refl _ _⟩
theorem listsP_any {α:Type}[DecidableEq α]{A:MemL α}(hA:IsL A)(ok:Pl.Pth α→Prop)(hH:∀(W:World) (x y:Value) (t s:Pl.Pth α),PthV A W x t→PthV A W y s→ok t→ok s→Calls Tryz.prog 108 #[x,y] W fun e w'=>e=.returned (.bool (sm t s))∧Below W.heap.size W w')
 (v1 v2:Value) (l m:List (Pl.Pth α)) (w:World) (h1:qaf (qct A) 2 w v1 l) (h2:qaf (qct A) 2 w v2 m) (o1:∀t∈l,ok t) (o2:∀t∈m,ok t):
 Calls Tryz.prog 109 #[v1,v2,.func (.func 108) #[] #[]] w fun e w'=>e=.returned (.bool (sm l m))∧Below w.heap.size w w':=by
 have hl:=h1.fit;unfold maxLen at hl;obtain⟨a1,c1,rfl,-,h1⟩:=h1;obtain⟨a2,c2,rfl,-,h2⟩:=h2;have H1:Hid _:=h1;have H2:Hid _:=h2;have HH:Hid _:=hH;have O1:Hid _:=o1;have O2:Hid _:=o2;clear h1 h2 hH o1 o2
 by_cases hlen:l.length=m.length
 ·have hle:((l.length:Int)==(m.length:Int))=true:=by simp;omega
  have hle2:((l.length:Int) !=(m.length:Int))=false:=by simp;omega
  have HLn:Hid (l.length=m.length):=hlen;clear hlen;go_enter Tryz.func109,Tryz.ntmps109;go_wp2;clear hle hle2
  go_loopw [15] (fun i wr=>∃k:Nat,k≤l.length∧i=.int .i64 k∧Hid (l.take k=m.take k)∧Hid (Below w.heap.size w wr)) (fun i _=>l.length-(intOf i).toNat)
  case atStart=>exact⟨0,Nat.zero_le _,rfl,by simp[Hid],Below.refl _ _⟩
  case round=>
   obtain⟨k,hk,rfl,ht,hD⟩:=hrel
   by_cases hlt:k<l.length
   ·have hlt2:k<m.length:=by have:=HLn.out;omega
    rcases H1.out with h0|⟨b,o,rfl,hc⟩
    ·subst h0;simp at hlt
    rcases H2.out with h0|⟨b2,o2,rfl,hc2⟩
    ·subst h0;simp at hlt2
    have hDd:=hD.out.drew;have e1:=hc k hlt;have e2:=hc2 k hlt2;have x1:=O1.out l[k] (List.getElem_mem hlt);have x2:=O2.out m[k] (List.getElem_mem hlt2);have i1:(0:Int)≤(k:Int):=by omega
    have i2:(k:Int)<(l.length:Int):=by omega
    have i3:(k:Int)<(m.length:Int):=by omega
    have HT:Hid (l[k]=m[k]→l.take (k+1)=m.take (k+1)):=fun he=>qcW hlt hlt2 ht.out he
    have HF:Hid (l[k]≠m[k]→sm l m=false):=by
     intro he;refine qbP fun e=>?_
     subst e;exact he rfl
    have HDd:Hid (Below w.heap.size w wr.drew):=hDd;clear hc hc2 ht;generalize l[k]=x at *;generalize m[k]=y at *;obtain⟨vn,un,n0,n1,n6,n7⟩:=qct.on hA e1 hDd;obtain⟨an,dn,rfl⟩:=n6.form;obtain⟨bn,fn,rfl⟩:=n7.form;have Nn:Hid (qaf (qa3 A) 2 _ _ _):=n6;have Mn:Hid (qaf qbe 1 _ _ _):=n7;clear n6 n7;obtain⟨vp,up,p0,p1,p6,p7⟩:=qct.on hA e2 hDd;obtain⟨ap,dp,rfl⟩:=p6.form;obtain⟨bp,fp,rfl⟩:=p7.form;have Np:Hid (qaf (qa3 A) 2 _ _ _):=p6;have Mp:Hid (qaf qbe 1 _ _ _):=p7;clear p6 p7;have X1:Hid (ok x):=x1;have X2:Hid (ok y):=x2;clear hDd x1 x2
    cases hq:sm x y with
    | false=>
     have HF2:Hid (sm l m=false):=HF.out (qbW hq);go_wp2
     go_region_law (go_simp;go_at_call 108;refine(HH.out _ _ _ x y (⟨_,_,rfl,Nn.out,Mn.out⟩) (⟨_,_,rfl,Np.out,Mp.out⟩) X1.out X2.out).mono ?_;rw[hq];rintro e w4 ⟨rfl,hb4⟩)
     all_goals
      have HB4:Hid (Below w.heap.size w w4):=qaa HDd.out hb4;go_wp2;go_ret;exact⟨by rw[HF2.out];rfl,HB4.out⟩
    | true=>
     have HT2:Hid (l.take (k+1)=m.take (k+1)):=HT.out (qcu hq);go_wp2
     go_region_law (go_simp;go_at_call 108;refine(HH.out _ _ _ x y (⟨_,_,rfl,Nn.out,Mn.out⟩) (⟨_,_,rfl,Np.out,Mp.out⟩) X1.out X2.out).mono ?_;rw[hq];rintro e w4 ⟨rfl,hb4⟩)
     all_goals
      have HB4:Hid (Below w.heap.size w w4):=qaa HDd.out hb4;go_wp2;exact⟨⟨k+1,hlt,by go_num,HT2,HB4⟩,by simp[intOf];omega⟩
   ·have HT:Hid (sm l m=true):=by
     have:=ht.out;rw[List.take_of_length_le (by omega),List.take_of_length_le (by have:=HLn.out;omega)]at this;rw[this];exact qef m
    go_wp2;go_ret;exact⟨by rw[HT.out];rfl,hD.out⟩
 ·have hle:((l.length:Int)==(m.length:Int))=false:=by simp;omega
  have hle2:((l.length:Int) !=(m.length:Int))=true:=by simp;omega
  have HF:Hid (sm l m=false):=qbP fun e=>hlen (by rw[e])
  go_enter Tryz.func109,Tryz.ntmps109;go_wp2;go_ret;exact⟨by rw[HF.out];rfl,Below.refl _ _⟩
theorem sameI_any (W:World)(x y:Value)(t s:Int)(h1:IntV W x t)(h2:IntV W y s):Calls Tryz.prog 144 #[x,y] W fun e w'=>e=.returned (.bool (sm t s))∧Below W.heap.size W w':=by
 unfold IntV at h1 h2;subst h1 h2
 by_cases h:t=s
 ·subst h;have HS:Hid (sm t t=true):=qef t;go_enter Tryz.func144,Tryz.ntmps144;go_wp2;go_ret;exact⟨by rw[HS.out];rfl,Below.refl _ _⟩
 ·have HS:Hid (sm t s=false):=qbP h;have r:(t==s)=false:=by simpa using h
  go_enter Tryz.func144,Tryz.ntmps144;go_wp2;go_ret;exact⟨by rw[HS.out];rfl,Below.refl _ _⟩
section
variable {α:Type} [DecidableEq α] {A:MemL α} (hA:IsL A) (W0:List α→Prop) (hS:∀(w:World) (v1 v2:Value) (l m:List α),A w v1 l→A w v2 m→W0 l→W0 m→Calls Tryz.prog 52 #[v1,v2] w fun e w'=>e=.returned (.bool (sm l m))∧Below w.heap.size w w')
include hA hS
theorem qhX (w:World)(vx vy:Value)(x y:Pl.Tst α)(h1:TstV A w vx x)(h2:TstV A w vy y)(o1:W0 x.list)(o2:W0 y.list):Calls Tryz.prog 148 #[vx,vy] w fun e w'=>e=.returned (.bool (sm x y))∧Below w.heap.size w w':=by
 obtain⟨v1,rfl,h1⟩:=h1;obtain⟨v2,rfl,h2⟩:=h2;obtain⟨ax,dx,rfl,-⟩:=hA.form h1;obtain⟨ay,dy,rfl,-⟩:=hA.form h2;obtain⟨k1,n1,u1,a1,b1,l1⟩:=x;obtain⟨k2,n2,u2,a2,b2,l2⟩:=y;dsimp only at *;have hb:Below w.heap.size w ((w.alloc (.cells #[.int .i64 k1,.string ⟨n1.toArray⟩,.string ⟨u1.toArray⟩,.int .i64 a1,.int .i64 b1,.slice ax l1.length dx] 71)).alloc (.cells #[.int .i64 k2,.string ⟨n2.toArray⟩,.string ⟨u2.toArray⟩,.int .i64 a2,.int .i64 b2,.slice ay l2.length dy] 71)):=((Below.refl _ w).alloc (Nat.le_refl _) _).alloc (by simp) _;have HB:Hid (Below w.heap.size w ((w.alloc (.cells #[.int .i64 k1,.string ⟨n1.toArray⟩,.string ⟨u1.toArray⟩,.int .i64 a1,.int .i64 b1,.slice ax l1.length dx] 71)).alloc (.cells #[.int .i64 k2,.string ⟨n2.toArray⟩,.string ⟨u2.toArray⟩,.int .i64 a2,.int .i64 b2,.slice ay l2.length dy] 71))):=hb;have HC:Hid (Calls Tryz.prog 52 _ _ _):=hS _ _ _ l1 l2 (hA.on h1 hb) (hA.on h2 hb) o1 o2;clear h1 h2 hb o1 o2
 by_cases e1:k1=k2
 case neg=>
  have HS:Hid (sm (⟨k1,n1,u1,a1,b1,l1⟩:Pl.Tst α) ⟨k2,n2,u2,a2,b2,l2⟩=false):=qbP fun e=>e1 (by injection e)
  have r1:(k1==k2)=false:=by simpa using e1
  clear HC;go_enter Tryz.func148,Tryz.ntmps148;go_wp2;go_ret;exact⟨by rw[HS.out];rfl,HB.out⟩
 subst e1
 by_cases e2:n1=n2
 case neg=>
  have HS:Hid (sm (⟨k1,n1,u1,a1,b1,l1⟩:Pl.Tst α) ⟨k1,n2,u2,a2,b2,l2⟩=false):=qbP fun e=>e2 (by injection e)
  have r2:(n1==n2)=false:=by simpa using e2
  clear HC e2;go_enter Tryz.func148,Tryz.ntmps148;go_wp2;go_ret;exact⟨by rw[HS.out];rfl,HB.out⟩
 subst e2
 by_cases e3:u1=u2
 case neg=>
  have HS:Hid (sm (⟨k1,n1,u1,a1,b1,l1⟩:Pl.Tst α) ⟨k1,n1,u2,a2,b2,l2⟩=false):=qbP fun e=>e3 (by injection e)
  have r3:(u1==u2)=false:=by simpa using e3
  clear HC e3;go_enter Tryz.func148,Tryz.ntmps148;go_wp2;go_ret;exact⟨by rw[HS.out];rfl,HB.out⟩
 subst e3
 by_cases e4:a1=a2
 case neg=>
  have HS:Hid (sm (⟨k1,n1,u1,a1,b1,l1⟩:Pl.Tst α) ⟨k1,n1,u1,a2,b2,l2⟩=false):=qbP fun e=>e4 (by injection e)
  have r4:(a1==a2)=false:=by simpa using e4
  clear HC;go_enter Tryz.func148,Tryz.ntmps148;go_wp2;go_ret;exact⟨by rw[HS.out];rfl,HB.out⟩
 subst e4
 by_cases e5:b1=b2
 case neg=>
  have HS:Hid (sm (⟨k1,n1,u1,a1,b1,l1⟩:Pl.Tst α) ⟨k1,n1,u1,a1,b2,l2⟩=false):=qbP fun e=>e5 (by injection e)
  have r5:(b1==b2)=false:=by simpa using e5
  clear HC;go_enter Tryz.func148,Tryz.ntmps148;go_wp2;go_ret;exact⟨by rw[HS.out];rfl,HB.out⟩
 subst e5
 have HS:Hid (sm (⟨k1,n1,u1,a1,b1,l1⟩:Pl.Tst α) ⟨k1,n1,u1,a1,b1,l2⟩=sm l1 l2):=by
  unfold Hid sm;simp
 rw[HS.out];clear HS;generalize sm l1 l2=r at *;go_enter Tryz.func148,Tryz.ntmps148
 go_wp2_with fail
 refine HC.out.mono ?_;rintro e w2 ⟨rfl,hb2⟩;have HB2:Hid (Below w.heap.size w w2):=qaa HB.out hb2;clear hb2;go_wp2;go_ret;exact⟨rfl,HB2.out⟩
theorem sameS_any (w:World)(vx vy:Value)(x y:Pl.Stp α)(h1:StpV A w vx x)(h2:StpV A w vy y)(o1:∀t∈x.tests,W0 t.list)(o2:∀t∈y.tests,W0 t.list):Calls Tryz.prog 146 #[vx,vy] w fun e w'=>e=.returned (.bool (sm x y))∧Below w.heap.size w w':=by
 obtain⟨v1,rfl,h1⟩:=h1;obtain⟨v2,rfl,h2⟩:=h2;obtain⟨ax,dx,rfl⟩:=h1.form;obtain⟨ay,dy,rfl⟩:=h2.form;obtain⟨t1,l1⟩:=x;obtain⟨t2,l2⟩:=y;dsimp only at *;have hb:Below w.heap.size w ((w.alloc (.cells #[.string ⟨t1.toArray⟩,.slice ax l1.length dx] 67)).alloc (.cells #[.string ⟨t2.toArray⟩,.slice ay l2.length dy] 67)):=((Below.refl _ w).alloc (Nat.le_refl _) _).alloc (by simp) _;have HB:Hid (Below w.heap.size w ((w.alloc (.cells #[.string ⟨t1.toArray⟩,.slice ax l1.length dx] 67)).alloc (.cells #[.string ⟨t2.toArray⟩,.slice ay l2.length dy] 67))):=hb;have HC:Hid (Calls Tryz.prog 147 _ _ _):=listsT_any hA (fun t=>W0 t.list) (fun W v u t s ht hs p q=>qhX hA W0 hS W v u t s ht hs p q) _ _ l1 l2 _ (h1.map fun b o t ht=>ht.on hA hb) (h2.map fun b o t ht=>ht.on hA hb) o1 o2;clear h1 h2 hb o1 o2
 by_cases e1:t1=t2
 ·subst e1
  have HS:Hid (sm (⟨t1,l1⟩:Pl.Stp α) ⟨t1,l2⟩=sm l1 l2):=by
   unfold Hid sm;simp
  rw[HS.out];clear HS;generalize sm l1 l2=r at *;go_enter Tryz.func146,Tryz.ntmps146
  go_wp2_with fail
  refine HC.out.mono ?_;rintro e w2 ⟨rfl,hb2⟩;have HB2:Hid (Below w.heap.size w w2):=qaa HB.out hb2;clear hb2;go_wp2;go_ret;exact⟨rfl,HB2.out⟩
 ·have HS:Hid (sm (⟨t1,l1⟩:Pl.Stp α) ⟨t2,l2⟩=false):=qbP fun e=>e1 (by injection e)
  have r2:(t1==t2)=false:=by simpa using e1
  clear HC e1;go_enter Tryz.func146,Tryz.ntmps146;go_wp2;go_ret;exact⟨by rw[HS.out];rfl,HB.out⟩
theorem qhV (w:World)(vx vy:Value)(x y:Pl.Pth α)(h1:PthV A w vx x)(h2:PthV A w vy y)(o1:∀s∈x.steps,∀t∈s.tests,W0 t.list)(o2:∀s∈y.steps,∀t∈s.tests,W0 t.list):Calls Tryz.prog 108 #[vx,vy] w fun e w'=>e=.returned (.bool (sm x y))∧Below w.heap.size w w':=by
 obtain⟨v1,u1,rfl,h1,k1⟩:=h1;obtain⟨v2,u2,rfl,h2,k2⟩:=h2;obtain⟨ax,dx,rfl⟩:=h1.form;obtain⟨ay,dy,rfl⟩:=h2.form;obtain⟨bx,fx,rfl⟩:=k1.form;obtain⟨by_,fy,rfl⟩:=k2.form;have hb:Below w.heap.size w ((w.alloc (.cells #[.slice ax x.steps.length dx,.slice bx x.links.length fx] 64)).alloc (.cells #[.slice ay y.steps.length dy,.slice by_ y.links.length fy] 64)):=((Below.refl _ w).alloc (Nat.le_refl _) _).alloc (by simp) _;have HB:Hid (Below w.heap.size w ((w.alloc (.cells #[.slice ax x.steps.length dx,.slice bx x.links.length fx] 64)).alloc (.cells #[.slice ay y.steps.length dy,.slice by_ y.links.length fy] 64))):=hb;have HC:Hid (Calls Tryz.prog 143 _ _ _):=listsI_any (fun _=>True) (fun W v u t s ht hs _ _=>sameI_any W v u t s ht hs) _ _ x.links y.links _ (k1.map fun b o t ht=>qab hb ht) (k2.map fun b o t ht=>qab hb ht) (fun _ _=>trivial) (fun _ _=>trivial);have HD:Hid (∀W',Below w.heap.size w W'→Calls Tryz.prog 145 #[.slice ax x.steps.length dx,.slice ay y.steps.length dy,.func (.func 146) #[] #[]] W' fun e w'=>e=.returned (.bool (sm x.steps y.steps))∧Below W'.heap.size W' w'):=fun W' hW=>listsS_any hA (fun s=>∀t∈s.tests,W0 t.list) (fun W v u t s ht hs p q=>sameS_any hA W0 hS W v u t s ht hs p q) _ _ x.steps y.steps _ (h1.map fun b o t ht=>ht.on hA hW) (h2.map fun b o t ht=>ht.on hA hW) o1 o2
 have c0:((w.alloc (.cells #[.slice ax x.steps.length dx,.slice bx x.links.length fx] 64)).alloc (.cells #[.slice ay y.steps.length dy,.slice by_ y.links.length fy] 64)).cell? ⟨w.heap.size,0,none⟩=some (.slice ax x.steps.length dx):=by simp[go_sem]
 have c1:((w.alloc (.cells #[.slice ax x.steps.length dx,.slice bx x.links.length fx] 64)).alloc (.cells #[.slice ay y.steps.length dy,.slice by_ y.links.length fy] 64)).cell? ⟨w.heap.size+1,0,none⟩=some (.slice ay y.steps.length dy):=by simp[go_sem]
 have HC0:Hid _:=c0;have HC1:Hid _:=c1;clear h1 h2 k1 k2 hb o1 o2 c0 c1
 by_cases e1:x.links=y.links
 ·have HS:Hid (sm x y=sm x.steps y.steps):=by
   obtain⟨t1,l1⟩:=x;obtain⟨t2,l2⟩:=y;dsimp only at *;subst e1;unfold Hid sm;simp
  have HL:Hid (sm x.links y.links=true):=by unfold Hid;rw[e1];exact qef _
  rw[HL.out]at HC;rw[HS.out];clear HS HL e1;generalize sm x.steps y.steps=r at *;go_enter Tryz.func108,Tryz.ntmps108
  go_wp2_with fail
  generalize ((w.alloc (.cells #[.slice ax x.steps.length dx,.slice bx x.links.length fx] 64)).alloc (.cells #[.slice ay y.steps.length dy,.slice by_ y.links.length fy] 64))=w0 at *;refine HC.out.mono ?_;rintro e w2 ⟨rfl,hb2⟩;have HB2:Hid (Below w.heap.size w w2):=qaa HB.out hb2;have x0:=qab hb2 HC0.out;have x1:=qab hb2 HC1.out;clear hb2
  go_wp2_with fail
  refine(HD.out _ HB2.out).mono ?_;rintro e w3 ⟨rfl,hb3⟩;have HB3:Hid (Below w.heap.size w w3):=qaa HB2.out hb3;clear hb3;go_wp2;go_ret;exact⟨rfl,HB3.out⟩
 ·have HS:Hid (sm x y=false):=qbP fun e=>e1 (by rw[e])
  have HL:Hid (sm x.links y.links=false):=qbP e1;rw[HL.out]at HC;clear HD e1 HL;go_enter Tryz.func108,Tryz.ntmps108
  go_wp2_with fail
  generalize ((w.alloc (.cells #[.slice ax x.steps.length dx,.slice bx x.links.length fx] 64)).alloc (.cells #[.slice ay y.steps.length dy,.slice by_ y.links.length fy] 64))=w0 at *;refine HC.out.mono ?_;rintro e w2 ⟨rfl,hb2⟩;have HB2:Hid (Below w.heap.size w w2):=qaa HB.out hb2;clear hb2;go_wp2;go_ret;exact⟨by rw[HS.out];rfl,HB2.out⟩
theorem qhB (w:World)(v1 v2:Value)(l m:List (Pl.Pth α))(h1:qbp A w v1 l)(h2:qbp A w v2 m)(o1:∀p∈l,∀s∈p.steps,∀t∈s.tests,W0 t.list)(o2:∀p∈m,∀s∈p.steps,∀t∈s.tests,W0 t.list):Calls Tryz.prog 52 #[v1,v2] w fun e w'=>e=.returned (.bool (sm l m))∧Below w.heap.size w w':=by
 have HC:Hid (Calls Tryz.prog 109 _ _ _):=listsP_any hA (fun p=>∀s∈p.steps,∀t∈s.tests,W0 t.list) (fun W v u t s ht hs p q=>qhV hA W0 hS W v u t s ht hs p q) _ _ l m w h1 h2 o1 o2;obtain⟨a1,c1,rfl⟩:=qaf.form h1;obtain⟨a2,c2,rfl⟩:=qaf.form h2;clear h1 h2 o1 o2;go_enter Tryz.func52,Tryz.ntmps52
 go_wp2_with fail
 refine HC.out.mono ?_;rintro e w2 ⟨rfl,hb2⟩;have HB2:Hid (Below w.heap.size w w2):=hb2;clear hb2;go_wp2;go_ret;exact⟨rfl,HB2.out⟩
end
theorem sameL_z (w:World)(v1 v2:Value)(l m:List Unit)(h1:ZAt w v1 l)(h2:ZAt w v2 m)(o1:l=[])(o2:m=[]):Calls Tryz.prog 52 #[v1,v2] w fun e w'=>e=.returned (.bool (sm l m))∧Below w.heap.size w w':=by
 subst o1 o2;obtain⟨a1,c1,rfl,-⟩:=h1;obtain⟨a2,c2,rfl,-⟩:=h2
 have HC:Hid (Calls Tryz.prog 109 #[.slice a1 0 c1,.slice a2 0 c2,.func (.func 108) #[] #[]] w fun e w'=>e=.returned (.bool true)∧Below w.heap.size w w'):=by
  go_enter Tryz.func109,Tryz.ntmps109;go_wp2;refine wp_loop_rounds 1 ?_;rw[rounds_succ];go_wp2;go_ret;exact⟨rfl,Below.refl _ _⟩
 go_enter Tryz.func52,Tryz.ntmps52
 go_wp2_with fail
 refine HC.out.mono ?_;rintro e w2 ⟨rfl,hb2⟩;have HB2:Hid (Below w.heap.size w w2):=hb2;clear hb2;go_wp2;go_ret;exact⟨rfl,HB2.out⟩
theorem sameL_1 (w:World)(v1 v2:Value)(l m:List Pl.D1)(h1:A1 w v1 l)(h2:A1 w v2 m)(o1:Pl.L1.W l)(o2:Pl.L1.W m):Calls Tryz.prog 52 #[v1,v2] w fun e w'=>e=.returned (.bool (sm l m))∧Below w.heap.size w w':=
 qhB qcP Pl.L0.W sameL_z w v1 v2 l m h1 h2 (fun p hp s hs t ht=>((o1.2 p hp).2.2.2 s hs).2 t ht) (fun p hp s hs t ht=>((o2.2 p hp).2.2.2 s hs).2 t ht)
theorem sameL_2 (w:World)(v1 v2:Value)(l m:List Pl.D2)(h1:A2 w v1 l)(h2:A2 w v2 m)(o1:Pl.L2.W l)(o2:Pl.L2.W m):Calls Tryz.prog 52 #[v1,v2] w fun e w'=>e=.returned (.bool (sm l m))∧Below w.heap.size w w':=
 qhB qdA Pl.L1.W sameL_1 w v1 v2 l m h1 h2 (fun p hp s hs t ht=>((o1.2 p hp).2.2.2 s hs).2 t ht) (fun p hp s hs t ht=>((o2.2 p hp).2.2.2 s hs).2 t ht)
theorem sameL_3 (w:World)(v1 v2:Value)(l m:List Pl.D3)(h1:A3 w v1 l)(h2:A3 w v2 m)(o1:Pl.L3.W l)(o2:Pl.L3.W m):Calls Tryz.prog 52 #[v1,v2] w fun e w'=>e=.returned (.bool (sm l m))∧Below w.heap.size w w':=
 qhB qdJ Pl.L2.W sameL_2 w v1 v2 l m h1 h2 (fun p hp s hs t ht=>((o1.2 p hp).2.2.2 s hs).2 t ht) (fun p hp s hs t ht=>((o2.2 p hp).2.2.2 s hs).2 t ht)
end Go.Proofs.YtephhllfodlfbaaGreatDoor
