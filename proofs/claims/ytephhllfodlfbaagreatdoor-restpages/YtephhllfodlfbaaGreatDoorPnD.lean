/-
  Of those that are the same the first one: same.Firsts, of tests and of paths.
-/
import Derived.Test.YtephhllfodlfbaaGreatDoorPnG
set_option maxRecDepth 100000
set_option maxHeartbeats 16000000
namespace Go.Proofs.YtephhllfodlfbaaGreatDoor
open Go.RowKit
theorem hblk {W W':World}{M:Nat}{ob:Obj}(h:W.heap[M]? =some ob)(hb:Below W.heap.size W W'):W'.heap[M]? =some ob:=(hb.block M (Array.getElem?_eq_some_iff.1 h).1).trans h
theorem f1 {W:World}{M T:Nat}{v:Value}(h:W.heap[M]? =some (.cells #[v] T)):W.cell? ⟨M,0,none⟩=some v:=by simp[World.cell?,h]
theorem f2 {W:World}{M T:Nat}{v0 v1:Value}(h:W.heap[M]? =some (.cells #[v0,v1] T)):W.cell? ⟨M,0,none⟩=some v0∧W.cell? ⟨M,1,none⟩=some v1:=by
 refine⟨?_,?_⟩<;>simp[World.cell?,h]
theorem f6 {W:World}{M T:Nat}{v0 v1 v2 v3 v4 v5:Value}(h:W.heap[M]? =some (.cells #[v0,v1,v2,v3,v4,v5] T)):W.cell? ⟨M,0,none⟩=some v0∧W.cell? ⟨M,1,none⟩=some v1∧W.cell? ⟨M,2,none⟩=some v2∧W.cell? ⟨M,3,none⟩=some v3∧W.cell? ⟨M,4,none⟩=some v4∧W.cell? ⟨M,5,none⟩=some v5:=by
 refine⟨?_,?_,?_,?_,?_,?_⟩<;>simp[World.cell?,h]
section
variable {α:Type} [DecidableEq α] {A:MemL α} (hA:IsL A) (ok:Pl.Tst α→Prop)
 (hH:∀(W:World) (x y:Value) (t s:Pl.Tst α),TstV A W x t→TstV A W y s→ok t→ok s→Calls Tryz.prog 148 #[x,y] W fun e w'=>e=.returned (.bool (sm t s))∧Below W.heap.size W w')
include hA hH
theorem cloT_any (M3 M7:Nat)(ax:Option Addr)(dx:Nat)(vy:Value)(x y:Pl.Tst α)(w:World)(h3:w.heap[M3]? =some (.cells #[.func (.func 148) #[] #[]] 174))(h7:w.heap[M7]? =some (.cells #[.int .i64 x.kind,.string ⟨x.name.toArray⟩,.string ⟨x.value.toArray⟩,.int .i64 x.a,.int .i64 x.b,.slice ax x.list.length dx] 71))(hx:A w (.slice ax x.list.length dx) x.list)(hy:TstV A w vy y)(ox:ok x)(oy:ok y):
 Calls Tryz.prog 203 #[vy,.pointer (some ⟨M3,0,none⟩),.pointer (some ⟨M7,0,none⟩)] w fun e w'=>e=.returned (.bool (sm y x))∧Below w.heap.size w w':=by
 obtain⟨vl,rfl,hm⟩:=hy;obtain⟨ay,dy,rfl,-⟩:=hA.form hm;have hb:=qac w (.cells #[.int .i64 y.kind,.string ⟨y.name.toArray⟩,.string ⟨y.value.toArray⟩,.int .i64 y.a,.int .i64 y.b,.slice ay y.list.length dy] 71);have c3:=f1 (hblk h3 hb);obtain⟨q0,q1,q2,q3,q4,q5⟩:=f6 (hblk h7 hb);have HB:Hid (Below w.heap.size w (w.alloc (.cells #[.int .i64 y.kind,.string ⟨y.name.toArray⟩,.string ⟨y.value.toArray⟩,.int .i64 y.a,.int .i64 y.b,.slice ay y.list.length dy] 71))):=hb;have HC:Hid (Calls Tryz.prog 148 #[.agg #[.int .i64 y.kind,.string ⟨y.name.toArray⟩,.string ⟨y.value.toArray⟩,.int .i64 y.a,.int .i64 y.b,.slice ay y.list.length dy],.agg #[.int .i64 x.kind,.string ⟨x.name.toArray⟩,.string ⟨x.value.toArray⟩,.int .i64 x.a,.int .i64 x.b,.slice ax x.list.length dx]] (w.alloc (.cells #[.int .i64 y.kind,.string ⟨y.name.toArray⟩,.string ⟨y.value.toArray⟩,.int .i64 y.a,.int .i64 y.b,.slice ay y.list.length dy] 71)) fun e w'=>e=.returned (.bool (sm y x))∧Below (w.alloc (.cells #[.int .i64 y.kind,.string ⟨y.name.toArray⟩,.string ⟨y.value.toArray⟩,.int .i64 y.a,.int .i64 y.b,.slice ay y.list.length dy] 71)).heap.size (w.alloc (.cells #[.int .i64 y.kind,.string ⟨y.name.toArray⟩,.string ⟨y.value.toArray⟩,.int .i64 y.a,.int .i64 y.b,.slice ay y.list.length dy] 71)) w'):=hH _ _ _ y x ⟨_,rfl,(hA.on hm hb:A (w.alloc (.cells #[.int .i64 y.kind,.string ⟨y.name.toArray⟩,.string ⟨y.value.toArray⟩,.int .i64 y.a,.int .i64 y.b,.slice ay y.list.length dy] 71)) (.slice ay y.list.length dy) y.list)⟩ ⟨_,rfl,(hA.on hx hb:A (w.alloc (.cells #[.int .i64 y.kind,.string ⟨y.name.toArray⟩,.string ⟨y.value.toArray⟩,.int .i64 y.a,.int .i64 y.b,.slice ay y.list.length dy] 71)) (.slice ax x.list.length dx) x.list)⟩ oy ox;clear hb h3 h7 hx hm ox oy;generalize sm y x=r at *;go_enter Tryz.func203,Tryz.ntmps203
 go_wp2_with fail
 refine HC.out.mono ?_;rintro e w2 ⟨rfl,hb2⟩;have HB2:Hid (Below w.heap.size w w2):=qaa HB.out hb2;clear hb2;go_wp2;go_ret;exact⟨rfl,HB2.out⟩
theorem indexT_any (M3 M7:Nat)(ax:Option Addr)(dx:Nat)(x:Pl.Tst α)(v:Value)(l:List (Pl.Tst α))(w:World)(h3:w.heap[M3]? =some (.cells #[.func (.func 148) #[] #[]] 174))(h7:w.heap[M7]? =some (.cells #[.int .i64 x.kind,.string ⟨x.name.toArray⟩,.string ⟨x.value.toArray⟩,.int .i64 x.a,.int .i64 x.b,.slice ax x.list.length dx] 71))(hx:A w (.slice ax x.list.length dx) x.list)(ox:ok x)(hl:qaf (qaF A) 6 w v l)(ol:∀y∈l,ok y):
 Calls Tryz.prog 214 #[v,.func (.func 203) #[] #[.pointer (some ⟨M3,0,none⟩),.pointer (some ⟨M7,0,none⟩)]] w fun e w'=>((∃k:Nat,e=.returned (.int .i64 k)∧x∈l)∨(e=.returned (.int .i64 (-1))∧x∉l))∧Below w.heap.size w w':=by
 have hlen:=hl.fit;unfold maxLen at hlen;obtain⟨a,c,rfl,-,hcs⟩:=hl;have HR:Hid _:=hcs;have OL:Hid _:=ol;have HCL:Hid (∀(W:World) (vy:Value) (y:Pl.Tst α),Below w.heap.size w W→TstV A W vy y→ok y→Calls Tryz.prog 203 #[vy,.pointer (some ⟨M3,0,none⟩),.pointer (some ⟨M7,0,none⟩)] W fun e w'=>e=.returned (.bool (sm y x))∧Below W.heap.size W w'):=fun W vy y hW hy oy=>cloT_any hA ok hH M3 M7 ax dx vy x y W (hblk h3 hW) (hblk h7 hW) (hA.on hx hW) hy ox oy
 clear hcs ol h3 h7 hx;go_enter Tryz.func214,Tryz.ntmps214;go_wp2
 go_loopw [8] (fun i wr=>∃k:Nat,k≤l.length∧i=.int .i64 k∧Hid (x∉l.take k)∧Hid (Below w.heap.size w wr)) (fun i _=>l.length-(intOf i).toNat)
 case atStart=>exact⟨0,Nat.zero_le _,rfl,by simp[Hid],Below.refl _ _⟩
 case round=>
  obtain⟨k,hk,rfl,HT,HB⟩:=hrel
  by_cases hlt:k<l.length
  ·rcases HR.out with h0|⟨b,o,rfl,hc⟩
   ·subst h0;simp at hlt
   have hat:=(hc k hlt).on hA HB.out;have oy:=OL.out l[k] (List.getElem_mem hlt);have HY:Hid (l[k]=x→x∈l):=fun e=>by rw[←e];exact List.getElem_mem hlt
   have HN:Hid (l[k]≠x→x∉l.take (k+1)):=fun e h=>by
    rw[List.take_succ_eq_append_getElem hlt]at h
    rcases List.mem_append.1 h with h|h
    ·exact HT.out h
    ·exact e (List.mem_singleton.1 h).symm
   have i1:(0:Int)≤(k:Int):=by omega
   have i2:(k:Int)<(l.length:Int):=by omega
   clear hc;generalize l[k]=y at *;obtain⟨vy,n0,n1,n2,n3,n4,n5,hm⟩:=hat;obtain⟨ay,dy,rfl,-⟩:=hA.form hm;have HC:=HCL.out wr (.agg #[.int .i64 y.kind,.string ⟨y.name.toArray⟩,.string ⟨y.value.toArray⟩,.int .i64 y.a,.int .i64 y.b,.slice ay y.list.length dy]) y HB.out ⟨_,rfl,hm⟩ oy;have HCC:Hid (Calls Tryz.prog 203 _ _ _):=HC;clear HC hm oy
   cases hq:sm y x with
   | true=>
    rw[hq]at HCC;have HM:Hid (x∈l):=HY.out (qcu hq);clear hq
    go_wp2_with fail
    refine HCC.out.mono ?_;rintro e w2 ⟨rfl,hb2⟩;have HB2:Hid (Below w.heap.size w w2):=qaa HB.out hb2;clear hb2;go_wp2;go_ret;exact⟨Or.inl ⟨k,rfl,HM.out⟩,HB2.out⟩
   | false=>
    rw[hq]at HCC;have HN2:Hid (x∉l.take (k+1)):=HN.out (qbW hq);clear hq
    go_wp2_with fail
    refine HCC.out.mono ?_;rintro e w2 ⟨rfl,hb2⟩;have HB2:Hid (Below w.heap.size w w2):=qaa HB.out hb2;clear hb2;go_wp2;exact⟨⟨k+1,hlt,by go_num,HN2,HB2⟩,by simp[intOf];omega⟩
  ·have HM:Hid (x∉l):=by
    have:=HT.out;rw[List.take_of_length_le (by omega)]at this;exact this
   go_wp2;go_ret;exact⟨Or.inr ⟨rfl,HM.out⟩,HB.out⟩
theorem qhE (M3 M7:Nat)(ax:Option Addr)(dx:Nat)(x:Pl.Tst α)(v:Value)(l:List (Pl.Tst α))(w:World)(h3:w.heap[M3]? =some (.cells #[.func (.func 148) #[] #[]] 174))(h7:w.heap[M7]? =some (.cells #[.int .i64 x.kind,.string ⟨x.name.toArray⟩,.string ⟨x.value.toArray⟩,.int .i64 x.a,.int .i64 x.b,.slice ax x.list.length dx] 71))(hx:A w (.slice ax x.list.length dx) x.list)(ox:ok x)(hl:qaf (qaF A) 6 w v l)(ol:∀y∈l,ok y):
 Calls Tryz.prog 202 #[v,.func (.func 203) #[] #[.pointer (some ⟨M3,0,none⟩),.pointer (some ⟨M7,0,none⟩)]] w fun e w'=>((e=.returned (.bool true)∧x∈l)∨(e=.returned (.bool false)∧x∉l))∧Below w.heap.size w w':=by
 have HC:Hid (Calls Tryz.prog 214 _ _ _):=indexT_any hA ok hH M3 M7 ax dx x v l w h3 h7 hx ox hl ol;obtain⟨a,c,rfl⟩:=hl.form;clear h3 h7 hx hl ol;go_enter Tryz.func202,Tryz.ntmps202
 go_wp2_with fail
 refine HC.out.mono ?_;rintro e w2 ⟨⟨k,rfl,hm⟩|⟨rfl,hm⟩,hb2⟩
 ·have HM:Hid (x∈l):=hm;have HB2:Hid (Below w.heap.size w w2):=hb2;have i1:(0:Int)≤(k:Int):=by omega
  clear hb2 hm HC;go_wp2;go_ret;exact⟨Or.inl ⟨rfl,HM.out⟩,HB2.out⟩
 ·have HM:Hid (x∉l):=hm;have HB2:Hid (Below w.heap.size w w2):=hb2;clear hb2 hm HC;go_wp2;go_ret;exact⟨Or.inr ⟨rfl,HM.out⟩,HB2.out⟩
end
section
variable {α:Type} [DecidableEq α] {A:MemL α} (hA:IsL A) (ok:Pl.Pth α→Prop)
 (hH:∀(W:World) (x y:Value) (t s:Pl.Pth α),PthV A W x t→PthV A W y s→ok t→ok s→Calls Tryz.prog 108 #[x,y] W fun e w'=>e=.returned (.bool (sm t s))∧Below W.heap.size W w')
include hA hH
theorem cloP_any (M3 M7:Nat)(ax bx:Option Addr)(dx fx:Nat)(vy:Value)(x y:Pl.Pth α)(w:World)(h3:w.heap[M3]? =some (.cells #[.func (.func 108) #[] #[]] 99))(h7:w.heap[M7]? =some (.cells #[.slice ax x.steps.length dx,.slice bx x.links.length fx] 64))(hx:(qaf (qa3 A) 2 w (.slice ax x.steps.length dx) x.steps∧qaf qbe 1 w (.slice bx x.links.length fx) x.links))(hy:PthV A w vy y)(ox:ok x)(oy:ok y):
 Calls Tryz.prog 142 #[vy,.pointer (some ⟨M3,0,none⟩),.pointer (some ⟨M7,0,none⟩)] w fun e w'=>e=.returned (.bool (sm y x))∧Below w.heap.size w w':=by
 obtain⟨v1,v2,rfl,hm1,hm2⟩:=hy;obtain⟨ay,dy,rfl⟩:=hm1.form;obtain⟨by_,fy,rfl⟩:=hm2.form;have hm:=And.intro hm1 hm2;have hb:=qac w (.cells #[.slice ay y.steps.length dy,.slice by_ y.links.length fy] 64);have c3:=f1 (hblk h3 hb);obtain⟨q0,q1⟩:=f2 (hblk h7 hb);have HB:Hid (Below w.heap.size w (w.alloc (.cells #[.slice ay y.steps.length dy,.slice by_ y.links.length fy] 64))):=hb;have HC:Hid (Calls Tryz.prog 108 #[.agg #[.slice ay y.steps.length dy,.slice by_ y.links.length fy],.agg #[.slice ax x.steps.length dx,.slice bx x.links.length fx]] (w.alloc (.cells #[.slice ay y.steps.length dy,.slice by_ y.links.length fy] 64)) fun e w'=>e=.returned (.bool (sm y x))∧Below (w.alloc (.cells #[.slice ay y.steps.length dy,.slice by_ y.links.length fy] 64)).heap.size (w.alloc (.cells #[.slice ay y.steps.length dy,.slice by_ y.links.length fy] 64)) w'):=hH _ _ _ y x ⟨_,_,rfl,(⟨hm.1.map fun _ _ _ hq=>hq.on hA hb,hm.2.map fun _ _ _ hq=>qab hb hq⟩:(qaf (qa3 A) 2 (w.alloc (.cells #[.slice ay y.steps.length dy,.slice by_ y.links.length fy] 64)) (.slice ay y.steps.length dy) y.steps∧qaf qbe 1 (w.alloc (.cells #[.slice ay y.steps.length dy,.slice by_ y.links.length fy] 64)) (.slice by_ y.links.length fy) y.links)).1,(⟨hm.1.map fun _ _ _ hq=>hq.on hA hb,hm.2.map fun _ _ _ hq=>qab hb hq⟩:(qaf (qa3 A) 2 (w.alloc (.cells #[.slice ay y.steps.length dy,.slice by_ y.links.length fy] 64)) (.slice ay y.steps.length dy) y.steps∧qaf qbe 1 (w.alloc (.cells #[.slice ay y.steps.length dy,.slice by_ y.links.length fy] 64)) (.slice by_ y.links.length fy) y.links)).2⟩ ⟨_,_,rfl,(⟨hx.1.map fun _ _ _ hq=>hq.on hA hb,hx.2.map fun _ _ _ hq=>qab hb hq⟩:(qaf (qa3 A) 2 (w.alloc (.cells #[.slice ay y.steps.length dy,.slice by_ y.links.length fy] 64)) (.slice ax x.steps.length dx) x.steps∧qaf qbe 1 (w.alloc (.cells #[.slice ay y.steps.length dy,.slice by_ y.links.length fy] 64)) (.slice bx x.links.length fx) x.links)).1,(⟨hx.1.map fun _ _ _ hq=>hq.on hA hb,hx.2.map fun _ _ _ hq=>qab hb hq⟩:(qaf (qa3 A) 2 (w.alloc (.cells #[.slice ay y.steps.length dy,.slice by_ y.links.length fy] 64)) (.slice ax x.steps.length dx) x.steps∧qaf qbe 1 (w.alloc (.cells #[.slice ay y.steps.length dy,.slice by_ y.links.length fy] 64)) (.slice bx x.links.length fx) x.links)).2⟩ oy ox;clear hb h3 h7 hx hm ox oy hm1 hm2;generalize sm y x=r at *;go_enter Tryz.func142,Tryz.ntmps142
 go_wp2_with fail
 refine HC.out.mono ?_;rintro e w2 ⟨rfl,hb2⟩;have HB2:Hid (Below w.heap.size w w2):=qaa HB.out hb2;clear hb2;go_wp2;go_ret;exact⟨rfl,HB2.out⟩
theorem indexP_any (M3 M7:Nat)(ax bx:Option Addr)(dx fx:Nat)(x:Pl.Pth α)(v:Value)(l:List (Pl.Pth α))(w:World)(h3:w.heap[M3]? =some (.cells #[.func (.func 108) #[] #[]] 99))(h7:w.heap[M7]? =some (.cells #[.slice ax x.steps.length dx,.slice bx x.links.length fx] 64))(hx:(qaf (qa3 A) 2 w (.slice ax x.steps.length dx) x.steps∧qaf qbe 1 w (.slice bx x.links.length fx) x.links))(ox:ok x)(hl:qaf (qct A) 2 w v l)(ol:∀y∈l,ok y):
 Calls Tryz.prog 173 #[v,.func (.func 142) #[] #[.pointer (some ⟨M3,0,none⟩),.pointer (some ⟨M7,0,none⟩)]] w fun e w'=>((∃k:Nat,e=.returned (.int .i64 k)∧x∈l)∨(e=.returned (.int .i64 (-1))∧x∉l))∧Below w.heap.size w w':=by
 have hlen:=hl.fit;unfold maxLen at hlen;obtain⟨a,c,rfl,-,hcs⟩:=hl;have HR:Hid _:=hcs;have OL:Hid _:=ol;have HCL:Hid (∀(W:World) (vy:Value) (y:Pl.Pth α),Below w.heap.size w W→PthV A W vy y→ok y→Calls Tryz.prog 142 #[vy,.pointer (some ⟨M3,0,none⟩),.pointer (some ⟨M7,0,none⟩)] W fun e w'=>e=.returned (.bool (sm y x))∧Below W.heap.size W w'):=fun W vy y hW hy oy=>cloP_any hA ok hH M3 M7 ax bx dx fx vy x y W (hblk h3 hW) (hblk h7 hW) (⟨hx.1.map fun _ _ _ hq=>hq.on hA hW,hx.2.map fun _ _ _ hq=>qab hW hq⟩) hy ox oy
 clear hcs ol h3 h7 hx;go_enter Tryz.func173,Tryz.ntmps173;go_wp2
 go_loopw [8] (fun i wr=>∃k:Nat,k≤l.length∧i=.int .i64 k∧Hid (x∉l.take k)∧Hid (Below w.heap.size w wr)) (fun i _=>l.length-(intOf i).toNat)
 case atStart=>exact⟨0,Nat.zero_le _,rfl,by simp[Hid],Below.refl _ _⟩
 case round=>
  obtain⟨k,hk,rfl,HT,HB⟩:=hrel
  by_cases hlt:k<l.length
  ·rcases HR.out with h0|⟨b,o,rfl,hc⟩
   ·subst h0;simp at hlt
   have hat:=(hc k hlt).on hA HB.out;have oy:=OL.out l[k] (List.getElem_mem hlt);have HY:Hid (l[k]=x→x∈l):=fun e=>by rw[←e];exact List.getElem_mem hlt
   have HN:Hid (l[k]≠x→x∉l.take (k+1)):=fun e h=>by
    rw[List.take_succ_eq_append_getElem hlt]at h
    rcases List.mem_append.1 h with h|h
    ·exact HT.out h
    ·exact e (List.mem_singleton.1 h).symm
   have i1:(0:Int)≤(k:Int):=by omega
   have i2:(k:Int)<(l.length:Int):=by omega
   clear hc;generalize l[k]=y at *;obtain⟨vy,uy,n0,n1,hm1,hm2⟩:=hat;obtain⟨ay,dy,rfl⟩:=hm1.form;obtain⟨by_,fy,rfl⟩:=hm2.form;have hm:=And.intro hm1 hm2;have HC:=HCL.out wr (.agg #[.slice ay y.steps.length dy,.slice by_ y.links.length fy]) y HB.out ⟨_,_,rfl,hm.1,hm.2⟩ oy;have HCC:Hid (Calls Tryz.prog 142 _ _ _):=HC;clear HC hm oy hm1 hm2
   cases hq:sm y x with
   | true=>
    rw[hq]at HCC;have HM:Hid (x∈l):=HY.out (qcu hq);clear hq
    go_wp2_with fail
    refine HCC.out.mono ?_;rintro e w2 ⟨rfl,hb2⟩;have HB2:Hid (Below w.heap.size w w2):=qaa HB.out hb2;clear hb2;go_wp2;go_ret;exact⟨Or.inl ⟨k,rfl,HM.out⟩,HB2.out⟩
   | false=>
    rw[hq]at HCC;have HN2:Hid (x∉l.take (k+1)):=HN.out (qbW hq);clear hq
    go_wp2_with fail
    refine HCC.out.mono ?_;rintro e w2 ⟨rfl,hb2⟩;have HB2:Hid (Below w.heap.size w w2):=qaa HB.out hb2;clear hb2;go_wp2;exact⟨⟨k+1,hlt,by go_num,HN2,HB2⟩,by simp[intOf];omega⟩
  ·have HM:Hid (x∉l):=by
    have:=HT.out;rw[List.take_of_length_le (by omega)]at this;exact this
   go_wp2;go_ret;exact⟨Or.inr ⟨rfl,HM.out⟩,HB.out⟩
theorem qhk (M3 M7:Nat)(ax bx:Option Addr)(dx fx:Nat)(x:Pl.Pth α)(v:Value)(l:List (Pl.Pth α))(w:World)(h3:w.heap[M3]? =some (.cells #[.func (.func 108) #[] #[]] 99))(h7:w.heap[M7]? =some (.cells #[.slice ax x.steps.length dx,.slice bx x.links.length fx] 64))(hx:(qaf (qa3 A) 2 w (.slice ax x.steps.length dx) x.steps∧qaf qbe 1 w (.slice bx x.links.length fx) x.links))(ox:ok x)(hl:qaf (qct A) 2 w v l)(ol:∀y∈l,ok y):
 Calls Tryz.prog 141 #[v,.func (.func 142) #[] #[.pointer (some ⟨M3,0,none⟩),.pointer (some ⟨M7,0,none⟩)]] w fun e w'=>((e=.returned (.bool true)∧x∈l)∨(e=.returned (.bool false)∧x∉l))∧Below w.heap.size w w':=by
 have HC:Hid (Calls Tryz.prog 173 _ _ _):=indexP_any hA ok hH M3 M7 ax bx dx fx x v l w h3 h7 hx ox hl ol;obtain⟨a,c,rfl⟩:=hl.form;clear h3 h7 hx hl ol;go_enter Tryz.func141,Tryz.ntmps141
 go_wp2_with fail
 refine HC.out.mono ?_;rintro e w2 ⟨⟨k,rfl,hm⟩|⟨rfl,hm⟩,hb2⟩
 ·have HM:Hid (x∈l):=hm;have HB2:Hid (Below w.heap.size w w2):=hb2;have i1:(0:Int)≤(k:Int):=by omega
  clear hb2 hm HC;go_wp2;go_ret;exact⟨Or.inl ⟨rfl,HM.out⟩,HB2.out⟩
 ·have HM:Hid (x∉l):=hm;have HB2:Hid (Below w.heap.size w w2):=hb2;clear hb2 hm HC;go_wp2;go_ret;exact⟨Or.inr ⟨rfl,HM.out⟩,HB2.out⟩
end
theorem qg9 {γ δ:Type}{E:World→Nat→Nat→γ→Prop}{E':World→Nat→Nat→δ→Prop}{k:Nat}{w:World}{v:Value}{l:List γ}(g:γ→δ)(h:qaf E k w v l)(he:∀b o x,x∈l→E w b o x→E' w b o (g x)):qaf E' k w v (l.map g):=by
 obtain⟨a,c,rfl,h1,h2⟩:=h;refine⟨a,c,by rw[List.length_map],by rw[List.length_map];exact h1,?_⟩
 rcases h2 with rfl|⟨b,o,rfl,hc⟩
 ·exact Or.inl rfl
 ·refine Or.inr ⟨b,o,rfl,fun i hi=>?_⟩;rw[List.getElem_map];exact he _ _ _ (List.getElem_mem _) (hc i (by simpa using hi))
def LiftM {α:Type}(A:MemL α)(W0:List α→Prop)(lift:List α→List (Pl.Pth α)):Prop:=∀(W:World) (v:Value) (l:List α),A W v l→W0 l→qbp A W v (lift l)
theorem liftM_0:LiftM ZAt Pl.L0.W Pl.qfy:=fun W v l h hw=>by
 obtain⟨a,c,rfl,h1,h2⟩:=h;have hw:l=[]:=hw;subst hw;exact⟨a,c,rfl,⟨by simp[Pl.qfy],h2⟩,Or.inl rfl⟩
section
variable {α:Type} {A:MemL α} {W0:List α→Prop} {lift:List α→List (Pl.Pth α)}
theorem liftT (h:LiftM A W0 lift){W:World}{v:Value}{ts:List (Pl.Tst α)}(ht:qaf (qaF A) 6 W v ts)(hw:∀t∈ts,W0 t.list):qaf (qaF (qbp A)) 6 W v (ts.map (trT lift)):=by
 refine qg9 _ ht fun b o t hm ht=>?_
 obtain⟨x,t0,t1,t2,t3,t4,t5,t6⟩:=ht;exact⟨x,t0,t1,t2,t3,t4,t5,h _ _ _ t6 (hw t hm)⟩
theorem liftM_up (h:LiftM A W0 lift):LiftM (qbp A) (Pl.okL W0) (trL lift):=fun W v l hl hw=>by
 refine qg9 (trP lift) hl fun b o p hm hp=>?_
 obtain⟨v,u,h0,h1,h2,h3⟩:=hp;refine⟨v,u,h0,h1,qg9 (trS lift) h2 fun b o s hs hst=>?_,h3⟩;obtain⟨v,g0,g1,g2⟩:=hst;exact⟨v,g0,g1,liftT h g2 (((hw.2 p hm).2.2.2 s hs).2)⟩
end
theorem liftM_1:LiftM A1 Pl.L1.W Pl.lift1:=liftM_up liftM_0
def qdX {α:Type}(A:MemL α)(only:Option (Pl.Stp α))(Q:Nat→Bool)(w:World)(e:Ending)(w':World):Prop:=
 ((only=none∧e=.returned (.tuple #[.agg #[.string ⟨#[]⟩,.slice none 0 0],.bool false]))∨(∃s a c,only=some s∧e=.returned (.tuple #[.agg #[.string ⟨s.tag.toArray⟩,.slice a s.tests.length c],.bool true])∧qaf (qaF A) 6 (mask Q w) (.slice a s.tests.length c) s.tests))∧Below w.heap.size w w'
def OnlyC {α:Type}(A:MemL α)(L:Pl.Lev α):Prop:=∀(w:World) (Q:Nat→Bool) (v:Value) (l:List α),A (mask Q w) v l→L.W l→Calls Tryz.prog 199 #[v] w (qdX A (L.only l) Q w)
theorem b41 {W:World}{M:Nat}{v0 v1:Value}(h:W.heap[M]? =some (.cells #[v0,v1] 67))(u0 u1:Value):((W.setCell ⟨M,0,none⟩ u0).setCell ⟨M,1,none⟩ u1).heap[M]? =some (.cells #[u0,u1] 67):=by
 simp[World.setCell,Array.getElem?_modify,h]
theorem qcd {W:World}{M:Nat}{v0 v1:Value}(h:W.heap[M]? =some (.cells #[v0,v1] 67)):W.cell? ⟨M,0,none⟩=some v0∧W.cell? ⟨M,1,none⟩=some v1∧W.frozen? ⟨M,0,none⟩=false∧W.frozen? ⟨M,1,none⟩=false:=by
 refine⟨?_,?_,?_,?_⟩<;>simp[World.cell?,World.frozen?,h]
theorem only_no (a:Option Addr)(n c:Nat)(w:World)(hn:n≠1):Calls Tryz.prog 199 #[.slice a n c] w fun e w'=>e=.returned (.tuple #[.agg #[.string ⟨#[]⟩,.slice none 0 0],.bool false])∧Below w.heap.size w w':=by
 have r1:((n:Int) !=1)=true:=by simp;omega
 have HB:Hid (Below w.heap.size w (w.alloc (.cells #[.string ⟨#[]⟩,.slice none 0 0] 67))):=qac w _;go_enter Tryz.func199,Tryz.ntmps199;go_wp2;exact bodyPost_ret (v:=.tuple #[.agg #[.string ⟨#[]⟩,.slice none 0 0],.bool false]) (by simp[results,Tryz.results199,go_sem]) rfl ⟨rfl,HB.out⟩
theorem qie (b o c:Nat)(as_:Option Addr)(n cs:Nat)(w:World)(hc:w.cell? ⟨b,o,none⟩=some (.slice as_ n cs))(hn:n≠1):Calls Tryz.prog 199 #[.slice (some ⟨b,o,none⟩) 1 c] w fun e w'=>e=.returned (.tuple #[.agg #[.string ⟨#[]⟩,.slice none 0 0],.bool false])∧Below w.heap.size w w':=by
 have r1:((n:Int) !=1)=true:=by simp;omega
 have HB:Hid (Below w.heap.size w (w.alloc (.cells #[.string ⟨#[]⟩,.slice none 0 0] 67))):=qac w _;have c1:=qab (qac w (.cells #[.string ⟨#[]⟩,.slice none 0 0] 67)) hc;clear hc;go_enter Tryz.func199,Tryz.ntmps199;go_wp2;exact bodyPost_ret (v:=.tuple #[.agg #[.string ⟨#[]⟩,.slice none 0 0],.bool false]) (by simp[results,Tryz.results199,go_sem]) rfl ⟨rfl,HB.out⟩
theorem only_yes (b o c b2 o2 cs:Nat)(tag:ByteArray)(at_:Option Addr)(nt ct:Nat)(w:World)(hc:w.cell? ⟨b,o,none⟩=some (.slice (some ⟨b2,o2,none⟩) 1 cs))(h0:w.cell? ⟨b2,o2,none⟩=some (.string tag))(h1:w.cell? ⟨b2,o2+1,none⟩=some (.slice at_ nt ct)):
 Calls Tryz.prog 199 #[.slice (some ⟨b,o,none⟩) 1 c] w fun e w'=>e=.returned (.tuple #[.agg #[.string tag,.slice at_ nt ct],.bool true])∧Below w.heap.size w w':=by
 have hb:=qac w (.cells #[.string ⟨#[]⟩,.slice none 0 0] 67);have c1:=qab hb hc;have c2:=qab hb h0;have c3:=qab hb h1;have HB:Hid (Below w.heap.size w (w.alloc (.cells #[.string tag,.slice at_ nt ct] 67))):=qac w _;clear hc h0 h1 hb;go_enter Tryz.func199,Tryz.ntmps199;go_wp2;exact bodyPost_ret (v:=.tuple #[.agg #[.string tag,.slice at_ nt ct],.bool true]) (by simp[results,Tryz.results199,go_sem]) rfl ⟨rfl,HB.out⟩
theorem onlyC_0:OnlyC ZAt Pl.L0:=fun w Q v l h hw=>by
 have hw:l=[]:=hw;subst hw;obtain⟨a,c,rfl,-⟩:=h;refine(only_no a 0 c w (by decide)).mono ?_;rintro e w' ⟨rfl,hb⟩;exact⟨Or.inl ⟨rfl,rfl⟩,hb⟩
def qcx {α:Type}(s:Pl.Stp α):Bool:=(Pl.qch s).isSome
theorem qil {α:Type}{A:MemL α}(hA:IsL A)(a:Option Addr)(c:Nat)(s:Pl.Stp α)(w:World)(hl:qaf (qaF A) 6 w (.slice a s.tests.length c) s.tests):
 Calls Tryz.prog 200 #[.agg #[.string ⟨s.tag.toArray⟩,.slice a s.tests.length c]] w fun e w'=>e=.returned (.bool (qcx s))∧Below w.heap.size w w':=by
 have HB:Hid (Below w.heap.size w (w.alloc (.cells #[.string ⟨s.tag.toArray⟩,.slice a s.tests.length c] 67))):=qac w _;obtain⟨tag,ts⟩:=s;dsimp only at *
 by_cases ht:tag=[]
 ·subst ht;obtain⟨a',c',e',-,hcs⟩:=hl;injection e' with e1 _ e3;subst e1 e3
  match ts,hcs with
  | [],_=>
   have HS:Hid (qcx (⟨[],[]⟩:Pl.Stp α)=false):=rfl;go_enter Tryz.func200,Tryz.ntmps200;go_wp2;go_ret;exact⟨by rw[HS.out];rfl,HB.out⟩
  | t::t2::r,hx=>
   clear hx hcs;have HS:Hid (qcx (⟨[],t::t2::r⟩:Pl.Stp α)=false):=rfl;have r1:(((t::t2::r).length:Int)==1)=false:=by simp;omega
   generalize (t::t2::r).length=n at *;go_enter Tryz.func200,Tryz.ntmps200;go_wp2;go_ret;exact⟨by rw[HS.out];rfl,HB.out⟩
  | [t],hcs=>
   rcases hcs with h0|⟨b,o,rfl,hc⟩
   ·cases h0
   obtain⟨vv,n0,-⟩:=(hc 0 (by simp)).on hA HB.out;simp only[Nat.zero_mul,Nat.add_zero]at n0;have n1:(w.alloc (.cells #[.string ⟨#[]⟩,.slice (some ⟨b,o,none⟩) 1 c] 67)).cell? ⟨b,o,none⟩=some (.int .i64 t.kind):=n0;clear hc n0
   by_cases hk:t.kind=13
   ·have HS:Hid (qcx (⟨[],[t]⟩:Pl.Stp α)=true):=by
     unfold Hid qcx Pl.qch;simp[hk]
    rw[hk]at n1;clear hk;go_enter Tryz.func200,Tryz.ntmps200;go_wp2;go_ret;exact⟨by rw[HS.out];rfl,HB.out⟩
   ·have HS:Hid (qcx (⟨[],[t]⟩:Pl.Stp α)=false):=by
     unfold Hid qcx Pl.qch;simp[hk]
    have r1:(t.kind==13)=false:=by simpa using hk
    go_enter Tryz.func200,Tryz.ntmps200;go_wp2;go_ret;exact⟨by rw[HS.out];rfl,HB.out⟩
 ·have HS:Hid (qcx (⟨tag,ts⟩:Pl.Stp α)=false):=by
   unfold Hid qcx Pl.qch;dsimp only
   split
   ·simp[ht]
   ·rfl
  have r1:tag.isEmpty=false:=by
   cases tag with
   | nil=>exact absurd rfl ht
   | cons=>rfl
  clear ht hl;go_enter Tryz.func200,Tryz.ntmps200;go_wp2;go_ret;exact⟨by rw[HS.out];rfl,HB.out⟩
theorem qcX (t1 t2:List UInt8)(a1 a2:Option Addr)(n1 c1 n2 c2:Nat)(w:World):
 Calls Tryz.prog 201 #[.agg #[.string ⟨t1.toArray⟩,.slice a1 n1 c1],.agg #[.string ⟨t2.toArray⟩,.slice a2 n2 c2]] w fun e w'=>e=.returned (.bool (Pl.together t1 t2))∧Below w.heap.size w w':=by
 have HB:Hid (Below w.heap.size w ((w.alloc (.cells #[.string ⟨t1.toArray⟩,.slice a1 n1 c1] 67)).alloc (.cells #[.string ⟨t2.toArray⟩,.slice a2 n2 c2] 67))):=((Below.refl _ w).alloc (Nat.le_refl _) _).alloc (by simp) _
 cases h1:t1.isEmpty with
 | true=>
  have HS:Hid (Pl.together t1 t2=true):=by unfold Hid Pl.together;rw[h1];rfl
  go_enter Tryz.func201,Tryz.ntmps201;go_wp2;go_ret;exact⟨by rw[HS.out];rfl,HB.out⟩
 | false=>
  cases h2:t2.isEmpty with
  | true=>
   have HS:Hid (Pl.together t1 t2=true):=by unfold Hid Pl.together;rw[h1,h2];rfl
   go_enter Tryz.func201,Tryz.ntmps201;go_wp2;go_ret;exact⟨by rw[HS.out];rfl,HB.out⟩
  | false=>
   cases h3:(t1==t2) with
   | true=>
    have HS:Hid (Pl.together t1 t2=true):=by unfold Hid Pl.together;rw[h1,h2,h3];rfl
    go_enter Tryz.func201,Tryz.ntmps201;go_wp2;go_ret;exact⟨by rw[HS.out];rfl,HB.out⟩
   | false=>
    have HS:Hid (Pl.together t1 t2=false):=by unfold Hid Pl.together;rw[h1,h2,h3];rfl
    go_enter Tryz.func201,Tryz.ntmps201;go_wp2;go_ret;exact⟨by rw[HS.out];rfl,HB.out⟩
theorem Grow.app {β:Type}{P:Nat→Bool}{B:Nat}{e:TypeId}{k:Nat}{V:World→List Value→β→Prop}{E:World→Nat→Nat→β→Prop}(hV:IsV k V E){w w':World}{v:Value}{l ms:List β}{xs news:List Value}{g cap:Nat}(hPo:∀g,v.ownBlock=some g→P g=true)(hPH:P w.heap.size=true)
 (hown:w.ownsRow B e k v l.length xs) (hold:∀i (h:i<l.length),V (mask (Off P v) w) ((xs.drop (i*k)).take k) l[i])
 (hrow:w'.ownsRow B e k (.slice (some ⟨g,0,none⟩) (l.length+ms.length) cap) (l.length+ms.length) (xs++news)) (hg:w.grownBy w' v.ownBlock) (hat:v.ownBlock=some g∨g=w.heap.size) (hnew:∀i (h:i<ms.length),V (mask (Off P v) w) ((news.drop (i*k)).take k) ms[i]):Grow P B e k V w' (.slice (some ⟨g,0,none⟩) (l.length+ms.length) cap) (l++ms):=by
 have hxl:xs.length=l.length*k:=hown.1
 have hin:∀{c:List Value} {x:β},V (mask (Off P v) w) c x→V (mask (Off P (.slice (some ⟨g,0,none⟩) (l.length+ms.length) cap)) w') c x:=fun h=>by
  refine hV.sub h (qam fun j hj hjw=>?_);unfold Off at hj ⊢;rw[Bool.and_eq_true]at hj ⊢;refine⟨⟨hj.1,?_⟩,?_⟩
  ·rcases hat with h|h
   ·rw[h]at hj
    simpa [Value.ownBlock] using hj.2
   ·subst h;simp[Value.ownBlock];omega
  ·exact hg.block j hjw (by
    intro h;rw[←h]at hj
    simp at hj)
 have hlen1:(l++ms).length=l.length+ms.length:=by simp
 refine⟨xs++news,by rw[hlen1];exact hrow,fun g' hg'=>?_,fun i hi=>hin ?_⟩
 ·simp[Value.ownBlock]at hg';subst hg'
  rcases hat with h|h
  ·exact hPo _ h
  ·rw[h];exact hPH
 ·rcases Nat.lt_or_ge i l.length with hlt|hge
  ·have e1:(l++ms)[i]=l[i]:=List.getElem_append_left hlt;rw[e1]
   have e2:((xs++news).drop (i*k)).take k=(xs.drop (i*k)).take k:=by
    have:(i+1)*k≤l.length*k:=Nat.mul_le_mul_right k hlt;rw[Nat.succ_mul]at this;rw[List.drop_append_of_le_length (by omega),List.take_append_of_le_length (by simp;omega)]
   rw[e2];exact hold i hlt
  ·have hi2:i-l.length<ms.length:=by rw[hlen1]at hi;omega
   have e1:(l++ms)[i]=ms[i-l.length]:=List.getElem_append_right hge;rw[e1]
   have e2:(xs++news).drop (i*k)=news.drop ((i-l.length)*k):=by
    have e3:i*k=xs.length+(i-l.length)*k:=by
     rw[hxl,←Nat.add_mul]
     congr 1
     omega
    rw[e3,List.drop_append];simp
   rw[e2];exact hnew _ hi2
theorem cellsT {α:Type}{A:MemL α}(hA:IsL A){W:World}{b o:Nat}{ms:List (Pl.Tst α)}(hc:∀i (h:i<ms.length),qaF A W b (o+i*6) ms[i]):∃news:List Value,news.length=ms.length*6∧(∀(j:Nat) u,news[j]? =some u→W.cell? ⟨b,o+j,none⟩=some u)∧(∀u∈news,u.oneCell'=true)∧∀i (h:i<ms.length),VT A W ((news.drop (i*6)).take 6) ms[i]:=by
 have hcell:∀j,j<ms.length*6→∃u,W.cell? ⟨b,o+j,none⟩=some u∧u.oneCell'=true:=by
  intro j hj;obtain⟨q,r,rfl,h6⟩:∃q r,j=q*6+r∧r<6:=⟨j / 6,j % 6,by omega,Nat.mod_lt _ (by decide)⟩
  obtain⟨vv,n0,n1,n2,n3,n4,n5,hm⟩:=hc q (by omega);obtain⟨ay,dy,rfl,-⟩:=hA.form hm;rw[←Nat.add_assoc]
  match r,h6 with
  | 0,_=>exact⟨_,n0,rfl⟩
  | 1,_=>exact⟨_,n1,rfl⟩
  | 2,_=>exact⟨_,n2,rfl⟩
  | 3,_=>exact⟨_,n3,rfl⟩
  | 4,_=>exact⟨_,n4,rfl⟩
  | 5,_=>exact⟨_,n5,rfl⟩
 have hget:∀j,j<ms.length*6→∀u,W.cell? ⟨b,o+j,none⟩=some u→((List.range (ms.length*6)).map fun j=>(W.cell? ⟨b,o+j,none⟩).getD undef)[j]? =some u:=by
  intro j hj u hu;rw[List.getElem?_map,List.getElem?_range hj];simp[hu]
 refine⟨(List.range (ms.length*6)).map fun j=>(W.cell? ⟨b,o+j,none⟩).getD undef,by simp,?_,?_,?_⟩
 ·intro j u hj
  have hlt:j<ms.length*6:=by
   have:=(List.getElem?_eq_some_iff.1 hj).1
   simpa using this
  obtain⟨u',hu,-⟩:=hcell j hlt;rw[hget j hlt u' hu]at hj
  cases hj
  exact hu
 ·intro u hu;obtain⟨j,hj,rfl⟩:=List.mem_map.1 hu;obtain⟨u',hu',h1⟩:=hcell j (by simpa using hj);rw[hu'];exact h1
 ·intro i hi;obtain⟨vv,n0,n1,n2,n3,n4,n5,hm⟩:=hc i hi;refine⟨vv,?_,hm⟩
  have g:∀r,r<6→∀u,W.cell? ⟨b,o+i*6+r,none⟩=some u→(((List.range (ms.length*6)).map fun j=>(W.cell? ⟨b,o+j,none⟩).getD undef).drop (i*6))[r]? =some u:=by
   intro r hr u hu;rw[List.getElem?_drop];refine hget _ (by omega) u ?_;rw[←Nat.add_assoc];exact hu
  have q0:=g 0 (by omega) _ n0;have q1:=g 1 (by omega) _ n1;have q2:=g 2 (by omega) _ n2;have q3:=g 3 (by omega) _ n3;have q4:=g 4 (by omega) _ n4;have q5:=g 5 (by omega) _ n5;generalize ((List.range (ms.length*6)).map fun j=>(W.cell? ⟨b,o+j,none⟩).getD undef).drop (i*6)=L at *
  match L,q0,q1,q2,q3,q4,q5 with
  | x0::x1::x2::x3::x4::x5::r,q0,q1,q2,q3,q4,q5=>
   simp only[List.getElem?_cons_zero,List.getElem?_cons_succ,Option.some.injEq]at q0 q1 q2 q3 q4 q5;subst q0 q1 q2 q3 q4 q5;rfl
structure FrA (B M:Nat)(w w':World):Prop where
 os:w'.os=w.os
 tape:w'.tape=w.tape
 output:w'.output=w.output
 size:w.heap.size≤w'.heap.size
 blk:∀k,k<B→k≠M→w'.heap[k]? =w.heap[k]?
theorem FrA.refl (B M:Nat)(w:World):FrA B M w w:=⟨rfl,rfl,rfl,Nat.le_refl _,fun _ _ _=>rfl⟩
theorem FrA.trans {B M:Nat}{w w1 w2:World}(h:FrA B M w w1)(h2:FrA B M w1 w2):FrA B M w w2:=⟨h2.os.trans h.os,h2.tape.trans h.tape,h2.output.trans h.output,Nat.le_trans h.size h2.size,fun k hk hne=>(h2.blk k hk hne).trans (h.blk k hk hne)⟩
theorem FrA.below {B M:Nat}{w w1:World}(hb:Below w.heap.size w w1)(hB:B≤w.heap.size):FrA B M w w1:=⟨hb.os,hb.tape,hb.output,hb.size,fun k hk _=>hb.block k (by omega)⟩
theorem FrA.grown {B M:Nat}{w w1:World}{r:Option Nat}(hg:w.grownBy w1 r)(hB:B≤w.heap.size)(hr:∀g,r=some g→B≤g):FrA B M w w1:=⟨hg.os,hg.tape,hg.output,hg.size,fun k hk _=>hg.block k (by omega) (fun e=>by have:=hr k e.symm;omega)⟩
theorem FrA.drew {B M:Nat}{w w1:World}(h:FrA B M w w1):FrA B M w w1.drew:=⟨h.os,h.tape,h.output,h.size,h.blk⟩
theorem FrA.set {B M:Nat}{w w1:World}(h:FrA B M w w1)(i:Nat)(v:Value):FrA B M w (w1.setCell ⟨M,i,none⟩ v):=⟨h.os,h.tape,h.output,by simpa [World.setCell] using h.size,fun k hk hne=>(Below.heap_setCell _ _ _ _ (by exact hne)).trans (h.blk k hk hne)⟩
structure Made {α:Type}(A:MemL α)(B M:Nat)(w:World)(tp:Pl.Stp α)(u:Value):Prop where
 box:w.heap[M]? =some (.cells #[.string ⟨tp.tag.toArray⟩,u] 67)
 row:Grow (frm B) B 71 6 (VT A) w u tp.tests
 lt:M<B
 sz:B≤w.heap.size
theorem Made.on {α:Type}{A:MemL α}(hS:qaK A){B M:Nat}{w w':World}{tp:Pl.Stp α}{u:Value}(h:Made A B M w tp u)(hb:Below w.heap.size w w'):Made A B M w' tp u:=
 ⟨hblk h.box hb,h.row.move (qba hS) fun j hj hjw=>⟨hj,hb.block j hjw⟩,h.lt,Nat.le_trans h.sz hb.size⟩
theorem Made.drew {α:Type}{A:MemL α}(hS:qaK A){B M:Nat}{w:World}{tp:Pl.Stp α}{u:Value}(h:Made A B M w tp u):Made A B M w.drew tp u:=
 ⟨h.box,h.row.move (qba hS) fun _ hj _=>⟨hj,rfl⟩,h.lt,h.sz⟩
theorem Grow.apart {α:Type}{A:MemL α}(hS:qaK A){B M i:Nat}{w:World}{v x:Value}{l:List (Pl.Tst α)}(h:Grow (frm B) B 71 6 (VT A) w v l)(hM:M<B):Grow (frm B) B 71 6 (VT A) (w.setCell ⟨M,i,none⟩ x) v l:=
 h.move (qba hS) fun j hj _=>⟨hj,Below.heap_setCell _ _ _ _ (by
  have:B≤j:=by simpa [frm] using hj
  show j≠M
  omega)⟩
theorem qge {W:World}{M:Nat}{v0 v1:Value}(h:W.heap[M]? =some (.cells #[v0,v1] 67))(u:Value):(W.setCell ⟨M,1,none⟩ u).heap[M]? =some (.cells #[v0,u] 67):=by
 simp[World.setCell,Array.getElem?_modify,h]
theorem set41_0 {W:World}{M:Nat}{v0 v1:Value}(h:W.heap[M]? =some (.cells #[v0,v1] 67))(u:Value):(W.setCell ⟨M,0,none⟩ u).heap[M]? =some (.cells #[u,v1] 67):=by
 simp[World.setCell,Array.getElem?_modify,h]
end Go.Proofs.YtephhllfodlfbaaGreatDoor
