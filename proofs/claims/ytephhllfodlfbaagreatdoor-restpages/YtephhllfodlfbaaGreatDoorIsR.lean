/-
  Names that rise: asked of texts, and of attributes.
-/
import Derived.Test.YtephhllfodlfbaaGreatDoorIdxP
import Derived.BigQuiet
import Derived.Deep.QuietTactic
import Derived.Deep.RegionHeld3
set_option maxRecDepth 100000
set_option maxHeartbeats 16000000
namespace Go.Proofs.YtephhllfodlfbaaGreatDoor
open Go.RowKit
theorem qfE (l:List UInt8)(w:World):
 Calls Tryz.prog 102 #[.string ⟨l.toArray⟩] w fun e w'=>e=.returned (.string ⟨l.toArray⟩)∧w'=w:=by
 go_enter Tryz.func102,Tryz.ntmps102;go_wp2;go_ret;exact⟨rfl,rfl⟩
theorem below_drewN {B:Nat}{w w':World}(h:Below B w w')(n:Nat):Below B w (w'.drewN n):=⟨h.os,h.tape,h.output,h.size,h.block⟩
theorem qiF (ss:List (List UInt8))(j:Nat)(h:j+1<ss.length)(hle:Op.bytesLess ss[j] ss[j+1]=true):Pl.rise (ss.drop j)=Pl.rise (ss.drop (j+1)):=by
 rw[List.drop_eq_getElem_cons (i:=j) (by omega),List.drop_eq_getElem_cons (i:=j+1) h];simp[Pl.rise,hle]
theorem qhP (ss:List (List UInt8))(j:Nat)(h:j+1<ss.length)(hle:Op.bytesLess ss[j] ss[j+1]=false):Pl.rise (ss.drop j)=false:=by
 rw[List.drop_eq_getElem_cons (i:=j) (by omega),List.drop_eq_getElem_cons (i:=j+1) h];simp[Pl.rise,hle]
theorem rise_end (ss:List (List UInt8))(j:Nat)(h:¬j+1<ss.length):Pl.rise (ss.drop j)=true:=by
 have hl:(ss.drop j).length≤1:=by simp;omega
 cases hd:ss.drop j with
 | nil=>rfl
 | cons x r=>
  rw[hd]at hl;have:r=[]:=by cases r with|nil=>rfl|cons=>simp at hl
  rw[this];rfl
theorem qg0 (a:Option Addr)(cap:Nat)(w:World):
 Calls Tryz.prog 137 #[.slice a 0 cap,.func (.func 102) #[] #[]] w fun e w'=>e=.returned (.bool (Pl.rise []))∧Below w.heap.size w w':=by
 go_enter Tryz.func137,Tryz.ntmps137;go_wp2;refine wp_loop_rounds 1 ?_;rw[rounds_succ];go_wp2;go_ret;exact⟨rfl,Below.refl _ _⟩
theorem riseS_some (b o cap:Nat)(ss:List (List UInt8))(w:World)(hlen:ss.length≤6)(hc:∀i (h:i<ss.length),w.cell? ⟨b,o+i,none⟩=some (.string ⟨ss[i].toArray⟩)):
 Calls Tryz.prog 137 #[.slice (some ⟨b,o,none⟩) ss.length cap,.func (.func 102) #[] #[]] w fun e w'=>e=.returned (.bool (Pl.rise ss))∧Below w.heap.size w w':=by
 have HC:Hid _:=hc;clear hc;go_enter Tryz.func137,Tryz.ntmps137;go_wp2
 go_loopw [5] (fun i wr=>∃j:Nat,i=.int .i64 ((j:Int)+1)∧Hid (Pl.rise ss=Pl.rise (ss.drop j))∧Below w.heap.size w wr) (fun i _=>ss.length-(intOf i).toNat)
 case atStart=>exact⟨0,rfl,by simp[Hid],Below.refl _ _⟩
 case round=>
  obtain⟨j,rfl,hd,hB⟩:=hrel
  by_cases hlt:j+1<ss.length
  ·have c0:wr.cell? ⟨b,o+j,none⟩=some (.string ⟨ss[j].toArray⟩):=qab hB (HC.out j (by omega));have c1:wr.cell? ⟨b,o+(j+1),none⟩=some (.string ⟨ss[j+1].toArray⟩):=qab hB (HC.out (j+1) hlt);have i1:(0:Int)≤(j:Int):=by omega
   have i2:(j:Int)<(ss.length:Int):=by omega
   have i3:(j:Int)+1<(ss.length:Int):=by omega
   cases hle:Op.bytesLess ss[j] ss[j+1] with
   | true=>
    go_wp2
    go_quiet ((go_at_call 102;exact Calls.quiet_of_same (qfE _ _)))
    go_wp2;refine⟨⟨j+1,by go_num,?_,below_drewN hB _⟩,by simp[intOf];omega⟩;exact hd.out.trans (qiF ss j hlt hle)
   | false=>
    have HF:Hid (Pl.rise ss=false):=hd.out.trans (qhP ss j hlt hle);go_wp2
    go_quiet ((go_at_call 102;exact Calls.quiet_of_same (qfE _ _)))
    go_wp2;go_ret;exact⟨by rw[HF.out];rfl,below_drewN hB _⟩
  ·have HF:Hid (Pl.rise ss=true):=hd.out.trans (rise_end ss j hlt);go_wp2;go_ret;exact⟨by rw[HF.out];rfl,hB⟩
theorem riseS_any (v:Value)(ss:List (List UInt8))(w:World)(hlen:ss.length≤6)(hs:qa1 w v ss):
 Calls Tryz.prog 137 #[v,.func (.func 102) #[] #[]] w fun e w'=>e=.returned (.bool (Pl.rise ss))∧Below w.heap.size w w':=by
 obtain⟨a,cap,rfl,h⟩:=hs
 rcases h with rfl|⟨b,o,rfl,hc⟩
 ·exact qg0 a cap w
 ·exact riseS_some b o cap ss w hlen hc
theorem qd1 (n v:List UInt8)(w:World):
 Calls Tryz.prog 104 #[.agg #[.string ⟨n.toArray⟩,.string ⟨v.toArray⟩]] w fun e w'=>e=.returned (.string ⟨n.toArray⟩)∧Below w.heap.size w w':=by
 go_enter Tryz.func104,Tryz.ntmps104;go_wp2;go_ret;exact⟨rfl,qac w _⟩
theorem four_on {w wr w':World}{b p0 p1 p2 p3:Nat}{v0 v1 v2 v3:Value}(h:wr.cell? ⟨b,p0,none⟩=some v0∧wr.cell? ⟨b,p1,none⟩=some v1∧wr.cell? ⟨b,p2,none⟩=some v2∧wr.cell? ⟨b,p3,none⟩=some v3∧Below w.heap.size w wr)
 (hb:Below wr.heap.size wr w'):w'.cell? ⟨b,p0,none⟩=some v0∧w'.cell? ⟨b,p1,none⟩=some v1∧w'.cell? ⟨b,p2,none⟩=some v2∧w'.cell? ⟨b,p3,none⟩=some v3∧Below w.heap.size w w':=
 ⟨qab hb h.1,qab hb h.2.1,qab hb h.2.2.1,qab hb h.2.2.2.1,qaa h.2.2.2.2 hb⟩
theorem qgB {w wr:World}{b p0 p1 p2 p3:Nat}{v0 v1 v2 v3:Value}(h:wr.cell? ⟨b,p0,none⟩=some v0∧wr.cell? ⟨b,p1,none⟩=some v1∧wr.cell? ⟨b,p2,none⟩=some v2∧wr.cell? ⟨b,p3,none⟩=some v3∧Below w.heap.size w wr):Below w.heap.size w wr:=h.2.2.2.2
theorem riseA_some (b o cap:Nat)(ss:List (List UInt8×List UInt8))(w:World)(hlen:ss.length≤4)
 (hc:∀i (h:i<ss.length),w.cell? ⟨b,o+i*2,none⟩=some (.string ⟨ss[i].1.toArray⟩)∧w.cell? ⟨b,o+i*2+1,none⟩=some (.string ⟨ss[i].2.toArray⟩)):
 Calls Tryz.prog 138 #[.slice (some ⟨b,o,none⟩) ss.length cap,.func (.func 104) #[] #[]] w fun e w'=>e=.returned (.bool (Pl.rise (ss.map (·.1))))∧Below w.heap.size w w':=by
 have HC:Hid _:=hc;clear hc;go_enter Tryz.func138,Tryz.ntmps138;go_wp2
 go_loopw [5] (fun i wr=>∃j:Nat,i=.int .i64 ((j:Int)+1)∧Hid (Pl.rise (ss.map (·.1))=Pl.rise ((ss.map (·.1)).drop j))∧Below w.heap.size w wr) (fun i _=>ss.length-(intOf i).toNat)
 case atStart=>exact⟨0,rfl,by simp[Hid],Below.refl _ _⟩
 case round=>
  obtain⟨j,rfl,hd,hB⟩:=hrel
  by_cases hlt:j+1<ss.length
  ·obtain⟨c0,c1⟩:=HC.out j (by omega);obtain⟨c2,c3⟩:=HC.out (j+1) hlt;replace c0:=qab hB c0;replace c1:=qab hB c1;replace c2:=qab hB c2;replace c3:=qab hB c3;have i1:(0:Int)≤(j:Int):=by omega
   have i2:(j:Int)<(ss.length:Int):=by omega
   have i3:(j:Int)+1<(ss.length:Int):=by omega
   have i4:(0:Int)≤(j:Int)+1:=by omega
   have i5:IntKind.i64.wrap ((j:Int)+1-1)=(j:Int):=by rw[IntWalk.i64_left,IntWalk.wrap64_in _ ⟨by omega,by omega⟩];omega
   have i6:((j:Int)+1).toNat=j+1:=by omega
   have i7:IntKind.i64.wrap (j:Int)=(j:Int):=by rw[IntWalk.i64_left,IntWalk.wrap64_in _ ⟨by omega,by omega⟩]
   cases hle:Op.bytesLess ss[j].1 ss[j+1].1 with
   | true=>
    have HR:Hid (Pl.rise (ss.map (·.1))=Pl.rise ((ss.map (·.1)).drop (j+1))):=hd.out.trans (qiF (ss.map (·.1)) j (by simpa using hlt) (by simpa using hle));have S0:wr.drew.cell? ⟨b,o+j*2,none⟩=some (.string ⟨ss[j].1.toArray⟩)∧wr.drew.cell? ⟨b,o+j*2+1,none⟩=some (.string ⟨ss[j].2.toArray⟩)∧wr.drew.cell? ⟨b,o+(j+1)*2,none⟩=some (.string ⟨ss[j+1].1.toArray⟩)∧wr.drew.cell? ⟨b,o+(j+1)*2+1,none⟩=some (.string ⟨ss[j+1].2.toArray⟩)∧Below w.heap.size w wr.drew:=⟨c0,c1,c2,c3,hB.drew⟩
    clear hd;go_wp2;clear c0 c1 c2 c3
    go_region_held3 (fun w'=>w'.cell? ⟨b,o+j*2,none⟩=some (.string ⟨ss[j].1.toArray⟩)∧w'.cell? ⟨b,o+j*2+1,none⟩=some (.string ⟨ss[j].2.toArray⟩)∧w'.cell? ⟨b,o+(j+1)*2,none⟩=some (.string ⟨ss[j+1].1.toArray⟩)∧w'.cell? ⟨b,o+(j+1)*2+1,none⟩=some (.string ⟨ss[j+1].2.toArray⟩)∧Below w.heap.size w w')
     (first|assumption|exact four_on (by assumption) (by assumption))
     (first|(go_at_call 104;refine(qd1 _ _ _).mono ?_;rintro e w' ⟨rfl,hw⟩))
    go_wp2;exact⟨⟨j+1,by go_num,HR,qgB (by assumption)⟩,by simp[intOf];omega⟩
   | false=>
    have HR:Hid (Pl.rise (ss.map (·.1))=false):=hd.out.trans (qhP (ss.map (·.1)) j (by simpa using hlt) (by simpa using hle));have S0:wr.drew.cell? ⟨b,o+j*2,none⟩=some (.string ⟨ss[j].1.toArray⟩)∧wr.drew.cell? ⟨b,o+j*2+1,none⟩=some (.string ⟨ss[j].2.toArray⟩)∧wr.drew.cell? ⟨b,o+(j+1)*2,none⟩=some (.string ⟨ss[j+1].1.toArray⟩)∧wr.drew.cell? ⟨b,o+(j+1)*2+1,none⟩=some (.string ⟨ss[j+1].2.toArray⟩)∧Below w.heap.size w wr.drew:=⟨c0,c1,c2,c3,hB.drew⟩
    clear hd;go_wp2;clear c0 c1 c2 c3
    go_region_held3 (fun w'=>w'.cell? ⟨b,o+j*2,none⟩=some (.string ⟨ss[j].1.toArray⟩)∧w'.cell? ⟨b,o+j*2+1,none⟩=some (.string ⟨ss[j].2.toArray⟩)∧w'.cell? ⟨b,o+(j+1)*2,none⟩=some (.string ⟨ss[j+1].1.toArray⟩)∧w'.cell? ⟨b,o+(j+1)*2+1,none⟩=some (.string ⟨ss[j+1].2.toArray⟩)∧Below w.heap.size w w')
     (first|assumption|exact four_on (by assumption) (by assumption))
     (first|(go_at_call 104;refine(qd1 _ _ _).mono ?_;rintro e w' ⟨rfl,hw⟩))
    go_wp2;go_ret;exact⟨by rw[HR.out];rfl,qgB (by assumption)⟩
  ·have HR:Hid (Pl.rise (ss.map (·.1))=true):=hd.out.trans (rise_end (ss.map (·.1)) j (by simpa using hlt));go_wp2;go_ret;exact⟨by rw[HR.out];rfl,hB⟩
theorem qgK (a:Option Addr)(cap:Nat)(w:World):
 Calls Tryz.prog 138 #[.slice a 0 cap,.func (.func 104) #[] #[]] w fun e w'=>e=.returned (.bool (Pl.rise []))∧Below w.heap.size w w':=by
 go_enter Tryz.func138,Tryz.ntmps138;go_wp2;refine wp_loop_rounds 1 ?_;rw[rounds_succ];go_wp2;go_ret;exact⟨rfl,Below.refl _ _⟩
theorem riseA_any (v:Value)(ss:List (List UInt8×List UInt8))(w:World)(hlen:ss.length≤4)(hs:qbY w v ss):
 Calls Tryz.prog 138 #[v,.func (.func 104) #[] #[]] w fun e w'=>e=.returned (.bool (Pl.rise (ss.map (·.1))))∧Below w.heap.size w w':=by
 obtain⟨a,cap,rfl,h⟩:=hs
 rcases h with rfl|⟨b,o,rfl,hc⟩
 ·exact qgK a cap w
 ·exact riseA_some b o cap ss w hlen hc
theorem qfW {α:Type}{p:α→Bool}(l:List α)(k:Nat)(h:k<l.length)(h1:(l.take k).all p=true)(h2:p l[k]=true):(l.take (k+1)).all p=true:=by
 rw[List.take_succ_eq_append_getElem h,List.all_append,h1];simp[h2]
theorem qeD {α:Type}{p:α→Bool}(l:List α)(k:Nat)(h:k<l.length)(h2:p l[k]=false):l.all p=false:=by
 rw[List.all_eq_false];exact⟨l[k],List.getElem_mem h,by simp[h2]⟩
theorem areS_some (b o cap:Nat)(ss:List (List UInt8))(w:World)(hlen:ss.length≤6)(hc:∀i (h:i<ss.length),w.cell? ⟨b,o+i,none⟩=some (.string ⟨ss[i].toArray⟩)):
 Calls Tryz.prog 101 #[.slice (some ⟨b,o,none⟩) ss.length cap,.int .i64 6,.func (.func 102) #[] #[]] w fun e w'=>e=.returned (.bool (Pl.names 6 ss))∧Below w.heap.size w w':=by
 have HC:Hid (∀i (h:i<ss.length),w.cell? ⟨b,o+i,none⟩=some (.string ⟨ss[i].toArray⟩)):=hc;clear hc;have HN:Hid (Pl.names 6 ss=(ss.all Pl.qaj&&Pl.rise ss)):=by unfold Hid;simp[Pl.names,hlen]
 go_enter Tryz.func101,Tryz.ntmps101;go_wp2
 go_loopw [15] (fun i wr=>∃k:Nat,k≤ss.length∧i=.int .i64 k∧Hid ((ss.take k).all Pl.qaj=true)∧Below w.heap.size w wr) (fun i _=>ss.length-(intOf i).toNat)
 case atStart=>exact⟨0,Nat.zero_le _,rfl,rfl,Below.refl _ _⟩
 case round=>
  obtain⟨k,hk,rfl,hd,hB⟩:=hrel
  by_cases hlt:k<ss.length
  ·have c0:wr.cell? ⟨b,o+k,none⟩=some (.string ⟨ss[k].toArray⟩):=qab hB (HC.out k hlt)
   cases hx:Pl.qaj ss[k] with
   | true=>
    have HX:Hid _:=hx
    go_wp2_with (first|(go_at_call 102;refine(qfE _ _).mono ?_;rintro e w' ⟨rfl,rfl⟩)|(go_at_call 100;refine(qbr _ _).mono ?_;rintro e w' ⟨rfl,rfl⟩))
    exact⟨⟨k+1,hlt,by go_num,qfW ss k hlt hd.out HX.out,hB⟩,by simp[intOf];omega⟩
   | false=>
    have HF:Hid (Pl.names 6 ss=false):=by unfold Hid;rw[HN.out,qeD ss k hlt hx];rfl
    go_wp2_with (first|(go_at_call 102;refine(qfE _ _).mono ?_;rintro e w' ⟨rfl,rfl⟩)|(go_at_call 100;refine(qbr _ _).mono ?_;rintro e w' ⟨rfl,rfl⟩))
    go_ret;exact⟨by rw[HF.out];rfl,hB⟩
  ·have HF:Hid (Pl.names 6 ss=Pl.rise ss):=by
    unfold Hid;have:=hd.out;rw[List.take_of_length_le (by omega)]at this;rw[HN.out,this];rfl
   have hS:qa1 wr (.slice (some ⟨b,o,none⟩) ss.length cap) ss:=⟨_,_,rfl,Or.inr ⟨b,o,rfl,fun i hi=>qab hB (HC.out i hi)⟩⟩
   go_wp2_with fail
   refine(riseS_any _ ss _ hlen hS).mono ?_;rintro e w2 ⟨rfl,h2⟩;go_wp2;go_ret;exact⟨by rw[HF.out];rfl,qaa hB h2⟩
theorem areS_many (a:Option Addr)(n cap:Nat)(w:World)(hlen:6<n)(hm:n≤maxLen):
 Calls Tryz.prog 101 #[.slice a n cap,.int .i64 6,.func (.func 102) #[] #[]] w fun e w'=>e=.returned (.bool false)∧Below w.heap.size w w':=by
 unfold maxLen at hm;go_enter Tryz.func101,Tryz.ntmps101;go_wp2;go_ret;exact⟨rfl,Below.refl _ _⟩
theorem areS_none (a:Option Addr)(cap:Nat)(w:World):
 Calls Tryz.prog 101 #[.slice a 0 cap,.int .i64 6,.func (.func 102) #[] #[]] w fun e w'=>e=.returned (.bool true)∧Below w.heap.size w w':=by
 go_enter Tryz.func101,Tryz.ntmps101;go_wp2;refine wp_loop_rounds 1 ?_;rw[rounds_succ]
 go_wp2_with fail
 refine(qg0 _ _ _).mono ?_;rintro e w2 ⟨rfl,h2⟩;go_wp2;go_ret;exact⟨rfl,h2⟩
theorem areS_any (v:Value)(ss:List (List UInt8))(w:World)(hm:ss.length≤maxLen)(hs:qa1 w v ss):
 Calls Tryz.prog 101 #[v,.int .i64 6,.func (.func 102) #[] #[]] w fun e w'=>e=.returned (.bool (Pl.names 6 ss))∧Below w.heap.size w w':=by
 obtain⟨a,cap,rfl,h⟩:=hs
 by_cases hlen:ss.length≤6
 ·rcases h with rfl|⟨b,o,rfl,hc⟩
  ·exact areS_none a cap w
  ·exact areS_some b o cap ss w hlen hc
 ·have hF:Pl.names 6 ss=false:=by simp[Pl.names,hlen]
  rw[hF];exact areS_many a ss.length cap w (by omega) hm
theorem areA_some (b o cap:Nat)(ss:List (List UInt8×List UInt8))(w:World)(hlen:ss.length≤4)
 (hc:∀i (h:i<ss.length),w.cell? ⟨b,o+i*2,none⟩=some (.string ⟨ss[i].1.toArray⟩)∧w.cell? ⟨b,o+i*2+1,none⟩=some (.string ⟨ss[i].2.toArray⟩)):
 Calls Tryz.prog 103 #[.slice (some ⟨b,o,none⟩) ss.length cap,.int .i64 4,.func (.func 104) #[] #[]] w fun e w'=>e=.returned (.bool (Pl.names 4 (ss.map (·.1))))∧Below w.heap.size w w':=by
 have HC:Hid (∀i (h:i<ss.length),w.cell? ⟨b,o+i*2,none⟩=some (.string ⟨ss[i].1.toArray⟩)∧w.cell? ⟨b,o+i*2+1,none⟩=some (.string ⟨ss[i].2.toArray⟩)):=hc;clear hc
 have HN:Hid (Pl.names 4 (ss.map (·.1))=(ss.all (fun a=>Pl.qaj a.1)&&Pl.rise (ss.map (·.1)))):=by
  unfold Hid;simp[Pl.names,hlen,List.all_map,Function.comp_def]
 go_enter Tryz.func103,Tryz.ntmps103;go_wp2
 go_loopw [15] (fun i wr=>∃k:Nat,k≤ss.length∧i=.int .i64 k∧Hid ((ss.take k).all (fun a=>Pl.qaj a.1)=true)∧Below w.heap.size w wr) (fun i _=>ss.length-(intOf i).toNat)
 case atStart=>exact⟨0,Nat.zero_le _,rfl,rfl,Below.refl _ _⟩
 case round=>
  obtain⟨k,hk,rfl,hd,hB⟩:=hrel
  by_cases hlt:k<ss.length
  ·obtain⟨c0,c1⟩:=HC.out k hlt;replace c0:=qab hB c0;replace c1:=qab hB c1
   cases hx:Pl.qaj ss[k].1 with
   | true=>
    have HX:Hid _:=hx
    go_wp2_with (first|(go_at_call 104;refine(qd1 _ _ _).mono ?_;rintro e w' ⟨rfl,hw⟩)|(go_at_call 100;refine(qbr _ _).mono ?_;rintro e w' ⟨rfl,rfl⟩))
    exact⟨⟨k+1,hlt,by go_num,qfW ss k hlt hd.out HX.out,qaa (qaa hB (qac _ _)) hw⟩,by simp[intOf];omega⟩
   | false=>
    have HF:Hid (Pl.names 4 (ss.map (·.1))=false):=by
     unfold Hid;rw[HN.out,qeD (p:=fun a=>Pl.qaj a.1) ss k hlt hx];rfl
    go_wp2_with (first|(go_at_call 104;refine(qd1 _ _ _).mono ?_;rintro e w' ⟨rfl,hw⟩)|(go_at_call 100;refine(qbr _ _).mono ?_;rintro e w' ⟨rfl,rfl⟩))
    go_ret;exact⟨by rw[HF.out];rfl,qaa (qaa hB (qac _ _)) hw⟩
  ·have HF:Hid (Pl.names 4 (ss.map (·.1))=Pl.rise (ss.map (·.1))):=by
    unfold Hid;have:=hd.out;rw[List.take_of_length_le (by omega)]at this;rw[HN.out,this];rfl
   have hS:qbY wr (.slice (some ⟨b,o,none⟩) ss.length cap) ss:=⟨_,_,rfl,Or.inr ⟨b,o,rfl,fun i hi=>⟨qab hB (HC.out i hi).1,qab hB (HC.out i hi).2⟩⟩⟩
   go_wp2_with fail
   refine(riseA_any _ ss _ hlen hS).mono ?_;rintro e w2 ⟨rfl,h2⟩;go_wp2;go_ret;exact⟨by rw[HF.out];rfl,qaa hB h2⟩
theorem areA_many (a:Option Addr)(n cap:Nat)(w:World)(hlen:4<n)(hm:n≤maxLen):
 Calls Tryz.prog 103 #[.slice a n cap,.int .i64 4,.func (.func 104) #[] #[]] w fun e w'=>e=.returned (.bool false)∧Below w.heap.size w w':=by
 unfold maxLen at hm;go_enter Tryz.func103,Tryz.ntmps103;go_wp2;go_ret;exact⟨rfl,Below.refl _ _⟩
theorem areA_none (a:Option Addr)(cap:Nat)(w:World):
 Calls Tryz.prog 103 #[.slice a 0 cap,.int .i64 4,.func (.func 104) #[] #[]] w fun e w'=>e=.returned (.bool true)∧Below w.heap.size w w':=by
 go_enter Tryz.func103,Tryz.ntmps103;go_wp2;refine wp_loop_rounds 1 ?_;rw[rounds_succ]
 go_wp2_with fail
 refine(qgK _ _ _).mono ?_;rintro e w2 ⟨rfl,h2⟩;go_wp2;go_ret;exact⟨rfl,h2⟩
theorem areA_any (v:Value)(ss:List (List UInt8×List UInt8))(w:World)(hm:ss.length≤maxLen)(hs:qbY w v ss):
 Calls Tryz.prog 103 #[v,.int .i64 4,.func (.func 104) #[] #[]] w fun e w'=>e=.returned (.bool (Pl.names 4 (ss.map (·.1))))∧Below w.heap.size w w':=by
 obtain⟨a,cap,rfl,h⟩:=hs
 by_cases hlen:ss.length≤4
 ·rcases h with rfl|⟨b,o,rfl,hc⟩
  ·exact areA_none a cap w
  ·exact areA_some b o cap ss w hlen hc
 ·have hF:Pl.names 4 (ss.map (·.1))=false:=by simp[Pl.names,hlen]
  rw[hF];exact areA_many a ss.length cap w (by omega) hm
theorem vals_some (b o cap:Nat)(ss:List (List UInt8×List UInt8))(w:World)(hm:ss.length≤maxLen)
 (hc:∀i (h:i<ss.length),w.cell? ⟨b,o+i*2,none⟩=some (.string ⟨ss[i].1.toArray⟩)∧w.cell? ⟨b,o+i*2+1,none⟩=some (.string ⟨ss[i].2.toArray⟩)):
 Calls Tryz.prog 105 #[.slice (some ⟨b,o,none⟩) ss.length cap] w fun e w'=>e=.returned (.bool (ss.all (fun a=>Pl.qao a.2)))∧Below w.heap.size w w':=by
 have HC:Hid (∀i (h:i<ss.length),w.cell? ⟨b,o+i*2,none⟩=some (.string ⟨ss[i].1.toArray⟩)∧w.cell? ⟨b,o+i*2+1,none⟩=some (.string ⟨ss[i].2.toArray⟩)):=hc;clear hc;unfold maxLen at hm;go_enter Tryz.func105,Tryz.ntmps105;go_wp2
 go_loopw [7] (fun i wr=>∃k:Nat,k≤ss.length∧i=.int .i64 k∧Hid ((ss.take k).all (fun a=>Pl.qao a.2)=true)∧Below w.heap.size w wr) (fun i _=>ss.length-(intOf i).toNat)
 case atStart=>exact⟨0,Nat.zero_le _,rfl,rfl,Below.refl _ _⟩
 case round=>
  obtain⟨k,hk,rfl,hd,hB⟩:=hrel
  by_cases hlt:k<ss.length
  ·obtain⟨c0,c1⟩:=HC.out k hlt;replace c0:=qab hB c0;replace c1:=qab hB c1
   cases hx:Pl.qao ss[k].2 with
   | true=>
    have HX:Hid _:=hx
    go_wp2_with (go_at_call 139;refine(qej _ _).mono ?_;rintro e w' ⟨rfl,rfl⟩)
    exact⟨⟨k+1,hlt,by go_num,qfW ss k hlt hd.out HX.out,qaa hB (qac _ _)⟩,by simp[intOf];omega⟩
   | false=>
    have HF:Hid (ss.all (fun a=>Pl.qao a.2)=false):=qeD (p:=fun (a:List UInt8×List UInt8)=>Pl.qao a.2) ss k hlt hx
    go_wp2_with (go_at_call 139;refine(qej _ _).mono ?_;rintro e w' ⟨rfl,rfl⟩)
    go_ret;exact⟨by rw[HF.out];rfl,qaa hB (qac _ _)⟩
  ·have HF:Hid (ss.all (fun a=>Pl.qao a.2)=true):=by
    have:=hd.out
    rwa [List.take_of_length_le (by omega)]at this
   go_wp2;go_ret;exact⟨by rw[HF.out];rfl,hB⟩
theorem vals_none (a:Option Addr)(cap:Nat)(w:World):
 Calls Tryz.prog 105 #[.slice a 0 cap] w fun e w'=>e=.returned (.bool true)∧Below w.heap.size w w':=by
 go_enter Tryz.func105,Tryz.ntmps105;go_wp2;refine wp_loop_rounds 1 ?_;rw[rounds_succ];go_wp2;go_ret;exact⟨rfl,Below.refl _ _⟩
theorem vals_any (v:Value)(ss:List (List UInt8×List UInt8))(w:World)(hm:ss.length≤maxLen)(hs:qbY w v ss):
 Calls Tryz.prog 105 #[v] w fun e w'=>e=.returned (.bool (ss.all (fun a=>Pl.qao a.2)))∧Below w.heap.size w w':=by
 obtain⟨a,cap,rfl,h⟩:=hs
 rcases h with rfl|⟨b,o,rfl,hc⟩
 ·exact vals_none a cap w
 ·exact vals_some b o cap ss w hm hc
def NdV (w:World)(v:Value)(x:Pl.Nd):Prop:=
 ∃vc va,v=.agg #[.int .i64 x.up,.string ⟨x.tag.toArray⟩,.string ⟨x.id.toArray⟩,vc,va]∧qa1 w vc x.cls∧qbY w va x.ats
def Fits (x:Pl.Nd):Prop:=x.cls.length≤maxLen∧x.ats.length≤maxLen
theorem qeq (v:Value)(x:Pl.Nd)(w:World)(hf:Fits x)(hv:NdV w v x):
 Calls Tryz.prog 49 #[v] w fun e w'=>e=.returned (.bool (Pl.right x))∧Below w.heap.size w w':=by
 obtain⟨vc,va,rfl,hc,ha⟩:=hv;obtain⟨m1,m2⟩:=hf;obtain⟨ac,cc,rfl,hc'⟩:=id hc;obtain⟨aa,ca,rfl,ha'⟩:=id ha;have HC:Hid _:=hc;have HA:Hid _:=ha;clear hc ha hc' ha'
 cases ht:Pl.qaj x.tag with
 | false=>
  have HR:Hid (Pl.right x=false):=by simp[Hid,Pl.right,ht]
  go_enter Tryz.func49,Tryz.ntmps49
  go_wp2_with (go_at_call 100;refine(qbr _ _).mono ?_;rintro e w' ⟨rfl,rfl⟩)
  go_ret;exact⟨by rw[HR.out];rfl,qac _ _⟩
 | true=>
  have hid:x.id=[]∨(x.id≠[]∧Pl.qaj x.id=true)∨(x.id≠[]∧Pl.qaj x.id=false):=by
   by_cases h:x.id=[]
   ·exact Or.inl h
   ·cases Pl.qaj x.id
    ·exact Or.inr (Or.inr ⟨h,rfl⟩)
    ·exact Or.inr (Or.inl ⟨h,rfl⟩)
  rcases hid with hi|⟨hi,hi2⟩|⟨hi,hi2⟩
  ·have HI:Hid ((x.id.isEmpty||Pl.qaj x.id)=true):=by simp[Hid,hi]
   go_enter Tryz.func49,Tryz.ntmps49
   go_wp2_with (go_at_call 100;refine(qbr _ _).mono ?_;rintro e w' ⟨rfl,rfl⟩)
   refine(areS_any _ x.cls _ m1 (qa1.on HC.out (qac _ _))).mono ?_;rintro e w1 ⟨rfl,h1⟩;have hB1:=qaa (qac w _) h1;have c4:=qab (p:=⟨w.heap.size,4,none⟩) (v:=.slice aa x.ats.length ca) h1 (by simp[go_sem]);clear h1
   cases hn:Pl.names 6 x.cls with
   | false=>
    have HR:Hid (Pl.right x=false):=by simp[Hid,Pl.right,hn]
    go_wp2;go_ret;exact⟨by rw[HR.out];rfl,hB1⟩
   | true=>
    go_wp2_with fail
    refine(areA_any _ x.ats _ m2 (qbY.on HA.out hB1)).mono ?_;rintro e w2 ⟨rfl,h2⟩;have hB2:=qaa hB1 h2;have d4:=qab h2 c4;clear h2 c4
    cases hm:Pl.names 4 (x.ats.map (·.1)) with
    | false=>
     have HR:Hid (Pl.right x=false):=by simp[Hid,Pl.right,hm]
     go_wp2;go_ret;exact⟨by rw[HR.out];rfl,hB2⟩
    | true=>
     have HR:Hid (Pl.right x=x.ats.all (fun a=>Pl.qao a.2)):=by simp[Hid,Pl.right,ht,HI.out,hn,hm]
     go_wp2_with fail
     refine(vals_any _ x.ats _ m2 (qbY.on HA.out hB2)).mono ?_;rintro e w3 ⟨rfl,h3⟩;go_wp2;go_ret;exact⟨by rw[HR.out];rfl,qaa hB2 h3⟩
  ·have HI:Hid ((x.id.isEmpty||Pl.qaj x.id)=true):=by simp[Hid,hi2]
   go_enter Tryz.func49,Tryz.ntmps49
   go_wp2_with (go_at_call 100;refine(qbr _ _).mono ?_;rintro e w' ⟨rfl,rfl⟩)
   refine(areS_any _ x.cls _ m1 (qa1.on HC.out (qac _ _))).mono ?_;rintro e w1 ⟨rfl,h1⟩;have hB1:=qaa (qac w _) h1;have c4:=qab (p:=⟨w.heap.size,4,none⟩) (v:=.slice aa x.ats.length ca) h1 (by simp[go_sem]);clear h1
   cases hn:Pl.names 6 x.cls with
   | false=>
    have HR:Hid (Pl.right x=false):=by simp[Hid,Pl.right,hn]
    go_wp2;go_ret;exact⟨by rw[HR.out];rfl,hB1⟩
   | true=>
    go_wp2_with fail
    refine(areA_any _ x.ats _ m2 (qbY.on HA.out hB1)).mono ?_;rintro e w2 ⟨rfl,h2⟩;have hB2:=qaa hB1 h2;have d4:=qab h2 c4;clear h2 c4
    cases hm:Pl.names 4 (x.ats.map (·.1)) with
    | false=>
     have HR:Hid (Pl.right x=false):=by simp[Hid,Pl.right,hm]
     go_wp2;go_ret;exact⟨by rw[HR.out];rfl,hB2⟩
    | true=>
     have HR:Hid (Pl.right x=x.ats.all (fun a=>Pl.qao a.2)):=by simp[Hid,Pl.right,ht,HI.out,hn,hm]
     go_wp2_with fail
     refine(vals_any _ x.ats _ m2 (qbY.on HA.out hB2)).mono ?_;rintro e w3 ⟨rfl,h3⟩;go_wp2;go_ret;exact⟨by rw[HR.out];rfl,qaa hB2 h3⟩
  ·have HR:Hid (Pl.right x=false):=by simp[Hid,Pl.right,hi,hi2]
   go_enter Tryz.func49,Tryz.ntmps49
   go_wp2_with (go_at_call 100;refine(qbr _ _).mono ?_;rintro e w' ⟨rfl,rfl⟩)
   go_ret;exact⟨by rw[HR.out];rfl,qac _ _⟩
end Go.Proofs.YtephhllfodlfbaaGreatDoor
