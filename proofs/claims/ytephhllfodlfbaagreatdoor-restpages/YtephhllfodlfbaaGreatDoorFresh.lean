/-
  Where elements hang, in plain lists. No program in this text.
-/
import Derived.Test.YtephhllfodlfbaaGreatDoorIsR
import Derived.Deep.AppendLies
set_option maxRecDepth 100000
set_option maxHeartbeats 16000000
namespace Go.Proofs.YtephhllfodlfbaaGreatDoor.Pl
def upOf (ns:List Nd)(k:Nat):Int:=match ns[k]? with|some x=>x.up|none=> -1
def chase (ns:List Nd):Nat→Int→Int→Bool
 | 0,_,_=>false
 | f+1,k,t=>if k<0 then false else if k==t then true else chase ns f (upOf ns k.toNat) t
def hangs (ns:List Nd)(n:Nat):Bool:=if n=0 then upOf ns 0== -1 else chase ns (n+1) ((n:Int)-1) (upOf ns n)
def Low (ns:List Nd)(n:Nat):Prop:=∀k,k<n→ -1≤upOf ns k∧upOf ns k<k
def okTo (ns:List Nd)(n:Nat):Bool:=(List.range n).all fun k=>(match ns[k]? with|some x=>right x|none=>false)&&hangs ns k
def qad (ns:List Nd):Int:=if ns.length<1∨64<ns.length then 2 else if okTo ns ns.length=true then 0 else 1
theorem chase_low {ns:List Nd}{n:Nat}(hl:Low ns n):∀(f:Nat) (k t:Int),k<n→ -1≤k→k+1<f→∀g,f≤g→chase ns g k t=chase ns f k t:=by
 intro f
 induction f with
 | zero=>intro k t _ h1 h2;omega
 | succ f ih=>
  intro k t hk h1 h2 g hg;obtain⟨g',rfl⟩:∃g',g=g'+1:=⟨g-1,by omega⟩
  unfold chase
  by_cases h0:k<0
  ·simp[h0]
  ·rw[if_neg h0,if_neg h0]
   by_cases he:(k==t)=true
   ·rw[if_pos he,if_pos he]
   ·rw[if_neg he,if_neg he];have:=hl k.toNat (by omega);exact ih _ _ (by omega) this.1 (by omega) g' (by omega)
theorem chase_le {ns:List Nd}{n:Nat}(hl:Low ns n):∀(f:Nat) (k t:Int),k<n→chase ns f k t=true→0≤t∧t≤k:=by
 intro f
 induction f with
 | zero=>intro k t _ h;simp[chase]at h
 | succ f ih=>
  intro k t hk h;unfold chase at h
  by_cases h0:k<0
  ·simp[h0]at h
  ·rw[if_neg h0]at h
   by_cases he:(k==t)=true
   ·have:k=t:=by simpa using he
    omega
   ·rw[if_neg he]at h;have h3:=hl k.toNat (by omega);have:=ih _ _ (by omega) h;omega
theorem hangs_low {ns:List Nd}{n:Nat}(hl:Low ns n)(h:hangs ns n=true):Low ns (n+1):=by
 intro k hk
 by_cases hkn:k<n
 ·exact hl k hkn
 ·obtain rfl:k=n:=by omega
  unfold hangs at h
  by_cases h0:k=0
  ·subst h0;simp at h;omega
  ·rw[if_neg h0]at h;have:=chase_le hl _ _ _ (by omega) h;omega
theorem qde (ns:List Nd)(n:Nat):okTo ns (n+1)=(okTo ns n&&((match ns[n]? with|some x=>right x|none=>false)&&hangs ns n)):=by
 unfold okTo;rw[List.range_succ,List.all_append];simp
theorem qdY {ns:List Nd}:∀n,okTo ns n=true→Low ns n
 | 0,_=>fun k hk=>by omega
 | n+1,h=>by
  rw[qde,Bool.and_eq_true,Bool.and_eq_true]at h;exact hangs_low (qdY n h.1) h.2.2
theorem okTo_le {ns:List Nd}{n m:Nat}(h:okTo ns m=true)(hm:n≤m):okTo ns n=true:=by
 unfold okTo at *;rw[List.all_eq_true]at *;intro k hk;exact h k (by simp at *;omega)
end Go.Proofs.YtephhllfodlfbaaGreatDoor.Pl
namespace Go.Proofs.YtephhllfodlfbaaGreatDoor
open Go.RowKit
theorem qhl (ns:List Pl.Nd)(k:Nat)(h:k<ns.length):Pl.upOf ns k=ns[k].up:=by
 unfold Pl.upOf;rw[List.getElem?_eq_getElem h]
theorem qdN {w:World}{b o:Nat}{ns:List Pl.Nd}(hc:∀i (h:i<ns.length),NdAt w b (o+i*5) ns[i])(k:Nat)(h:k<ns.length):w.cell? ⟨b,o+k*5,none⟩=some (.int .i64 (Pl.upOf ns k)):=by
 obtain⟨vc,va,h0,_⟩:=hc k h;rw[qhl ns k h];exact h0
def way (ns:List Pl.Nd)(k:Int)(t:Int):Bool:=Pl.chase ns (k+2).toNat k t
theorem way_neg (ns:List Pl.Nd)(t:Int):way ns (-1) t=false:=by simp[way,Pl.chase]
theorem way_hit (ns:List Pl.Nd)(k:Nat):way ns k k=true:=by
 unfold way;rw[show ((k:Int)+2).toNat=(k+1)+1 by omega];unfold Pl.chase;rw[if_neg (by omega)];simp
theorem way_step {ns:List Pl.Nd}{n:Nat}(hl:Pl.Low ns n)(k:Nat)(hk:k<n)(t:Int)(hne:((k:Int)==t)=false):way ns k t=way ns (Pl.upOf ns k) t:=by
 have h2:=hl k hk;unfold way;rw[show ((k:Int)+2).toNat=(k+1)+1 by omega,Pl.chase,if_neg (by omega),hne];simp only[Bool.false_eq_true,if_false,Int.toNat_natCast];exact Pl.chase_low hl _ _ _ (by omega) h2.1 (by omega) _ (by omega)
theorem qii (ns:List Pl.Nd)(n:Nat)(h:n≠0):Pl.hangs ns n=way ns ((n:Int)-1) (Pl.upOf ns n):=by
 unfold Pl.hangs way;rw[if_neg h,show ((n:Int)-1+2).toNat=n+1 by omega]
theorem hangs_zero (b o cap:Nat)(ns:List Pl.Nd)(w:World)(hn:0<ns.length)(hlen:ns.length≤64)(hc:∀i (h:i<ns.length),NdAt w b (o+i*5) ns[i]):
 Calls Tryz.prog 50 #[.slice (some ⟨b,o,none⟩) ns.length cap,.int .i64 0] w fun e w'=>e=.returned (.bool (Pl.hangs ns 0))∧w'=w:=by
 have c0:=qdN hc 0 hn;rw[Nat.zero_mul,Nat.add_zero]at c0;have HH:Hid (Pl.hangs ns 0=(Pl.upOf ns 0== -1)):=by simp[Hid,Pl.hangs]
 have hn':(0:Int)<(ns.length:Int):=by omega
 clear hc;generalize Pl.upOf ns 0=u at *;go_enter Tryz.func50,Tryz.ntmps50;go_wp2;go_ret;exact⟨by rw[HH.out];rfl,rfl⟩
theorem hangs_pos (b o cap:Nat)(ns:List Pl.Nd)(n:Nat)(w:World)(hn:n<ns.length)(h0:0<n)(hlen:ns.length≤64)(hl:Pl.Low ns n)(hc:∀i (h:i<ns.length),NdAt w b (o+i*5) ns[i]):
 Calls Tryz.prog 50 #[.slice (some ⟨b,o,none⟩) ns.length cap,.int .i64 n] w fun e w'=>e=.returned (.bool (Pl.hangs ns n))∧w'=w:=by
 have HC:Hid (∀k,k<ns.length→w.cell? ⟨b,o+k*5,none⟩=some (.int .i64 (Pl.upOf ns k))):=fun k h=>qdN hc k h
 have cn:=qdN hc n hn;have HH:Hid (Pl.hangs ns n=way ns ((n:Int)-1) (Pl.upOf ns n)):=qii ns n (by omega);have HL:Hid (Pl.Low ns n):=hl;have hz:((n:Int)==0)=false:=by simp;omega
 clear hc hl;generalize Pl.upOf ns n=t at *;go_enter Tryz.func50,Tryz.ntmps50;go_wp2
 go_loop [5] (fun u=>∃q:Int,u=.int .i64 q∧ -1≤q∧q<n∧Hid (Pl.hangs ns n=way ns q t)) (fun u=>(intOf u+1).toNat)
 case atStart=>exact⟨(n:Int)-1,rfl,by omega,by omega,HH⟩
 case round=>
  obtain⟨q,rfl,hq1,hq2,hw⟩:=hrel
  by_cases hneg:q<0
  ·have HF:Hid (Pl.hangs ns n=false):=by
    have:q= -1:=by omega
    subst this;exact hw.out.trans (way_neg ns t)
   go_wp2;go_ret;exact⟨by rw[HF.out];rfl,rfl⟩
  ·obtain⟨k,rfl⟩:∃k:Nat,q=k:=⟨q.toNat,by omega⟩
   have hk:k<n:=by omega
   cases he:((k:Int)==t) with
   | true=>
    have HF:Hid (Pl.hangs ns n=true):=by
     have:(k:Int)=t:=by simpa using he
     rw[Hid,hw.out,←this];exact way_hit ns k
    go_wp2;go_ret;exact⟨by rw[HF.out];rfl,rfl⟩
   | false=>
    have ck:=HC.out k (by omega);obtain⟨u1,u2⟩:=HL.out k hk;have HS:Hid (Pl.hangs ns n=way ns (Pl.upOf ns k) t):=hw.out.trans (way_step HL.out k hk t he);generalize Pl.upOf ns k=u at *;go_wp2;exact⟨⟨u,rfl,u1,by omega,HS⟩,by simp[intOf];omega⟩
theorem qiL (b o cap:Nat)(ns:List Pl.Nd)(n:Nat)(w:World)(hn:n<ns.length)(hlen:ns.length≤64)(hl:Pl.Low ns n)(hc:∀i (h:i<ns.length),NdAt w b (o+i*5) ns[i]):
 Calls Tryz.prog 50 #[.slice (some ⟨b,o,none⟩) ns.length cap,.int .i64 n] w fun e w'=>e=.returned (.bool (Pl.hangs ns n))∧w'=w:=by
 by_cases h0:n=0
 ·subst h0;exact hangs_zero b o cap ns w hn hlen hc
 ·exact hangs_pos b o cap ns n w hn (by omega) hlen hl hc
def qdO (ns:List Pl.Nd):Prop:=ns.length≤maxLen∧∀i (h:i<ns.length),Fits ns[i]
theorem check_many (a:Option Addr)(n cap:Nat)(w:World)(h:n<1∨64<n)(hm:n≤maxLen):
 Calls Tryz.prog 14 #[.agg #[.slice a n cap]] w fun e w'=>e=.returned (.int .i64 2)∧Below w.heap.size w w':=by
 unfold maxLen at hm
 rcases h with h|h
 ·go_enter Tryz.func14,Tryz.ntmps14;go_wp2;go_ret;exact⟨rfl,qac _ _⟩
 ·have h1:¬n<1:=by omega
  go_enter Tryz.func14,Tryz.ntmps14;go_wp2;go_ret;exact⟨rfl,qac _ _⟩
theorem qdj {ns:List Pl.Nd}{k:Nat}(hk:k<ns.length)(h:(Pl.right ns[k]&&Pl.hangs ns k)=false):Pl.okTo ns ns.length=false:=by
 cases hh:Pl.okTo ns ns.length with
 | false=>rfl
 | true=>
  have:=Pl.okTo_le hh (n:=k+1) (by omega);rw[Pl.qde,List.getElem?_eq_getElem hk]at this;simp only[h,Bool.and_false]at this
  cases this
theorem qgk {ns:List Pl.Nd}{k:Nat}(hk:k<ns.length)(h0:Pl.okTo ns k=true)(h1:Pl.right ns[k]=true)(h2:Pl.hangs ns k=true):Pl.okTo ns (k+1)=true:=by
 rw[Pl.qde,List.getElem?_eq_getElem hk,h0,h2];simp[h1]
theorem qcj {ns:List Pl.Nd}(h1:1≤ns.length)(h64:ns.length≤64)(h:Pl.okTo ns ns.length=false):Pl.qad ns=1:=by
 unfold Pl.qad;rw[if_neg (by omega),h];rfl
theorem qeQ {ns:List Pl.Nd}(h1:1≤ns.length)(h64:ns.length≤64)(h:Pl.okTo ns ns.length=true):Pl.qad ns=0:=by
 unfold Pl.qad;rw[if_neg (by omega),h];rfl
theorem NdV.on {w w':World}{v:Value}{x:Pl.Nd}(h:NdV w v x)(hb:Below w.heap.size w w'):NdV w' v x:=by
 obtain⟨vc,va,rfl,hc,ha⟩:=h;exact⟨vc,va,rfl,hc.on hb,ha.on hb⟩
theorem check_some (b o cap:Nat)(ns:List Pl.Nd)(w:World)(h1:1≤ns.length)(h64:ns.length≤64)(hf:qdO ns)(hc:∀i (h:i<ns.length),NdAt w b (o+i*5) ns[i]):
 Calls Tryz.prog 14 #[.agg #[.slice (some ⟨b,o,none⟩) ns.length cap]] w fun e w'=>e=.returned (.int .i64 (Pl.qad ns))∧Below w.heap.size w w':=by
 have HC:Hid (∀i (h:i<ns.length),NdAt w b (o+i*5) ns[i]):=hc;have HFit:Hid (qdO ns):=hf;clear hc hf;have l1:¬ns.length<1:=by omega
 go_enter Tryz.func14,Tryz.ntmps14;go_wp2
 go_loopw [18] (fun i wr=>∃k:Nat,k≤ns.length∧i=.int .i64 k∧Hid (Pl.okTo ns k=true)∧Below w.heap.size w wr∧wr.cell? ⟨w.heap.size,0,none⟩=some (.slice (some ⟨b,o,none⟩) ns.length cap)) (fun i _=>ns.length-(intOf i).toNat)
 case atStart=>exact⟨0,Nat.zero_le _,rfl,rfl,qac _ _,by simp[go_sem]⟩
 case round=>
  obtain⟨k,hk,rfl,hd,hB,hbox⟩:=hrel
  by_cases hlt:k<ns.length
  ·obtain⟨vc,va,n0,n1,n2,n3,n4,nc,na⟩:=(HC.out k hlt).on hB;obtain⟨ac,cc,rfl,_⟩:=id nc;obtain⟨aa,ca,rfl,_⟩:=id na;have HV:Hid (NdV wr (.agg #[.int .i64 ns[k].up,.string ⟨ns[k].tag.toArray⟩,.string ⟨ns[k].id.toArray⟩,.slice ac ns[k].cls.length cc,.slice aa ns[k].ats.length ca]) ns[k]):=⟨_,_,rfl,nc,na⟩
   clear nc na
   cases hr:Pl.right ns[k] with
   | false=>
    have HF:Hid (Pl.qad ns=1):=qcj h1 h64 (qdj hlt (by rw[hr];rfl))
    go_wp2_with fail
    refine(qeq _ ns[k] _ (HFit.out.2 k hlt) (HV.out.on (qac _ _))).mono ?_;rintro e w1 ⟨rfl,hw1⟩;have hB1:=qaa (qaa hB (qac _ _)) hw1;go_wp2;go_ret;exact⟨by rw[HF.out];rfl,hB1⟩
   | true=>
    go_wp2_with fail
    refine(qeq _ ns[k] _ (HFit.out.2 k hlt) (HV.out.on (qac _ _))).mono ?_;rintro e w1 ⟨rfl,hw1⟩;have hb1:=qaa (qac _ _) hw1;have hB1:=qaa hB hb1;have hbox1:=qab hb1 hbox;have HC1:Hid (∀i (h:i<ns.length),NdAt w1 b (o+i*5) ns[i]):=fun i h=>(HC.out i h).on hB1
    clear hw1 hbox hb1 n0 n1 n2 n3 n4
    cases hh:Pl.hangs ns k with
    | false=>
     have HF:Hid (Pl.qad ns=1):=qcj h1 h64 (qdj hlt (by rw[hh];simp))
     go_wp2_with fail
     refine(qiL b o cap ns k _ hlt h64 (Pl.qdY k hd.out) HC1.out).mono ?_;rintro e w2 ⟨rfl,rfl⟩;go_wp2;go_ret;exact⟨by rw[HF.out];rfl,hB1⟩
    | true=>
     have HN:Hid (Pl.okTo ns (k+1)=true):=qgk hlt hd.out hr hh
     go_wp2_with fail
     refine(qiL b o cap ns k _ hlt h64 (Pl.qdY k hd.out) HC1.out).mono ?_;rintro e w2 ⟨rfl,rfl⟩;go_wp2;exact⟨⟨k+1,hlt,by go_num,HN,hB1,hbox1⟩,by simp[intOf];omega⟩
  ·have HF:Hid (Pl.qad ns=0):=by
    have he:k=ns.length:=by omega
    have:=hd.out;rw[he]at this;exact qeQ h1 h64 this
   go_wp2;go_ret;exact⟨by rw[HF.out];rfl,hB⟩
theorem qcH (v:Value)(ns:List Pl.Nd)(w:World)(hf:qdO ns)(hv:qa8 w v ns):
 Calls Tryz.prog 14 #[.agg #[v]] w fun e w'=>e=.returned (.int .i64 (Pl.qad ns))∧Below w.heap.size w w':=by
 obtain⟨a,cap,rfl,h⟩:=hv
 by_cases hl:ns.length<1∨64<ns.length
 ·have:Pl.qad ns=2:=by unfold Pl.qad;rw[if_pos hl]
  rw[this];exact check_many a ns.length cap w hl hf.1
 ·rcases h with rfl|⟨b,o,rfl,hc⟩
  ·simp at hl
  ·exact check_some b o cap ns w (by omega) (by omega) hf hc
namespace Pl
def qaJ (ns:List Nd)(n:Int)(k:Nat):List Nat:=(List.range k).filter fun i=>upOf ns i==n
def qae (ns:List Nd)(n:Int):List Nat:=qaJ ns n ns.length
theorem qd2 (ns:List Nd)(n:Int)(k:Nat)(h:(upOf ns k==n)=true):qaJ ns n (k+1)=qaJ ns n k++[k]:=by
 unfold qaJ;rw[List.range_succ,List.filter_append];simp[h]
theorem qes (ns:List Nd)(n:Int)(k:Nat)(h:(upOf ns k==n)=false):qaJ ns n (k+1)=qaJ ns n k:=by
 unfold qaJ;rw[List.range_succ,List.filter_append];simp[h]
theorem qcE (ns:List Nd)(n:Int)(k:Nat):(qaJ ns n k).length≤k:=by
 unfold qaJ;exact Nat.le_trans (List.length_filter_le _ _) (by simp)
def qaZ (ns:List Nd)(n:Nat):Nat→Nat→Nat
 | 0,e=>e
 | f+1,e=>if e<ns.length∧(n:Int)≤upOf ns e then qaZ ns n f (e+1) else e
def behind (ns:List Nd)(n:Nat):Nat:=qaZ ns n (ns.length-n) (n+1)
end Pl
def qaE (l:List Nat):List Value:=l.map fun(k:Nat)=>Value.int .i64 (k:Int)
theorem Tryz.info3:(Tryz.prog.info? 3).map (fun i=>(i.zero,i.size,i.bytes))=some (some (.int .i64 0),1,8):=by kernel_rfl
theorem qf2 {w:World}{B:Nat}{v:Value}{l:List Nat}(h:w.ownsRow B 3 1 v l.length (qaE l)):qbO w v (l.map fun(k:Nat)=>(k:Int)):=by
 have hh:=h;obtain⟨_,h0|⟨g,cap,cur,rfl,_⟩⟩:=h
 ·obtain⟨rfl,hl⟩:=h0;have:l=[]:=by simpa using hl
  subst this;exact⟨none,0,rfl,Or.inl rfl⟩
 ·refine⟨_,cap,by simp,Or.inr ⟨g,0,rfl,fun i hi=>?_⟩⟩;have hl:i<l.length:=by simpa using hi
  have:=World.ownsRow.cells hh rfl i (.int .i64 (l[i]:Int)) (by simp[qaE,List.getElem?_eq_getElem hl]);rw[Addr.add_lit]at this
  simpa using this
theorem qeo (b o cap:Nat)(ns:List Pl.Nd)(n:Nat)(w:World)(hn:n<ns.length)(h64:ns.length≤64)(hc:∀i (h:i<ns.length),NdAt w b (o+i*5) ns[i]):
 Calls Tryz.prog 76 #[.slice (some ⟨b,o,none⟩) ns.length cap,.int .i64 n] w fun e w'=>e=.returned (.int .i64 (Pl.behind ns n))∧w'=w:=by
 have HC:Hid (∀k,k<ns.length→w.cell? ⟨b,o+k*5,none⟩=some (.int .i64 (Pl.upOf ns k))):=fun k h=>qdN hc k h
 clear hc;go_enter Tryz.func76,Tryz.ntmps76;go_wp2
 go_loop [5] (fun e=>∃k:Nat,n+1≤k∧k≤ns.length∧e=.int .i64 k∧Hid (Pl.behind ns n=Pl.qaZ ns n (ns.length+1-k) k)) (fun e=>ns.length-(intOf e).toNat)
 case atStart=>exact⟨n+1,by omega,by omega,by go_num,by unfold Hid Pl.behind;rw[show ns.length+1-(n+1)=ns.length-n by omega]⟩
 case round=>
  obtain⟨k,hk1,hk2,rfl,hd⟩:=hrel
  by_cases hlt:k<ns.length
  ·have ck:=HC.out k hlt
   by_cases hu:(n:Int)≤Pl.upOf ns k
   ·have HS:Hid (Pl.behind ns n=Pl.qaZ ns n (ns.length+1-(k+1)) (k+1)):=by
     unfold Hid;rw[hd.out,show ns.length+1-k=(ns.length+1-(k+1))+1 by omega,Pl.qaZ,if_pos ⟨hlt,hu⟩]
    generalize Pl.upOf ns k=u at *;go_wp2;exact⟨⟨k+1,by omega,hlt,by go_num,HS⟩,by simp[intOf];omega⟩
   ·have HS:Hid (Pl.behind ns n=k):=by
     unfold Hid;rw[hd.out,show ns.length+1-k=(ns.length-k)+1 by omega,Pl.qaZ,if_neg (fun h=>hu h.2)]
    generalize Pl.upOf ns k=u at *;go_wp2;go_ret;exact⟨by rw[HS.out];rfl,rfl⟩
  ·have HS:Hid (Pl.behind ns n=k):=by
    unfold Hid;rw[hd.out,show ns.length+1-k=0+1 by omega,Pl.qaZ,if_neg (fun h=>hlt h.1)]
   go_wp2;go_ret;exact⟨by rw[HS.out];rfl,rfl⟩
def hasB (len:Nat)(n:Int):Bool:=decide (0≤n)&&decide (n<len)
theorem qgi (a:Option Addr)(len cap:Nat)(n:Int)(w:World)(_hm:len≤maxLen):
 Calls Tryz.prog 80 #[.agg #[.slice a len cap],.int .i64 n] w fun e w'=>e=.returned (.bool (hasB len n))∧Below w.heap.size w w':=by
 unfold maxLen at _hm
 by_cases h0:0≤n
 ·have HH:Hid (hasB len n=decide (n<(len:Int))):=by simp[Hid,hasB,h0]
  go_enter Tryz.func80,Tryz.ntmps80;go_wp2;go_ret;exact⟨by rw[HH.out];rfl,qac _ _⟩
 ·have HH:Hid (hasB len n=false):=by simp[Hid,hasB,h0]
  go_enter Tryz.func80,Tryz.ntmps80;go_wp2;go_ret;exact⟨by rw[HH.out];rfl,qac _ _⟩
def qai (ns:List Pl.Nd)(n:Int):Int:=if Pl.qad ns=0 then (if hasB ns.length n=true then 0 else 5) else Pl.qad ns
theorem qcf (v:Value)(ns:List Pl.Nd)(n:Int)(w:World)(hf:qdO ns)(hv:qa8 w v ns):
 Calls Tryz.prog 74 #[.agg #[v],.int .i64 n] w fun e w'=>e=.returned (.int .i64 (qai ns n))∧Below w.heap.size w w':=by
 obtain⟨a,cap,rfl,_⟩:=id hv;have HV:Hid _:=hv;clear hv
 cases hz:(Pl.qad ns !=0) with
 | true=>
  have HH:Hid (qai ns n=Pl.qad ns):=by unfold Hid qai;rw[if_neg (by simpa using hz)]
  go_enter Tryz.func74,Tryz.ntmps74
  go_wp2_with fail
  refine(qcH _ ns _ hf (qa8.on HV.out (qac _ _))).mono ?_;rintro e w1 ⟨rfl,h1⟩;have hB:=qaa (qac _ _) h1;go_wp2;go_ret;exact⟨by rw[HH.out];rfl,hB⟩
 | false=>
  have hz0:Pl.qad ns=0:=by simpa using hz
  clear hz
  cases hh:hasB ns.length n with
  | true=>
   have HH:Hid (qai ns n=0):=by unfold Hid qai;rw[if_pos hz0,hh];rfl
   go_enter Tryz.func74,Tryz.ntmps74
   go_wp2_with fail
   refine(qcH _ ns _ hf (qa8.on HV.out (qac _ _))).mono ?_;rintro e w1 ⟨rfl,h1⟩;rw[hz0];have hB:=qaa (qac _ _) h1;have c0:=qab (p:=⟨w.heap.size,0,none⟩) (v:=.slice a ns.length cap) h1 (by simp[go_sem]);clear h1
   go_wp2_with fail
   refine(qgi _ _ _ _ _ hf.1).mono ?_;rintro e w2 ⟨rfl,h2⟩;go_wp2;go_ret;exact⟨by rw[HH.out];rfl,qaa hB h2⟩
  | false=>
   have HH:Hid (qai ns n=5):=by unfold Hid qai;rw[if_pos hz0,hh];rfl
   go_enter Tryz.func74,Tryz.ntmps74
   go_wp2_with fail
   refine(qcH _ ns _ hf (qa8.on HV.out (qac _ _))).mono ?_;rintro e w1 ⟨rfl,h1⟩;rw[hz0];have hB:=qaa (qac _ _) h1;have c0:=qab (p:=⟨w.heap.size,0,none⟩) (v:=.slice a ns.length cap) h1 (by simp[go_sem]);clear h1
   go_wp2_with fail
   refine(qgi _ _ _ _ _ hf.1).mono ?_;rintro e w2 ⟨rfl,h2⟩;go_wp2;go_ret;exact⟨by rw[HH.out];rfl,qaa hB h2⟩
def strCells (l:List (List UInt8)):List Value:=l.map fun s=>Value.string ⟨s.toArray⟩
def qb1:List (List UInt8×List UInt8)→List Value
 | []=>[]
 | a::r=> .string ⟨a.1.toArray⟩:: .string ⟨a.2.toArray⟩::qb1 r
theorem qel:∀l,(qb1 l).length=l.length*2
 | []=>rfl
 | _::r=>by simp[qb1,qel r];omega
theorem qgU:∀(l:List (List UInt8×List UInt8)) (i:Nat) (h:i<l.length),(qb1 l)[i*2]? =some (.string ⟨l[i].1.toArray⟩)∧(qb1 l)[i*2+1]? =some (.string ⟨l[i].2.toArray⟩)
 | [],i,h=>by simp at h
 | a::r,0,_=>by simp[qb1]
 | a::r,i+1,h=>by
  have:=qgU r i (by simpa using h);rw[show (i+1)*2=i*2+1+1 by omega]
  simpa [qb1] using this
theorem qcM:∀(l:List (List UInt8×List UInt8)) (j:Nat) (u:Value),(qb1 l)[j]? =some u→∃(i:Nat) (h:i<l.length),(j=i*2∧u=.string ⟨l[i].1.toArray⟩)∨(j=i*2+1∧u=.string ⟨l[i].2.toArray⟩)
 | [],j,u,h=>by simp[qb1]at h
 | a::r,0,u,h=>by simp[qb1]at h;exact⟨0,by simp,Or.inl ⟨rfl,h.symm⟩⟩
 | a::r,1,u,h=>by simp[qb1]at h;exact⟨0,by simp,Or.inr ⟨rfl,h.symm⟩⟩
 | a::r,j+2,u,h=>by
  obtain⟨i,hi,hh⟩:=qcM r j u (by simpa [qb1] using h);refine⟨i+1,by simpa using hi,?_⟩
  rcases hh with ⟨rfl,rfl⟩|⟨rfl,rfl⟩
  ·exact Or.inl ⟨by omega,by simp⟩
  ·exact Or.inr ⟨by omega,by simp⟩
def Soft (w:World)(b:Nat):Prop:=∃cs t,w.heap[b]? =some (.cells cs t)
theorem Soft.on {w w':World}{b:Nat}(h:Soft w b)(hb:Below w.heap.size w w'):Soft w' b:=by
 obtain⟨cs,t,h⟩:=h;exact⟨cs,t,(hb.block b (Array.getElem?_eq_some_iff.1 h).1).trans h⟩
theorem Soft.set {w:World}{b M j:Nat}{u:Value}(h:Soft w b):Soft (w.setCell ⟨M,j,none⟩ u) b:=by
 obtain⟨cs,t,h⟩:=h
 by_cases e:M=b
 ·subst e;exact⟨_,t,by simp[World.setCell,Array.getElem?_modify,h];rfl⟩
 ·exact⟨cs,t,(Below.heap_setCell _ _ _ _ (by show b≠M;omega)).trans h⟩
theorem Soft.grown {w w':World}{b:Nat}{g:Option Nat}(h:Soft w b)(hg:w.grownBy w' g)(hne:some b≠g):Soft w' b:=by
 obtain⟨cs,t,h⟩:=h;exact⟨cs,t,(hg.block b (Array.getElem?_eq_some_iff.1 h).1 hne).trans h⟩
def qaB (B:Nat)(w:World)(v:Value)(ss:List (List UInt8)):Prop:=
 ∃a cap,v=.slice a ss.length cap∧(ss=[]∨∃b o,a=some ⟨b,o,none⟩∧B≤b∧Soft w b∧∀i (h:i<ss.length),w.cell? ⟨b,o+i,none⟩=some (.string ⟨ss[i].toArray⟩))
theorem qaB.on {B:Nat}{w w':World}{v:Value}{ss:List (List UInt8)}(h:qaB B w v ss)(hb:Below w.heap.size w w'):qaB B w' v ss:=by
 obtain⟨a,cap,rfl,h⟩:=h;refine⟨a,cap,rfl,?_⟩
 rcases h with h|⟨b,o,ha,hB,hs,hc⟩
 ·exact Or.inl h
 ·exact Or.inr ⟨b,o,ha,hB,hs.on hb,fun i hi=>qab hb (hc i hi)⟩
theorem qaB.mono {B B':Nat}{w:World}{v:Value}{ss:List (List UInt8)}(h:qaB B w v ss)(hB:B'≤B):qaB B' w v ss:=by
 obtain⟨a,cap,rfl,h⟩:=h;refine⟨a,cap,rfl,?_⟩
 rcases h with h|⟨b,o,ha,hB2,hc⟩
 ·exact Or.inl h
 ·exact Or.inr ⟨b,o,ha,by omega,hc⟩
def qaM (B:Nat)(w:World)(v:Value)(ss:List (List UInt8×List UInt8)):Prop:=
 ∃a cap,v=.slice a ss.length cap∧(ss=[]∨∃b o,a=some ⟨b,o,none⟩∧B≤b∧Soft w b∧∀i (h:i<ss.length),w.cell? ⟨b,o+i*2,none⟩=some (.string ⟨ss[i].1.toArray⟩)∧w.cell? ⟨b,o+i*2+1,none⟩=some (.string ⟨ss[i].2.toArray⟩))
theorem qaM.on {B:Nat}{w w':World}{v:Value}{ss:List (List UInt8×List UInt8)}(h:qaM B w v ss)(hb:Below w.heap.size w w'):qaM B w' v ss:=by
 obtain⟨a,cap,rfl,h⟩:=h;refine⟨a,cap,rfl,?_⟩
 rcases h with h|⟨b,o,ha,hB,hs,hc⟩
 ·exact Or.inl h
 ·exact Or.inr ⟨b,o,ha,hB,hs.on hb,fun i hi=>⟨qab hb (hc i hi).1,qab hb (hc i hi).2⟩⟩
theorem qaM.mono {B B':Nat}{w:World}{v:Value}{ss:List (List UInt8×List UInt8)}(h:qaM B w v ss)(hB:B'≤B):qaM B' w v ss:=by
 obtain⟨a,cap,rfl,h⟩:=h;refine⟨a,cap,rfl,?_⟩
 rcases h with h|⟨b,o,ha,hB2,hc⟩
 ·exact Or.inl h
 ·exact Or.inr ⟨b,o,ha,by omega,hc⟩
def NdF (B:Nat)(w:World)(v:Value)(x:Pl.Nd):Prop:=
 ∃vc va,v=.agg #[.int .i64 x.up,.string ⟨x.tag.toArray⟩,.string ⟨x.id.toArray⟩,vc,va]∧qaB B w vc x.cls∧qaM B w va x.ats
theorem qbj {w:World}{b o M j:Nat}{v u:Value}(h:w.cell? ⟨b,o,none⟩=some v)(hne:M≠b):(w.setCell ⟨M,j,none⟩ u).cell? ⟨b,o,none⟩=some v:=by
 rw[World.cell?_setCell_other _ _ _ _ (by intro e;injection e;omega)];exact h
theorem qaB.set {B:Nat}{w:World}{v:Value}{ss:List (List UInt8)}(h:qaB B w v ss){M:Nat}(hM:M<B)(j:Nat)(u:Value):qaB B (w.setCell ⟨M,j,none⟩ u) v ss:=by
 obtain⟨a,cap,rfl,h⟩:=h;refine⟨a,cap,rfl,?_⟩
 rcases h with h|⟨b,o,ha,hB,hs,hc⟩
 ·exact Or.inl h
 ·exact Or.inr ⟨b,o,ha,hB,hs.set,fun i hi=>qbj (hc i hi) (by omega)⟩
theorem qaM.set {B:Nat}{w:World}{v:Value}{ss:List (List UInt8×List UInt8)}(h:qaM B w v ss){M:Nat}(hM:M<B)(j:Nat)(u:Value):qaM B (w.setCell ⟨M,j,none⟩ u) v ss:=by
 obtain⟨a,cap,rfl,h⟩:=h;refine⟨a,cap,rfl,?_⟩
 rcases h with h|⟨b,o,ha,hB,hs,hc⟩
 ·exact Or.inl h
 ·exact Or.inr ⟨b,o,ha,hB,hs.set,fun i hi=>⟨qbj (hc i hi).1 (by omega),qbj (hc i hi).2 (by omega)⟩⟩
theorem qgu {w:World}{B:Nat}{v:Value}{l:List (List UInt8)}(h:w.ownsRow B 9 1 v l.length (strCells l)):qaB B w v l:=by
 have hh:=h;obtain⟨_,h0|⟨g,cap,cur,rfl,hBg,hgg,_⟩⟩:=h
 ·obtain⟨rfl,hl⟩:=h0;have:l=[]:=by simpa using hl
  subst this;exact⟨none,0,rfl,Or.inl rfl⟩
 ·refine⟨_,cap,rfl,Or.inr ⟨g,0,rfl,hBg,⟨cur,_,hgg⟩,fun i hi=>?_⟩⟩;have:=World.ownsRow.cells hh rfl i (.string ⟨l[i].toArray⟩) (by simp[strCells,List.getElem?_eq_getElem hi]);rw[Addr.add_lit]at this;exact this
theorem qgH {w:World}{B:Nat}{v:Value}{l:List (List UInt8×List UInt8)}(h:w.ownsRow B 59 2 v l.length (qb1 l)):qaM B w v l:=by
 have hh:=h;obtain⟨_,h0|⟨g,cap,cur,rfl,hBg,hgg,_⟩⟩:=h
 ·obtain⟨rfl,hl⟩:=h0;have:l=[]:=by simpa using hl
  subst this;exact⟨none,0,rfl,Or.inl rfl⟩
 ·refine⟨_,cap,rfl,Or.inr ⟨g,0,rfl,hBg,⟨cur,_,hgg⟩,fun i hi=>?_⟩⟩;obtain⟨a0,a1⟩:=qgU l i hi;have h0:=World.ownsRow.cells hh rfl _ _ a0;have h1:=World.ownsRow.cells hh rfl _ _ a1;rw[Addr.add_lit]at h0 h1;exact⟨h0,h1⟩
theorem Tryz.info9:(Tryz.prog.info? 9).map (fun i=>(i.zero,i.size,i.bytes))=some (some (.string ⟨#[]⟩),1,16):=by kernel_rfl
theorem Tryz.info59:(Tryz.prog.info? 59).map (fun i=>(i.zero,i.size,i.bytes))=some (some (.agg #[.string ⟨#[]⟩,.string ⟨#[]⟩]),2,32):=by kernel_rfl
theorem qeg {t:TypeId}{e:TypeId}(ht:Tryz.prog.underlying t=some (.slice e)){i:TypeInfo}(hi:Tryz.prog.info? e=some i)(a:Option Addr)(c:Nat)(ty:TypeId)(w:World):
 (Builtin.append_ #[t,t] ty #[.slice none 0 0,.slice a 0 c]).run Tryz.prog w=.ok (.slice none 0 0) w:=by
 cases a with
 | none=>simp[Builtin.append_,run_underlying ht,sizeOf,typeInfo,hi,Builtin.lenOf,Builtin.firstCells]
 | some p=>
  have h0:=run_loadCells_list (P:=Tryz.prog) w p [] (fun j v hj=>by simp at hj);simp only[List.length_nil]at h0;simp[Builtin.append_,run_underlying ht,sizeOf,typeInfo,hi,Builtin.lenOf,Builtin.firstCells,h0]
theorem qic {w:World}{ops:Array Oper}{rest:List Oper}{o:Oper}{a:Act}{Q:Exit→Act→World→Prop}(hgd:o.guard=none)(s x:Operand)
 (ho:o.op=.call { callee:=.builtin .append,args:= #[s,x],argTypes:= #[25,25] }) (hs:a.eval s=.slice none 0 0) (xv:Value) (ss:List (List UInt8)) (hx:a.eval x=xv) (hS:qa1 w xv ss) (hl:ss.length≤6)
 (h:∀a' c' w',qaB w.heap.size w' (.slice a' ss.length c') ss→Below w.heap.size w w'→wpList Tryz.prog ops Q rest (a.put o.dst (.slice a' ss.length c')) w'):wpList Tryz.prog ops Q (o::rest) a w:=by
 obtain⟨i9,hi9,hz0,hz1,hz2⟩:=info_parts Tryz.info9;obtain⟨ad,cap,rfl,hc⟩:=hS
 rcases hc with rfl|⟨b,of,rfl,hc⟩
 ·refine wpList_plain hgd fun K hK=>?_
  have hr:=qeg Tryz.underlying25 hi9 ad cap o.type w;unfold Oper.wp execOp;simp only[ho,resolve,invoke,builtin,Sem.run_bind,Sem.run_pure,Result.andThen_ok,List.map_toArray,List.map_cons,List.map_nil,hs,hx,List.length_nil,hr];exact hK _ _ (h none 0 w ⟨none,0,rfl,Or.inl rfl⟩ (Below.refl _ _))
 ·refine wpList_append_own w hgd s x 25 ho w.heap.size 9 i9 (.string ⟨#[]⟩) 1 16 Tryz.underlying25 hi9 hz0 hz1 hz2 rfl (by decide) (.slice none 0 0) 0 [] hs (World.ownsRow_nil _ _ _ _) ⟨b,of,none⟩ ss.length cap (strCells ss) hx (by simp[strCells]) ?_ ?_ (by unfold maxLen;omega) (by omega) (Nat.le_refl _) ?_
  ·intro j u hj
   have hlt:j<ss.length:=by
    have:=(List.getElem?_eq_some_iff.1 hj).1
    simpa [strCells] using this
   rw[Addr.add_lit,hc j hlt];simp[strCells,List.getElem?_eq_getElem hlt]at hj;rw[hj]
  ·intro u hu;simp only[strCells,List.mem_map]at hu;obtain⟨_,_,rfl⟩:=hu;rfl
  ·intro v' w' hown hg _;rw[Nat.zero_add,List.nil_append]at hown;have hS':=qgu hown;obtain⟨a',c',rfl,hcc⟩:=id hS';exact h a' c' w' hS' ((Below.refl _ _).grown hg (Nat.le_refl _) (fun k hk=>by simp[Value.ownBlock]at hk))
theorem qit {w:World}{ops:Array Oper}{rest:List Oper}{o:Oper}{a:Act}{Q:Exit→Act→World→Prop}(hgd:o.guard=none)(s x:Operand)
 (ho:o.op=.call { callee:=.builtin .append,args:= #[s,x],argTypes:= #[26,26] }) (hs:a.eval s=.slice none 0 0) (xv:Value) (ss:List (List UInt8×List UInt8)) (hx:a.eval x=xv) (hS:qbY w xv ss) (hl:ss.length≤4)
 (h:∀a' c' w',qaM w.heap.size w' (.slice a' ss.length c') ss→Below w.heap.size w w'→wpList Tryz.prog ops Q rest (a.put o.dst (.slice a' ss.length c')) w'):wpList Tryz.prog ops Q (o::rest) a w:=by
 obtain⟨i9,hi9,hz0,hz1,hz2⟩:=info_parts Tryz.info59;obtain⟨ad,cap,rfl,hc⟩:=hS
 rcases hc with rfl|⟨b,of,rfl,hc⟩
 ·refine wpList_plain hgd fun K hK=>?_
  have hr:=qeg Tryz.underlying26 hi9 ad cap o.type w;unfold Oper.wp execOp;simp only[ho,resolve,invoke,builtin,Sem.run_bind,Sem.run_pure,Result.andThen_ok,List.map_toArray,List.map_cons,List.map_nil,hs,hx,List.length_nil,hr];exact hK _ _ (h none 0 w ⟨none,0,rfl,Or.inl rfl⟩ (Below.refl _ _))
 ·refine wpList_append_own w hgd s x 26 ho w.heap.size 59 i9 (.agg #[.string ⟨#[]⟩,.string ⟨#[]⟩]) 2 32 Tryz.underlying26 hi9 hz0 hz1 hz2 rfl (by decide) (.slice none 0 0) 0 [] hs (World.ownsRow_nil _ _ _ _) ⟨b,of,none⟩ ss.length cap (qb1 ss) hx (qel ss) ?_ ?_ (by unfold maxLen;omega) (by omega) (Nat.le_refl _) ?_
  ·intro j u hj;obtain⟨i,hi,⟨rfl,rfl⟩|⟨rfl,rfl⟩⟩:=qcM ss j u hj
   ·rw[Addr.add_lit];exact(hc i hi).1
   ·rw[Addr.add_lit];exact(hc i hi).2
  ·intro u hu;obtain⟨j,hj⟩:=List.getElem?_of_mem hu;obtain⟨i,hi,⟨rfl,rfl⟩|⟨rfl,rfl⟩⟩:=qcM ss j u hj<;>rfl
  ·intro v' w' hown hg _;rw[Nat.zero_add,List.nil_append]at hown;have hS':=qgH hown;obtain⟨a',c',rfl,hcc⟩:=id hS';exact h a' c' w' hS' ((Below.refl _ _).grown hg (Nat.le_refl _) (fun k hk=>by simp[Value.ownBlock]at hk))
def Blk (w:World)(N:Nat)(c0 c1 c2 c3 c4:Value):Prop:=w.heap[N]? =some (.cells #[c0,c1,c2,c3,c4] 28)
theorem Blk.facts {w:World}{N:Nat}{c0 c1 c2 c3 c4:Value}(h:Blk w N c0 c1 c2 c3 c4):
 (w.cell? ⟨N,0,none⟩=some c0∧w.cell? ⟨N,1,none⟩=some c1∧w.cell? ⟨N,2,none⟩=some c2∧w.cell? ⟨N,3,none⟩=some c3∧w.cell? ⟨N,4,none⟩=some c4)∧∀i,w.frozen? ⟨N,i,none⟩=false:=by
 unfold Blk at h;refine⟨⟨?_,?_,?_,?_,?_⟩,fun i=>?_⟩
 all_goals simp[World.cell?,World.frozen?,h]
theorem Blk.on {w w':World}{N:Nat}{c0 c1 c2 c3 c4:Value}(h:Blk w N c0 c1 c2 c3 c4)(hb:Below w.heap.size w w'):Blk w' N c0 c1 c2 c3 c4:=by
 have hlt:N<w.heap.size:=(Array.getElem?_eq_some_iff.1 h).1;unfold Blk;rw[hb.block N hlt];exact h
theorem Blk.lt {w:World}{N:Nat}{c0 c1 c2 c3 c4:Value}(h:Blk w N c0 c1 c2 c3 c4):N<w.heap.size:=(Array.getElem?_eq_some_iff.1 h).1
theorem Blk.set3 {w:World}{N:Nat}{c0 c1 c2 c3 c4:Value}(h:Blk w N c0 c1 c2 c3 c4)(v:Value):Blk (w.setCell ⟨N,3,none⟩ v) N c0 c1 c2 v c4:=by
 unfold Blk at *;simp[World.setCell,Array.getElem?_modify,h]
theorem Blk.set4 {w:World}{N:Nat}{c0 c1 c2 c3 c4:Value}(h:Blk w N c0 c1 c2 c3 c4)(v:Value):Blk (w.setCell ⟨N,4,none⟩ v) N c0 c1 c2 c3 v:=by
 unfold Blk at *;simp[World.setCell,Array.getElem?_modify,h]
theorem Blk.set0 {w:World}{N:Nat}{c0 c1 c2 c3 c4:Value}(h:Blk w N c0 c1 c2 c3 c4)(v:Value):Blk (w.setCell ⟨N,0,none⟩ v) N v c1 c2 c3 c4:=by
 unfold Blk at *;simp[World.setCell,Array.getElem?_modify,h]
theorem Blk.set1 {w:World}{N:Nat}{c0 c1 c2 c3 c4:Value}(h:Blk w N c0 c1 c2 c3 c4)(v:Value):Blk (w.setCell ⟨N,1,none⟩ v) N c0 v c2 c3 c4:=by
 unfold Blk at *;simp[World.setCell,Array.getElem?_modify,h]
theorem Blk.set2 {w:World}{N:Nat}{c0 c1 c2 c3 c4:Value}(h:Blk w N c0 c1 c2 c3 c4)(v:Value):Blk (w.setCell ⟨N,2,none⟩ v) N c0 c1 v c3 c4:=by
 unfold Blk at *;simp[World.setCell,Array.getElem?_modify,h]
theorem Blk.other {w:World}{N M i:Nat}{c0 c1 c2 c3 c4:Value}(h:Blk w N c0 c1 c2 c3 c4)(hne:M≠N)(v:Value):Blk (w.setCell ⟨M,i,none⟩ v) N c0 c1 c2 c3 c4:=by
 unfold Blk at *;rw[Below.heap_setCell _ _ _ _ (by exact fun e=>hne e.symm)];exact h
theorem two_blks (w:World)(c0 c1 c2 c3 c4 d0 d1 d2 d3 d4:Value):
 Blk ((w.alloc (.cells #[c0,c1,c2,c3,c4] 28)).alloc (.cells #[d0,d1,d2,d3,d4] 28)) w.heap.size c0 c1 c2 c3 c4∧Blk ((w.alloc (.cells #[c0,c1,c2,c3,c4] 28)).alloc (.cells #[d0,d1,d2,d3,d4] 28)) (w.heap.size+1) d0 d1 d2 d3 d4:=by
 unfold Blk;constructor
 ·rw[Below.heap_alloc _ _ _ (by simp)]
  show (w.heap.push _)[w.heap.size]? =_
  simp
 ·show ((w.heap.push _).push _)[w.heap.size+1]? =_
  rw[Array.getElem?_push,if_pos (by simp)]
theorem qf6 (v:Value)(x:Pl.Nd)(u:Int)(w:World)(hr:x.cls.length≤6)(hr2:x.ats.length≤4)(hv:NdV w v x):
 Calls Tryz.prog 85 #[v,.int .i64 u] w fun e w'=>∃nv,e=.returned nv∧NdF w.heap.size w' nv { x with up:=u }∧Below w.heap.size w w':=by
 obtain⟨vc,va,rfl,hc,ha⟩:=hv;obtain⟨ac,cc,rfl,_⟩:=id hc;obtain⟨aa,ca,rfl,_⟩:=id ha;have HC:Hid (qa1 w (.slice ac x.cls.length cc) x.cls):=hc;have HA:Hid (qbY w (.slice aa x.ats.length ca) x.ats):=ha;clear hc ha;go_enter Tryz.func85,Tryz.ntmps85
 go_wp2_with (at_builtin;refine qic rfl _ _ rfl rfl _ x.cls rfl (qa1.on HC.out ?hb0) hr ?_;rotate_left;intro a1 c1 w1 hs1 hb1;refine Hid.out ?_)
 case hb0=>exact((Below.refl _ _).alloc (Nat.le_refl _) _).alloc (by simp) _
 unfold Hid;obtain⟨bN,bR⟩:=two_blks w (.int .i64 u) (.string ⟨x.tag.toArray⟩) (.string ⟨x.id.toArray⟩) (.slice ac x.cls.length cc) (.slice aa x.ats.length ca) (.int .i64 0) (.string ⟨#[]⟩) (.string ⟨#[]⟩) (.slice none 0 0) (.slice none 0 0);replace bN:=bN.on hb1;replace bR:=bR.on hb1;have hB1:Below w.heap.size w w1:=qaa (((Below.refl _ _).alloc (Nat.le_refl _) _).alloc (by simp) _) hb1;clear hb1;obtain⟨⟨c0,c1',c2,c3,c4⟩,fN⟩:=bN.facts;have bN2:=bN.set3 (.slice a1 x.cls.length c1);have bR2:=bR.other (i:=3) (M:=w.heap.size) (by omega) (.slice a1 x.cls.length c1);have hB2:Below w.heap.size w (w1.setCell ⟨w.heap.size,3,none⟩ (.slice a1 x.cls.length c1)):=hB1.setCell (p:=⟨w.heap.size,3,none⟩) (Nat.le_refl _) _;have hs2:qaB (w.heap.size+1+1) _ _ _:=(by simpa using hs1:qaB (w.heap.size+1+1) w1 (.slice a1 x.cls.length c1) x.cls).set (M:=w.heap.size) (by omega) 3 (.slice a1 x.cls.length c1);have hsz:=bR.lt;obtain⟨⟨e0,e1,e2,e3,e4⟩,fN2⟩:=bN2.facts;clear bN bR hB1 hs1
 go_wp2_with (at_builtin;refine qit rfl _ _ rfl rfl _ x.ats rfl (qbY.on HA.out ?hb1) hr2 ?_;rotate_left;intro a2 c2' w2 hs3 hb2;refine Hid.out ?_)
 case hb1=>exact hB2
 unfold Hid;have hz1:(w1.setCell ⟨w.heap.size,3,none⟩ (.slice a1 x.cls.length c1)).heap.size=w1.heap.size:=by simp[World.setCell]
 replace hs3:qaM (w.heap.size+1+1) w2 (.slice a2 x.ats.length c2') x.ats:=qaM.mono hs3 (by omega);have hs4:=hs2.on hb2;have bN3:=bN2.on hb2;have bR3:=bR2.on hb2;have hB3:Below w.heap.size w w2:=qaa hB2 hb2;clear hb2 hs2 bN2 bR2 hB2 e0 e1 e2 e3 e4 fN2 c0 c1' c2 c3 c4 fN hz1;have bN4:=bN3.set4 (.slice a2 x.ats.length c2');have bR4:=bR3.other (i:=4) (M:=w.heap.size) (by omega) (.slice a2 x.ats.length c2');obtain⟨⟨g0,g1,g2,g3,g4⟩,fN3⟩:=bN3.facts;obtain⟨⟨n0,n1,n2,n3,n4⟩,fN4⟩:=bN4.facts;obtain⟨⟨r0,r1,r2,r3,r4⟩,fR4⟩:=bR4.facts;have hs5:=(hs4.set (M:=w.heap.size) (by omega) 4 (.slice a2 x.ats.length c2'))
 have hs6:=(hs3.set (M:=w.heap.size) (by omega) 4 (.slice a2 x.ats.length c2'))
 have hB4:Below w.heap.size w (w2.setCell ⟨w.heap.size,4,none⟩ (.slice a2 x.ats.length c2')):=hB3.setCell (p:=⟨w.heap.size,4,none⟩) (Nat.le_refl _) _;clear bN3 bR3 hs4 hs3 hB3
 go_wp2_with fail
 have bF:=((((bR4.set0 (.int .i64 u)).set1 (.string ⟨x.tag.toArray⟩)).set2 (.string ⟨x.id.toArray⟩)).set3 (.slice a1 x.cls.length c1)).set4 (.slice a2 x.ats.length c2');have hs7:=((((hs5.set (M:=w.heap.size+1) (by omega) 0 (.int .i64 u)).set (M:=w.heap.size+1) (by omega) 1 (.string ⟨x.tag.toArray⟩)).set (M:=w.heap.size+1) (by omega) 2 (.string ⟨x.id.toArray⟩)).set (M:=w.heap.size+1) (by omega) 3 (.slice a1 x.cls.length c1)).set (M:=w.heap.size+1) (by omega) 4 (.slice a2 x.ats.length c2');have hs8:=((((hs6.set (M:=w.heap.size+1) (by omega) 0 (.int .i64 u)).set (M:=w.heap.size+1) (by omega) 1 (.string ⟨x.tag.toArray⟩)).set (M:=w.heap.size+1) (by omega) 2 (.string ⟨x.id.toArray⟩)).set (M:=w.heap.size+1) (by omega) 3 (.slice a1 x.cls.length c1)).set (M:=w.heap.size+1) (by omega) 4 (.slice a2 x.ats.length c2');have hB5:=((((hB4.setCell (p:=⟨w.heap.size+1,0,none⟩) (Nat.le_succ _) (.int .i64 u)).setCell (p:=⟨w.heap.size+1,1,none⟩) (Nat.le_succ _) (.string ⟨x.tag.toArray⟩)).setCell (p:=⟨w.heap.size+1,2,none⟩) (Nat.le_succ _) (.string ⟨x.id.toArray⟩)).setCell (p:=⟨w.heap.size+1,3,none⟩) (Nat.le_succ _) (.slice a1 x.cls.length c1)).setCell (p:=⟨w.heap.size+1,4,none⟩) (Nat.le_succ _) (.slice a2 x.ats.length c2');generalize (((((w2.setCell ⟨w.heap.size,4,none⟩ (.slice a2 x.ats.length c2')).setCell ⟨w.heap.size+1,0,none⟩ (.int .i64 u)).setCell ⟨w.heap.size+1,1,none⟩ (.string ⟨x.tag.toArray⟩)).setCell ⟨w.heap.size+1,2,none⟩ (.string ⟨x.id.toArray⟩)).setCell ⟨w.heap.size+1,3,none⟩ (.slice a1 x.cls.length c1)).setCell ⟨w.heap.size+1,4,none⟩ (.slice a2 x.ats.length c2')=wF at *;obtain⟨⟨q0,q1,q2,q3,q4⟩,_⟩:=bF.facts
 exact bodyPost_ret (v:=.agg #[.int .i64 u,.string ⟨x.tag.toArray⟩,.string ⟨x.id.toArray⟩,.slice a1 x.cls.length c1,.slice a2 x.ats.length c2']) (by simp[results,Tryz.results85,go_sem,q0,q1,q2,q3,q4]) rfl
  ⟨_,rfl,⟨_,_,rfl,hs7.mono (by omega),hs8.mono (by omega)⟩,hB5⟩
end Go.Proofs.YtephhllfodlfbaaGreatDoor
