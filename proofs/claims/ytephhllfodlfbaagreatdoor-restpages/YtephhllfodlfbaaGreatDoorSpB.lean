/-
  live's change, whatever closure it is handed.
-/
import Derived.Test.YtephhllfodlfbaaGreatDoorVLiv
set_option maxRecDepth 100000
set_option maxHeartbeats 16000000
namespace Go.Proofs.YtephhllfodlfbaaGreatDoor
open Go.RowKit
def ChSaysK (K:Kd)(n:Nat)(pe E:Int)(ms:List Pl.Nd)(w:World)(e:Ending)(w':World):Prop:=
 ∃v,e=.returned (.tuple #[v,.int .i64 (qe8 pe E ms)])∧(PgAt w' v (qeT pe E ms) (qeZ pe E ms)∧PgK K n w' v)∧Below w.heap.size w w'
theorem change_k {K:Kd}(hK:KK K)(n:Nat)(v:Value)(ns:List Pl.Nd)(l:List Pl.Er)(F:Nat)(caps:Array Value)(E:Int)(ms:List Pl.Nd)(w:World)(hn:n≤w.heap.size)(hp:PgAt w v ns l)(hl:qcI l)(hen:∀args W,(callFunc F args).run Tryz.prog W=.ok (.enter F args) W)
 (hcl:∀W dv,Below w.heap.size w W→qar W dv ns→Calls Tryz.prog F (#[.agg #[dv]]++caps) W fun e w'=>∃v',e=.returned (.tuple #[.agg #[v'],.int .i64 E])∧(qar w' v' ms∧K w' v')∧Below W.heap.size W w'):
 Calls Tryz.prog 33 #[v,.func (.func F) #[] caps] w fun e w'=>ChSaysK K n (qaw ns l) E ms w e w':=by
 have HKK:Hid (KK K):=hK;clear hK;have hpc:∀W,Below w.heap.size w W→Calls Tryz.prog 79 #[v] W fun e w'=>e=.returned (.int .i64 (qaw ns l))∧Below W.heap.size W w':=fun W hW=>pcheck_any v ns l W (hp.on hW) hl
 generalize qaw ns l=r at hpc ⊢;obtain⟨a,c,a2,c2,rfl,hd,_⟩:=hp;have HPC:Hid (∀W,Below w.heap.size w W→Calls Tryz.prog 79 #[.agg #[.slice a ns.length c,.slice a2 l.length c2]] W fun e w'=>e=.returned (.int .i64 r)∧Below W.heap.size W w'):=hpc;clear hpc;have hb0:=boxes w (.cells #[.slice a ns.length c,.slice a2 l.length c2] 32) (.cells #[.slice none 0 0,.slice none 0 0] 32)
 have bR:Blk2 ((w.alloc (.cells #[.slice a ns.length c,.slice a2 l.length c2] 32)).alloc (.cells #[.slice none 0 0,.slice none 0 0] 32)) (w.heap.size+1) (.slice none 0 0) (.slice none 0 0):=by
  have:=Blk2.new (w.alloc (.cells #[.slice a ns.length c,.slice a2 l.length c2] 32)) (.slice none 0 0) (.slice none 0 0)
  simpa using this
 have bS:Blk2 ((w.alloc (.cells #[.slice a ns.length c,.slice a2 l.length c2] 32)).alloc (.cells #[.slice none 0 0,.slice none 0 0] 32)) w.heap.size (.slice a ns.length c) (.slice a2 l.length c2):=(Blk2.new w _ _).on (qac _ _);have HB0:Hid (Below _ _ _):=hb0;have HBR:Hid (Blk2 _ _ _ _):=bR;have HBS:Hid (Blk2 _ _ _ _):=bS;have HD:Hid (qar w (.slice a ns.length c) ns):=hd;have HCL:Hid (∀W dv,Below w.heap.size w W→qar W dv ns→Calls Tryz.prog F (#[.agg #[dv]]++caps) W fun e w'=>∃v',e=.returned (.tuple #[.agg #[v'],.int .i64 E])∧(qar w' v' ms∧K w' v')∧Below W.heap.size W w'):=hcl;obtain⟨⟨x0,x1⟩,_⟩:=bS.facts;clear hd hb0 bR bS hl hcl;go_enter Tryz.func33,Tryz.ntmps33
 go_wp2_with fail
 generalize (w.alloc (.cells #[.slice a ns.length c,.slice a2 l.length c2] 32)).alloc (.cells #[.slice none 0 0,.slice none 0 0] 32)=w0 at *;refine(HPC.out _ HB0.out).mono ?_;rintro e w1 ⟨rfl,hb1⟩;have HB1:Hid (Below w.heap.size w w1):=qaa HB0.out hb1;have HBR1:Hid (Blk2 _ _ _ _):=Blk2.on HBR.out hb1;obtain⟨⟨y0,y1⟩,_⟩:=(Blk2.on HBS.out hb1).facts;clear hb1 x0 x1
 cases hpe:(r !=0) with
 | true=>
  have HA:Hid (qe8 r E ms=r∧qeT r E ms=[]∧qeZ r E ms=[]):=by
   have:¬r=0:=by simpa using hpe
   unfold Hid qe8 qeT qeZ;simp[this]
  obtain⟨⟨r0,r1⟩,fR⟩:=HBR1.out.facts;obtain⟨p1,p2⟩:=PgAt.box (ns:=[]) (l:=[]) (qar.nil _) (qbl.nil _) HBR1.out;obtain⟨⟨q0,q1⟩,_⟩:=p2.facts;have pk:=PgK.box HKK.out (HKK.out.nil w1) (kArr.nil n _ _ w1) HBR1.out rfl rfl;simp only[List.length_nil]at p1 q0 q1;have HP1:Hid (PgAt _ _ _ _∧PgK K n _ _):=⟨p1,pk⟩
  have HQ0:Hid _:=q0;have HQ1:Hid _:=q1;clear p1 p2 pk q0 q1;go_wp2;have q0:=HQ0.out;have q1:=HQ1.out
  exact bodyPost_ret (v:=.tuple #[.agg #[.slice none 0 0,.slice none 0 0],.int .i64 r]) (by simp[results,Tryz.results33,go_sem,q0,q1]) rfl
   ⟨_,by rw[HA.out.1],by rw[HA.out.2.1,HA.out.2.2];exact HP1.out,(HB1.out.setCell (p:=⟨w.heap.size+1,0,none⟩) (by simp) _).setCell (p:=⟨w.heap.size+1,1,none⟩) (by simp) _⟩
 | false=>
  have HA:Hid (qe8 r E ms=qd8 E ms∧qeT r E ms=qd9 E ms∧qeZ r E ms=qeb E ms):=by
   have:r=0:=by simpa using hpe
   unfold Hid qe8 qeT qeZ;simp[this]
  go_wp2_with fail
  refine(HCL.out w1 _ HB1.out (qar.on HD.out HB1.out)).mono ?_;rintro e w2 ⟨v',rfl,⟨hd2,hk2⟩,hb2⟩;obtain⟨a3,c3,rfl⟩:=hd2.form;have HD2:Hid (qar _ _ _):=hd2;have HK2:Hid (K _ _):=hk2;have HB2:Hid (Below w.heap.size w w2):=qaa HB1.out hb2;have HBR2:Hid (Blk2 _ _ _ _):=Blk2.on HBR1.out hb2;clear hd2 hk2 hb2
  go_wp2_with fail
  refine(qiC HKK.out n _ ms E _ HD2.out HK2.out (Nat.le_trans hn HB2.out.size)).mono ?_;rintro e w3 ⟨v3,rfl,⟨hp3,hk3⟩,hb3⟩;obtain⟨a4,c4,a5,c5,rfl,hd4,he4⟩:=hp3;obtain⟨dv4,iv4,e4,hdk4,hik4⟩:=hk3
  obtain⟨rfl,rfl⟩:dv4=.slice a4 (qd9 E ms).length c4∧iv4=.slice a5 (qeb E ms).length c5:=by
   injection e4 with e4;injection e4 with e4;injection e4 with e4 e5;injection e5 with e5;exact⟨e4.symm,e5.symm⟩
  have HB3:Hid (Below w.heap.size w w3):=qaa HB2.out hb3;have bR3:=Blk2.on HBR2.out hb3;obtain⟨⟨r0,r1⟩,fR⟩:=bR3.facts;obtain⟨p1,p2⟩:=PgAt.box hd4 he4 bR3;have pk:=PgK.box HKK.out hdk4 hik4 bR3 rfl rfl;obtain⟨⟨q0,q1⟩,_⟩:=p2.facts;have HP1:Hid (PgAt _ _ _ _∧PgK K n _ _):=⟨p1,pk⟩
  have HQ0:Hid _:=q0;have HQ1:Hid _:=q1;clear p1 p2 pk q0 q1 hd4 he4 hdk4 hik4 e4 bR3 hb3;generalize qd9 E ms=D at *;generalize qeb E ms=I at *;generalize qd8 E ms=PE at *;go_wp2;have q0:=HQ0.out;have q1:=HQ1.out
  exact bodyPost_ret (v:=.tuple #[.agg #[.slice a4 D.length c4,.slice a5 I.length c5],.int .i64 PE]) (by simp[results,Tryz.results33,go_sem,q0,q1]) rfl
   ⟨_,by rw[HA.out.1],by rw[HA.out.2.1,HA.out.2.2];exact HP1.out,(HB3.out.setCell (p:=⟨w.heap.size+1,0,none⟩) (by simp) _).setCell (p:=⟨w.heap.size+1,1,none⟩) (by simp) _⟩
theorem qgC (v:Value)(ns:List Pl.Nd)(l:List Pl.Er)(F:Nat)(caps:Array Value)(E:Int)(ms:List Pl.Nd)(w:World)(hp:PgAt w v ns l)(hl:qcI l)(hen:∀args W,(callFunc F args).run Tryz.prog W=.ok (.enter F args) W)
 (hcl:∀W dv,Below w.heap.size w W→qar W dv ns→Calls Tryz.prog F (#[.agg #[dv]]++caps) W fun e w'=>∃v',e=.returned (.tuple #[.agg #[v'],.int .i64 E])∧qar w' v' ms∧Below W.heap.size W w'):
 Calls Tryz.prog 33 #[v,.func (.func F) #[] caps] w fun e w'=>ChSays (qaw ns l) E ms w e w':=by
 refine(change_k kk_all 0 v ns l F caps E ms w (Nat.zero_le _) hp hl hen fun W dv h1 h2=>(hcl W dv h1 h2).mono ?_).mono ?_
 ·rintro e w' ⟨v',h1,h2,h3⟩;exact⟨v',h1,⟨h2,trivial⟩,h3⟩
 ·rintro e w' ⟨v,h1,⟨h2,-⟩,h3⟩;exact⟨v,h1,h2,h3⟩
theorem enter19 (args:Array Value)(W:World):(callFunc 34 args).run Tryz.prog W=.ok (.enter 34 args) W:=by simp[callFunc,go_sem,Tryz.func34,Tryz.f34]
theorem enter21 (args:Array Value)(W:World):(callFunc 36 args).run Tryz.prog W=.ok (.enter 36 args) W:=by simp[callFunc,go_sem,Tryz.func36,Tryz.f36]
theorem enter23 (args:Array Value)(W:World):(callFunc 38 args).run Tryz.prog W=.ok (.enter 38 args) W:=by simp[callFunc,go_sem,Tryz.func38,Tryz.f38]
theorem remCl (dv:Value)(ns:List Pl.Nd)(n:Int)(N1:Nat)(w:World)(hd:qar w dv ns)(h1:w.cell? ⟨N1,0,none⟩=some (.int .i64 n)):
 Calls Tryz.prog 36 #[.agg #[dv],.pointer (some ⟨N1,0,none⟩)] w fun e w'=>ClSays (qbz ns n) (qcc ns n) w e w':=by
 obtain⟨a,c,rfl⟩:=hd.form;have hb0:=boxes w (.cells #[.slice a ns.length c] 24) (.cells #[.slice none 0 0] 24)
 have bR:Blk1 ((w.alloc (.cells #[.slice a ns.length c] 24)).alloc (.cells #[.slice none 0 0] 24)) (w.heap.size+1) (.slice none 0 0):=by
  have:=Blk1.new (w.alloc (.cells #[.slice a ns.length c] 24)) (.slice none 0 0)
  simpa using this
 have bS:Blk1 ((w.alloc (.cells #[.slice a ns.length c] 24)).alloc (.cells #[.slice none 0 0] 24)) w.heap.size (.slice a ns.length c):=(Blk1.new w _).on (qac _ _);obtain⟨x0,_⟩:=bS.facts;have x1:=qab hb0 h1;clear h1;have HD:Hid (qar _ _ _):=hd.on hb0;have HB0:Hid (Below _ _ _):=hb0;have HBR:Hid (Blk1 _ _ _):=bR;clear hd hb0 bR bS;go_enter Tryz.func36,Tryz.ntmps36
 go_wp2_with fail
 generalize (w.alloc (.cells #[.slice a ns.length c] 24)).alloc (.cells #[.slice none 0 0] 24)=w0 at *;refine(remove_any _ ns n _ HD.out).mono ?_;rintro e w1 ⟨v1,rfl,hd1,hb1⟩;obtain⟨a1,c1,rfl⟩:=hd1.form;have bR1:=Blk1.on HBR.out hb1;obtain⟨r0,fR⟩:=bR1.facts;have HD1:Hid (qar (w1.setCell ⟨w.heap.size+1,0,none⟩ (.slice a1 (qcc ns n).length c1)) (.slice a1 (qcc ns n).length c1) (qcc ns n)):=hd1.sm bR1.sm;have HQ0:Hid _:=(bR1.set (.slice a1 (qcc ns n).length c1)).facts.1;have HB1:Hid (Below w.heap.size w w1):=qaa HB0.out hb1;clear hd1 hb1 bR1;have Hgen:Hid (∃D,D=qcc ns n):=⟨_,rfl⟩
 generalize hD:qcc ns n=D at HD1 HQ0 ⊢;generalize hE:qbz ns n=EE at *;have HDe:Hid _:=hD;have HEe:Hid _:=hE;clear hD hE Hgen;go_wp2;have q0:=HQ0.out
 exact bodyPost_ret (v:=.tuple #[.agg #[.slice a1 D.length c1],.int .i64 EE]) (by simp[results,Tryz.results36,go_sem,q0]) rfl
  ⟨_,by rw[HEe.out],by rw[HDe.out];exact HD1.out,HB1.out.setCell (p:=⟨w.heap.size+1,0,none⟩) (by simp) _⟩
theorem putCl (dv:Value)(ns:List Pl.Nd)(n:Int)(N1 N2:Nat)(x:Pl.Nd)(ac aa:Option Addr)(cc ca:Nat)(w:World)(hd:qar w dv ns)(h1:w.cell? ⟨N1,0,none⟩=some (.int .i64 n))(hB:Blk w N2 (.int .i64 x.up) (.string ⟨x.tag.toArray⟩) (.string ⟨x.id.toArray⟩) (.slice ac x.cls.length cc) (.slice aa x.ats.length ca))(hs:qa1 w (.slice ac x.cls.length cc) x.cls)(ha:qbY w (.slice aa x.ats.length ca) x.ats)(hfx:Fits x):
 Calls Tryz.prog 38 #[.agg #[dv],.pointer (some ⟨N1,0,none⟩),.pointer (some ⟨N2,0,none⟩)] w fun e w'=>ClSays (qcb ns n x) (qcG ns n x) w e w':=by
 obtain⟨a,c,rfl⟩:=hd.form;have hb0:=boxes w (.cells #[.slice a ns.length c] 24) (.cells #[.slice none 0 0] 24)
 have bR:Blk1 ((w.alloc (.cells #[.slice a ns.length c] 24)).alloc (.cells #[.slice none 0 0] 24)) (w.heap.size+1) (.slice none 0 0):=by
  have:=Blk1.new (w.alloc (.cells #[.slice a ns.length c] 24)) (.slice none 0 0)
  simpa using this
 have bS:Blk1 ((w.alloc (.cells #[.slice a ns.length c] 24)).alloc (.cells #[.slice none 0 0] 24)) w.heap.size (.slice a ns.length c):=(Blk1.new w _).on (qac _ _);obtain⟨x0,_⟩:=bS.facts;have x1:=qab hb0 h1;obtain⟨⟨y0,y1,y2,y3,y4⟩,_⟩:=(hB.on hb0).facts;have HNV:Hid (NdV ((w.alloc (.cells #[.slice a ns.length c] 24)).alloc (.cells #[.slice none 0 0] 24)) (.agg #[.int .i64 x.up,.string ⟨x.tag.toArray⟩,.string ⟨x.id.toArray⟩,.slice ac x.cls.length cc,.slice aa x.ats.length ca]) x):=⟨_,_,rfl,hs.on hb0,ha.on hb0⟩
 clear h1 hB hs ha;have HD:Hid (qar _ _ _):=hd.on hb0;have HB0:Hid (Below _ _ _):=hb0;have HBR:Hid (Blk1 _ _ _):=bR;clear hd hb0 bR bS;go_enter Tryz.func38,Tryz.ntmps38
 go_wp2_with fail
 generalize (w.alloc (.cells #[.slice a ns.length c] 24)).alloc (.cells #[.slice none 0 0] 24)=w0 at *;refine(put_any _ _ ns n x _ HD.out HNV.out hfx).mono ?_;rintro e w1 ⟨v1,rfl,hd1,hb1⟩;obtain⟨a1,c1,rfl⟩:=hd1.form;have bR1:=Blk1.on HBR.out hb1;obtain⟨r0,fR⟩:=bR1.facts;have HD1:Hid (qar (w1.setCell ⟨w.heap.size+1,0,none⟩ (.slice a1 (qcG ns n x).length c1)) (.slice a1 (qcG ns n x).length c1) (qcG ns n x)):=hd1.sm bR1.sm;have HQ0:Hid _:=(bR1.set (.slice a1 (qcG ns n x).length c1)).facts.1;have HB1:Hid (Below w.heap.size w w1):=qaa HB0.out hb1;clear hd1 hb1 bR1;have Hgen:Hid (∃D,D=qcG ns n x):=⟨_,rfl⟩
 generalize hD:qcG ns n x=D at HD1 HQ0 ⊢;generalize hE:qcb ns n x=EE at *;have HDe:Hid _:=hD;have HEe:Hid _:=hE;clear hD hE Hgen;go_wp2;have q0:=HQ0.out
 exact bodyPost_ret (v:=.tuple #[.agg #[.slice a1 D.length c1],.int .i64 EE]) (by simp[results,Tryz.results38,go_sem,q0]) rfl
  ⟨_,by rw[HEe.out],by rw[HDe.out];exact HD1.out,HB1.out.setCell (p:=⟨w.heap.size+1,0,none⟩) (by simp) _⟩
theorem qiS (v:Value)(ns:List Pl.Nd)(l:List Pl.Er)(n:Int)(w:World)(hp:PgAt w v ns l)(hl:qcI l)  :
 Calls Tryz.prog 9 #[v,.int .i64 n] w fun e w'=>ChSays (qaw ns l) (qbz ns n) (qcc ns n) w e w':=by
 obtain⟨a,c,a2,c2,rfl⟩:=hp.form;have hb0:Below w.heap.size w (((w.alloc (.cells #[.slice a ns.length c,.slice a2 l.length c2] 32)).alloc (.cells #[.int .i64 n] 3)).alloc (.cells #[.slice none 0 0,.slice none 0 0] 32)):=((((Below.refl w.heap.size w).alloc (Nat.le_refl _) _).alloc (by simp) _).alloc (by simp;omega) _)
 have bR:Blk2 (((w.alloc (.cells #[.slice a ns.length c,.slice a2 l.length c2] 32)).alloc (.cells #[.int .i64 n] 3)).alloc (.cells #[.slice none 0 0,.slice none 0 0] 32)) (w.heap.size+1+1) (.slice none 0 0) (.slice none 0 0):=by
  have:=Blk2.new ((w.alloc (.cells #[.slice a ns.length c,.slice a2 l.length c2] 32)).alloc (.cells #[.int .i64 n] 3)) (.slice none 0 0) (.slice none 0 0)
  simpa using this
 have bS:Blk2 (((w.alloc (.cells #[.slice a ns.length c,.slice a2 l.length c2] 32)).alloc (.cells #[.int .i64 n] 3)).alloc (.cells #[.slice none 0 0,.slice none 0 0] 32)) w.heap.size (.slice a ns.length c) (.slice a2 l.length c2):=((Blk2.new w _ _).on (qac _ _)).on (qac _ _);have z1:(((w.alloc (.cells #[.slice a ns.length c,.slice a2 l.length c2] 32)).alloc (.cells #[.int .i64 n] 3)).alloc (.cells #[.slice none 0 0,.slice none 0 0] 32)).cell? ⟨w.heap.size+1,0,none⟩=some (.int .i64 n):=by simp[go_sem]
 have HZ1:Hid _:=z1;clear z1;have HPG:Hid (PgAt _ _ _ _):=hp.on hb0;have HB0:Hid (Below _ _ _):=hb0;have HBR:Hid (Blk2 _ _ _ _):=bR;have HBA:Hid (Below _ _ _):=hb0;have HL:Hid (qcI _):=hl;obtain⟨⟨x0,x1⟩,_⟩:=bS.facts;clear hp hb0 bR bS hl;go_enter Tryz.func9,Tryz.ntmps9
 go_wp2_with fail
 generalize ((w.alloc (.cells #[.slice a ns.length c,.slice a2 l.length c2] 32)).alloc (.cells #[.int .i64 n] 3)).alloc (.cells #[.slice none 0 0,.slice none 0 0] 32)=w0 at *;refine(qgC _ ns l 36 #[.pointer (some ⟨w.heap.size+1,0,none⟩)] (qbz ns n) (qcc ns n) _ HPG.out HL.out enter21 ?_).mono ?_
 ·intro W dv hW hdv;exact remCl dv ns n _ W hdv (qab hW HZ1.out)
 rintro e wz ⟨vz,rfl,hpz,hbz⟩;obtain⟨a8,c8,a9,c9,rfl,hd8,he9⟩:=hpz;have HBz:Hid (Below w.heap.size w wz):=qaa HBA.out hbz;have bRz:=Blk2.on HBR.out hbz;obtain⟨⟨r0,r1⟩,fR⟩:=bRz.facts;obtain⟨p1,p2⟩:=PgAt.box hd8 he9 bRz;obtain⟨⟨q0,q1⟩,_⟩:=p2.facts;have HP1:Hid (PgAt _ _ _ _):=p1;have HQ0:Hid _:=q0;have HQ1:Hid _:=q1;clear p1 p2 q0 q1 hd8 he9 bRz hbz;generalize hD:qeT (qaw ns l) (qbz ns n) (qcc ns n)=D at HP1 HQ0 HQ1 ⊢;generalize hI:qeZ (qaw ns l) (qbz ns n) (qcc ns n)=I at HP1 HQ0 HQ1 ⊢;generalize hE:qe8 (qaw ns l) (qbz ns n) (qcc ns n)=EE at *;have HDe:Hid _:=hD;have HIe:Hid _:=hI;have HEe:Hid _:=hE;clear hD hI hE;go_wp2;have q0:=HQ0.out;have q1:=HQ1.out
 exact bodyPost_ret (v:=.tuple #[.agg #[.slice a8 D.length c8,.slice a9 I.length c9],.int .i64 EE]) (by simp[results,Tryz.results9,go_sem,q0,q1]) rfl
  ⟨_,by rw[HEe.out],by rw[HDe.out,HIe.out];exact HP1.out,(HBz.out.setCell (p:=⟨w.heap.size+1+1,0,none⟩) (by first|(simp;done)|(simp;omega)) _).setCell (p:=⟨w.heap.size+1+1,1,none⟩) (by first|(simp;done)|(simp;omega)) _⟩
theorem lput_any (v:Value)(ns:List Pl.Nd)(l:List Pl.Er)(n:Int)(xv:Value)(x:Pl.Nd)(w:World)(hp:PgAt w v ns l)(hl:qcI l)(hx:NdV w xv x)(hfx:Fits x):
 Calls Tryz.prog 10 #[v,.int .i64 n,xv] w fun e w'=>ChSays (qaw ns l) (qcb ns n x) (qcG ns n x) w e w':=by
 obtain⟨a,c,a2,c2,rfl⟩:=hp.form;obtain⟨vc,va,rfl,hs,ha⟩:=hx;obtain⟨ac,cc,rfl,_⟩:=id hs;obtain⟨aa,ca,rfl,_⟩:=id ha;have hb0:Below w.heap.size w ((((w.alloc (.cells #[.slice a ns.length c,.slice a2 l.length c2] 32)).alloc (.cells #[.int .i64 n] 3)).alloc (.cells #[.int .i64 x.up,.string ⟨x.tag.toArray⟩,.string ⟨x.id.toArray⟩,.slice ac x.cls.length cc,.slice aa x.ats.length ca] 28)).alloc (.cells #[.slice none 0 0,.slice none 0 0] 32)):=(((((Below.refl w.heap.size w).alloc (Nat.le_refl _) _).alloc (by simp) _).alloc (by simp;omega) _).alloc (by simp;omega) _)
 have bR:Blk2 ((((w.alloc (.cells #[.slice a ns.length c,.slice a2 l.length c2] 32)).alloc (.cells #[.int .i64 n] 3)).alloc (.cells #[.int .i64 x.up,.string ⟨x.tag.toArray⟩,.string ⟨x.id.toArray⟩,.slice ac x.cls.length cc,.slice aa x.ats.length ca] 28)).alloc (.cells #[.slice none 0 0,.slice none 0 0] 32)) (w.heap.size+1+1+1) (.slice none 0 0) (.slice none 0 0):=by
  have:=Blk2.new (((w.alloc (.cells #[.slice a ns.length c,.slice a2 l.length c2] 32)).alloc (.cells #[.int .i64 n] 3)).alloc (.cells #[.int .i64 x.up,.string ⟨x.tag.toArray⟩,.string ⟨x.id.toArray⟩,.slice ac x.cls.length cc,.slice aa x.ats.length ca] 28)) (.slice none 0 0) (.slice none 0 0)
  simpa using this
 have bS:Blk2 ((((w.alloc (.cells #[.slice a ns.length c,.slice a2 l.length c2] 32)).alloc (.cells #[.int .i64 n] 3)).alloc (.cells #[.int .i64 x.up,.string ⟨x.tag.toArray⟩,.string ⟨x.id.toArray⟩,.slice ac x.cls.length cc,.slice aa x.ats.length ca] 28)).alloc (.cells #[.slice none 0 0,.slice none 0 0] 32)) w.heap.size (.slice a ns.length c) (.slice a2 l.length c2):=(((Blk2.new w _ _).on (qac _ _)).on (qac _ _)).on (qac _ _);have z1:((((w.alloc (.cells #[.slice a ns.length c,.slice a2 l.length c2] 32)).alloc (.cells #[.int .i64 n] 3)).alloc (.cells #[.int .i64 x.up,.string ⟨x.tag.toArray⟩,.string ⟨x.id.toArray⟩,.slice ac x.cls.length cc,.slice aa x.ats.length ca] 28)).alloc (.cells #[.slice none 0 0,.slice none 0 0] 32)).cell? ⟨w.heap.size+1,0,none⟩=some (.int .i64 n):=by simp[go_sem]
 have z2:Blk ((((w.alloc (.cells #[.slice a ns.length c,.slice a2 l.length c2] 32)).alloc (.cells #[.int .i64 n] 3)).alloc (.cells #[.int .i64 x.up,.string ⟨x.tag.toArray⟩,.string ⟨x.id.toArray⟩,.slice ac x.cls.length cc,.slice aa x.ats.length ca] 28)).alloc (.cells #[.slice none 0 0,.slice none 0 0] 32)) (w.heap.size+1+1) (.int .i64 x.up) (.string ⟨x.tag.toArray⟩) (.string ⟨x.id.toArray⟩) (.slice ac x.cls.length cc) (.slice aa x.ats.length ca):=by
  have:Blk (((w.alloc (.cells #[.slice a ns.length c,.slice a2 l.length c2] 32)).alloc (.cells #[.int .i64 n] 3)).alloc (.cells #[.int .i64 x.up,.string ⟨x.tag.toArray⟩,.string ⟨x.id.toArray⟩,.slice ac x.cls.length cc,.slice aa x.ats.length ca] 28)) (w.heap.size+1+1) (.int .i64 x.up) (.string ⟨x.tag.toArray⟩) (.string ⟨x.id.toArray⟩) (.slice ac x.cls.length cc) (.slice aa x.ats.length ca):=by
   have:=heap_alloc_new ((w.alloc (.cells #[.slice a ns.length c,.slice a2 l.length c2] 32)).alloc (.cells #[.int .i64 n] 3)) (.cells #[.int .i64 x.up,.string ⟨x.tag.toArray⟩,.string ⟨x.id.toArray⟩,.slice ac x.cls.length cc,.slice aa x.ats.length ca] 28)
   simpa [Blk] using this
  exact this.on (qac _ _)
 have HZ1:Hid _:=z1;have HZ2:Hid (Blk _ _ _ _ _ _ _):=z2;have HS:Hid (qa1 _ _ _):=hs.on hb0;have HA:Hid (qbY _ _ _):=ha.on hb0;clear z1 z2 hs ha;have HPG:Hid (PgAt _ _ _ _):=hp.on hb0;have HB0:Hid (Below _ _ _):=hb0;have HBR:Hid (Blk2 _ _ _ _):=bR;have HBA:Hid (Below _ _ _):=hb0;have HL:Hid (qcI _):=hl;obtain⟨⟨x0,x1⟩,_⟩:=bS.facts;clear hp hb0 bR bS hl;go_enter Tryz.func10,Tryz.ntmps10
 go_wp2_with fail
 generalize (((w.alloc (.cells #[.slice a ns.length c,.slice a2 l.length c2] 32)).alloc (.cells #[.int .i64 n] 3)).alloc (.cells #[.int .i64 x.up,.string ⟨x.tag.toArray⟩,.string ⟨x.id.toArray⟩,.slice ac x.cls.length cc,.slice aa x.ats.length ca] 28)).alloc (.cells #[.slice none 0 0,.slice none 0 0] 32)=w0 at *;refine(qgC _ ns l 38 #[.pointer (some ⟨w.heap.size+1,0,none⟩),.pointer (some ⟨w.heap.size+1+1,0,none⟩)] (qcb ns n x) (qcG ns n x) _ HPG.out HL.out enter23 ?_).mono ?_
 ·intro W dv hW hdv;exact putCl dv ns n _ _ x ac aa cc ca W hdv (qab hW HZ1.out) (Blk.on HZ2.out hW) (qa1.on HS.out hW) (qbY.on HA.out hW) hfx
 rintro e wz ⟨vz,rfl,hpz,hbz⟩;obtain⟨a8,c8,a9,c9,rfl,hd8,he9⟩:=hpz;have HBz:Hid (Below w.heap.size w wz):=qaa HBA.out hbz;have bRz:=Blk2.on HBR.out hbz;obtain⟨⟨r0,r1⟩,fR⟩:=bRz.facts;obtain⟨p1,p2⟩:=PgAt.box hd8 he9 bRz;obtain⟨⟨q0,q1⟩,_⟩:=p2.facts;have HP1:Hid (PgAt _ _ _ _):=p1;have HQ0:Hid _:=q0;have HQ1:Hid _:=q1;clear p1 p2 q0 q1 hd8 he9 bRz hbz;generalize hD:qeT (qaw ns l) (qcb ns n x) (qcG ns n x)=D at HP1 HQ0 HQ1 ⊢;generalize hI:qeZ (qaw ns l) (qcb ns n x) (qcG ns n x)=I at HP1 HQ0 HQ1 ⊢;generalize hE:qe8 (qaw ns l) (qcb ns n x) (qcG ns n x)=EE at *;have HDe:Hid _:=hD;have HIe:Hid _:=hI;have HEe:Hid _:=hE;clear hD hI hE;go_wp2;have q0:=HQ0.out;have q1:=HQ1.out
 exact bodyPost_ret (v:=.tuple #[.agg #[.slice a8 D.length c8,.slice a9 I.length c9],.int .i64 EE]) (by simp[results,Tryz.results10,go_sem,q0,q1]) rfl
  ⟨_,by rw[HEe.out],by rw[HDe.out,HIe.out];exact HP1.out,(HBz.out.setCell (p:=⟨w.heap.size+1+1+1,0,none⟩) (by first|(simp;done)|(simp;omega)) _).setCell (p:=⟨w.heap.size+1+1+1,1,none⟩) (by first|(simp;done)|(simp;omega)) _⟩
theorem qea.k {B:Nat}{g:Option Nat}{w:World}{v:Value}{ss:List (List UInt8)}(h:qea B g w v ss)(hm:ss.length≤maxLen):kArr B 1 (fun _=>kStr) w v:=by
 obtain⟨a,cap,rfl,h⟩:=h;refine⟨a,_,cap,rfl,hm,?_⟩
 rcases h with h|⟨b,o,ha,⟨_,hB,hs⟩,hc⟩
 ·exact Or.inl (by rw[h];rfl)
 ·refine Or.inr ⟨b,o,ha,hB,hs,fun i hi j hj=>?_⟩;have e:o+i*1+j=o+i:=by omega
  rw[e];exact⟨_,hc i hi,⟨_,rfl⟩⟩
theorem AtsS.k {B:Nat}{g:Option Nat}{w:World}{v:Value}{ss:List (List UInt8×List UInt8)}(h:AtsS B g w v ss)(hm:ss.length≤maxLen):kArr B 2 (fun _=>kStr) w v:=by
 obtain⟨a,cap,rfl,h⟩:=h;refine⟨a,_,cap,rfl,hm,?_⟩
 rcases h with h|⟨b,o,ha,⟨_,hB,hs⟩,hc⟩
 ·exact Or.inl (by rw[h];rfl)
 ·refine Or.inr ⟨b,o,ha,hB,hs,fun i hi j hj=>?_⟩;have e:j=0∨j=1:=by omega
  rcases e with rfl|rfl
  ·exact⟨_,(hc i hi).1,⟨_,rfl⟩⟩
  ·exact⟨_,(hc i hi).2,⟨_,rfl⟩⟩
theorem RowS.k {B:Nat}{w:World}{v:Value}{ns:List Pl.Nd}(h:RowS B w v ns)(hf:∀x∈ns,x.cls.length≤maxLen∧x.ats.length≤maxLen):docK B w v:=by
 obtain⟨xs,ho,hc⟩:=h
 rcases id ho.2 with ⟨rfl,h0⟩|⟨g,cap,cur,rfl,hB,hg,hc1,hc2,_⟩
 ·exact kArr.nil _ _ _ _
 ·refine⟨_,_,cap,rfl,Nat.le_trans hc1 hc2,Or.inr ⟨g,0,rfl,hB,⟨cur,28,hg⟩,fun i hi j hj=>?_⟩⟩;obtain⟨vc,va,x0,x1,x2,x3,x4,hvc,hva⟩:=qaW.get xs ns hc i hi;have hcell:=World.ownsRow.cellAt ho (i*5+j) (by omega);rw[Nat.zero_add];have e:j=0∨j=1∨j=2∨j=3∨j=4:=by omega
  rcases e with rfl|rfl|rfl|rfl|rfl
  ·exact⟨_,hcell.trans x0,⟨_,rfl⟩⟩
  ·exact⟨_,hcell.trans x1,⟨_,rfl⟩⟩
  ·exact⟨_,hcell.trans x2,⟨_,rfl⟩⟩
  ·exact⟨_,hcell.trans x3,hvc.k (hf _ (List.getElem_mem hi)).1⟩
  ·exact⟨_,hcell.trans x4,hva.k (hf _ (List.getElem_mem hi)).2⟩
theorem DocS.k {n:Nat}{w:World}{v:Value}{ns:List Pl.Nd}(h:DocS n w v ns):docK n w v:=by
 obtain⟨B,hn,hr,hd⟩:=h
 exact docK.mono hn (hr.k (fun x hx=>by
  obtain⟨i,hi,rfl⟩:=List.getElem_of_mem hx
  exact hd.2.2.2 i hi))
theorem qir (v:Value)(ns:List Pl.Nd)(l:List Pl.Er)(up at_:Int)(v2:Value)(es:List Pl.Nd)(w:World)(hp:PgAt w v ns l)(hl:qcI l)(hd2:qar w v2 es):
 Calls Tryz.prog 8 #[v,.int .i64 up,.int .i64 at_,.agg #[v2]] w fun e w'=>ChSaysK (docK w.heap.size) w.heap.size (qaw ns l) (qax ns up at_ es) (qaO ns up at_ es) w e w':=by
 obtain⟨a,c,a2,c2,rfl⟩:=hp.form;obtain⟨a3,c3,rfl⟩:=hd2.form;have hb0:Below w.heap.size w (((((w.alloc (.cells #[.slice a ns.length c,.slice a2 l.length c2] 32)).alloc (.cells #[.int .i64 up] 3)).alloc (.cells #[.int .i64 at_] 3)).alloc (.cells #[.slice a3 es.length c3] 24)).alloc (.cells #[.slice none 0 0,.slice none 0 0] 32)):=((((((Below.refl w.heap.size w).alloc (Nat.le_refl _) _).alloc (by simp) _).alloc (by simp;omega) _).alloc (by simp;omega) _).alloc (by simp;omega) _)
 have bR:Blk2 (((((w.alloc (.cells #[.slice a ns.length c,.slice a2 l.length c2] 32)).alloc (.cells #[.int .i64 up] 3)).alloc (.cells #[.int .i64 at_] 3)).alloc (.cells #[.slice a3 es.length c3] 24)).alloc (.cells #[.slice none 0 0,.slice none 0 0] 32)) (w.heap.size+1+1+1+1) (.slice none 0 0) (.slice none 0 0):=by
  have:=Blk2.new ((((w.alloc (.cells #[.slice a ns.length c,.slice a2 l.length c2] 32)).alloc (.cells #[.int .i64 up] 3)).alloc (.cells #[.int .i64 at_] 3)).alloc (.cells #[.slice a3 es.length c3] 24)) (.slice none 0 0) (.slice none 0 0)
  simpa using this
 have bS:Blk2 (((((w.alloc (.cells #[.slice a ns.length c,.slice a2 l.length c2] 32)).alloc (.cells #[.int .i64 up] 3)).alloc (.cells #[.int .i64 at_] 3)).alloc (.cells #[.slice a3 es.length c3] 24)).alloc (.cells #[.slice none 0 0,.slice none 0 0] 32)) w.heap.size (.slice a ns.length c) (.slice a2 l.length c2):=((((Blk2.new w _ _).on (qac _ _)).on (qac _ _)).on (qac _ _)).on (qac _ _);have z1:(((((w.alloc (.cells #[.slice a ns.length c,.slice a2 l.length c2] 32)).alloc (.cells #[.int .i64 up] 3)).alloc (.cells #[.int .i64 at_] 3)).alloc (.cells #[.slice a3 es.length c3] 24)).alloc (.cells #[.slice none 0 0,.slice none 0 0] 32)).cell? ⟨w.heap.size+1,0,none⟩=some (.int .i64 up):=by simp[go_sem]
 have z2:(((((w.alloc (.cells #[.slice a ns.length c,.slice a2 l.length c2] 32)).alloc (.cells #[.int .i64 up] 3)).alloc (.cells #[.int .i64 at_] 3)).alloc (.cells #[.slice a3 es.length c3] 24)).alloc (.cells #[.slice none 0 0,.slice none 0 0] 32)).cell? ⟨w.heap.size+1+1,0,none⟩=some (.int .i64 at_):=by simp[go_sem]
 have z3:(((((w.alloc (.cells #[.slice a ns.length c,.slice a2 l.length c2] 32)).alloc (.cells #[.int .i64 up] 3)).alloc (.cells #[.int .i64 at_] 3)).alloc (.cells #[.slice a3 es.length c3] 24)).alloc (.cells #[.slice none 0 0,.slice none 0 0] 32)).cell? ⟨w.heap.size+1+1+1,0,none⟩=some (.slice a3 es.length c3):=by simp[go_sem]
 have HZ1:Hid _:=z1;have HZ2:Hid _:=z2;have HZ3:Hid _:=z3;have HD2:Hid (qar _ _ _):=hd2.on hb0;clear z1 z2 z3 hd2;have HPG:Hid (PgAt _ _ _ _):=hp.on hb0;have HB0:Hid (Below _ _ _):=hb0;have HBR:Hid (Blk2 _ _ _ _):=bR;have HBA:Hid (Below _ _ _):=hb0;have HL:Hid (qcI _):=hl;obtain⟨⟨x0,x1⟩,_⟩:=bS.facts;clear hp hb0 bR bS hl;go_enter Tryz.func8,Tryz.ntmps8
 go_wp2_with fail
 generalize ((((w.alloc (.cells #[.slice a ns.length c,.slice a2 l.length c2] 32)).alloc (.cells #[.int .i64 up] 3)).alloc (.cells #[.int .i64 at_] 3)).alloc (.cells #[.slice a3 es.length c3] 24)).alloc (.cells #[.slice none 0 0,.slice none 0 0] 32)=w0 at *;refine(change_k (kk_doc w.heap.size) w.heap.size _ ns l 34 #[.pointer (some ⟨w.heap.size+1,0,none⟩),.pointer (some ⟨w.heap.size+1+1,0,none⟩),.pointer (some ⟨w.heap.size+1+1+1,0,none⟩)] (qax ns up at_ es) (qaO ns up at_ es) _ HB0.out.size HPG.out HL.out enter19 ?_).mono ?_
 ·intro W dv hW hdv;refine(insClS dv ns up at_ _ _ _ a3 c3 es W hdv (qab hW HZ1.out) (qab hW HZ2.out) (qab hW HZ3.out) (qar.on HD2.out hW)).mono ?_;rintro e w' ⟨v',rfl,hs,hb⟩;exact⟨v',rfl,⟨hs.doc,docK.mono (Nat.le_trans HB0.out.size hW.size) hs.k⟩,hb⟩
 rintro e wz ⟨vz,rfl,⟨hpz,hkz⟩,hbz⟩;obtain⟨a8,c8,a9,c9,rfl,hd8,he9⟩:=hpz;obtain⟨dv4,iv4,e4,hdk4,hik4⟩:=hkz
 obtain⟨rfl,rfl⟩:dv4=.slice a8 (qeT (qaw ns l) (qax ns up at_ es) (qaO ns up at_ es)).length c8∧iv4=.slice a9 (qeZ (qaw ns l) (qax ns up at_ es) (qaO ns up at_ es)).length c9:=by
  injection e4 with e4;injection e4 with e4;injection e4 with e4 e5;injection e5 with e5;exact⟨e4.symm,e5.symm⟩
 have HBz:Hid (Below w.heap.size w wz):=qaa HBA.out hbz;have bRz:=Blk2.on HBR.out hbz;obtain⟨⟨r0,r1⟩,fR⟩:=bRz.facts;obtain⟨p1,p2⟩:=PgAt.box hd8 he9 bRz;have pk:=PgK.box (kk_doc w.heap.size) hdk4 hik4 bRz rfl rfl;obtain⟨⟨q0,q1⟩,_⟩:=p2.facts;have HP1:Hid (PgAt _ _ _ _∧PgK (docK w.heap.size) w.heap.size _ _):=⟨p1,pk⟩
 have HQ0:Hid _:=q0;have HQ1:Hid _:=q1;clear p1 p2 pk q0 q1 hd8 he9 hdk4 hik4 e4 bRz hbz;generalize hD:qeT (qaw ns l) (qax ns up at_ es) (qaO ns up at_ es)=D at HP1 HQ0 HQ1 ⊢;generalize hI:qeZ (qaw ns l) (qax ns up at_ es) (qaO ns up at_ es)=I at HP1 HQ0 HQ1 ⊢;generalize hE:qe8 (qaw ns l) (qax ns up at_ es) (qaO ns up at_ es)=EE at *;have HDe:Hid _:=hD;have HIe:Hid _:=hI;have HEe:Hid _:=hE;clear hD hI hE;go_wp2;have q0:=HQ0.out;have q1:=HQ1.out
 exact bodyPost_ret (v:=.tuple #[.agg #[.slice a8 D.length c8,.slice a9 I.length c9],.int .i64 EE]) (by simp[results,Tryz.results8,go_sem,q0,q1]) rfl
  ⟨_,by rw[HEe.out],by rw[HDe.out,HIe.out];exact HP1.out,(HBz.out.setCell (p:=⟨w.heap.size+1+1+1+1,0,none⟩) (by first|(simp;done)|(simp;omega)) _).setCell (p:=⟨w.heap.size+1+1+1+1,1,none⟩) (by first|(simp;done)|(simp;omega)) _⟩
theorem qiZ (v:Value)(ns:List Pl.Nd)(l:List Pl.Er)(up at_:Int)(v2:Value)(es:List Pl.Nd)(w:World)(hp:PgAt w v ns l)(hl:qcI l)(hd2:qar w v2 es):
 Calls Tryz.prog 8 #[v,.int .i64 up,.int .i64 at_,.agg #[v2]] w fun e w'=>ChSays (qaw ns l) (qax ns up at_ es) (qaO ns up at_ es) w e w':=by
 refine(qir v ns l up at_ v2 es w hp hl hd2).mono ?_;rintro e w' ⟨v,h1,⟨h2,-⟩,h3⟩;exact⟨v,h1,h2,h3⟩
end Go.Proofs.YtephhllfodlfbaaGreatDoor
