import Derived.Test.YtjdnpgpbeppgjaaGreatDoorPlStR
set_option linter.unusedSimpArgs false
set_option linter.unusedVariables false
set_option maxHeartbeats 6400000
set_option maxRecDepth 100000
namespace Go.Proofs.YtjdnpgpbeppgjaaGreatDoor
section
open Go.RowKit Go.Maps Go.ChangeMaps
attribute [local go_sem ↓] Go.wp_at_zero Go.wp_at_succ
attribute [-go_sem] loadVar
def stM(d:Nat)(ss:List ByteArray)(x:Lit4)(k:Nat):St:=
 if x.k=1 then⟨ZfM (Zaz ss x.ts x.ts.length) x.ts.length,(k:Int),((Zaz ss x.ts x.ts.length:Nat):Int),ZA ss (vsT [] x.ts)⟩
 else if x.k=2 then⟨if(ZA ss (vsT [] x.ts)).length=0 then 4 else 0,(k:Int),((Zaz ss x.ts x.ts.length:Nat):Int),[]⟩
 else⟨(Zal x (ZA ss (vsT [] (Zg d x.l))) (ZA ss (vsT [] (Zg d x.r)))).1,(k:Int),((Zaz ss x.ts x.ts.length:Nat):Int),(Zal x (ZA ss (vsT [] (Zg d x.l))) (ZA ss (vsT [] (Zg d x.r)))).2⟩
theorem ZeQ{u:World}{g o:Nat}{cs:List Value}(h:u.rangeAt g o cs)(hl:cs.length=16):(loadVar 105 ⟨g,o,none⟩).run Tryz.prog u=.ok (.agg cs.toArray) u:=
 run_loadVar_mid u g o 105 cs _ h Tryz.underlying105 rfl (by rw[hl];kernel_rfl)
theorem Zja{u:World}{g o:Nat}{cs:List Value}(h:u.rangeAt g o cs)(hl:cs.length=2):(loadVar 93 ⟨g,o,none⟩).run Tryz.prog u=.ok (.agg cs.toArray) u:=
 run_loadVar_mid u g o 93 cs _ h Tryz.underlying93 rfl (by rw[hl];kernel_rfl)
theorem Zjb{u:World}{a:Addr}{v:Value}(h:u.cell? a=some v):(loadVar 130 a).run Tryz.prog u=.ok v u:=by rw[loadVar.eq_1];go_simp
theorem Zc6{u:World}{a:Addr}{v:Value}(h:u.cell? a=some v):(loadVar 91 a).run Tryz.prog u=.ok v u:=by rw[loadVar.eq_1];go_simp
theorem Zah{u:World}{a:Addr}{v:Value}(h:u.cell? a=some v):(loadVar 80 a).run Tryz.prog u=.ok v u:=by rw[loadVar.eq_1];go_simp
theorem ZaU{u:World}{a:Addr}{v:Value}(h:u.cell? a=some v):(loadVar 82 a).run Tryz.prog u=.ok v u:=by rw[loadVar.eq_1];go_simp
theorem ZG{u:World}{b:Nat}{t:TypeId}{k i m:Int}{gv:Value}(h:RL u b t [.int .i8 k,.int .i64 i,.int .u32 m,gv]):(loadVar 84 ⟨b,0,none⟩).run Tryz.prog u=.ok (.agg #[.int .i8 k,.int .i64 i,.int .u32 m,gv]) u:=
 run_loadVar_mid u b 0 84 [.int .i8 k,.int .i64 i,.int .u32 m,gv] _ (RL.range h) Tryz.underlying84 rfl (by kernel_rfl)
theorem Z8{fn:Func}{sl s2:Nat}{ty:TypeId}(hr:fn.results=#[.cell sl ty,.tmp s2]){W:World}{tmps:Array Value}{b:Nat}{v u:Value}(h2:tmps.getD sl undef=.pointer (some ⟨b,0,none⟩))(h3:tmps.getD s2 undef=u)(hl:(loadVar ty ⟨b,0,none⟩).run Tryz.prog W=.ok v W) :
  (results fn tmps).run Tryz.prog W=.ok (.tuple #[v,u]) W:=by
 have h2':tmps[sl]?.getD undef=.pointer (some ⟨b,0,none⟩):=by simpa using h2
 have h3':tmps[s2]?.getD undef=u:=by simpa using h3
 unfold results;rw[hr];simp[h2',h3',asAddr,hl,Result.andThen]
theorem ZnJ{w:World}{v:Value}{ts:List T}(h:Lt w v ts):∀i,i<(vsT [] ts).length→(atS (vsT [] ts) i).size≤maxLen:=by
 intro i hi
 have hm:atS (vsT [] ts) i∈vsT [] ts:=by
  unfold atS;rw[List.getD,List.getElem?_eq_getElem hi];exact List.getElem_mem hi
 rcases ZbS _ _ _ hm with h1 | ⟨t,ht,e⟩
 ·simp at h1
 ·rw[←e];exact(h.wf t ht).text
theorem ZnK{w:World}{b:Nat}{ss:List ByteArray}(h:SetIs w b ss){pr:ByteArray}{v:Value}{ts:List T}(hl:Lt w v ts)(hn:ts.length≤24){u:World}(hu:Below w.heap.size w u) :
  Calls Tryz.prog 210 #[.agg #[.string pr,v]] u fun r w'=>∃v1,r=.returned v1∧Below u.heap.size u w'∧Calls Tryz.prog 209 #[.map (some b),v1] w' fun r w''=>∃a2 c2,r=.returned (.slice a2 (ZA ss (vsT [] ts)).length c2)∧w''.ownsRow w'.heap.size 9 1 (.slice a2 (ZA ss (vsT [] ts)).length c2) (ZA ss (vsT [] ts)).length ((ZA ss (vsT [] ts)).flatMap Zm)∧Below w'.heap.size w' w'':=by
 refine(ZdH pr v ts u (by omega) (hl.below hu)).mono ?_;rintro r w' ⟨sv,rfl,hown,hb⟩;have hb':Below w.heap.size w w':=hu.trans (hb.mono hu.size);refine⟨sv,rfl,hb,?_⟩
 have hvn:(vsT [] ts).length≤1048576:=by
  have:=Zaw ts [];simp only[List.length_nil]at this;omega
 refine(ZiY (h.of_block (hb'.block b h.lt)) (ZY hown) (ZnJ hl) hvn).mono ?_;rintro r w'' ⟨a2,c2,rfl,hown2,hb2⟩;exact⟨a2,c2,rfl,hown2,hb2⟩
theorem Zbj{u:World}{b g:Nat}{t:TypeId}{l:List Value}(h:RL u b t l)(hne:b≠g)(k i m:Int)(v:Value):RL (st4 u g k i m v) b t l:=by
 refine World.rowIs.of_block h ?_;unfold st4;rw[Below.heap_setCell _ _ _ _ hne,Below.heap_setCell _ _ _ _ hne,Below.heap_setCell _ _ _ _ hne,Below.heap_setCell _ _ _ _ hne]
theorem Zfr{w:World}{B:Nat}{v:Value}{n:Nat}{xs:List Value}(h:w.ownsRow (B+1) 9 1 v n xs)(b:Nat)(hb:b≤B)(k i m:Int)(u:Value):(st4 w b k i m u).ownsRow (B+1) 9 1 v n xs:=
 ownsRow_setCell_below (ownsRow_setCell_below (ownsRow_setCell_below (ownsRow_setCell_below h (a:=⟨b,0,none⟩) (Nat.lt_succ_of_le hb) _) (a:=⟨b,1,none⟩) (Nat.lt_succ_of_le hb) _) (a:=⟨b,2,none⟩) (Nat.lt_succ_of_le hb) _) (a:=⟨b,3,none⟩) (Nat.lt_succ_of_le hb) _
theorem Zqa{w:World}{tb kb d g off k n c:Nat}{x:Lit4}{q:LP}{ss:List ByteArray}{left:Nat}(hT:ZbN w tb kb (.slice (some ⟨g,off,none⟩) n c) ss left)(hg:g<w.heap.size)(hr:w.rangeAt g (off+k*16) [.int .i8 x.k,.string x.pr,.slice q.a x.ts.length q.c,.int .i8 x.rel,.int .i8 x.l.op,.string x.l.t.v,.int .i8 x.l.t.a.k,.int .i64 x.l.t.a.n,.string x.l.t.a.s,.slice q.la x.l.kids.length q.lc,.int .i8 x.r.op,.string x.r.t.v,.int .i8 x.r.t.a.k,.int .i64 x.r.t.a.n,.string x.r.t.a.s,.slice q.ra x.r.kids.length q.rc])(hX:LIs w d x q)(hk:k<n)(hn:n≤16)(hc:x.ts.length≤24)(hs1:szD d x.l≤1048576)(hs2:szD d x.r≤1048576) :
  Calls Tryz.prog 78 #[.pointer (some ⟨tb,0,none⟩),.int .i64 (k:Int)] w fun e w'=>Below w.heap.size w w'∧∃a c,e=.returned (.tuple #[(stM d ss x k).val a c,.bool ((stM d ss x k).k != 0)])∧w'.ownsRow w.heap.size 9 1 (.slice a (stM d ss x k).g.length c) (stM d ss x k).g.length ((stM d ss x k).g.flatMap Zm):=by
 have hA0:=Zp (w:=w) (.cells #[.int .i8 0,.int .i64 0,.int .u32 0,.slice none 0 0] 84);have hA1:Below w.heap.size w ((w.alloc (.cells #[.int .i8 0,.int .i64 0,.int .u32 0,.slice none 0 0] 84)).alloc (.cells #[.int .i8 x.k,.string x.pr,.slice q.a x.ts.length q.c,.int .i8 x.rel,.int .i8 x.l.op,.string x.l.t.v,.int .i8 x.l.t.a.k,.int .i64 x.l.t.a.n,.string x.l.t.a.s,.slice q.la x.l.kids.length q.lc,.int .i8 x.r.op,.string x.r.t.v,.int .i8 x.r.t.a.k,.int .i64 x.r.t.a.n,.string x.r.t.a.s,.slice q.ra x.r.kids.length q.rc] 105)):=hA0.trans ((Zp _).mono hA0.size)
 have HT:=Lib.hid hT;have HX:=Lib.hid hX;have l0:=ZcK ((hA0.cell (p:=⟨tb,0,none⟩) hT.rl.lt).trans (RL.at hT.rl (j:=0) rfl));have lx:=ZeQ (Zu hr hA0 hg) rfl;have hk0:(0:Int)≤(k:Int):=by omega
 have hlt:(k:Int)<(n:Int):=by omega
 have HR0:=Lib.hid (Zk w #[.int .i8 0,.int .i64 0,.int .u32 0,.slice none 0 0] 84);have HR1:=Lib.hid (Zk (w.alloc (.cells #[.int .i8 0,.int .i64 0,.int .u32 0,.slice none 0 0] 84)) #[.int .i8 x.k,.string x.pr,.slice q.a x.ts.length q.c,.int .i8 x.rel,.int .i8 x.l.op,.string x.l.t.v,.int .i8 x.l.t.a.k,.int .i64 x.l.t.a.n,.string x.l.t.a.s,.slice q.la x.l.kids.length q.lc,.int .i8 x.r.op,.string x.r.t.v,.int .i8 x.r.t.a.k,.int .i64 x.r.t.a.n,.string x.r.t.a.s,.slice q.ra x.r.kids.length q.rc] 105)
 have HB1:=Lib.hid hA1;have HKD:=Lib.hid hX.kb;have HSH:=Lib.hid hc;have HS1:=Lib.hid hs1;have HS2:=Lib.hid hs2;clear hT hX hr hA0 hA1 hc hs1 hs2;go_enter Tryz.func78,Tryz.ntmps78;go_upto_region 2 with fail
 obtain⟨W,hW⟩:∃W,W=((w.alloc (.cells #[.int .i8 0,.int .i64 0,.int .u32 0,.slice none 0 0] 84)).alloc (.cells #[.int .i8 x.k,.string x.pr,.slice q.a x.ts.length q.c,.int .i8 x.rel,.int .i8 x.l.op,.string x.l.t.v,.int .i8 x.l.t.a.k,.int .i64 x.l.t.a.n,.string x.l.t.a.s,.slice q.la x.l.kids.length q.lc,.int .i8 x.r.op,.string x.r.t.v,.int .i8 x.r.t.a.k,.int .i64 x.r.t.a.n,.string x.r.t.a.s,.slice q.ra x.r.kids.length q.rc] 105)):=⟨_,rfl⟩
 have hzW:W.heap.size=w.heap.size+2:=by rw[hW];simp
 rw[World.size_alloc]at HR1
 have HRZ:Hid (RL W w.heap.size 84 [.int .i8 0,.int .i64 0,.int .u32 0,.slice none 0 0]):=by
  show RL _ _ _ _;rw[hW];exact RL.below HR0.out (Zp _)
 rw[←hW]at HR1 HB1;rw[←hW];clear hW HR0 l0 lx;have HLK:Hid (∀u,Below W.heap.size W u→(loadVar 130 ⟨tb,1,none⟩).run Tryz.prog u=.ok (.map (some kb)) u):=fun u hu=>Zjb (((HB1.out.trans (hu.mono HB1.out.size)).cell (p:=⟨tb,1,none⟩) HT.out.rl.lt).trans (RL.at HT.out.rl (j:=1) rfl))
 have HLA:Hid (∀u,Below W.heap.size W u→(loadVar 91 ⟨w.heap.size+1,2,none⟩).run Tryz.prog u=.ok (.slice q.a x.ts.length q.c) u):=fun u hu=>Zc6 (RL.at (RL.below HR1.out hu) (j:=2) rfl)
 have HLT:Hid (∀u,Below W.heap.size W u→(loadVar 93 ⟨w.heap.size+1,1,none⟩).run Tryz.prog u=.ok (.agg #[.string x.pr,.slice q.a x.ts.length q.c]) u):=fun u hu=>Zja (cs:=[.string x.pr,.slice q.a x.ts.length q.c]) (fun j v hv=>by
   have hj:j<2:=(List.getElem?_eq_some_iff.1 hv).1;have hj6:j=0∨j=1:=by omega
   have hr:=RL.below HR1.out hu;rcases hj6 with rfl | rfl<;>exact RL.at hr hv) rfl
 have HLL:Hid (∀u,Below W.heap.size W u→(loadVar 105 ⟨w.heap.size+1,0,none⟩).run Tryz.prog u=.ok (.agg #[.int .i8 x.k,.string x.pr,.slice q.a x.ts.length q.c,.int .i8 x.rel,.int .i8 x.l.op,.string x.l.t.v,.int .i8 x.l.t.a.k,.int .i64 x.l.t.a.n,.string x.l.t.a.s,.slice q.la x.l.kids.length q.lc,.int .i8 x.r.op,.string x.r.t.v,.int .i8 x.r.t.a.k,.int .i64 x.r.t.a.n,.string x.r.t.a.s,.slice q.ra x.r.kids.length q.rc]) u):=fun u hu=>ZeQ (RL.range (RL.below HR1.out hu)) rfl
 have HKS:Hid (∀u,Below W.heap.size W u→SetIs u kb ss):=fun u hu=>HT.out.set.of_block ((HB1.out.trans (hu.mono HB1.out.size)).block kb HT.out.set.lt)
 have HXS:Hid (∀u,Below W.heap.size W u→LIs u d x q):=fun u hu=>HX.out.below (HB1.out.trans (hu.mono HB1.out.size))
 refine wp_region_noPanic ?_;refine wp_region_held (S:=fun u=>Below W.heap.size W u) (by kernel_rfl) ?_;refine ZqO (w5:=W) (tb:=tb) (b6:=w.heap.size+1) (kb:=kb) (k:=(k:Int)) (m:=((Zaz ss x.ts x.ts.length:Nat):Int)) (av:=.slice q.a x.ts.length q.c) rfl rfl rfl rfl rfl rfl rfl rfl rfl rfl rfl rfl (by kernel_rfl) (by kernel_rfl) (by kernel_rfl) (by kernel_rfl) (by kernel_rfl) (by kernel_rfl) (by kernel_rfl) (by kernel_rfl) (by kernel_rfl) (by intros;assumption) (by simp) rfl rfl rfl HLK.out HLA.out (fun u hu=>(Zkn (HKS.out u hu) (HXS.out u hu).ts HSH.out)) ?_
 intro af w9 b9 hAg h20 hRL hb9 hBf;refine NoPanic.normal ?_
 rename_i hK
 refine hK _ _ ?_;have hf:=hAg.form;unfold Zce at hf;simp only[List.foldl_cons,List.foldl_nil]at hf;have h20':af.tmps.getD 7 undef=.pointer (some ⟨b9,0,none⟩):=by simpa[Act.eval]using h20
 rw[h20']at hf;generalize af.tmps.getD 15 undef=g15 at hf;generalize af.tmps.getD 16 undef=g16 at hf;generalize af.tmps.getD 17 undef=g17 at hf;generalize af.tmps.getD 18 undef=g18 at hf;generalize af.tmps.getD 19 undef=g19 at hf;generalize af.tmps.getD 20 undef=g20 at hf;generalize af.tmps.getD 21 undef=g21 at hf;generalize af.tmps.getD 22 undef=g22 at hf;generalize af.tmps.getD 23 undef=g23 at hf
 generalize af.tmps.getD 24 undef=g24 at hf;clear h20 h20' hAg hK;subst hf;simp (config:={maxSteps:=8000000}) only[List.setIfInBounds_toArray,List.set_cons_succ,List.set_cons_zero];have B9:=Lib.hid hBf;have HR9:=Lib.hid hRL;have HU9:Hid (∀u,Below w9.heap.size w9 u→Below W.heap.size W u):=fun u hu=>B9.out.trans (hu.mono B9.out.size)
 have HN9:=Lib.hid hb9;clear hBf hRL hb9;have lk:=ZfL (RL.at (RL.below HR1.out B9.out) (j:=0) rfl);obtain⟨cm,hcm⟩:∃cm,cm=Zaz ss x.ts x.ts.length:=⟨_,rfl⟩;rw[←hcm]at HR9;have HCM:=Lib.hid hcm;clear hcm
 by_cases h1:x.k=1
 ·have dk:(x.k==1)=true:=by rw[h1];rfl
  have la:=HLA.out _ B9.out;have lm:=ZaU (RL.at HR9.out (j:=2) rfl);have c0:=RL.at HR9.out (j:=0) rfl;have f0:=World.rowIs.frozen HR9.out 0;have HKA:=Lib.hid (ZfN cm x.ts.length HSH.out w9)
  have HSM:Hid (stM d ss x k=⟨ZfM cm x.ts.length,(k:Int),(cm:Int),ZA ss (vsT [] x.ts)⟩):=by
   show _=_;unfold stM;rw[if_pos h1,←HCM.out]
  clear h1;go_wp2_with fail;refine HKA.out.mono ?_;rintro e w10 ⟨rfl,rfl⟩;clear HKA;obtain⟨kk,hkk⟩:∃kk,kk=ZfM cm x.ts.length:=⟨_,rfl⟩;rw[←hkk]at HSM⊢;clear hkk;go_upto_region 7 with fail
  have HBU:Hid (Below W.heap.size W (w10.setCell ⟨b9,0,none⟩ (.int .i8 kk))):=B9.out.setCell (p:=⟨b9,0,none⟩) HN9.out _;have HRU:Hid (RL (w10.setCell ⟨b9,0,none⟩ (.int .i8 kk)) b9 84 [.int .i8 kk,.int .i64 (k:Int),.int .u32 (cm:Int),.slice none 0 0]):=HR9.out.set 0 _;generalize w10.setCell ⟨b9,0,none⟩ (.int .i8 kk)=U at HBU HRU⊢;clear la lm c0 f0 lk HR9 B9 HU9;have HC7:=Lib.hid (ZnK (pr:=x.pr) (HKS.out _ (Below.refl _ _)) (HXS.out _ (Below.refl _ _)).ts HSH.out HBU.out.drew)
  obtain⟨G,hG⟩:∃G,G=ZA ss (vsT [] x.ts):=⟨_,rfl⟩;rw[←hG]at HC7 HSM;clear hG;refine wp_region_noPanic ?_;refine wp_region_held (S:=fun u=>Below W.heap.size W u) (by kernel_rfl) ?_;refine ZqP (w5:=U) (S:=fun u=>Below W.heap.size W u) (tb:=tb) (kb:=kb) (b6:=w.heap.size+1) (b7:=b9) (nn:=G.length) (av:=.agg #[.string x.pr,.slice q.a x.ts.length q.c]) (Pf:=fun aa cc u=>u.ownsRow (w.heap.size+1) 9 1 (.slice aa G.length cc) G.length (G.flatMap Zm)∧RL u b9 84 [.int .i8 kk,.int .i64 (k:Int),.int .u32 (cm:Int),.slice aa G.length cc]∧Below W.heap.size W u) rfl rfl rfl rfl rfl rfl rfl rfl rfl rfl (by kernel_rfl) (by kernel_rfl) (by kernel_rfl) (by kernel_rfl) (by kernel_rfl) (by kernel_rfl) (by intros;assumption) (by simp) rfl rfl rfl HBU.out.drew (fun _ _ _ h=>h) HLK.out HLT.out ?_ ?_
  ·refine HC7.out.mono ?_;rintro e u1 ⟨v1,rfl,b1,hc⟩;have B1:Below W.heap.size W u1:=HBU.out.drew.trans (b1.mono (Nat.le_trans HBU.out.size (Nat.le_refl _)));refine⟨v1,rfl,B1,hc.mono ?_⟩;rintro e u2 ⟨aa,cc,rfl,hown,b2⟩;have B2:Below W.heap.size W u2:=B1.trans (b2.mono B1.size);have hlt9:b9<U.heap.size:=HRU.out.lt;have hR2:RL u2 b9 84 [.int .i8 kk,.int .i64 (k:Int),.int .u32 (cm:Int),.slice none 0 0]:=RL.below (RL.below (RL.below HRU.out (Below.refl _ _).drew) b1) b2
   have hb9:b9<u1.heap.size:=Nat.lt_of_lt_of_le hlt9 b1.size;exact⟨aa,cc,rfl,B2,⟨_,_,_,_,hR2⟩,B2.setCell (p:=⟨b9,3,none⟩) HN9.out _,Zax (ownsRow_setCell_below hown (a:=⟨b9,3,none⟩) hb9 _) (by have:=B1.size;omega),hR2.set 3 _,B2.setCell (p:=⟨b9,3,none⟩) HN9.out _⟩
  rintro wc v1 aa cc ⟨hown,hRB,bc⟩;refine NoPanic.normal ?_
  rename_i hK
  refine hK _ _ ?_;simp (config:={maxSteps:=8000000}) only[Act.put,List.getElem_toArray,List.getElem_cons_zero,List.getElem_cons_succ,List.setIfInBounds_toArray,List.set_cons_succ,List.set_cons_zero];have HOW:=Lib.hid hown;have HRB:=Lib.hid hRB;have BC:=Lib.hid bc;clear hK hown hRB bc HC7 HRU HBU;go_upto_region 11 with fail
  obtain⟨U,hU⟩:∃U,U=wc:=⟨_,rfl⟩;rw[←hU]at HOW HRB BC⊢;clear hU;have hDU:Below U.heap.size U U.drew:=(Below.refl _ _).drew;have ld1:=ZG (RL.below HRB.out hDU);have ld2:=Zah (RL.at (RL.below HRB.out hDU) (j:=0) rfl);have hZ0:=RL.below HRZ.out BC.out;have z0:=RL.at hZ0 (j:=0) rfl;have z1:=RL.at hZ0 (j:=1) rfl;have z2:=RL.at hZ0 (j:=2) rfl;have z3:=RL.at hZ0 (j:=3) rfl;have y0:=World.rowIs.frozen hZ0 0
  have y1:=World.rowIs.frozen hZ0 1;have y2:=World.rowIs.frozen hZ0 2;have y3:=World.rowIs.frozen hZ0 3;have HZ9:=Lib.hid (RL.below (Za3 hZ0 (kk) (k:Int) (cm:Int) (.slice aa (List.length (G:List ByteArray)) cc)) (Below.refl _ _).drew);have HOF:=Lib.hid (Zn (Zfr HOW.out w.heap.size (Nat.le_refl _) (kk) (k:Int) (cm:Int) (.slice aa (List.length (G:List ByteArray)) cc)) (Below.refl _ _).drew)
  have HBF:=Lib.hid (ZW (HB1.out.trans (BC.out.mono HB1.out.size)) (Nat.le_refl _) (kk) (k:Int) (cm:Int) (.slice aa (List.length (G:List ByteArray)) cc)).drew;have ld3:=Zah (RL.at (RL.below (Zbj HRB.out (g:=w.heap.size) (by have:=HN9.out;omega) (kk) (k:Int) (cm:Int) (.slice aa (List.length (G:List ByteArray)) cc)) (Below.refl _ _).drew) (j:=0) rfl);unfold st4 at HZ9 HOF HBF ld3;clear hZ0 hDU
  go_region;clear ld1 ld2 ld3 z0 z1 z2 z3 y0 y1 y2 y3;go_wp2;refine bodyPost_ret (Z8 Tryz.results78 (v:=.agg #[.int .i8 (kk),.int .i64 (k:Int),.int .u32 (cm:Int),.slice aa (List.length (G:List ByteArray)) cc]) (u:=.bool ((kk:Int) != 0)) rfl rfl (ZG HZ9.out)) rfl ?_;rw[HSM.out];exact⟨HBF.out,aa,cc,rfl,Zax HOF.out (by omega)⟩
 ·have dk:(x.k==1)=false:=by rw[beq_eq_false_iff_ne];exact h1
  have H1:=Lib.hid h1;clear h1
  by_cases h2:x.k=2
  ·have dk2:(x.k==2)=true:=by rw[h2];rfl
   have HSM:Hid (stM d ss x k=⟨if(ZA ss (vsT [] x.ts)).length=0 then 4 else 0,(k:Int),(cm:Int),[]⟩):=by
    show _=_;unfold stM;rw[if_neg H1.out,if_pos h2,←HCM.out]
   clear h2;go_upto_region 9 with fail
   have HC7:=Lib.hid (ZnK (pr:=x.pr) (HKS.out _ (Below.refl _ _)) (HXS.out _ (Below.refl _ _)).ts HSH.out B9.out.drew);obtain⟨G,hG⟩:∃G,G=ZA ss (vsT [] x.ts):=⟨_,rfl⟩;rw[←hG]at HC7 HSM;clear hG;refine wp_region_noPanic ?_;refine wp_region_held (S:=fun u=>Below w9.heap.size w9 u) (by kernel_rfl) ?_;refine ZqQ (w5:=w9) (S:=fun u=>Below w9.heap.size w9 u) (tb:=tb) (kb:=kb) (b6:=w.heap.size+1) (nn:=G.length) (av:=.agg #[.string x.pr,.slice q.a x.ts.length q.c]) rfl rfl rfl rfl rfl rfl rfl rfl rfl rfl (by kernel_rfl) (by kernel_rfl) (by kernel_rfl) (by kernel_rfl) (by kernel_rfl) (by intros;assumption) (by simp) rfl rfl (Below.refl _ _).drew (fun _ _ _ h=>h) (fun u=>by go_simp) (fun u hu=>HLK.out u (HU9.out u hu)) (fun u hu=>HLT.out u (HU9.out u hu)) ?_ ?_
   ·refine HC7.out.mono ?_;rintro e u1 ⟨v1,rfl,b1,hc⟩;have B1:Below w9.heap.size w9 u1:=(Below.refl _ _).drew.trans b1;refine⟨v1,rfl,B1,hc.mono ?_⟩;rintro e u2 ⟨aa,cc,rfl,hown,b2⟩;exact⟨aa,cc,rfl,B1.trans (b2.mono B1.size)⟩
   rintro wc v1 aa cc bc;refine NoPanic.normal ?_
   rename_i hK
   refine hK _ _ ?_;simp (config:={maxSteps:=8000000}) only[Act.put,List.getElem_toArray,List.getElem_cons_zero,List.getElem_cons_succ,List.setIfInBounds_toArray,List.set_cons_succ,List.set_cons_zero];have HRC:=Lib.hid (RL.below HR9.out bc);have BC:=Lib.hid (B9.out.trans (bc.mono B9.out.size));clear hK bc HC7 HR9 B9 HU9 lk
   by_cases hg0:G.length=0
   ·have dg:((G.length:Int)==0)=true:=by rw[beq_iff_eq];omega
    rw[if_pos hg0]at HSM;have c0:=RL.at HRC.out (j:=0) rfl;have f0:=World.rowIs.frozen HRC.out 0;clear hg0;go_upto_region 11 with fail
    have HBU:Hid (Below W.heap.size W (wc.setCell ⟨b9,0,none⟩ (.int .i8 4))):=BC.out.setCell (p:=⟨b9,0,none⟩) HN9.out _;have HRB:Hid (RL (wc.setCell ⟨b9,0,none⟩ (.int .i8 4)) b9 84 [.int .i8 4,.int .i64 (k:Int),.int .u32 (cm:Int),.slice none 0 0]):=HRC.out.set 0 _;generalize wc.setCell ⟨b9,0,none⟩ (.int .i8 4)=U at HBU HRB⊢;clear c0 f0 BC HRC;have BC:=HBU;have HOW:Hid (U.ownsRow (w.heap.size+1) 9 1 (.slice none (List.length ([]:List ByteArray)) 0) (List.length ([]:List ByteArray)) (([]:List ByteArray).flatMap Zm)):=World.ownsRow_nil _ _ _ _
    have hDU:Below U.heap.size U U.drew:=(Below.refl _ _).drew;have ld1:=ZG (RL.below HRB.out hDU);have ld2:=Zah (RL.at (RL.below HRB.out hDU) (j:=0) rfl);have hZ0:=RL.below HRZ.out BC.out;have z0:=RL.at hZ0 (j:=0) rfl;have z1:=RL.at hZ0 (j:=1) rfl;have z2:=RL.at hZ0 (j:=2) rfl;have z3:=RL.at hZ0 (j:=3) rfl;have y0:=World.rowIs.frozen hZ0 0;have y1:=World.rowIs.frozen hZ0 1;have y2:=World.rowIs.frozen hZ0 2
    have y3:=World.rowIs.frozen hZ0 3;have HZ9:=Lib.hid (RL.below (Za3 hZ0 (4) (k:Int) (cm:Int) (.slice none 0 0)) (Below.refl _ _).drew);have HOF:=Lib.hid (Zn (Zfr HOW.out w.heap.size (Nat.le_refl _) (4) (k:Int) (cm:Int) (.slice none 0 0)) (Below.refl _ _).drew);have HBF:=Lib.hid (ZW (HB1.out.trans (BC.out.mono HB1.out.size)) (Nat.le_refl _) (4) (k:Int) (cm:Int) (.slice none 0 0)).drew
    have ld3:=Zah (RL.at (RL.below (Zbj HRB.out (g:=w.heap.size) (by have:=HN9.out;omega) (4) (k:Int) (cm:Int) (.slice none 0 0)) (Below.refl _ _).drew) (j:=0) rfl);unfold st4 at HZ9 HOF HBF ld3;clear hZ0 hDU;go_region;clear ld1 ld2 ld3 z0 z1 z2 z3 y0 y1 y2 y3;go_wp2;refine bodyPost_ret (Z8 Tryz.results78 (v:=.agg #[.int .i8 (4),.int .i64 (k:Int),.int .u32 (cm:Int),.slice none 0 0]) (u:=.bool ((4:Int) != 0)) rfl rfl (ZG HZ9.out)) rfl ?_
    rw[HSM.out];exact⟨HBF.out,none,0,rfl,Zax HOF.out (by omega)⟩
   ·have dg:((G.length:Int)==0)=false:=by rw[beq_eq_false_iff_ne];omega
    rw[if_neg hg0]at HSM;clear hg0;go_upto_region 11 with fail
    have HRB:=HRC;obtain⟨U,hU⟩:∃U,U=wc:=⟨_,rfl⟩;rw[←hU]at BC HRB⊢;clear hU HRC;have HOW:Hid (U.ownsRow (w.heap.size+1) 9 1 (.slice none (List.length ([]:List ByteArray)) 0) (List.length ([]:List ByteArray)) (([]:List ByteArray).flatMap Zm)):=World.ownsRow_nil _ _ _ _;have hDU:Below U.heap.size U U.drew:=(Below.refl _ _).drew;have ld1:=ZG (RL.below HRB.out hDU);have ld2:=Zah (RL.at (RL.below HRB.out hDU) (j:=0) rfl)
    have hZ0:=RL.below HRZ.out BC.out;have z0:=RL.at hZ0 (j:=0) rfl;have z1:=RL.at hZ0 (j:=1) rfl;have z2:=RL.at hZ0 (j:=2) rfl;have z3:=RL.at hZ0 (j:=3) rfl;have y0:=World.rowIs.frozen hZ0 0;have y1:=World.rowIs.frozen hZ0 1;have y2:=World.rowIs.frozen hZ0 2;have y3:=World.rowIs.frozen hZ0 3;have HZ9:=Lib.hid (RL.below (Za3 hZ0 (0) (k:Int) (cm:Int) (.slice none 0 0)) (Below.refl _ _).drew);have HOF:=Lib.hid (Zn (Zfr HOW.out w.heap.size (Nat.le_refl _) (0) (k:Int) (cm:Int) (.slice none 0 0)) (Below.refl _ _).drew)
    have HBF:=Lib.hid (ZW (HB1.out.trans (BC.out.mono HB1.out.size)) (Nat.le_refl _) (0) (k:Int) (cm:Int) (.slice none 0 0)).drew;have ld3:=Zah (RL.at (RL.below (Zbj HRB.out (g:=w.heap.size) (by have:=HN9.out;omega) (0) (k:Int) (cm:Int) (.slice none 0 0)) (Below.refl _ _).drew) (j:=0) rfl);unfold st4 at HZ9 HOF HBF ld3;clear hZ0 hDU;go_region;clear ld1 ld2 ld3 z0 z1 z2 z3 y0 y1 y2 y3
    go_wp2;refine bodyPost_ret (Z8 Tryz.results78 (v:=.agg #[.int .i8 (0),.int .i64 (k:Int),.int .u32 (cm:Int),.slice none 0 0]) (u:=.bool ((0:Int) != 0)) rfl rfl (ZG HZ9.out)) rfl ?_;rw[HSM.out];exact⟨HBF.out,none,0,rfl,Zax HOF.out (by omega)⟩
  ·have dk2:(x.k==2)=false:=by rw[beq_eq_false_iff_ne];exact h2
   have HSM:Hid (stM d ss x k=⟨(Zal x (ZA ss (vsT [] (Zg d x.l))) (ZA ss (vsT [] (Zg d x.r)))).1,(k:Int),(cm:Int),(Zal x (ZA ss (vsT [] (Zg d x.l))) (ZA ss (vsT [] (Zg d x.r)))).2⟩):=by
    show _=_;unfold stM;rw[if_neg H1.out,if_neg h2,←HCM.out]
   clear h2;have HCO:=Lib.hid (ZiV d x q w9.drew (HKS.out _ B9.out.drew) (HXS.out _ B9.out.drew) HS1.out HS2.out);unfold Lit4.val at HCO;generalize Zal x (ZA ss (vsT [] (Zg d x.l))) (ZA ss (vsT [] (Zg d x.r)))=cg at HCO HSM;obtain⟨kk,G⟩:=cg;simp only at HCO HSM;go_upto_region 4 with fail
   refine wp_region_noPanic ?_;refine wp_region_held (S:=fun u=>Below W.heap.size W u) (by kernel_rfl) ?_;refine ZqR (w5:=w9) (S:=fun u=>Below W.heap.size W u) (tb:=tb) (kb:=kb) (b6:=w.heap.size+1) (b7:=b9) (nn:=G.length) (kk:=kk) (av:=.agg #[.int .i8 x.k,.string x.pr,.slice q.a x.ts.length q.c,.int .i8 x.rel,.int .i8 x.l.op,.string x.l.t.v,.int .i8 x.l.t.a.k,.int .i64 x.l.t.a.n,.string x.l.t.a.s,.slice q.la x.l.kids.length q.lc,.int .i8 x.r.op,.string x.r.t.v,.int .i8 x.r.t.a.k,.int .i64 x.r.t.a.n,.string x.r.t.a.s,.slice q.ra x.r.kids.length q.rc]) (Pf:=fun aa cc u=>u.ownsRow (w.heap.size+1) 9 1 (.slice aa G.length cc) G.length (G.flatMap Zm)∧RL u b9 84 [.int .i8 kk,.int .i64 (k:Int),.int .u32 (cm:Int),.slice aa G.length cc]∧Below W.heap.size W u) rfl rfl rfl rfl rfl rfl rfl rfl rfl rfl rfl rfl rfl (by kernel_rfl) (by kernel_rfl) (by kernel_rfl) (by kernel_rfl) (by kernel_rfl) (by kernel_rfl) (by intros;assumption) (by simp) rfl rfl rfl B9.out.drew (fun _ _ _ h=>h) (fun u j v h=>h.setCell (p:=⟨b9,j,none⟩) HN9.out v) HLK.out HLL.out ?_ ?_
   ·refine HCO.out.mono ?_;rintro e u1 ⟨b1,aa,cc,rfl,hown⟩;have B1:Below W.heap.size W u1:=B9.out.drew.trans (b1.mono (Nat.le_trans B9.out.size (Nat.le_refl _)));have hlt9:b9<w9.drew.heap.size:=HR9.out.lt;have hR2:RL u1 b9 84 [.int .i8 0,.int .i64 (k:Int),.int .u32 (cm:Int),.slice none 0 0]:=RL.below (RL.below HR9.out (Below.refl _ _).drew) b1;exact⟨aa,cc,rfl,B1,⟨_,_,_,_,hR2⟩,Zax (ownsRow_setCell_below (ownsRow_setCell_below hown (a:=⟨b9,0,none⟩) hlt9 _) (a:=⟨b9,3,none⟩) hlt9 _) (by have h1:=B9.out.size;have h2:w9.drew.heap.size=w9.heap.size:=rfl;omega),(hR2.set 0 _).set 3 _,(B1.setCell (p:=⟨b9,0,none⟩) HN9.out _).setCell (p:=⟨b9,3,none⟩) HN9.out _⟩
   rintro wc aa cc ⟨hown,hRB,bc⟩;refine NoPanic.normal ?_
   rename_i hK
   refine hK _ _ ?_;simp (config:={maxSteps:=8000000}) only[Act.put,List.getElem_toArray,List.getElem_cons_zero,List.getElem_cons_succ,List.setIfInBounds_toArray,List.set_cons_succ,List.set_cons_zero];have HOW:=Lib.hid hown;have HRB:=Lib.hid hRB;have BC:=Lib.hid bc;clear hK hown hRB bc HCO HR9 B9 HU9 lk;go_upto_region 11 with fail
   obtain⟨U,hU⟩:∃U,U=wc:=⟨_,rfl⟩;rw[←hU]at HOW HRB BC⊢;clear hU;have hDU:Below U.heap.size U U.drew:=(Below.refl _ _).drew;have ld1:=ZG (RL.below HRB.out hDU);have ld2:=Zah (RL.at (RL.below HRB.out hDU) (j:=0) rfl);have hZ0:=RL.below HRZ.out BC.out;have z0:=RL.at hZ0 (j:=0) rfl;have z1:=RL.at hZ0 (j:=1) rfl;have z2:=RL.at hZ0 (j:=2) rfl;have z3:=RL.at hZ0 (j:=3) rfl;have y0:=World.rowIs.frozen hZ0 0
   have y1:=World.rowIs.frozen hZ0 1;have y2:=World.rowIs.frozen hZ0 2;have y3:=World.rowIs.frozen hZ0 3;have HZ9:=Lib.hid (RL.below (Za3 hZ0 (kk) (k:Int) (cm:Int) (.slice aa (List.length (G:List ByteArray)) cc)) (Below.refl _ _).drew);have HOF:=Lib.hid (Zn (Zfr HOW.out w.heap.size (Nat.le_refl _) (kk) (k:Int) (cm:Int) (.slice aa (List.length (G:List ByteArray)) cc)) (Below.refl _ _).drew)
   have HBF:=Lib.hid (ZW (HB1.out.trans (BC.out.mono HB1.out.size)) (Nat.le_refl _) (kk) (k:Int) (cm:Int) (.slice aa (List.length (G:List ByteArray)) cc)).drew;have ld3:=Zah (RL.at (RL.below (Zbj HRB.out (g:=w.heap.size) (by have:=HN9.out;omega) (kk) (k:Int) (cm:Int) (.slice aa (List.length (G:List ByteArray)) cc)) (Below.refl _ _).drew) (j:=0) rfl);unfold st4 at HZ9 HOF HBF ld3;clear hZ0 hDU
   go_region;clear ld1 ld2 ld3 z0 z1 z2 z3 y0 y1 y2 y3;go_wp2;refine bodyPost_ret (Z8 Tryz.results78 (v:=.agg #[.int .i8 (kk),.int .i64 (k:Int),.int .u32 (cm:Int),.slice aa (List.length (G:List ByteArray)) cc]) (u:=.bool ((kk:Int) != 0)) rfl rfl (ZG HZ9.out)) rfl ?_;rw[HSM.out];exact⟨HBF.out,aa,cc,rfl,Zax HOF.out (by omega)⟩
end
section
open Go.RowKit Go.Maps Go.ChangeMaps
attribute [local go_sem ↓] Go.wp_at_zero Go.wp_at_succ
theorem ZgC(a b:Nat)(ha:a<4294967296)(hb:b<4294967296):bits .andNot .u32 (a:Int) (b:Int)=((a &&& (4294967295-b):Nat):Int):=by
 have hx:a &&& (4294967295-b)<2^32:=Nat.and_lt_two_pow _ (by omega)
 have h1:(BitVec.ofInt 32 (a:Int)).toNat=a:=by
  rw[BitVec.ofInt_natCast,BitVec.toNat_ofNat];exact Nat.mod_eq_of_lt (by omega)
 have h2:(BitVec.ofInt 32 (b:Int)).toNat=b:=by
  rw[BitVec.ofInt_natCast,BitVec.toNat_ofNat];exact Nat.mod_eq_of_lt (by omega)
 show IntKind.u32.wrap ((BitVec.ofInt 32 (a:Int) &&& ~~~ BitVec.ofInt 32 (b:Int)).toNat:Int)=_;rw[BitVec.toNat_and,BitVec.toNat_not,h1,h2,show(2:Nat)^32-1-b=4294967295-b by omega];simp only[IntKind.wrap,IntKind.signed,IntKind.bits,Bool.false_and,Bool.false_eq_true,if_false];omega
def Z9(left k:Nat):Nat:=left &&& (4294967295-2^k)
theorem Zcf(left k:Nat):Z9 left k≤left:=Nat.and_le_left
structure Px (t k:Nat) (w w':World):Prop where
 os:w'.os=w.os
 tape:w'.tape=w.tape
 output:w'.output=w.output
 size:w.heap.size≤w'.heap.size
 block:∀b,b<w.heap.size→b≠t→b≠k→w'.heap[b]?=w.heap[b]?
theorem Px.of_below{t k:Nat}{w w':World}(h:Below w.heap.size w w'):Px t k w w':=⟨h.os,h.tape,h.output,h.size,fun b hb _ _=>h.block b hb⟩
theorem Px.trans{t k:Nat}{a b c:World}(h:Px t k a b)(h2:Px t k b c):Px t k a c:=
 ⟨h2.os.trans h.os,h2.tape.trans h.tape,h2.output.trans h.output,Nat.le_trans h.size h2.size,fun i hi h1 h3=>(h2.block i (Nat.lt_of_lt_of_le hi h.size) h1 h3).trans (h.block i hi h1 h3)⟩
theorem Px.turned{t k:Nat}{w w':World}(h:w.mapTurned w' k):Px t k w w':=by
 obtain⟨es,c,es',c',hb,rfl⟩:=h
 exact⟨rfl,rfl,rfl,by simp[setBlock],fun b hb _ hne=>by
  unfold setBlock;exact Array.getElem?_setIfInBounds_ne (fun e=>hne e.symm)⟩
theorem Px.setCell{t k:Nat}(w:World)(o:Nat)(v:Value):Px t k w (w.setCell ⟨t,o,none⟩ v):=
 ⟨rfl,rfl,rfl,by simp[World.setCell],fun b hb h1 _=>Below.heap_setCell _ _ _ _ h1⟩
theorem Px.drew{t k:Nat}{a w:World}(h:Px t k a w):Px t k a w.drew:=⟨h.os,h.tape,h.output,h.size,h.block⟩
theorem Px.below{t k B:Nat}{w w':World}(h:Px t k w w')(hB:B≤w.heap.size)(ht:B≤t)(hk:B≤k):Below B w w':=⟨h.os,h.tape,h.output,h.size,fun b hb=>h.block b (Nat.lt_of_lt_of_le hb hB) (by omega) (by omega)⟩
def Zjd(ss g:List ByteArray):Prop:=(∀x∈g,x ∉ ss)∧g.Nodup
theorem Zo4{ss g:List ByteArray}(h:Zjd ss g){i:Nat}(hi:i<g.length):atS g i ∉ ss++g.take i:=by
 have e:atS g i=g[i]:=by
  unfold atS;rw[List.getD,List.getElem?_eq_getElem hi];rfl
 rw[e,List.mem_append];rintro(h1 | h1)
 ·exact h.1 _ (List.getElem_mem hi) h1
 ·obtain⟨j,hj,e2⟩:=List.getElem_of_mem h1;rw[List.length_take]at hj;rw[List.getElem_take]at e2;have:=(List.pairwise_iff_getElem.1 h.2) j i (by omega) hi (by omega);exact this e2
theorem Zbk{u:World}{a:Addr}{v:Value}(h:u.cell? a=some v):(loadVar 3 a).run Tryz.prog u=.ok v u:=by rw[loadVar.eq_1];go_simp
theorem Zay{u:World}{a:Addr}{v:Value}(h:u.cell? a=some v):(loadVar 26 a).run Tryz.prog u=.ok v u:=by rw[loadVar.eq_1];go_simp
attribute [-go_sem] loadVar
theorem Zf3{w:World}{B tb kb:Nat}{v:Value}{ss:List ByteArray}{left:Nat}(hT:ZbN w tb kb v ss left)(s:St){a:Option Addr}{c k:Nat}(hk:s.i=(k:Int))(hk16:k<16)(hl:left<4294967296)(own:w.ownsRow B 9 1 (.slice a s.g.length c) s.g.length (s.g.flatMap Zm))(htb:tb<B)(hkb:kb<B)(hsz:∀i,i<s.g.length→(atS s.g i).size≤maxLen)(hnd:Zjd ss s.g)(hn:s.g.length≤1048576) :
  Calls Tryz.prog 80 #[.pointer (some ⟨tb,0,none⟩),s.val a c] w fun e w'=>(∃u,e=.returned u)∧ZbN w' tb kb v (ss++s.g) (Z9 left k)∧Px tb kb w w':=by
 obtain⟨sk,si,sm,g⟩:=s;simp only at hk own hsz hnd hn;subst hk;unfold St.val;simp only;have hA0:=Zp (w:=w) (.cells #[.int .i8 sk,.int .i64 (k:Int),.int .u32 sm,.slice a g.length c] 84);have HRB:=Lib.hid (Zk w #[.int .i8 sk,.int .i64 (k:Int),.int .u32 sm,.slice a g.length c] 84);have HTL:=Lib.hid hT.rl.lt;have HTR:=Lib.hid (RL.below hT.rl hA0);have HTS:=Lib.hid (hT.set.of_block (hA0.block kb hT.set.lt))
 have HKL:=Lib.hid hT.set.lt;have HNE:=Lib.hid hT.ne;have HOW:=Lib.hid (Zn own hA0);have HB0:=Lib.hid hA0;have HSZ:=Lib.hid hsz;have HND:=Lib.hid hnd;have hp:(2:Nat)^k<4294967296:=Nat.lt_of_lt_of_le (Nat.pow_lt_pow_right (by decide) hk16) (by decide);have hpm:=ZiP k (by omega);have han:=ZgC left (2^k) hl hp;rw[show left &&& (4294967295-2^k)=Z9 left k from rfl]at han;have hk0:(0:Int)≤(k:Int):=by omega
 clear own hT hA0 hsz hnd hp;go_enter Tryz.func80,Tryz.ntmps80;go_upto_region 1 with fail
 obtain⟨W,hW⟩:∃W,W=w.alloc (.cells #[.int .i8 sk,.int .i64 (k:Int),.int .u32 sm,.slice a g.length c] 84):=⟨_,rfl⟩;rw[←hW]at HRB HTR HTS HOW HB0⊢;clear hW;have c2:=RL.at HTR.out (j:=2) rfl;have f2:=World.rowIs.frozen HTR.out 2;have l1:=Zbc (RL.at (RL.below HTR.out (Below.refl _ _).drew) (j:=2) rfl);have l2:=Zbk (RL.at (RL.below HRB.out (Below.refl _ _).drew) (j:=1) rfl);refine ZcJ ?_
 apply Exists.intro;apply Exists.intro;refine⟨?_,?_⟩
 ·go_region
  all_goals exact⟨rfl,rfl,rfl⟩
 simp only[Exit.then]
 have HEX:bits .andNot .u32 (left:Int) ((2:Int)^k)=(Z9 left k:Int):=by
  rw[←han,Int.natCast_pow];rfl
 rw[HEX];clear c2 f2 l1 l2 HEX;obtain⟨U,hU⟩:∃U,U=(W.setCell ⟨tb,2,none⟩ (.int .u32 (Z9 left k:Int))).drew:=⟨_,rfl⟩;rw[←hU]
 have HPX:Hid (Px tb kb W U):=by
  show Px _ _ _ _;rw[hU];exact(Px.setCell W 2 _).drew
 have HTU:Hid (ZbN U tb kb v ss (Z9 left k)):=by
  show ZbN _ _ _ _ _ _;rw[hU];exact⟨RL.below (HTR.out.set 2 _) (Below.refl _ _).drew,(HTS.out.of_block (Below.heap_setCell _ _ _ _ (Ne.symm HNE.out))).of_block rfl,HNE.out⟩
 have HBX:Hid (RL U w.heap.size 84 [.int .i8 sk,.int .i64 (k:Int),.int .u32 sm,.slice a g.length c]):=by
  show RL _ _ _ _;rw[hU];exact RL.below (World.rowIs.of_block HRB.out (Below.heap_setCell _ _ _ _ (by have:=HTL.out;simp;omega))) (Below.refl _ _).drew
 have HOU:Hid (U.ownsRow B 9 1 (.slice a g.length c) g.length (g.flatMap Zm)):=by
  show World.ownsRow _ _ _ _ _ _ _;rw[hU];exact Zn (ownsRow_setCell_below HOW.out (a:=⟨tb,2,none⟩) htb _) (Below.refl _ _).drew
 have hzU:W.heap.size=U.heap.size:=by rw[hU];simp[World.setCell]
 clear hU HTR HTS HRB HOW hpm han;have l3:=Zay (RL.at HBX.out (j:=3) rfl);obtain⟨a',c',hac,hc1,hc2,hat⟩:=Z3 (ZY HOU.out)
 injection hac with e1 e2 e3
 subst e1 e3;have HAT:=Lib.hid hat;clear hat e2;go_at_K;go_wp2;go_loopw [5,19] (fun nm i wr=>∃j:Nat,j≤g.length∧i=.int .i64 j∧Hid (ZbN wr tb kb v (ss++g.take j) (Z9 left k))∧Hid (Px tb kb U wr)) (fun _ i _=>g.length-(intOf i).toNat)
 case atStart=>exact⟨0,Nat.zero_le _,rfl,by rw[List.take_zero,List.append_nil];exact HTU,Px.of_below (Below.refl _ _)⟩
 case round=>
  obtain⟨j,hj,rfl,HTW,HPW⟩:=hrel
  by_cases hlt:j<g.length
  ·have hlt':(j:Int)<(g.length:Int):=by omega
   have hj0:(0:Int)≤(j:Int):=by omega
   obtain⟨g1,off,rfl,hg,hce⟩:=HAT.out (by omega);have hB:=(HOU.out.lt g1 rfl).1;have l1:=ZL ((World.cell?_of_block (w:=U) (a:=⟨g1,off+j,none⟩) (HPW.out.block g1 hg (by omega) (by omega))).trans (hce j hlt));have l2:=Zjb (RL.at HTW.out.rl (j:=1) rfl);have HLE:=Lib.hid (ZiX HTW.out.set (HSZ.out j hlt) (Zo4 HND.out hlt));have HTK:=Lib.hid (ZfQ hlt);generalize atS g j=x at l1 HLE HTK
   clear hce hB hg;go_wp2_with fail;refine HLE.out.mono ?_;rintro e w2 ⟨⟨y,rfl⟩,hset,hmt⟩
   have HT2:Hid (ZbN w2 tb kb v (ss++g.take (j+1)) (Z9 left k)):=by
    refine⟨World.rowIs.of_block HTW.out.rl ((Px.turned (t:=kb) hmt).block tb HTW.out.rl.lt HNE.out HNE.out),?_,HNE.out⟩;rw[HTK.out,←List.append_assoc];exact hset
   have HP2:Hid (Px tb kb U w2):=HPW.out.trans (Px.turned hmt);clear HLE l1 l2 hset hmt HTW HPW;go_wp2;go_roundw
   case rel=>exact⟨j+1,by omega,by go_num,HT2,HP2⟩
   case measure=>simp[intOf];omega
  ·obtain rfl:j=g.length:=by omega
   rw[List.take_length]at HTW;go_wp2;go_end0;exact⟨⟨_,rfl⟩,HTW.out,((Px.of_below HB0.out).trans HPX.out).trans HPW.out⟩
end
section
open Go.RowKit Go.Maps Go.ChangeMaps
attribute [local go_sem ↓] Go.wp_at_zero Go.wp_at_succ
attribute [-go_sem] loadVar
structure SX where
 s:St
 a:Option Addr
 c:Nat
def SX.cells(y:SX):List Value:=[.int .i8 y.s.k,.int .i64 y.s.i,.int .u32 y.s.m,.slice y.a y.s.g.length y.c]
def SX0:SX:=⟨⟨0,0,0,[]⟩,none,0⟩
def atZ(l:List SX)(i:Nat):SX:=l.getD i SX0
theorem ZcL{l:List SX}{i:Nat}(h:i<l.length):atZ l i=l[i]:=by simp[atZ,List.getD,List.getElem?_eq_getElem h]
structure Lz (w:World) (v:Value) (l:List SX):Prop where
 lies:Ls w v l.length (l.flatMap SX.cells)
 each:∀y∈l,Ls w (.slice y.a y.s.g.length y.c) y.s.g.length (y.s.g.flatMap Zm)
theorem Lz.below{w w':World}{v:Value}{l:List SX}(h:Lz w v l)(b:Below w.heap.size w w'):Lz w' v l:=⟨h.lies.below b,fun y hy=>(h.each y hy).below b⟩
theorem Lz.form{w:World}{v:Value}{l:List SX}(h:Lz w v l):∃a c,v=.slice a l.length c∧l.length≤c∧c≤maxLen∧(0<l.length→∃g off,a=some ⟨g,off,none⟩∧g<w.heap.size∧∀i,i<l.length→w.rangeAt g (off+i*4) (atZ l i).cells):=Zem (f:=SX.cells) (k:=4) (fun _=>rfl) SX0 h.lies
theorem Lz.at_is{w:World}{v:Value}{l:List SX}(h:Lz w v l){i:Nat}(hi:i<l.length):Ls w (.slice (atZ l i).a (atZ l i).s.g.length (atZ l i).c) (atZ l i).s.g.length ((atZ l i).s.g.flatMap Zm):=by rw[ZcL hi];exact h.each _ (List.getElem_mem hi)
def stL(d:Nat)(ss:List ByteArray)(l:List XL)(k:Nat):St:=stM d ss (atL l k).x k
def okW(d:Nat)(l:List XL)(ss:List ByteArray)(left:Nat)(s:St):Bool:=Zbu left s.i&&(((stL d ss l s.i.toNat).k != 0)&&Za2 s (stL d ss l s.i.toNat))
def goR(d:Nat)(l:List XL):List ByteArray→Nat→List St→Option (List ByteArray × Nat)
 | ss,left,[]=>some (ss,left)
 | ss,left,s::rest=>if okW d l ss left s=true then goR d l (ss++(stL d ss l s.i.toNat).g) (Z9 left s.i.toNat) rest else none
theorem ZfY(d:Nat)(l:List XL):∀(a:List St) (s:St) (ss:List ByteArray) (left:Nat),goR d l ss left (a++[s])=match goR d l ss left a with
  | some (ss',left')=>if okW d l ss' left' s=true then some (ss'++(stL d ss' l s.i.toNat).g,Z9 left' s.i.toNat)else none
  | none=>none
 | [],s,ss,left=>by simp[goR]
 | x::a,s,ss,left=>by
  rw[List.cons_append,goR,goR]
  split
  ·exact ZfY d l a s _ _
  ·rfl
theorem Zi7(d:Nat)(l:List XL):∀(a b:List St) (ss:List ByteArray) (left:Nat),goR d l ss left a=none→goR d l ss left (a++b)=none
 | [],b,ss,left,h=>by simp[goR]at h
 | x::a,b,ss,left,h=>by
  rw[goR]at h;rw[List.cons_append,goR]
  split
  ·next hx=>
   rw[if_pos hx]at h;exact Zi7 d l a b _ _ h
  ·rfl
theorem Zi8{l:List SX}{k:Nat}(h:k<l.length):(l.take (k+1)).map SX.s=(l.take k).map SX.s++[(atZ l k).s]:=by
 rw[List.take_add_one,List.getElem?_eq_getElem h,ZcL h,List.map_append];rfl
theorem Zbi{d:Nat}{l:List XL}{ss ss':List ByteArray}{left left':Nat}{xs:List SX}{j:Nat}(hj:j<xs.length)(h:goR d l ss left ((xs.take j).map SX.s)=some (ss',left'))(hx:okW d l ss' left' (atZ xs j).s=false):goR d l ss left (xs.map SX.s)=none:=by
 have h1:goR d l ss left ((xs.take (j+1)).map SX.s)=none:=by
  rw[Zi8 hj,ZfY,h];simp[hx]
 have e:xs.map SX.s=(xs.take (j+1)).map SX.s++(xs.drop (j+1)).map SX.s:=by rw[←List.map_append,List.take_append_drop]
 rw[e];exact Zi7 d l _ _ _ _ h1
theorem Zi9{d:Nat}{l:List XL}{ss ss':List ByteArray}{left left':Nat}{xs:List SX}{j:Nat}(hj:j<xs.length)(h:goR d l ss left ((xs.take j).map SX.s)=some (ss',left'))(hx:okW d l ss' left' (atZ xs j).s=true):goR d l ss left ((xs.take (j+1)).map SX.s)=some (ss'++(stL d ss' l (atZ xs j).s.i.toNat).g,Z9 left' (atZ xs j).s.i.toNat):=by
 rw[Zi8 hj,ZfY,h];simp[hx]
theorem ZeO(ss:List ByteArray){l:List ByteArray}(h:l.Nodup):Zjd ss (ZA ss l):=by
 refine⟨fun x hx hs=>?_,?_⟩
 ·have:=(List.mem_filter.1 hx).2;rw[ZD.2 hs]at this
  cases this
 ·exact List.Nodup.sublist List.filter_sublist h
theorem ZbV:∀(ts:List T) (out:List ByteArray),out.Nodup→(vsT out ts).Nodup
 | [],out,h=>h
 | t::ts,out,h=>by
  rw[vsT]
  split
  ·exact ZbV ts out h
  ·next hc=>
   refine ZbV ts _ ?_;rw[List.nodup_append];refine⟨h,by simp,fun a ha b hb=>?_⟩;rintro rfl;rw[List.mem_singleton]at hb;subst hb;exact hc (Or.inr (Or.inr (ZD.2 ha)))
theorem Zef(ss:List ByteArray):Zjd ss []:=⟨fun x hx=>absurd hx (by simp),List.nodup_nil⟩
theorem Zid(d:Nat)(ss:List ByteArray)(x:Lit4)(k:Nat):Zjd ss (stM d ss x k).g:=by
 unfold stM
 split
 ·exact ZeO ss (ZbV _ _ List.nodup_nil)
 ·split
  ·exact Zef ss
  ·show Zjd ss (Zal x _ _).2;unfold Zal
   split
   ·exact Zef ss
   ·split
    ·exact Zef ss
    ·split
     ·exact ZeO ss (ZbV _ _ List.nodup_nil)
     ·split
      ·exact ZeO ss (ZbV _ _ List.nodup_nil)
      ·exact Zef ss
theorem Zc4{ss l:List ByteArray}(h:∀x∈l,x.size≤maxLen):∀x∈ZA ss l,x.size≤maxLen:=fun x hx=>h x (List.mem_filter.1 hx).1
theorem ZeP{ts:List T}(h:∀t∈ts,t.wf):∀x∈vsT [] ts,x.size≤maxLen:=by
 intro x hx;rcases ZbS _ _ _ hx with h1 | ⟨t,ht,e⟩
 ·simp at h1
 ·rw[←e];exact(h t ht).text
theorem Zkt{w:World}{d:Nat}{x:Lit4}{q:LP}(h:LIs w d x q)(ss:List ByteArray)(k:Nat):∀y∈(stM d ss x k).g,y.size≤maxLen:=by
 have hl:=Zc4 (ss:=ss) (ZeP (Zbm _ _ _ _ h.l));have hr:=Zc4 (ss:=ss) (ZeP (Zbm _ _ _ _ h.r));unfold stM
 split
 ·exact Zc4 (ZeP h.ts.wf)
 ·split
  ·intro y hy
   cases hy
  ·show ∀y∈(Zal x _ _).2,_;unfold Zal
   split
   ·intro y hy
    cases hy
   ·split
    ·intro y hy
     cases hy
    ·split
     ·exact hl
     ·split
      ·exact hr
      ·intro y hy
       cases hy
theorem ZfZ(d:Nat)(ss:List ByteArray)(x:Lit4)(k:Nat)(h0:x.ts.length≤24)(h1:szD d x.l≤1048576)(h2:szD d x.r≤1048576):(stM d ss x k).g.length≤1048576:=by
 have a0:=Zaw x.ts [];have a1:=Zaw (Zg d x.l) [];have a2:=Zaw (Zg d x.r) [];have b0:=ZbU ss (vsT [] x.ts);have b1:=ZbU ss (vsT [] (Zg d x.l));have b2:=ZbU ss (vsT [] (Zg d x.r));simp only[List.length_nil]at a0 a1 a2;unfold szD at h1 h2;unfold stM
 split
 ·show(ZA ss (vsT [] x.ts)).length≤_;omega
 ·split
  ·simp
  ·show(Zal x _ _).2.length≤_;unfold Zal
   split
   ·simp
   ·split
    ·simp
    ·split
     ·show(ZA ss (vsT [] (Zg d x.l))).length≤_;omega
     ·split
      ·show(ZA ss (vsT [] (Zg d x.r))).length≤_;omega
      ·simp
theorem Zeg{w:World}{tb kb d k:Nat}{v:Value}{ss:List ByteArray}{left:Nat}{l:List XL}(hT:ZbN w tb kb v ss left)(hL:Lb w v d l)(hk:k<l.length)(hn:l.length≤16)(hc:(atL l k).x.ts.length≤24)(hs1:szD d (atL l k).x.l≤1048576)(hs2:szD d (atL l k).x.r≤1048576) :
  Calls Tryz.prog 78 #[.pointer (some ⟨tb,0,none⟩),.int .i64 (k:Int)] w fun e w'=>Below w.heap.size w w'∧∃a c,e=.returned (.tuple #[(stL d ss l k).val a c,.bool ((stL d ss l k).k != 0)])∧w'.ownsRow w.heap.size 9 1 (.slice a (stL d ss l k).g.length c) (stL d ss l k).g.length ((stL d ss l k).g.flatMap Zm):=by
 obtain⟨a,c,rfl,hc1,hc2,hat⟩:=hL.form;obtain⟨g,off,rfl,hg,hr⟩:=hat (by omega);exact Zqa hT hg (hr k hk) (hL.at_is hk) hk hn hc hs1 hs2
end
end Go.Proofs.YtjdnpgpbeppgjaaGreatDoor
