import Derived.Test.YtjdnpgpbeppgjaaGreatDoorA24
set_option linter.unusedSimpArgs false
set_option linter.unusedVariables false
set_option maxHeartbeats 3200000
set_option maxRecDepth 100000
namespace Go.Proofs.YtjdnpgpbeppgjaaGreatDoor
open Go.RowKit Go.Maps
attribute [local go_sem ↓] Go.wp_at_zero Go.wp_at_succ
theorem ZhS(sv:Value)(s:List P)(d:Nat)(r:R3)(p:RP)(w:World)(hT:KT w)(hR:RIs w d r p)(hs:Zaj d r)(hp:Lp w sv s)(hn:s.length≤1048576) :
  Calls Tryz.prog 31 #[sv,r.val p] w fun e w'=>∃r' p',e=.returned (.tuple #[r'.val p',.int .i64 (Zgp (okR s d r))])∧Below w.heap.size w w'∧LikeR (ZhR s d r) r'∧Frr w.heap.size w' d r' p':=by
 obtain⟨a0,c0,rfl,_,_,_⟩:=hp.form;have HLP:=Lib.hid hp;have HT:=Lib.hid hT;have HRI:=Lib.hid hR;have HSM:=Lib.hid hs;have HOKP:=Lib.hid (ZhP s);have HFW:Hid (∀q∈ZbZ s,q.wf):=fun q hq=>hp.wf q (Znc q hq)
 obtain⟨ok,hok⟩:∃ok,ok=okR s d r:=⟨_,rfl⟩;have HOK:=Lib.hid hok;rw[←hok];have hA1:=Zp (w:=w) (.cells #[.string r.pr,.slice p.a r.hd.length p.c,.slice p.ba r.bd.length p.bc] 25);have hA2:=Zp (w:=w.alloc (.cells #[.string r.pr,.slice p.a r.hd.length p.c,.slice p.ba r.bd.length p.bc] 25)) (.cells #[.string ⟨#[]⟩,.slice none 0 0,.slice none 0 0] 25);have HB0:=Lib.hid (hA1.trans (hA2.mono hA1.size))
 have HR0:=Lib.hid ((Zk w #[.string r.pr,.slice p.a r.hd.length p.c,.slice p.ba r.bd.length p.bc] 25).below hA2);have hR1:=Zk (w.alloc (.cells #[.string r.pr,.slice p.a r.hd.length p.c,.slice p.ba r.bd.length p.bc] 25)) #[.string ⟨#[]⟩,.slice none 0 0,.slice none 0 0] 25;rw[World.size_alloc]at hR1;have HR1:=Lib.hid hR1;have HSZ:Hid (((w.alloc (.cells #[.string r.pr,.slice p.a r.hd.length p.c,.slice p.ba r.bd.length p.bc] 25)).alloc (.cells #[.string ⟨#[]⟩,.slice none 0 0,.slice none 0 0] 25)).heap.size=w.heap.size+2):=by show _=_;simp
 clear hA1 hA2 hR1 hok hp hT hR hs;unfold R3.val;go_enter Tryz.func31,Tryz.ntmps31;go_upto_region 1 with fail
 generalize (w.alloc (.cells #[.string r.pr,.slice p.a r.hd.length p.c,.slice p.ba r.bd.length p.bc] 25)).alloc (.cells #[.string ⟨#[]⟩,.slice none 0 0,.slice none 0 0] 25)=W at HB0 HR0 HR1 HSZ⊢;have y0:=HR0.out.at (j:=0) rfl;have y1:=HR0.out.at (j:=1) rfl;have y2:=HR0.out.at (j:=2) rfl;have HIR:=Lib.hid (ZdY d r p W (HT.out.below HB0.out) (HRI.out.below HB0.out) HSM.out);unfold R3.val at HIR
 go_wp2_with fail;refine HIR.out.mono ?_;rintro e w1 ⟨rfl,b1⟩;have HB1:=Lib.hid (HB0.out.trans (b1.mono HB0.out.size));have HR0':=Lib.hid (HR0.out.below b1);have HR1':=Lib.hid (HR1.out.below b1);have HSZ1:Hid (w.heap.size+2≤w1.heap.size):=by show _≤_;rw[←HSZ.out];exact b1.size
 clear HIR HR0 HR1 HB0 HSZ y0 y1 y2 b1
 cases hrb:ruleB d r
 ·have HF:Hid (ok=false):=by show _=_;rw[HOK.out];unfold okR;rw[hrb];rfl
  have HRES:Hid (ZhR s d r=noR):=by show _=_;unfold ZhR;rw[←HOK.out,HF.out];rfl
  have o0:=HR1'.out.at (j:=0) rfl;have o1:=HR1'.out.at (j:=1) rfl;have o2:=HR1'.out.at (j:=2) rfl;have f0:=World.rowIs.frozen HR1'.out 0;have f1:=World.rowIs.frozen HR1'.out 1;have f2:=World.rowIs.frozen HR1'.out 2;have HD1:=Lib.hid (Zd3 HR1'.out ⟨#[]⟩ (.slice none 0 0) (.slice none 0 0));have HD2:=Lib.hid (ZbX (g:=w.heap.size+1) HB1.out (by omega) ⟨#[]⟩ (.slice none 0 0) (.slice none 0 0))
  unfold ZdJ at HD1 HD2;clear HR0' HR1' HB1 hrb;go_wp2;refine bodyPost_ret (Zfx Tryz.results31 (v:=.agg #[.string ⟨#[]⟩,.slice none 0 0,.slice none 0 0]) (u:=.int .i64 40) rfl rfl (run_loadVar_mid _ _ 0 25 [.string ⟨#[]⟩,.slice none 0 0,.slice none 0 0] _ HD1.out.range Tryz.underlying25 rfl (by kernel_rfl))) rfl ?_;refine⟨noR,⟨none,0,none,0⟩,by rw[HF.out];rfl,HD2.out,?_,fun u _ _=>Zne u d⟩
  rw[HRES.out];exact LikeR.refl _
 ·have HRB:=Lib.hid hrb;have y0:=HR0'.out.at (j:=0) rfl;have y1:=HR0'.out.at (j:=1) rfl;have y2:=HR0'.out.at (j:=2) rfl;have HCR:=Lib.hid (ZgA d r p w1 (HRI.out.below HB1.out) HSM.out);unfold R3.val at HCR;clear hrb;go_wp2_with fail;refine HCR.out.mono ?_;rintro e w2 ⟨xs,q,l1,l2,rfl,hxs,b2,hAB,hBB,hnd,hlo⟩;have hxl:r.bd.length=xs.length:=by have:=congrArg List.length hxs;simpa using this.symm
  rw[hxl];have hA3:=Zp (w:=w2) (.cells #[.string r.pr,.slice q.a r.hd.length q.c,.slice q.ba xs.length q.bc] 25);have HW3:=Lib.hid hA3;have HB2:=Lib.hid (HB1.out.trans (b2.mono HB1.out.size));have HB3:=Lib.hid (HB2.out.trans (hA3.mono HB2.out.size));have HQ1:=Lib.hid ((HR1'.out.below b2).below hA3);have HQ6:=Lib.hid (Zk w2 #[.string r.pr,.slice q.a r.hd.length q.c,.slice q.ba xs.length q.bc] 25)
  have HSZ3:Hid ((w2.alloc (.cells #[.string r.pr,.slice q.a r.hd.length q.c,.slice q.ba xs.length q.bc] 25)).heap.size=w2.heap.size+1):=by show _=_;simp
  have HSZ2:Hid (w.heap.size+2≤w2.heap.size):=Nat.le_trans HSZ1.out b2.size;have HLO:Hid (∀b∈l1++l2,w.heap.size+2≤b):=fun b hb=>Nat.le_trans HSZ1.out (hlo b hb)
  have HLT:Hid (∀b∈l1++l2,b<w2.heap.size):=fun b hb=>by
   rcases List.mem_append.1 hb with hb | hb
   ·exact hAB.lt b hb
   ·exact hBB.lt b hb
  have HAB:=Lib.hid (hAB.keep hA3.size (fun b hb=>hA3.block b (hAB.lt b hb)));have HBB:=Lib.hid (hBB.keep hA3.size (fun b hb=>hA3.block b (hBB.lt b hb)));have HND:=Lib.hid hnd;have HXS:=Lib.hid hxs;have HXL:=Lib.hid hxl;clear hxl hA3 hAB hBB hnd hxs hlo b2 HCR HR0' HR1' HB1 y0 y1 y2 HSZ1 HB2;go_upto_region 4 with fail
  generalize w2.alloc (.cells #[.string r.pr,.slice q.a r.hd.length q.c,.slice q.ba xs.length q.bc] 25)=W3 at HW3 HB3 HQ1 HQ6 HSZ3 HAB HBB⊢;have HPL:=Lib.hid (ZhQ _ s W3 (HLP.out.below HB3.out) hn);go_wp2_with fail;refine HPL.out.mono ?_;rintro e w4 ⟨rfl,hm,b4⟩;have HB4:=Lib.hid (HB3.out.trans (b4.mono HB3.out.size));have HQ1':=Lib.hid (HQ1.out.below b4);have HQ6':=Lib.hid (HQ6.out.below b4)
  have HSZ4:Hid (w2.heap.size+1≤w4.heap.size):=by show _≤_;rw[←HSZ3.out];exact b4.size
  have hab:=HAB.out.keep b4.size (fun b hb=>b4.block b (HAB.out.lt b hb));have hbb:=HBB.out.keep b4.size (fun b hb=>b4.block b (HBB.out.lt b hb));have hxsm:xs.length≤1048576:=by rw[←HXL.out];exact HSM.out.bd
  have HW:=Lib.hid (ZlU HOKP.out.nd HFW.out d w4 r.hd xs q.a q.c q.ba q.bc w2.heap.size l1 l2 hm (HQ6'.out.at (j:=1) rfl) (HQ6'.out.at (j:=2) rfl) hab hbb HND.out (fun h=>Nat.lt_irrefl _ (HLT.out _ h)) (fun h=>by have:=HLT.out _ h;have:=HSZ3.out;omega) (by have:=HSM.out.hd;omega) (by omega));unfold ZeD at HW;have hmf:∀(fn:Fn) (first cap:Array Value) (w:World),(Instr.makeFunc fn first cap).run Tryz.prog w=.ok (.func fn first cap) w:=fun _ _ _ _=>rfl
  clear HPL HQ1 HQ6 HB3 HAB HBB hab hbb hm b4 HSZ3 hxsm;go_wp2_with fail;refine HW.out.mono ?_;rintro e w5 ⟨⟨u,rfl⟩,t5,hab5,hbb5⟩;have hB45:Below (w.heap.size+2) w4 w5:=⟨t5.os,t5.tape,t5.output,t5.size,fun b hb=>t5.block b (by have:=HSZ4.out;have:=HSZ2.out;omega) (fun h=>by have:=HLO.out b h;omega)⟩;have HB5:=Lib.hid (HB4.out.trans (hB45.mono (by omega)));have HQ15:Hid (RL w5 (w.heap.size+1) 25 [.string ⟨#[]⟩,.slice none 0 0,.slice none 0 0]):=World.rowIs.of_block HQ1'.out (hB45.block _ (by omega))
  have HQ65:Hid (RL w5 w2.heap.size 25 [.string r.pr,.slice q.a r.hd.length q.c,.slice q.ba xs.length q.bc]):=World.rowIs.of_block HQ6'.out (t5.block _ (by have:=HSZ4.out;omega) (fun h=>Nat.lt_irrefl _ (HLT.out _ h)));have HSZ5:Hid (w2.heap.size+1≤w5.heap.size):=Nat.le_trans HSZ4.out t5.size;have hla:=hab5.la;have hlb:=hbb5.lb;have hpb:=HRI.out.pb;obtain⟨R,hRd⟩:∃R:R3,R=⟨r.pr,r.hd.map (apA (res (ZbZ s))),xs.map (apX (res (ZbZ s)) d)⟩:=⟨_,rfl⟩
  have HIS:Hid (RIs w5 d R q):=by
   show RIs w5 d R q;rw[hRd];exact⟨hpb,by show(r.hd.map _).length≤_;rw[List.length_map];have:=HSM.out.hd;omega,by show(xs.map _).length≤_;rw[List.length_map,←HXL.out];have:=HSM.out.bd;omega,hla,hlb⟩
  have HAL:Hid (∀u:World,w5.heap.size≤u.heap.size→(∀b,w.heap.size+2≤b→b<w5.heap.size→u.heap[b]?=w5.heap[b]?)→RIs u d R q):=fun u hu hk=>by
   rw[hRd];exact⟨hpb,by show(r.hd.map _).length≤_;rw[List.length_map];have:=HSM.out.hd;omega,by show(xs.map _).length≤_;rw[List.length_map,←HXL.out];have:=HSM.out.bd;omega,(hab5.keep hu (fun b hb=>hk b (HLO.out b (by simp[hb])) (hab5.lt b hb))).la,(hbb5.keep hu (fun b hb=>hk b (HLO.out b (by simp[hb])) (hbb5.lt b hb))).lb⟩
  have HLIKE:Hid (LikeR (apR (ZkQ s) d r) R):=by
   show LikeR _ _;rw[hRd,Znf];exact Znd HXS.out
  have HVAL:Hid (R.val q=.agg #[.string r.pr,.slice q.a r.hd.length q.c,.slice q.ba xs.length q.bc]):=by
   show _=_;rw[hRd];unfold R3.val;simp only[List.length_map]
  clear hRd hla hlb hpb hab5 hbb5 t5 hB45 HW HQ1' HQ6' HB4 hmf HXS HXL HND HLO HLT;have z0:=HQ65.out.at (j:=0) rfl;have z1:=HQ65.out.at (j:=1) rfl;have z2:=HQ65.out.at (j:=2) rfl;have HI2:=Lib.hid (ZdY d R q w5 (HT.out.below HB5.out) HIS.out (HLIKE.out.small (ZlT _ HSM.out)));rw[HVAL.out]at HI2;go_wp2_with fail;refine HI2.out.mono ?_;rintro e w6 ⟨rfl,b6⟩;have HB6:=Lib.hid (HB5.out.trans (b6.mono HB5.out.size))
  have HK1:=Lib.hid (HQ15.out.below b6);have HK6:=Lib.hid (HQ65.out.below b6);have HB65:=Lib.hid b6;have HOK2:Hid (ok=ruleB d R):=by show _=_;rw[HOK.out,HLIKE.out.ruleB d];unfold okR;rw[HRB.out];rfl
  have o0:=HK1.out.at (j:=0) rfl;have o1:=HK1.out.at (j:=1) rfl;have o2:=HK1.out.at (j:=2) rfl;have f0:=World.rowIs.frozen HK1.out 0;have f1:=World.rowIs.frozen HK1.out 1;have f2:=World.rowIs.frozen HK1.out 2;have x0:=HK6.out.at (j:=0) rfl;have x1:=HK6.out.at (j:=1) rfl;have x2:=HK6.out.at (j:=2) rfl;clear HI2 HB5 HQ15 HQ65 z0 z1 z2 b6 HIS
  cases hrb2:ruleB d R
  ·rw[hrb2]at HOK2;have HRES:Hid (ZhR s d r=noR):=by show _=_;unfold ZhR;rw[←HOK.out,HOK2.out];rfl
   have HD1:=Lib.hid (Zd3 HK1.out ⟨#[]⟩ (.slice none 0 0) (.slice none 0 0));have HD2:=Lib.hid (ZbX (g:=w.heap.size+1) HB6.out (by omega) ⟨#[]⟩ (.slice none 0 0) (.slice none 0 0));unfold ZdJ at HD1 HD2;clear hrb2 HK1 HK6 HB6;go_wp2;refine bodyPost_ret (Zfx Tryz.results31 (v:=.agg #[.string ⟨#[]⟩,.slice none 0 0,.slice none 0 0]) (u:=.int .i64 40) rfl rfl (run_loadVar_mid _ _ 0 25 [.string ⟨#[]⟩,.slice none 0 0,.slice none 0 0] _ HD1.out.range Tryz.underlying25 rfl (by kernel_rfl))) rfl ?_
   refine⟨noR,⟨none,0,none,0⟩,by rw[HOK2.out];rfl,HD2.out,?_,fun u _ _=>Zne u d⟩;rw[HRES.out];exact LikeR.refl _
  ·rw[hrb2]at HOK2;have HRES:Hid (ZhR s d r=apR (ZkQ s) d r):=by show _=_;unfold ZhR;rw[←HOK.out,HOK2.out];rfl
   have HD1:=Lib.hid (Zd3 HK1.out r.pr (.slice q.a r.hd.length q.c) (.slice q.ba xs.length q.bc));have HD2:=Lib.hid (ZbX (g:=w.heap.size+1) HB6.out (by omega) r.pr (.slice q.a r.hd.length q.c) (.slice q.ba xs.length q.bc));have HD3:Hid (Frr w.heap.size (ZdJ w6 (w.heap.size+1) r.pr (.slice q.a r.hd.length q.c) (.slice q.ba xs.length q.bc)) d R q):=fun u h1 h2=>HAL.out u (by rw[Zco]at h1;exact Nat.le_trans HB65.out.size h1) (fun b hb1 hb2=>by rw[h2 b (by omega) (by rw[Zco];exact Nat.lt_of_lt_of_le hb2 HB65.out.size),ZcB _ _ _ _ _ (by omega)];exact HB65.out.block b hb2)
   unfold ZdJ at HD1 HD2 HD3;clear hrb2 HK1 HK6 HB6;go_wp2;refine bodyPost_ret (Zfx Tryz.results31 (v:=.agg #[.string r.pr,.slice q.a r.hd.length q.c,.slice q.ba xs.length q.bc]) (u:=.int .i64 0) rfl rfl (run_loadVar_mid _ _ 0 25 [.string r.pr,.slice q.a r.hd.length q.c,.slice q.ba xs.length q.bc] _ HD1.out.range Tryz.underlying25 rfl (by kernel_rfl))) rfl ?_;refine⟨R,q,by rw[HOK2.out];exact congrArg (fun v=>Ending.returned (.tuple #[v,.int .i64 0])) HVAL.out.symm,HD2.out,?_,HD3.out⟩
   rw[HRES.out];exact HLIKE.out
end Go.Proofs.YtjdnpgpbeppgjaaGreatDoor
