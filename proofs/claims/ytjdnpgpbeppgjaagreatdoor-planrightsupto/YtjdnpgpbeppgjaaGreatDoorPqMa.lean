import Derived.Test.YtjdnpgpbeppgjaaGreatDoorA29
import Derived.Test.YtjdnpgpbeppgjaaGreatDoorPqSt
set_option linter.unusedSimpArgs false
set_option linter.unusedVariables false
set_option maxHeartbeats 6400000
set_option maxRecDepth 100000
namespace Go.Proofs.YtjdnpgpbeppgjaaGreatDoor
open Go.RowKit Go.Maps Go.Shelf
attribute [local go_sem ↓] Go.wp_at_zero Go.wp_at_succ
attribute [local go_sem] Oper.semAt_some
attribute [-go_sem] loadVar
theorem Zkz(ev:Operand→Value)(o:Oper){x:Operand}(hop:o.op=.fieldAddr 25 x 2)(w:World){b:Nat}(hx:ev x=.pointer (some ⟨b,0,none⟩)):(execOp ev o).run Tryz.prog w=.ok (.value (.pointer (some ⟨b,2,none⟩))) w:=by
 simp only[execOp,hop,hx];go_simp
theorem Zjh{d:Nat}{r:R3}(h:ruleB d r=true):r.bd.all (fun y=>ZQ y.x)=true:=by
 unfold ruleB at h;simp only[Bool.and_eq_true]at h;exact h.2.2.2.2.1
def ZqT(x y b:Bool):Int:=if x=false then 40 else if y=false then 1 else if b=true then 0 else 73
def Zji(d:Nat)(r:R3)(l:List ByteArray)(n:Int):Prop:=∃b,n=ZqT (ruleB d r) (knB l l.length) b∧(ruleB d r=true→knB l l.length=true→∀fs,ZbI d l r fs→b=decide (fs.length=(vsT [] (Zi d r)).length))
def ZdS:List (List Nat × Nat):=[([],0),([0],2),([0,2],3),([0,2,3],4),([0,2,3,4,1,5,6],7)]
theorem ZqU{ops:Array Oper}{Q:Exit→Act→World→Prop}{S:World→Prop}{a0:Act}{w5:World}{b2:Nat}{rv bv kv:Value}{V1:Value→World→Prop}{V2:Value→Value→World→Prop}{PB:Bool→Prop}{ty1 ty2 ty3:Array TypeId}
  (q0:Zf ops 0 none (.load 25 (.tmp 2)) (some 11))
  (q2:Zf ops 2 none (.fieldAddr 25 (.tmp 2) 2) (some 13))
  (q3:Zf ops 3 none (.load 23 (.tmp 13)) (some 14))
  (q4:Zf ops 4 none (.move (.tmp 1)) (some 15))
  (q1:Zf ops 1 none (.call {callee:=.value (.func 91),args:=#[.tmp 11],argTypes:=ty1}) (some 12))
  (q5:Zf ops 5 none (.call {callee:=.value (.func 92),args:=#[.tmp 14,.tmp 15],argTypes:=ty2}) (some 16))
  (q6:Zf ops 6 none (.call {callee:=.value (.func 90),args:=#[.tmp 12,.tmp 16],argTypes:=ty3}) (some 17))
  (q7:Zf ops 7 none (.unOp .not 4 (.tmp 17)) (some 18))
  (hs:Region.noSelect ops=true) (hq:(ZdS.all fun p=>Region.free .any ops (LR 8 p.1) p.2&&(Region.ready .any ops (LR 8 p.1)).contains p.2)=true)
  (r1:Region.ready .any ops (LR 8 [0,2,3,4])=[1])
  (r5:Region.ready .any ops (LR 8 [0,2,3,4,1])=[5])
  (r6:Region.ready .any ops (LR 8 [0,2,3,4,1,5])=[6])
  (rend:Region.ready .any ops (LR 8 [0,2,3,4,1,5,6,7])=[])
  (hQ:∀(d:Option Tmp) (v:Value) c a w,Q (.panic c) (a.put d v) w→Q (.panic c) a w)
  (hsz:18<a0.tmps.size) (e2:a0.eval (.tmp 2)=.pointer (some ⟨b2,0,none⟩)) (e1:a0.eval (.tmp 1)=kv)
  (hS0:S w5.drew)
  (keep:∀u u',S u→S u'→S u') (LA:∀u,S u→(loadVar 25 ⟨b2,0,none⟩).run Tryz.prog u=.ok rv u) (LB:∀u,S u→(loadVar 23 ⟨b2,2,none⟩).run Tryz.prog u=.ok bv u)
  (H1:∀u,S u→Calls Tryz.prog 91 #[rv] u fun e w'=>∃sv1,e=.returned sv1∧S w'∧V1 sv1 w') (H2:∀u sv1,S u→V1 sv1 u→Calls Tryz.prog 92 #[bv,kv] u fun e w'=>∃sv2,e=.returned sv2∧S w'∧V2 sv1 sv2 w') (H3:∀u sv1 sv2,S u→V2 sv1 sv2 u→Calls Tryz.prog 90 #[sv1,sv2] u fun e w'=>∃bb,e=.returned (.bool bb)∧S w'∧PB bb)
  (F:∀(wc:World) (sv1 sv2:Value) (bb:Bool),PB bb→S wc→Q .normal ((((((((a0.put (some 11) (rv)).put (some 13) (.pointer (some ⟨b2,2,none⟩))).put (some 14) (bv)).put (some 15) (kv)).put (some 12) (sv1)).put (some 16) (sv2)).put (some 17) (.bool bb)).put (some 18) (.bool (!bb))) wc) :
  wpAnyH Tryz.prog .any ops Q S 8 (LR 8 []) a0 w5.drew:=by
 have hall:∀p∈ZdS,Region.free .any ops (LR 8 p.1) p.2=true∧(Region.ready .any ops (LR 8 p.1)).contains p.2=true:=by
  intro p hp;have:=List.all_eq_true.1 hq p hp;simpa using this
 unfold ZdS at hall;refine Zj [] (rv) q0 hs (hall ([],0) (by simp)) hQ (fun o w' hop hS=>ZF _ _ hop w' (by(repeat rw[Za _ _ (by decide)]);exact e2) (LA _ hS)) hS0 ?_;refine Zj [0] (.pointer (some ⟨b2,2,none⟩)) q2 hs (hall ([0],2) (by simp)) hQ (fun o w' hop hS=>Zkz _ _ hop w' (by(repeat rw[Za _ _ (by decide)]);exact e2)) hS0 ?_;refine Zj [0,2] (bv) q3 hs (hall ([0,2],3) (by simp)) hQ (fun o w' hop hS=>ZF _ _ hop w' (by(repeat(first | rw[Zc _ _ (by(try simp only[Zb]);omega)] | rw[Za _ _ (by decide)]))) (LB _ hS)) hS0 ?_
 refine Zj [0,2,3] (kv) q4 hs (hall ([0,2,3],4) (by simp)) hQ (fun o w' hop hS=>Zs _ _ hop w' (by(repeat rw[Za _ _ (by decide)]);exact e1)) hS0 ?_;refine wpAnyH_all r1 (by simp) ?_;intro i hi;obtain rfl:=List.mem_singleton.1 hi;obtain⟨o1,ho,hg,hop,hd⟩:=Zd q1;have x1_0:(((((a0.put (some 11) (rv)).put (some 13) (.pointer (some ⟨b2,2,none⟩))).put (some 14) (bv)).put (some 15) (kv))).eval (.tmp 11)=rv:=(by(repeat(first | rw[Zc _ _ (by(try simp only[Zb]);omega)] | rw[Za _ _ (by decide)])))
 refine Zw ho (Zv hg) (ZC 91 Tryz.func91 (by kernel_rfl) (by kernel_rfl) #[.tmp 11] _ hop #[rv] (by simp only[List.map_toArray,List.map_cons,List.map_nil,x1_0])) ?_;refine(H1 _ hS0).mono ?_;rintro e u1 ⟨sv1,rfl,k1,hv1⟩;have hS1:=keep _ _ hS0 k1;refine⟨_,rfl,hS1,?_⟩;rw[hd];clear ho hg hop hd;rw[←Zh];refine wpAnyH_all r5 (by simp) ?_;intro i hi;obtain rfl:=List.mem_singleton.1 hi
 obtain⟨o5,ho,hg,hop,hd⟩:=Zd q5;have x5_0:((((((a0.put (some 11) (rv)).put (some 13) (.pointer (some ⟨b2,2,none⟩))).put (some 14) (bv)).put (some 15) (kv)).put (some 12) (sv1))).eval (.tmp 14)=bv:=(by(repeat(first | rw[Zc _ _ (by(try simp only[Zb]);omega)] | rw[Za _ _ (by decide)])));have x5_1:((((((a0.put (some 11) (rv)).put (some 13) (.pointer (some ⟨b2,2,none⟩))).put (some 14) (bv)).put (some 15) (kv)).put (some 12) (sv1))).eval (.tmp 15)=kv:=(by(repeat(first | rw[Zc _ _ (by(try simp only[Zb]);omega)] | rw[Za _ _ (by decide)])))
 refine Zw ho (Zv hg) (ZC 92 Tryz.func92 (by kernel_rfl) (by kernel_rfl) #[.tmp 14,.tmp 15] _ hop #[bv,kv] (by simp only[List.map_toArray,List.map_cons,List.map_nil,x5_0,x5_1])) ?_;refine(H2 _ _ hS1 hv1).mono ?_;rintro e u2 ⟨sv2,rfl,k2,hv2⟩;have hS5:=keep _ _ hS1 k2;refine⟨_,rfl,hS5,?_⟩;rw[hd];clear ho hg hop hd;rw[←Zh];refine wpAnyH_all r6 (by simp) ?_;intro i hi;obtain rfl:=List.mem_singleton.1 hi
 obtain⟨o6,ho,hg,hop,hd⟩:=Zd q6;have x6_0:(((((((a0.put (some 11) (rv)).put (some 13) (.pointer (some ⟨b2,2,none⟩))).put (some 14) (bv)).put (some 15) (kv)).put (some 12) (sv1)).put (some 16) (sv2))).eval (.tmp 12)=sv1:=(by(repeat(first | rw[Zc _ _ (by(try simp only[Zb]);omega)] | rw[Za _ _ (by decide)])));have x6_1:(((((((a0.put (some 11) (rv)).put (some 13) (.pointer (some ⟨b2,2,none⟩))).put (some 14) (bv)).put (some 15) (kv)).put (some 12) (sv1)).put (some 16) (sv2))).eval (.tmp 16)=sv2:=(by(repeat(first | rw[Zc _ _ (by(try simp only[Zb]);omega)] | rw[Za _ _ (by decide)])))
 refine Zw ho (Zv hg) (ZC 90 Tryz.func90 (by kernel_rfl) (by kernel_rfl) #[.tmp 12,.tmp 16] _ hop #[sv1,sv2] (by simp only[List.map_toArray,List.map_cons,List.map_nil,x6_0,x6_1])) ?_;refine(H3 _ _ _ hS5 hv2).mono ?_;rintro e u3 ⟨bb,rfl,k3,hpb⟩;have hS6:=keep _ _ hS5 k3;refine⟨_,rfl,hS6,?_⟩;rw[hd];clear ho hg hop hd;rw[←Zh];refine Zj [0,2,3,4,1,5,6] (.bool (!bb)) q7 hs (hall ([0,2,3,4,1,5,6],7) (by simp)) hQ (fun o w' hop hS=>Zcy (b:=bb) _ _ hop w' (by(repeat(first | rw[Zc _ _ (by(try simp only[Zb]);omega)] | rw[Za _ _ (by decide)])))) hS6 ?_
 exact wpAnyH_done rend (F _ sv1 sv2 bb hpb hS6) _
theorem ZnT{d:Nat}{r:R3}{p:RP}{w:World}(hR:RIs w (d+1) r p)(hs:Zaj (d+1) r){v:Value}{l:List ByteArray}(hl:Ls w v l.length (l.flatMap Zm))(hsz:∀i,i<l.length→(atS l i).size≤maxLen)(hll:l.length≤1048576) :
  Calls Tryz.prog 26 #[r.val p,v] w fun e w'=>∃n,e=.returned (.int .i64 n)∧Zji (d+1) r l n∧Below w.heap.size w w':=by
 have hA:=Zp (w:=w) (.cells #[.string r.pr,.slice p.a r.hd.length p.c,.slice p.ba r.bd.length p.bc] 25);have HB0:=Lib.hid hA;have HRL:=Lib.hid (Zk w #[.string r.pr,.slice p.a r.hd.length p.c,.slice p.ba r.bd.length p.bc] 25);have HCR:=Lib.hid (Zgd (d+1) r p _ (hR.below hA) hs);unfold R3.val at HCR⊢;obtain⟨W,hW⟩:∃W,W=w.alloc (.cells #[.string r.pr,.slice p.a r.hd.length p.c,.slice p.ba r.bd.length p.bc] 25):=⟨_,rfl⟩
 rw[←hW]at HCR HB0 HRL;have HLA:Hid (∀u,Below W.heap.size W u→(loadVar 25 ⟨w.heap.size,0,none⟩).run Tryz.prog u=.ok (.agg #[.string r.pr,.slice p.a r.hd.length p.c,.slice p.ba r.bd.length p.bc]) u):=fun u hu=>Zbp (RL.range (RL.below HRL.out hu)) rfl
 have HLB:Hid (∀u,Below W.heap.size W u→(loadVar 23 ⟨w.heap.size,2,none⟩).run Tryz.prog u=.ok (.slice p.ba r.bd.length p.bc) u):=fun u hu=>ZdW (RL.at (RL.below HRL.out hu) (j:=2) rfl)
 have HR:=Lib.hid hR;have HS:=Lib.hid hs;have HL:=Lib.hid hl;have HKR:Hid (∀u,Below w.heap.size w u→Calls Tryz.prog 89 #[v] u fun e w'=>e=.returned (.bool (knB l l.length))∧Below u.heap.size u w'):=fun u hu=>Zfj (hl.below hu) hsz
 clear hR hs hl hsz hA;go_enter Tryz.func26,Tryz.ntmps26;go_upto_region 1 with fail
 rw[←hW];have lr0:=HLA.out _ (Below.refl _ _);generalize w.heap.size=b2 at HLA HLB lr0⊢;clear hW HRL;go_wp2_with fail;refine HCR.out.mono ?_;rintro e w1 ⟨rfl,b1⟩;have HB1:=Lib.hid b1;clear HCR b1 lr0
 cases hrb:ruleB (d+1) r
 case false=>
  have HF:Hid (Zji (d+1) r l 40):=⟨true,by rw[hrb];rfl,fun h=>by rw[hrb]at h;cases h⟩;simp only[Zgp];clear hrb;go_wp2;go_ret;exact⟨_,rfl,HF.out,HB0.out.trans (HB1.out.mono HB0.out.size)⟩
 case true=>
  have HK:=Lib.hid (HKR.out _ (HB0.out.trans (HB1.out.mono HB0.out.size)));have HBD:=Lib.hid (Zie hrb HS.out.terms);have HX:=Lib.hid (Zjh hrb);clear HKR;simp only[Zgp];have HRB:=Lib.hid hrb;clear hrb;obtain⟨kb,hkb⟩:∃kb,kb=knB l l.length:=⟨_,rfl⟩;rw[←hkb]at HK;have HKB:Hid (kb=knB l l.length):=hkb;clear hkb;go_wp2_with fail;refine HK.out.mono ?_;rintro e w2 ⟨rfl,b2'⟩;have HB2:Hid (Below W.heap.size W w2):=HB1.out.trans (b2'.mono HB1.out.size)
  clear HK b2' HB1
  cases kb
  case false=>
   have HF:Hid (Zji (d+1) r l 1):=⟨true,by rw[HRB.out,←HKB.out];rfl,fun _ h=>by rw[←HKB.out]at h;cases h⟩;go_wp2;go_ret;exact⟨_,rfl,HF.out,HB0.out.trans (HB2.out.mono HB0.out.size)⟩
  case true=>
   go_upto_region 5 with fail
   refine wp_region_noPanic ?_;refine wp_region_held (S:=fun v=>Below W.heap.size W v) (by kernel_rfl) ?_
   refine ZqU (w5:=w2) (S:=fun v=>Below W.heap.size W v) (b2:=b2) (rv:=.agg #[.string r.pr,.slice p.a r.hd.length p.c,.slice p.ba r.bd.length p.bc]) (bv:=.slice p.ba r.bd.length p.bc) (kv:=v)
    (V1:=fun sv u=>Ls u sv (vsT [] (Zi (d+1) r)).length ((vsT [] (Zi (d+1) r)).flatMap Zm))
    (V2:=fun sv sv2 u=>Ls u sv (vsT [] (Zi (d+1) r)).length ((vsT [] (Zi (d+1) r)).flatMap Zm)∧∃F:List ByteArray,Ls u sv2 F.length (F.flatMap Zm)∧(∃C,LmS (d+1) r l C F)∧(∀y∈r.bd,ZN (d+1) y.x F=noS))
    (PB:=fun bb=>∀fs,ZbI (d+1) l r fs→bb=decide (fs.length=(vsT [] (Zi (d+1) r)).length))
    rfl rfl rfl rfl rfl rfl rfl rfl (by kernel_rfl) (by kernel_rfl) (by kernel_rfl) (by kernel_rfl) (by kernel_rfl) (by kernel_rfl) (by intros;assumption) (by simp) rfl rfl HB2.out.drew (fun _ _ _ h=>h) HLA.out HLB.out ?_ ?_ ?_ ?_
   ·intro u hu;refine(ZdF (d+1) r p u (HR.out.below (HB0.out.trans (hu.mono HB0.out.size))) HS.out.terms).mono ?_;rintro e w' ⟨sv,rfl,h1,h2⟩;exact⟨sv,rfl,hu.trans (h2.mono hu.size),h1⟩
   ·intro u sv1 hu hv1;refine(Zig (HR.out.bd.below (HB0.out.trans (hu.mono HB0.out.size))) HX.out HBD.out HS.out.terms (HL.out.below (HB0.out.trans (hu.mono HB0.out.size))) hll).mono ?_;rintro e w' ⟨sv,rfl,F,h1,h2,h3,h4⟩;exact⟨sv,rfl,hu.trans (h4.mono hu.size),hv1.below h4,F,h1,h2,h3⟩
   ·rintro u sv1 sv2 hu ⟨hv1,F,h1,⟨C,h2⟩,h3⟩;refine(Zct hv1 h1).mono ?_;rintro e w' ⟨rfl,rfl⟩;refine⟨_,rfl,hu,fun fs hf=>?_⟩;rw[Bool.eq_iff_iff,decide_eq_true_iff];exact h2.full h3 hf
   intro wc sv1 sv2 bb hpb hwc;refine NoPanic.normal ?_
   rename_i hK
   refine hK _ _ ?_;simp (config:={maxSteps:=8000000}) only[Act.put,List.getElem_toArray,List.getElem_cons_zero,List.getElem_cons_succ,List.setIfInBounds_toArray,List.set_cons_succ,List.set_cons_zero];have HF:Hid (Zji (d+1) r l (if bb=true then 0 else 73)∧Below W.heap.size W wc):=⟨⟨bb,by rw[HRB.out,←HKB.out];rfl,fun _ _ fs hf=>hpb fs hf⟩,hwc⟩;clear hK hpb hwc HB2 HLA HLB HBD HX
   cases bb
   ·go_wp2;go_ret;exact⟨_,rfl,HF.out.1,HB0.out.trans (HF.out.2.mono HB0.out.size)⟩
   ·go_wp2;go_ret;exact⟨_,rfl,HF.out.1,HB0.out.trans (HF.out.2.mono HB0.out.size)⟩
end Go.Proofs.YtjdnpgpbeppgjaaGreatDoor
