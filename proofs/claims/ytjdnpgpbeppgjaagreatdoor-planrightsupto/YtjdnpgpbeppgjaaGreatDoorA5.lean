import Derived.Test.YtjdnpgpbeppgjaaGreatDoorA4
import Derived.Test.YtjdnpgpbeppgjaaGreatDoorA3
import Derived.Deep.RegionWith
import Derived.Deep.RegionHeld3
set_option linter.unusedSimpArgs false
set_option linter.unusedVariables false
set_option maxHeartbeats 3200000
namespace Go.Proofs.YtjdnpgpbeppgjaaGreatDoor
section
open Go.RowKit Go.Maps
attribute [local go_sem ↓] Go.wp_at_zero Go.wp_at_succ
structure Lit4 where
 k:Int
 pr:ByteArray
 ts:List T
 rel:Int
 l:E
 r:E
structure LP where
 a:Option Addr
 c:Nat
 la:Option Addr
 lc:Nat
 ra:Option Addr
 rc:Nat
def Lit4.val(x:Lit4)(p:LP):Value:=.agg #[.int .i8 x.k,.string x.pr,.slice p.a x.ts.length p.c,.int .i8 x.rel,.int .i8 x.l.op,.string x.l.t.v,.int .i8 x.l.t.a.k,.int .i64 x.l.t.a.n,.string x.l.t.a.s,.slice p.la x.l.kids.length p.lc,.int .i8 x.r.op,.string x.r.t.v,.int .i8 x.r.t.a.k,.int .i64 x.r.t.a.n,.string x.r.t.a.s,.slice p.ra x.r.kids.length p.rc]
structure LIs (w:World) (d:Nat) (x:Lit4) (p:LP):Prop where
 kb : -128≤x.k∧x.k≤127
 rb : -128≤x.rel∧x.rel≤127
 pb:x.pr.size≤maxLen
 ln:x.ts.length≤281474976710656
 ts:Lt w (.slice p.a x.ts.length p.c) x.ts
 l:EIs w d x.l p.la p.lc
 r:EIs w d x.r p.ra p.rc
theorem LIs.below{w w':World}{d:Nat}{x:Lit4}{p:LP}(h:LIs w d x p)(b:Below w.heap.size w w'):LIs w' d x p:=⟨h.kb,h.rb,h.pb,h.ln,h.ts.below b,h.l.below b,h.r.below b⟩
def noE(e:E):Bool:=decide (e.op=0)&&(decide (e.t=T0)&&decide (e.kids.length=0))
def ZQ(x:Lit4):Bool:=if x.k=1∨x.k=2 then ZaD x.pr x.ts&&(decide (x.rel=0)&&(noE x.l&&noE x.r))else if x.k=3 then decide (x.pr=noS)&&(decide (x.ts.length=0)&&(decide (1≤x.rel)&&(decide (x.rel≤6)&&(ZH 8 x.l&&ZH 8 x.r))))else false
theorem Zes(e:E)(a:Option Addr)(c:Nat)(w:World)(hl:e.kids.length≤281474976710656):Calls Tryz.prog 298 #[e.val a c] w fun r w'=>r=.returned (.bool (noE e))∧Below w.heap.size w w':=by
 have BA:=(Below.refl w.heap.size w).alloc (Nat.le_refl _) (.cells #[.int .i8 e.op,.string e.t.v,.int .i8 e.t.a.k,.int .i64 e.t.a.n,.string e.t.a.s,.slice a e.kids.length c] 103);have HN:Hid (noE e=(decide (e.op=0)&&(decide (e.t=T0)&&decide (e.kids.length=0)))):=rfl;have hQ:=Zch e.t T0;unfold E.val
 by_cases h0:e.op=0
 ·have d0:(e.op==0)=true:=by rw[h0];rfl
  by_cases h1:e.t=T0
  ·rw[decide_eq_true h1]at hQ;unfold T0 V0 noS at hQ;dsimp only at hQ
   by_cases h2:e.kids.length=0
   ·have d2:((e.kids.length:Int)==0)=true:=by rw[h2];rfl
    have HF:Hid (noE e=true):=by show _=_;rw[HN.out,decide_eq_true h0,decide_eq_true h1,decide_eq_true h2];rfl
    clear HN h0 h1 h2;go_enter Tryz.func298,Tryz.ntmps298;go_wp2;go_ret;exact⟨Ze HF.out.symm,BA⟩
   ·have d2:((e.kids.length:Int)==0)=false:=by rw[beq_eq_false_iff_ne];omega
    have HF:Hid (noE e=false):=by show _=_;rw[HN.out,decide_eq_false h2];simp
    clear HN h0 h1 h2;go_enter Tryz.func298,Tryz.ntmps298;go_wp2;go_ret;exact⟨Ze HF.out.symm,BA⟩
  ·rw[decide_eq_false h1]at hQ;unfold T0 V0 noS at hQ;dsimp only at hQ;have HF:Hid (noE e=false):=by show _=_;rw[HN.out,decide_eq_false h1];simp
   clear HN h0 h1;go_enter Tryz.func298,Tryz.ntmps298;go_wp2;go_ret;exact⟨Ze HF.out.symm,BA⟩
 ·have d0:(e.op==0)=false:=by rw[beq_eq_false_iff_ne];exact h0
  have HF:Hid (noE e=false):=by show _=_;rw[HN.out,decide_eq_false h0];simp
  clear HN h0;go_enter Tryz.func298,Tryz.ntmps298;go_wp2;go_ret;exact⟨Ze HF.out.symm,BA⟩
theorem Ze8(e:E)(a:Option Addr)(c:Nat)(w:World)(hl:e.kids.length≤281474976710656):Calls Tryz.prog 315 #[e.val a c] w fun r w'=>r=.returned (.bool (noE e))∧Below w.heap.size w w':=by
 have BA0:=(Below.refl w.heap.size w).alloc (Nat.le_refl _) (.cells #[.int .i8 e.op,.string e.t.v,.int .i8 e.t.a.k,.int .i64 e.t.a.n,.string e.t.a.s,.slice a e.kids.length c] 103);have BA:=BA0.alloc BA0.size (.cells #[.string ⟨#[]⟩,.int .i8 0,.int .i64 0,.string ⟨#[]⟩] 100);clear BA0;have HN:Hid (noE e=(decide (e.op=0)&&(decide (e.t=T0)&&decide (e.kids.length=0)))):=rfl;have hQ:=Zch e.t T0;unfold E.val
 by_cases h0:e.op=0
 ·have d0:(e.op==0)=true:=by rw[h0];rfl
  by_cases h1:e.t=T0
  ·rw[decide_eq_true h1]at hQ;unfold T0 V0 noS at hQ;dsimp only at hQ
   by_cases h2:e.kids.length=0
   ·have d2:((e.kids.length:Int)==0)=true:=by rw[h2];rfl
    have HF:Hid (noE e=true):=by show _=_;rw[HN.out,decide_eq_true h0,decide_eq_true h1,decide_eq_true h2];rfl
    clear HN h0 h1 h2;go_enter Tryz.func315,Tryz.ntmps315;go_wp2;go_ret;exact⟨Ze HF.out.symm,BA⟩
   ·have d2:((e.kids.length:Int)==0)=false:=by rw[beq_eq_false_iff_ne];omega
    have HF:Hid (noE e=false):=by show _=_;rw[HN.out,decide_eq_false h2];simp
    clear HN h0 h1 h2;go_enter Tryz.func315,Tryz.ntmps315;go_wp2;go_ret;exact⟨Ze HF.out.symm,BA⟩
  ·rw[decide_eq_false h1]at hQ;unfold T0 V0 noS at hQ;dsimp only at hQ;have HF:Hid (noE e=false):=by show _=_;rw[HN.out,decide_eq_false h1];simp
   clear HN h0 h1;go_enter Tryz.func315,Tryz.ntmps315;go_wp2;go_ret;exact⟨Ze HF.out.symm,BA⟩
 ·have d0:(e.op==0)=false:=by rw[beq_eq_false_iff_ne];exact h0
  have HF:Hid (noE e=false):=by show _=_;rw[HN.out,decide_eq_false h0];simp
  clear HN h0;go_enter Tryz.func315,Tryz.ntmps315;go_wp2;go_ret;exact⟨Ze HF.out.symm,BA⟩
theorem Ze9{wc u v:World}(h:Below wc.heap.size wc u)(h2:Below u.heap.size u v):Below wc.heap.size wc v:=h.trans (h2.mono h.size)
theorem ZgH(d:Nat)(x:Lit4)(p:LP)(w:World)(hT:KT w)(h:LIs w d x p)(hl1:x.l.kids.length≤281474976710656)(hl2:x.r.kids.length≤281474976710656):Calls Tryz.prog 236 #[x.val p] w fun r w'=>r=.returned (.bool (ZQ x))∧Below w.heap.size w w':=by
 have BA:=(Below.refl w.heap.size w).alloc (Nat.le_refl _) (.cells #[.int .i8 x.k,.string x.pr,.slice p.a x.ts.length p.c,.int .i8 x.rel,.int .i8 x.l.op,.string x.l.t.v,.int .i8 x.l.t.a.k,.int .i64 x.l.t.a.n,.string x.l.t.a.s,.slice p.la x.l.kids.length p.lc,.int .i8 x.r.op,.string x.r.t.v,.int .i8 x.r.t.a.k,.int .i64 x.r.t.a.n,.string x.r.t.a.s,.slice p.ra x.r.kids.length p.rc] 105);have hW0:Below (w.alloc (.cells #[.int .i8 x.k,.string x.pr,.slice p.a x.ts.length p.c,.int .i8 x.rel,.int .i8 x.l.op,.string x.l.t.v,.int .i8 x.l.t.a.k,.int .i64 x.l.t.a.n,.string x.l.t.a.s,.slice p.la x.l.kids.length p.lc,.int .i8 x.r.op,.string x.r.t.v,.int .i8 x.r.t.a.k,.int .i64 x.r.t.a.n,.string x.r.t.a.s,.slice p.ra x.r.kids.length p.rc] 105)).heap.size (w.alloc (.cells #[.int .i8 x.k,.string x.pr,.slice p.a x.ts.length p.c,.int .i8 x.rel,.int .i8 x.l.op,.string x.l.t.v,.int .i8 x.l.t.a.k,.int .i64 x.l.t.a.n,.string x.l.t.a.s,.slice p.la x.l.kids.length p.lc,.int .i8 x.r.op,.string x.r.t.v,.int .i8 x.r.t.a.k,.int .i64 x.r.t.a.n,.string x.r.t.a.s,.slice p.ra x.r.kids.length p.rc] 105)) (w.alloc (.cells #[.int .i8 x.k,.string x.pr,.slice p.a x.ts.length p.c,.int .i8 x.rel,.int .i8 x.l.op,.string x.l.t.v,.int .i8 x.l.t.a.k,.int .i64 x.l.t.a.n,.string x.l.t.a.s,.slice p.la x.l.kids.length p.lc,.int .i8 x.r.op,.string x.r.t.v,.int .i8 x.r.t.a.k,.int .i64 x.r.t.a.n,.string x.r.t.a.s,.slice p.ra x.r.kids.length p.rc] 105)):=Below.refl _ _
 have HNX:Hid (∀u v,Below (w.alloc (.cells #[.int .i8 x.k,.string x.pr,.slice p.a x.ts.length p.c,.int .i8 x.rel,.int .i8 x.l.op,.string x.l.t.v,.int .i8 x.l.t.a.k,.int .i64 x.l.t.a.n,.string x.l.t.a.s,.slice p.la x.l.kids.length p.lc,.int .i8 x.r.op,.string x.r.t.v,.int .i8 x.r.t.a.k,.int .i64 x.r.t.a.n,.string x.r.t.a.s,.slice p.ra x.r.kids.length p.rc] 105)).heap.size (w.alloc (.cells #[.int .i8 x.k,.string x.pr,.slice p.a x.ts.length p.c,.int .i8 x.rel,.int .i8 x.l.op,.string x.l.t.v,.int .i8 x.l.t.a.k,.int .i64 x.l.t.a.n,.string x.l.t.a.s,.slice p.la x.l.kids.length p.lc,.int .i8 x.r.op,.string x.r.t.v,.int .i8 x.r.t.a.k,.int .i64 x.r.t.a.n,.string x.r.t.a.s,.slice p.ra x.r.kids.length p.rc] 105)) u→Below u.heap.size u v→Below (w.alloc (.cells #[.int .i8 x.k,.string x.pr,.slice p.a x.ts.length p.c,.int .i8 x.rel,.int .i8 x.l.op,.string x.l.t.v,.int .i8 x.l.t.a.k,.int .i64 x.l.t.a.n,.string x.l.t.a.s,.slice p.la x.l.kids.length p.lc,.int .i8 x.r.op,.string x.r.t.v,.int .i8 x.r.t.a.k,.int .i64 x.r.t.a.n,.string x.r.t.a.s,.slice p.ra x.r.kids.length p.rc] 105)).heap.size (w.alloc (.cells #[.int .i8 x.k,.string x.pr,.slice p.a x.ts.length p.c,.int .i8 x.rel,.int .i8 x.l.op,.string x.l.t.v,.int .i8 x.l.t.a.k,.int .i64 x.l.t.a.n,.string x.l.t.a.s,.slice p.la x.l.kids.length p.lc,.int .i8 x.r.op,.string x.r.t.v,.int .i8 x.r.t.a.k,.int .i64 x.r.t.a.n,.string x.r.t.a.s,.slice p.ra x.r.kids.length p.rc] 105)) v):=fun u v h1 h2=>Ze9 h1 h2
 have HCE:Hid (∀u,Below (w.alloc (.cells #[.int .i8 x.k,.string x.pr,.slice p.a x.ts.length p.c,.int .i8 x.rel,.int .i8 x.l.op,.string x.l.t.v,.int .i8 x.l.t.a.k,.int .i64 x.l.t.a.n,.string x.l.t.a.s,.slice p.la x.l.kids.length p.lc,.int .i8 x.r.op,.string x.r.t.v,.int .i8 x.r.t.a.k,.int .i64 x.r.t.a.n,.string x.r.t.a.s,.slice p.ra x.r.kids.length p.rc] 105)).heap.size (w.alloc (.cells #[.int .i8 x.k,.string x.pr,.slice p.a x.ts.length p.c,.int .i8 x.rel,.int .i8 x.l.op,.string x.l.t.v,.int .i8 x.l.t.a.k,.int .i64 x.l.t.a.n,.string x.l.t.a.s,.slice p.la x.l.kids.length p.lc,.int .i8 x.r.op,.string x.r.t.v,.int .i8 x.r.t.a.k,.int .i64 x.r.t.a.n,.string x.r.t.a.s,.slice p.ra x.r.kids.length p.rc] 105)) u→Below w.heap.size w u∧u.cell? ⟨w.heap.size,0,none⟩=some (.int .i8 x.k)∧u.cell? ⟨w.heap.size,1,none⟩=some (.string x.pr)∧u.cell? ⟨w.heap.size,2,none⟩=some (.slice p.a x.ts.length p.c)∧u.cell? ⟨w.heap.size,3,none⟩=some (.int .i8 x.rel)∧u.cell? ⟨w.heap.size,4,none⟩=some (.int .i8 x.l.op)∧u.cell? ⟨w.heap.size,5,none⟩=some (.string x.l.t.v)∧u.cell? ⟨w.heap.size,6,none⟩=some (.int .i8 x.l.t.a.k)∧u.cell? ⟨w.heap.size,7,none⟩=some (.int .i64 x.l.t.a.n)∧u.cell? ⟨w.heap.size,8,none⟩=some (.string x.l.t.a.s)∧u.cell? ⟨w.heap.size,9,none⟩=some (.slice p.la x.l.kids.length p.lc)∧u.cell? ⟨w.heap.size,10,none⟩=some (.int .i8 x.r.op)∧u.cell? ⟨w.heap.size,11,none⟩=some (.string x.r.t.v)∧u.cell? ⟨w.heap.size,12,none⟩=some (.int .i8 x.r.t.a.k)∧u.cell? ⟨w.heap.size,13,none⟩=some (.int .i64 x.r.t.a.n)∧u.cell? ⟨w.heap.size,14,none⟩=some (.string x.r.t.a.s)∧u.cell? ⟨w.heap.size,15,none⟩=some (.slice p.ra x.r.kids.length p.rc)):=fun u hu=>by
  have hc:∀(j:Nat),u.cell? ⟨w.heap.size,j,none⟩=(w.alloc (.cells #[.int .i8 x.k,.string x.pr,.slice p.a x.ts.length p.c,.int .i8 x.rel,.int .i8 x.l.op,.string x.l.t.v,.int .i8 x.l.t.a.k,.int .i64 x.l.t.a.n,.string x.l.t.a.s,.slice p.la x.l.kids.length p.lc,.int .i8 x.r.op,.string x.r.t.v,.int .i8 x.r.t.a.k,.int .i64 x.r.t.a.n,.string x.r.t.a.s,.slice p.ra x.r.kids.length p.rc] 105)).cell? ⟨w.heap.size,j,none⟩:=fun j=>hu.cell (p:=⟨w.heap.size,j,none⟩) (by simp)
  refine⟨BA.trans (hu.mono BA.size),?_,?_,?_,?_,?_,?_,?_,?_,?_,?_,?_,?_,?_,?_,?_,?_⟩<;>rw[hc]<;>go_simp
 have HAt:Hid (∀u,Below w.heap.size w u→Calls Tryz.prog 297 #[.agg #[.string x.pr,.slice p.a x.ts.length p.c]] u fun r w'=>r=.returned (.bool (ZaD x.pr x.ts))∧Below u.heap.size u w'):=fun u hu=>ZkO x.pr _ x.ts u h.pb (h.ts.below hu)
 have HNl:Hid (∀u,Calls Tryz.prog 298 #[.agg #[.int .i8 x.l.op,.string x.l.t.v,.int .i8 x.l.t.a.k,.int .i64 x.l.t.a.n,.string x.l.t.a.s,.slice p.la x.l.kids.length p.lc]] u fun r w'=>r=.returned (.bool (noE x.l))∧Below u.heap.size u w'):=fun u=>Zes x.l p.la p.lc u hl1
 have HNr:Hid (∀u,Calls Tryz.prog 298 #[.agg #[.int .i8 x.r.op,.string x.r.t.v,.int .i8 x.r.t.a.k,.int .i64 x.r.t.a.n,.string x.r.t.a.s,.slice p.ra x.r.kids.length p.rc]] u fun r w'=>r=.returned (.bool (noE x.r))∧Below u.heap.size u w'):=fun u=>Zes x.r p.ra p.rc u hl2
 have HEl:Hid (∀u,Below w.heap.size w u→Calls Tryz.prog 299 #[.agg #[.int .i8 x.l.op,.string x.l.t.v,.int .i8 x.l.t.a.k,.int .i64 x.l.t.a.n,.string x.l.t.a.s,.slice p.la x.l.kids.length p.lc],.int .i64 8] u fun r w'=>r=.returned (.bool (ZH 8 x.l))∧Below u.heap.size u w'):=fun u hu=>Zgq 8 d x.l p.la p.lc u (by omega) (hT.below hu) (h.l.below hu)
 have HEr:Hid (∀u,Below w.heap.size w u→Calls Tryz.prog 299 #[.agg #[.int .i8 x.r.op,.string x.r.t.v,.int .i8 x.r.t.a.k,.int .i64 x.r.t.a.n,.string x.r.t.a.s,.slice p.ra x.r.kids.length p.rc],.int .i64 8] u fun r w'=>r=.returned (.bool (ZH 8 x.r))∧Below u.heap.size u w'):=fun u hu=>Zgq 8 d x.r p.ra p.rc u (by omega) (hT.below hu) (h.r.below hu)
 have hln:=h.ln;have hkb:=h.kb;have hrb:=h.rb;clear h hT hl1 hl2;have HB:Hid (ZQ x=if x.k=1∨x.k=2 then ZaD x.pr x.ts&&(decide (x.rel=0)&&(noE x.l&&noE x.r))else if x.k=3 then decide (x.pr=noS)&&(decide (x.ts.length=0)&&(decide (1≤x.rel)&&(decide (x.rel≤6)&&(ZH 8 x.l&&ZH 8 x.r))))else false):=rfl;unfold Lit4.val
 by_cases k12:x.k=1∨x.k=2
 ·rw[if_pos k12]at HB
  have F:(x.k==1)=true∨((x.k==1)=false∧(x.k==2)=true):=by
   rcases k12 with e | e
   ·exact .inl (by rw[e];rfl)
   ·exact .inr ⟨by rw[e];rfl,by rw[e];rfl⟩
  clear k12 BA
  cases hA:ZaD x.pr x.ts
  ·have HF:Hid (ZQ x=false):=by show _=_;rw[HB.out,hA];rfl
   clear HB;rcases F with f1 | ⟨f1,f2⟩
   all_goals
    go_enter Tryz.func236,Tryz.ntmps236;go_wp2_with (first | (go_at_call_of 297 (Value.string x.pr);refine Calls.mono (HAt.out _ (HCE.out _ (by assumption)).1) ?_;rw[hA];rintro ee wn ⟨rfl,bn⟩;have hWn:=HNX.out _ _ (by assumption) bn;obtain⟨hwn,c0,c1,c2,c3,c4,c5,c6,c7,c8,c9,c10,c11,c12,c13,c14,c15⟩:=HCE.out _ hWn))
    all_goals
     go_ret;exact⟨Ze HF.out.symm,(HCE.out _ (by assumption)).1⟩
  ·by_cases hr0:x.rel=0
   ·have dr:(x.rel==0)=true:=by rw[hr0];rfl
    cases hNl:noE x.l
    ·have HF:Hid (ZQ x=false):=by show _=_;rw[HB.out,hNl];simp
     clear HB hr0;rcases F with f1 | ⟨f1,f2⟩
     all_goals
      go_enter Tryz.func236,Tryz.ntmps236;go_wp2_with (first | (go_at_call_of 297 (Value.string x.pr);refine Calls.mono (HAt.out _ (HCE.out _ (by assumption)).1) ?_;rw[hA];rintro ee wn ⟨rfl,bn⟩;have hWn:=HNX.out _ _ (by assumption) bn;obtain⟨hwn,c0,c1,c2,c3,c4,c5,c6,c7,c8,c9,c10,c11,c12,c13,c14,c15⟩:=HCE.out _ hWn) | (go_at_call_of 298 (Value.string x.l.t.v);refine Calls.mono (HNl.out _) ?_;rw[hNl];rintro ee wn ⟨rfl,bn⟩;have hWn:=HNX.out _ _ (by assumption) bn;obtain⟨hwn,c0,c1,c2,c3,c4,c5,c6,c7,c8,c9,c10,c11,c12,c13,c14,c15⟩:=HCE.out _ hWn))
      all_goals
       go_ret;exact⟨Ze HF.out.symm,(HCE.out _ (by assumption)).1⟩
    ·cases hNr:noE x.r
     all_goals
      have HF:Hid (ZQ x=noE x.r):=by show _=_;rw[HB.out,hA,hNl,hNr,decide_eq_true hr0];rfl
      rw[hNr]at HF;clear HB hr0;rcases F with f1 | ⟨f1,f2⟩
      all_goals
       go_enter Tryz.func236,Tryz.ntmps236;go_wp2_with (first | (go_at_call_of 297 (Value.string x.pr);refine Calls.mono (HAt.out _ (HCE.out _ (by assumption)).1) ?_;rw[hA];rintro ee wn ⟨rfl,bn⟩;have hWn:=HNX.out _ _ (by assumption) bn;obtain⟨hwn,c0,c1,c2,c3,c4,c5,c6,c7,c8,c9,c10,c11,c12,c13,c14,c15⟩:=HCE.out _ hWn) | (go_at_call_of 298 (Value.string x.l.t.v);refine Calls.mono (HNl.out _) ?_;rw[hNl];rintro ee wn ⟨rfl,bn⟩;have hWn:=HNX.out _ _ (by assumption) bn;obtain⟨hwn,c0,c1,c2,c3,c4,c5,c6,c7,c8,c9,c10,c11,c12,c13,c14,c15⟩:=HCE.out _ hWn) | (go_at_call_of 298 (Value.string x.r.t.v);refine Calls.mono (HNr.out _) ?_;rw[hNr];rintro ee wn ⟨rfl,bn⟩;have hWn:=HNX.out _ _ (by assumption) bn;obtain⟨hwn,c0,c1,c2,c3,c4,c5,c6,c7,c8,c9,c10,c11,c12,c13,c14,c15⟩:=HCE.out _ hWn))
       all_goals
        go_ret;exact⟨Ze HF.out.symm,(HCE.out _ (by assumption)).1⟩
   ·have dr:(x.rel==0)=false:=by rw[beq_eq_false_iff_ne];exact hr0
    have HF:Hid (ZQ x=false):=by show _=_;rw[HB.out,decide_eq_false hr0];simp
    clear HB hr0;rcases F with f1 | ⟨f1,f2⟩
    all_goals
     go_enter Tryz.func236,Tryz.ntmps236;go_wp2_with (first | (go_at_call_of 297 (Value.string x.pr);refine Calls.mono (HAt.out _ (HCE.out _ (by assumption)).1) ?_;rw[hA];rintro ee wn ⟨rfl,bn⟩;have hWn:=HNX.out _ _ (by assumption) bn;obtain⟨hwn,c0,c1,c2,c3,c4,c5,c6,c7,c8,c9,c10,c11,c12,c13,c14,c15⟩:=HCE.out _ hWn))
     all_goals
      go_ret;exact⟨Ze HF.out.symm,(HCE.out _ (by assumption)).1⟩
 ·rw[if_neg k12]at HB;have f1:(x.k==1)=false:=by rw[beq_eq_false_iff_ne];omega
  have f2:(x.k==2)=false:=by rw[beq_eq_false_iff_ne];omega
  by_cases k3:x.k=3
  ·rw[if_pos k3]at HB;have f3:(x.k==3)=true:=by rw[k3];rfl
   clear k12 k3 BA
   by_cases hp0:x.pr=noS
   ·have dp:x.pr.toList.isEmpty=true:=by rw[hp0,ByteArray.toList_eq];rfl
    by_cases hn0:x.ts.length=0
    ·have dn:((x.ts.length:Int)==0)=true:=by rw[hn0];rfl
     by_cases h1:1≤x.rel
     ·by_cases h6:x.rel≤6
      ·cases hEl:ZH 8 x.l
       ·have HF:Hid (ZQ x=false):=by show _=_;rw[HB.out,hEl];simp
        clear HB hp0 hn0;go_enter Tryz.func236,Tryz.ntmps236;go_wp2_with (first | (go_at_call_of 299 (Value.string x.l.t.v);refine Calls.mono (HEl.out _ (HCE.out _ (by assumption)).1) ?_;rw[hEl];rintro ee wn ⟨rfl,bn⟩;have hWn:=HNX.out _ _ (by assumption) bn;obtain⟨hwn,c0,c1,c2,c3,c4,c5,c6,c7,c8,c9,c10,c11,c12,c13,c14,c15⟩:=HCE.out _ hWn))
        all_goals
         go_ret;exact⟨Ze HF.out.symm,(HCE.out _ (by assumption)).1⟩
       ·cases hEr:ZH 8 x.r
        all_goals
         have HF:Hid (ZQ x=ZH 8 x.r):=by show _=_;rw[HB.out,hEl,hEr,decide_eq_true hp0,decide_eq_true hn0,decide_eq_true h1,decide_eq_true h6];rfl
         rw[hEr]at HF;clear HB hp0 hn0;go_enter Tryz.func236,Tryz.ntmps236;go_wp2_with (first | (go_at_call_of 299 (Value.string x.l.t.v);refine Calls.mono (HEl.out _ (HCE.out _ (by assumption)).1) ?_;rw[hEl];rintro ee wn ⟨rfl,bn⟩;have hWn:=HNX.out _ _ (by assumption) bn;obtain⟨hwn,c0,c1,c2,c3,c4,c5,c6,c7,c8,c9,c10,c11,c12,c13,c14,c15⟩:=HCE.out _ hWn) | (go_at_call_of 299 (Value.string x.r.t.v);refine Calls.mono (HEr.out _ (HCE.out _ (by assumption)).1) ?_;rw[hEr];rintro ee wn ⟨rfl,bn⟩;have hWn:=HNX.out _ _ (by assumption) bn;obtain⟨hwn,c0,c1,c2,c3,c4,c5,c6,c7,c8,c9,c10,c11,c12,c13,c14,c15⟩:=HCE.out _ hWn))
         all_goals
          go_ret;exact⟨Ze HF.out.symm,(HCE.out _ (by assumption)).1⟩
      ·have HF:Hid (ZQ x=false):=by show _=_;rw[HB.out,decide_eq_false h6];simp
       clear HB hp0 hn0;go_enter Tryz.func236,Tryz.ntmps236;go_wp2
       all_goals
        go_ret;exact⟨Ze HF.out.symm,(HCE.out _ (by assumption)).1⟩
     ·have HF:Hid (ZQ x=false):=by show _=_;rw[HB.out,decide_eq_false h1];simp
      clear HB hp0 hn0;go_enter Tryz.func236,Tryz.ntmps236;go_wp2
      all_goals
       go_ret;exact⟨Ze HF.out.symm,(HCE.out _ (by assumption)).1⟩
    ·have dn:((x.ts.length:Int)==0)=false:=by rw[beq_eq_false_iff_ne];omega
     have HF:Hid (ZQ x=false):=by show _=_;rw[HB.out,decide_eq_false hn0];simp
     clear HB hp0 hn0;go_enter Tryz.func236,Tryz.ntmps236;go_wp2
     all_goals
      go_ret;exact⟨Ze HF.out.symm,(HCE.out _ (by assumption)).1⟩
   ·have dp:=Za7 x.pr hp0;have HF:Hid (ZQ x=false):=by show _=_;rw[HB.out,decide_eq_false hp0];simp
    clear HB hp0;go_enter Tryz.func236,Tryz.ntmps236;go_wp2
    all_goals
     go_ret;exact⟨Ze HF.out.symm,(HCE.out _ (by assumption)).1⟩
  ·rw[if_neg k3]at HB;have f3:(x.k==3)=false:=by rw[beq_eq_false_iff_ne];omega
   have HF:Hid (ZQ x=false):=HB.out;clear HB k12 k3 BA;go_enter Tryz.func236,Tryz.ntmps236;go_wp2
   all_goals
    go_ret;exact⟨Ze HF.out.symm,(HCE.out _ (by assumption)).1⟩
theorem Ziw(d:Nat)(x:Lit4)(p:LP)(w:World)(h:LIs w d x p)(hl1:x.l.kids.length≤281474976710656)(hl2:x.r.kids.length≤281474976710656):Calls Tryz.prog 281 #[x.val p] w fun r w'=>r=.returned (.bool (ZQ x))∧Below w.heap.size w w':=by
 have BA:=(Below.refl w.heap.size w).alloc (Nat.le_refl _) (.cells #[.int .i8 x.k,.string x.pr,.slice p.a x.ts.length p.c,.int .i8 x.rel,.int .i8 x.l.op,.string x.l.t.v,.int .i8 x.l.t.a.k,.int .i64 x.l.t.a.n,.string x.l.t.a.s,.slice p.la x.l.kids.length p.lc,.int .i8 x.r.op,.string x.r.t.v,.int .i8 x.r.t.a.k,.int .i64 x.r.t.a.n,.string x.r.t.a.s,.slice p.ra x.r.kids.length p.rc] 105);have hW0:Below (w.alloc (.cells #[.int .i8 x.k,.string x.pr,.slice p.a x.ts.length p.c,.int .i8 x.rel,.int .i8 x.l.op,.string x.l.t.v,.int .i8 x.l.t.a.k,.int .i64 x.l.t.a.n,.string x.l.t.a.s,.slice p.la x.l.kids.length p.lc,.int .i8 x.r.op,.string x.r.t.v,.int .i8 x.r.t.a.k,.int .i64 x.r.t.a.n,.string x.r.t.a.s,.slice p.ra x.r.kids.length p.rc] 105)).heap.size (w.alloc (.cells #[.int .i8 x.k,.string x.pr,.slice p.a x.ts.length p.c,.int .i8 x.rel,.int .i8 x.l.op,.string x.l.t.v,.int .i8 x.l.t.a.k,.int .i64 x.l.t.a.n,.string x.l.t.a.s,.slice p.la x.l.kids.length p.lc,.int .i8 x.r.op,.string x.r.t.v,.int .i8 x.r.t.a.k,.int .i64 x.r.t.a.n,.string x.r.t.a.s,.slice p.ra x.r.kids.length p.rc] 105)) (w.alloc (.cells #[.int .i8 x.k,.string x.pr,.slice p.a x.ts.length p.c,.int .i8 x.rel,.int .i8 x.l.op,.string x.l.t.v,.int .i8 x.l.t.a.k,.int .i64 x.l.t.a.n,.string x.l.t.a.s,.slice p.la x.l.kids.length p.lc,.int .i8 x.r.op,.string x.r.t.v,.int .i8 x.r.t.a.k,.int .i64 x.r.t.a.n,.string x.r.t.a.s,.slice p.ra x.r.kids.length p.rc] 105)):=Below.refl _ _
 have HNX:Hid (∀u v,Below (w.alloc (.cells #[.int .i8 x.k,.string x.pr,.slice p.a x.ts.length p.c,.int .i8 x.rel,.int .i8 x.l.op,.string x.l.t.v,.int .i8 x.l.t.a.k,.int .i64 x.l.t.a.n,.string x.l.t.a.s,.slice p.la x.l.kids.length p.lc,.int .i8 x.r.op,.string x.r.t.v,.int .i8 x.r.t.a.k,.int .i64 x.r.t.a.n,.string x.r.t.a.s,.slice p.ra x.r.kids.length p.rc] 105)).heap.size (w.alloc (.cells #[.int .i8 x.k,.string x.pr,.slice p.a x.ts.length p.c,.int .i8 x.rel,.int .i8 x.l.op,.string x.l.t.v,.int .i8 x.l.t.a.k,.int .i64 x.l.t.a.n,.string x.l.t.a.s,.slice p.la x.l.kids.length p.lc,.int .i8 x.r.op,.string x.r.t.v,.int .i8 x.r.t.a.k,.int .i64 x.r.t.a.n,.string x.r.t.a.s,.slice p.ra x.r.kids.length p.rc] 105)) u→Below u.heap.size u v→Below (w.alloc (.cells #[.int .i8 x.k,.string x.pr,.slice p.a x.ts.length p.c,.int .i8 x.rel,.int .i8 x.l.op,.string x.l.t.v,.int .i8 x.l.t.a.k,.int .i64 x.l.t.a.n,.string x.l.t.a.s,.slice p.la x.l.kids.length p.lc,.int .i8 x.r.op,.string x.r.t.v,.int .i8 x.r.t.a.k,.int .i64 x.r.t.a.n,.string x.r.t.a.s,.slice p.ra x.r.kids.length p.rc] 105)).heap.size (w.alloc (.cells #[.int .i8 x.k,.string x.pr,.slice p.a x.ts.length p.c,.int .i8 x.rel,.int .i8 x.l.op,.string x.l.t.v,.int .i8 x.l.t.a.k,.int .i64 x.l.t.a.n,.string x.l.t.a.s,.slice p.la x.l.kids.length p.lc,.int .i8 x.r.op,.string x.r.t.v,.int .i8 x.r.t.a.k,.int .i64 x.r.t.a.n,.string x.r.t.a.s,.slice p.ra x.r.kids.length p.rc] 105)) v):=fun u v h1 h2=>Ze9 h1 h2
 have HCE:Hid (∀u,Below (w.alloc (.cells #[.int .i8 x.k,.string x.pr,.slice p.a x.ts.length p.c,.int .i8 x.rel,.int .i8 x.l.op,.string x.l.t.v,.int .i8 x.l.t.a.k,.int .i64 x.l.t.a.n,.string x.l.t.a.s,.slice p.la x.l.kids.length p.lc,.int .i8 x.r.op,.string x.r.t.v,.int .i8 x.r.t.a.k,.int .i64 x.r.t.a.n,.string x.r.t.a.s,.slice p.ra x.r.kids.length p.rc] 105)).heap.size (w.alloc (.cells #[.int .i8 x.k,.string x.pr,.slice p.a x.ts.length p.c,.int .i8 x.rel,.int .i8 x.l.op,.string x.l.t.v,.int .i8 x.l.t.a.k,.int .i64 x.l.t.a.n,.string x.l.t.a.s,.slice p.la x.l.kids.length p.lc,.int .i8 x.r.op,.string x.r.t.v,.int .i8 x.r.t.a.k,.int .i64 x.r.t.a.n,.string x.r.t.a.s,.slice p.ra x.r.kids.length p.rc] 105)) u→Below w.heap.size w u∧u.cell? ⟨w.heap.size,0,none⟩=some (.int .i8 x.k)∧u.cell? ⟨w.heap.size,1,none⟩=some (.string x.pr)∧u.cell? ⟨w.heap.size,2,none⟩=some (.slice p.a x.ts.length p.c)∧u.cell? ⟨w.heap.size,3,none⟩=some (.int .i8 x.rel)∧u.cell? ⟨w.heap.size,4,none⟩=some (.int .i8 x.l.op)∧u.cell? ⟨w.heap.size,5,none⟩=some (.string x.l.t.v)∧u.cell? ⟨w.heap.size,6,none⟩=some (.int .i8 x.l.t.a.k)∧u.cell? ⟨w.heap.size,7,none⟩=some (.int .i64 x.l.t.a.n)∧u.cell? ⟨w.heap.size,8,none⟩=some (.string x.l.t.a.s)∧u.cell? ⟨w.heap.size,9,none⟩=some (.slice p.la x.l.kids.length p.lc)∧u.cell? ⟨w.heap.size,10,none⟩=some (.int .i8 x.r.op)∧u.cell? ⟨w.heap.size,11,none⟩=some (.string x.r.t.v)∧u.cell? ⟨w.heap.size,12,none⟩=some (.int .i8 x.r.t.a.k)∧u.cell? ⟨w.heap.size,13,none⟩=some (.int .i64 x.r.t.a.n)∧u.cell? ⟨w.heap.size,14,none⟩=some (.string x.r.t.a.s)∧u.cell? ⟨w.heap.size,15,none⟩=some (.slice p.ra x.r.kids.length p.rc)):=fun u hu=>by
  have hc:∀(j:Nat),u.cell? ⟨w.heap.size,j,none⟩=(w.alloc (.cells #[.int .i8 x.k,.string x.pr,.slice p.a x.ts.length p.c,.int .i8 x.rel,.int .i8 x.l.op,.string x.l.t.v,.int .i8 x.l.t.a.k,.int .i64 x.l.t.a.n,.string x.l.t.a.s,.slice p.la x.l.kids.length p.lc,.int .i8 x.r.op,.string x.r.t.v,.int .i8 x.r.t.a.k,.int .i64 x.r.t.a.n,.string x.r.t.a.s,.slice p.ra x.r.kids.length p.rc] 105)).cell? ⟨w.heap.size,j,none⟩:=fun j=>hu.cell (p:=⟨w.heap.size,j,none⟩) (by simp)
  refine⟨BA.trans (hu.mono BA.size),?_,?_,?_,?_,?_,?_,?_,?_,?_,?_,?_,?_,?_,?_,?_,?_⟩<;>rw[hc]<;>go_simp
 have HAt:Hid (∀u,Below w.heap.size w u→Calls Tryz.prog 314 #[.agg #[.string x.pr,.slice p.a x.ts.length p.c]] u fun r w'=>r=.returned (.bool (ZaD x.pr x.ts))∧Below u.heap.size u w'):=fun u hu=>ZmU x.pr _ x.ts u h.pb (h.ts.below hu)
 have HNl:Hid (∀u,Calls Tryz.prog 315 #[.agg #[.int .i8 x.l.op,.string x.l.t.v,.int .i8 x.l.t.a.k,.int .i64 x.l.t.a.n,.string x.l.t.a.s,.slice p.la x.l.kids.length p.lc]] u fun r w'=>r=.returned (.bool (noE x.l))∧Below u.heap.size u w'):=fun u=>Ze8 x.l p.la p.lc u hl1
 have HNr:Hid (∀u,Calls Tryz.prog 315 #[.agg #[.int .i8 x.r.op,.string x.r.t.v,.int .i8 x.r.t.a.k,.int .i64 x.r.t.a.n,.string x.r.t.a.s,.slice p.ra x.r.kids.length p.rc]] u fun r w'=>r=.returned (.bool (noE x.r))∧Below u.heap.size u w'):=fun u=>Ze8 x.r p.ra p.rc u hl2
 have HEl:Hid (∀u,Below w.heap.size w u→Calls Tryz.prog 316 #[.agg #[.int .i8 x.l.op,.string x.l.t.v,.int .i8 x.l.t.a.k,.int .i64 x.l.t.a.n,.string x.l.t.a.s,.slice p.la x.l.kids.length p.lc],.int .i64 8] u fun r w'=>r=.returned (.bool (ZH 8 x.l))∧Below u.heap.size u w'):=fun u hu=>ZhH 8 d x.l p.la p.lc u (by omega) (h.l.below hu)
 have HEr:Hid (∀u,Below w.heap.size w u→Calls Tryz.prog 316 #[.agg #[.int .i8 x.r.op,.string x.r.t.v,.int .i8 x.r.t.a.k,.int .i64 x.r.t.a.n,.string x.r.t.a.s,.slice p.ra x.r.kids.length p.rc],.int .i64 8] u fun r w'=>r=.returned (.bool (ZH 8 x.r))∧Below u.heap.size u w'):=fun u hu=>ZhH 8 d x.r p.ra p.rc u (by omega) (h.r.below hu)
 have hln:=h.ln;have hkb:=h.kb;have hrb:=h.rb;clear h hl1 hl2;have HB:Hid (ZQ x=if x.k=1∨x.k=2 then ZaD x.pr x.ts&&(decide (x.rel=0)&&(noE x.l&&noE x.r))else if x.k=3 then decide (x.pr=noS)&&(decide (x.ts.length=0)&&(decide (1≤x.rel)&&(decide (x.rel≤6)&&(ZH 8 x.l&&ZH 8 x.r))))else false):=rfl;unfold Lit4.val
 by_cases k12:x.k=1∨x.k=2
 ·rw[if_pos k12]at HB
  have F:(x.k==1)=true∨((x.k==1)=false∧(x.k==2)=true):=by
   rcases k12 with e | e
   ·exact .inl (by rw[e];rfl)
   ·exact .inr ⟨by rw[e];rfl,by rw[e];rfl⟩
  clear k12 BA
  cases hA:ZaD x.pr x.ts
  ·have HF:Hid (ZQ x=false):=by show _=_;rw[HB.out,hA];rfl
   clear HB;rcases F with f1 | ⟨f1,f2⟩
   all_goals
    go_enter Tryz.func281,Tryz.ntmps281;go_wp2_with (first | (go_at_call_of 314 (Value.string x.pr);refine Calls.mono (HAt.out _ (HCE.out _ (by assumption)).1) ?_;rw[hA];rintro ee wn ⟨rfl,bn⟩;have hWn:=HNX.out _ _ (by assumption) bn;obtain⟨hwn,c0,c1,c2,c3,c4,c5,c6,c7,c8,c9,c10,c11,c12,c13,c14,c15⟩:=HCE.out _ hWn))
    all_goals
     go_ret;exact⟨Ze HF.out.symm,(HCE.out _ (by assumption)).1⟩
  ·by_cases hr0:x.rel=0
   ·have dr:(x.rel==0)=true:=by rw[hr0];rfl
    cases hNl:noE x.l
    ·have HF:Hid (ZQ x=false):=by show _=_;rw[HB.out,hNl];simp
     clear HB hr0;rcases F with f1 | ⟨f1,f2⟩
     all_goals
      go_enter Tryz.func281,Tryz.ntmps281;go_wp2_with (first | (go_at_call_of 314 (Value.string x.pr);refine Calls.mono (HAt.out _ (HCE.out _ (by assumption)).1) ?_;rw[hA];rintro ee wn ⟨rfl,bn⟩;have hWn:=HNX.out _ _ (by assumption) bn;obtain⟨hwn,c0,c1,c2,c3,c4,c5,c6,c7,c8,c9,c10,c11,c12,c13,c14,c15⟩:=HCE.out _ hWn) | (go_at_call_of 315 (Value.string x.l.t.v);refine Calls.mono (HNl.out _) ?_;rw[hNl];rintro ee wn ⟨rfl,bn⟩;have hWn:=HNX.out _ _ (by assumption) bn;obtain⟨hwn,c0,c1,c2,c3,c4,c5,c6,c7,c8,c9,c10,c11,c12,c13,c14,c15⟩:=HCE.out _ hWn))
      all_goals
       go_ret;exact⟨Ze HF.out.symm,(HCE.out _ (by assumption)).1⟩
    ·cases hNr:noE x.r
     all_goals
      have HF:Hid (ZQ x=noE x.r):=by show _=_;rw[HB.out,hA,hNl,hNr,decide_eq_true hr0];rfl
      rw[hNr]at HF;clear HB hr0;rcases F with f1 | ⟨f1,f2⟩
      all_goals
       go_enter Tryz.func281,Tryz.ntmps281;go_wp2_with (first | (go_at_call_of 314 (Value.string x.pr);refine Calls.mono (HAt.out _ (HCE.out _ (by assumption)).1) ?_;rw[hA];rintro ee wn ⟨rfl,bn⟩;have hWn:=HNX.out _ _ (by assumption) bn;obtain⟨hwn,c0,c1,c2,c3,c4,c5,c6,c7,c8,c9,c10,c11,c12,c13,c14,c15⟩:=HCE.out _ hWn) | (go_at_call_of 315 (Value.string x.l.t.v);refine Calls.mono (HNl.out _) ?_;rw[hNl];rintro ee wn ⟨rfl,bn⟩;have hWn:=HNX.out _ _ (by assumption) bn;obtain⟨hwn,c0,c1,c2,c3,c4,c5,c6,c7,c8,c9,c10,c11,c12,c13,c14,c15⟩:=HCE.out _ hWn) | (go_at_call_of 315 (Value.string x.r.t.v);refine Calls.mono (HNr.out _) ?_;rw[hNr];rintro ee wn ⟨rfl,bn⟩;have hWn:=HNX.out _ _ (by assumption) bn;obtain⟨hwn,c0,c1,c2,c3,c4,c5,c6,c7,c8,c9,c10,c11,c12,c13,c14,c15⟩:=HCE.out _ hWn))
       all_goals
        go_ret;exact⟨Ze HF.out.symm,(HCE.out _ (by assumption)).1⟩
   ·have dr:(x.rel==0)=false:=by rw[beq_eq_false_iff_ne];exact hr0
    have HF:Hid (ZQ x=false):=by show _=_;rw[HB.out,decide_eq_false hr0];simp
    clear HB hr0;rcases F with f1 | ⟨f1,f2⟩
    all_goals
     go_enter Tryz.func281,Tryz.ntmps281;go_wp2_with (first | (go_at_call_of 314 (Value.string x.pr);refine Calls.mono (HAt.out _ (HCE.out _ (by assumption)).1) ?_;rw[hA];rintro ee wn ⟨rfl,bn⟩;have hWn:=HNX.out _ _ (by assumption) bn;obtain⟨hwn,c0,c1,c2,c3,c4,c5,c6,c7,c8,c9,c10,c11,c12,c13,c14,c15⟩:=HCE.out _ hWn))
     all_goals
      go_ret;exact⟨Ze HF.out.symm,(HCE.out _ (by assumption)).1⟩
 ·rw[if_neg k12]at HB;have f1:(x.k==1)=false:=by rw[beq_eq_false_iff_ne];omega
  have f2:(x.k==2)=false:=by rw[beq_eq_false_iff_ne];omega
  by_cases k3:x.k=3
  ·rw[if_pos k3]at HB;have f3:(x.k==3)=true:=by rw[k3];rfl
   clear k12 k3 BA
   by_cases hp0:x.pr=noS
   ·have dp:x.pr.toList.isEmpty=true:=by rw[hp0,ByteArray.toList_eq];rfl
    by_cases hn0:x.ts.length=0
    ·have dn:((x.ts.length:Int)==0)=true:=by rw[hn0];rfl
     by_cases h1:1≤x.rel
     ·by_cases h6:x.rel≤6
      ·cases hEl:ZH 8 x.l
       ·have HF:Hid (ZQ x=false):=by show _=_;rw[HB.out,hEl];simp
        clear HB hp0 hn0;go_enter Tryz.func281,Tryz.ntmps281;go_wp2_with (first | (go_at_call_of 316 (Value.string x.l.t.v);refine Calls.mono (HEl.out _ (HCE.out _ (by assumption)).1) ?_;rw[hEl];rintro ee wn ⟨rfl,bn⟩;have hWn:=HNX.out _ _ (by assumption) bn;obtain⟨hwn,c0,c1,c2,c3,c4,c5,c6,c7,c8,c9,c10,c11,c12,c13,c14,c15⟩:=HCE.out _ hWn))
        all_goals
         go_ret;exact⟨Ze HF.out.symm,(HCE.out _ (by assumption)).1⟩
       ·cases hEr:ZH 8 x.r
        all_goals
         have HF:Hid (ZQ x=ZH 8 x.r):=by show _=_;rw[HB.out,hEl,hEr,decide_eq_true hp0,decide_eq_true hn0,decide_eq_true h1,decide_eq_true h6];rfl
         rw[hEr]at HF;clear HB hp0 hn0;go_enter Tryz.func281,Tryz.ntmps281;go_wp2_with (first | (go_at_call_of 316 (Value.string x.l.t.v);refine Calls.mono (HEl.out _ (HCE.out _ (by assumption)).1) ?_;rw[hEl];rintro ee wn ⟨rfl,bn⟩;have hWn:=HNX.out _ _ (by assumption) bn;obtain⟨hwn,c0,c1,c2,c3,c4,c5,c6,c7,c8,c9,c10,c11,c12,c13,c14,c15⟩:=HCE.out _ hWn) | (go_at_call_of 316 (Value.string x.r.t.v);refine Calls.mono (HEr.out _ (HCE.out _ (by assumption)).1) ?_;rw[hEr];rintro ee wn ⟨rfl,bn⟩;have hWn:=HNX.out _ _ (by assumption) bn;obtain⟨hwn,c0,c1,c2,c3,c4,c5,c6,c7,c8,c9,c10,c11,c12,c13,c14,c15⟩:=HCE.out _ hWn))
         all_goals
          go_ret;exact⟨Ze HF.out.symm,(HCE.out _ (by assumption)).1⟩
      ·have HF:Hid (ZQ x=false):=by show _=_;rw[HB.out,decide_eq_false h6];simp
       clear HB hp0 hn0;go_enter Tryz.func281,Tryz.ntmps281;go_wp2
       all_goals
        go_ret;exact⟨Ze HF.out.symm,(HCE.out _ (by assumption)).1⟩
     ·have HF:Hid (ZQ x=false):=by show _=_;rw[HB.out,decide_eq_false h1];simp
      clear HB hp0 hn0;go_enter Tryz.func281,Tryz.ntmps281;go_wp2
      all_goals
       go_ret;exact⟨Ze HF.out.symm,(HCE.out _ (by assumption)).1⟩
    ·have dn:((x.ts.length:Int)==0)=false:=by rw[beq_eq_false_iff_ne];omega
     have HF:Hid (ZQ x=false):=by show _=_;rw[HB.out,decide_eq_false hn0];simp
     clear HB hp0 hn0;go_enter Tryz.func281,Tryz.ntmps281;go_wp2
     all_goals
      go_ret;exact⟨Ze HF.out.symm,(HCE.out _ (by assumption)).1⟩
   ·have dp:=Za7 x.pr hp0;have HF:Hid (ZQ x=false):=by show _=_;rw[HB.out,decide_eq_false hp0];simp
    clear HB hp0;go_enter Tryz.func281,Tryz.ntmps281;go_wp2
    all_goals
     go_ret;exact⟨Ze HF.out.symm,(HCE.out _ (by assumption)).1⟩
  ·rw[if_neg k3]at HB;have f3:(x.k==3)=false:=by rw[beq_eq_false_iff_ne];omega
   have HF:Hid (ZQ x=false):=HB.out;clear HB k12 k3 BA;go_enter Tryz.func281,Tryz.ntmps281;go_wp2
   all_goals
    go_ret;exact⟨Ze HF.out.symm,(HCE.out _ (by assumption)).1⟩
def Zdm(j:Nat)(t:T):Value:=if j=0 then .string t.v else if j=1 then .int .i8 t.a.k else if j=2 then .int .i64 t.a.n else .string t.a.s
def ZbP(U:Nat→T)(k:Nat):Nat→Value:=fun j=>if j/4<k then Zdm (j % 4) (U (j/4))else Zdm (j % 4) T0
theorem ZhF(U:Nat→T)(k j:Nat)(t:T) :
  (if j=k*4+3 then Value.string t.a.s else if j=k*4+2 then .int .i64 t.a.n else if j=k*4+1 then .int .i8 t.a.k else if j=k*4 then .string t.v else ZbP U k j)=ZbP (fun i=>if i=k then t else U i) (k+1) j:=by
 by_cases e:j/4=k
 ·have h1:j/4<k+1:=by omega
  have h3:j=k*4∨j=k*4+1∨j=k*4+2∨j=k*4+3:=by omega
  unfold ZbP;rw[if_pos h1,e];rcases h3 with rfl | rfl | rfl | rfl
  ·simp[Zdm]
  ·simp[Zdm,show(k*4+1) % 4=1 by omega]
  ·simp[Zdm,show(k*4+2) % 4=2 by omega]
  ·simp[Zdm,show(k*4+3) % 4=3 by omega]
 ·have n0:¬ j=k*4:=by omega
  have n1:¬ j=k*4+1:=by omega
  have n2:¬ j=k*4+2:=by omega
  have n3:¬ j=k*4+3:=by omega
  unfold ZbP;rw[if_neg n3,if_neg n2,if_neg n1,if_neg n0]
  by_cases h:j/4<k
  ·rw[if_pos h,if_pos (by omega)];simp[e]
  ·rw[if_neg h,if_neg (by omega)]
theorem ZlF{w:World}{b:Nat}{ty:TypeId}{m:Nat}{U:Nat→T}{k:Nat}(h:w.rowIs b ty (m*4) (ZbP U k)){i:Nat}(hi:i<k)(hm:i<m):TAt w b (i*4) (U i):=by
 refine⟨?_,?_,?_,?_⟩
 ·rw[h.cell (by omega)];simp[ZbP,Zdm,hi]
 ·rw[h.cell (by omega)];simp[ZbP,Zdm,show(i*4+1)/4=i by omega,show(i*4+1) % 4=1 by omega,hi]
 ·rw[h.cell (by omega)];simp[ZbP,Zdm,show(i*4+2)/4=i by omega,show(i*4+2) % 4=2 by omega,hi]
 ·rw[h.cell (by omega)];simp[ZbP,Zdm,show(i*4+3)/4=i by omega,show(i*4+3) % 4=3 by omega,hi]
theorem ZkV(w:World)(n:Nat)(U:Nat→T):(w.alloc (.cells (madeCells #[.string ⟨#[]⟩,.int .i8 0,.int .i64 0,.string ⟨#[]⟩] (n*4)) 100)).rowIs w.heap.size 100 (n*4) (ZbP U 0):=by
 have h:=World.rowIs_alloc w (madeCells #[.string ⟨#[]⟩,.int .i8 0,.int .i64 0,.string ⟨#[]⟩] (n*4)) 100 (ZbP U 0) (fun i hi=>by
  rw[size_madeCells]at hi;obtain h | h | h | h:i % 4=0∨i % 4=1∨i % 4=2∨i % 4=3:=by omega
  all_goals simp[madeCells,hi,ZbP,Zdm,h,T0,V0,noS])
 rwa [size_madeCells]at h
theorem Zor:(Tryz.prog.info? 100).map (fun i=>(i.zero,i.size,i.bytes))=some (some (.agg #[.string ⟨#[]⟩,.int .i8 0,.int .i64 0,.string ⟨#[]⟩]),4,48):=by kernel_rfl
theorem Zgr(n:Nat)(hn:n≤1048576)(w:World) :
  (Instr.makeSlice 91 (.int .i64 ((n:Int)+1)) (.int .i64 ((n:Int)+1))).run Tryz.prog w=.ok (.slice (some ⟨w.heap.size,0,none⟩) (n+1) (n+1)) (w.alloc (.cells (madeCells #[.string ⟨#[]⟩,.int .i8 0,.int .i64 0,.string ⟨#[]⟩] ((n+1)*4)) 100)):=by
 have h:=Zor;obtain⟨i,hi,he⟩:=Option.map_eq_some_iff.1 h;simp only[Prod.mk.injEq]at he;obtain⟨h1,h2,h3⟩:=he;have:=run_make (P:=Tryz.prog) w 91 100 i _ Tryz.underlying91 hi h1 .i64 .i64 ((n:Int)+1) ((n:Int)+1) (by omega) (Int.le_refl _) (by rw[h3];omega) (by omega);rw[this,h2,show((n:Int)+1).toNat=n+1 by omega];rfl
structure TwT (w:World) (lo:Nat) (ts:List T) (a:Option Addr) (c:Nat):Prop where
 cap:c=ts.length+1
 lies:∃g,a=some ⟨g,0,none⟩∧lo≤g∧g<w.heap.size∧TAt w g (ts.length*4) ⟨Zt,V0⟩∧∀i,i<ts.length→TAt w g (i*4) (atT ts i)
theorem TwT.below{w w':World}{lo:Nat}{ts:List T}{a:Option Addr}{c:Nat}(h:TwT w lo ts a c)(b:Below w.heap.size w w'):TwT w' lo ts a c:=by
 obtain⟨h1,g,h2,h3,h4,h5,h6⟩:=h;exact⟨h1,g,h2,h3,Nat.lt_of_lt_of_le h4 b.size,h5.below b h4,fun i hi=>(h6 i hi).below b h4⟩
theorem TAt.of{w w':World}{g o:Nat}{t:T}(h:TAt w g o t)(e:w'.heap[g]?=w.heap[g]?):TAt w' g o t:=by
 have hc:∀j,w'.cell? ⟨g,j,none⟩=w.cell? ⟨g,j,none⟩:=fun j=>by unfold World.cell?;rw[e]
 exact⟨(hc _).trans h.c0,(hc _).trans h.c1,(hc _).trans h.c2,(hc _).trans h.c3⟩
theorem TwT.set{w:World}{lo b j:Nat}{v:Value}(hb:b<lo){ts:List T}{a:Option Addr}{c:Nat}(h:TwT w lo ts a c):TwT (w.setCell ⟨b,j,none⟩ v) lo ts a c:=by
 obtain⟨h1,g,h2,h3,h4,h5,h6⟩:=h;have e:(w.setCell ⟨b,j,none⟩ v).heap[g]?=w.heap[g]?:=heap_setCell_other _ _ _ _ (by show g≠b;omega);exact⟨h1,g,h2,h3,by simpa using h4,h5.of e,fun i hi=>(h6 i hi).of e⟩
theorem TwT.lower{w:World}{lo lo':Nat}(hl:lo'≤lo){ts:List T}{a:Option Addr}{c:Nat}(h:TwT w lo ts a c):TwT w lo' ts a c:=by
 obtain⟨h1,g,h2,h3,h4,h5,h6⟩:=h;exact⟨h1,g,h2,Nat.le_trans hl h3,h4,h5,h6⟩
theorem ZjN{w:World}{g n c:Nat}{ts:List T}(hn:ts.length=n)(hc1:n≤c)(hc2:c≤maxLen)(hg:g<w.heap.size)(h:∀i,i<ts.length→TAt w g (i*4) (atT ts i))(hwf:∀t∈ts,t.wf):Lt w (.slice (some ⟨g,0,none⟩) n c) ts:=by
 subst hn;refine⟨⟨Nat.le_trans hc1 hc2,_,c,rfl,hc1,hc2,fun _=>⟨g,0,rfl,hg,fun i hi=>?_⟩⟩,hwf⟩;have hl:(ts.flatMap T.cells).length=ts.length*4:=Zbt T.cells 4 (fun _=>rfl) ts;have hi4:i/4<ts.length:=by omega
 have hx:=ZaQ T.cells 4 (fun _=>rfl) T0 ts (i/4) (i % 4) hi4 (by omega);rw[show i/4*4+i % 4=i by omega]at hx;have ht:=h (i/4) hi4
 have key:w.cell? ⟨g,i,none⟩=(T.cells (atT ts (i/4)))[i % 4]?:=by
  obtain h0 | h0 | h0 | h0:i % 4=0∨i % 4=1∨i % 4=2∨i % 4=3:=by omega
  ·rw[show i=i/4*4 by omega];have:=ht.c0;simpa[T.cells]using this
  ·rw[show i=i/4*4+1 by omega];have:=ht.c1;simpa[T.cells,show(i/4*4+1)/4=i/4 by omega,show(i/4*4+1) % 4=1 by omega]using this
  ·rw[show i=i/4*4+2 by omega];have:=ht.c2;simpa[T.cells,show(i/4*4+2)/4=i/4 by omega,show(i/4*4+2) % 4=2 by omega]using this
  ·rw[show i=i/4*4+3 by omega];have:=ht.c3;simpa[T.cells,show(i/4*4+3)/4=i/4 by omega,show(i/4*4+3) % 4=3 by omega]using this
 rw[Nat.zero_add,key];have e2:(ts.flatMap T.cells)[i]?=(T.cells (atT ts (i/4)))[i % 4]?:=hx;rw[←e2,List.getElem?_eq_getElem hi]
theorem TwT.lt{w w0:World}{lo:Nat}{ts:List T}{a:Option Addr}{c:Nat}{v:Value}(h:TwT w lo ts a c)(h0:Lt w0 v ts)(hl:ts.length≤1048576):Lt w (.slice a ts.length c) ts:=by
 obtain⟨rfl,g,rfl,_,hg,_,hk⟩:=h;exact ZjN rfl (by omega) (by unfold maxLen;omega) hg hk h0.wf
theorem Zeu{fn:Func}{sl:Nat}(hr:fn.results=#[.cell sl 100]){W:World}{tmps:Array Value}{b:Nat}{t:T}(h2:tmps.getD sl undef=.pointer (some ⟨b,0,none⟩))(h:TAt W b 0 t) :
  (results fn tmps).run Tryz.prog W=.ok (.agg #[.string t.v,.int .i8 t.a.k,.int .i64 t.a.n,.string t.a.s]) W:=by
 obtain⟨c0,c1,c2,c3⟩:=h
 have hl:(loadVar 100 ⟨b,0,none⟩).run Tryz.prog W=.ok (.agg #[.string t.v,.int .i8 t.a.k,.int .i64 t.a.n,.string t.a.s]) W:=by
  refine run_loadVar_mid W b 0 100 [.string t.v,.int .i8 t.a.k,.int .i64 t.a.n,.string t.a.s] _ (fun j v hj=>?_) Tryz.underlying100 rfl (by kernel_rfl)
  match j,hj with
  | 0,hj=>simp at hj;subst hj;exact c0
  | 1,hj=>simp at hj;subst hj;exact c1
  | 2,hj=>simp at hj;subst hj;exact c2
  | 3,hj=>simp at hj;subst hj;exact c3
 have e0:results fn tmps=(do
   let x ←asAddr (tmps.getD sl undef)
   loadVar 100 x):=by
  simp[results,hr]
 rw[e0,h2];simp[asAddr,hl,Result.andThen]
def OwnT(w:World)(b:Nat):Prop:=(∃t,TAt w b 0 t)∧(∀j,w.frozen? ⟨b,j,none⟩=false)∧b<w.heap.size
theorem OwnT.below{w w1:World}{b:Nat}(h:OwnT w b)(hb:Below w.heap.size w w1):OwnT w1 b:=by
 obtain⟨⟨t,hx⟩,hf,hl⟩:=h;exact⟨⟨t,hx.below hb hl⟩,fun j=>by rw[hb.frozen (p:=⟨b,j,none⟩) hl];exact hf j,Nat.lt_of_lt_of_le hl hb.size⟩
theorem Zos(w:World)(t:T):OwnT (w.alloc (.cells #[.string t.v,.int .i8 t.a.k,.int .i64 t.a.n,.string t.a.s] 100)) w.heap.size:=
 ⟨⟨t,⟨by go_simp,by go_simp,by go_simp,by go_simp⟩⟩,fun j=>Lib.frozen_of_heap (heap_alloc_new w _) j,by simp⟩
theorem ZpA{w:World}{b:Nat}(h:OwnT w b)(t:T):TAt ((((w.setCell ⟨b,0,none⟩ (.string t.v)).setCell ⟨b,1,none⟩ (.int .i8 t.a.k)).setCell ⟨b,2,none⟩ (.int .i64 t.a.n)).setCell ⟨b,3,none⟩ (.string t.a.s)) b 0 t:=by
 obtain⟨⟨t',c0,c1,c2,c3⟩,hf,hl⟩:=h;have f0:=hf 0;have f1:=hf 1;have f2:=hf 2;have f3:=hf 3;clear hf;simp only[Nat.zero_add]at c1 c2 c3;refine⟨?_,?_,?_,?_⟩<;>go_simp
theorem Ziy(w:World)(hp:PWt w):Calls Tryz.prog 119 #[.int .i64 777777] w fun e w'=>e=.returned (.agg #[.string Zt,.int .i8 0,.int .i64 0,.string ⟨#[]⟩])∧Below w.heap.size w w':=by
 have BA:=(Below.refl w.heap.size w).alloc (Nat.le_refl _) (.cells #[.string ⟨#[]⟩,.int .i8 0,.int .i64 0,.string ⟨#[]⟩] 100);have HP:Hid _:=Zq hp BA;have HO:Hid (OwnT _ w.heap.size):=Zos w T0;clear hp;go_enter Tryz.func119,Tryz.ntmps119;go_wp2_with fail;refine(Za8 _ HP.out).mono ?_;rintro e w1 ⟨rfl,b1⟩;have HO1:Hid (OwnT w1 w.heap.size):=OwnT.below HO.out b1;have B1:Hid (Below w.heap.size w w1):=BA.trans (b1.mono BA.size)
 obtain⟨⟨t',c0,c1,c2,c3⟩,hf,hl⟩:=HO1.out;have f0:=hf 0;have f1:=hf 1;have f2:=hf 2;have f3:=hf 3;simp only[Nat.zero_add]at c1 c2 c3;clear b1 BA hf HO HP;generalize hmw:Zt=MW;have HM:Hid _:=hmw;clear hmw;go_wp2;refine bodyPost_ret (Zeu Tryz.results119 (t:=⟨MW,V0⟩) rfl (ZpA HO1.out ⟨MW,V0⟩)) rfl ⟨by rw[HM.out];rfl,?_⟩;exact(((B1.out.setCell (p:=⟨w.heap.size,0,none⟩) (Nat.le_refl _) _).setCell (p:=⟨w.heap.size,1,none⟩) (Nat.le_refl _) _).setCell (p:=⟨w.heap.size,2,none⟩) (Nat.le_refl _) _).setCell (p:=⟨w.heap.size,3,none⟩) (Nat.le_refl _) _
theorem ZgJ(v:Value)(ts:List T)(w:World)(hp:PWt w)(hs:ts.length≤1048576)(hL:Lt w v ts) :
  Calls Tryz.prog 276 #[v] w fun r w'=>∃a',r=.returned (.slice a' ts.length (ts.length+1))∧Below w.heap.size w w'∧TwT w' w.heap.size ts a' (ts.length+1):=by
 obtain⟨a,c,rfl,hc1,hc2,hk⟩:=hL.form;have hmk:=Zgr ts.length hs;have HK:Hid _:=hk;have HP:Hid (PWt w):=hp;clear hk hp hc2 hL;go_enter Tryz.func276,Tryz.ntmps276;go_wp2;go_loopw [4] (fun i wr=>∃k:Nat,k≤ts.length∧i=.int .i64 k∧Below w.heap.size w wr∧wr.rowIs w.heap.size 100 ((ts.length+1)*4) (ZbP (atT ts) k)) (fun i _=>ts.length-(intOf i).toNat)
 case atStart=>exact⟨0,Nat.zero_le _,rfl,(Below.refl _ _).alloc (Nat.le_refl _) _,ZkV w (ts.length+1) _⟩
 case round=>
  obtain⟨k,hk,rfl,bel,hrow⟩:=hrel;clear hmk
  by_cases hlt:k<ts.length
  ·have hlt':(k:Int)<(ts.length:Int):=by omega
   obtain⟨g,off,rfl,hg,hKS⟩:=HK.out (by omega);obtain⟨y0,y1,y2,y3⟩:=(hKS k hlt).below bel hg;have HR1:Hid (wr.rowIs w.heap.size 100 ((ts.length+1)*4) (ZbP (atT ts) k)):=hrow;obtain⟨x,hxx⟩:∃x,atT ts k=x:=⟨_,rfl⟩;rw[hxx]at y0 y1 y2 y3;have HXX:Hid _:=hxx;have z0:=hrow.cell (i:=k*4) (by omega);have z1:=hrow.cell (i:=k*4+1) (by omega);have z2:=hrow.cell (i:=k*4+2) (by omega);have z3:=hrow.cell (i:=k*4+3) (by omega)
   have f:=hrow.frozen;clear hKS hxx hrow;generalize ZbP (atT ts) k (k*4)=q0 at z0;generalize ZbP (atT ts) k (k*4+1)=q1 at z1;generalize ZbP (atT ts) k (k*4+2)=q2 at z2;generalize ZbP (atT ts) k (k*4+3)=q3 at z3;have hk1:(k:Int)<(ts.length:Int)+1:=by omega
   go_wp2;go_roundw
   case rel=>
    refine⟨k+1,by omega,by go_num,(((bel.setCell (by simp) _).setCell (by simp) _).setCell (by simp) _).setCell (by simp) _,?_⟩;have e2:(fun i=>if i=k then x else atT ts i)=atT ts:=Zez (atT ts) k x HXX.out;have:=((((HR1.out.set (k*4) (.string x.v)).set (k*4+1) (.int .i8 x.a.k)).set (k*4+2) (.int .i64 x.a.n)).set (k*4+3) (.string x.a.s)).congr fun j _=>ZhF (atT ts) k j x
    rw[e2]at this;exact this
   case measure=>simp[intOf];omega
  ·obtain rfl:k=ts.length:=by omega
   have HR:Hid (wr.rowIs w.heap.size 100 ((ts.length+1)*4) (ZbP (atT ts) ts.length)):=hrow;have hwlt:w.heap.size<wr.heap.size:=hrow.lt;clear hrow;go_wp2_with fail;refine(Ziy _ (Zq HP.out bel)).mono ?_;rintro r w1 ⟨rfl,b1⟩;have hrow1:w1.rowIs w.heap.size 100 ((ts.length+1)*4) (ZbP (atT ts) ts.length):=HR.out.of_block (b1.block _ hwlt);have HR1:Hid (w1.rowIs w.heap.size 100 ((ts.length+1)*4) (ZbP (atT ts) ts.length)):=hrow1
   have bel1:Below w.heap.size w w1:=bel.trans (b1.mono bel.size);have z0:=hrow1.cell (i:=ts.length*4) (by omega);have z1:=hrow1.cell (i:=ts.length*4+1) (by omega);have z2:=hrow1.cell (i:=ts.length*4+2) (by omega);have z3:=hrow1.cell (i:=ts.length*4+3) (by omega);have f:=hrow1.frozen;clear hrow1 b1 HR bel;generalize ZbP (atT ts) ts.length (ts.length*4)=q0 at z0;generalize ZbP (atT ts) ts.length (ts.length*4+1)=q1 at z1
   generalize ZbP (atT ts) ts.length (ts.length*4+2)=q2 at z2;generalize ZbP (atT ts) ts.length (ts.length*4+3)=q3 at z3;have hk1:(ts.length:Int)<(ts.length:Int)+1:=by omega
   obtain⟨MW,hmw⟩:∃MW,Zt=MW:=⟨_,rfl⟩;rw[hmw];have HM:Hid _:=hmw;clear hmw;go_wp2;go_ret;have hrow2:=((((HR1.out.set (ts.length*4) (.string MW)).set (ts.length*4+1) (.int .i8 0)).set (ts.length*4+2) (.int .i64 0)).set (ts.length*4+3) (.string ⟨#[]⟩)).congr fun j _=>ZhF (atT ts) ts.length j ⟨MW,V0⟩
   refine⟨some ⟨w.heap.size,0,none⟩,rfl,(((bel1.setCell (by simp) _).setCell (by simp) _).setCell (by simp) _).setCell (by simp) _,rfl,w.heap.size,rfl,Nat.le_refl _,hrow2.lt,?_,fun i hi=>?_⟩
   ·have:=ZlF hrow2 (i:=ts.length) (by omega) (by omega);simp only[if_true]at this;rw[HM.out];exact this
   ·have:=ZlF hrow2 (i:=i) (by omega) (by omega);rw[if_neg (by omega)]at this;exact this
theorem Zgs(v v':Value)(ts:List T)(w:World)(h1:Lt w v ts)(h2:Lt w v' ts) :
  Calls Tryz.prog 324 #[v,v'] w fun r w'=>r=.returned (.bool true)∧Below w.heap.size w w':=by
 obtain⟨a,c,rfl,hc1,hc2,hk⟩:=h1.form;obtain⟨a',c',rfl,hc1',hc2',hk'⟩:=h2.form;have hmax:ts.length≤maxLen:=Nat.le_trans hc1 hc2;unfold maxLen at hmax;have HK:Hid _:=hk;have HK':Hid _:=hk';clear hk hk' h1 h2 hc2 hc2';go_enter Tryz.func324,Tryz.ntmps324;go_wp2;go_loopw [5] (fun i wr=>∃k:Nat,k≤ts.length∧i=.int .i64 k∧Below w.heap.size w wr) (fun i _=>ts.length-(intOf i).toNat)
 case atStart=>exact⟨0,Nat.zero_le _,rfl,Below.refl _ _⟩
 case round=>
  obtain⟨k,hk,rfl,bel⟩:=hrel
  by_cases hlt:k<ts.length
  ·have hlt':(k:Int)<(ts.length:Int):=by omega
   obtain⟨g,off,rfl,hg,hKS⟩:=HK.out (by omega);obtain⟨g',off',rfl,hg',hKS'⟩:=HK'.out (by omega);obtain⟨y0,y1,y2,y3⟩:=(hKS k hlt).below bel hg;obtain⟨z0,z1,z2,z3⟩:=(hKS' k hlt).below bel hg';generalize atT ts k=x at y0 y1 y2 y3 z0 z1 z2 z3
   have hQ:∀u,(binOp .neq 100 (.agg #[.string x.v,.int .i8 x.a.k,.int .i64 x.a.n,.string x.a.s]) (.agg #[.string x.v,.int .i8 x.a.k,.int .i64 x.a.n,.string x.a.s])).run Tryz.prog u=.ok (.bool false) u:=fun u=>by
    have:=ZjR x x u;rw[decide_eq_true rfl]at this;exact this
   clear hKS hKS';go_wp2_with fail;go_quiet (fail);go_wp2;go_roundw
   case rel=>exact⟨k+1,by omega,by go_num,ZaE bel _⟩
   case measure=>simp[intOf];omega
  ·obtain rfl:k=ts.length:=by omega
   go_wp2;go_ret;exact⟨rfl,bel⟩
theorem ZjO(w:World)(hp:PWt w):Calls Tryz.prog 250 #[.agg #[.string Zt,.int .i8 0,.int .i64 0,.string ⟨#[]⟩],.int .i64 777777] w fun e w'=>e=.returned (.bool true)∧Below w.heap.size w w':=by
 have BA:=(Below.refl w.heap.size w).alloc (Nat.le_refl _) (.cells #[.string Zt,.int .i8 0,.int .i64 0,.string ⟨#[]⟩] 100);have HX0:Hid (TAt (w.alloc (.cells #[.string Zt,.int .i8 0,.int .i64 0,.string ⟨#[]⟩] 100)) w.heap.size 0 ⟨Zt,V0⟩):=⟨by go_simp,by go_simp;rfl,by go_simp;rfl,by go_simp;rfl⟩
 have hE:∀u,(binOp .eql 100 (.agg #[.string Zt,.int .i8 0,.int .i64 0,.string ⟨#[]⟩]) (.agg #[.string Zt,.int .i8 0,.int .i64 0,.string ⟨#[]⟩])).run Tryz.prog u=.ok (.bool true) u:=fun u=>by
  have:=Zch ⟨Zt,V0⟩ ⟨Zt,V0⟩ u;rw[decide_eq_true rfl]at this;exact this
 have HS:Hid (∀u,Below (w.alloc (.cells #[.string Zt,.int .i8 0,.int .i64 0,.string ⟨#[]⟩] 100)).heap.size (w.alloc (.cells #[.string Zt,.int .i8 0,.int .i64 0,.string ⟨#[]⟩] 100)) u→Below w.heap.size w u∧u.cell? ⟨w.heap.size,0,none⟩=some (.string Zt)∧u.cell? ⟨w.heap.size,1,none⟩=some (.int .i8 0)∧u.cell? ⟨w.heap.size,2,none⟩=some (.int .i64 0)∧u.cell? ⟨w.heap.size,3,none⟩=some (.string ⟨#[]⟩)):=fun u hu=>by
  obtain⟨x0,x1,x2,x3⟩:=HX0.out.below hu (by simp);exact⟨BA.trans (hu.mono BA.size),x0,x1,x2,x3⟩
 have HP:Hid (∀u,Below w.heap.size w u→PWt u):=fun u hu=>Zq hp hu
 obtain⟨MW,hmw⟩:∃MW,Zt=MW:=⟨_,rfl⟩;have HW:Hid (∀u,PWt u→Calls Tryz.prog 87 #[.int .i64 777777] u fun e w'=>e=.returned (.string MW)∧Below u.heap.size u w'):=fun u hu=>by rw[←hmw];exact Za8 u hu
 rw[hmw]at hE HS⊢;clear hp hmw BA HX0;go_enter Tryz.func250,Tryz.ntmps250;go_wp2_with fail;generalize hWW:w.alloc (.cells #[.string MW,.int .i8 0,.int .i64 0,.string ⟨#[]⟩] 100)=W at HS⊢;clear hWW;have hB0:Below W.heap.size W W:=Below.refl _ _
 go_region_held3 (fun u=>(Below W.heap.size W u)∧u.cell? ⟨w.heap.size,0,none⟩=some (.string MW)∧u.cell? ⟨w.heap.size,1,none⟩=some (.int .i8 0)∧u.cell? ⟨w.heap.size,2,none⟩=some (.int .i64 0)∧u.cell? ⟨w.heap.size,3,none⟩=some (.string ⟨#[]⟩))
  (first
   | assumption
   | exact⟨hB0.drew,(HS.out _ hB0.drew).2⟩
   | exact⟨(by assumption),(HS.out _ (by assumption)).2⟩)
  (first
   | (go_at_call 87;refine(HW.out _ (HP.out _ (HS.out _ hB0.drew).1)).mono ?_;rintro ee w2 ⟨rfl,b2⟩;have b2':Below W.heap.size W w2:=hB0.drew.trans b2)
   | fail)
 go_wp2;go_ret;exact⟨rfl,(HS.out _ b2').1⟩
theorem ZgK(ts:List T)(a a0:Option Addr)(c c0 lo:Nat)(w:World)(hs:ts.length≤1048576)(hp:PWt w)(hW:TwT w lo ts a c)(hL:Lt w (.slice a0 ts.length c0) ts) :
  Calls Tryz.prog 305 #[.slice a ts.length c,.slice a0 ts.length c0] w fun r w'=>r=.returned (.bool true)∧Below w.heap.size w w':=by
 have HS:Hid _:=Zgs _ _ ts w (hW.lt hL hs) hL;obtain⟨rfl,g,rfl,_,hg,hmk,_⟩:=hW;have HMK:Hid (TAt w g (ts.length*4) ⟨Zt,V0⟩):=hmk;have HP:Hid (PWt w):=hp;clear hmk hp hL;go_enter Tryz.func305,Tryz.ntmps305;go_wp2_with fail;refine Calls.mono HS.out ?_;rintro r w1 ⟨rfl,b1⟩;obtain⟨z0,z1,z2,z3⟩:=HMK.out.below b1 hg;have hMK:Hid _:=ZjO w1 (Zq HP.out b1);have hk1:(ts.length:Int)<(ts.length:Int)+1:=by omega
 have z0':w1.cell? ⟨g,ts.length*4,none⟩=some (.string Zt):=z0;have z1':w1.cell? ⟨g,ts.length*4+1,none⟩=some (.int .i8 0):=z1;have z2':w1.cell? ⟨g,ts.length*4+2,none⟩=some (.int .i64 0):=z2;have z3':w1.cell? ⟨g,ts.length*4+3,none⟩=some (.string ⟨#[]⟩):=z3;clear z0 z1 z2 z3;obtain⟨MW,hmw⟩:∃MW,Zt=MW:=⟨_,rfl⟩;rw[hmw]at z0' hMK;clear hmw HS HMK HP;go_wp2_with (go_at_call 250;refine Calls.mono hMK.out ?_;rintro r w2 ⟨rfl,b2⟩)
 go_ret;exact⟨rfl,b1.trans (b2.mono b1.size)⟩
end
end Go.Proofs.YtjdnpgpbeppgjaaGreatDoor
