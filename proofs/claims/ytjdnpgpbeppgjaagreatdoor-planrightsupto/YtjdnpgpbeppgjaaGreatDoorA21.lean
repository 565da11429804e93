import Derived.Test.YtjdnpgpbeppgjaaGreatDoorA9
import Derived.Deep.RegionHeld3
import Derived.Test.YtjdnpgpbeppgjaaGreatDoorA14
import Derived.Test.YtjdnpgpbeppgjaaGreatDoorA10
import Derived.Test.YtjdnpgpbeppgjaaGreatDoorA11
import Derived.Test.YtjdnpgpbeppgjaaGreatDoorA8
import Derived.Test.YtjdnpgpbeppgjaaGreatDoorA20
import Derived.Test.YtjdnpgpbeppgjaaGreatDoorA2
import Derived.Deep.MidRow
import Derived.Test.YtjdnpgpbeppgjaaGreatDoorA3
import Derived.BigQuiet
import Derived.Lib.SmallJoins
import Derived.Test.YtjdnpgpbeppgjaaGreatDoorA6
import Derived.Maps.OwnSet
import Derived.Maps.AppendAt
import Derived.Deep.OwnRows
import Derived.DeepKeys4
set_option linter.unusedSimpArgs false
set_option linter.unusedVariables false
set_option maxHeartbeats 3200000
set_option maxRecDepth 100000
namespace Go.Proofs.YtjdnpgpbeppgjaaGreatDoor
section
open Go.RowKit Go.Maps
attribute [local go_sem ↓] Go.wp_at_zero Go.wp_at_succ
theorem Zof(x:A5)(w:World):(binOp .neq 119 (.agg #[.int .i8 x.g,.string x.t.v,.int .i8 x.t.a.k,.int .i64 x.t.a.n,.string x.t.a.s]) (.agg #[.int .i8 x.g,.string x.t.v,.int .i8 x.t.a.k,.int .i64 x.t.a.n,.string x.t.a.s])).run Tryz.prog w=.ok (.bool false) w:=by go_simp
theorem Zpj(x:A5)(w:World):(binOp .eql 119 (.agg #[.int .i8 x.g,.string x.t.v,.int .i8 x.t.a.k,.int .i64 x.t.a.n,.string x.t.a.s]) (.agg #[.int .i8 x.g,.string x.t.v,.int .i8 x.t.a.k,.int .i64 x.t.a.n,.string x.t.a.s])).run Tryz.prog w=.ok (.bool true) w:=by go_simp
theorem ZgF(v v':Value)(l:List A5)(w:World)(h1:La w v l)(h2:La w v' l) :
  Calls Tryz.prog 108 #[v,v'] w fun r w'=>r=.returned (.bool true)∧Below w.heap.size w w':=by
 obtain⟨a,c,rfl,hc1,hc2,hk⟩:=h1.form;obtain⟨a',c',rfl,hc1',hc2',hk'⟩:=h2.form;have hmax:l.length≤maxLen:=Nat.le_trans hc1 hc2;unfold maxLen at hmax;have HK:Hid _:=hk;have HK':Hid _:=hk';clear hk hk' h1 h2 hc2 hc2';go_enter Tryz.func108,Tryz.ntmps108;go_wp2;go_loopw [5] (fun i wr=>∃k:Nat,k≤l.length∧i=.int .i64 k∧Below w.heap.size w wr) (fun i _=>l.length-(intOf i).toNat)
 case atStart=>exact⟨0,Nat.zero_le _,rfl,Below.refl _ _⟩
 case round=>
  obtain⟨k,hk,rfl,bel⟩:=hrel
  by_cases hlt:k<l.length
  ·have hlt':(k:Int)<(l.length:Int):=by omega
   obtain⟨g,off,rfl,hg,hKS⟩:=HK.out (by omega);obtain⟨g',off',rfl,hg',hKS'⟩:=HK'.out (by omega);have ry:=Zu (hKS k hlt) bel hg;have rz:=Zu (hKS' k hlt) bel hg';generalize atA l k=x at ry rz;have y0:wr.cell? ⟨g,off+k*5,none⟩=some (.int .i8 x.g):=ry 0 _ rfl;have y1:wr.cell? ⟨g,off+k*5+1,none⟩=some (.string x.t.v):=ry 1 _ rfl;have y2:wr.cell? ⟨g,off+k*5+2,none⟩=some (.int .i8 x.t.a.k):=ry 2 _ rfl
   have y3:wr.cell? ⟨g,off+k*5+3,none⟩=some (.int .i64 x.t.a.n):=ry 3 _ rfl;have y4:wr.cell? ⟨g,off+k*5+4,none⟩=some (.string x.t.a.s):=ry 4 _ rfl;have z0:wr.cell? ⟨g',off'+k*5,none⟩=some (.int .i8 x.g):=rz 0 _ rfl;have z1:wr.cell? ⟨g',off'+k*5+1,none⟩=some (.string x.t.v):=rz 1 _ rfl;have z2:wr.cell? ⟨g',off'+k*5+2,none⟩=some (.int .i8 x.t.a.k):=rz 2 _ rfl;have z3:wr.cell? ⟨g',off'+k*5+3,none⟩=some (.int .i64 x.t.a.n):=rz 3 _ rfl
   have z4:wr.cell? ⟨g',off'+k*5+4,none⟩=some (.string x.t.a.s):=rz 4 _ rfl;have hQ:=Zof x;clear hKS hKS' ry rz;go_wp2_with fail;go_quiet (fail);go_wp2;go_roundw
   case rel=>exact⟨k+1,by omega,by go_num,ZaE bel _⟩
   case measure=>simp[intOf];omega
  ·obtain rfl:k=l.length:=by omega
   go_wp2;go_ret;exact⟨rfl,bel⟩
theorem ZjC(w:World)(hp:PWt w):Calls Tryz.prog 111 #[.agg #[.int .i8 0,.string Zt,.int .i8 0,.int .i64 0,.string ⟨#[]⟩],.int .i64 777777] w fun e w'=>e=.returned (.bool true)∧Below w.heap.size w w':=by
 have BA:=(Below.refl w.heap.size w).alloc (Nat.le_refl _) (.cells #[.int .i8 0,.string Zt,.int .i8 0,.int .i64 0,.string ⟨#[]⟩] 119);have HX0:Hid (RL (w.alloc (.cells #[.int .i8 0,.string Zt,.int .i8 0,.int .i64 0,.string ⟨#[]⟩] 119)) w.heap.size 119 [.int .i8 0,.string Zt,.int .i8 0,.int .i64 0,.string ⟨#[]⟩]):=Zk w #[.int .i8 0,.string Zt,.int .i8 0,.int .i64 0,.string ⟨#[]⟩] 119
 have HS:Hid (∀u,Below (w.alloc (.cells #[.int .i8 0,.string Zt,.int .i8 0,.int .i64 0,.string ⟨#[]⟩] 119)).heap.size (w.alloc (.cells #[.int .i8 0,.string Zt,.int .i8 0,.int .i64 0,.string ⟨#[]⟩] 119)) u→Below w.heap.size w u∧u.cell? ⟨w.heap.size,0,none⟩=some (.int .i8 0)∧u.cell? ⟨w.heap.size,1,none⟩=some (.string Zt)∧u.cell? ⟨w.heap.size,2,none⟩=some (.int .i8 0)∧u.cell? ⟨w.heap.size,3,none⟩=some (.int .i64 0)∧u.cell? ⟨w.heap.size,4,none⟩=some (.string ⟨#[]⟩)):=fun u hu=>by
  have hr:=RL.below HX0.out hu;exact⟨BA.trans (hu.mono BA.size),hr.at (j:=0) rfl,hr.at (j:=1) rfl,hr.at (j:=2) rfl,hr.at (j:=3) rfl,hr.at (j:=4) rfl⟩
 have HP:Hid (∀u,Below w.heap.size w u→PWt u):=fun u hu=>Zq hp hu
 obtain⟨MW,hmw⟩:∃MW,Zt=MW:=⟨_,rfl⟩;have HW:Hid (∀u,PWt u→Calls Tryz.prog 87 #[.int .i64 777777] u fun e w'=>e=.returned (.string MW)∧Below u.heap.size u w'):=fun u hu=>by rw[←hmw];exact Za8 u hu
 rw[hmw]at HS⊢;clear hp hmw BA HX0;have hE:∀u,(binOp .eql 119 (.agg #[.int .i8 0,.string MW,.int .i8 0,.int .i64 0,.string ⟨#[]⟩]) (.agg #[.int .i8 0,.string MW,.int .i8 0,.int .i64 0,.string ⟨#[]⟩])).run Tryz.prog u=.ok (.bool true) u:=fun u=>Zpj ⟨0,⟨MW,V0⟩⟩ u
 go_enter Tryz.func111,Tryz.ntmps111;go_wp2_with fail;generalize hWW:w.alloc (.cells #[.int .i8 0,.string MW,.int .i8 0,.int .i64 0,.string ⟨#[]⟩] 119)=W at HS⊢;clear hWW;have hB0:Below W.heap.size W W:=Below.refl _ _
 go_region_held3 (fun u=>(Below W.heap.size W u)∧u.cell? ⟨w.heap.size,0,none⟩=some (.int .i8 0)∧u.cell? ⟨w.heap.size,1,none⟩=some (.string MW)∧u.cell? ⟨w.heap.size,2,none⟩=some (.int .i8 0)∧u.cell? ⟨w.heap.size,3,none⟩=some (.int .i64 0)∧u.cell? ⟨w.heap.size,4,none⟩=some (.string ⟨#[]⟩))
  (first
   | assumption
   | exact⟨hB0.drew,(HS.out _ hB0.drew).2⟩
   | exact⟨(by assumption),(HS.out _ (by assumption)).2⟩)
  (first
   | (go_at_call 87;refine(HW.out _ (HP.out _ (HS.out _ hB0.drew).1)).mono ?_;rintro ee w2 ⟨rfl,b2⟩;have b2':Below W.heap.size W w2:=hB0.drew.trans b2)
   | fail)
 go_wp2;go_ret;exact⟨rfl,(HS.out _ b2').1⟩
theorem ZjD(w:World)(hp:PWt w):Calls Tryz.prog 113 #[.agg #[.int .i8 99,.string Zt,.slice none 0 0,.int .i8 0,.int .i8 0,.string ⟨#[]⟩,.int .i8 0,.int .i64 0,.string ⟨#[]⟩,.slice none 0 0,.int .i8 0,.string ⟨#[]⟩,.int .i8 0,.int .i64 0,.string ⟨#[]⟩,.slice none 0 0],.int .i64 777777] w fun e w'=>e=.returned (.bool true)∧Below w.heap.size w w':=by
 have BA:=(Below.refl w.heap.size w).alloc (Nat.le_refl _) (.cells #[.int .i8 99,.string Zt,.slice none 0 0,.int .i8 0,.int .i8 0,.string ⟨#[]⟩,.int .i8 0,.int .i64 0,.string ⟨#[]⟩,.slice none 0 0,.int .i8 0,.string ⟨#[]⟩,.int .i8 0,.int .i64 0,.string ⟨#[]⟩,.slice none 0 0] 105);have HX0:Hid (RL (w.alloc (.cells #[.int .i8 99,.string Zt,.slice none 0 0,.int .i8 0,.int .i8 0,.string ⟨#[]⟩,.int .i8 0,.int .i64 0,.string ⟨#[]⟩,.slice none 0 0,.int .i8 0,.string ⟨#[]⟩,.int .i8 0,.int .i64 0,.string ⟨#[]⟩,.slice none 0 0] 105)) w.heap.size 105 [.int .i8 99,.string Zt,.slice none 0 0,.int .i8 0,.int .i8 0,.string ⟨#[]⟩,.int .i8 0,.int .i64 0,.string ⟨#[]⟩,.slice none 0 0,.int .i8 0,.string ⟨#[]⟩,.int .i8 0,.int .i64 0,.string ⟨#[]⟩,.slice none 0 0]):=Zk w #[.int .i8 99,.string Zt,.slice none 0 0,.int .i8 0,.int .i8 0,.string ⟨#[]⟩,.int .i8 0,.int .i64 0,.string ⟨#[]⟩,.slice none 0 0,.int .i8 0,.string ⟨#[]⟩,.int .i8 0,.int .i64 0,.string ⟨#[]⟩,.slice none 0 0] 105
 have HS:Hid (∀u,Below (w.alloc (.cells #[.int .i8 99,.string Zt,.slice none 0 0,.int .i8 0,.int .i8 0,.string ⟨#[]⟩,.int .i8 0,.int .i64 0,.string ⟨#[]⟩,.slice none 0 0,.int .i8 0,.string ⟨#[]⟩,.int .i8 0,.int .i64 0,.string ⟨#[]⟩,.slice none 0 0] 105)).heap.size (w.alloc (.cells #[.int .i8 99,.string Zt,.slice none 0 0,.int .i8 0,.int .i8 0,.string ⟨#[]⟩,.int .i8 0,.int .i64 0,.string ⟨#[]⟩,.slice none 0 0,.int .i8 0,.string ⟨#[]⟩,.int .i8 0,.int .i64 0,.string ⟨#[]⟩,.slice none 0 0] 105)) u→Below w.heap.size w u∧u.cell? ⟨w.heap.size,0,none⟩=some (.int .i8 99)∧u.cell? ⟨w.heap.size,1,none⟩=some (.string Zt)∧u.cell? ⟨w.heap.size,2,none⟩=some (.slice none 0 0)):=fun u hu=>by
  have hr:=RL.below HX0.out hu;exact⟨BA.trans (hu.mono BA.size),hr.at (j:=0) rfl,hr.at (j:=1) rfl,hr.at (j:=2) rfl⟩
 have HP:Hid (∀u,Below w.heap.size w u→PWt u):=fun u hu=>Zq hp hu
 obtain⟨MW,hmw⟩:∃MW,Zt=MW:=⟨_,rfl⟩;have HW:Hid (∀u,PWt u→Calls Tryz.prog 87 #[.int .i64 777777] u fun e w'=>e=.returned (.string MW)∧Below u.heap.size u w'):=fun u hu=>by rw[←hmw];exact Za8 u hu
 rw[hmw]at HS⊢;clear hp hmw BA HX0;have e0:(MW.toList==MW.toList)=true:=by simp
 go_enter Tryz.func113,Tryz.ntmps113;go_wp2_with fail;generalize hWW:w.alloc (.cells #[.int .i8 99,.string MW,.slice none 0 0,.int .i8 0,.int .i8 0,.string ⟨#[]⟩,.int .i8 0,.int .i64 0,.string ⟨#[]⟩,.slice none 0 0,.int .i8 0,.string ⟨#[]⟩,.int .i8 0,.int .i64 0,.string ⟨#[]⟩,.slice none 0 0] 105)=W at HS⊢;clear hWW;have hB0:Below W.heap.size W W:=Below.refl _ _
 go_region_held3 (fun u=>(Below W.heap.size W u)∧u.cell? ⟨w.heap.size,0,none⟩=some (.int .i8 99)∧u.cell? ⟨w.heap.size,1,none⟩=some (.string MW)∧u.cell? ⟨w.heap.size,2,none⟩=some (.slice none 0 0))
  (first
   | assumption
   | exact⟨hB0.drew,(HS.out _ hB0.drew).2⟩
   | exact⟨(by assumption),(HS.out _ (by assumption)).2⟩)
  (first
   | (go_at_call 87;refine(HW.out _ (HP.out _ (HS.out _ hB0.drew).1)).mono ?_;rintro ee w2 ⟨rfl,b2⟩;have b2':Below W.heap.size W w2:=hB0.drew.trans b2)
   | fail)
 go_wp2;go_ret;exact⟨rfl,(HS.out _ b2').1⟩
theorem Zin(l:List A5)(a a0:Option Addr)(c c0 lo:Nat)(w:World)(hs:l.length≤1048576)(hp:PWt w)(hW:TwA w lo l a c)(hL:La w (.slice a0 l.length c0) l) :
  Calls Tryz.prog 35 #[.slice a l.length c,.slice a0 l.length c0] w fun r w'=>r=.returned (.bool true)∧Below w.heap.size w w':=by
 have HS:Hid _:=ZgF _ _ l w (hW.la hL hs) hL;obtain⟨rfl,g,rfl,_,hg,hmk,_⟩:=hW;have HMK:Hid (w.rangeAt g (l.length*5) [.int .i8 0,.string Zt,.int .i8 0,.int .i64 0,.string ⟨#[]⟩]):=hmk;have HP:Hid (PWt w):=hp;clear hmk hp hL;go_enter Tryz.func35,Tryz.ntmps35;go_wp2_with fail;refine Calls.mono HS.out ?_;rintro r w1 ⟨rfl,b1⟩;have hr:=Zu HMK.out b1 hg;have hMK:Hid _:=ZjC w1 (Zq HP.out b1)
 have hk1:(l.length:Int)<(l.length:Int)+1:=by omega
 have z0:w1.cell? ⟨g,l.length*5,none⟩=some (.int .i8 0):=hr 0 _ rfl;have z1:w1.cell? ⟨g,l.length*5+1,none⟩=some (.string Zt):=hr 1 _ rfl;have z2:w1.cell? ⟨g,l.length*5+2,none⟩=some (.int .i8 0):=hr 2 _ rfl;have z3:w1.cell? ⟨g,l.length*5+3,none⟩=some (.int .i64 0):=hr 3 _ rfl;have z4:w1.cell? ⟨g,l.length*5+4,none⟩=some (.string ⟨#[]⟩):=hr 4 _ rfl;obtain⟨MW,hmw⟩:∃MW,Zt=MW:=⟨_,rfl⟩;rw[hmw]at z1 hMK
 clear hmw HS HMK HP hr;go_wp2_with (go_at_call 111;refine Calls.mono hMK.out ?_;rintro r w2 ⟨rfl,b2⟩);go_ret;exact⟨rfl,b1.trans (b2.mono b1.size)⟩
end
section
open Go.RowKit Go.Maps
attribute [local go_sem ↓] Go.wp_at_zero Go.wp_at_succ
attribute [-go_sem] loadVar storeVar
theorem Zog{wc u v:World}(h:Below wc.heap.size wc u)(b:Below u.heap.size u v):Below wc.heap.size wc v:=h.trans (b.mono h.size)
theorem ZeS(d:Nat)(l l':List XL)(a a0:Option Addr)(c c0 lo:Nat)(w:World)(hll:l.length≤1048576)(hl':l'.length=l.length)(hx':∀i,i<l.length→(atL l' i).x=(atL l i).x)(hsm:∀y∈l,ZbM d y.x)(hp:PWt w)(hW:TwB w lo d l' a c)(hL:Lb w (.slice a0 l.length c0) d l) :
  Calls Tryz.prog 36 #[.slice a l.length c,.slice a0 l.length c0] w fun r w'=>r=.returned (.bool true)∧Below w.heap.size w w':=by
 have HC:Hid (∀i,i<l.length→∀u,Below w.heap.size w u→Calls Tryz.prog 112 #[.agg (atL l' i).cells.toArray,.agg (atL l i).cells.toArray] u fun r w'=>r=.returned (.bool true)∧Below u.heap.size u w'):=fun i hi u hu=>by
  have h1:=hW.each i (by omega);have h2:=hL.at_is hi;have h3:(atL l i).x.ts.length≤1048576:=by rw[ZS hi];exact(hsm _ (List.getElem_mem hi)).1
  have h4:=Zff d (atL l i).x (atL l' i).p (atL l i).p lo u h3 (Zq hp hu) (by rw[←hx' i hi];exact h1.below hu) (h2.below hu);rw[XL.val_eq,XL.val_eq,hx' i hi];exact h4
 obtain⟨a1,c1,e1,hc1,hc2,hk⟩:=hL.form
 cases e1
 have hcap:=hW.cap;obtain⟨g,rfl,_,hg,hmk,hks⟩:=hW.lies;rw[hl']at hcap hmk;subst hcap;have HK:Hid _:=hk;have HKS:Hid (∀i,i<l.length→w.rangeAt g (i*16) (atL l' i).cells):=fun i hi=>hks i (by omega)
 have HMK:Hid (w.rangeAt g (l.length*16) [.int .i8 99,.string Zt,.slice none 0 0,.int .i8 0,.int .i8 0,.string ⟨#[]⟩,.int .i8 0,.int .i64 0,.string ⟨#[]⟩,.slice none 0 0,.int .i8 0,.string ⟨#[]⟩,.int .i8 0,.int .i64 0,.string ⟨#[]⟩,.slice none 0 0]):=hmk;have HP:Hid (PWt w):=hp;clear hmk hp hL hW hk hks hsm hx' hl' hc1 hc2;go_enter Tryz.func36,Tryz.ntmps36;go_wp2;go_loopw [5] (fun i wr=>∃k:Nat,k≤l.length∧i=.int .i64 k∧Below w.heap.size w wr) (fun i _=>l.length-(intOf i).toNat)
 case atStart=>exact⟨0,Nat.zero_le _,rfl,Below.refl _ _⟩
 case round=>
  obtain⟨k,hk,rfl,bel⟩:=hrel
  by_cases hlt:k<l.length
  ·have hlt':(k:Int)<(l.length:Int):=by omega
   have hk0:(0:Int)≤(k:Int):=by omega
   obtain⟨g',off,rfl,hg',hKS⟩:=HK.out (by omega);have HL1:Hid (∀u,Below w.heap.size w u→(loadVar 105 ⟨g,k*16,none⟩).run Tryz.prog u=.ok (.agg (atL l' k).cells.toArray) u):=fun u hu=>Zan (Zu (HKS.out k hlt) hu hg) rfl
   have HL2:Hid (∀u,Below w.heap.size w u→(loadVar 105 ⟨g',off+k*16,none⟩).run Tryz.prog u=.ok (.agg (atL l k).cells.toArray) u):=fun u hu=>Zan (Zu (hKS k hlt) hu hg') rfl
   have HI:Hid _:=HC.out k hlt;generalize Value.agg (atL l' k).cells.toArray=QV at HL1 HI;generalize Value.agg (atL l k).cells.toArray=RV at HL2 HI;have hl1:∀u,Below w.heap.size w u→(loadVar 105 ⟨g,k*16,none⟩).run Tryz.prog u=.ok QV u:=HL1.out;have hl2:∀u,Below w.heap.size w u→(loadVar 105 ⟨g',off+k*16,none⟩).run Tryz.prog u=.ok RV u:=HL2.out;have hS0:=bel;clear hKS HL1 HL2;go_wp2_with fail
   go_region_held3 (fun u=>(Below w.heap.size w u))
    (first
     | assumption
     | exact bel.drew)
    (first
     | (go_at_call 112;refine Calls.mono (HI.out _ (by first | assumption | exact bel.drew)) ?_;rintro ee w2 ⟨rfl,b2⟩;have b2':Below w.heap.size w w2:=Zog (by first | assumption | exact bel.drew) b2)
     | fail)
   go_wp2;go_roundw
   case rel=>exact⟨k+1,by omega,by go_num,b2'⟩
   case measure=>simp[intOf];omega
  ·obtain rfl:k=l.length:=by omega
   have hld:=Zan (Zu HMK.out bel hg) rfl;have hMK:Hid _:=ZjD wr (Zq HP.out bel);have hk1:(l.length:Int)<(l.length:Int)+1:=by omega
   have hld2:(loadVar 105 ⟨g,l.length*16,none⟩).run Tryz.prog wr=.ok (.agg #[.int .i8 99,.string Zt,.slice none 0 0,.int .i8 0,.int .i8 0,.string ⟨#[]⟩,.int .i8 0,.int .i64 0,.string ⟨#[]⟩,.slice none 0 0,.int .i8 0,.string ⟨#[]⟩,.int .i8 0,.int .i64 0,.string ⟨#[]⟩,.slice none 0 0]) wr:=hld;generalize Value.agg #[.int .i8 99,.string Zt,.slice none 0 0,.int .i8 0,.int .i8 0,.string ⟨#[]⟩,.int .i8 0,.int .i64 0,.string ⟨#[]⟩,.slice none 0 0,.int .i8 0,.string ⟨#[]⟩,.int .i8 0,.int .i64 0,.string ⟨#[]⟩,.slice none 0 0]=QV at hld2 hMK
   clear hld HMK;go_wp2_with fail;refine Calls.mono hMK.out ?_;rintro ee w2 ⟨rfl,b2⟩;go_wp2;go_ret;exact⟨rfl,bel.trans (b2.mono bel.size)⟩
end
section
open Go.RowKit Go.Maps
attribute [local go_sem ↓] Go.wp_at_zero Go.wp_at_succ
end
section
open Go.RowKit Go.Maps
end
section
open Go.RowKit Go.Maps
attribute [local go_sem ↓] Go.wp_at_zero Go.wp_at_succ
attribute [-go_sem] loadVar storeVar
end
section
open Go.RowKit Go.Maps
def ZoD(fs:List ByteArray)(v:ByteArray)(q:Qn):Bool:=(decide (q.1.lone=some v)&&q.2.vars.all (inB fs)) || (decide (q.2.lone=some v)&&q.1.vars.all (inB fs))
theorem ZiL{fs:List ByteArray}{q:Qn}{v:ByteArray}(hv:¬ v∈fs)(h:ZoD fs v q=true):Zaf fs q≠none:=by
 unfold ZoD at h;have hb:inB fs v=false:=by rw[←Bool.not_eq_true];exact fun e=>hv (ZD.1 e)
 rw[Bool.or_eq_true,Bool.and_eq_true,Bool.and_eq_true,decide_eq_true_eq,decide_eq_true_eq]at h;unfold Zaf;rcases h with ⟨h1,h2⟩ | ⟨h1,h2⟩
 ·have:ZP q.1.lone q.2.vars fs=some v:=by unfold ZP;rw[h1];simp only;rw[hb,h2];rfl
  rw[this];simp
 ·have:ZP q.2.lone q.1.vars fs=some v:=by unfold ZP;rw[h1];simp only;rw[hb,h2];rfl
  cases ZP q.1.lone q.2.vars fs with
  | some x=>simp
  | none=>simp only;rw[this];simp
theorem Zfy:∀(qs:List Qn) (fs:List ByteArray),Zbz qs fs=fs→∀q∈qs,Zaf fs q=none
 | [],fs,_,q,hq=>by cases hq
 | p::qs,fs,h,q,hq=>by
  have h':Zbz qs (ZaP fs p)=fs:=h
  have hp:Zaf fs p=none:=by
   cases hg:Zaf fs p with
   | none=>rfl
   | some v=>
    obtain⟨m,hm⟩:=ZeH qs (ZaP fs p);have e:ZaP fs p=fs++[v]:=by unfold ZaP;rw[hg]
    rw[h',e]at hm;have:=congrArg List.length hm;simp only[List.length_append,List.length_cons,List.length_nil]at this;omega
  have e:ZaP fs p=fs:=by unfold ZaP;rw[hp]
  rw[e]at h';rcases List.mem_cons.1 hq with rfl | hq
  ·exact hp
  ·exact Zfy qs fs h' q hq
theorem ZeE:∀(l out:List ByteArray) (x:ByteArray),x∈l.foldl Zby out↔x∈out∨x∈l
 | [],out,x=>by simp
 | n::l,out,x=>by
  rw[List.foldl_cons,ZeE l];unfold Zby
  split
  ·rename_i hc
   constructor
   ·rintro(h | h)
    ·exact .inl h
    ·exact .inr (List.mem_cons_of_mem _ h)
   ·rintro(h | h)
    ·exact .inl h
    ·rcases List.mem_cons.1 h with rfl | h
     ·exact .inl (ZD.1 hc)
     ·exact .inr h
  ·rw[List.mem_append,List.mem_singleton,List.mem_cons];constructor
   ·rintro((h | h) | h)
    ·exact .inl h
    ·exact .inr (.inl h)
    ·exact .inr (.inr h)
   ·rintro(h | h | h)
    ·exact .inl (.inl h)
    ·exact .inl (.inr h)
    ·exact .inr h
end
section
open Go.RowKit Go.Maps Go.Shelf
attribute [local go_sem ↓] Go.wp_at_zero Go.wp_at_succ
attribute [-go_sem] loadVar Builtin.append_ Instr.buildSlice
theorem GtS.start{w w1:World}{d:Nat}{l:List XL}{v:Value}{tb kb:Nat}{ss:List ByteArray}{left:Nat}{t:St}{b:Bool}{ta:Option Addr}{tc:Nat}{G:List St→Prop}{b6:Nat}(hb:Below w.heap.size w w1)(hT:ZbN w tb kb v ss left)(hl:left<2^l.length)(hn:l.length≤16)(hbx:RL w1 b6 84 [.int .i8 t.k,.int .i64 t.i,.int .u32 t.m,.slice ta t.g.length tc])(ho:w1.ownsRow w.heap.size 9 1 (.slice ta t.g.length tc) t.g.length (t.g.flatMap Zm))(hf:Zma d ss l left (t,b))(hG:∀ys,Gt d l ss left (t,b) ys→G ys):GtS w d l v tb kb b6 G w1 [] none 0 ss left t b ta tc:=
 ⟨⟨RL.below hT.rl hb,hT.set.of_block (hb.block kb hT.set.lt),hT.ne⟩,hl,hbx,ho,World.ownsRow_nil _ _ _ _,fun y hy=>absurd hy (by simp),Px.of_below hb,hf,hG,by
  have:(2:Nat)^l.length≤65536:=Nat.le_trans (Nat.pow_le_pow_right (by omega) hn) (by decide);simp only[List.length_nil];omega⟩
structure GtU (w:World) (tb kb b6:Nat) (v:Value) (ss:List ByteArray) (left:Nat) (u:World) (xs:List SX) (bx:List Value):Prop where
 tu:ZbN u tb kb v ss left
 box:RL u b6 84 bx
 giv:∀y∈xs,u.ownsRow w.heap.size 9 1 (.slice y.a y.s.g.length y.c) y.s.g.length (y.s.g.flatMap Zm)
 px:Px tb kb w u
theorem Zha{w:World}{tb kb b6:Nat}{v:Value}{ss:List ByteArray}{left:Nat}{u1 u2 V:World}{xs:List SX}{oa:Option Addr}{oc:Nat}{t:St}{ta:Option Addr}{tc:Nat}(hn:GtN w tb kb b6)
  (hbx:RL u1 b6 84 [.int .i8 t.k,.int .i64 t.i,.int .u32 t.m,.slice ta t.g.length tc]) (how:u1.ownsRow w.heap.size 9 1 (.slice ta t.g.length tc) t.g.length (t.g.flatMap Zm)) (hou:u1.ownsRow (b6+1) 84 4 (.slice oa xs.length oc) xs.length (xs.flatMap SX.cells)) (hgi:∀y∈xs,u1.ownsRow w.heap.size 9 1 (.slice y.a y.s.g.length y.c) y.s.g.length (y.s.g.flatMap Zm)) (hpw:Px tb kb w u1) (htu:ZbN u1 tb kb v ss left)
  (hV:Below u1.heap.size u1 V) (hg:V.grownBy u2 ((.slice oa xs.length oc:Value).ownBlock)):GtU w tb kb b6 v ss left u2 (xs++[⟨t,ta,tc⟩]) [.int .i8 t.k,.int .i64 t.i,.int .u32 t.m,.slice ta t.g.length tc]:=by
 have e1:=hn.t;have e2:=hn.k;have e3:=hn.b;have hou':=Zn hou hV;have hr:∀g,(.slice oa xs.length oc:Value).ownBlock=some g→b6+1≤g:=fun g hg'=>(hou.lt g hg').1
 have hlow:∀b,b<u1.heap.size→b≤b6→u2.heap[b]?=u1.heap[b]?:=fun b hb hb6=>(hg.block b (Nat.lt_of_lt_of_le hb hV.size) (fun e=>by have:=hr b e.symm;omega)).trans (hV.block b hb)
 have hstr:∀{v':Value} {n:Nat} {ys:List Value},u1.ownsRow w.heap.size 9 1 v' n ys→u2.ownsRow w.heap.size 9 1 v' n ys:=fun {v' n ys} h=>by
  refine Zx h (fun g hg'=>?_);have hlt:=(h.lt g hg').2;refine(hg.block g (Nat.lt_of_lt_of_le hlt hV.size) (fun e=>?_)).trans (hV.block g hlt);obtain⟨cs,hcs⟩:=Zmb hou (g:=g) e.symm;exact ZnA h hcs (by decide) g hg' rfl
 refine⟨⟨World.rowIs.of_block htu.rl (hlow tb htu.rl.lt (by omega)),htu.set.of_block (hlow kb htu.set.lt (by omega)),htu.ne⟩,World.rowIs.of_block hbx (hlow b6 hbx.lt (Nat.le_refl _)),fun y hy=>?_,?_⟩
 ·rcases List.mem_append.1 hy with h | h
  ·exact hstr (hgi y h)
  ·obtain rfl:=List.mem_singleton.1 h;exact hstr how
 ·have hs:w.heap.size≤u1.heap.size:=hpw.size;refine⟨(hg.os.trans hV.os).trans hpw.os,(hg.tape.trans hV.tape).trans hpw.tape,(hg.output.trans hV.output).trans hpw.output,Nat.le_trans hs (Nat.le_trans hV.size hg.size),fun b hb h1 h2=>?_⟩;exact(hlow b (by omega) (by omega)).trans (hpw.block b hb h1 h2)
theorem ZnB{xs:List SX}{left left':Nat}(x:SX)(h:xs.length+left≤65536)(hl:left'<left):(xs++[x]).length+left'≤65536:=by
 rw[List.length_append,List.length_singleton];omega
theorem Zlh{d:Nat}{l:List XL}{ss:List ByteArray}{left k:Nat}{t:St}{G:List St→Prop}{xs:List SX}{ta:Option Addr}{tc:Nat}{c:St × Bool}(hk:t.i=(k:Int))(hgt:∀ys,Gt d l ss left (t,true) ys→G (xs.map SX.s++ys))(hc:c=ZaL d (ss++t.g) l (Z9 left k)):∀ys,Gt d l (ss++t.g) (Z9 left k) c ys→G ((xs++[SX.mk t ta tc]).map SX.s++ys):=by
 intro ys hy
 have h0:Gt d l (ss++t.g) (Z9 left t.i.toNat) (ZaL d (ss++t.g) l (Z9 left t.i.toNat)) ys:=by
  rw[hk,Int.toNat_natCast,←hc];exact hy
 have h1:=hgt _ (Gt.more ss left t ys h0);rw[List.map_append,List.append_assoc];exact h1
theorem Zli{w:World}{d:Nat}{l:List XL}{tb kb b6:Nat}{v:Value}{ss:List ByteArray}{left:Nat}{u2 u3:World}{xs:List SX}{n:St}{nb:Bool}{a3:Option Addr}{c3:Nat}{oa:Option Addr}{oc:Nat}{G:List St→Prop}{x0 x1 x2 x3:Value}(hn:GtN w tb kb b6)(hu:GtU w tb kb b6 v ss left u2 xs [x0,x1,x2,x3])(ho:u2.ownsRow (b6+1) 84 4 (.slice oa xs.length oc) xs.length (xs.flatMap SX.cells))(hl:left<2^l.length)(hf:Zma d ss l left (n,nb))(hb:Below u2.heap.size u2 u3)(h3:u3.ownsRow u2.heap.size 9 1 (.slice a3 n.g.length c3) n.g.length (n.g.flatMap Zm))(hG:∀ys,Gt d l ss left (n,nb) ys→G (xs.map SX.s++ys))(hlen:xs.length+left≤65536) :
  GtS w d l v tb kb b6 G (st4 u3 b6 n.k n.i n.m (.slice a3 n.g.length c3)) xs oa oc ss left n nb a3 c3:=by
 have e1:=hn.t;have e2:=hn.k;have e3:=hn.b;have hlt:=hu.box.lt;have hbx:=RL.below hu.box hb;have hs3:w.heap.size≤u2.heap.size:=hu.px.size;refine⟨⟨World.rowIs.of_block (RL.below hu.tu.rl hb) (ZaY _ _ _ _ _ _ (by omega)),(hu.tu.set.of_block (hb.block kb hu.tu.set.lt)).of_block (ZaY _ _ _ _ _ _ (by omega)),hu.tu.ne⟩,hl,Za3 hbx _ _ _ _,Zax (Zia h3 b6 hlt _ _ _ _) hs3,Zx (Zn ho hb) (fun g hg=>ZaY _ _ _ _ _ _ (by have:=(ho.lt g hg).1;omega)),fun y hy=>?_,?_,hf,hG,hlen⟩
 ·have h1:=Zn (hu.giv y hy) hb;obtain⟨cs,hcs,_⟩:=hbx;exact Zx h1 (fun g hg=>ZaY _ _ _ _ _ _ (ZnA h1 hcs (by decide) g hg))
 ·have hp:Px tb kb w u3:=hu.px.trans (Px.of_below hb);have hz:(st4 u3 b6 n.k n.i n.m (.slice a3 n.g.length c3)).heap.size=u3.heap.size:=by simp[st4,World.setCell]
  refine⟨hp.os,hp.tape,hp.output,by rw[hz];exact hp.size,fun b hb' h1 h2=>?_⟩;rw[ZaY _ _ _ _ _ _ (by omega)];exact hp.block b hb' h1 h2
theorem ZdE{w:World}{tb kb d:Nat}{v:Value}{ss:List ByteArray}{left:Nat}{l:List XL}(hT:ZbN w tb kb v ss left)(hL:∀u,Px tb kb w u→Lb u v d l)(hB:BdR d l)(hl:left<2^l.length)(hD:∀u,Px tb kb w u→DT u)(hS:∀x∈l,∀k ss,∀y∈(stM d ss x.x k).g,y.size≤maxLen)(first:Int)(hf:first = -1∨Zbu left first=true) :
  Calls Tryz.prog 32 #[.pointer (some ⟨tb,0,none⟩),.int .i64 first] w fun e w'=>Px tb kb w w'∧∃(xs:List SX) (a:Option Addr) (c:Nat),e=.returned (.slice a xs.length c)∧Gt d l ss left (ZaH d ss l left first) (xs.map SX.s)∧w'.ownsRow w.heap.size 84 4 (.slice a xs.length c) xs.length (xs.flatMap SX.cells)∧∀y∈xs,w'.ownsRow w.heap.size 9 1 (.slice y.a y.s.g.length y.c) y.s.g.length (y.s.g.flatMap Zm):=by
 have P0:Px tb kb w w:=Px.of_below (Below.refl _ _);have HT:=Lib.hid hT;have HL:=Lib.hid hL;have HB:=Lib.hid hB;have HLT:=Lib.hid hl;have HDT:=Lib.hid hD;have HZ:=Lib.hid hS;have HF:=Lib.hid hf;have HNX:=Lib.hid (ZfW hT (hL _ P0) hB hl (hD _ P0));clear hT hL hB hl hD hS hf P0;go_enter Tryz.func32,Tryz.ntmps32;go_wp2_with fail;refine HNX.out.mono ?_;rintro e w1 ⟨b1,a1,c1,rfl,hown⟩;have HQ:=Lib.hid (Zdu d ss l left)
 obtain⟨nx,hnx⟩:∃nx,nx=ZaL d ss l left:=⟨_,rfl⟩;rw[←hnx]at HQ hown⊢;have HNE:=Lib.hid hnx;clear hnx HNX;obtain⟨⟨tk,ti,tm,tg⟩,tf⟩:=nx;unfold St.val;simp only at hown⊢;have HB1:=Lib.hid b1;have HO1:=Lib.hid hown;have HRB:=Lib.hid (Zk w1 #[.int .i8 tk,.int .i64 ti,.int .u32 tm,.slice a1 tg.length c1] 84);have HBV:Hid (Below w1.heap.size w1 (w1.alloc (.cells #[.int .i8 tk,.int .i64 ti,.int .u32 tm,.slice a1 tg.length c1] 84))):=Zp _
 clear b1 hown
 by_cases hfi:first = -1
 ·have dfi:(first != -1)=false:=by rw[hfi];rfl
  have HFM:Hid (ZaH d ss l left first=(⟨tk,ti,tm,tg⟩,tf)):=by
   show _=_;unfold ZaH;rw[if_pos hfi,HNE.out]
  have HGS:Hid (GtS w d l v tb kb w1.heap.size (Gt d l ss left (ZaH d ss l left first)) (w1.alloc (.cells #[.int .i8 tk,.int .i64 ti,.int .u32 tm,.slice a1 tg.length c1] 84)) [] none 0 ss left ⟨tk,ti,tm,tg⟩ tf a1 c1):=GtS.start (HB1.out.trans (HBV.out.mono HB1.out.size)) HT.out HLT.out HB.out.bn HRB.out (Zn HO1.out HBV.out) HQ.out (fun ys hy=>by rw[HFM.out];exact hy);have HN:Hid (GtN w tb kb w1.heap.size):=⟨HT.out.rl.lt,HT.out.set.lt,HB1.out.size⟩
  clear hfi HRB HBV HO1;go_wp2;go_loopw [5,7] (fun o ok wr=>∃(xs:List SX) (oa:Option Addr) (oc:Nat) (ss':List ByteArray) (left':Nat) (t:St) (b:Bool) (ta:Option Addr) (tc:Nat),o=.slice oa xs.length oc∧ok=.bool b∧Hid (GtS w d l v tb kb w1.heap.size (Gt d l ss left (ZaH d ss l left first)) wr xs oa oc ss' left' t b ta tc)) (fun _ _ wr=>Zc3 tb wr)
  case atStart=>exact⟨[],none,0,ss,left,_,_,_,_,rfl,rfl,HGS⟩
  case round=>
   clear HGS;obtain⟨xs,oa,oc,ss',left',t,b,ta,tc,rfl,rfl,HS⟩:=hrel
   cases b
   ·go_wp2;go_ret;have hs:=HS.out;have hG:=hs.gt [] (Gt.done _ _ _);rw[List.append_nil]at hG;exact⟨hs.px,xs,oa,oc,rfl,hG,Zax hs.out (Nat.le_trans HN.out.b (Nat.le_succ _)),hs.giv⟩
   ·obtain⟨hbt,htq⟩:=HS.out.fit rfl;obtain⟨h0,hi⟩:=ZcH HS.out.lt hbt;obtain⟨tk',ti',tm',tg'⟩:=t;simp only at hbt htq h0 hi;obtain⟨k',rfl⟩:∃k':Nat,ti'=(k':Int):=⟨ti'.toNat,by omega⟩;rw[Int.toNat_natCast]at hi htq;have HTQ:=Lib.hid htq
    have HBT:Hid (left'.testBit k'=true):=by
     unfold Zbu at hbt;simp only[Bool.and_eq_true,decide_eq_true_eq,Int.toNat_natCast]at hbt;exact hbt.2
    have hbn:=HB.out.bn;have h32:left'<4294967296:=Nat.lt_of_lt_of_le HS.out.lt (Nat.le_trans (Nat.pow_le_pow_right (by omega) hbn) (by decide));have l6:=ZG HS.out.box
    have HNW:Zjd ss' tg':=by
     have:=Zid d ss' (atL l k').x k';rw[show stM d ss' (atL l k').x k'=stL d ss' l k' from rfl,←htq]at this;exact this
    have HSZ:∀y∈tg',y.size≤maxLen:=by
     have:=HZ.out (atL l k') (by rw[ZS hi];exact List.getElem_mem hi) k' ss';rw[show stM d ss' (atL l k').x k'=stL d ss' l k' from rfl,←htq]at this;exact this
    have HGL:tg'.length≤1048576:=by
     have:=ZfZ d ss' (atL l k').x k' (HB.out.bc k' hi) (HB.out.bl k' hi) (HB.out.br k' hi);rw[show stM d ss' (atL l k').x k'=stL d ss' l k' from rfl,←htq]at this;exact this
    have HTA:=Lib.hid (Zf3 (B:=w.heap.size) HS.out.tu ⟨tk',(k':Int),tm',tg'⟩ (a:=ta) (c:=tc) (k:=k') rfl (by omega) h32 HS.out.own HN.out.t HN.out.k (ZnH HSZ) HNW HGL);unfold St.val at HTA;simp only at HTA;have HCL:Hid (Z9 left' k'<left'):=Zlg (by omega) HBT.out;have hxl:xs.length≤65536:=by have:=HS.out.len;omega
    clear hbt htq h0 hi HNW HSZ HGL h32;go_wp2_with fail;refine HTA.out.mono ?_;rintro e u1 ⟨⟨y,rfl⟩,htu,hpx⟩;obtain⟨hbx,how,hou,hgi,hpw⟩:=HS.out.taken HN.out hpx;have l7:=ZG hbx;have hsl:=Zg9 tk' (k':Int) tm' ta tg'.length tc u1;have HLE:Hid (Zc3 tb wr=left'):=Zdv HS.out.tu;obtain⟨a6,c6,u2,hap,how2,hgr⟩:=Zg8 ⟨⟨tk',(k':Int),tm',tg'⟩,ta,tc⟩ hou (by have:=hbx.lt;omega) (by omega)
    have HAL:=Lib.hid (Zp (w:=u1) (.cells #[.int .i8 tk',.int .i64 (k':Int),.int .u32 tm',.slice ta tg'.length tc] 84));have HU:=Lib.hid (Zha HN.out hbx how hou hgi hpw htu HAL.out hgr);have HO2:=Lib.hid how2;have HGT:=Lib.hid HS.out.gt;have HLN:=Lib.hid HS.out.len;have HLL:Hid (Z9 left' k'<2^l.length):=Nat.lt_trans HCL.out HS.out.lt;clear HTA l6 how hou hgi hpw htu hpx hbx how2 hgr HS
    simp only at hap;have HNY:=Lib.hid (ZfW HU.out.tu (HL.out _ HU.out.px) HB.out HLL.out (HDT.out _ HU.out.px));have HFT:=Lib.hid (Zdu d (ss'++tg') l (Z9 left' k'));obtain⟨ny,hny⟩:∃ny,ny=ZaL d (ss'++tg') l (Z9 left' k'):=⟨_,rfl⟩;rw[←hny]at HFT HNY;have HNYE:=Lib.hid hny;clear hny;obtain⟨⟨nk,ni,nm,ng⟩,nb⟩:=ny;unfold St.val at HNY;simp only at HNY;go_wp2_with fail;refine HNY.out.mono ?_
    rintro e u3 ⟨b3,a3,c3,rfl,hown3⟩;have HBX3:=Lib.hid (RL.below HU.out.box b3);have z0:=RL.at HBX3.out (j:=0) rfl;have z1:=RL.at HBX3.out (j:=1) rfl;have z2:=RL.at HBX3.out (j:=2) rfl;have z3:=RL.at HBX3.out (j:=3) rfl;have y0:=World.rowIs.frozen HBX3.out 0;have y1:=World.rowIs.frozen HBX3.out 1;have y2:=World.rowIs.frozen HBX3.out 2;have y3:=World.rowIs.frozen HBX3.out 3;have HGM:=Lib.hid (Zlh (ta:=ta) (tc:=tc) (t:=⟨tk',(k':Int),tm',tg'⟩) (k:=k') rfl HGT.out HNYE.out)
    have HLM:Hid ((xs++[SX.mk ⟨tk',(k':Int),tm',tg'⟩ ta tc]).length+Z9 left' k'≤65536):=ZnB _ HLN.out HCL.out
    have hns:(GtS w d l v tb kb w1.heap.size (Gt d l ss left (ZaH d ss l left first)) (st4 u3 w1.heap.size nk ni nm (.slice a3 ng.length c3)) (xs++[⟨⟨tk',(k':Int),tm',tg'⟩,ta,tc⟩]) a6 c6 (ss'++tg') (Z9 left' k') ⟨nk,ni,nm,ng⟩ nb a3 c3):=
     Zli (n:=⟨nk,ni,nm,ng⟩) (nb:=nb) (xs:=xs++[⟨⟨tk',(k':Int),tm',tg'⟩,ta,tc⟩]) (left:=Z9 left' k') (ss:=ss'++tg') HN.out HU.out HO2.out HLL.out HFT.out b3 hown3 HGM.out HLM.out
    have HNS:=Lib.hid hns;clear hns
    have HML:Hid (Zc3 tb (st4 u3 w1.heap.size nk ni nm (.slice a3 ng.length c3))<left'):=by
     show _<_;rw[Zdv HNS.out.tu];exact HCL.out
    unfold st4 at HNS HML;clear HNY b3 hown3 HBX3 HU HO2 HGT HLN HLL HFT hap hsl l7;go_wp2;go_roundw
    case rel=>exact⟨_,a6,c6,ss'++tg',Z9 left' k',⟨nk,ni,nm,ng⟩,nb,a3,c3,by rw[List.length_append];rfl,rfl,HNS⟩
    case measure=>
     have h1:=HML.out;have h2:=HLE.out;rw[h2];exact h1
 ·have dfi:(first != -1)=true:=by rw[bne_iff_ne];exact hfi
  have hfb:Zbu left first=true:=by
   rcases HF.out with h | h
   ·exact absurd h hfi
   ·exact h
  obtain⟨h0,hi⟩:=ZcH HLT.out hfb;obtain⟨k,rfl⟩:∃k:Nat,first=(k:Int):=⟨first.toNat,by omega⟩
  rw[Int.toNat_natCast]at hi;have HP1:Hid (Px tb kb w (w1.alloc (.cells #[.int .i8 tk,.int .i64 ti,.int .u32 tm,.slice a1 tg.length c1] 84))):=Px.of_below (HB1.out.trans (HBV.out.mono HB1.out.size))
  have HT1:Hid (ZbN (w1.alloc (.cells #[.int .i8 tk,.int .i64 ti,.int .u32 tm,.slice a1 tg.length c1] 84)) tb kb v ss left):=by
   have hb:=HB1.out.trans (HBV.out.mono HB1.out.size);exact⟨RL.below HT.out.rl hb,HT.out.set.of_block (hb.block kb HT.out.set.lt),HT.out.ne⟩
  have HST:=Lib.hid (Zeg HT1.out (HL.out _ HP1.out) hi HB.out.bn (HB.out.bc k hi) (HB.out.bl k hi) (HB.out.br k hi))
  have HFM:Hid (ZaH d ss l left (k:Int)=(stL d ss l k,(stL d ss l k).k != 0)):=by
   show _=_;unfold ZaH;rw[if_neg hfi,Int.toNat_natCast]
  have HQ2:=Lib.hid (Zko d ss l left (k:Int) (.inr hfb));clear hfi hfb h0 hi HF;rw[HFM.out]at HQ2;obtain⟨t2,ht2⟩:∃t2,t2=stL d ss l k:=⟨_,rfl⟩;rw[←ht2]at HST HFM HQ2;clear ht2;obtain⟨tk2,ti2,tm2,tg2⟩:=t2;unfold St.val at HST;simp only at HST HFM HQ2;go_wp2_with fail;refine HST.out.mono ?_;rintro e w2 ⟨b2,a2,c2,rfl,hown2⟩;have HRX:=Lib.hid (RL.below HRB.out b2);have HBW:Hid (Below w.heap.size w w2):=(HB1.out.trans (HBV.out.mono HB1.out.size)).trans (b2.mono (Nat.le_trans HB1.out.size HBV.out.size))
  have z0:=RL.at HRX.out (j:=0) rfl;have z1:=RL.at HRX.out (j:=1) rfl;have z2:=RL.at HRX.out (j:=2) rfl;have z3:=RL.at HRX.out (j:=3) rfl;have y0:=World.rowIs.frozen HRX.out 0;have y1:=World.rowIs.frozen HRX.out 1;have y2:=World.rowIs.frozen HRX.out 2;have y3:=World.rowIs.frozen HRX.out 3;have hlt6:w1.heap.size<(w1.alloc (.cells #[.int .i8 tk,.int .i64 ti,.int .u32 tm,.slice a1 tg.length c1] 84)).heap.size:=by simp
  have HGS:Hid (GtS w d l v tb kb w1.heap.size (Gt d l ss left (ZaH d ss l left (k:Int))) (st4 w2 w1.heap.size tk2 ti2 tm2 (.slice a2 tg2.length c2)) [] none 0 ss left ⟨tk2,ti2,tm2,tg2⟩ (tk2 != 0) a2 c2):=GtS.start (ZW HBW.out HB1.out.size _ _ _ _) HT.out HLT.out HB.out.bn (Za3 HRX.out _ _ _ _) (Zax (Zia hown2 _ hlt6 _ _ _ _) (Nat.le_trans HB1.out.size HBV.out.size)) HQ2.out (fun ys hy=>by rw[HFM.out];exact hy)
  have HN:Hid (GtN w tb kb w1.heap.size):=⟨HT.out.rl.lt,HT.out.set.lt,HB1.out.size⟩;unfold st4 at HGS;clear HST b2 hown2 HRX hlt6 HRB HBV HO1;go_wp2;clear z0 z1 z2 z3 y0 y1 y2 y3;go_loopw [5,7] (fun o ok wr=>∃(xs:List SX) (oa:Option Addr) (oc:Nat) (ss':List ByteArray) (left':Nat) (t:St) (b:Bool) (ta:Option Addr) (tc:Nat),o=.slice oa xs.length oc∧ok=.bool b∧Hid (GtS w d l v tb kb w1.heap.size (Gt d l ss left (ZaH d ss l left (k:Int))) wr xs oa oc ss' left' t b ta tc)) (fun _ _ wr=>Zc3 tb wr)
  case atStart=>exact⟨[],none,0,ss,left,_,_,_,_,rfl,rfl,HGS⟩
  case round=>
   clear HGS;obtain⟨xs,oa,oc,ss',left',t,b,ta,tc,rfl,rfl,HS⟩:=hrel
   cases b
   ·go_wp2;go_ret;have hs:=HS.out;have hG:=hs.gt [] (Gt.done _ _ _);rw[List.append_nil]at hG;exact⟨hs.px,xs,oa,oc,rfl,hG,Zax hs.out (Nat.le_trans HN.out.b (Nat.le_succ _)),hs.giv⟩
   ·obtain⟨hbt,htq⟩:=HS.out.fit rfl;obtain⟨h0,hi⟩:=ZcH HS.out.lt hbt;obtain⟨tk',ti',tm',tg'⟩:=t;simp only at hbt htq h0 hi;obtain⟨k',rfl⟩:∃k':Nat,ti'=(k':Int):=⟨ti'.toNat,by omega⟩;rw[Int.toNat_natCast]at hi htq;have HTQ:=Lib.hid htq
    have HBT:Hid (left'.testBit k'=true):=by
     unfold Zbu at hbt;simp only[Bool.and_eq_true,decide_eq_true_eq,Int.toNat_natCast]at hbt;exact hbt.2
    have hbn:=HB.out.bn;have h32:left'<4294967296:=Nat.lt_of_lt_of_le HS.out.lt (Nat.le_trans (Nat.pow_le_pow_right (by omega) hbn) (by decide));have l6:=ZG HS.out.box
    have HNW:Zjd ss' tg':=by
     have:=Zid d ss' (atL l k').x k';rw[show stM d ss' (atL l k').x k'=stL d ss' l k' from rfl,←htq]at this;exact this
    have HSZ:∀y∈tg',y.size≤maxLen:=by
     have:=HZ.out (atL l k') (by rw[ZS hi];exact List.getElem_mem hi) k' ss';rw[show stM d ss' (atL l k').x k'=stL d ss' l k' from rfl,←htq]at this;exact this
    have HGL:tg'.length≤1048576:=by
     have:=ZfZ d ss' (atL l k').x k' (HB.out.bc k' hi) (HB.out.bl k' hi) (HB.out.br k' hi);rw[show stM d ss' (atL l k').x k'=stL d ss' l k' from rfl,←htq]at this;exact this
    have HTA:=Lib.hid (Zf3 (B:=w.heap.size) HS.out.tu ⟨tk',(k':Int),tm',tg'⟩ (a:=ta) (c:=tc) (k:=k') rfl (by omega) h32 HS.out.own HN.out.t HN.out.k (ZnH HSZ) HNW HGL);unfold St.val at HTA;simp only at HTA;have HCL:Hid (Z9 left' k'<left'):=Zlg (by omega) HBT.out;have hxl:xs.length≤65536:=by have:=HS.out.len;omega
    clear hbt htq h0 hi HNW HSZ HGL h32;go_wp2_with fail;refine HTA.out.mono ?_;rintro e u1 ⟨⟨y,rfl⟩,htu,hpx⟩;obtain⟨hbx,how,hou,hgi,hpw⟩:=HS.out.taken HN.out hpx;have l7:=ZG hbx;have hsl:=Zg9 tk' (k':Int) tm' ta tg'.length tc u1;have HLE:Hid (Zc3 tb wr=left'):=Zdv HS.out.tu;obtain⟨a6,c6,u2,hap,how2,hgr⟩:=Zg8 ⟨⟨tk',(k':Int),tm',tg'⟩,ta,tc⟩ hou (by have:=hbx.lt;omega) (by omega)
    have HAL:=Lib.hid (Zp (w:=u1) (.cells #[.int .i8 tk',.int .i64 (k':Int),.int .u32 tm',.slice ta tg'.length tc] 84));have HU:=Lib.hid (Zha HN.out hbx how hou hgi hpw htu HAL.out hgr);have HO2:=Lib.hid how2;have HGT:=Lib.hid HS.out.gt;have HLN:=Lib.hid HS.out.len;have HLL:Hid (Z9 left' k'<2^l.length):=Nat.lt_trans HCL.out HS.out.lt;clear HTA l6 how hou hgi hpw htu hpx hbx how2 hgr HS
    simp only at hap;have HNY:=Lib.hid (ZfW HU.out.tu (HL.out _ HU.out.px) HB.out HLL.out (HDT.out _ HU.out.px));have HFT:=Lib.hid (Zdu d (ss'++tg') l (Z9 left' k'));obtain⟨ny,hny⟩:∃ny,ny=ZaL d (ss'++tg') l (Z9 left' k'):=⟨_,rfl⟩;rw[←hny]at HFT HNY;have HNYE:=Lib.hid hny;clear hny;obtain⟨⟨nk,ni,nm,ng⟩,nb⟩:=ny;unfold St.val at HNY;simp only at HNY;go_wp2_with fail;refine HNY.out.mono ?_
    rintro e u3 ⟨b3,a3,c3,rfl,hown3⟩;have HBX3:=Lib.hid (RL.below HU.out.box b3);have z0:=RL.at HBX3.out (j:=0) rfl;have z1:=RL.at HBX3.out (j:=1) rfl;have z2:=RL.at HBX3.out (j:=2) rfl;have z3:=RL.at HBX3.out (j:=3) rfl;have y0:=World.rowIs.frozen HBX3.out 0;have y1:=World.rowIs.frozen HBX3.out 1;have y2:=World.rowIs.frozen HBX3.out 2;have y3:=World.rowIs.frozen HBX3.out 3;have HGM:=Lib.hid (Zlh (ta:=ta) (tc:=tc) (t:=⟨tk',(k':Int),tm',tg'⟩) (k:=k') rfl HGT.out HNYE.out)
    have HLM:Hid ((xs++[SX.mk ⟨tk',(k':Int),tm',tg'⟩ ta tc]).length+Z9 left' k'≤65536):=ZnB _ HLN.out HCL.out
    have hns:(GtS w d l v tb kb w1.heap.size (Gt d l ss left (ZaH d ss l left (k:Int))) (st4 u3 w1.heap.size nk ni nm (.slice a3 ng.length c3)) (xs++[⟨⟨tk',(k':Int),tm',tg'⟩,ta,tc⟩]) a6 c6 (ss'++tg') (Z9 left' k') ⟨nk,ni,nm,ng⟩ nb a3 c3):=
     Zli (n:=⟨nk,ni,nm,ng⟩) (nb:=nb) (xs:=xs++[⟨⟨tk',(k':Int),tm',tg'⟩,ta,tc⟩]) (left:=Z9 left' k') (ss:=ss'++tg') HN.out HU.out HO2.out HLL.out HFT.out b3 hown3 HGM.out HLM.out
    have HNS:=Lib.hid hns;clear hns
    have HML:Hid (Zc3 tb (st4 u3 w1.heap.size nk ni nm (.slice a3 ng.length c3))<left'):=by
     show _<_;rw[Zdv HNS.out.tu];exact HCL.out
    unfold st4 at HNS HML;clear HNY b3 hown3 HBX3 HU HO2 HGT HLN HLL HFT hap hsl l7;go_wp2;go_roundw
    case rel=>exact⟨_,a6,c6,ss'++tg',Z9 left' k',⟨nk,ni,nm,ng⟩,nb,a3,c3,by rw[List.length_append];rfl,rfl,HNS⟩
    case measure=>
     have h1:=HML.out;have h2:=HLE.out;rw[h2];exact h1
end
section
open Go.RowKit Go.Maps
attribute [local go_sem ↓] Go.wp_at_zero Go.wp_at_succ
theorem ZkR{s:List P}(hs:∀p∈s,p.wf){t:T}(ht:t.wf):(res s t).wf:=by
 unfold res
 cases hf:s.find? (fun p=>decide (p.v=t.v))with
 | none=>exact ht
 | some p=>exact(hs p (List.mem_of_find?_eq_some hf)).term
end
section
open Go.RowKit Go.Maps Go.ChangeMaps
attribute [local go_sem ↓] Go.wp_at_zero Go.wp_at_succ
def ZjY(p:P):Value × Value:=(.string p.v,p.t.val)
def MapT(w:World)(b:Nat)(s:List P):Prop:=
 ∃es clock,w.heap[b]?=some (.map es clock)∧es.toList.map (fun e=>(e.key,e.val))=s.map ZjY∧∀p∈s,p.v.size≤maxLen
theorem MapT.lt{w:World}{b:Nat}{s:List P}(h:MapT w b s):b<w.heap.size:=by
 obtain⟨es,c,hb,_⟩:=h;exact(Array.getElem?_eq_some_iff.1 hb).1
theorem MapT.of_block{w w':World}{b:Nat}{s:List P}(h:MapT w b s)(e:w'.heap[b]?=w.heap[b]?):MapT w' b s:=by
 obtain⟨es,c,hb,r⟩:=h;exact⟨es,c,e.trans hb,r⟩
theorem MapT.below{w w':World}{b:Nat}{s:List P}(h:MapT w b s)(hb:Below w.heap.size w w'):MapT w' b s:=h.of_block (hb.block b h.lt)
theorem MapT.made(w:World):MapT (w.alloc (.map #[] 0)) w.heap.size []:=⟨#[],0,heap_alloc_new w _,rfl,by simp⟩
theorem Zfu{es:Array MapEntry}{s:List P}(h:es.toList.map (fun e=>(e.key,e.val))=s.map ZjY){j:Nat}{e:MapEntry}(hj:es.toList[j]?=some e) :
  ∃p,s[j]?=some p∧e.key=.string p.v∧e.val=p.t.val:=by
 have h1:=congrArg (fun l=>l[j]?) h;simp only[List.getElem?_map,hj,Option.map_some]at h1;obtain⟨p,hp,he⟩:=Option.map_eq_some_iff.1 h1.symm;simp only[ZjY,Prod.mk.injEq]at he;exact⟨p,hp,he.1.symm,he.2.symm⟩
theorem Zfv{es:Array MapEntry}{s:List P}(h:es.toList.map (fun e=>(e.key,e.val))=s.map ZjY)(hw:∀p∈s,p.v.size≤maxLen):∀e∈es.toList,∃l,keyOf Tryz.prog 9 e.key=some l:=by
 intro e he;obtain⟨j,hj⟩:=List.getElem?_of_mem he;obtain⟨p,hp,hk,_⟩:=Zfu h hj;rw[hk];exact⟨_,Zba _ (hw p (List.mem_of_getElem? hp))⟩
theorem Zm9{es:Array MapEntry}{s:List P}(h:es.toList.map (fun e=>(e.key,e.val))=s.map ZjY){n:ByteArray}(hn:∀e∈es.toList,e.key≠.string n):∀p∈s,p.v≠n:=by
 intro p hp e;obtain⟨j,hj⟩:=List.getElem?_of_mem hp;have h1:=congrArg (fun l=>l[j]?) h;simp only[List.getElem?_map,hj,Option.map_some]at h1;obtain⟨x,hx,he⟩:=Option.map_eq_some_iff.1 h1;simp only[ZjY,Prod.mk.injEq]at he;exact hn x (List.mem_of_getElem? hx) (by rw[he.1,e])
theorem ZpS(w:World):(zeroValue 100).run Tryz.prog w=.ok (.agg #[.string ⟨#[]⟩,.int .i8 0,.int .i64 0,.string ⟨#[]⟩]) w:=by kernel_rfl
def Zfw(s:List P)(n:ByteArray):Value:=match s.find? (fun p=>decide (p.v=n))with
 | some p=>.tuple #[p.t.val,.bool true]
 | none=>.tuple #[.agg #[.string ⟨#[]⟩,.int .i8 0,.int .i64 0,.string ⟨#[]⟩],.bool false]
theorem ZiK{s:List P}{n:ByteArray}(h:∀p∈s,p.v≠n):Zfw s n=.tuple #[.agg #[.string ⟨#[]⟩,.int .i8 0,.int .i64 0,.string ⟨#[]⟩],.bool false]:=by
 unfold Zfw;rw[List.find?_eq_none.2 (fun p hp=>by simpa using h p hp)]
theorem MapT.look{w:World}{b:Nat}{s:List P}(h:MapT w b s)(nd:(s.map P.v).Nodup){n:ByteArray}(hn:n.size≤maxLen) :
  (Instr.lookup 158 (.map (some b)) (.string n) true).run Tryz.prog w=.ok (Zfw s n) w:=by
 obtain⟨es,c,hb,hes,hw⟩:=h;have hl:=Zba n hn;rcases Zap.find w hl es.toList (Zfv hes hw)with ⟨h1,h2⟩ | ⟨j,e,h1,h2,h3⟩
 ·rw[ZiK (Zm9 hes h2)];simp[Instr.lookup,run_underlying Tryz.underlying158,MapKept.run_getObj_map hb,Zap.check w _ hl,h1,Result.andThen,ZpS]
 ·obtain⟨p,hp,hk,hval⟩:=Zfu hes h2
  have e:p.v=n:=by
   have:=hk.symm.trans h3
   injection this
  have hf:s.find? (fun p=>decide (p.v=n))=some p:=by
   cases hf:s.find? (fun p=>decide (p.v=n))with
   | none=>exact absurd e (by simpa using List.find?_eq_none.1 hf p (List.mem_of_getElem? hp))
   | some q=>
    have hq:q.v=n:=by simpa using List.find?_some hf
    obtain⟨i,hi⟩:=List.getElem?_of_mem (List.mem_of_find?_eq_some hf);have e1:(s.map P.v)[i]?=some n:=by rw[List.getElem?_map,hi,←hq];rfl
    have e2:(s.map P.v)[j]?=some n:=by rw[List.getElem?_map,hp,←e];rfl
    obtain⟨i1,i2⟩:=List.getElem?_eq_some_iff.1 e1;obtain⟨j1,j2⟩:=List.getElem?_eq_some_iff.1 e2;have nd':=List.pairwise_iff_getElem.1 nd
    have:i=j:=by
     rcases Nat.lt_trichotomy i j with h | h | h
     ·exact absurd (i2.trans j2.symm) (nd' i j i1 j1 h)
     ·exact h
     ·exact absurd (j2.trans i2.symm) (nd' j i j1 i1 h)
    rw[this,hp]at hi;rw[Option.some.inj hi]
  unfold Zfw;rw[hf];simp[Instr.lookup,run_underlying Tryz.underlying158,MapKept.run_getObj_map hb,Zap.check w _ hl,h1,hval,Result.andThen]
theorem MapT.put{w:World}{b:Nat}{s:List P}(h:MapT w b s){p:P}(hs:p.v.size≤maxLen)(hn:∀q∈s,q.v≠p.v) :
  ∃w',(Instr.mapUpdate 158 (.map (some b)) (.string p.v) p.t.val).run Tryz.prog w=.ok () w'∧MapT w' b (s++[p])∧w.mapTurned w' b:=by
 obtain⟨es,c,hb,hes,hw⟩:=h;have hl:=Zba p.v hs;rcases Zap.find w hl es.toList (Zfv hes hw)with ⟨h1,h2⟩ | ⟨j,e,h1,h2,h3⟩
 ·refine⟨setBlock w b (.map (es.push ⟨.string p.v,p.t.val,c⟩) (c+1)),by simp[Instr.mapUpdate,run_underlying Tryz.underlying158,MapKept.run_getObj_map hb,Zap.check w false hl,h1,MapKept.run_setObj_map _ hb,Result.andThen,setBlock],⟨_,_,heap_setBlock_same hb _,by simp[hes,ZjY],?_⟩,?_⟩
  ·intro q hq;rcases List.mem_append.1 hq with hq | hq
   ·exact hw q hq
   ·simp at hq;subst hq;exact hs
  ·exact⟨es,c,_,_,hb,rfl⟩
 ·obtain⟨q,hp,hk,hval⟩:=Zfu hes h2;refine absurd ?_ (hn q (List.mem_of_getElem? hp));have:=hk.symm.trans h3
  injection this
end
end Go.Proofs.YtjdnpgpbeppgjaaGreatDoor
