import Derived.WalkKit
import Derived.Below
import Derived.Lib.Strings
import Derived.Lib.Small
import Derived.Lib.Bytealg
import Derived.Laws.Strings
import Derived.Test.YtjdnpgpbeppgjaaGreatDoorProg
import Derived.WalkSpells
import Derived.WalkLawsBesides
import Derived.Deep.RegionHeld3
import Derived.Deep.DrawnRows
import Derived.Deep.Light
import Derived.Lib.Slices
import Derived.Lib.Walk
import Derived.Deep.OwnRows
import Derived.Deep.QuietTactic
import Derived.BigQuiet
import Derived.Maps.AppendAt
import Derived.OwnWalk
import Derived.Deep.RegionLaw
import Derived.Laws.OwnMore
import Derived.Laws.BytesString
import Derived.Laws.Cells
import Derived.Lib.UnsafeStr
set_option linter.unusedSimpArgs false
set_option linter.unusedVariables false
set_option maxHeartbeats 1600000
set_option maxRecDepth 100000
namespace Go.Proofs.YtjdnpgpbeppgjaaGreatDoor
section
open Go.RowKit
def chk(k n:Int)(s:ByteArray):Int:=
 if k=1∧s.toList=[]∨k=2∧n=0∧(s.size:Int)≤200 then 0 else 10
theorem Zns{k n:Int}{s:ByteArray}(h:k=1∧s.toList=[]∨k=2∧n=0∧(s.size:Int)≤200):0=chk k n s:=(if_pos h).symm
theorem Zh3{k n:Int}{s:ByteArray}(h:¬ (k=1∧s.toList=[]∨k=2∧n=0∧(s.size:Int)≤200)):10=chk k n s:=(if_neg h).symm
theorem Zdr{k:IntKind}{a b:Int}(h:a=b):Ending.returned (.int k a)=.returned (.int k b):=by rw[h]
theorem Ze{a b:Bool}(h:a=b):Ending.returned (.bool a)=.returned (.bool b):=by rw[h]
theorem Zd2(k n:Int)(s:ByteArray)(w:World)(hs:s.size≤maxLen) :
  Calls Tryz.prog 320 #[.agg #[.int .i8 k,.int .i64 n,.string s]] w fun e w'=>e=.returned (.int .i64 (chk k n s))∧Below w.heap.size w w':=by
 unfold maxLen at hs;go_enter Tryz.func320,Tryz.ntmps320;go_wp2
 all_goals
  go_ret;refine⟨Zdr ?_,(Below.refl _ _).alloc (Nat.le_refl _) _⟩
  skip
  first
   | (refine Zns ?_;simp_all;done)
   | (refine Zh3 ?_;simp_all;done)
   | (refine Zh3 ?_;simp_all;omega)
   | (exfalso;simp_all;done)
theorem Zk4(k n:Int)(s:ByteArray)(w:World)(hs:s.size≤maxLen) :
  Calls Tryz.prog 333 #[.agg #[.int .i8 k,.int .i64 n,.string s]] w fun e w'=>e=.returned (.int .i64 (chk k n s))∧Below w.heap.size w w':=by
 unfold maxLen at hs;go_enter Tryz.func333,Tryz.ntmps333;go_wp2
 all_goals
  go_ret;refine⟨Zdr ?_,(Below.refl _ _).alloc (Nat.le_refl _) _⟩
  skip
  first
   | (refine Zns ?_;simp_all;done)
   | (refine Zh3 ?_;simp_all;done)
   | (refine Zh3 ?_;simp_all;omega)
   | (exfalso;simp_all;done)
end
section
open Go.RowKit
attribute [local go_sem ↓] Go.wp_at_zero Go.wp_at_succ
def ZaT(c:Int):Bool:=decide (97≤c∧c≤122)
def Zag(c:Int):Bool:=decide (65≤c∧c≤90)
def Zb1(c:Int):Bool:=decide (48≤c∧c≤57)
def Zai(c:Int):Bool:=ZaT c || Zag c || Zb1 c || c==95
def ZfH:List (List UInt8):=[[110,111,116],[99,111,117,110,116],[115,117,109],[109,105,110],[109,97,120],[108,101,110],[99,104,97,114,115],[98,97,99,107]]
def kwB(s:ByteArray):Bool:=decide (s.toList∈ZfH)
def Zbn(s:ByteArray)(k:Nat):Int:=if h:k<s.size then(s[k].toNat:Int)else 0
theorem Zbh{s:ByteArray}{k:Nat}(h:k<s.size):Zbn s k=(s[k].toNat:Int):=dif_pos h
def ZE(s:ByteArray):Nat→Bool
 | 0=>true
 | k+1=>ZE s k&&Zai (Zbn s k)
def Z0(s:ByteArray):Bool:=decide (s.size≠0)&&decide (s.size≤120)&&ZaT (Zbn s 0) && !kwB s&&ZE s s.size
theorem Zds(s:ByteArray):s.toList.isEmpty=decide (s.size=0):=by
 rw[ByteArray.toList_eq,←ByteArray.size_data,←Array.length_toList]
 cases s.data.toList<;>simp
theorem Zbo{s:ByteArray}{k:Nat}(h:Zai (Zbn s k)=false):∀{n:Nat},k<n→ZE s n=false
 | 0,hk=>by omega
 | n+1,hk=>by
  by_cases e:k=n
  ·subst e;simp only[ZE,h,Bool.and_false]
  ·simp only[ZE,Zbo h (n:=n) (by omega),Bool.false_and]
theorem ZaB(c:Int)(w:World):Calls Tryz.prog 340 #[.int .u8 c] w fun e w'=>e=.returned (.bool (ZaT c))∧w'=w:=by
 go_enter Tryz.func340,Tryz.ntmps340;go_wp2
 all_goals
  go_ret;refine⟨Ze ?_,rfl⟩;unfold ZaT
  first | (simp;omega) | simp_all
theorem ZbE(c:Int)(w:World):Calls Tryz.prog 342 #[.int .u8 c] w fun e w'=>e=.returned (.bool (Zag c))∧w'=w:=by
 go_enter Tryz.func342,Tryz.ntmps342;go_wp2
 all_goals
  go_ret;refine⟨Ze ?_,rfl⟩;unfold Zag
  first | (simp;omega) | simp_all
theorem Zc1(c:Int)(w:World):Calls Tryz.prog 343 #[.int .u8 c] w fun e w'=>e=.returned (.bool (Zb1 c))∧w'=w:=by
 go_enter Tryz.func343,Tryz.ntmps343;go_wp2
 all_goals
  go_ret;refine⟨Ze ?_,rfl⟩;unfold Zb1
  first | (simp;omega) | simp_all
theorem ZdD(s:ByteArray)(w:World):Calls Tryz.prog 341 #[.string s] w fun e w'=>e=.returned (.bool (kwB s))∧w'=w:=by
 go_enter Tryz.func341,Tryz.ntmps341;go_wp2
 all_goals
  go_ret;refine⟨Ze ?_,rfl⟩;go_light;unfold kwB ZfH
  simp_all
theorem ZfI(s:ByteArray)(w:World)(hs:s.size≤maxLen):Calls Tryz.prog 322 #[.string s] w fun e w'=>e=.returned (.bool (Z0 s))∧w'=w:=by
 unfold maxLen at hs
 by_cases h0:s.size=0
 ·have he:s.toList.isEmpty=true:=by rw[Zds];simpa using h0
  have HF:Hid (Z0 s=false):=by show Z0 s=false;simp[Z0,h0]
  go_enter Tryz.func322,Tryz.ntmps322;go_wp2;go_ret;exact⟨Ze HF.out.symm,rfl⟩
 ·have he:s.toList.isEmpty=false:=by rw[Zds];simpa using h0
  have hpos:(0:Int)<(s.size:Int):=by omega
  by_cases h1:s.size≤120
  ·have hlt0:0<s.size:=by omega
   have hb0:=Zbh hlt0
   have HN:Hid (Z0 s=(ZaT (s[0].toNat:Int) && !kwB s&&ZE s s.size)):=by
    show Z0 s=_;unfold Z0;rw[hb0];simp[h0,h1]
   clear hb0
   cases hsm:ZaT (s[0].toNat:Int)
   ·have HF:Hid (Z0 s=false):=by show Z0 s=false;rw[HN.out,hsm];simp
    go_enter Tryz.func322,Tryz.ntmps322;go_wp2_with (go_at_call 340;refine(ZaB _ _).mono ?_;rintro e w' ⟨rfl,rfl⟩);go_ret;exact⟨Ze HF.out.symm,rfl⟩
   ·cases hkw:kwB s
    ·have HY:Hid (Z0 s=ZE s s.size):=by show Z0 s=_;rw[HN.out,hsm,hkw];simp
     go_enter Tryz.func322,Tryz.ntmps322
     go_wp2_with (first
      | (go_at_call 340;refine(ZaB _ _).mono ?_;rintro e w' ⟨rfl,rfl⟩)
      | (go_at_call 341;refine(ZdD _ _).mono ?_;rintro e w' ⟨rfl,rfl⟩))
     go_loop [24] (fun i=>∃k:Nat,k≤s.size∧i=.int .i64 k∧Hid (ZE s k=true)) (fun i=>s.size-(intOf i).toNat)
     case atStart=>exact⟨0,Nat.zero_le _,rfl,rfl⟩
     case round=>
      obtain⟨k,hk,rfl,HL⟩:=hrel
      by_cases hlt:k<s.size
      ·have HB:Hid (Zbn s k=(s[k].toNat:Int)):=Zbh hlt;have hlt':(k:Int)<(s.size:Int):=by omega
       cases hx:Zai (s[k].toNat:Int)
       ·have HF:Hid (Z0 s=false):=by show Z0 s=false;rw[HY.out];exact Zbo (by rw[HB.out];exact hx) hlt
        unfold Zai at hx;simp only[Bool.or_eq_false_iff]at hx;obtain⟨⟨⟨x1,x2⟩,x3⟩,x4⟩:=hx;have x4':((s[k].toNat:Int) != 95)=true:=by simpa using x4
        clear x4
        go_wp2_with (first
         | (go_at_call 340;refine(ZaB _ _).mono ?_;rintro e w' ⟨rfl,rfl⟩)
         | (go_at_call 342;refine(ZbE _ _).mono ?_;rintro e w' ⟨rfl,rfl⟩)
         | (go_at_call 343;refine(Zc1 _ _).mono ?_;rintro e w' ⟨rfl,rfl⟩))
        go_ret;exact⟨Ze HF.out.symm,rfl⟩
       ·have HS:Hid (ZE s (k+1)=true):=by show ZE s (k+1)=true;simp only[ZE,HL.out,HB.out,hx,Bool.and_self]
        unfold Zai at hx
        cases x1:ZaT (s[k].toNat:Int)
        ·cases x2:Zag (s[k].toNat:Int)
         ·cases x3:Zb1 (s[k].toNat:Int)
          ·have x4:((s[k].toNat:Int) != 95)=false:=by rw[x1,x2,x3]at hx;simpa using hx
           clear hx
           go_wp2_with (first
            | (go_at_call 340;refine(ZaB _ _).mono ?_;rintro e w' ⟨rfl,rfl⟩)
            | (go_at_call 342;refine(ZbE _ _).mono ?_;rintro e w' ⟨rfl,rfl⟩)
            | (go_at_call 343;refine(Zc1 _ _).mono ?_;rintro e w' ⟨rfl,rfl⟩))
           go_round
           case rel=>exact⟨k+1,by omega,by go_num,HS⟩
           case measure=>simp[intOf];omega
          ·clear hx
           go_wp2_with (first
            | (go_at_call 340;refine(ZaB _ _).mono ?_;rintro e w' ⟨rfl,rfl⟩)
            | (go_at_call 342;refine(ZbE _ _).mono ?_;rintro e w' ⟨rfl,rfl⟩)
            | (go_at_call 343;refine(Zc1 _ _).mono ?_;rintro e w' ⟨rfl,rfl⟩))
           go_round
           case rel=>exact⟨k+1,by omega,by go_num,HS⟩
           case measure=>simp[intOf];omega
         ·clear hx
          go_wp2_with (first
           | (go_at_call 340;refine(ZaB _ _).mono ?_;rintro e w' ⟨rfl,rfl⟩)
           | (go_at_call 342;refine(ZbE _ _).mono ?_;rintro e w' ⟨rfl,rfl⟩))
          go_round
          case rel=>exact⟨k+1,by omega,by go_num,HS⟩
          case measure=>simp[intOf];omega
        ·clear hx;go_wp2_with (go_at_call 340;refine(ZaB _ _).mono ?_;rintro e w' ⟨rfl,rfl⟩);go_round
         case rel=>exact⟨k+1,by omega,by go_num,HS⟩
         case measure=>simp[intOf];omega
      ·obtain rfl:k=s.size:=by omega
       go_wp2;go_ret;exact⟨Ze (by rw[HY.out,HL.out]),rfl⟩
    ·have HF:Hid (Z0 s=false):=by show Z0 s=false;rw[HN.out,hkw];simp
     go_enter Tryz.func322,Tryz.ntmps322
     go_wp2_with (first
      | (go_at_call 340;refine(ZaB _ _).mono ?_;rintro e w' ⟨rfl,rfl⟩)
      | (go_at_call 341;refine(ZdD _ _).mono ?_;rintro e w' ⟨rfl,rfl⟩))
     go_ret;exact⟨Ze HF.out.symm,rfl⟩
  ·have HF:Hid (Z0 s=false):=by show Z0 s=false;simp[Z0,h1]
   go_enter Tryz.func322,Tryz.ntmps322;go_wp2;go_ret;exact⟨Ze HF.out.symm,rfl⟩
def ZaR(lo hi:Int)(s:ByteArray):Bool:=decide (s.size≠0)&&decide (s.size≤120)&&decide (lo≤Zbn s 0∧Zbn s 0≤hi)&&ZE s s.size
def Zb7(s:ByteArray):Bool:=ZaR 65 90 s
theorem ZkW(s:ByteArray):Z0 s=(ZaR 97 122 s && !kwB s):=by
 unfold Z0 ZaR ZaT
 cases decide (s.size≠0)<;>cases decide (s.size≤120)<;>cases decide (97≤Zbn s 0∧Zbn s 0≤122)<;>cases kwB s<;>cases ZE s s.size<;>rfl
theorem Zci(c:Int)(w:World):Calls Tryz.prog 349 #[.int .u8 c] w fun e w'=>e=.returned (.bool (ZaT c || Zag c))∧w'=w:=by
 go_enter Tryz.func349,Tryz.ntmps349;go_wp2
 all_goals
  go_ret;refine⟨Ze ?_,rfl⟩;unfold ZaT Zag
  first | (simp;omega;done) | (simp_all;done) | (rw[Bool.eq_iff_iff];simp;omega)
theorem ZcT(c:Int)(w:World):Calls Tryz.prog 350 #[.int .u8 c] w fun e w'=>e=.returned (.bool (Zb1 c))∧w'=w:=by
 go_enter Tryz.func350,Tryz.ntmps350;go_wp2
 all_goals
  go_ret;refine⟨Ze ?_,rfl⟩;unfold Zb1
  first | (simp;omega) | simp_all
theorem Zfc(c:Int)(w:World):Calls Tryz.prog 332 #[.int .u8 c] w fun e w'=>e=.returned (.bool (Zai c))∧w'=w:=by
 go_enter Tryz.func332,Tryz.ntmps332;go_wp2
 all_goals
  go_ret;refine⟨Ze ?_,rfl⟩;unfold Zai ZaT Zag Zb1
  first | (simp;omega;done) | (simp_all;done) | (rw[Bool.eq_iff_iff];simp;omega)
theorem ZkX{c:Int}(h:65≤c∧c≤90):Zai c=true:=by simp[Zai,Zag,h.1,h.2]
theorem Zgt(s:ByteArray)(w:World)(hs:s.size≤maxLen):Calls Tryz.prog 338 #[.string s] w fun e w'=>e=.returned (.bool (Zb7 s))∧w'=w:=by
 unfold maxLen at hs
 by_cases h0:s.size=0
 ·have he:s.toList.isEmpty=true:=by rw[Zds];simpa using h0
  have HF:Hid (Zb7 s=false):=by show Zb7 s=false;simp[Zb7,ZaR,h0]
  go_enter Tryz.func338,Tryz.ntmps338;go_wp2;go_ret;exact⟨Ze HF.out.symm,rfl⟩
 ·have he:s.toList.isEmpty=false:=by rw[Zds];simpa using h0
  have hpos:(0:Int)<(s.size:Int):=by omega
  by_cases h1:s.size≤120
  ·have hlt0:0<s.size:=by omega
   have hb0:=Zbh hlt0
   have HN:Hid (Zb7 s=(decide (65≤(s[0].toNat:Int)∧(s[0].toNat:Int)≤90)&&ZE s s.size)):=by
    show Zb7 s=_;unfold Zb7 ZaR;rw[hb0];simp[h0,h1]
   clear hb0
   by_cases hcp:65≤(s[0].toNat:Int)∧(s[0].toNat:Int)≤90
   ·have HY:Hid (Zb7 s=ZE s s.size):=by show Zb7 s=_;rw[HN.out,decide_eq_true hcp];simp
    obtain⟨hc1,hc2⟩:=hcp;go_enter Tryz.func338,Tryz.ntmps338;go_wp2;go_loop [23] (fun i=>∃k:Nat,k≤s.size∧i=.int .i64 k∧Hid (ZE s k=true)) (fun i=>s.size-(intOf i).toNat)
    case atStart=>exact⟨0,Nat.zero_le _,rfl,rfl⟩
    case round=>
     obtain⟨k,hk,rfl,HL⟩:=hrel
     by_cases hlt:k<s.size
     ·have HB:Hid (Zbn s k=(s[k].toNat:Int)):=Zbh hlt;have hlt':(k:Int)<(s.size:Int):=by omega
      cases hx:Zai (s[k].toNat:Int)
      ·have HF:Hid (Zb7 s=false):=by show Zb7 s=false;rw[HY.out];exact Zbo (by rw[HB.out];exact hx) hlt
       unfold Zai at hx;simp only[Bool.or_eq_false_iff]at hx;obtain⟨⟨⟨x1,x2⟩,x3⟩,x4⟩:=hx;have x12:(ZaT (s[k].toNat:Int) || Zag (s[k].toNat:Int))=false:=by rw[x1,x2];rfl
       have x4':((s[k].toNat:Int) != 95)=true:=by simpa using x4
       clear x4
       go_wp2_with (first
         | (go_at_call 349;refine(Zci _ _).mono ?_;rintro e w' ⟨rfl,rfl⟩)
         | (go_at_call 350;refine(ZcT _ _).mono ?_;rintro e w' ⟨rfl,rfl⟩))
       go_ret;exact⟨Ze HF.out.symm,rfl⟩
      ·have HS:Hid (ZE s (k+1)=true):=by show ZE s (k+1)=true;simp only[ZE,HL.out,HB.out,hx,Bool.and_self]
       unfold Zai at hx
       cases x12:(ZaT (s[k].toNat:Int) || Zag (s[k].toNat:Int))
       ·cases x3:Zb1 (s[k].toNat:Int)
        ·have x4:((s[k].toNat:Int) != 95)=false:=by rw[x12,x3]at hx;simpa using hx
         clear hx;go_wp2_with (first
         | (go_at_call 349;refine(Zci _ _).mono ?_;rintro e w' ⟨rfl,rfl⟩)
         | (go_at_call 350;refine(ZcT _ _).mono ?_;rintro e w' ⟨rfl,rfl⟩))
         go_round
         case rel=>exact⟨k+1,by omega,by go_num,HS⟩
         case measure=>simp[intOf];omega
        ·clear hx;go_wp2_with (first
         | (go_at_call 349;refine(Zci _ _).mono ?_;rintro e w' ⟨rfl,rfl⟩)
         | (go_at_call 350;refine(ZcT _ _).mono ?_;rintro e w' ⟨rfl,rfl⟩))
         go_round
         case rel=>exact⟨k+1,by omega,by go_num,HS⟩
         case measure=>simp[intOf];omega
       ·clear hx
        go_wp2_with (first
         | (go_at_call 349;refine(Zci _ _).mono ?_;rintro e w' ⟨rfl,rfl⟩)
         | (go_at_call 350;refine(ZcT _ _).mono ?_;rintro e w' ⟨rfl,rfl⟩))
        go_round
        case rel=>exact⟨k+1,by omega,by go_num,HS⟩
        case measure=>simp[intOf];omega
     ·obtain rfl:k=s.size:=by omega
      go_wp2;go_ret;exact⟨Ze (by rw[HY.out];exact HL.out.symm),rfl⟩
   ·have HF:Hid (Zb7 s=false):=by show Zb7 s=false;rw[HN.out,decide_eq_false hcp];rfl
    by_cases hl:(s[0].toNat:Int)<65
    ·clear hcp;go_enter Tryz.func338,Tryz.ntmps338;go_wp2;go_ret;exact⟨Ze HF.out.symm,rfl⟩
    ·have hh:90<(s[0].toNat:Int):=by omega
     clear hcp;go_enter Tryz.func338,Tryz.ntmps338;go_wp2;go_ret;exact⟨Ze HF.out.symm,rfl⟩
  ·have h1':(120:Int)<(s.size:Int):=by omega
   have HF:Hid (Zb7 s=false):=by show Zb7 s=false;unfold Zb7 ZaR;simp;intros;omega
   go_enter Tryz.func338,Tryz.ntmps338;go_wp2;go_ret;exact⟨Ze HF.out.symm,rfl⟩
theorem Zfd(s:ByteArray)(lo hi:Int)(w:World)(hs:s.size≤maxLen)(hlh:∀c:Int,lo≤c∧c≤hi→Zai c=true):Calls Tryz.prog 311 #[.string s,.int .u8 lo,.int .u8 hi] w fun e w'=>e=.returned (.bool (ZaR lo hi s))∧w'=w:=by
 unfold maxLen at hs
 by_cases h0:s.size=0
 ·have he:(s.size:Int)=0:=by omega
  have HF:Hid (ZaR lo hi s=false):=by show ZaR lo hi s=false;simp[ZaR,h0]
  go_enter Tryz.func311,Tryz.ntmps311;go_wp2;go_ret;exact⟨Ze HF.out.symm,rfl⟩
 ·have hpos:(0:Int)<(s.size:Int):=by omega
  by_cases h1:s.size≤120
  ·have hlt0:0<s.size:=by omega
   have hb0:=Zbh hlt0
   have HN:Hid (ZaR lo hi s=(decide (lo≤(s[0].toNat:Int)∧(s[0].toNat:Int)≤hi)&&ZE s s.size)):=by
    show ZaR lo hi s=_;unfold ZaR;rw[hb0];simp[h0,h1]
   have hb0':Hid (Zbn s 0=(s[0].toNat:Int)):=hb0;clear hb0
   by_cases hcp:lo≤(s[0].toNat:Int)∧(s[0].toNat:Int)≤hi
   ·have HY:Hid (ZaR lo hi s=ZE s s.size):=by show ZaR lo hi s=_;rw[HN.out,decide_eq_true hcp];simp
    have HL0:Hid (ZE s 1=true):=by show ZE s 1=true;simp only[ZE,hb0'.out,hlh _ hcp,Bool.and_self]
    obtain⟨hc1,hc2⟩:=hcp;clear hlh;go_enter Tryz.func311,Tryz.ntmps311;go_wp2;go_loop [7] (fun i=>∃k:Nat,1≤k∧k≤s.size∧i=.int .i64 k∧Hid (ZE s k=true)) (fun i=>s.size-(intOf i).toNat)
    case atStart=>exact⟨1,Nat.le_refl _,by omega,rfl,HL0⟩
    case round=>
     obtain⟨k,hk1,hk,rfl,HL⟩:=hrel
     by_cases hlt:k<s.size
     ·have HB:Hid (Zbn s k=(s[k].toNat:Int)):=Zbh hlt;have hlt':(k:Int)<(s.size:Int):=by omega
      cases hx:Zai (s[k].toNat:Int)
      ·have HF:Hid (ZaR lo hi s=false):=by show ZaR lo hi s=false;rw[HY.out];exact Zbo (by rw[HB.out];exact hx) hlt
       go_wp2_with (go_at_call 332;refine(Zfc _ _).mono ?_;rintro e w' ⟨rfl,rfl⟩);go_ret;exact⟨Ze HF.out.symm,rfl⟩
      ·have HS:Hid (ZE s (k+1)=true):=by show ZE s (k+1)=true;simp only[ZE,HL.out,HB.out,hx,Bool.and_self]
       go_wp2_with (go_at_call 332;refine(Zfc _ _).mono ?_;rintro e w' ⟨rfl,rfl⟩);go_round
       case rel=>exact⟨k+1,by omega,by omega,by go_num,HS⟩
       case measure=>simp[intOf];omega
     ·obtain rfl:k=s.size:=by omega
      go_wp2;go_ret;exact⟨Ze (by rw[HY.out];exact HL.out.symm),rfl⟩
   ·have HF:Hid (ZaR lo hi s=false):=by show ZaR lo hi s=false;rw[HN.out,decide_eq_false hcp];rfl
    clear hlh
    by_cases hl:(s[0].toNat:Int)<lo
    ·clear hcp;go_enter Tryz.func311,Tryz.ntmps311;go_wp2;go_ret;exact⟨Ze HF.out.symm,rfl⟩
    ·have hh:hi<(s[0].toNat:Int):=by omega
     clear hcp;go_enter Tryz.func311,Tryz.ntmps311;go_wp2;go_ret;exact⟨Ze HF.out.symm,rfl⟩
  ·have h1':(120:Int)<(s.size:Int):=by omega
   have HF:Hid (ZaR lo hi s=false):=by show ZaR lo hi s=false;unfold ZaR;simp;intros;omega
   clear hlh;go_enter Tryz.func311,Tryz.ntmps311;go_wp2;go_ret;exact⟨Ze HF.out.symm,rfl⟩
theorem ZgL(s:ByteArray)(w:World)(hs:s.size≤maxLen):Calls Tryz.prog 334 #[.string s] w fun e w'=>e=.returned (.bool (Zb7 s))∧w'=w:=by
 go_enter Tryz.func334,Tryz.ntmps334;go_wp2_with fail;refine(Zfd s 65 90 _ hs fun c h=>ZkX h).mono ?_;rintro e w' ⟨rfl,rfl⟩;go_wp2;go_ret;exact⟨rfl,rfl⟩
end
section
open Go.RowKit
structure V where
 k:Int
 n:Int
 s:ByteArray
deriving DecidableEq
structure T where
 v:ByteArray
 a:V
deriving DecidableEq
structure P where
 v:ByteArray
 t:T
deriving DecidableEq
def noS:ByteArray:=⟨#[]⟩
def ZI:ByteArray:=⟨#[95]⟩
def V0:V:=⟨0,0,noS⟩
def T0:T:=⟨noS,V0⟩
def T.val(t:T):Value:=.agg #[.string t.v,.int .i8 t.a.k,.int .i64 t.a.n,.string t.a.s]
def T.cells(t:T):List Value:=[.string t.v,.int .i8 t.a.k,.int .i64 t.a.n,.string t.a.s]
def P.cells(p:P):List Value:=[.string p.v,.string p.t.v,.int .i8 p.t.a.k,.int .i64 p.t.a.n,.string p.t.a.s]
theorem toList_inj{a b:ByteArray}(h:a.toList=b.toList):a=b:=by
 rw[ByteArray.toList_eq,ByteArray.toList_eq]at h
 cases a;cases b
 simpa using congrArg List.toArray h
theorem Zpw(s:ByteArray):s.toList=[]↔s=noS:=by
 constructor
 ·intro h;apply toList_inj;rw[h,ByteArray.toList_eq];rfl
 ·rintro rfl;rw[ByteArray.toList_eq];rfl
def Zqj(v:V):Int:=chk v.k v.n v.s
def okV(v:V):Bool:=Zqj v==0
def ZK(t:T):Bool:=if t.v=noS then okV t.a else decide (t.a=V0)&&(decide (t.v=ZI) || Zb7 t.v)
def ZaD(pred:ByteArray)(l:List T):Bool:=Z0 pred&&decide (l.length≤24)&&l.all ZK
def res(s:List P)(t:T):T:=match s.find? (fun p=>decide (p.v=t.v))with | some p=>p.t | none=>t
def ZkQ(s:List P)(t:T):T:=if t.v=noS∨t.v=ZI then t else res s t
def Flat(w:World)(g off:Nat)(xs:List Value):Prop:=∀i (h:i<xs.length),w.cell? ⟨g,off+i,none⟩=some xs[i]
def Ls(w:World)(v:Value)(n:Nat)(xs:List Value):Prop:=
 n≤maxLen∧∃a c,v=.slice a n c∧n≤c∧c≤maxLen∧(0<n→∃g off,a=some ⟨g,off,none⟩∧g<w.heap.size∧Flat w g off xs)
theorem Ls.below{w w':World}{v:Value}{n:Nat}{xs:List Value}(l:Ls w v n xs)(h:Below w.heap.size w w'):Ls w' v n xs:=by
 obtain⟨hn,a,c,hv,h1,h2,hc⟩:=l;refine⟨hn,a,c,hv,h1,h2,fun h0=>?_⟩;obtain⟨g,off,ha,hg,hf⟩:=hc h0;exact⟨g,off,ha,Nat.lt_of_lt_of_le hg h.size,fun i hi=>by rw[h.cell (p:=⟨g,off+i,none⟩) hg];exact hf i hi⟩
theorem Zbt{α:Type}(f:α→List Value)(k:Nat)(hk:∀x,(f x).length=k):∀l:List α,(l.flatMap f).length=l.length*k
 | []=>by simp
 | x::r=>by rw[List.flatMap_cons,List.length_append,hk,Zbt f k hk r,List.length_cons,Nat.succ_mul];omega
theorem ZaQ{α:Type}(f:α→List Value)(k:Nat)(hk:∀x,(f x).length=k)(d:α):∀(l:List α) (i j:Nat),i<l.length→j<k→(l.flatMap f)[i*k+j]?=(f (l.getD i d))[j]?
 | [],i,j,h,_=>absurd h (by simp)
 | x::r,0,j,_,hj=>by
  rw[List.flatMap_cons,Nat.zero_mul,Nat.zero_add,List.getElem?_append_left (by rw[hk];exact hj)];rfl
 | x::r,i+1,j,h,hj=>by
  have:=ZaQ f k hk d r i j (by simpa using h) hj;rw[List.flatMap_cons,List.getElem?_append_right (by rw[hk,Nat.succ_mul];omega),hk,show(i+1)*k+j-k=i*k+j by rw[Nat.succ_mul];omega,this];simp[List.getD]
theorem Flat.elem{w:World}{g off:Nat}{α:Type}{f:α→List Value}{k:Nat}(hk:∀x,(f x).length=k){l:List α}(h:Flat w g off (l.flatMap f))(d:α){i j:Nat}(hi:i<l.length)(hj:j<k){u:Value}(hu:(f (l.getD i d))[j]?=some u):w.cell? ⟨g,off+(i*k+j),none⟩=some u:=by
 have h1:=ZaQ f k hk d l i j hi hj;rw[hu]at h1;obtain⟨h2,h3⟩:=List.getElem?_eq_some_iff.1 h1;rw[h _ h2,h3]
structure V.wf (v:V):Prop where
 kind:(Lit.int .i8 v.k).wf=true
 num:(Lit.int .i64 v.n).wf=true
 text:v.s.size≤maxLen
structure T.wf (t:T):Prop where
 text:t.v.size≤maxLen
 val:t.a.wf
structure P.wf (p:P):Prop where
 text:p.v.size≤maxLen
 term:p.t.wf
theorem V0.ok:V0.wf:=⟨by decide,by decide,by decide⟩
theorem T0.ok:T0.wf:=⟨by decide,V0.ok⟩
def atT(l:List T)(i:Nat):T:=l.getD i T0
def P0:P:=⟨noS,T0⟩
def atP(l:List P)(i:Nat):P:=l.getD i P0
theorem ZcQ{l:List T}{i:Nat}(h:i<l.length):atT l i=l[i]:=by simp[atT,List.getD,List.getElem?_eq_getElem h]
theorem Zom{l:List P}{i:Nat}(h:i<l.length):atP l i=l[i]:=by simp[atP,List.getD,List.getElem?_eq_getElem h]
structure Lt (w:World) (v:Value) (l:List T):Prop where
 lies:Ls w v l.length (l.flatMap T.cells)
 wf:∀t∈l,t.wf
structure Lp (w:World) (v:Value) (l:List P):Prop where
 lies:Ls w v l.length (l.flatMap P.cells)
 wf:∀t∈l,t.wf
theorem Lt.below{w w':World}{v:Value}{l:List T}(h:Lt w v l)(b:Below w.heap.size w w'):Lt w' v l:=⟨h.lies.below b,h.wf⟩
theorem Lp.below{w w':World}{v:Value}{l:List P}(h:Lp w v l)(b:Below w.heap.size w w'):Lp w' v l:=⟨h.lies.below b,h.wf⟩
structure TAt (w:World) (g o:Nat) (t:T):Prop where
 c0:w.cell? ⟨g,o,none⟩=some (.string t.v)
 c1:w.cell? ⟨g,o+1,none⟩=some (.int .i8 t.a.k)
 c2:w.cell? ⟨g,o+2,none⟩=some (.int .i64 t.a.n)
 c3:w.cell? ⟨g,o+3,none⟩=some (.string t.a.s)
structure PAt (w:World) (g o:Nat) (p:P):Prop where
 c0:w.cell? ⟨g,o,none⟩=some (.string p.v)
 c1:w.cell? ⟨g,o+1,none⟩=some (.string p.t.v)
 c2:w.cell? ⟨g,o+2,none⟩=some (.int .i8 p.t.a.k)
 c3:w.cell? ⟨g,o+3,none⟩=some (.int .i64 p.t.a.n)
 c4:w.cell? ⟨g,o+4,none⟩=some (.string p.t.a.s)
theorem Lt.form{w:World}{v:Value}{l:List T}(h:Lt w v l):∃a c,v=.slice a l.length c∧l.length≤c∧c≤maxLen∧(0<l.length→∃g off,a=some ⟨g,off,none⟩∧g<w.heap.size∧∀i,i<l.length→TAt w g (off+i*4) (atT l i)):=by
 obtain⟨hn,a,c,hv,h1,h2,hc⟩:=h.lies;refine⟨a,c,hv,h1,h2,fun h0=>?_⟩;obtain⟨g,off,ha,hg,hf⟩:=hc h0;refine⟨g,off,ha,hg,fun i hi=>⟨?_,?_,?_,?_⟩⟩
 ·have:=hf.elem (k:=4) (fun _=>rfl) T0 hi (j:=0) (by omega) rfl;rw[←Nat.add_assoc]at this;exact this
 ·have:=hf.elem (k:=4) (fun _=>rfl) T0 hi (j:=1) (by omega) rfl;rw[←Nat.add_assoc]at this;exact this
 ·have:=hf.elem (k:=4) (fun _=>rfl) T0 hi (j:=2) (by omega) rfl;rw[←Nat.add_assoc]at this;exact this
 ·have:=hf.elem (k:=4) (fun _=>rfl) T0 hi (j:=3) (by omega) rfl;rw[←Nat.add_assoc]at this;exact this
theorem Lp.form{w:World}{v:Value}{l:List P}(h:Lp w v l):∃a c,v=.slice a l.length c∧l.length≤c∧c≤maxLen∧(0<l.length→∃g off,a=some ⟨g,off,none⟩∧g<w.heap.size∧∀i,i<l.length→PAt w g (off+i*5) (atP l i)):=by
 obtain⟨hn,a,c,hv,h1,h2,hc⟩:=h.lies;refine⟨a,c,hv,h1,h2,fun h0=>?_⟩;obtain⟨g,off,ha,hg,hf⟩:=hc h0;refine⟨g,off,ha,hg,fun i hi=>⟨?_,?_,?_,?_,?_⟩⟩
 ·have:=hf.elem (k:=5) (fun _=>rfl) P0 hi (j:=0) (by omega) rfl;rw[←Nat.add_assoc]at this;exact this
 ·have:=hf.elem (k:=5) (fun _=>rfl) P0 hi (j:=1) (by omega) rfl;rw[←Nat.add_assoc]at this;exact this
 ·have:=hf.elem (k:=5) (fun _=>rfl) P0 hi (j:=2) (by omega) rfl;rw[←Nat.add_assoc]at this;exact this
 ·have:=hf.elem (k:=5) (fun _=>rfl) P0 hi (j:=3) (by omega) rfl;rw[←Nat.add_assoc]at this;exact this
 ·have:=hf.elem (k:=5) (fun _=>rfl) P0 hi (j:=4) (by omega) rfl;rw[←Nat.add_assoc]at this;exact this
theorem ZY{w:World}{base:Nat}{e:TypeId}{k:Nat}{sv:Value}{n:Nat}{xs:List Value}(h:w.ownsRow base e k sv n xs):Ls w sv n xs:=by
 obtain⟨hl,⟨rfl,rfl⟩ | ⟨g,cap,cur,rfl,_,hb,hn,hc,hs,ht⟩⟩:=h
 ·exact⟨Nat.zero_le _,none,0,rfl,Nat.le_refl _,Nat.zero_le _,fun h=>absurd h (by omega)⟩
 ·refine⟨Nat.le_trans hn hc,_,cap,rfl,hn,hc,fun _=>⟨g,0,rfl,?_,fun i hi=>?_⟩⟩
  ·exact Array.getElem?_eq_some_iff.1 hb |>.1
  have h2:i<n*k:=by rw[←hl];exact hi
  have h3:cur[i]?=some xs[i]:=by
   obtain⟨u,h1⟩:∃u,xs[i]?=some u:=⟨_,List.getElem?_eq_getElem hi⟩;have h4:xs[i]=u:=Option.some.inj ((List.getElem?_eq_getElem hi).symm.trans h1);rw[h4];rw[←ht,List.getElem?_take,if_pos h2]at h1;simpa using h1
  unfold World.cell?;simp only[hb,Nat.zero_add];exact h3
theorem Zx{w w':World}{base:Nat}{e:TypeId}{k:Nat}{sv:Value}{n:Nat}{xs:List Value}(h:w.ownsRow base e k sv n xs)(hg:∀g,sv.ownBlock=some g→w'.heap[g]?=w.heap[g]?):w'.ownsRow base e k sv n xs:=by
 obtain⟨hl,h1 | ⟨g,cap,cur,rfl,h0,hb,r⟩⟩:=h
 ·exact⟨hl,.inl h1⟩
 ·exact⟨hl,.inr ⟨g,cap,cur,rfl,h0,(hg g rfl).trans hb,r⟩⟩
theorem Zn{w w':World}{base:Nat}{e:TypeId}{k:Nat}{sv:Value}{n:Nat}{xs:List Value}(h:w.ownsRow base e k sv n xs)(hb:Below w.heap.size w w'):w'.ownsRow base e k sv n xs:=
 Zx h (fun g hg=>hb.block g (h.lt g hg).2)
end
section
open Go.RowKit
attribute [local go_sem ↓] Go.wp_at_zero Go.wp_at_succ
theorem ZlE(k1 n1:Int)(s1:ByteArray)(k2 n2:Int)(s2:ByteArray)(w:World) :
  (binOp .eql 98 (.agg #[.int .i8 k1,.int .i64 n1,.string s1]) (.agg #[.int .i8 k2,.int .i64 n2,.string s2])).run Tryz.prog w=.ok (.bool (decide ((⟨k1,n1,s1⟩:V)=⟨k2,n2,s2⟩))) w:=by
 by_cases hk:k1=k2
 ·by_cases hn:n1=n2
  ·by_cases hs:s1.toList=s2.toList
   ·have:=toList_inj hs;subst hk hn this;go_simp
   ·have e:decide ((⟨k1,n1,s1⟩:V)=⟨k2,n2,s2⟩)=false:=decide_eq_false (fun h=>hs (by cases h;rfl));rw[e];go_simp
  ·have e:decide ((⟨k1,n1,s1⟩:V)=⟨k2,n2,s2⟩)=false:=decide_eq_false (fun h=>hn (by cases h;rfl));rw[e];go_simp
 ·have e:decide ((⟨k1,n1,s1⟩:V)=⟨k2,n2,s2⟩)=false:=decide_eq_false (fun h=>hk (by cases h;rfl));rw[e];go_simp
theorem Za7(s:ByteArray)(h:s≠noS):s.toList.isEmpty=false:=by
 cases e:s.toList with
 | nil=>exact absurd ((Zpw s).1 e) h
 | cons _ _=>rfl
theorem Za0{s:ByteArray}(h:s≠ZI):(s.toList==[95])=false:=by
 rw[beq_eq_false_iff_ne];intro e;exact h (toList_inj (by rw[e,ByteArray.toList_eq];rfl))
theorem Zd0(t:T)(w:World)(ht:t.wf):Calls Tryz.prog 318 #[t.val] w fun e w'=>e=.returned (.bool (ZK t))∧Below w.heap.size w w':=by
 obtain⟨tv,k,n,s⟩:=t;have h1:tv.size≤maxLen:=ht.text;have h2:s.size≤maxLen:=ht.val.text;unfold T.val;dsimp only
 by_cases e0:tv=noS
 ·subst e0;have HT:Hid (ZK ⟨noS,k,n,s⟩=(chk k n s==0)):=by show ZK _=_;unfold ZK okV Zqj;rw[if_pos rfl]
  unfold noS;go_enter Tryz.func318,Tryz.ntmps318;go_wp2_with fail;refine(Zd2 k n s _ h2).mono ?_;rintro e w' ⟨rfl,hb⟩;go_wp2;go_ret;exact⟨Ze HT.out.symm,((Below.refl _ _).alloc (Nat.le_refl _) _).trans (hb.mono (by simp))⟩
 ·have he:=Za7 tv e0;have hE:=ZlE k n s 0 0 ⟨#[]⟩
  by_cases ea:(⟨k,n,s⟩:V)=V0
  ·have hE':decide ((⟨k,n,s⟩:V)=⟨0,0,⟨#[]⟩⟩)=true:=decide_eq_true ea;rw[hE']at hE
   by_cases eb:tv=ZI
   ·subst eb;have HT:Hid (ZK ⟨ZI,k,n,s⟩=true):=by show ZK _=_;unfold ZK;rw[if_neg e0];simp[ea]
    clear e0 ea hE';unfold ZI at *;go_enter Tryz.func318,Tryz.ntmps318;go_wp2;go_ret;exact⟨Ze HT.out.symm,((Below.refl _ _).alloc (Nat.le_refl _) _)⟩
   ·have hb0:=Za0 eb;have HT:Hid (ZK ⟨tv,k,n,s⟩=Zb7 tv):=by show ZK _=_;unfold ZK;rw[if_neg e0];simp[ea,eb]
    clear e0 ea hE' eb;go_enter Tryz.func318,Tryz.ntmps318;go_wp2_with fail;refine(Zgt tv _ h1).mono ?_;rintro e w' ⟨rfl,rfl⟩;go_wp2;go_ret;exact⟨Ze HT.out.symm,((Below.refl _ _).alloc (Nat.le_refl _) _)⟩
  ·have hE':decide ((⟨k,n,s⟩:V)=⟨0,0,⟨#[]⟩⟩)=false:=decide_eq_false ea;rw[hE']at hE;have HT:Hid (ZK ⟨tv,k,n,s⟩=false):=by show ZK _=_;unfold ZK;rw[if_neg e0];simp[ea]
   clear e0 ea hE';go_enter Tryz.func318,Tryz.ntmps318;go_wp2;go_ret;exact⟨Ze HT.out.symm,((Below.refl _ _).alloc (Nat.le_refl _) _)⟩
theorem ZeV(t:T)(w:World)(ht:t.wf):Calls Tryz.prog 313 #[t.val] w fun e w'=>e=.returned (.bool (ZK t))∧Below w.heap.size w w':=by
 obtain⟨tv,k,n,s⟩:=t;have h1:tv.size≤maxLen:=ht.text;have h2:s.size≤maxLen:=ht.val.text;unfold T.val;dsimp only
 by_cases e0:tv=noS
 ·subst e0;have HT:Hid (ZK ⟨noS,k,n,s⟩=(chk k n s==0)):=by show ZK _=_;unfold ZK okV Zqj;rw[if_pos rfl]
  unfold noS;go_enter Tryz.func313,Tryz.ntmps313;go_wp2_with fail;refine(Zk4 k n s _ h2).mono ?_;rintro e w' ⟨rfl,hb⟩;go_wp2;go_ret;exact⟨Ze HT.out.symm,(((Below.refl _ _).alloc (Nat.le_refl _) _).alloc (by simp) _).trans (hb.mono (by simp;omega))⟩
 ·have he:=Za7 tv e0;have hE:=ZlE k n s 0 0 ⟨#[]⟩
  by_cases eb:tv=ZI
  ·subst eb;have HT:Hid (ZK ⟨ZI,k,n,s⟩=decide ((⟨k,n,s⟩:V)=⟨0,0,⟨#[]⟩⟩)):=by show ZK _=decide ((⟨k,n,s⟩:V)=V0);unfold ZK;rw[if_neg e0];simp
   clear e0;generalize decide ((⟨k,n,s⟩:V)=⟨0,0,⟨#[]⟩⟩)=z at hE HT;unfold ZI at *;go_enter Tryz.func313,Tryz.ntmps313;go_wp2;go_ret;exact⟨Ze HT.out.symm,(((Below.refl _ _).alloc (Nat.le_refl _) _).alloc (by simp) _)⟩
  ·have hb0:=Za0 eb;have HT:Hid (ZK ⟨tv,k,n,s⟩=(Zb7 tv&&decide ((⟨k,n,s⟩:V)=⟨0,0,⟨#[]⟩⟩))):=by show ZK _=(_&&decide ((⟨k,n,s⟩:V)=V0));unfold ZK;rw[if_neg e0];simp[eb,Bool.and_comm]
   clear e0 eb;generalize decide ((⟨k,n,s⟩:V)=⟨0,0,⟨#[]⟩⟩)=z at hE HT
   cases hvb:Zb7 tv
   all_goals
    rw[hvb]at HT;go_enter Tryz.func313,Tryz.ntmps313;go_wp2_with fail;refine(ZgL tv _ h1).mono ?_;rw[hvb];rintro e w' ⟨rfl,rfl⟩;go_wp2;go_ret;exact⟨Ze (by rw[HT.out];simp),(((Below.refl _ _).alloc (Nat.le_refl _) _).alloc (by simp) _)⟩
def Zgp(b:Bool):Int:=if b then 0 else 40
theorem Zfa(b:Bool)(w:World):Calls Tryz.prog 228 #[.bool b] w fun e w'=>e=.returned (.int .i64 (Zgp b))∧w'=w:=by
 cases b <;>
 ·go_enter Tryz.func228,Tryz.ntmps228;go_wp2;go_ret;exact⟨rfl,rfl⟩
theorem Zop(b:Bool)(w:World):Calls Tryz.prog 220 #[.bool b] w fun e w'=>e=.returned (.int .i64 (Zgp b))∧w'=w:=by
 cases b <;>
 ·go_enter Tryz.func220,Tryz.ntmps220;go_wp2;go_ret;exact⟨rfl,rfl⟩
theorem ZgI(t:T)(w:World)(ht:t.wf):Calls Tryz.prog 286 #[t.val] w fun e w'=>e=.returned (.int .i64 (Zgp (ZK t)))∧Below w.heap.size w w':=by
 unfold T.val;go_enter Tryz.func286,Tryz.ntmps286;go_wp2_with fail;refine(Zd0 t _ ht).mono ?_;rintro e w1 ⟨rfl,b1⟩;go_wp2_with fail;refine(Zfa _ _).mono ?_;rintro e w2 ⟨rfl,rfl⟩;go_wp2;go_ret;exact⟨rfl,((Below.refl _ _).alloc (Nat.le_refl _) _).trans (b1.mono (by simp))⟩
end
section
open Go.RowKit Go.Maps
attribute [local go_sem ↓] Go.wp_at_zero Go.wp_at_succ
theorem ZR (w : World) (cs : Array Value) (e : TypeId) : ∀ (j : Nat) (u : Value), cs.toList[j]? = some u → (w.alloc (.cells cs e)).cell? ((⟨w.heap.size, 0, none⟩ : Addr).add j) = some u := by
  intro j u h
  have e' : (⟨w.heap.size, 0, none⟩ : Addr).add j = ⟨w.heap.size, j, none⟩ := by rw [WideShapes.add_plain]; simp
  rw [e']
  unfold World.cell?
  simp only [heap_alloc_new]
  simpa using h
theorem ZaN {P : Program} {ops : Array Oper} {o : Oper} {a : Act} {w : World} {K : Act → World → Prop} {Q : Exit → Act → World → Prop} {E : Prop}
    (hg : o.guard = none) (s x : Operand) (t : TypeId) (hop : o.op = Op.call { callee := Callee.builtin Builtin.append, args := #[s, x], argTypes := #[t, t] })
    (e : TypeId) (i : TypeInfo) (z : Value) (size bytes : Nat) (h1 : P.underlying t = some (.slice e)) (h2 : P.info? e = some i) (h3 : i.zero = some z) (h4 : i.size = size) (h5 : i.bytes = bytes) (h6 : z.cells.size = size) (h7 : 0 < size)
    (base : Nat) (v : Value) (n : Nat) (xs : List Value) (hs : a.eval s = v) (hown : w.ownsRow base e size v n xs)
    (ad : Addr) (m c : Nat) (news : List Value) (hx : a.eval x = .slice (some ad) m c) (hn : news.length = m * size) (hc : ∀ j u, news[j]? = some u → w.cell? (ad.add j) = some u) (h1c : ∀ u ∈ news, u.oneCell' = true)
    (b1 : n + m ≤ maxLen) (b2 : (n + m) * bytes ≤ 140737488355328) (hbase : base ≤ w.heap.size)
    (hK : ∀ v' w', w'.ownsRow base e size v' (n + m) (xs ++ news) → w.grownBy w' v.ownBlock → (v'.ownBlock = v.ownBlock ∨ v'.ownBlock = some w.heap.size) → K (a.put o.dst v') w') :
    if Region.wanted o (yielded ops a.tmps) = true then Oper.wp P o a w K Q else E := by
  have hw : Region.wanted o (yielded ops a.tmps) = true := by simp [Region.wanted, hg]
  rw [if_pos hw]
  obtain ⟨v', w', hrun, r1, r2, _, r3⟩ := run_append_own_at (P := P) w base t o.type e i z size bytes h1 h2 h3 h4 h5 h6 h7 v n xs hown ad m c news hn hc h1c b1 b2 hbase
  unfold Oper.wp
  simp [execOp, hop, resolve, invoke, builtin, hs, hx, hrun, Result.andThen]
  exact hK v' w' r1 r2 r3
theorem ZB {w : World} {base : Nat} {e : TypeId} {k : Nat} {sv : Value} {n : Nat} {xs : List Value} (h : w.ownsRow base e k sv n xs) : ∃ a c, sv = .slice a n c ∧ n ≤ maxLen := by
  obtain ⟨hl, ⟨rfl, rfl⟩ | ⟨g, cap, cur, rfl, _, hb, hn, hc, hs, ht⟩⟩ := h
  · exact ⟨none, 0, rfl, Nat.zero_le _⟩
  · exact ⟨_, cap, rfl, Nat.le_trans hn hc⟩
theorem ZcR (s : ByteArray) : s.data.toList.length = s.size := by rw [Array.length_toList]; rfl
theorem Zgn : ∀ (l : List UInt8) (s : ByteArray), (l.map (fun b => (b.toNat : Int))).foldl (fun r n => r.push (UInt8.ofNat n.toNat)) s = ⟨s.data ++ l.toArray⟩
  | [], s => by cases s; simp
  | c :: r, s => by
    simp only [List.map_cons, List.foldl_cons]
    rw [Zgn r]
    cases s with
    | mk d => simp [ByteArray.push]
theorem Zix {w : World} {base : Nat} {sv : Value} {n : Nat} {out : List UInt8} (h : w.ownsRow base 5 1 sv n (Lib.byteCells out)) : (convert 435 9 sv).run Tryz.prog w = .ok (.string ⟨out.toArray⟩) w := by
  obtain ⟨hl, ⟨rfl, rfl⟩ | ⟨g, cap, cur, rfl, _, hb, hn, hc, hs, ht⟩⟩ := h
  · have : out = [] := List.length_eq_zero_iff.mp (by rw [Lib.byteCells_length] at hl; omega)
    subst this
    rw [run_convert_bytes_string w _ _ _ _ _ _ Tryz.underlying435 Tryz.underlying5 Tryz.underlying9]
    simp [Conv.bytesToString]
    rfl
  · rw [run_convert_bytes_string w _ _ _ _ _ _ Tryz.underlying435 Tryz.underlying5 Tryz.underlying9]
    have hlen : out.length = n := by rw [Lib.byteCells_length] at hl; omega
    have hload : (loadCells ⟨g, 0, none⟩ n).run Tryz.prog w = .ok ((out.map (fun b => (b.toNat : Int))).map (Value.int .u8)).toArray w := by
      have := run_loadCells_list (P := Tryz.prog) (w := w) ⟨g, 0, none⟩ ((out.map (fun b => (b.toNat : Int))).map (Value.int .u8)) (fun j v hj => by
        have e : (⟨g, 0, none⟩ : Addr).add j = ⟨g, j, none⟩ := by rw [WideShapes.add_plain]; simp
        rw [e]
        unfold World.cell?
        simp only [hb]
        have hj' : (Lib.byteCells out)[j]? = some v := by unfold Lib.byteCells; rw [List.map_map] at hj; exact hj
        rw [← ht] at hj'
        have := List.getElem?_take (l := cur.toList) (i := n * 1) (j := j)
        rw [this] at hj'
        split at hj'
        · simpa using hj'
        · cases hj')
      simpa [hlen] using this
    rw [run_bytesToString w _ _ _ _ hload, Zgn]
    simp [ByteArray.empty, ByteArray.emptyWithCapacity]
    try rfl
theorem Zon : (Tryz.prog.info? 5).map (fun i => (i.zero, i.size, i.bytes)) = some (some (.int .u8 0), 1, 1) := by kernel_rfl
def ZjI (n : Nat) : UInt8 := (#[48, 49, 50, 51, 52, 53, 54, 55, 56, 57, 97, 98, 99, 100, 101, 102] : Array UInt8).getD n 0
def Zat (c : UInt8) : List UInt8 := if c.toNat = 10 then [92, 110] else if c.toNat = 34 ∨ c.toNat = 92 then [92, c] else if 32 ≤ c.toNat ∧ c.toNat ≤ 126 then [c] else [92, 120, ZjI (c.toNat / 16), ZjI (c.toNat % 16)]
theorem Zgo (c : UInt8) : 1 ≤ (Zat c).length ∧ (Zat c).length ≤ 4 := by
  unfold Zat
  split
  · decide
  · split
    · simp
    · split <;> simp
theorem ZqK : ∀ c : Fin 256, bits BinOp.and IntKind.u8 (c.val : Int) 15 = ((c.val % 16 : Nat) : Int) := by decide +kernel
theorem Zoo (n : Nat) (h : n < 16) : ({ data := #[48, 49, 50, 51, 52, 53, 54, 55, 56, 57, 97, 98, 99, 100, 101, 102] } : ByteArray)[n]'h = ZjI n := by
  have hall : ∀ n : Fin 16, (({ data := #[48, 49, 50, 51, 52, 53, 54, 55, 56, 57, 97, 98, 99, 100, 101, 102] } : ByteArray)[n.val]'n.isLt) = ZjI n.val := by decide +kernel
  exact hall ⟨n, h⟩
def Zcn (s : ByteArray) : ByteArray := ⟨((34 :: s.data.toList.flatMap Zat) ++ [34]).toArray⟩
theorem ZlD : ∀ l : List UInt8, l.length ≤ (l.flatMap Zat).length
  | [] => Nat.le_refl _
  | c :: r => by
    have := ZlD r
    have := (Zgo c).1
    simp only [List.flatMap_cons, List.length_append, List.length_cons]
    omega
theorem ZjJ (s : ByteArray) : s.size + 2 ≤ (Zcn s).size := by
  have h := ZlD s.data.toList
  rw [ZcR] at h
  rw [← ZcR (Zcn s)]
  simp only [Zcn, List.length_append, List.length_cons, List.length_nil]
  omega
theorem ZmV (s : ByteArray) {k : Nat} (h : k < s.size) : s.data.toList.take (k + 1) = s.data.toList.take k ++ [s[k]] := by
  rw [List.take_add_one, List.getElem?_eq_getElem (by rw [ZcR]; exact h)]
  rfl
theorem ZmW (s : ByteArray) (w : World) (hs : s.size ≤ 200) : Calls Tryz.prog 323 #[.string s] w fun e w' => e = .returned (.string (Zcn s)) ∧ Below w.heap.size w w' := by
  obtain ⟨i0, hi0, hz0, hz1, hz2⟩ := info_parts Zon
  go_enter Tryz.func323, Tryz.ntmps323
  go_wp2
  go_loopw [3, 9] (fun o i wr => ∃ k : Nat, k ≤ s.size ∧ i = .int .i64 k ∧ Below w.heap.size w wr ∧ ∃ out : List UInt8, wr.ownsRow w.heap.size 5 1 o out.length (Lib.byteCells out) ∧ out.length ≤ 1 + 4 * k ∧ Hid (34 :: (s.data.toList.take k).flatMap Zat = out)) (fun _ i _ => s.size - (intOf i).toNat)
  case atStart => exact ⟨0, Nat.zero_le _, rfl, (Below.refl _ _).alloc (Nat.le_refl _) _, [34], World.ownsRow_lit w #[.int .u8 34] 1 (Nat.le_refl _) (by decide) rfl, by simp, by simp [Hid]⟩
  case round =>
    obtain ⟨k, hk, rfl, bel, out, hown, hol, HF⟩ := hrel
    obtain ⟨ao, co, rfl, hlo⟩ := ZB hown
    by_cases hlt : k < s.size
    · have hlt' : (k : Int) < (s.size : Int) := by omega
      have HN : Hid (34 :: (s.data.toList.take (k + 1)).flatMap Zat = out ++ Zat s[k]) := by
        show _ = _
        rw [ZmV s hlt, List.flatMap_append, ← HF.out]
        simp
      have HP : Hid ((Zat s[k]).length ≤ 4) := (Zgo _).2
      have hb8 : (s[k]'hlt).toNat < 256 := (s[k]'hlt).toNat_lt
      clear HF
      obtain ⟨c, hcc⟩ : ∃ c, s[k] = c := ⟨_, rfl⟩
      rw [hcc] at HN HP hb8
      by_cases h10 : c.toNat = 10
      · have h10' : (c.toNat : Int) = 10 := by omega
        have HE : Hid (Zat c = [92, 110]) := by show Zat c = _; unfold Zat; rw [if_pos h10]
        go_wp2_with (at_builtin; refine wpList_append_own_at _ rfl _ _ 435 rfl w.heap.size 5 i0 _ 1 1 Tryz.underlying435 hi0 hz0 hz1 hz2 rfl (by decide) _ _ _ rfl (Zn hown ((Below.refl _ _).alloc (Nat.le_refl _) _)) ⟨_, 0, none⟩ 2 2 [.int .u8 92, .int .u8 110] rfl rfl (ZR _ #[.int .u8 92, .int .u8 110] _) (by simp [Value.oneCell']) (by unfold maxLen; omega) (by omega) (by have := bel.size; simp; omega) ?_; intro v' w2 hown' hgrow hnil hloc)
        go_roundw
        case rel => exact ⟨k + 1, by omega, by go_num, (bel.alloc bel.size _).grown hgrow (by have := bel.size; simp; omega) (fun j hj => (hown.lt j hj).1), out ++ [92, 110], by rw [Lib.byteCells_append, List.length_append]; exact hown', by simp; omega, by rw [← HE.out]; exact HN⟩
        case measure => simp [intOf]; omega
      · have h10' : ¬ (c.toNat : Int) = 10 := by omega
        by_cases h34 : c.toNat = 34 ∨ c.toNat = 92
        · have HE : Hid (Zat c = [92, c]) := by show Zat c = _; unfold Zat; rw [if_neg h10, if_pos h34]
          have hb10 : ((c.toNat : Int) == 10) = false := by simpa using h10'
          by_cases h3 : c.toNat = 34
          · have hb34 : ((c.toNat : Int) == 34) = true := by have : (c.toNat : Int) = 34 := by omega
                                                             simp [this]
            clear h10 h10' h34 h3
            go_wp2_with (at_builtin; refine wpList_append_own_at _ rfl _ _ 435 rfl w.heap.size 5 i0 _ 1 1 Tryz.underlying435 hi0 hz0 hz1 hz2 rfl (by decide) _ _ _ rfl (Zn hown ((Below.refl _ _).alloc (Nat.le_refl _) _)) ⟨_, 0, none⟩ 2 2 [.int .u8 92, .int .u8 (c.toNat : Int)] rfl rfl (ZR _ #[.int .u8 92, .int .u8 (c.toNat : Int)] _) (by simp [Value.oneCell']) (by unfold maxLen; omega) (by omega) (by have := bel.size; simp; omega) ?_; intro v' w2 hown' hgrow hnil hloc)
            go_roundw
            case rel => exact ⟨k + 1, by omega, by go_num, (bel.alloc bel.size _).grown hgrow (by have := bel.size; simp; omega) (fun j hj => (hown.lt j hj).1), out ++ [92, c], by rw [Lib.byteCells_append, List.length_append]; exact hown', by simp; omega, by rw [← HE.out]; exact HN⟩
            case measure => simp [intOf]; omega
          · have hb34 : ((c.toNat : Int) == 34) = false := by have : ¬ (c.toNat : Int) = 34 := by omega
                                                              simpa using this
            have hb92 : ((c.toNat : Int) == 92) = true := by have : (c.toNat : Int) = 92 := by omega
                                                             simp [this]
            clear h10 h10' h34 h3
            go_wp2_with (at_builtin; refine wpList_append_own_at _ rfl _ _ 435 rfl w.heap.size 5 i0 _ 1 1 Tryz.underlying435 hi0 hz0 hz1 hz2 rfl (by decide) _ _ _ rfl (Zn hown ((Below.refl _ _).alloc (Nat.le_refl _) _)) ⟨_, 0, none⟩ 2 2 [.int .u8 92, .int .u8 (c.toNat : Int)] rfl rfl (ZR _ #[.int .u8 92, .int .u8 (c.toNat : Int)] _) (by simp [Value.oneCell']) (by unfold maxLen; omega) (by omega) (by have := bel.size; simp; omega) ?_; intro v' w2 hown' hgrow hnil hloc)
            go_roundw
            case rel => exact ⟨k + 1, by omega, by go_num, (bel.alloc bel.size _).grown hgrow (by have := bel.size; simp; omega) (fun j hj => (hown.lt j hj).1), out ++ [92, c], by rw [Lib.byteCells_append, List.length_append]; exact hown', by simp; omega, by rw [← HE.out]; exact HN⟩
            case measure => simp [intOf]; omega
        · have h34' : ¬ (c.toNat : Int) = 34 := by omega
          have h92' : ¬ (c.toNat : Int) = 92 := by omega
          have hb10 : ((c.toNat : Int) == 10) = false := by simpa using h10'
          have hb34 : ((c.toNat : Int) == 34) = false := by simpa using h34'
          have hb92 : ((c.toNat : Int) == 92) = false := by simpa using h92'
          clear h34' h92' h10'
          by_cases hpr : 32 ≤ c.toNat ∧ c.toNat ≤ 126
          · have HE : Hid (Zat c = [c]) := by show Zat c = _; unfold Zat; rw [if_neg h10, if_neg h34, if_pos hpr]
            have hp1 : (32 : Int) ≤ (c.toNat : Int) := by omega
            have hp2 : (c.toNat : Int) ≤ 126 := by omega
            clear h10 h34 hpr
            go_wp2_with (at_builtin; refine wpList_append_own_at _ rfl _ _ 435 rfl w.heap.size 5 i0 _ 1 1 Tryz.underlying435 hi0 hz0 hz1 hz2 rfl (by decide) _ _ _ rfl (Zn hown ((Below.refl _ _).alloc (Nat.le_refl _) _)) ⟨_, 0, none⟩ 1 1 [.int .u8 (c.toNat : Int)] rfl rfl (ZR _ #[.int .u8 (c.toNat : Int)] _) (by simp [Value.oneCell']) (by unfold maxLen; omega) (by omega) (by have := bel.size; simp; omega) ?_; intro v' w2 hown' hgrow hnil hloc)
            go_roundw
            case rel => exact ⟨k + 1, by omega, by go_num, (bel.alloc bel.size _).grown hgrow (by have := bel.size; simp; omega) (fun j hj => (hown.lt j hj).1), out ++ [c], by rw [Lib.byteCells_append, List.length_append]; exact hown', by simp; omega, by rw [← HE.out]; exact HN⟩
            case measure => simp [intOf]; omega
          · have HE : Hid (Zat c = [92, 120, ZjI (c.toNat / 16), ZjI (c.toNat % 16)]) := by show Zat c = _; unfold Zat; rw [if_neg h10, if_neg h34, if_neg hpr]
            have hp' : ¬ ((32 : Int) ≤ (c.toNat : Int) ∧ (c.toNat : Int) ≤ 126) := by omega
            clear h10 h34 hpr
            obtain ⟨q, hq⟩ : ∃ q, q = c.toNat / 16 := ⟨_, rfl⟩
            obtain ⟨r, hr⟩ : ∃ r, r = c.toNat % 16 := ⟨_, rfl⟩
            have hqi : (c.toNat : Int) / 16 = (q : Int) := by omega
            have hri : bits BinOp.and IntKind.u8 (c.toNat : Int) 15 = (r : Int) := by rw [hr]; exact ZqK ⟨c.toNat, hb8⟩
            have hq16 : q < 16 := by omega
            have hr16 : r < 16 := by omega
            have hq16' : (q : Int) < 16 := by omega
            have hr16' : (r : Int) < 16 := by omega
            have hxq := Zoo q hq16
            have hxr := Zoo r hr16
            rw [← hq, ← hr] at HE
            generalize ZjI q = d1 at HE hxq
            generalize ZjI r = d2 at HE hxr
            have HOWN : Hid ((wr.drew.alloc (.cells #[.int .u8 92, .int .u8 120, .int .u8 (d1.toNat : Int), .int .u8 (d2.toNat : Int)] 5)).ownsRow w.heap.size 5 1 (.slice ao out.length co) out.length (Lib.byteCells out)) :=
              Zx hown (fun g hg => Below.heap_alloc wr.drew _ g (hown.lt g hg).2)
            have HC : Hid (∀ (j : Nat) (u : Value), ([.int .u8 92, .int .u8 120, .int .u8 (d1.toNat : Int), .int .u8 (d2.toNat : Int)] : List Value)[j]? = some u → (wr.drew.alloc (.cells #[.int .u8 92, .int .u8 120, .int .u8 (d1.toNat : Int), .int .u8 (d2.toNat : Int)] 5)).cell? ((⟨wr.heap.size, 0, none⟩ : Addr).add j) = some u) := ZR wr.drew #[.int .u8 92, .int .u8 120, .int .u8 (d1.toNat : Int), .int .u8 (d2.toNat : Int)] _
            have HSZ : Hid (w.heap.size ≤ (wr.drew.alloc (.cells #[.int .u8 92, .int .u8 120, .int .u8 (d1.toNat : Int), .int .u8 (d2.toNat : Int)] 5)).heap.size) := by show _ ≤ _; have := bel.size; simp; omega
            have HFIN : Hid (∀ {w2 : World}, (wr.drew.alloc (.cells #[.int .u8 92, .int .u8 120, .int .u8 (d1.toNat : Int), .int .u8 (d2.toNat : Int)] 5)).grownBy w2 (Value.slice ao out.length co).ownBlock → Below w.heap.size w w2) := fun hg => (bel.drew.alloc bel.drew.size _).grown hg (by have := bel.size; simp; omega) (fun j hj => (hown.lt j hj).1)
            clear hq hr hb8
            by_cases hp1 : (32 : Int) ≤ (c.toNat : Int)
            · have hp2 : ¬ (c.toNat : Int) ≤ 126 := by omega
              clear hp'
              go_wp2_with fail
              go_region_law (
                refine ZaN rfl (.tmp 15) (.tmp 22) 435 rfl 5 i0 _ 1 1 Tryz.underlying435 hi0 hz0 hz1 hz2 rfl (by decide) w.heap.size (.slice ao out.length co) out.length _ (by simp [Act.eval, Act.put]) HOWN.out ⟨wr.heap.size, 0, none⟩ 4 4 [.int .u8 92, .int .u8 120, .int .u8 (d1.toNat : Int), .int .u8 (d2.toNat : Int)] (by simp [Act.eval, Act.put]) rfl HC.out (by simp [Value.oneCell']) (by unfold maxLen; omega) (by omega) HSZ.out ?_
                intro v' w2 hown' hgrow hloc)
              all_goals
                go_wp2
                go_roundw
                case rel => exact ⟨k + 1, by omega, by go_num, HFIN.out hgrow, out ++ [92, 120, d1, d2], by rw [Lib.byteCells_append, List.length_append]; exact hown', by simp; omega, by rw [← HE.out]; exact HN⟩
                case measure => simp [intOf]; omega
            · clear hp'
              go_wp2_with fail
              go_region_law (
                refine ZaN rfl (.tmp 15) (.tmp 22) 435 rfl 5 i0 _ 1 1 Tryz.underlying435 hi0 hz0 hz1 hz2 rfl (by decide) w.heap.size (.slice ao out.length co) out.length _ (by simp [Act.eval, Act.put]) HOWN.out ⟨wr.heap.size, 0, none⟩ 4 4 [.int .u8 92, .int .u8 120, .int .u8 (d1.toNat : Int), .int .u8 (d2.toNat : Int)] (by simp [Act.eval, Act.put]) rfl HC.out (by simp [Value.oneCell']) (by unfold maxLen; omega) (by omega) HSZ.out ?_
                intro v' w2 hown' hgrow hloc)
              all_goals
                go_wp2
                go_roundw
                case rel => exact ⟨k + 1, by omega, by go_num, HFIN.out hgrow, out ++ [92, 120, d1, d2], by rw [Lib.byteCells_append, List.length_append]; exact hown', by simp; omega, by rw [← HE.out]; exact HN⟩
                case measure => simp [intOf]; omega
    · obtain rfl : k = s.size := by omega
      have HV : Hid ((⟨(out ++ [34]).toArray⟩ : ByteArray) = Zcn s) := by
        show _ = Zcn s
        unfold Zcn
        rw [← HF.out, List.take_of_length_le (by rw [ZcR]; exact Nat.le_refl _)]
      go_wp2_with (at_builtin; refine wpList_append_own_at _ rfl _ _ 435 rfl w.heap.size 5 i0 _ 1 1 Tryz.underlying435 hi0 hz0 hz1 hz2 rfl (by decide) _ _ _ rfl (Zn hown ((Below.refl _ _).alloc (Nat.le_refl _) _)) ⟨_, 0, none⟩ 1 1 [.int .u8 34] rfl rfl (ZR _ #[.int .u8 34] _) (by simp [Value.oneCell']) (by unfold maxLen; omega) (by omega) (by have := bel.size; simp; omega) ?_; intro v' w2 hown' hgrow hnil hloc; have hcv := Zix (out := out ++ [34]) (by rw [Lib.byteCells_append]; exact hown'); obtain ⟨a2, c2, rfl, _⟩ := ZB hown')
      go_ret
      exact ⟨by rw [HV.out]; rfl, (bel.alloc bel.size _).grown hgrow (by have := bel.size; simp; omega) (fun j hj => (hown.lt j hj).1)⟩
end
end Go.Proofs.YtjdnpgpbeppgjaaGreatDoor
