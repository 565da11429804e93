import Derived.Test.YtlnhnpfgmiffpaaG12
import Derived.Test.YtlnhnpfgmiffpaaRpOp
namespace Go.Proofs.Ytlnhnpfgmiffpaa
open Go.RowKit Go.Maps
set_option linter.unusedVariables false
set_option linter.unusedSimpArgs false
attribute [local go_sem ↓] Go.wp_at_zero Go.wp_at_succ

theorem run_loadPT {w : World} {a : Addr} {v : Value} (h : w.cell? a = some v) : (loadVar 24 a).run Try.prog w = .ok v w := by
  simp [loadVar, go_sem, h]
theorem run_loadPR {w : World} {a : Addr} {v : Value} (h : w.cell? a = some v) : (loadVar 25 a).run Try.prog w = .ok v w := by
  simp [loadVar, go_sem, h]
theorem Bo.cR1 {w w1 : World} {b o B t m p n : Nat} {sv sv' : Value} {rows : List (List Int)} {gn : Int} (h : Bo w b o B t m sv p sv' rows n gn) (r1 : RTouch w w1 t m sv) : w1.cell? ⟨b, o + 1, none⟩ = some (.pointer (some ⟨p, 0, none⟩)) :=
  (World.cell?_of_block (w := w) (r1.block b h.bl h.nb.1 h.nb.2.1 h.nb.2.2.2.1)).trans h.cR
theorem OpAt.touch {w w1 : World} {c t m : Nat} {sv : Value} {on k nn mm mask : Int} {r : List Int} (h : OpAt w c on k nn mm mask r) (r1 : RTouch w w1 t m sv) (h1 : c ≠ t) (h2 : c ≠ m) (h3 : sv.ownBlock ≠ some c) : OpAt w1 c on k nn mm mask r := (r1.block c h.lt h1 h2 h3).trans h
attribute [-go_sem] loadVar
set_option maxHeartbeats 3200000 in
set_option maxRecDepth 100000 in
theorem bo_add {w : World} {b o B t m p n : Nat} {sv sv' : Value} {rows : List (List Int)} {gn : Int} (h : Bo w b o B t m sv p sv' rows n gn) (hB : B ≤ w.heap.size) (hlen : rows.length ≤ 1000000000) (on nn mm mask : Int) (r : List Int) (hr : RowOk r) :
    Calls Try.prog 8 #[.pointer (some ⟨b, o, none⟩), .agg (opL on 1 nn mm mask r).toArray] w fun e w' => e = .returned (.bool true) ∧ (∃ sv2 sv2', Bo w' b o B t m sv2 p sv2' (addRows rows r (n : Int)) n gn ∧ LocB w sv sv2 ∧ LocB w sv' sv2') ∧ BK.Tch (BoE t m sv p sv') w w' := by
  have O := Lib.hid (opAt_new w on 1 nn mm mask r)
  have HB := Lib.hid (belowA (w := w) (.cells (opL on 1 nn mm mask r).toArray 42))
  have HO := Lib.hid (h.keep HB.out)
  have HL : Hid (w.heap.size ≠ t ∧ w.heap.size ≠ m ∧ sv.ownBlock ≠ some w.heap.size) := by
    refine ⟨?_, ?_, fun e => ?_⟩
    · have := World.rowIs.lt h.rel.rl; omega
    · have := h.rel.map.lt; omega
    · have := (h.rel.own.lt _ e).2; omega
  have HX := Lib.hid hr
  have HSZ : Hid (B ≤ (w.alloc (.cells (opL on 1 nn mm mask r).toArray 42)).heap.size) := Nat.le_trans hB HB.out.size
  clear h hr
  go_enter Try.func8, Try.ntmps8
  go_upto_region 1 with fail
  generalize w.alloc (.cells (opL on 1 nn mm mask r).toArray 42) = W at O HB HO HSZ ⊢
  have hc1 := run_loadInt O.out.c1
  have hd : Below W.heap.size W W.drew := (Below.refl _ _).drew
  have HOD := Lib.hid (HO.out.keep hd)
  have OD := Lib.hid (O.out.below hd)
  have lT := run_loadPT HOD.out.cT
  have lX := OD.out.loadRow HX.out.len
  have HA := Lib.hid (add_one HOD.out.rel (Nat.le_trans HSZ.out hd.size) hlen r HX.out)
  unfold rowV at HA
  clear HO O hd
  go_upto_region 3 with fail
  go_region_law (
    refine step_call rfl 16 Try.func16 (by kernel_rfl) (by kernel_rfl) #[.tmp 21, .tmp 23] _ rfl #[.pointer (some ⟨t, 0, none⟩), .agg (List.map cellI r).toArray] (by simp [Act.eval, Act.put]) HA.out ?_
    rintro ee w2 ⟨rfl, r1, sv2, h1, l1⟩
    refine ⟨_, rfl, ?_⟩
    have H1 := Lib.hid (And.intro r1 (And.intro h1 l1))
    clear r1 h1 l1)
  all_goals
    have hd2 : Below w2.heap.size w2 w2.drew := (Below.refl _ _).drew
    have HR1 : Hid (RTouch W.drew w2.drew t m sv) := H1.out.1.trans (RTouch.of hd2)
    have HRL := Lib.hid (H1.out.2.1.keep hd2)
    have HLC := Lib.hid H1.out.2.2
    have lR := run_loadPR (HOD.out.cR1 HR1.out)
    have lX2 := (OD.out.touch HR1.out HL.out.1 HL.out.2.1 HL.out.2.2).loadRow HX.out.len
    have HA2 := Lib.hid (radd_one (HOD.out.rf1 HR1.out) (Nat.le_trans (Nat.le_trans HSZ.out (by simp)) HR1.out.size) hlen r HX.out)
    unfold rowV at HA2
    clear HA lT lX hc1 H1 hd2
    go_upto_region 4 with fail
    go_region_law (
      refine step_call rfl 17 Try.func17 (by kernel_rfl) (by kernel_rfl) #[.tmp 31, .tmp 33] _ rfl #[.pointer (some ⟨p, 0, none⟩), .agg (List.map cellI r).toArray] (by simp [Act.eval, Act.put]) HA2.out ?_
      rintro ee w3 ⟨rfl, r2, sv2', h2, l2⟩
      refine ⟨_, rfl, ?_⟩
      have H2 := Lib.hid (HOD.out.both HR1.out HRL.out HLC.out r2 h2 l2)
      have HLL : Hid (LocB w sv sv2 ∧ LocB w sv' sv2') := ⟨fun g hg => (HLC.out g hg).imp id (fun e => Nat.le_trans HB.out.size e), fun g hg => (l2 g hg).imp id (fun e => Nat.le_trans (Nat.le_trans HB.out.size HR1.out.size) e)⟩
      clear r2 h2 l2)
    all_goals
      have HF : Hid (BK.Tch (BoE t m sv p sv') w w3) := (BK.Tch.of_below (HB.out.drew)).trans H2.out.2
      clear HA2 lR lX2
      generalize addX rows r (n : Int) = xb
      generalize addE r (n : Int) = ev
      go_wp2
      go_ret
      exact ⟨by simp, ⟨_, _, H2.out.1, HLL.out⟩, HF.out⟩
end Go.Proofs.Ytlnhnpfgmiffpaa
