import Derived.Test.YtlnhnpfgmiffpaaRpDoA
namespace Go.Proofs.Ytlnhnpfgmiffpaa
open Go.RowKit Go.Maps
set_option linter.unusedVariables false
set_option linter.unusedSimpArgs false
attribute [local go_sem ↓] Go.wp_at_zero Go.wp_at_succ
attribute [-go_sem] loadVar
set_option maxHeartbeats 3200000 in
set_option maxRecDepth 100000 in
theorem bo_remove {w : World} {b o B t m p n : Nat} {sv sv' : Value} {rows : List (List Int)} {gn : Int} (h : Bo w b o B t m sv p sv' rows n gn) (hB : B ≤ w.heap.size) (hlen : rows.length ≤ 1000000000) (hw : IntKind.i64.wrap (gn + 1) = gn + 1) (on nn mm mask : Int) (r : List Int) (hr : RowOk r) :
    Calls Try.prog 8 #[.pointer (some ⟨b, o, none⟩), .agg (opL on 4 nn mm mask r).toArray] w fun e w' => e = .returned (.bool true) ∧ (∃ sv2 sv2', Bo w' b o B t m sv2 p sv2' (remRows rows r) n (remG rows r gn) ∧ LocB w sv sv2 ∧ LocB w sv' sv2') ∧ BK.Tch (BoE t m sv p sv') w w' := by
  have O := Lib.hid (opAt_new w on 4 nn mm mask r)
  have HB := Lib.hid (belowA (w := w) (.cells (opL on 4 nn mm mask r).toArray 42))
  have HO := Lib.hid (h.keep HB.out)
  have HL : Hid (w.heap.size ≠ t ∧ w.heap.size ≠ m ∧ sv.ownBlock ≠ some w.heap.size) := by
    refine ⟨?_, ?_, fun e => ?_⟩
    · have := World.rowIs.lt h.rel.rl; omega
    · have := h.rel.map.lt; omega
    · have := (h.rel.own.lt _ e).2; omega
  have HX := Lib.hid (And.intro hr hw)
  have HSZ : Hid (B ≤ (w.alloc (.cells (opL on 4 nn mm mask r).toArray 42)).heap.size) := Nat.le_trans hB HB.out.size
  clear h hr hw
  go_enter Try.func8, Try.ntmps8
  go_upto_region 1 with fail
  generalize w.alloc (.cells (opL on 4 nn mm mask r).toArray 42) = W at O HB HO HSZ ⊢
  have hc1 := run_loadInt O.out.c1
  have hd : Below W.heap.size W W.drew := (Below.refl _ _).drew
  have HOD := Lib.hid (HO.out.keep hd)
  have OD := Lib.hid (O.out.below hd)
  have lT := run_loadPT HOD.out.cT
  have lR := run_loadPR HOD.out.cR
  have lX := OD.out.loadRow HX.out.1.len
  have HH := Lib.hid (remove_one HOD.out.rel (Nat.le_trans HSZ.out hd.size) hlen r HX.out.1 HX.out.2)
  have HSD : Hid (B ≤ W.drew.heap.size) := Nat.le_trans HSZ.out hd.size
  unfold rowV at HH
  clear hd HO O
  go_upto_region 13 with fail
  go_region_law (first
    | (refine step_call rfl 22 Try.func22 (by kernel_rfl) (by kernel_rfl) #[.tmp 97, .tmp 99] _ rfl #[.pointer (some ⟨t, 0, none⟩), .agg (List.map cellI r).toArray] (by simp [Act.eval, Act.put]) HH.out ?_
       rintro ee w2 ⟨rfl, r1, sv2, h1, l1⟩
       refine ⟨_, rfl, ?_⟩
       have H1 := Lib.hid (And.intro r1 (And.intro h1 l1))
       have lR2 := run_loadPR (HOD.out.cR1 r1)
       have lX2 := (OD.out.touch r1 HL.out.1 HL.out.2.1 HL.out.2.2).loadRow HX.out.1.len
       have HH2 := Lib.hid (rremove_one (HOD.out.rf1 r1) (Nat.le_trans HSD.out r1.size) hlen HOD.out.rel.nd r HX.out.1 HX.out.2)
       unfold rowV at HH2
       clear r1 h1 l1)
    | (refine step_call rfl 23 Try.func23 (by kernel_rfl) (by kernel_rfl) #[.tmp 104, .tmp 106] _ rfl #[.pointer (some ⟨p, 0, none⟩), .agg (List.map cellI r).toArray] (by simp [Act.eval, Act.put]) HH2.out ?_
       rintro ee w3 ⟨rfl, r2, sv2', h2, l2⟩
       refine ⟨_, rfl, ?_⟩
       have H2 := Lib.hid (HOD.out.both H1.out.1 H1.out.2.1 H1.out.2.2 r2 h2 l2)
       have HLL : Hid (LocB w sv sv2 ∧ LocB w sv' sv2') := ⟨fun g hg => (H1.out.2.2 g hg).imp id (fun e => Nat.le_trans HB.out.size e), fun g hg => (l2 g hg).imp id (fun e => Nat.le_trans (Nat.le_trans HB.out.size H1.out.1.size) e)⟩
       clear r2 h2 l2))
  all_goals
    go_wp2
    go_ret
    exact ⟨by first | rfl | simp [Act.put], ⟨_, _, H2.out.1, HLL.out⟩, (BK.Tch.of_below (HB.out.drew)).trans H2.out.2⟩
end Go.Proofs.Ytlnhnpfgmiffpaa
