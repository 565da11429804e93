import Derived.Test.YtlnhnpfgmiffpaaG5
import Derived.Test.YtlnhnpfgmiffpaaG3
import Derived.Deep.QuietTactic
import Derived.BigQuiet
section
namespace Go.Proofs.Ytlnhnpfgmiffpaa
open Go.RowKit Go.Maps
set_option linter.unusedVariables false
set_option linter.unusedSimpArgs false
attribute [local go_sem ↓] Go.wp_at_zero Go.wp_at_succ

/-- the reference's relation in memory: its block p, its list sv; all of its own from B on -/
structure Rf (w : World) (B p : Nat) (sv : Value) (rows : List (List Int)) (ar tk : Int) : Prop where
  rl : RL w p 57 [.bool true, .int .i64 ar, sv, .int .i64 tk]
  own : w.ownsRow B 40 24 sv rows.length (flatR rows)
  ok : ∀ r ∈ rows, RowOk r
  lo : B ≤ p
  ne : ∀ g, sv.ownBlock = some g → g ≠ p
theorem Rf.keep {w w' : World} {B p : Nat} {sv : Value} {rows : List (List Int)} {ar tk : Int} (h : Rf w B p sv rows ar tk) (hb : Below w.heap.size w w') : Rf w' B p sv rows ar tk :=
  ⟨h.rl.below hb, own_below h.own hb, h.ok, h.lo, h.ne⟩
set_option maxHeartbeats 800000 in
set_option maxRecDepth 100000 in
theorem rthere_yes {w : World} {B p : Nat} {sv : Value} {rows : List (List Int)} {ar tk : Int} (h : Rf w B p sv rows ar tk) : Calls Try.prog 15 #[.pointer (some ⟨p, 0, none⟩)] w fun e w' => e = .returned (.bool true) ∧ w' = w := by
  have c0 := h.rl.at (j := 0) rfl
  clear h
  go_enter Try.func15, Try.ntmps15
  go_wp2
  go_ret
  exact ⟨rfl, rfl⟩
set_option maxHeartbeats 800000 in
set_option maxRecDepth 100000 in
theorem rthere_nil (w : World) : Calls Try.prog 15 #[.pointer none] w fun e w' => e = .returned (.bool false) ∧ w' = w := by
  go_enter Try.func15, Try.ntmps15
  go_wp2
  go_ret
  exact ⟨rfl, rfl⟩
set_option maxHeartbeats 800000 in
set_option maxRecDepth 100000 in
theorem rlen_yes {w : World} {B p : Nat} {sv : Value} {rows : List (List Int)} {ar tk : Int} (h : Rf w B p sv rows ar tk) : Calls Try.prog 10 #[.pointer (some ⟨p, 0, none⟩)] w fun e w' => e = .returned (.int .i64 (rows.length : Int)) ∧ w' = w := by
  have c0 := h.rl.at (j := 2) rfl
  obtain ⟨a, c, rfl, _⟩ := own_form h.own
  have l0 := run_loadRows c0
  have HT := Lib.hid (rthere_yes h)
  clear h
  go_enter Try.func10, Try.ntmps10
  go_wp2_with fail
  refine HT.out.mono ?_
  rintro e w1 ⟨rfl, rfl⟩
  go_wp2
  go_ret
  exact ⟨rfl, rfl⟩
set_option maxHeartbeats 800000 in
set_option maxRecDepth 100000 in
theorem rlen_nil (w : World) : Calls Try.prog 10 #[.pointer none] w fun e w' => e = .returned (.int .i64 0) ∧ w' = w := by
  have HT := Lib.hid (rthere_nil w)
  go_enter Try.func10, Try.ntmps10
  go_wp2_with fail
  refine HT.out.mono ?_
  rintro e w1 ⟨rfl, rfl⟩
  go_wp2
  go_ret
  exact ⟨rfl, rfl⟩
set_option maxHeartbeats 800000 in
set_option maxRecDepth 100000 in
theorem rarity_yes {w : World} {B p : Nat} {sv : Value} {rows : List (List Int)} {ar tk : Int} (h : Rf w B p sv rows ar tk) : Calls Try.prog 48 #[.pointer (some ⟨p, 0, none⟩)] w fun e w' => e = .returned (.int .i64 ar) ∧ w' = w := by
  have c0 := h.rl.at (j := 1) rfl
  have l0 := run_loadInt c0
  have HT := Lib.hid (rthere_yes h)
  clear h
  go_enter Try.func48, Try.ntmps48
  go_wp2_with fail
  refine HT.out.mono ?_
  rintro e w1 ⟨rfl, rfl⟩
  go_wp2
  go_ret
  exact ⟨rfl, rfl⟩
set_option maxHeartbeats 800000 in
set_option maxRecDepth 100000 in
theorem rgone_yes {w : World} {B p : Nat} {sv : Value} {rows : List (List Int)} {ar tk : Int} (h : Rf w B p sv rows ar tk) : Calls Try.prog 50 #[.pointer (some ⟨p, 0, none⟩)] w fun e w' => e = .returned (.int .i64 tk) ∧ w' = w := by
  have c0 := h.rl.at (j := 3) rfl
  have l0 := run_loadInt c0
  have HT := Lib.hid (rthere_yes h)
  clear h
  go_enter Try.func50, Try.ntmps50
  go_wp2_with fail
  refine HT.out.mono ?_
  rintro e w1 ⟨rfl, rfl⟩
  go_wp2
  go_ret
  exact ⟨rfl, rfl⟩
set_option maxHeartbeats 800000 in
set_option maxRecDepth 100000 in
theorem rnew_any (n : Int) (h0 : 0 ≤ n) (h1 : n ≤ 24) (w : World) : Calls Try.prog 5 #[.int .i64 n] w fun e w' => ∃ p, e = .returned (.tuple #[.pointer (some ⟨p, 0, none⟩), .int .i64 0]) ∧ Rf w' w.heap.size p (.slice none 0 0) [] n 0 ∧ Below w.heap.size w w' := by
  go_enter Try.func5, Try.ntmps5
  go_wp2
  go_ret2
  exact ⟨_, rfl, ⟨rl_new w #[.bool true, .int .i64 n, .slice none 0 0, .int .i64 0] 57, World.ownsRow_nil _ _ _ _, fun r hr => by simp at hr, Nat.le_refl _, fun g hg => by cases hg⟩, belowA _⟩
set_option maxHeartbeats 800000 in
set_option maxRecDepth 100000 in
theorem rnew_bad (n : Int) (h : n < 0 ∨ 24 < n) (w : World) : Calls Try.prog 5 #[.int .i64 n] w fun e w' => e = .returned (.tuple #[.pointer none, .int .i64 1]) ∧ w' = w := by
  by_cases h0 : n < 0
  · clear h
    go_enter Try.func5, Try.ntmps5
    go_wp2
    go_ret2
    exact ⟨rfl, rfl⟩
  · have h1 : 24 < n := by omega
    clear h
    go_enter Try.func5, Try.ntmps5
    go_wp2
    go_ret2
    exact ⟨rfl, rfl⟩
attribute [-go_sem] loadVar
set_option maxRecDepth 100000 in
theorem geE (x y : Operand) (A B : Array Value) (u : World) : (eqGuard .eql 40 x y (.agg A) (.agg B)).run Try.prog u = .ok () u := by
  have h : Try.prog.eqGuardType Try.prog.depth 40 = false := by kernel_rfl
  unfold eqGuard
  simp [h, (show Sem.run Try.prog program u = .ok Try.prog u from rfl), Result.andThen]
theorem own_some {w : World} {B : Nat} {e : TypeId} {a : Option Addr} {k n c : Nat} {xs : List Value} (h : w.ownsRow B e k (.slice a n c) n xs) (hn : 0 < n) : ∃ g, a = some ⟨g, 0, none⟩ := by
  rcases h.2 with ⟨h1, h2⟩ | ⟨g, cap, cur, hv, _⟩
  · omega
  · cases hv; exact ⟨g, rfl⟩
set_option maxHeartbeats 1600000 in
set_option maxRecDepth 100000 in
theorem place_any {w : World} {B p : Nat} {sv : Value} {rows : List (List Int)} {ar tk : Int} (h : Rf w B p sv rows ar tk) (hlen : rows.length ≤ 1000000000) (r : List Int) (hr : RowOk r) : Calls Try.prog 43 #[.pointer (some ⟨p, 0, none⟩), rowV r] w fun e w' => ∃ k : Int, e = .returned (.int .i64 k) ∧ ((k = -1 ∧ r ∉ rows) ∨ ∃ i : Nat, k = i ∧ rows[i]? = some r) ∧ Below w.heap.size w w' := by
  have HB := Lib.hid (belowA (w := w) (.cells (rowC r) 40))
  have HA := Lib.hid (rowAt_new w r)
  have HR := Lib.hid (h.keep HB.out)
  have HX := Lib.hid hr
  clear h hr
  unfold rowV
  go_enter Try.func43, Try.ntmps43
  go_upto_region 1 with fail
  generalize w.alloc (.cells (rowC r) 40) = W at HB HA HR ⊢
  obtain ⟨a, c, rfl, _⟩ := own_form HR.out.own
  go_wp2
  go_loopw [5] (fun i wr => ∃ k : Nat, k ≤ rows.length ∧ i = .int .i64 k ∧ Hid (Below W.heap.size W wr) ∧ Hid (∀ j, j < k → rows[j]? ≠ some r)) (fun i _ => rows.length - (intOf i).toNat)
  case atStart => exact ⟨0, Nat.zero_le _, rfl, Below.refl _ _, fun j hj => by omega⟩
  case round =>
    obtain ⟨k, hk, rfl, HBW, HN⟩ := hrel
    have HT := Lib.hid (rlen_yes (HR.out.keep HBW.out))
    by_cases hlt : k < rows.length
    · have hlt' : (k : Int) < (rows.length : Int) := by omega
      have hk0 : (0 : Int) ≤ (k : Int) := by omega
      obtain ⟨g, rfl⟩ := own_some HR.out.own (by omega)
      go_wp2_with fail
      refine HT.out.mono ?_
      rintro e w1 ⟨rfl, rfl⟩
      clear HT
      have hi : rows[k]? = some rows[k] := List.getElem?_eq_getElem hlt
      have HI := Lib.hid hi
      have l0 := fun n => run_loadRows ((HR.out.keep (below_drewV HBW.out n)).rl.at (j := 2) rfl)
      have l1 := fun n => run_loadAtRow rfl (HR.out.keep (below_drewV HBW.out n)).own (fun x hx => (HR.out.ok x hx).len) hi
      have l2 := fun n => run_loadRow (HA.out.below (below_drewV HBW.out n)) HX.out.len
      have hq : ∀ u : World, (binOp .eql 40 (rowV rows[k]) (rowV r)).run Try.prog u = .ok (.bool (decide (rows[k] = r))) u := fun u => run_eqRow (HR.out.ok _ (List.getElem_mem hlt)) HX.out u
      unfold rowV at l1 l2 hq
      have hge := fun x y u => geE x y (List.map cellI rows[k]).toArray (List.map cellI r).toArray u
      clear hi
      by_cases he : rows[k] = r
      · rw [decide_eq_true he] at hq
        have HE := Lib.hid he
        clear he
        generalize rows[k] = rk at l1 hq hge HI HE
        go_wp2_with fail
        go_quiet (fail)
        go_wp2
        go_ret
        exact ⟨_, rfl, .inr ⟨k, rfl, by rw [HI.out, HE.out]⟩, HB.out.trans ((below_drewV HBW.out _).mono HB.out.size)⟩
      · rw [decide_eq_false he] at hq
        have HE := Lib.hid he
        clear he
        generalize rows[k] = rk at l1 hq hge HI HE
        go_wp2_with fail
        go_quiet (fail)
        go_wp2
        go_roundw
        case rel => exact ⟨k + 1, by omega, by go_num, below_drewV HBW.out _, fun j hj => by
          by_cases e : j < k
          · exact HN.out j e
          · obtain rfl : j = k := by omega
            rw [HI.out]; exact fun e => HE.out (Option.some.inj e)⟩
        case measure => simp [intOf]; omega
    · obtain rfl : k = rows.length := by omega
      go_wp2_with fail
      refine HT.out.mono ?_
      rintro e w1 ⟨rfl, rfl⟩
      clear HT
      go_wp2
      go_ret
      exact ⟨_, rfl, .inl ⟨rfl, fun hm => by
        obtain ⟨j, hj, e⟩ := List.getElem_of_mem hm
        exact HN.out j hj (by rw [List.getElem?_eq_getElem hj, e])⟩, HB.out.trans (HBW.out.mono HB.out.size)⟩
set_option maxHeartbeats 800000 in
set_option maxRecDepth 100000 in
theorem rhas_any {w : World} {B p : Nat} {sv : Value} {rows : List (List Int)} {ar tk : Int} (h : Rf w B p sv rows ar tk) (hlen : rows.length ≤ 1000000000) (r : List Int) (hr : RowOk r) (x : Bool) (hx : x = true ↔ r ∈ rows) : Calls Try.prog 19 #[.pointer (some ⟨p, 0, none⟩), rowV r] w fun e w' => e = .returned (.bool x) ∧ Below w.heap.size w w' := by
  have HB := Lib.hid (belowA (w := w) (.cells (rowC r) 40))
  have HA := Lib.hid (rowAt_new w r)
  have HR := Lib.hid (h.keep HB.out)
  have HX := Lib.hid hr
  have HI := Lib.hid hx
  clear h hr hx
  unfold rowV
  go_enter Try.func19, Try.ntmps19
  go_upto_region 1 with fail
  generalize w.alloc (.cells (rowC r) 40) = W at HB HA HR ⊢
  have l1 := run_loadRow HA.out HX.out.len
  unfold rowV at l1
  have HP := Lib.hid (place_any HR.out hlen r HX.out)
  unfold rowV at HP
  go_wp2_with fail
  refine HP.out.mono ?_
  rintro e w2 ⟨k, rfl, hk, b⟩
  have HB2 := Lib.hid (HB.out.trans (b.mono HB.out.size))
  clear b HP l1
  rcases hk with ⟨rfl, hn⟩ | ⟨i, rfl, hi⟩
  · obtain rfl : x = false := by
      cases x
      · rfl
      · exact absurd (HI.out.1 rfl) hn
    clear hn HI
    go_wp2
    go_ret
    exact ⟨rfl, HB2.out⟩
  · obtain rfl : x = true := HI.out.2 (List.mem_of_getElem? hi)
    have hi0 : (0 : Int) ≤ (i : Int) := by omega
    clear hi HI
    go_wp2
    go_ret
    exact ⟨rfl, HB2.out⟩
end Go.Proofs.Ytlnhnpfgmiffpaa
end
section
namespace Go.Proofs.Ytlnhnpfgmiffpaa
open Go.RowKit Go.Maps
set_option linter.unusedVariables false
set_option linter.unusedSimpArgs false
attribute [local go_sem ↓] Go.wp_at_zero Go.wp_at_succ

/-- a row more -/
theorem rf_grow {W u w3 : World} {B p : Nat} {sv v' : Value} {rows : List (List Int)} {r : List Int} {ar tk : Int}
    (h : Rf W B p sv rows ar tk) (hr : RowOk r) (hWu : Below W.heap.size W u)
    (hown : w3.ownsRow B 40 24 v' (rows.length + 1) (flatR rows ++ r.map cellI)) (hg : u.grownBy w3 sv.ownBlock) (hloc : v'.ownBlock = sv.ownBlock ∨ v'.ownBlock = some u.heap.size) :
    Rf (w3.setCell ⟨p, 2, none⟩ v') B p v' (rows ++ [r]) ar tk ∧ w3.cell? ⟨p, 2, none⟩ = some sv ∧ w3.frozen? ⟨p, 2, none⟩ = false ∧ RTouch W (w3.setCell ⟨p, 2, none⟩ v') p p sv := by
  have tl := World.rowIs.lt h.rl
  have hz := hWu.size
  have nt : some p ≠ sv.ownBlock := fun e => h.ne p e.symm rfl
  have rl3 : RL w3 p 57 [.bool true, .int .i64 ar, sv, .int .i64 tk] := World.rowIs.of_block h.rl ((hg.block p (by omega) nt).trans (hWu.block p tl))
  have ne3 : ∀ g, v'.ownBlock = some g → g ≠ p := fun g hgg => by
    rcases hloc with e | e
    · exact h.ne g (by rw [← e]; exact hgg)
    · rw [e] at hgg
      have := Option.some.inj hgg
      omega
  refine ⟨⟨rl3.set 2 v', ?_, fun x hx => ?_, h.lo, ne3⟩, rl3.at (j := 2) rfl, World.rowIs.frozen rl3 2, ?_⟩
  · rw [List.length_append]
    have e : flatR (rows ++ [r]) = flatR rows ++ r.map cellI := by simp [flatR]
    rw [e]
    exact own_of_block hown (fun g hgg => heap_setCell_other _ _ _ _ (by exact ne3 g hgg))
  · rcases List.mem_append.1 hx with hx | hx
    · exact h.ok x hx
    · rw [List.mem_singleton.1 hx]; exact hr
  · exact ⟨hg.os.trans hWu.os, hg.tape.trans hWu.tape, hg.output.trans hWu.output, Nat.le_trans hz (Nat.le_trans hg.size (by simp)), fun k hk hkt _ hks => (Below.heap_setCell _ _ _ _ hkt).trans ((hg.block k (Nat.lt_of_lt_of_le hk hz) (fun e => hks e.symm)).trans (hWu.block k hk))⟩
attribute [-go_sem] loadVar
set_option maxHeartbeats 3200000 in
set_option maxRecDepth 100000 in
theorem radd_any {w : World} {B p : Nat} {sv : Value} {rows : List (List Int)} {ar tk : Int} (h : Rf w B p sv rows ar tk) (hB : B ≤ w.heap.size) (hlen : rows.length ≤ 1000000000) (r : List Int) (hr : RowOk r) :
    Calls Try.prog 17 #[.pointer (some ⟨p, 0, none⟩), rowV r] w fun e w' =>
      (fitB r ar = false ∧ e = .returned (.tuple #[.bool false, .int .i64 100]) ∧ Below w.heap.size w w') ∨
      (fitB r ar = true ∧ r ∈ rows ∧ e = .returned (.tuple #[.bool false, .int .i64 0]) ∧ Below w.heap.size w w') ∨
      (fitB r ar = true ∧ r ∉ rows ∧ e = .returned (.tuple #[.bool true, .int .i64 0]) ∧ RTouch w w' p p sv ∧ ∃ sv', Rf w' B p sv' (rows ++ [r]) ar tk ∧ ∀ g, sv'.ownBlock = some g → sv.ownBlock = some g ∨ w.heap.size ≤ g) := by
  obtain ⟨i0, hi0, hz0, hz1, hz2⟩ := info_parts infoRowB
  have hb := (Below.refl w.heap.size w).alloc (Nat.le_refl _) (.cells (rowC r) 40)
  have HB := Lib.hid hb
  have HA := Lib.hid (rowAt_new w r)
  have HR := Lib.hid (h.keep hb)
  have HT := Lib.hid (rthere_yes (h.keep hb))
  have HX := Lib.hid hr
  have hzW : w.heap.size ≤ (w.alloc (.cells (rowC r) 40)).heap.size := by simp
  clear h hb
  unfold rowV
  go_enter Try.func17, Try.ntmps17
  go_upto_region 1 with fail
  generalize w.alloc (.cells (rowC r) 40) = W at HB HA HR HT hzW ⊢
  go_wp2_with fail
  refine HT.out.mono ?_
  rintro e w1 ⟨rfl, rfl⟩
  have HR1 := Lib.hid (HR.out.keep (Below.refl _ _).drew)
  have HA1 := Lib.hid (HA.out.below (Below.refl _ _).drew)
  have l1 := run_loadInt (HR1.out.rl.at (j := 1) rfl)
  have l2 := run_loadRow HA1.out HX.out.len
  unfold rowV at l2
  have HF := fun u => Lib.hid (right_any r HX.out.len ar u)
  unfold rowV at HF
  clear HT
  go_upto_region 3 with fail
  go_region_law (
    refine step_call rfl 41 Try.func41 (by kernel_rfl) (by kernel_rfl) #[.tmp 9, .tmp 13] _ rfl #[.agg (List.map cellI r).toArray, .int .i64 ar] (by simp [Act.eval, Act.put]) (HF _).out ?_
    rintro ee w2 ⟨rfl, b2⟩
    refine ⟨_, rfl, ?_⟩
    have HB2 := Lib.hid b2
    clear b2)
  all_goals
    have HR2 := Lib.hid (HR1.out.keep HB2.out)
    have HA2 := Lib.hid (HA1.out.below HB2.out)
    have HBW := Lib.hid (HB.out.drew.trans (HB2.out.mono HB.out.drew.size))
    have l2' := run_loadRow HA2.out HX.out.len
    unfold rowV at l2'
    clear l1 l2 HR1 HA1 HB2 HF HB HA HR
    cases hf : fitB r ar with
    | false =>
      go_wp2
      go_ret2
      exact .inl ⟨hf, rfl, HBW.out⟩
    | true =>
      by_cases hm : r ∈ rows
      · have HP := Lib.hid (rhas_any HR2.out hlen r HX.out true ⟨fun _ => hm, fun _ => rfl⟩)
        unfold rowV at HP
        have HM := Lib.hid hm
        clear HR2 HA2 hm
        go_wp2_with fail
        refine HP.out.mono ?_
        rintro ee w3 ⟨rfl, b3⟩
        have HB3 := Lib.hid (HBW.out.trans (b3.mono HBW.out.size))
        clear b3
        go_wp2
        go_ret2
        exact .inr (.inl ⟨hf, HM.out, rfl, HB3.out⟩)
      · have HP := Lib.hid (rhas_any HR2.out hlen r HX.out false ⟨fun e => (by cases e), fun e => absurd e hm⟩)
        unfold rowV at HP
        have HM := Lib.hid hm
        clear hm
        go_wp2_with fail
        refine HP.out.mono ?_
        rintro ee wc ⟨rfl, b3⟩
        have HBc := Lib.hid (HBW.out.trans (b3.mono HBW.out.size))
        have HRc := Lib.hid (HR2.out.keep b3)
        have HAc := Lib.hid (HA2.out.below b3)
        clear b3 HR2 HA2 HBW HP l2'
        obtain ⟨ao, co, hsv, _⟩ := own_form HRc.out.own
        subst hsv
        have hd : Below wc.heap.size wc wc.drew := (Below.refl _ _).drew
        have hau : Below wc.drew.heap.size wc.drew (wc.drew.alloc (.cells (rowC r) 40)) := (Below.refl _ _).alloc (Nat.le_refl _) _
        have HRD := Lib.hid (HRc.out.keep hd)
        have HOWN := Lib.hid (own_below (own_below HRc.out.own hd) hau)
        have HAU := Lib.hid hau
        have HSZ : Hid (B ≤ (wc.drew.alloc (.cells (rowC r) 40)).heap.size) := by show _ ≤ _; have := HBc.out.size; simp; omega
        have HBW : Hid (Below w.heap.size w wc.drew) := HBc.out.drew
        have l0' := run_loadRows (HRD.out.rl.at (j := 2) rfl)
        have l0'' : (loadVar 49 ⟨p, 2, none⟩).run Try.prog (wc.alloc (.cells (List.map cellI r).toArray 40)).drew = .ok (.slice ao rows.length co) (wc.alloc (.cells (List.map cellI r).toArray 40)).drew := run_loadRows ((HRD.out.rl.below hau).at (j := 2) rfl)
        have l2' := run_loadRow (HAc.out.below hd) HX.out.len
        have hrl : (r.map cellI).length = 1 * 24 := by rw [List.length_map, HX.out.len]
        have HC : Hid (∀ (j : Nat) (u : Value), (r.map cellI)[j]? = some u → (wc.drew.alloc (.cells (rowC r) 40)).cell? ((⟨wc.heap.size, 0, none⟩ : Addr).add j) = some u) := fun j u hu => lit_news wc.drew (rowC r) 40 j u (by simpa using hu)
        have HONE : Hid (∀ u ∈ r.map cellI, u.oneCell' = true) := fun u hu => by
          obtain ⟨x, _, rfl⟩ := List.mem_map.1 hu
          rfl
        have hfold := fold_row HX.out.len (A := #[.int .i32 0, .int .i32 0, .int .i32 0, .int .i32 0, .int .i32 0, .int .i32 0, .int .i32 0, .int .i32 0, .int .i32 0, .int .i32 0, .int .i32 0, .int .i32 0, .int .i32 0, .int .i32 0, .int .i32 0, .int .i32 0, .int .i32 0, .int .i32 0, .int .i32 0, .int .i32 0, .int .i32 0, .int .i32 0, .int .i32 0, .int .i32 0]) rfl
        unfold rowV at l2'
        clear hd hau HAc HRc HBc
        go_upto_region 7 with fail
        go_region_law (
          refine step_append_own rfl (.tmp 23) (.tmp 25) 49 rfl 40 i0 _ 24 96 Try.underlying49 hi0 hz0 hz1 hz2 rfl (by decide) B (.slice ao rows.length co) rows.length _ (by simp [Act.eval, Act.put]) HOWN.out ⟨wc.heap.size, 0, none⟩ 1 1 (r.map cellI) (by simp [Act.eval, Act.put]) hrl HC.out HONE.out (by unfold maxLen; omega) (by omega) HSZ.out ?_
          intro v' w3 hown' hgrow hloc
          obtain ⟨hfin, m4, f4, hbf⟩ := rf_grow HRD.out HX.out HAU.out hown' hgrow hloc
          obtain ⟨a2, c2, hv', _⟩ := own_form hown'
          subst hv'
          have HFIN := Lib.hid hfin
          have HBF := Lib.hid hbf
          have HLOC := Lib.hid hloc
          clear hown' hgrow hloc hfin hbf)
        all_goals
          go_wp2
          go_ret2
          refine .inr (.inr ⟨hf, HM.out, rfl, (RTouch.of HBW.out).trans HBF.out, _, HFIN.out, fun g hg => ?_⟩)
          rcases HLOC.out with e | e
          · exact .inl (e ▸ hg)
          · rw [e] at hg
            have h1 := Option.some.inj hg
            have h2 := HBW.out.size
            simp at h1 h2
            exact .inr (by omega)
end Go.Proofs.Ytlnhnpfgmiffpaa
end
section
namespace Go.Proofs.Ytlnhnpfgmiffpaa
open Go.RowKit Go.Maps
set_option linter.unusedVariables false
set_option linter.unusedSimpArgs false
attribute [local go_sem ↓] Go.wp_at_zero Go.wp_at_succ

/-- one row more at the end of a list of the call's own -/
theorem push_row {w0 wr : World} {B : Nat} {o : Value} {os : List (List Int)} (own : wr.ownsRow B 40 24 o os.length (flatR os)) (bel : Below B w0 wr) (hB : B ≤ wr.heap.size) (r : List Int) (hr : r.length = 24) (hl : os.length + 1 ≤ 1000000000) (ty : TypeId) :
    ∃ a c w3, (Builtin.append_ #[49, 49] ty #[o, .slice (some ⟨wr.heap.size, 0, none⟩) 1 1]).run Try.prog (wr.alloc (.cells (rowC r) 40)) = .ok (.slice a (os ++ [r]).length c) w3 ∧ w3.ownsRow B 40 24 (.slice a (os ++ [r]).length c) (os ++ [r]).length (flatR (os ++ [r])) ∧ Below B w0 w3 := by
  have hb := belowA (w := wr) (.cells (rowC r) 40)
  have hx : LrC (wr.alloc (.cells (rowC r) 40)) (.slice (some ⟨wr.heap.size, 0, none⟩) [r].length 1) [r] := by
    refine ⟨fun x hx => by rw [List.mem_singleton.1 hx]; exact hr, _, _, rfl, fun _ => ⟨wr.heap.size, 0, rfl, by simp, fun j u hu => ?_⟩⟩
    have := lit_news wr (rowC r) 40 j u (by simpa [flatR] using hu)
    rw [Nat.zero_add]
    rw [show (⟨wr.heap.size, 0, none⟩ : Addr).add j = ⟨wr.heap.size, j, none⟩ from by simp [Addr.add]; omega] at this
    exact this
  obtain ⟨o', w3, hrun, hown, hbel, _, _, _⟩ := app_rowsL rfl (own_below own hb) (bel.trans (hb.mono hB)) (Nat.le_trans hB hb.size) hx (by simpa using hl) ty
  have e : os.length + [r].length = (os ++ [r]).length := by simp
  rw [e] at hown
  obtain ⟨a, c, rfl, _⟩ := own_form hown
  exact ⟨a, c, w3, hrun, hown, hbel⟩
theorem erase_other {rows : List (List Int)} {k i : Nat} (hk : k < rows.length) (h : k ≠ i) : (rows.take (k + 1)).eraseIdx i = (rows.take k).eraseIdx i ++ [rows[k]] := by
  have e : rows.take (k + 1) = rows.take k ++ [rows[k]] := by rw [List.take_add_one, List.getElem?_eq_getElem hk]; rfl
  have hl : (rows.take k).length = k := by simp; omega
  rw [e]
  by_cases h1 : i < k
  · rw [List.eraseIdx_append_of_lt_length (by omega)]
  · rw [List.eraseIdx_append_of_length_le (by omega), List.eraseIdx_of_length_le (by simp; omega), List.eraseIdx_of_length_le (by omega)]
theorem erase_here {rows : List (List Int)} {k : Nat} (hk : k < rows.length) : (rows.take (k + 1)).eraseIdx k = (rows.take k).eraseIdx k := by
  have e : rows.take (k + 1) = rows.take k ++ [rows[k]] := by rw [List.take_add_one, List.getElem?_eq_getElem hk]; rfl
  have hl : (rows.take k).length = k := by simp; omega
  rw [e, List.eraseIdx_append_of_length_le (by omega), hl, Nat.sub_self, List.eraseIdx_of_length_le (l := rows.take k) (by omega)]
  simp
theorem erase_len (rows : List (List Int)) (k i : Nat) : ((rows.take k).eraseIdx i).length ≤ k := by
  refine Nat.le_trans (List.Sublist.length_le (List.eraseIdx_sublist _ _)) ?_
  simp; omega
theorem nodup_at {rows : List (List Int)} (nd : rows.Nodup) {i j : Nat} {r : List Int} (hi : rows[i]? = some r) (hj : rows[j]? = some r) : i = j := by
  obtain ⟨h1, e1⟩ := List.getElem?_eq_some_iff.1 hi
  obtain ⟨h2, e2⟩ := List.getElem?_eq_some_iff.1 hj
  rcases Nat.lt_trichotomy i j with h | h | h
  · exact absurd (e1.trans e2.symm) (List.pairwise_iff_getElem.1 nd i j h1 h2 h)
  · exact h
  · exact absurd (e2.trans e1.symm) (List.pairwise_iff_getElem.1 nd j i h2 h1 h)
theorem own_lowR {w : World} {B B' : Nat} {e : TypeId} {k : Nat} {v : Value} {n : Nat} {xs : List Value} (h : w.ownsRow B e k v n xs) (hB : B' ≤ B) : w.ownsRow B' e k v n xs := by
  obtain ⟨hl, h1 | ⟨g, cap, cur, rfl, h0, hb, r⟩⟩ := h
  · exact ⟨hl, .inl h1⟩
  · exact ⟨hl, .inr ⟨g, cap, cur, rfl, Nat.le_trans hB h0, hb, r⟩⟩
attribute [-go_sem] loadVar Builtin.append_
set_option maxHeartbeats 3200000 in
set_option maxRecDepth 100000 in
theorem rremove_not {w : World} {B p : Nat} {sv : Value} {rows : List (List Int)} {ar tk : Int} (h : Rf w B p sv rows ar tk) (hlen : rows.length ≤ 1000000000) (r : List Int) (hr : RowOk r) (hx : r ∉ rows) :
    Calls Try.prog 23 #[.pointer (some ⟨p, 0, none⟩), rowV r] w fun e w' => e = .returned (.bool false) ∧ Below w.heap.size w w' := by
  have HB := Lib.hid (belowA (w := w) (.cells (rowC r) 40))
  have HA := Lib.hid (rowAt_new w r)
  have HR := Lib.hid (h.keep HB.out)
  have HX := Lib.hid (And.intro hr hx)
  clear h hr hx
  unfold rowV
  go_enter Try.func23, Try.ntmps23
  go_upto_region 1 with fail
  generalize w.alloc (.cells (rowC r) 40) = W at HB HA HR ⊢
  have l1 := run_loadRow HA.out HX.out.1.len
  unfold rowV at l1
  have HP := Lib.hid (place_any HR.out hlen r HX.out.1)
  unfold rowV at HP
  go_wp2_with fail
  refine HP.out.mono ?_
  rintro e w2 ⟨k, rfl, hk, b⟩
  have HB2 := Lib.hid (HB.out.trans (b.mono HB.out.size))
  clear b HP l1
  rcases hk with ⟨rfl, hn⟩ | ⟨i, rfl, hi⟩
  · clear hn
    go_wp2
    go_ret
    exact ⟨rfl, HB2.out⟩
  · exact absurd (List.mem_of_getElem? hi) HX.out.2
set_option maxHeartbeats 3200000 in
set_option maxRecDepth 100000 in
theorem rremove_yes {w : World} {B p : Nat} {sv : Value} {rows : List (List Int)} {ar tk : Int} (h : Rf w B p sv rows ar tk) (hB : B ≤ w.heap.size) (hlen : rows.length ≤ 1000000000) (nd : rows.Nodup) (r : List Int) (hr : RowOk r) {i : Nat} (hi : rows[i]? = some r) (hw : IntKind.i64.wrap (tk + 1) = tk + 1) :
    Calls Try.prog 23 #[.pointer (some ⟨p, 0, none⟩), rowV r] w fun e w' => e = .returned (.bool true) ∧ RTouch w w' p p sv ∧ ∃ sv', Rf w' B p sv' (rows.eraseIdx i) ar (tk + 1) ∧ ∀ g, sv'.ownBlock = some g → w.heap.size ≤ g := by
  have HB := Lib.hid (belowA (w := w) (.cells (rowC r) 40))
  have HA := Lib.hid (rowAt_new w r)
  have HR := Lib.hid (h.keep HB.out)
  have HPL := Lib.hid (World.rowIs.lt h.rl)
  have HX := Lib.hid hr
  have HI := Lib.hid hi
  have HND := Lib.hid nd
  have hsz0 : w.heap.size ≤ (w.alloc (.cells (rowC r) 40)).heap.size := by simp
  obtain ⟨hil, _⟩ := List.getElem?_eq_some_iff.1 hi
  clear h hr hi nd
  unfold rowV
  go_enter Try.func23, Try.ntmps23
  go_upto_region 1 with fail
  generalize w.alloc (.cells (rowC r) 40) = W at HB HA HR hsz0 ⊢
  have l1 := run_loadRow HA.out HX.out.len
  unfold rowV at l1
  have HP := Lib.hid (place_any HR.out hlen r HX.out)
  unfold rowV at HP
  go_wp2_with fail
  refine HP.out.mono ?_
  rintro e w2 ⟨k, rfl, hk, b⟩
  have HB2 := Lib.hid (HB.out.trans (b.mono HB.out.size))
  have HR2 := Lib.hid (HR.out.keep b)
  clear b HP l1 HA HB HR hsz0
  rcases hk with ⟨rfl, hn⟩ | ⟨i2, rfl, hi2⟩
  · exact absurd (List.mem_of_getElem? HI.out) hn
  obtain rfl := nodup_at HND.out HI.out hi2
  have hi0 : (0 : Int) ≤ (i : Int) := by omega
  clear hi2
  obtain ⟨ao, co, rfl, _⟩ := own_form HR2.out.own
  obtain ⟨g, rfl⟩ := own_some HR2.out.own (by omega)
  go_wp2
  go_loopw [6, 7] (fun lv iv wr => ∃ (k : Nat) (a : Option Addr) (c : Nat), k ≤ rows.length ∧ iv = .int .i64 k ∧ lv = .slice a ((rows.take k).eraseIdx i).length c ∧ Hid (Below w2.heap.size w2 wr ∧ wr.ownsRow w2.heap.size 40 24 (.slice a ((rows.take k).eraseIdx i).length c) ((rows.take k).eraseIdx i).length (flatR ((rows.take k).eraseIdx i)))) (fun _ iv _ => rows.length - (intOf iv).toNat)
  case atStart => exact ⟨0, none, 0, Nat.zero_le _, rfl, rfl, Below.refl _ _, World.ownsRow_nil _ _ _ _⟩
  case round =>
    obtain ⟨k, a, c, hk, rfl, rfl, HI2⟩ := hrel
    have l0 := run_loadRows ((HR2.out.keep HI2.out.1).rl.at (j := 2) rfl)
    by_cases hlt : k < rows.length
    · have hlt' : (k : Int) < (rows.length : Int) := by omega
      have hk0 : (0 : Int) ≤ (k : Int) := by omega
      by_cases hki : k = i
      · subst hki
        have hb : ((k : Int) != (k : Int)) = false := by simp
        go_wp2
        go_roundw
        case rel => exact ⟨k + 1, a, c, by omega, by go_num, by rw [erase_here hlt], by rw [erase_here hlt]; exact HI2.out⟩
        case measure => simp [intOf]; omega
      · have hb : ((k : Int) != (i : Int)) = true := by simp; omega
        have hro := HR2.out.ok _ (List.getElem_mem hlt)
        have l3 := run_loadAtRow rfl (HR2.out.keep HI2.out.1).own (fun x hx => (HR2.out.ok x hx).len) (List.getElem?_eq_getElem hlt)
        have hkl := erase_len rows k i
        obtain ⟨a2, c2, w4, ra, own4, b4⟩ := push_row HI2.out.2 HI2.out.1 HI2.out.1.size rows[k] hro.len (by omega) 49
        have HN : Hid (Below w2.heap.size w2 w4 ∧ w4.ownsRow w2.heap.size 40 24 (.slice a2 ((rows.take (k + 1)).eraseIdx i).length c2) ((rows.take (k + 1)).eraseIdx i).length (flatR ((rows.take (k + 1)).eraseIdx i))) := by
          rw [Hid, erase_other hlt hki]; exact ⟨b4, own4⟩
        rw [← erase_other hlt hki] at ra
        have hfold := fold_row hro.len (A := #[.int .i32 0, .int .i32 0, .int .i32 0, .int .i32 0, .int .i32 0, .int .i32 0, .int .i32 0, .int .i32 0, .int .i32 0, .int .i32 0, .int .i32 0, .int .i32 0, .int .i32 0, .int .i32 0, .int .i32 0, .int .i32 0, .int .i32 0, .int .i32 0, .int .i32 0, .int .i32 0, .int .i32 0, .int .i32 0, .int .i32 0, .int .i32 0]) rfl
        unfold rowV at l3
        unfold rowC at ra
        have h24 : rows[k].length = 24 := hro.len
        clear hro own4 b4 hkl
        generalize rows[k] = rk at l3 ra hfold h24
        go_wp2
        go_roundw
        case rel => exact ⟨k + 1, a2, c2, by omega, by go_num, rfl, HN⟩
        case measure => simp [intOf]; omega
    · obtain rfl : k = rows.length := by omega
      have ef : (rows.take rows.length).eraseIdx i = rows.eraseIdx i := by rw [List.take_length]
      rw [ef] at HI2 ⊢
      have HLE : Hid (p < w2.heap.size) := Nat.lt_of_lt_of_le HPL.out HB2.out.size
      have hrl := (HR2.out.keep HI2.out.1).rl
      have f2 := World.rowIs.frozen hrl 2
      have m2 := hrl.at (j := 2) rfl
      have hrl1 := hrl.set 2 (.slice a (rows.eraseIdx i).length c)
      have f3 := World.rowIs.frozen hrl1 3
      have m3 := hrl1.at (j := 3) rfl
      have l3 := run_loadInt m3
      have HRL := Lib.hid (hrl1.set 3 (.int .i64 (tk + 1)))
      clear hrl hrl1 ef
      go_wp2
      go_ret
      refine ⟨rfl, ⟨HI2.out.1.os.trans HB2.out.os, HI2.out.1.tape.trans HB2.out.tape, HI2.out.1.output.trans HB2.out.output, Nat.le_trans HB2.out.size (Nat.le_trans HI2.out.1.size (by simp)), fun k hk hkp _ _ => ?_⟩, _, ⟨HRL.out, ?_, fun x hx => HR2.out.ok x (List.mem_of_mem_eraseIdx hx), HR2.out.lo, fun q hq => ?_⟩, fun q hq => ?_⟩
      · rw [Below.heap_setCell _ _ _ _ hkp, Below.heap_setCell _ _ _ _ hkp, HI2.out.1.block k (Nat.lt_of_lt_of_le hk HB2.out.size), HB2.out.block k hk]
      · refine own_of_block (own_lowR HI2.out.2 (Nat.le_trans hB HB2.out.size)) (fun q hq => ?_)
        have := (HI2.out.2.lt q hq).1
        have := HLE.out
        rw [Below.heap_setCell _ _ _ _ (by show q ≠ p; omega), Below.heap_setCell _ _ _ _ (by show q ≠ p; omega)]
      · have := (HI2.out.2.lt q hq).1
        have := HLE.out
        omega
      · have := (HI2.out.2.lt q hq).1
        have := HB2.out.size
        omega
end Go.Proofs.Ytlnhnpfgmiffpaa
end
