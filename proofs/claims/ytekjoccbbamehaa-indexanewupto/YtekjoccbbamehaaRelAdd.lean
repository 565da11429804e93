import Derived.Test.YtekjoccbbamehaaRelPut
namespace Go.Proofs.Ytekjoccbbamehaa
open Go.RowKit Go.Maps
set_option linter.unusedVariables false
set_option linter.unusedSimpArgs false
attribute [local go_sem ↓] Go.wp_at_zero Go.wp_at_succ

theorem step_call {P : Program} {ops : Array Oper} {o : Oper} {a : Act} {w : World} {K : Act → World → Prop} {Q : Exit → Act → World → Prop} {E : Prop}
    (hg : o.guard = none) (f : FuncId) {fn : Func} (hf : P.funcs[f]? = some fn) (hn : (fn.name == "runtime.NumGoroutine") = false) (hb : fn.body.isNone = false) (xs : Array Operand) (tys : Array TypeId) (hop : o.op = Op.call { callee := Callee.value (Operand.func f), args := xs, argTypes := tys }) (vs : Array Value) (hx : xs.map a.eval = vs)
    {post : Ending → World → Prop} (hc : Calls P f vs w post) (hK : ∀ e w', post e w' → ∃ v, e = .returned v ∧ K (a.put o.dst v) w') :
    if Region.wanted o (yielded ops a.tmps) = true then Oper.wp P o a w K Q else E := by
  have hw : Region.wanted o (yielded ops a.tmps) = true := by simp [Region.wanted, hg]
  rw [if_pos hw]
  have he : (execOp a.eval o).run P w = .ok (.enter f vs) w := by
    have hn' : ¬ fn.name = "runtime.NumGoroutine" := by simpa using hn
    have hb' : ¬ fn.body = none := by cases h : fn.body <;> simp [h] at hb ⊢
    simp [execOp, hop, resolve, invoke, ← hx, Act.eval, Result.andThen, Deferred.ofValue, callFunc, (show Sem.run P program w = .ok P w from rfl), hf, hn', hb', go_sem]
  unfold Oper.wp
  rw [he, Oper.upon_enter]
  refine hc.mono fun e w' h => ?_
  obtain ⟨v, rfl, hk⟩ := hK e w' h
  exact hk
theorem run_loadInt {w : World} {a : Addr} {v : Value} (h : w.cell? a = some v) : (loadVar 3 a).run Try.prog w = .ok v w := by
  simp [loadVar, go_sem, h]
attribute [-go_sem] loadVar
set_option maxHeartbeats 3200000 in
set_option maxRecDepth 100000 in
theorem add_any {w : World} {B t m : Nat} {sv : Value} {rows : List (List Int)} {ar gone : Int} (h : Rel w B t m sv rows ar gone) (hB : B ≤ w.heap.size) (hlen : rows.length ≤ 1000000000) (r : List Int) (hr : RowOk r) :
    Calls Try.prog 15 #[.pointer (some ⟨t, 0, none⟩), rowV r] w fun e w' =>
      (fitB r ar = false ∧ e = .returned (.tuple #[.bool false, .int .i64 100]) ∧ Below w.heap.size w w') ∨
      (fitB r ar = true ∧ r ∈ rows ∧ e = .returned (.tuple #[.bool false, .int .i64 0]) ∧ Below w.heap.size w w') ∨
      (fitB r ar = true ∧ r ∉ rows ∧ e = .returned (.tuple #[.bool true, .int .i64 0]) ∧ Below B w w' ∧ ∃ sv', Rel w' B t m sv' (rows ++ [r]) ar gone) := by
  have hb := (Below.refl w.heap.size w).alloc (Nat.le_refl _) (.cells (rowC r) 34)
  have HB := Lib.hid hb
  have HA := Lib.hid (rowAt_new w r)
  have HR := Lib.hid (h.keep hb)
  have HT := Lib.hid (there_yes (h.keep hb))
  have HX := Lib.hid hr
  have hzW : w.heap.size ≤ (w.alloc (.cells (rowC r) 34)).heap.size := by simp
  clear h hb
  unfold rowV
  go_enter Try.func15, Try.ntmps15
  go_upto_region 1 with fail
  generalize w.alloc (.cells (rowC r) 34) = W at HB HA HR HT hzW ⊢
  go_wp2_with fail
  refine HT.out.mono ?_
  rintro e w1 ⟨rfl, rfl⟩
  have HR1 := Lib.hid (HR.out.keep (Below.refl _ _).drew)
  have HA1 := Lib.hid (HA.out.below (Below.refl _ _).drew)
  have l1 := run_loadInt (HR1.out.rl.at (j := 2) rfl)
  have l2 := run_loadRow HA1.out HX.out.len
  unfold rowV at l2
  have HF := fun u => Lib.hid (fits_any r HX.out.len ar u)
  unfold rowV at HF
  clear HT
  go_upto_region 3 with fail
  go_region_law (
    refine step_call rfl 29 Try.func29 (by kernel_rfl) (by kernel_rfl) #[.tmp 9, .tmp 13] _ rfl #[.agg (List.map cellI r).toArray, .int .i64 ar] (by simp [Act.eval, Act.put]) (HF _).out ?_
    rintro ee w2 ⟨rfl, b2⟩
    refine ⟨_, rfl, ?_⟩
    have HB2 := Lib.hid b2
    clear b2)
  all_goals
    have HR2 := Lib.hid ((HR1.out.keep HB2.out).keep (Below.refl _ _).drew)
    have HA2 := Lib.hid ((HA1.out.below HB2.out).below (Below.refl _ _).drew)
    have HBW := Lib.hid (HB.out.drew.trans (HB2.out.mono HB.out.drew.size))
    have hzz : Hid (B ≤ w2.drew.heap.size) := by show _ ≤ _; have := HBW.out.size; show B ≤ w2.heap.size; omega
    have l2' := run_loadRow HA2.out HX.out.len
    unfold rowV at l2'
    clear l1 l2 HR1 HA1 HB2 HF HB HA HR
    cases hf : fitB r ar with
    | false =>
      go_wp2
      go_ret2
      exact .inl ⟨hf, rfl, HBW.out⟩
    | true =>
      by_cases hm : r ∈ rows
      · have HP := Lib.hid (put_old HR2.out r HX.out hm)
        unfold rowV at HP
        have HM := Lib.hid hm
        clear HR2 HA2 hm
        go_upto_region 5 with fail
        go_region_law (
          refine step_call rfl 30 Try.func30 (by kernel_rfl) (by kernel_rfl) #[.tmp 18, .tmp 19] _ rfl #[.pointer (some ⟨t, 0, none⟩), .agg (List.map cellI r).toArray] (by simp [Act.eval, Act.put]) HP.out ?_
          rintro ee w3 ⟨rfl, b3⟩
          refine ⟨_, rfl, ?_⟩
          have HB3 := Lib.hid (HBW.out.drew.trans (b3.mono HBW.out.drew.size))
          clear b3)
        all_goals
          go_wp2
          go_ret2
          exact .inr (.inl ⟨hf, HM.out, rfl, HB3.out⟩)
      · have HP := Lib.hid (put_new HR2.out hzz.out hlen r HX.out hm)
        unfold rowV at HP
        have HM := Lib.hid hm
        clear HR2 HA2 hm
        go_upto_region 5 with fail
        go_region_law (
          refine step_call rfl 30 Try.func30 (by kernel_rfl) (by kernel_rfl) #[.tmp 18, .tmp 19] _ rfl #[.pointer (some ⟨t, 0, none⟩), .agg (List.map cellI r).toArray] (by simp [Act.eval, Act.put]) HP.out ?_
          rintro ee w3 ⟨rfl, b3, sv', hrel⟩
          refine ⟨_, rfl, ?_⟩
          have HB3 := Lib.hid ((HBW.out.drew.mono hB).trans b3)
          have HRL := Lib.hid hrel
          clear b3 hrel)
        all_goals
          go_wp2
          go_ret2
          exact .inr (.inr ⟨hf, HM.out, rfl, HB3.out, sv', HRL.out⟩)
end Go.Proofs.Ytekjoccbbamehaa
