import Derived.Test.YtjcfhhcohmcehaaGreatDoorRelEq
import Derived.Test.YtjcfhhcohmcehaaGreatDoorRkB
import Derived.Lib.Hide
import Derived.Deep.RegionHeld3
namespace Go.Proofs.YtjcfhhcohmcehaaGreatDoor.BK
open Go.RowKit Go.Maps
set_option linter.unusedVariables false
set_option linter.unusedSimpArgs false
attribute [local go_sem ↓] Go.wp_at_zero Go.wp_at_succ

/-- a step of a region that draws: a call of a function, by its contract -/
theorem step_callB {P : Program} {ops : Array Oper} {o : Oper} {a : Act} {w : World} {K : Act → World → Prop} {Q : Exit → Act → World → Prop} {E : Prop}
    (hg : o.guard = none) (f : FuncId) {fn : Func} (hf : P.funcs[f]? = some fn) (hn : (fn.name == "runtime.NumGoroutine") = false) (hb : fn.body.isNone = false) (xs : Array Operand) (tys : Array TypeId) (hop : o.op = Op.call { callee := Callee.value (Operand.func f), args := xs, argTypes := tys }) (vs : Array Value) (hx : xs.map a.eval = vs)
    {post : Ending → World → Prop} (hc : Calls P f vs w post) (hK : ∀ e w', post e w' → ∃ v, e = .returned v ∧ K (a.put o.dst v) w') :
    if Region.wanted o (yielded ops a.tmps) = true then Oper.wp P o a w K Q else E := by
  have hw : Region.wanted o (yielded ops a.tmps) = true := by simp [Region.wanted, hg]
  rw [if_pos hw]
  have he : (execOp a.eval o).run P w = .ok (.enter f vs) w := by
    have hn' : ¬ fn.name = "runtime.NumGoroutine" := by simpa using hn
    have hb' : ¬ fn.body = none := by cases h : fn.body <;> simp [h] at hb ⊢
    simp [execOp, hop, resolve, invoke, ← hx, Act.eval, Result.andThen, Deferred.ofValue, callFunc, (show Sem.run P program w = .ok P w from rfl), hf, hn', hb', go_sem]
  unfold Oper.wp
  rw [he, Oper.upon_enter]
  refine hc.mono fun e w' h => ?_
  obtain ⟨v, rfl, hk⟩ := hK e w' h
  exact hk
/-! the marks of the two kinds -/
def mkR (m : Nat) : List Int := (-(m : Int)) :: List.replicate 23 0
theorem mkR_len (m : Nat) : (mkR m).length = 24 := rfl
theorem mkR_ok (m : Nat) (h : m ≤ 2000000000) : RowOk (mkR m) := by
  refine ⟨rfl, fun x hx => ?_⟩
  have h1 : IntKind.i32.min = -2147483648 := by decide
  have h2 : IntKind.i32.max = 2147483647 := by decide
  have hb : -2147483648 ≤ x ∧ x ≤ 2147483647 := by
    rcases List.mem_cons.1 hx with e | e
    · omega
    · rw [List.eq_of_mem_replicate e]; omega
  show (decide (IntKind.i32.min ≤ x) && decide (x ≤ IntKind.i32.max)) = true
  rw [h1, h2, Bool.and_eq_true, decide_eq_true_eq, decide_eq_true_eq]
  exact hb
def KI : Kd where
  α := Unit
  e := 3
  sz := 1
  cel := fun m _ => [.int .i64 (-1000 - (m : Int))]
  fp := fun _ => none
  ok := fun _ _ _ => True
  pos := by decide
  len := fun _ _ => rfl
  one := fun m x u hu => by simp at hu; subst hu; rfl
  st := fun _ _ _ _ _ _ => trivial
def KR : Kd where
  α := Unit
  e := 27
  sz := 24
  cel := fun m _ => (mkR m).map cellI
  fp := fun _ => none
  ok := fun _ _ _ => True
  pos := by decide
  len := fun m _ => by rw [List.length_map, mkR_len]
  one := fun m x u hu => by
    obtain ⟨y, _, rfl⟩ := List.mem_map.1 hu
    rfl
  st := fun _ _ _ _ _ _ => trivial
set_option maxHeartbeats 1600000 in
theorem markIn (m : Nat) (hm : m ≤ 2000000000) (w : World) : Calls Tryz.prog 88 #[.int .i64 m] w fun e w' => e = .returned (.int .i64 (-1000 - (m : Int))) ∧ Below w.heap.size w w' := by
  have h1 : IntKind.i64.wrap (-1000 - (m : Int)) = -1000 - (m : Int) := by rw [IntKind.wrap_i64]; omega
  go_enter Tryz.func88, Tryz.ntmps88
  go_wp2
  go_ret
  exact ⟨rfl, Below.refl _ _⟩
set_option maxHeartbeats 1600000 in
theorem isIn (m : Nat) (hm : m ≤ 2000000000) (w : World) : Calls Tryz.prog 194 #[.int .i64 (-1000 - (m : Int)), .int .i64 m] w fun e w' => e = .returned (.bool true) ∧ Below w.heap.size w w' := by
  have h1 : IntKind.i64.wrap (-1000 - (m : Int)) = -1000 - (m : Int) := by rw [IntKind.wrap_i64]; omega
  go_enter Tryz.func194, Tryz.ntmps194
  go_wp2
  go_ret
  exact ⟨by first | rfl | simp, Below.refl _ _⟩
attribute [-go_sem] loadVar storeVar
theorem mkR_cells (m : Nat) : (mkR m).map cellI = [.int .i32 (-(m : Int)), .int .i32 0, .int .i32 0, .int .i32 0, .int .i32 0, .int .i32 0, .int .i32 0, .int .i32 0, .int .i32 0, .int .i32 0, .int .i32 0, .int .i32 0, .int .i32 0, .int .i32 0, .int .i32 0, .int .i32 0, .int .i32 0, .int .i32 0, .int .i32 0, .int .i32 0, .int .i32 0, .int .i32 0, .int .i32 0, .int .i32 0] := rfl
theorem rowV_mk (m : Nat) : rowV (mkR m) = .agg #[.int .i32 (-(m : Int)), .int .i32 0, .int .i32 0, .int .i32 0, .int .i32 0, .int .i32 0, .int .i32 0, .int .i32 0, .int .i32 0, .int .i32 0, .int .i32 0, .int .i32 0, .int .i32 0, .int .i32 0, .int .i32 0, .int .i32 0, .int .i32 0, .int .i32 0, .int .i32 0, .int .i32 0, .int .i32 0, .int .i32 0, .int .i32 0, .int .i32 0] := by unfold rowV; rw [mkR_cells]
theorem infoRw : (Tryz.prog.info? 27).map (·.size) = some 24 := by kernel_rfl
theorem store_mk (m : Nat) (w : World) : (storeVar 27 ⟨w.heap.size, 0, none⟩ (.agg #[.int .i32 (-(m : Int)), .int .i32 0, .int .i32 0, .int .i32 0, .int .i32 0, .int .i32 0, .int .i32 0, .int .i32 0, .int .i32 0, .int .i32 0, .int .i32 0, .int .i32 0, .int .i32 0, .int .i32 0, .int .i32 0, .int .i32 0, .int .i32 0, .int .i32 0, .int .i32 0, .int .i32 0, .int .i32 0, .int .i32 0, .int .i32 0, .int .i32 0])).run Tryz.prog (w.alloc (.cells #[.int .i32 0, .int .i32 0, .int .i32 0, .int .i32 0, .int .i32 0, .int .i32 0, .int .i32 0, .int .i32 0, .int .i32 0, .int .i32 0, .int .i32 0, .int .i32 0, .int .i32 0, .int .i32 0, .int .i32 0, .int .i32 0, .int .i32 0, .int .i32 0, .int .i32 0, .int .i32 0, .int .i32 0, .int .i32 0, .int .i32 0, .int .i32 0] 27)) = .ok () (w.alloc (.cells ((mkR m).map cellI).toArray 27)) := by
  have hs : ((mkR m).map cellI).toArray.size = 24 := by rw [List.size_toArray, List.length_map, mkR_len]
  rw [← rowV_mk]
  exact run_storeVar_new w 27 #[.int .i32 0, .int .i32 0, .int .i32 0, .int .i32 0, .int .i32 0, .int .i32 0, .int .i32 0, .int .i32 0, .int .i32 0, .int .i32 0, .int .i32 0, .int .i32 0, .int .i32 0, .int .i32 0, .int .i32 0, .int .i32 0, .int .i32 0, .int .i32 0, .int .i32 0, .int .i32 0, .int .i32 0, .int .i32 0, .int .i32 0, .int .i32 0] ((mkR m).map cellI).toArray (by rw [List.size_toArray, List.length_map, mkR_len]; exact infoRw) (by rw [hs]; rfl) (by simp [cellI, Value.oneCell'])
theorem load_rowN {w : World} {b : Nat} (l : List Int) (hl : l.length = 24) (h : RL w b 27 (l.map cellI)) : (loadVar 27 ⟨b, 0, none⟩).run Tryz.prog w = .ok (rowV l) w := run_loadVar_mid w b 0 _ (l.map cellI) _ h.range Tryz.underlying27 rfl (by rw [List.length_map, hl]; kernel_rfl)
set_option maxHeartbeats 3200000 in
set_option maxRecDepth 100000 in
theorem markRn (m : Nat) (hm : m ≤ 2000000000) (w : World) : Calls Tryz.prog 89 #[.int .i64 m] w fun e w' => e = .returned (rowV (mkR m)) ∧ Below w.heap.size w w' := by
  have h1 : IntKind.i64.wrap (-(m : Int)) = -(m : Int) := by rw [IntKind.wrap_i64]; omega
  have h2 : IntKind.i32.wrap (-(m : Int)) = -(m : Int) := by rw [IntKind.wrap_i32]; omega
  have hst := store_mk m w
  have HR := Lib.hid (rl_new w ((mkR m).map cellI).toArray 27)
  have HB : Hid (Below w.heap.size w (w.alloc (.cells ((mkR m).map cellI).toArray 27))) := (Below.refl _ _).alloc (Nat.le_refl _) _
  generalize w.alloc (.cells ((mkR m).map cellI).toArray 27) = W at hst HR HB
  go_enter Tryz.func89, Tryz.ntmps89
  go_wp2
  exact bodyPost_ret (rl_results Tryz.results89 (v := rowV (mkR m)) rfl (load_rowN (mkR m) (mkR_len m) HR.out)) rfl ⟨rfl, HB.out⟩
set_option maxHeartbeats 3200000 in
set_option maxRecDepth 100000 in
theorem isRn (m : Nat) (hm : m ≤ 2000000000) (w : World) : Calls Tryz.prog 195 #[rowV (mkR m), .int .i64 m] w fun e w' => e = .returned (.bool true) ∧ Below w.heap.size w w' := by
  have h1 : IntKind.i64.wrap (-(m : Int)) = -(m : Int) := by rw [IntKind.wrap_i64]; omega
  have h2 : IntKind.i32.wrap (-(m : Int)) = -(m : Int) := by rw [IntKind.wrap_i32]; omega
  have hq : ∀ u, (binOp .eql 27 (rowV (mkR m)) (.agg #[.int .i32 (-(m : Int)), .int .i32 0, .int .i32 0, .int .i32 0, .int .i32 0, .int .i32 0, .int .i32 0, .int .i32 0, .int .i32 0, .int .i32 0, .int .i32 0, .int .i32 0, .int .i32 0, .int .i32 0, .int .i32 0, .int .i32 0, .int .i32 0, .int .i32 0, .int .i32 0, .int .i32 0, .int .i32 0, .int .i32 0, .int .i32 0, .int .i32 0])).run Tryz.prog u = .ok (.bool true) u := fun u => by
    rw [← rowV_mk]
    have := run_eqRow (mkR_ok m hm) (mkR_ok m hm) u
    simpa using this
  have HR := rl_new w ((mkR m).map cellI).toArray 27
  rw [List.toList_toArray] at HR
  have hld := load_rowN (mkR m) (mkR_len m) HR
  have HB : Hid (Below w.heap.size w (w.alloc (.cells ((mkR m).map cellI).toArray 27))) := (Below.refl _ _).alloc (Nat.le_refl _) _
  have hbx : ∀ (a : Array Value), rowV (mkR m) = .agg a → a = ((mkR m).map cellI).toArray := fun a e => by unfold rowV at e; injection e with e; exact e.symm
  clear HR hbx
  go_enter Tryz.func195, Tryz.ntmps195
  unfold rowV at *
  go_wp2
  go_ret
  exact ⟨rfl, HB.out⟩
end Go.Proofs.YtjcfhhcohmcehaaGreatDoor.BK
