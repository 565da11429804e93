import Derived.Test.YtoagnkbmeafmoaaGreatDoorBkB
import Derived.Test.YtoagnkbmeafmoaaGreatDoorSoWord
import Derived.Lib.ItoaLen
import Derived.Lib.Hide
import Derived.Deep.RegionHeld3
namespace Go.Proofs.YtoagnkbmeafmoaaGreatDoor
open Go.RowKit Go.Maps
set_option linter.unusedVariables false
set_option linter.unusedSimpArgs false
attribute [local go_sem ↓] Go.wp_at_zero Go.wp_at_succ

/-- a step of a region that draws: a call of a function, by its contract -/
theorem step_callB {P : Program} {ops : Array Oper} {o : Oper} {a : Act} {w : World} {K : Act → World → Prop} {Q : Exit → Act → World → Prop} {E : Prop}
    (hg : o.guard = none) (f : FuncId) {fn : Func} (hf : P.funcs[f]? = some fn) (hn : (fn.name == "runtime.NumGoroutine") = false) (hb : fn.body.isNone = false) (xs : Array Operand) (tys : Array TypeId) (hop : o.op = Op.call { callee := Callee.value (Operand.func f), args := xs, argTypes := tys }) (vs : Array Value) (hx : xs.map a.eval = vs)
    {post : Ending → World → Prop} (hc : Calls P f vs w post) (hK : ∀ e w', post e w' → ∃ v, e = .returned v ∧ K (a.put o.dst v) w') :
    if Region.wanted o (yielded ops a.tmps) = true then Oper.wp P o a w K Q else E := by
  have hw : Region.wanted o (yielded ops a.tmps) = true := by simp [Region.wanted, hg]
  rw [if_pos hw]
  have he : (execOp a.eval o).run P w = .ok (.enter f vs) w := by
    have hn' : ¬ fn.name = "runtime.NumGoroutine" := by simpa using hn
    have hb' : ¬ fn.body = none := by cases h : fn.body <;> simp [h] at hb ⊢
    simp [execOp, hop, resolve, invoke, ← hx, Act.eval, Result.andThen, Deferred.ofValue, callFunc, (show Sem.run P program w = .ok P w from rfl), hf, hn', hb', go_sem]
  unfold Oper.wp
  rw [he, Oper.upon_enter]
  refine hc.mono fun e w' h => ?_
  obtain ⟨v, rfl, hk⟩ := hK e w' h
  exact hk
/-! the marks of the three kinds -/
def markB (m : Nat) : ByteArray := ⟨#[35]⟩ ++ ⟨(Lib.itoa m).toArray⟩
def KV : Kd where
  α := Unit
  e := 69
  sz := 3
  cel := fun m _ => [.int .i8 99, .int .i64 m, .string ⟨#[]⟩]
  fp := fun _ => none
  ok := fun _ _ _ => True
  pos := by decide
  len := fun _ _ => rfl
  one := fun m x u hu => by simp at hu; rcases hu with rfl | rfl | rfl <;> rfl
  st := fun _ _ _ _ _ _ => trivial
def KF : Kd where
  α := Unit
  e := 28
  sz := 2
  cel := fun m _ => [.string (markB m), .slice none 0 0]
  fp := fun _ => none
  ok := fun _ _ _ => True
  pos := by decide
  len := fun _ _ => rfl
  one := fun m x u hu => by simp at hu; rcases hu with rfl | rfl <;> rfl
  st := fun _ _ _ _ _ _ => trivial
def KT : Kd where
  α := Nat
  e := 26
  sz := 1
  cel := fun m b => [.slice (some ⟨b, 0, none⟩) 1 1]
  fp := fun b => some b
  ok := fun w m b => w.rangeAt b 0 [.int .i8 99, .int .i64 m, .string ⟨#[]⟩]
  pos := by decide
  len := fun _ _ => rfl
  one := fun m x u hu => by simp at hu; subst hu; rfl
  st := fun m x u u' h ho => range_block ho (h x rfl)
set_option maxHeartbeats 1600000 in
theorem markVn (m : Nat) (w : World) : Calls Tryz.prog 90 #[.int .i64 m] w fun e w' => e = .returned (.agg #[.int .i8 99, .int .i64 m, .string ⟨#[]⟩]) ∧ Below w.heap.size w w' := by
  go_enter Tryz.func90, Tryz.ntmps90
  go_wp2
  exact bodyPost_ret (v := .agg #[.int .i8 99, .int .i64 m, .string ⟨#[]⟩]) (by simp [results, Tryz.results90, go_sem]) rfl ⟨rfl, (Below.refl _ _).alloc (Nat.le_refl _) _⟩
set_option maxHeartbeats 1600000 in
theorem isVn (m : Nat) (w : World) : Calls Tryz.prog 202 #[.agg #[.int .i8 99, .int .i64 m, .string ⟨#[]⟩], .int .i64 m] w fun e w' => e = .returned (.bool true) ∧ Below w.heap.size w w' := by
  generalize (m : Int) = M
  go_enter Tryz.func202, Tryz.ntmps202
  go_wp2
  go_ret
  exact ⟨rfl, (Below.refl _ _).alloc (Nat.le_refl _) _⟩
set_option maxHeartbeats 1600000 in
theorem markTn (m : Nat) (w : World) : Calls Tryz.prog 28 #[.int .i64 m] w fun e w' => ∃ b, e = .returned (.slice (some ⟨b, 0, none⟩) 1 1) ∧ Below w.heap.size w w' ∧ w.heap.size ≤ b ∧ b < w'.heap.size ∧ w'.rangeAt b 0 [.int .i8 99, .int .i64 m, .string ⟨#[]⟩] := by
  go_enter Tryz.func28, Tryz.ntmps28
  go_wp2
  go_ret
  exact ⟨_, rfl, (Below.refl _ _).alloc (Nat.le_refl _) _, Nat.le_refl _, by simp, (rl_new w #[.int .i8 99, .int .i64 m, .string ⟨#[]⟩] _).range⟩
set_option maxHeartbeats 1600000 in
theorem isTn (m : Nat) (w : World) (b : Nat) (h : w.rangeAt b 0 [.int .i8 99, .int .i64 m, .string ⟨#[]⟩]) : Calls Tryz.prog 203 #[.slice (some ⟨b, 0, none⟩) 1 1, .int .i64 m] w fun e w' => e = .returned (.bool true) ∧ Below w.heap.size w w' := by
  have y0 : w.cell? ⟨b, 0, none⟩ = some (.int .i8 99) := h 0 _ rfl
  have y1 : w.cell? ⟨b, 1, none⟩ = some (.int .i64 m) := h 1 _ rfl
  have y2 : w.cell? ⟨b, 2, none⟩ = some (.string ⟨#[]⟩) := h 2 _ rfl
  clear h
  generalize (m : Int) = M at y1 ⊢
  go_enter Tryz.func203, Tryz.ntmps203
  go_wp2
  go_ret
  exact ⟨rfl, Below.refl _ _⟩
theorem itoa_size (m : Nat) (h : m ≤ 2000000000) : (⟨(Lib.itoa (m : Int)).toArray⟩ : ByteArray).size ≤ 21 := by
  have := Lib.itoa_length_le (m : Int) (by omega) (by omega)
  simpa [ByteArray.size] using this
set_option maxHeartbeats 800000 in
theorem word_n (m : Nat) (hm : m ≤ 2000000000) (w : World) (hp : PWt w) : Calls Tryz.prog 89 #[.int .i64 m] w fun e w' => e = .returned (.string (markB m)) ∧ Below w.heap.size w w' := by
  have hsz := itoa_size m hm
  have hi := Tryz.strconv_Itoa (m : Int) (by omega) (by omega) _ hp
  unfold markB
  generalize (⟨(Lib.itoa (m : Int)).toArray⟩ : ByteArray) = S at hsz hi ⊢
  have HI := Lib.hid hi
  clear hi hp
  go_enter Tryz.func89, Tryz.ntmps89
  go_wp2_with fail
  refine HI.out.mono ?_
  rintro e w1 ⟨rfl, k, os, rfl⟩
  have hb := Lib.below_grow w.heap.size w (Nat.le_refl _) k os
  generalize Go.Sort.grow (w.drewN k) os = w1 at hb ⊢
  go_wp2
  go_ret
  exact ⟨rfl, hb⟩
set_option maxHeartbeats 1600000 in
theorem markFn (m : Nat) (hm : m ≤ 2000000000) (w : World) (hp : PWt w) : Calls Tryz.prog 26 #[.int .i64 m] w fun e w' => e = .returned (.agg #[.string (markB m), .slice none 0 0]) ∧ Below w.heap.size w w' := by
  have BA := (Below.refl w.heap.size w).alloc (Nat.le_refl _) (.cells #[.string ⟨#[]⟩, .slice none 0 0] 28)
  have HW := Lib.hid (word_n m hm _ (tab_below hp BA))
  have HR0 : Hid (RL (w.alloc (.cells #[.string ⟨#[]⟩, .slice none 0 0] 28)) w.heap.size 28 [.string ⟨#[]⟩, .slice none 0 0]) := rl_new w #[.string ⟨#[]⟩, .slice none 0 0] 28
  have HBA := Lib.hid BA
  clear hp BA hm
  generalize markB m = MW at HW ⊢
  generalize (m : Int) = M at HW ⊢
  go_enter Tryz.func26, Tryz.ntmps26
  go_wp2_with fail
  refine HW.out.mono ?_
  rintro e w1 ⟨rfl, b1⟩
  have HR : Hid (RL w1 w.heap.size 28 [.string ⟨#[]⟩, .slice none 0 0]) := RL.below HR0.out b1
  have B1 : Hid (Below w.heap.size w w1) := HBA.out.trans (b1.mono HBA.out.size)
  have x0 := HR.out.at (j := 0) rfl
  have x1 := HR.out.at (j := 1) rfl
  have f0 := World.rowIs.frozen HR.out 0
  have f1 := World.rowIs.frozen HR.out 1
  clear b1 HBA HR0 HW
  go_wp2
  refine bodyPost_ret (rl_results Tryz.results26 (v := .agg #[.string MW, .slice none 0 0]) rfl (run_loadVar_mid _ _ 0 28 [.string MW, .slice none 0 0] _ (RL.range ((HR.out.set 0 (.string MW)).set 1 (.slice none 0 0))) Tryz.underlying28 rfl (by kernel_rfl))) rfl ⟨rfl, ?_⟩
  exact (B1.out.setCell (p := ⟨w.heap.size, 0, none⟩) (Nat.le_refl _) _).setCell (p := ⟨w.heap.size, 1, none⟩) (Nat.le_refl _) _
set_option maxHeartbeats 1600000 in
theorem isFn (m : Nat) (hm : m ≤ 2000000000) (w : World) (hp : PWt w) : Calls Tryz.prog 204 #[.agg #[.string (markB m), .slice none 0 0], .int .i64 m] w fun e w' => e = .returned (.bool true) ∧ Below w.heap.size w w' := by
  have HP : Hid (∀ u, Below w.heap.size w u → PWt u) := fun u hu => tab_below hp hu
  have HW : Hid (∀ u, PWt u → Calls Tryz.prog 89 #[.int .i64 m] u fun e w' => e = .returned (.string (markB m)) ∧ Below u.heap.size u w') := fun u hu => word_n m hm u hu
  clear hp hm
  generalize markB m = MW at HW ⊢
  generalize (m : Int) = M at HW ⊢
  have BA := (Below.refl w.heap.size w).alloc (Nat.le_refl _) (.cells #[.string MW, .slice none 0 0] 28)
  have HX0 : Hid (RL (w.alloc (.cells #[.string MW, .slice none 0 0] 28)) w.heap.size 28 [.string MW, .slice none 0 0]) := rl_new w #[.string MW, .slice none 0 0] 28
  have HS : Hid (∀ u, Below (w.alloc (.cells #[.string MW, .slice none 0 0] 28)).heap.size (w.alloc (.cells #[.string MW, .slice none 0 0] 28)) u → Below w.heap.size w u ∧ u.cell? ⟨w.heap.size, 0, none⟩ = some (.string MW) ∧ u.cell? ⟨w.heap.size, 1, none⟩ = some (.slice none 0 0)) := fun u hu => by
    have hr := RL.below HX0.out hu
    exact ⟨BA.trans (hu.mono BA.size), hr.at (j := 0) rfl, hr.at (j := 1) rfl⟩
  clear BA HX0
  have e0 : (MW.toList == MW.toList) = true := by simp
  go_enter Tryz.func204, Tryz.ntmps204
  go_wp2_with fail
  generalize hWW : w.alloc (.cells #[.string MW, .slice none 0 0] 28) = W at HS ⊢
  clear hWW
  have hB0 : Below W.heap.size W W := Below.refl _ _
  go_region_held3 (fun u => (Below W.heap.size W u) ∧ u.cell? ⟨w.heap.size, 0, none⟩ = some (.string MW) ∧ u.cell? ⟨w.heap.size, 1, none⟩ = some (.slice none 0 0))
    (first
      | assumption
      | exact ⟨hB0.drew, (HS.out _ hB0.drew).2⟩
      | exact ⟨(by assumption), (HS.out _ (by assumption)).2⟩)
    (first
      | (go_at_call 89; refine (HW.out _ (HP.out _ (HS.out _ hB0.drew).1)).mono ?_; rintro ee w2 ⟨rfl, b2⟩; have b2' : Below W.heap.size W w2 := hB0.drew.trans b2)
      | fail)
  go_wp2
  go_ret
  exact ⟨rfl, (HS.out _ b2').1⟩
end Go.Proofs.YtoagnkbmeafmoaaGreatDoor
