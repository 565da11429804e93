import Derived.Test.YtlajlofccpnilaaDoorTermIs
import Derived.Test.YtlajlofccpnilaaDoorRowGen
import Derived.Deep.DeepCutAuto
namespace Go.Proofs.YtlajlofccpnilaaDoor
open Go.RowKit Go.Maps
set_option linter.unusedVariables false
set_option linter.unusedSimpArgs false
attribute [local go_sem ↓] Go.wp_at_zero Go.wp_at_succ

/-- a step of a region that draws: a call of a function, by its contract -/
theorem step_call {P : Program} {ops : Array Oper} {o : Oper} {a : Act} {w : World} {K : Act → World → Prop} {Q : Exit → Act → World → Prop} {E : Prop}
    (hg : o.guard = none) (f : FuncId) {fn : Func} (hf : P.funcs[f]? = some fn) (hn : (fn.name == "runtime.NumGoroutine") = false) (hb : fn.body.isNone = false) (xs : Array Operand) (tys : Array TypeId) (hop : o.op = Op.call { callee := Callee.value (Operand.func f), args := xs, argTypes := tys }) (vs : Array Value) (hx : xs.map a.eval = vs)
    {post : Ending → World → Prop} (hc : Calls P f vs w post) (hK : ∀ e w', post e w' → ∃ v, e = .returned v ∧ K (a.put o.dst v) w') :
    if Region.wanted o (yielded ops a.tmps) = true then Oper.wp P o a w K Q else E := by
  have hw : Region.wanted o (yielded ops a.tmps) = true := by simp [Region.wanted, hg]
  rw [if_pos hw]
  have he : (execOp a.eval o).run P w = .ok (.enter f vs) w := by
    have hn' : ¬ fn.name = "runtime.NumGoroutine" := by simpa using hn
    have hb' : ¬ fn.body = none := by cases h : fn.body <;> simp [h] at hb ⊢
    simp [execOp, hop, resolve, invoke, ← hx, Act.eval, Result.andThen, Deferred.ofValue, callFunc, (show Sem.run P program w = .ok P w from rfl), hf, hn', hb', go_sem]
  unfold Oper.wp
  rw [he, Oper.upon_enter]
  refine hc.mono fun e w' h => ?_
  obtain ⟨v, rfl, hk⟩ := hK e w' h
  exact hk
def V9 : V := ⟨1, 9, noS⟩
/-- what a column becomes under binds -/
def grT (l : List B) (t : T) : V := if t.v = noS then t.a else if t.v = blankS then V9 else isV l t.v
def gr (l : List B) (ts : List T) : List V := ts.map (grT l)
theorem gr_len (l : List B) (ts : List T) : (gr l ts).length = ts.length := by simp [gr]
theorem gr_take (l : List B) (ts : List T) {k : Nat} (h : k < ts.length) : ((gr l ts).take (k + 1)).flatMap V.cells = ((gr l ts).take k).flatMap V.cells ++ [.int .i8 (grT l (atT ts k)).k, .int .i64 (grT l (atT ts k)).n, .string (grT l (atT ts k)).s] := by
  have e : (gr l ts).take (k + 1) = (gr l ts).take k ++ [grT l (atT ts k)] := by
    rw [List.take_add_one, List.getElem?_eq_getElem (by rw [gr_len]; exact h)]
    simp [gr, atT_eq h]
  rw [e, List.flatMap_append]
  simp [V.cells]
theorem isV_cases (l : List B) (n : ByteArray) : (isV l n = ⟨1, 0, noS⟩) ∨ ∃ b ∈ l, isV l n = b.a ∧ okV b.a = true := by
  unfold isV
  cases h : l.find? (fun b => decide (b.v = n) && okV b.a) with
  | none => exact .inl rfl
  | some b =>
    have h1 := List.find?_some h
    simp only [Bool.and_eq_true] at h1
    exact .inr ⟨b, List.mem_of_find?_eq_some h, rfl, h1.2⟩
theorem num0_wf : (⟨1, 0, noS⟩ : V).wf := ⟨by decide, by decide, by decide⟩
theorem num9_wf : V9.wf := ⟨by decide, by decide, by decide⟩
theorem noS_list : noS.toList = [] := by rw [ByteArray.toList_eq]; rfl
theorem blank_list : blankS.toList = [95] := by rw [ByteArray.toList_eq]; rfl
theorem empty_not {s : ByteArray} (h : ¬ s = noS) : s.toList.isEmpty = false := by
  cases e : s.toList with
  | nil => exact absurd (toList_inj (by rw [e, noS_list])) h
  | cons a b => rfl
theorem blank_not {s : ByteArray} (h : ¬ s = blankS) : (s.toList == [95]) = false := by
  rw [beq_eq_false_iff_ne]
  exact fun e => h (toList_inj (by rw [e, blank_list]))
theorem isV_wf {l : List B} (h : ∀ b ∈ l, b.wf) (n : ByteArray) : (isV l n).wf := by
  rcases isV_cases l n with e | ⟨b, hb, e, _⟩
  · rw [e]; exact num0_wf
  · rw [e]; exact (h b hb).val
theorem gr_wf {l : List B} {ts : List T} (hl : ∀ b ∈ l, b.wf) (ht : ∀ t ∈ ts, t.wf) : ∀ v ∈ gr l ts, v.wf := fun v hv => by
  obtain ⟨t, h, rfl⟩ := List.mem_map.1 hv
  unfold grT
  split
  · exact (ht t h).val
  · split
    · exact num9_wf
    · exact isV_wf hl _
theorem infoVal : (Tryd.prog.info? 39).map (fun i => (i.zero, i.size, i.bytes)) = some (some (.agg #[.int .i8 0, .int .i64 0, .string ⟨#[]⟩]), 3, 32) := by kernel_rfl
/-- what ground keeps: the atom's box, the result, the fact that grows -/
structure GSt (w : World) (R : List Value) (pr : ByteArray) (vs : List V) (k : Nat) (a' : Option Addr) (c' : Nat) (wr : World) : Prop where
  bel : Below w.heap.size w wr
  sz : w.heap.size + 3 ≤ wr.heap.size
  r0 : RL wr w.heap.size 24 R
  r1 : RL wr (w.heap.size + 1) 28 [.string ⟨#[]⟩, .slice none 0 0]
  r2 : RL wr (w.heap.size + 2) 28 [.string pr, .slice a' k c']
  own : wr.ownsRow (w.heap.size + 3) 39 3 (.slice a' k c') k ((vs.take k).flatMap V.cells)
theorem GSt.keep {w : World} {R : List Value} {pr : ByteArray} {vs : List V} {k : Nat} {a' : Option Addr} {c' : Nat} {wr wr' : World} (h : GSt w R pr vs k a' c' wr) (b : Below wr.heap.size wr wr') : GSt w R pr vs k a' c' wr' :=
  ⟨h.bel.trans (b.mono h.bel.size), Nat.le_trans h.sz b.size, h.r0.below b, h.r1.below b, h.r2.below b, own_below h.own b⟩
theorem GSt.step {w : World} {R : List Value} {pr : ByteArray} {vs : List V} {k : Nat} {a' a2 : Option Addr} {c' c2 : Nat} {U w3 : World} {news : List Value} (h : GSt w R pr vs k a' c' U) (hT : (vs.take (k + 1)).flatMap V.cells = (vs.take k).flatMap V.cells ++ news)
    (hown' : w3.ownsRow (w.heap.size + 3) 39 3 (.slice a2 (k + 1) c2) (k + 1) ((vs.take k).flatMap V.cells ++ news)) (hgrow : U.grownBy w3 (Value.slice a' k c').ownBlock) :
    GSt w R pr vs (k + 1) a2 c2 (w3.setCell ⟨w.heap.size + 2, 1, none⟩ (.slice a2 (k + 1) c2)) ∧ w3.cell? ⟨w.heap.size + 2, 1, none⟩ = some (.slice a' k c') ∧ w3.frozen? ⟨w.heap.size + 2, 1, none⟩ = false := by
  have hlt := fun g (hg : (Value.slice a' k c').ownBlock = some g) => (h.own.lt g hg).1
  have kb : ∀ j, j < w.heap.size + 3 → w3.heap[j]? = U.heap[j]? := fun j hj => hgrow.block j (Nat.lt_of_lt_of_le hj h.sz) (fun e => by have := hlt j e.symm; omega)
  have q0 : RL w3 w.heap.size 24 R := World.rowIs.of_block h.r0 (kb _ (by omega))
  have q1 : RL w3 (w.heap.size + 1) 28 [.string ⟨#[]⟩, .slice none 0 0] := World.rowIs.of_block h.r1 (kb _ (by omega))
  have q2 : RL w3 (w.heap.size + 2) 28 [.string pr, .slice a' k c'] := World.rowIs.of_block h.r2 (kb _ (by omega))
  refine ⟨⟨?_, ?_, q0.other (by omega) _, q1.other (by omega) _, q2.set 1 _, ?_⟩, q2.at (j := 1) rfl, World.rowIs.frozen q2 1⟩
  · exact (h.bel.grown hgrow (by have := h.sz; omega) (fun j hj => by have := hlt j hj; omega)).setCell (p := ⟨w.heap.size + 2, 1, none⟩) (by simp) _
  · have h1 := h.sz
    have h2 := hgrow.size
    simp only [World.size_setCell]
    omega
  · rw [hT]
    exact own_of_block hown' (fun g hg => heap_setCell_other _ _ _ _ (by have := (hown'.lt g hg).1; show g ≠ w.heap.size + 2; omega))
theorem gst_new (w : World) (R : Array Value) (pr : ByteArray) (vs : List V) : GSt w R.toList pr vs 0 none 0 (((w.alloc (.cells R 24)).alloc (.cells #[.string ⟨#[]⟩, .slice none 0 0] 28)).alloc (.cells #[.string pr, .slice none 0 0] 28)) := by
  have B1 : Below w.heap.size w (w.alloc (.cells R 24)) := (Below.refl _ _).alloc (Nat.le_refl _) _
  have e1 : (w.alloc (.cells R 24)).heap.size = w.heap.size + 1 := by simp
  have e2 : ((w.alloc (.cells R 24)).alloc (.cells #[.string ⟨#[]⟩, .slice none 0 0] 28)).heap.size = w.heap.size + 2 := by simp
  have r0 := rl_new w R 24
  have r1 := rl_new (w.alloc (.cells R 24)) #[.string ⟨#[]⟩, .slice none 0 0] 28
  have r2 := rl_new ((w.alloc (.cells R 24)).alloc (.cells #[.string ⟨#[]⟩, .slice none 0 0] 28)) #[.string pr, .slice none 0 0] 28
  rw [e1] at r1
  rw [e2] at r2
  have s2 := (Below.refl (w.alloc (.cells R 24)).heap.size (w.alloc (.cells R 24))).alloc (Nat.le_refl _) (.cells #[.string ⟨#[]⟩, .slice none 0 0] 28)
  have s3 := (Below.refl ((w.alloc (.cells R 24)).alloc (.cells #[.string ⟨#[]⟩, .slice none 0 0] 28)).heap.size ((w.alloc (.cells R 24)).alloc (.cells #[.string ⟨#[]⟩, .slice none 0 0] 28))).alloc (Nat.le_refl _) (.cells #[.string pr, .slice none 0 0] 28)
  refine ⟨(B1.alloc B1.size _).alloc (by simp; omega) _, by simp, (r0.below s2).below s3, r1.below s3, r2, ?_⟩
  simp only [List.take_zero, List.flatMap_nil]
  exact World.ownsRow_nil _ _ _ _
/-- one step: a value of three cells is laid behind what was there -/
theorem GSt.fin {w : World} {R : List Value} {pr : ByteArray} {vs : List V} {k : Nat} {a' : Option Addr} {c' : Nat} {U : World} {news : List Value} (h : GSt w R pr vs k a' c' U) (hT : (vs.take (k + 1)).flatMap V.cells = (vs.take k).flatMap V.cells ++ news) {v' : Value} {w3 : World}
    (h1 : w3.ownsRow (w.heap.size + 3) 39 3 v' (k + 1) ((vs.take k).flatMap V.cells ++ news)) (h2 : U.grownBy w3 (Value.slice a' k c').ownBlock) :
    ∃ a2 c2, v' = .slice a2 (k + 1) c2 ∧ GSt w R pr vs (k + 1) a2 c2 (w3.setCell ⟨w.heap.size + 2, 1, none⟩ (.slice a2 (k + 1) c2)) ∧ w3.cell? ⟨w.heap.size + 2, 1, none⟩ = some (.slice a' k c') ∧ w3.frozen? ⟨w.heap.size + 2, 1, none⟩ = false := by
  obtain ⟨a2, c2, rfl, _⟩ := own_form h1
  obtain ⟨e1, e2, e3⟩ := h.step hT h1 h2
  exact ⟨a2, c2, rfl, e1, e2, e3⟩
set_option maxHeartbeats 6400000 in
set_option maxRecDepth 100000 in
theorem ground_any (pr : ByteArray) (a : Option Addr) (c : Nat) (ts : List T) (v : Value) (l : List B) (w : World) (hL : Lt w (.slice a ts.length c) ts) (hB : Lb w v l) (hs : ts.length ≤ 24) :
    Calls Tryd.prog 8 #[.agg #[.string pr, .slice a ts.length c], v] w fun e w' => ∃ v', e = .returned (.agg #[.string pr, v']) ∧ Lv w' v' (gr l ts) ∧ Below w.heap.size w w' := by
  obtain ⟨i0, hi0, hz0, hz1, hz2⟩ := info_parts infoVal
  have HWf : Hid (∀ y ∈ gr l ts, y.wf) := gr_wf hB.wf hL.wf
  have HIS : Hid (∀ n u, Below w.heap.size w u → Calls Tryd.prog 12 #[v, .string n] u fun e w' => e = .returned (.agg #[.int .i8 (isV l n).k, .int .i64 (isV l n).n, .string (isV l n).s]) ∧ Below u.heap.size u w') := fun n u hu => is_any v l n u (hB.below hu)
  obtain ⟨a0, c0, rfl, hb1, hb2, -⟩ := hB.form
  obtain ⟨a1, c1, e1, hc1, hc2, hk1⟩ := hL.form
  cases e1
  have HK1 : Hid _ := hk1
  have HH0 : Hid (GSt w [.string pr, .slice a ts.length c] pr (gr l ts) 0 none 0 (((w.alloc (.cells #[.string pr, .slice a ts.length c] 24)).alloc (.cells #[.string ⟨#[]⟩, .slice none 0 0] 28)).alloc (.cells #[.string pr, .slice none 0 0] 28))) := gst_new w #[.string pr, .slice a ts.length c] pr (gr l ts)
  clear hk1 hL hB hc1 hc2 hb1 hb2
  go_enter Tryd.func8, Tryd.ntmps8
  go_upto_region 2 with fail
  generalize ((w.alloc (.cells #[.string pr, .slice a ts.length c] 24)).alloc (.cells #[.string ⟨#[]⟩, .slice none 0 0] 28)).alloc (.cells #[.string pr, .slice none 0 0] 28) = W at HH0 ⊢
  have k1 := HH0.out.r0.at (j := 1) rfl
  go_wp2
  clear k1
  go_loopw [6] (fun i wr => ∃ (k : Nat) (a' : Option Addr) (c' : Nat), k ≤ ts.length ∧ i = .int .i64 k ∧ Hid (GSt w [.string pr, .slice a ts.length c] pr (gr l ts) k a' c' wr)) (fun i _ => ts.length - (intOf i).toNat)
  case atStart => exact ⟨0, none, 0, Nat.zero_le _, rfl, HH0⟩
  case round =>
    obtain ⟨k, a', c', hk, rfl, HH⟩ := hrel
    have r1 := HH.out.r0.at (j := 1) rfl
    have hwl := HH.out.sz
    by_cases hlt : k < ts.length
    · have hlt' : (k : Int) < (ts.length : Int) := by omega
      have hk0 : (0 : Int) ≤ (k : Int) := by omega
      obtain ⟨g, off, rfl, hg, hT⟩ := HK1.out (by omega)
      obtain ⟨x0, x1, x2, x3⟩ := (hT k hlt).below HH.out.bel hg
      have HTK : Hid _ := gr_take l ts hlt
      have HCL : Hid (∀ u, Below wr.heap.size wr u → u.cell? ⟨g, off + k * 4, none⟩ = some (.string (atT ts k).v) ∧ u.cell? ⟨w.heap.size, 1, none⟩ = some (.slice (some ⟨g, off, none⟩) ts.length c)) := fun u hu => ⟨by
        have := hT k hlt
        exact (this.below (HH.out.bel.trans (hu.mono HH.out.bel.size)) hg).1, (HH.out.r0.below hu).at (j := 1) rfl⟩
      obtain ⟨x, hx⟩ : ∃ x, atT ts k = x := ⟨_, rfl⟩
      rw [hx] at x0 x1 x2 x3 HTK HCL
      clear hx hT
      have m1 := HH.out.r2.at (j := 1) rfl
      have fm := World.rowIs.frozen HH.out.r2 1
      by_cases e0 : x.v = noS
      · have f0 : (x.v.toList).isEmpty = true := by rw [e0, noS_list]; rfl
        have f1 : x.v.toList = [] := by rw [e0]; exact noS_list
        have HG : Hid (grT l x = x.a) := by show _ = _; unfold grT; rw [if_pos e0]
        rw [HG.out] at HTK
        clear e0
        have HU : Hid (GSt w [.string pr, .slice (some ⟨g, off, none⟩) ts.length c] pr (gr l ts) k a' c' (wr.drew.alloc (.cells #[.int .i8 x.a.k, .int .i64 x.a.n, .string x.a.s] 39))) := (HH.out.keep (Below.refl _ _).drew).keep ((Below.refl _ _).alloc (Nat.le_refl _) _)
        have m1b : (wr.alloc (.cells #[.int .i8 x.a.k, .int .i64 x.a.n, .string x.a.s] 39)).cell? ⟨w.heap.size + 2, 1, none⟩ = some (.slice a' k c') := (HH.out.r2.below ((Below.refl _ _).alloc (Nat.le_refl _) _)).at (j := 1) rfl
        have HC : Hid (∀ (j : Nat) (u : Value), ([.int .i8 x.a.k, .int .i64 x.a.n, .string x.a.s] : List Value)[j]? = some u → (wr.drew.alloc (.cells #[.int .i8 x.a.k, .int .i64 x.a.n, .string x.a.s] 39)).cell? ((⟨wr.heap.size, 0, none⟩ : Addr).add j) = some u) := lit_news wr.drew #[.int .i8 x.a.k, .int .i64 x.a.n, .string x.a.s] _
        have HOWN : Hid _ := HU.out.own
        have HSZ : Hid (w.heap.size + 3 ≤ (wr.drew.alloc (.cells #[.int .i8 x.a.k, .int .i64 x.a.n, .string x.a.s] 39)).heap.size) := by show _ ≤ _; simp; omega
        clear HH HIS HCL
        go_upto_region 8 with fail
        go_region_law (
          refine step_append_own rfl (.tmp 39) (.tmp 46) 26 rfl 39 i0 _ 3 32 Tryd.underlying26 hi0 hz0 hz1 hz2 rfl (by decide) (w.heap.size + 3) (.slice a' k c') k _ (by simp [Act.eval, Act.put]) HOWN.out ⟨wr.heap.size, 0, none⟩ 1 1 [.int .i8 x.a.k, .int .i64 x.a.n, .string x.a.s] (by simp [Act.eval, Act.put]) rfl HC.out (by simp [Value.oneCell']) (by unfold maxLen; omega) (by omega) HSZ.out ?_
          intro v' w3 hown' hgrow hloc
          obtain ⟨a2, c2, rfl, hfin, m2, f2⟩ := HU.out.fin HTK.out hown' hgrow
          clear hown' hgrow hloc)
        all_goals
          go_wp2
          go_roundw
          case rel => exact ⟨k + 1, a2, c2, by omega, by go_num, hfin⟩
          case measure => simp [intOf]; omega
      · have f0 := empty_not e0
        by_cases e1 : x.v = blankS
        · have f1 : (x.v.toList == [95]) = true := by rw [e1, blank_list]; rfl
          have HG : Hid (grT l x = V9) := by show _ = _; unfold grT; rw [if_neg e0, if_pos e1]
          rw [HG.out] at HTK
          have HTK : Hid (((gr l ts).take (k + 1)).flatMap V.cells = ((gr l ts).take k).flatMap V.cells ++ [.int .i8 1, .int .i64 9, .string ⟨#[]⟩]) := HTK.out
          clear e0 e1 HIS HCL
          go_upto_region 10 with fail
          go_region_law (first
            | (refine step_call rfl 15 Tryd.func15 (by kernel_rfl) (by kernel_rfl) #[.const (.int .i64 9)] _ rfl #[.int .i64 9] (by simp [Act.eval, Act.put]) (Num_any 9 _) ?_
               rintro ee w2 ⟨rfl, b2⟩
               refine ⟨_, rfl, ?_⟩
               have HU2 : Hid (GSt w [.string pr, .slice (some ⟨g, off, none⟩) ts.length c] pr (gr l ts) k a' c' w2) := by first | exact (HH.out.keep (Below.refl _ _).drew).keep b2 | exact HH.out.keep b2
               have HU : Hid (GSt w [.string pr, .slice (some ⟨g, off, none⟩) ts.length c] pr (gr l ts) k a' c' (w2.alloc (.cells #[.int .i8 1, .int .i64 9, .string ⟨#[]⟩] 39))) := HU2.out.keep ((Below.refl _ _).alloc (Nat.le_refl _) _)
               have m2 := HU2.out.r2.at (j := 1) rfl
               have m3 := HU.out.r2.at (j := 1) rfl
               have q2 := HU2.out.r0.at (j := 1) rfl
               have HC : Hid (∀ (j : Nat) (u : Value), ([.int .i8 1, .int .i64 9, .string ⟨#[]⟩] : List Value)[j]? = some u → (w2.alloc (.cells #[.int .i8 1, .int .i64 9, .string ⟨#[]⟩] 39)).cell? ((⟨w2.heap.size, 0, none⟩ : Addr).add j) = some u) := lit_news w2 #[.int .i8 1, .int .i64 9, .string ⟨#[]⟩] _
               have HSZ : Hid (w.heap.size + 3 ≤ (w2.alloc (.cells #[.int .i8 1, .int .i64 9, .string ⟨#[]⟩] 39)).heap.size) := HU.out.sz
               have HOWN : Hid _ := HU.out.own
               have hz2' := HU2.out.sz
               clear b2)
            | (refine step_append_own rfl (.tmp 52) (.tmp 54) 26 rfl 39 i0 _ 3 32 Tryd.underlying26 hi0 hz0 hz1 hz2 rfl (by decide) (w.heap.size + 3) (.slice a' k c') k _ (by simp [Act.eval, Act.put]) HOWN.out ⟨w2.heap.size, 0, none⟩ 1 1 [.int .i8 1, .int .i64 9, .string ⟨#[]⟩] (by simp [Act.eval, Act.put]) rfl HC.out (by simp [Value.oneCell']) (by unfold maxLen; omega) (by omega) HSZ.out ?_
               intro v' w3 hown' hgrow hloc
               obtain ⟨a2, c2, rfl, hfin, m4, f4⟩ := HU.out.fin HTK.out hown' hgrow
               clear hown' hgrow hloc))
          all_goals
            go_wp2
            go_roundw
            case rel => exact ⟨k + 1, a2, c2, by omega, by go_num, hfin⟩
            case measure => simp [intOf]; omega
        · have f1 := blank_not e1
          have HG : Hid (grT l x = isV l x.v) := by show _ = _; unfold grT; rw [if_neg e0, if_neg e1]
          have HI : Hid _ := HIS.out x.v
          rw [HG.out] at HTK
          generalize isV l x.v = y at HTK HI
          have HB0 : Hid (Below w.heap.size w wr) := HH.out.bel
          clear e0 e1 HIS HG
          go_upto_region 6 with fail
          go_region_law (first
            | (refine step_call rfl 12 Tryd.func12 (by kernel_rfl) (by kernel_rfl) #[.tmp 25, .tmp 31] _ rfl #[.slice a0 l.length c0, .string x.v] (by simp [Act.eval, Act.put]) (HI.out _ (by first | exact HB0.out.drew | exact HB0.out)) ?_
               rintro ee w2 ⟨rfl, b2⟩
               refine ⟨_, rfl, ?_⟩
               have HU2 : Hid (GSt w [.string pr, .slice (some ⟨g, off, none⟩) ts.length c] pr (gr l ts) k a' c' w2) := by first | exact (HH.out.keep (Below.refl _ _).drew).keep b2 | exact HH.out.keep b2
               have HU : Hid (GSt w [.string pr, .slice (some ⟨g, off, none⟩) ts.length c] pr (gr l ts) k a' c' (w2.alloc (.cells #[.int .i8 y.k, .int .i64 y.n, .string y.s] 39))) := HU2.out.keep ((Below.refl _ _).alloc (Nat.le_refl _) _)
               have m2 := HU2.out.r2.at (j := 1) rfl
               have m3 := HU.out.r2.at (j := 1) rfl
               have q2 := HU2.out.r0.at (j := 1) rfl
               have HC : Hid (∀ (j : Nat) (u : Value), ([.int .i8 y.k, .int .i64 y.n, .string y.s] : List Value)[j]? = some u → (w2.alloc (.cells #[.int .i8 y.k, .int .i64 y.n, .string y.s] 39)).cell? ((⟨w2.heap.size, 0, none⟩ : Addr).add j) = some u) := lit_news w2 #[.int .i8 y.k, .int .i64 y.n, .string y.s] _
               have HSZ : Hid (w.heap.size + 3 ≤ (w2.alloc (.cells #[.int .i8 y.k, .int .i64 y.n, .string y.s] 39)).heap.size) := HU.out.sz
               have HOWN : Hid _ := HU.out.own
               have hz2' := HU2.out.sz
               clear b2)
            | (refine step_append_own rfl (.tmp 24) (.tmp 33) 26 rfl 39 i0 _ 3 32 Tryd.underlying26 hi0 hz0 hz1 hz2 rfl (by decide) (w.heap.size + 3) (.slice a' k c') k _ (by simp [Act.eval, Act.put]) HOWN.out ⟨w2.heap.size, 0, none⟩ 1 1 [.int .i8 y.k, .int .i64 y.n, .string y.s] (by simp [Act.eval, Act.put]) rfl HC.out (by simp [Value.oneCell']) (by unfold maxLen; omega) (by omega) HSZ.out ?_
               intro v' w3 hown' hgrow hloc
               obtain ⟨a2, c2, rfl, hfin, m4, f4⟩ := HU.out.fin HTK.out hown' hgrow
               clear hown' hgrow hloc))
          all_goals
            go_wp2
            go_roundw
            case rel => exact ⟨k + 1, a2, c2, by omega, by go_num, hfin⟩
            case measure => simp [intOf]; omega
    · obtain rfl : k = ts.length := by omega
      have z0 := HH.out.r2.at (j := 0) rfl
      have z1 := HH.out.r2.at (j := 1) rfl
      have y0 := HH.out.r1.at (j := 0) rfl
      have y1 := HH.out.r1.at (j := 1) rfl
      have fy0 := World.rowIs.frozen HH.out.r1 0
      have fy1 := World.rowIs.frozen HH.out.r1 1
      have HB : Hid (Below w.heap.size w wr) := HH.out.bel
      go_wp2
      have hfin := ((HH.out.r1.set 0 (.string pr)).set 1 (.slice a' ts.length c'))
      have hown := HH.out.own
      rw [← gr_len l ts, List.take_length, gr_len] at hown
      refine bodyPost_ret (rl_results Tryd.results8 (v := .agg #[.string pr, .slice a' ts.length c']) rfl (run_loadVar_mid _ _ 0 28 [.string pr, .slice a' ts.length c'] _ (RL.range hfin) Tryd.underlying28 rfl (by kernel_rfl))) rfl ⟨.slice a' ts.length c', rfl, ?_, ?_⟩
      · have ho2 : (((wr.setCell ⟨w.heap.size + 1, 0, none⟩ (.string pr)).setCell ⟨w.heap.size + 1, 1, none⟩ (.slice a' ts.length c'))).ownsRow (w.heap.size + 3) 39 3 (.slice a' ts.length c') ts.length ((gr l ts).flatMap V.cells) := own_of_block hown (fun g hg => by
          have := (hown.lt g hg).1
          rw [heap_setCell_other _ _ _ _ (by show g ≠ w.heap.size + 1; omega), heap_setCell_other _ _ _ _ (by show g ≠ w.heap.size + 1; omega)])
        refine ⟨?_, HWf.out⟩
        show Ls _ _ (gr l ts).length _
        rw [gr_len]
        exact ls_own ho2
      · exact (HB.out.setCell (p := ⟨w.heap.size + 1, 0, none⟩) (by simp) _).setCell (p := ⟨w.heap.size + 1, 1, none⟩) (by simp) _
end Go.Proofs.YtlajlofccpnilaaDoor
