import Derived.Test.YteabclfhmapabaaDoorLmSvR
import Derived.Test.YteabclfhmapabaaDoorA5
import Derived.Test.YteabclfhmapabaaDoorA9
import Derived.Test.YteabclfhmapabaaDoorA7
section
namespace Go.Proofs.YteabclfhmapabaaDoor
open Go.RowKit Go.Maps
set_option linter.unusedVariables false
set_option linter.unusedSimpArgs false
attribute [local go_sem ↓] Go.wp_at_zero Go.wp_at_succ

theorem load_pv {u : World} {a : Addr} {v : Value} (h : u.cell? a = some v) : (loadVar 143 a).run Tryd.prog u = .ok v u := by go_simp
theorem GvP.undrew {B bf bm : Nat} {vs : List Vb} {fs : List ByteArray} {sv : Value} {r : Er} {o : Option ByteArray} {w w' : World} (h : GvP B bf bm vs fs sv r o w.drew w') : GvP B bf bm vs fs sv r o w w' := by
  obtain ⟨r', sv', h1, h2, h3, h4, h5, h6, h7⟩ := h
  exact ⟨r', sv', h1, h2, h3, h4, h5, ⟨h6.os, h6.tape, h6.output, h6.size, h6.block⟩, h7⟩
/-- where nothing was given first, and then something or nothing -/
theorem GvP.then {B bf bm : Nat} {vs : List Vb} {fs : List ByteArray} {sv sv1 : Value} {r r1 : Er} {o : Option ByteArray} {w u w' : World} (hbe : r1.be = r.be) (hq : r1.q = r.q ∧ r1.l0 = r.l0 ∧ r1.l1 = r.l1) (ha : ∀ g off, (r1.a0 = some ⟨g, off, none⟩ → ∃ off0, r.a0 = some ⟨g, off0, none⟩) ∧ (r1.a1 = some ⟨g, off, none⟩ → ∃ off0, r.a1 = some ⟨g, off0, none⟩)) (ht : Tz (fun k => FP bf bm vs sv k ∨ k = r.be) w u) (hn : ∀ g, sv1.ownBlock = some g → sv.ownBlock = some g ∨ w.heap.size ≤ g)
    (h : GvP B bf bm vs fs sv1 r1 o u w') : GvP B bf bm vs fs sv r o w w' := by
  obtain ⟨r', sv', h1, h2, h3, h4, h5, h6, h7⟩ := h
  refine ⟨r', sv', h1.trans hbe, ⟨h2.1.trans hq.1, h2.2.1.trans hq.2.1, h2.2.2.trans hq.2.2⟩, fun g off => ⟨fun e => ?_, fun e => ?_⟩, h4, h5, ht.trans h6 ?_, fun g hg => ?_⟩
  · obtain ⟨o1, e1⟩ := (h3 g off).1 e
    exact (ha g o1).1 e1
  · obtain ⟨o1, e1⟩ := (h3 g off).2 e
    exact (ha g o1).2 e1
  · rintro b hb (e | e)
    · rcases e with e | e | e | e
      · exact .inl (.inl e)
      · exact .inl (.inr (.inl e))
      · rcases hn b e with k | k
        · exact .inl (.inr (.inr (.inl k)))
        · omega
      · exact .inl (.inr (.inr (.inr e)))
    · exact .inr (e.trans hbe)
  · rcases h7 g hg with k | k
    · exact hn g k
    · exact .inr (Nat.le_trans ht.size k)
set_option maxHeartbeats 3200000 in
theorem solve_any {B bf bm : Nat} {vs : List Vb} {fs : List ByteArray} {sv : Value} {w : World} (h : Fd B bf bm vs fs sv w) (hB : B ≤ w.heap.size) (r : Er) (hr : EqIs bf bm vs fs sv w r) (hl : fs.length ≤ 1000000000) :
    Calls Tryd.prog 65 #[.pointer (some ⟨bf, 0, none⟩), .pointer (some ⟨r.be, 0, none⟩)] w fun e w' => e = .returned (.bool (gaveO fs r.q).isSome) ∧ GvP B bf bm vs fs sv r (gaveO fs r.q) w w' := by
  have hbe := World.rowIs.lt hr.row
  have hD : Below w.heap.size w w.drew := (Below.refl _ _).drew
  have HFD := Lib.hid (h.below hD)
  have HRD : Hid (EqIs bf bm vs fs sv w.drew r) := hr.keep (Tz.of_below (ex := fun _ => False) hD) (fun _ _ _ e => e) (fun n hn => hn) (fun x hx => hx) (fun k _ hk => hk)
  have HS0 : Hid (w.drew.cell? ⟨r.be, 0, none⟩ = some (ptrO r.l0) ∧ w.drew.cell? ⟨r.be, 2, none⟩ = some (ptrO r.l1)) := ⟨HRD.out.row.at (j := 0) rfl, HRD.out.row.at (j := 2) rfl⟩
  have HG0 := Lib.hid (give0_any HFD.out hB r HRD.out hl (Nat.lt_of_lt_of_le hbe hD.size))
  clear h hr
  cases ho1 : givesO r.q.1.lone r.q.2.vars fs with
  | some v =>
    have HGV : Hid (gaveO fs r.q = some v) := by show _ = _; unfold gaveO; rw [ho1]
    rw [ho1] at HG0
    rw [HGV.out]
    have HC1 : Hid (Calls Tryd.prog 76 #[.pointer (some ⟨bf, 0, none⟩), ptrO r.l0, .pointer (some ⟨r.be, 2, none⟩)] w.drew fun e w' => e = .returned (.bool true) ∧ (w'.cell? ⟨r.be, 0, none⟩ = some (ptrO r.l0) ∧ w'.cell? ⟨r.be, 2, none⟩ = some (ptrO r.l1)) ∧ GvP B bf bm vs fs sv r (some v) w w') := by
      refine HG0.out.mono ?_
      rintro e w' ⟨rfl, hg⟩
      refine ⟨rfl, ?_, hg.undrew⟩
      obtain ⟨r', sv', h1, h2, _, _, h5, _⟩ := hg
      have a0 := h5.row.at (j := 0) rfl
      have a2 := h5.row.at (j := 2) rfl
      rw [h1, h2.2.1] at a0
      rw [h1, h2.2.2] at a2
      exact ⟨a0, a2⟩
    clear ho1
    go_enter Tryd.func65, Tryd.ntmps65
    go_upto_region 1 with fail
    refine wp_region_noPanic ?_
    refine wp_region_held (S := fun u => u.cell? ⟨r.be, 0, none⟩ = some (ptrO r.l0) ∧ u.cell? ⟨r.be, 2, none⟩ = some (ptrO r.l1)) (by kernel_rfl) ?_
    refine svregA (w5 := w) (S := fun u => u.cell? ⟨r.be, 0, none⟩ = some (ptrO r.l0) ∧ u.cell? ⟨r.be, 2, none⟩ = some (ptrO r.l1)) (bf := bf) (be := r.be) (L0 := ptrO r.l0) (L1 := ptrO r.l1) (P := fun wc => GvP B bf bm vs fs sv r (some v) w wc) rfl rfl rfl rfl rfl rfl rfl rfl rfl rfl rfl rfl rfl rfl rfl rfl rfl rfl rfl rfl rfl rfl rfl (by kernel_rfl) (by kernel_rfl) (by kernel_rfl) (by kernel_rfl) (fun _ _ _ _ _ h => h) (by simp) rfl rfl HS0.out (fun _ _ _ h => h) (fun u hu => load_pv hu.1) (fun u hu => load_pv hu.2) HC1.out ?_
    intro wc hP
    refine NoPanic.normal ?_
    rename_i hK
    refine hK _ _ ?_
    simp (config := { maxSteps := 8000000 }) only [Act.put, List.getElem_toArray, List.getElem_cons_zero, List.getElem_cons_succ, List.setIfInBounds_toArray, List.set_cons_succ, List.set_cons_zero]
    have HP := Lib.hid hP
    clear hP
    go_wp2
    go_ret
    exact ⟨rfl, HP.out⟩
  | none =>
    have HGV : Hid (gaveO fs r.q = givesO r.q.2.lone r.q.1.vars fs) := by show _ = _; unfold gaveO; rw [ho1]
    rw [ho1] at HG0
    rw [HGV.out]
    have HC1 : Hid (Calls Tryd.prog 76 #[.pointer (some ⟨bf, 0, none⟩), ptrO r.l0, .pointer (some ⟨r.be, 2, none⟩)] w.drew fun e w' => e = .returned (.bool false) ∧ (w'.cell? ⟨r.be, 0, none⟩ = some (ptrO r.l0) ∧ w'.cell? ⟨r.be, 2, none⟩ = some (ptrO r.l1)) ∧ Calls Tryd.prog 76 #[.pointer (some ⟨bf, 0, none⟩), ptrO r.l1, .pointer (some ⟨r.be, 0, none⟩)] w' fun e w'' => e = .returned (.bool (givesO r.q.2.lone r.q.1.vars fs).isSome) ∧ (w''.cell? ⟨r.be, 0, none⟩ = some (ptrO r.l0) ∧ w''.cell? ⟨r.be, 2, none⟩ = some (ptrO r.l1)) ∧ GvP B bf bm vs fs sv r (givesO r.q.2.lone r.q.1.vars fs) w w'') := by
      refine HG0.out.mono ?_
      rintro e u ⟨rfl, hg⟩
      obtain ⟨r1, sv1, h1, h2, h3, h4, h5, h6, h7⟩ := hg.undrew
      simp only [Option.toList_none, List.append_nil] at h4 h5
      refine ⟨rfl, ?_, ?_⟩
      · have a0 := h5.row.at (j := 0) rfl
        have a2 := h5.row.at (j := 2) rfl
        rw [h1, h2.2.1] at a0
        rw [h1, h2.2.2] at a2
        exact ⟨a0, a2⟩
      · have hg1 := give1_any h4 (Nat.le_trans hB h6.size) r1 h5 hl (World.rowIs.lt h5.row)
        rw [h1, h2.1, h2.2.2] at hg1
        refine hg1.mono ?_
        rintro e w'' ⟨rfl, hg2⟩
        refine ⟨rfl, ?_, GvP.then h1 h2 h3 h6 h7 hg2⟩
        obtain ⟨r', sv', k1, k2, _, _, k5, _⟩ := hg2
        have a0 := k5.row.at (j := 0) rfl
        have a2 := k5.row.at (j := 2) rfl
        rw [k1, h1, k2.2.1, h2.2.1] at a0
        rw [k1, h1, k2.2.2, h2.2.2] at a2
        exact ⟨a0, a2⟩
    generalize givesO r.q.2.lone r.q.1.vars fs = o2 at HC1
    clear ho1 HGV HG0
    go_enter Tryd.func65, Tryd.ntmps65
    go_upto_region 1 with fail
    refine wp_region_noPanic ?_
    refine wp_region_held (S := fun u => u.cell? ⟨r.be, 0, none⟩ = some (ptrO r.l0) ∧ u.cell? ⟨r.be, 2, none⟩ = some (ptrO r.l1)) (by kernel_rfl) ?_
    refine svregB (w5 := w) (S := fun u => u.cell? ⟨r.be, 0, none⟩ = some (ptrO r.l0) ∧ u.cell? ⟨r.be, 2, none⟩ = some (ptrO r.l1)) (bf := bf) (be := r.be) (L0 := ptrO r.l0) (L1 := ptrO r.l1) (P := fun wc => GvP B bf bm vs fs sv r o2 w wc) (b2 := o2.isSome) rfl rfl rfl rfl rfl rfl rfl rfl rfl rfl rfl rfl rfl rfl rfl rfl rfl rfl rfl rfl rfl rfl rfl (by kernel_rfl) (by kernel_rfl) (by kernel_rfl) (by kernel_rfl) (by kernel_rfl) (fun _ _ _ _ _ h => h) (by simp) rfl rfl HS0.out (fun _ _ _ h => h) (fun u hu => load_pv hu.1) (fun u hu => load_pv hu.2) HC1.out ?_
    intro wc hP
    refine NoPanic.normal ?_
    rename_i hK
    refine hK _ _ ?_
    simp (config := { maxSteps := 8000000 }) only [Act.put, List.getElem_toArray, List.getElem_cons_zero, List.getElem_cons_succ, List.setIfInBounds_toArray, List.set_cons_succ, List.set_cons_zero]
    have HP := Lib.hid hP
    clear hP
    go_wp2
    go_ret
    exact ⟨rfl, HP.out⟩
end Go.Proofs.YteabclfhmapabaaDoor
end
section
namespace Go.Proofs.YteabclfhmapabaaDoor
open Go.RowKit Go.Maps
set_option linter.unusedVariables false
set_option linter.unusedSimpArgs false
attribute [local go_sem ↓] Go.wp_at_zero Go.wp_at_succ

theorem step_call {P : Program} {ops : Array Oper} {o : Oper} {a : Act} {w : World} {K : Act → World → Prop} {Q : Exit → Act → World → Prop} {E : Prop}
    (hg : o.guard = none) (f : FuncId) {fn : Func} (hf : P.funcs[f]? = some fn) (hn : (fn.name == "runtime.NumGoroutine") = false) (hb : fn.body.isNone = false) (xs : Array Operand) (tys : Array TypeId) (hop : o.op = Op.call { callee := Callee.value (Operand.func f), args := xs, argTypes := tys }) (vs : Array Value) (hx : xs.map a.eval = vs)
    {post : Ending → World → Prop} (hc : Calls P f vs w post) (hK : ∀ e w', post e w' → ∃ v, e = .returned v ∧ K (a.put o.dst v) w') :
    if Region.wanted o (yielded ops a.tmps) = true then Oper.wp P o a w K Q else E := by
  have hw : Region.wanted o (yielded ops a.tmps) = true := by simp [Region.wanted, hg]
  rw [if_pos hw]
  have he : (execOp a.eval o).run P w = .ok (.enter f vs) w := by
    have hn' : ¬ fn.name = "runtime.NumGoroutine" := by simpa using hn
    have hb' : ¬ fn.body = none := by cases h : fn.body <;> simp [h] at hb ⊢
    simp [execOp, hop, resolve, invoke, ← hx, Act.eval, Result.andThen, Deferred.ofValue, callFunc, (show Sem.run P program w = .ok P w from rfl), hf, hn', hb', go_sem]
  unfold Oper.wp
  rw [he, Oper.upon_enter]
  refine hc.mono fun e w' h => ?_
  obtain ⟨v, rfl, hk⟩ := hK e w' h
  exact hk
def ptrL (x : Vb) : List Value := [ptrV x]
/-- ExprVars: its row is a new one -/
theorem vexprVarsO_any (d : Nat) (e : E) (a : Option Addr) (c : Nat) (w : World) (hE : EIs w d e a c) (hs : szD d e ≤ 1048576) : Calls Tryd.prog 56 #[e.val a c] w fun r w' => ∃ sv, r = .returned sv ∧ w'.ownsRow (w.heap.size + 1) 9 1 sv (vsT [] (termsD d e)).length ((vsT [] (termsD d e)).flatMap strB) ∧ Below w.heap.size w w' := by
  have b0 := (Below.refl w.heap.size w).alloc (Nat.le_refl _) (.cells #[.int .i8 e.op, .string e.t.v, .int .i8 e.t.a.k, .int .i64 e.t.a.n, .string e.t.a.s, .slice a e.kids.length c] 54)
  have HV : Hid _ := variablesExpr_any w.heap.size d e a c (w.alloc (.cells #[.int .i8 e.op, .string e.t.v, .int .i8 e.t.a.k, .int .i64 e.t.a.n, .string e.t.a.s, .slice a e.kids.length c] 54)) (by simp) (by refine ⟨?_, ?_, ?_, ?_, ?_, ?_⟩ <;> go_simp) (hE.below b0) hs
  clear hE
  unfold E.val
  go_enter Tryd.func56, Tryd.ntmps56
  go_wp2_with fail
  refine Calls.mono HV.out ?_
  rintro ee w1 ⟨sv, rfl, ho, b1⟩
  go_wp2
  go_ret
  exact ⟨_, rfl, by simpa using ho, b0.trans (b1.mono b0.size)⟩
theorem infoPVb : (Tryd.prog.info? 143).map (fun i => (i.zero, i.size, i.bytes)) = some (some (.pointer none), 1, 8) := by kernel_rfl
/-- side under way: z the size at the start, Z the size ahead of the row -/
structure SiS (B bf bm : Nat) (vs : List Vb) (fs : List ByteArray) (sv : Value) (w : World) (ec : List Value) (Z : World) (vs' xs : List Vb) (a : Option Addr) (c : Nat) (u : World) : Prop where
  fd : Fd B bf bm vs' fs sv u
  r3 : RL u w.heap.size 54 ec
  r4 : RL u (w.heap.size + 1) 152 [.pointer none, .slice none 0 0]
  r5 : RL u (w.heap.size + 2) 152 [.pointer none, .slice a xs.length c]
  own : u.ownsRow Z.heap.size 143 1 (.slice a xs.length c) xs.length (xs.flatMap ptrL)
  tz : Tz (fun k => k = bm) w u
  ext : ∃ m, vs' = vs ++ m ∧ ∀ y ∈ m, Z.heap.size ≤ y.b
  mem : ∀ x ∈ xs, x ∈ vs'
  nm : ∀ b, w.heap.size + 3 ≤ b → b < Z.heap.size → u.heap[b]? = Z.heap[b]?
  ap : ∀ g, (Value.slice a xs.length c).ownBlock = some g → ∀ x ∈ vs', g ≠ x.b
  zs : w.heap.size + 3 ≤ Z.heap.size ∧ Z.heap.size ≤ u.heap.size
  bl : bf < w.heap.size ∧ bm < w.heap.size ∧ ∀ g, sv.ownBlock = some g → g < w.heap.size
theorem SiS.keep {B bf bm : Nat} {vs : List Vb} {fs : List ByteArray} {sv : Value} {w : World} {ec : List Value} {Z : World} {vs' vs'' xs : List Vb} {a : Option Addr} {c : Nat} {u u2 : World} (h : SiS B bf bm vs fs sv w ec Z vs' xs a c u)
    (hf : Fd B bf bm vs'' fs sv u2) (hm : ∃ m, vs'' = vs' ++ m ∧ ∀ y ∈ m, u.heap.size ≤ y.b) (ht : Tz (fun k => k = bm) u u2) : SiS B bf bm vs fs sv w ec Z vs'' xs a c u2 := by
  obtain ⟨m, rfl, hm⟩ := hm
  obtain ⟨m0, hv, hm0⟩ := h.ext
  have hbm := h.bl.2.1
  have hz := h.zs
  have hk : ∀ k, w.heap.size ≤ k → k < u.heap.size → u2.heap[k]? = u.heap[k]? := fun k h1 h2 => ht.block k h2 (by omega)
  refine ⟨hf, World.rowIs.of_block h.r3 (hk _ (by omega) (World.rowIs.lt h.r3)), World.rowIs.of_block h.r4 (hk _ (by omega) (World.rowIs.lt h.r4)), World.rowIs.of_block h.r5 (hk _ (by omega) (World.rowIs.lt h.r5)), own_of_block h.own (fun g hg => hk g (by have := (h.own.lt g hg).1; omega) (h.own.lt g hg).2), h.tz.trans ht (fun _ _ e => e), ⟨m0 ++ m, by rw [hv, List.append_assoc], fun y hy => ?_⟩, fun x hx => List.mem_append.2 (.inl (h.mem x hx)), fun b h1 h2 => (hk b (by omega) (by omega)).trans (h.nm b h1 h2), fun g hg x hx => ?_, ⟨hz.1, Nat.le_trans hz.2 ht.size⟩, h.bl⟩
  · rcases List.mem_append.1 hy with hy | hy
    · exact hm0 y hy
    · exact Nat.le_trans hz.2 (hm y hy)
  · rcases List.mem_append.1 hx with hx | hx
    · exact h.ap g hg x hx
    · have := hm x hx
      have := (h.own.lt g hg).2
      omega
theorem SiS.below {B bf bm : Nat} {vs : List Vb} {fs : List ByteArray} {sv : Value} {w : World} {ec : List Value} {Z : World} {vs' xs : List Vb} {a : Option Addr} {c : Nat} {u u2 : World} (h : SiS B bf bm vs fs sv w ec Z vs' xs a c u)
    (hb : Below u.heap.size u u2) : SiS B bf bm vs fs sv w ec Z vs' xs a c u2 := h.keep (h.fd.below hb) ⟨[], by simp, fun y hy => by cases hy⟩ (Tz.of_below hb)
theorem SiS.step {B bf bm : Nat} {vs : List Vb} {fs : List ByteArray} {sv : Value} {w : World} {ec : List Value} {Z : World} {vs' xs : List Vb} {a : Option Addr} {c : Nat} {Y w3 : World} {sv' : Value} {x : Vb} (h : SiS B bf bm vs fs sv w ec Z vs' xs a c Y) (hx : x ∈ vs')
    (hown' : w3.ownsRow Z.heap.size 143 1 sv' (xs.length + 1) (xs.flatMap ptrL ++ [ptrV x])) (hgrow : Y.grownBy w3 (Value.slice a xs.length c).ownBlock) (hloc : sv'.ownBlock = (Value.slice a xs.length c).ownBlock ∨ sv'.ownBlock = some Y.heap.size) :
    ∃ a5 c5, sv' = .slice a5 (xs.length + 1) c5 ∧ RL w3 (w.heap.size + 2) 152 [.pointer none, .slice a xs.length c] ∧ SiS B bf bm vs fs sv w ec Z vs' (xs ++ [x]) a5 c5 (w3.setCell ⟨w.heap.size + 2, 1, none⟩ (.slice a5 (xs.length + 1) c5)) := by
  obtain ⟨a5, c5, rfl, _⟩ := own_form hown'
  have hz := h.zs
  have hbl := h.bl
  have k3 : ∀ k, k < Y.heap.size → some k ≠ (Value.slice a xs.length c).ownBlock → w3.heap[k]? = Y.heap[k]? := fun k hk hn => hgrow.block k hk hn
  have hlow : ∀ k, k < Z.heap.size → w3.heap[k]? = Y.heap[k]? := fun k hk => k3 k (by omega) (fun e => by have := (h.own.lt k e.symm).1; omega)
  have h5 : RL w3 (w.heap.size + 2) 152 [.pointer none, .slice a xs.length c] := World.rowIs.of_block h.r5 (hlow _ (by omega))
  have kf : ∀ k, k ≠ w.heap.size + 2 → (w3.setCell ⟨w.heap.size + 2, 1, none⟩ (.slice a5 (xs.length + 1) c5)).heap[k]? = w3.heap[k]? := fun k hk => heap_setCell_other _ _ _ _ (by show k ≠ w.heap.size + 2; exact hk)
  have hel : (xs ++ [x]).length = xs.length + 1 := by simp
  obtain ⟨m0, hv, hm0⟩ := h.ext
  have hvb : ∀ y ∈ vs', y.b < w.heap.size ∨ Z.heap.size ≤ y.b ∨ True := fun _ _ => .inr (.inr trivial)
  have hfp : ∀ k, FP bf bm vs' sv k → k ≠ w.heap.size + 2 ∧ some k ≠ (Value.slice a xs.length c).ownBlock := by
    rintro k (rfl | rfl | e | ⟨y, hy, rfl⟩)
    · exact ⟨by omega, fun e => by have := (h.own.lt _ e.symm).1; omega⟩
    · exact ⟨by omega, fun e => by have := (h.own.lt _ e.symm).1; omega⟩
    · have := hbl.2.2 k e
      exact ⟨by omega, fun e => by have := (h.own.lt _ e.symm).1; omega⟩
    · refine ⟨fun e => ?_, fun e => h.ap _ e.symm y hy rfl⟩
      have c1 := h.r5
      rw [← e] at c1
      have q1 : Y.cell? ⟨y.b, 0, none⟩ = some (.pointer none) := c1.at (j := 0) rfl
      have q2 : Y.cell? ⟨y.b, 0, none⟩ = some (.string y.v) := (h.fd.each y hy).at (j := 0) rfl
      rw [q1] at q2
      cases q2
  have hnew : ∀ g, (Value.slice a5 (xs.length + 1) c5).ownBlock = some g → (Value.slice a xs.length c).ownBlock = some g ∨ g = Y.heap.size := fun g hg => by
    rcases hloc with e | e
    · exact .inl (by rw [← e]; exact hg)
    · rw [e] at hg
      exact .inr (Option.some.inj hg).symm
  refine ⟨a5, c5, rfl, h5, ⟨h.fd.keep (fun k hk => ?_), ?_, ?_, ?_, ?_, ?_, ⟨m0, hv, hm0⟩, ?_, ?_, ?_, ⟨hz.1, ?_⟩, hbl⟩⟩
  · rw [kf k (hfp k hk).1]
    exact k3 k (h.fd.lt k hk) (hfp k hk).2
  · exact World.rowIs.of_block h.r3 (by rw [kf _ (by omega)]; exact hlow _ (by omega))
  · exact World.rowIs.of_block h.r4 (by rw [kf _ (by omega)]; exact hlow _ (by omega))
  · rw [hel]
    exact h5.set 1 _
  · have e2 : (xs ++ [x]).flatMap ptrL = xs.flatMap ptrL ++ [ptrV x] := by rw [List.flatMap_append]; rfl
    rw [hel, e2]
    exact own_of_block hown' (fun g hg => kf g (by have := (hown'.lt g hg).1; omega))
  · have ht := h.tz
    refine ⟨hgrow.os.trans ht.os, hgrow.tape.trans ht.tape, hgrow.output.trans ht.output, by simp only [World.size_setCell]; have := hgrow.size; have := ht.size; omega, fun b hb he => ?_⟩
    rw [kf b (by omega), hlow b (by omega)]
    exact ht.block b hb he
  · intro y hy
    rcases List.mem_append.1 hy with hy | hy
    · exact h.mem y hy
    · rw [List.mem_singleton.1 hy]; exact hx
  · intro b h1 h2
    rw [kf b (by omega), hlow b (by omega)]
    exact h.nm b h1 h2
  · intro g hg y hy
    rw [hel] at hg
    rcases hnew g hg with e | e
    · exact h.ap g e y hy
    · have := h.fd.lt y.b (.inr (.inr (.inr ⟨y, hy, rfl⟩)))
      omega
  · simp only [World.size_setCell]
    have := hgrow.size
    omega
theorem own_lq {w : World} {base : Nat} {a : Option Addr} {c : Nat} {xs : List Vb} (h : w.ownsRow base 143 1 (.slice a xs.length c) xs.length (xs.flatMap ptrL)) : Lq w a c xs := by
  obtain ⟨a', c', e, h1, h2, h3⟩ := ls_range (f := ptrL) (k := 1) (fun _ => rfl) Vb0 (ls_own h)
  cases e
  refine ⟨h1, h2, fun h0 => ?_⟩
  obtain ⟨g, off, ha, hg, hc⟩ := h3 h0
  refine ⟨g, off, ha, hg, fun i hi => ?_⟩
  have := hc i hi 0 _ rfl
  rw [Nat.mul_one, Nat.add_zero] at this
  exact this
end Go.Proofs.YteabclfhmapabaaDoor
end
section
namespace Go.Proofs.YteabclfhmapabaaDoor
open Go.RowKit Go.Maps
set_option linter.unusedVariables false
set_option linter.unusedSimpArgs false
attribute [local go_sem ↓] Go.wp_at_zero Go.wp_at_succ

theorem load_kind {u : World} {a : Addr} {k : Int} (h : u.cell? a = some (.int .i8 k)) : (loadVar 41 a).run Tryd.prog u = .ok (.int .i8 k) u := by go_simp
theorem load_relL {u : World} {a : Addr} {k : Int} (h : u.cell? a = some (.int .i8 k)) : (loadVar 45 a).run Tryd.prog u = .ok (.int .i8 k) u := by go_simp
theorem load_ExpL {u : World} {g o : Nat} {cs : List Value} (h : u.rangeAt g o cs) (hl : cs.length = 6) : (loadVar 54 ⟨g, o, none⟩).run Tryd.prog u = .ok (.agg cs.toArray) u :=
  run_loadVar_mid u g o _ cs _ h Tryd.underlying54 rfl (by rw [hl]; kernel_rfl)
attribute [-go_sem] loadVar storeVar

theorem eqL_take {d : Nat} {l : List XL} {k : Nat} (h : k < l.length) : eqL d (l.take (k + 1)) = eqL d (l.take k) ++ eqX d (atL l k) := by
  unfold eqL
  rw [takeXL h, List.flatMap_append]
  simp
/-- the fields of a literal in a box -/
theorem lit_fields {u : World} {b : Nat} {y : XL} (h : RL u b 56 y.cells) :
    (loadVar 41 ⟨b, 0, none⟩).run Tryd.prog u = .ok (.int .i8 y.x.k) u ∧ (loadVar 45 ⟨b, 3, none⟩).run Tryd.prog u = .ok (.int .i8 y.x.rel) u ∧
    (loadVar 54 ⟨b, 4, none⟩).run Tryd.prog u = .ok (y.x.l.val y.p.la y.p.lc) u ∧ (loadVar 54 ⟨b, 10, none⟩).run Tryd.prog u = .ok (y.x.r.val y.p.ra y.p.rc) u := by
  refine ⟨load_kind (RL.at h (j := 0) rfl), load_relL (RL.at h (j := 3) rfl), ?_, ?_⟩
  · refine load_ExpL (cs := [.int .i8 y.x.l.op, .string y.x.l.t.v, .int .i8 y.x.l.t.a.k, .int .i64 y.x.l.t.a.n, .string y.x.l.t.a.s, .slice y.p.la y.x.l.kids.length y.p.lc]) (fun j v hj => ?_) rfl
    match j, hj with
    | 0, hj => simp at hj; subst hj; exact RL.at h (j := 4) rfl
    | 1, hj => simp at hj; subst hj; exact RL.at h (j := 5) rfl
    | 2, hj => simp at hj; subst hj; exact RL.at h (j := 6) rfl
    | 3, hj => simp at hj; subst hj; exact RL.at h (j := 7) rfl
    | 4, hj => simp at hj; subst hj; exact RL.at h (j := 8) rfl
    | 5, hj => simp at hj; subst hj; exact RL.at h (j := 9) rfl
  · refine load_ExpL (cs := [.int .i8 y.x.r.op, .string y.x.r.t.v, .int .i8 y.x.r.t.a.k, .int .i64 y.x.r.t.a.n, .string y.x.r.t.a.s, .slice y.p.ra y.x.r.kids.length y.p.rc]) (fun j v hj => ?_) rfl
    match j, hj with
    | 0, hj => simp at hj; subst hj; exact RL.at h (j := 10) rfl
    | 1, hj => simp at hj; subst hj; exact RL.at h (j := 11) rfl
    | 2, hj => simp at hj; subst hj; exact RL.at h (j := 12) rfl
    | 3, hj => simp at hj; subst hj; exact RL.at h (j := 13) rfl
    | 4, hj => simp at hj; subst hj; exact RL.at h (j := 14) rfl
    | 5, hj => simp at hj; subst hj; exact RL.at h (j := 15) rfl
end Go.Proofs.YteabclfhmapabaaDoor
end
