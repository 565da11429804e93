import Derived.Test.YteabclfhmapabaaGreatDoorLmSvR
import Derived.Test.YteabclfhmapabaaGreatDoorA5
import Derived.Test.YteabclfhmapabaaGreatDoorA8
import Derived.Test.YteabclfhmapabaaGreatDoorA6
section
namespace Go.Proofs.YteabclfhmapabaaGreatDoor
open Go.RowKit Go.Maps
set_option linter.unusedVariables false
set_option linter.unusedSimpArgs false
attribute [local go_sem ↓] Go.wp_at_zero Go.wp_at_succ

theorem load_pv {u : World} {a : Addr} {v : Value} (h : u.cell? a = some v) : (loadVar 108 a).run Tryz.prog u = .ok v u := by go_simp
theorem GvP.undrew {B bf bm : Nat} {vs : List Vb} {fs : List ByteArray} {sv : Value} {r : Er} {o : Option ByteArray} {w w' : World} (h : GvP B bf bm vs fs sv r o w.drew w') : GvP B bf bm vs fs sv r o w w' := by
  obtain ⟨r', sv', h1, h2, h3, h4, h5, h6, h7⟩ := h
  exact ⟨r', sv', h1, h2, h3, h4, h5, ⟨h6.os, h6.tape, h6.output, h6.size, h6.block⟩, h7⟩
/-- where nothing was given first, and then something or nothing -/
theorem GvP.then {B bf bm : Nat} {vs : List Vb} {fs : List ByteArray} {sv sv1 : Value} {r r1 : Er} {o : Option ByteArray} {w u w' : World} (hbe : r1.be = r.be) (hq : r1.q = r.q ∧ r1.l0 = r.l0 ∧ r1.l1 = r.l1) (ha : ∀ g off, (r1.a0 = some ⟨g, off, none⟩ → ∃ off0, r.a0 = some ⟨g, off0, none⟩) ∧ (r1.a1 = some ⟨g, off, none⟩ → ∃ off0, r.a1 = some ⟨g, off0, none⟩)) (ht : Tz (fun k => FP bf bm vs sv k ∨ k = r.be) w u) (hn : ∀ g, sv1.ownBlock = some g → sv.ownBlock = some g ∨ w.heap.size ≤ g)
    (h : GvP B bf bm vs fs sv1 r1 o u w') : GvP B bf bm vs fs sv r o w w' := by
  obtain ⟨r', sv', h1, h2, h3, h4, h5, h6, h7⟩ := h
  refine ⟨r', sv', h1.trans hbe, ⟨h2.1.trans hq.1, h2.2.1.trans hq.2.1, h2.2.2.trans hq.2.2⟩, fun g off => ⟨fun e => ?_, fun e => ?_⟩, h4, h5, ht.trans h6 ?_, fun g hg => ?_⟩
  · obtain ⟨o1, e1⟩ := (h3 g off).1 e
    exact (ha g o1).1 e1
  · obtain ⟨o1, e1⟩ := (h3 g off).2 e
    exact (ha g o1).2 e1
  · rintro b hb (e | e)
    · rcases e with e | e | e | e
      · exact .inl (.inl e)
      · exact .inl (.inr (.inl e))
      · rcases hn b e with k | k
        · exact .inl (.inr (.inr (.inl k)))
        · omega
      · exact .inl (.inr (.inr (.inr e)))
    · exact .inr (e.trans hbe)
  · rcases h7 g hg with k | k
    · exact hn g k
    · exact .inr (Nat.le_trans ht.size k)
set_option maxHeartbeats 3200000 in
theorem solve_any {B bf bm : Nat} {vs : List Vb} {fs : List ByteArray} {sv : Value} {w : World} (h : Fd B bf bm vs fs sv w) (hB : B ≤ w.heap.size) (r : Er) (hr : EqIs bf bm vs fs sv w r) (hl : fs.length ≤ 1000000000) :
    Calls Tryz.prog 48 #[.pointer (some ⟨bf, 0, none⟩), .pointer (some ⟨r.be, 0, none⟩)] w fun e w' => e = .returned (.bool (gaveO fs r.q).isSome) ∧ GvP B bf bm vs fs sv r (gaveO fs r.q) w w' := by
  have hbe := World.rowIs.lt hr.row
  have hD : Below w.heap.size w w.drew := (Below.refl _ _).drew
  have HFD := Lib.hid (h.below hD)
  have HRD : Hid (EqIs bf bm vs fs sv w.drew r) := hr.keep (Tz.of_below (ex := fun _ => False) hD) (fun _ _ _ e => e) (fun n hn => hn) (fun x hx => hx) (fun k _ hk => hk)
  have HS0 : Hid (w.drew.cell? ⟨r.be, 0, none⟩ = some (ptrO r.l0) ∧ w.drew.cell? ⟨r.be, 2, none⟩ = some (ptrO r.l1)) := ⟨HRD.out.row.at (j := 0) rfl, HRD.out.row.at (j := 2) rfl⟩
  have HG0 := Lib.hid (give0_any HFD.out hB r HRD.out hl (Nat.lt_of_lt_of_le hbe hD.size))
  clear h hr
  cases ho1 : givesO r.q.1.lone r.q.2.vars fs with
  | some v =>
    have HGV : Hid (gaveO fs r.q = some v) := by show _ = _; unfold gaveO; rw [ho1]
    rw [ho1] at HG0
    rw [HGV.out]
    have HC1 : Hid (Calls Tryz.prog 73 #[.pointer (some ⟨bf, 0, none⟩), ptrO r.l0, .pointer (some ⟨r.be, 2, none⟩)] w.drew fun e w' => e = .returned (.bool true) ∧ (w'.cell? ⟨r.be, 0, none⟩ = some (ptrO r.l0) ∧ w'.cell? ⟨r.be, 2, none⟩ = some (ptrO r.l1)) ∧ GvP B bf bm vs fs sv r (some v) w w') := by
      refine HG0.out.mono ?_
      rintro e w' ⟨rfl, hg⟩
      refine ⟨rfl, ?_, hg.undrew⟩
      obtain ⟨r', sv', h1, h2, _, _, h5, _⟩ := hg
      have a0 := h5.row.at (j := 0) rfl
      have a2 := h5.row.at (j := 2) rfl
      rw [h1, h2.2.1] at a0
      rw [h1, h2.2.2] at a2
      exact ⟨a0, a2⟩
    clear ho1
    go_enter Tryz.func48, Tryz.ntmps48
    go_upto_region 1 with fail
    refine wp_region_noPanic ?_
    refine wp_region_held (S := fun u => u.cell? ⟨r.be, 0, none⟩ = some (ptrO r.l0) ∧ u.cell? ⟨r.be, 2, none⟩ = some (ptrO r.l1)) (by kernel_rfl) ?_
    refine svregA (w5 := w) (S := fun u => u.cell? ⟨r.be, 0, none⟩ = some (ptrO r.l0) ∧ u.cell? ⟨r.be, 2, none⟩ = some (ptrO r.l1)) (bf := bf) (be := r.be) (L0 := ptrO r.l0) (L1 := ptrO r.l1) (P := fun wc => GvP B bf bm vs fs sv r (some v) w wc) rfl rfl rfl rfl rfl rfl rfl rfl rfl rfl rfl rfl rfl rfl rfl rfl rfl rfl rfl rfl rfl rfl rfl (by kernel_rfl) (by kernel_rfl) (by kernel_rfl) (by kernel_rfl) (fun _ _ _ _ _ h => h) (by simp) rfl rfl HS0.out (fun _ _ _ h => h) (fun u hu => load_pv hu.1) (fun u hu => load_pv hu.2) HC1.out ?_
    intro wc hP
    refine NoPanic.normal ?_
    rename_i hK
    refine hK _ _ ?_
    simp (config := { maxSteps := 8000000 }) only [Act.put, List.getElem_toArray, List.getElem_cons_zero, List.getElem_cons_succ, List.setIfInBounds_toArray, List.set_cons_succ, List.set_cons_zero]
    have HP := Lib.hid hP
    clear hP
    go_wp2
    go_ret
    exact ⟨rfl, HP.out⟩
  | none =>
    have HGV : Hid (gaveO fs r.q = givesO r.q.2.lone r.q.1.vars fs) := by show _ = _; unfold gaveO; rw [ho1]
    rw [ho1] at HG0
    rw [HGV.out]
    have HC1 : Hid (Calls Tryz.prog 73 #[.pointer (some ⟨bf, 0, none⟩), ptrO r.l0, .pointer (some ⟨r.be, 2, none⟩)] w.drew fun e w' => e = .returned (.bool false) ∧ (w'.cell? ⟨r.be, 0, none⟩ = some (ptrO r.l0) ∧ w'.cell? ⟨r.be, 2, none⟩ = some (ptrO r.l1)) ∧ Calls Tryz.prog 73 #[.pointer (some ⟨bf, 0, none⟩), ptrO r.l1, .pointer (some ⟨r.be, 0, none⟩)] w' fun e w'' => e = .returned (.bool (givesO r.q.2.lone r.q.1.vars fs).isSome) ∧ (w''.cell? ⟨r.be, 0, none⟩ = some (ptrO r.l0) ∧ w''.cell? ⟨r.be, 2, none⟩ = some (ptrO r.l1)) ∧ GvP B bf bm vs fs sv r (givesO r.q.2.lone r.q.1.vars fs) w w'') := by
      refine HG0.out.mono ?_
      rintro e u ⟨rfl, hg⟩
      obtain ⟨r1, sv1, h1, h2, h3, h4, h5, h6, h7⟩ := hg.undrew
      simp only [Option.toList_none, List.append_nil] at h4 h5
      refine ⟨rfl, ?_, ?_⟩
      · have a0 := h5.row.at (j := 0) rfl
        have a2 := h5.row.at (j := 2) rfl
        rw [h1, h2.2.1] at a0
        rw [h1, h2.2.2] at a2
        exact ⟨a0, a2⟩
      · have hg1 := give1_any h4 (Nat.le_trans hB h6.size) r1 h5 hl (World.rowIs.lt h5.row)
        rw [h1, h2.1, h2.2.2] at hg1
        refine hg1.mono ?_
        rintro e w'' ⟨rfl, hg2⟩
        refine ⟨rfl, ?_, GvP.then h1 h2 h3 h6 h7 hg2⟩
        obtain ⟨r', sv', k1, k2, _, _, k5, _⟩ := hg2
        have a0 := k5.row.at (j := 0) rfl
        have a2 := k5.row.at (j := 2) rfl
        rw [k1, h1, k2.2.1, h2.2.1] at a0
        rw [k1, h1, k2.2.2, h2.2.2] at a2
        exact ⟨a0, a2⟩
    generalize givesO r.q.2.lone r.q.1.vars fs = o2 at HC1
    clear ho1 HGV HG0
    go_enter Tryz.func48, Tryz.ntmps48
    go_upto_region 1 with fail
    refine wp_region_noPanic ?_
    refine wp_region_held (S := fun u => u.cell? ⟨r.be, 0, none⟩ = some (ptrO r.l0) ∧ u.cell? ⟨r.be, 2, none⟩ = some (ptrO r.l1)) (by kernel_rfl) ?_
    refine svregB (w5 := w) (S := fun u => u.cell? ⟨r.be, 0, none⟩ = some (ptrO r.l0) ∧ u.cell? ⟨r.be, 2, none⟩ = some (ptrO r.l1)) (bf := bf) (be := r.be) (L0 := ptrO r.l0) (L1 := ptrO r.l1) (P := fun wc => GvP B bf bm vs fs sv r o2 w wc) (b2 := o2.isSome) rfl rfl rfl rfl rfl rfl rfl rfl rfl rfl rfl rfl rfl rfl rfl rfl rfl rfl rfl rfl rfl rfl rfl (by kernel_rfl) (by kernel_rfl) (by kernel_rfl) (by kernel_rfl) (by kernel_rfl) (fun _ _ _ _ _ h => h) (by simp) rfl rfl HS0.out (fun _ _ _ h => h) (fun u hu => load_pv hu.1) (fun u hu => load_pv hu.2) HC1.out ?_
    intro wc hP
    refine NoPanic.normal ?_
    rename_i hK
    refine hK _ _ ?_
    simp (config := { maxSteps := 8000000 }) only [Act.put, List.getElem_toArray, List.getElem_cons_zero, List.getElem_cons_succ, List.setIfInBounds_toArray, List.set_cons_succ, List.set_cons_zero]
    have HP := Lib.hid hP
    clear hP
    go_wp2
    go_ret
    exact ⟨rfl, HP.out⟩
end Go.Proofs.YteabclfhmapabaaGreatDoor
end
section
namespace Go.Proofs.YteabclfhmapabaaGreatDoor
open Go.RowKit Go.Maps
set_option linter.unusedVariables false
set_option linter.unusedSimpArgs false
attribute [local go_sem ↓] Go.wp_at_zero Go.wp_at_succ

theorem step_call {P : Program} {ops : Array Oper} {o : Oper} {a : Act} {w : World} {K : Act → World → Prop} {Q : Exit → Act → World → Prop} {E : Prop}
    (hg : o.guard = none) (f : FuncId) {fn : Func} (hf : P.funcs[f]? = some fn) (hn : (fn.name == "runtime.NumGoroutine") = false) (hb : fn.body.isNone = false) (xs : Array Operand) (tys : Array TypeId) (hop : o.op = Op.call { callee := Callee.value (Operand.func f), args := xs, argTypes := tys }) (vs : Array Value) (hx : xs.map a.eval = vs)
    {post : Ending → World → Prop} (hc : Calls P f vs w post) (hK : ∀ e w', post e w' → ∃ v, e = .returned v ∧ K (a.put o.dst v) w') :
    if Region.wanted o (yielded ops a.tmps) = true then Oper.wp P o a w K Q else E := by
  have hw : Region.wanted o (yielded ops a.tmps) = true := by simp [Region.wanted, hg]
  rw [if_pos hw]
  have he : (execOp a.eval o).run P w = .ok (.enter f vs) w := by
    have hn' : ¬ fn.name = "runtime.NumGoroutine" := by simpa using hn
    have hb' : ¬ fn.body = none := by cases h : fn.body <;> simp [h] at hb ⊢
    simp [execOp, hop, resolve, invoke, ← hx, Act.eval, Result.andThen, Deferred.ofValue, callFunc, (show Sem.run P program w = .ok P w from rfl), hf, hn', hb', go_sem]
  unfold Oper.wp
  rw [he, Oper.upon_enter]
  refine hc.mono fun e w' h => ?_
  obtain ⟨v, rfl, hk⟩ := hK e w' h
  exact hk
def ptrL (x : Vb) : List Value := [ptrV x]
/-- ExprVars: its row is a new one -/
theorem vexprVarsO_any (d : Nat) (e : E) (a : Option Addr) (c : Nat) (w : World) (hE : EIs w d e a c) (hs : szD d e ≤ 1048576) : Calls Tryz.prog 72 #[e.val a c] w fun r w' => ∃ sv, r = .returned sv ∧ w'.ownsRow (w.heap.size + 1) 9 1 sv (vsT [] (termsD d e)).length ((vsT [] (termsD d e)).flatMap strB) ∧ Below w.heap.size w w' := by
  have b0 := (Below.refl w.heap.size w).alloc (Nat.le_refl _) (.cells #[.int .i8 e.op, .string e.t.v, .int .i8 e.t.a.k, .int .i64 e.t.a.n, .string e.t.a.s, .slice a e.kids.length c] 51)
  have HV : Hid _ := variablesExpr_any w.heap.size d e a c (w.alloc (.cells #[.int .i8 e.op, .string e.t.v, .int .i8 e.t.a.k, .int .i64 e.t.a.n, .string e.t.a.s, .slice a e.kids.length c] 51)) (by simp) (by refine ⟨?_, ?_, ?_, ?_, ?_, ?_⟩ <;> go_simp) (hE.below b0) hs
  clear hE
  unfold E.val
  go_enter Tryz.func72, Tryz.ntmps72
  go_wp2_with fail
  refine Calls.mono HV.out ?_
  rintro ee w1 ⟨sv, rfl, ho, b1⟩
  go_wp2
  go_ret
  exact ⟨_, rfl, by simpa using ho, b0.trans (b1.mono b0.size)⟩
theorem infoPVb : (Tryz.prog.info? 108).map (fun i => (i.zero, i.size, i.bytes)) = some (some (.pointer none), 1, 8) := by kernel_rfl
/-- side under way: z the size at the start, Z the size ahead of the row -/
structure SiS (B bf bm : Nat) (vs : List Vb) (fs : List ByteArray) (sv : Value) (w : World) (ec : List Value) (Z : World) (vs' xs : List Vb) (a : Option Addr) (c : Nat) (u : World) : Prop where
  fd : Fd B bf bm vs' fs sv u
  r3 : RL u w.heap.size 51 ec
  r4 : RL u (w.heap.size + 1) 117 [.pointer none, .slice none 0 0]
  r5 : RL u (w.heap.size + 2) 117 [.pointer none, .slice a xs.length c]
  own : u.ownsRow Z.heap.size 108 1 (.slice a xs.length c) xs.length (xs.flatMap ptrL)
  tz : Tz (fun k => k = bm) w u
  ext : ∃ m, vs' = vs ++ m ∧ ∀ y ∈ m, Z.heap.size ≤ y.b
  mem : ∀ x ∈ xs, x ∈ vs'
  nm : ∀ b, w.heap.size + 3 ≤ b → b < Z.heap.size → u.heap[b]? = Z.heap[b]?
  ap : ∀ g, (Value.slice a xs.length c).ownBlock = some g → ∀ x ∈ vs', g ≠ x.b
  zs : w.heap.size + 3 ≤ Z.heap.size ∧ Z.heap.size ≤ u.heap.size
  bl : bf < w.heap.size ∧ bm < w.heap.size ∧ ∀ g, sv.ownBlock = some g → g < w.heap.size
theorem SiS.keep {B bf bm : Nat} {vs : List Vb} {fs : List ByteArray} {sv : Value} {w : World} {ec : List Value} {Z : World} {vs' vs'' xs : List Vb} {a : Option Addr} {c : Nat} {u u2 : World} (h : SiS B bf bm vs fs sv w ec Z vs' xs a c u)
    (hf : Fd B bf bm vs'' fs sv u2) (hm : ∃ m, vs'' = vs' ++ m ∧ ∀ y ∈ m, u.heap.size ≤ y.b) (ht : Tz (fun k => k = bm) u u2) : SiS B bf bm vs fs sv w ec Z vs'' xs a c u2 := by
  obtain ⟨m, rfl, hm⟩ := hm
  obtain ⟨m0, hv, hm0⟩ := h.ext
  have hbm := h.bl.2.1
  have hz := h.zs
  have hk : ∀ k, w.heap.size ≤ k → k < u.heap.size → u2.heap[k]? = u.heap[k]? := fun k h1 h2 => ht.block k h2 (by omega)
  refine ⟨hf, World.rowIs.of_block h.r3 (hk _ (by omega) (World.rowIs.lt h.r3)), World.rowIs.of_block h.r4 (hk _ (by omega) (World.rowIs.lt h.r4)), World.rowIs.of_block h.r5 (hk _ (by omega) (World.rowIs.lt h.r5)), own_of_block h.own (fun g hg => hk g (by have := (h.own.lt g hg).1; omega) (h.own.lt g hg).2), h.tz.trans ht (fun _ _ e => e), ⟨m0 ++ m, by rw [hv, List.append_assoc], fun y hy => ?_⟩, fun x hx => List.mem_append.2 (.inl (h.mem x hx)), fun b h1 h2 => (hk b (by omega) (by omega)).trans (h.nm b h1 h2), fun g hg x hx => ?_, ⟨hz.1, Nat.le_trans hz.2 ht.size⟩, h.bl⟩
  · rcases List.mem_append.1 hy with hy | hy
    · exact hm0 y hy
    · exact Nat.le_trans hz.2 (hm y hy)
  · rcases List.mem_append.1 hx with hx | hx
    · exact h.ap g hg x hx
    · have := hm x hx
      have := (h.own.lt g hg).2
      omega
theorem SiS.below {B bf bm : Nat} {vs : List Vb} {fs : List ByteArray} {sv : Value} {w : World} {ec : List Value} {Z : World} {vs' xs : List Vb} {a : Option Addr} {c : Nat} {u u2 : World} (h : SiS B bf bm vs fs sv w ec Z vs' xs a c u)
    (hb : Below u.heap.size u u2) : SiS B bf bm vs fs sv w ec Z vs' xs a c u2 := h.keep (h.fd.below hb) ⟨[], by simp, fun y hy => by cases hy⟩ (Tz.of_below hb)
theorem SiS.step {B bf bm : Nat} {vs : List Vb} {fs : List ByteArray} {sv : Value} {w : World} {ec : List Value} {Z : World} {vs' xs : List Vb} {a : Option Addr} {c : Nat} {Y w3 : World} {sv' : Value} {x : Vb} (h : SiS B bf bm vs fs sv w ec Z vs' xs a c Y) (hx : x ∈ vs')
    (hown' : w3.ownsRow Z.heap.size 108 1 sv' (xs.length + 1) (xs.flatMap ptrL ++ [ptrV x])) (hgrow : Y.grownBy w3 (Value.slice a xs.length c).ownBlock) (hloc : sv'.ownBlock = (Value.slice a xs.length c).ownBlock ∨ sv'.ownBlock = some Y.heap.size) :
    ∃ a5 c5, sv' = .slice a5 (xs.length + 1) c5 ∧ RL w3 (w.heap.size + 2) 117 [.pointer none, .slice a xs.length c] ∧ SiS B bf bm vs fs sv w ec Z vs' (xs ++ [x]) a5 c5 (w3.setCell ⟨w.heap.size + 2, 1, none⟩ (.slice a5 (xs.length + 1) c5)) := by
  obtain ⟨a5, c5, rfl, _⟩ := own_form hown'
  have hz := h.zs
  have hbl := h.bl
  have k3 : ∀ k, k < Y.heap.size → some k ≠ (Value.slice a xs.length c).ownBlock → w3.heap[k]? = Y.heap[k]? := fun k hk hn => hgrow.block k hk hn
  have hlow : ∀ k, k < Z.heap.size → w3.heap[k]? = Y.heap[k]? := fun k hk => k3 k (by omega) (fun e => by have := (h.own.lt k e.symm).1; omega)
  have h5 : RL w3 (w.heap.size + 2) 117 [.pointer none, .slice a xs.length c] := World.rowIs.of_block h.r5 (hlow _ (by omega))
  have kf : ∀ k, k ≠ w.heap.size + 2 → (w3.setCell ⟨w.heap.size + 2, 1, none⟩ (.slice a5 (xs.length + 1) c5)).heap[k]? = w3.heap[k]? := fun k hk => heap_setCell_other _ _ _ _ (by show k ≠ w.heap.size + 2; exact hk)
  have hel : (xs ++ [x]).length = xs.length + 1 := by simp
  obtain ⟨m0, hv, hm0⟩ := h.ext
  have hvb : ∀ y ∈ vs', y.b < w.heap.size ∨ Z.heap.size ≤ y.b ∨ True := fun _ _ => .inr (.inr trivial)
  have hfp : ∀ k, FP bf bm vs' sv k → k ≠ w.heap.size + 2 ∧ some k ≠ (Value.slice a xs.length c).ownBlock := by
    rintro k (rfl | rfl | e | ⟨y, hy, rfl⟩)
    · exact ⟨by omega, fun e => by have := (h.own.lt _ e.symm).1; omega⟩
    · exact ⟨by omega, fun e => by have := (h.own.lt _ e.symm).1; omega⟩
    · have := hbl.2.2 k e
      exact ⟨by omega, fun e => by have := (h.own.lt _ e.symm).1; omega⟩
    · refine ⟨fun e => ?_, fun e => h.ap _ e.symm y hy rfl⟩
      have c1 := h.r5
      rw [← e] at c1
      have q1 : Y.cell? ⟨y.b, 0, none⟩ = some (.pointer none) := c1.at (j := 0) rfl
      have q2 : Y.cell? ⟨y.b, 0, none⟩ = some (.string y.v) := (h.fd.each y hy).at (j := 0) rfl
      rw [q1] at q2
      cases q2
  have hnew : ∀ g, (Value.slice a5 (xs.length + 1) c5).ownBlock = some g → (Value.slice a xs.length c).ownBlock = some g ∨ g = Y.heap.size := fun g hg => by
    rcases hloc with e | e
    · exact .inl (by rw [← e]; exact hg)
    · rw [e] at hg
      exact .inr (Option.some.inj hg).symm
  refine ⟨a5, c5, rfl, h5, ⟨h.fd.keep (fun k hk => ?_), ?_, ?_, ?_, ?_, ?_, ⟨m0, hv, hm0⟩, ?_, ?_, ?_, ⟨hz.1, ?_⟩, hbl⟩⟩
  · rw [kf k (hfp k hk).1]
    exact k3 k (h.fd.lt k hk) (hfp k hk).2
  · exact World.rowIs.of_block h.r3 (by rw [kf _ (by omega)]; exact hlow _ (by omega))
  · exact World.rowIs.of_block h.r4 (by rw [kf _ (by omega)]; exact hlow _ (by omega))
  · rw [hel]
    exact h5.set 1 _
  · have e2 : (xs ++ [x]).flatMap ptrL = xs.flatMap ptrL ++ [ptrV x] := by rw [List.flatMap_append]; rfl
    rw [hel, e2]
    exact own_of_block hown' (fun g hg => kf g (by have := (hown'.lt g hg).1; omega))
  · have ht := h.tz
    refine ⟨hgrow.os.trans ht.os, hgrow.tape.trans ht.tape, hgrow.output.trans ht.output, by simp only [World.size_setCell]; have := hgrow.size; have := ht.size; omega, fun b hb he => ?_⟩
    rw [kf b (by omega), hlow b (by omega)]
    exact ht.block b hb he
  · intro y hy
    rcases List.mem_append.1 hy with hy | hy
    · exact h.mem y hy
    · rw [List.mem_singleton.1 hy]; exact hx
  · intro b h1 h2
    rw [kf b (by omega), hlow b (by omega)]
    exact h.nm b h1 h2
  · intro g hg y hy
    rw [hel] at hg
    rcases hnew g hg with e | e
    · exact h.ap g e y hy
    · have := h.fd.lt y.b (.inr (.inr (.inr ⟨y, hy, rfl⟩)))
      omega
  · simp only [World.size_setCell]
    have := hgrow.size
    omega
theorem own_lq {w : World} {base : Nat} {a : Option Addr} {c : Nat} {xs : List Vb} (h : w.ownsRow base 108 1 (.slice a xs.length c) xs.length (xs.flatMap ptrL)) : Lq w a c xs := by
  obtain ⟨a', c', e, h1, h2, h3⟩ := ls_range (f := ptrL) (k := 1) (fun _ => rfl) Vb0 (ls_own h)
  cases e
  refine ⟨h1, h2, fun h0 => ?_⟩
  obtain ⟨g, off, ha, hg, hc⟩ := h3 h0
  refine ⟨g, off, ha, hg, fun i hi => ?_⟩
  have := hc i hi 0 _ rfl
  rw [Nat.mul_one, Nat.add_zero] at this
  exact this
end Go.Proofs.YteabclfhmapabaaGreatDoor
end
section
namespace Go.Proofs.YteabclfhmapabaaGreatDoor
open Go.RowKit Go.Maps
set_option linter.unusedVariables false
set_option linter.unusedSimpArgs false
attribute [local go_sem ↓] Go.wp_at_zero Go.wp_at_succ

theorem load_kind {u : World} {a : Addr} {k : Int} (h : u.cell? a = some (.int .i8 k)) : (loadVar 38 a).run Tryz.prog u = .ok (.int .i8 k) u := by go_simp
theorem load_relL {u : World} {a : Addr} {k : Int} (h : u.cell? a = some (.int .i8 k)) : (loadVar 42 a).run Tryz.prog u = .ok (.int .i8 k) u := by go_simp
theorem load_ExpL {u : World} {g o : Nat} {cs : List Value} (h : u.rangeAt g o cs) (hl : cs.length = 6) : (loadVar 51 ⟨g, o, none⟩).run Tryz.prog u = .ok (.agg cs.toArray) u :=
  run_loadVar_mid u g o _ cs _ h Tryz.underlying51 rfl (by rw [hl]; kernel_rfl)
attribute [-go_sem] loadVar storeVar

theorem eqL_take {d : Nat} {l : List XL} {k : Nat} (h : k < l.length) : eqL d (l.take (k + 1)) = eqL d (l.take k) ++ eqX d (atL l k) := by
  unfold eqL
  rw [takeXL h, List.flatMap_append]
  simp
/-- the fields of a literal in a box -/
theorem lit_fields {u : World} {b : Nat} {y : XL} (h : RL u b 53 y.cells) :
    (loadVar 38 ⟨b, 0, none⟩).run Tryz.prog u = .ok (.int .i8 y.x.k) u ∧ (loadVar 42 ⟨b, 3, none⟩).run Tryz.prog u = .ok (.int .i8 y.x.rel) u ∧
    (loadVar 51 ⟨b, 4, none⟩).run Tryz.prog u = .ok (y.x.l.val y.p.la y.p.lc) u ∧ (loadVar 51 ⟨b, 10, none⟩).run Tryz.prog u = .ok (y.x.r.val y.p.ra y.p.rc) u := by
  refine ⟨load_kind (RL.at h (j := 0) rfl), load_relL (RL.at h (j := 3) rfl), ?_, ?_⟩
  · refine load_ExpL (cs := [.int .i8 y.x.l.op, .string y.x.l.t.v, .int .i8 y.x.l.t.a.k, .int .i64 y.x.l.t.a.n, .string y.x.l.t.a.s, .slice y.p.la y.x.l.kids.length y.p.lc]) (fun j v hj => ?_) rfl
    match j, hj with
    | 0, hj => simp at hj; subst hj; exact RL.at h (j := 4) rfl
    | 1, hj => simp at hj; subst hj; exact RL.at h (j := 5) rfl
    | 2, hj => simp at hj; subst hj; exact RL.at h (j := 6) rfl
    | 3, hj => simp at hj; subst hj; exact RL.at h (j := 7) rfl
    | 4, hj => simp at hj; subst hj; exact RL.at h (j := 8) rfl
    | 5, hj => simp at hj; subst hj; exact RL.at h (j := 9) rfl
  · refine load_ExpL (cs := [.int .i8 y.x.r.op, .string y.x.r.t.v, .int .i8 y.x.r.t.a.k, .int .i64 y.x.r.t.a.n, .string y.x.r.t.a.s, .slice y.p.ra y.x.r.kids.length y.p.rc]) (fun j v hj => ?_) rfl
    match j, hj with
    | 0, hj => simp at hj; subst hj; exact RL.at h (j := 10) rfl
    | 1, hj => simp at hj; subst hj; exact RL.at h (j := 11) rfl
    | 2, hj => simp at hj; subst hj; exact RL.at h (j := 12) rfl
    | 3, hj => simp at hj; subst hj; exact RL.at h (j := 13) rfl
    | 4, hj => simp at hj; subst hj; exact RL.at h (j := 14) rfl
    | 5, hj => simp at hj; subst hj; exact RL.at h (j := 15) rfl
end Go.Proofs.YteabclfhmapabaaGreatDoor
end
section
namespace Go.Proofs.YteabclfhmapabaaGreatDoor
open Go.RowKit Go.Maps
set_option linter.unusedVariables false
set_option linter.unusedSimpArgs false
attribute [local go_sem ↓] Go.wp_at_zero Go.wp_at_succ

/-- what a finder and a side are behind side -/
def SiP (B bf bm : Nat) (vs : List Vb) (fs : List ByteArray) (sv : Value) (q : Sd) (w : World) (r : Ending) (w' : World) : Prop :=
  ∃ vs' l xs a c, r = .returned (.agg #[ptrO l, .slice a xs.length c]) ∧ Fd B bf bm vs' fs sv w' ∧ Tz (fun k => k = bm) w w' ∧ (∃ m, vs' = vs ++ m ∧ ∀ y ∈ m, w.heap.size ≤ y.b) ∧ Lq w' a c xs ∧ xs.map Vb.v = q.vars ∧ l.map Vb.v = q.lone ∧ (∀ x, l = some x → x ∈ vs') ∧ (∀ x ∈ xs, x ∈ vs') ∧ (∀ g off, a = some ⟨g, off, none⟩ → w.heap.size ≤ g ∧ g < w'.heap.size ∧ ∀ x ∈ vs', g ≠ x.b)
theorem SiS.fin {B bf bm : Nat} {vs : List Vb} {fs : List ByteArray} {sv : Value} {w : World} {ec : List Value} {Z : World} {vs' xs : List Vb} {a : Option Addr} {c : Nat} {u u' : World} (h : SiS B bf bm vs fs sv w ec Z vs' xs a c u)
    (hk : ∀ k, k ≠ w.heap.size + 1 → k ≠ w.heap.size + 2 → u'.heap[k]? = u.heap[k]?) (h1 : u'.os = u.os) (h2 : u'.tape = u.tape) (h3 : u'.output = u.output) (h4 : u'.heap.size = u.heap.size) {q : Sd} {l : Option Vb} (hv : xs.map Vb.v = q.vars) (hl : l.map Vb.v = q.lone) (hx : ∀ x, l = some x → x ∈ vs') :
    SiP B bf bm vs fs sv q w (.returned (.agg #[ptrO l, .slice a xs.length c])) u' := by
  have hz := h.zs
  have hbl := h.bl
  obtain ⟨m0, hv0, hm0⟩ := h.ext
  have hyb : ∀ y ∈ vs', y.b ≠ w.heap.size + 1 ∧ y.b ≠ w.heap.size + 2 := fun y hy => by
    have q2 : u.cell? ⟨y.b, 0, none⟩ = some (.string y.v) := (h.fd.each y hy).at (j := 0) rfl
    refine ⟨fun e => ?_, fun e => ?_⟩
    · have c1 := h.r4
      rw [← e] at c1
      have q1 : u.cell? ⟨y.b, 0, none⟩ = some (.pointer none) := c1.at (j := 0) rfl
      rw [q1] at q2
      cases q2
    · have c1 := h.r5
      rw [← e] at c1
      have q1 : u.cell? ⟨y.b, 0, none⟩ = some (.pointer none) := c1.at (j := 0) rfl
      rw [q1] at q2
      cases q2
  have hfp : ∀ k, FP bf bm vs' sv k → k ≠ w.heap.size + 1 ∧ k ≠ w.heap.size + 2 := by
    rintro k (rfl | rfl | e | ⟨y, hy, rfl⟩)
    · exact ⟨by omega, by omega⟩
    · exact ⟨by omega, by omega⟩
    · have := hbl.2.2 k e
      exact ⟨by omega, by omega⟩
    · exact hyb y hy
  have hown : u'.ownsRow Z.heap.size 108 1 (.slice a xs.length c) xs.length (xs.flatMap ptrL) := own_of_block h.own (fun g hg => hk g (by have := (h.own.lt g hg).1; omega) (by have := (h.own.lt g hg).1; omega))
  refine ⟨vs', l, xs, a, c, rfl, h.fd.keep (fun k hk' => hk k (hfp k hk').1 (hfp k hk').2), ⟨h1.trans h.tz.os, h2.trans h.tz.tape, h3.trans h.tz.output, by rw [h4]; exact h.tz.size, fun b hb he => (hk b (by omega) (by omega)).trans (h.tz.block b hb he)⟩, ⟨m0, hv0, fun y hy => by have := hm0 y hy; omega⟩, own_lq hown, hv, hl, hx, h.mem, fun g off e => ?_⟩
  subst e
  have hob : (Value.slice (some ⟨g, off, none⟩) xs.length c).ownBlock = some g := by
    obtain ⟨_, ⟨h2, _⟩ | ⟨g2, cap, cur, h2, _⟩⟩ := hown
    · cases h2
    · injection h2 with h2 _ _
      injection h2 with h2
      injection h2 with h2 _ _
      subst h2
      rfl
  have := hown.lt g hob
  exact ⟨by omega, by omega, h.ap g hob⟩
theorem heap_setTwo {u : World} {b4 b5 k : Nat} {v v' : Value} (h4 : k ≠ b4) (h5 : k ≠ b5) : ((u.setCell ⟨b4, 0, none⟩ v).setCell ⟨b4, 1, none⟩ v').heap[k]? = u.heap[k]? := by
  rw [heap_setCell_other _ _ _ _ (by show k ≠ b4; exact h4), heap_setCell_other _ _ _ _ (by show k ≠ b4; exact h4)]
set_option maxHeartbeats 6400000 in
set_option maxRecDepth 100000 in
theorem side_any {B bf bm : Nat} {vs : List Vb} {fs : List ByteArray} {sv : Value} {w : World} (h : Fd B bf bm vs fs sv w) (hB : B ≤ w.heap.size) (d : Nat) (e : E) (a : Option Addr) (c : Nat) (hE : EIs w (d + 1) e a c) (hs : szD (d + 1) e ≤ 1048576) (hnl : (vsT [] (termsD (d + 1) e)).length ≤ 1048576) (hnm : ∀ n ∈ vsT [] (termsD (d + 1) e), n.size ≤ maxLen) :
    Calls Tryz.prog 46 #[.pointer (some ⟨bf, 0, none⟩), e.val a c] w fun r w' => SiP B bf bm vs fs sv (sdE (d + 1) e) w r w' := by
  obtain ⟨i0, hi0, hz0, hz1, hz2⟩ := info_parts infoPVb
  -- the three boxes
  obtain ⟨W1, hW1⟩ : ∃ W1, W1 = w.alloc (.cells #[.int .i8 e.op, .string e.t.v, .int .i8 e.t.a.k, .int .i64 e.t.a.n, .string e.t.a.s, .slice a e.kids.length c] 51) := ⟨_, rfl⟩
  obtain ⟨W2, hW2⟩ : ∃ W2, W2 = W1.alloc (.cells #[.pointer none, .slice none 0 0] 117) := ⟨_, rfl⟩
  obtain ⟨W3, hW3⟩ : ∃ W3, W3 = W2.alloc (.cells #[.pointer none, .slice none 0 0] 117) := ⟨_, rfl⟩
  have z1 : W1.heap.size = w.heap.size + 1 := by rw [hW1]; simp
  have z2 : W2.heap.size = w.heap.size + 2 := by rw [hW2]; simp [z1]
  have z3 : W3.heap.size = w.heap.size + 3 := by rw [hW3]; simp [z2]
  have b1 : Below w.heap.size w W1 := by rw [hW1]; exact belowA _
  have b2 : Below W1.heap.size W1 W2 := by rw [hW2]; exact belowA _
  have b3 : Below W2.heap.size W2 W3 := by rw [hW3]; exact belowA _
  have r3 : RL W3 w.heap.size 51 [.int .i8 e.op, .string e.t.v, .int .i8 e.t.a.k, .int .i64 e.t.a.n, .string e.t.a.s, .slice a e.kids.length c] := by
    have := rl_new w #[.int .i8 e.op, .string e.t.v, .int .i8 e.t.a.k, .int .i64 e.t.a.n, .string e.t.a.s, .slice a e.kids.length c] 51
    rw [← hW1] at this
    exact (RL.below this b2).below b3
  have r4 : RL W3 (w.heap.size + 1) 117 [.pointer none, .slice none 0 0] := by
    have := rl_new W1 #[.pointer none, .slice none 0 0] 117
    rw [← hW2, z1] at this
    exact RL.below this b3
  have r5 : RL W3 (w.heap.size + 2) 117 [.pointer none, .slice none 0 0] := by
    have := rl_new W2 #[.pointer none, .slice none 0 0] 117
    rw [← hW3, z2] at this
    exact this
  have b13 : Below w.heap.size w W3 := b1.trans ((b2.trans (b3.mono b2.size)).mono b1.size)
  have HAX := Lib.hid (vexprVarsO_any (d + 1) e a c W3 (hE.below b13) hs)
  have HNM := Lib.hid hnm
  have HSD : Hid (∀ l : Option ByteArray, (if e.op = 0 ∧ e.kids.length = 0 then (vsT [] (termsD (d + 1) e)).head? else none) = l → sdE (d + 1) e = ⟨l, vsT [] (termsD (d + 1) e)⟩) := fun l hl => by unfold sdE; rw [hl]
  have HLF : Hid (e.kids.length = 0 → (vsT [] (termsD (d + 1) e)).length ≤ 1) := fun h0 => by rw [vsT_leaf h0]; split <;> simp
  generalize hns : vsT [] (termsD (d + 1) e) = ns at HAX HNM HSD HLF hnl
  generalize sdE (d + 1) e = q at HSD
  have HS0 : Hid (∀ Z, Below W3.heap.size W3 Z → SiS B bf bm vs fs sv w [.int .i8 e.op, .string e.t.v, .int .i8 e.t.a.k, .int .i64 e.t.a.n, .string e.t.a.s, .slice a e.kids.length c] Z vs [] none 0 Z) := fun Z hZ =>
    ⟨(h.below b13).below hZ, RL.below r3 hZ, RL.below r4 hZ, RL.below r5 hZ, World.ownsRow_nil _ _ _ _, Tz.of_below (b13.trans (hZ.mono b13.size)), ⟨[], by simp, fun y hy => (by cases hy)⟩, fun x hx => (by cases hx), fun _ _ _ => rfl, fun g hg => by simp [Value.ownBlock] at hg, ⟨by have := hZ.size; omega, Nat.le_refl _⟩, ⟨h.lt bf (.inl rfl), h.lt bm (.inr (.inl rfl)), fun g hg => h.lt g (.inr (.inr (.inl hg)))⟩⟩
  have s0 := r3.at (j := 0) rfl
  have s1 := r3.at (j := 1) rfl
  have s2 := r3.at (j := 2) rfl
  have s3 := r3.at (j := 3) rfl
  have s4 := r3.at (j := 4) rfl
  have s5 := r3.at (j := 5) rfl
  have HBB : Hid (∀ u : World, w.heap.size ≤ u.heap.size → B ≤ u.heap.size) := fun u hu => by omega
  have HZ3 := Lib.hid z3
  clear b1 b2 b3 r3 r4 r5 b13 h hE hs hnm hns z3
  unfold E.val at HAX ⊢
  go_enter Tryz.func46, Tryz.ntmps46
  go_upto_region 2 with fail
  rw [← hW1, ← hW2, ← hW3, show w.heap.size + 1 + 1 = w.heap.size + 2 from rfl]
  clear hW1 hW2 hW3 z1 z2 W1 W2
  go_wp2_with fail
  refine HAX.out.mono ?_
  rintro ee w2 ⟨sv2, rfl, hown2, b2⟩
  have HS := Lib.hid (HS0.out w2 b2)
  have HLN := ls_own hown2
  have HOB : Hid (∀ g, sv2.ownBlock = some g → w.heap.size + 3 ≤ g ∧ g < w2.heap.size) := fun g hg => by
    have := hown2.lt g hg
    have := HZ3.out
    omega
  obtain ⟨a2, c2, rfl, hnl0, hnl1, hnt⟩ := ls_str HLN
  have HNG : Hid (0 < ns.length → ∃ g off, a2 = some ⟨g, off, none⟩ ∧ w.heap.size + 3 ≤ g ∧ g < w2.heap.size ∧ ∀ i, i < ns.length → w2.cell? ⟨g, off + i, none⟩ = some (.string (atS ns i))) := fun h0 => by
    obtain ⟨g, off, ha, hg, hc⟩ := hnt h0
    subst ha
    have hob : (Value.slice (some ⟨g, off, none⟩) ns.length c2).ownBlock = some g := by
      have h1 := hown2
      obtain ⟨_, ⟨h2, _⟩ | ⟨g2, cap, cur, h2, _⟩⟩ := h1
      · cases h2
      · injection h2 with h2 _ _
        injection h2 with h2
        injection h2 with h2 _ _
        subst h2
        rfl
    exact ⟨g, off, rfl, (HOB.out g hob).1, hg, hc⟩
  clear hnt hnl0 hnl1 hown2 b2 HAX HLN HOB HS0 HZ3 s0 s1 s2 s3 s4 s5
  go_wp2
  go_loopw [11] (fun i wr => ∃ (k : Nat) (vs' xs : List Vb) (a' : Option Addr) (c' : Nat), k ≤ ns.length ∧ i = .int .i64 k ∧ Hid (xs.map Vb.v = ns.take k) ∧ Hid (SiS B bf bm vs fs sv w [.int .i8 e.op, .string e.t.v, .int .i8 e.t.a.k, .int .i64 e.t.a.n, .string e.t.a.s, .slice a e.kids.length c] w2 vs' xs a' c' wr)) (fun i _ => ns.length - (intOf i).toNat)
  case atStart => exact ⟨0, vs, [], none, 0, Nat.zero_le _, rfl, rfl, HS⟩
  case round =>
    clear HS
    obtain ⟨k, vs', xs, a', c', hk, rfl, HX, HS⟩ := hrel
    have hxl : xs.length = k := by
      have := congrArg List.length HX.out
      rw [List.length_map, List.length_take] at this
      omega
    by_cases hlt : k < ns.length
    · have hlt' : (k : Int) < (ns.length : Int) := by omega
      have hk0 : (0 : Int) ≤ (k : Int) := by omega
      obtain ⟨g2, off2, rfl, hgl, hgu, hcs⟩ := HNG.out (by omega)
      have x0 : wr.cell? ⟨g2, off2 + k, none⟩ = some (.string (atS ns k)) := by rw [World.cell?_of_block (w := w2) (HS.out.nm g2 hgl hgu)]; exact hcs k hlt
      have m1 := HS.out.r5.at (j := 1) rfl
      have HXN : Hid (∀ x : Vb, x.v = atS ns k → (xs ++ [x]).map Vb.v = ns.take (k + 1)) := fun x hx => by rw [takeS hlt, List.map_append, HX.out, List.map_cons, List.map_nil, hx]
      have HV : Hid (Calls Tryz.prog 44 #[.pointer (some ⟨bf, 0, none⟩), .string (atS ns k)] wr.drew fun r w' => ∃ vs'' x, r = .returned (.pointer (some ⟨x.b, 0, none⟩)) ∧ x ∈ vs'' ∧ x.v = atS ns k ∧ SiS B bf bm vs fs sv w [.int .i8 e.op, .string e.t.v, .int .i8 e.t.a.k, .int .i64 e.t.a.n, .string e.t.a.s, .slice a e.kids.length c] w2 vs'' xs a' c' w') := by
        have hD : Below wr.heap.size wr wr.drew := (Below.refl _ _).drew
        have hz : B ≤ wr.drew.heap.size := HBB.out _ (Nat.le_trans HS.out.tz.size hD.size)
        refine (variable_any (HS.out.fd.below hD) hz (atS ns k) (HNM.out _ (by rw [atS_eq hlt]; exact List.getElem_mem hlt))).mono ?_
        rintro r w' ⟨vs'', x, rfl, hx, hxv, ⟨m, hm, hm2⟩, hf, ht⟩
        exact ⟨vs'', x, rfl, hx, hxv, (HS.out.below hD).keep hf ⟨m, hm, fun y hy => (hm2 y hy).1⟩ ht⟩
      generalize atS ns k = nm at x0 HXN HV
      clear HX hcs
      subst hxl
      go_wp2_with fail
      go_region_law (first
        | (refine step_call rfl 44 Tryz.func44 (by kernel_rfl) (by kernel_rfl) #[.tmp 17, .tmp 18] _ rfl #[.pointer (some ⟨bf, 0, none⟩), .string nm] (by simp [Act.eval, Act.put]) HV.out ?_
           rintro ee w4 ⟨vs2, x, rfl, hx, hxv, hs4⟩
           refine ⟨_, rfl, ?_⟩
           have HXX := Lib.hid hx
           have HXV := Lib.hid (HXN.out x hxv)
           have n1 := hs4.r5.at (j := 1) rfl
           have n2 := (hs4.r5.below (belowA (w := w4) (.cells #[.pointer (some ⟨x.b, 0, none⟩)] 108))).at (j := 1) rfl
           have HSU := Lib.hid (hs4.below (belowA (w := w4) (.cells #[.pointer (some ⟨x.b, 0, none⟩)] 108)))
           have HC := Lib.hid (lit_news w4 #[.pointer (some ⟨x.b, 0, none⟩)] 108)
           clear hx hxv hs4)
        | (refine step_append_own rfl (.tmp 16) (.tmp 20) 115 rfl 108 i0 _ 1 8 Tryz.underlying115 hi0 hz0 hz1 hz2 rfl (by decide) w2.heap.size (.slice a' xs.length c') xs.length _ (by simp [Act.eval, Act.put]) HSU.out.own ⟨w4.heap.size, 0, none⟩ 1 1 [.pointer (some ⟨x.b, 0, none⟩)] (by simp [Act.eval, Act.put]) rfl HC.out (by simp [Value.oneCell']) (by unfold maxLen; omega) (by omega) HSU.out.zs.2 ?_
           intro v' w5 hown' hgrow hloc
           obtain ⟨a5, c5, rfl, h5, hst⟩ := HSU.out.step HXX.out hown' hgrow hloc
           have q1 := RL.at h5 (j := 1) rfl
           have f1 := World.rowIs.frozen h5 1
           have HST := Lib.hid hst
           clear hown' hgrow hloc hst h5))
      all_goals
        go_wp2
        go_roundw
        case rel => exact ⟨xs.length + 1, vs2, xs ++ [x], a5, c5, by omega, by go_num, HXV, HST⟩
        case measure => simp [intOf]; omega
    · obtain rfl : k = ns.length := by omega
      rw [List.take_length] at HX
      have p0 := HS.out.r3.at (j := 0) rfl
      have p5 := HS.out.r3.at (j := 5) rfl
      have m0 := HS.out.r5.at (j := 0) rfl
      have m1 := HS.out.r5.at (j := 1) rfl
      have n0 := HS.out.r4.at (j := 0) rfl
      have n1 := HS.out.r4.at (j := 1) rfl
      have fm := World.rowIs.frozen HS.out.r5 0
      have f0 := World.rowIs.frozen HS.out.r4 0
      have f1 := World.rowIs.frozen HS.out.r4 1
      by_cases hone : (e.op = 0 ∧ e.kids.length = 0) ∧ xs.length = 1
      · obtain ⟨x, rfl⟩ : ∃ x, xs = [x] := List.length_eq_one_iff.1 hone.2
        obtain ⟨_, _, hq3⟩ := own_lq HS.out.own
        obtain ⟨g, off, rfl, hg, hc⟩ := hq3 (by simp)
        have y0 : wr.cell? ⟨g, off, none⟩ = some (.pointer (some ⟨x.b, 0, none⟩)) := hc 0 (by simp)
        have e1 : (e.op == 0) = true := by rw [hone.1.1]; rfl
        have e2 : ((e.kids.length : Int) == 0) = true := by rw [hone.1.2]; rfl
        have HQ : Hid (q = ⟨some x.v, ns⟩) := HSD.out _ (by rw [if_pos hone.1, ← HX.out]; rfl)
        clear hc hq3 hone hxl hk hlt
        go_wp2
        have hd : RL (((wr.setCell ⟨w.heap.size + 2, 0, none⟩ (.pointer (some ⟨x.b, 0, none⟩))).setCell ⟨w.heap.size + 1, 0, none⟩ (.pointer (some ⟨x.b, 0, none⟩))).setCell ⟨w.heap.size + 1, 1, none⟩ (.slice (some ⟨g, off, none⟩) 1 c')) (w.heap.size + 1) 117 [.pointer (some ⟨x.b, 0, none⟩), .slice (some ⟨g, off, none⟩) 1 c'] := ((HS.out.r4.other (by omega) _).set 0 _).set 1 _
        refine bodyPost_ret (rl_results Tryz.results46 (v := .agg #[.pointer (some ⟨x.b, 0, none⟩), .slice (some ⟨g, off, none⟩) 1 c']) rfl (run_loadVar_mid _ _ 0 117 [.pointer (some ⟨x.b, 0, none⟩), .slice (some ⟨g, off, none⟩) 1 c'] _ (RL.range hd) Tryz.underlying117 rfl (by kernel_rfl))) rfl ?_
        rw [HQ.out]
        exact HS.out.fin (u' := ((wr.setCell ⟨w.heap.size + 2, 0, none⟩ (.pointer (some ⟨x.b, 0, none⟩))).setCell ⟨w.heap.size + 1, 0, none⟩ (.pointer (some ⟨x.b, 0, none⟩))).setCell ⟨w.heap.size + 1, 1, none⟩ (.slice (some ⟨g, off, none⟩) 1 c')) (l := some x) (fun k h4 h5 => by rw [heap_setTwo h4 h5]; exact heap_setCell_other _ _ _ _ (by show k ≠ w.heap.size + 2; exact h5)) rfl rfl rfl (by simp) HX.out rfl (fun y hy => by cases hy; exact HS.out.mem x (by simp))
      · have HQ : Hid (q = ⟨none, ns⟩) := HSD.out _ (by
          by_cases h1 : e.op = 0 ∧ e.kids.length = 0
          · have h2 := HLF.out h1.2
            have h3 : ns.length = 0 := by
              by_cases h4 : xs.length = 1
              · exact absurd ⟨h1, h4⟩ hone
              · omega
            rw [if_pos h1, List.length_eq_zero_iff.1 h3]
            rfl
          · rw [if_neg h1])
        have HD : Hid (RL ((wr.setCell ⟨w.heap.size + 1, 0, none⟩ (.pointer none)).setCell ⟨w.heap.size + 1, 1, none⟩ (.slice a' xs.length c')) (w.heap.size + 1) 117 [.pointer none, .slice a' xs.length c']) := (HS.out.r4.set 0 _).set 1 _
        have HFI : Hid (SiP B bf bm vs fs sv q w (.returned (.agg #[.pointer none, .slice a' xs.length c'])) ((wr.setCell ⟨w.heap.size + 1, 0, none⟩ (.pointer none)).setCell ⟨w.heap.size + 1, 1, none⟩ (.slice a' xs.length c'))) := by
          show SiP _ _ _ _ _ _ _ _ _ _
          rw [HQ.out]
          exact HS.out.fin (l := none) (fun k h4 h5 => heap_setTwo h4 h5) rfl rfl rfl (by simp) HX.out rfl (fun y hy => by cases hy)
        by_cases h1 : e.op = 0
        · have e1 : (e.op == 0) = true := by rw [h1]; rfl
          by_cases h2 : e.kids.length = 0
          · have e2 : ((e.kids.length : Int) == 0) = true := by rw [h2]; rfl
            have h3 : xs.length ≠ 1 := fun h3 => hone ⟨⟨h1, h2⟩, h3⟩
            have e3 : ((xs.length : Int) == 1) = false := by rw [beq_eq_false_iff_ne]; omega
            clear hone hxl hk hlt h1 h2 h3
            go_wp2
            exact bodyPost_ret (rl_results Tryz.results46 (v := .agg #[.pointer none, .slice a' xs.length c']) rfl (run_loadVar_mid _ _ 0 117 [.pointer none, .slice a' xs.length c'] _ (RL.range HD.out) Tryz.underlying117 rfl (by kernel_rfl))) rfl HFI.out
          · have e2 : ((e.kids.length : Int) == 0) = false := by rw [beq_eq_false_iff_ne]; omega
            clear hone hxl hk hlt h1 h2
            go_wp2
            exact bodyPost_ret (rl_results Tryz.results46 (v := .agg #[.pointer none, .slice a' xs.length c']) rfl (run_loadVar_mid _ _ 0 117 [.pointer none, .slice a' xs.length c'] _ (RL.range HD.out) Tryz.underlying117 rfl (by kernel_rfl))) rfl HFI.out
        · have e1 : (e.op == 0) = false := by rw [beq_eq_false_iff_ne]; exact h1
          clear hone hxl hk hlt h1
          go_wp2
          exact bodyPost_ret (rl_results Tryz.results46 (v := .agg #[.pointer none, .slice a' xs.length c']) rfl (run_loadVar_mid _ _ 0 117 [.pointer none, .slice a' xs.length c'] _ (RL.range HD.out) Tryz.underlying117 rfl (by kernel_rfl))) rfl HFI.out
end Go.Proofs.YteabclfhmapabaaGreatDoor
end
