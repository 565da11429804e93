import Derived.Test.YtgplipfebnigiaaGreatDoorG5
import Derived.Test.YtgplipfebnigiaaGreatDoorG9
import Derived.Test.YtgplipfebnigiaaGreatDoorG7
import Derived.Deep.DeepCutAuto
namespace Go.Proofs.YtgplipfebnigiaaGreatDoor
open Go.RowKit Go.Maps
set_option linter.unusedVariables false
set_option linter.unusedSimpArgs false
attribute [local go_sem ↓] Go.wp_at_zero Go.wp_at_succ

/-- a step of a region that draws: a call of a function, by its contract -/
theorem step_call {P : Program} {ops : Array Oper} {o : Oper} {a : Act} {w : World} {K : Act → World → Prop} {Q : Exit → Act → World → Prop} {E : Prop}
    (hg : o.guard = none) (f : FuncId) {fn : Func} (hf : P.funcs[f]? = some fn) (hn : (fn.name == "runtime.NumGoroutine") = false) (hb : fn.body.isNone = false) (xs : Array Operand) (tys : Array TypeId) (hop : o.op = Op.call { callee := Callee.value (Operand.func f), args := xs, argTypes := tys }) (vs : Array Value) (hx : xs.map a.eval = vs)
    {post : Ending → World → Prop} (hc : Calls P f vs w post) (hK : ∀ e w', post e w' → ∃ v, e = .returned v ∧ K (a.put o.dst v) w') :
    if Region.wanted o (yielded ops a.tmps) = true then Oper.wp P o a w K Q else E := by
  have hw : Region.wanted o (yielded ops a.tmps) = true := by simp [Region.wanted, hg]
  rw [if_pos hw]
  have he : (execOp a.eval o).run P w = .ok (.enter f vs) w := by
    have hn' : ¬ fn.name = "runtime.NumGoroutine" := by simpa using hn
    have hb' : ¬ fn.body = none := by cases h : fn.body <;> simp [h] at hb ⊢
    simp [execOp, hop, resolve, invoke, ← hx, Act.eval, Result.andThen, Deferred.ofValue, callFunc, (show Sem.run P program w = .ok P w from rfl), hf, hn', hb', go_sem]
  unfold Oper.wp
  rw [he, Oper.upon_enter]
  refine hc.mono fun e w' h => ?_
  obtain ⟨v, rfl, hk⟩ := hK e w' h
  exact hk
theorem own_low {w : World} {B B' : Nat} {e : TypeId} {k : Nat} {sv : Value} {n : Nat} {xs : List Value} (h : w.ownsRow B e k sv n xs) (hb : B' ≤ B) : w.ownsRow B' e k sv n xs := by
  obtain ⟨hl, h1 | ⟨g, cap, cur, rfl, h0, hr⟩⟩ := h
  · exact ⟨hl, .inl h1⟩
  · exact ⟨hl, .inr ⟨g, cap, cur, rfl, Nat.le_trans hb h0, hr⟩⟩
theorem belowA {w : World} (o : Obj) : Below w.heap.size w (w.alloc o) := (Below.refl _ _).alloc (Nat.le_refl _) _
theorem infoTmR : (Tryz.prog.info? 46).map (fun i => (i.zero, i.size, i.bytes)) = some (some (.agg #[.string ⟨#[]⟩, .int .i8 0, .int .i64 0, .string ⟨#[]⟩]), 4, 48) := by kernel_rfl
/-- what Apply keeps: the atom's box, the result, the atom that grows, its terms in a row -/
structure ArS (w : World) (pr : ByteArray) (av : Value) (us : List T) (a' : Option Addr) (c' : Nat) (wr : World) : Prop where
  bel : Below w.heap.size w wr
  bz : w.heap.size + 3 ≤ wr.heap.size
  r0 : RL wr w.heap.size 61 [.string pr, av]
  r1 : RL wr (w.heap.size + 1) 61 [.string ⟨#[]⟩, .slice none 0 0]
  r2 : RL wr (w.heap.size + 2) 61 [.string pr, .slice a' us.length c']
  own : wr.ownsRow (w.heap.size + 3) 46 4 (.slice a' us.length c') us.length (us.flatMap T.cells)
theorem ArS.keep {w : World} {pr : ByteArray} {av : Value} {us : List T} {a' : Option Addr} {c' : Nat} {wr wr' : World} (h : ArS w pr av us a' c' wr) (hb : Below wr.heap.size wr wr') : ArS w pr av us a' c' wr' :=
  ⟨h.bel.trans (hb.mono h.bel.size), Nat.le_trans h.bz hb.size, h.r0.below hb, h.r1.below hb, h.r2.below hb, own_below h.own hb⟩
/-- one term more -/
theorem ArS.step {w : World} {pr : ByteArray} {av : Value} {us : List T} {a' : Option Addr} {c' : Nat} {U w3 : World} (h : ArS w pr av us a' c' U) (t : T) {v' : Value}
    (hown' : w3.ownsRow (w.heap.size + 3) 46 4 v' (us.length + 1) (us.flatMap T.cells ++ T.cells t)) (hgrow : U.grownBy w3 (Value.slice a' us.length c').ownBlock) :
    ∃ a2 c2, v' = .slice a2 (us.length + 1) c2 ∧ ArS w pr av (us ++ [t]) a2 c2 (w3.setCell ⟨w.heap.size + 2, 1, none⟩ (.slice a2 (us.length + 1) c2)) ∧ w3.cell? ⟨w.heap.size + 2, 1, none⟩ = some (.slice a' us.length c') ∧ w3.frozen? ⟨w.heap.size + 2, 1, none⟩ = false := by
  obtain ⟨a2, c2, rfl, _⟩ := own_form hown'
  have hlt := fun g (hg : (Value.slice a' us.length c').ownBlock = some g) => (h.own.lt g hg).1
  have hs3 := hgrow.size
  have hz := h.bz
  have kl : ∀ j, j < w.heap.size + 3 → w3.heap[j]? = U.heap[j]? := fun j hj => hgrow.block j (by omega) (fun e => by have := hlt j e.symm; omega)
  have q0 : RL w3 w.heap.size 61 [.string pr, av] := World.rowIs.of_block h.r0 (kl _ (by omega))
  have q1 : RL w3 (w.heap.size + 1) 61 [.string ⟨#[]⟩, .slice none 0 0] := World.rowIs.of_block h.r1 (kl _ (by omega))
  have q2 : RL w3 (w.heap.size + 2) 61 [.string pr, .slice a' us.length c'] := World.rowIs.of_block h.r2 (kl _ (by omega))
  have hl1 : (us ++ [t]).length = us.length + 1 := by simp
  refine ⟨a2, c2, rfl, ⟨?_, by simp only [World.size_setCell]; omega, q0.other (by omega) _, q1.other (by omega) _, ?_, ?_⟩, q2.at (j := 1) rfl, World.rowIs.frozen q2 1⟩
  · refine Below.setCell (p := ⟨w.heap.size + 2, 1, none⟩) ?_ (by show _ ≤ w.heap.size + 2; omega) _
    exact h.bel.grown hgrow h.bel.size (fun j hj => by have := hlt j hj; omega)
  · rw [hl1]; exact q2.set 1 _
  · rw [hl1, List.flatMap_append]
    refine own_of_block (sv := .slice a2 (us.length + 1) c2) ?_ (fun g hg => heap_setCell_other _ _ _ _ (by have := (hown'.lt g hg).1; show g ≠ w.heap.size + 2; omega))
    simpa using hown'
theorem putT_wf {ps : List P} {t : T} (hp : ∀ p ∈ ps, p.wf) (ht : t.wf) : (putT ps t).wf := by
  unfold putT
  split
  · exact ht
  · exact res_wf hp ht
theorem takeT {l : List T} {k : Nat} (h : k < l.length) : l.take (k + 1) = l.take k ++ [atT l k] := by rw [List.take_add_one, List.getElem?_eq_getElem h, atT_eq h]; rfl
set_option maxHeartbeats 3200000 in
set_option maxRecDepth 100000 in
theorem rApply_any (sv : Value) (ps : List P) (pr : ByteArray) (v : Value) (ts : List T) (w : World) (hp : Lp w sv ps) (hl : Lt w v ts) (hn : ts.length ≤ 1048576) :
    Calls Tryz.prog 90 #[sv, .agg #[.string pr, v]] w fun e w' => ∃ a c, e = .returned (.agg #[.string pr, .slice a ts.length c]) ∧ Lt w' (.slice a ts.length c) (ts.map (putT ps)) ∧ Below w.heap.size w w' ∧ w'.ownsRow w.heap.size 46 4 (.slice a ts.length c) ts.length ((ts.map (putT ps)).flatMap T.cells) := by
  obtain ⟨i0, hi0, hz0, hz1, hz2⟩ := info_parts infoTmR
  have hwf := hl.wf
  have HLP : Hid (∀ u, Below w.heap.size w u → Lp u sv ps) := fun u hu => hp.below hu
  have HPW : Hid (∀ t ∈ ts.map (putT ps), t.wf) := fun t ht => by
    obtain ⟨x, hx, rfl⟩ := List.mem_map.1 ht
    exact putT_wf hp.wf (hwf x hx)
  obtain ⟨ap, cp, hv, -, -, -⟩ := hp.form
  subst hv
  obtain ⟨a, c, rfl, hc1, hc2, hat⟩ := hl.form
  have HAT := Lib.hid hat
  have HWF := Lib.hid hwf
  have hA1 := belowA (w := w) (.cells #[.string pr, .slice a ts.length c] 61)
  have hA2 := belowA (w := w.alloc (.cells #[.string pr, .slice a ts.length c] 61)) (.cells #[.string ⟨#[]⟩, .slice none 0 0] 61)
  have hA3 := belowA (w := (w.alloc (.cells #[.string pr, .slice a ts.length c] 61)).alloc (.cells #[.string ⟨#[]⟩, .slice none 0 0] 61)) (.cells #[.string pr, .slice none 0 0] 61)
  have hR1 := rl_new (w.alloc (.cells #[.string pr, .slice a ts.length c] 61)) #[.string ⟨#[]⟩, .slice none 0 0] 61
  have hR2 := rl_new ((w.alloc (.cells #[.string pr, .slice a ts.length c] 61)).alloc (.cells #[.string ⟨#[]⟩, .slice none 0 0] 61)) #[.string pr, .slice none 0 0] 61
  simp only [World.size_alloc] at hR1 hR2
  have HS0 : Hid (ArS w pr (.slice a ts.length c) [] none 0 (((w.alloc (.cells #[.string pr, .slice a ts.length c] 61)).alloc (.cells #[.string ⟨#[]⟩, .slice none 0 0] 61)).alloc (.cells #[.string pr, .slice none 0 0] 61))) :=
    ⟨(hA1.trans (hA2.mono hA1.size)).trans (hA3.mono (hA1.trans (hA2.mono hA1.size)).size), by simp, ((rl_new w #[.string pr, .slice a ts.length c] 61).below hA2).below hA3, hR1.below hA3, hR2, World.ownsRow_nil _ _ _ _⟩
  clear hA1 hA2 hA3 hR1 hR2 hat hwf hl hp
  go_enter Tryz.func90, Tryz.ntmps90
  go_upto_region 2 with fail
  generalize ((w.alloc (.cells #[.string pr, .slice a ts.length c] 61)).alloc (.cells #[.string ⟨#[]⟩, .slice none 0 0] 61)).alloc (.cells #[.string pr, .slice none 0 0] 61) = W at HS0 ⊢
  go_wp2
  go_loopw [6] (fun i wr => ∃ (k : Nat) (us : List T) (a' : Option Addr) (c' : Nat), k ≤ ts.length ∧ i = .int .i64 k ∧ Hid (us = (ts.take k).map (putT ps)) ∧ Hid (ArS w pr (.slice a ts.length c) us a' c' wr)) (fun i _ => ts.length - (intOf i).toNat)
  case atStart => exact ⟨0, [], none, 0, Nat.zero_le _, rfl, rfl, HS0⟩
  case round =>
    clear HS0
    obtain ⟨k, us, a', c', hk, rfl, HU, HS⟩ := hrel
    have hul : us.length = k := by
      rw [HU.out, List.length_map, List.length_take]
      omega
    have y1 := HS.out.r0.at (j := 1) rfl
    by_cases hlt : k < ts.length
    · have hlt' : (k : Int) < (ts.length : Int) := by omega
      have hk0 : (0 : Int) ≤ (k : Int) := by omega
      obtain ⟨g, off, rfl, hg, hT⟩ := HAT.out (by omega)
      obtain ⟨z0, z1, z2, z3⟩ := (hT k hlt).below HS.out.bel hg
      have htw := HWF.out (atT ts k) (by rw [atT_eq hlt]; exact List.getElem_mem _)
      have HUN : Hid (us ++ [putT ps (atT ts k)] = (ts.take (k + 1)).map (putT ps)) := by show _ = _; rw [takeT hlt, List.map_append, HU.out]; rfl
      have HP : Hid (∀ u, Below w.heap.size w u → Calls Tryz.prog 52 #[.slice ap ps.length cp, .agg #[.string (atT ts k).v, .int .i8 (atT ts k).a.k, .int .i64 (atT ts k).a.n, .string (atT ts k).a.s]] u fun q w' => q = .returned (.agg #[.string (putT ps (atT ts k)).v, .int .i8 (putT ps (atT ts k)).a.k, .int .i64 (putT ps (atT ts k)).a.n, .string (putT ps (atT ts k)).a.s]) ∧ Below u.heap.size u w') := fun u hu => put_any _ ps _ u (HLP.out u hu) htw
      clear hT htw HU
      generalize putT ps (atT ts k) = nt at HUN HP
      generalize atT ts k = t at HP z0 z1 z2 z3
      have m1 := HS.out.r2.at (j := 1) rfl
      have HBW := Lib.hid HS.out.bel
      subst hul
      go_wp2_with fail
      go_region_law (first
        | (refine step_call rfl 52 Tryz.func52 (by kernel_rfl) (by kernel_rfl) #[.tmp 19, .tmp 24] _ rfl #[.slice ap ps.length cp, .agg #[.string t.v, .int .i8 t.a.k, .int .i64 t.a.n, .string t.a.s]] (by simp [Act.eval, Act.put]) (HP.out wr.drew HBW.out.drew) ?_
           rintro ee w2 ⟨rfl, b2⟩
           refine ⟨_, rfl, ?_⟩
           have B2 : Below wr.heap.size wr w2 := (Below.refl wr.heap.size wr).drew.trans b2
           have n1 := (HS.out.r2.below B2).at (j := 1) rfl
           have n2 := ((HS.out.r2.below B2).below (belowA (w := w2) (.cells #[.string nt.v, .int .i8 nt.a.k, .int .i64 nt.a.n, .string nt.a.s] 46))).at (j := 1) rfl
           have HSU := Lib.hid ((HS.out.keep B2).keep (belowA (w := w2) (.cells #[.string nt.v, .int .i8 nt.a.k, .int .i64 nt.a.n, .string nt.a.s] 46)))
           have HC := Lib.hid (lit_news w2 #[.string nt.v, .int .i8 nt.a.k, .int .i64 nt.a.n, .string nt.a.s] 46)
           clear B2 b2)
        | (refine step_append_own rfl (.tmp 18) (.tmp 26) 59 rfl 46 i0 _ 4 48 Tryz.underlying59 hi0 hz0 hz1 hz2 rfl (by decide) (w.heap.size + 3) (.slice a' us.length c') us.length _ (by simp [Act.eval, Act.put]) HSU.out.own ⟨w2.heap.size, 0, none⟩ 1 1 [.string nt.v, .int .i8 nt.a.k, .int .i64 nt.a.n, .string nt.a.s] (by simp [Act.eval, Act.put]) rfl HC.out (by simp [Value.oneCell']) (by unfold maxLen; omega) (by omega) HSU.out.bz ?_
           intro v' w3 hown' hgrow hloc
           obtain ⟨a5, c5, rfl, hst, m6, f6⟩ := HSU.out.step nt hown' hgrow
           have HST := Lib.hid hst
           clear hown' hgrow hloc hst))
      all_goals
        go_wp2
        go_roundw
        case rel => exact ⟨us.length + 1, us ++ [nt], a5, c5, by omega, by go_num, HUN, HST⟩
        case measure => simp [intOf]; omega
    · obtain rfl : k = ts.length := by omega
      rw [List.take_length] at HU
      have g0 := HS.out.r2.at (j := 0) rfl
      have g1 := HS.out.r2.at (j := 1) rfl
      have o0 := HS.out.r1.at (j := 0) rfl
      have o1 := HS.out.r1.at (j := 1) rfl
      have f0 := World.rowIs.frozen HS.out.r1 0
      have f1 := World.rowIs.frozen HS.out.r1 1
      have HRL : Hid (RL ((wr.setCell ⟨w.heap.size + 1, 0, none⟩ (.string pr)).setCell ⟨w.heap.size + 1, 1, none⟩ (.slice a' us.length c')) (w.heap.size + 1) 61 [.string pr, .slice a' us.length c']) := (HS.out.r1.set 0 _).set 1 _
      have HOW : Hid (((wr.setCell ⟨w.heap.size + 1, 0, none⟩ (.string pr)).setCell ⟨w.heap.size + 1, 1, none⟩ (.slice a' us.length c')).ownsRow (w.heap.size + 3) 46 4 (.slice a' us.length c') us.length (us.flatMap T.cells)) := own_of_block HS.out.own (fun q hq => by
        have := (HS.out.own.lt q hq).1
        rw [heap_setCell_other _ _ _ _ (by show q ≠ w.heap.size + 1; omega), heap_setCell_other _ _ _ _ (by show q ≠ w.heap.size + 1; omega)])
      have HBF : Hid (Below w.heap.size w ((wr.setCell ⟨w.heap.size + 1, 0, none⟩ (.string pr)).setCell ⟨w.heap.size + 1, 1, none⟩ (.slice a' us.length c'))) := (HS.out.bel.setCell (p := ⟨w.heap.size + 1, 0, none⟩) (by show _ ≤ w.heap.size + 1; omega) _).setCell (p := ⟨w.heap.size + 1, 1, none⟩) (by show _ ≤ w.heap.size + 1; omega) _
      have HLT : Hid (Lt ((wr.setCell ⟨w.heap.size + 1, 0, none⟩ (.string pr)).setCell ⟨w.heap.size + 1, 1, none⟩ (.slice a' us.length c')) (.slice a' us.length c') us) := ⟨ls_own HOW.out, by rw [HU.out]; exact HPW.out⟩
      have HOW2 := Lib.hid (own_low HOW.out (show w.heap.size ≤ w.heap.size + 3 by omega))
      rw [hul] at HRL HBF HLT HOW2
      clear HS HOW
      go_wp2
      refine bodyPost_ret (rl_results Tryz.results90 (v := .agg #[.string pr, .slice a' ts.length c']) rfl (run_loadVar_mid _ _ 0 61 [.string pr, .slice a' ts.length c'] _ HRL.out.range Tryz.underlying61 rfl (by kernel_rfl))) rfl ?_
      refine ⟨a', c', rfl, ?_, HBF.out, ?_⟩
      · rw [← HU.out]
        exact HLT.out
      · rw [← HU.out]
        exact HOW2.out
end Go.Proofs.YtgplipfebnigiaaGreatDoor
