import Derived.Test.YtnpmhgjbfkgmdaaDoorTermIs
import Derived.Test.YtnpmhgjbfkgmdaaDoorTermTree
import Derived.Test.YtnpmhgjbfkgmdaaDoorNums
import Derived.Test.YtnpmhgjbfkgmdaaDoorRowGen
import Derived.Deep.DeepCutAuto
namespace Go.Proofs.YtnpmhgjbfkgmdaaDoor
open Go.RowKit Go.Maps
set_option linter.unusedVariables false
set_option linter.unusedSimpArgs false
attribute [local go_sem ↓] Go.wp_at_zero Go.wp_at_succ

theorem variable_any (s : ByteArray) (w : World) : Calls Tryd.prog 10 #[.string s] w fun e w' => e = .returned (.agg #[.string s, .int .i8 0, .int .i64 0, .string ⟨#[]⟩]) ∧ Below w.heap.size w w' := by
  go_enter Tryd.func10, Tryd.ntmps10
  go_wp2
  exact bodyPost_ret (v := .agg #[.string s, .int .i8 0, .int .i64 0, .string ⟨#[]⟩]) (by simp [results, Tryd.results10, go_sem]) rfl ⟨rfl, (Below.refl _ _).alloc (Nat.le_refl _) _⟩
theorem given_any (n : Int) (w : World) : Calls Tryd.prog 11 #[.int .i64 n] w fun e w' => e = .returned (.agg #[.string ⟨#[]⟩, .int .i8 1, .int .i64 n, .string ⟨#[]⟩]) ∧ Below w.heap.size w w' := by
  have HR : Hid (RL (w.alloc (.cells #[.string ⟨#[]⟩, .int .i8 0, .int .i64 0, .string ⟨#[]⟩] 38)) w.heap.size 38 [.string ⟨#[]⟩, .int .i8 0, .int .i64 0, .string ⟨#[]⟩]) := rl_new w #[.string ⟨#[]⟩, .int .i8 0, .int .i64 0, .string ⟨#[]⟩] 38
  have HB : Hid (Below w.heap.size w (w.alloc (.cells #[.string ⟨#[]⟩, .int .i8 0, .int .i64 0, .string ⟨#[]⟩] 38))) := (Below.refl _ _).alloc (Nat.le_refl _) _
  go_enter Tryd.func11, Tryd.ntmps11
  go_wp2_with fail
  refine (Num_any n _).mono ?_
  rintro e w1 ⟨rfl, b1⟩
  have h1 : RL w1 w.heap.size 38 _ := RL.below HR.out b1
  have B1 : Below w.heap.size w w1 := HB.out.trans (b1.mono HB.out.size)
  have c0 := h1.at (j := 0) rfl
  have c1 := h1.at (j := 1) rfl
  have c2 := h1.at (j := 2) rfl
  have c3 := h1.at (j := 3) rfl
  have f0 := World.rowIs.frozen h1 0
  have f1 := World.rowIs.frozen h1 1
  have f2 := World.rowIs.frozen h1 2
  have f3 := World.rowIs.frozen h1 3
  clear b1 HR HB
  have H1 : Hid (RL w1 w.heap.size 38 _) := h1
  have HB1 : Hid (Below w.heap.size w w1) := B1
  clear h1 B1
  go_wp2
  refine bodyPost_ret (v := .agg #[.string ⟨#[]⟩, .int .i8 1, .int .i64 n, .string ⟨#[]⟩]) (rl_results Tryd.results11 (b := w.heap.size) rfl (run_loadVar_mid _ _ 0 38 [.string ⟨#[]⟩, .int .i8 1, .int .i64 n, .string ⟨#[]⟩] _ (RL.range ((((H1.out.set 0 (.string ⟨#[]⟩)).set 1 (.int .i8 1)).set 2 (.int .i64 n)).set 3 (.string ⟨#[]⟩))) Tryd.underlying38 rfl (by kernel_rfl))) rfl ⟨rfl, ?_⟩
  exact (((HB1.out.setCell (p := ⟨w.heap.size, 0, none⟩) (by simp) _).setCell (p := ⟨w.heap.size, 1, none⟩) (by simp) _).setCell (p := ⟨w.heap.size, 2, none⟩) (by simp) _).setCell (p := ⟨w.heap.size, 3, none⟩) (by simp) _
theorem rl_results3 {fn : Func} {sl s2 : Nat} {ty : TypeId} (hr : fn.results = #[.cell sl ty, .tmp s2]) {W : World} {tmps : Array Value} {b : Nat} {v u : Value} (h2 : tmps.getD sl undef = .pointer (some ⟨b, 0, none⟩)) (h3 : tmps.getD s2 undef = u) (hl : (loadVar ty ⟨b, 0, none⟩).run Tryd.prog W = .ok v W) :
    (results fn tmps).run Tryd.prog W = .ok (.tuple #[v, u]) W := by
  have h2' : tmps[sl]?.getD undef = .pointer (some ⟨b, 0, none⟩) := by simpa using h2
  have h3' : tmps[s2]?.getD undef = u := by simpa using h3
  unfold results
  rw [hr]
  simp [h2', h3', asAddr, hl, Result.andThen]
theorem optV_form (o : Option V) : ∃ k n s b, optV o = .tuple #[.agg #[.int .i8 k, .int .i64 n, .string s], .bool b] := by
  cases o with
  | none => exact ⟨_, _, _, _, rfl⟩
  | some a => exact ⟨_, _, _, _, rfl⟩
set_option maxHeartbeats 3200000 in
theorem work_leaf (t : T) (a : Option Addr) (c : Nat) (v : Value) (l : List B) (w : World) (ht : t.wf) (hl : Lb w v l) :
    Calls Tryd.prog 31 #[(E.mk 0 t []).val a c, v] w fun e w' => e = .returned (optV (valOf t l)) ∧ Below w.heap.size w w' := by
  unfold E.val
  simp only [op_mk, t_mk, kids_mk, List.length_nil]
  have BA : Below w.heap.size w (w.alloc (.cells #[.int .i8 0, .string t.v, .int .i8 t.a.k, .int .i64 t.a.n, .string t.a.s, .slice a 0 c] 56)) := (Below.refl _ _).alloc (Nat.le_refl _) _
  have BB : Below w.heap.size w ((w.alloc (.cells #[.int .i8 0, .string t.v, .int .i8 t.a.k, .int .i64 t.a.n, .string t.a.s, .slice a 0 c] 56)).alloc (.cells #[.int .i8 0, .int .i64 0, .string ⟨#[]⟩] 36)) := BA.alloc BA.size _
  have HV : Hid _ := valueOf_any t v l _ ht (hl.below BB)
  have HR : Hid (RL ((w.alloc (.cells #[.int .i8 0, .string t.v, .int .i8 t.a.k, .int .i64 t.a.n, .string t.a.s, .slice a 0 c] 56)).alloc (.cells #[.int .i8 0, .int .i64 0, .string ⟨#[]⟩] 36)) (w.heap.size + 1) 36 [.int .i8 0, .int .i64 0, .string ⟨#[]⟩]) := by
    have := rl_new (w.alloc (.cells #[.int .i8 0, .string t.v, .int .i8 t.a.k, .int .i64 t.a.n, .string t.a.s, .slice a 0 c] 56)) #[.int .i8 0, .int .i64 0, .string ⟨#[]⟩] 36
    rw [World.size_alloc] at this
    exact this
  have HB : Hid (Below w.heap.size w _) := BB
  obtain ⟨k, n, s, b, ho⟩ := optV_form (valOf t l)
  rw [ho] at HV ⊢
  obtain ⟨a0, c0, rfl, -, -, -⟩ := hl.form
  clear BA BB hl ho ht
  go_enter Tryd.func31, Tryd.ntmps31
  go_wp2_with fail
  refine Calls.mono HV.out ?_
  rintro e w1 ⟨rfl, b1⟩
  have h1 : RL w1 (w.heap.size + 1) 36 _ := RL.below HR.out b1
  have H1 : Hid (RL w1 (w.heap.size + 1) 36 _) := h1
  have HB1 : Hid (Below w.heap.size w w1) := HB.out.trans (b1.mono HB.out.size)
  have c0 := h1.at (j := 0) rfl
  have c1 := h1.at (j := 1) rfl
  have c2 := h1.at (j := 2) rfl
  have f0 := World.rowIs.frozen h1 0
  have f1 := World.rowIs.frozen h1 1
  have f2 := World.rowIs.frozen h1 2
  clear b1 HR HB h1 HV
  go_wp2
  refine bodyPost_ret (v := .tuple #[.agg #[.int .i8 k, .int .i64 n, .string s], .bool b]) (rl_results3 Tryd.results31 (b := w.heap.size + 1) rfl rfl (run_loadVar_mid _ _ 0 36 [.int .i8 k, .int .i64 n, .string s] _ (RL.range (((H1.out.set 0 (.int .i8 k)).set 1 (.int .i64 n)).set 2 (.string s))) Tryd.underlying36 rfl (by kernel_rfl))) rfl ⟨rfl, ?_⟩
  exact ((HB1.out.setCell (p := ⟨w.heap.size + 1, 0, none⟩) (by simp) _).setCell (p := ⟨w.heap.size + 1, 1, none⟩) (by simp) _).setCell (p := ⟨w.heap.size + 1, 2, none⟩) (by simp) _
theorem infoValE : (Tryd.prog.info? 36).map (fun i => (i.zero, i.size, i.bytes)) = some (some (.agg #[.int .i8 0, .int .i64 0, .string ⟨#[]⟩]), 3, 32) := by kernel_rfl
/-- what work keeps: the expression's box, the result, the values that grow -/
structure WSt (w : World) (R : List Value) (vs : List V) (k : Nat) (a' : Option Addr) (c' : Nat) (wr : World) : Prop where
  bel : Below w.heap.size w wr
  sz : w.heap.size + 2 ≤ wr.heap.size
  r0 : RL wr w.heap.size 56 R
  r1 : RL wr (w.heap.size + 1) 36 [.int .i8 0, .int .i64 0, .string ⟨#[]⟩]
  own : wr.ownsRow (w.heap.size + 2) 36 3 (.slice a' k c') k ((vs.take k).flatMap V.cells)
theorem WSt.keep {w : World} {R : List Value} {vs : List V} {k : Nat} {a' : Option Addr} {c' : Nat} {wr wr' : World} (h : WSt w R vs k a' c' wr) (b : Below wr.heap.size wr wr') : WSt w R vs k a' c' wr' :=
  ⟨h.bel.trans (b.mono h.bel.size), Nat.le_trans h.sz b.size, h.r0.below b, h.r1.below b, own_below h.own b⟩
theorem WSt.step {w : World} {R : List Value} {vs : List V} {k : Nat} {a' : Option Addr} {c' : Nat} {U w3 : World} {news : List Value} {v' : Value} (h : WSt w R vs k a' c' U) (hT : (vs.take (k + 1)).flatMap V.cells = (vs.take k).flatMap V.cells ++ news)
    (hown' : w3.ownsRow (w.heap.size + 2) 36 3 v' (k + 1) ((vs.take k).flatMap V.cells ++ news)) (hgrow : U.grownBy w3 (Value.slice a' k c').ownBlock) :
    ∃ a2 c2, v' = .slice a2 (k + 1) c2 ∧ WSt w R vs (k + 1) a2 c2 w3 := by
  obtain ⟨a2, c2, rfl, _⟩ := own_form hown'
  have hlt := fun g (hg : (Value.slice a' k c').ownBlock = some g) => (h.own.lt g hg).1
  have kb : ∀ j, j < w.heap.size + 2 → w3.heap[j]? = U.heap[j]? := fun j hj => hgrow.block j (Nat.lt_of_lt_of_le hj h.sz) (fun e => by have := hlt j e.symm; omega)
  refine ⟨a2, c2, rfl, ⟨h.bel.grown hgrow (by have := h.sz; omega) (fun j hj => by have := hlt j hj; omega), ?_, World.rowIs.of_block h.r0 (kb _ (by omega)), World.rowIs.of_block h.r1 (kb _ (by omega)), by rw [hT]; exact hown'⟩⟩
  have h1 := h.sz
  have h2 := hgrow.size
  omega
theorem wst_new (w : World) (R : Array Value) (vs : List V) : WSt w R.toList vs 0 none 0 ((w.alloc (.cells R 56)).alloc (.cells #[.int .i8 0, .int .i64 0, .string ⟨#[]⟩] 36)) := by
  have B1 : Below w.heap.size w (w.alloc (.cells R 56)) := (Below.refl _ _).alloc (Nat.le_refl _) _
  have r0 := rl_new w R 56
  have r1 := rl_new (w.alloc (.cells R 56)) #[.int .i8 0, .int .i64 0, .string ⟨#[]⟩] 36
  rw [World.size_alloc] at r1
  refine ⟨B1.alloc B1.size _, by simp, r0.below ((Below.refl _ _).alloc (Nat.le_refl _) _), r1, ?_⟩
  simp only [List.take_zero, List.flatMap_nil]
  exact World.ownsRow_nil _ _ _ _
def numV2 (n : Int) : V := ⟨1, n, noS⟩
def addE (t1 t2 : T) : E := .mk 2 T0 [.mk 0 t1 [], .mk 0 t2 []]
theorem nums_own {w : World} {b : Nat} {v : Value} {x y : Int} (h : w.ownsRow b 36 3 v 2 (([numV2 x, numV2 y] : List V).flatMap V.cells)) : ∃ g off c, v = .slice (some ⟨g, off, none⟩) 2 c ∧ Nums2 w g off x y := by
  obtain ⟨_, a, c, rfl, _, _, hc⟩ := ls_own h
  obtain ⟨g, off, rfl, hg, hf⟩ := hc (by omega)
  have q := fun i (h : i < 6) => hf i h
  exact ⟨g, off, c, rfl, ⟨hg, q 0 (by omega), q 1 (by omega), q 2 (by omega), q 3 (by omega), q 4 (by omega), q 5 (by omega)⟩⟩
set_option maxHeartbeats 6400000 in
set_option maxRecDepth 100000 in
theorem work_add (t1 t2 : T) (x y : Int) (a : Option Addr) (c : Nat) (v : Value) (l : List B) (w : World) (d : Nat) (ht : Tab w) (hE : EIs w (d + 1) (addE t1 t2) a c) (hw1 : t1.wf) (hw2 : t2.wf) (hl : Lb w v l) (h1 : valOf t1 l = some (numV2 x)) (h2 : valOf t2 l = some (numV2 y)) :
    Calls Tryd.prog 31 #[(addE t1 t2).val a c, v] w fun e w' => e = .returned (.tuple #[.agg #[.int .i8 1, .int .i64 (wrap64 (x + y)), .string ⟨#[]⟩], .bool true]) ∧ Below w.heap.size w w' := by
  obtain ⟨i0, hi0, hz0, hz1, hz2⟩ := info_parts infoValE
  obtain ⟨_, _, hc1, hc2, hk⟩ := hE
  unfold addE at hc1 hk
  simp only [kids_mk] at hc1 hk
  have h2l : ([E.mk 0 t1 [], E.mk 0 t2 []] : List E).length = 2 := rfl
  rw [h2l] at hc1 hk
  obtain ⟨g, off, rfl, hg, hk⟩ := hk (by omega)
  have HK : Hid (∀ i, i < 2 → ∃ a' c', ∀ u, Below w.heap.size w u → XAt u g (off + i * 6) 0 (atT [t1, t2] i) (.slice a' 0 c')) := fun i hi => by
    obtain ⟨a', c', hx, _⟩ := hk i hi
    refine ⟨a', c', fun u hu => ?_⟩
    have hx2 := hx.below hu hg
    have : i = 0 ∨ i = 1 := by omega
    rcases this with rfl | rfl <;> exact hx2
  have HW : Hid (∀ i, i < 2 → ∀ a' c' u, Below w.heap.size w u → Calls Tryd.prog 31 #[.agg #[.int .i8 0, .string (atT [t1, t2] i).v, .int .i8 (atT [t1, t2] i).a.k, .int .i64 (atT [t1, t2] i).a.n, .string (atT [t1, t2] i).a.s, .slice a' 0 c'], v] u fun e w' => e = .returned (.tuple #[.agg #[.int .i8 1, .int .i64 (if i = 0 then x else y), .string ⟨#[]⟩], .bool true]) ∧ Below u.heap.size u w') := fun i hi a' c' u hu => by
    have : i = 0 ∨ i = 1 := by omega
    rcases this with rfl | rfl
    · have := work_leaf t1 a' c' v l u hw1 (hl.below hu)
      rw [h1] at this
      exact this
    · have := work_leaf t2 a' c' v l u hw2 (hl.below hu)
      rw [h2] at this
      exact this
  have HT : Hid (∀ u, Below w.heap.size w u → Tab u) := fun u hu => ht.below hu
  have HTK : Hid (∀ k, k < 2 → (([numV2 x, numV2 y] : List V).take (k + 1)).flatMap V.cells = (([numV2 x, numV2 y] : List V).take k).flatMap V.cells ++ [.int .i8 1, .int .i64 (if k = 0 then x else y), .string ⟨#[]⟩]) := fun k hk => by
    have : k = 0 ∨ k = 1 := by omega
    rcases this with rfl | rfl <;> rfl
  obtain ⟨a0, c0, rfl, -, -, -⟩ := hl.form
  have HS0 : Hid (WSt w [.int .i8 2, .string ⟨#[]⟩, .int .i8 0, .int .i64 0, .string ⟨#[]⟩, .slice (some ⟨g, off, none⟩) 2 c] [numV2 x, numV2 y] 0 none 0 ((w.alloc (.cells #[.int .i8 2, .string ⟨#[]⟩, .int .i8 0, .int .i64 0, .string ⟨#[]⟩, .slice (some ⟨g, off, none⟩) 2 c] 56)).alloc (.cells #[.int .i8 0, .int .i64 0, .string ⟨#[]⟩] 36))) := wst_new w #[.int .i8 2, .string ⟨#[]⟩, .int .i8 0, .int .i64 0, .string ⟨#[]⟩, .slice (some ⟨g, off, none⟩) 2 c] _
  have hval : (addE t1 t2).val (some ⟨g, off, none⟩) c = .agg #[.int .i8 2, .string ⟨#[]⟩, .int .i8 0, .int .i64 0, .string ⟨#[]⟩, .slice (some ⟨g, off, none⟩) 2 c] := rfl
  rw [hval]
  obtain ⟨zz, hzz⟩ : ∃ zz, wrap64 (x + y) = zz := ⟨_, rfl⟩
  rw [hzz]
  have HZ : Hid (wrap64 (x + y) = zz) := hzz
  clear hval ht hl h1 h2 hk hw1 hw2 hc2 h2l hg hzz
  go_enter Tryd.func31, Tryd.ntmps31
  go_upto_region 3 with fail
  generalize (w.alloc (.cells #[.int .i8 2, .string ⟨#[]⟩, .int .i8 0, .int .i64 0, .string ⟨#[]⟩, .slice (some ⟨g, off, none⟩) 2 c] 56)).alloc (.cells #[.int .i8 0, .int .i64 0, .string ⟨#[]⟩] 36) = W at HS0 ⊢
  have q5 := HS0.out.r0.at (j := 5) rfl
  go_wp2
  clear q5
  go_loopw [6, 23] (fun kv i wr => ∃ (k : Nat) (a' : Option Addr) (c' : Nat), k ≤ 2 ∧ i = .int .i64 k ∧ kv = .slice a' k c' ∧ Hid (WSt w [.int .i8 2, .string ⟨#[]⟩, .int .i8 0, .int .i64 0, .string ⟨#[]⟩, .slice (some ⟨g, off, none⟩) 2 c] [numV2 x, numV2 y] k a' c' wr)) (fun _ i _ => 2 - (intOf i).toNat)
  case atStart => exact ⟨0, none, 0, by omega, rfl, rfl, HS0⟩
  case round =>
    obtain ⟨k, a', c', hk, rfl, rfl, HH⟩ := hrel
    by_cases hlt : k < 2
    · have hlt' : (k : Int) < 2 := by omega
      have hk0 : (0 : Int) ≤ (k : Int) := by omega
      obtain ⟨a1, c1, hX⟩ := HK.out k hlt
      obtain ⟨x0, x1, x2, x3, x4, x5⟩ := hX wr HH.out.bel
      have HWk : Hid _ := HW.out k hlt a1 c1
      have HTk : Hid _ := HTK.out k hlt
      generalize atT [t1, t2] k = tk at x0 x1 x2 x3 x4 HWk
      generalize (if k = 0 then x else y) = z at HWk HTk
      have HB1 : Hid (WSt w [.int .i8 2, .string ⟨#[]⟩, .int .i8 0, .int .i64 0, .string ⟨#[]⟩, .slice (some ⟨g, off, none⟩) 2 c] [numV2 x, numV2 y] k a' c' (wr.alloc (.cells #[.int .i8 0, .string tk.v, .int .i8 tk.a.k, .int .i64 tk.a.n, .string tk.a.s, .slice a1 0 c1] 56))) := HH.out.keep ((Below.refl _ _).alloc (Nat.le_refl _) _)
      clear hX
      go_wp2_with fail
      refine Calls.mono (HWk.out _ HB1.out.bel) ?_
      rintro e w1 ⟨rfl, b1⟩
      have H1 : Hid (WSt w [.int .i8 2, .string ⟨#[]⟩, .int .i8 0, .int .i64 0, .string ⟨#[]⟩, .slice (some ⟨g, off, none⟩) 2 c] [numV2 x, numV2 y] k a' c' w1) := HB1.out.keep b1
      have hz := H1.out.sz
      clear b1 HB1 HWk x0 x1 x2 x3 x4 x5 HH
      go_upto_region 10 with fail
      have l0 : (w1.alloc (.cells #[.int .i8 1, .int .i64 z, .string ⟨#[]⟩] 36)).cell? ⟨w1.heap.size, 0, none⟩ = some (.int .i8 1) := (rl_new w1 #[.int .i8 1, .int .i64 z, .string ⟨#[]⟩] 36).at (j := 0) rfl
      have l1 : (w1.alloc (.cells #[.int .i8 1, .int .i64 z, .string ⟨#[]⟩] 36)).cell? ⟨w1.heap.size, 1, none⟩ = some (.int .i64 z) := (rl_new w1 #[.int .i8 1, .int .i64 z, .string ⟨#[]⟩] 36).at (j := 1) rfl
      have l2 : (w1.alloc (.cells #[.int .i8 1, .int .i64 z, .string ⟨#[]⟩] 36)).cell? ⟨w1.heap.size, 2, none⟩ = some (.string ⟨#[]⟩) := (rl_new w1 #[.int .i8 1, .int .i64 z, .string ⟨#[]⟩] 36).at (j := 2) rfl
      have H2 : Hid (WSt w [.int .i8 2, .string ⟨#[]⟩, .int .i8 0, .int .i64 0, .string ⟨#[]⟩, .slice (some ⟨g, off, none⟩) 2 c] [numV2 x, numV2 y] k a' c' (w1.alloc (.cells #[.int .i8 1, .int .i64 z, .string ⟨#[]⟩] 36))) := H1.out.keep ((Below.refl _ _).alloc (Nat.le_refl _) _)
      generalize w1.alloc (.cells #[.int .i8 1, .int .i64 z, .string ⟨#[]⟩] 36) = W1 at H2 l0 l1 l2 ⊢
      have hz1' := H2.out.sz
      have H3 : Hid (WSt w [.int .i8 2, .string ⟨#[]⟩, .int .i8 0, .int .i64 0, .string ⟨#[]⟩, .slice (some ⟨g, off, none⟩) 2 c] [numV2 x, numV2 y] k a' c' (W1.alloc (.cells #[.int .i8 1, .int .i64 z, .string ⟨#[]⟩] 36))) := H2.out.keep ((Below.refl _ _).alloc (Nat.le_refl _) _)
      have HOWN : Hid _ := H3.out.own
      clear H1 H2
      go_wp2_with (at_builtin; refine wpList_append_own_at _ rfl _ _ 45 rfl (w.heap.size + 2) 36 i0 _ 3 32 Tryd.underlying45 hi0 hz0 hz1 hz2 rfl (by decide) _ _ _ rfl HOWN.out ⟨_, 0, none⟩ 1 1 [.int .i8 1, .int .i64 z, .string ⟨#[]⟩] rfl rfl (lit_news _ #[.int .i8 1, .int .i64 z, .string ⟨#[]⟩] _) (by simp [Value.oneCell']) (by unfold maxLen; omega) (by omega) (by simp; omega) ?_; intro v' w3 hown' hgrow hnil hloc; obtain ⟨a2, c2, rfl, hfin⟩ := H3.out.step HTk.out hown' hgrow; clear hown' hgrow hnil hloc)
      go_roundw
      case rel => exact ⟨k + 1, a2, c2, by omega, by go_num, rfl, hfin⟩
      case measure => simp [intOf]; omega
    · obtain rfl : k = 2 := by omega
      obtain ⟨g2, off2, cc, e2, hN⟩ := nums_own (x := x) (y := y) HH.out.own
      cases e2
      have q0 := HH.out.r0.at (j := 0) rfl
      have HA : Hid _ := arith_add x y g2 off2 c' wr (HT.out wr HH.out.bel) hN
      rw [HZ.out] at HA
      have HR1 : Hid (RL wr (w.heap.size + 1) 36 _) := HH.out.r1
      have HB : Hid (Below w.heap.size w wr) := HH.out.bel
      clear hN
      go_wp2_with fail
      refine Calls.mono HA.out ?_
      rintro e w1 ⟨rfl, b1⟩
      have r1 : RL w1 (w.heap.size + 1) 36 _ := RL.below HR1.out b1
      have H1 : Hid (RL w1 (w.heap.size + 1) 36 _) := r1
      have HB1 : Hid (Below w.heap.size w w1) := HB.out.trans (b1.mono HB.out.size)
      have c0' := r1.at (j := 0) rfl
      have c1' := r1.at (j := 1) rfl
      have c2' := r1.at (j := 2) rfl
      have f0 := World.rowIs.frozen r1 0
      have f1 := World.rowIs.frozen r1 1
      have f2 := World.rowIs.frozen r1 2
      clear b1 r1 HR1 HB HA HH q0
      go_wp2
      refine bodyPost_ret (v := .tuple #[.agg #[.int .i8 1, .int .i64 zz, .string ⟨#[]⟩], .bool true]) (rl_results3 Tryd.results31 (b := w.heap.size + 1) rfl rfl (run_loadVar_mid _ _ 0 36 [.int .i8 1, .int .i64 zz, .string ⟨#[]⟩] _ (RL.range (((H1.out.set 0 (.int .i8 1)).set 1 (.int .i64 zz)).set 2 (.string ⟨#[]⟩))) Tryd.underlying36 rfl (by kernel_rfl))) rfl ⟨rfl, ?_⟩
      exact ((HB1.out.setCell (p := ⟨w.heap.size + 1, 0, none⟩) (by simp) _).setCell (p := ⟨w.heap.size + 1, 1, none⟩) (by simp) _).setCell (p := ⟨w.heap.size + 1, 2, none⟩) (by simp) _
set_option maxHeartbeats 3200000 in
theorem eval_add (t1 t2 : T) (x y : Int) (a : Option Addr) (c : Nat) (v : Value) (l : List B) (w : World) (d : Nat) (ht : Tab w) (hkt : KT w) (hE : EIs w (d + 1) (addE t1 t2) a c) (hok : exprB 8 (addE t1 t2) = true) (hw1 : t1.wf) (hw2 : t2.wf) (hl : Lb w v l) (h1 : valOf t1 l = some (numV2 x)) (h2 : valOf t2 l = some (numV2 y)) :
    Calls Tryd.prog 14 #[(addE t1 t2).val a c, v] w fun e w' => e = .returned (.tuple #[.agg #[.int .i8 1, .int .i64 (wrap64 (x + y)), .string ⟨#[]⟩], .bool true]) ∧ Below w.heap.size w w' := by
  have hval : (addE t1 t2).val a c = .agg #[.int .i8 2, .string ⟨#[]⟩, .int .i8 0, .int .i64 0, .string ⟨#[]⟩, .slice a 2 c] := rfl
  have BA : Below w.heap.size w (w.alloc (.cells #[.int .i8 2, .string ⟨#[]⟩, .int .i8 0, .int .i64 0, .string ⟨#[]⟩, .slice a 2 c] 56)) := (Below.refl _ _).alloc (Nat.le_refl _) _
  have BB : Below w.heap.size w ((w.alloc (.cells #[.int .i8 2, .string ⟨#[]⟩, .int .i8 0, .int .i64 0, .string ⟨#[]⟩, .slice a 2 c] 56)).alloc (.cells #[.int .i8 0, .int .i64 0, .string ⟨#[]⟩] 36)) := BA.alloc BA.size _
  have HI : Hid (Calls Tryd.prog 30 #[.agg #[.int .i8 2, .string ⟨#[]⟩, .int .i8 0, .int .i64 0, .string ⟨#[]⟩, .slice a 2 c], .int .i64 8] ((w.alloc (.cells #[.int .i8 2, .string ⟨#[]⟩, .int .i8 0, .int .i64 0, .string ⟨#[]⟩, .slice a 2 c] 56)).alloc (.cells #[.int .i8 0, .int .i64 0, .string ⟨#[]⟩] 36)) fun r w' => r = .returned (.bool true) ∧ Below (((w.alloc (.cells #[.int .i8 2, .string ⟨#[]⟩, .int .i8 0, .int .i64 0, .string ⟨#[]⟩, .slice a 2 c] 56)).alloc (.cells #[.int .i8 0, .int .i64 0, .string ⟨#[]⟩] 36))).heap.size ((w.alloc (.cells #[.int .i8 2, .string ⟨#[]⟩, .int .i8 0, .int .i64 0, .string ⟨#[]⟩, .slice a 2 c] 56)).alloc (.cells #[.int .i8 0, .int .i64 0, .string ⟨#[]⟩] 36)) w') := by
    have := isExpr_any 8 (d + 1) (addE t1 t2) a c ((w.alloc (.cells #[.int .i8 2, .string ⟨#[]⟩, .int .i8 0, .int .i64 0, .string ⟨#[]⟩, .slice a 2 c] 56)).alloc (.cells #[.int .i8 0, .int .i64 0, .string ⟨#[]⟩] 36)) (by omega) (hkt.below BB) (hE.below BB)
    rw [hok, hval] at this
    exact this
  have HWk : Hid (∀ u, Below w.heap.size w u → Calls Tryd.prog 31 #[.agg #[.int .i8 2, .string ⟨#[]⟩, .int .i8 0, .int .i64 0, .string ⟨#[]⟩, .slice a 2 c], v] u fun e w' => e = .returned (.tuple #[.agg #[.int .i8 1, .int .i64 (wrap64 (x + y)), .string ⟨#[]⟩], .bool true]) ∧ Below u.heap.size u w') := fun u hu => work_add t1 t2 x y a c v l u d (ht.below hu) (hE.below hu) hw1 hw2 (hl.below hu) h1 h2
  have HR0 : Hid (RL ((w.alloc (.cells #[.int .i8 2, .string ⟨#[]⟩, .int .i8 0, .int .i64 0, .string ⟨#[]⟩, .slice a 2 c] 56)).alloc (.cells #[.int .i8 0, .int .i64 0, .string ⟨#[]⟩] 36)) w.heap.size 56 [.int .i8 2, .string ⟨#[]⟩, .int .i8 0, .int .i64 0, .string ⟨#[]⟩, .slice a 2 c]) := (rl_new w #[.int .i8 2, .string ⟨#[]⟩, .int .i8 0, .int .i64 0, .string ⟨#[]⟩, .slice a 2 c] 56).below ((Below.refl _ _).alloc (Nat.le_refl _) _)
  have HR1 : Hid (RL ((w.alloc (.cells #[.int .i8 2, .string ⟨#[]⟩, .int .i8 0, .int .i64 0, .string ⟨#[]⟩, .slice a 2 c] 56)).alloc (.cells #[.int .i8 0, .int .i64 0, .string ⟨#[]⟩] 36)) (w.heap.size + 1) 36 [.int .i8 0, .int .i64 0, .string ⟨#[]⟩]) := by
    have := rl_new (w.alloc (.cells #[.int .i8 2, .string ⟨#[]⟩, .int .i8 0, .int .i64 0, .string ⟨#[]⟩, .slice a 2 c] 56)) #[.int .i8 0, .int .i64 0, .string ⟨#[]⟩] 36
    rw [World.size_alloc] at this
    exact this
  have HB : Hid (Below w.heap.size w _) := BB
  obtain ⟨a0, c0, rfl, -, -, -⟩ := hl.form
  rw [hval]
  clear hval BA BB ht hkt hE hok hw1 hw2 hl h1 h2
  obtain ⟨z, hz⟩ : ∃ z, wrap64 (x + y) = z := ⟨_, rfl⟩
  rw [hz] at HWk ⊢
  clear hz
  go_enter Tryd.func14, Tryd.ntmps14
  go_wp2_with fail
  refine Calls.mono HI.out ?_
  rintro e w1 ⟨rfl, b1⟩
  have r0 : RL w1 w.heap.size 56 _ := RL.below HR0.out b1
  have HR1' : Hid (RL w1 (w.heap.size + 1) 36 _) := RL.below HR1.out b1
  have HB1 : Hid (Below w.heap.size w w1) := HB.out.trans (b1.mono HB.out.size)
  have c0' := r0.at (j := 0) rfl
  have c1' := r0.at (j := 1) rfl
  have c2' := r0.at (j := 2) rfl
  have c3' := r0.at (j := 3) rfl
  have c4' := r0.at (j := 4) rfl
  have c5' := r0.at (j := 5) rfl
  clear b1 r0 HR0 HR1 HB HI
  go_wp2_with fail
  refine Calls.mono (HWk.out _ HB1.out) ?_
  rintro e w2 ⟨rfl, b2⟩
  have r1 : RL w2 (w.heap.size + 1) 36 _ := RL.below HR1'.out b2
  have H1 : Hid (RL w2 (w.heap.size + 1) 36 _) := r1
  have HB2 : Hid (Below w.heap.size w w2) := HB1.out.trans (b2.mono HB1.out.size)
  have d0' := r1.at (j := 0) rfl
  have d1' := r1.at (j := 1) rfl
  have d2' := r1.at (j := 2) rfl
  have f0 := World.rowIs.frozen r1 0
  have f1 := World.rowIs.frozen r1 1
  have f2 := World.rowIs.frozen r1 2
  clear b2 r1 HR1' HB1 HWk c0' c1' c2' c3' c4' c5'
  go_wp2
  refine bodyPost_ret (v := .tuple #[.agg #[.int .i8 1, .int .i64 z, .string ⟨#[]⟩], .bool true]) (rl_results3 Tryd.results14 (b := w.heap.size + 1) rfl rfl (run_loadVar_mid _ _ 0 36 [.int .i8 1, .int .i64 z, .string ⟨#[]⟩] _ (RL.range (((H1.out.set 0 (.int .i8 1)).set 1 (.int .i64 z)).set 2 (.string ⟨#[]⟩))) Tryd.underlying36 rfl (by kernel_rfl))) rfl ⟨rfl, ?_⟩
  exact ((HB2.out.setCell (p := ⟨w.heap.size + 1, 0, none⟩) (by simp) _).setCell (p := ⟨w.heap.size + 1, 1, none⟩) (by simp) _).setCell (p := ⟨w.heap.size + 1, 2, none⟩) (by simp) _
end Go.Proofs.YtnpmhgjbfkgmdaaDoor
