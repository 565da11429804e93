import Derived.Test.YtlnhnpfgmiffpaaRpKeep
namespace Go.Proofs.Ytlnhnpfgmiffpaa
open Go.RowKit Go.Maps Go.Shelf
set_option linter.unusedVariables false
set_option linter.unusedSimpArgs false
attribute [local go_sem ↓] Go.wp_at_zero Go.wp_at_succ
theorem RL.frozenP {w : World} {b : Nat} {t : TypeId} {l : List Value} (h : RL w b t l) (j : Nat) : w.frozen? ⟨b, j, none⟩ = false := World.rowIs.frozen h j
theorem run_store_func (P : Program) (w : World) (a : Addr) (m : Mode) (f : Fn) (vs lb : Array Value) : (store a (.func f vs lb) m).run P w = stored P w a (.func f vs lb) m := run_store P w a _ m rfl
theorem Pa.beside {w w' : World} {pT pR : Value} {rows : List (List Int)} {n b : Nat} {gn : Int} {E : Nat → Prop} (h : Pa w pT pR rows n gn E) (hn : ¬ E b) (hb : Beside b w w') : Pa w' pT pR rows n gn E := h.blocks (fun k hk => hb.block k (h.lt hk) (fun e => hn (e ▸ hk)))
section
attribute [local go_sem] run_store_func
variable {w w' : World} {b o : Nat} {ty : TypeId} {l : List Value} {pT pR kv : Value} {f t : Int} {rows : List (List Int)} {n : Nat} {gn : Int} {E K : Nat → Prop}
set_option maxHeartbeats 3200000 in
set_option maxRecDepth 100000 in
theorem asks_7 (h : St w b ty l o pT pR kv f t rows n gn E K) (on nn m mask : Int) (r : List Int) : Calls Try.prog 28 #[.pointer (some ⟨b, o, none⟩), .agg (opL on 7 nn m mask r).toArray] w fun e w' => e = .returned (.bool true) ∧ Beside b w w' ∧
    ∃ l' kv' K', St w' b ty l' o pT pR kv' nn m rows n gn E K' ∧ (∀ j, j < o ∨ o + 5 ≤ j → l'[j]? = l[j]?) ∧ l'.length = l.length ∧ ∀ k, K' k → w.heap.size ≤ k := by
  have O := Lib.hid (opAt_new w on 7 nn m mask r)
  have HB := Lib.hid (belowA (w := w) (.cells (opL on 7 nn m mask r).toArray 42))
  have HN := Lib.hid (h.keep HB.out)
  have hne : w.heap.size ≠ b := by have := World.rowIs.lt h.rl; omega
  have H0 := Lib.hid h
  clear h
  go_enter Try.func28, Try.ntmps28
  go_upto_region 1 with fail
  generalize w.alloc (.cells (opL on 7 nn m mask r).toArray 42) = W at O HB HN ⊢
  have hc1 := O.out.c1
  go_upto_region 6 with fail
  clear hc1
  have hB0 : Below W.heap.size W W.drew := (Below.refl _ _).drew
  have HS : Hid (∀ u, Below W.heap.size W u → u.cell? ⟨b, o, none⟩ = some pT ∧ u.cell? ⟨w.heap.size, 2, none⟩ = some (.int .i64 nn) ∧ u.cell? ⟨w.heap.size, 3, none⟩ = some (.int .i64 m)) :=
    fun u hu => ⟨(HN.out.keep hu).bx.cT, (O.out.below hu).c2, (O.out.below hu).c3⟩
  have HST : Hid (∀ u v, Below W.heap.size W u → (u.setCell ⟨b, o + 2, none⟩ v).cell? ⟨b, o, none⟩ = some pT ∧ (u.setCell ⟨b, o + 2, none⟩ v).cell? ⟨w.heap.size, 2, none⟩ = some (.int .i64 nn) ∧ (u.setCell ⟨b, o + 2, none⟩ v).cell? ⟨w.heap.size, 3, none⟩ = some (.int .i64 m)) :=
    fun u v hu => ⟨((HN.out.keep hu).rl.set (o + 2) v).at (by rw [List.getElem?_set_ne (by omega)]; exact HN.out.i0), (OpAt.c2 (Eq.trans (Below.heap_setCell _ _ _ _ hne) (O.out.below hu))), (OpAt.c3 (Eq.trans (Below.heap_setCell _ _ _ _ hne) (O.out.below hu)))⟩
  have HC : Hid (∀ u, Below W.heap.size W u → u.cell? ⟨b, o + 2, none⟩ = some kv ∧ u.frozen? ⟨b, o + 2, none⟩ = false) := fun u hu => ⟨(HN.out.keep hu).rl.at HN.out.i2, (HN.out.keep hu).rl.frozenP (o + 2)⟩
  go_region_held3 (fun u => u.cell? ⟨b, o, none⟩ = some pT ∧ u.cell? ⟨w.heap.size, 2, none⟩ = some (.int .i64 nn) ∧ u.cell? ⟨w.heap.size, 3, none⟩ = some (.int .i64 m))
    (first | assumption | exact HS.out _ hB0 | exact HS.out _ (by assumption) | exact HST.out _ _ (by assumption))
    (first
      | (go_at_call 31; refine (range_callsF HN.out.pa.form _ _ _).mono ?_; rintro ee w4 ⟨b0, b1, b2, rfl, k0, k1, k2, hlt, hge, b4⟩; have b4' : Below W.heap.size W w4 := hB0.trans (b4.mono hB0.size); have HKK := Lib.hid (And.intro k0 (And.intro k1 (And.intro k2 (And.intro hlt hge)))); clear b4 k0 k1 k2 hlt hge; obtain ⟨d2, f2⟩ := HC.out w4 b4'; unfold seqOf)
      | fail)
  simp only [Exit.then]
  go_at_K
  have r5 := (HN.out.keep b4').rl.set (o + 2) (.func (.func 51) #[] #[.pointer (some ⟨b0, 0, none⟩), .pointer (some ⟨b1, 0, none⟩), .pointer (some ⟨b2, 0, none⟩)])
  have o5 : OpAt (w4.setCell ⟨b, o + 2, none⟩ (.func (.func 51) #[] #[.pointer (some ⟨b0, 0, none⟩), .pointer (some ⟨b1, 0, none⟩), .pointer (some ⟨b2, 0, none⟩)])) w.heap.size on 7 nn m mask r := Eq.trans (Below.heap_setCell _ _ _ _ hne) (O.out.below b4')
  have s5 : Beside b w (w4.setCell ⟨b, o + 2, none⟩ (.func (.func 51) #[] #[.pointer (some ⟨b0, 0, none⟩), .pointer (some ⟨b1, 0, none⟩), .pointer (some ⟨b2, 0, none⟩)])) := (Beside.of (HB.out.trans (b4'.mono HB.out.size))).set _
  have HBX : Hid (∀ k v j, (w4.setCell ⟨b, j, none⟩ v).heap[k]? = w4.heap[k]? ∨ k = b) := fun k v j => by
    by_cases e : k = b
    · exact .inr e
    · exact .inl (Below.heap_setCell _ _ _ _ e)
  have hB4 : W.heap.size ≤ w4.heap.size := b4'.size
  have hWw := HB.out.size
  have hbw := World.rowIs.lt H0.out.rl
  have HKP : Hid (∀ u, Beside b w4 u → Kpt u pT nn m (seqOf b0 b1 b2) (fun k => k = b0 ∨ k = b1 ∨ k = b2)) := fun u hu => by
    obtain ⟨k0, k1, k2, ⟨t0, t1, t2⟩, g0, g1, g2⟩ := HKK.out
    simp only [World.size_drew] at g0 g1 g2
    refine Kpt.blocks (w := w4) (.seq b0 b1 b2 k0 k1 k2 t0 t1 t2) hu.size (fun k hk => ?_)
    rcases hk with rfl | rfl | rfl
    · exact hu.block _ t0 (by omega)
    · exact hu.block _ t1 (by omega)
    · exact hu.block _ t2 (by omega)
  have HGE : Hid (w.heap.size ≤ b0 ∧ w.heap.size ≤ b1 ∧ w.heap.size ≤ b2) := by
    obtain ⟨k0, k1, k2, ⟨t0, t1, t2⟩, g0, g1, g2⟩ := HKK.out
    simp only [World.size_drew] at g0 g1 g2
    exact ⟨by omega, by omega, by omega⟩
  have s45 : Beside b w4 (w4.setCell ⟨b, o + 2, none⟩ (.func (.func 51) #[] #[.pointer (some ⟨b0, 0, none⟩), .pointer (some ⟨b1, 0, none⟩), .pointer (some ⟨b2, 0, none⟩)])) := (Beside.refl _ _).set _
  clear hB0 HS HST HC d2 f2 b4' HN HB O HKK HBX
  generalize w4.setCell ⟨b, o + 2, none⟩ (.func (.func 51) #[] #[.pointer (some ⟨b0, 0, none⟩), .pointer (some ⟨b1, 0, none⟩), .pointer (some ⟨b2, 0, none⟩)]) = W5 at r5 o5 s5 s45 ⊢
  have c2 := o5.c2
  have c3 : W5.cell? ⟨b, o + 3, none⟩ = some (.int .i64 f) := r5.at (by rw [List.getElem?_set_ne (by omega)]; exact H0.out.i3)
  have f3 := r5.frozenP (o + 3)
  have r6 := r5.set (o + 3) (.int .i64 nn)
  have o6 : OpAt (W5.setCell ⟨b, o + 3, none⟩ (.int .i64 nn)) w.heap.size on 7 nn m mask r := Eq.trans (Below.heap_setCell _ _ _ _ hne) o5
  have s6 := s5.set (i := o + 3) (.int .i64 nn)
  have s46 := s45.set (i := o + 3) (.int .i64 nn)
  have d3 := o6.c3
  have c4 : (W5.setCell ⟨b, o + 3, none⟩ (.int .i64 nn)).cell? ⟨b, o + 4, none⟩ = some (.int .i64 t) := r6.at (by rw [List.getElem?_set_ne (by omega), List.getElem?_set_ne (by omega)]; exact H0.out.i4)
  have f4 := r6.frozenP (o + 4)
  have r7 := r6.set (o + 4) (.int .i64 m)
  have s7 := s6.set (i := o + 4) (.int .i64 m)
  have s47 := s46.set (i := o + 4) (.int .i64 m)
  have l2 : o + 2 < l.length := (List.getElem?_eq_some_iff.1 H0.out.i2).1
  have l3 : o + 3 < l.length := (List.getElem?_eq_some_iff.1 H0.out.i3).1
  have l4 : o + 4 < l.length := (List.getElem?_eq_some_iff.1 H0.out.i4).1
  have e2 : ((W5.setCell ⟨b, o + 3, none⟩ (.int .i64 nn)).setCell ⟨b, o + 4, none⟩ (.int .i64 m)).cell? ⟨b, o + 2, none⟩ = some (.func (.func 51) #[] #[.pointer (some ⟨b0, 0, none⟩), .pointer (some ⟨b1, 0, none⟩), .pointer (some ⟨b2, 0, none⟩)]) :=
    r7.at (by rw [List.getElem?_set_ne (by omega), List.getElem?_set_ne (by omega), List.getElem?_set_self (by simpa using l2)])
  have HE : Hid (Beside b w ((W5.setCell ⟨b, o + 3, none⟩ (.int .i64 nn)).setCell ⟨b, o + 4, none⟩ (.int .i64 m)) ∧
      ∃ l' kv' K', St ((W5.setCell ⟨b, o + 3, none⟩ (.int .i64 nn)).setCell ⟨b, o + 4, none⟩ (.int .i64 m)) b ty l' o pT pR kv' nn m rows n gn E K' ∧ (∀ j, j < o ∨ o + 5 ≤ j → l'[j]? = l[j]?) ∧ l'.length = l.length ∧ ∀ k, K' k → w.heap.size ≤ k) := by
    obtain ⟨g0, g1, g2⟩ := HGE.out
    refine ⟨s7, _, seqOf b0 b1 b2, _, ⟨r7, ?_, ?_, ?_, ?_, ?_, H0.out.pa.beside H0.out.nb.1 s7, HKP.out _ s47, ?_, ?_⟩, ?_, by simp, ?_⟩
    · rw [List.getElem?_set_ne (by omega), List.getElem?_set_ne (by omega), List.getElem?_set_ne (by omega)]; exact H0.out.i0
    · rw [List.getElem?_set_ne (by omega), List.getElem?_set_ne (by omega), List.getElem?_set_ne (by omega)]; exact H0.out.i1
    · rw [List.getElem?_set_ne (by omega), List.getElem?_set_ne (by omega), List.getElem?_set_self (by simpa using l2)]; rfl
    · rw [List.getElem?_set_ne (by omega), List.getElem?_set_self (by simpa using l3)]
    · rw [List.getElem?_set_self (by simpa using l4)]
    · rintro k hk (rfl | rfl | rfl)
      all_goals
        have := H0.out.pa.lt hk
        omega
    · refine ⟨H0.out.nb.1, ?_⟩
      rintro (e | e | e) <;> omega
    · intro j hj
      rw [List.getElem?_set_ne (by omega), List.getElem?_set_ne (by omega), List.getElem?_set_ne (by omega)]
    · rintro k (rfl | rfl | rfl) <;> assumption
  have hft := fun w => fn_thereN 51 #[.pointer (some ⟨b0, 0, none⟩), .pointer (some ⟨b1, 0, none⟩), .pointer (some ⟨b2, 0, none⟩)] w
  clear r5 o5 s5 r6 o6 s6 r7 s7 H0 hne s45 s46 s47 HKP HGE l2 l3 l4 hB4 hWw hbw
  go_wp2
  go_ret
  exact ⟨rfl, HE.out⟩
end
section
attribute [-go_sem] loadVar
set_option maxHeartbeats 3200000 in
set_option maxRecDepth 100000 in
theorem does_ask {w : World} {b o : Nat} {R : World → Prop} (on k n m mask : Int) (r : List Int) (hr : r.length = 24) (h1 : k ≠ 1) (h2 : k ≠ 2) (h3 : k ≠ 3) (h4 : k ≠ 4) (h5 : k ≠ 5) (h13 : k ≠ 13)
    (HA : Calls Try.prog 28 #[.pointer (some ⟨b, o, none⟩), .agg (opL on k n m mask r).toArray] (w.alloc (.cells (opL on k n m mask r).toArray 42)) fun e w' => e = .returned (.bool true) ∧ R w') :
    Calls Try.prog 8 #[.pointer (some ⟨b, o, none⟩), .agg (opL on k n m mask r).toArray] w fun e w' => e = .returned (.bool true) ∧ R w' := by
  have O := Lib.hid (opAt_new w on k n m mask r)
  have HC := Lib.hid HA
  have e1 : ((k : Int) == 1) = false := by simpa using h1
  have e2 : ((k : Int) == 2) = false := by simpa using h2
  have e3 : ((k : Int) == 3) = false := by simpa using h3
  have e4 : ((k : Int) == 4) = false := by simpa using h4
  have e5 : ((k : Int) == 5) = false := by simpa using h5
  have e13 : ((k : Int) == 13) = false := by simpa using h13
  clear HA h1 h2 h3 h4 h5 h13
  go_enter Try.func8, Try.ntmps8
  go_upto_region 1 with fail
  generalize w.alloc (.cells (opL on k n m mask r).toArray 42) = W at O HC ⊢
  have hc1 := run_loadInt O.out.c1
  have hld := O.out.load hr
  clear O
  go_wp2_with fail
  refine HC.out.mono ?_
  rintro e w2 ⟨rfl, hR⟩
  have HR := Lib.hid hR
  clear hR HC
  go_wp2
  go_ret
  exact ⟨rfl, HR.out⟩
end
end Go.Proofs.Ytlnhnpfgmiffpaa
