import Derived.Test.YtlnhnpfgmiffpaaRpHas
import Derived.Test.YtlnhnpfgmiffpaaRpQ3
namespace Go.Proofs.Ytlnhnpfgmiffpaa
open Go.RowKit Go.Maps Go.Shelf
set_option linter.unusedVariables false
set_option linter.unusedSimpArgs false
attribute [local go_sem ↓] Go.wp_at_zero Go.wp_at_succ

/-- the closure of a Range and its boxes -/
def seqOf (b0 b1 b2 : Nat) : Value := .func (.func 51) #[] #[.pointer (some ⟨b0, 0, none⟩), .pointer (some ⟨b1, 0, none⟩), .pointer (some ⟨b2, 0, none⟩)]
/-- what a pair keeps: no iterator, or that of a Range; K: its boxes -/
inductive Kpt (w : World) (pT : Value) (f t : Int) : Value → (Nat → Prop) → Prop
  | nil : Kpt w pT f t .nilFunc (fun _ => False)
  | seq (b0 b1 b2 : Nat) (h0 : w.cell? ⟨b0, 0, none⟩ = some pT) (h1 : w.cell? ⟨b1, 0, none⟩ = some (.int .i64 f)) (h2 : w.cell? ⟨b2, 0, none⟩ = some (.int .i64 t)) (l0 : b0 < w.heap.size) (l1 : b1 < w.heap.size) (l2 : b2 < w.heap.size) : Kpt w pT f t (seqOf b0 b1 b2) (fun k => k = b0 ∨ k = b1 ∨ k = b2)
theorem Kpt.blocks {w w' : World} {pT kv : Value} {f t : Int} {K : Nat → Prop} (h : Kpt w pT f t kv K) (hz : w.heap.size ≤ w'.heap.size) (hb : ∀ k, K k → w'.heap[k]? = w.heap[k]?) : Kpt w' pT f t kv K := by
  cases h with
  | nil => exact .nil
  | seq b0 b1 b2 h0 h1 h2 l0 l1 l2 => exact .seq b0 b1 b2 ((World.cell?_of_block (w := w) (hb _ (.inl rfl))).trans h0) ((World.cell?_of_block (w := w) (hb _ (.inr (.inl rfl)))).trans h1) ((World.cell?_of_block (w := w) (hb _ (.inr (.inr rfl)))).trans h2) (by omega) (by omega) (by omega)
theorem Kpt.lt {w : World} {pT kv : Value} {f t : Int} {K : Nat → Prop} (h : Kpt w pT f t kv K) {k : Nat} (hk : K k) : k < w.heap.size := by
  cases h with
  | nil => exact hk.elim
  | seq b0 b1 b2 h0 h1 h2 l0 l1 l2 => rcases hk with rfl | rfl | rfl <;> assumption
/-- the law's pair in block b from o on, with what it keeps -/
structure St (w : World) (b : Nat) (ty : TypeId) (l : List Value) (o : Nat) (pT pR kv : Value) (f t : Int) (rows : List (List Int)) (n : Nat) (gn : Int) (E K : Nat → Prop) : Prop where
  rl : RL w b ty l
  i0 : l[o]? = some pT
  i1 : l[o + 1]? = some pR
  i2 : l[o + 2]? = some kv
  i3 : l[o + 3]? = some (.int .i64 f)
  i4 : l[o + 4]? = some (.int .i64 t)
  pa : Pa w pT pR rows n gn E
  kp : Kpt w pT f t kv K
  dj : ∀ k, E k → ¬ K k
  nb : ¬ E b ∧ ¬ K b
section
variable {w w' : World} {b o : Nat} {ty : TypeId} {l : List Value} {pT pR kv : Value} {f t : Int} {rows : List (List Int)} {n : Nat} {gn : Int} {E K : Nat → Prop}
theorem St.bx (h : St w b ty l o pT pR kv f t rows n gn E K) : Bx w b o pT pR rows n gn E := ⟨World.rowIs.lt h.rl, h.rl.at h.i0, h.rl.at h.i1, h.pa⟩
theorem St.keep (h : St w b ty l o pT pR kv f t rows n gn E K) (hb : Below w.heap.size w w') : St w' b ty l o pT pR kv f t rows n gn E K :=
  ⟨h.rl.below hb, h.i0, h.i1, h.i2, h.i3, h.i4, h.pa.keep hb, h.kp.blocks hb.size (fun k hk => hb.block k (h.kp.lt hk)), h.dj, h.nb⟩
set_option maxHeartbeats 1600000 in
set_option maxRecDepth 100000 in
theorem range_callsF {p : Value} (hp : p = .pointer none ∨ ∃ t, p = .pointer (some ⟨t, 0, none⟩)) (i j : Int) (w : World) : Calls Try.prog 31 #[p, .int .i64 i, .int .i64 j] w fun e w' => ∃ b0 b1 b2, e = .returned (seqOf b0 b1 b2) ∧ w'.cell? ⟨b0, 0, none⟩ = some p ∧ w'.cell? ⟨b1, 0, none⟩ = some (.int .i64 i) ∧ w'.cell? ⟨b2, 0, none⟩ = some (.int .i64 j) ∧ (b0 < w'.heap.size ∧ b1 < w'.heap.size ∧ b2 < w'.heap.size) ∧ (w.heap.size ≤ b0 ∧ w.heap.size ≤ b1 ∧ w.heap.size ≤ b2) ∧ Below w.heap.size w w' := by
  obtain rfl | ⟨t, rfl⟩ := hp
  all_goals
    go_enter Try.func31, Try.ntmps31
    go_wp2
    go_ret
    refine ⟨_, _, _, rfl, (by go_simp), (by go_simp), (by go_simp), ⟨(by simp <;> omega), (by simp <;> omega), (by simp <;> omega)⟩, ⟨(by omega), (by omega), (by omega)⟩, ?_⟩
    exact (((Below.refl w.heap.size w).alloc (Nat.le_refl _) _).alloc (by simp) _).alloc (by simp; omega) _
set_option maxHeartbeats 3200000 in
set_option maxRecDepth 100000 in
theorem asks_8 (h : St w b ty l o pT pR kv f t rows n gn E K) (hlen : rows.length ≤ 100000000) (on nn m mask : Int) (r : List Int) : Calls Try.prog 28 #[.pointer (some ⟨b, o, none⟩), .agg (opL on 8 nn m mask r).toArray] w fun e w' => e = .returned (.bool true) ∧ Below w.heap.size w w' := by
  have O := Lib.hid (opAt_new w on 8 nn m mask r)
  have HB := Lib.hid (belowA (w := w) (.cells (opL on 8 nn m mask r).toArray 42))
  have HN := Lib.hid (h.keep HB.out)
  have HLN : Hid (rows.length ≤ 100000000) := hlen
  have hkp := h.kp
  clear h hlen
  cases hkp with
  | nil =>
    go_enter Try.func28, Try.ntmps28
    go_upto_region 1 with fail
    generalize w.alloc (.cells (opL on 8 nn m mask r).toArray 42) = W at O HB HN ⊢
    have hc1 := O.out.c1
    go_upto_region 11 with fail
    clear hc1
    refine wp_region_noPanic ?_
    refine wp_region_held (S := fun u => Below W.heap.size W u) (by kernel_rfl) ?_
    refine regKept (w5 := W) (S := fun u => Below W.heap.size W u) (t := b) (oo := o) rfl rfl rfl rfl rfl rfl rfl rfl rfl rfl rfl rfl rfl rfl rfl rfl rfl rfl rfl rfl rfl rfl rfl rfl rfl rfl (by kernel_rfl) (by kernel_rfl) (by kernel_rfl) (fun _ _ _ _ _ h => h) (by simp) rfl (Below.refl _ _).drew (fun u hu => run_loadSeq ((HN.out.keep hu).rl.at HN.out.i2)) ?_
    intro wf hS
    have HBW := Lib.hid (HB.out.trans (hS.mono HB.out.size))
    clear hS HB HN O
    refine NoPanic.normal ?_
    rename_i hK
    refine hK _ _ ?_
    simp (config := { maxSteps := 8000000 }) only [Act.put, List.setIfInBounds_toArray, List.set_cons_succ, List.set_cons_zero]
    go_wp2
    go_ret
    exact ⟨rfl, HBW.out⟩
  | seq b0 b1 b2 h0 h1 h2 l0 l1 l2 =>
    have HSQ : Hid (∀ u, Below w.heap.size w u → SeqV u (seqOf b0 b1 b2) pT f t) := fun u hu => SeqV.below ⟨b0, b1, b2, rfl, h0, h1, h2, l0, l1, l2⟩ hu
    clear h0 h1 h2 l0 l1 l2
    unfold seqOf at HN HSQ
    have hft := fun w => fn_there 51 #[.pointer (some ⟨b0, 0, none⟩), .pointer (some ⟨b1, 0, none⟩), .pointer (some ⟨b2, 0, none⟩)] w
    go_enter Try.func28, Try.ntmps28
    go_upto_region 1 with fail
    generalize w.alloc (.cells (opL on 8 nn m mask r).toArray 42) = W at O HB HN ⊢
    have hc1 := O.out.c1
    go_upto_region 11 with fail
    clear hc1
    have hB0 : Below W.heap.size W W.drew := (Below.refl _ _).drew
    have HS : Hid (∀ u, Below W.heap.size W u → u.cell? ⟨b, o + 2, none⟩ = some (.func (.func 51) #[] #[.pointer (some ⟨b0, 0, none⟩), .pointer (some ⟨b1, 0, none⟩), .pointer (some ⟨b2, 0, none⟩)]) ∧ u.cell? ⟨b, o + 1, none⟩ = some pR ∧ u.cell? ⟨b, o + 3, none⟩ = some (.int .i64 f) ∧ u.cell? ⟨b, o + 4, none⟩ = some (.int .i64 t)) :=
      fun u hu => ⟨(HN.out.keep hu).rl.at HN.out.i2, (HN.out.keep hu).rl.at HN.out.i1, (HN.out.keep hu).rl.at HN.out.i3, (HN.out.keep hu).rl.at HN.out.i4⟩
    go_region_held3 (fun u => Below W.heap.size W u ∧ u.cell? ⟨b, o + 2, none⟩ = some (.func (.func 51) #[] #[.pointer (some ⟨b0, 0, none⟩), .pointer (some ⟨b1, 0, none⟩), .pointer (some ⟨b2, 0, none⟩)]) ∧ u.cell? ⟨b, o + 1, none⟩ = some pR ∧ u.cell? ⟨b, o + 3, none⟩ = some (.int .i64 f) ∧ u.cell? ⟨b, o + 4, none⟩ = some (.int .i64 t))
      (first | assumption | exact ⟨hB0, HS.out _ hB0⟩ | exact ⟨(by assumption), HS.out _ (by assumption)⟩)
      (first
        | (go_at_call 32; refine (pa_rrange (HN.out.keep hB0).pa HLN.out _ _).mono ?_; rintro ee w5 ⟨la, lc, rfl, hwl, b5⟩; have b5' : Below W.heap.size W w5 := hB0.trans (b5.mono hB0.size); clear b5)
        | (go_at_call 30; refine (pa_tells (HN.out.keep b5').pa HLN.out (HSQ.out _ (HB.out.trans (b5'.mono HB.out.size))) _ _ hwl _).mono ?_; rintro ee w6 ⟨rfl, b6⟩; have b6' : Below W.heap.size W w6 := b5'.trans (b6.mono b5'.size); clear b6 hwl)
        | fail)
    all_goals
      go_wp2
      go_ret
      exact ⟨rfl, HB.out.trans (b6'.mono HB.out.size)⟩
end
end Go.Proofs.Ytlnhnpfgmiffpaa
