import Derived.Test.YtekjoccbbamehaaIxOf
import Derived.Test.YtekjoccbbamehaaRelRange
import Derived.RangeFuncBox
import Derived.RangeFuncWrites
import Derived.Deep.RegionWith
namespace Go.Proofs.Ytekjoccbbamehaa
open Go.RowKit Go.Maps Go.Shelf
set_option linter.unusedVariables false
set_option linter.unusedSimpArgs false
attribute [local go_sem ↓] Go.wp_at_zero Go.wp_at_succ
attribute [local go_sem] Oper.semAt_some

set_option maxHeartbeats 800000 in
set_option maxRecDepth 100000 in
theorem gone_yes {w : World} {B t m : Nat} {sv : Value} {rows : List (List Int)} {ar gone : Int} (h : Rel w B t m sv rows ar gone) : Calls Try.prog 44 #[.pointer (some ⟨t, 0, none⟩)] w fun e w' => e = .returned (.int .i64 gone) ∧ w' = w := by
  have c2 := h.rl.at (j := 3) rfl
  have HT := Lib.hid (there_yes h)
  clear h
  go_enter Try.func44, Try.ntmps44
  go_wp2_with fail
  refine HT.out.mono ?_
  rintro e w1 ⟨rfl, rfl⟩
  go_wp2
  go_ret
  exact ⟨rfl, rfl⟩
theorem bxB {w w' : World} {B : Nat} {t : TypeId} {v : Value} (h : Boxed w B t v) (hb : Below w.heap.size w w') : Boxed w' B t v := (hb.block B h.lt).trans h
theorem bxN {w : World} {B : Nat} (hB : B = w.heap.size) (t : TypeId) (v : Value) : Boxed (w.alloc (.cells #[v] t)) B t v := hB ▸ Boxed.new w t v
theorem KeepsFrom.below {B : Nat} {W W' : World} (h : Below W.heap.size W W') : KeepsFrom B W W' := ⟨h.size, fun k o _ hk _ => (h.block k (Array.getElem?_eq_some_iff.1 hk).1).trans hk⟩
attribute [-go_sem] loadVar
set_option maxHeartbeats 1600000 in
set_option maxRecDepth 100000 in
theorem range_yes (t : Nat) (i j : Int) (w : World) : Calls Try.prog 46 #[.pointer (some ⟨t, 0, none⟩), .int .i64 i, .int .i64 j] w fun e w' => ∃ b0 b1 b2, e = .returned (.func (.func 60) #[] #[.pointer (some ⟨b0, 0, none⟩), .pointer (some ⟨b1, 0, none⟩), .pointer (some ⟨b2, 0, none⟩)]) ∧ w'.cell? ⟨b0, 0, none⟩ = some (.pointer (some ⟨t, 0, none⟩)) ∧ w'.cell? ⟨b1, 0, none⟩ = some (.int .i64 i) ∧ w'.cell? ⟨b2, 0, none⟩ = some (.int .i64 j) ∧ (b0 < w'.heap.size ∧ b1 < w'.heap.size ∧ b2 < w'.heap.size) ∧ w.heap.size ≤ b2 ∧ Below w.heap.size w w' := by
  go_enter Try.func46, Try.ntmps46
  go_wp2
  go_ret
  refine ⟨_, _, _, rfl, (by go_simp), (by go_simp), (by go_simp), ⟨(by simp <;> omega), (by simp <;> omega), (by simp <;> omega)⟩, (by omega), ?_⟩
  exact (((Below.refl w.heap.size w).alloc (Nat.le_refl _) _).alloc (by simp) _).alloc (by simp; omega) _
set_option maxRecDepth 100000 in
set_option maxHeartbeats 3200000 in
theorem range_tells0 (n : Nat) {w : World} {B t m : Nat} {ar gone : Int} (h : Rel w B t m (.slice none 0 0) [] ar gone) {b0 b1 b2 : Nat}
    (h0 : w.cell? ⟨b0, 0, none⟩ = some (.pointer (some ⟨t, 0, none⟩))) (h1 : w.cell? ⟨b1, 0, none⟩ = some (.int .i64 0)) (h2 : w.cell? ⟨b2, 0, none⟩ = some (.int .i64 0)) (hb : b0 < w.heap.size ∧ b1 < w.heap.size ∧ b2 < w.heap.size) (encs : Nat → Array Value) (Kp : World → World → Prop) :
    SeqTells Fence.wide n Try.prog 60 #[.pointer (some ⟨b0, 0, none⟩), .pointer (some ⟨b1, 0, none⟩), .pointer (some ⟨b2, 0, none⟩)] encs Kp 0 w := by
  intro l J Jx W hW _ _ hY hJ0
  have hR := h.keep hW
  have c0 := run_loadRelR ((hW.cell (p := ⟨b0, 0, none⟩) hb.1).trans h0)
  have c1 := run_loadInt ((hW.cell (p := ⟨b1, 0, none⟩) hb.2.1).trans h1)
  have c2 := run_loadInt ((hW.cell (p := ⟨b2, 0, none⟩) hb.2.2).trans h2)
  have HT := Lib.hid (there_yes hR)
  have HJ := Lib.hid hJ0
  have lr := run_loadRows (hR.rl.at (j := 0) rfl)
  clear h h0 h1 h2 hW hY hR hJ0
  refine callsIn_of_wp Try.func60 rfl trivial ?_ rfl
  simp only [Try.ntmps60, List.size_toArray, List.length_cons, List.length_nil, Nat.reduceAdd, Nat.reduceSub, Array.replicate_succ, Array.replicate_zero, List.push_toArray, List.append_toArray, List.nil_append, List.cons_append]
  gi_wp2_with fail
  refine ⟨trivial, fun h => (nomatch h), (callsIn_wide.2 HT.out).mono ?_⟩
  rintro e w1 ⟨rfl, rfl⟩
  gi_wp2
  gi_loopw [6] (fun i wr => i = .int .i64 0 ∧ wr = w1) (fun _ _ => 0)
  case atStart => exact ⟨rfl, rfl⟩
  case round =>
    obtain ⟨rfl, rfl⟩ := hrel
    gi_wp2
    go_end0
    exact ⟨⟨_, rfl⟩, .inl HJ.out⟩
/-- what a range over the rows from a number on tells -/
theorem range_seqX (n : Nat) {w w8 : World} {B t m : Nat} {sv : Value} {rows : List (List Int)} {ar gone : Int} (h : Rel w B t m sv rows ar gone) (hb : Below w.heap.size w w8) (hlen : rows.length ≤ 1000000000) {b0 b1 b2 : Nat} (lo : Nat) (hlo : lo ≤ rows.length)
    (h0 : w8.cell? ⟨b0, 0, none⟩ = some (.pointer (some ⟨t, 0, none⟩))) (h1 : w8.cell? ⟨b1, 0, none⟩ = some (.int .i64 (lo : Int))) (h2 : w8.cell? ⟨b2, 0, none⟩ = some (.int .i64 (rows.length : Int))) (hbs : b0 < w8.heap.size ∧ b1 < w8.heap.size ∧ b2 < w8.heap.size) :
    ∃ g, g < w.heap.size ∧ (g = t ∨ sv.ownBlock = some g) ∧ SeqTells Fence.wide n Try.prog 60 #[.pointer (some ⟨b0, 0, none⟩), .pointer (some ⟨b1, 0, none⟩), .pointer (some ⟨b2, 0, none⟩)] (rowsAt rows lo) (Keeps2 g b2) (rows.length - lo) w8 := by
  have hr := h.keep hb
  rcases h.own.2 with ⟨rfl, hz⟩ | ⟨g, cap, cur, rfl, _, hgb, _⟩
  · have : rows = [] := List.eq_nil_of_length_eq_zero hz
    subst this
    obtain rfl : lo = 0 := by simpa using hlo
    exact ⟨t, World.rowIs.lt h.rl, .inl rfl, range_tells0 n hr h0 h1 h2 hbs _ _⟩
  · exact ⟨g, (Array.getElem?_eq_some_iff.1 hgb).1, .inr rfl, range_tells n hr hlen lo hlo h0 h1 h2 hbs⟩
theorem own_isC {w : World} {B : Nat} {e : TypeId} {k : Nat} {v : Value} {n : Nat} {xs : List Value} (h : w.ownsRow B e k v n xs) {g : Nat} (hg : v.ownBlock = some g) : ∃ o : Obj, w.heap[g]? = some o ∧ o.isCells = true := by
  obtain ⟨_, ⟨e, h0⟩ | ⟨g', cap', cur, e, _, hgb', _⟩⟩ := h
  · rw [e] at hg; cases hg
  · rw [e] at hg
    have hgg : g' = g := by simpa [Value.ownBlock] using hg
    subst hgg
    exact ⟨_, hgb', rfl⟩
theorem Ix.isC {w : World} {B x b : Nat} {m : Int} {G : Grp} {vs : List Value} {seen : Nat} {gone : Int} (h : Ix w B x b m G vs seen gone) {v : Value} (hv : v ∈ vs) {g : Nat} (hg : v.ownBlock = some g) : ∃ o : Obj, w.heap[g]? = some o ∧ o.isCells = true := by
  obtain ⟨i, hi⟩ := List.getElem?_of_mem hv
  have hl : i < G.length := by rw [← h.len]; exact (List.getElem?_eq_some_iff.1 hi).1
  exact own_isC (h.own i _ _ v (List.getElem?_eq_getElem hl) hi) hg
theorem grpN_len {m : Int} {rows : List (List Int)} {j : Nat} {p : List Int × List Nat} (hp : p ∈ grpN m rows j) : p.2.length ≤ j := by
  obtain ⟨i, hi⟩ := List.getElem?_of_mem hp
  have h := ofK_yes (k := p.1) (l := p.2) (grpN_nodup m rows j) hi
  rw [grpN_of] at h
  rw [← h]
  have := List.length_filter_le (fun i => decide (underL m (rows.getD i []) = p.1)) (List.range j)
  simpa using this
/-- amid a renewing: j rows seen; U: the world ahead of the ranging, vs0: the lists there -/
structure Rn (U : World) (B x b : Nat) (m : Int) (rows : List (List Int)) (gone : Int) (vs0 : List Value) (j : Nat) (W : World) : Prop where
  ix : ∃ vs, Ix W B x b m (grpN m rows j) vs j gone ∧ ∀ v ∈ vs, ∀ g, v.ownBlock = some g → (∃ u ∈ vs0, u.ownBlock = some g) ∨ U.heap.size ≤ g
  tx : Tx (FX x b vs0) U W
theorem Rn.keep {U W W' : World} {B x b : Nat} {m : Int} {rows : List (List Int)} {gone : Int} {vs0 : List Value} {j : Nat} (h : Rn U B x b m rows gone vs0 j W) (hb : Below W.heap.size W W') : Rn U B x b m rows gone vs0 j W' := by
  obtain ⟨vs, hi, hn⟩ := h.ix
  exact ⟨⟨vs, hi.keep hb, hn⟩, h.tx.trans (ex' := FX x b vs0) (Tx.of_below hb) (fun _ _ e => e)⟩
/-- what lies high and is no cells may turn -/
theorem Rn.turn {U W W' : World} {B x b : Nat} {m : Int} {rows : List (List Int)} {gone : Int} {vs0 : List Value} {j : Nat} (h : Rn U B x b m rows gone vs0 j W) (hx : x < U.heap.size ∧ b < U.heap.size) (hB : Below U.heap.size W W') (hr : ∀ (r : Nat) (o : Obj), W.heap[r]? = some o → o.isCells = true → W'.heap[r]? = W.heap[r]?) : Rn U B x b m rows gone vs0 j W' := by
  obtain ⟨vs, hi, hn⟩ := h.ix
  refine ⟨⟨vs, hi.of_blocks (fun k hk => ?_), hn⟩, ⟨hB.os.trans h.tx.os, hB.tape.trans h.tx.tape, hB.output.trans h.tx.output, Nat.le_trans h.tx.size hB.size, fun k hk hne => (hB.block k hk).trans (h.tx.block k hk hne)⟩⟩
  rcases hk with rfl | rfl | ⟨v, hv, hgv⟩
  · exact hB.block _ hx.1
  · exact hB.block _ hx.2
  · obtain ⟨o, ho, hc⟩ := hi.isC hv hgv
    exact hr k o ho hc
theorem Rn.kept {U W W' : World} {B x b : Nat} {m : Int} {rows : List (List Int)} {gone : Int} {vs0 : List Value} {j : Nat} {row : Option Nat} (h : Rn U B x b m rows gone vs0 j W) (hx : x < U.heap.size ∧ b < U.heap.size) (hg : W.grownBy W' row) (hr : ∀ r, row = some r → U.heap.size ≤ r ∧ ∃ o : Obj, W.heap[r]? = some o ∧ o.isCells = false) : Rn U B x b m rows gone vs0 j W' := by
  refine h.turn hx ((Below.refl _ W).grown hg h.tx.size (fun k e => (hr k e).1)) (fun r o ho hc => hg.block r (Array.getElem?_eq_some_iff.1 ho).1 (fun e => ?_))
  obtain ⟨_, o', ho', hc'⟩ := hr r e.symm
  rw [ho] at ho'
  cases ho'
  rw [hc] at hc'
  cases hc'
theorem Rn.put {U W : World} {B x b : Nat} {m : Int} {rows : List (List Int)} {gone : Int} {vs0 : List Value} {j : Nat} (h : Rn U B x b m rows gone vs0 j W) (hx : x < U.heap.size ∧ b < U.heap.size) {D : Nat} (hD : U.heap.size ≤ D) {o o' : Obj} (hd : W.heap[D]? = some o) (hc0 : o.isCells = false) (hw0 : o.isWalk = false) : Rn U B x b m rows gone vs0 j (W.putObj D o') := by
  refine h.turn hx (belowK_b (w := U) (Nat.le_refl _) W D _ o' hD hd hc0 hw0) (fun r o1 ho hc => World.putObj_heap_other (fun e => ?_))
  subst e
  rw [hd] at ho
  cases ho
  rw [hc] at hc0
  cases hc0
/-- one row more -/
theorem take_rn {U W : World} {B x b : Nat} {m : Int} {rows : List (List Int)} {gone : Int} {vs0 : List Value} {j : Nat} (h : Rn U B x b m rows gone vs0 j W) (hx : x < U.heap.size ∧ b < U.heap.size) (hB : B ≤ U.heap.size) {yb : Nat} (hy : RowAt W yb (rows.getD j [])) (hok : RowOk (rows.getD j [])) (hj : j ≤ 1000000000) :
    Calls Try.prog 47 #[.pointer (some ⟨x, 0, none⟩), .pointer (some ⟨yb, 0, none⟩)] W fun e w' => (∃ u, e = .returned u) ∧ Rn U B x b m rows gone vs0 (j + 1) w' ∧ KeepsFrom U.heap.size W w' ∧ ∀ g, g < U.heap.size → ¬ FX x b vs0 g → w'.heap[g]? = W.heap[g]? := by
  obtain ⟨vs, hi, hn⟩ := h.ix
  refine (take_ix hi (Nat.le_trans hB h.tx.size) hy hok (fun p hp => Nat.le_trans (grpN_len hp) hj) hj).mono ?_
  rintro e w' ⟨he, vs', hi', ht, hw⟩
  have hfx : ∀ g, g < U.heap.size → FX x b vs g → FX x b vs0 g := fun g hg hf => by
    rcases hf with rfl | rfl | ⟨v, hv, hgv⟩
    · exact .inl rfl
    · exact .inr (.inl rfl)
    · rcases hn v hv g hgv with e | e
      · exact .inr (.inr e)
      · omega
  refine ⟨he, ⟨⟨vs', hi', fun v hv g hg => ?_⟩, h.tx.trans ht hfx⟩, ⟨ht.size, fun k o hk ho hc => ?_⟩, fun g hg hne => ht.block g (Nat.lt_of_lt_of_le hg h.tx.size) (fun e => hne (hfx g hg e))⟩
  · rcases hw v hv g hg with ⟨u, hu, hug⟩ | e
    · exact hn u hu g hug
    · exact .inr (Nat.le_trans h.tx.size e)
  · refine (ht.block k (Array.getElem?_eq_some_iff.1 ho).1 (fun e => ?_)).trans ho
    rcases e with rfl | rfl | ⟨v, hv, hgv⟩
    · omega
    · omega
    · obtain ⟨o', ho', hc'⟩ := hi.isC hv hgv
      rw [ho] at ho'
      cases ho'
      rw [hc] at hc'
      cases hc'
end Go.Proofs.Ytekjoccbbamehaa
