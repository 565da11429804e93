import Derived.Test.YtfkggabdjcabcaaRelRange
import Derived.Test.YtfkggabdjcabcaaRelUnder
import Derived.Test.YtfkggabdjcabcaaRelEq
import Derived.Test.YtfkggabdjcabcaaRelNum
import Derived.RangeFuncBox
import Derived.RangeFuncWrites
namespace Go.Proofs.Ytfkggabdjcabcaa
open Go.RowKit Go.Maps Go.Shelf
set_option linter.unusedVariables false
set_option linter.unusedSimpArgs false
attribute [local go_sem ↓] Go.wp_at_zero Go.wp_at_succ
attribute [local go_sem] Oper.semAt_some

theorem run_loadMaskS {w : World} {a : Addr} {v : Value} (h : w.cell? a = some v) : (loadVar 24 a).run Try.prog w = .ok v w := by
  simp [loadVar, go_sem, h]
theorem run_loadIntsS {w : World} {a : Addr} {v : Value} (h : w.cell? a = some v) : (loadVar 35 a).run Try.prog w = .ok v w := by
  simp [loadVar, go_sem, h]
theorem bxB {w w' : World} {B : Nat} {t : TypeId} {v : Value} (h : Boxed w B t v) (hb : Below w.heap.size w w') : Boxed w' B t v := (hb.block B h.lt).trans h
theorem bxN {w : World} {B : Nat} (hB : B = w.heap.size) (t : TypeId) (v : Value) : Boxed (w.alloc (.cells #[v] t)) B t v := hB ▸ Boxed.new w t v
theorem RowAt.other {w : World} {b g i : Nat} {r : List Int} (h : RowAt w b r) (e : b ≠ g) (v : Value) : RowAt (w.setCell ⟨g, i, none⟩ v) b r := (heap_setCell_other _ _ _ _ (by exact e)).trans h
theorem KeepsFrom.below {B : Nat} {W W' : World} (h : Below W.heap.size W W') : KeepsFrom B W W' := ⟨h.size, fun k o _ hk _ => (h.block k (Array.getElem?_eq_some_iff.1 hk).1).trans hk⟩
attribute [-go_sem] loadVar
set_option maxHeartbeats 1600000 in
set_option maxRecDepth 100000 in
theorem range_yes (t : Nat) (i j : Int) (w : World) : Calls Try.prog 19 #[.pointer (some ⟨t, 0, none⟩), .int .i64 i, .int .i64 j] w fun e w' => ∃ b0 b1 b2, e = .returned (.func (.func 26) #[] #[.pointer (some ⟨b0, 0, none⟩), .pointer (some ⟨b1, 0, none⟩), .pointer (some ⟨b2, 0, none⟩)]) ∧ w'.cell? ⟨b0, 0, none⟩ = some (.pointer (some ⟨t, 0, none⟩)) ∧ w'.cell? ⟨b1, 0, none⟩ = some (.int .i64 i) ∧ w'.cell? ⟨b2, 0, none⟩ = some (.int .i64 j) ∧ (b0 < w'.heap.size ∧ b1 < w'.heap.size ∧ b2 < w'.heap.size) ∧ w.heap.size ≤ b2 ∧ Below w.heap.size w w' := by
  go_enter Try.func19, Try.ntmps19
  go_wp2
  go_ret
  refine ⟨_, _, _, rfl, (by go_simp), (by go_simp), (by go_simp), ⟨(by simp <;> omega), (by simp <;> omega), (by simp <;> omega)⟩, (by omega), ?_⟩
  exact (((Below.refl w.heap.size w).alloc (Nat.le_refl _) _).alloc (by simp) _).alloc (by simp; omega) _
set_option maxRecDepth 100000 in
set_option maxHeartbeats 3200000 in
theorem range_tells0 (n : Nat) {w : World} {B t m : Nat} {ar gone : Int} (h : Rel w B t m (.slice none 0 0) [] ar gone) {b0 b1 b2 : Nat}
    (h0 : w.cell? ⟨b0, 0, none⟩ = some (.pointer (some ⟨t, 0, none⟩))) (h1 : w.cell? ⟨b1, 0, none⟩ = some (.int .i64 0)) (h2 : w.cell? ⟨b2, 0, none⟩ = some (.int .i64 0)) (hb : b0 < w.heap.size ∧ b1 < w.heap.size ∧ b2 < w.heap.size) (encs : Nat → Array Value) (Kp : World → World → Prop) :
    SeqTells Fence.wide n Try.prog 26 #[.pointer (some ⟨b0, 0, none⟩), .pointer (some ⟨b1, 0, none⟩), .pointer (some ⟨b2, 0, none⟩)] encs Kp 0 w := by
  intro l J Jx W hW _ _ hY hJ0
  have hR := h.keep hW
  have c0 := run_loadRelR ((hW.cell (p := ⟨b0, 0, none⟩) hb.1).trans h0)
  have c1 := run_loadInt ((hW.cell (p := ⟨b1, 0, none⟩) hb.2.1).trans h1)
  have c2 := run_loadInt ((hW.cell (p := ⟨b2, 0, none⟩) hb.2.2).trans h2)
  have HT := Lib.hid (there_yes hR)
  have HJ := Lib.hid hJ0
  have lr := run_loadRows (hR.rl.at (j := 0) rfl)
  clear h h0 h1 h2 hW hY hR hJ0
  refine callsIn_of_wp Try.func26 rfl trivial ?_ rfl
  simp only [Try.ntmps26, List.size_toArray, List.length_cons, List.length_nil, Nat.reduceAdd, Nat.reduceSub, Array.replicate_succ, Array.replicate_zero, List.push_toArray, List.append_toArray, List.nil_append, List.cons_append]
  gi_wp2_with fail
  refine ⟨trivial, fun h => (nomatch h), (callsIn_wide.2 HT.out).mono ?_⟩
  rintro e w1 ⟨rfl, rfl⟩
  gi_wp2
  gi_loopw [6] (fun i wr => i = .int .i64 0 ∧ wr = w1) (fun _ _ => 0)
  case atStart => exact ⟨rfl, rfl⟩
  case round =>
    obtain ⟨rfl, rfl⟩ := hrel
    gi_wp2
    go_end0
    exact ⟨⟨_, rfl⟩, .inl HJ.out⟩
theorem infoInt : (Try.prog.info? 3).map (fun i => (i.zero, i.size, i.bytes)) = some (some (.int .i64 0), 1, 8) := by kernel_rfl
def intN (n : Nat) : Value := .int .i64 (n : Int)
/-- amid a Select: the mask, the key, the numbers so far; w8: ahead of the ranging -/
structure Sl (w w8 : World) (B0 kb ob b2 : Nat) (m2 : Int) (key : List Int) (L : List Nat) (W : World) : Prop where
  msk : Boxed W B0 24 (.int .u32 m2)
  ky : RowAt W kb key
  out : ∃ a c, Boxed W ob 35 (.slice a L.length c) ∧ W.ownsRow w8.heap.size 3 1 (.slice a L.length c) L.length (L.map intN)
  bel : Below w.heap.size w W
  box : W.heap[b2]? = w8.heap[b2]?
  sz : w8.heap.size ≤ W.heap.size
/-- what lies below stays -/
theorem Sl.keep {w w8 W W' : World} {B0 kb ob b2 : Nat} {m2 : Int} {key : List Int} {L : List Nat} (h : Sl w w8 B0 kb ob b2 m2 key L W) (hb : Below W.heap.size W W') (h2 : b2 < w8.heap.size) : Sl w w8 B0 kb ob b2 m2 key L W' := by
  obtain ⟨a, c, h1, h3⟩ := h.out
  exact ⟨bxB h.msk hb, h.ky.below hb, ⟨a, c, bxB h1 hb, own_below h3 hb⟩, h.bel.trans (hb.mono h.bel.size), (hb.block b2 (by have := h.sz; omega)).trans h.box, Nat.le_trans h.sz hb.size⟩
/-- what is no cells may turn -/
theorem Sl.kept {w w8 W W' : World} {B0 kb ob b2 : Nat} {m2 : Int} {key : List Int} {L : List Nat} {row : Option Nat} (h : Sl w w8 B0 kb ob b2 m2 key L W) (hw : w.heap.size ≤ w8.heap.size) (h2 : b2 < w8.heap.size) (hg : W.grownBy W' row) (hr : ∀ r, row = some r → w8.heap.size ≤ r ∧ ∃ o : Obj, W.heap[r]? = some o ∧ o.isCells = false) : Sl w w8 B0 kb ob b2 m2 key L W' := by
  obtain ⟨a, c, h1, h3⟩ := h.out
  have hne : ∀ {g : Nat} {cs : Array Value} {e : TypeId} {fr : Nat × Nat}, W.heap[g]? = some (.cells cs e fr) → some g ≠ row := fun hc e => by
    obtain ⟨_, o, ho, hcl⟩ := hr _ e.symm
    rw [hc] at ho
    cases ho
    simp [Obj.isCells] at hcl
  refine ⟨h.msk.kept hg (hne h.msk), (hg.block kb (RowAt.lt h.ky) (hne h.ky)).trans h.ky, ⟨a, c, h1.kept hg (hne h1), own_of_block h3 (fun g hgb => ?_)⟩, h.bel.grown hg h.bel.size (fun k e => Nat.le_trans hw (hr k e).1), (hg.block b2 (by have := h.sz; omega) (fun e => ?_)).trans h.box, Nat.le_trans h.sz hg.size⟩
  · refine hg.block g (h3.lt g hgb).2 ?_
    obtain ⟨_, ⟨e, h0⟩ | ⟨g', cap', cur, e, _, hgb', _⟩⟩ := h3
    · rw [e] at hgb; cases hgb
    · rw [e] at hgb
      have hgg : g' = g := by simpa [Value.ownBlock] using hgb
      subst hgg
      exact hne hgb'
  · have := (hr b2 e.symm).1
    omega
/-- one number more -/
theorem Sl.push {w w8 W : World} {B0 kb ob b2 : Nat} {m2 : Int} {key : List Int} {L : List Nat} (h : Sl w w8 B0 kb ob b2 m2 key L W) (hk : kb < w8.heap.size ∧ B0 < w8.heap.size ∧ ob < w8.heap.size ∧ b2 < w8.heap.size) (hne : kb ≠ ob ∧ B0 ≠ ob ∧ b2 ≠ ob) (hw : w.heap.size ≤ ob) (hl : L.length + 1 ≤ 1000000000) (i : Nat) (ty : TypeId) :
    ∃ a c a' c' w', Boxed W ob 35 (.slice a L.length c) ∧ (Builtin.append_ #[35, 35] ty #[.slice a L.length c, .slice (some ⟨W.heap.size, 0, none⟩) 1 1]).run Try.prog (W.alloc (.cells #[.int .i64 (i : Int)] 3)) = .ok (.slice a' (L.length + 1) c') w' ∧
      Boxed w' ob 35 (.slice a L.length c) ∧ Sl w w8 B0 kb ob b2 m2 key (L ++ [i]) (w'.setCell ⟨ob, 0, none⟩ (.slice a' (L.length + 1) c')) ∧ KeepsFrom w8.heap.size W (w'.setCell ⟨ob, 0, none⟩ (.slice a' (L.length + 1) c')) := by
  obtain ⟨a, c, h1, h3⟩ := h.out
  obtain ⟨i0, hi0, hz0, hz1, hz2⟩ := info_parts infoInt
  have ha := (Below.refl W.heap.size W).alloc (Nat.le_refl _) (.cells #[.int .i64 (i : Int)] 3)
  have h3' := own_below h3 ha
  obtain ⟨v', w', hrun, hown, hg, _, hloc⟩ := run_append_own_at (P := Try.prog) (W.alloc (.cells #[.int .i64 (i : Int)] 3)) w8.heap.size 35 ty 3 i0 _ 1 8 Try.underlying35 hi0 hz0 hz1 hz2 rfl (by decide) _ L.length (L.map intN) h3' ⟨W.heap.size, 0, none⟩ 1 1 [intN i] rfl (fun j u hu => by
    have := lit_news W #[.int .i64 (i : Int)] 3 j u (by simpa [intN] using hu)
    exact this) (fun u hu => by rw [List.mem_singleton.1 hu]; rfl) (by unfold maxLen; omega) (by omega) (Nat.le_trans h.sz ha.size)
  obtain ⟨a', c', rfl, _⟩ := own_form hown
  have hob : (Value.slice a L.length c).ownBlock ≠ some ob := fun e => by have := (h3.lt ob e).1; omega
  have hkk : ∀ g, g < w8.heap.size → some g ≠ (Value.slice a L.length c).ownBlock := fun g hg e => by have := (h3.lt g e.symm).1; omega
  have h1' := (bxB h1 ha).kept hg (hkk ob hk.2.2.1)
  have hszA : W.heap.size ≤ (W.alloc (.cells #[.int .i64 (i : Int)] 3)).heap.size := ha.size
  have blk : ∀ g, g < W.heap.size → g < w8.heap.size → g ≠ ob → (w'.setCell ⟨ob, 0, none⟩ (.slice a' (L.length + 1) c')).heap[g]? = W.heap[g]? := fun g hgW hg8 hgo => by
    rw [heap_setCell_other _ _ _ _ (by exact hgo), hg.block g (by omega) (hkk g hg8)]
    exact ha.block g hgW
  refine ⟨a, c, a', c', w', h1, hrun, h1', ⟨(blk B0 h.msk.lt hk.2.1 hne.2.1).trans h.msk, (blk kb (RowAt.lt h.ky) hk.1 hne.1).trans h.ky, ⟨a', c', by rw [List.length_append]; exact h1'.set _, ?_⟩, ?_, (blk b2 (by have := h.sz; omega) hk.2.2.2 hne.2.2).trans h.box, ?_⟩, ?_⟩
  · rw [List.length_append, List.map_append]
    refine own_of_block hown (fun g hgb => heap_setCell_other _ _ _ _ ?_)
    have := (hown.lt g hgb).1
    show g ≠ ob
    omega
  · exact ((h.bel.trans (ha.mono h.bel.size)).grown hg (Nat.le_trans h.bel.size hszA) (fun g hg' => by have := (h3.lt g hg').1; have := h.bel.size; omega)).setCell (p := ⟨ob, 0, none⟩) hw _
  · have := hg.size
    have := h.sz
    simp only [World.size_setCell]
    omega
  · refine ((KeepsFrom.below ha).trans ?_).trans ((KeepsOthers.setCell _ _ _).from _)
    refine (KeepsOthers.of_grownBy hg (fun j o hj ho => ?_)).from _
    obtain ⟨_, ⟨e, h0⟩ | ⟨g', cap', cur, e, _, hgb', _⟩⟩ := h3'
    · rw [e] at hj; cases hj
    · rw [e] at hj
      have hgg : g' = j := by simpa [Value.ownBlock] using hj
      subst hgg
      rw [hgb'] at ho
      cases ho
      rfl
end Go.Proofs.Ytfkggabdjcabcaa
