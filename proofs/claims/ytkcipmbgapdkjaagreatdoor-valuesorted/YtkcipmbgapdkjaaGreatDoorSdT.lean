import Derived.Test.YtkcipmbgapdkjaaGreatDoorSdA
import Derived.Test.YtkcipmbgapdkjaaGreatDoorAlive
namespace Go.Proofs.YtkcipmbgapdkjaaGreatDoor
open Go.RowKit Go.Maps
set_option linter.unusedVariables false
set_option linter.unusedSimpArgs false
attribute [local go_sem ↓] Go.wp_at_zero Go.wp_at_succ
attribute [-go_sem] loadVar storeVar Builtin.append_

structure Gs (w : World) : Prop where
  pw : PWt w
  tab : AR.Tab w
theorem Gs.below {w w' : World} (h : Gs w) (b : Below w.heap.size w w') : Gs w' := ⟨tab_below h.pw b, h.tab.below b⟩
theorem load_Str {u : World} {g o : Nat} {s : ByteArray} (h : u.cell? ⟨g, o, none⟩ = some (.string s)) : (loadVar 9 ⟨g, o, none⟩).run Tryz.prog u = .ok (.string s) u := by
  have hi : (Tryz.prog.info? 9).map (·.size) = some 1 := by kernel_rfl
  simp [loadVar, go_sem, h]
/-- what the second loop has laid -/
structure Tri (B : Nat) (xs : List XF) (vb vn vt : Value) (wr : World) : Prop where
  ob : wr.ownsRow B 29 2 vb xs.length (xs.flatMap XF.cells)
  on : wr.ownsRow B 29 2 vn xs.length ((xs.map XF.nm).flatMap XF.cells)
  ot : wr.ownsRow B 27 1 vt xs.length ((xs.map XF.tu).flatMap XF.tcells)
  bn : Dj vb vn
  bt : Dj vb vt
  nt : Dj vn vt
theorem Tri.below {B : Nat} {xs : List XF} {vb vn vt : Value} {wr wr' : World} (h : Tri B xs vb vn vt wr) (b : Below wr.heap.size wr wr') : Tri B xs vb vn vt wr' := ⟨own_below h.ob b, own_below h.on b, own_below h.ot b, h.bn, h.bt, h.nt⟩
theorem take_rev {l : List XF} {j i : Nat} (hij : i + j + 1 = l.length) : ∃ x, l[i]? = some x ∧ l.reverse.take (j + 1) = l.reverse.take j ++ [x] := by
  have hi : i < l.length := by omega
  refine ⟨l[i], List.getElem?_eq_getElem hi, ?_⟩
  have hj : j < l.reverse.length := by rw [List.length_reverse]; omega
  rw [List.take_add_one, List.getElem?_eq_getElem hj]
  have : l.reverse[j] = l[i] := by
    rw [List.getElem_reverse]
    congr 1
    omega
  rw [this]
  rfl
theorem Tri.push {B : Nat} {xs : List XF} {vb vn vt : Value} {u : World} (h : Tri B xs vb vn vt u) (hB : B ≤ u.heap.size) (x : XF) (hn : xs.length ≤ 100000) :
    ∃ ab cb W6 an cn W7 at' ct W8,
      (Builtin.append_ #[22, 22] 22 #[vb, .slice (some ⟨u.heap.size, 0, none⟩) 1 1]).run Tryz.prog (u.alloc (.cells #[.string x.pr, .slice x.a x.vs.length x.c] 29)) = .ok (.slice ab (xs.length + 1) cb) W6 ∧
      (Builtin.append_ #[22, 22] 22 #[vn, .slice (some ⟨W6.heap.size, 0, none⟩) 1 1]).run Tryz.prog (W6.alloc (.cells #[.string ⟨#[112]⟩, .slice x.a x.vs.length x.c] 29)) = .ok (.slice an (xs.length + 1) cn) W7 ∧
      (Builtin.append_ #[31, 31] 31 #[vt, .slice (some ⟨W7.heap.size, 0, none⟩) 1 1]).run Tryz.prog (W7.alloc (.cells #[.slice x.a x.vs.length x.c] 27)) = .ok (.slice at' (xs.length + 1) ct) W8 ∧
      Tri B (xs ++ [x]) (.slice ab (xs.length + 1) cb) (.slice an (xs.length + 1) cn) (.slice at' (xs.length + 1) ct) W8 ∧
      ∀ W : World, Below B W u → Below B W W6 ∧ Below B W W7 ∧ Below B W W8 := by
  obtain ⟨i0, hi0, hz0, hz1, hz2⟩ := info_partsS infoFs
  obtain ⟨j0, hj0, hy0, hy1, hy2⟩ := info_partsS infoTs
  have A1 := belowA (w := u) (.cells #[.string x.pr, .slice x.a x.vs.length x.c] 29)
  have t1 := h.below A1
  have s1 := A1.size
  obtain ⟨v6, W6, r6, o6, g6, _, l6⟩ := run_append_own_at (P := Tryz.prog) (u.alloc (.cells #[.string x.pr, .slice x.a x.vs.length x.c] 29)) B 22 22 29 i0 _ 2 40 Tryz.underlying22 hi0 hz0 hz1 hz2 rfl (by decide) _ _ _ t1.ob ⟨u.heap.size, 0, none⟩ 1 1 [.string x.pr, .slice x.a x.vs.length x.c] rfl (lit_news u #[.string x.pr, .slice x.a x.vs.length x.c] _) (by simp [Value.oneCell']) (by unfold maxLen; omega) (by omega) (by omega)
  obtain ⟨ab, cb, rfl, _⟩ := own_form o6
  have s6 := g6.size
  have on6 := own_grow t1.on g6 t1.bn.flip
  have ot6 := own_grow t1.ot g6 t1.bt.flip
  have bn6 := (dj_grow t1.on t1.bn.flip l6).flip
  have bt6 := (dj_grow t1.ot t1.bt.flip l6).flip
  have A2 := belowA (w := W6) (.cells #[.string ⟨#[112]⟩, .slice x.a x.vs.length x.c] 29)
  have ob7 := own_below o6 A2
  have on7 := own_below on6 A2
  have ot7 := own_below ot6 A2
  have s2 := A2.size
  obtain ⟨v7, W7, r7, o7, g7, _, l7⟩ := run_append_own_at (P := Tryz.prog) (W6.alloc (.cells #[.string ⟨#[112]⟩, .slice x.a x.vs.length x.c] 29)) B 22 22 29 i0 _ 2 40 Tryz.underlying22 hi0 hz0 hz1 hz2 rfl (by decide) _ _ _ on7 ⟨W6.heap.size, 0, none⟩ 1 1 [.string ⟨#[112]⟩, .slice x.a x.vs.length x.c] rfl (lit_news W6 #[.string ⟨#[112]⟩, .slice x.a x.vs.length x.c] _) (by simp [Value.oneCell']) (by unfold maxLen; omega) (by omega) (by omega)
  obtain ⟨an, cn, rfl, _⟩ := own_form o7
  have s7 := g7.size
  have ob8 := own_grow ob7 g7 bn6
  have ot8 := own_grow ot7 g7 t1.nt.flip
  have bn8 := dj_grow ob7 bn6 l7
  have nt8 := (dj_grow ot7 t1.nt.flip l7).flip
  have A3 := belowA (w := W7) (.cells #[.slice x.a x.vs.length x.c] 27)
  have ob9 := own_below ob8 A3
  have on9 := own_below o7 A3
  have ot9 := own_below ot8 A3
  have s3 := A3.size
  obtain ⟨v8, W8, r8, o8, g8, _, l8⟩ := run_append_own_at (P := Tryz.prog) (W7.alloc (.cells #[.slice x.a x.vs.length x.c] 27)) B 31 31 27 j0 _ 1 24 Tryz.underlying31 hj0 hy0 hy1 hy2 rfl (by decide) _ _ _ ot9 ⟨W7.heap.size, 0, none⟩ 1 1 [.slice x.a x.vs.length x.c] rfl (lit_news W7 #[.slice x.a x.vs.length x.c] _) (by simp [Value.oneCell']) (by unfold maxLen; omega) (by omega) (by omega)
  obtain ⟨at', ct, rfl, _⟩ := own_form o8
  have obA := own_grow ob9 g8 bt6
  have onA := own_grow on9 g8 nt8
  have btA := dj_grow ob9 bt6 l8
  have ntA := dj_grow on9 nt8 l8
  have hl1 : (xs ++ [x]).length = xs.length + 1 := by simp
  refine ⟨ab, cb, W6, an, cn, W7, at', ct, W8, r6, r7, r8, ⟨?_, ?_, ?_, bn8, btA, ntA⟩, fun W hW => ?_⟩
  · rw [hl1, List.flatMap_append]; exact obA
  · rw [hl1, List.map_append, List.flatMap_append]; exact onA
  · rw [hl1, List.map_append, List.flatMap_append]; exact o8
  · have b6 : Below B W W6 := (hW.trans (A1.mono hB)).grown g6 (by omega) (fun j hj => (t1.ob.lt j hj).1)
    have b7 : Below B W W7 := (b6.trans (A2.mono (by omega))).grown g7 (by omega) (fun j hj => (on7.lt j hj).1)
    have b8 : Below B W W8 := (b7.trans (A3.mono (by omega))).grown g8 (by omega) (fun j hj => (ot9.lt j hj).1)
    exact ⟨b6, b7, b8⟩
end Go.Proofs.YtkcipmbgapdkjaaGreatDoor
