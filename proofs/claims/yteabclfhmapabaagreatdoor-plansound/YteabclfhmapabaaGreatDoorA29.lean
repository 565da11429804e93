import Derived.Test.YteabclfhmapabaaGreatDoorA28
import Derived.Deep.Upon
import Derived.OwnWalk
import Derived.Lib.Hide
import Derived.Test.YteabclfhmapabaaGreatDoorA14
import Derived.Test.YteabclfhmapabaaGreatDoorA26
import Derived.Test.YteabclfhmapabaaGreatDoorA5
import Derived.Test.YteabclfhmapabaaGreatDoorA4
import Derived.Deep.DeepCutAuto
import Derived.Test.YteabclfhmapabaaGreatDoorA12
import Derived.Test.YteabclfhmapabaaGreatDoorA8
section
namespace Go.Proofs.YteabclfhmapabaaGreatDoor
open Go.RowKit Go.Maps
set_option linter.unusedVariables false
set_option linter.unusedSimpArgs false
attribute [local go_sem ↓] Go.wp_at_zero Go.wp_at_succ

theorem infoCTerm : (Tryz.prog.info? 48).map (fun i => (i.zero, i.size, i.bytes)) = some (some (.agg #[.string ⟨#[]⟩, .int .i8 0, .int .i64 0, .string ⟨#[]⟩]), 4, 48) := by kernel_rfl
theorem nilCTerm (n c : Nat) (w : World) : (binOp .eql 39 (.slice none n c) (.slice none 0 0)).run Tryz.prog w = .ok (.bool true) w := by kernel_rfl
theorem nonCTerm (ad : Addr) (n c : Nat) (w : World) : (binOp .eql 39 (.slice (some ad) n c) (.slice none 0 0)).run Tryz.prog w = .ok (.bool false) w := by kernel_rfl
set_option maxHeartbeats 800000 in
set_option maxRecDepth 100000 in
theorem cloneTerm (v : Value) (n : Nat) (ys : List Value) (w : World) (hl : Ls w v n ys) (hly : ys.length = n * 4) (h1 : ∀ u ∈ ys, u.oneCell' = true) (hn : n ≤ 1048576) : Calls Tryz.prog 67 #[v] w fun e w' => ∃ sv, e = .returned sv ∧ w'.ownsRow w.heap.size 48 4 sv n ys ∧ Below w.heap.size w w' := by
  obtain ⟨i0, hi0, hz0, hz1, hz2⟩ := info_parts infoCTerm
  have HL := Lib.hid hl
  obtain ⟨_, a, c, rfl, hc1, hc2, hat⟩ := hl
  have H1 := Lib.hid h1
  clear h1
  cases a with
  | none =>
    have h0 : n = 0 := by
      by_cases h : n = 0
      · exact h
      · obtain ⟨g, off, e, _⟩ := hat (by omega)
        cases e
    subst h0
    obtain rfl : ys = [] := List.length_eq_zero_iff.1 (by rw [hly])
    have hne := nilCTerm 0 c w
    clear hat HL
    go_enter Tryz.func67, Tryz.ntmps67
    go_wp2
    go_ret
    exact ⟨_, rfl, World.ownsRow_nil _ _ _ _, Below.refl _ _⟩
  | some ad =>
    have hne := nonCTerm ad n c w
    have HAL : Hid (∀ o, Below w.heap.size w (w.alloc o)) := fun o => (Below.refl _ _).alloc (Nat.le_refl _) o
    clear hat
    go_enter Tryz.func67, Tryz.ntmps67
    go_wp2_with (at_builtin; refine wpList_appL rfl (.tmp 5) (.tmp 6) 39 48 rfl Tryz.underlying39 hi0 hz0 hz1 hz2 rfl (by decide) (b := w.heap.size) (v := .slice (some ⟨w.heap.size, 0, none⟩) 0 0) (n := 0) (xs := []) (a := some ad) (c := c) (m := n) (ys := ys) (by simp [Act.eval, Act.put]) (World.ownsRow_lit w #[] 0 (Nat.le_refl _) (by decide) rfl) (by simp [Act.eval, Act.put]) (HL.out.below (HAL.out _)) hly H1.out (by unfold maxLen; omega) (by omega) (by simp) ?_; intro v5 w5 own5 hg5 hl5; have bel5 : Below w.heap.size w w5 := (HAL.out _).grown hg5 (by simp) (fun j hj => by simp [Value.ownBlock] at hj; omega); rw [Nat.zero_add, List.nil_append] at own5)
    go_ret
    exact ⟨_, rfl, own5, bel5⟩
theorem infoCArg : (Tryz.prog.info? 125).map (fun i => (i.zero, i.size, i.bytes)) = some (some (.agg #[.int .i8 0, .string ⟨#[]⟩, .int .i8 0, .int .i64 0, .string ⟨#[]⟩]), 5, 56) := by kernel_rfl
theorem nilCArg (n c : Nat) (w : World) : (binOp .eql 22 (.slice none n c) (.slice none 0 0)).run Tryz.prog w = .ok (.bool true) w := by kernel_rfl
theorem nonCArg (ad : Addr) (n c : Nat) (w : World) : (binOp .eql 22 (.slice (some ad) n c) (.slice none 0 0)).run Tryz.prog w = .ok (.bool false) w := by kernel_rfl
set_option maxHeartbeats 800000 in
set_option maxRecDepth 100000 in
theorem cloneArg (v : Value) (n : Nat) (ys : List Value) (w : World) (hl : Ls w v n ys) (hly : ys.length = n * 5) (h1 : ∀ u ∈ ys, u.oneCell' = true) (hn : n ≤ 1048576) : Calls Tryz.prog 65 #[v] w fun e w' => ∃ sv, e = .returned sv ∧ w'.ownsRow w.heap.size 125 5 sv n ys ∧ Below w.heap.size w w' := by
  obtain ⟨i0, hi0, hz0, hz1, hz2⟩ := info_parts infoCArg
  have HL := Lib.hid hl
  obtain ⟨_, a, c, rfl, hc1, hc2, hat⟩ := hl
  have H1 := Lib.hid h1
  clear h1
  cases a with
  | none =>
    have h0 : n = 0 := by
      by_cases h : n = 0
      · exact h
      · obtain ⟨g, off, e, _⟩ := hat (by omega)
        cases e
    subst h0
    obtain rfl : ys = [] := List.length_eq_zero_iff.1 (by rw [hly])
    have hne := nilCArg 0 c w
    clear hat HL
    go_enter Tryz.func65, Tryz.ntmps65
    go_wp2
    go_ret
    exact ⟨_, rfl, World.ownsRow_nil _ _ _ _, Below.refl _ _⟩
  | some ad =>
    have hne := nonCArg ad n c w
    have HAL : Hid (∀ o, Below w.heap.size w (w.alloc o)) := fun o => (Below.refl _ _).alloc (Nat.le_refl _) o
    clear hat
    go_enter Tryz.func65, Tryz.ntmps65
    go_wp2_with (at_builtin; refine wpList_appL rfl (.tmp 5) (.tmp 6) 22 125 rfl Tryz.underlying22 hi0 hz0 hz1 hz2 rfl (by decide) (b := w.heap.size) (v := .slice (some ⟨w.heap.size, 0, none⟩) 0 0) (n := 0) (xs := []) (a := some ad) (c := c) (m := n) (ys := ys) (by simp [Act.eval, Act.put]) (World.ownsRow_lit w #[] 0 (Nat.le_refl _) (by decide) rfl) (by simp [Act.eval, Act.put]) (HL.out.below (HAL.out _)) hly H1.out (by unfold maxLen; omega) (by omega) (by simp) ?_; intro v5 w5 own5 hg5 hl5; have bel5 : Below w.heap.size w w5 := (HAL.out _).grown hg5 (by simp) (fun j hj => by simp [Value.ownBlock] at hj; omega); rw [Nat.zero_add, List.nil_append] at own5)
    go_ret
    exact ⟨_, rfl, own5, bel5⟩
theorem infoCExpr : (Tryz.prog.info? 51).map (fun i => (i.zero, i.size, i.bytes)) = some (some (.agg #[.int .i8 0, .string ⟨#[]⟩, .int .i8 0, .int .i64 0, .string ⟨#[]⟩, .slice none 0 0]), 6, 80) := by kernel_rfl
theorem nilCExpr (n c : Nat) (w : World) : (binOp .eql 49 (.slice none n c) (.slice none 0 0)).run Tryz.prog w = .ok (.bool true) w := by kernel_rfl
theorem nonCExpr (ad : Addr) (n c : Nat) (w : World) : (binOp .eql 49 (.slice (some ad) n c) (.slice none 0 0)).run Tryz.prog w = .ok (.bool false) w := by kernel_rfl
set_option maxHeartbeats 800000 in
set_option maxRecDepth 100000 in
theorem cloneExpr (v : Value) (n : Nat) (ys : List Value) (w : World) (hl : Ls w v n ys) (hly : ys.length = n * 6) (h1 : ∀ u ∈ ys, u.oneCell' = true) (hn : n ≤ 1048576) : Calls Tryz.prog 84 #[v] w fun e w' => ∃ sv, e = .returned sv ∧ w'.ownsRow w.heap.size 51 6 sv n ys ∧ Below w.heap.size w w' := by
  obtain ⟨i0, hi0, hz0, hz1, hz2⟩ := info_parts infoCExpr
  have HL := Lib.hid hl
  obtain ⟨_, a, c, rfl, hc1, hc2, hat⟩ := hl
  have H1 := Lib.hid h1
  clear h1
  cases a with
  | none =>
    have h0 : n = 0 := by
      by_cases h : n = 0
      · exact h
      · obtain ⟨g, off, e, _⟩ := hat (by omega)
        cases e
    subst h0
    obtain rfl : ys = [] := List.length_eq_zero_iff.1 (by rw [hly])
    have hne := nilCExpr 0 c w
    clear hat HL
    go_enter Tryz.func84, Tryz.ntmps84
    go_wp2
    go_ret
    exact ⟨_, rfl, World.ownsRow_nil _ _ _ _, Below.refl _ _⟩
  | some ad =>
    have hne := nonCExpr ad n c w
    have HAL : Hid (∀ o, Below w.heap.size w (w.alloc o)) := fun o => (Below.refl _ _).alloc (Nat.le_refl _) o
    clear hat
    go_enter Tryz.func84, Tryz.ntmps84
    go_wp2_with (at_builtin; refine wpList_appL rfl (.tmp 5) (.tmp 6) 49 51 rfl Tryz.underlying49 hi0 hz0 hz1 hz2 rfl (by decide) (b := w.heap.size) (v := .slice (some ⟨w.heap.size, 0, none⟩) 0 0) (n := 0) (xs := []) (a := some ad) (c := c) (m := n) (ys := ys) (by simp [Act.eval, Act.put]) (World.ownsRow_lit w #[] 0 (Nat.le_refl _) (by decide) rfl) (by simp [Act.eval, Act.put]) (HL.out.below (HAL.out _)) hly H1.out (by unfold maxLen; omega) (by omega) (by simp) ?_; intro v5 w5 own5 hg5 hl5; have bel5 : Below w.heap.size w w5 := (HAL.out _).grown hg5 (by simp) (fun j hj => by simp [Value.ownBlock] at hj; omega); rw [Nat.zero_add, List.nil_append] at own5)
    go_ret
    exact ⟨_, rfl, own5, bel5⟩
theorem infoCLiteral : (Tryz.prog.info? 53).map (fun i => (i.zero, i.size, i.bytes)) = some (some (.agg #[.int .i8 0, .string ⟨#[]⟩, .slice none 0 0, .int .i8 0, .int .i8 0, .string ⟨#[]⟩, .int .i8 0, .int .i64 0, .string ⟨#[]⟩, .slice none 0 0, .int .i8 0, .string ⟨#[]⟩, .int .i8 0, .int .i64 0, .string ⟨#[]⟩, .slice none 0 0]), 16, 216) := by kernel_rfl
theorem nilCLiteral (n c : Nat) (w : World) : (binOp .eql 23 (.slice none n c) (.slice none 0 0)).run Tryz.prog w = .ok (.bool true) w := by kernel_rfl
theorem nonCLiteral (ad : Addr) (n c : Nat) (w : World) : (binOp .eql 23 (.slice (some ad) n c) (.slice none 0 0)).run Tryz.prog w = .ok (.bool false) w := by kernel_rfl
set_option maxHeartbeats 800000 in
set_option maxRecDepth 100000 in
theorem cloneLiteral (v : Value) (n : Nat) (ys : List Value) (w : World) (hl : Ls w v n ys) (hly : ys.length = n * 16) (h1 : ∀ u ∈ ys, u.oneCell' = true) (hn : n ≤ 1048576) : Calls Tryz.prog 66 #[v] w fun e w' => ∃ sv, e = .returned sv ∧ w'.ownsRow w.heap.size 53 16 sv n ys ∧ Below w.heap.size w w' := by
  obtain ⟨i0, hi0, hz0, hz1, hz2⟩ := info_parts infoCLiteral
  have HL := Lib.hid hl
  obtain ⟨_, a, c, rfl, hc1, hc2, hat⟩ := hl
  have H1 := Lib.hid h1
  clear h1
  cases a with
  | none =>
    have h0 : n = 0 := by
      by_cases h : n = 0
      · exact h
      · obtain ⟨g, off, e, _⟩ := hat (by omega)
        cases e
    subst h0
    obtain rfl : ys = [] := List.length_eq_zero_iff.1 (by rw [hly])
    have hne := nilCLiteral 0 c w
    clear hat HL
    go_enter Tryz.func66, Tryz.ntmps66
    go_wp2
    go_ret
    exact ⟨_, rfl, World.ownsRow_nil _ _ _ _, Below.refl _ _⟩
  | some ad =>
    have hne := nonCLiteral ad n c w
    have HAL : Hid (∀ o, Below w.heap.size w (w.alloc o)) := fun o => (Below.refl _ _).alloc (Nat.le_refl _) o
    clear hat
    go_enter Tryz.func66, Tryz.ntmps66
    go_wp2_with (at_builtin; refine wpList_appL rfl (.tmp 5) (.tmp 6) 23 53 rfl Tryz.underlying23 hi0 hz0 hz1 hz2 rfl (by decide) (b := w.heap.size) (v := .slice (some ⟨w.heap.size, 0, none⟩) 0 0) (n := 0) (xs := []) (a := some ad) (c := c) (m := n) (ys := ys) (by simp [Act.eval, Act.put]) (World.ownsRow_lit w #[] 0 (Nat.le_refl _) (by decide) rfl) (by simp [Act.eval, Act.put]) (HL.out.below (HAL.out _)) hly H1.out (by unfold maxLen; omega) (by omega) (by simp) ?_; intro v5 w5 own5 hg5 hl5; have bel5 : Below w.heap.size w w5 := (HAL.out _).grown hg5 (by simp) (fun j hj => by simp [Value.ownBlock] at hj; omega); rw [Nat.zero_add, List.nil_append] at own5)
    go_ret
    exact ⟨_, rfl, own5, bel5⟩
end Go.Proofs.YteabclfhmapabaaGreatDoor
end
section
namespace Go.Proofs.YteabclfhmapabaaGreatDoor
open Go.RowKit Go.Maps
set_option linter.unusedVariables false
set_option linter.unusedSimpArgs false

/-- a row of one's own: its block, its cells, none frozen -/
theorem own_parts {w : World} {B : Nat} {e : TypeId} {k : Nat} {sv : Value} {n : Nat} {xs : List Value} (h : w.ownsRow B e k sv n xs) : ∃ a c, sv = .slice a n c ∧ n ≤ c ∧ c ≤ maxLen ∧ (n = 0 ∧ a = none ∨ ∃ g, a = some ⟨g, 0, none⟩ ∧ B ≤ g ∧ g < w.heap.size ∧ (∀ j, w.frozen? ⟨g, j, none⟩ = false) ∧ ∀ j u, xs[j]? = some u → w.cell? ⟨g, j, none⟩ = some u) := by
  have h' := h
  obtain ⟨hl, ⟨rfl, rfl⟩ | ⟨g, cap, cur, rfl, h0, hb, hn, hc, hs, ht⟩⟩ := h
  · exact ⟨none, 0, rfl, Nat.le_refl _, Nat.zero_le _, .inl ⟨rfl, rfl⟩⟩
  · refine ⟨_, cap, rfl, hn, hc, .inr ⟨g, rfl, h0, (Array.getElem?_eq_some_iff.1 hb).1, fun j => ?_, fun j u hu => ?_⟩⟩
    · unfold World.frozen?
      simp only [hb]
      simp
    · have := h'.cells (g := g) rfl j u hu
      rw [show (⟨g, 0, none⟩ : Addr).add j = ⟨g, j, none⟩ by cases j <;> simp [Addr.add]] at this
      exact this
/-- a clone of terms, as a list in a block of its own -/
theorem tb_own {w : World} {B : Nat} {sv : Value} {ts : List T} (h : w.ownsRow B 48 4 sv ts.length (ts.flatMap T.cells)) (hw : ∀ t ∈ ts, t.wf) : ∃ a c bl, sv = .slice a ts.length c ∧ TB w ts a c bl ∧ (∀ b ∈ bl, B ≤ b) ∧ bl.Nodup := by
  obtain ⟨a, c, rfl, hc1, hc2, h0 | ⟨g, rfl, hB, hg, hf, hx⟩⟩ := own_parts h
  · exact ⟨a, c, [], rfl, ⟨hc1, hc2, hw, .inl ⟨List.length_eq_zero_iff.1 h0.1, rfl⟩⟩, (fun b hb => by cases hb), List.nodup_nil⟩
  · refine ⟨_, c, [g], rfl, ⟨hc1, hc2, hw, .inr ⟨g, rfl, hg, rfl, hf, fun i hi => ?_⟩⟩, fun b hb => by rw [List.mem_singleton.1 hb]; exact hB, by simp⟩
    have hc : ∀ j v, j < 4 → (T.cells (atT ts i))[j]? = some v → w.cell? ⟨g, i * 4 + j, none⟩ = some v := fun j v hj hv => hx _ _ (by rw [flat_at T.cells 4 (fun _ => rfl) T0 ts i j hi hj]; exact hv)
    exact ⟨hc 0 _ (by omega) rfl, hc 1 _ (by omega) rfl, hc 2 _ (by omega) rfl, hc 3 _ (by omega) rfl⟩
/-- a clone of arguments, as a list in a block of its own -/
theorem ab_own {w : World} {B : Nat} {sv : Value} {hd : List A5} (h : w.ownsRow B 125 5 sv hd.length (hd.flatMap A5.cells)) (hw : ∀ t ∈ hd, t.wf) : ∃ a c bl, sv = .slice a hd.length c ∧ AB w hd a c bl ∧ (∀ b ∈ bl, B ≤ b) ∧ bl.Nodup := by
  obtain ⟨a, c, rfl, hc1, hc2, h0 | ⟨g, rfl, hB, hg, hf, hx⟩⟩ := own_parts h
  · exact ⟨a, c, [], rfl, ⟨hc1, hc2, hw, .inl ⟨List.length_eq_zero_iff.1 h0.1, rfl⟩⟩, (fun b hb => by cases hb), List.nodup_nil⟩
  · refine ⟨_, c, [g], rfl, ⟨hc1, hc2, hw, .inr ⟨g, rfl, hg, rfl, hf, fun i hi => ?_⟩⟩, fun b hb => by rw [List.mem_singleton.1 hb]; exact hB, by simp⟩
    have hc : ∀ j v, j < 5 → (A5.cells (atA hd i))[j]? = some v → w.cell? ⟨g, i * 5 + j, none⟩ = some v := fun j v hj hv => hx _ _ (by rw [flat_at A5.cells 5 (fun _ => rfl) A50 hd i j hi hj]; exact hv)
    exact ⟨hc 0 _ (by omega) rfl, ⟨hc 1 _ (by omega) rfl, hc 2 _ (by omega) rfl, hc 3 _ (by omega) rfl, hc 4 _ (by omega) rfl⟩⟩
/-- an expression's kids, as a list in memory -/
theorem lx_kids {w : World} {d : Nat} {e : E} {a : Option Addr} {c : Nat} (h : EIs w (d + 1) e a c) : ∃ xs : List X, xs.map X.e = e.kids ∧ Lx w (.slice a e.kids.length c) d xs := by
  obtain ⟨⟨hop, hkl⟩, htw, hc1, hc2, hk⟩ := h
  by_cases h0 : 0 < e.kids.length
  · obtain ⟨g, off, rfl, hg, hx⟩ := hk h0
    have key : ∀ m, m ≤ e.kids.length → ∃ xs : List X, xs.map X.e = e.kids.take m ∧ (∀ i, i < m → XAt w g (off + i * 6) (atX xs i).e.op (atX xs i).e.t (.slice (atX xs i).a (atX xs i).e.kids.length (atX xs i).c)) ∧ ∀ x ∈ xs, EIs w d x.e x.a x.c := by
      intro m
      induction m with
      | zero => intro _; exact ⟨[], by simp, fun i hi => absurd hi (by omega), fun x hx => by cases hx⟩
      | succ m ih =>
        intro hm
        obtain ⟨xs, e1, e2, e3⟩ := ih (by omega)
        obtain ⟨a', c', y1, y2⟩ := hx m (by omega)
        have hl : xs.length = m := by
          have := congrArg List.length e1
          rw [List.length_map, List.length_take] at this
          omega
        refine ⟨xs ++ [⟨atE e.kids m, a', c'⟩], ?_, fun i hi => ?_, fun x hx => ?_⟩
        · rw [List.map_append, e1, List.take_add_one, List.getElem?_eq_getElem (by omega), atE_eq (by omega)]
          rfl
        · by_cases ei : i = m
          · subst ei
            have : atX (xs ++ [(⟨atE e.kids i, a', c'⟩ : X)]) i = ⟨atE e.kids i, a', c'⟩ := by unfold atX; rw [List.getD_eq_getElem?_getD, List.getElem?_append_right (by omega), hl]; simp
            rw [this]
            exact y1
          · have : atX (xs ++ [(⟨atE e.kids m, a', c'⟩ : X)]) i = atX xs i := by unfold atX; rw [List.getD_eq_getElem?_getD, List.getD_eq_getElem?_getD, List.getElem?_append_left (by omega)]
            rw [this]
            exact e2 i (by omega)
        · rcases List.mem_append.1 hx with hx | hx
          · exact e3 x hx
          · rw [List.mem_singleton.1 hx]; exact y2
    obtain ⟨xs, e1, e2, e3⟩ := key _ (Nat.le_refl _)
    rw [List.take_length] at e1
    have hl : xs.length = e.kids.length := by rw [← e1, List.length_map]
    refine ⟨xs, e1, ⟨?_, e3⟩⟩
    rw [← hl]
    refine ⟨by rw [hl]; exact Nat.le_trans hc1 hc2, _, c, rfl, by rw [hl]; exact hc1, hc2, fun _ => ⟨g, off, rfl, hg, fun i hi => ?_⟩⟩
    have hlen := flatX_len xs
    have hi6 : i / 6 < xs.length := by omega
    have hx6 := flat_at X.cells 6 (fun _ => rfl) X0 xs (i / 6) (i % 6) hi6 (by omega)
    rw [show i / 6 * 6 + i % 6 = i by omega, List.getElem?_eq_getElem hi] at hx6
    have hq := e2 (i / 6) (by omega)
    have hgoal : ∀ j v, j < 6 → (X.cells (atX xs (i / 6)))[j]? = some v → w.cell? ⟨g, off + (i / 6 * 6 + j), none⟩ = some v := fun j v hj hv => by
      rw [← Nat.add_assoc]
      obtain rfl | rfl | rfl | rfl | rfl | rfl : j = 0 ∨ j = 1 ∨ j = 2 ∨ j = 3 ∨ j = 4 ∨ j = 5 := by omega
      · simp [X.cells] at hv; subst hv; exact hq.c0
      · simp [X.cells] at hv; subst hv; exact hq.c1
      · simp [X.cells] at hv; subst hv; exact hq.c2
      · simp [X.cells] at hv; subst hv; exact hq.c3
      · simp [X.cells] at hv; subst hv; exact hq.c4
      · simp [X.cells] at hv; subst hv; exact hq.c5
    have := hgoal (i % 6) _ (by omega) hx6.symm
    rw [show i / 6 * 6 + i % 6 = i by omega] at this
    exact this
  · have e0 : e.kids = [] := List.length_eq_zero_iff.1 (by omega)
    refine ⟨[], by rw [e0]; rfl, ⟨?_, fun x hx => by cases hx⟩⟩
    rw [e0]
    exact ⟨Nat.zero_le _, a, c, rfl, Nat.zero_le _, hc2, fun h => absurd h (by simp)⟩
end Go.Proofs.YteabclfhmapabaaGreatDoor
end
section
namespace Go.Proofs.YteabclfhmapabaaGreatDoor
open Go.RowKit Go.Maps
set_option linter.unusedVariables false
set_option linter.unusedSimpArgs false
attribute [local go_sem ↓] Go.wp_at_zero Go.wp_at_succ

theorem tcells_one (ts : List T) : ∀ u ∈ ts.flatMap T.cells, u.oneCell' = true := by
  intro u hu
  rw [List.mem_flatMap] at hu
  obtain ⟨t, _, ht⟩ := hu
  simp [T.cells] at ht
  rcases ht with rfl | rfl | rfl | rfl <;> rfl
end Go.Proofs.YteabclfhmapabaaGreatDoor
end
section
namespace Go.Proofs.YteabclfhmapabaaGreatDoor
open Go.RowKit Go.Maps
set_option linter.unusedVariables false
set_option linter.unusedSimpArgs false
attribute [local go_sem ↓] Go.wp_at_zero Go.wp_at_succ

/-- what Apply keeps: the atom's box, the result, the atom that grows, its terms in a row -/
structure ArS (w : World) (pr : ByteArray) (av : Value) (us : List T) (a' : Option Addr) (c' : Nat) (wr : World) : Prop where
  bel : Below w.heap.size w wr
  bz : w.heap.size + 3 ≤ wr.heap.size
  r0 : RL wr w.heap.size 41 [.string pr, av]
  r1 : RL wr (w.heap.size + 1) 41 [.string ⟨#[]⟩, .slice none 0 0]
  r2 : RL wr (w.heap.size + 2) 41 [.string pr, .slice a' us.length c']
  own : wr.ownsRow (w.heap.size + 3) 48 4 (.slice a' us.length c') us.length (us.flatMap T.cells)
theorem ArS.keep {w : World} {pr : ByteArray} {av : Value} {us : List T} {a' : Option Addr} {c' : Nat} {wr wr' : World} (h : ArS w pr av us a' c' wr) (hb : Below wr.heap.size wr wr') : ArS w pr av us a' c' wr' :=
  ⟨h.bel.trans (hb.mono h.bel.size), Nat.le_trans h.bz hb.size, h.r0.below hb, h.r1.below hb, h.r2.below hb, own_below h.own hb⟩
/-- one term more -/
theorem ArS.step {w : World} {pr : ByteArray} {av : Value} {us : List T} {a' : Option Addr} {c' : Nat} {U w3 : World} (h : ArS w pr av us a' c' U) (t : T) {v' : Value}
    (hown' : w3.ownsRow (w.heap.size + 3) 48 4 v' (us.length + 1) (us.flatMap T.cells ++ T.cells t)) (hgrow : U.grownBy w3 (Value.slice a' us.length c').ownBlock) :
    ∃ a2 c2, v' = .slice a2 (us.length + 1) c2 ∧ ArS w pr av (us ++ [t]) a2 c2 (w3.setCell ⟨w.heap.size + 2, 1, none⟩ (.slice a2 (us.length + 1) c2)) ∧ w3.cell? ⟨w.heap.size + 2, 1, none⟩ = some (.slice a' us.length c') ∧ w3.frozen? ⟨w.heap.size + 2, 1, none⟩ = false := by
  obtain ⟨a2, c2, rfl, _⟩ := own_form hown'
  have hlt := fun g (hg : (Value.slice a' us.length c').ownBlock = some g) => (h.own.lt g hg).1
  have hs3 := hgrow.size
  have hz := h.bz
  have kl : ∀ j, j < w.heap.size + 3 → w3.heap[j]? = U.heap[j]? := fun j hj => hgrow.block j (by omega) (fun e => by have := hlt j e.symm; omega)
  have q0 : RL w3 w.heap.size 41 [.string pr, av] := World.rowIs.of_block h.r0 (kl _ (by omega))
  have q1 : RL w3 (w.heap.size + 1) 41 [.string ⟨#[]⟩, .slice none 0 0] := World.rowIs.of_block h.r1 (kl _ (by omega))
  have q2 : RL w3 (w.heap.size + 2) 41 [.string pr, .slice a' us.length c'] := World.rowIs.of_block h.r2 (kl _ (by omega))
  have hl1 : (us ++ [t]).length = us.length + 1 := by simp
  refine ⟨a2, c2, rfl, ⟨?_, by simp only [World.size_setCell]; omega, q0.other (by omega) _, q1.other (by omega) _, ?_, ?_⟩, q2.at (j := 1) rfl, World.rowIs.frozen q2 1⟩
  · refine Below.setCell (p := ⟨w.heap.size + 2, 1, none⟩) ?_ (by show _ ≤ w.heap.size + 2; omega) _
    exact h.bel.grown hgrow h.bel.size (fun j hj => by have := hlt j hj; omega)
  · rw [hl1]; exact q2.set 1 _
  · rw [hl1, List.flatMap_append]
    refine own_of_block (sv := .slice a2 (us.length + 1) c2) ?_ (fun g hg => heap_setCell_other _ _ _ _ (by have := (hown'.lt g hg).1; show g ≠ w.heap.size + 2; omega))
    simpa using hown'
end Go.Proofs.YteabclfhmapabaaGreatDoor
end
section
namespace Go.Proofs.YteabclfhmapabaaGreatDoor
open Go.RowKit Go.Maps
set_option linter.unusedVariables false
set_option linter.unusedSimpArgs false
attribute [local go_sem ↓] Go.wp_at_zero Go.wp_at_succ

theorem EB.nodup {w : World} : ∀ {d : Nat} {e : E} {a : Option Addr} {c : Nat} {bl : List Nat}, EB w d e a c bl → bl.Nodup
  | 0, _, _, _, _, h => h.elim
  | d + 1, e, a, c, bl, h => by
    obtain ⟨h1, h2, h3, h4, h5⟩ := h
    rcases h5 with ⟨_, h5⟩ | ⟨g, bls, ha, hg, hbl, hl, hnd, hf, hx⟩
    · rw [h5]; exact List.nodup_nil
    · exact hnd
theorem xcells_one (xs : List X) : ∀ u ∈ xs.flatMap X.cells, u.oneCell' = true := by
  intro u hu
  rw [List.mem_flatMap] at hu
  obtain ⟨t, _, ht⟩ := hu
  simp [X.cells] at ht
  rcases ht with rfl | rfl | rfl | rfl | rfl | rfl <;> rfl
def put6 (w : World) (g o : Nat) (x : X) : World := (((((w.setCell ⟨g, o, none⟩ (.int .i8 x.e.op)).setCell ⟨g, o + 1, none⟩ (.string x.e.t.v)).setCell ⟨g, o + 2, none⟩ (.int .i8 x.e.t.a.k)).setCell ⟨g, o + 3, none⟩ (.int .i64 x.e.t.a.n)).setCell ⟨g, o + 4, none⟩ (.string x.e.t.a.s)).setCell ⟨g, o + 5, none⟩ (.slice x.a x.e.kids.length x.c)
theorem put6_cells (w : World) (g o : Nat) (x : X) : put6 w g o x = w.setCells g o x.cells := rfl
theorem put6_other (w : World) (g o : Nat) (x : X) {b : Nat} (h : b ≠ g) : (put6 w g o x).heap[b]? = w.heap[b]? := by
  unfold put6
  rw [heap_setCell_other _ _ _ _ h, heap_setCell_other _ _ _ _ h, heap_setCell_other _ _ _ _ h, heap_setCell_other _ _ _ _ h, heap_setCell_other _ _ _ _ h, heap_setCell_other _ _ _ _ h]
theorem put6_size (w : World) (g o : Nat) (x : X) : (put6 w g o x).heap.size = w.heap.size := by unfold put6; simp only [World.size_setCell]
theorem set6 (u : X) : ∀ (vs : List X) (j : Nat), j < vs.length → ((((((vs.flatMap X.cells).set (j * 6) (.int .i8 u.e.op)).set (j * 6 + 1) (.string u.e.t.v)).set (j * 6 + 2) (.int .i8 u.e.t.a.k)).set (j * 6 + 3) (.int .i64 u.e.t.a.n)).set (j * 6 + 4) (.string u.e.t.a.s)).set (j * 6 + 5) (.slice u.a u.e.kids.length u.c) = (vs.set j u).flatMap X.cells
  | [], j, h => absurd h (by simp)
  | t :: r, 0, h => by simp [X.cells]
  | t :: r, j + 1, h => by
    have e : ∀ i, (j + 1) * 6 + i = j * 6 + i + 6 := fun i => by omega
    have e0 : (j + 1) * 6 = j * 6 + 6 := by omega
    simp only [List.flatMap_cons, List.set_cons_succ, e, e0, X.cells, List.cons_append, List.nil_append]
    have := set6 u r j (by simpa using h)
    rw [← this]
theorem own_set6 {w : World} {B g n cap : Nat} {xs : List X} {j : Nat} (u : X) (hj : j < xs.length) (h : w.ownsRow B 51 6 (.slice (some ⟨g, 0, none⟩) n cap) n (xs.flatMap X.cells)) : (put6 w g (j * 6) u).ownsRow B 51 6 (.slice (some ⟨g, 0, none⟩) n cap) n ((xs.set j u).flatMap X.cells) := by
  have hl := flatX_len xs
  rw [← set6 u xs j hj]
  have o1 := (h.stored (j * 6) (.int .i8 u.e.op)).1
  have o2 := (o1.stored (j * 6 + 1) (.string u.e.t.v)).1
  have o3 := (o2.stored (j * 6 + 2) (.int .i8 u.e.t.a.k)).1
  have o4 := (o3.stored (j * 6 + 3) (.int .i64 u.e.t.a.n)).1
  have o5 := (o4.stored (j * 6 + 4) (.string u.e.t.a.s)).1
  exact (o5.stored (j * 6 + 5) (.slice u.a u.e.kids.length u.c)).1
theorem atX_set {l : List X} {i k : Nat} {x : X} (hk : k < l.length) : atX (l.set k x) i = if i = k then x else atX l i := by
  unfold atX
  rw [List.getD_eq_getElem?_getD, List.getD_eq_getElem?_getD, List.getElem?_set]
  by_cases e : k = i
  · subst e; simp [hk]
  · rw [if_neg e, if_neg (fun q => e q.symm)]
/-- what cloneExpr keeps -/
structure CeS (w : World) (R : List Value) (d : Nat) (ks : List E) (g c : Nat) (bls : List (List Nat)) (xs : List X) (k : Nat) (wr : World) : Prop where
  bel : Below w.heap.size w wr
  bz : w.heap.size + 2 ≤ wr.heap.size
  r0 : RL wr w.heap.size 51 (R ++ [.slice (some ⟨g, 0, none⟩) ks.length c])
  r1 : RL wr (w.heap.size + 1) 51 [.int .i8 0, .string ⟨#[]⟩, .int .i8 0, .int .i64 0, .string ⟨#[]⟩, .slice none 0 0]
  own : wr.ownsRow (w.heap.size + 2) 51 6 (.slice (some ⟨g, 0, none⟩) ks.length c) ks.length (xs.flatMap X.cells)
  es : xs.map X.e = ks
  bl : bls.length = k
  lo : ∀ b ∈ bls.flatten, w.heap.size + 2 ≤ b
  nd : (g :: bls.flatten).Nodup
  done : ∀ i, i < ks.length → i < k → EB wr d (atX xs i).e (atX xs i).a (atX xs i).c (bls.getD i [])
  rest : ∀ i, i < ks.length → k ≤ i → EIs w d (atX xs i).e (atX xs i).a (atX xs i).c
theorem CeS.step {w : World} {R : List Value} {d : Nat} {ks : List E} {g c : Nat} {bls : List (List Nat)} {xs : List X} {k : Nat} {wr w2 : World} (h : CeS w R d ks g c bls xs k wr) (hk : k < ks.length) (b2 : Below wr.heap.size wr w2) {a' : Option Addr} {c' : Nat} {bl' : List Nat} (hE : EB w2 d (atX xs k).e a' c' bl') (hlo : ∀ b ∈ bl', wr.heap.size ≤ b) :
    CeS w R d ks g c (bls ++ [bl']) (xs.set k ⟨(atX xs k).e, a', c'⟩) (k + 1) (put6 w2 g (k * 6) ⟨(atX xs k).e, a', c'⟩) := by
  have hxl : xs.length = ks.length := by rw [← h.es, List.length_map]
  have hgl := h.own.lt g rfl
  have hfl : (bls ++ [bl']).flatten = bls.flatten ++ bl' := by simp
  have hbs := h.bl
  have hdl : ∀ b ∈ bls.flatten, b < wr.heap.size := fun b hb => by
    obtain ⟨l, hl1, hl2⟩ := List.mem_flatten.1 hb
    obtain ⟨i, hi, rfl⟩ := List.mem_iff_getElem.1 hl1
    exact (h.done i (by omega) (by omega)).lt b (by rw [List.getD_eq_getElem?_getD, List.getElem?_eq_getElem hi]; exact hl2)
  have hgn := List.nodup_cons.1 h.nd
  have ob := h.bz
  refine ⟨?_, by rw [put6_size]; have := b2.size; omega, ?_, ?_, own_set6 _ (by omega) (own_below h.own b2), ?_, by simp [hbs], ?_, ?_, fun i hi hik => ?_, fun i hi hik => ?_⟩
  · rw [put6_cells]
    exact below_setCells (by omega) _ _ _ (h.bel.trans (b2.mono h.bel.size))
  · exact World.rowIs.of_block (h.r0.below b2) (put6_other _ _ _ _ (by omega))
  · exact World.rowIs.of_block (h.r1.below b2) (put6_other _ _ _ _ (by omega))
  · rw [List.map_set, h.es]
    have : (atX xs k).e = ks[k] := by
      have e1 : (xs.map X.e)[k]? = ks[k]? := by rw [h.es]
      rw [List.getElem?_map, List.getElem?_eq_getElem (by omega), List.getElem?_eq_getElem hk] at e1
      rw [atX_eq (by omega)]
      exact Option.some.inj e1
    show ks.set k (atX xs k).e = ks
    rw [this]
    exact List.set_getElem_self hk
  · intro b hb
    rw [hfl] at hb
    rcases List.mem_append.1 hb with hb | hb
    · exact h.lo b hb
    · have := hlo b hb; omega
  · rw [hfl, List.nodup_cons, List.nodup_append]
    refine ⟨fun q => ?_, hgn.2, hE.nodup, fun x hx y hy e => ?_⟩
    · rcases List.mem_append.1 q with q | q
      · exact hgn.1 q
      · have := hlo g q; omega
    · subst e
      have := hlo _ hy
      have := hdl _ hx
      omega
  · rw [atX_set (by omega)]
    by_cases e : i = k
    · subst e
      rw [if_pos rfl]
      have e2 : (bls ++ [bl']).getD i [] = bl' := by rw [List.getD_eq_getElem?_getD, List.getElem?_append_right (by omega), hbs]; simp
      rw [e2]
      exact hE.keep (by rw [put6_size]; exact Nat.le_refl _) (fun b hb => put6_other _ _ _ _ (by have := hlo b hb; omega))
    · rw [if_neg e]
      have e2 : (bls ++ [bl']).getD i [] = bls.getD i [] := by rw [List.getD_eq_getElem?_getD, List.getD_eq_getElem?_getD, List.getElem?_append_left (by omega)]
      rw [e2]
      have hd := h.done i hi (by omega)
      refine hd.keep (by rw [put6_size]; exact b2.size) (fun b hb => ?_)
      have hbf := flat_mem (bls := bls) (i := i) (by omega) hb
      rw [put6_other _ _ _ _ (fun q => hgn.1 (by rw [← q]; exact hbf))]
      exact b2.block b (hd.lt b hb)
  · rw [atX_set (by omega), if_neg (by omega)]
    exact h.rest i hi (by omega)
end Go.Proofs.YteabclfhmapabaaGreatDoor
end
