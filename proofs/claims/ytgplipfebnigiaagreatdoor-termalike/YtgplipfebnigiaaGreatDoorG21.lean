import Derived.Test.YtgplipfebnigiaaGreatDoorG20
import Derived.Deep.Upon
import Derived.OwnWalk
import Derived.Lib.Hide
section
namespace Go.Proofs.YtgplipfebnigiaaGreatDoor
open Go.RowKit Go.Maps
set_option linter.unusedVariables false
set_option linter.unusedSimpArgs false
attribute [local go_sem ↓] Go.wp_at_zero Go.wp_at_succ

/-- append(x, y...), x a row of the call's own, y any list, of elements of any kind -/
theorem run_appL {w : World} {b : Nat} {v : Value} {n : Nat} {xs : List Value} (ty t e : TypeId) {i0 : TypeInfo} {z : Value} {k bytes : Nat} (hu : Tryz.prog.underlying t = some (.slice e)) (hi0 : Tryz.prog.info? e = some i0) (hz0 : i0.zero = some z) (hz1 : i0.size = k) (hz2 : i0.bytes = bytes) (hzs : z.cells.size = k) (hk : 0 < k)
    (hown : w.ownsRow b e k v n xs) {a : Option Addr} {m c : Nat} {ys : List Value} (hl : Ls w (.slice a m c) m ys) (hly : ys.length = m * k) (h1 : ∀ u ∈ ys, u.oneCell' = true) (h63 : n + m ≤ maxLen) (hby : (n + m) * bytes ≤ 140737488355328) (hb : b ≤ w.heap.size) :
    ∃ v' w', (Builtin.append_ #[t, t] ty #[v, .slice a m c]).run Tryz.prog w = .ok v' w' ∧ w'.ownsRow b e k v' (n + m) (xs ++ ys) ∧ w.grownBy w' v.ownBlock ∧ (v'.ownBlock = v.ownBlock ∨ v'.ownBlock = some w.heap.size) := by
  obtain ⟨_, a', c', e', hc1, hc2, hat⟩ := hl
  by_cases h0 : m = 0
  · subst h0
    obtain rfl : ys = [] := List.length_eq_zero_iff.1 (by rw [hly]; simp)
    have hv : ∃ ba sc, v = .slice ba n sc ∧ n ≤ sc := by
      rcases hown.2 with ⟨rfl, rfl⟩ | ⟨g, cap, cur, rfl, _, _, hnc, _, _, _⟩
      · exact ⟨none, 0, rfl, Nat.le_refl _⟩
      · exact ⟨_, _, rfl, hnc⟩
    obtain ⟨ba, sc, rfl, hsc⟩ := hv
    refine ⟨_, _, run_append_nothing w _ _ ty _ i0 hu hi0 ba n sc hsc _ ⟨.inl ⟨_, hu⟩, by intro w'; cases a <;> simp [Builtin.lenOf], by cases a <;> simp [Builtin.firstCells, loadCells, loadCellsFrom], by cases a <;> simp [Builtin.firstCells, loadCells, loadCellsFrom], by simp, by simp⟩, ?_, ⟨rfl, rfl, rfl, Nat.le_refl _, fun _ _ _ => rfl⟩, .inl rfl⟩
    simpa using hown
  · obtain ⟨g, off, ha, _, hf⟩ := hat (by omega)
    cases e'
    subst ha
    obtain ⟨v', w', e1, e2, e3, _, e5⟩ := run_append_own_at (P := Tryz.prog) w b t ty e i0 z k bytes hu hi0 hz0 hz1 hz2 hzs hk v n xs hown ⟨g, off, none⟩ m c ys hly (fun j u hu => by
      obtain ⟨q1, q2⟩ := List.getElem?_eq_some_iff.1 hu
      have := hf j q1
      rw [q2] at this
      rw [show (⟨g, off, none⟩ : Addr).add j = ⟨g, off + j, none⟩ by cases j <;> simp [Addr.add]]
      exact this) h1 h63 hby hb
    exact ⟨v', w', e1, e2, e3, e5⟩
theorem wpList_appL {ops : Array Oper} {rest : List Oper} {o : Oper} {ac : Act} {w : World} {Q : Exit → Act → World → Prop} (hgd : o.guard = none) (s x : Operand) (t e : TypeId)
    (hop : o.op = Op.call { callee := Callee.builtin Builtin.append, args := #[s, x], argTypes := #[t, t] }) {i0 : TypeInfo} {z : Value} {k bytes : Nat} (hu : Tryz.prog.underlying t = some (.slice e)) (hi0 : Tryz.prog.info? e = some i0) (hz0 : i0.zero = some z) (hz1 : i0.size = k) (hz2 : i0.bytes = bytes) (hzs : z.cells.size = k) (hk : 0 < k)
    {b : Nat} {v : Value} {n : Nat} {xs : List Value} (hs : ac.eval s = v) (hown : w.ownsRow b e k v n xs) {a : Option Addr} {m c : Nat} {ys : List Value} (hx : ac.eval x = .slice a m c) (hl : Ls w (.slice a m c) m ys) (hly : ys.length = m * k) (h1 : ∀ u ∈ ys, u.oneCell' = true) (h63 : n + m ≤ maxLen) (hby : (n + m) * bytes ≤ 140737488355328) (hb : b ≤ w.heap.size)
    (h : ∀ v' w', w'.ownsRow b e k v' (n + m) (xs ++ ys) → w.grownBy w' v.ownBlock → (v'.ownBlock = v.ownBlock ∨ v'.ownBlock = some w.heap.size) → wpList Tryz.prog ops Q rest (ac.put o.dst v') w') :
    wpList Tryz.prog ops Q (o :: rest) ac w := by
  refine wpList_plain hgd fun KK hK => ?_
  obtain ⟨v', w', hr, r1, r2, r3⟩ := run_appL o.type t e hu hi0 hz0 hz1 hz2 hzs hk hown hl hly h1 h63 hby hb
  unfold Oper.wp execOp
  simp only [hop, resolve, invoke, builtin, Sem.run_bind, Sem.run_pure, Result.andThen_ok, List.map_toArray, List.map_cons, List.map_nil, hs, hx, hr]
  exact hK _ _ (h v' w' r1 r2 r3)
theorem infoCTerm : (Tryz.prog.info? 46).map (fun i => (i.zero, i.size, i.bytes)) = some (some (.agg #[.string ⟨#[]⟩, .int .i8 0, .int .i64 0, .string ⟨#[]⟩]), 4, 48) := by kernel_rfl
theorem nilCTerm (n c : Nat) (w : World) : (binOp .eql 59 (.slice none n c) (.slice none 0 0)).run Tryz.prog w = .ok (.bool true) w := by kernel_rfl
theorem nonCTerm (ad : Addr) (n c : Nat) (w : World) : (binOp .eql 59 (.slice (some ad) n c) (.slice none 0 0)).run Tryz.prog w = .ok (.bool false) w := by kernel_rfl
set_option maxHeartbeats 800000 in
set_option maxRecDepth 100000 in
theorem cloneTerm (v : Value) (n : Nat) (ys : List Value) (w : World) (hl : Ls w v n ys) (hly : ys.length = n * 4) (h1 : ∀ u ∈ ys, u.oneCell' = true) (hn : n ≤ 1048576) : Calls Tryz.prog 78 #[v] w fun e w' => ∃ sv, e = .returned sv ∧ w'.ownsRow w.heap.size 46 4 sv n ys ∧ Below w.heap.size w w' := by
  obtain ⟨i0, hi0, hz0, hz1, hz2⟩ := info_parts infoCTerm
  have HL := Lib.hid hl
  obtain ⟨_, a, c, rfl, hc1, hc2, hat⟩ := hl
  have H1 := Lib.hid h1
  clear h1
  cases a with
  | none =>
    have h0 : n = 0 := by
      by_cases h : n = 0
      · exact h
      · obtain ⟨g, off, e, _⟩ := hat (by omega)
        cases e
    subst h0
    obtain rfl : ys = [] := List.length_eq_zero_iff.1 (by rw [hly])
    have hne := nilCTerm 0 c w
    clear hat HL
    go_enter Tryz.func78, Tryz.ntmps78
    go_wp2
    go_ret
    exact ⟨_, rfl, World.ownsRow_nil _ _ _ _, Below.refl _ _⟩
  | some ad =>
    have hne := nonCTerm ad n c w
    have HAL : Hid (∀ o, Below w.heap.size w (w.alloc o)) := fun o => (Below.refl _ _).alloc (Nat.le_refl _) o
    clear hat
    go_enter Tryz.func78, Tryz.ntmps78
    go_wp2_with (at_builtin; refine wpList_appL rfl (.tmp 5) (.tmp 6) 59 46 rfl Tryz.underlying59 hi0 hz0 hz1 hz2 rfl (by decide) (b := w.heap.size) (v := .slice (some ⟨w.heap.size, 0, none⟩) 0 0) (n := 0) (xs := []) (a := some ad) (c := c) (m := n) (ys := ys) (by simp [Act.eval, Act.put]) (World.ownsRow_lit w #[] 0 (Nat.le_refl _) (by decide) rfl) (by simp [Act.eval, Act.put]) (HL.out.below (HAL.out _)) hly H1.out (by unfold maxLen; omega) (by omega) (by simp) ?_; intro v5 w5 own5 hg5 hl5; have bel5 : Below w.heap.size w w5 := (HAL.out _).grown hg5 (by simp) (fun j hj => by simp [Value.ownBlock] at hj; omega); rw [Nat.zero_add, List.nil_append] at own5)
    go_ret
    exact ⟨_, rfl, own5, bel5⟩
theorem infoCArg : (Tryz.prog.info? 94).map (fun i => (i.zero, i.size, i.bytes)) = some (some (.agg #[.int .i8 0, .string ⟨#[]⟩, .int .i8 0, .int .i64 0, .string ⟨#[]⟩]), 5, 56) := by kernel_rfl
theorem nilCArg (n c : Nat) (w : World) : (binOp .eql 22 (.slice none n c) (.slice none 0 0)).run Tryz.prog w = .ok (.bool true) w := by kernel_rfl
theorem nonCArg (ad : Addr) (n c : Nat) (w : World) : (binOp .eql 22 (.slice (some ad) n c) (.slice none 0 0)).run Tryz.prog w = .ok (.bool false) w := by kernel_rfl
set_option maxHeartbeats 800000 in
set_option maxRecDepth 100000 in
theorem cloneArg (v : Value) (n : Nat) (ys : List Value) (w : World) (hl : Ls w v n ys) (hly : ys.length = n * 5) (h1 : ∀ u ∈ ys, u.oneCell' = true) (hn : n ≤ 1048576) : Calls Tryz.prog 76 #[v] w fun e w' => ∃ sv, e = .returned sv ∧ w'.ownsRow w.heap.size 94 5 sv n ys ∧ Below w.heap.size w w' := by
  obtain ⟨i0, hi0, hz0, hz1, hz2⟩ := info_parts infoCArg
  have HL := Lib.hid hl
  obtain ⟨_, a, c, rfl, hc1, hc2, hat⟩ := hl
  have H1 := Lib.hid h1
  clear h1
  cases a with
  | none =>
    have h0 : n = 0 := by
      by_cases h : n = 0
      · exact h
      · obtain ⟨g, off, e, _⟩ := hat (by omega)
        cases e
    subst h0
    obtain rfl : ys = [] := List.length_eq_zero_iff.1 (by rw [hly])
    have hne := nilCArg 0 c w
    clear hat HL
    go_enter Tryz.func76, Tryz.ntmps76
    go_wp2
    go_ret
    exact ⟨_, rfl, World.ownsRow_nil _ _ _ _, Below.refl _ _⟩
  | some ad =>
    have hne := nonCArg ad n c w
    have HAL : Hid (∀ o, Below w.heap.size w (w.alloc o)) := fun o => (Below.refl _ _).alloc (Nat.le_refl _) o
    clear hat
    go_enter Tryz.func76, Tryz.ntmps76
    go_wp2_with (at_builtin; refine wpList_appL rfl (.tmp 5) (.tmp 6) 22 94 rfl Tryz.underlying22 hi0 hz0 hz1 hz2 rfl (by decide) (b := w.heap.size) (v := .slice (some ⟨w.heap.size, 0, none⟩) 0 0) (n := 0) (xs := []) (a := some ad) (c := c) (m := n) (ys := ys) (by simp [Act.eval, Act.put]) (World.ownsRow_lit w #[] 0 (Nat.le_refl _) (by decide) rfl) (by simp [Act.eval, Act.put]) (HL.out.below (HAL.out _)) hly H1.out (by unfold maxLen; omega) (by omega) (by simp) ?_; intro v5 w5 own5 hg5 hl5; have bel5 : Below w.heap.size w w5 := (HAL.out _).grown hg5 (by simp) (fun j hj => by simp [Value.ownBlock] at hj; omega); rw [Nat.zero_add, List.nil_append] at own5)
    go_ret
    exact ⟨_, rfl, own5, bel5⟩
theorem infoCExpr : (Tryz.prog.info? 74).map (fun i => (i.zero, i.size, i.bytes)) = some (some (.agg #[.int .i8 0, .string ⟨#[]⟩, .int .i8 0, .int .i64 0, .string ⟨#[]⟩, .slice none 0 0]), 6, 80) := by kernel_rfl
theorem nilCExpr (n c : Nat) (w : World) : (binOp .eql 72 (.slice none n c) (.slice none 0 0)).run Tryz.prog w = .ok (.bool true) w := by kernel_rfl
theorem nonCExpr (ad : Addr) (n c : Nat) (w : World) : (binOp .eql 72 (.slice (some ad) n c) (.slice none 0 0)).run Tryz.prog w = .ok (.bool false) w := by kernel_rfl
set_option maxHeartbeats 800000 in
set_option maxRecDepth 100000 in
theorem cloneExpr (v : Value) (n : Nat) (ys : List Value) (w : World) (hl : Ls w v n ys) (hly : ys.length = n * 6) (h1 : ∀ u ∈ ys, u.oneCell' = true) (hn : n ≤ 1048576) : Calls Tryz.prog 112 #[v] w fun e w' => ∃ sv, e = .returned sv ∧ w'.ownsRow w.heap.size 74 6 sv n ys ∧ Below w.heap.size w w' := by
  obtain ⟨i0, hi0, hz0, hz1, hz2⟩ := info_parts infoCExpr
  have HL := Lib.hid hl
  obtain ⟨_, a, c, rfl, hc1, hc2, hat⟩ := hl
  have H1 := Lib.hid h1
  clear h1
  cases a with
  | none =>
    have h0 : n = 0 := by
      by_cases h : n = 0
      · exact h
      · obtain ⟨g, off, e, _⟩ := hat (by omega)
        cases e
    subst h0
    obtain rfl : ys = [] := List.length_eq_zero_iff.1 (by rw [hly])
    have hne := nilCExpr 0 c w
    clear hat HL
    go_enter Tryz.func112, Tryz.ntmps112
    go_wp2
    go_ret
    exact ⟨_, rfl, World.ownsRow_nil _ _ _ _, Below.refl _ _⟩
  | some ad =>
    have hne := nonCExpr ad n c w
    have HAL : Hid (∀ o, Below w.heap.size w (w.alloc o)) := fun o => (Below.refl _ _).alloc (Nat.le_refl _) o
    clear hat
    go_enter Tryz.func112, Tryz.ntmps112
    go_wp2_with (at_builtin; refine wpList_appL rfl (.tmp 5) (.tmp 6) 72 74 rfl Tryz.underlying72 hi0 hz0 hz1 hz2 rfl (by decide) (b := w.heap.size) (v := .slice (some ⟨w.heap.size, 0, none⟩) 0 0) (n := 0) (xs := []) (a := some ad) (c := c) (m := n) (ys := ys) (by simp [Act.eval, Act.put]) (World.ownsRow_lit w #[] 0 (Nat.le_refl _) (by decide) rfl) (by simp [Act.eval, Act.put]) (HL.out.below (HAL.out _)) hly H1.out (by unfold maxLen; omega) (by omega) (by simp) ?_; intro v5 w5 own5 hg5 hl5; have bel5 : Below w.heap.size w w5 := (HAL.out _).grown hg5 (by simp) (fun j hj => by simp [Value.ownBlock] at hj; omega); rw [Nat.zero_add, List.nil_append] at own5)
    go_ret
    exact ⟨_, rfl, own5, bel5⟩
theorem infoCLiteral : (Tryz.prog.info? 89).map (fun i => (i.zero, i.size, i.bytes)) = some (some (.agg #[.int .i8 0, .string ⟨#[]⟩, .slice none 0 0, .int .i8 0, .int .i8 0, .string ⟨#[]⟩, .int .i8 0, .int .i64 0, .string ⟨#[]⟩, .slice none 0 0, .int .i8 0, .string ⟨#[]⟩, .int .i8 0, .int .i64 0, .string ⟨#[]⟩, .slice none 0 0]), 16, 216) := by kernel_rfl
theorem nilCLiteral (n c : Nat) (w : World) : (binOp .eql 23 (.slice none n c) (.slice none 0 0)).run Tryz.prog w = .ok (.bool true) w := by kernel_rfl
theorem nonCLiteral (ad : Addr) (n c : Nat) (w : World) : (binOp .eql 23 (.slice (some ad) n c) (.slice none 0 0)).run Tryz.prog w = .ok (.bool false) w := by kernel_rfl
set_option maxHeartbeats 800000 in
set_option maxRecDepth 100000 in
theorem cloneLiteral (v : Value) (n : Nat) (ys : List Value) (w : World) (hl : Ls w v n ys) (hly : ys.length = n * 16) (h1 : ∀ u ∈ ys, u.oneCell' = true) (hn : n ≤ 1048576) : Calls Tryz.prog 77 #[v] w fun e w' => ∃ sv, e = .returned sv ∧ w'.ownsRow w.heap.size 89 16 sv n ys ∧ Below w.heap.size w w' := by
  obtain ⟨i0, hi0, hz0, hz1, hz2⟩ := info_parts infoCLiteral
  have HL := Lib.hid hl
  obtain ⟨_, a, c, rfl, hc1, hc2, hat⟩ := hl
  have H1 := Lib.hid h1
  clear h1
  cases a with
  | none =>
    have h0 : n = 0 := by
      by_cases h : n = 0
      · exact h
      · obtain ⟨g, off, e, _⟩ := hat (by omega)
        cases e
    subst h0
    obtain rfl : ys = [] := List.length_eq_zero_iff.1 (by rw [hly])
    have hne := nilCLiteral 0 c w
    clear hat HL
    go_enter Tryz.func77, Tryz.ntmps77
    go_wp2
    go_ret
    exact ⟨_, rfl, World.ownsRow_nil _ _ _ _, Below.refl _ _⟩
  | some ad =>
    have hne := nonCLiteral ad n c w
    have HAL : Hid (∀ o, Below w.heap.size w (w.alloc o)) := fun o => (Below.refl _ _).alloc (Nat.le_refl _) o
    clear hat
    go_enter Tryz.func77, Tryz.ntmps77
    go_wp2_with (at_builtin; refine wpList_appL rfl (.tmp 5) (.tmp 6) 23 89 rfl Tryz.underlying23 hi0 hz0 hz1 hz2 rfl (by decide) (b := w.heap.size) (v := .slice (some ⟨w.heap.size, 0, none⟩) 0 0) (n := 0) (xs := []) (a := some ad) (c := c) (m := n) (ys := ys) (by simp [Act.eval, Act.put]) (World.ownsRow_lit w #[] 0 (Nat.le_refl _) (by decide) rfl) (by simp [Act.eval, Act.put]) (HL.out.below (HAL.out _)) hly H1.out (by unfold maxLen; omega) (by omega) (by simp) ?_; intro v5 w5 own5 hg5 hl5; have bel5 : Below w.heap.size w w5 := (HAL.out _).grown hg5 (by simp) (fun j hj => by simp [Value.ownBlock] at hj; omega); rw [Nat.zero_add, List.nil_append] at own5)
    go_ret
    exact ⟨_, rfl, own5, bel5⟩
end Go.Proofs.YtgplipfebnigiaaGreatDoor
end
section
namespace Go.Proofs.YtgplipfebnigiaaGreatDoor
open Go.RowKit Go.Maps
set_option linter.unusedVariables false
set_option linter.unusedSimpArgs false

/-- a row of one's own: its block, its cells, none frozen -/
theorem own_parts {w : World} {B : Nat} {e : TypeId} {k : Nat} {sv : Value} {n : Nat} {xs : List Value} (h : w.ownsRow B e k sv n xs) : ∃ a c, sv = .slice a n c ∧ n ≤ c ∧ c ≤ maxLen ∧ (n = 0 ∧ a = none ∨ ∃ g, a = some ⟨g, 0, none⟩ ∧ B ≤ g ∧ g < w.heap.size ∧ (∀ j, w.frozen? ⟨g, j, none⟩ = false) ∧ ∀ j u, xs[j]? = some u → w.cell? ⟨g, j, none⟩ = some u) := by
  have h' := h
  obtain ⟨hl, ⟨rfl, rfl⟩ | ⟨g, cap, cur, rfl, h0, hb, hn, hc, hs, ht⟩⟩ := h
  · exact ⟨none, 0, rfl, Nat.le_refl _, Nat.zero_le _, .inl ⟨rfl, rfl⟩⟩
  · refine ⟨_, cap, rfl, hn, hc, .inr ⟨g, rfl, h0, (Array.getElem?_eq_some_iff.1 hb).1, fun j => ?_, fun j u hu => ?_⟩⟩
    · unfold World.frozen?
      simp only [hb]
      simp
    · have := h'.cells (g := g) rfl j u hu
      rw [show (⟨g, 0, none⟩ : Addr).add j = ⟨g, j, none⟩ by cases j <;> simp [Addr.add]] at this
      exact this
/-- a clone of terms, as a list in a block of its own -/
theorem tb_own {w : World} {B : Nat} {sv : Value} {ts : List T} (h : w.ownsRow B 46 4 sv ts.length (ts.flatMap T.cells)) (hw : ∀ t ∈ ts, t.wf) : ∃ a c bl, sv = .slice a ts.length c ∧ TB w ts a c bl ∧ (∀ b ∈ bl, B ≤ b) ∧ bl.Nodup := by
  obtain ⟨a, c, rfl, hc1, hc2, h0 | ⟨g, rfl, hB, hg, hf, hx⟩⟩ := own_parts h
  · exact ⟨a, c, [], rfl, ⟨hc1, hc2, hw, .inl ⟨List.length_eq_zero_iff.1 h0.1, rfl⟩⟩, (fun b hb => by cases hb), List.nodup_nil⟩
  · refine ⟨_, c, [g], rfl, ⟨hc1, hc2, hw, .inr ⟨g, rfl, hg, rfl, hf, fun i hi => ?_⟩⟩, fun b hb => by rw [List.mem_singleton.1 hb]; exact hB, by simp⟩
    have hc : ∀ j v, j < 4 → (T.cells (atT ts i))[j]? = some v → w.cell? ⟨g, i * 4 + j, none⟩ = some v := fun j v hj hv => hx _ _ (by rw [flat_at T.cells 4 (fun _ => rfl) T0 ts i j hi hj]; exact hv)
    exact ⟨hc 0 _ (by omega) rfl, hc 1 _ (by omega) rfl, hc 2 _ (by omega) rfl, hc 3 _ (by omega) rfl⟩
/-- a clone of arguments, as a list in a block of its own -/
theorem ab_own {w : World} {B : Nat} {sv : Value} {hd : List A5} (h : w.ownsRow B 94 5 sv hd.length (hd.flatMap A5.cells)) (hw : ∀ t ∈ hd, t.wf) : ∃ a c bl, sv = .slice a hd.length c ∧ AB w hd a c bl ∧ (∀ b ∈ bl, B ≤ b) ∧ bl.Nodup := by
  obtain ⟨a, c, rfl, hc1, hc2, h0 | ⟨g, rfl, hB, hg, hf, hx⟩⟩ := own_parts h
  · exact ⟨a, c, [], rfl, ⟨hc1, hc2, hw, .inl ⟨List.length_eq_zero_iff.1 h0.1, rfl⟩⟩, (fun b hb => by cases hb), List.nodup_nil⟩
  · refine ⟨_, c, [g], rfl, ⟨hc1, hc2, hw, .inr ⟨g, rfl, hg, rfl, hf, fun i hi => ?_⟩⟩, fun b hb => by rw [List.mem_singleton.1 hb]; exact hB, by simp⟩
    have hc : ∀ j v, j < 5 → (A5.cells (atA hd i))[j]? = some v → w.cell? ⟨g, i * 5 + j, none⟩ = some v := fun j v hj hv => hx _ _ (by rw [flat_at A5.cells 5 (fun _ => rfl) A50 hd i j hi hj]; exact hv)
    exact ⟨hc 0 _ (by omega) rfl, ⟨hc 1 _ (by omega) rfl, hc 2 _ (by omega) rfl, hc 3 _ (by omega) rfl, hc 4 _ (by omega) rfl⟩⟩
/-- an expression's kids, as a list in memory -/
theorem lx_kids {w : World} {d : Nat} {e : E} {a : Option Addr} {c : Nat} (h : EIs w (d + 1) e a c) : ∃ xs : List X, xs.map X.e = e.kids ∧ Lx w (.slice a e.kids.length c) d xs := by
  obtain ⟨⟨hop, hkl⟩, htw, hc1, hc2, hk⟩ := h
  by_cases h0 : 0 < e.kids.length
  · obtain ⟨g, off, rfl, hg, hx⟩ := hk h0
    have key : ∀ m, m ≤ e.kids.length → ∃ xs : List X, xs.map X.e = e.kids.take m ∧ (∀ i, i < m → XAt w g (off + i * 6) (atX xs i).e.op (atX xs i).e.t (.slice (atX xs i).a (atX xs i).e.kids.length (atX xs i).c)) ∧ ∀ x ∈ xs, EIs w d x.e x.a x.c := by
      intro m
      induction m with
      | zero => intro _; exact ⟨[], by simp, fun i hi => absurd hi (by omega), fun x hx => by cases hx⟩
      | succ m ih =>
        intro hm
        obtain ⟨xs, e1, e2, e3⟩ := ih (by omega)
        obtain ⟨a', c', y1, y2⟩ := hx m (by omega)
        have hl : xs.length = m := by
          have := congrArg List.length e1
          rw [List.length_map, List.length_take] at this
          omega
        refine ⟨xs ++ [⟨atE e.kids m, a', c'⟩], ?_, fun i hi => ?_, fun x hx => ?_⟩
        · rw [List.map_append, e1, List.take_add_one, List.getElem?_eq_getElem (by omega), atE_eq (by omega)]
          rfl
        · by_cases ei : i = m
          · subst ei
            have : atX (xs ++ [(⟨atE e.kids i, a', c'⟩ : X)]) i = ⟨atE e.kids i, a', c'⟩ := by unfold atX; rw [List.getD_eq_getElem?_getD, List.getElem?_append_right (by omega), hl]; simp
            rw [this]
            exact y1
          · have : atX (xs ++ [(⟨atE e.kids m, a', c'⟩ : X)]) i = atX xs i := by unfold atX; rw [List.getD_eq_getElem?_getD, List.getD_eq_getElem?_getD, List.getElem?_append_left (by omega)]
            rw [this]
            exact e2 i (by omega)
        · rcases List.mem_append.1 hx with hx | hx
          · exact e3 x hx
          · rw [List.mem_singleton.1 hx]; exact y2
    obtain ⟨xs, e1, e2, e3⟩ := key _ (Nat.le_refl _)
    rw [List.take_length] at e1
    have hl : xs.length = e.kids.length := by rw [← e1, List.length_map]
    refine ⟨xs, e1, ⟨?_, e3⟩⟩
    rw [← hl]
    refine ⟨by rw [hl]; exact Nat.le_trans hc1 hc2, _, c, rfl, by rw [hl]; exact hc1, hc2, fun _ => ⟨g, off, rfl, hg, fun i hi => ?_⟩⟩
    have hlen := flatX_len xs
    have hi6 : i / 6 < xs.length := by omega
    have hx6 := flat_at X.cells 6 (fun _ => rfl) X0 xs (i / 6) (i % 6) hi6 (by omega)
    rw [show i / 6 * 6 + i % 6 = i by omega, List.getElem?_eq_getElem hi] at hx6
    have hq := e2 (i / 6) (by omega)
    have hgoal : ∀ j v, j < 6 → (X.cells (atX xs (i / 6)))[j]? = some v → w.cell? ⟨g, off + (i / 6 * 6 + j), none⟩ = some v := fun j v hj hv => by
      rw [← Nat.add_assoc]
      obtain rfl | rfl | rfl | rfl | rfl | rfl : j = 0 ∨ j = 1 ∨ j = 2 ∨ j = 3 ∨ j = 4 ∨ j = 5 := by omega
      · simp [X.cells] at hv; subst hv; exact hq.c0
      · simp [X.cells] at hv; subst hv; exact hq.c1
      · simp [X.cells] at hv; subst hv; exact hq.c2
      · simp [X.cells] at hv; subst hv; exact hq.c3
      · simp [X.cells] at hv; subst hv; exact hq.c4
      · simp [X.cells] at hv; subst hv; exact hq.c5
    have := hgoal (i % 6) _ (by omega) hx6.symm
    rw [show i / 6 * 6 + i % 6 = i by omega] at this
    exact this
  · have e0 : e.kids = [] := List.length_eq_zero_iff.1 (by omega)
    refine ⟨[], by rw [e0]; rfl, ⟨?_, fun x hx => by cases hx⟩⟩
    rw [e0]
    exact ⟨Nat.zero_le _, a, c, rfl, Nat.zero_le _, hc2, fun h => absurd h (by simp)⟩
end Go.Proofs.YtgplipfebnigiaaGreatDoor
end
section
namespace Go.Proofs.YtgplipfebnigiaaGreatDoor
open Go.RowKit Go.Maps
set_option linter.unusedVariables false
set_option linter.unusedSimpArgs false
attribute [local go_sem ↓] Go.wp_at_zero Go.wp_at_succ

theorem tcells_one (ts : List T) : ∀ u ∈ ts.flatMap T.cells, u.oneCell' = true := by
  intro u hu
  rw [List.mem_flatMap] at hu
  obtain ⟨t, _, ht⟩ := hu
  simp [T.cells] at ht
  rcases ht with rfl | rfl | rfl | rfl <;> rfl
end Go.Proofs.YtgplipfebnigiaaGreatDoor
end
