import Derived.Test.YtmadbakpdmkebaaDoorColM
namespace Go.Proofs.YtmadbakpdmkebaaDoor
open Go.RowKit
set_option linter.unusedVariables false
set_option linter.unusedSimpArgs false

/-- the cells of so many values -/
def flat (K N : Nat → Int) (S : Nat → ByteArray) : Nat → List Value
  | 0 => []
  | k + 1 => flat K N S k ++ [.int .i8 (K k), .int .i64 (N k), .string (S k)]
def cell3 (j : Nat) (k n : Int) (s : ByteArray) : Value := if j = 0 then .int .i8 k else if j = 1 then .int .i64 n else .string s
theorem flat_length (K N : Nat → Int) (S : Nat → ByteArray) : ∀ k, (flat K N S k).length = k * 3
  | 0 => rfl
  | k + 1 => by rw [flat, List.length_append, flat_length K N S k]; simp; omega
theorem flat_get (K N : Nat → Int) (S : Nat → ByteArray) : ∀ k i j, i < k → j < 3 → (flat K N S k)[i * 3 + j]? = some (cell3 j (K i) (N i) (S i))
  | 0, i, j, h, _ => by omega
  | k + 1, i, j, h, hj => by
    rw [flat]
    by_cases e : i = k
    · subst e
      rw [List.getElem?_append_right (by rw [flat_length]; omega), flat_length, show i * 3 + j - i * 3 = j by omega]
      obtain rfl | rfl | rfl : j = 0 ∨ j = 1 ∨ j = 2 := by omega
      all_goals rfl
    · rw [List.getElem?_append_left (by rw [flat_length]; omega)]
      exact flat_get K N S k i j (by omega) hj
theorem flat_congr {K N : Nat → Int} {S : Nat → ByteArray} {K' N' : Nat → Int} {S' : Nat → ByteArray} : ∀ k, (∀ i, i < k → K i = K' i ∧ N i = N' i ∧ S i = S' i) → flat K N S k = flat K' N' S' k
  | 0, _ => rfl
  | k + 1, h => by
    obtain ⟨h1, h2, h3⟩ := h k (by omega)
    rw [flat, flat, flat_congr k (fun i hi => h i (by omega)), h1, h2, h3]
/-- one behind the other -/
def onto {α : Type} (n : Nat) (f g : Nat → α) : Nat → α := fun i => if i < n then f i else g (i - n)
theorem onto_lt {α : Type} {n : Nat} {f g : Nat → α} {i : Nat} (h : i < n) : onto n f g i = f i := if_pos h
theorem onto_ge {α : Type} {n : Nat} {f g : Nat → α} {i : Nat} : onto n f g (n + i) = g i := by
  rw [onto, if_neg (by omega), show n + i - n = i by omega]
theorem flat_onto (n : Nat) (K N : Nat → Int) (S : Nat → ByteArray) (K' N' : Nat → Int) (S' : Nat → ByteArray) : ∀ m, flat K N S n ++ flat K' N' S' m = flat (onto n K K') (onto n N N') (onto n S S') (n + m)
  | 0 => by
    rw [flat, List.append_nil, Nat.add_zero]
    exact flat_congr n fun i hi => ⟨(onto_lt hi).symm, (onto_lt hi).symm, (onto_lt hi).symm⟩
  | m + 1 => by
    rw [flat, ← List.append_assoc, flat_onto n K N S K' N' S' m, ← Nat.add_assoc, flat, onto_ge, onto_ge, onto_ge]
theorem flat_one (K N : Nat → Int) (S : Nat → ByteArray) : flat K N S 1 = [.int .i8 (K 0), .int .i64 (N 0), .string (S 0)] := rfl
theorem flat_one' (K N : Nat → Int) (S : Nat → ByteArray) (n : Nat) : ∀ u ∈ flat K N S n, u.oneCell' = true := by
  induction n with
  | zero => intro u hu; simp [flat] at hu
  | succ k ih =>
    intro u hu
    rw [flat, List.mem_append] at hu
    rcases hu with hu | hu
    · exact ih u hu
    · simp at hu
      rcases hu with rfl | rfl | rfl <;> rfl

/-- what a row of its own is as a list -/
theorem own_lies {w : World} {b : Nat} {v : Value} {n : Nat} {K N : Nat → Int} {S : Nat → ByteArray} (h : w.ownsRow b 34 3 v n (flat K N S n)) (hn : n ≤ maxLen) (hs : ∀ i, i < n → (S i).size ≤ maxLen) :
    ∃ a c, v = .slice a n c ∧ Lst w (.slice a n c) n K N S := by
  rcases h.2 with ⟨rfl, rfl⟩ | ⟨g, cap, cur, rfl, hb, hg, hnc, hcm, hcs, htake⟩
  · exact ⟨none, 0, rfl, Nat.zero_le _, .inl ⟨_, _, rfl, rfl⟩⟩
  · refine ⟨_, _, rfl, hn, .inr ⟨g, 0, cap, rfl, hnc, hcm, ?_⟩⟩
    have key : ∀ i j, i < n → j < 3 → w.cell? ⟨g, 0 + i * 3 + j, none⟩ = some (cell3 j (K i) (N i) (S i)) := by
      intro i j hi hj
      rw [Nat.zero_add, h.cellAt (i * 3 + j) (by omega)]
      exact flat_get K N S n i j hi hj
    refine ⟨fun _ => ?_, fun i hi => key i 0 hi (by omega), fun i hi => key i 1 hi (by omega), fun i hi => key i 2 hi (by omega), hs⟩
    exact (Array.getElem?_eq_some_iff.1 hg).1

theorem infoVV : (Tryd.prog.info? 34).map (fun i => (i.zero, i.size, i.bytes)) = some (some (.agg #[.int .i8 0, .int .i64 0, .string ⟨#[]⟩]), 3, 32) := by kernel_rfl
theorem info_three : ∃ i, Tryd.prog.info? 34 = some i ∧ i.zero = some (.agg #[.int .i8 0, .int .i64 0, .string ⟨#[]⟩]) ∧ i.size = 3 ∧ i.bytes = 32 := by
  have h := infoVV
  cases hi : Tryd.prog.info? 34 with
  | none => rw [hi] at h; simp at h
  | some i =>
    rw [hi] at h
    simp at h
    exact ⟨i, rfl, h.1, h.2.1, h.2.2⟩

/-- append(x, y...), x a row of the call's own, y any list -/
theorem run_app {w : World} {b : Nat} {v : Value} {n : Nat} {K N : Nat → Int} {S : Nat → ByteArray} (ty : TypeId) (hown : w.ownsRow b 34 3 v n (flat K N S n))
    {a : Option Addr} {m c : Nat} {K' N' : Nat → Int} {S' : Nat → ByteArray} (hl : Lst w (.slice a m c) m K' N' S') (h1 : n + m ≤ 1073741824) (hb : b ≤ w.heap.size) :
    ∃ v' w', (Builtin.append_ #[22, 22] ty #[v, .slice a m c]).run Tryd.prog w = .ok v' w' ∧ w'.ownsRow b 34 3 v' (n + m) (flat (onto n K K') (onto n N N') (onto n S S') (n + m)) ∧ w.grownBy w' v.ownBlock ∧ (v'.ownBlock = v.ownBlock ∨ v'.ownBlock = some w.heap.size) := by
  obtain ⟨i0, hi0, hz0, hz1, hz2⟩ := info_three
  have hmax : n + m ≤ maxLen := by unfold maxLen; omega
  rw [← flat_onto]
  rcases hl.2 with ⟨a', c', he, rfl⟩ | ⟨g, off, cap, he, hc1, hc2, hc⟩
  · obtain ⟨rfl, _, rfl⟩ : a = a' ∧ True ∧ c = c' := by simpa using he
    have hv : ∃ ba sc, v = .slice ba n sc ∧ n ≤ sc := by
      rcases hown.2 with ⟨rfl, rfl⟩ | ⟨g, cap, cur, rfl, _, _, hnc, _, _, _⟩
      · exact ⟨none, 0, rfl, Nat.le_refl _⟩
      · exact ⟨_, _, rfl, hnc⟩
    obtain ⟨ba, sc, rfl, hsc⟩ := hv
    refine ⟨_, _, ?_, ?_, ⟨rfl, rfl, rfl, Nat.le_refl _, fun _ _ _ => rfl⟩, .inl rfl⟩
    · exact run_append_nothing w _ _ ty _ i0 Tryd.underlying22 hi0 ba n sc hsc _ ⟨.inl ⟨_, Tryd.underlying22⟩, by intro w'; cases a <;> simp [Builtin.lenOf], by cases a <;> simp [Builtin.firstCells, loadCells, loadCellsFrom], by cases a <;> simp [Builtin.firstCells, loadCells, loadCellsFrom], by simp, by simp⟩
    · rw [flat, List.append_nil, Nat.add_zero]; exact hown
  · obtain ⟨rfl, _, rfl⟩ : a = some ⟨g, off, none⟩ ∧ True ∧ c = cap := by simpa using he
    obtain ⟨v', w', e1, e2, e3, _, e5⟩ := run_append_own_at (P := Tryd.prog) w b 22 ty 34 i0 _ 3 32 Tryd.underlying22 hi0 hz0 hz1 hz2 rfl (by decide) v n (flat K N S n) hown ⟨g, off, none⟩ m c (flat K' N' S' m) (flat_length _ _ _ _) (by
      intro j u hu
      have hj : j < m * 3 := by rw [← flat_length K' N' S' m]; exact (List.getElem?_eq_some_iff.1 hu).1
      have e := flat_get K' N' S' m (j / 3) (j % 3) (by omega) (by omega)
      rw [show j / 3 * 3 + j % 3 = j by omega, hu] at e
      obtain rfl := Option.some.inj e
      have hi : j / 3 < m := by omega
      rw [show (⟨g, off, none⟩ : Addr).add j = ⟨g, off + j, none⟩ from by simp [Addr.add]]
      obtain h | h | h : j % 3 = 0 ∨ j % 3 = 1 ∨ j % 3 = 2 := by omega
      · have := hc.kind (j / 3) hi; rw [show off + j / 3 * 3 = off + j by omega] at this; rw [this, h]; rfl
      · have := hc.num (j / 3) hi; rw [show off + j / 3 * 3 + 1 = off + j by omega] at this; rw [this, h]; rfl
      · have := hc.text (j / 3) hi; rw [show off + j / 3 * 3 + 2 = off + j by omega] at this; rw [this, h]; rfl) (flat_one' _ _ _ _) hmax (by omega) hb
    exact ⟨v', w', e1, e2, e3, e5⟩

/-- as one step of a region that draws its order -/
theorem step_app {ops : Array Oper} {o : Oper} {a : Act} {w : World} {KK : Act → World → Prop} {Q : Exit → Act → World → Prop} {E : Prop} (hg : o.guard = none) (s x : Operand)
    (hop : o.op = Op.call { callee := Callee.builtin Builtin.append, args := #[s, x], argTypes := #[22, 22] })
    {b : Nat} {v : Value} {n : Nat} {K N : Nat → Int} {S : Nat → ByteArray} (hs : a.eval s = v) (hown : w.ownsRow b 34 3 v n (flat K N S n))
    {ad : Option Addr} {m c : Nat} {K' N' : Nat → Int} {S' : Nat → ByteArray} (hx : a.eval x = .slice ad m c) (hl : Lst w (.slice ad m c) m K' N' S') (h1 : n + m ≤ 1073741824) (hb : b ≤ w.heap.size)
    (hK : ∀ v' w', w'.ownsRow b 34 3 v' (n + m) (flat (onto n K K') (onto n N N') (onto n S S') (n + m)) → w.grownBy w' v.ownBlock → (v'.ownBlock = v.ownBlock ∨ v'.ownBlock = some w.heap.size) → KK (a.put o.dst v') w') :
    if Region.wanted o (yielded ops a.tmps) = true then Oper.wp Tryd.prog o a w KK Q else E := by
  have hw : Region.wanted o (yielded ops a.tmps) = true := by simp [Region.wanted, hg]
  rw [if_pos hw]
  obtain ⟨v', w', hrun, r1, r2, r3⟩ := run_app o.type hown hl h1 hb
  unfold Oper.wp
  simp [execOp, hop, resolve, invoke, builtin, hs, hx, hrun, Result.andThen]
  exact hK v' w' r1 r2 r3

/-- as one operation of a list -/
theorem wpList_app {ops : Array Oper} {rest : List Oper} {o : Oper} {a : Act} {w : World} {Q : Exit → Act → World → Prop} (hgd : o.guard = none) (s x : Operand)
    (hop : o.op = Op.call { callee := Callee.builtin Builtin.append, args := #[s, x], argTypes := #[22, 22] })
    {b : Nat} {v : Value} {n : Nat} {K N : Nat → Int} {S : Nat → ByteArray} (hs : a.eval s = v) (hown : w.ownsRow b 34 3 v n (flat K N S n))
    {ad : Option Addr} {m c : Nat} {K' N' : Nat → Int} {S' : Nat → ByteArray} (hx : a.eval x = .slice ad m c) (hl : Lst w (.slice ad m c) m K' N' S') (h1 : n + m ≤ 1073741824) (hb : b ≤ w.heap.size)
    (h : ∀ v' w', w'.ownsRow b 34 3 v' (n + m) (flat (onto n K K') (onto n N N') (onto n S S') (n + m)) → w.grownBy w' v.ownBlock → (v'.ownBlock = v.ownBlock ∨ v'.ownBlock = some w.heap.size) → wpList Tryd.prog ops Q rest (a.put o.dst v') w') :
    wpList Tryd.prog ops Q (o :: rest) a w := by
  refine wpList_plain hgd fun KK hK => ?_
  obtain ⟨v', w', hr, r1, r2, r3⟩ := run_app o.type hown hl h1 hb
  unfold Oper.wp execOp
  simp only [hop, resolve, invoke, builtin, Sem.run_bind, Sem.run_pure, Result.andThen_ok, List.map_toArray, List.map_cons, List.map_nil, hs, hx, hr]
  exact hK _ _ (h v' w' r1 r2 r3)
/-- append(nil, y...) -/
theorem run_app0 {w : World} {b : Nat} (ty : TypeId) {a : Option Addr} {m c : Nat} {K' N' : Nat → Int} {S' : Nat → ByteArray} (hl : Lst w (.slice a m c) m K' N' S') (h1 : m ≤ 1073741824) (hb : b ≤ w.heap.size) :
    ∃ v' w', (Builtin.append_ #[22, 22] ty #[.slice none 0 0, .slice a m c]).run Tryd.prog w = .ok v' w' ∧ w'.ownsRow b 34 3 v' m (flat K' N' S' m) ∧ Below w.heap.size w w' := by
  obtain ⟨v', w', e1, e2, e3, _⟩ := run_app (K := K') (N := N') (S := S') (n := 0) ty (World.ownsRow_nil w b 34 3) hl (by omega) hb
  refine ⟨v', w', e1, ?_, ⟨e3.os, e3.tape, e3.output, e3.size, fun k hk => e3.block k hk (by simp [Value.ownBlock])⟩⟩
  rw [Nat.zero_add] at e2
  rwa [flat_congr m (K := onto 0 K' K') (N := onto 0 N' N') (S := onto 0 S' S') (K' := K') (N' := N') (S' := S') (fun i hi => by simp [onto])] at e2

theorem step_app0 {ops : Array Oper} {o : Oper} {a : Act} {w : World} {KK : Act → World → Prop} {Q : Exit → Act → World → Prop} {E : Prop} (hg : o.guard = none) (x : Operand)
    (hop : o.op = Op.call { callee := Callee.builtin Builtin.append, args := #[.const (.slice none 0 0), x], argTypes := #[22, 22] })
    {b : Nat} {ad : Option Addr} {m c : Nat} {K' N' : Nat → Int} {S' : Nat → ByteArray} (hx : a.eval x = .slice ad m c) (hl : Lst w (.slice ad m c) m K' N' S') (h1 : m ≤ 1073741824) (hb : b ≤ w.heap.size)
    (hK : ∀ v' w', w'.ownsRow b 34 3 v' m (flat K' N' S' m) → Below w.heap.size w w' → KK (a.put o.dst v') w') :
    if Region.wanted o (yielded ops a.tmps) = true then Oper.wp Tryd.prog o a w KK Q else E := by
  have hw : Region.wanted o (yielded ops a.tmps) = true := by simp [Region.wanted, hg]
  rw [if_pos hw]
  obtain ⟨v', w', hrun, r1, r2⟩ := run_app0 o.type hl h1 hb
  unfold Oper.wp
  simp [execOp, hop, resolve, invoke, builtin, Act.eval, hx, hrun, Result.andThen]
  simp [Act.eval] at hx
  simp [hx, hrun, Result.andThen]
  exact hK v' w' r1 r2

theorem wpList_app0 {ops : Array Oper} {rest : List Oper} {o : Oper} {a : Act} {w : World} {Q : Exit → Act → World → Prop} (hgd : o.guard = none) (x : Operand)
    (hop : o.op = Op.call { callee := Callee.builtin Builtin.append, args := #[.const (.slice none 0 0), x], argTypes := #[22, 22] })
    {b : Nat} {ad : Option Addr} {m c : Nat} {K' N' : Nat → Int} {S' : Nat → ByteArray} (hx : a.eval x = .slice ad m c) (hl : Lst w (.slice ad m c) m K' N' S') (h1 : m ≤ 1073741824) (hb : b ≤ w.heap.size)
    (h : ∀ v' w', w'.ownsRow b 34 3 v' m (flat K' N' S' m) → Below w.heap.size w w' → wpList Tryd.prog ops Q rest (a.put o.dst v') w') :
    wpList Tryd.prog ops Q (o :: rest) a w := by
  refine wpList_plain hgd fun KK hK => ?_
  obtain ⟨v', w', hr, r1, r2⟩ := run_app0 o.type hl h1 hb
  have hs : a.eval (.const (.slice none 0 0)) = .slice none 0 0 := rfl
  unfold Oper.wp execOp
  simp only [hop, resolve, invoke, builtin, Sem.run_bind, Sem.run_pure, Result.andThen_ok, List.map_toArray, List.map_cons, List.map_nil, hs, hx, hr]
  exact hK _ _ (h v' w' r1 r2)

theorem one_lst (u : World) (k m : Int) (s : ByteArray) (hs : s.size ≤ maxLen) : Lst (u.alloc (.cells #[.int .i8 k, .int .i64 m, .string s] 34)) (.slice (some ⟨u.heap.size, 0, none⟩) 1 1) 1 (fun _ => k) (fun _ => m) (fun _ => s) := by
  refine ⟨by decide, .inr ⟨u.heap.size, 0, 1, rfl, Nat.le_refl _, by decide, fun _ => by simp, fun i hi => ?_, fun i hi => ?_, fun i hi => ?_, fun i hi => hs⟩⟩
  all_goals
    obtain rfl : i = 0 := by omega
    go_simp
theorem one_own (u : World) (b : Nat) (k m : Int) (s : ByteArray) (hb : b ≤ u.heap.size) : (u.alloc (.cells #[.int .i8 k, .int .i64 m, .string s] 34)).ownsRow b 34 3 (.slice (some ⟨u.heap.size, 0, none⟩) 1 1) 1 (flat (fun _ => k) (fun _ => m) (fun _ => s) 1) :=
  World.ownsRow_lit u _ 1 hb (by decide) rfl
theorem wpList_appG {ops : Array Oper} {rest : List Oper} {o : Oper} {a : Act} {w : World} {Q : Exit → Act → World → Prop} (s x : Operand)
    (hop : o.op = Op.call { callee := Callee.builtin Builtin.append, args := #[s, x], argTypes := #[22, 22] }) (hw : Region.wanted o (yielded ops a.tmps) = true)
    {b : Nat} {v : Value} {n : Nat} {K N : Nat → Int} {S : Nat → ByteArray} (hs : a.eval s = v) (hown : w.ownsRow b 34 3 v n (flat K N S n))
    {ad : Option Addr} {m c : Nat} {K' N' : Nat → Int} {S' : Nat → ByteArray} (hx : a.eval x = .slice ad m c) (hl : Lst w (.slice ad m c) m K' N' S') (h1 : n + m ≤ 1073741824) (hb : b ≤ w.heap.size)
    (h : ∀ v' w', w'.ownsRow b 34 3 v' (n + m) (flat (onto n K K') (onto n N N') (onto n S S') (n + m)) → w.grownBy w' v.ownBlock → (v'.ownBlock = v.ownBlock ∨ v'.ownBlock = some w.heap.size) → wpList Tryd.prog ops Q rest (a.put o.dst v') w') :
    wpList Tryd.prog ops Q (o :: rest) a w := by
  refine wpList_step fun KK hK => ?_
  rw [if_pos hw]
  obtain ⟨v', w', hr, r1, r2, r3⟩ := run_app o.type hown hl h1 hb
  unfold Oper.wp
  simp [execOp, hop, resolve, invoke, builtin, hs, hx, hr, Result.andThen]
  exact hK _ _ (h v' w' r1 r2 r3)
end Go.Proofs.YtmadbakpdmkebaaDoor
