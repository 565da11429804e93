import Derived.Test.YtgfnijhhhgjabaaGreatDoorG3
import Derived.Deep.Upon
import Derived.OwnWalk
import Derived.Lib.Hide
import Derived.Test.YtgfnijhhhgjabaaGreatDoorG13
section
namespace Go.Proofs.YtgfnijhhhgjabaaGreatDoor
open Go.RowKit Go.Maps
set_option linter.unusedVariables false
set_option linter.unusedSimpArgs false
attribute [local go_sem ↓] Go.wp_at_zero Go.wp_at_succ

/-- append(x, y...), x a row of the call's own, y any list, of elements of any kind -/
theorem run_appL {w : World} {b : Nat} {v : Value} {n : Nat} {xs : List Value} (ty t e : TypeId) {i0 : TypeInfo} {z : Value} {k bytes : Nat} (hu : Tryz.prog.underlying t = some (.slice e)) (hi0 : Tryz.prog.info? e = some i0) (hz0 : i0.zero = some z) (hz1 : i0.size = k) (hz2 : i0.bytes = bytes) (hzs : z.cells.size = k) (hk : 0 < k)
    (hown : w.ownsRow b e k v n xs) {a : Option Addr} {m c : Nat} {ys : List Value} (hl : Ls w (.slice a m c) m ys) (hly : ys.length = m * k) (h1 : ∀ u ∈ ys, u.oneCell' = true) (h63 : n + m ≤ maxLen) (hby : (n + m) * bytes ≤ 140737488355328) (hb : b ≤ w.heap.size) :
    ∃ v' w', (Builtin.append_ #[t, t] ty #[v, .slice a m c]).run Tryz.prog w = .ok v' w' ∧ w'.ownsRow b e k v' (n + m) (xs ++ ys) ∧ w.grownBy w' v.ownBlock ∧ (v'.ownBlock = v.ownBlock ∨ v'.ownBlock = some w.heap.size) := by
  obtain ⟨_, a', c', e', hc1, hc2, hat⟩ := hl
  by_cases h0 : m = 0
  · subst h0
    obtain rfl : ys = [] := List.length_eq_zero_iff.1 (by rw [hly]; simp)
    have hv : ∃ ba sc, v = .slice ba n sc ∧ n ≤ sc := by
      rcases hown.2 with ⟨rfl, rfl⟩ | ⟨g, cap, cur, rfl, _, _, hnc, _, _, _⟩
      · exact ⟨none, 0, rfl, Nat.le_refl _⟩
      · exact ⟨_, _, rfl, hnc⟩
    obtain ⟨ba, sc, rfl, hsc⟩ := hv
    refine ⟨_, _, run_append_nothing w _ _ ty _ i0 hu hi0 ba n sc hsc _ ⟨.inl ⟨_, hu⟩, by intro w'; cases a <;> simp [Builtin.lenOf], by cases a <;> simp [Builtin.firstCells, loadCells, loadCellsFrom], by cases a <;> simp [Builtin.firstCells, loadCells, loadCellsFrom], by simp, by simp⟩, ?_, ⟨rfl, rfl, rfl, Nat.le_refl _, fun _ _ _ => rfl⟩, .inl rfl⟩
    simpa using hown
  · obtain ⟨g, off, ha, _, hf⟩ := hat (by omega)
    cases e'
    subst ha
    obtain ⟨v', w', e1, e2, e3, _, e5⟩ := run_append_own_at (P := Tryz.prog) w b t ty e i0 z k bytes hu hi0 hz0 hz1 hz2 hzs hk v n xs hown ⟨g, off, none⟩ m c ys hly (fun j u hu => by
      obtain ⟨q1, q2⟩ := List.getElem?_eq_some_iff.1 hu
      have := hf j q1
      rw [q2] at this
      rw [show (⟨g, off, none⟩ : Addr).add j = ⟨g, off + j, none⟩ by cases j <;> simp [Addr.add]]
      exact this) h1 h63 hby hb
    exact ⟨v', w', e1, e2, e3, e5⟩
theorem wpList_appL {ops : Array Oper} {rest : List Oper} {o : Oper} {ac : Act} {w : World} {Q : Exit → Act → World → Prop} (hgd : o.guard = none) (s x : Operand) (t e : TypeId)
    (hop : o.op = Op.call { callee := Callee.builtin Builtin.append, args := #[s, x], argTypes := #[t, t] }) {i0 : TypeInfo} {z : Value} {k bytes : Nat} (hu : Tryz.prog.underlying t = some (.slice e)) (hi0 : Tryz.prog.info? e = some i0) (hz0 : i0.zero = some z) (hz1 : i0.size = k) (hz2 : i0.bytes = bytes) (hzs : z.cells.size = k) (hk : 0 < k)
    {b : Nat} {v : Value} {n : Nat} {xs : List Value} (hs : ac.eval s = v) (hown : w.ownsRow b e k v n xs) {a : Option Addr} {m c : Nat} {ys : List Value} (hx : ac.eval x = .slice a m c) (hl : Ls w (.slice a m c) m ys) (hly : ys.length = m * k) (h1 : ∀ u ∈ ys, u.oneCell' = true) (h63 : n + m ≤ maxLen) (hby : (n + m) * bytes ≤ 140737488355328) (hb : b ≤ w.heap.size)
    (h : ∀ v' w', w'.ownsRow b e k v' (n + m) (xs ++ ys) → w.grownBy w' v.ownBlock → (v'.ownBlock = v.ownBlock ∨ v'.ownBlock = some w.heap.size) → wpList Tryz.prog ops Q rest (ac.put o.dst v') w') :
    wpList Tryz.prog ops Q (o :: rest) ac w := by
  refine wpList_plain hgd fun KK hK => ?_
  obtain ⟨v', w', hr, r1, r2, r3⟩ := run_appL o.type t e hu hi0 hz0 hz1 hz2 hzs hk hown hl hly h1 h63 hby hb
  unfold Oper.wp execOp
  simp only [hop, resolve, invoke, builtin, Sem.run_bind, Sem.run_pure, Result.andThen_ok, List.map_toArray, List.map_cons, List.map_nil, hs, hx, hr]
  exact hK _ _ (h v' w' r1 r2 r3)
end Go.Proofs.YtgfnijhhhgjabaaGreatDoor
end
section
namespace Go.Proofs.YtgfnijhhhgjabaaGreatDoor
open Go.RowKit Go.Maps
set_option linter.unusedVariables false
set_option linter.unusedSimpArgs false
attribute [local go_sem ↓] Go.wp_at_zero Go.wp_at_succ

theorem load_AtL {u : World} {g o : Nat} {cs : List Value} (h : u.rangeAt g o cs) (hl : cs.length = 2) : (loadVar 48 ⟨g, o, none⟩).run Tryz.prog u = .ok (.agg cs.toArray) u :=
  run_loadVar_mid u g o _ cs _ h Tryz.underlying48 rfl (by rw [hl]; kernel_rfl)
attribute [-go_sem] loadVar storeVar

theorem avL_take {l : List XL} {k : Nat} (h : k < l.length) : avL (l.take (k + 1)) = avL (l.take k) ++ avX (atL l k) := by
  unfold avL
  rw [takeXL h, List.flatMap_append]
  simp
theorem strB_cells (l : List ByteArray) : (l.flatMap strB).length = l.length * 1 := by
  induction l with
  | nil => rfl
  | cons a l ih => rw [List.flatMap_cons, List.length_append, ih]; simp [strB]; omega
theorem strB_one (l : List ByteArray) : ∀ u ∈ l.flatMap strB, u.oneCell' = true := by
  intro u hu
  obtain ⟨b, _, hb⟩ := List.mem_flatMap.1 hu
  simp [strB] at hb
  subst hb
  rfl
/-- the atom of a literal in a box -/
theorem lit_atom {u : World} {b : Nat} {y : XL} (h : RL u b 55 y.cells) :
    (loadVar 45 ⟨b, 0, none⟩).run Tryz.prog u = .ok (.int .i8 y.x.k) u ∧ (loadVar 48 ⟨b, 1, none⟩).run Tryz.prog u = .ok (.agg #[.string y.x.pr, .slice y.p.a y.x.ts.length y.p.c]) u := by
  refine ⟨load_kind (RL.at h (j := 0) rfl), ?_⟩
  refine load_AtL (cs := [.string y.x.pr, .slice y.p.a y.x.ts.length y.p.c]) (fun j v hj => ?_) rfl
  match j, hj with
  | 0, hj => simp at hj; subst hj; exact RL.at h (j := 1) rfl
  | 1, hj => simp at hj; subst hj; exact RL.at h (j := 2) rfl
set_option maxHeartbeats 3200000 in
set_option maxRecDepth 100000 in
theorem atomVarsG_any (d : Nat) (v : Value) (l : List XL) (w : World) (hL : Lb w v d l) (hts : ∀ i, i < l.length → (atL l i).x.ts.length ≤ 1048576) (hn : (avL l).length ≤ 4194304) (hll : l.length ≤ 4194304) :
    Calls Tryz.prog 30 #[v] w fun e w' => ∃ sv, e = .returned sv ∧ w'.ownsRow w.heap.size 9 1 sv (avL l).length ((avL l).flatMap strB) ∧ Below w.heap.size w w' := by
  obtain ⟨i0, hi0, hz0, hz1, hz2⟩ := info_parts infoStrL
  have HIS : Hid (∀ i, i < l.length → ∀ u, Below w.heap.size w u → LIs u d (atL l i).x (atL l i).p) := fun i hi u hu => (hL.at_is hi).below hu
  obtain ⟨a, c, rfl, hc1, hc2, hat⟩ := hL.form
  have HAT := Lib.hid hat
  have HTS := Lib.hid hts
  have HNB : Hid (∀ k, k ≤ l.length → (avL (l.take k)).length ≤ 4194304) := fun k hk => by
    have h2 : (avL l).length = (avL (l.take k)).length + (avL (l.drop k)).length := by
      unfold avL
      rw [← List.length_append, ← List.flatMap_append, List.take_append_drop]
    omega
  clear hat hL hts hc2 hn
  go_enter Tryz.func30, Tryz.ntmps30
  go_wp2
  go_loopw [3, 8] (fun v i wr => ∃ (k : Nat) (a' : Option Addr) (c' : Nat) (fs : List ByteArray), k ≤ l.length ∧ i = .int .i64 k ∧ v = .slice a' fs.length c' ∧ Hid (fs = avL (l.take k)) ∧ Hid (wr.ownsRow w.heap.size 9 1 (.slice a' fs.length c') fs.length (fs.flatMap strB)) ∧ Hid (Below w.heap.size w wr)) (fun _ i _ => l.length - (intOf i).toNat)
  case atStart => exact ⟨0, none, 0, [], Nat.zero_le _, rfl, rfl, rfl, World.ownsRow_nil _ _ _ _, Below.refl _ _⟩
  case round =>
    obtain ⟨k, a5, c5, fs, hk, rfl, rfl, HF, HO, HB⟩ := hrel
    obtain ⟨U, rfl⟩ : ∃ U, U = wr := ⟨_, rfl⟩
    by_cases hlt : k < l.length
    · have hlt' : (k : Int) < (l.length : Int) := by omega
      have hk0 : (0 : Int) ≤ (k : Int) := by omega
      obtain ⟨g, off, rfl, hg, hT⟩ := HAT.out (by omega)
      have r1 := range_below (hT k hlt) HB.out hg
      have HNX0 := Lib.hid (avL_take hlt)
      rw [← HF.out] at HNX0
      have HXI := Lib.hid (HIS.out k hlt)
      have hts0 : (atL l k).x.ts.length ≤ 1048576 := HTS.out k hlt
      have HNB1 := Lib.hid (HNB.out (k + 1) hlt)
      obtain ⟨y, hy⟩ : ∃ y, atL l k = y := ⟨_, rfl⟩
      rw [hy] at r1 HNX0 HXI hts0
      have hld := load_Lit r1 rfl
      have hst : (storeVar 55 ⟨U.heap.size, 0, none⟩ (.agg y.cells.toArray)).run Tryz.prog (U.alloc (.cells #[.int .i8 0, .string ⟨#[]⟩, .slice none 0 0, .int .i8 0, .int .i8 0, .string ⟨#[]⟩, .int .i8 0, .int .i64 0, .string ⟨#[]⟩, .slice none 0 0, .int .i8 0, .string ⟨#[]⟩, .int .i8 0, .int .i64 0, .string ⟨#[]⟩, .slice none 0 0] 55)) = .ok () (U.alloc (.cells y.cells.toArray 55)) := run_storeVar_new U 55 #[.int .i8 0, .string ⟨#[]⟩, .slice none 0 0, .int .i8 0, .int .i8 0, .string ⟨#[]⟩, .int .i8 0, .int .i64 0, .string ⟨#[]⟩, .slice none 0 0, .int .i8 0, .string ⟨#[]⟩, .int .i8 0, .int .i64 0, .string ⟨#[]⟩, .slice none 0 0] y.cells.toArray (by kernel_rfl) rfl (oneCells_lit _)
      have BA := belowA (w := U) (.cells y.cells.toArray 55)
      have HRN := Lib.hid (rl_new U y.cells.toArray 55)
      have HB2 := Lib.hid (HB.out.trans (BA.mono HB.out.size))
      have HO2 := Lib.hid (own_below HO.out BA)
      clear hT r1 hy BA HO
      generalize U.alloc (.cells y.cells.toArray 55) = W1 at hst HRN HB2 HO2
      obtain ⟨hf1, hf2⟩ := lit_atom (y := y) HRN.out
      generalize Value.agg y.cells.toArray = QV at hld hst
      by_cases hq : y.x.k = 1
      · have e1 : (y.x.k == 1) = true := by rw [hq]; rfl
        have HAV : Hid (avX y = vsT [] y.x.ts) := by show _ = _; unfold avX; rw [if_pos hq]
        have HAX := Lib.hid (vatomVars_any y.x.pr (.slice y.p.a y.x.ts.length y.p.c) y.x.ts W1 (by omega) (HXI.out W1 HB2.out).ts)
        rw [HAV.out] at HNX0
        have HNL : Hid ((vsT [] y.x.ts).length ≤ 1048576) := by
          show _ ≤ _
          have := vsT_len y.x.ts []
          simp only [List.length_nil] at this
          omega
        have HFL : Hid (fs.length ≤ 4194304) := by
          show _ ≤ _
          rw [HF.out]
          exact HNB.out k (by omega)
        generalize vsT [] y.x.ts = ns at HAX HNX0 HNL
        generalize Value.agg #[.string y.x.pr, .slice y.p.a y.x.ts.length y.p.c] = AV at hf2 HAX
        clear hq HAV HXI hts0 HF HRN HB HNB1
        go_wp2_with fail
        refine HAX.out.mono ?_
        rintro e w2 ⟨sv2, rfl, hown2, b2⟩
        have HLN0 := ls_own hown2
        obtain ⟨a2, c2, rfl, _⟩ := own_form hown2
        have HLN := Lib.hid HLN0
        have HO3 := Lib.hid (own_below HO2.out b2)
        have HB3 := Lib.hid (HB2.out.trans (b2.mono HB2.out.size))
        have hzz : w.heap.size ≤ w2.heap.size := HB3.out.size
        have hfl : fs.length ≤ 4194304 := HFL.out
        have hnl : ns.length ≤ 1048576 := HNL.out
        clear HLN0 hown2 b2 HAX HO2 HB2 hf1 hf2 hld hst
        go_wp2_with (at_builtin; refine wpList_appL rfl (.tmp 15) (.tmp 18) 33 9 rfl Tryz.underlying33 hi0 hz0 hz1 hz2 rfl (by decide) (b := w.heap.size) (v := .slice a5 fs.length c5) (n := fs.length) (xs := fs.flatMap strB) (a := a2) (c := c2) (m := ns.length) (ys := ns.flatMap strB) (by simp [Act.eval, Act.put]) HO3.out (by simp [Act.eval, Act.put]) HLN.out (strB_cells ns) (strB_one ns) (by unfold maxLen; omega) (by omega) hzz ?_; intro v' w4 hown' hgrow hloc)
        obtain ⟨a6, c6, rfl, _⟩ := own_form hown'
        have HB4 : Hid (Below w.heap.size w w4) := HB3.out.grown hgrow hzz (fun j hj => (HO3.out.lt j hj).1)
        have HO4 : Hid (w4.ownsRow w.heap.size 9 1 (.slice a6 (fs ++ ns).length c6) (fs ++ ns).length ((fs ++ ns).flatMap strB)) := by
          show World.ownsRow _ _ _ _ _ _ _
          rw [List.length_append, List.flatMap_append]
          exact hown'
        clear hown' hgrow hloc
        go_wp2
        go_roundw
        case rel => exact ⟨k + 1, a6, c6, fs ++ ns, by omega, by go_num, by first | rfl | simp, HNX0.out.symm, HO4, HB4⟩
        case measure => simp [intOf]; omega
      · have e1 : (y.x.k == 1) = false := by rw [beq_eq_false_iff_ne]; exact hq
        have HNF : Hid (fs = avL (l.take (k + 1))) := by show fs = _; rw [HNX0.out]; unfold avX; rw [if_neg hq, List.append_nil]
        clear hq HF
        go_wp2
        go_roundw
        case rel => exact ⟨k + 1, a5, c5, fs, by omega, by go_num, rfl, HNF, HO2, HB2⟩
        case measure => simp [intOf]; omega
    · obtain rfl : k = l.length := by omega
      have HE : Hid (fs = avL l) := by show fs = _; rw [HF.out, List.take_length]
      go_wp2
      go_ret
      exact ⟨_, rfl, by rw [← HE.out]; exact HO.out, HB.out⟩
theorem atomVarsP_any (d : Nat) (v : Value) (l : List XL) (w : World) (hL : Lb w v d l) (hts : ∀ i, i < l.length → (atL l i).x.ts.length ≤ 1048576) (hn : (avL l).length ≤ 1048576) (hll : l.length ≤ 1048576) :
    Calls Tryz.prog 30 #[v] w fun e w' => ∃ sv, e = .returned sv ∧ w'.ownsRow w.heap.size 9 1 sv (avL l).length ((avL l).flatMap strB) ∧ Below w.heap.size w w' :=
  atomVarsG_any d v l w hL hts (by omega) (by omega)
end Go.Proofs.YtgfnijhhhgjabaaGreatDoor
end
