import Derived.Test.YtjcfhhcohmcehaaGreatDoorRoX
import Derived.Test.YtjcfhhcohmcehaaGreatDoorRelTurnS
import Derived.Test.YtjcfhhcohmcehaaGreatDoorRelTurnL
import Derived.Test.YtjcfhhcohmcehaaGreatDoorRelLives
import Derived.Deep.Upon
namespace Go.Proofs.YtjcfhhcohmcehaaGreatDoor
open Go.RowKit Go.Maps
set_option linter.unusedVariables false
set_option linter.unusedSimpArgs false
attribute [local go_sem ↓] Go.wp_at_zero Go.wp_at_succ

/-- append(x, y...), x a row of the call's own, y any list, of elements of any number of cells -/
theorem run_app_ro {w : World} {b : Nat} {v : Value} {n size bytes : Nat} {xs : List Value} (t ty e : TypeId) (i : TypeInfo) (z : Value) (ht : Tryz.prog.underlying t = some (.slice e)) (hi : Tryz.prog.info? e = some i) (hz : i.zero = some z) (hsize : i.size = size) (hby : i.bytes = bytes) (hzs : z.cells.size = size) (hsz : 0 < size)
    (hown : w.ownsRow b e size v n xs) {a : Option Addr} {c m : Nat} {news : List Value} (hl : BK.Ls w (.slice a m c) m news) (hlen : news.length = m * size) (h1 : ∀ u ∈ news, u.oneCell' = true) (hmax : n + m ≤ maxLen) (hbd : (n + m) * bytes ≤ 140737488355328) (hb : b ≤ w.heap.size) :
    ∃ v' w', (Builtin.append_ #[t, t] ty #[v, .slice a m c]).run Tryz.prog w = .ok v' w' ∧ w'.ownsRow b e size v' (n + m) (xs ++ news) ∧ w.grownBy w' v.ownBlock ∧ (v'.ownBlock = v.ownBlock ∨ v'.ownBlock = some w.heap.size) := by
  by_cases h0 : m = 0
  · subst h0
    have hn : news = [] := List.eq_nil_of_length_eq_zero (by simpa using hlen)
    subst hn
    have hv : ∃ ba sc, v = .slice ba n sc ∧ n ≤ sc := by
      rcases hown.2 with ⟨rfl, rfl⟩ | ⟨g, cap, cur, rfl, _, _, hnc, _, _, _⟩
      · exact ⟨none, 0, rfl, Nat.le_refl _⟩
      · exact ⟨_, _, rfl, hnc⟩
    obtain ⟨ba, sc, rfl, hsc⟩ := hv
    refine ⟨_, _, run_append_nothing w _ _ ty _ i ht hi ba n sc hsc _ ⟨.inl ⟨_, ht⟩, by intro w'; cases a <;> simp [Builtin.lenOf], by cases a <;> simp [Builtin.firstCells, loadCells, loadCellsFrom], by cases a <;> simp [Builtin.firstCells, loadCells, loadCellsFrom], by simp, by simp⟩, ?_, ⟨rfl, rfl, rfl, Nat.le_refl _, fun _ _ _ => rfl⟩, .inl rfl⟩
    simpa using hown
  · obtain ⟨hn, a', c', hv, _, _, hc⟩ := hl
    cases hv
    obtain ⟨g, off, rfl, _, hf⟩ := hc (by omega)
    obtain ⟨v', w', e1, e2, e3, _, e5⟩ := run_append_own_at (P := Tryz.prog) w b t ty e i z size bytes ht hi hz hsize hby hzs hsz v n xs hown ⟨g, off, none⟩ m c news hlen (fun j u hu => by
      obtain ⟨hj, he⟩ := List.getElem?_eq_some_iff.1 hu
      have := hf j hj
      rw [he] at this
      rw [show (⟨g, off, none⟩ : Addr).add j = ⟨g, off + j, none⟩ from by simp [Addr.add]]
      exact this) h1 hmax hbd hb
    exact ⟨v', w', e1, e2, e3, e5⟩
theorem nextB {a u v : World} (h : Below a.heap.size a u) (b : Below u.heap.size u v) : Below a.heap.size a v := h.trans (b.mono h.size)
theorem lex_unique : ∀ l m : List (List Int), l.Pairwise (fun x y => lexI x y < 0) → m.Pairwise (fun x y => lexI x y < 0) → (∀ x, x ∈ l ↔ x ∈ m) → l = m
  | [], [], _, _, _ => rfl
  | [], y :: m, _, _, h => absurd ((h y).2 List.mem_cons_self) (by simp)
  | x :: l, [], _, _, h => absurd ((h x).1 List.mem_cons_self) (by simp)
  | x :: l, y :: m, hl, hm, h => by
    have irr : ∀ z, ¬ lexI z z < 0 := fun z => by rw [lexI_self]; omega
    obtain ⟨hx, hl'⟩ := List.pairwise_cons.1 hl
    obtain ⟨hy, hm'⟩ := List.pairwise_cons.1 hm
    have hxy : x = y := by
      rcases List.mem_cons.1 ((h x).1 List.mem_cons_self) with e | h1
      · exact e
      · rcases List.mem_cons.1 ((h y).2 List.mem_cons_self) with e | h2
        · exact e.symm
        · exact absurd (lexI_trans (hy x h1) (hx y h2)) (irr y)
    subst hxy
    rw [lex_unique l m hl' hm' (fun z => ⟨fun hz => ?_, fun hz => ?_⟩)]
    · rcases List.mem_cons.1 ((h z).1 (List.mem_cons_of_mem _ hz)) with e | h1
      · subst e; exact absurd (hx z hz) (irr z)
      · exact h1
    · rcases List.mem_cons.1 ((h z).2 (List.mem_cons_of_mem _ hz)) with e | h1
      · subst e; exact absurd (hy z hz) (irr z)
      · exact h1
theorem lex_strict {rs rows : List (List Int)} (nd : rows.Nodup) (hp : rs.Perm rows) (h : ∀ (i j : Nat) x y, i < j → rs[i]? = some x → rs[j]? = some y → 0 ≤ lexI y x) : rs.Pairwise (fun x y => lexI x y < 0) := by
  have nd' : rs.Nodup := hp.nodup_iff.2 nd
  refine List.pairwise_iff_getElem.2 (fun i j hi hj hij => ?_)
  have h1 := h i j _ _ hij (List.getElem?_eq_getElem hi) (List.getElem?_eq_getElem hj)
  have h2 := lexI_swap rs[i] rs[j]
  have h3 : lexI rs[i] rs[j] ≠ 0 := fun e => by
    have := lexI_zero e
    exact List.pairwise_iff_getElem.1 nd' i j hi hj hij this
  omega
theorem sorted_one {rs rs' rows : List (List Int)} (nd : rows.Nodup) (hp : rs.Perm rows) (hp' : rs'.Perm rows) (h : ∀ (i j : Nat) x y, i < j → rs[i]? = some x → rs[j]? = some y → 0 ≤ lexI y x) (h' : ∀ (i j : Nat) x y, i < j → rs'[i]? = some x → rs'[j]? = some y → 0 ≤ lexI y x) : rs' = rs :=
  lex_unique _ _ (lex_strict nd hp' h') (lex_strict nd hp h) (fun x => (hp'.mem_iff).trans hp.mem_iff.symm)
theorem sel_all {rows : List (List Int)} {x : List Int} (hr : ∀ r ∈ rows, RowOk r) (hx : RowOk x) : (selN (bits BinOp.and IntKind.u32 0 7) rows (underL (bits BinOp.and IntKind.u32 0 7) x) rows.length).length = rows.length := by
  have e0 : bits BinOp.and IntKind.u32 0 7 = 0 := by decide
  have ho : ∀ i, i < 24 → offB 0 i = true := by decide
  rw [e0]
  unfold selN
  rw [List.filter_eq_self.2]
  · simp
  · intro i hi
    have hi' := List.mem_range.1 hi
    have hr' : (rows.getD i []).length = 24 := by
      rw [List.getD, List.getElem?_eq_getElem hi']
      exact (hr _ (List.getElem_mem hi')).len
    exact decide_eq_true ((underL_eq hx.len hr').2 (fun j hj => .inl (ho j hj)))
theorem region_R8 {P : Program} {id : Nat} {ops : Array Oper} {b : Bool} {Q : Exit → Act → World → Prop} {a : Act} {w : World} (R : Option Addr → Nat → Option Addr → Nat → Option Addr → Nat → Option Addr → Nat → World → Prop)
    (h : ∃ A : Option Addr → Nat → Option Addr → Nat → Option Addr → Nat → Option Addr → Nat → Act, (Code.region id ops b).wp P (fun e a' w' => e = .normal ∧ ∃ a1 c1 a2 c2 a3 c3 a4 c4, a' = A a1 c1 a2 c2 a3 c3 a4 c4 ∧ R a1 c1 a2 c2 a3 c3 a4 c4 w') a w ∧ ∀ a1 c1 a2 c2 a3 c3 a4 c4 w', R a1 c1 a2 c2 a3 c3 a4 c4 w' → Q .normal (A a1 c1 a2 c2 a3 c3 a4 c4) w') : (Code.region id ops b).wp P Q a w := by
  obtain ⟨A, h, hk⟩ := h
  exact Code.wp_mono (fun e a' w' h => by obtain ⟨rfl, a1, c1, a2, c2, a3, c3, a4, c4, rfl, hr⟩ := h; exact hk _ _ _ _ _ _ _ _ _ hr) h
theorem infoInts : (Tryz.prog.info? 3).map (fun i => (i.zero, i.size, i.bytes)) = some (some (.int .i64 0), 1, 8) := by kernel_rfl
theorem infoRows : (Tryz.prog.info? 27).map (fun i => (i.zero, i.size, i.bytes)) = some (some (.agg #[.int .i32 0, .int .i32 0, .int .i32 0, .int .i32 0, .int .i32 0, .int .i32 0, .int .i32 0, .int .i32 0, .int .i32 0, .int .i32 0, .int .i32 0, .int .i32 0, .int .i32 0, .int .i32 0, .int .i32 0, .int .i32 0, .int .i32 0, .int .i32 0, .int .i32 0, .int .i32 0, .int .i32 0, .int .i32 0, .int .i32 0, .int .i32 0]), 24, 96) := by kernel_rfl
theorem own_low2 {w : World} {B B' : Nat} {e : TypeId} {k : Nat} {v : Value} {n : Nat} {xs : List Value} (h : w.ownsRow B e k v n xs) (hB : B' ≤ B) : w.ownsRow B' e k v n xs := own_low h hB
attribute [-go_sem] loadVar Builtin.append_
set_option maxHeartbeats 25600000 in
set_option maxRecDepth 100000 in
theorem relationOwn_walk (a : Option Addr) (c : Nat) (ts : List Tn) (mk : Int) (x : List Int) (hx : RowOk x) (w : World) (hL : LtC w (.slice a ts.length c) ts) (hle : ts.length ≤ 1048576) :
    Calls Tryz.prog 3 #[.slice a ts.length c, .int .u32 mk, rowV x] w fun e w' => e = .returned (.bool true) ∧ Below w.heap.size w w' := by
  obtain ⟨i0, hi0, hz0, hz1, hz2⟩ := BK.info_partsB infoInts
  obtain ⟨j0, hj0, hy0, hy1, hy2⟩ := BK.info_partsB infoRows
  have hb0 : Below w.heap.size w (w.alloc (.cells (List.map cellI x).toArray 27)) := (Below.refl _ _).alloc (Nat.le_refl _) _
  have HB0 := Lib.hid hb0
  have HBX := Lib.hid (rowAt_new w x)
  have HLT : Hid (∀ u, Below w.heap.size w u → Lt u (.slice a ts.length c) ts) := fun u hu => (LtC.lt hL).below hu
  have HXO := Lib.hid hx
  clear hL hb0 hx
  unfold rowV
  go_enter Tryz.func3, Tryz.ntmps3
  go_upto_region 1 with fail
  generalize hw0 : w.alloc (.cells (List.map cellI x).toArray 27) = W0 at HB0 ⊢
  have HBX0 : Hid (RowAt W0 w.heap.size x) := by rw [← hw0]; exact HBX.out
  clear hw0 HBX
  have HQ := Lib.hid (lives10_true W0)
  go_wp2_with fail
  refine HQ.out.mono ?_
  rintro e W1 ⟨rfl, b⟩
  have B1 : Hid (Below w.heap.size w W1) := HB0.out.trans (b.mono HB0.out.size)
  have HBX1 := Lib.hid (HBX0.out.below b)
  clear b HQ HB0 HBX0
  have HQ := Lib.hid (turned_any 3 (by omega) (by omega) (.slice a ts.length c) ts W1 (HLT.out W1 B1.out) (by omega))
  have HSZ0 := Lib.hid (turnL_len 3 ts ts.length (Nat.le_refl _)).1
  rw [List.take_length] at HSZ0
  generalize (turnL 3 ts).1 = rows at HQ HSZ0
  generalize (turnL 3 ts).2 = gone at HQ
  go_wp2_with fail
  refine HQ.out.mono ?_
  rintro e x0 ⟨t, m, sv, o, rfl, hT⟩
  have hrl : rows.length ≤ 1048576 := by have := HSZ0.out; omega
  have HREL := Lib.hid hT.rel
  have HRW := Lib.hid hT.own
  have BX0 : Hid (Below w.heap.size w x0) := (B1.out.trans (hT.bel.mono B1.out.size))
  have HBX := Lib.hid (HBX1.out.below hT.bel)
  obtain ⟨ao, co, rfl, _⟩ := own_form hT.own
  clear hT HQ HBX1 B1 HLT HSZ0
  have HRK : Hid (∀ u, Below x0.heap.size x0 u → Rel u W1.heap.size t m sv rows 3 gone) := fun u hu => HREL.out.keep hu
  have HXL : Hid (∀ u, Below x0.heap.size x0 u → (loadVar 27 ⟨w.heap.size, 0, none⟩).run Tryz.prog u = .ok (rowV x) u) := fun u hu => run_loadRow (HBX.out.below hu) HXO.out.len
  obtain ⟨L1, hL1⟩ : ∃ L1, L1 = selN (bits BinOp.and IntKind.u32 mk 7) rows (underL (bits BinOp.and IntKind.u32 mk 7) x) rows.length := ⟨_, rfl⟩
  obtain ⟨L0, hL0⟩ : ∃ L0, L0 = selN (bits BinOp.and IntKind.u32 0 7) rows (underL (bits BinOp.and IntKind.u32 0 7) x) rows.length := ⟨_, rfl⟩
  have hL1n : L1.length ≤ rows.length := by rw [hL1]; exact selN_len _ _ _ _
  have hL0n : L0.length = rows.length := by rw [hL0]; exact sel_all HREL.out.ok HXO.out
  have K1 : Hid (∀ u, Below x0.heap.size x0 u → Calls Tryz.prog 6 #[.pointer (some ⟨t, 0, none⟩), .int .u32 mk, rowV x] u fun e w' => ∃ a c, e = .returned (.slice a L1.length c) ∧ w'.ownsRow u.heap.size 3 1 (.slice a L1.length c) L1.length (L1.map intN) ∧ Below u.heap.size u w') := fun u hu => by rw [hL1]; exact select3 (HRK.out u hu) (by omega) mk x HXO.out
  have K0 : Hid (∀ u, Below x0.heap.size x0 u → Calls Tryz.prog 6 #[.pointer (some ⟨t, 0, none⟩), .int .u32 0, rowV x] u fun e w' => ∃ a c, e = .returned (.slice a L0.length c) ∧ w'.ownsRow u.heap.size 3 1 (.slice a L0.length c) L0.length (L0.map intN) ∧ Below u.heap.size u w') := fun u hu => by rw [hL0]; exact select3 (HRK.out u hu) (by omega) 0 x HXO.out
  have HL0N := Lib.hid hL0n
  clear hL1 hL0 hL0n
  go_upto_region 6 with fail
  refine region_R8 (fun a1 c1 a2 c2 a3 c3 a4 c4 x4 => ∃ x1 x2 x3 : World, Below x0.heap.size x0 x1 ∧ x1.ownsRow x0.heap.size 3 1 (.slice a1 L1.length c1) L1.length (L1.map intN) ∧ Below x1.heap.size x1 x2 ∧ x2.ownsRow x1.heap.size 3 1 (.slice a2 L1.length c2) L1.length (L1.map intN) ∧ Below x2.heap.size x2 x3 ∧ x3.ownsRow x2.heap.size 3 1 (.slice a3 L0.length c3) L0.length (L0.map intN) ∧ Below x3.heap.size x3 x4 ∧ x4.ownsRow x3.heap.size 3 1 (.slice a4 L1.length c4) L1.length (L1.map intN)) ?_
  apply Exists.intro
  refine ⟨?_, ?_⟩
  · refine wp_region_noPanic ?_
    refine wp_region_held (S := fun u => Below x0.heap.size x0 u) (by kernel_rfl) ?_
    refine oreg6 (w5 := x0) (S := fun u => Below x0.heap.size x0 u) (t := t) (bx := w.heap.size) (n1 := L1.length) (n0 := L0.length) (mk := mk) (X := rowV x) (fun u w' a c => w'.ownsRow u.heap.size 3 1 (.slice a L1.length c) L1.length (L1.map intN)) (fun u w' a c => w'.ownsRow u.heap.size 3 1 (.slice a L0.length c) L0.length (L0.map intN)) rfl rfl rfl rfl rfl rfl rfl rfl rfl rfl rfl rfl rfl rfl rfl rfl rfl rfl rfl (by kernel_rfl) (by kernel_rfl) (by kernel_rfl) (by kernel_rfl) (by kernel_rfl) (by kernel_rfl) (by kernel_rfl) (fun _ _ _ _ _ h => h) (by simp) rfl rfl rfl (Below.refl _ _).drew (fun u u' h b => h.trans (b.mono h.size)) HXL.out K1.out K0.out ?_
    intro u1 u2 u3 u4 a1 a2 a3 a4 c1 c2 c3 c4 b1 p1 b2 p2 b3 p3 b4 p4
    exact NoPanic.normal ⟨rfl, a1, c1, a2, c2, a3, c3, a4, c4, rfl, u1, u2, u3, b1, p1, b2, p2, b3, p3, b4, p4⟩
  rintro aA cA aB cB aC cC aD cD x4 ⟨x1, x2, x3, b0, oA, b1, oB, b2, oC, b3, oD⟩
  try simp (config := { maxSteps := 10000000 }) only [Act.put, List.getElem_toArray, List.getElem_cons_zero, List.getElem_cons_succ, List.setIfInBounds_toArray, List.set_cons_succ, List.set_cons_zero]
  have S0 := Lib.hid b0
  have S1 := Lib.hid b1
  have S2 := Lib.hid b2
  have S3 := Lib.hid b3
  have NA := Lib.hid oA
  have NB := Lib.hid oB
  have NC := Lib.hid oC
  have ND := Lib.hid oD
  clear b0 b1 b2 b3 oA oB oC oD K0
  have HQ := Lib.hid (sorted_yes (HRK.out x4 (nextB (nextB (nextB S0.out S1.out) S2.out) S3.out)) (by omega))
  go_wp2_with fail
  refine HQ.out.mono ?_
  rintro e x5 ⟨aS, cS, rfl, rs, hp, hs, ho, b⟩
  have S4 := Lib.hid b
  have HPS : Hid (rs.Perm rows ∧ ∀ (i j : Nat) x y, i < j → rs[i]? = some x → rs[j]? = some y → 0 ≤ lexI y x) := ⟨hp, hs⟩
  have hrsl : rs.length = rows.length := hp.length_eq
  have NS : Hid (x5.ownsRow x4.heap.size 27 24 (.slice aS rows.length cS) rows.length (flatR rs)) := ho
  have HRO : Hid (∀ r ∈ rs, RowOk r) := fun r hr => HREL.out.ok r (hp.mem_iff.1 hr)
  obtain ⟨SR, hSR⟩ : ∃ SR, SR = rs := ⟨_, rfl⟩
  rw [← hSR] at HPS NS HRO hrsl
  have HRSL := Lib.hid hrsl
  clear hp hs ho b HQ hSR hrsl
  have HQ := Lib.hid (sorted_yes (HRK.out x5 (nextB (nextB (nextB (nextB S0.out S1.out) S2.out) S3.out) S4.out)) (by omega))
  go_wp2_with fail
  refine HQ.out.mono ?_
  rintro e x6 ⟨aT, cT, rfl, rs, hp, hs, ho, b⟩
  have S5 := Lib.hid b
  obtain rfl := (sorted_one HREL.out.nd HPS.out.1 hp HPS.out.2 hs).symm
  have NT : Hid (x6.ownsRow x5.heap.size 27 24 (.slice aT rows.length cT) rows.length (flatR SR)) := ho
  clear hp hs ho b HQ
  have HQ := Lib.hid (clone_yes (HRK.out x6 (nextB (nextB (nextB (nextB (nextB S0.out S1.out) S2.out) S3.out) S4.out) S5.out)) (by omega))
  go_wp2_with fail
  refine HQ.out.mono ?_
  rintro e x7 ⟨t2, m2, sv2, rfl, hc, b⟩
  have S6 := Lib.hid b
  have HCL := Lib.hid hc
  clear b hc HQ
  have HQ := Lib.hid (sorted_yes (HCL.out) (by omega))
  go_wp2_with fail
  refine HQ.out.mono ?_
  rintro e x8 ⟨aU, cU, rfl, rs, hp, hs, ho, b⟩
  have S7 := Lib.hid b
  obtain rfl := (sorted_one HREL.out.nd HPS.out.1 hp HPS.out.2 hs).symm
  have NU : Hid (x8.ownsRow x7.heap.size 27 24 (.slice aU rows.length cU) rows.length (flatR SR)) := ho
  clear hp hs ho b HQ
  have hl0' : ((L0.length : Int) != (rows.length : Int)) = false := by rw [HL0N.out]; simp
  have HQ := Lib.hid (sameInts_same _ _ L1 x8 (by omega) (BK.ls_own (own_below NA.out (nextB (nextB (nextB (nextB (nextB (nextB S1.out S2.out) S3.out) S4.out) S5.out) S6.out) S7.out))) (BK.ls_own (own_below NB.out (nextB (nextB (nextB (nextB (nextB S2.out S3.out) S4.out) S5.out) S6.out) S7.out))))
  go_wp2_with fail
  refine HQ.out.mono ?_
  rintro e x9 ⟨rfl, b⟩
  have S8 := Lib.hid b
  clear b HQ
  have HQ := Lib.hid (sameInts_same _ _ L1 x9 (by omega) (BK.ls_own (own_below NA.out (nextB (nextB (nextB (nextB (nextB (nextB (nextB S1.out S2.out) S3.out) S4.out) S5.out) S6.out) S7.out) S8.out))) (BK.ls_own (own_below ND.out (nextB (nextB (nextB (nextB S4.out S5.out) S6.out) S7.out) S8.out))))
  go_wp2_with fail
  refine HQ.out.mono ?_
  rintro e x10 ⟨rfl, b⟩
  have S9 := Lib.hid b
  clear b HQ
  have HQ := Lib.hid (sameRows_same (.slice aS rows.length cS) (.slice aT rows.length cT) SR x10 (by have := HRSL.out; omega) HRO.out (by rw [HRSL.out]; exact BK.ls_own (own_below NS.out (nextB (nextB (nextB (nextB S5.out S6.out) S7.out) S8.out) S9.out))) (by rw [HRSL.out]; exact BK.ls_own (own_below NT.out (nextB (nextB (nextB S6.out S7.out) S8.out) S9.out))))
  go_wp2_with fail
  refine HQ.out.mono ?_
  rintro e x11 ⟨rfl, b⟩
  have S10 := Lib.hid b
  clear b HQ
  have HQ := Lib.hid (sameRows_same (.slice aS rows.length cS) (.slice aU rows.length cU) SR x11 (by have := HRSL.out; omega) HRO.out (by rw [HRSL.out]; exact BK.ls_own (own_below NS.out (nextB (nextB (nextB (nextB (nextB S5.out S6.out) S7.out) S8.out) S9.out) S10.out))) (by rw [HRSL.out]; exact BK.ls_own (own_below NU.out (nextB (nextB S8.out S9.out) S10.out))))
  go_wp2_with fail
  refine HQ.out.mono ?_
  rintro e x12 ⟨rfl, b⟩
  have S11 := Lib.hid b
  clear b HQ
  obtain ⟨v13, x13, hr13, ho13, hg13, _⟩ := run_app_ro (w := x12) (b := x12.heap.size) (v := .slice none 0 0) (n := 0) (xs := []) 33 33 3 i0 _ Tryz.underlying33 hi0 hz0 hz1 hz2 rfl (by decide) (World.ownsRow_nil _ _ _ _) (BK.ls_own (own_below NA.out (nextB (nextB (nextB (nextB (nextB (nextB (nextB (nextB (nextB (nextB S1.out S2.out) S3.out) S4.out) S5.out) S6.out) S7.out) S8.out) S9.out) S10.out) S11.out))) (by simp) (fun u hu => by obtain ⟨y, _, rfl⟩ := List.mem_map.1 hu; rfl) (by unfold maxLen; omega) (by omega) (Nat.le_refl _)
  rw [Nat.zero_add, List.nil_append] at ho13
  obtain ⟨aW, cW, rfl, _⟩ := own_form ho13
  have S12 : Hid (Below x12.heap.size x12 x13) := (Below.refl _ _).grown hg13 (Nat.le_refl _) (fun j hj => by cases hj)
  have NW := Lib.hid ho13
  clear ho13 hg13
  obtain ⟨v14, x14, hr14, ho14, hg14, _⟩ := run_app_ro (w := x13) (b := x13.heap.size) (v := .slice none 0 0) (n := 0) (xs := []) 30 30 27 j0 _ Tryz.underlying30 hj0 hy0 hy1 hy2 rfl (by decide) (World.ownsRow_nil _ _ _ _) (BK.ls_own (own_below NS.out (nextB (nextB (nextB (nextB (nextB (nextB (nextB S5.out S6.out) S7.out) S8.out) S9.out) S10.out) S11.out) S12.out))) (by have := NS.out.1; exact this) (fun u hu => by obtain ⟨r, _, hu⟩ := List.mem_flatMap.1 hu; obtain ⟨y, _, rfl⟩ := List.mem_map.1 hu; rfl) (by unfold maxLen; omega) (by omega) (Nat.le_refl _)
  rw [Nat.zero_add, List.nil_append] at ho14
  obtain ⟨aX, cX, rfl, _⟩ := own_form ho14
  have S13 : Hid (Below x13.heap.size x13 x14) := (Below.refl _ _).grown hg14 (Nat.le_refl _) (fun j hj => by cases hj)
  have NX := Lib.hid ho14
  clear ho14 hg14
  have S14 : Hid (Below x14.heap.size x14 (x14.alloc (.cells (#[.int .i64 0, .slice none 0 0, .slice none 0 0, .slice none 0 0, .slice none 0 0, .slice none 0 0, .slice none 0 0, .slice none 0 0, .slice none 0 0, .slice none 0 0, .slice none 0 0, .slice none 0 0, .slice none 0 0, .slice none 0 0, .slice none 0 0, .slice none 0 0, .slice none 0 0, .slice none 0 0, .slice none 0 0, .slice none 0 0, .slice none 0 0, .slice none 0 0, .slice none 0 0, .slice none 0 0, .slice none 0 0, .slice none 0 0, .slice none 0 0, .slice none 0 0, .slice none 0 0, .slice none 0 0, .slice none 0 0, .slice none 0 0] : Array Value) 71))) := (Below.refl _ _).alloc (Nat.le_refl _) _
  have HBK := Lib.hid (BK.rl_new x14 (#[.int .i64 0, .slice none 0 0, .slice none 0 0, .slice none 0 0, .slice none 0 0, .slice none 0 0, .slice none 0 0, .slice none 0 0, .slice none 0 0, .slice none 0 0, .slice none 0 0, .slice none 0 0, .slice none 0 0, .slice none 0 0, .slice none 0 0, .slice none 0 0, .slice none 0 0, .slice none 0 0, .slice none 0 0, .slice none 0 0, .slice none 0 0, .slice none 0 0, .slice none 0 0, .slice none 0 0, .slice none 0 0, .slice none 0 0, .slice none 0 0, .slice none 0 0, .slice none 0 0, .slice none 0 0, .slice none 0 0, .slice none 0 0] : Array Value) 71)
  have HZ15 : Hid (x14.heap.size + 1 = (x14.alloc (.cells (#[.int .i64 0, .slice none 0 0, .slice none 0 0, .slice none 0 0, .slice none 0 0, .slice none 0 0, .slice none 0 0, .slice none 0 0, .slice none 0 0, .slice none 0 0, .slice none 0 0, .slice none 0 0, .slice none 0 0, .slice none 0 0, .slice none 0 0, .slice none 0 0, .slice none 0 0, .slice none 0 0, .slice none 0 0, .slice none 0 0, .slice none 0 0, .slice none 0 0, .slice none 0 0, .slice none 0 0, .slice none 0 0, .slice none 0 0, .slice none 0 0, .slice none 0 0, .slice none 0 0, .slice none 0 0, .slice none 0 0, .slice none 0 0] : Array Value) 71)).heap.size) := by show _ = _; simp
  go_upto_region 14 with fail
  generalize x14.alloc (.cells (#[.int .i64 0, .slice none 0 0, .slice none 0 0, .slice none 0 0, .slice none 0 0, .slice none 0 0, .slice none 0 0, .slice none 0 0, .slice none 0 0, .slice none 0 0, .slice none 0 0, .slice none 0 0, .slice none 0 0, .slice none 0 0, .slice none 0 0, .slice none 0 0, .slice none 0 0, .slice none 0 0, .slice none 0 0, .slice none 0 0, .slice none 0 0, .slice none 0 0, .slice none 0 0, .slice none 0 0, .slice none 0 0, .slice none 0 0, .slice none 0 0, .slice none 0 0, .slice none 0 0, .slice none 0 0, .slice none 0 0, .slice none 0 0] : Array Value) 71) = x15 at S14 HBK HZ15 ⊢
  clear hr13 hr14
  have HSZ : Hid (x0.heap.size ≤ x1.heap.size ∧ x1.heap.size ≤ x2.heap.size ∧ x2.heap.size ≤ x3.heap.size ∧ x3.heap.size ≤ x4.heap.size ∧ x4.heap.size ≤ x5.heap.size ∧ x5.heap.size ≤ x6.heap.size ∧ x6.heap.size ≤ x7.heap.size ∧ x7.heap.size ≤ x8.heap.size ∧ x8.heap.size ≤ x9.heap.size ∧ x9.heap.size ≤ x10.heap.size ∧ x10.heap.size ≤ x11.heap.size ∧ x11.heap.size ≤ x12.heap.size ∧ x12.heap.size ≤ x13.heap.size ∧ x13.heap.size ≤ x14.heap.size ∧ x14.heap.size + 1 = x15.heap.size) := ⟨S0.out.size, S1.out.size, S2.out.size, S3.out.size, S4.out.size, S5.out.size, S6.out.size, S7.out.size, S8.out.size, S9.out.size, S10.out.size, S11.out.size, S12.out.size, S13.out.size, HZ15.out⟩
  obtain ⟨B, hB⟩ : ∃ B, B = x15.heap.size := ⟨_, rfl⟩
  have HBE := Lib.hid hB
  clear hB
  have HRA0 : Hid (∃ (n : Nat) (C : Nat → Prop) (v1 v2 : Value) (h1 h2 : List BK.Hd), BK.Reg x15 x0.heap.size x14.heap.size B n C v1 v2 h1 h2 ∧ n ≤ 0 ∧ ∀ g, C g → g < 0) := by
    have hb : x14.heap.size < B := by have h3 := HSZ.out; have h5 := HBE.out; omega
    refine ⟨0, fun g => g < 0, .slice none 0 0, .slice none 0 0, [], [], ⟨⟨HBK.out, by simpa using World.ownsRow_nil x15 B _ 3, by simpa using World.ownsRow_nil x15 B _ 3, fun g h => (by cases h), hb⟩, ?_, ?_, ⟨?_⟩, ?_, ⟨Nat.zero_le _, Nat.zero_le _⟩⟩, Nat.le_refl _, fun g e => e⟩
    · exact ⟨fun h hm => (by cases hm), fun h hm => (by cases hm), List.Pairwise.nil, fun h hm => (by cases hm), Nat.zero_le _⟩
    · exact ⟨fun h hm => (by cases hm), fun h hm => (by cases hm), List.Pairwise.nil, fun h hm => (by cases hm), Nat.zero_le _⟩
    · rintro g ⟨h, hm, _⟩; cases hm
    · rintro g (⟨h, hm, _⟩ | ⟨h, hm, _⟩) <;> cases hm
  have HT0 : Hid (BK.Tch (BK.EB x14.heap.size B) x15 x15) := BK.Tch.refl _ _
  clear HBK HZ15
  obtain ⟨n, C, v1, v2, h1, h2, hr, hn, hcv⟩ := HRA0.out
  have HCV := Lib.hid hcv
  have HNB := Lib.hid hn
  have HC := Lib.hid (BK.bkInts_any (lo := x0.heap.size) (hi := x1.heap.size) hr (by have h5 := HBE.out; have h6 := HT0.out.size; omega) (by omega) (own_of_block NA.out (fun g hg => by
    have h7 := NA.out.lt g hg
    have h3 := HSZ.out
    rw [HT0.out.block g (by omega) (fun e => by have h5 := HBE.out; rcases e with e | e <;> omega), ((nextB (nextB (nextB (nextB (nextB (nextB (nextB (nextB (nextB (nextB (nextB (nextB (nextB S1.out S2.out) S3.out) S4.out) S5.out) S6.out) S7.out) S8.out) S9.out) S10.out) S11.out) S12.out) S13.out) S14.out)).block g h7.2])) (fun g hg => NA.out.lt g hg) (by have h3 := HSZ.out; omega) (by have h3 := HSZ.out; have h5 := HBE.out; omega) (by have h3 := HSZ.out; omega) (fun g g1 g2 hc => by have h3 := HSZ.out; have h5 := hcv g hc; omega) (by have h9 := HL0N.out; omega))
  clear hr hn hcv HRA0
  go_wp2_with fail
  refine HC.out.mono ?_
  rintro e y1 ⟨rfl, tc, v3, v4, h3, h4, hr⟩
  have HRA1 : Hid (∃ (n : Nat) (C : Nat → Prop) (v1 v2 : Value) (h1 h2 : List BK.Hd), BK.Reg y1 x0.heap.size x14.heap.size B n C v1 v2 h1 h2 ∧ n ≤ 1 ∧ ∀ g, C g → g < 0 ∨ (x0.heap.size ≤ g ∧ g < x1.heap.size)) := ⟨_, _, v3, v4, h3, h4, hr, by have h8 := HNB.out; omega, fun g e => by
    rcases e with e | e
    · have h9 := HCV.out g e; omega
    · omega⟩
  have HT1 := Lib.hid (HT0.out.trans tc)
  clear tc hr HC HT0 HCV HNB v3 v4 h3 h4 C v1 v2 h1 h2 n
  obtain ⟨n, C, v1, v2, h1, h2, hr, hn, hcv⟩ := HRA1.out
  have HCV := Lib.hid hcv
  have HNB := Lib.hid hn
  have HC := Lib.hid (BK.bkInts_any (lo := x1.heap.size) (hi := x2.heap.size) hr (by have h5 := HBE.out; have h6 := HT1.out.size; omega) (by omega) (own_of_block NB.out (fun g hg => by
    have h7 := NB.out.lt g hg
    have h3 := HSZ.out
    rw [HT1.out.block g (by omega) (fun e => by have h5 := HBE.out; rcases e with e | e <;> omega), ((nextB (nextB (nextB (nextB (nextB (nextB (nextB (nextB (nextB (nextB (nextB (nextB S2.out S3.out) S4.out) S5.out) S6.out) S7.out) S8.out) S9.out) S10.out) S11.out) S12.out) S13.out) S14.out)).block g h7.2])) (fun g hg => NB.out.lt g hg) (by have h3 := HSZ.out; omega) (by have h3 := HSZ.out; have h5 := HBE.out; omega) (by have h3 := HSZ.out; omega) (fun g g1 g2 hc => by have h3 := HSZ.out; have h5 := hcv g hc; omega) (by have h9 := HL0N.out; omega))
  clear hr hn hcv HRA1
  go_wp2_with fail
  refine HC.out.mono ?_
  rintro e y2 ⟨rfl, tc, v3, v4, h3, h4, hr⟩
  have HRA2 : Hid (∃ (n : Nat) (C : Nat → Prop) (v1 v2 : Value) (h1 h2 : List BK.Hd), BK.Reg y2 x0.heap.size x14.heap.size B n C v1 v2 h1 h2 ∧ n ≤ 2 ∧ ∀ g, C g → g < 0 ∨ (x0.heap.size ≤ g ∧ g < x1.heap.size) ∨ (x1.heap.size ≤ g ∧ g < x2.heap.size)) := ⟨_, _, v3, v4, h3, h4, hr, by have h8 := HNB.out; omega, fun g e => by
    rcases e with e | e
    · have h9 := HCV.out g e; omega
    · omega⟩
  have HT2 := Lib.hid (HT1.out.trans tc)
  clear tc hr HC HT1 HCV HNB v3 v4 h3 h4 C v1 v2 h1 h2 n
  obtain ⟨n, C, v1, v2, h1, h2, hr, hn, hcv⟩ := HRA2.out
  have HCV := Lib.hid hcv
  have HNB := Lib.hid hn
  have HC := Lib.hid (BK.bkInts_any (lo := x2.heap.size) (hi := x3.heap.size) hr (by have h5 := HBE.out; have h6 := HT2.out.size; omega) (by omega) (own_of_block NC.out (fun g hg => by
    have h7 := NC.out.lt g hg
    have h3 := HSZ.out
    rw [HT2.out.block g (by omega) (fun e => by have h5 := HBE.out; rcases e with e | e <;> omega), ((nextB (nextB (nextB (nextB (nextB (nextB (nextB (nextB (nextB (nextB (nextB S3.out S4.out) S5.out) S6.out) S7.out) S8.out) S9.out) S10.out) S11.out) S12.out) S13.out) S14.out)).block g h7.2])) (fun g hg => NC.out.lt g hg) (by have h3 := HSZ.out; omega) (by have h3 := HSZ.out; have h5 := HBE.out; omega) (by have h3 := HSZ.out; omega) (fun g g1 g2 hc => by have h3 := HSZ.out; have h5 := hcv g hc; omega) (by have h9 := HL0N.out; omega))
  clear hr hn hcv HRA2
  go_wp2_with fail
  refine HC.out.mono ?_
  rintro e y3 ⟨rfl, tc, v3, v4, h3, h4, hr⟩
  have HRA3 : Hid (∃ (n : Nat) (C : Nat → Prop) (v1 v2 : Value) (h1 h2 : List BK.Hd), BK.Reg y3 x0.heap.size x14.heap.size B n C v1 v2 h1 h2 ∧ n ≤ 3 ∧ ∀ g, C g → g < 0 ∨ (x0.heap.size ≤ g ∧ g < x1.heap.size) ∨ (x1.heap.size ≤ g ∧ g < x2.heap.size) ∨ (x2.heap.size ≤ g ∧ g < x3.heap.size)) := ⟨_, _, v3, v4, h3, h4, hr, by have h8 := HNB.out; omega, fun g e => by
    rcases e with e | e
    · have h9 := HCV.out g e; omega
    · omega⟩
  have HT3 := Lib.hid (HT2.out.trans tc)
  clear tc hr HC HT2 HCV HNB v3 v4 h3 h4 C v1 v2 h1 h2 n
  obtain ⟨n, C, v1, v2, h1, h2, hr, hn, hcv⟩ := HRA3.out
  have HCV := Lib.hid hcv
  have HNB := Lib.hid hn
  have HC := Lib.hid (BK.bkInts_any (lo := x3.heap.size) (hi := x4.heap.size) hr (by have h5 := HBE.out; have h6 := HT3.out.size; omega) (by omega) (own_of_block ND.out (fun g hg => by
    have h7 := ND.out.lt g hg
    have h3 := HSZ.out
    rw [HT3.out.block g (by omega) (fun e => by have h5 := HBE.out; rcases e with e | e <;> omega), ((nextB (nextB (nextB (nextB (nextB (nextB (nextB (nextB (nextB (nextB S4.out S5.out) S6.out) S7.out) S8.out) S9.out) S10.out) S11.out) S12.out) S13.out) S14.out)).block g h7.2])) (fun g hg => ND.out.lt g hg) (by have h3 := HSZ.out; omega) (by have h3 := HSZ.out; have h5 := HBE.out; omega) (by have h3 := HSZ.out; omega) (fun g g1 g2 hc => by have h3 := HSZ.out; have h5 := hcv g hc; omega) (by have h9 := HL0N.out; omega))
  clear hr hn hcv HRA3
  go_wp2_with fail
  refine HC.out.mono ?_
  rintro e y4 ⟨rfl, tc, v3, v4, h3, h4, hr⟩
  have HRA4 : Hid (∃ (n : Nat) (C : Nat → Prop) (v1 v2 : Value) (h1 h2 : List BK.Hd), BK.Reg y4 x0.heap.size x14.heap.size B n C v1 v2 h1 h2 ∧ n ≤ 4 ∧ ∀ g, C g → g < 0 ∨ (x0.heap.size ≤ g ∧ g < x1.heap.size) ∨ (x1.heap.size ≤ g ∧ g < x2.heap.size) ∨ (x2.heap.size ≤ g ∧ g < x3.heap.size) ∨ (x3.heap.size ≤ g ∧ g < x4.heap.size)) := ⟨_, _, v3, v4, h3, h4, hr, by have h8 := HNB.out; omega, fun g e => by
    rcases e with e | e
    · have h9 := HCV.out g e; omega
    · omega⟩
  have HT4 := Lib.hid (HT3.out.trans tc)
  clear tc hr HC HT3 HCV HNB v3 v4 h3 h4 C v1 v2 h1 h2 n
  obtain ⟨n, C, v1, v2, h1, h2, hr, hn, hcv⟩ := HRA4.out
  have HCV := Lib.hid hcv
  have HNB := Lib.hid hn
  have HC := Lib.hid (BK.bkRows_any (lo := x4.heap.size) (hi := x5.heap.size) hr (by have h5 := HBE.out; have h6 := HT4.out.size; omega) (by omega) (own_of_block NS.out (fun g hg => by
    have h7 := NS.out.lt g hg
    have h3 := HSZ.out
    rw [HT4.out.block g (by omega) (fun e => by have h5 := HBE.out; rcases e with e | e <;> omega), ((nextB (nextB (nextB (nextB (nextB (nextB (nextB (nextB (nextB S5.out S6.out) S7.out) S8.out) S9.out) S10.out) S11.out) S12.out) S13.out) S14.out)).block g h7.2])) (fun g hg => NS.out.lt g hg) (by have h3 := HSZ.out; omega) (by have h3 := HSZ.out; have h5 := HBE.out; omega) (by have h3 := HSZ.out; omega) (fun g g1 g2 hc => by have h3 := HSZ.out; have h5 := hcv g hc; omega) (by have h9 := HL0N.out; omega))
  clear hr hn hcv HRA4
  go_wp2_with fail
  refine HC.out.mono ?_
  rintro e y5 ⟨rfl, tc, v3, v4, h3, h4, hr⟩
  have HRA5 : Hid (∃ (n : Nat) (C : Nat → Prop) (v1 v2 : Value) (h1 h2 : List BK.Hd), BK.Reg y5 x0.heap.size x14.heap.size B n C v1 v2 h1 h2 ∧ n ≤ 5 ∧ ∀ g, C g → g < 0 ∨ (x0.heap.size ≤ g ∧ g < x1.heap.size) ∨ (x1.heap.size ≤ g ∧ g < x2.heap.size) ∨ (x2.heap.size ≤ g ∧ g < x3.heap.size) ∨ (x3.heap.size ≤ g ∧ g < x4.heap.size) ∨ (x4.heap.size ≤ g ∧ g < x5.heap.size)) := ⟨_, _, v3, v4, h3, h4, hr, by have h8 := HNB.out; omega, fun g e => by
    rcases e with e | e
    · have h9 := HCV.out g e; omega
    · omega⟩
  have HT5 := Lib.hid (HT4.out.trans tc)
  clear tc hr HC HT4 HCV HNB v3 v4 h3 h4 C v1 v2 h1 h2 n
  obtain ⟨n, C, v1, v2, h1, h2, hr, hn, hcv⟩ := HRA5.out
  have HCV := Lib.hid hcv
  have HNB := Lib.hid hn
  have HC := Lib.hid (BK.bkRows_any (lo := x5.heap.size) (hi := x6.heap.size) hr (by have h5 := HBE.out; have h6 := HT5.out.size; omega) (by omega) (own_of_block NT.out (fun g hg => by
    have h7 := NT.out.lt g hg
    have h3 := HSZ.out
    rw [HT5.out.block g (by omega) (fun e => by have h5 := HBE.out; rcases e with e | e <;> omega), ((nextB (nextB (nextB (nextB (nextB (nextB (nextB (nextB S6.out S7.out) S8.out) S9.out) S10.out) S11.out) S12.out) S13.out) S14.out)).block g h7.2])) (fun g hg => NT.out.lt g hg) (by have h3 := HSZ.out; omega) (by have h3 := HSZ.out; have h5 := HBE.out; omega) (by have h3 := HSZ.out; omega) (fun g g1 g2 hc => by have h3 := HSZ.out; have h5 := hcv g hc; omega) (by have h9 := HL0N.out; omega))
  clear hr hn hcv HRA5
  go_wp2_with fail
  refine HC.out.mono ?_
  rintro e y6 ⟨rfl, tc, v3, v4, h3, h4, hr⟩
  have HRA6 : Hid (∃ (n : Nat) (C : Nat → Prop) (v1 v2 : Value) (h1 h2 : List BK.Hd), BK.Reg y6 x0.heap.size x14.heap.size B n C v1 v2 h1 h2 ∧ n ≤ 6 ∧ ∀ g, C g → g < 0 ∨ (x0.heap.size ≤ g ∧ g < x1.heap.size) ∨ (x1.heap.size ≤ g ∧ g < x2.heap.size) ∨ (x2.heap.size ≤ g ∧ g < x3.heap.size) ∨ (x3.heap.size ≤ g ∧ g < x4.heap.size) ∨ (x4.heap.size ≤ g ∧ g < x5.heap.size) ∨ (x5.heap.size ≤ g ∧ g < x6.heap.size)) := ⟨_, _, v3, v4, h3, h4, hr, by have h8 := HNB.out; omega, fun g e => by
    rcases e with e | e
    · have h9 := HCV.out g e; omega
    · omega⟩
  have HT6 := Lib.hid (HT5.out.trans tc)
  clear tc hr HC HT5 HCV HNB v3 v4 h3 h4 C v1 v2 h1 h2 n
  obtain ⟨n, C, v1, v2, h1, h2, hr, hn, hcv⟩ := HRA6.out
  have HCV := Lib.hid hcv
  have HNB := Lib.hid hn
  have HC := Lib.hid (BK.bkRows_any (lo := x7.heap.size) (hi := x8.heap.size) hr (by have h5 := HBE.out; have h6 := HT6.out.size; omega) (by omega) (own_of_block NU.out (fun g hg => by
    have h7 := NU.out.lt g hg
    have h3 := HSZ.out
    rw [HT6.out.block g (by omega) (fun e => by have h5 := HBE.out; rcases e with e | e <;> omega), ((nextB (nextB (nextB (nextB (nextB (nextB S8.out S9.out) S10.out) S11.out) S12.out) S13.out) S14.out)).block g h7.2])) (fun g hg => NU.out.lt g hg) (by have h3 := HSZ.out; omega) (by have h3 := HSZ.out; have h5 := HBE.out; omega) (by have h3 := HSZ.out; omega) (fun g g1 g2 hc => by have h3 := HSZ.out; have h5 := hcv g hc; omega) (by have h9 := HL0N.out; omega))
  clear hr hn hcv HRA6
  go_wp2_with fail
  refine HC.out.mono ?_
  rintro e y7 ⟨rfl, tc, v3, v4, h3, h4, hr⟩
  have HRA7 : Hid (∃ (n : Nat) (C : Nat → Prop) (v1 v2 : Value) (h1 h2 : List BK.Hd), BK.Reg y7 x0.heap.size x14.heap.size B n C v1 v2 h1 h2 ∧ n ≤ 7 ∧ ∀ g, C g → g < 0 ∨ (x0.heap.size ≤ g ∧ g < x1.heap.size) ∨ (x1.heap.size ≤ g ∧ g < x2.heap.size) ∨ (x2.heap.size ≤ g ∧ g < x3.heap.size) ∨ (x3.heap.size ≤ g ∧ g < x4.heap.size) ∨ (x4.heap.size ≤ g ∧ g < x5.heap.size) ∨ (x5.heap.size ≤ g ∧ g < x6.heap.size) ∨ (x7.heap.size ≤ g ∧ g < x8.heap.size)) := ⟨_, _, v3, v4, h3, h4, hr, by have h8 := HNB.out; omega, fun g e => by
    rcases e with e | e
    · have h9 := HCV.out g e; omega
    · omega⟩
  have HT7 := Lib.hid (HT6.out.trans tc)
  clear tc hr HC HT6 HCV HNB v3 v4 h3 h4 C v1 v2 h1 h2 n
  obtain ⟨n, C, v1, v2, h1, h2, hr, -, hcv⟩ := HRA7.out
  have HC := Lib.hid (BK.apart_any hr.b (by have h5 := HBE.out; have h6 := HT7.out.size; omega) (by have h3 := HSZ.out; omega) hr.qI hr.qR hr.sep)
  have HKP : Hid (∀ u, BK.Tch (BK.EX h1 h2 v1 v2) y7 u → ∀ g, g < x14.heap.size → ¬ (g < 0 ∨ (x0.heap.size ≤ g ∧ g < x1.heap.size) ∨ (x1.heap.size ≤ g ∧ g < x2.heap.size) ∨ (x2.heap.size ≤ g ∧ g < x3.heap.size) ∨ (x3.heap.size ≤ g ∧ g < x4.heap.size) ∨ (x4.heap.size ≤ g ∧ g < x5.heap.size) ∨ (x5.heap.size ≤ g ∧ g < x6.heap.size) ∨ (x7.heap.size ≤ g ∧ g < x8.heap.size)) → u.heap[g]? = x15.heap[g]?) := fun u tu g hg hn => by
    have h3 := HSZ.out
    have h5 := HBE.out
    have h6 := HT7.out.size
    rw [tu.block g (by omega) (fun e => ?_), HT7.out.block g (by omega) (fun e => by rcases e with e | e <;> omega)]
    rcases e with (q | q) | (q | q)
    · exact hn (hcv g (hr.cov g (.inl q)))
    · exact hn (hcv g (hr.cov g (.inr q)))
    · have := (hr.b.rI.lt g q).1; omega
    · have := (hr.b.rR.lt g q).1; omega
  have HZ7 : Hid (x15.heap.size ≤ y7.heap.size) := HT7.out.size
  have HOS : Hid (y7.os = x15.os ∧ y7.tape = x15.tape ∧ y7.output = x15.output) := ⟨HT7.out.os, HT7.out.tape, HT7.out.output⟩
  clear hr hcv HRA7 HT7
  go_wp2_with fail
  refine HC.out.mono ?_
  rintro e Y ⟨rfl, tz⟩
  have HKY := Lib.hid (HKP.out Y tz)
  have BY : Hid (Below x0.heap.size x0 Y) := by
    have h3 := HSZ.out
    have b15 := (nextB (nextB (nextB (nextB (nextB (nextB (nextB (nextB (nextB (nextB (nextB (nextB (nextB (nextB S0.out S1.out) S2.out) S3.out) S4.out) S5.out) S6.out) S7.out) S8.out) S9.out) S10.out) S11.out) S12.out) S13.out) S14.out)
    exact ⟨tz.os.trans (HOS.out.1.trans b15.os), tz.tape.trans (HOS.out.2.1.trans b15.tape), tz.output.trans (HOS.out.2.2.trans b15.output), Nat.le_trans b15.size (Nat.le_trans HZ7.out tz.size), fun g hg => by rw [HKY.out g (by omega) (by omega), b15.block g hg]⟩
  have NWY : Hid (Y.ownsRow x12.heap.size 3 1 (.slice aW L1.length cW) L1.length (L1.map intN)) := own_of_block NW.out (fun g hg => by
    have h7 := NW.out.lt g hg
    have h3 := HSZ.out
    rw [HKY.out g (by omega) (by omega), ((nextB S13.out S14.out)).block g h7.2])
  have NXY : Hid (Y.ownsRow x13.heap.size 27 24 (.slice aX rows.length cX) rows.length (flatR SR)) := own_of_block NX.out (fun g hg => by
    have h7 := NX.out.lt g hg
    have h3 := HSZ.out
    rw [HKY.out g (by omega) (by omega), (S14.out).block g h7.2])
  have HZY : Hid (x0.heap.size ≤ Y.heap.size) := BY.out.size
  clear tz HC HKP HKY HOS HZ7 v1 v2 h1 h2 C n
  have HRY : Hid (∀ u, Below Y.heap.size Y u → Rel u W1.heap.size t m sv rows 3 gone) := fun u hu => HRK.out u (BY.out.trans (hu.mono BY.out.size))
  have HOY : Hid (∀ u, Below Y.heap.size Y u → u.ownsRow W1.heap.size 27 24 (.slice ao rows.length co) rows.length (flatR rows)) := fun u hu => own_below HRW.out (BY.out.trans (hu.mono BY.out.size))
  have HXY : Hid (∀ u, Below Y.heap.size Y u → (loadVar 27 ⟨w.heap.size, 0, none⟩).run Tryz.prog u = .ok (rowV x) u) := fun u hu => HXL.out u (BY.out.trans (hu.mono BY.out.size))
  go_wp2
  unfold rowV
  go_loopw [20] (fun iv wr => ∃ i : Nat, i ≤ rows.length ∧ iv = .int .i64 i ∧ Hid (Below Y.heap.size Y wr)) (fun iv _ => rows.length - (intOf iv).toNat)
  case atStart => exact ⟨0, Nat.zero_le _, rfl, Below.refl _ _⟩
  case round =>
  obtain ⟨i, hi, rfl, HB⟩ := hrel
  by_cases hlt : i < rows.length
  · have hlt' : (i : Int) < (rows.length : Int) := by omega
    have hi0' : (0 : Int) ≤ (i : Int) := by omega
    have HQ := Lib.hid (at_any (HRY.out wr HB.out) i rows[i] (List.getElem?_eq_getElem hlt) (by omega))
    have hro := HREL.out.ok _ (List.getElem_mem hlt)
    have HMEM : Hid (rows[i] ∈ rows) := List.getElem_mem hlt
    obtain ⟨r, hr⟩ : ∃ r, r = rows[i] := ⟨_, rfl⟩
    rw [← hr] at HQ hro HMEM
    have HRE := Lib.hid hr
    have HRK2 := Lib.hid hro
    have hr24 : r.length = 24 := hro.len
    clear hr hro
    go_wp2_with fail
    refine HQ.out.mono ?_
    rintro e z1 ⟨rfl, b⟩
    have HB1 : Hid (Below Y.heap.size Y z1) := HB.out.trans (b.mono HB.out.size)
    have hst := store_fresh z1 r hr24
    have hA1 : Below z1.heap.size z1 (z1.alloc (.cells (rowC r) 27)) := (Below.refl _ _).alloc (Nat.le_refl _) _
    have HBR := Lib.hid (rowAt_new z1 r)
    have HB2 : Hid (Below Y.heap.size Y (z1.alloc (.cells (rowC r) 27))) := HB1.out.trans (hA1.mono HB1.out.size)
    clear b HQ hA1
    unfold rowV
    go_upto_region 27 with fail
    clear hst
    generalize z1.alloc (.cells (rowC r) 27) = z2 at HBR HB2 ⊢
    generalize z1.heap.size = bx at HBR ⊢
    obtain ⟨_, ar', cr', er', _, _, hko⟩ := BK.ls_own (HOY.out _ (Below.refl _ _))
    cases er'
    obtain ⟨g, off, rfl, hg, hfl⟩ := hko (by omega)
    have HLX : Hid (∀ u, Below z2.heap.size z2 u → (loadVar 27 ⟨bx, 0, none⟩).run Tryz.prog u = .ok (rowV r) u) := fun u hu => run_loadRow (HBR.out.below hu) hr24
    have HLY : Hid (∀ u, Below z2.heap.size z2 u → (loadVar 27 ⟨g, off + i * 24, none⟩).run Tryz.prog u = .ok (rowV r) u) := fun u hu => by
      rw [HRE.out]
      refine run_loadTurn (by rw [← HRE.out]; exact hr24) (BK.range_below (flat_rows_at HREL.out.ok hfl hlt) (HB2.out.trans (hu.mono HB2.out.size)) hg)
    have HKH : Hid (∀ u, Below z2.heap.size z2 u → Calls Tryz.prog 15 #[.pointer (some ⟨t, 0, none⟩), rowV r] u fun e w' => e = .returned (.bool true) ∧ Below u.heap.size u w') := fun u hu => hasR_any (HRY.out u (HB2.out.trans (hu.mono HB2.out.size))) r HRK2.out true ⟨fun _ => HMEM.out, fun _ => rfl⟩
    clear hfl hko
    refine BK.region_RB (fun u => Below z2.heap.size z2 u) ?_
    apply Exists.intro
    refine ⟨?_, ?_⟩
    · refine wp_region_noPanic ?_
      refine wp_region_held (S := fun u => Below z2.heap.size z2 u) (by kernel_rfl) ?_
      refine oreg27 (w5 := z2) (S := fun u => Below z2.heap.size z2 u) (t := t) (bx := bx) (g := g) (off := off) (n := rows.length) (cc := co) (i := i) (X := rowV r) rfl rfl rfl rfl rfl rfl rfl rfl rfl rfl rfl rfl rfl rfl rfl rfl (by kernel_rfl) (by kernel_rfl) (by kernel_rfl) (by kernel_rfl) (fun _ _ _ _ _ h => h) (by simp) rfl rfl rfl rfl rfl (Below.refl _ _).drew (fun u u' h b => h.trans (b.mono h.size)) hlt HLX.out HLY.out (fun x y u => geR x y _ _ u) (fun u => by have := run_neqRowK HRK2.out HRK2.out u; simpa using this) HKH.out ?_
      intro wf hS
      exact NoPanic.normal ⟨rfl, rfl, hS⟩
    intro z3 hz3
    try simp (config := { maxSteps := 10000000 }) only [Act.put, List.getElem_toArray, List.getElem_cons_zero, List.getElem_cons_succ, List.setIfInBounds_toArray, List.set_cons_succ, List.set_cons_zero]
    have HB3 : Hid (Below Y.heap.size Y z3) := HB2.out.trans (hz3.mono HB2.out.size)
    clear hz3 HLX HLY HKH HBR
    go_wp2
    go_roundw
    case rel => exact ⟨i + 1, by omega, by go_num, HB3⟩
    case measure => simp [intOf]; omega
  obtain rfl : i = rows.length := by omega
  have hlx := HXY.out wr HB.out
  have HQ := Lib.hid (K1.out wr (BY.out.trans (HB.out.mono BY.out.size)))
  unfold rowV at hlx HQ
  go_wp2_with fail
  refine HQ.out.mono ?_
  rintro e z1 ⟨aE, cE, rfl, oE, b⟩
  have HB1 : Hid (Below Y.heap.size Y z1) := HB.out.trans (b.mono HB.out.size)
  have HQ2 := Lib.hid (sameInts_same _ _ L1 z1 (by omega) (BK.ls_own oE) (BK.ls_own (own_below NWY.out HB1.out)))
  clear b oE HQ hlx
  go_wp2_with fail
  refine HQ2.out.mono ?_
  rintro e z2 ⟨rfl, b⟩
  have HB2 : Hid (Below Y.heap.size Y z2) := HB1.out.trans (b.mono HB1.out.size)
  have HQ := Lib.hid (sorted_yes (HRY.out z2 HB2.out) (by omega))
  clear b HQ2
  go_wp2_with fail
  refine HQ.out.mono ?_
  rintro e z3 ⟨aE2, cE2, rfl, rs9, hp, hs, ho, b⟩
  obtain rfl := (sorted_one HREL.out.nd HPS.out.1 hp HPS.out.2 hs).symm
  have HB3 : Hid (Below Y.heap.size Y z3) := HB2.out.trans (b.mono HB2.out.size)
  have HQ2 := Lib.hid (sameRows_same (.slice aE2 rows.length cE2) (.slice aX rows.length cX) SR z3 (by have := HRSL.out; omega) HRO.out (by rw [HRSL.out]; exact BK.ls_own ho) (by rw [HRSL.out]; exact BK.ls_own (own_below NXY.out HB3.out)))
  clear b hp hs ho HQ
  go_wp2_with fail
  refine HQ2.out.mono ?_
  rintro e z4 ⟨rfl, b⟩
  have HE : Hid (Below w.heap.size w z4) := BX0.out.trans ((BY.out.trans ((HB3.out.trans (b.mono HB3.out.size)).mono BY.out.size)).mono BX0.out.size)
  clear b HQ2
  go_wp2
  go_ret
  exact ⟨rfl, HE.out⟩
end Go.Proofs.YtjcfhhcohmcehaaGreatDoor
