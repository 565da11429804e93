import Derived.Test.YtfkggabdjcabcaaRelPickM
import Derived.Test.YtfkggabdjcabcaaRelTurnL
import Derived.Test.YtfkggabdjcabcaaRelTurnS
import Derived.Test.YtfkggabdjcabcaaRelLives
import Derived.OwnWalk
namespace Go.Proofs.Ytfkggabdjcabcaa
open Go.RowKit Go.Maps
set_option linter.unusedVariables false
set_option linter.unusedSimpArgs false
attribute [local go_sem ↓] Go.wp_at_zero Go.wp_at_succ

theorem run_loadTurns {w : World} {a : Addr} {v : Value} (h : w.cell? a = some v) : (loadVar 22 a).run Try.prog w = .ok v w := by
  simp [loadVar, go_sem, h]
theorem run_loadSymP {w : World} {a : Addr} {n : Int} (h : w.cell? a = some (.int .i32 n)) : (loadVar 25 a).run Try.prog w = .ok (.int .i32 n) w := by
  simp [loadVar, go_sem, h]
def pickL (a : Option Addr) (n c : Nat) (M1 M2 : Nat) (x : List Int) : List Value := .slice a n c :: .int .u32 (M1 : Int) :: .int .u32 (M2 : Int) :: x.map cellI
/-- a number of a list of one's own, loaded -/
theorem own_load {w : World} {B : Nat} {a : Option Addr} {c : Nat} {L : List Nat} (own : w.ownsRow B 3 1 (.slice a L.length c) L.length (L.map intN)) {j i : Nat} (h : L[j]? = some i) : ∃ g, a = some ⟨g, 0, none⟩ ∧ (loadVar 3 ⟨g, j, none⟩).run Try.prog w = .ok (.int .i64 (i : Int)) w := by
  have hj := (List.getElem?_eq_some_iff.1 h).1
  have own' := own
  obtain ⟨_, ⟨e, h0⟩ | ⟨g, cap, cur, e, _⟩⟩ := own
  · omega
  · cases e
    refine ⟨g, rfl, run_loadInt ?_⟩
    rw [own'.cellAt j (by omega), List.getElem?_map, h]
    rfl
attribute [-go_sem] loadVar
set_option maxHeartbeats 12800000 in
set_option maxRecDepth 100000 in
theorem picks_walk (a : Option Addr) (c : Nat) (ts : List Tn) (M1 M2 : Nat) (hM1 : M1 < 4294967296) (hM2 : M2 < 4294967296) (x : List Int) (hx : RowOk x) (w : World) (h : LtC w (.slice a ts.length c) ts) (hn : ts.length ≤ 1048576) :
    Calls Try.prog 3 #[.agg (pickL a ts.length c M1 M2 x).toArray] w fun e w' => e = .returned (.bool true) ∧ Below w.heap.size w w' := by
  have hb0 := belowA (w := w) (.cells (pickL a ts.length c M1 M2 x).toArray 29)
  have hc : ∀ (j : Nat) (u : Value), (pickL a ts.length c M1 M2 x)[j]? = some u → (w.alloc (.cells (pickL a ts.length c M1 M2 x).toArray 29)).cell? ⟨w.heap.size, j, none⟩ = some u := fun j u hu => by
    have := lit_news w (pickL a ts.length c M1 M2 x).toArray 29 j u (by simpa using hu)
    rw [show (⟨w.heap.size, 0, none⟩ : Addr).add j = ⟨w.heap.size, j, none⟩ from by simp [Addr.add]; omega] at this
    exact this
  have hbx : w.heap.size < (w.alloc (.cells (pickL a ts.length c M1 M2 x).toArray 29)).heap.size := by simp
  have HLT := Lib.hid (h.below hb0)
  have HB0 := Lib.hid hb0
  have HLD : Hid (∀ u, Below (w.alloc (.cells (pickL a ts.length c M1 M2 x).toArray 29)).heap.size (w.alloc (.cells (pickL a ts.length c M1 M2 x).toArray 29)) u →
      (loadVar 22 ⟨w.heap.size, 0, none⟩).run Try.prog u = .ok (.slice a ts.length c) u ∧ (loadVar 24 ⟨w.heap.size, 1, none⟩).run Try.prog u = .ok (.int .u32 (M1 : Int)) u ∧ (loadVar 24 ⟨w.heap.size, 2, none⟩).run Try.prog u = .ok (.int .u32 (M2 : Int)) u ∧ (loadVar 27 ⟨w.heap.size, 3, none⟩).run Try.prog u = .ok (rowV x) u) := fun u hu =>
    ⟨run_loadTurns ((hu.cell (p := ⟨w.heap.size, 0, none⟩) hbx).trans (hc 0 _ rfl)), run_loadMaskS ((hu.cell (p := ⟨w.heap.size, 1, none⟩) hbx).trans (hc 1 _ rfl)), run_loadMaskS ((hu.cell (p := ⟨w.heap.size, 2, none⟩) hbx).trans (hc 2 _ rfl)), run_loadTurn hx.len (fun j v hv => (hu.cell (p := ⟨w.heap.size, 3 + j, none⟩) hbx).trans (hc (3 + j) v (by rw [show 3 + j = j + 1 + 1 + 1 by omega]; exact hv)))⟩
  have HX := Lib.hid hx
  have h24 : x.length = 24 := hx.len
  clear h hb0 hc hbx hx
  go_enter Try.func3, Try.ntmps3
  go_upto_region 1 with fail
  generalize w.alloc (.cells (pickL a ts.length c M1 M2 x).toArray 29) = W at HLT HB0 HLD ⊢
  have hD : Below W.heap.size W W.drew := (Below.refl _ _).drew
  obtain ⟨p1, p2, p3, p4⟩ := HLD.out _ hD
  obtain ⟨q1, q2, q3, q4⟩ := HLD.out ((W.alloc (.cells #[.int .i32 0, .int .i32 0, .int .i32 0, .int .i32 0, .int .i32 0, .int .i32 0, .int .i32 0, .int .i32 0, .int .i32 0, .int .i32 0, .int .i32 0, .int .i32 0, .int .i32 0, .int .i32 0, .int .i32 0, .int .i32 0, .int .i32 0, .int .i32 0, .int .i32 0, .int .i32 0, .int .i32 0, .int .i32 0, .int .i32 0, .int .i32 0] 27)).drew) ((Below.refl _ _).alloc (Nat.le_refl _) (.cells #[.int .i32 0, .int .i32 0, .int .i32 0, .int .i32 0, .int .i32 0, .int .i32 0, .int .i32 0, .int .i32 0, .int .i32 0, .int .i32 0, .int .i32 0, .int .i32 0, .int .i32 0, .int .i32 0, .int .i32 0, .int .i32 0, .int .i32 0, .int .i32 0, .int .i32 0, .int .i32 0, .int .i32 0, .int .i32 0, .int .i32 0, .int .i32 0] 27)).drew
  have hst : (storeCells ⟨W.heap.size, 0, none⟩ (List.map cellI x)).run Try.prog ((W.alloc (.cells #[.int .i32 0, .int .i32 0, .int .i32 0, .int .i32 0, .int .i32 0, .int .i32 0, .int .i32 0, .int .i32 0, .int .i32 0, .int .i32 0, .int .i32 0, .int .i32 0, .int .i32 0, .int .i32 0, .int .i32 0, .int .i32 0, .int .i32 0, .int .i32 0, .int .i32 0, .int .i32 0, .int .i32 0, .int .i32 0, .int .i32 0, .int .i32 0] 27)).drew) = .ok () ((W.alloc (.cells (rowC x) 27)).drew) := store_fresh W.drew x h24
  have hA : Below W.heap.size W ((W.alloc (.cells (rowC x) 27)).drew) := (belowA (w := W) (.cells (rowC x) 27)).drew
  have HB1 := Lib.hid (HB0.out.trans (hA.mono HB0.out.size))
  have HL1 := Lib.hid (HLT.out.below hA)
  have HX1 : Hid (RowAt ((W.alloc (.cells (rowC x) 27)).drew) W.heap.size x) := (rowAt_new W x).below (Below.refl _ _).drew
  unfold rowV at p4 q4
  clear hD hA HLT HB0 HLD
  go_wp2_with fail
  refine region_once ?_
  apply Exists.intro
  apply Exists.intro
  refine ⟨?_, ?_⟩
  · go_region
    all_goals exact ⟨rfl, rfl, rfl⟩
  clear p1 p2 p3 p4 q1 q2 q3 q4 hst
  generalize (W.alloc (.cells (rowC x) 27)).drew = W1 at HB1 HL1 HX1 ⊢
  generalize W.heap.size = xb at HX1 ⊢
  have HLV := Lib.hid (lives10_true W1)
  go_wp2_with fail
  refine HLV.out.mono ?_
  rintro e w2 ⟨rfl, b2⟩
  have HB2 := Lib.hid (HB1.out.trans (b2.mono HB1.out.size))
  have HX2 := Lib.hid (HX1.out.below b2)
  have HTU := Lib.hid (turned_any 4 (by omega) (by omega) _ ts w2 (HL1.out.below b2).lt (by omega))
  clear b2 HLV HB1 HL1 HX1
  go_wp2_with fail
  refine HTU.out.mono ?_
  rintro e w3 ⟨t, m, sv, o, rfl, hts⟩
  obtain ⟨ao, co, rfl, _⟩ := own_form hts.own
  have HB3 := Lib.hid (HB2.out.trans (hts.bel.mono HB2.out.size))
  have HX3 := Lib.hid (HX2.out.below hts.bel)
  have hzl := (turnL_len 4 ts ts.length (Nat.le_refl _)).1
  rw [List.take_length] at hzl
  have HFN := Lib.hid (And.intro (turnL_fits 4 ts) (turnL_nodup 4 ts))
  have HTS := Lib.hid hts
  clear hts HTU HB2 HX2
  generalize turnL 4 ts = S at HTS HFN hzl ⊢
  obtain ⟨rows, gn⟩ := S
  simp only at HTS HFN hzl ⊢
  have hor : bits BinOp.or IntKind.u32 (M1 : Int) (M2 : Int) = ((M1 ||| M2 : Nat) : Int) := bits_or32 M1 M2 hM1 hM2
  have hM3 : M1 ||| M2 < 4294967296 := Nat.or_lt_two_pow (n := 32) hM1 hM2
  generalize M1 ||| M2 = M3 at hor hM3
  have hlx := run_loadRow HX3.out h24
  have HS0 : Hid (Calls Try.prog 7 #[.pointer (some ⟨t, 0, none⟩), .int .u32 0, rowV x] w3 fun e w' => ∃ a c, e = .returned (.slice a rows.length c) ∧ w'.ownsRow w3.heap.size 3 1 (.slice a rows.length c) rows.length ((List.range rows.length).map intN) ∧ Below w3.heap.size w3 w') := by
    have := select_pk HTS.out.rel (by omega) 0 (by omega) x HX.out
    rw [pk_none, List.length_range] at this
    exact this
  unfold rowV at hlx HS0
  go_wp2_with fail
  refine HS0.out.mono ?_
  rintro e w4 ⟨a0, c0, rfl, ho0, b4⟩
  have hlx := run_loadRow (HX3.out.below b4) h24
  have HS1 := Lib.hid (select_pk (HTS.out.rel.keep b4) (by omega) 15 (by omega) x HX.out)
  have HE4 := Lib.hid (And.intro ho0 b4)
  unfold rowV at hlx HS1
  clear ho0 b4 HS0
  go_wp2_with fail
  refine HS1.out.mono ?_
  rintro e w5 ⟨a1, c1, rfl, ho1, b5⟩
  have HE5 := Lib.hid (And.intro (own_below HE4.out.1 b5) (And.intro ho1 (HE4.out.2.trans (b5.mono HE4.out.2.size))))
  clear HE4 HS1 ho1 b5 hlx
  have hlx := run_loadRow (HX3.out.below HE5.out.2.2) h24
  have HS2 := Lib.hid (select_pk (HTS.out.rel.keep HE5.out.2.2) (by omega) M1 hM1 x HX.out)
  unfold rowV at hlx HS2
  go_wp2_with fail
  refine HS2.out.mono ?_
  rintro e w6 ⟨a2, c2, rfl, ho2, b6⟩
  have HE6 := Lib.hid (And.intro (own_below HE5.out.1 b6) (And.intro (own_below HE5.out.2.1 b6) (And.intro ho2 (HE5.out.2.2.trans (b6.mono HE5.out.2.2.size)))))
  clear HE5 HS2 ho2 b6 hlx
  have hlx := run_loadRow (HX3.out.below HE6.out.2.2.2) h24
  have HS3 := Lib.hid (select_pk (HTS.out.rel.keep HE6.out.2.2.2) (by omega) M3 hM3 x HX.out)
  unfold rowV at hlx HS3
  go_wp2_with fail
  refine HS3.out.mono ?_
  rintro e w7 ⟨a3, c3, rfl, ho3, b7⟩
  have HE := Lib.hid (And.intro (own_below HE6.out.1 b7) (And.intro (own_below HE6.out.2.1 b7) (And.intro (own_below HE6.out.2.2.1 b7) (And.intro ho3 (HE6.out.2.2.2.trans (b7.mono HE6.out.2.2.2.size))))))
  clear HE6 HS3 ho3 b7 hlx
  have HXE := Lib.hid (HX3.out.below HE.out.2.2.2.2)
  have HTE := Lib.hid (HTS.out.keep HE.out.2.2.2.2)
  have HBE := Lib.hid (HB3.out.trans (HE.out.2.2.2.2.mono HB3.out.size))
  have hle : ((pk 15 rows x rows.length).length : Int) ≤ 1 := by
    have := pk_all HFN.out.2 (fun r hr => ⟨(HTE.out.rel.ok r hr).len, HFN.out.1 r hr⟩) x
    omega
  have HB0 : Hid (Below w7.heap.size w7 w7) := Below.refl _ _
  clear HX3 HTS HB3 HFN
  go_wp2
  go_loopw [14, 15, 16, 17] (fun av bv cv iv wr => ∃ i : Nat, i ≤ rows.length ∧ iv = .int .i64 i ∧ av = .int .i64 ((pk M1 rows x i).length : Int) ∧ bv = .int .i64 ((pk M3 rows x i).length : Int) ∧ cv = .int .i64 ((pk 15 rows x i).length : Int) ∧ Hid (Below w7.heap.size w7 wr)) (fun _ _ _ iv _ => rows.length - (intOf iv).toNat)
  case atStart => exact ⟨0, Nat.zero_le _, rfl, rfl, rfl, rfl, HB0.out⟩
  case round =>
    obtain ⟨i, hi, rfl, rfl, rfl, rfl, HBW⟩ := hrel
    clear HB0
    by_cases hlt : i < rows.length
    · have hlt' : (i : Int) < (rows.length : Int) := by omega
      have hi0 : (0 : Int) ≤ (i : Int) := by omega
      have hyg : rows[i]? = some (rows.getD i []) := by simp [List.getD, List.getElem?_eq_getElem hlt]
      have hyo : RowOk (rows.getD i []) := HTE.out.rel.ok _ (List.mem_of_getElem? hyg)
      obtain ⟨g, rfl⟩ : ∃ g, ao = some ⟨g, 0, none⟩ := by
        obtain ⟨_, h | ⟨g, cap, cur, e, _⟩⟩ := HTE.out.own
        · omega
        · cases e; exact ⟨g, rfl⟩
      have HRD : Hid (∀ u, Below w7.heap.size w7 u → ∀ q, q < 4 → (loadVar 25 ⟨g, i * 24 + q, none⟩).run Try.prog u = .ok (.int .i32 ((rows.getD i []).getD q 0)) u ∧ (loadVar 25 ⟨xb, q, none⟩).run Try.prog u = .ok (.int .i32 (x.getD q 0)) u) := fun u hu q hq => by
        refine ⟨run_loadSymP ?_, run_loadSymP ((HXE.out.below hu).cellU h24 (by omega))⟩
        have ho := own_below HTE.out.own hu
        have hfl := flatR_len rows (fun r hr => (HTE.out.rel.ok r hr).len)
        rw [ho.cellAt (i * 24 + q) (by omega), flat_row rows (fun r hr => (HTE.out.rel.ok r hr).len) i q _ hyg (by omega), List.getElem?_map]
        have e2 : ∀ z : List Int, z.length = 24 → z[q]?.map cellI = some (.int .i32 (z.getD q 0)) := fun z hz => by
          rw [List.getD, List.getElem?_eq_getElem (by omega)]
          rfl
        exact e2 _ hyo.len
      have HP1 := Lib.hid (pk_succ M1 rows x i)
      have HP3 := Lib.hid (pk_succ M3 rows x i)
      have HPA := Lib.hid (pk_succ 15 rows x i)
      have HT1 := Lib.hid (pk_at (M := M1) (rows := rows) (x := x) hlt)
      have HT3 := Lib.hid (pk_at (M := M3) (rows := rows) (x := x) hlt)
      have HTA := Lib.hid (pk_at (M := 15) (rows := rows) (x := x) hlt)
      generalize rows.getD i [] = y at HRD HP1 HP3 HPA HT1 HT3 HTA hyo hyg
      clear hyo hyg
      go_wp2
      go_loopw [18, 19, 20, 21] (fun f1 f2 f3 qv wi => ∃ q : Nat, q ≤ 4 ∧ qv = .int .i64 q ∧ f1 = .bool (okN M1 y x q) ∧ f2 = .bool (okN M3 y x q) ∧ f3 = .bool (okN 15 y x q) ∧ Hid (Below w7.heap.size w7 wi)) (fun _ _ _ qv _ => 4 - (intOf qv).toNat)
      case atStart => exact ⟨0, by omega, rfl, rfl, rfl, rfl, HBW.out⟩
      case round =>
        obtain ⟨q, hq, rfl, rfl, rfl, rfl, HBI⟩ := hrel
        clear HBW
        by_cases hqt : q < 4
        · have hqt' : (q : Int) < 4 := by omega
          have hq0 : (0 : Int) ≤ (q : Int) := by omega
          have hq24 : (q : Int) < 24 := by omega
          have hq32 : (q : Int) ≤ 32 := by omega
          have HBD := Lib.hid HBI.out.drew
          obtain ⟨l1, l2⟩ := HRD.out _ HBD.out q hqt
          have HN1 : Hid (okN M1 y x (q + 1) = (okN M1 y x q && (decide (y.getD q 0 = x.getD q 0) || !M1.testBit q))) := rfl
          have HN3 : Hid (okN M3 y x (q + 1) = (okN M3 y x q && (decide (y.getD q 0 = x.getD q 0) || !M3.testBit q))) := rfl
          have HNA : Hid (okN 15 y x (q + 1) = (okN 15 y x q && (decide (y.getD q 0 = x.getD q 0) || !(15 : Nat).testBit q))) := rfl
          have h15 : (15 : Nat).testBit q = true := by
            have : q = 0 ∨ q = 1 ∨ q = 2 ∨ q = 3 := by omega
            rcases this with rfl | rfl | rfl | rfl <;> decide
          rw [h15] at HNA
          have ht1 := shr_bit M1 q hM1
          have ht3 := shr_bit M3 q hM3
          generalize (!M1.testBit q) = u1 at ht1 HN1
          generalize (!M3.testBit q) = u3 at ht3 HN3
          generalize okN M1 y x q = d1 at HN1 ⊢
          generalize okN M3 y x q = d3 at HN3 ⊢
          generalize okN 15 y x q = dA at HNA ⊢
          generalize y.getD q 0 = yq at l1 HN1 HN3 HNA
          generalize x.getD q 0 = xq at l2 HN1 HN3 HNA
          clear h15 HBI
          obtain ⟨sm, hsm⟩ : ∃ sm, sm = decide (yq = xq) := ⟨_, rfl⟩
          rw [← hsm] at HN1 HN3 HNA
          by_cases e : yq = xq
          · rw [decide_eq_true e] at hsm
            subst hsm
            subst e
            cases d1 <;> cases d3 <;> cases dA
            all_goals
              go_wp2_with fail
              refine region_once ?_
              apply Exists.intro
              apply Exists.intro
              refine ⟨?_, ?_⟩
              · go_region
                all_goals exact ⟨rfl, rfl, rfl⟩
              go_wp2
              go_roundw
              case rel => exact ⟨q + 1, by omega, by go_num, by rw [HN1.out]; rfl, by rw [HN3.out]; rfl, by rw [HNA.out]; rfl, HBD⟩
              case measure => simp [intOf]; omega
          · rw [decide_eq_false e] at hsm
            subst hsm
            have hbe : (yq == xq) = false := by simp [e]
            have hde : decide (yq = xq) = false := by simp [e]
            clear e
            cases d1 <;> cases d3 <;> cases dA
            all_goals
              go_wp2_with fail
              refine region_once ?_
              apply Exists.intro
              apply Exists.intro
              refine ⟨?_, ?_⟩
              · go_region
                all_goals exact ⟨rfl, rfl, rfl⟩
              go_wp2
              go_roundw
              case rel => exact ⟨q + 1, by omega, by go_num, by rw [HN1.out]; rfl, by rw [HN3.out]; rfl, by rw [HNA.out]; rfl, HBD⟩
              case measure => simp [intOf]; omega
        · obtain rfl : q = 4 := by omega
          obtain ⟨g0, rfl, l0⟩ := own_load (L := List.range rows.length) (a := a0) (c := c0) (by rw [List.length_range]; exact own_below HE.out.1 HBI.out) (List.getElem?_range hlt)
          have n1 := pk_len M1 rows x i
          have n3 := pk_len M3 rows x i
          have nA := pk_len 15 rows x i
          have z1 : (0 : Int) ≤ ((pk M1 rows x i).length : Int) := by omega
          have z3 : (0 : Int) ≤ ((pk M3 rows x i).length : Int) := by omega
          have zA : (0 : Int) ≤ ((pk 15 rows x i).length : Int) := by omega
          have w1 : IntKind.i64.wrap (((pk M1 rows x i).length : Int) + 1) = ((pk M1 rows x i).length : Int) + 1 := by rw [IntKind.wrap_i64]; omega
          have w3 : IntKind.i64.wrap (((pk M3 rows x i).length : Int) + 1) = ((pk M3 rows x i).length : Int) + 1 := by rw [IntKind.wrap_i64]; omega
          have wA : IntKind.i64.wrap (((pk 15 rows x i).length : Int) + 1) = ((pk 15 rows x i).length : Int) + 1 := by rw [IntKind.wrap_i64]; omega
          generalize okN M1 y x 4 = d1 at HP1 HT1 ⊢
          generalize okN M3 y x 4 = d3 at HP3 HT3 ⊢
          generalize okN 15 y x 4 = dA at HPA HTA ⊢
          cases d1 with
          | false =>
            cases d3 with
            | false =>
              cases dA with
              | false =>
                have HQ1 : Hid ((pk M1 rows x (i + 1)).length = (pk M1 rows x i).length) := by show _ = _; rw [HP1.out, if_neg (by decide)]
                have HQ3 : Hid ((pk M3 rows x (i + 1)).length = (pk M3 rows x i).length) := by show _ = _; rw [HP3.out, if_neg (by decide)]
                have HQA : Hid ((pk 15 rows x (i + 1)).length = (pk 15 rows x i).length) := by show _ = _; rw [HPA.out, if_neg (by decide)]
                clear HRD HP1 HP3 HPA HT1 HT3 HTA
                go_wp2
                go_roundw
                case rel => exact ⟨i + 1, by omega, by go_num, by rw [HQ1.out], by rw [HQ3.out], by rw [HQA.out], HBI⟩
                case measure => simp [intOf]; omega
              | true =>
                have HQ1 : Hid ((pk M1 rows x (i + 1)).length = (pk M1 rows x i).length) := by show _ = _; rw [HP1.out, if_neg (by decide)]
                have HQ3 : Hid ((pk M3 rows x (i + 1)).length = (pk M3 rows x i).length) := by show _ = _; rw [HP3.out, if_neg (by decide)]
                obtain ⟨gA, rfl, laA⟩ := own_load (own_below HE.out.2.1 HBI.out) (HTA.out rfl)
                have jlA : ((pk 15 rows x i).length : Int) < ((pk 15 rows x rows.length).length : Int) := by have := (List.getElem?_eq_some_iff.1 (HTA.out rfl)).1; omega
                have HQA : Hid ((pk 15 rows x (i + 1)).length = (pk 15 rows x i).length + 1) := by show _ = _; rw [HPA.out, if_pos rfl]; simp
                clear HRD HP1 HP3 HPA HT1 HT3 HTA
                go_wp2
                go_roundw
                case rel => exact ⟨i + 1, by omega, by go_num, by rw [HQ1.out], by rw [HQ3.out], by rw [HQA.out]; go_num, HBI⟩
                case measure => simp [intOf]; omega
            | true =>
              cases dA with
              | false =>
                have HQ1 : Hid ((pk M1 rows x (i + 1)).length = (pk M1 rows x i).length) := by show _ = _; rw [HP1.out, if_neg (by decide)]
                obtain ⟨g3, rfl, la3⟩ := own_load (own_below HE.out.2.2.2.1 HBI.out) (HT3.out rfl)
                have jl3 : ((pk M3 rows x i).length : Int) < ((pk M3 rows x rows.length).length : Int) := by have := (List.getElem?_eq_some_iff.1 (HT3.out rfl)).1; omega
                have HQ3 : Hid ((pk M3 rows x (i + 1)).length = (pk M3 rows x i).length + 1) := by show _ = _; rw [HP3.out, if_pos rfl]; simp
                have HQA : Hid ((pk 15 rows x (i + 1)).length = (pk 15 rows x i).length) := by show _ = _; rw [HPA.out, if_neg (by decide)]
                clear HRD HP1 HP3 HPA HT1 HT3 HTA
                go_wp2
                go_roundw
                case rel => exact ⟨i + 1, by omega, by go_num, by rw [HQ1.out], by rw [HQ3.out]; go_num, by rw [HQA.out], HBI⟩
                case measure => simp [intOf]; omega
              | true =>
                have HQ1 : Hid ((pk M1 rows x (i + 1)).length = (pk M1 rows x i).length) := by show _ = _; rw [HP1.out, if_neg (by decide)]
                obtain ⟨g3, rfl, la3⟩ := own_load (own_below HE.out.2.2.2.1 HBI.out) (HT3.out rfl)
                have jl3 : ((pk M3 rows x i).length : Int) < ((pk M3 rows x rows.length).length : Int) := by have := (List.getElem?_eq_some_iff.1 (HT3.out rfl)).1; omega
                have HQ3 : Hid ((pk M3 rows x (i + 1)).length = (pk M3 rows x i).length + 1) := by show _ = _; rw [HP3.out, if_pos rfl]; simp
                obtain ⟨gA, rfl, laA⟩ := own_load (own_below HE.out.2.1 HBI.out) (HTA.out rfl)
                have jlA : ((pk 15 rows x i).length : Int) < ((pk 15 rows x rows.length).length : Int) := by have := (List.getElem?_eq_some_iff.1 (HTA.out rfl)).1; omega
                have HQA : Hid ((pk 15 rows x (i + 1)).length = (pk 15 rows x i).length + 1) := by show _ = _; rw [HPA.out, if_pos rfl]; simp
                clear HRD HP1 HP3 HPA HT1 HT3 HTA
                go_wp2
                go_roundw
                case rel => exact ⟨i + 1, by omega, by go_num, by rw [HQ1.out], by rw [HQ3.out]; go_num, by rw [HQA.out]; go_num, HBI⟩
                case measure => simp [intOf]; omega
          | true =>
            cases d3 with
            | false =>
              cases dA with
              | false =>
                obtain ⟨g1, rfl, la1⟩ := own_load (own_below HE.out.2.2.1 HBI.out) (HT1.out rfl)
                have jl1 : ((pk M1 rows x i).length : Int) < ((pk M1 rows x rows.length).length : Int) := by have := (List.getElem?_eq_some_iff.1 (HT1.out rfl)).1; omega
                have HQ1 : Hid ((pk M1 rows x (i + 1)).length = (pk M1 rows x i).length + 1) := by show _ = _; rw [HP1.out, if_pos rfl]; simp
                have HQ3 : Hid ((pk M3 rows x (i + 1)).length = (pk M3 rows x i).length) := by show _ = _; rw [HP3.out, if_neg (by decide)]
                have HQA : Hid ((pk 15 rows x (i + 1)).length = (pk 15 rows x i).length) := by show _ = _; rw [HPA.out, if_neg (by decide)]
                clear HRD HP1 HP3 HPA HT1 HT3 HTA
                go_wp2
                go_roundw
                case rel => exact ⟨i + 1, by omega, by go_num, by rw [HQ1.out]; go_num, by rw [HQ3.out], by rw [HQA.out], HBI⟩
                case measure => simp [intOf]; omega
              | true =>
                obtain ⟨g1, rfl, la1⟩ := own_load (own_below HE.out.2.2.1 HBI.out) (HT1.out rfl)
                have jl1 : ((pk M1 rows x i).length : Int) < ((pk M1 rows x rows.length).length : Int) := by have := (List.getElem?_eq_some_iff.1 (HT1.out rfl)).1; omega
                have HQ1 : Hid ((pk M1 rows x (i + 1)).length = (pk M1 rows x i).length + 1) := by show _ = _; rw [HP1.out, if_pos rfl]; simp
                have HQ3 : Hid ((pk M3 rows x (i + 1)).length = (pk M3 rows x i).length) := by show _ = _; rw [HP3.out, if_neg (by decide)]
                obtain ⟨gA, rfl, laA⟩ := own_load (own_below HE.out.2.1 HBI.out) (HTA.out rfl)
                have jlA : ((pk 15 rows x i).length : Int) < ((pk 15 rows x rows.length).length : Int) := by have := (List.getElem?_eq_some_iff.1 (HTA.out rfl)).1; omega
                have HQA : Hid ((pk 15 rows x (i + 1)).length = (pk 15 rows x i).length + 1) := by show _ = _; rw [HPA.out, if_pos rfl]; simp
                clear HRD HP1 HP3 HPA HT1 HT3 HTA
                go_wp2
                go_roundw
                case rel => exact ⟨i + 1, by omega, by go_num, by rw [HQ1.out]; go_num, by rw [HQ3.out], by rw [HQA.out]; go_num, HBI⟩
                case measure => simp [intOf]; omega
            | true =>
              cases dA with
              | false =>
                obtain ⟨g1, rfl, la1⟩ := own_load (own_below HE.out.2.2.1 HBI.out) (HT1.out rfl)
                have jl1 : ((pk M1 rows x i).length : Int) < ((pk M1 rows x rows.length).length : Int) := by have := (List.getElem?_eq_some_iff.1 (HT1.out rfl)).1; omega
                have HQ1 : Hid ((pk M1 rows x (i + 1)).length = (pk M1 rows x i).length + 1) := by show _ = _; rw [HP1.out, if_pos rfl]; simp
                obtain ⟨g3, rfl, la3⟩ := own_load (own_below HE.out.2.2.2.1 HBI.out) (HT3.out rfl)
                have jl3 : ((pk M3 rows x i).length : Int) < ((pk M3 rows x rows.length).length : Int) := by have := (List.getElem?_eq_some_iff.1 (HT3.out rfl)).1; omega
                have HQ3 : Hid ((pk M3 rows x (i + 1)).length = (pk M3 rows x i).length + 1) := by show _ = _; rw [HP3.out, if_pos rfl]; simp
                have HQA : Hid ((pk 15 rows x (i + 1)).length = (pk 15 rows x i).length) := by show _ = _; rw [HPA.out, if_neg (by decide)]
                clear HRD HP1 HP3 HPA HT1 HT3 HTA
                go_wp2
                go_roundw
                case rel => exact ⟨i + 1, by omega, by go_num, by rw [HQ1.out]; go_num, by rw [HQ3.out]; go_num, by rw [HQA.out], HBI⟩
                case measure => simp [intOf]; omega
              | true =>
                obtain ⟨g1, rfl, la1⟩ := own_load (own_below HE.out.2.2.1 HBI.out) (HT1.out rfl)
                have jl1 : ((pk M1 rows x i).length : Int) < ((pk M1 rows x rows.length).length : Int) := by have := (List.getElem?_eq_some_iff.1 (HT1.out rfl)).1; omega
                have HQ1 : Hid ((pk M1 rows x (i + 1)).length = (pk M1 rows x i).length + 1) := by show _ = _; rw [HP1.out, if_pos rfl]; simp
                obtain ⟨g3, rfl, la3⟩ := own_load (own_below HE.out.2.2.2.1 HBI.out) (HT3.out rfl)
                have jl3 : ((pk M3 rows x i).length : Int) < ((pk M3 rows x rows.length).length : Int) := by have := (List.getElem?_eq_some_iff.1 (HT3.out rfl)).1; omega
                have HQ3 : Hid ((pk M3 rows x (i + 1)).length = (pk M3 rows x i).length + 1) := by show _ = _; rw [HP3.out, if_pos rfl]; simp
                obtain ⟨gA, rfl, laA⟩ := own_load (own_below HE.out.2.1 HBI.out) (HTA.out rfl)
                have jlA : ((pk 15 rows x i).length : Int) < ((pk 15 rows x rows.length).length : Int) := by have := (List.getElem?_eq_some_iff.1 (HTA.out rfl)).1; omega
                have HQA : Hid ((pk 15 rows x (i + 1)).length = (pk 15 rows x i).length + 1) := by show _ = _; rw [HPA.out, if_pos rfl]; simp
                clear HRD HP1 HP3 HPA HT1 HT3 HTA
                go_wp2
                go_roundw
                case rel => exact ⟨i + 1, by omega, by go_num, by rw [HQ1.out]; go_num, by rw [HQ3.out]; go_num, by rw [HQA.out]; go_num, HBI⟩
                case measure => simp [intOf]; omega
    · obtain rfl : i = rows.length := by omega
      go_wp2
      go_ret
      exact ⟨rfl, HBE.out.trans (HBW.out.mono HBE.out.size)⟩
end Go.Proofs.Ytfkggabdjcabcaa
