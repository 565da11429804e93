import Derived.Test.YtanffdllapnghaaRelKeepsA
import Derived.Test.YtanffdllapnghaaRelRangeG
import Derived.Test.YtanffdllapnghaaRelAtOver
import Derived.Test.YtanffdllapnghaaRelSorted
import Derived.Test.YtanffdllapnghaaRelLives
import Derived.Test.YtanffdllapnghaaRelKeepsReg
import Derived.Deep.RegionWith
import Derived.RangeFuncBox
import Derived.RangeFuncWrites
import Derived.OwnWalk
namespace Go.Proofs.Ytanffdllapnghaa
open Go.RowKit Go.Maps Go.Shelf
set_option linter.unusedVariables false
set_option linter.unusedSimpArgs false
attribute [local go_sem ↓] Go.wp_at_zero Go.wp_at_succ
attribute [local go_sem] Oper.semAt_some

theorem bxB {w w' : World} {B : Nat} {t : TypeId} {v : Value} (h : Boxed w B t v) (hb : Below w.heap.size w w') : Boxed w' B t v := (hb.block B h.lt).trans h
theorem bxN {w : World} {B : Nat} (hB : B = w.heap.size) (t : TypeId) (v : Value) : Boxed (w.alloc (.cells #[v] t)) B t v := hB ▸ Boxed.new w t v
/-- what is kept through RelationKeeps -/
structure Kps (w : World) (B t m : Nat) (sv o : Value) (rows : List (List Int)) (ar gn : Int) (b5 b6 b8 : Nat) (other : List Int) (W : World) : Prop where
  rel : Rel W B t m sv rows ar gn
  own : W.ownsRow B 25 24 o rows.length (flatR rows)
  bo : RowAt W b5 other
  br : Boxed W b6 4 (.bool false)
  bs : Boxed W b8 28 o
  bel : Below w.heap.size w W
theorem Kps.keep {w : World} {B t m : Nat} {sv o : Value} {rows : List (List Int)} {ar gn : Int} {b5 b6 b8 : Nat} {other : List Int} {W W' : World} (h : Kps w B t m sv o rows ar gn b5 b6 b8 other W) (hb : Below W.heap.size W W') : Kps w B t m sv o rows ar gn b5 b6 b8 other W' :=
  ⟨h.rel.keep hb, own_below h.own hb, h.bo.below hb, bxB h.br hb, bxB h.bs hb, h.bel.trans (hb.mono h.bel.size)⟩
/-- a region whose orders all end in the same act, in a world of which R holds -/
theorem region_R {P : Program} {id : Nat} {ops : Array Oper} {b : Bool} {Q : Exit → Act → World → Prop} {a : Act} {w : World} (R : World → Prop)
    (h : ∃ A, (Code.region id ops b).wp P (fun e a' w' => e = .normal ∧ a' = A ∧ R w') a w ∧ ∀ w', R w' → Q .normal A w') : (Code.region id ops b).wp P Q a w := by
  obtain ⟨A, h, hk⟩ := h
  exact Code.wp_mono (fun e a' w' h => by obtain ⟨rfl, rfl, hr⟩ := h; exact hk _ hr) h
theorem run_neqRowK {x y : List Int} (hx : RowOk x) (hy : RowOk y) (w : World) : (binOp .neq 25 (rowV x) (rowV y)).run Try.prog w = .ok (.bool (decide (x ≠ y))) w := by
  have h := run_eqRow hx hy w
  unfold rowV at h ⊢
  simp [binOp, run_underlying Try.underlying25, Result.andThen] at h ⊢
  revert h
  generalize (Op.equal _ _ _).run Try.prog w = R
  intro h
  cases R with
  | ok b u => simp at h ⊢; obtain ⟨rfl, rfl⟩ := h; simp
  | _ => simp at h
/-- a range over rows in which the loop's frame is what it was but for these slots -/
theorem wpIn_rangeRows {P : Program} {g : Operand} {ps : Array Tmp} {assign body : Code} {Q : Exit → Act → World → Prop} {a : Act} {w : World}
    {gf : Nat} {lb : Array Value} (hg : a.eval g = .func (.func gf) #[] lb) (eg : ∀ args w, (callFunc gf args).run P w = .ok (.enter gf args) w)
    {rows : List (List Int)} {Kp : World → World → Prop} {w0 : World} (hseq : SeqTells Fence.wide 7 P gf lb (rowsAt rows 0) Kp rows.length w0)
    (hKt : ∀ {A B C : World}, Kp A B → Kp B C → Kp A C) (hKb : ∀ (W : World) (l : Nat) (o o' : Obj), w.heap.size ≤ l → W.heap[l]? = some o → o.isCells = false → o.isWalk = false → Kp W (W.putObj l o')) (hb0 : Below w0.heap.size w0 w) (hps : ps.size = 2)
    (I : Nat → World → Prop) (hI : OwnFrom w.heap.size I) (h0 : I 0 w) (fT : Array Value → Nat → Nat → Array Value)
    (hassign : ∀ (l k : Nat) (W : World) (K : Act → World → Prop), k < rows.length → I k W → (∀ a' W', KeepsFrom w.heap.size W W' → Kp W W' → I k W' → (∃ yb, a' = { tmps := fT a.tmps k yb, defers := [] } ∧ RowAt W' yb (rows.getD k [])) → K a' W') →
      assign.wpIn (Fence.wide.inRound l) 6 P (Exit.then K (fun _ _ _ => False)) { tmps := (ps.zip (rowsAt rows 0 k)).foldl (fun t (p, v) => t.setIfInBounds p v) a.tmps, defers := [] } W)
    (hbody : ∀ (l k yb : Nat) (W : World), k < rows.length → I k W → RowAt W yb (rows.getD k []) → body.wpIn (Fence.wide.inRound l) 6 P (tellPost w.heap.size Kp I (fun _ _ _ => False) (k + 1) W) { tmps := fT a.tmps k yb, defers := [] } W)
    (hdone : ∀ (D : Nat) (W : World), w.heap.size ≤ D → I rows.length W → W.heap[D]? = some (.deferred (some [])) → Q .normal { a with defers := { target := .collected D, args := #[] } :: a.defers } W) :
    (Code.rangeFunc g ps assign body).wpIn Fence.wide 8 P Q a w :=
  wpIn_rangeTells rfl (by omega) hg trivial eg hseq hKt hKb hb0 (fun _ => hps.symm) I (fun _ _ _ => False) hI (fun _ _ _ _ _ hs _ _ => hs) h0
    (fun k a' W => ∃ yb, a' = { tmps := fT a.tmps k yb, defers := [] } ∧ RowAt W yb (rows.getD k []))
    (fun k a' _ X Y row hs hg hr => by
      obtain ⟨yb, e, hy⟩ := hs
      refine ⟨yb, e, (hg.block yb (RowAt.lt hy) (fun e' => ?_)).trans hy⟩
      obtain ⟨_, o, ho, hcl⟩ := hr _ e'.symm
      have hy' : X.heap[yb]? = some (.cells (rowC (rows.getD k [])) 25 (0, 0)) := hy
      rw [hy'] at ho
      cases ho
      simp [Obj.isCells] at hcl) hassign
    (fun l k a' W hk hi hax => by
      obtain ⟨yb, rfl, hy⟩ := hax
      exact hbody l k yb W hk hi hy) hdone (fun _ _ _ _ _ _ h _ => h.elim)
theorem KeepsFrom.belowK {B : Nat} {W W' : World} (h : Below W.heap.size W W') : KeepsFrom B W W' := ⟨h.size, fun k o _ hk _ => (h.block k (Array.getElem?_eq_some_iff.1 hk).1).trans hk⟩
theorem take_mem {rows : List (List Int)} {i : Nat} {y other : List Int} (hy : rows[i]? = some y) : decide (other ∈ rows.take (i + 1)) = (decide (other ∈ rows.take i) || decide (y = other)) := by
  rw [List.take_add_one, hy]
  simp only [Option.toList_some, List.mem_append, List.mem_singleton]
  by_cases h1 : other ∈ rows.take i
  · simp [h1]
  · by_cases h2 : y = other
    · subst h2; simp
    · have : ¬ other = y := fun e => h2 e.symm
      simp [h1, h2, this]
attribute [-go_sem] loadVar
set_option maxHeartbeats 12800000 in
set_option maxRecDepth 100000 in
theorem keeps_walk (n : Int) (a : Option Addr) (c : Nat) (ts : List Tn) (other : List Int) (ho : RowOk other) (w : World) (h : LtC w (.slice a ts.length c) ts) (hn : ts.length ≤ 1048576) :
    Calls Try.prog 3 #[.int .i64 n, .slice a ts.length c, rowV other] w fun e w' => e = .returned (.bool true) ∧ Below w.heap.size w w' := by
  refine (callsIn_wide (n := 8)).1 ?_
  refine callsIn_of_wp_marks Try.func3 rfl trivial ?_ rfl
  simp only [Try.ntmps3, List.size_toArray, List.length_cons, List.length_nil, Nat.reduceAdd, Nat.reduceSub, Array.replicate_succ, Array.replicate_zero, List.push_toArray, List.append_toArray, List.nil_append, List.cons_append]
  refine wpIn_wide.2 ?_
  have hA1 := belowA (w := w) (.cells (rowC other) 25)
  have hA2 := belowA (w := w.alloc (.cells (rowC other) 25)) (.cells #[.bool false] 4)
  have HB0 := Lib.hid (hA1.trans (hA2.mono hA1.size))
  have HO0 := Lib.hid ((rowAt_new w other).below hA2)
  have HR0 := Lib.hid (bxN (w := w.alloc (.cells (rowC other) 25)) (B := w.heap.size + 1) (by simp) 4 (.bool false))
  have HL0 := Lib.hid (h.below HB0.out)
  have HOO := Lib.hid ho
  have h24 : other.length = 24 := ho.len
  clear h hA1 hA2 ho
  unfold rowV
  go_upto_region 1 with fail
  generalize (w.alloc (.cells (rowC other) 25)).alloc (.cells #[.bool false] 4) = W0 at HB0 HO0 HR0 HL0 ⊢
  have HLV := Lib.hid (lives10_true W0)
  go_wp2_with fail
  refine HLV.out.mono ?_
  rintro e w1 ⟨rfl, b1⟩
  have HWD := Lib.hid (width_any n w1)
  have HB1 := Lib.hid (HB0.out.trans (b1.mono HB0.out.size))
  have HO1 := Lib.hid (HO0.out.below b1)
  have HR1 := Lib.hid (bxB HR0.out b1)
  have HTU := Lib.hid (turned_any (widI n) (widI_range n).1 (widI_range n).2 _ ts w1 (HL0.out.below b1).lt (by omega))
  clear b1 HLV HB0 HO0 HR0 HL0
  go_wp2_with fail
  refine HWD.out.mono ?_
  rintro e w1 ⟨rfl, rfl⟩
  have HWI : Hid (∃ ar, widI n = ar) := ⟨_, rfl⟩
  obtain ⟨ar, har⟩ := HWI.out
  rw [har] at HTU ⊢
  have HAE := Lib.hid har
  clear HWI har
  go_wp2_with fail
  refine HTU.out.mono ?_
  rintro e w3 ⟨t, m, sv, o, rfl, hts⟩
  obtain ⟨ao, co, rfl, _⟩ := own_form hts.own
  have hzl := (turnL_len ar ts ts.length (Nat.le_refl _)).1
  rw [List.take_length] at hzl
  generalize turnL ar ts = S at hts hzl ⊢
  obtain ⟨rows, gn⟩ := S
  simp only at hts hzl ⊢
  have hA3 := belowA (w := w3) (.cells #[.slice ao rows.length co] 28)
  have hts3 := hts.keep hA3
  have HK3 : Hid (Kps w w1.heap.size t m sv (.slice ao rows.length co) rows ar gn w.heap.size (w.heap.size + 1) w3.heap.size other (w3.alloc (.cells #[.slice ao rows.length co] 28))) :=
    ⟨hts3.rel, hts3.own, HO1.out.below hts3.bel, bxB HR1.out hts3.bel, Boxed.new _ _ _, HB1.out.trans (hts3.bel.mono HB1.out.size)⟩
  have HAR := Lib.hid (arity_yes hts3.rel)
  have HFN : Hid (rows.Nodup ∧ ∀ r ∈ rows, RowOk r) := ⟨hts.rel.nd, hts.rel.ok⟩
  clear hts hts3 hA3 HTU HB1 HO1 HR1
  go_upto_region 4 with fail
  generalize w3.heap.size = b8 at HK3 ⊢
  generalize w3.alloc (.cells #[.slice ao rows.length co] 28) = W3 at HK3 HAR ⊢
  have HWE : Hid (Calls Try.prog 6 #[.int .i64 n] W3 fun e w' => e = .returned (.int .i64 ar) ∧ w' = W3) := by
    have := width_any n W3
    rw [HAE.out] at this
    exact this
  go_wp2_with fail
  refine HAR.out.mono ?_
  rintro e W3 ⟨rfl, rfl⟩
  go_wp2_with fail
  refine HWE.out.mono ?_
  rintro e W3 ⟨rfl, rfl⟩
  clear HAR HWE HAE
  have HI0 : Hid (Kps w w1.heap.size t m sv (.slice ao rows.length co) rows ar gn w.heap.size (w.heap.size + 1) b8 other W3) := HK3.out
  clear HK3
  go_wp2
  go_loopw [10, 11] (fun tv iv wr => ∃ i : Nat, i ≤ rows.length ∧ iv = .int .i64 i ∧ tv = .bool (decide (other ∈ rows.take i)) ∧ Hid (Kps w w1.heap.size t m sv (.slice ao rows.length co) rows ar gn w.heap.size (w.heap.size + 1) b8 other wr)) (fun _ iv _ => rows.length - (intOf iv).toNat)
  case atStart => exact ⟨0, Nat.zero_le _, rfl, by simp, HI0⟩
  case round =>
    obtain ⟨i, hi, rfl, rfl, HI⟩ := hrel
    clear HI0
    have l8 := run_loadRows HI.out.bs.cell
    by_cases hlt : i < rows.length
    · have hlt' : (i : Int) < (rows.length : Int) := by omega
      have hi0 : (0 : Int) ≤ (i : Int) := by omega
      obtain ⟨y, hy⟩ : ∃ y, rows[i]? = some y := ⟨rows[i], List.getElem?_eq_getElem hlt⟩
      have hyo : RowOk y := HFN.out.2 y (List.mem_of_getElem? hy)
      obtain ⟨g, rfl⟩ : ∃ g, ao = some ⟨g, 0, none⟩ := by
        obtain ⟨_, h | ⟨g, cap, cur, e, _⟩⟩ := HI.out.own
        · omega
        · cases e; exact ⟨g, rfl⟩
      have HAT := Lib.hid (at_any HI.out.rel i y hy (by omega))
      have HY := Lib.hid (And.intro hy hyo)
      have HTM := Lib.hid (take_mem (other := other) hy)
      generalize decide (other ∈ rows.take i) = th at HTM ⊢
      have hy24 : y.length = 24 := hyo.len
      clear hy hyo
      go_wp2_with fail
      refine HAT.out.mono ?_
      rintro e w5 ⟨rfl, b5⟩
      have hst := store_fresh w5 y hy24
      have hA := belowA (w := w5) (.cells (rowC y) 25)
      have HK5 := Lib.hid ((HI.out.keep b5).keep hA)
      have HRA := Lib.hid (rowAt_new w5 y)
      clear hA b5 HAT HI l8
      unfold rowV
      go_upto_region 11 with fail
      generalize w5.alloc (.cells (rowC y) 25) = W5 at HK5 HRA hst ⊢
      clear hst
      have HKD := Lib.hid (HK5.out.keep (Below.refl _ _).drew)
      have l12 := run_loadRow (HRA.out.below (Below.refl _ _).drew) hy24
      have l8 := run_loadRows HKD.out.bs.cell
      have lrow := run_loadAtRow rfl HKD.out.own (fun x hx => (HFN.out.2 x hx).len) HY.out.1
      have hne' : ∀ u : World, (binOp .neq 25 (.agg (List.map cellI y).toArray) (.agg (List.map cellI y).toArray)).run Try.prog u = .ok (.bool false) u := fun u => by
        have := run_neqRowK HY.out.2 HY.out.2 u
        unfold rowV at this
        rw [this]
        simp
      have HHS := Lib.hid (hasR_any HKD.out.rel y HY.out.2 true (by simp [List.mem_of_getElem? HY.out.1]))
      unfold rowV at l12 lrow HHS
      go_wp2_with fail
      refine region_R (fun u => Below W5.heap.size W5 u) ?_
      apply Exists.intro
      refine ⟨?_, ?_⟩
      · refine wp_region_noPanic ?_
        go_region_with (go_at_call 9; refine HHS.out.mono ?_; rintro ee w6 ⟨rfl, b6⟩; have hb6 := (Below.refl W5.heap.size W5).drew.trans b6)
        all_goals exact NoPanic.normal ⟨rfl, rfl, by assumption⟩
      intro w6 hb6
      simp (config := { maxSteps := 10000000 }) only [Act.put, List.getElem_toArray, List.getElem_cons_zero, List.getElem_cons_succ, List.setIfInBounds_toArray, List.set_cons_succ, List.set_cons_zero]
      have HK6 := Lib.hid (HK5.out.keep hb6)
      clear hb6 HHS l12 l8 lrow hne' HKD HRA HK5
      have HKD := Lib.hid (HK6.out.keep (Below.refl _ _).drew)
      have l8 := run_loadRows HKD.out.bs.cell
      have lrow := run_loadAtRow rfl HKD.out.own (fun x hx => (HFN.out.2 x hx).len) HY.out.1
      have l5 := run_loadRow HKD.out.bo h24
      have heq := fun u => run_eqRow HY.out.2 HOO.out u
      generalize decide (y = other) = e0 at heq HTM
      unfold rowV at lrow l5 heq
      cases th with
      | true =>
        clear heq
        go_wp2_with fail
        refine region_once ?_
        apply Exists.intro
        apply Exists.intro
        refine ⟨?_, ?_⟩
        · go_region
          all_goals exact ⟨rfl, rfl, rfl⟩
        go_wp2
        go_roundw
        case rel => exact ⟨i + 1, by omega, by go_num, by rw [HTM.out]; rfl, HKD⟩
        case measure => simp [intOf]; omega
      | false =>
        go_wp2_with fail
        refine region_once ?_
        apply Exists.intro
        apply Exists.intro
        refine ⟨?_, ?_⟩
        · go_region
          all_goals exact ⟨rfl, rfl, rfl⟩
        go_wp2
        go_roundw
        case rel => exact ⟨i + 1, by omega, by go_num, by rw [HTM.out]; rfl, HKD⟩
        case measure => simp [intOf]; omega
    · obtain rfl : i = rows.length := by omega
      rw [List.take_length]
      have HAO := Lib.hid (at_over HI.out.rel)
      generalize hth : decide (other ∈ rows) = th
      have HTH := Lib.hid hth
      clear hth hi hlt
      go_wp2_with fail
      refine HAO.out.mono ?_
      rintro e w5 ⟨rfl, b5⟩
      have hst := store_fresh w5 zeroL zeroL_ok.len
      have hA := belowA (w := w5) (.cells (rowC zeroL) 25)
      have HK5 := Lib.hid ((HI.out.keep b5).keep hA)
      have hz24 : zeroL.length = 24 := zeroL_ok.len
      clear hA b5 HAO HI l8
      unfold rowV
      go_upto_region 15 with fail
      generalize w5.alloc (.cells (rowC zeroL) 25) = W5 at HK5 hst ⊢
      clear hst
      have l5 := run_loadRow HK5.out.bo h24
      have HHS := Lib.hid (hasR_any HK5.out.rel other HOO.out th (by rw [← HTH.out]; simp))
      unfold rowV at l5 HHS
      go_wp2_with fail
      refine HHS.out.mono ?_
      rintro e w6 ⟨rfl, b6⟩
      have HK6 := Lib.hid (HK5.out.keep b6)
      clear HHS b6 HK5 l5
      have hA := belowA (w := w6) (.cells #[.int .i64 0] 3)
      have HK7 := Lib.hid (HK6.out.keep hA)
      have HKB := Lib.hid (Boxed.new w6 3 (.int .i64 0))
      clear hA
      go_upto_region 18 with fail
      have HK6' := HK6
      generalize hkb : w6.heap.size = kb at HKB ⊢
      have hkbl := Boxed.lt HKB.out
      generalize hW7 : w6.alloc (.cells #[.int .i64 0] 3) = W7 at HK7 HKB hkbl ⊢
      have HB67 : Hid (Below w6.heap.size w6 W7) := by show Below _ _ _; rw [← hW7]; exact belowA _
      clear hW7
      have l8 := run_loadRows HK7.out.bs.cell
      have iw : IntKind.i64.wrap ((rows.length : Int) + 1) = (rows.length : Int) + 1 := by rw [IntKind.wrap_i64]; omega
      go_wp2_with fail
      refine (range_yesK t (-1) ((rows.length : Int) + 1) W7).mono ?_
      rintro e w8 ⟨b0, b1, b2, rfl, k0, k1, k2, hbs, hb2, b8'⟩
      have HK8 := Lib.hid (HK7.out.keep b8')
      obtain ⟨asv, csv, hsv, _⟩ := own_form HK6.out.rel.own
      subst hsv
      obtain ⟨g, hg6, hgs⟩ : ∃ g, g < w6.heap.size ∧ ∀ q, (Value.slice asv rows.length csv).ownBlock = some q → q = g := by
        rcases HK6.out.rel.own.2 with ⟨e, hz⟩ | ⟨g, cap, cur, e, _, hgb, _⟩
        · refine ⟨t, World.rowIs.lt HK6.out.rel.rl, fun q hq => ?_⟩
          rw [e] at hq
          cases hq
        · refine ⟨g, (Array.getElem?_eq_some_iff.1 hgb).1, fun q hq => ?_⟩
          rw [e] at hq
          have : g = q := by simpa [Value.ownBlock] using hq
          exact this.symm
      have HSQ := Lib.hid (range_tellsW 7 HK8.out.rel (by omega) g hgs k0 k1 k2 hbs)
      have HB68 := Lib.hid (HB67.out.trans (b8'.mono HB67.out.size))
      have HKB8 := Lib.hid (bxB HKB.out b8')
      have h78 := b8'.size
      have h67 := HB67.out.size
      have hb28 := hbs.2.2
      clear k0 k1 k2 hbs b8' hgs HB67 l8 HKB HK7
      go_wp2_with fail
      refine (wpIn_wide (n := 8)).1 ?_
      have hmo : Try.prog.follows .mixedOrders = true := by kernel_rfl
      refine wpIn_rangeRows (rows := rows) (gf := 21) (lb := #[.pointer (some ⟨b0, 0, none⟩), .pointer (some ⟨b1, 0, none⟩), .pointer (some ⟨b2, 0, none⟩)]) rfl (enters_of Try.func21 (by kernel_rfl) rfl) HSQ.out (fun h k => h.trans k)
        (fun W l o o' hl _ _ _ => ⟨World.putObj_heap_other (by omega), World.putObj_heap_other (by omega)⟩) (Below.refl _ _) rfl
        (fun k W => Below w6.heap.size w6 W ∧ Boxed W kb 3 (.int .i64 (k : Int)) ∧ W.heap[b2]? = w8.heap[b2]? ∧ w8.heap.size ≤ W.heap.size)
        (fun k X Y row hs hg hr => ⟨hs.1.grown hg hs.1.size (fun q e => by have := (hr q e).1; omega), hs.2.1.kept hg (fun e => by have := (hr kb e.symm).1; omega), (hg.block b2 (by omega) (fun e => by have := (hr b2 e.symm).1; omega)).trans hs.2.2.1, Nat.le_trans hs.2.2.2 hg.size⟩)
        ⟨HB68.out, HKB8.out, rfl, Nat.le_refl _⟩
        (fun T k yb => (((T.setIfInBounds 98 (.int .i64 (k : Int))).setIfInBounds 99 (.agg (List.map cellI (rows.getD k [])).toArray)).setIfInBounds 17 (.int .i64 (k : Int))).setIfInBounds 18 (.pointer (some ⟨yb, 0, none⟩))) ?assign ?body ?done
      case assign =>
        intro l k W K hk hi hK
        have hro : RowOk (rows.getD k []) := HFN.out.2 _ (by rw [List.getD, List.getElem?_eq_getElem hk]; exact List.getElem_mem hk)
        have h24y := hro.len
        have hst := store_fresh W _ h24y
        have hA := belowA (w := W) (.cells (rowC (rows.getD k [])) 25)
        have hK' := hK _ _ (KeepsFrom.belowK hA) ⟨hA.block g (by have := hi.1.size; omega), hA.block b2 (by omega)⟩ ⟨hi.1.trans (hA.mono hi.1.size), bxB hi.2.1 hA, (hA.block b2 (by omega)).trans hi.2.2.1, Nat.le_trans hi.2.2.2 hA.size⟩ ⟨W.heap.size, rfl, rowAt_new W _⟩
        simp (config := { maxSteps := 10000000 }) only [List.setIfInBounds_toArray, List.set_cons_succ, List.set_cons_zero] at hK'
        clear hK hi HSQ hA hro HK8 HB68 HKB8
        unfold rowsAt rowV
        rw [Nat.zero_add]
        generalize rows.getD k [] = y at h24y hst hK' ⊢
        gi_wp2
        exact hK'
      case body =>
        intro l k yb W hk hi hy
        simp (config := { maxSteps := 10000000 }) only [List.setIfInBounds_toArray, List.set_cons_succ, List.set_cons_zero]
        have hgk : rows[k]? = some (rows.getD k []) := by simp [List.getD, List.getElem?_eq_getElem hk]
        have hro : RowOk (rows.getD k []) := HFN.out.2 _ (List.mem_of_getElem? hgk)
        have HKW := Lib.hid ((HK6.out.keep hi.1).keep (Below.refl _ _).drew)
        have hb16 := bxB hi.2.1 (Below.refl W.heap.size W).drew
        obtain ⟨g3, rfl⟩ : ∃ g3, ao = some ⟨g3, 0, none⟩ := by
          obtain ⟨_, h | ⟨g3, cap, cur, e, _⟩⟩ := HKW.out.own
          · omega
          · cases e; exact ⟨g3, rfl⟩
        have l8 := run_loadRows HKW.out.bs.cell
        have l16 := run_loadInt hb16.cell
        have l18 := run_loadRow (hy.below (Below.refl W.heap.size W).drew) hro.len
        have lrow := run_loadAtRow rfl HKW.out.own (fun x hx => (HFN.out.2 x hx).len) hgk
        have c16 := hb16.cell
        have f16 := hb16.frozen
        have hne' : ∀ u : World, (binOp .neq 25 (rowV (rows.getD k [])) (rowV (rows.getD k []))).run Try.prog u = .ok (.bool false) u := fun u => by
          have := run_neqRowK hro hro u
          rw [this]
          simp
        have HFI : Hid (KeepsFrom w8.heap.size W (W.drew.setCell ⟨kb, 0, none⟩ (.int .i64 ((k : Int) + 1))) ∧ Keeps2 g b2 W (W.drew.setCell ⟨kb, 0, none⟩ (.int .i64 ((k : Int) + 1))) ∧ Below w6.heap.size w6 (W.drew.setCell ⟨kb, 0, none⟩ (.int .i64 ((k : Int) + 1))) ∧ Boxed (W.drew.setCell ⟨kb, 0, none⟩ (.int .i64 ((k : Int) + 1))) kb 3 (.int .i64 (((k + 1 : Nat)) : Int)) ∧ (W.drew.setCell ⟨kb, 0, none⟩ (.int .i64 ((k : Int) + 1))).heap[b2]? = w8.heap[b2]? ∧ w8.heap.size ≤ (W.drew.setCell ⟨kb, 0, none⟩ (.int .i64 ((k : Int) + 1))).heap.size) := by
          have e1 : (W.drew.setCell ⟨kb, 0, none⟩ (.int .i64 ((k : Int) + 1))).heap[g]? = W.heap[g]? := heap_setCell_other _ _ _ _ (by show g ≠ kb; omega)
          have e2 : (W.drew.setCell ⟨kb, 0, none⟩ (.int .i64 ((k : Int) + 1))).heap[b2]? = W.heap[b2]? := heap_setCell_other _ _ _ _ (by show b2 ≠ kb; omega)
          exact ⟨((KeepsOthers.drew W).from _).trans ((KeepsOthers.setCell _ _ _).from _), ⟨e1, e2⟩, hi.1.drew.setCell (p := ⟨kb, 0, none⟩) (by show w6.heap.size ≤ kb; omega) _, by rw [Int.natCast_add]; exact hb16.set _, e2.trans hi.2.2.1, by simpa using hi.2.2.2⟩
        have hk' : (k : Int) < (rows.length : Int) := by omega
        have hk0 : (0 : Int) ≤ (k : Int) := by omega
        have iwk : IntKind.i64.wrap ((k : Int) + 1) = (k : Int) + 1 := by rw [IntKind.wrap_i64]; omega
        unfold rowV at l18 lrow hne'
        clear hi hy hgk hro HKW hb16 HSQ HK8 HB68 HKB8
        generalize rows.getD k [] = y at l18 lrow hne' ⊢
        gi_wp2_with fail
        gi_region_with_o (fail)
        all_goals
          gi_wp2
          exact HFI.out
      case done =>
        rintro D W hD ⟨hbW, hkW, _, hsW⟩ hKD
        have HKW := Lib.hid (HK6.out.keep hbW)
        have HS := Lib.hid (sorted_yes HKW.out.rel (by omega))
        have HKK := Lib.hid (And.intro hkW hKD)
        have hDW : D < W.heap.size := (Array.getElem?_eq_some_iff.1 hKD).1
        clear hbW hkW hKD HSQ HK8 HB68 HKB8
        go_wp2_with fail
        refine HS.out.mono ?_
        rintro e w9 ⟨a9, c9, rfl, rs, hp, hsd, ho9, b9⟩
        have HK9 := Lib.hid (HKW.out.keep b9)
        have l16 := run_loadInt (bxB HKK.out.1 b9).cell
        have l8 := run_loadRows HK9.out.bs.cell
        have HD9 : Hid (w9.heap[D]? = some (.deferred (some []))) := (b9.block D hDW).trans HKK.out.2
        have hrl : rs.length = rows.length := hp.length_eq
        have HRS := Lib.hid (And.intro hp (And.intro hsd ho9))
        have hb69 : w.heap.size + 1 < w6.heap.size := Boxed.lt HK6.out.br
        have HB0 : Hid (Below w9.heap.size w9 w9) := Below.refl _ _
        clear hp hsd ho9 b9 HS HKK HKW
        go_wp2
        clear l16 l8
        go_loopw [20] (fun iv wr => ∃ i : Nat, i ≤ rows.length ∧ iv = .int .i64 i ∧ Hid (Below w9.heap.size w9 wr)) (fun iv _ => rows.length - (intOf iv).toNat)
        case atStart => exact ⟨0, Nat.zero_le _, rfl, HB0.out⟩
        case round =>
          obtain ⟨i, hi, rfl, HI⟩ := hrel
          clear HB0
          by_cases hlt : i < rows.length
          · have hlt' : (i : Int) < (rows.length : Int) := by omega
            have hi0 : (0 : Int) ≤ (i : Int) := by omega
            obtain ⟨y, hy⟩ : ∃ y, rs[i]? = some y := ⟨rs[i], List.getElem?_eq_getElem (by omega)⟩
            have hym : y ∈ rows := HRS.out.1.mem_iff.1 (List.mem_of_getElem? hy)
            have hyo : RowOk y := HFN.out.2 y hym
            obtain ⟨g9, rfl⟩ : ∃ g9, a9 = some ⟨g9, 0, none⟩ := by
              obtain ⟨_, h | ⟨g9, cap, cur, e, _⟩⟩ := HRS.out.2.2
              · omega
              · cases e; exact ⟨g9, rfl⟩
            have hok : ∀ r ∈ rs, r.length = 24 := fun r hr => (HFN.out.2 r (HRS.out.1.mem_iff.1 hr)).len
            have HLD : Hid (∀ u, Below w9.heap.size w9 u → (loadVar 25 ⟨g9, i * 24, none⟩).run Try.prog u = .ok (rowV y) u) := fun u hu => run_loadAtRow hrl.symm (own_below HRS.out.2.2 hu) hok hy
            have hID := HI.out.drew
            have ly := HLD.out _ hID
            have HHS := Lib.hid (hasR_any (HK9.out.keep hID).rel y hyo true (by simp [hym]))
            have HHY : Hid (∀ u, Below w9.heap.size w9 u → Calls Try.prog 9 #[.pointer (some ⟨t, 0, none⟩), rowV y] u fun e w' => e = .returned (.bool true) ∧ Below u.heap.size u w') := fun u hu => hasR_any (HK9.out.keep hu).rel y hyo true (by simp [hym])
            rcases Nat.eq_zero_or_pos i with h0 | hpos
            · subst h0
              have HLY : Hid (∀ u, Below w9.heap.size w9 u → (loadVar 25 ⟨g9, 0 * 24, none⟩).run Try.prog u = .ok (rowV y) u) := HLD
              clear hym hyo hy ly HHS hID HLD
              go_wp2_with fail
              refine region_R (fun u => Below w9.heap.size w9 u) ?_
              apply Exists.intro
              refine ⟨?_, ?_⟩
              · refine wp_region_noPanic ?_
                refine wp_region_held (S := fun u => Below w9.heap.size w9 u) (by kernel_rfl) ?_
                refine reg30A (w5 := wr) (S := fun u => Below w9.heap.size w9 u) (tt := t) (g := g9) (n := rows.length) (cc := c9) (i := 0) (j := 0) (x := y) (y := y) rfl rfl rfl rfl rfl rfl rfl rfl rfl rfl rfl rfl rfl rfl rfl rfl rfl rfl rfl rfl rfl rfl rfl rfl (by kernel_rfl) (by kernel_rfl) (by kernel_rfl) (by kernel_rfl) (fun _ _ _ _ _ h => h) (by simp) rfl rfl rfl HI.out.drew (fun u u' h b => h.trans (b.mono h.size)) hlt HLY.out gtr0 (fun u hu => HHY.out u hu) ?_
                intro wf hS
                exact NoPanic.normal ⟨rfl, rfl, hS⟩
              intro w10 hb10
              simp (config := { maxSteps := 10000000 }) only [Act.put, List.getElem_toArray, List.getElem_cons_zero, List.getElem_cons_succ, List.setIfInBounds_toArray, List.set_cons_succ, List.set_cons_zero]
              have HBN := Lib.hid hb10
              clear hb10 HI HLY HHY
              go_wp2
              go_roundw
              case rel => exact ⟨0 + 1, by omega, by go_num, HBN⟩
              case measure => simp [intOf]; omega
            · obtain ⟨j, rfl⟩ : ∃ j, i = j + 1 := ⟨i - 1, by omega⟩
              obtain ⟨x, hx⟩ : ∃ x, rs[j]? = some x := ⟨rs[j], List.getElem?_eq_getElem (by omega)⟩
              have hxo : RowOk x := HFN.out.2 x (HRS.out.1.mem_iff.1 (List.mem_of_getElem? hx))
              have hxy : lexI x y < 0 := by
                have h1 := HRS.out.2.1 j (j + 1) x y (by omega) hx hy
                have h2 := lexI_swap x y
                by_cases h3 : lexI x y = 0
                · have nd : rs.Nodup := HRS.out.1.nodup_iff.2 HFN.out.1
                  have e := lexI_zero h3
                  subst e
                  have hj1 : j < rs.length := by omega
                  have := (List.getElem?_inj hj1 nd).1 (hx.trans hy.symm)
                  omega
                · omega
              have HLX : Hid (∀ u, Below w9.heap.size w9 u → (loadVar 25 ⟨g9, j * 24, none⟩).run Try.prog u = .ok (rowV x) u) := fun u hu => run_loadAtRow hrl.symm (own_below HRS.out.2.2 hu) hok hx
              have HRB : Hid (∀ u, Calls Try.prog 12 #[rowV x, rowV y] u fun e w' => e = .returned (.bool true) ∧ Below u.heap.size u w') := fun u => by
                have := rbelow_any x y hxo.len hyo.len u
                rw [decide_eq_true hxy] at this
                exact this
              clear hym hyo hy hx hxo hxy ly HHS hID
              go_wp2_with fail
              refine region_R (fun u => Below w9.heap.size w9 u) ?_
              apply Exists.intro
              refine ⟨?_, ?_⟩
              · refine wp_region_noPanic ?_
                refine wp_region_held (S := fun u => Below w9.heap.size w9 u) (by kernel_rfl) ?_
                refine reg30B (w5 := wr) (S := fun u => Below w9.heap.size w9 u) (tt := t) (g := g9) (n := rows.length) (cc := c9) (i := j + 1) (j := j) (x := x) (y := y) rfl rfl rfl rfl rfl rfl rfl rfl rfl rfl rfl rfl rfl rfl rfl rfl rfl rfl rfl rfl rfl rfl rfl rfl (by kernel_rfl) (by kernel_rfl) (by kernel_rfl) (by kernel_rfl) (by kernel_rfl) (fun _ _ _ _ _ h => h) (by simp) rfl rfl rfl HI.out.drew (fun u u' h b => h.trans (b.mono h.size)) hlt HLD.out (gtr1 j) (fun u hu => HHY.out u hu) (by omega) HLX.out (sub1 j (by omega)) (fun u hu => HRB.out u) ?_
                intro wf hS
                exact NoPanic.normal ⟨rfl, rfl, hS⟩
              intro w11 hb11
              simp (config := { maxSteps := 10000000 }) only [Act.put, List.getElem_toArray, List.getElem_cons_zero, List.getElem_cons_succ, List.setIfInBounds_toArray, List.set_cons_succ, List.set_cons_zero]
              have HBN := Lib.hid hb11
              clear hb11 HI HLD HLX HRB HHY
              go_wp2
              go_roundw
              case rel => exact ⟨j + 1 + 1, by omega, by go_num, HBN⟩
              case measure => simp [intOf]; omega
          · obtain rfl : i = rows.length := by omega
            have hDr : wr.heap[D]? = some (.deferred (some [])) := (HI.out.block D (Array.getElem?_eq_some_iff.1 HD9.out).1).trans HD9.out
            have hKr := HK9.out.keep HI.out
            have c6 := hKr.br.cell
            have f6 := hKr.br.frozen
            have hK' : Hid ((wr.setCell ⟨w.heap.size + 1, 0, none⟩ (.bool true)).heap[D]? = some (.deferred (some []))) := (heap_setCell_other _ _ _ _ (by show D ≠ w.heap.size + 1; omega)).trans hDr
            have hbx : Boxed ((wr.setCell ⟨w.heap.size + 1, 0, none⟩ (.bool true)).putObj D (.deferred none)) (w.heap.size + 1) 4 (.bool true) := (World.putObj_heap_other (by omega)).trans (hKr.br.set (.bool true))
            have HR := Lib.hid (run_loadBoolB hbx.cell)
            have HBW := Lib.hid ((hKr.bel.setCell (p := ⟨w.heap.size + 1, 0, none⟩) (by show w.heap.size ≤ w.heap.size + 1; omega) (.bool true)).trans (belowK_b (w := w) (Nat.le_refl _) _ D _ (.deferred none) (by omega) hK'.out rfl rfl))
            clear hDr hKr hbx HI HD9
            go_wp2
            exact ⟨by simp, .inl ⟨_, _, rfl, run_takeDeferred hK'.out, _, rl_results Try.results3 rfl HR.out, rfl, HBW.out⟩⟩
end Go.Proofs.Ytanffdllapnghaa
