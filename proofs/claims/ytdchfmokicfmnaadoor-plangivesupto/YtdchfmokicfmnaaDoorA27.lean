import Derived.Test.YtdchfmokicfmnaaDoorA24
import Derived.Shelf.Spec.TrailingZeros
import Derived.RangeFuncNested
import Derived.RangeFuncBound
import Derived.RangeFuncCalls
import Derived.RangeFuncLeaves
import Derived.Shelf.Abstract
import Derived.WalkKit
import Derived.OwnWalkIn
import Derived.TacticsInMore
import Derived.LoopNIn
import Derived.LoopIn
import Derived.Lib.Hide
import Derived.Shelf.RegionOpen
section
namespace Go.Proofs.YtdchfmokicfmnaaDoor
open Go.RowKit Go.Maps
set_option linter.unusedVariables false
set_option linter.unusedSimpArgs false
attribute [local go_sem ↓] Go.wp_at_zero Go.wp_at_succ

/-- the table of the bits' places lies at its place -/
structure DT (w : World) : Prop where
  lt : 1 < w.heap.size
  cell : ∀ i : Nat, i < 32 → w.cell? ⟨1, i, none⟩ = some (.int .u8 (Lib.deBruijn32tab.getD i 0))
theorem DT.below {w w' : World} (t : DT w) (h : Below w.heap.size w w') : DT w' :=
  ⟨Nat.lt_of_lt_of_le t.lt h.size, fun i hi => by rw [h.cell (p := ⟨_, i, none⟩) t.lt]; exact t.cell i hi⟩
set_option maxHeartbeats 1600000 in
theorem tz_core (x k idx : Nat) (w : World) (hz : ((x : Int) == 0) = false) (key : bits BinOp.and IntKind.u32 (x : Int) (-(x : Int) % 4294967296) * 125613361 % 4294967296 / 134217728 = (idx : Int)) (hi : idx < 32) (hk : k < 32) (hcell : w.cell? ⟨1, idx, none⟩ = some (.int .u8 k)) :
    Calls Tryd.prog 75 #[.int .u32 (x : Int)] w fun e w' => e = .returned (.int .i64 (k : Int)) ∧ w' = w := by
  go_enter Tryd.func75, Tryd.ntmps75
  go_wp2_with (simp only [key])
  go_ret
  exact ⟨rfl, rfl⟩
theorem tz_any {x : Nat} (hx0 : x ≠ 0) (hx : x < 4294967296) (w : World) (h : DT w) :
    Calls Tryd.prog 75 #[.int .u32 (x : Int)] w fun e w' => e = .returned (.int .i64 (Lib.ctz 32 x : Int)) ∧ w' = w := by
  obtain ⟨hlow, hk⟩ := Lib.lowest_bit 32 x hx0 hx
  obtain ⟨hi, htab⟩ := Lib.deBruijn32_at _ hk
  have hcell := h.cell _ hi
  rw [htab] at hcell
  exact tz_core x _ _ w (by rw [beq_eq_false_iff_ne]; omega) (tz32_key x _ hx hx0 hlow) hi hk hcell
/-- the bits that are set, rising -/
def bitsL (M : Nat) : List Nat := (List.range 32).filter (fun i => M.testBit i)
theorem low_bits {M : Nat} (h0 : M ≠ 0) (hM : M < 4294967296) : M.testBit (Lib.ctz 32 M) = true ∧ Lib.ctz 32 M < 32 ∧ (∀ i, i < Lib.ctz 32 M → M.testBit i = false) ∧ ∀ i, (M - 1).testBit i = if i < Lib.ctz 32 M then true else if i = Lib.ctz 32 M then false else M.testBit i := by
  obtain ⟨m, hm, hk⟩ := Lib.ctzFrom_spec 32 M (by omega) hM
  have e : Lib.ctz 32 M = Lib.ctzFrom 32 M := by simp [Lib.ctz, h0]
  rw [e]
  generalize Lib.ctzFrom 32 M = k at hm hk
  have hp : 0 < 2 ^ k := Nat.two_pow_pos k
  have e1 : M = 2 ^ k * (2 * m + 1) + 0 := by omega
  have e2 : M - 1 = 2 ^ k * (2 * m) + (2 ^ k - 1) := by
    rw [hm, Nat.mul_add, Nat.mul_one]
    omega
  have b1 : ∀ i, M.testBit i = if i < k then false else (2 * m + 1).testBit (i - k) := fun i => by
    rw [e1, Nat.testBit_two_pow_mul_add _ hp]
    simp
  have b2 : ∀ i, (M - 1).testBit i = if i < k then true else (2 * m).testBit (i - k) := fun i => by
    rw [e2, Nat.testBit_two_pow_mul_add _ (by omega)]
    split
    · next h => rw [Nat.testBit_two_pow_sub_one]; exact decide_eq_true h
    · rfl
  refine ⟨?_, hk, fun i hi => by rw [b1, if_pos hi], fun i => ?_⟩
  · rw [b1, if_neg (by omega), Nat.sub_self]
    simp [Nat.testBit_zero]
  · rw [b2]
    by_cases hi : i < k
    · rw [if_pos hi, if_pos hi]
    · rw [if_neg hi, if_neg hi]
      by_cases he : i = k
      · subst he
        rw [if_pos rfl, Nat.sub_self]
        simp [Nat.testBit_zero]
      · rw [if_neg he, b1, if_neg hi]
        obtain ⟨j, hj⟩ : ∃ j, i - k = j + 1 := ⟨i - k - 1, by omega⟩
        rw [hj, Nat.testBit_succ, Nat.testBit_succ]
        congr 1
        omega
theorem bitsL_zero : bitsL 0 = [] := by simp [bitsL]
theorem bitsL_cons {M : Nat} (h0 : M ≠ 0) (hM : M < 4294967296) : bitsL M = Lib.ctz 32 M :: bitsL (M &&& (M - 1)) := by
  obtain ⟨h1, h2, h3, h4⟩ := low_bits h0 hM
  generalize Lib.ctz 32 M = k at h1 h2 h3 h4
  have hb : ∀ i, (M &&& (M - 1)).testBit i = (M.testBit i && !decide (i = k)) := fun i => by
    rw [Nat.testBit_and, h4]
    by_cases hi : i < k
    · rw [if_pos hi, h3 i hi]
      rfl
    · rw [if_neg hi]
      by_cases he : i = k
      · subst he
        simp
      · rw [if_neg he]
        simp [he]
  have er : List.range 32 = List.range k ++ (k :: List.range' (k + 1) (31 - k)) := by
    have e : List.range 32 = List.range' 0 (k + (1 + (31 - k))) := by rw [List.range_eq_range']; congr 1; omega
    rw [e, ← List.range'_append_1, Nat.zero_add, List.range_eq_range', Nat.add_comm 1, List.range'_succ]
  unfold bitsL
  rw [er, List.filter_append, List.filter_append, List.filter_cons, List.filter_cons, if_pos h1, if_neg (by rw [hb]; simp)]
  have f1 : (List.range k).filter (fun i => M.testBit i) = [] := List.filter_eq_nil_iff.2 (fun i hi => by rw [h3 i (List.mem_range.1 hi)]; simp)
  have f2 : (List.range k).filter (fun i => (M &&& (M - 1)).testBit i) = [] := List.filter_eq_nil_iff.2 (fun i hi => by rw [hb, h3 i (List.mem_range.1 hi)]; simp)
  rw [f1, f2, List.nil_append, List.nil_append]
  congr 1
  refine List.filter_congr fun i hi => ?_
  rw [hb]
  have := (List.mem_range'_1.1 hi).1
  have hne : i ≠ k := by omega
  simp [hne]
theorem bitsL_mem {M i : Nat} (h : i ∈ bitsL M) : M.testBit i = true ∧ i < 32 := by
  have := List.mem_filter.1 h
  exact ⟨this.2, List.mem_range.1 this.1⟩
end Go.Proofs.YtdchfmokicfmnaaDoor
end
section
namespace Go.Proofs.YtdchfmokicfmnaaDoor
open Go.RowKit
set_option linter.unusedVariables false

/-! an iterator that tells N things one behind the other, the k-th being 'encs k': the loop's body is asked only at what comes next -/
def SeqTells (F : Fence) (n : Nat) (P : Program) (g : Nat) (lb : Array Value) (encs : Nat → Array Value) (Kp : World → World → Prop) (N : Nat) (w : World) : Prop :=
  ∀ (l : Nat) (J Jx : Nat → World → Prop) (W : World), Below w.heap.size w W → AbidesFrom W.heap.size J → AbidesFrom W.heap.size Jx →
    (∀ k W1, k < N → J k W1 → YieldAt F (n - 1) P l (encs k) W1 fun e W' =>
      (e = .returned (.bool true) ∧ J (k + 1) W' ∧ Kp W1 W') ∨ (e = .returned (.bool false) ∧ Jx (k + 1) W')) →
    J 0 W →
    CallsIn F n P g (#[.func (.yield l) #[] #[]] ++ lb) W fun e W' => (∃ v, e = .returned v) ∧ (J N W' ∨ ∃ k, k ≤ N ∧ Jx k W')
/-- how a body may be left, k things having come with this one -/
def tellPost (B : Nat) (Kp : World → World → Prop) (I : Nat → World → Prop) (Ix : Code → Nat → World → Prop) (k : Nat) (W : World) : Exit → Act → World → Prop
  | .normal, _, W' => KeepsFrom B W W' ∧ Kp W W' ∧ I k W'
  | .ret, _, W' => KeepsFrom B W W' ∧ Ix .ret k W'
  | .exit id, _, W' => KeepsFrom B W W' ∧ Ix (.exit id) k W'
  | .goto t, _, W' => KeepsFrom B W W' ∧ Ix (.goto t) k W'
  | .panic _, _, _ => False
  | .outgrown, _, _ => False
/-- the loop's two blocks: that for deferred calls, and its record -/
structure Books (W : World) (b : Nat) (r : Loop) : Prop where
  lp : W.heap[b + 1]? = some (.loop r)
  df : W.heap[b]? = some (.deferred (some []))
theorem Books.put {W : World} {b : Nat} {r : Loop} (h : Books W b r) (r' : Loop) : Books (W.putObj (b + 1) (.loop r')) b r' :=
  ⟨World.putObj_heap_same (Array.getElem?_eq_some_iff.1 h.lp).1, (World.putObj_heap_other (by omega)).trans h.df⟩
theorem Books.kept {W W' : World} {b B : Nat} {r : Loop} (h : Books W b r) (hk : KeepsFrom B W W') (hB : B ≤ b) : Books W' b r :=
  ⟨hk.same _ _ (by omega) h.lp rfl, hk.same _ _ hB h.df rfl⟩
theorem Books.walks {W W' : World} {b : Nat} {r : Loop} {row : Option Nat} (h : Books W b r) (hg : W.grownBy W' row) (hr : ∀ q, row = some q → ∃ o : Obj, W.heap[q]? = some o ∧ o.isWalk = true) : Books W' b r :=
  ⟨(grownBy_keeps hg hr h.lp rfl).trans h.lp, (grownBy_keeps hg hr h.df rfl).trans h.df⟩
theorem wpIn_rangeTells {F : Fence} {n : Nat} {P : Program} {g : Operand} {ps : Array Tmp} {assign body : Code} {Q : Exit → Act → World → Prop} {a : Act} {w : World}
    (hro : F.round = none) (h1 : 1 ≤ n) {gf : Nat} {lb : Array Value} (hg : a.eval g = .func (.func gf) #[] lb) (hFg : F.fn gf) (eg : ∀ args w, (callFunc gf args).run P w = .ok (.enter gf args) w)
    {encs : Nat → Array Value} {Kp : World → World → Prop} {N : Nat} {w0 : World} (hseq : SeqTells F (n - 1) P gf lb encs Kp N w0)
    (hKt : ∀ {A B C : World}, Kp A B → Kp B C → Kp A C) (hKb : ∀ (W : World) (l : Nat) (o o' : Obj), w.heap.size ≤ l → W.heap[l]? = some o → o.isCells = false → o.isWalk = false → Kp W (W.putObj l o')) (hb0 : Below w0.heap.size w0 w) (hps : ∀ k, (encs k).size = ps.size)
    (I : Nat → World → Prop) (Ix : Code → Nat → World → Prop) (hI : OwnFrom w.heap.size I) (hIx : ∀ c, OwnFrom w.heap.size (Ix c)) (h0 : I 0 w) (Ax : Nat → Act → World → Prop) (hAx : ∀ k a', OwnFrom w.heap.size (fun (_ : Unit) W => Ax k a' W))
    (hassign : ∀ (l k : Nat) (W : World) (K : Act → World → Prop), k < N → I k W → (∀ a' W', KeepsFrom w.heap.size W W' → Kp W W' → I k W' → Ax k a' W' → K a' W') →
      assign.wpIn (F.inRound l) (n - 1 - 1) P (Exit.then K (fun _ _ _ => False)) { tmps := (ps.zip (encs k)).foldl (fun t (p, v) => t.setIfInBounds p v) a.tmps, defers := [] } W)
    (hbody : ∀ (l k : Nat) (a' : Act) (W : World), k < N → I k W → Ax k a' W → body.wpIn (F.inRound l) (n - 1 - 1) P (tellPost w.heap.size Kp I Ix (k + 1) W) a' W)
    (hdone : ∀ (D : Nat) (W : World), w.heap.size ≤ D → I N W → W.heap[D]? = some (.deferred (some [])) → Q .normal { a with defers := { target := .collected D, args := #[] } :: a.defers } W)
    (hstop : ∀ (D : Nat) (c : Code) (k : Nat) (W : World), w.heap.size ≤ D → k ≤ N → Ix c k W → W.heap[D]? = some (.deferred (some [])) → c.wpIn F n P Q { a with defers := { target := .collected D, args := #[] } :: a.defers } W) :
    (Code.rangeFunc g ps assign body).wpIn F n P Q a w := by
  refine wpIn_rangeFunc fun fn hfn => ?_
  rw [hro]
  let rec0 : LoopState → Option Code → Loop := fun st pe => { state := st, pending := pe, fn, tmps := a.tmps, params := ps, assign, body, defers := w.heap.size }
  obtain ⟨W1, hW1⟩ : ∃ W1, (w.alloc (.deferred (some []))).alloc (.loop (rec0 .ready none)) = W1 := ⟨_, rfl⟩
  have hs1 : W1.heap.size = w.heap.size + 2 := by rw [← hW1]; simp
  have hk1 : Books W1 w.heap.size (rec0 .ready none) := by
    refine ⟨?_, ?_⟩
    · rw [← hW1]
      have := World.alloc_heap_new (w.alloc (.deferred (some []))) (.loop (rec0 .ready none))
      rwa [World.size_alloc] at this
    · rw [← hW1]
      exact (Below.heap_alloc _ _ _ (by simp)).trans (World.alloc_heap_new w _)
  have hI1 : I 0 W1 := by rw [← hW1]; exact hI.alloc _ (hI.alloc _ h0)
  have hb1 : Below w0.heap.size w0 W1 := by
    rw [← hW1]
    exact hb0.trans ((((Below.refl _ w).alloc (Nat.le_refl _) _).alloc (by simp) _).mono hb0.size)
  refine ⟨w.heap.size + 1, [{ target := .collected w.heap.size, args := #[] }], W1, { target := .fn (.func gf) lb, args := #[.func (.yield (w.heap.size + 1)) #[] #[]] }, W1, gf, #[.func (.yield (w.heap.size + 1)) #[] #[]] ++ lb, W1, ?_, ?_, ?_, ?_, fun _ => h1, ?_⟩
  · rw [← hW1]; exact run_enterLoop_outer _ _ _ _ _
  · simp only [resolve, hg]
    simp [go_sem]
  · intro f' hf'
    simp [Target.leads] at hf'
    subst hf'
    exact hFg
  · simp [invoke, go_sem, eg]
  have hnw : ∀ {A : World} {row : Option Nat}, (∀ r, row = some r → W1.heap.size ≤ r ∧ ∃ o : Obj, A.heap[r]? = some o ∧ o.isWalk = true) → (∀ r, row = some r → w.heap.size ≤ r ∧ ∃ o : Obj, A.heap[r]? = some o ∧ o.isCells = false) := fun hr r e => by
    obtain ⟨hB, o, ho, hw⟩ := hr r e
    exact ⟨by omega, o, ho, Obj.not_cells_of_walk hw⟩
  refine (hseq (w.heap.size + 1) (fun k W => I k W ∧ Books W w.heap.size (rec0 .ready none)) (fun k W => ∃ c, Ix c k W ∧ Books W w.heap.size (rec0 .done (some c))) W1 hb1
    (fun s A B row hs hg' hr => ⟨hI s A B row hs.1 hg' (hnw hr), hs.2.walks hg' (fun r e => (hr r e).2)⟩)
    (fun s A B row hs hg' hr => by
      obtain ⟨c, hc, hk⟩ := hs
      exact ⟨c, hIx c s A B row hc hg' (hnw hr), hk.walks hg' (fun r e => (hr r e).2)⟩)
    ?_ ⟨hI1, hk1⟩).mono ?_
  · rintro k W hkN ⟨hi, hk⟩
    have hy := run_yield (P := P) (args := encs k) hk.lp (hps k)
    refine ⟨fn, _, assign, body, hy, roundIn_of_wpIn hfn (hassign _ k W _ hkN hi fun a' Wa hkfa hkpa hia hax => ?_)⟩
    clear hy
    have hka := hk.kept hkfa (Nat.le_refl _)
    refine ⟨_, run_beginRound hka.lp rfl, ?_⟩
    have hk2 := hka.put { rec0 .ready none with state := .busy }
    have hp2 : Kp Wa (Wa.putObj (w.heap.size + 1) (.loop { rec0 .ready none with state := .busy })) := hKb _ _ _ _ (by omega) hka.lp rfl rfl
    refine wpIn_mono (hbody _ k a' _ hkN (hI.putObj _ hia (by omega) hka.lp rfl) ((hAx k a').putObj (s := ()) _ hax (by omega) hka.lp rfl)) ?_
    have fin : ∀ (jump : Option Code) (W3 : World), KeepsFrom w.heap.size (Wa.putObj (w.heap.size + 1) (.loop { rec0 .ready none with state := .busy })) W3 →
        (Instr.endRound (w.heap.size + 1) jump).run P W3 = .ok (.bool jump.isNone) (W3.putObj (w.heap.size + 1) (.loop (rec0 (if jump.isNone then .ready else .done) jump))) ∧
        Books W3 w.heap.size { rec0 .ready none with state := .busy } := fun jump W3 hk3 =>
      ⟨run_endRound (P := P) jump (hk2.kept hk3 (Nat.le_refl _)).lp, hk2.kept hk3 (Nat.le_refl _)⟩
    intro e a3 W3 hp
    cases e with
    | normal =>
      obtain ⟨hr, hb3⟩ := fin none W3 hp.1
      exact ⟨_, _, hr, .inl ⟨rfl, ⟨hI.putObj _ hp.2.2 (by omega) hb3.lp rfl, hb3.put _⟩, hKt hkpa (hKt (hKt hp2 hp.2.1) (hKb _ _ _ _ (by omega) hb3.lp rfl rfl))⟩⟩
    | ret =>
      obtain ⟨hr, hb3⟩ := fin (some .ret) W3 hp.1
      exact ⟨_, _, hr, .inr ⟨rfl, .ret, (hIx _).putObj _ hp.2 (by omega) hb3.lp rfl, hb3.put _⟩⟩
    | exit id =>
      obtain ⟨hr, hb3⟩ := fin (some (.exit id)) W3 hp.1
      exact ⟨_, _, hr, .inr ⟨rfl, .exit id, (hIx _).putObj _ hp.2 (by omega) hb3.lp rfl, hb3.put _⟩⟩
    | goto t =>
      obtain ⟨hr, hb3⟩ := fin (some (.goto t)) W3 hp.1
      exact ⟨_, _, hr, .inr ⟨rfl, .goto t, (hIx _).putObj _ hp.2 (by omega) hb3.lp rfl, hb3.put _⟩⟩
    | panic ch => exact hp.elim
    | outgrown => exact hp.elim
  · rintro e W2 ⟨⟨v, rfl⟩, (⟨hi, hk⟩ | ⟨k, hkN, c, hi, hk⟩)⟩
    · exact ⟨none, _, run_endLoop (P := P) hk.lp (by simp), hdone _ _ (Nat.le_refl _) (hI.putObj _ hi (by omega) hk.lp rfl) (hk.put _).df⟩
    · exact ⟨some c, _, run_endLoop (P := P) hk.lp (by simp), hstop _ c k _ (Nat.le_refl _) hkN ((hIx c).putObj _ hi (by omega) hk.lp rfl) (hk.put _).df⟩
end Go.Proofs.YtdchfmokicfmnaaDoor
end
section
namespace Go.Proofs.YtdchfmokicfmnaaDoor
open Go.RowKit Go.Maps Go.Shelf
set_option linter.unusedVariables false
set_option linter.unusedSimpArgs false
attribute [local go_sem ↓] Go.wp_at_zero Go.wp_at_succ
attribute [local go_sem] Oper.semAt_some

/-- the table of the bits' places is kept -/
def KeepT (W W' : World) : Prop := W'.heap[1]? = W.heap[1]?
theorem DT.of_block {w w' : World} (h : DT w) (k : KeepT w w') : DT w' := by
  have e : ∀ o, w'.cell? ⟨1, o, none⟩ = w.cell? ⟨1, o, none⟩ := fun o => World.cell?_of_block (w := w) (a := ⟨1, o, none⟩) k
  refine ⟨?_, fun i hi => (e i).trans (h.cell i hi)⟩
  have h1 := h.lt
  unfold KeepT at k
  rw [Array.getElem?_eq_getElem h1] at k
  exact (Array.getElem?_eq_some_iff.1 k).1
/-- the k-th number that is told -/
def bitN (M k : Nat) : Nat := (bitsL M).getD k 0
def bitsAt (M k : Nat) : Array Value := #[.int .i64 ((bitN M k : Nat) : Int)]
theorem bitsL_len (M : Nat) : (bitsL M).length ≤ 32 := by
  have := List.length_filter_le (fun i => M.testBit i) (List.range 32)
  simpa [bitsL] using this
theorem and_pred_lt {M : Nat} (h : M ≠ 0) : M &&& (M - 1) < M := Nat.lt_of_le_of_lt Nat.and_le_right (by omega)
attribute [-go_sem] loadVar
set_option maxHeartbeats 800000 in
theorem rising_any (M : Int) (w : World) : Calls Tryd.prog 65 #[.int .u32 M] w fun e w' => ∃ b0, e = .returned (.func (.func 74) #[] #[.pointer (some ⟨b0, 0, none⟩)]) ∧ w'.cell? ⟨b0, 0, none⟩ = some (.int .u32 M) ∧ b0 < w'.heap.size ∧ w.heap.size ≤ b0 ∧ Below w.heap.size w w' := by
  go_enter Tryd.func65, Tryd.ntmps65
  go_wp2
  go_ret
  exact ⟨_, rfl, (by go_simp), (by simp), (by omega), (Below.refl w.heap.size w).alloc (Nat.le_refl _) _⟩
set_option maxRecDepth 100000 in
set_option maxHeartbeats 3200000 in
theorem rising_tells (n : Nat) {w : World} {M b0 : Nat} (hM : M < 4294967296) (hT : DT w) (h0 : w.cell? ⟨b0, 0, none⟩ = some (.int .u32 (M : Int))) (hb : b0 < w.heap.size) :
    SeqTells Fence.wide n Tryd.prog 74 #[.pointer (some ⟨b0, 0, none⟩)] (bitsAt M) KeepT (bitsL M).length w := by
  intro l J Jx W hW _ _ hY hJ0
  have c0 := load_litsK ((hW.cell (p := ⟨b0, 0, none⟩) hb).trans h0)
  have HDT := Lib.hid (hT.below hW)
  have HY := Lib.hid hY
  have HJ := Lib.hid hJ0
  have HM := Lib.hid hM
  have HN := Lib.hid (bitsL_len M)
  clear h0 hW hY hT hb hJ0 hM
  refine callsIn_of_wp Tryd.func74 rfl trivial ?_ rfl
  simp only [Tryd.ntmps74, List.size_toArray, List.length_cons, List.length_nil, Nat.reduceAdd, Nat.reduceSub, Array.replicate_succ, Array.replicate_zero, List.push_toArray, List.append_toArray, List.nil_append, List.cons_append]
  gi_wp2
  clear c0
  gi_loopw [3] (fun r wr => ∃ k rest : Nat, r = .int .u32 (rest : Int) ∧ Hid (rest < 4294967296) ∧ Hid (bitsL rest = (bitsL M).drop k) ∧ Hid (k ≤ (bitsL M).length) ∧ Hid (J k wr) ∧ Hid (KeepT W wr)) (fun r _ => (intOf r).toNat)
  case atStart => exact ⟨0, M, rfl, HM, rfl, Nat.zero_le _, HJ, rfl⟩
  case round =>
    obtain ⟨k, rest, rfl, HR, HB, HK, HJs, HKp⟩ := hrel
    by_cases hz : rest = 0
    · subst hz
      have HJN : Hid (J (bitsL M).length wr) := by
        have h1 := HB.out
        rw [bitsL_zero] at h1
        have h2 := List.drop_eq_nil_iff.1 h1.symm
        have e : (bitsL M).length = k := Nat.le_antisymm h2 HK.out
        show J _ _
        rw [e]
        exact HJs.out
      clear HY HDT HJ HM HJs HB HK
      gi_wp2
      go_end0
      exact ⟨⟨_, rfl⟩, .inl HJN.out⟩
    · have hne : ((rest : Int) != 0) = true := by rw [bne_iff_ne]; omega
      have hc := bitsL_cons hz HR.out
      rw [HB.out] at hc
      have hlt : k < (bitsL M).length := by
        apply Nat.lt_of_not_le
        intro hle
        rw [List.drop_eq_nil_iff.2 hle] at hc
        cases hc
      have hat : bitN M k = Lib.ctz 32 rest := by
        unfold bitN
        have h1 : ((bitsL M).drop k)[0]? = some (Lib.ctz 32 rest) := by rw [hc]; rfl
        rw [List.getElem?_drop, Nat.add_zero] at h1
        simp [List.getD, h1]
      have HB2 : Hid (bitsL (rest &&& (rest - 1)) = (bitsL M).drop (k + 1)) := by
        show _ = _
        have h1 : ((bitsL M).drop k).tail = bitsL (rest &&& (rest - 1)) := by rw [hc]; rfl
        rw [← h1, List.tail_drop]
      have HZ := Lib.hid (tz_any hz HR.out wr (HDT.out.of_block HKp.out))
      obtain ⟨fn, tmps, assign, body, hy, hR⟩ := HY.out k wr hlt HJs.out
      unfold bitsAt at hy
      rw [hat] at hy
      have hand := bits_and32 rest (rest - 1) HR.out (by have := HR.out; omega)
      have HR2 : Hid (rest &&& (rest - 1) < 4294967296 ∧ rest &&& (rest - 1) < rest) := ⟨Nat.lt_trans (and_pred_lt hz) HR.out, and_pred_lt hz⟩
      have hw1 : IntKind.u32.wrap ((rest : Int) - 1) = ((rest - 1 : Nat) : Int) := by
        have := HR.out
        simp only [IntKind.wrap, IntKind.signed, IntKind.bits, Bool.false_and, Bool.false_eq_true, if_false]
        omega
      have HKL : Hid (k + 1 ≤ (bitsL M).length) := hlt
      clear hc hat hlt HDT HY HJ HM HB HK HJs hz
      generalize Lib.ctz 32 rest = z at hy HZ
      gi_wp2_with fail
      refine ⟨trivial, fun h => (nomatch h), (callsIn_wide.2 HZ.out).mono ?_⟩
      rintro e w1 ⟨rfl, rfl⟩
      gi_wp2
      refine ⟨fun h => (nomatch h), hR.mono ?_⟩
      rintro e W3 (⟨rfl, hJ3, hk3⟩ | ⟨rfl, hJx3⟩)
      · have HF : Hid (J (k + 1) W3 ∧ KeepT W W3) := ⟨hJ3, hk3.trans HKp.out⟩
        clear hJ3 hk3
        gi_wp2
        go_roundw
        case rel => exact ⟨k + 1, rest &&& (rest - 1), by first | rfl | rw [hand] | (rw [hw1, hand]), HR2.out.1, HB2, HKL, HF.out.1, HF.out.2⟩
        case measure => 
          have := HR2.out.2
          simp [intOf]
          omega
      · have HF := Lib.hid hJx3
        clear hJx3
        gi_wp2
        refine bodyPost_ret (results_none rfl _ _ _) rfl ?_
        exact ⟨⟨_, rfl⟩, .inr ⟨k + 1, HKL.out, HF.out⟩⟩
end Go.Proofs.YtdchfmokicfmnaaDoor
end
