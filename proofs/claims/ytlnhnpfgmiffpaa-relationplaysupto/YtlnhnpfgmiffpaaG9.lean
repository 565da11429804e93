import Derived.RangeFuncNested
import Derived.RangeFuncBound
import Derived.RangeFuncCalls
import Derived.RangeFuncLeaves
import Derived.Shelf.Abstract
import Derived.WalkKit
import Derived.OwnWalkIn
import Derived.TacticsInMore
import Derived.LoopNIn
import Derived.LoopIn
import Derived.Lib.Hide
import Derived.Test.YtlnhnpfgmiffpaaG2
import Derived.Test.YtlnhnpfgmiffpaaG3
import Derived.Shelf.RegionOpen
import Derived.Test.YtlnhnpfgmiffpaaG7
import Derived.Test.YtlnhnpfgmiffpaaG5
import Derived.RangeFuncBox
import Derived.RangeFuncWrites
section
namespace Go.Proofs.Ytlnhnpfgmiffpaa
open Go.RowKit
set_option linter.unusedVariables false

/-! an iterator that tells N things one behind the other, the k-th being 'encs k': the loop's body is asked only at what comes next -/
def SeqTells (F : Fence) (n : Nat) (P : Program) (g : Nat) (lb : Array Value) (encs : Nat → Array Value) (Kp : World → World → Prop) (N : Nat) (w : World) : Prop :=
  ∀ (l : Nat) (J Jx : Nat → World → Prop) (W : World), Below w.heap.size w W → AbidesFrom W.heap.size J → AbidesFrom W.heap.size Jx →
    (∀ k W1, k < N → J k W1 → YieldAt F (n - 1) P l (encs k) W1 fun e W' =>
      (e = .returned (.bool true) ∧ J (k + 1) W' ∧ Kp W1 W') ∨ (e = .returned (.bool false) ∧ Jx (k + 1) W')) →
    J 0 W →
    CallsIn F n P g (#[.func (.yield l) #[] #[]] ++ lb) W fun e W' => (∃ v, e = .returned v) ∧ (J N W' ∨ ∃ k, k ≤ N ∧ Jx k W')
/-- how a body may be left, k things having come with this one -/
def tellPost (B : Nat) (Kp : World → World → Prop) (I : Nat → World → Prop) (Ix : Code → Nat → World → Prop) (k : Nat) (W : World) : Exit → Act → World → Prop
  | .normal, _, W' => KeepsFrom B W W' ∧ Kp W W' ∧ I k W'
  | .ret, _, W' => KeepsFrom B W W' ∧ Ix .ret k W'
  | .exit id, _, W' => KeepsFrom B W W' ∧ Ix (.exit id) k W'
  | .goto t, _, W' => KeepsFrom B W W' ∧ Ix (.goto t) k W'
  | .panic _, _, _ => False
  | .outgrown, _, _ => False
/-- the loop's two blocks: that for deferred calls, and its record -/
structure Books (W : World) (b : Nat) (r : Loop) : Prop where
  lp : W.heap[b + 1]? = some (.loop r)
  df : W.heap[b]? = some (.deferred (some []))
theorem Books.put {W : World} {b : Nat} {r : Loop} (h : Books W b r) (r' : Loop) : Books (W.putObj (b + 1) (.loop r')) b r' :=
  ⟨World.putObj_heap_same (Array.getElem?_eq_some_iff.1 h.lp).1, (World.putObj_heap_other (by omega)).trans h.df⟩
theorem Books.kept {W W' : World} {b B : Nat} {r : Loop} (h : Books W b r) (hk : KeepsFrom B W W') (hB : B ≤ b) : Books W' b r :=
  ⟨hk.same _ _ (by omega) h.lp rfl, hk.same _ _ hB h.df rfl⟩
theorem Books.walks {W W' : World} {b : Nat} {r : Loop} {row : Option Nat} (h : Books W b r) (hg : W.grownBy W' row) (hr : ∀ q, row = some q → ∃ o : Obj, W.heap[q]? = some o ∧ o.isWalk = true) : Books W' b r :=
  ⟨(grownBy_keeps hg hr h.lp rfl).trans h.lp, (grownBy_keeps hg hr h.df rfl).trans h.df⟩
theorem wpIn_rangeTells {F : Fence} {n : Nat} {P : Program} {g : Operand} {ps : Array Tmp} {assign body : Code} {Q : Exit → Act → World → Prop} {a : Act} {w : World}
    (hro : F.round = none) (h1 : 1 ≤ n) {gf : Nat} {lb : Array Value} (hg : a.eval g = .func (.func gf) #[] lb) (hFg : F.fn gf) (eg : ∀ args w, (callFunc gf args).run P w = .ok (.enter gf args) w)
    {encs : Nat → Array Value} {Kp : World → World → Prop} {N : Nat} {w0 : World} (hseq : SeqTells F (n - 1) P gf lb encs Kp N w0)
    (hKt : ∀ {A B C : World}, Kp A B → Kp B C → Kp A C) (hKb : ∀ (W : World) (l : Nat) (o o' : Obj), w.heap.size ≤ l → W.heap[l]? = some o → o.isCells = false → o.isWalk = false → Kp W (W.putObj l o')) (hb0 : Below w0.heap.size w0 w) (hps : ∀ k, (encs k).size = ps.size)
    (I : Nat → World → Prop) (Ix : Code → Nat → World → Prop) (hI : OwnFrom w.heap.size I) (hIx : ∀ c, OwnFrom w.heap.size (Ix c)) (h0 : I 0 w) (Ax : Nat → Act → World → Prop) (hAx : ∀ k a', OwnFrom w.heap.size (fun (_ : Unit) W => Ax k a' W))
    (hassign : ∀ (l k : Nat) (W : World) (K : Act → World → Prop), k < N → I k W → (∀ a' W', KeepsFrom w.heap.size W W' → Kp W W' → I k W' → Ax k a' W' → K a' W') →
      assign.wpIn (F.inRound l) (n - 1 - 1) P (Exit.then K (fun _ _ _ => False)) { tmps := (ps.zip (encs k)).foldl (fun t (p, v) => t.setIfInBounds p v) a.tmps, defers := [] } W)
    (hbody : ∀ (l k : Nat) (a' : Act) (W : World), k < N → I k W → Ax k a' W → body.wpIn (F.inRound l) (n - 1 - 1) P (tellPost w.heap.size Kp I Ix (k + 1) W) a' W)
    (hdone : ∀ (D : Nat) (W : World), w.heap.size ≤ D → I N W → W.heap[D]? = some (.deferred (some [])) → Q .normal { a with defers := { target := .collected D, args := #[] } :: a.defers } W)
    (hstop : ∀ (D : Nat) (c : Code) (k : Nat) (W : World), w.heap.size ≤ D → k ≤ N → Ix c k W → W.heap[D]? = some (.deferred (some [])) → c.wpIn F n P Q { a with defers := { target := .collected D, args := #[] } :: a.defers } W) :
    (Code.rangeFunc g ps assign body).wpIn F n P Q a w := by
  refine wpIn_rangeFunc fun fn hfn => ?_
  rw [hro]
  let rec0 : LoopState → Option Code → Loop := fun st pe => { state := st, pending := pe, fn, tmps := a.tmps, params := ps, assign, body, defers := w.heap.size }
  obtain ⟨W1, hW1⟩ : ∃ W1, (w.alloc (.deferred (some []))).alloc (.loop (rec0 .ready none)) = W1 := ⟨_, rfl⟩
  have hs1 : W1.heap.size = w.heap.size + 2 := by rw [← hW1]; simp
  have hk1 : Books W1 w.heap.size (rec0 .ready none) := by
    refine ⟨?_, ?_⟩
    · rw [← hW1]
      have := World.alloc_heap_new (w.alloc (.deferred (some []))) (.loop (rec0 .ready none))
      rwa [World.size_alloc] at this
    · rw [← hW1]
      exact (Below.heap_alloc _ _ _ (by simp)).trans (World.alloc_heap_new w _)
  have hI1 : I 0 W1 := by rw [← hW1]; exact hI.alloc _ (hI.alloc _ h0)
  have hb1 : Below w0.heap.size w0 W1 := by
    rw [← hW1]
    exact hb0.trans ((((Below.refl _ w).alloc (Nat.le_refl _) _).alloc (by simp) _).mono hb0.size)
  refine ⟨w.heap.size + 1, [{ target := .collected w.heap.size, args := #[] }], W1, { target := .fn (.func gf) lb, args := #[.func (.yield (w.heap.size + 1)) #[] #[]] }, W1, gf, #[.func (.yield (w.heap.size + 1)) #[] #[]] ++ lb, W1, ?_, ?_, ?_, ?_, fun _ => h1, ?_⟩
  · rw [← hW1]; exact run_enterLoop_outer _ _ _ _ _
  · simp only [resolve, hg]
    simp [go_sem]
  · intro f' hf'
    simp [Target.leads] at hf'
    subst hf'
    exact hFg
  · simp [invoke, go_sem, eg]
  have hnw : ∀ {A : World} {row : Option Nat}, (∀ r, row = some r → W1.heap.size ≤ r ∧ ∃ o : Obj, A.heap[r]? = some o ∧ o.isWalk = true) → (∀ r, row = some r → w.heap.size ≤ r ∧ ∃ o : Obj, A.heap[r]? = some o ∧ o.isCells = false) := fun hr r e => by
    obtain ⟨hB, o, ho, hw⟩ := hr r e
    exact ⟨by omega, o, ho, Obj.not_cells_of_walk hw⟩
  refine (hseq (w.heap.size + 1) (fun k W => I k W ∧ Books W w.heap.size (rec0 .ready none)) (fun k W => ∃ c, Ix c k W ∧ Books W w.heap.size (rec0 .done (some c))) W1 hb1
    (fun s A B row hs hg' hr => ⟨hI s A B row hs.1 hg' (hnw hr), hs.2.walks hg' (fun r e => (hr r e).2)⟩)
    (fun s A B row hs hg' hr => by
      obtain ⟨c, hc, hk⟩ := hs
      exact ⟨c, hIx c s A B row hc hg' (hnw hr), hk.walks hg' (fun r e => (hr r e).2)⟩)
    ?_ ⟨hI1, hk1⟩).mono ?_
  · rintro k W hkN ⟨hi, hk⟩
    have hy := run_yield (P := P) (args := encs k) hk.lp (hps k)
    refine ⟨fn, _, assign, body, hy, roundIn_of_wpIn hfn (hassign _ k W _ hkN hi fun a' Wa hkfa hkpa hia hax => ?_)⟩
    clear hy
    have hka := hk.kept hkfa (Nat.le_refl _)
    refine ⟨_, run_beginRound hka.lp rfl, ?_⟩
    have hk2 := hka.put { rec0 .ready none with state := .busy }
    have hp2 : Kp Wa (Wa.putObj (w.heap.size + 1) (.loop { rec0 .ready none with state := .busy })) := hKb _ _ _ _ (by omega) hka.lp rfl rfl
    refine wpIn_mono (hbody _ k a' _ hkN (hI.putObj _ hia (by omega) hka.lp rfl) ((hAx k a').putObj (s := ()) _ hax (by omega) hka.lp rfl)) ?_
    have fin : ∀ (jump : Option Code) (W3 : World), KeepsFrom w.heap.size (Wa.putObj (w.heap.size + 1) (.loop { rec0 .ready none with state := .busy })) W3 →
        (Instr.endRound (w.heap.size + 1) jump).run P W3 = .ok (.bool jump.isNone) (W3.putObj (w.heap.size + 1) (.loop (rec0 (if jump.isNone then .ready else .done) jump))) ∧
        Books W3 w.heap.size { rec0 .ready none with state := .busy } := fun jump W3 hk3 =>
      ⟨run_endRound (P := P) jump (hk2.kept hk3 (Nat.le_refl _)).lp, hk2.kept hk3 (Nat.le_refl _)⟩
    intro e a3 W3 hp
    cases e with
    | normal =>
      obtain ⟨hr, hb3⟩ := fin none W3 hp.1
      exact ⟨_, _, hr, .inl ⟨rfl, ⟨hI.putObj _ hp.2.2 (by omega) hb3.lp rfl, hb3.put _⟩, hKt hkpa (hKt (hKt hp2 hp.2.1) (hKb _ _ _ _ (by omega) hb3.lp rfl rfl))⟩⟩
    | ret =>
      obtain ⟨hr, hb3⟩ := fin (some .ret) W3 hp.1
      exact ⟨_, _, hr, .inr ⟨rfl, .ret, (hIx _).putObj _ hp.2 (by omega) hb3.lp rfl, hb3.put _⟩⟩
    | exit id =>
      obtain ⟨hr, hb3⟩ := fin (some (.exit id)) W3 hp.1
      exact ⟨_, _, hr, .inr ⟨rfl, .exit id, (hIx _).putObj _ hp.2 (by omega) hb3.lp rfl, hb3.put _⟩⟩
    | goto t =>
      obtain ⟨hr, hb3⟩ := fin (some (.goto t)) W3 hp.1
      exact ⟨_, _, hr, .inr ⟨rfl, .goto t, (hIx _).putObj _ hp.2 (by omega) hb3.lp rfl, hb3.put _⟩⟩
    | panic ch => exact hp.elim
    | outgrown => exact hp.elim
  · rintro e W2 ⟨⟨v, rfl⟩, (⟨hi, hk⟩ | ⟨k, hkN, c, hi, hk⟩)⟩
    · exact ⟨none, _, run_endLoop (P := P) hk.lp (by simp), hdone _ _ (Nat.le_refl _) (hI.putObj _ hi (by omega) hk.lp rfl) (hk.put _).df⟩
    · exact ⟨some c, _, run_endLoop (P := P) hk.lp (by simp), hstop _ c k _ (Nat.le_refl _) hkN ((hIx c).putObj _ hi (by omega) hk.lp rfl) (hk.put _).df⟩
end Go.Proofs.Ytlnhnpfgmiffpaa
end
section
namespace Go.Proofs.Ytlnhnpfgmiffpaa
open Go.RowKit Go.Maps Go.Shelf
set_option linter.unusedVariables false
set_option linter.unusedSimpArgs false
attribute [local go_sem ↓] Go.wp_at_zero Go.wp_at_succ
attribute [local go_sem] Oper.semAt_some

theorem cell_block {W W' : World} {b : Nat} (h : W'.heap[b]? = W.heap[b]?) (o : Nat) : W'.cell? ⟨b, o, none⟩ = W.cell? ⟨b, o, none⟩ := by
  unfold World.cell?
  simp only [h]
/-- two blocks are kept -/
def Keeps2 (b c : Nat) (W W' : World) : Prop := W'.heap[b]? = W.heap[b]? ∧ W'.heap[c]? = W.heap[c]?
theorem Keeps2.refl (b c : Nat) (W : World) : Keeps2 b c W W := ⟨rfl, rfl⟩
theorem Keeps2.trans {b c : Nat} {X Y Z : World} (h : Keeps2 b c X Y) (k : Keeps2 b c Y Z) : Keeps2 b c X Z := ⟨k.1.trans h.1, k.2.trans h.2⟩
/-- the rows from lo on, with their numbers -/
def rowsAt (rows : List (List Int)) (lo k : Nat) : Array Value := #[.int .i64 ((lo + k : Nat) : Int), rowV (rows.getD (lo + k) [])]
theorem run_loadRelR {w : World} {a : Addr} {v : Value} (h : w.cell? a = some v) : (loadVar 24 a).run Try.prog w = .ok v w := by
  simp [loadVar, go_sem, h]
attribute [-go_sem] loadVar
set_option maxRecDepth 100000 in
set_option maxHeartbeats 3200000 in
theorem range_tells (n : Nat) {w : World} {B t m g cap : Nat} {rows : List (List Int)} {ar gone : Int} (h : Rel w B t m (.slice (some ⟨g, 0, none⟩) rows.length cap) rows ar gone) (hlen : rows.length ≤ 1000000000) {b0 b1 b2 : Nat} (lo : Nat) (hlo : lo ≤ rows.length)
    (h0 : w.cell? ⟨b0, 0, none⟩ = some (.pointer (some ⟨t, 0, none⟩))) (h1 : w.cell? ⟨b1, 0, none⟩ = some (.int .i64 (lo : Int))) (h2 : w.cell? ⟨b2, 0, none⟩ = some (.int .i64 (rows.length : Int))) (hb : b0 < w.heap.size ∧ b1 < w.heap.size ∧ b2 < w.heap.size) :
    SeqTells Fence.wide n Try.prog 51 #[.pointer (some ⟨b0, 0, none⟩), .pointer (some ⟨b1, 0, none⟩), .pointer (some ⟨b2, 0, none⟩)] (rowsAt rows lo) (Keeps2 g b2) (rows.length - lo) w := by
  intro l J Jx W hW _ _ hY hJ0
  have hR := h.keep hW
  have c0 := run_loadRelR ((hW.cell (p := ⟨b0, 0, none⟩) hb.1).trans h0)
  have c1 := run_loadInt ((hW.cell (p := ⟨b1, 0, none⟩) hb.2.1).trans h1)
  have HC2 := Lib.hid ((hW.cell (p := ⟨b2, 0, none⟩) hb.2.2).trans h2)
  have HR := Lib.hid hR
  have HY := Lib.hid hY
  have HT := Lib.hid (there_yes hR)
  have HJ := Lib.hid hJ0
  have lr := run_loadRows (hR.rl.at (j := 0) rfl)
  clear h h0 h1 h2 hW hY hR hJ0
  refine callsIn_of_wp Try.func51 rfl trivial ?_ rfl
  simp only [Try.ntmps51, List.size_toArray, List.length_cons, List.length_nil, Nat.reduceAdd, Nat.reduceSub, Array.replicate_succ, Array.replicate_zero, List.push_toArray, List.append_toArray, List.nil_append, List.cons_append]
  gi_wp2_with fail
  refine ⟨trivial, fun h => (nomatch h), (callsIn_wide.2 HT.out).mono ?_⟩
  rintro e w1 ⟨rfl, rfl⟩
  gi_wp2
  clear c0 c1 lr HT
  gi_loopw [6] (fun i wr => ∃ k : Nat, k ≤ rows.length - lo ∧ i = .int .i64 ((lo + k : Nat) : Int) ∧ J k wr ∧ Keeps2 g b2 w1 wr) (fun i _ => rows.length - (intOf i).toNat)
  case atStart => exact ⟨0, Nat.zero_le _, by simp, HJ.out, Keeps2.refl _ _ _⟩
  case round =>
    obtain ⟨k, hk, rfl, hJs, hnx⟩ := hrel
    have hc2 := run_loadInt ((cell_block hnx.2 0).trans HC2.out)
    by_cases hlt : k < rows.length - lo
    · have hown := own_of_block HR.out.own (w' := wr) (fun g' hg' => by
        have : g = g' := by simpa [Value.ownBlock] using hg'
        subst this
        exact hnx.1)
      obtain ⟨q, hq⟩ : ∃ q : Nat, q = lo + k := ⟨_, rfl⟩
      obtain ⟨fn, tmps, assign, body, hy, hR⟩ := HY.out k wr hlt hJs
      unfold rowsAt at hy
      rw [← hq] at hy ⊢
      have hql : q < rows.length := by omega
      have hgr : rows[q]? = some (rows.getD q []) := by simp [List.getD, List.getElem?_eq_getElem hql]
      have hld := run_loadAtRow rfl hown (fun r hr => (HR.out.ok r hr).len) hgr
      generalize rows.getD q [] = r at hy hld
      unfold rowV at hy hld
      have hq0 : (0 : Int) ≤ (q : Int) := by omega
      have hql' : (q : Int) < (rows.length : Int) := by omega
      have iw : IntKind.i64.wrap ((q : Int) + 1) = (q : Int) + 1 := by rw [IntKind.wrap_i64]; omega
      have HMK := Lib.hid hq
      clear hq hown hgr HY HR HC2 HJ
      gi_wp2
      refine ⟨fun h => (nomatch h), hR.mono ?_⟩
      rintro e W3 (⟨rfl, hJ3, hk3⟩ | ⟨rfl, hJx3⟩)
      · gi_wp2
        go_roundw
        case rel => exact ⟨k + 1, by omega, by have := HMK.out; simp; omega, hJ3, hnx.trans hk3⟩
        case measure => simp [intOf]; omega
      · gi_wp2
        refine bodyPost_ret (results_none rfl _ _ _) rfl ?_
        exact ⟨⟨_, rfl⟩, .inr ⟨k + 1, by omega, hJx3⟩⟩
    · obtain rfl : k = rows.length - lo := by omega
      have e : lo + (rows.length - lo) = rows.length := by omega
      rw [e]
      have HJS := Lib.hid hJs
      clear hJs HY HR HC2 HJ
      gi_wp2
      go_end0
      exact ⟨⟨_, rfl⟩, .inl HJS.out⟩
end Go.Proofs.Ytlnhnpfgmiffpaa
end
section
namespace Go.Proofs.Ytlnhnpfgmiffpaa
open Go.RowKit Go.Maps
set_option linter.unusedVariables false
set_option linter.unusedSimpArgs false
attribute [local go_sem ↓] Go.wp_at_zero Go.wp_at_succ

/-- a mask that leaves a column out -/
def offB (m : Int) (k : Nat) : Bool := bits BinOp.and IntKind.u32 m (2 ^ k % 4294967296) == 0
/-- the first n columns under a mask -/
def underN (m : Int) (r : List Int) : Nat → List Int
  | 0 => r
  | k + 1 => if offB m k = true then (underN m r k).set k 0 else underN m r k
def underL (m : Int) (r : List Int) : List Int := underN m r 24
theorem underN_len (m : Int) (r : List Int) : ∀ n, (underN m r n).length = r.length
  | 0 => rfl
  | n + 1 => by
    unfold underN
    split
    · rw [List.length_set]; exact underN_len m r n
    · exact underN_len m r n
theorem underN_at (m : Int) (r : List Int) (i : Nat) : ∀ n, (underN m r n)[i]? = if i < n ∧ offB m i = true then r[i]?.map (fun _ => 0) else r[i]?
  | 0 => by simp [underN]
  | n + 1 => by
    unfold underN
    by_cases h : offB m n = true
    · rw [if_pos h, List.getElem?_set]
      by_cases e : n = i
      · subst e
        have hl := underN_len m r n
        simp only [if_true, h, and_true, hl, Nat.lt_succ_self]
        by_cases hr : n < r.length
        · simp [hr]
        · simp [hr]
      · rw [if_neg e, underN_at m r i n]
        have : (i < n + 1 ∧ offB m i = true) ↔ (i < n ∧ offB m i = true) := ⟨fun ⟨a, b⟩ => ⟨by omega, b⟩, fun ⟨a, b⟩ => ⟨by omega, b⟩⟩
        simp only [this]
    · rw [if_neg h, underN_at m r i n]
      have : (i < n + 1 ∧ offB m i = true) ↔ (i < n ∧ offB m i = true) := ⟨fun ⟨a, b⟩ => ⟨by
        rcases Nat.lt_succ_iff_lt_or_eq.1 a with a | a
        · exact a
        · subst a; exact absurd b h, b⟩, fun ⟨a, b⟩ => ⟨by omega, b⟩⟩
      simp only [this]
/-- two rows are one under a mask -/
theorem underL_eq {m : Int} {x y : List Int} (hx : x.length = 24) (hy : y.length = 24) : underL m y = underL m x ↔ ∀ i, i < 24 → offB m i = true ∨ y[i]? = x[i]? := by
  unfold underL
  constructor
  · intro h i hi
    have h1 := congrArg (fun l => l[i]?) h
    simp only [underN_at] at h1
    by_cases ho : offB m i = true
    · exact .inl ho
    · simp only [hi, ho, and_false, if_false] at h1
      exact .inr h1
  · intro h
    apply List.ext_getElem?
    intro i
    rw [underN_at, underN_at]
    by_cases hi : i < 24
    · rcases h i hi with ho | he
      · simp only [hi, ho, and_self, if_true]
        rw [List.getElem?_eq_getElem (by omega), List.getElem?_eq_getElem (by omega)]
        rfl
      · rw [he]
    · rw [if_neg (fun e => hi e.1), if_neg (fun e => hi e.1), List.getElem?_eq_none (by omega), List.getElem?_eq_none (by omega)]
theorem underL_len (m : Int) (r : List Int) : (underL m r).length = r.length := underN_len m r 24
attribute [-go_sem] loadVar
theorem RowAt.cellU {w : World} {b : Nat} {r : List Int} (h : RowAt w b r) (hl : r.length = 24) {k : Nat} (hk : k < 24) : w.cell? ⟨b, k, none⟩ = some (.int .i32 (r.getD k 0)) := by
  have h1 : w.heap[b]? = some (.cells (rowC r) 40 (0, 0)) := h
  have h2 : k < r.length := by omega
  simp [World.cell?, h1, rowC, cellI, List.getD, List.getElem?_eq_getElem h2]
theorem RowAt.frozenU {w : World} {b : Nat} {r : List Int} (h : RowAt w b r) (k : Nat) : w.frozen? ⟨b, k, none⟩ = false := by
  have h1 : w.heap[b]? = some (.cells (rowC r) 40 (0, 0)) := h
  simp [World.frozen?, h1]
theorem RowAt.setU {w : World} {b : Nat} {r : List Int} (h : RowAt w b r) (k : Nat) (x : Int) : RowAt (w.setCell ⟨b, k, none⟩ (.int .i32 x)) b (r.set k x) := by
  have h1 : w.heap[b]? = some (.cells (rowC r) 40 (0, 0)) := h
  have h2 : b < w.heap.size := RowAt.lt h
  unfold RowAt
  simp [World.setCell, h1, rowC, List.map_set, cellI, Array.getElem?_modify]
set_option maxHeartbeats 1600000 in
set_option maxRecDepth 100000 in
theorem under_is (m : Int) (r : List Int) (hl : r.length = 24) (w : World) : Calls Try.prog 45 #[.int .u32 m, rowV r] w fun e w' => e = .returned (rowV (underL m r)) ∧ Below w.heap.size w w' := by
  have HA : Hid (RowAt ((w.alloc (.cells (rowC r) 40)).alloc (.cells (rowC zeroL) 40)) w.heap.size r) := (rowAt_new w r).below ((Below.refl _ _).alloc (Nat.le_refl _) _)
  have HZ : Hid (RowAt ((w.alloc (.cells (rowC r) 40)).alloc (.cells (rowC zeroL) 40)) (w.heap.size + 1) zeroL) := by
    have := rowAt_new (w.alloc (.cells (rowC r) 40)) zeroL
    simp only [World.size_alloc] at this
    exact this
  have HB := Lib.hid (((Below.refl w.heap.size w).alloc (Nat.le_refl _) (.cells (rowC r) 40)).alloc (by simp) (.cells (rowC zeroL) 40))
  have hzc : rowC zeroL = #[.int .i32 0, .int .i32 0, .int .i32 0, .int .i32 0, .int .i32 0, .int .i32 0, .int .i32 0, .int .i32 0, .int .i32 0, .int .i32 0, .int .i32 0, .int .i32 0, .int .i32 0, .int .i32 0, .int .i32 0, .int .i32 0, .int .i32 0, .int .i32 0, .int .i32 0, .int .i32 0, .int .i32 0, .int .i32 0, .int .i32 0, .int .i32 0] := rfl
  rw [hzc] at HA HZ HB
  unfold rowV
  go_enter Try.func45, Try.ntmps45
  go_upto_region 1 with fail
  generalize (w.alloc (.cells (rowC r) 40)).alloc _ = W at HA HZ HB ⊢
  clear hzc
  go_wp2
  go_loopw [6] (fun i wr => ∃ k : Nat, k ≤ 24 ∧ i = .int .i64 k ∧ Hid (RowAt wr w.heap.size (underN m r k) ∧ RowAt wr (w.heap.size + 1) zeroL ∧ Below w.heap.size w wr)) (fun i _ => 24 - (intOf i).toNat)
  case atStart => exact ⟨0, by omega, rfl, HA.out, HZ.out, HB.out⟩
  case round =>
    obtain ⟨k, hk, rfl, HI⟩ := hrel
    clear HA HZ HB
    by_cases hlt : k < 24
    · have hlt' : (k : Int) < 24 := by omega
      have hk0 : (0 : Int) ≤ (k : Int) := by omega
      obtain ⟨ha, hz, hb⟩ := HI.out
      have hl' := underN_len m r k
      rw [hl] at hl'
      have hc := ha.cellU hl' hlt
      have hfz := ha.frozenU k
      generalize (underN m r k).getD k 0 = x at hc
      by_cases ho : offB m k = true
      · have HN : Hid (RowAt (wr.setCell ⟨w.heap.size, k, none⟩ (.int .i32 0)) w.heap.size (underN m r (k + 1)) ∧ RowAt (wr.setCell ⟨w.heap.size, k, none⟩ (.int .i32 0)) (w.heap.size + 1) zeroL ∧ Below w.heap.size w (wr.setCell ⟨w.heap.size, k, none⟩ (.int .i32 0))) :=
          ⟨by simp only [underN, ho, if_true]; exact ha.setU k 0, (heap_setCell_other _ _ _ _ (by show w.heap.size + 1 ≠ w.heap.size; omega)).trans hz, hb.setCell (p := ⟨w.heap.size, k, none⟩) (Nat.le_refl _) _⟩
        unfold offB at ho
        clear ha hz hb HI hl'
        go_wp2
        go_roundw
        case rel => exact ⟨k + 1, by omega, by go_num, HN⟩
        case measure => simp [intOf]; omega
      · have HN : Hid (RowAt wr w.heap.size (underN m r (k + 1)) ∧ RowAt wr (w.heap.size + 1) zeroL ∧ Below w.heap.size w wr) :=
          ⟨by simp only [underN, ho, if_false]; exact ha, hz, hb⟩
        have ho' := Bool.eq_false_iff.2 ho
        unfold offB at ho'
        clear ha hz hb HI hl' ho
        go_wp2
        go_roundw
        case rel => exact ⟨k + 1, by omega, by go_num, HN⟩
        case measure => simp [intOf]; omega
    · obtain rfl : k = 24 := by omega
      have hu : underN m r 24 = underL m r := rfl
      obtain ⟨ha, hz, hb⟩ := HI.out
      have hl' := underN_len m r 24
      rw [hl] at hl'
      rw [hu] at ha hl'
      clear hu
      generalize hr' : underL m r = r' at ha hl' ⊢
      have HRU := Lib.hid hr'
      clear hr'
      have hld := run_loadRow ha hl'
      have HZ := Lib.hid hz
      have HB := Lib.hid hb
      clear HI ha hz hb
      unfold rowV at hld
      go_wp2_with (refine wpList_storeRow _ rfl (.tmp 4) (.tmp 17) 40 rfl (w.heap.size + 1) (rowC zeroL) (List.map cellI r').toArray rfl rfl HZ.out (by simp only [List.size_toArray, List.length_map, hl']; exact infoRow) (by simp [hl', rowC]; decide) (by simp [cellI, Value.oneCell']) ?_)
      have HF : RowAt (wr.setRow (w.heap.size + 1) (List.map cellI r').toArray) (w.heap.size + 1) r' := setRow_heap wr (w.heap.size + 1) _ _ _ (0, 0) HZ.out
      refine bodyPost_ret (rl_results Try.results45 (b := w.heap.size + 1) (v := rowV r') rfl (run_loadRow HF hl')) rfl ⟨by rw [HRU.out]; rfl, ?_⟩
      exact HB.out.trans ⟨rfl, rfl, rfl, by simp, fun k hk => setRow_other wr (w.heap.size + 1) k _ (by omega)⟩
end Go.Proofs.Ytlnhnpfgmiffpaa
end
section
namespace Go.Proofs.Ytlnhnpfgmiffpaa
open Go.RowKit Go.Maps Go.Shelf
set_option linter.unusedVariables false
set_option linter.unusedSimpArgs false
attribute [local go_sem ↓] Go.wp_at_zero Go.wp_at_succ
attribute [local go_sem] Oper.semAt_some

theorem run_loadMaskS {w : World} {a : Addr} {v : Value} (h : w.cell? a = some v) : (loadVar 37 a).run Try.prog w = .ok v w := by
  simp [loadVar, go_sem, h]
theorem run_loadIntsS {w : World} {a : Addr} {v : Value} (h : w.cell? a = some v) : (loadVar 65 a).run Try.prog w = .ok v w := by
  simp [loadVar, go_sem, h]
theorem bxB {w w' : World} {B : Nat} {t : TypeId} {v : Value} (h : Boxed w B t v) (hb : Below w.heap.size w w') : Boxed w' B t v := (hb.block B h.lt).trans h
theorem bxN {w : World} {B : Nat} (hB : B = w.heap.size) (t : TypeId) (v : Value) : Boxed (w.alloc (.cells #[v] t)) B t v := hB ▸ Boxed.new w t v
theorem RowAt.other {w : World} {b g i : Nat} {r : List Int} (h : RowAt w b r) (e : b ≠ g) (v : Value) : RowAt (w.setCell ⟨g, i, none⟩ v) b r := (heap_setCell_other _ _ _ _ (by exact e)).trans h
theorem KeepsFrom.below {B : Nat} {W W' : World} (h : Below W.heap.size W W') : KeepsFrom B W W' := ⟨h.size, fun k o _ hk _ => (h.block k (Array.getElem?_eq_some_iff.1 hk).1).trans hk⟩
attribute [-go_sem] loadVar
set_option maxHeartbeats 1600000 in
set_option maxRecDepth 100000 in
theorem range_yes (t : Nat) (i j : Int) (w : World) : Calls Try.prog 31 #[.pointer (some ⟨t, 0, none⟩), .int .i64 i, .int .i64 j] w fun e w' => ∃ b0 b1 b2, e = .returned (.func (.func 51) #[] #[.pointer (some ⟨b0, 0, none⟩), .pointer (some ⟨b1, 0, none⟩), .pointer (some ⟨b2, 0, none⟩)]) ∧ w'.cell? ⟨b0, 0, none⟩ = some (.pointer (some ⟨t, 0, none⟩)) ∧ w'.cell? ⟨b1, 0, none⟩ = some (.int .i64 i) ∧ w'.cell? ⟨b2, 0, none⟩ = some (.int .i64 j) ∧ (b0 < w'.heap.size ∧ b1 < w'.heap.size ∧ b2 < w'.heap.size) ∧ w.heap.size ≤ b2 ∧ Below w.heap.size w w' := by
  go_enter Try.func31, Try.ntmps31
  go_wp2
  go_ret
  refine ⟨_, _, _, rfl, (by go_simp), (by go_simp), (by go_simp), ⟨(by simp <;> omega), (by simp <;> omega), (by simp <;> omega)⟩, (by omega), ?_⟩
  exact (((Below.refl w.heap.size w).alloc (Nat.le_refl _) _).alloc (by simp) _).alloc (by simp; omega) _
set_option maxRecDepth 100000 in
set_option maxHeartbeats 3200000 in
theorem range_tells0 (n : Nat) {w : World} {B t m : Nat} {ar gone : Int} (h : Rel w B t m (.slice none 0 0) [] ar gone) {b0 b1 b2 : Nat}
    (h0 : w.cell? ⟨b0, 0, none⟩ = some (.pointer (some ⟨t, 0, none⟩))) (h1 : w.cell? ⟨b1, 0, none⟩ = some (.int .i64 0)) (h2 : w.cell? ⟨b2, 0, none⟩ = some (.int .i64 0)) (hb : b0 < w.heap.size ∧ b1 < w.heap.size ∧ b2 < w.heap.size) (encs : Nat → Array Value) (Kp : World → World → Prop) :
    SeqTells Fence.wide n Try.prog 51 #[.pointer (some ⟨b0, 0, none⟩), .pointer (some ⟨b1, 0, none⟩), .pointer (some ⟨b2, 0, none⟩)] encs Kp 0 w := by
  intro l J Jx W hW _ _ hY hJ0
  have hR := h.keep hW
  have c0 := run_loadRelR ((hW.cell (p := ⟨b0, 0, none⟩) hb.1).trans h0)
  have c1 := run_loadInt ((hW.cell (p := ⟨b1, 0, none⟩) hb.2.1).trans h1)
  have c2 := run_loadInt ((hW.cell (p := ⟨b2, 0, none⟩) hb.2.2).trans h2)
  have HT := Lib.hid (there_yes hR)
  have HJ := Lib.hid hJ0
  have lr := run_loadRows (hR.rl.at (j := 0) rfl)
  clear h h0 h1 h2 hW hY hR hJ0
  refine callsIn_of_wp Try.func51 rfl trivial ?_ rfl
  simp only [Try.ntmps51, List.size_toArray, List.length_cons, List.length_nil, Nat.reduceAdd, Nat.reduceSub, Array.replicate_succ, Array.replicate_zero, List.push_toArray, List.append_toArray, List.nil_append, List.cons_append]
  gi_wp2_with fail
  refine ⟨trivial, fun h => (nomatch h), (callsIn_wide.2 HT.out).mono ?_⟩
  rintro e w1 ⟨rfl, rfl⟩
  gi_wp2
  gi_loopw [6] (fun i wr => i = .int .i64 0 ∧ wr = w1) (fun _ _ => 0)
  case atStart => exact ⟨rfl, rfl⟩
  case round =>
    obtain ⟨rfl, rfl⟩ := hrel
    gi_wp2
    go_end0
    exact ⟨⟨_, rfl⟩, .inl HJ.out⟩
theorem infoInt : (Try.prog.info? 3).map (fun i => (i.zero, i.size, i.bytes)) = some (some (.int .i64 0), 1, 8) := by kernel_rfl
def intN (n : Nat) : Value := .int .i64 (n : Int)
/-- amid a Select: the mask, the key, the numbers so far; w8: ahead of the ranging -/
structure Sl (w w8 : World) (B0 kb ob b2 : Nat) (m2 : Int) (key : List Int) (L : List Nat) (W : World) : Prop where
  msk : Boxed W B0 37 (.int .u32 m2)
  ky : RowAt W kb key
  out : ∃ a c, Boxed W ob 65 (.slice a L.length c) ∧ W.ownsRow w8.heap.size 3 1 (.slice a L.length c) L.length (L.map intN)
  bel : Below w.heap.size w W
  box : W.heap[b2]? = w8.heap[b2]?
  sz : w8.heap.size ≤ W.heap.size
/-- what lies below stays -/
theorem Sl.keep {w w8 W W' : World} {B0 kb ob b2 : Nat} {m2 : Int} {key : List Int} {L : List Nat} (h : Sl w w8 B0 kb ob b2 m2 key L W) (hb : Below W.heap.size W W') (h2 : b2 < w8.heap.size) : Sl w w8 B0 kb ob b2 m2 key L W' := by
  obtain ⟨a, c, h1, h3⟩ := h.out
  exact ⟨bxB h.msk hb, h.ky.below hb, ⟨a, c, bxB h1 hb, own_below h3 hb⟩, h.bel.trans (hb.mono h.bel.size), (hb.block b2 (by have := h.sz; omega)).trans h.box, Nat.le_trans h.sz hb.size⟩
/-- what is no cells may turn -/
theorem Sl.kept {w w8 W W' : World} {B0 kb ob b2 : Nat} {m2 : Int} {key : List Int} {L : List Nat} {row : Option Nat} (h : Sl w w8 B0 kb ob b2 m2 key L W) (hw : w.heap.size ≤ w8.heap.size) (h2 : b2 < w8.heap.size) (hg : W.grownBy W' row) (hr : ∀ r, row = some r → w8.heap.size ≤ r ∧ ∃ o : Obj, W.heap[r]? = some o ∧ o.isCells = false) : Sl w w8 B0 kb ob b2 m2 key L W' := by
  obtain ⟨a, c, h1, h3⟩ := h.out
  have hne : ∀ {g : Nat} {cs : Array Value} {e : TypeId} {fr : Nat × Nat}, W.heap[g]? = some (.cells cs e fr) → some g ≠ row := fun hc e => by
    obtain ⟨_, o, ho, hcl⟩ := hr _ e.symm
    rw [hc] at ho
    cases ho
    simp [Obj.isCells] at hcl
  refine ⟨h.msk.kept hg (hne h.msk), (hg.block kb (RowAt.lt h.ky) (hne h.ky)).trans h.ky, ⟨a, c, h1.kept hg (hne h1), own_of_block h3 (fun g hgb => ?_)⟩, h.bel.grown hg h.bel.size (fun k e => Nat.le_trans hw (hr k e).1), (hg.block b2 (by have := h.sz; omega) (fun e => ?_)).trans h.box, Nat.le_trans h.sz hg.size⟩
  · refine hg.block g (h3.lt g hgb).2 ?_
    obtain ⟨_, ⟨e, h0⟩ | ⟨g', cap', cur, e, _, hgb', _⟩⟩ := h3
    · rw [e] at hgb; cases hgb
    · rw [e] at hgb
      have hgg : g' = g := by simpa [Value.ownBlock] using hgb
      subst hgg
      exact hne hgb'
  · have := (hr b2 e.symm).1
    omega
/-- one number more -/
theorem Sl.push {w w8 W : World} {B0 kb ob b2 : Nat} {m2 : Int} {key : List Int} {L : List Nat} (h : Sl w w8 B0 kb ob b2 m2 key L W) (hk : kb < w8.heap.size ∧ B0 < w8.heap.size ∧ ob < w8.heap.size ∧ b2 < w8.heap.size) (hne : kb ≠ ob ∧ B0 ≠ ob ∧ b2 ≠ ob) (hw : w.heap.size ≤ ob) (hl : L.length + 1 ≤ 1000000000) (i : Nat) (ty : TypeId) :
    ∃ a c a' c' w', Boxed W ob 65 (.slice a L.length c) ∧ (Builtin.append_ #[65, 65] ty #[.slice a L.length c, .slice (some ⟨W.heap.size, 0, none⟩) 1 1]).run Try.prog (W.alloc (.cells #[.int .i64 (i : Int)] 3)) = .ok (.slice a' (L.length + 1) c') w' ∧
      Boxed w' ob 65 (.slice a L.length c) ∧ Sl w w8 B0 kb ob b2 m2 key (L ++ [i]) (w'.setCell ⟨ob, 0, none⟩ (.slice a' (L.length + 1) c')) ∧ KeepsFrom w8.heap.size W (w'.setCell ⟨ob, 0, none⟩ (.slice a' (L.length + 1) c')) := by
  obtain ⟨a, c, h1, h3⟩ := h.out
  obtain ⟨i0, hi0, hz0, hz1, hz2⟩ := info_parts infoInt
  have ha := (Below.refl W.heap.size W).alloc (Nat.le_refl _) (.cells #[.int .i64 (i : Int)] 3)
  have h3' := own_below h3 ha
  obtain ⟨v', w', hrun, hown, hg, _, hloc⟩ := run_append_own_at (P := Try.prog) (W.alloc (.cells #[.int .i64 (i : Int)] 3)) w8.heap.size 65 ty 3 i0 _ 1 8 Try.underlying65 hi0 hz0 hz1 hz2 rfl (by decide) _ L.length (L.map intN) h3' ⟨W.heap.size, 0, none⟩ 1 1 [intN i] rfl (fun j u hu => by
    have := lit_news W #[.int .i64 (i : Int)] 3 j u (by simpa [intN] using hu)
    exact this) (fun u hu => by rw [List.mem_singleton.1 hu]; rfl) (by unfold maxLen; omega) (by omega) (Nat.le_trans h.sz ha.size)
  obtain ⟨a', c', rfl, _⟩ := own_form hown
  have hob : (Value.slice a L.length c).ownBlock ≠ some ob := fun e => by have := (h3.lt ob e).1; omega
  have hkk : ∀ g, g < w8.heap.size → some g ≠ (Value.slice a L.length c).ownBlock := fun g hg e => by have := (h3.lt g e.symm).1; omega
  have h1' := (bxB h1 ha).kept hg (hkk ob hk.2.2.1)
  have hszA : W.heap.size ≤ (W.alloc (.cells #[.int .i64 (i : Int)] 3)).heap.size := ha.size
  have blk : ∀ g, g < W.heap.size → g < w8.heap.size → g ≠ ob → (w'.setCell ⟨ob, 0, none⟩ (.slice a' (L.length + 1) c')).heap[g]? = W.heap[g]? := fun g hgW hg8 hgo => by
    rw [heap_setCell_other _ _ _ _ (by exact hgo), hg.block g (by omega) (hkk g hg8)]
    exact ha.block g hgW
  refine ⟨a, c, a', c', w', h1, hrun, h1', ⟨(blk B0 h.msk.lt hk.2.1 hne.2.1).trans h.msk, (blk kb (RowAt.lt h.ky) hk.1 hne.1).trans h.ky, ⟨a', c', by rw [List.length_append]; exact h1'.set _, ?_⟩, ?_, (blk b2 (by have := h.sz; omega) hk.2.2.2 hne.2.2).trans h.box, ?_⟩, ?_⟩
  · rw [List.length_append, List.map_append]
    refine own_of_block hown (fun g hgb => heap_setCell_other _ _ _ _ ?_)
    have := (hown.lt g hgb).1
    show g ≠ ob
    omega
  · exact ((h.bel.trans (ha.mono h.bel.size)).grown hg (Nat.le_trans h.bel.size hszA) (fun g hg' => by have := (h3.lt g hg').1; have := h.bel.size; omega)).setCell (p := ⟨ob, 0, none⟩) hw _
  · have := hg.size
    have := h.sz
    simp only [World.size_setCell]
    omega
  · refine ((KeepsFrom.below ha).trans ?_).trans ((KeepsOthers.setCell _ _ _).from _)
    refine (KeepsOthers.of_grownBy hg (fun j o hj ho => ?_)).from _
    obtain ⟨_, ⟨e, h0⟩ | ⟨g', cap', cur, e, _, hgb', _⟩⟩ := h3'
    · rw [e] at hj; cases hj
    · rw [e] at hj
      have hgg : g' = j := by simpa [Value.ownBlock] using hj
      subst hgg
      rw [hgb'] at ho
      cases ho
      rfl
end Go.Proofs.Ytlnhnpfgmiffpaa
end
