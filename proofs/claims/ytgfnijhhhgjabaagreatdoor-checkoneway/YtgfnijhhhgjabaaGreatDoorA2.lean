import Derived.RangeFuncNested
import Derived.RangeFuncBound
import Derived.RangeFuncCalls
import Derived.RangeFuncLeaves
import Derived.Shelf.Abstract
import Derived.WalkKit
import Derived.OwnWalkIn
import Derived.TacticsInMore
import Derived.LoopNIn
import Derived.LoopIn
import Derived.Lib.Hide
import Derived.Test.YtgfnijhhhgjabaaGreatDoorA1
import Derived.Shelf.RegionOpen
import Derived.Room.AppendFits
section
namespace Go.Proofs.YtgfnijhhhgjabaaGreatDoor.AR
open Go.RowKit
set_option linter.unusedVariables false

/-! an iterator that tells N things one behind the other, the k-th being 'encs k': the loop's body is asked only at what comes next -/
def SeqTells (F : Fence) (n : Nat) (P : Program) (g : Nat) (lb : Array Value) (encs : Nat → Array Value) (Kp : World → World → Prop) (N : Nat) (w : World) : Prop :=
  ∀ (l : Nat) (J Jx : Nat → World → Prop) (W : World), Below w.heap.size w W → AbidesFrom W.heap.size J → AbidesFrom W.heap.size Jx →
    (∀ k W1, k < N → J k W1 → YieldAt F (n - 1) P l (encs k) W1 fun e W' =>
      (e = .returned (.bool true) ∧ J (k + 1) W' ∧ Kp W1 W') ∨ (e = .returned (.bool false) ∧ Jx (k + 1) W')) →
    J 0 W →
    CallsIn F n P g (#[.func (.yield l) #[] #[]] ++ lb) W fun e W' => (∃ v, e = .returned v) ∧ (J N W' ∨ ∃ k, k ≤ N ∧ Jx k W')
/-- how a body may be left, k things having come with this one -/
def tellPost (B : Nat) (Kp : World → World → Prop) (I : Nat → World → Prop) (Ix : Code → Nat → World → Prop) (k : Nat) (W : World) : Exit → Act → World → Prop
  | .normal, _, W' => KeepsFrom B W W' ∧ Kp W W' ∧ I k W'
  | .ret, _, W' => KeepsFrom B W W' ∧ Ix .ret k W'
  | .exit id, _, W' => KeepsFrom B W W' ∧ Ix (.exit id) k W'
  | .goto t, _, W' => KeepsFrom B W W' ∧ Ix (.goto t) k W'
  | .panic _, _, _ => False
  | .outgrown, _, _ => False
/-- the loop's two blocks: that for deferred calls, and its record -/
structure Books (W : World) (b : Nat) (r : Loop) : Prop where
  lp : W.heap[b + 1]? = some (.loop r)
  df : W.heap[b]? = some (.deferred (some []))
theorem Books.put {W : World} {b : Nat} {r : Loop} (h : Books W b r) (r' : Loop) : Books (W.putObj (b + 1) (.loop r')) b r' :=
  ⟨World.putObj_heap_same (Array.getElem?_eq_some_iff.1 h.lp).1, (World.putObj_heap_other (by omega)).trans h.df⟩
theorem Books.kept {W W' : World} {b B : Nat} {r : Loop} (h : Books W b r) (hk : KeepsFrom B W W') (hB : B ≤ b) : Books W' b r :=
  ⟨hk.same _ _ (by omega) h.lp rfl, hk.same _ _ hB h.df rfl⟩
theorem Books.walks {W W' : World} {b : Nat} {r : Loop} {row : Option Nat} (h : Books W b r) (hg : W.grownBy W' row) (hr : ∀ q, row = some q → ∃ o : Obj, W.heap[q]? = some o ∧ o.isWalk = true) : Books W' b r :=
  ⟨(grownBy_keeps hg hr h.lp rfl).trans h.lp, (grownBy_keeps hg hr h.df rfl).trans h.df⟩
theorem wpIn_rangeTells {F : Fence} {n : Nat} {P : Program} {g : Operand} {ps : Array Tmp} {assign body : Code} {Q : Exit → Act → World → Prop} {a : Act} {w : World}
    (hro : F.round = none) (h1 : 1 ≤ n) {gf : Nat} {lb : Array Value} (hg : a.eval g = .func (.func gf) #[] lb) (hFg : F.fn gf) (eg : ∀ args w, (callFunc gf args).run P w = .ok (.enter gf args) w)
    {encs : Nat → Array Value} {Kp : World → World → Prop} {N : Nat} {w0 : World} (hseq : SeqTells F (n - 1) P gf lb encs Kp N w0)
    (hKt : ∀ {A B C : World}, Kp A B → Kp B C → Kp A C) (hKb : ∀ (W : World) (l : Nat) (o o' : Obj), w.heap.size ≤ l → W.heap[l]? = some o → o.isCells = false → o.isWalk = false → Kp W (W.putObj l o')) (hb0 : Below w0.heap.size w0 w) (hps : ∀ k, (encs k).size = ps.size)
    (I : Nat → World → Prop) (Ix : Code → Nat → World → Prop) (hI : OwnFrom w.heap.size I) (hIx : ∀ c, OwnFrom w.heap.size (Ix c)) (h0 : I 0 w) (Ax : Nat → Act → World → Prop) (hAx : ∀ k a', OwnFrom w.heap.size (fun (_ : Unit) W => Ax k a' W))
    (hassign : ∀ (l k : Nat) (W : World) (K : Act → World → Prop), k < N → I k W → (∀ a' W', KeepsFrom w.heap.size W W' → Kp W W' → I k W' → Ax k a' W' → K a' W') →
      assign.wpIn (F.inRound l) (n - 1 - 1) P (Exit.then K (fun _ _ _ => False)) { tmps := (ps.zip (encs k)).foldl (fun t (p, v) => t.setIfInBounds p v) a.tmps, defers := [] } W)
    (hbody : ∀ (l k : Nat) (a' : Act) (W : World), k < N → I k W → Ax k a' W → body.wpIn (F.inRound l) (n - 1 - 1) P (tellPost w.heap.size Kp I Ix (k + 1) W) a' W)
    (hdone : ∀ (D : Nat) (W : World), w.heap.size ≤ D → I N W → W.heap[D]? = some (.deferred (some [])) → Q .normal { a with defers := { target := .collected D, args := #[] } :: a.defers } W)
    (hstop : ∀ (D : Nat) (c : Code) (k : Nat) (W : World), w.heap.size ≤ D → k ≤ N → Ix c k W → W.heap[D]? = some (.deferred (some [])) → c.wpIn F n P Q { a with defers := { target := .collected D, args := #[] } :: a.defers } W) :
    (Code.rangeFunc g ps assign body).wpIn F n P Q a w := by
  refine wpIn_rangeFunc fun fn hfn => ?_
  rw [hro]
  let rec0 : LoopState → Option Code → Loop := fun st pe => { state := st, pending := pe, fn, tmps := a.tmps, params := ps, assign, body, defers := w.heap.size }
  obtain ⟨W1, hW1⟩ : ∃ W1, (w.alloc (.deferred (some []))).alloc (.loop (rec0 .ready none)) = W1 := ⟨_, rfl⟩
  have hs1 : W1.heap.size = w.heap.size + 2 := by rw [← hW1]; simp
  have hk1 : Books W1 w.heap.size (rec0 .ready none) := by
    refine ⟨?_, ?_⟩
    · rw [← hW1]
      have := World.alloc_heap_new (w.alloc (.deferred (some []))) (.loop (rec0 .ready none))
      rwa [World.size_alloc] at this
    · rw [← hW1]
      exact (Below.heap_alloc _ _ _ (by simp)).trans (World.alloc_heap_new w _)
  have hI1 : I 0 W1 := by rw [← hW1]; exact hI.alloc _ (hI.alloc _ h0)
  have hb1 : Below w0.heap.size w0 W1 := by
    rw [← hW1]
    exact hb0.trans ((((Below.refl _ w).alloc (Nat.le_refl _) _).alloc (by simp) _).mono hb0.size)
  refine ⟨w.heap.size + 1, [{ target := .collected w.heap.size, args := #[] }], W1, { target := .fn (.func gf) lb, args := #[.func (.yield (w.heap.size + 1)) #[] #[]] }, W1, gf, #[.func (.yield (w.heap.size + 1)) #[] #[]] ++ lb, W1, ?_, ?_, ?_, ?_, fun _ => h1, ?_⟩
  · rw [← hW1]; exact run_enterLoop_outer _ _ _ _ _
  · simp only [resolve, hg]
    simp [go_sem]
  · intro f' hf'
    simp [Target.leads] at hf'
    subst hf'
    exact hFg
  · simp [invoke, go_sem, eg]
  have hnw : ∀ {A : World} {row : Option Nat}, (∀ r, row = some r → W1.heap.size ≤ r ∧ ∃ o : Obj, A.heap[r]? = some o ∧ o.isWalk = true) → (∀ r, row = some r → w.heap.size ≤ r ∧ ∃ o : Obj, A.heap[r]? = some o ∧ o.isCells = false) := fun hr r e => by
    obtain ⟨hB, o, ho, hw⟩ := hr r e
    exact ⟨by omega, o, ho, Obj.not_cells_of_walk hw⟩
  refine (hseq (w.heap.size + 1) (fun k W => I k W ∧ Books W w.heap.size (rec0 .ready none)) (fun k W => ∃ c, Ix c k W ∧ Books W w.heap.size (rec0 .done (some c))) W1 hb1
    (fun s A B row hs hg' hr => ⟨hI s A B row hs.1 hg' (hnw hr), hs.2.walks hg' (fun r e => (hr r e).2)⟩)
    (fun s A B row hs hg' hr => by
      obtain ⟨c, hc, hk⟩ := hs
      exact ⟨c, hIx c s A B row hc hg' (hnw hr), hk.walks hg' (fun r e => (hr r e).2)⟩)
    ?_ ⟨hI1, hk1⟩).mono ?_
  · rintro k W hkN ⟨hi, hk⟩
    have hy := run_yield (P := P) (args := encs k) hk.lp (hps k)
    refine ⟨fn, _, assign, body, hy, roundIn_of_wpIn hfn (hassign _ k W _ hkN hi fun a' Wa hkfa hkpa hia hax => ?_)⟩
    clear hy
    have hka := hk.kept hkfa (Nat.le_refl _)
    refine ⟨_, run_beginRound hka.lp rfl, ?_⟩
    have hk2 := hka.put { rec0 .ready none with state := .busy }
    have hp2 : Kp Wa (Wa.putObj (w.heap.size + 1) (.loop { rec0 .ready none with state := .busy })) := hKb _ _ _ _ (by omega) hka.lp rfl rfl
    refine wpIn_mono (hbody _ k a' _ hkN (hI.putObj _ hia (by omega) hka.lp rfl) ((hAx k a').putObj (s := ()) _ hax (by omega) hka.lp rfl)) ?_
    have fin : ∀ (jump : Option Code) (W3 : World), KeepsFrom w.heap.size (Wa.putObj (w.heap.size + 1) (.loop { rec0 .ready none with state := .busy })) W3 →
        (Instr.endRound (w.heap.size + 1) jump).run P W3 = .ok (.bool jump.isNone) (W3.putObj (w.heap.size + 1) (.loop (rec0 (if jump.isNone then .ready else .done) jump))) ∧
        Books W3 w.heap.size { rec0 .ready none with state := .busy } := fun jump W3 hk3 =>
      ⟨run_endRound (P := P) jump (hk2.kept hk3 (Nat.le_refl _)).lp, hk2.kept hk3 (Nat.le_refl _)⟩
    intro e a3 W3 hp
    cases e with
    | normal =>
      obtain ⟨hr, hb3⟩ := fin none W3 hp.1
      exact ⟨_, _, hr, .inl ⟨rfl, ⟨hI.putObj _ hp.2.2 (by omega) hb3.lp rfl, hb3.put _⟩, hKt hkpa (hKt (hKt hp2 hp.2.1) (hKb _ _ _ _ (by omega) hb3.lp rfl rfl))⟩⟩
    | ret =>
      obtain ⟨hr, hb3⟩ := fin (some .ret) W3 hp.1
      exact ⟨_, _, hr, .inr ⟨rfl, .ret, (hIx _).putObj _ hp.2 (by omega) hb3.lp rfl, hb3.put _⟩⟩
    | exit id =>
      obtain ⟨hr, hb3⟩ := fin (some (.exit id)) W3 hp.1
      exact ⟨_, _, hr, .inr ⟨rfl, .exit id, (hIx _).putObj _ hp.2 (by omega) hb3.lp rfl, hb3.put _⟩⟩
    | goto t =>
      obtain ⟨hr, hb3⟩ := fin (some (.goto t)) W3 hp.1
      exact ⟨_, _, hr, .inr ⟨rfl, .goto t, (hIx _).putObj _ hp.2 (by omega) hb3.lp rfl, hb3.put _⟩⟩
    | panic ch => exact hp.elim
    | outgrown => exact hp.elim
  · rintro e W2 ⟨⟨v, rfl⟩, (⟨hi, hk⟩ | ⟨k, hkN, c, hi, hk⟩)⟩
    · exact ⟨none, _, run_endLoop (P := P) hk.lp (by simp), hdone _ _ (Nat.le_refl _) (hI.putObj _ hi (by omega) hk.lp rfl) (hk.put _).df⟩
    · exact ⟨some c, _, run_endLoop (P := P) hk.lp (by simp), hstop _ c k _ (Nat.le_refl _) hkN ((hIx c).putObj _ hi (by omega) hk.lp rfl) (hk.put _).df⟩
end Go.Proofs.YtgfnijhhhgjabaaGreatDoor.AR
end
section
namespace Go.Proofs.YtgfnijhhhgjabaaGreatDoor.AR
open Go.RowKit Go.Maps Go.Shelf
set_option linter.unusedVariables false
set_option linter.unusedSimpArgs false
attribute [local go_sem] Oper.semAt_some

/-! ranging backwards -/
/-- the k-th thing that a list tells from its end -/
theorem cell_block {W W' : World} {b : Nat} (h : W'.heap[b]? = W.heap[b]?) (o : Nat) : W'.cell? ⟨b, o, none⟩ = W.cell? ⟨b, o, none⟩ := by
  unfold World.cell?
  simp only [h]
/-- two blocks are kept -/
def Keeps2 (b c : Nat) (W W' : World) : Prop := W'.heap[b]? = W.heap[b]? ∧ W'.heap[c]? = W.heap[c]?
theorem Keeps2.refl (b c : Nat) (W : World) : Keeps2 b c W W := ⟨rfl, rfl⟩
theorem Keeps2.trans {b c : Nat} {X Y Z : World} (h : Keeps2 b c X Y) (k : Keeps2 b c Y Z) : Keeps2 b c X Z := ⟨k.1.trans h.1, k.2.trans h.2⟩
def backAt (zs : List Nat) (k : Nat) : Array Value := #[.int .i64 ((zs.length - 1 - k : Nat) : Int), .int .i64 ((zs[zs.length - 1 - k]?.getD 0 : Nat) : Int)]
set_option maxRecDepth 100000 in
set_option maxHeartbeats 1600000 in
theorem backward_tells (n Bs b cap : Nat) (zs : List Nat) (hlen : zs.length ≤ 1000000) (w : World) (hBs : Bs < w.heap.size) (hb : b < w.heap.size)
    (hc : w.cell? ⟨Bs, 0, none⟩ = some (.slice (some ⟨b, 0, none⟩) zs.length cap)) (hcs : ∀ j, j < zs.length → w.cell? ⟨b, j, none⟩ = some (.int .i64 ((zs[j]?.getD 0 : Nat) : Int))) :
    SeqTells Fence.wide n Tryz.prog 153 #[.pointer (some ⟨Bs, 0, none⟩)] (backAt zs) (Keeps2 b Bs) zs.length w := by
  intro l J Jx W hW _ _ hY h0
  have hc' := (hW.cell (p := ⟨Bs, 0, none⟩) hBs).trans hc
  have hcs' : ∀ j, j < zs.length → W.cell? ⟨b, j, none⟩ = some (.int .i64 ((zs[j]?.getD 0 : Nat) : Int)) := fun j hj => (hW.cell (p := ⟨b, j, none⟩) hb).trans (hcs j hj)
  have HC := Lib.hid hc'
  have HCS := Lib.hid hcs'
  have HY := Lib.hid hY
  clear hc hcs hcs' hW hY
  refine callsIn_of_wp Tryz.func153 rfl trivial ?_ rfl
  simp only [Tryz.ntmps153, List.size_toArray, List.length_cons, List.length_nil, Nat.reduceAdd, Nat.reduceSub, Array.replicate_succ, Array.replicate_zero, List.push_toArray, List.append_toArray, List.nil_append, List.cons_append]
  gi_wp2
  clear hc'
  gi_loopw [3] (fun i wr => ∃ k : Nat, k ≤ zs.length ∧ i = .int .i64 ((zs.length : Int) - 1 - k) ∧ J k wr ∧ Keeps2 b Bs W wr) (fun i _ => (intOf i + 1).toNat)
  case atStart => exact ⟨0, Nat.zero_le _, by simp, h0, Keeps2.refl _ _ _⟩
  case round =>
    obtain ⟨k, hk, rfl, hJs, hnx⟩ := hrel
    have hc1 := (cell_block hnx.2 0).trans HC.out
    by_cases hlt : k < zs.length
    · obtain ⟨m, hm⟩ : ∃ m : Nat, m = zs.length - 1 - k := ⟨_, rfl⟩
      have hmi : (zs.length : Int) - 1 - (k : Int) = (m : Int) := by omega
      have hml : m < zs.length := by omega
      obtain ⟨fn, tmps, assign, body, hy, hR⟩ := HY.out k wr hlt hJs
      have hcx := (cell_block hnx.1 m).trans (HCS.out m hml)
      unfold backAt at hy
      rw [← hm] at hy
      generalize zs[m]?.getD 0 = zm at hy hcx
      rw [hmi]
      have hm0 : (0 : Int) ≤ (m : Int) := by omega
      have hml' : (m : Int) < (zs.length : Int) := by omega
      have HMK := Lib.hid (And.intro hm hmi)
      clear hm hmi HY HCS HC
      gi_wp2
      refine ⟨fun h => (nomatch h), hR.mono ?_⟩
      rintro e W3 (⟨rfl, hJ3, hk3⟩ | ⟨rfl, hJx3⟩)
      · gi_wp2
        go_roundw
        case rel => exact ⟨k + 1, by omega, by have := HMK.out; simp; omega, hJ3, hnx.trans hk3⟩
        case measure => simp [intOf]
      · gi_wp2
        refine bodyPost_ret (results_none rfl _ _ _) rfl ?_
        exact ⟨⟨_, rfl⟩, .inr ⟨k + 1, by omega, hJx3⟩⟩
    · obtain rfl : k = zs.length := by omega
      have hmi : (zs.length : Int) - 1 - (zs.length : Int) = -1 := by omega
      rw [hmi]
      gi_wp2
      go_end0
      exact ⟨⟨_, rfl⟩, .inl hJs⟩
set_option maxRecDepth 100000 in
set_option maxHeartbeats 1600000 in
theorem backward_nil (n Bs b : Nat) (w : World) (hBs : Bs < w.heap.size) (hc : w.cell? ⟨Bs, 0, none⟩ = some (.slice none 0 0)) :
    SeqTells Fence.wide n Tryz.prog 153 #[.pointer (some ⟨Bs, 0, none⟩)] (backAt []) (Keeps2 b Bs) 0 w := by
  intro l J Jx W hW _ _ hY h0
  have hc' := (hW.cell (p := ⟨Bs, 0, none⟩) hBs).trans hc
  clear hc hW hY
  refine callsIn_of_wp Tryz.func153 rfl trivial ?_ rfl
  simp only [Tryz.ntmps153, List.size_toArray, List.length_cons, List.length_nil, Nat.reduceAdd, Nat.reduceSub, Array.replicate_succ, Array.replicate_zero, List.push_toArray, List.append_toArray, List.nil_append, List.cons_append]
  gi_wp2
  clear hc'
  gi_loopw [3] (fun i wr => i = .int .i64 (-1) ∧ J 0 wr) (fun _ _ => 0)
  case atStart => exact ⟨rfl, h0⟩
  case round =>
    obtain ⟨rfl, hJs⟩ := hrel
    gi_wp2
    go_end0
    exact ⟨⟨_, rfl⟩, .inl hJs⟩
set_option maxHeartbeats 800000 in
theorem backward_in (n : Nat) (a : Option Addr) (len cap : Nat) (w : World) : CallsIn Fence.wide n Tryz.prog 142 #[.slice a len cap] w fun e w' => e = .returned (.func (.func 153) #[] #[.pointer (some ⟨w.heap.size, 0, none⟩)]) ∧ w' = w.alloc (.cells #[.slice a len cap] 171) := by
  refine callsIn_of_wp Tryz.func142 rfl trivial ?_ rfl
  simp only [Tryz.ntmps142, List.size_toArray, List.length_cons, List.length_nil, Nat.reduceAdd, Nat.reduceSub, Array.replicate_succ, Array.replicate_zero, List.push_toArray, List.append_toArray, List.nil_append, List.cons_append]
  gi_wp2
  go_ret
  exact ⟨rfl, rfl⟩
end Go.Proofs.YtgfnijhhhgjabaaGreatDoor.AR
end
section
namespace Go.Proofs.YtgfnijhhhgjabaaGreatDoor.AR
open Go.RowKit Go.Maps Go.Shelf
set_option linter.unusedVariables false
set_option linter.unusedSimpArgs false
attribute [local go_sem] Oper.semAt_some

theorem infoByte : (Tryz.prog.info? 5).map (fun i => (i.zero, i.size, i.bytes)) = some (some (.int .u8 0), 1, 1) := by kernel_rfl
theorem run_make_bytes (n : Nat) (hn : n ≤ 1000000) (w : World) :
    (Instr.makeSlice 197 (.int .i64 0) (.int .i64 (n : Int))).run Tryz.prog w = .ok (.slice (some ⟨w.heap.size, 0, none⟩) 0 n) (w.alloc (.cells (madeCells #[.int .u8 0] n) 5)) := by
  obtain ⟨i, hi, h1, h2, h3⟩ := info_parts infoByte
  have := run_make (P := Tryz.prog) w 197 5 i _ Tryz.underlying197 hi h1 .i64 .i64 0 (n : Int) (by omega) (by omega) (by rw [h3]; omega) (by omega)
  rw [this, h2, Nat.mul_one]
  rfl
/-- one character more -/
theorem bk_append {W : World} {B : Nat} {s : ByteArray} {k : Nat} (h : BkSt W B s k) (hk : k < (starts s).length) (ty : TypeId) :
    ∃ w', (Builtin.append_ #[197, 9] ty #[.slice (some ⟨B + 1, 0, none⟩) (backL s k).length s.size, .string (chunk s k)]).run Tryz.prog W = .ok (.slice (some ⟨B + 1, 0, none⟩) (backL s (k + 1)).length s.size) w' ∧
      w'.ownsRow (B + 1) 5 1 (.slice (some ⟨B + 1, 0, none⟩) (backL s (k + 1)).length s.size) (backL s (k + 1)).length (Lib.byteCells (backL s (k + 1))) ∧ W.grownBy w' (some (B + 1)) := by
  obtain ⟨i, hi, h1, h2, h3⟩ := info_parts infoByte
  have hse := start_end s hk
  have hel := endAt_le s (Nat.le_of_lt hk)
  have hcs := chunk_size s hk
  have hbl := backL_len s k (Nat.le_of_lt hk)
  have hlen : (backL s (k + 1)).length = (backL s k).length + (chunk s k).size := by rw [backL, List.length_append, len_toList]
  obtain ⟨w', hr, hown, hg⟩ := Lib.run_append_fits_string (P := Tryz.prog) W (B + 1) 197 9 ty 5 i Tryz.underlying197 Tryz.underlying9 hi h2 _ _ _ _ h.row (chunk s k) (by omega) (by omega)
  refine ⟨w', by rw [hlen]; exact hr, ?_, hg⟩
  rw [hlen]
  have e : Lib.byteCells (backL s (k + 1)) = Lib.byteCells (backL s k) ++ Lib.strCells (chunk s k) := by
    rw [backL]
    simp [Lib.byteCells, Lib.strCells]
  rw [e]
  exact hown
theorem bk_next {W w' : World} {B : Nat} {s : ByteArray} {k : Nat} (h : BkSt W B s k) (hk : k < (starts s).length)
    (hown : w'.ownsRow (B + 1) 5 1 (.slice (some ⟨B + 1, 0, none⟩) (backL s (k + 1)).length s.size) (backL s (k + 1)).length (Lib.byteCells (backL s (k + 1)))) (hg : W.grownBy w' (some (B + 1))) :
    Boxed w' B 9 (.string s) ∧ Boxed w' (B + 1 + 1) 197 (.slice (some ⟨B + 1, 0, none⟩) (backL s k).length s.size) ∧ Boxed w' (B + 1 + 1 + 1) 3 (.int .i64 (endAt s k : Int)) ∧
    BkSt ((w'.setCell ⟨B + 1 + 1, 0, none⟩ (.slice (some ⟨B + 1, 0, none⟩) (backL s (k + 1)).length s.size)).setCell ⟨B + 1 + 1 + 1, 0, none⟩ (.int .i64 (startAt s k : Int))) B s (k + 1) := by
  have h1 := h.bs.kept hg (fun e => by have := Option.some.inj e; omega)
  have h2 := h.bo.kept hg (fun e => by have := Option.some.inj e; omega)
  have h3 := h.be.kept hg (fun e => by have := Option.some.inj e; omega)
  refine ⟨h1, h2, h3, ⟨(h1.other (B' := B + 1 + 1) (by omega) _).other (B' := B + 1 + 1 + 1) (by omega) _, ?_, (h2.set _).other (B' := B + 1 + 1 + 1) (by omega) _, by rw [endAt_succ]; exact (h3.other (B' := B + 1 + 1) (by omega) _).set _⟩⟩
  refine own_of_block hown (fun g hgg => ?_)
  have hgb : B + 1 = g := by simpa [Value.ownBlock] using hgg
  subst hgb
  rw [heap_setCell_other _ _ _ _ (by show B + 1 ≠ B + 1 + 1 + 1; omega), heap_setCell_other _ _ _ _ (by show B + 1 ≠ B + 1 + 1; omega)]
theorem seq_of_own {w5 : World} {B : Nat} {sv : Value} {zs : List Nat} (hown : w5.ownsRow B 3 1 sv zs.length (zs.map intC)) (hz : zs.length ≤ 1000000) (hB : B ≤ w5.heap.size) (n : Nat) :
    ∃ b, B ≤ b ∧ b ≤ w5.heap.size ∧ SeqTells Fence.wide n Tryz.prog 153 #[.pointer (some ⟨w5.heap.size, 0, none⟩)] (backAt zs) (Keeps2 b w5.heap.size) zs.length (w5.alloc (.cells #[sv] 171)) := by
  have hbx := (Boxed.new w5 171 sv).cell
  rcases hown.2 with ⟨rfl, h0⟩ | ⟨g, cap, cur, rfl, hg0, hgb, hnc, hcm, hcs, htk⟩
  · have : zs = [] := List.eq_nil_of_length_eq_zero h0
    subst this
    exact ⟨w5.heap.size, hB, Nat.le_refl _, backward_nil n w5.heap.size w5.heap.size _ (by simp) hbx⟩
  · have hlt : g < w5.heap.size := (Array.getElem?_eq_some_iff.1 hgb).1
    refine ⟨g, hg0, Nat.le_of_lt hlt, backward_tells n w5.heap.size g cap zs hz _ (by simp) (by simp; omega) hbx (fun j hj => ?_)⟩
    have hx : (cur.toList.take (zs.length * 1))[j]? = some (.int .i64 ((zs[j]?.getD 0 : Nat) : Int)) := by
      rw [htk, List.getElem?_map, List.getElem?_eq_getElem hj]
      simp [intC]
    rw [List.getElem?_take] at hx
    split at hx
    · unfold World.cell?
      simp only [Below.heap_alloc w5 _ g hlt, hgb]
      simpa using hx
    · cases hx
attribute [-go_sem] Builtin.append_
set_option maxRecDepth 100000 in
set_option maxHeartbeats 3200000 in
theorem backwards_any (s : ByteArray) (hs : s.size ≤ 1000000) (w : World) : Calls Tryz.prog 120 #[.string s] w fun e w' => e = .returned (.string (backB s)) ∧ Below w.heap.size w w' := by
  refine (callsIn_wide (n := 8)).1 ?_
  refine callsIn_of_wp_marks Tryz.func120 rfl trivial ?_ rfl
  simp only [Tryz.ntmps120, List.size_toArray, List.length_cons, List.length_nil, Nat.reduceAdd, Nat.reduceSub, Array.replicate_succ, Array.replicate_zero, List.push_toArray, List.append_toArray, List.nil_append, List.cons_append]
  have hmk := run_make_bytes s.size hs (w.alloc (.cells #[.string s] 9))
  have HS4 := Lib.hid (bkSt_start w s hs)
  have HB4 := Lib.hid (((((Below.refl w.heap.size w).alloc (Nat.le_refl _) (.cells #[.string s] 9)).alloc (by simp) (.cells (madeCells #[.int .u8 0] s.size) 5)).alloc (by simp; omega) (.cells #[.slice (some ⟨w.heap.size + 1, 0, none⟩) 0 s.size] 197)).alloc (by simp; omega) (.cells #[.int .i64 (s.size : Int)] 3))
  have HZ4 : Hid ((((((w.alloc (.cells #[.string s] 9)).alloc (.cells (madeCells #[.int .u8 0] s.size) 5)).alloc (.cells #[.slice (some ⟨w.heap.size + 1, 0, none⟩) 0 s.size] 197)).alloc (.cells #[.int .i64 (s.size : Int)] 3))).heap.size = w.heap.size + 4) := by show _ = _; simp
  gi_wp2_with fail
  clear hmk
  generalize ((((w.alloc (.cells #[.string s] 9)).alloc (.cells (madeCells #[.int .u8 0] s.size) 5)).alloc (.cells #[.slice (some ⟨w.heap.size + 1, 0, none⟩) 0 s.size] 197)).alloc (.cells #[.int .i64 (s.size : Int)] 3)) = W4 at HS4 HB4 HZ4 ⊢
  refine ⟨trivial, (callsIn_wide.2 (characterStarts_any s hs _)).mono ?_⟩
  rintro e w5 ⟨sv, rfl, hown, b5⟩
  obtain ⟨a5, c5, hsv, _⟩ := own_form hown
  subst hsv
  have hz5 := b5.size
  obtain ⟨b, hb1, hb2, hseq⟩ := seq_of_own hown (Nat.le_trans (starts_le s) hs) hz5 7
  have HSQ := Lib.hid hseq
  have HB5 := Lib.hid (HB4.out.trans (b5.mono HB4.out.size))
  have HS5 := Lib.hid (HS4.out.below b5)
  clear hown b5 hseq HS4 HB4
  gi_wp2_with fail
  refine ⟨trivial, (backward_in _ _ _ _ _).mono ?_⟩
  rintro e w6 ⟨rfl, rfl⟩
  gi_wp2_with fail
  have HI6 : Hid (BkSt (w5.alloc (.cells #[.slice a5 (starts s).length c5] 171)) w.heap.size s 0 ∧ Below w.heap.size w (w5.alloc (.cells #[.slice a5 (starts s).length c5] 171))) :=
    ⟨HS5.out.below ((Below.refl _ _).alloc (Nat.le_refl _) _), HB5.out.alloc HB5.out.size _⟩
  have hz6 : (w5.alloc (.cells #[.slice a5 (starts s).length c5] 171)).heap.size = w5.heap.size + 1 := by simp
  have hz4 := HZ4.out
  have hmo : Tryz.prog.follows .mixedOrders = true := by kernel_rfl
  refine wpIn_rangeTells rfl (by omega) (gf := 153) (lb := #[.pointer (some ⟨w5.heap.size, 0, none⟩)]) rfl trivial (enters_of Tryz.func153 (by kernel_rfl) rfl) HSQ.out (fun h k => h.trans k)
    (fun W l o o' hl _ _ _ => ⟨World.putObj_heap_other (by omega), World.putObj_heap_other (by omega)⟩) (Below.refl _ _) (fun _ => rfl)
    (fun k W => BkSt W w.heap.size s k ∧ (Below w.heap.size w W ∧ w5.heap.size + 1 ≤ W.heap.size)) (fun _ _ _ => False)
    (OwnFrom.and (fun k X Y row hs hg hr => hs.kept hg (fun r e => (hr r e).2)) (OwnFrom.and (ownFrom_below (Nat.le_refl _) (by omega)) (fun _ X Y row hs hg _ => Nat.le_trans hs hg.size)))
    (fun _ _ _ _ _ hs _ _ => hs) ⟨HI6.out.1, HI6.out.2, by simp⟩
    (fun k a' _ => a' = { tmps := #[.string s, .pointer (some ⟨w.heap.size, 0, none⟩), .string ⟨#[]⟩, .pointer (some ⟨w.heap.size + 1 + 1, 0, none⟩), .pointer (some ⟨w.heap.size + 1 + 1 + 1, 0, none⟩), undef, .int .i64 (startAt s k : Int), .string s, .int .i64 (s.size : Int), .slice (some ⟨w.heap.size + 1, 0, none⟩) 0 s.size, .string s, .int .i64 (s.size : Int), .string s, .slice a5 (starts s).length c5, .func (.func 153) #[] #[.pointer (some ⟨w5.heap.size, 0, none⟩)], .int .i64 (((starts s).length - 1 - k : Nat) : Int), .int .i64 (startAt s k : Int), undef, undef, undef, undef, undef, undef, undef, undef, undef], defers := [] })
    (fun _ _ _ _ _ _ hs _ _ => hs) ?assign ?body ?done ?stop
  case assign =>
    intro l k W K hk hi hK
    have hK' := hK _ W (KeepsFrom.refl _ _) (Keeps2.refl _ _ _) hi rfl
    clear hK hi HSQ HI6 HS5 HB5
    unfold startAt at hK'
    unfold backAt
    gi_wp2
    exact hK'
  case body =>
    rintro l k a' W hk ⟨hst, hbw, hlw⟩ rfl
    have hse := start_end s hk
    have hel := endAt_le s (Nat.le_of_lt hk)
    have hst' : BkSt W.drew w.heap.size s k := hst.below (Below.refl _ _).drew
    obtain ⟨w', hap, hown, hg⟩ := bk_append hst' hk 197
    obtain ⟨n1, n2, n3, hnext⟩ := bk_next hst' hk hown hg
    have c1 := hst'.bs.cell
    have c2 := hst'.bo.cell
    have c3 := hst'.be.cell
    have d2 := n2.cell
    have f2 := n2.frozen
    have d3 := (n3.other (B' := w.heap.size + 1 + 1) (by omega) (.slice (some ⟨w.heap.size + 1, 0, none⟩) (backL s (k + 1)).length s.size)).cell
    have f3 := (n3.other (B' := w.heap.size + 1 + 1) (by omega) (.slice (some ⟨w.heap.size + 1, 0, none⟩) (backL s (k + 1)).length s.size)).frozen
    have hKF : KeepsFrom (w5.alloc (.cells #[.slice a5 (starts s).length c5] 171)).heap.size W ((w'.setCell ⟨w.heap.size + 1 + 1, 0, none⟩ (.slice (some ⟨w.heap.size + 1, 0, none⟩) (backL s (k + 1)).length s.size)).setCell ⟨w.heap.size + 1 + 1 + 1, 0, none⟩ (.int .i64 (startAt s k : Int))) :=
      ((((KeepsOthers.drew W).from _).trans (KeepsFrom.of_grownBy hg (fun j hj => by have := Option.some.inj hj; omega))).trans ((KeepsOthers.setCell _ _ _).from _)).trans ((KeepsOthers.setCell _ _ _).from _)
    have hK2 : Keeps2 b w5.heap.size W ((w'.setCell ⟨w.heap.size + 1 + 1, 0, none⟩ (.slice (some ⟨w.heap.size + 1, 0, none⟩) (backL s (k + 1)).length s.size)).setCell ⟨w.heap.size + 1 + 1 + 1, 0, none⟩ (.int .i64 (startAt s k : Int))) := by
      have hx : ∀ g, w.heap.size + 4 ≤ g → g < W.heap.size → ((w'.setCell ⟨w.heap.size + 1 + 1, 0, none⟩ (.slice (some ⟨w.heap.size + 1, 0, none⟩) (backL s (k + 1)).length s.size)).setCell ⟨w.heap.size + 1 + 1 + 1, 0, none⟩ (.int .i64 (startAt s k : Int))).heap[g]? = W.heap[g]? := fun g h1 h2 => by
        rw [heap_setCell_other _ _ _ _ (by show g ≠ w.heap.size + 1 + 1 + 1; omega), heap_setCell_other _ _ _ _ (by show g ≠ w.heap.size + 1 + 1; omega)]
        exact hg.block g h2 (fun e => by have := Option.some.inj e; omega)
      exact ⟨hx b (by omega) (by omega), hx w5.heap.size (by omega) (by omega)⟩
    have hBW : Below w.heap.size w ((w'.setCell ⟨w.heap.size + 1 + 1, 0, none⟩ (.slice (some ⟨w.heap.size + 1, 0, none⟩) (backL s (k + 1)).length s.size)).setCell ⟨w.heap.size + 1 + 1 + 1, 0, none⟩ (.int .i64 (startAt s k : Int))) :=
      ((hbw.drew.grown hg hbw.size (fun j hj => by have := Option.some.inj hj; omega)).setCell (p := ⟨w.heap.size + 1 + 1, 0, none⟩) (by show w.heap.size ≤ w.heap.size + 1 + 1; omega) _).setCell (p := ⟨w.heap.size + 1 + 1 + 1, 0, none⟩) (by show w.heap.size ≤ w.heap.size + 1 + 1 + 1; omega) _
    have HN := Lib.hid (And.intro hKF (And.intro hK2 (And.intro hnext (And.intro hBW (show w5.heap.size + 1 ≤ ((w'.setCell ⟨w.heap.size + 1 + 1, 0, none⟩ (.slice (some ⟨w.heap.size + 1, 0, none⟩) (backL s (k + 1)).length s.size)).setCell ⟨w.heap.size + 1 + 1 + 1, 0, none⟩ (.int .i64 (startAt s k : Int))).heap.size from Nat.le_trans hlw hKF.size)))))
    unfold chunk at hap
    clear hst hst' hown hg n1 n2 n3 hnext hbw hKF hK2 hBW hlw HSQ HI6 HS5 HB5
    generalize (backL s (k + 1)).length = L1 at hap d3 f3 HN
    generalize (backL s k).length = L0 at hap c2 d2
    generalize startAt s k = p at hap hse HN ⊢
    generalize endAt s k = q at hap c3 d3 hse hel
    have h1 : (0 : Int) ≤ (p : Int) := by omega
    have h2 : (p : Int) ≤ (q : Int) := by omega
    have h3 : (q : Int) ≤ (s.size : Int) := by omega
    have h4 : (0 : Int) ≤ (q : Int) := by omega
    gi_wp2_with fail
    gi_region_with_o (fail)
    all_goals
      gi_wp2
      exact HN.out
  case done =>
    rintro D W hD ⟨hst, hbw, _⟩ hK
    have hcv := bytes_string hst.row
    have c2 := hst.bo.cell
    have HBW := Lib.hid (hbw.trans (belowK_b (w := w) (Nat.le_refl _) W D _ (.deferred none) (by omega) hK rfl rfl))
    clear hst hbw HSQ HI6 HS5 HB5
    gi_wp2
    refine ⟨by simp, .inl ⟨_, _, rfl, run_takeDeferred hK, ?_⟩⟩
    exact ⟨_, results_tmp rfl _ _ _, rfl, HBW.out⟩
  case stop =>
    rintro D c k W _ _ h _
    exact h.elim
end Go.Proofs.YtgfnijhhhgjabaaGreatDoor.AR
end
