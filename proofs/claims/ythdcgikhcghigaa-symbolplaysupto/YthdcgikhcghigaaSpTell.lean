import Derived.Test.YthdcgikhcghigaaSpSeq
import Derived.Test.YthdcgikhcghigaaSpQui
namespace Go.Proofs.Ythdcgikhcghigaa
open Go.RowKit Go.Maps Go.Shelf
set_option linter.unusedVariables false
set_option linter.unusedSimpArgs false
attribute [local go_sem ↓] Go.wp_at_zero Go.wp_at_succ
attribute [local go_sem] Oper.semAt_some

/-- a value in a block of its own -/
def ValAt (w : World) (b : Nat) (x : V) : Prop := w.heap[b]? = some (.cells #[.int .i8 x.k, .int .i64 x.n, .string x.s] 39 (0, 0))
theorem ValAt.lt {w : World} {b : Nat} {x : V} (h : ValAt w b x) : b < w.heap.size := (Array.getElem?_eq_some_iff.1 h).1
theorem ValAt.below {w w' : World} {b : Nat} {x : V} (h : ValAt w b x) (hb : Below w.heap.size w w') : ValAt w' b x := (hb.block b h.lt).trans h
theorem valAt_new (w : World) (x : V) : ValAt (w.alloc (.cells #[.int .i8 x.k, .int .i64 x.n, .string x.s] 39)) w.heap.size x := heap_alloc_new w _
theorem ValAt.load {w : World} {b : Nat} {x : V} (h : ValAt w b x) : (loadVar 39 ⟨b, 0, none⟩).run Try.prog w = .ok (.agg #[.int .i8 x.k, .int .i64 x.n, .string x.s]) w := by
  have h1 : w.heap[b]? = some (.cells #[.int .i8 x.k, .int .i64 x.n, .string x.s] 39 (0, 0)) := h
  have c0 : w.cell? ⟨b, 0, none⟩ = some (.int .i8 x.k) := by simp [World.cell?, h1]
  have c1 : w.cell? ⟨b, 1, none⟩ = some (.int .i64 x.n) := by simp [World.cell?, h1]
  have c2 : w.cell? ⟨b, 2, none⟩ = some (.string x.s) := by simp [World.cell?, h1]
  simp [loadVar, go_sem, c0, c1, c2]
theorem KeepsFrom.below {B : Nat} {W W' : World} (h : Below W.heap.size W W') : KeepsFrom B W W' := ⟨h.size, fun k o hk ho hc => (h.block k (Array.getElem?_eq_some_iff.1 ho).1).trans ho⟩
/-- a range over values in which the loop's frame is what it was but for these slots; it may be left early -/
theorem wpIn_rangeValsX {P : Program} {g : Operand} {ps : Array Tmp} {assign body : Code} {Q : Exit → Act → World → Prop} {a : Act} {w : World}
    {gf : Nat} {lb : Array Value} (hg : a.eval g = .func (.func gf) #[] lb) (eg : ∀ args w, (callFunc gf args).run P w = .ok (.enter gf args) w)
    {vs : List V} {N : Nat} {Kp : World → World → Prop} {w0 : World} (hseq : SeqTells Fence.wide 7 P gf lb (valsAt vs) Kp N w0)
    (hKt : ∀ {A B C : World}, Kp A B → Kp B C → Kp A C) (hKb : ∀ (W : World) (l : Nat) (o o' : Obj), w.heap.size ≤ l → W.heap[l]? = some o → o.isCells = false → o.isWalk = false → Kp W (W.putObj l o')) (hb0 : Below w0.heap.size w0 w) (hps : ps.size = 2)
    (I : Nat → World → Prop) (Ix : Code → Nat → World → Prop) (hI : OwnFrom w.heap.size I) (hIx : ∀ c, OwnFrom w.heap.size (Ix c)) (h0 : I 0 w) (fT : Array Value → Nat → Nat → Array Value)
    (hassign : ∀ (l k : Nat) (W : World) (K : Act → World → Prop), k < N → I k W → (∀ a' W', KeepsFrom w.heap.size W W' → Kp W W' → I k W' → (∃ yb, a' = { tmps := fT a.tmps k yb, defers := [] } ∧ ValAt W' yb (atV vs k) ∧ w.heap.size ≤ yb) → K a' W') →
      assign.wpIn (Fence.wide.inRound l) 6 P (Exit.then K (fun _ _ _ => False)) { tmps := (ps.zip (valsAt vs k)).foldl (fun t (p, v) => t.setIfInBounds p v) a.tmps, defers := [] } W)
    (hbody : ∀ (l k yb : Nat) (W : World), k < N → I k W → ValAt W yb (atV vs k) → w.heap.size ≤ yb → body.wpIn (Fence.wide.inRound l) 6 P (tellPost w.heap.size Kp I Ix (k + 1) W) { tmps := fT a.tmps k yb, defers := [] } W)
    (hdone : ∀ (D : Nat) (W : World), w.heap.size ≤ D → I N W → W.heap[D]? = some (.deferred (some [])) → Q .normal { a with defers := { target := .collected D, args := #[] } :: a.defers } W)
    (hstop : ∀ (D : Nat) (c : Code) (k : Nat) (W : World), w.heap.size ≤ D → k ≤ N → Ix c k W → W.heap[D]? = some (.deferred (some [])) → c.wpIn Fence.wide 8 P Q { a with defers := { target := .collected D, args := #[] } :: a.defers } W) :
    (Code.rangeFunc g ps assign body).wpIn Fence.wide 8 P Q a w :=
  wpIn_rangeTells rfl (by omega) hg trivial eg hseq hKt hKb hb0 (fun _ => hps.symm) I Ix hI hIx h0
    (fun k a' W => ∃ yb, a' = { tmps := fT a.tmps k yb, defers := [] } ∧ ValAt W yb (atV vs k) ∧ w.heap.size ≤ yb)
    (fun k a' _ X Y row hs hg hr => by
      obtain ⟨yb, e, hy, hyl⟩ := hs
      refine ⟨yb, e, (hg.block yb (ValAt.lt hy) (fun e' => ?_)).trans hy, hyl⟩
      obtain ⟨_, o, ho, hcl⟩ := hr _ e'.symm
      have hy' : X.heap[yb]? = some (.cells #[.int .i8 (atV vs k).k, .int .i64 (atV vs k).n, .string (atV vs k).s] 39 (0, 0)) := hy
      rw [hy'] at ho
      cases ho
      simp [Obj.isCells] at hcl) hassign
    (fun l k a' W hk hi hax => by
      obtain ⟨yb, rfl, hy, hyl⟩ := hax
      exact hbody l k yb W hk hi hy hyl) hdone hstop
theorem numsC_at {vs : List V} {k : Nat} (h : k < vs.length) : (numsC vs)[k * 4]? = some (.int .i32 k) ∧ (numsC vs)[k * 4 + 1]? = some (.int .i8 (atV vs k).k) ∧ (numsC vs)[k * 4 + 2]? = some (.int .i64 (atV vs k).n) ∧ (numsC vs)[k * 4 + 3]? = some (.string (atV vs k).s) := by
  have e1 : numsC vs = numsC (vs.take (k + 1)) ++ (numsC vs).drop ((k + 1) * 4) := by
    have e2 : (numsC vs).take ((k + 1) * 4) = numsC (vs.take (k + 1)) := by
      have hspl : numsC vs = numsC (vs.take (k + 1)) ++ ((vs.drop (k + 1)).zipIdx (k + 1)).flatMap numC := by
        have h0 := List.take_append_drop (k + 1) vs
        unfold numsC
        conv => lhs; rw [← h0]
        rw [List.zipIdx_append, List.flatMap_append]
        simp [Nat.min_eq_left (show k + 1 ≤ vs.length by omega)]
      rw [hspl]
      have hlen : (numsC (vs.take (k + 1))).length = (k + 1) * 4 := by rw [numsC_length]; simp; omega
      rw [← hlen, List.take_left']
      rfl
    rw [← e2, List.take_append_drop]
  have hl : (numsC (vs.take k)).length = k * 4 := by rw [numsC_length]; simp; omega
  rw [e1, numsC_snoc h, List.append_assoc]
  refine ⟨?_, ?_, ?_, ?_⟩
  all_goals
    rw [List.getElem?_append_right (by omega), hl]
    simp
/-- the wanted list: in a block of its own -/
def Wl (w : World) (a : Option Addr) (vs : List V) : Prop := 0 < vs.length → ∃ g, a = some ⟨g, 0, none⟩ ∧ g < w.heap.size ∧ ∀ j, j < vs.length * 4 → w.cell? ⟨g, j, none⟩ = (numsC vs)[j]?
theorem Wl.keep {w w' : World} {a : Option Addr} {vs : List V} (h : Wl w a vs) (b : Below w.heap.size w w') : Wl w' a vs := fun hp => by
  obtain ⟨g, e, hg, hc⟩ := h hp
  exact ⟨g, e, Nat.lt_of_lt_of_le hg b.size, fun j hj => (b.cell (p := ⟨g, j, none⟩) hg).trans (hc j hj)⟩
theorem wl_of_own {w : World} {B c : Nat} {a : Option Addr} {vs : List V} (h : w.ownsRow B 67 4 (.slice a vs.length c) vs.length (numsC vs)) : Wl w a vs := fun hp => by
  rcases h.2 with ⟨e, hz⟩ | ⟨g, cap, cur, e, _⟩
  · omega
  · cases e
    exact ⟨g, rfl, (h.lt g rfl).2, fun j hj => h.cellAt j (by omega)⟩
theorem run_loadSym {w : World} {a : Addr} {v : Value} (h : w.cell? a = some v) : (loadVar 41 a).run Try.prog w = .ok v w := by
  simp [loadVar, go_sem, h]
theorem Wl.num {w : World} {g : Nat} {vs : List V} (hc : ∀ j, j < vs.length * 4 → w.cell? ⟨g, j, none⟩ = (numsC vs)[j]?) {k : Nat} (hk : k < vs.length) : (loadVar 41 ⟨g, k * 4, none⟩).run Try.prog w = .ok (.int .i32 k) w :=
  run_loadSym ((hc _ (by omega)).trans (numsC_at hk).1)
theorem Wl.val {w : World} {g : Nat} {vs : List V} (hc : ∀ j, j < vs.length * 4 → w.cell? ⟨g, j, none⟩ = (numsC vs)[j]?) {k : Nat} (hk : k < vs.length) : (loadVar 39 ⟨g, k * 4 + 1, none⟩).run Try.prog w = .ok (.agg #[.int .i8 (atV vs k).k, .int .i64 (atV vs k).n, .string (atV vs k).s]) w := by
  have c0 := (hc _ (by omega)).trans (numsC_at hk).2.1
  have c1 := (hc _ (by omega)).trans (numsC_at hk).2.2.1
  have c2 := (hc _ (by omega)).trans (numsC_at hk).2.2.2
  simp [loadVar, go_sem, c0, c1, c2]
/-- amid tells: the boxes of the list, of n, of the answer and of k -/
structure Tl (w : World) (B : Nat) (a : Option Addr) (c n : Nat) (x : Int) (k : Nat) (W : World) : Prop where
  bw : Boxed W w.heap.size 50 (.slice a n c)
  bn : Boxed W (w.heap.size + 1) 3 (.int .i64 x)
  br : Boxed W (w.heap.size + 1 + 1) 4 (.bool false)
  bk : Boxed W (w.heap.size + 1 + 1 + 1) 3 (.int .i64 (k : Int))
  bel : Below w.heap.size w W
  sz : B ≤ W.heap.size
theorem Tl.keep {w W W' : World} {a : Option Addr} {B c n k : Nat} {x : Int} (h : Tl w B a c n x k W) (b : Below W.heap.size W W') : Tl w B a c n x k W' := ⟨bxB h.bw b, bxB h.bn b, bxB h.br b, bxB h.bk b, h.bel.trans (b.mono h.bel.size), Nat.le_trans h.sz b.size⟩
theorem Tl.kept {w W W' : World} {a : Option Addr} {c n k B B0 : Nat} {x : Int} {row : Option Nat} (h : Tl w B a c n x k W) (hw : w.heap.size ≤ B0) (hg : W.grownBy W' row) (hr : ∀ r, row = some r → B0 ≤ r ∧ ∃ o : Obj, W.heap[r]? = some o ∧ o.isCells = false) : Tl w B a c n x k W' := by
  have hne : ∀ {g : Nat} {t : TypeId} {v : Value}, Boxed W g t v → some g ≠ row := fun hc e => by
    obtain ⟨_, o, ho, hcl⟩ := hr _ e.symm
    rw [show W.heap[_]? = _ from hc] at ho
    cases ho
    simp [Obj.isCells] at hcl
  exact ⟨h.bw.kept hg (hne h.bw), h.bn.kept hg (hne h.bn), h.br.kept hg (hne h.br), h.bk.kept hg (hne h.bk), h.bel.grown hg h.bel.size (fun k e => Nat.le_trans hw (hr k e).1), Nat.le_trans h.sz hg.size⟩
theorem Tl.next {w W : World} {a : Option Addr} {B c n k : Nat} {x : Int} (h : Tl w B a c n x k W) : Tl w B a c n x (k + 1) (W.setCell ⟨w.heap.size + 1 + 1 + 1, 0, none⟩ (.int .i64 ((k : Int) + 1))) := by
  have e : ∀ g, g ≠ w.heap.size + 1 + 1 + 1 → (W.setCell ⟨w.heap.size + 1 + 1 + 1, 0, none⟩ (.int .i64 ((k : Int) + 1))).heap[g]? = W.heap[g]? := fun g hg => heap_setCell_other _ _ _ _ (by exact hg)
  exact ⟨(e _ (by omega)).trans h.bw, (e _ (by omega)).trans h.bn, (e _ (by omega)).trans h.br, by rw [Int.natCast_add]; exact h.bk.set _, h.bel.setCell (p := ⟨w.heap.size + 1 + 1 + 1, 0, none⟩) (by show w.heap.size ≤ w.heap.size + 1 + 1 + 1; omega) _, by simpa using h.sz⟩
/-- at the end of a call with a range in it: the deferred calls (none) are taken, a result is in its box -/
theorem collectedB {w W : World} {B D : Nat} {v : Value} (hb : Below w.heap.size w W) (hB : Boxed W B 4 v) (hw : w.heap.size ≤ B) (hD : w.heap.size ≤ D) (hK : W.heap[D]? = some (.deferred (some []))) (x : Value) :
    Hid ((W.setCell ⟨B, 0, none⟩ x).heap[D]? = some (.deferred (some []))) ∧ Hid ((loadVar 4 ⟨B, 0, none⟩).run Try.prog ((W.setCell ⟨B, 0, none⟩ x).putObj D (.deferred none)) = .ok x ((W.setCell ⟨B, 0, none⟩ x).putObj D (.deferred none))) ∧
      Hid (Below w.heap.size w ((W.setCell ⟨B, 0, none⟩ x).putObj D (.deferred none))) := by
  have hne : D ≠ B := by
    rintro rfl
    rw [show W.heap[D]? = _ from hB] at hK
    cases hK
  have hK' : (W.setCell ⟨B, 0, none⟩ x).heap[D]? = some (.deferred (some [])) := (heap_setCell_other _ _ _ _ (by exact hne)).trans hK
  have hbx : Boxed ((W.setCell ⟨B, 0, none⟩ x).putObj D (.deferred none)) B 4 x := (World.putObj_heap_other (by omega)).trans (hB.set x)
  exact ⟨hK', run_loadBool hbx.cell, (hb.setCell (p := ⟨B, 0, none⟩) hw x).trans (belowK_b (w := w) (Nat.le_refl _) _ D _ (.deferred none) (by omega) hK' rfl rfl)⟩
theorem neq_sym (k : Nat) (u : World) : (binOp .neq 41 (.int .i32 (k : Int)) (.int .i32 (k : Int))).run Try.prog u = .ok (.bool false) u := by go_simp
attribute [-go_sem] loadVar
set_option maxHeartbeats 6400000 in
set_option maxRecDepth 100000 in
/-- tells: what an iterator tells is the list -/
theorem tells_is {w : World} {b0 : Nat} {vs : List V} (hseq : ∀ W, Below w.heap.size w W → SeqTells Fence.wide 7 Try.prog 23 #[.pointer (some ⟨b0, 0, none⟩)] (valsAt vs) (KpF W.heap.size) vs.length W)
    (a : Option Addr) (c : Nat) (hN : vs.length ≤ 1000000000) (hl : Wl w a vs) (x : Int) :
    Calls Try.prog 9 #[seqOf b0, .slice a vs.length c, .int .i64 x] w fun e w' => e = .returned (.bool true) ∧ Below w.heap.size w w' := by
  unfold seqOf
  generalize hn : vs.length = N at hN hl hseq ⊢
  have HNN := Lib.hid hn
  clear hn
  refine (callsIn_wide (n := 8)).1 ?_
  refine callsIn_of_wp_marks Try.func9 rfl trivial ?_ rfl
  simp only [Try.ntmps9, List.size_toArray, List.length_cons, List.length_nil, Nat.reduceAdd, Nat.reduceSub, Array.replicate_succ, Array.replicate_zero, List.push_toArray, List.append_toArray, List.nil_append, List.cons_append]
  have HB4 := Lib.hid (((((Below.refl w.heap.size w).alloc (Nat.le_refl _) (.cells #[.slice a N c] 50)).alloc (by simp) (.cells #[.int .i64 x] 3)).alloc (by simp; omega) (.cells #[.bool false] 4)).alloc (by simp; omega) (.cells #[.int .i64 0] 3))
  have B1 := bxB (bxB (bxB (Boxed.new w 50 (.slice a N c)) (belowA (.cells #[.int .i64 x] 3))) (belowA (.cells #[.bool false] 4))) (belowA (.cells #[.int .i64 0] 3))
  have B2 := bxB (bxB (bxN (w := w.alloc (.cells #[.slice a N c] 50)) (B := w.heap.size + 1) (by simp) 3 (.int .i64 x)) (belowA (.cells #[.bool false] 4))) (belowA (.cells #[.int .i64 0] 3))
  have B3 := bxB (bxN (w := (w.alloc (.cells #[.slice a N c] 50)).alloc (.cells #[.int .i64 x] 3)) (B := w.heap.size + 1 + 1) (by simp) 4 (.bool false)) (belowA (.cells #[.int .i64 0] 3))
  have B4 := bxN (w := ((w.alloc (.cells #[.slice a N c] 50)).alloc (.cells #[.int .i64 x] 3)).alloc (.cells #[.bool false] 4)) (B := w.heap.size + 1 + 1 + 1) (by simp) 3 (.int .i64 0)
  have HT4 : Hid (Tl w (w.heap.size + 1 + 1 + 1 + 1) a c N x 0 ((((w.alloc (.cells #[.slice a N c] 50)).alloc (.cells #[.int .i64 x] 3)).alloc (.cells #[.bool false] 4)).alloc (.cells #[.int .i64 0] 3))) := ⟨B1, B2, B3, B4, HB4.out, by simp⟩
  have HSQ := Lib.hid (hseq _ HB4.out)
  have HWL := Lib.hid hl
  clear B1 B2 B3 B4 hseq hl
  have hft := fun w => fn_there 23 #[.pointer (some ⟨b0, 0, none⟩)] w
  have hs4 : ((((w.alloc (.cells #[.slice a N c] 50)).alloc (.cells #[.int .i64 x] 3)).alloc (.cells #[.bool false] 4)).alloc (.cells #[.int .i64 0] 3)).heap.size = w.heap.size + 1 + 1 + 1 + 1 := by simp
  rw [← hs4] at HT4
  gi_wp2_with fail
  generalize ((((w.alloc (.cells #[.slice a N c] 50)).alloc (.cells #[.int .i64 x] 3)).alloc (.cells #[.bool false] 4)).alloc (.cells #[.int .i64 0] 3)) = W4 at HB4 HT4 HSQ hs4 ⊢
  have HS4 := Lib.hid hs4
  clear hft hs4
  have hz4 : w.heap.size ≤ W4.heap.size := HB4.out.size
  refine wpIn_rangeValsX (vs := vs) (N := N) (gf := 23) (lb := #[.pointer (some ⟨b0, 0, none⟩)]) rfl (enters_of Try.func23 (by kernel_rfl) rfl) HSQ.out (fun h k => h.trans k)
    (fun W l o o' hl ho hcl _ => KpF.put ho hcl) (Below.refl _ _) rfl
    (fun k W => Tl w W4.heap.size a c N x k W) (fun cd k W => cd = .exit 0 ∧ ∃ j : Nat, (j : Int) = x ∧ Tl w W4.heap.size a c N x j W)
    (fun k X Y row hs hg hr => hs.kept hz4 hg hr)
    (fun cd k X Y row hs hg hr => ⟨hs.1, hs.2.choose, hs.2.choose_spec.1, hs.2.choose_spec.2.kept hz4 hg hr⟩) HT4.out
    (fun T k yb => (((T.setIfInBounds 13 (.int .i32 (k : Int))).setIfInBounds 14 (.agg #[.int .i8 (atV vs k).k, .int .i64 (atV vs k).n, .string (atV vs k).s])).setIfInBounds 8 (.int .i32 (k : Int))).setIfInBounds 9 (.pointer (some ⟨yb, 0, none⟩))) ?assign ?body ?done ?stop
  case assign =>
    intro l k W K hk hi hK
    have hA := belowA (w := W) (.cells #[.int .i8 (atV vs k).k, .int .i64 (atV vs k).n, .string (atV vs k).s] 39)
    have hK' := hK _ _ (KeepsFrom.below hA) (KpF.of hA) (hi.keep hA) ⟨W.heap.size, rfl, valAt_new W _, hi.sz⟩
    simp (config := { maxSteps := 10000000 }) only [List.setIfInBounds_toArray, List.set_cons_succ, List.set_cons_zero] at hK'
    clear hK hi HSQ hA HT4 HB4
    unfold valsAt
    generalize atV vs k = y at hK' ⊢
    gi_wp2
    exact hK'
  case body =>
    intro l k yb W hk hi hy hyl
    simp (config := { maxSteps := 10000000 }) only [List.setIfInBounds_toArray, List.set_cons_succ, List.set_cons_zero]
    have l7 := run_loadInt hi.bk.cell
    have l5 := run_loadInt hi.bn.cell
    by_cases hx : (k : Int) = x
    · have hxe : ((k : Int) == x) = true := by simpa using hx
      have HI := Lib.hid (And.intro hi hx)
      clear hi hy HSQ HT4 HB4 HWL hx
      gi_wp2
      exact ⟨KeepsFrom.refl _ _, rfl, k, HI.out.2, HI.out.1⟩
    · have hxe : ((k : Int) == x) = false := by simpa using hx
      have hkl : k < vs.length := by rw [HNN.out]; exact hk
      obtain ⟨gw, rfl, hgw, hcw⟩ := HWL.out (by omega)
      have hbD : ∀ m, Below w.heap.size w (W.drewN m) := fun m => below_drewV hi.bel m
      have hcD : ∀ m, ∀ j, j < vs.length * 4 → (W.drewN m).cell? ⟨gw, j, none⟩ = (numsC vs)[j]? := fun m j hj => ((hbD m).cell (p := ⟨gw, j, none⟩) hgw).trans (hcw j hj)
      have HD : ∀ m, Tl w W4.heap.size (some ⟨gw, 0, none⟩) c N x k (W.drewN m) := fun m => hi.keep (below_drewV (Below.refl W.heap.size W) m)
      have d7 := fun m => run_loadInt (HD m).bk.cell
      have d4 := fun m => run_loadNums (HD m).bw.cell
      have dn := fun m => Wl.num (hcD m) hkl
      have dr := fun m => Wl.val (hcD m) hkl
      have dy := fun m => (hy.below (below_drewV (Below.refl W.heap.size W) m)).load
      have c7 := fun m => (HD m).bk.cell
      have f7 := fun m => (HD m).bk.frozen
      have hne' : ∀ u : World, (binOp .neq 39 (.agg #[.int .i8 (atV vs k).k, .int .i64 (atV vs k).n, .string (atV vs k).s]) (.agg #[.int .i8 (atV vs k).k, .int .i64 (atV vs k).n, .string (atV vs k).s])).run Try.prog u = .ok (.bool false) u := fun u => by
        rw [run_neq]
        simp
      have HFI : Hid (∀ m, KeepsFrom W4.heap.size W ((W.drewN m).setCell ⟨w.heap.size + 1 + 1 + 1, 0, none⟩ (.int .i64 ((k : Int) + 1))) ∧ KpF W4.heap.size W ((W.drewN m).setCell ⟨w.heap.size + 1 + 1 + 1, 0, none⟩ (.int .i64 ((k : Int) + 1))) ∧ Tl w W4.heap.size (some ⟨gw, 0, none⟩) c N x (k + 1) ((W.drewN m).setCell ⟨w.heap.size + 1 + 1 + 1, 0, none⟩ (.int .i64 ((k : Int) + 1)))) := by
        intro m
        refine ⟨(KeepsFrom.below (below_drewV (Below.refl W.heap.size W) m)).trans ((KeepsOthers.setCell _ _ _).from _), fun q cc t hq hc => ?_, (HD m).next⟩
        have := HS4.out
        exact heap_setCell_other _ _ _ _ (by show q ≠ w.heap.size + 1 + 1 + 1; omega)
      have hkN : ¬ N ≤ k := by omega
      have hkL : k < N := hk
      have hk2 : (k : Int) < (N : Int) := by omega
      have hk0 : (0 : Int) ≤ (k : Int) := by omega
      have iwk : IntKind.i64.wrap ((k : Int) + 1) = (k : Int) + 1 := by rw [IntKind.wrap_i64]; omega
      clear hi hy HSQ HT4 HB4 HWL HD hcD hcw hbD hx hkl
      generalize atV vs k = y at dr dy hne' ⊢
      gi_wp2_with fail
      refine wpIn_region_quiet_round (by kernel_rfl) (by kernel_rfl) (by kernel_rfl) ?_
      repeat (gi_big_quiet_step (fail))
      refine wpQuietIn_nil ?_
      rintro _ ⟨nq, rfl⟩
      have d7' := d7 nq
      have c7' := c7 nq
      have f7' := f7 nq
      have HFI' := Lib.hid (HFI.out nq)
      clear HFI d7 d4 dn dr dy c7 f7 l7 l5
      gi_wp2
      exact HFI'.out
  case done =>
    rintro D W hD hi hKD
    have l1 := run_loadNums hi.bw.cell
    have l4 := run_loadInt hi.bk.cell
    have c3 := hi.br.cell
    have f3 := hi.br.frozen
    obtain ⟨HK, HR, HBW⟩ := collectedB hi.bel hi.br (by omega) (by omega) hKD (.bool true)
    clear hi hKD hD HSQ HT4 HB4 HWL
    gi_wp2
    exact ⟨by simp, .inl ⟨_, _, rfl, run_takeDeferred HK.out, _, rl_results Try.results9 rfl HR.out, rfl, HBW.out⟩⟩
  case stop =>
    rintro D c k W hD hk ⟨rfl, j, hj, hi⟩ hKD
    subst hj
    have l1 := run_loadNums hi.bw.cell
    have l4 := run_loadInt hi.bk.cell
    have l5 := run_loadInt hi.bn.cell
    have c3 := hi.br.cell
    have f3 := hi.br.frozen
    have hj0 : (0 : Int) ≤ (j : Int) := by omega
    obtain ⟨HK, HR, HBW⟩ := collectedB hi.bel hi.br (by omega) (by omega) hKD (.bool true)
    clear hi hKD hD HSQ HT4 HB4 HWL
    by_cases hjN : (j : Int) = (N : Int)
    · have hje : ((j : Int) == (N : Int)) = true := by simpa using hjN
      clear hjN
      gi_wp2
      exact ⟨by simp, .inl ⟨_, _, rfl, run_takeDeferred HK.out, _, rl_results Try.results9 rfl HR.out, rfl, HBW.out⟩⟩
    · have hje : ((j : Int) == (N : Int)) = false := by simpa using hjN
      clear hjN
      gi_wp2
      exact ⟨by simp, .inl ⟨_, _, rfl, run_takeDeferred HK.out, _, rl_results Try.results9 rfl HR.out, rfl, HBW.out⟩⟩
section
variable {w w' : World} {pT pR : Value} {mo : Option Int} {mb : Nat} {vs us : List V} {E : Nat → Prop}
theorem pa_tells (h : Pa w pT pR mo mb vs us E) (hlen : vs.length ≤ 1000000000) {sq : Value} (hs : SeqV w sq pT) (a : Option Addr) (c : Nat) (hl : Wl w a vs) (x : Int) :
    Calls Try.prog 9 #[sq, .slice a vs.length c, .int .i64 x] w fun e w' => e = .returned (.bool true) ∧ Below w.heap.size w w' := by
  obtain ⟨b0, rfl, h0, l0⟩ := hs
  exact tells_is (fun W hW => pa_seq (h.keep hW) hlen ((hW.cell (p := ⟨b0, 0, none⟩) l0).trans h0) (Nat.lt_of_lt_of_le l0 hW.size)) a c hlen hl x
attribute [local go_sem ↓] Go.wp_at_zero Go.wp_at_succ
set_option maxHeartbeats 1600000 in
set_option maxRecDepth 100000 in
theorem rall_nil (w : World) : Calls Try.prog 11 #[.pointer none] w fun e w' => e = .returned (.slice none 0 0) ∧ w' = w := by
  go_enter Try.func11, Try.ntmps11
  go_wp2_with fail
  go_loopw [3, 4] (fun out k wr => out = .slice none 0 0 ∧ k = .int .i64 0 ∧ wr = w) (fun _ _ _ => 0)
  case atStart => exact ⟨rfl, rfl, rfl⟩
  case round =>
    obtain ⟨rfl, rfl, hwr⟩ := hrel
    subst hwr
    go_wp2_with fail
    refine rlen_nil.mono ?_
    rintro e w1 ⟨rfl, rfl⟩
    go_wp2
    go_ret
    exact ⟨rfl, rfl⟩
/-- the reference's list of all -/
theorem pa_rall (h : Pa w pT pR mo mb vs us E) (hlen : us.length ≤ 1000000000) : Calls Try.prog 11 #[pR] w fun e w' => ∃ a c, e = .returned (.slice a us.length c) ∧ Wl w' a us ∧ (∀ g, a = some ⟨g, 0, none⟩ → w.heap.size ≤ g) ∧ Below w.heap.size w w' := by
  cases h with
  | nil =>
    refine (rall_nil w).mono ?_
    rintro e w' ⟨rfl, rfl⟩
    exact ⟨none, 0, rfl, fun hp => absurd hp (by simp), fun g e => (by cases e), Below.refl _ _⟩
  | live tb rt dj =>
    refine (rtall_any rt hlen).mono ?_
    rintro e w' ⟨o, rfl, ho, hb⟩
    obtain ⟨a, c, rfl, _⟩ := ownsRow_form ho
    exact ⟨a, c, rfl, wl_of_own ho, fun g e => (ho.lt g (by rw [e]; rfl)).1, hb⟩
end
end Go.Proofs.Ythdcgikhcghigaa
