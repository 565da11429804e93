import Derived.Test.YtgfnijhhhgjabaaGreatDoorG1
import Derived.Maps.OwnSet
import Derived.Maps.AppendAt
import Derived.Deep.OwnRows
import Derived.Deep.RegionLaw
import Derived.OwnWalk
import Derived.Lib.Hide
import Derived.Lib.OthersKept
import Derived.Lib.SmallJoins
import Derived.Laws.OwnMore
import Derived.Laws.BytesString
import Derived.Laws.Cells
import Derived.Lib.UnsafeStr
import Derived.RangeFuncBox
section
namespace Go.Proofs.YtgfnijhhhgjabaaGreatDoor.AR
open Go.RowKit Go.Maps
set_option linter.unusedVariables false
set_option linter.unusedSimpArgs false

/-! rows of one's own, appends and calls in regions that draw -/
theorem own_of_block {w w' : World} {base : Nat} {e : TypeId} {k : Nat} {sv : Value} {n : Nat} {xs : List Value} (h : w.ownsRow base e k sv n xs) (hg : ∀ g, sv.ownBlock = some g → w'.heap[g]? = w.heap[g]?) : w'.ownsRow base e k sv n xs := by
  obtain ⟨hl, h1 | ⟨g, cap, cur, rfl, h0, hb, r⟩⟩ := h
  · exact ⟨hl, .inl h1⟩
  · exact ⟨hl, .inr ⟨g, cap, cur, rfl, h0, (hg g rfl).trans hb, r⟩⟩
theorem own_form {w : World} {base : Nat} {e : TypeId} {k : Nat} {sv : Value} {n : Nat} {xs : List Value} (h : w.ownsRow base e k sv n xs) : ∃ a c, sv = .slice a n c ∧ n ≤ maxLen := by
  obtain ⟨hl, ⟨rfl, rfl⟩ | ⟨g, cap, cur, rfl, _, hb, hn, hc, hs, ht⟩⟩ := h
  · exact ⟨none, 0, rfl, Nat.zero_le _⟩
  · exact ⟨_, cap, rfl, Nat.le_trans hn hc⟩
theorem own_below {w w' : World} {B : Nat} {e : TypeId} {k : Nat} {v : Value} {n : Nat} {xs : List Value} (h : w.ownsRow B e k v n xs) (hb : Below w.heap.size w w') : w'.ownsRow B e k v n xs := own_of_block h (fun g hg => hb.block g (h.lt g hg).2)
theorem step_append_own {P : Program} {ops : Array Oper} {o : Oper} {a : Act} {w : World} {K : Act → World → Prop} {Q : Exit → Act → World → Prop} {E : Prop}
    (hg : o.guard = none) (s x : Operand) (t : TypeId) (hop : o.op = Op.call { callee := Callee.builtin Builtin.append, args := #[s, x], argTypes := #[t, t] })
    (e : TypeId) (i : TypeInfo) (z : Value) (size bytes : Nat) (h1 : P.underlying t = some (.slice e)) (h2 : P.info? e = some i) (h3 : i.zero = some z) (h4 : i.size = size) (h5 : i.bytes = bytes) (h6 : z.cells.size = size) (h7 : 0 < size)
    (base : Nat) (v : Value) (n : Nat) (xs : List Value) (hs : a.eval s = v) (hown : w.ownsRow base e size v n xs)
    (ad : Addr) (m c : Nat) (news : List Value) (hx : a.eval x = .slice (some ad) m c) (hn : news.length = m * size) (hc : ∀ j u, news[j]? = some u → w.cell? (ad.add j) = some u) (h1c : ∀ u ∈ news, u.oneCell' = true)
    (b1 : n + m ≤ maxLen) (b2 : (n + m) * bytes ≤ 140737488355328) (hbase : base ≤ w.heap.size)
    (hK : ∀ v' w', w'.ownsRow base e size v' (n + m) (xs ++ news) → w.grownBy w' v.ownBlock → (v'.ownBlock = v.ownBlock ∨ v'.ownBlock = some w.heap.size) → K (a.put o.dst v') w') :
    if Region.wanted o (yielded ops a.tmps) = true then Oper.wp P o a w K Q else E := by
  have hw : Region.wanted o (yielded ops a.tmps) = true := by simp [Region.wanted, hg]
  rw [if_pos hw]
  obtain ⟨v', w', hrun, r1, r2, _, r3⟩ := run_append_own_at (P := P) w base t o.type e i z size bytes h1 h2 h3 h4 h5 h6 h7 v n xs hown ad m c news hn hc h1c b1 b2 hbase
  unfold Oper.wp
  simp [execOp, hop, resolve, invoke, builtin, hs, hx, hrun, Result.andThen]
  exact hK v' w' r1 r2 r3
theorem lit_news (w : World) (cs : Array Value) (e : TypeId) : ∀ (j : Nat) (u : Value), cs.toList[j]? = some u → (w.alloc (.cells cs e)).cell? ((⟨w.heap.size, 0, none⟩ : Addr).add j) = some u := by
  intro j u h
  have e' : (⟨w.heap.size, 0, none⟩ : Addr).add j = ⟨w.heap.size, j, none⟩ := by rw [WideShapes.add_plain]; simp
  rw [e']
  unfold World.cell?
  simp only [heap_alloc_new]
  simpa using h
theorem step_call {P : Program} {ops : Array Oper} {o : Oper} {a : Act} {w : World} {K : Act → World → Prop} {Q : Exit → Act → World → Prop} {E : Prop}
    (hg : o.guard = none) (f : FuncId) {fn : Func} (hf : P.funcs[f]? = some fn) (hn : (fn.name == "runtime.NumGoroutine") = false) (hb : fn.body.isNone = false) (xs : Array Operand) (tys : Array TypeId) (hop : o.op = Op.call { callee := Callee.value (Operand.func f), args := xs, argTypes := tys }) (vs : Array Value) (hx : xs.map a.eval = vs)
    {post : Ending → World → Prop} (hc : Calls P f vs w post) (hK : ∀ e w', post e w' → ∃ v, e = .returned v ∧ K (a.put o.dst v) w') :
    if Region.wanted o (yielded ops a.tmps) = true then Oper.wp P o a w K Q else E := by
  have hw : Region.wanted o (yielded ops a.tmps) = true := by simp [Region.wanted, hg]
  rw [if_pos hw]
  have he : (execOp a.eval o).run P w = .ok (.enter f vs) w := by
    have hn' : ¬ fn.name = "runtime.NumGoroutine" := by simpa using hn
    have hb' : ¬ fn.body = none := by cases h : fn.body <;> simp [h] at hb ⊢
    simp [execOp, hop, resolve, invoke, ← hx, Act.eval, Result.andThen, Deferred.ofValue, callFunc, (show Sem.run P program w = .ok P w from rfl), hf, hn', hb', go_sem]
  unfold Oper.wp
  rw [he, Oper.upon_enter]
  refine hc.mono fun e w' h => ?_
  obtain ⟨v, rfl, hk⟩ := hK e w' h
  exact hk
end Go.Proofs.YtgfnijhhhgjabaaGreatDoor.AR
end
section
namespace Go.Proofs.YtgfnijhhhgjabaaGreatDoor.AR
open Go.RowKit Go.Maps
set_option linter.unusedVariables false
set_option linter.unusedSimpArgs false
attribute [local go_sem ↓] Go.wp_at_zero Go.wp_at_succ

/-! where characters begin -/
def chW (s : ByteArray) (i : Nat) : Nat := (Utf8.decode s i).2
theorem chW_le (s : ByteArray) {i : Nat} (h : i < s.size) : 1 ≤ chW s i ∧ chW s i ≤ 4 ∧ i + chW s i ≤ s.size := by
  unfold chW Utf8.decode
  simp only
  split
  · exact ⟨by simp, by simp, by simp; omega⟩
  · split
    · rename_i hc
      simp only [Bool.and_eq_true, decide_eq_true_eq] at hc
      split
      · exact ⟨by simp, by simp, by simp; omega⟩
      · exact ⟨by simp, by simp, by simp; omega⟩
    · split
      · rename_i hc
        simp only [Bool.and_eq_true, decide_eq_true_eq] at hc
        split
        · exact ⟨by simp, by simp, by simp; omega⟩
        · exact ⟨by simp, by simp, by simp; omega⟩
      · split
        · rename_i hc
          simp only [Bool.and_eq_true, decide_eq_true_eq] at hc
          split
          · exact ⟨by simp, by simp, by simp; omega⟩
          · exact ⟨by simp, by simp, by simp; omega⟩
        · exact ⟨by simp, by simp, by simp; omega⟩
def startsF (s : ByteArray) : Nat → Nat → List Nat
  | 0, _ => []
  | f + 1, i => if i < s.size then i :: startsF s f (i + chW s i) else []
def startsAt (s : ByteArray) (i : Nat) : List Nat := startsF s (s.size - i) i
def starts (s : ByteArray) : List Nat := startsAt s 0
theorem startsF_more (s : ByteArray) : ∀ (f g i : Nat), s.size - i ≤ f → s.size - i ≤ g → startsF s f i = startsF s g i
  | 0, 0, i, _, _ => rfl
  | 0, g + 1, i, hf, _ => by rw [startsF, startsF, if_neg (by omega)]
  | f + 1, 0, i, _, hg => by rw [startsF, startsF, if_neg (by omega)]
  | f + 1, g + 1, i, hf, hg => by
    rw [startsF, startsF]
    by_cases h : i < s.size
    · rw [if_pos h, if_pos h]
      have := (chW_le s h).1
      rw [startsF_more s f g (i + chW s i) (by omega) (by omega)]
    · rw [if_neg h, if_neg h]
theorem starts_cons (s : ByteArray) {i : Nat} (h : i < s.size) : startsAt s i = i :: startsAt s (i + chW s i) := by
  unfold startsAt
  obtain ⟨f, hf⟩ : ∃ f, s.size - i = f + 1 := ⟨s.size - i - 1, by omega⟩
  have := (chW_le s h).1
  rw [hf, startsF, if_pos h, startsF_more s f (s.size - (i + chW s i)) _ (by omega) (by omega)]
theorem starts_end (s : ByteArray) {i : Nat} (h : ¬ i < s.size) : startsAt s i = [] := by
  unfold startsAt
  rw [show s.size - i = 0 by omega, startsF]
def intC (i : Nat) : Value := .int .i64 (i : Int)
theorem infoI : (Tryz.prog.info? 3).map (fun i => (i.zero, i.size, i.bytes)) = some (some (.int .i64 0), 1, 8) := by kernel_rfl
set_option maxHeartbeats 1600000 in
set_option maxRecDepth 100000 in
theorem characterStarts_any (s : ByteArray) (hs : s.size ≤ 1000000) (w : World) : Calls Tryz.prog 118 #[.string s] w fun e w' => ∃ sv, e = .returned sv ∧ w'.ownsRow w.heap.size 3 1 sv (starts s).length ((starts s).map intC) ∧ Below w.heap.size w w' := by
  obtain ⟨i0, hi0, hz0, hz1, hz2⟩ := info_parts infoI
  have hk0 : (w.alloc (.stringIter s 0)).heap[w.heap.size]? = some (.stringIter s 0) := heap_alloc_new w _
  have HB0 := Lib.hid ((Below.refl w.heap.size w).alloc (Nat.le_refl _) (.stringIter s 0))
  have HK0 := Lib.hid hk0
  clear hk0
  go_enter Tryz.func118, Tryz.ntmps118
  go_wp2
  go_loopw [3] (fun ov wr => ∃ (pos : Nat) (out : List Nat), pos ≤ s.size ∧ wr.heap[w.heap.size]? = some (.stringIter s pos) ∧ wr.ownsRow (w.heap.size + 1) 3 1 ov out.length (out.map intC) ∧ Below w.heap.size w wr ∧ w.heap.size + 1 ≤ wr.heap.size ∧ out.length ≤ pos ∧ Hid (out ++ startsAt s pos = starts s)) (fun _ wr => s.size - wr.iterPos w.heap.size)
  case atStart => exact ⟨0, [], Nat.zero_le _, HK0.out, World.ownsRow_nil _ _ _ _, HB0.out, by simp [World.iter], Nat.le_refl _, rfl⟩
  case round =>
    obtain ⟨pos, out, hps, hk, hown, bel, hsz, hol, HS⟩ := hrel
    clear HB0 HK0
    obtain ⟨ao, co, rfl, _⟩ := own_form hown
    by_cases hp : pos < s.size
    · have hw := chW_le s hp
      have hnext : ∀ ty, (Instr.next (.pointer (some ⟨w.heap.size, 0, none⟩)) true ty).run Tryz.prog wr = .ok (.tuple #[.bool true, .int .i64 pos, .int .i32 (Utf8.decode s pos).1]) (wr.iterAt w.heap.size s (pos + chW s pos)) := fun ty => Lib.run_next_any_at wr w.heap.size s pos ty hk hp
      have hk1 := Lib.iterAt_heap wr w.heap.size s pos (pos + chW s pos) hk
      have b1 : Below w.heap.size w (wr.iterAt w.heap.size s (pos + chW s pos)) := Lib.below_iterAt bel (by omega) s _
      have hmu : wr.iterPos w.heap.size = pos := by simp [World.iterPos, hk]
      have hz1' : (wr.iterAt w.heap.size s (pos + chW s pos)).heap.size = wr.heap.size := by simp [World.iterAt]
      have hown1 : (wr.iterAt w.heap.size s (pos + chW s pos)).ownsRow (w.heap.size + 1) 3 1 (.slice ao out.length co) out.length (out.map intC) := own_of_block hown (fun g hg => by
        have := (hown.lt g hg).1
        simp [World.iterAt]
        rw [Array.getElem?_setIfInBounds_ne (by omega)])
      have HN : Hid ((out ++ [pos]) ++ startsAt s (pos + chW s pos) = starts s) := by show _ = _; rw [← HS.out, starts_cons s hp]; simp
      generalize (Utf8.decode s pos).1 = ru at hnext
      generalize chW s pos = cw at hnext hk1 b1 hz1' hown1 hw HN
      generalize wr.iterAt w.heap.size s (pos + cw) = W1 at hnext hk1 b1 hz1' hown1
      have HMU := Lib.hid hmu
      have HK1 := Lib.hid hk1
      have hsz1 : w.heap.size + 1 ≤ W1.heap.size := by omega
      have HFIN : Hid (∀ {w2 : World}, (W1.alloc (.cells #[.int .i64 (pos : Int)] 3)).grownBy w2 (Value.slice ao out.length co).ownBlock → w2.heap[w.heap.size]? = some (.stringIter s (pos + cw)) ∧ Below w.heap.size w w2 ∧ w.heap.size + 1 ≤ w2.heap.size) := fun {w2} hg => by
        have hz2 : w.heap.size < W1.heap.size := by omega
        refine ⟨?_, (b1.alloc b1.size _).grown hg (by simp; omega) (fun j hj => by have := (hown1.lt j hj).1; omega), by have := hg.size; simp at this; omega⟩
        rw [hg.block w.heap.size (by simp; omega) (fun e => by have := (hown1.lt _ e.symm).1; omega), Below.heap_alloc W1 _ _ hz2]
        exact HK1.out
      clear hk hown bel HS hmu hk1 hz1' hsz
      have HW1 := Lib.hid hw
      go_wp2_with (at_builtin; refine wpList_append_own_at _ rfl _ _ 171 rfl (w.heap.size + 1) 3 i0 _ 1 8 Tryz.underlying171 hi0 hz0 hz1 hz2 rfl (by decide) _ _ _ rfl (own_below hown1 ((Below.refl _ _).alloc (Nat.le_refl _) _)) ⟨_, 0, none⟩ 1 1 [.int .i64 (pos : Int)] rfl rfl (lit_news _ #[.int .i64 (pos : Int)] _) (by simp [Value.oneCell']) (by unfold maxLen; omega) (by omega) (by simp; omega) ?_; intro v' w2 hown' hgrow hnil hloc; obtain ⟨hk2, bel2, hsz2⟩ := HFIN.out hgrow; clear hgrow hnil hloc)
      go_roundw
      case rel => exact ⟨pos + cw, out ++ [pos], by omega, hk2, by rw [List.length_append, List.map_append]; exact hown', bel2, hsz2, by rw [List.length_append]; simp; omega, HN⟩
      case measure =>
        have hmu2 : w2.iterPos w.heap.size = pos + cw := by simp [World.iterPos, hk2]
        rw [HMU.out, hmu2]
        omega
    · obtain rfl : pos = s.size := by omega
      have hnext : ∀ ty, (Instr.next (.pointer (some ⟨w.heap.size, 0, none⟩)) true ty).run Tryz.prog wr = .ok (.tuple #[.bool false]) wr := fun ty => Lib.run_next_end_at wr w.heap.size s s.size ty hk (by omega)
      have HE : Hid (out = starts s) := by show _ = _; rw [← HS.out, starts_end s (by omega), List.append_nil]
      go_wp2
      go_ret
      refine ⟨_, rfl, ?_, bel⟩
      rw [← HE.out]
      exact Go.Joins.ownsRow_le hown (by omega)
end Go.Proofs.YtgfnijhhhgjabaaGreatDoor.AR
end
section
namespace Go.Proofs.YtgfnijhhhgjabaaGreatDoor.AR
open Go.RowKit Go.Maps
set_option linter.unusedVariables false
set_option linter.unusedSimpArgs false

theorem len_toList (s : ByteArray) : s.data.toList.length = s.size := by rw [Array.length_toList]; rfl
theorem fold_bytes : ∀ (l : List UInt8) (s : ByteArray), (l.map (fun b => (b.toNat : Int))).foldl (fun r n => r.push (UInt8.ofNat n.toNat)) s = ⟨s.data ++ l.toArray⟩
  | [], s => by cases s; simp
  | c :: r, s => by
    simp only [List.map_cons, List.foldl_cons]
    rw [fold_bytes r]
    cases s with
    | mk d => simp [ByteArray.push]
theorem bytes_string {w : World} {base : Nat} {sv : Value} {n : Nat} {out : List UInt8} (h : w.ownsRow base 5 1 sv n (Lib.byteCells out)) : (convert 197 9 sv).run Tryz.prog w = .ok (.string ⟨out.toArray⟩) w := by
  obtain ⟨hl, ⟨rfl, rfl⟩ | ⟨g, cap, cur, rfl, _, hb, hn, hc, hs, ht⟩⟩ := h
  · have : out = [] := List.length_eq_zero_iff.mp (by rw [Lib.byteCells_length] at hl; omega)
    subst this
    rw [run_convert_bytes_string w _ _ _ _ _ _ Tryz.underlying197 Tryz.underlying5 Tryz.underlying9]
    simp [Conv.bytesToString]
    rfl
  · rw [run_convert_bytes_string w _ _ _ _ _ _ Tryz.underlying197 Tryz.underlying5 Tryz.underlying9]
    have hlen : out.length = n := by rw [Lib.byteCells_length] at hl; omega
    have hload : (loadCells ⟨g, 0, none⟩ n).run Tryz.prog w = .ok ((out.map (fun b => (b.toNat : Int))).map (Value.int .u8)).toArray w := by
      have := run_loadCells_list (P := Tryz.prog) (w := w) ⟨g, 0, none⟩ ((out.map (fun b => (b.toNat : Int))).map (Value.int .u8)) (fun j v hj => by
        have e : (⟨g, 0, none⟩ : Addr).add j = ⟨g, j, none⟩ := by rw [WideShapes.add_plain]; simp
        rw [e]
        unfold World.cell?
        simp only [hb]
        have hj' : (Lib.byteCells out)[j]? = some v := by unfold Lib.byteCells; rw [List.map_map] at hj; exact hj
        rw [← ht] at hj'
        have := List.getElem?_take (l := cur.toList) (i := n * 1) (j := j)
        rw [this] at hj'
        split at hj'
        · simpa using hj'
        · cases hj')
      simpa [hlen] using this
    rw [run_bytesToString w _ _ _ _ hload, fold_bytes]
    simp [ByteArray.empty, ByteArray.emptyWithCapacity]
    try rfl
end Go.Proofs.YtgfnijhhhgjabaaGreatDoor.AR
end
section
namespace Go.Proofs.YtgfnijhhhgjabaaGreatDoor.AR
open Go.RowKit Go.Maps
set_option linter.unusedVariables false
set_option linter.unusedSimpArgs false

/-! a text's characters from its end -/
theorem startsAt_mem (s : ByteArray) : ∀ (f i : Nat), s.size - i ≤ f → ∀ x ∈ startsAt s i, i ≤ x ∧ x < s.size
  | 0, i, hf, x, hx => by rw [starts_end s (by omega)] at hx; cases hx
  | f + 1, i, hf, x, hx => by
    by_cases h : i < s.size
    · have hc := chW_le s h
      rw [starts_cons s h] at hx
      rcases List.mem_cons.1 hx with rfl | hx
      · exact ⟨Nat.le_refl _, h⟩
      · have := startsAt_mem s f (i + chW s i) (by omega) x hx
        omega
    · rw [starts_end s h] at hx; cases hx
theorem startsAt_pair (s : ByteArray) : ∀ (f i : Nat), s.size - i ≤ f → (startsAt s i).Pairwise (· < ·)
  | 0, i, hf => by rw [starts_end s (by omega)]; exact List.Pairwise.nil
  | f + 1, i, hf => by
    by_cases h : i < s.size
    · have hc := chW_le s h
      rw [starts_cons s h]
      refine List.Pairwise.cons (fun x hx => ?_) (startsAt_pair s f (i + chW s i) (by omega))
      have := (startsAt_mem s s.size (i + chW s i) (by omega) x hx).1
      omega
    · rw [starts_end s h]; exact List.Pairwise.nil
theorem starts_len (s : ByteArray) : ∀ (f i : Nat), s.size - i ≤ f → (startsAt s i).length ≤ s.size - i
  | 0, i, hf => by rw [starts_end s (by omega)]; exact Nat.zero_le _
  | f + 1, i, hf => by
    by_cases h : i < s.size
    · have hc := chW_le s h
      rw [starts_cons s h, List.length_cons]
      have := starts_len s f (i + chW s i) (by omega)
      omega
    · rw [starts_end s h]; exact Nat.zero_le _
theorem starts_le (s : ByteArray) : (starts s).length ≤ s.size := by
  have := starts_len s s.size 0 (by omega)
  unfold starts
  simpa using this
/-- where the k-th character from the end begins, and where it ends -/
def startAt (s : ByteArray) (k : Nat) : Nat := (starts s)[(starts s).length - 1 - k]?.getD 0
def endAt (s : ByteArray) (k : Nat) : Nat := if k = 0 then s.size else startAt s (k - 1)
theorem endAt_succ (s : ByteArray) (k : Nat) : endAt s (k + 1) = startAt s k := by unfold endAt; simp
theorem startAt_lt (s : ByteArray) {k : Nat} (hk : k < (starts s).length) : startAt s k < s.size := by
  unfold startAt
  have h : (starts s).length - 1 - k < (starts s).length := by omega
  rw [List.getElem?_eq_getElem h, Option.getD_some]
  exact (startsAt_mem s s.size 0 (by omega) _ (List.getElem_mem h)).2
theorem endAt_le (s : ByteArray) {k : Nat} (hk : k ≤ (starts s).length) : endAt s k ≤ s.size := by
  unfold endAt
  split
  · exact Nat.le_refl _
  · exact Nat.le_of_lt (startAt_lt s (by omega))
theorem start_end (s : ByteArray) {k : Nat} (hk : k < (starts s).length) : startAt s k < endAt s k := by
  unfold endAt
  split
  · exact startAt_lt s hk
  · unfold startAt
    have h1 : (starts s).length - 1 - k < (starts s).length := by omega
    have h2 : (starts s).length - 1 - (k - 1) < (starts s).length := by omega
    rw [List.getElem?_eq_getElem h1, List.getElem?_eq_getElem h2, Option.getD_some, Option.getD_some]
    exact List.pairwise_iff_getElem.1 (startsAt_pair s s.size 0 (by omega)) _ _ h1 h2 (by omega)
theorem endAt_end (s : ByteArray) : endAt s (starts s).length = 0 := by
  by_cases h : 0 < s.size
  · have hl : (starts s).length = (startsAt s (0 + chW s 0)).length + 1 := by unfold starts; rw [starts_cons s h]; rfl
    unfold endAt startAt
    rw [if_neg (by omega), show (starts s).length - 1 - ((starts s).length - 1) = 0 by omega]
    unfold starts
    rw [starts_cons s h]
    rfl
  · have : starts s = [] := by unfold starts; exact starts_end s (by omega)
    rw [this]
    show endAt s 0 = 0
    unfold endAt
    rw [if_pos rfl]
    omega
/-- the bytes of the first k characters from the end -/
def chunk (s : ByteArray) (k : Nat) : ByteArray := s.extract (startAt s k) (endAt s k)
def backL (s : ByteArray) : Nat → List UInt8
  | 0 => []
  | k + 1 => backL s k ++ (chunk s k).data.toList
theorem chunk_size (s : ByteArray) {k : Nat} (hk : k < (starts s).length) : (chunk s k).size = endAt s k - startAt s k := by
  unfold chunk
  rw [ByteArray.size_extract, Nat.min_eq_left (endAt_le s (by omega))]
theorem backL_len (s : ByteArray) : ∀ k, k ≤ (starts s).length → (backL s k).length = s.size - endAt s k
  | 0, _ => by simp [backL, endAt]
  | k + 1, hk => by
    have := start_end s (k := k) (by omega)
    have := endAt_le s (k := k) (by omega)
    rw [backL, List.length_append, backL_len s k (by omega), len_toList, chunk_size s (by omega), endAt_succ]
    omega
theorem backL_all (s : ByteArray) : (backL s (starts s).length).length = s.size := by
  rw [backL_len s _ (Nat.le_refl _), endAt_end]
  omega
def backB (s : ByteArray) : ByteArray := ⟨(backL s (starts s).length).toArray⟩
/-- what lies in memory when k characters have been taken over -/
structure BkSt (W : World) (B : Nat) (s : ByteArray) (k : Nat) : Prop where
  bs : Boxed W B 9 (.string s)
  row : W.ownsRow (B + 1) 5 1 (.slice (some ⟨B + 1, 0, none⟩) (backL s k).length s.size) (backL s k).length (Lib.byteCells (backL s k))
  bo : Boxed W (B + 1 + 1) 197 (.slice (some ⟨B + 1, 0, none⟩) (backL s k).length s.size)
  be : Boxed W (B + 1 + 1 + 1) 3 (.int .i64 (endAt s k : Int))
theorem boxed_kept {W W' : World} {row : Option Nat} {B : Nat} {t : TypeId} {v : Value} (h : Boxed W B t v) (hg : W.grownBy W' row) (hr : ∀ r, row = some r → ∃ o : Obj, W.heap[r]? = some o ∧ o.isCells = false) : Boxed W' B t v :=
  h.kept hg (fun e => by
    obtain ⟨o, ho, hc⟩ := hr B e.symm
    rw [show W.heap[B]? = _ from h] at ho
    cases ho
    cases hc)
theorem ownsRow_keptR {W W' : World} {row : Option Nat} {base : Nat} {e : TypeId} {size : Nat} {v : Value} {k : Nat} {xs : List Value} (h : W.ownsRow base e size v k xs) (hg : W.grownBy W' row) (hr : ∀ r, row = some r → ∃ o : Obj, W.heap[r]? = some o ∧ o.isCells = false) : W'.ownsRow base e size v k xs := by
  refine h.kept hg ?_
  rcases h.2 with ⟨rfl, _⟩ | ⟨g, cap, cur, rfl, _, hgb, _⟩
  · exact .inl rfl
  · refine .inr fun e' => ?_
    obtain ⟨o, ho, hc⟩ := hr g (by simpa [Value.ownBlock] using e'.symm)
    rw [hgb] at ho
    cases ho
    cases hc
theorem BkSt.kept {W W' : World} {row : Option Nat} {B : Nat} {s : ByteArray} {k : Nat} (h : BkSt W B s k) (hg : W.grownBy W' row) (hr : ∀ r, row = some r → ∃ o : Obj, W.heap[r]? = some o ∧ o.isCells = false) : BkSt W' B s k :=
  ⟨boxed_kept h.bs hg hr, ownsRow_keptR h.row hg hr, boxed_kept h.bo hg hr, boxed_kept h.be hg hr⟩
theorem boxed_below {W W' : World} {B : Nat} {t : TypeId} {v : Value} (h : Boxed W B t v) (hb : Below W.heap.size W W') : Boxed W' B t v := (hb.block B h.lt).trans h
theorem BkSt.below {W W' : World} {B : Nat} {s : ByteArray} {k : Nat} (h : BkSt W B s k) (hb : Below W.heap.size W W') : BkSt W' B s k :=
  ⟨boxed_below h.bs hb, own_below h.row hb, boxed_below h.bo hb, boxed_below h.be hb⟩
theorem bkSt_start (w : World) (s : ByteArray) (hs : s.size ≤ 1000000) :
    BkSt ((((w.alloc (.cells #[.string s] 9)).alloc (.cells (madeCells #[.int .u8 0] s.size) 5)).alloc (.cells #[.slice (some ⟨w.heap.size + 1, 0, none⟩) 0 s.size] 197)).alloc (.cells #[.int .i64 (s.size : Int)] 3)) w.heap.size s 0 := by
  have h1 := Boxed.new w 9 (.string s)
  have hrow := World.ownsRow_made (base := w.heap.size + 1) (e := 5) (size := 1) (w.alloc (.cells #[.string s] 9)) (madeCells #[.int .u8 0] s.size) s.size (by simp) (by unfold maxLen; omega) (by rw [size_madeCells, Nat.mul_one])
  simp only [World.size_alloc] at hrow
  have h2 := Boxed.new ((w.alloc (.cells #[.string s] 9)).alloc (.cells (madeCells #[.int .u8 0] s.size) 5)) 197 (.slice (some ⟨w.heap.size + 1, 0, none⟩) 0 s.size)
  have h3 := Boxed.new (((w.alloc (.cells #[.string s] 9)).alloc (.cells (madeCells #[.int .u8 0] s.size) 5)).alloc (.cells #[.slice (some ⟨w.heap.size + 1, 0, none⟩) 0 s.size] 197)) 3 (.int .i64 (s.size : Int))
  simp only [World.size_alloc] at h2 h3
  exact ⟨((h1.alloc _).alloc _).alloc _, (hrow.alloc _).alloc _, h2.alloc _, h3⟩
end Go.Proofs.YtgfnijhhhgjabaaGreatDoor.AR
end
section
namespace Go.Proofs.YtgfnijhhhgjabaaGreatDoor.AR
open Go.RowKit Go.Maps
set_option linter.unusedVariables false
set_option linter.unusedSimpArgs false
attribute [local go_sem ↓] Go.wp_at_zero Go.wp_at_succ

/-! the reference's characters are the model's -/
def bt (s : ByteArray) (i : Nat) : Nat := (byteAt s i).toNat
theorem byteAt_bt (s : ByteArray) (i : Nat) : byteAt s i = (bt s i : Int) := by
  unfold bt byteAt
  split
  · simp
  · simp
theorem bt_lt (s : ByteArray) (i : Nat) : bt s i < 256 := by
  unfold bt byteAt
  split
  · have := (s[i]).toNat_lt
    simp
    omega
  · simp
theorem get_bt (s : ByteArray) {i : Nat} (h : i < s.size) : (s.get! i).toNat = bt s i := by
  unfold bt
  rw [byteAt_eq h]
  have : s.get! i = s[i] := by
    show s.data[i]! = s.data[i]
    exact getElem!_pos s.data i h
  rw [this]
  simp
def fN (c : Nat) : Int := if c < 128 then 0 else if 192 ≤ c ∧ c < 224 then 1 else if 224 ≤ c ∧ c < 240 then 2 else if 240 ≤ c ∧ c < 248 then 3 else -1
def fL (c : Nat) : Int := if c < 128 then 0 else if 192 ≤ c ∧ c < 224 then 128 else if 224 ≤ c ∧ c < 240 then 2048 else if 240 ≤ c ∧ c < 248 then 65536 else 0
def fB (c : Nat) : Int := if c < 128 then (c : Int) else if 192 ≤ c ∧ c < 224 then (c : Int) - 192 else if 224 ≤ c ∧ c < 240 then (c : Int) - 224 else if 240 ≤ c ∧ c < 248 then (c : Int) - 240 else 0
def contB (c : Nat) : Bool := decide (128 ≤ c) && decide (c < 192)
def contsTo (s : ByteArray) (i : Nat) : Nat → Bool
  | 0 => true
  | k + 1 => contsTo s i k && contB (bt s (i + (k + 1)))
def ptN (s : ByteArray) (i : Nat) : Nat → Int
  | 0 => fB (bt s i)
  | k + 1 => ptN s i k * 64 + (bt s (i + (k + 1)) : Int) - 128
def badP (p l : Int) : Bool := decide (p < l) || decide (1114111 < p) || (decide (55296 ≤ p) && decide (p ≤ 57343))
def charR (s : ByteArray) (i : Nat) : Int × Bool :=
  if fN (bt s i) < 0 ∨ (s.size : Int) ≤ (i : Int) + fN (bt s i) then (1, false)
  else if contsTo s i (fN (bt s i)).toNat = false then (1, false)
  else if badP (ptN s i (fN (bt s i)).toNat) (fL (bt s i)) = true then (1, false)
  else (1 + fN (bt s i), true)
def chOk (s : ByteArray) (i : Nat) : Bool := decide (bt s i < 128) || decide (chW s i ≠ 1)
theorem dec_ok (s : ByteArray) {i : Nat} (h : i < s.size) : charR s i = ((chW s i : Int), chOk s i) := by
  have hb := bt_lt s i
  have g0 : (s.get! i).toNat = bt s i := get_bt s h
  have e : chW s i = (Utf8.decode s i).2 := rfl
  have hc : ∀ k, (decide (i + k < s.size) && ((s.get! (i + k)).toNat / 64 == 2)) = (decide (i + k < s.size) && contB (bt s (i + k))) := fun k => by
    by_cases hk : i + k < s.size
    · rw [get_bt s hk]
      have := bt_lt s (i + k)
      have h2 : (bt s (i + k) / 64 == 2) = contB (bt s (i + k)) := by
        unfold contB
        rw [Bool.eq_iff_iff]
        simp
        omega
      rw [h2]
    · simp [hk]
  have hd : Utf8.decode s i = (if bt s i < 0x80 then (bt s i, 1) else if (bt s i / 32 == 6 && (decide (i + 1 < s.size) && contB (bt s (i + 1)))) = true then (if ((bt s i % 32) * 64 + (s.get! (i + 1)).toNat % 64) ≥ 0x80 then (((bt s i % 32) * 64 + (s.get! (i + 1)).toNat % 64), 2) else (Utf8.runeError, 1))
      else if (bt s i / 16 == 14 && (decide (i + 1 < s.size) && contB (bt s (i + 1))) && (decide (i + 2 < s.size) && contB (bt s (i + 2)))) = true then (if (decide (((bt s i % 16) * 4096 + ((s.get! (i + 1)).toNat % 64) * 64 + (s.get! (i + 2)).toNat % 64) ≥ 0x800) && Utf8.valid (((bt s i % 16) * 4096 + ((s.get! (i + 1)).toNat % 64) * 64 + (s.get! (i + 2)).toNat % 64) : Nat)) = true then (((bt s i % 16) * 4096 + ((s.get! (i + 1)).toNat % 64) * 64 + (s.get! (i + 2)).toNat % 64), 3) else (Utf8.runeError, 1))
      else if (bt s i / 8 == 30 && (decide (i + 1 < s.size) && contB (bt s (i + 1))) && (decide (i + 2 < s.size) && contB (bt s (i + 2))) && (decide (i + 3 < s.size) && contB (bt s (i + 3)))) = true then (if (decide (((bt s i % 8) * 262144 + ((s.get! (i + 1)).toNat % 64) * 4096 + ((s.get! (i + 2)).toNat % 64) * 64 + (s.get! (i + 3)).toNat % 64) ≥ 0x10000) && Utf8.valid (((bt s i % 8) * 262144 + ((s.get! (i + 1)).toNat % 64) * 4096 + ((s.get! (i + 2)).toNat % 64) * 64 + (s.get! (i + 3)).toNat % 64) : Nat)) = true then (((bt s i % 8) * 262144 + ((s.get! (i + 1)).toNat % 64) * 4096 + ((s.get! (i + 2)).toNat % 64) * 64 + (s.get! (i + 3)).toNat % 64), 4) else (Utf8.runeError, 1))
      else (Utf8.runeError, 1)) := by
    rw [← hc 1, ← hc 2, ← hc 3, ← g0]
    rfl
  unfold chOk
  rw [e, hd]
  clear e hd hc g0
  have fin : ∀ (X : Nat × Nat) (r : Int × Bool) (x k : Nat) (b : Bool), X = (x, k) → r = ((k : Int), b) → b = (decide (bt s i < 128) || decide (k ≠ 1)) → r = ((X.2 : Int), decide (bt s i < 128) || decide (X.2 ≠ 1)) := by
    intro X r x k b h1 h2 h3
    rw [h1, h2, h3]
  by_cases a0 : bt s i < 128
  · have f0 : fN (bt s i) = 0 := by unfold fN; rw [if_pos a0]
    have fb : fB (bt s i) = bt s i := by unfold fB; rw [if_pos a0]
    have fl : fL (bt s i) = 0 := by unfold fL; rw [if_pos a0]
    refine fin _ _ (bt s i) 1 true (if_pos a0) ?_ (by simp [a0])
    unfold charR
    rw [f0, fl, if_neg (by omega), if_neg (by simp [contsTo]), if_neg (by simp [badP, ptN, fb]; omega)]
    rfl
  have bad : ∀ X : Nat × Nat, X = (Utf8.runeError, 1) → charR s i = (1, false) → charR s i = ((X.2 : Int), decide (bt s i < 128) || decide (X.2 ≠ 1)) := fun X h1 h2 => fin X _ _ 1 false h1 h2 (by simp [a0])
  by_cases a1 : 192 ≤ bt s i ∧ bt s i < 224
  · have f0 : fN (bt s i) = 1 := by unfold fN; rw [if_neg a0, if_pos a1]
    have fb : fB (bt s i) = bt s i - 192 := by unfold fB; rw [if_neg a0, if_pos a1]
    have fl : fL (bt s i) = 128 := by unfold fL; rw [if_neg a0, if_pos a1]
    have d1 : (bt s i / 32 == 6) = true := by simp; omega
    have d2 : (bt s i / 16 == 14) = false := by simp; omega
    have d3 : (bt s i / 8 == 30) = false := by simp; omega
    rw [d1, d2, d3]
    have cR : charR s i = if (s.size : Int) ≤ (i : Int) + 1 then (1, false) else if (contB (bt s (i + 1))) = false then (1, false) else if badP (ptN s i 1) 128 = true then (1, false) else (1 + 1, true) := by
      have ec : contsTo s i (1 : Int).toNat = (contB (bt s (i + 1))) := by
        show contsTo s i 1 = _
        simp [contsTo]
      have e1 : ((1 : Int) < 0 ∨ (s.size : Int) ≤ (i : Int) + 1) = ((s.size : Int) ≤ (i : Int) + 1) := by simp
      unfold charR
      rw [f0, fl, ec]
      simp only [e1]
      rfl
    by_cases hz : i + 1 < s.size
    · have zz : ∀ k, k ≤ 1 → i + k < s.size := fun k hk => by omega
      have t1 : decide (i + 1 < s.size) = true := decide_eq_true (zz 1 (by omega))
      rw [get_bt s (zz 1 (by omega)), t1]
      rw [if_neg (by omega)] at cR
      by_cases c1 : (contB (bt s (i + 1))) = true
      · rw [if_neg (by rw [c1]; simp)] at cR
        have q1 : 128 ≤ bt s (i + 1) ∧ bt s (i + 1) < 192 := by
          have c1' := c1
          simp [contB] at c1'
          omega
        have hp : ptN s i 1 = ((((bt s i % 32) * 64 + bt s (i + 1) % 64) : Nat) : Int) := by
          simp only [ptN, fb, Nat.zero_add, Nat.reduceAdd]
          omega
        rw [hp] at cR
        have hcc : (true && (true && contB (bt s (i + 1)))) = true := by simpa [and_assoc] using c1
        rw [if_neg a0]
        rw [if_pos hcc]
        have hcl : ((bt s i % 32) * 64 + bt s (i + 1) % 64) < 2048 := by omega
        generalize ((bt s i % 32) * 64 + bt s (i + 1) % 64) = c at cR hcl ⊢
        by_cases hm : c ≥ 128
        · rw [if_neg (by simp [badP]; omega)] at cR
          exact fin _ _ c 2 true (if_pos hm) cR (by simp)
        · rw [if_pos (by simp [badP]; omega)] at cR
          exact bad _ (if_neg hm) cR
      · rw [if_pos (by simpa using c1)] at cR
        refine bad _ ?_ cR
        have hcc : ¬ ((true && (true && contB (bt s (i + 1)))) = true) := by simpa [and_assoc] using c1
        rw [if_neg a0]
        rw [if_neg hcc]
        rw [if_neg (by simp)]
        rw [if_neg (by simp)]
    · rw [if_pos (by omega)] at cR
      refine bad _ ?_ cR
      have t1 : decide (i + 1 < s.size) = false := decide_eq_false hz
      rw [if_neg a0]
      rw [if_neg (by simp [hz])]
      rw [if_neg (by simp)]
      rw [if_neg (by simp)]
  by_cases a2 : 224 ≤ bt s i ∧ bt s i < 240
  · have f0 : fN (bt s i) = 2 := by unfold fN; rw [if_neg a0, if_neg a1, if_pos a2]
    have fb : fB (bt s i) = bt s i - 224 := by unfold fB; rw [if_neg a0, if_neg a1, if_pos a2]
    have fl : fL (bt s i) = 2048 := by unfold fL; rw [if_neg a0, if_neg a1, if_pos a2]
    have d1 : (bt s i / 32 == 6) = false := by simp; omega
    have d2 : (bt s i / 16 == 14) = true := by simp; omega
    have d3 : (bt s i / 8 == 30) = false := by simp; omega
    rw [d1, d2, d3]
    have cR : charR s i = if (s.size : Int) ≤ (i : Int) + 2 then (1, false) else if (contB (bt s (i + 1)) && contB (bt s (i + 2))) = false then (1, false) else if badP (ptN s i 2) 2048 = true then (1, false) else (1 + 2, true) := by
      have ec : contsTo s i (2 : Int).toNat = (contB (bt s (i + 1)) && contB (bt s (i + 2))) := by
        show contsTo s i 2 = _
        simp [contsTo]
      have e1 : ((2 : Int) < 0 ∨ (s.size : Int) ≤ (i : Int) + 2) = ((s.size : Int) ≤ (i : Int) + 2) := by simp
      unfold charR
      rw [f0, fl, ec]
      simp only [e1]
      rfl
    by_cases hz : i + 2 < s.size
    · have zz : ∀ k, k ≤ 2 → i + k < s.size := fun k hk => by omega
      have t1 : decide (i + 1 < s.size) = true := decide_eq_true (zz 1 (by omega))
      rw [get_bt s (zz 1 (by omega)), t1]
      have t2 : decide (i + 2 < s.size) = true := decide_eq_true (zz 2 (by omega))
      rw [get_bt s (zz 2 (by omega)), t2]
      rw [if_neg (by omega)] at cR
      by_cases c1 : (contB (bt s (i + 1)) && contB (bt s (i + 2))) = true
      · rw [if_neg (by rw [c1]; simp)] at cR
        have q1 : 128 ≤ bt s (i + 1) ∧ bt s (i + 1) < 192 := by
          have c1' := c1
          simp [contB] at c1'
          omega
        have q2 : 128 ≤ bt s (i + 2) ∧ bt s (i + 2) < 192 := by
          have c1' := c1
          simp [contB] at c1'
          omega
        have hp : ptN s i 2 = ((((bt s i % 16) * 4096 + (bt s (i + 1) % 64) * 64 + bt s (i + 2) % 64) : Nat) : Int) := by
          simp only [ptN, fb, Nat.zero_add, Nat.reduceAdd]
          omega
        rw [hp] at cR
        have hcc : (true && (true && contB (bt s (i + 1))) && (true && contB (bt s (i + 2)))) = true := by simpa [and_assoc] using c1
        rw [if_neg a0]
        rw [if_neg (by simp)]
        rw [if_pos hcc]
        generalize ((bt s i % 16) * 4096 + (bt s (i + 1) % 64) * 64 + bt s (i + 2) % 64) = c at cR ⊢
        by_cases hm : badP (c : Int) 2048 = true
        · rw [if_pos hm] at cR
          refine bad _ (if_neg ?_) cR
          simp [badP] at hm
          simp [Utf8.valid]
          omega
        · rw [if_neg hm] at cR
          refine fin _ _ c 3 true (if_pos ?_) cR (by simp)
          simp [badP] at hm
          simp [Utf8.valid]
          omega
      · rw [if_pos (by simpa using c1)] at cR
        refine bad _ ?_ cR
        have hcc : ¬ ((true && (true && contB (bt s (i + 1))) && (true && contB (bt s (i + 2)))) = true) := by simpa [and_assoc] using c1
        rw [if_neg a0]
        rw [if_neg (by simp)]
        rw [if_neg hcc]
        rw [if_neg (by simp)]
    · rw [if_pos (by omega)] at cR
      refine bad _ ?_ cR
      have t2 : decide (i + 2 < s.size) = false := decide_eq_false hz
      rw [if_neg a0]
      rw [if_neg (by simp)]
      rw [if_neg (by simp [hz])]
      rw [if_neg (by simp)]
  by_cases a3 : 240 ≤ bt s i ∧ bt s i < 248
  · have f0 : fN (bt s i) = 3 := by unfold fN; rw [if_neg a0, if_neg a1, if_neg a2, if_pos a3]
    have fb : fB (bt s i) = bt s i - 240 := by unfold fB; rw [if_neg a0, if_neg a1, if_neg a2, if_pos a3]
    have fl : fL (bt s i) = 65536 := by unfold fL; rw [if_neg a0, if_neg a1, if_neg a2, if_pos a3]
    have d1 : (bt s i / 32 == 6) = false := by simp; omega
    have d2 : (bt s i / 16 == 14) = false := by simp; omega
    have d3 : (bt s i / 8 == 30) = true := by simp; omega
    rw [d1, d2, d3]
    have cR : charR s i = if (s.size : Int) ≤ (i : Int) + 3 then (1, false) else if (contB (bt s (i + 1)) && contB (bt s (i + 2)) && contB (bt s (i + 3))) = false then (1, false) else if badP (ptN s i 3) 65536 = true then (1, false) else (1 + 3, true) := by
      have ec : contsTo s i (3 : Int).toNat = (contB (bt s (i + 1)) && contB (bt s (i + 2)) && contB (bt s (i + 3))) := by
        show contsTo s i 3 = _
        simp [contsTo]
      have e1 : ((3 : Int) < 0 ∨ (s.size : Int) ≤ (i : Int) + 3) = ((s.size : Int) ≤ (i : Int) + 3) := by simp
      unfold charR
      rw [f0, fl, ec]
      simp only [e1]
      rfl
    by_cases hz : i + 3 < s.size
    · have zz : ∀ k, k ≤ 3 → i + k < s.size := fun k hk => by omega
      have t1 : decide (i + 1 < s.size) = true := decide_eq_true (zz 1 (by omega))
      rw [get_bt s (zz 1 (by omega)), t1]
      have t2 : decide (i + 2 < s.size) = true := decide_eq_true (zz 2 (by omega))
      rw [get_bt s (zz 2 (by omega)), t2]
      have t3 : decide (i + 3 < s.size) = true := decide_eq_true (zz 3 (by omega))
      rw [get_bt s (zz 3 (by omega)), t3]
      rw [if_neg (by omega)] at cR
      by_cases c1 : (contB (bt s (i + 1)) && contB (bt s (i + 2)) && contB (bt s (i + 3))) = true
      · rw [if_neg (by rw [c1]; simp)] at cR
        have q1 : 128 ≤ bt s (i + 1) ∧ bt s (i + 1) < 192 := by
          have c1' := c1
          simp [contB] at c1'
          omega
        have q2 : 128 ≤ bt s (i + 2) ∧ bt s (i + 2) < 192 := by
          have c1' := c1
          simp [contB] at c1'
          omega
        have q3 : 128 ≤ bt s (i + 3) ∧ bt s (i + 3) < 192 := by
          have c1' := c1
          simp [contB] at c1'
          omega
        have hp : ptN s i 3 = ((((bt s i % 8) * 262144 + (bt s (i + 1) % 64) * 4096 + (bt s (i + 2) % 64) * 64 + bt s (i + 3) % 64) : Nat) : Int) := by
          simp only [ptN, fb, Nat.zero_add, Nat.reduceAdd]
          omega
        rw [hp] at cR
        have hcc : (true && (true && contB (bt s (i + 1))) && (true && contB (bt s (i + 2))) && (true && contB (bt s (i + 3)))) = true := by simpa [and_assoc] using c1
        rw [if_neg a0]
        rw [if_neg (by simp)]
        rw [if_neg (by simp)]
        rw [if_pos hcc]
        generalize ((bt s i % 8) * 262144 + (bt s (i + 1) % 64) * 4096 + (bt s (i + 2) % 64) * 64 + bt s (i + 3) % 64) = c at cR ⊢
        by_cases hm : badP (c : Int) 65536 = true
        · rw [if_pos hm] at cR
          refine bad _ (if_neg ?_) cR
          simp [badP] at hm
          simp [Utf8.valid]
          omega
        · rw [if_neg hm] at cR
          refine fin _ _ c 4 true (if_pos ?_) cR (by simp)
          simp [badP] at hm
          simp [Utf8.valid]
          omega
      · rw [if_pos (by simpa using c1)] at cR
        refine bad _ ?_ cR
        have hcc : ¬ ((true && (true && contB (bt s (i + 1))) && (true && contB (bt s (i + 2))) && (true && contB (bt s (i + 3)))) = true) := by simpa [and_assoc] using c1
        rw [if_neg a0]
        rw [if_neg (by simp)]
        rw [if_neg (by simp)]
        rw [if_neg hcc]
    · rw [if_pos (by omega)] at cR
      refine bad _ ?_ cR
      have t3 : decide (i + 3 < s.size) = false := decide_eq_false hz
      rw [if_neg a0]
      rw [if_neg (by simp)]
      rw [if_neg (by simp)]
      rw [if_neg (by simp [hz])]
  have f0 : fN (bt s i) = -1 := by unfold fN; rw [if_neg a0, if_neg a1, if_neg a2, if_neg a3]
  have n6 : ¬ bt s i / 32 = 6 := by omega
  have n14 : ¬ bt s i / 16 = 14 := by omega
  have n30 : ¬ bt s i / 8 = 30 := by omega
  refine bad _ ?_ ?_
  · rw [if_neg a0, if_neg (by simp [n6]), if_neg (by simp [n14]), if_neg (by simp [n30])]
  · unfold charR
    rw [f0, if_pos (by omega)]
end Go.Proofs.YtgfnijhhhgjabaaGreatDoor.AR
end
section
namespace Go.Proofs.YtgfnijhhhgjabaaGreatDoor.AR
open Go.RowKit Go.Maps
set_option linter.unusedVariables false
set_option linter.unusedSimpArgs false
attribute [local go_sem ↓] Go.wp_at_zero Go.wp_at_succ

theorem run_indexStr (s : ByteArray) {k : Nat} (hk : k < s.size) (w : World) : (Instr.index 9 (.string s) (.int .i64 (k : Int))).run Tryz.prog w = .ok (.int .u8 (bt s k : Int)) w := by
  have h1 : (k : Int) < (s.size : Int) := by omega
  have h0 : (0 : Int) ≤ (k : Int) := by omega
  have e := get_bt s hk
  rw [← e]
  have e2 : s.get! k = s[k] := by
    show s.data[k]! = s.data[k]
    exact getElem!_pos s.data k hk
  rw [e2]
  unfold Instr.index
  simp [run_underlying Tryz.underlying9, h0, h1, go_sem, hk]
theorem fB_range (c : Nat) : 0 ≤ fB c ∧ fB c ≤ 127 := by
  unfold fB
  repeat' split
  all_goals omega
theorem fN_range (c : Nat) : -1 ≤ fN c ∧ fN c ≤ 3 := by
  unfold fN
  repeat' split
  all_goals omega
theorem ptN_range (s : ByteArray) (i : Nat) : ∀ k, contsTo s i k = true → 0 ≤ ptN s i k ∧ ptN s i k ≤ 128 * 64 ^ k - 1
  | 0, _ => by have := fB_range (bt s i); simp only [ptN]; omega
  | k + 1, h => by
    simp only [contsTo, Bool.and_eq_true] at h
    have ih := ptN_range s i k h.1
    have hc : 128 ≤ bt s (i + (k + 1)) ∧ bt s (i + (k + 1)) < 192 := by simpa [contB] using h.2
    simp only [ptN]
    have e : (128 : Int) * 64 ^ (k + 1) = 128 * 64 ^ k * 64 := by rw [Int.pow_succ]; omega
    rw [e]
    generalize (128 : Int) * 64 ^ k = z at ih
    omega
theorem contsTo_not {s : ByteArray} {i k : Nat} (h : contB (bt s (i + (k + 1))) = false) : ∀ {n : Nat}, k < n → contsTo s i n = false
  | 0, hk => by omega
  | n + 1, hk => by
    by_cases e : k = n
    · subst e; simp [contsTo, h]
    · simp [contsTo, contsTo_not h (n := n) (by omega)]
end Go.Proofs.YtgfnijhhhgjabaaGreatDoor.AR
end
