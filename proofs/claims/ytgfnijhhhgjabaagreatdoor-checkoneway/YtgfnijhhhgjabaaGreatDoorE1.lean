import Derived.Test.YtgfnijhhhgjabaaGreatDoorG3
import Derived.Deep.MidRow
import Derived.Test.YtgfnijhhhgjabaaGreatDoorG2
import Derived.BigQuiet
import Derived.Deep.RegionWith
section
namespace Go.Proofs.YtgfnijhhhgjabaaGreatDoor.EV
open Go.RowKit Go.Maps
set_option linter.unusedVariables false
set_option linter.unusedSimpArgs false
attribute [local go_sem ↓] Go.wp_at_zero Go.wp_at_succ

theorem kept_cell {w w1 : World} {c : Array Value} {T : TypeId} (hb : Below (w.alloc (.cells c T)).heap.size (w.alloc (.cells c T)) w1) (i : Nat) (v : Value) (hi : c[i]? = some v) : w1.cell? ⟨w.heap.size, i, none⟩ = some v := by
  rw [hb.cell (p := ⟨w.heap.size, i, none⟩) (by simp)]
  unfold World.cell?
  simp only [heap_alloc_new]
  exact hi
theorem kept_frozen {w w1 : World} {c : Array Value} {T : TypeId} (hb : Below (w.alloc (.cells c T)).heap.size (w.alloc (.cells c T)) w1) (i : Nat) : w1.frozen? ⟨w.heap.size, i, none⟩ = false := by
  rw [hb.frozen (p := ⟨w.heap.size, i, none⟩) (by simp)]
  unfold World.frozen?
  simp only [heap_alloc_new]
  simp
theorem kept_lt {w w1 : World} {c : Array Value} {T : TypeId} (hb : Below (w.alloc (.cells c T)).heap.size (w.alloc (.cells c T)) w1) : w.heap.size < w1.heap.size := by
  have := hb.size
  simp at this
  omega
theorem term_results {fn : Func} {sl : Nat} (hr : fn.results = #[.cell sl 44]) {W : World} {tmps : Array Value} {b : Nat} {x0 x1 x2 x3 : Value} (h2 : tmps.getD sl undef = .pointer (some ⟨b, 0, none⟩))
    (c0 : W.cell? ⟨b, 0, none⟩ = some x0) (c1 : W.cell? ⟨b, 1, none⟩ = some x1) (c2 : W.cell? ⟨b, 2, none⟩ = some x2) (c3 : W.cell? ⟨b, 3, none⟩ = some x3) :
    (results fn tmps).run Tryz.prog W = .ok (.agg #[x0, x1, x2, x3]) W := by
  have hl : (loadVar 44 ⟨b, 0, none⟩).run Tryz.prog W = .ok (.agg #[x0, x1, x2, x3]) W := by
    refine run_loadVar_mid W b 0 44 [x0, x1, x2, x3] _ (fun j v hj => ?_) Tryz.underlying44 rfl (by kernel_rfl)
    match j, hj with
    | 0, hj => simp at hj; subst hj; exact c0
    | 1, hj => simp at hj; subst hj; exact c1
    | 2, hj => simp at hj; subst hj; exact c2
    | 3, hj => simp at hj; subst hj; exact c3
  have e0 : results fn tmps = (do
      let x ← asAddr (tmps.getD sl undef)
      loadVar 44 x) := by
    simp [results, hr]
  rw [e0, h2]
  simp [asAddr, hl, Result.andThen]
/-- the cells of a term in block b, that may be written -/
def Own4 (w : World) (b : Nat) : Prop := (∃ y0 y1 y2 y3, w.cell? ⟨b, 0, none⟩ = some y0 ∧ w.cell? ⟨b, 1, none⟩ = some y1 ∧ w.cell? ⟨b, 2, none⟩ = some y2 ∧ w.cell? ⟨b, 3, none⟩ = some y3) ∧
  w.frozen? ⟨b, 0, none⟩ = false ∧ w.frozen? ⟨b, 1, none⟩ = false ∧ w.frozen? ⟨b, 2, none⟩ = false ∧ w.frozen? ⟨b, 3, none⟩ = false ∧ b < w.heap.size
theorem own4 {w w1 : World} {a b c d : Value} {T : TypeId} (hb : Below (w.alloc (.cells #[a, b, c, d] T)).heap.size (w.alloc (.cells #[a, b, c, d] T)) w1) : Own4 w1 w.heap.size :=
  ⟨⟨_, _, _, _, kept_cell hb 0 _ rfl, kept_cell hb 1 _ rfl, kept_cell hb 2 _ rfl, kept_cell hb 3 _ rfl⟩, kept_frozen hb 0, kept_frozen hb 1, kept_frozen hb 2, kept_frozen hb 3, kept_lt hb⟩
theorem Own4.below {w w1 : World} {b : Nat} (h : Own4 w b) (hb : Below w.heap.size w w1) : Own4 w1 b := by
  obtain ⟨⟨y0, y1, y2, y3, c0, c1, c2, c3⟩, f0, f1, f2, f3, hl⟩ := h
  refine ⟨⟨y0, y1, y2, y3, ?_, ?_, ?_, ?_⟩, ?_, ?_, ?_, ?_, Nat.lt_of_lt_of_le hl hb.size⟩
  all_goals first | rw [hb.cell (by exact hl)]; assumption | rw [hb.frozen (by exact hl)]; assumption
theorem term_done {fn : Func} {sl : Nat} (hr : fn.results = #[.cell sl 44]) {w w1 : World} {tmps : Array Value} {b : Nat} {x0 x1 x2 x3 v : Value}
    (ho : Own4 w1 b) (hB : w.heap.size ≤ b) (hb : Below w.heap.size w w1)
    (h2 : tmps.getD sl undef = .pointer (some ⟨b, 0, none⟩)) (hv : v = .agg #[x0, x1, x2, x3]) :
    bodyPost Tryz.prog fn (fun e w' => e = .returned v ∧ Below w.heap.size w w') .ret { tmps := tmps, defers := [] }
      ((((w1.setCell ⟨b, 0, none⟩ x0).setCell ⟨b, 1, none⟩ x1).setCell ⟨b, 2, none⟩ x2).setCell ⟨b, 3, none⟩ x3) := by
  obtain ⟨⟨y0, y1, y2, y3, c0, c1, c2, c3⟩, f0, f1, f2, f3, hl⟩ := ho
  refine bodyPost_ret (term_results hr (x0 := x0) (x1 := x1) (x2 := x2) (x3 := x3) h2 ?_ ?_ ?_ ?_) rfl ⟨by rw [hv], ?_⟩
  · go_simp
  · go_simp
  · go_simp
  · go_simp
  · exact ((((hb.setCell (p := ⟨b, 0, none⟩) hB _).setCell (p := ⟨b, 1, none⟩) hB _).setCell (p := ⟨b, 2, none⟩) hB _).setCell (p := ⟨b, 3, none⟩) hB _)

theorem atP_wf {l : List P} (h : ∀ t ∈ l, t.wf) (i : Nat) : (atP l i).wf := by
  by_cases hi : i < l.length
  · rw [atP_eq hi]; exact h _ (List.getElem_mem hi)
  · unfold atP
    rw [List.getD, List.getElem?_eq_none (by omega)]
    exact ⟨by decide, T0.ok⟩
theorem res_wf {s : List P} (hs : ∀ p ∈ s, p.wf) {t : T} (ht : t.wf) : (res s t).wf := by
  unfold res
  cases hf : s.find? (fun p => decide (p.v = t.v)) with
  | none => exact ht
  | some p => exact (hs p (List.mem_of_find?_eq_some hf)).term
theorem bind_wf {s : List P} (hs : ∀ p ∈ s, p.wf) {n : ByteArray} {t : T} (hn : n.size ≤ maxLen) (ht : t.wf) : ∀ p ∈ bindP s n t, p.wf := by
  intro p hp
  unfold bindP at hp
  rw [List.mem_append] at hp
  rcases hp with hp | hp
  · obtain ⟨q, hq, rfl⟩ := List.mem_map.1 hp
    have := hs q hq
    split
    · exact ⟨this.text, ht⟩
    · exact this
  · obtain rfl := List.mem_singleton.1 hp
    exact ⟨hn, ht⟩
/-- as long as no pair is found, what stands for the term is what stands for it under the rest -/
theorem res_drop {s : List P} {t : T} {k : Nat} (h : k < s.length) : res (s.drop k) t = if (atP s k).v = t.v then (atP s k).t else res (s.drop (k + 1)) t := by
  rw [List.drop_eq_getElem_cons h, atP_eq h]
  unfold res
  rw [List.find?_cons]
  by_cases e : s[k].v = t.v
  · simp [e]
  · simp [e]
theorem eq_bytes (a b : ByteArray) : (a.toList == b.toList) = decide (a = b) := by
  by_cases h : a = b
  · subst h; simp
  · have : ¬ a.toList = b.toList := fun e => h (toList_inj e)
    rw [decide_eq_false h, beq_eq_false_iff_ne]
    exact this

end Go.Proofs.YtgfnijhhhgjabaaGreatDoor.EV
end
section
namespace Go.Proofs.YtgfnijhhhgjabaaGreatDoor.EV
open Go.RowKit
set_option linter.unusedVariables false

/-- a bind: a variable and its value -/
structure B where
  v : ByteArray
  a : V
deriving DecidableEq
def B0 : B := ⟨noS, V0⟩
def B.cells (b : B) : List Value := [.string b.v, .int .i8 b.a.k, .int .i64 b.a.n, .string b.a.s]
def B.val (b : B) : Value := .agg #[.string b.v, .int .i8 b.a.k, .int .i64 b.a.n, .string b.a.s]
structure B.wf (b : B) : Prop where
  text : b.v.size ≤ maxLen
  val : b.a.wf
def atB (l : List B) (i : Nat) : B := l.getD i B0
theorem atB_eq {l : List B} {i : Nat} (h : i < l.length) : atB l i = l[i] := by simp [atB, List.getD, List.getElem?_eq_getElem h]
structure Lb (w : World) (v : Value) (l : List B) : Prop where
  lies : Ls w v l.length (l.flatMap B.cells)
  wf : ∀ t ∈ l, t.wf
theorem Lb.below {w w' : World} {v : Value} {l : List B} (h : Lb w v l) (b : Below w.heap.size w w') : Lb w' v l := ⟨h.lies.below b, h.wf⟩
theorem Lb.form {w : World} {v : Value} {l : List B} (h : Lb w v l) : ∃ a c, v = .slice a l.length c ∧ l.length ≤ c ∧ c ≤ maxLen ∧ (0 < l.length → ∃ g off, a = some ⟨g, off, none⟩ ∧ g < w.heap.size ∧ ∀ i, i < l.length → TAt w g (off + i * 4) ⟨(atB l i).v, (atB l i).a⟩) := by
  obtain ⟨hn, a, c, hv, h1, h2, hc⟩ := h.lies
  refine ⟨a, c, hv, h1, h2, fun h0 => ?_⟩
  obtain ⟨g, off, ha, hg, hf⟩ := hc h0
  refine ⟨g, off, ha, hg, fun i hi => ⟨?_, ?_, ?_, ?_⟩⟩
  · have := hf.elem (k := 4) (fun _ => rfl) B0 hi (j := 0) (by omega) rfl; rw [← Nat.add_assoc] at this; exact this
  · have := hf.elem (k := 4) (fun _ => rfl) B0 hi (j := 1) (by omega) rfl; rw [← Nat.add_assoc] at this; exact this
  · have := hf.elem (k := 4) (fun _ => rfl) B0 hi (j := 2) (by omega) rfl; rw [← Nat.add_assoc] at this; exact this
  · have := hf.elem (k := 4) (fun _ => rfl) B0 hi (j := 3) (by omega) rfl; rw [← Nat.add_assoc] at this; exact this

/-- the first bind of a name -/
def seek (l : List B) (n : ByteArray) : Option V := (l.find? (fun b => decide (b.v = n))).map B.a
def valOf (t : T) (l : List B) : Option V := if t.v = noS then some t.a else (seek l t.v).filter okV
def mat : List B → List T → List V → Option (List B)
  | out, t :: ts, v :: vs =>
    if okV v then
      if t.v = blankS then mat out ts vs
      else match valOf t out with
        | none => mat (out ++ [⟨t.v, v⟩]) ts vs
        | some k => if k = v then mat out ts vs else none
    else none
  | out, _, _ => some out

theorem seek_append (l r : List B) (n : ByteArray) : seek (l ++ r) n = (seek l n).or (seek r n) := by
  unfold seek
  rw [List.find?_append]
  cases l.find? (fun b => decide (b.v = n)) <;> simp
theorem seek_mem {l : List B} {n : ByteArray} {a : V} (h : seek l n = some a) : ⟨n, a⟩ ∈ l := by
  unfold seek at h
  cases hf : l.find? (fun b => decide (b.v = n)) with
  | none => rw [hf] at h; cases h
  | some b =>
    rw [hf] at h
    have hm := List.mem_of_find?_eq_some hf
    have hp : b.v = n := by simpa using List.find?_some hf
    have ha : b.a = a := by simpa using h
    subst hp ha
    exact hm
theorem seek_none {l : List B} {n : ByteArray} : seek l n = none ↔ ∀ b ∈ l, b.v ≠ n := by
  unfold seek
  simp

/-- the first columns of the variables -/
def gath : List B → List T → List V → List B
  | out, t :: ts, v :: vs => if t.v = noS ∨ t.v = blankS ∨ (seek out t.v).isSome then gath out ts vs else gath (out ++ [⟨t.v, v⟩]) ts vs
  | out, _, _ => out
theorem gath_keeps : ∀ (ts : List T) (vs : List V) (out : List B), ∃ r, gath out ts vs = out ++ r
  | [], _, out => ⟨[], by simp [gath]⟩
  | _ :: _, [], out => ⟨[], by simp [gath]⟩
  | t :: ts, v :: vs, out => by
    unfold gath
    split
    · exact gath_keeps ts vs out
    · obtain ⟨r, hr⟩ := gath_keeps ts vs (out ++ [⟨t.v, v⟩])
      exact ⟨[⟨t.v, v⟩] ++ r, by rw [hr, List.append_assoc]⟩
/-- a column fits, the binds being those -/
def fitB (fin : List B) (t : T) (v : V) : Bool := okV v && (decide (t.v = blankS) || (if t.v = noS then decide (t.a = v) else decide (seek fin t.v = some v)))
def fitsB (fin : List B) : List T → List V → Bool
  | t :: ts, v :: vs => fitB fin t v && fitsB fin ts vs
  | _, _ => true
theorem blank_some : blankS ≠ noS := by decide
/-- what Match does column by column is: gather first, then look at all columns -/
theorem mat_gath : ∀ (ts : List T) (vs : List V) (out : List B), (∀ b ∈ out, okV b.a = true) → mat out ts vs = if fitsB (gath out ts vs) ts vs then some (gath out ts vs) else none
  | [], _, out, _ => by simp [mat, gath, fitsB]
  | _ :: _, [], out, _ => by simp [mat, gath, fitsB]
  | t :: ts, v :: vs, out, ho => by
    unfold mat
    by_cases hv : okV v = true
    · rw [if_pos hv]
      by_cases hb : t.v = blankS
      · rw [if_pos hb]
        have hg : gath out (t :: ts) (v :: vs) = gath out ts vs := by rw [gath, if_pos (.inr (.inl hb))]
        rw [hg, mat_gath ts vs out ho, fitsB]
        simp [fitB, hv, hb]
      · rw [if_neg hb]
        by_cases hn : t.v = noS
        · have hvl : valOf t out = some t.a := by unfold valOf; rw [if_pos hn]
          rw [hvl]
          have hg : gath out (t :: ts) (v :: vs) = gath out ts vs := by rw [gath, if_pos (.inl hn)]
          rw [hg, mat_gath ts vs out ho, fitsB]
          by_cases e : t.a = v
          · simp [fitB, hv, hn, e]
          · simp [fitB, hv, hn, e, Ne.symm blank_some]
        · cases hs : seek out t.v with
          | none =>
            have hvl : valOf t out = none := by unfold valOf; rw [if_neg hn, hs]; rfl
            rw [hvl]
            have hg : gath out (t :: ts) (v :: vs) = gath (out ++ [⟨t.v, v⟩]) ts vs := by rw [gath, if_neg (by simp [hn, hb, hs])]
            have ho' : ∀ b ∈ out ++ [⟨t.v, v⟩], okV b.a = true := by
              intro b hb'
              rcases List.mem_append.1 hb' with h | h
              · exact ho b h
              · rw [List.mem_singleton.1 h]; exact hv
            show mat (out ++ [⟨t.v, v⟩]) ts vs = _
            rw [hg, mat_gath ts vs _ ho', fitsB]
            obtain ⟨r, hr⟩ := gath_keeps ts vs (out ++ [⟨t.v, v⟩])
            have hk : seek (gath (out ++ [⟨t.v, v⟩]) ts vs) t.v = some v := by
              rw [hr, seek_append, seek_append, hs]
              simp [seek]
            simp [fitB, hv, hb, hn, hk]
          | some a =>
            have hoka : okV a = true := ho _ (seek_mem hs)
            have hvl : valOf t out = some a := by unfold valOf; rw [if_neg hn, hs]; simp [Option.filter, hoka]
            rw [hvl]
            have hg : gath out (t :: ts) (v :: vs) = gath out ts vs := by rw [gath, if_pos (by simp [hs])]
            rw [hg, mat_gath ts vs out ho, fitsB]
            obtain ⟨r, hr⟩ := gath_keeps ts vs out
            have hk : seek (gath out ts vs) t.v = some a := by rw [hr, seek_append, hs]; rfl
            by_cases e : a = v
            · simp [fitB, hv, hb, hn, hk, e]
            · simp [fitB, hv, hb, hn, hk, e]
    · rw [if_neg hv]
      have hf : fitB (gath out (t :: ts) (v :: vs)) t v = false := by simp [fitB, hv]
      rw [fitsB, hf]
      simp
end Go.Proofs.YtgfnijhhhgjabaaGreatDoor.EV
end
section
namespace Go.Proofs.YtgfnijhhhgjabaaGreatDoor.EV
open Go.RowKit Go.Maps
set_option linter.unusedVariables false
set_option linter.unusedSimpArgs false
attribute [local go_sem ↓] Go.wp_at_zero Go.wp_at_succ

theorem atB_wf {l : List B} (h : ∀ t ∈ l, t.wf) (i : Nat) : (atB l i).wf := by
  by_cases hi : i < l.length
  · rw [atB_eq hi]; exact h _ (List.getElem_mem hi)
  · unfold atB
    rw [List.getD, List.getElem?_eq_none (by omega)]
    exact ⟨by decide, V0.ok⟩
theorem chk_ten {k n : Int} {s : ByteArray} (h : ¬ chk k n s = 0) : chk k n s = 10 := by
  unfold chk at h ⊢
  split
  · rename_i hh; rw [if_pos hh] at h; exact absurd rfl h
  · rfl
/-- where the first bind of a name stands; -1: nowhere -/
def idx (l : List B) (n : ByteArray) : Int := match l.findIdx? (fun b => decide (b.v = n)) with | some i => (i : Int) | none => -1
theorem idx_here {l : List B} {n : ByteArray} {k : Nat} (h : k < l.length) (hb : ∀ j, j < k → (atB l j).v ≠ n) (e : (atB l k).v = n) : idx l n = (k : Int) := by
  have : l.findIdx? (fun b => decide (b.v = n)) = some k := by
    rw [List.findIdx?_eq_some_iff_getElem]
    refine ⟨h, by rw [atB_eq h] at e; simpa using e, fun j hj => ?_⟩
    have := hb j hj
    rw [atB_eq (by omega)] at this
    simpa using this
  unfold idx
  rw [this]
theorem idx_none {l : List B} {n : ByteArray} (hb : ∀ j, j < l.length → (atB l j).v ≠ n) : idx l n = -1 := by
  have : l.findIdx? (fun b => decide (b.v = n)) = none := by
    rw [List.findIdx?_eq_none_iff]
    intro b hm
    obtain ⟨i, hi, rfl⟩ := List.mem_iff_getElem.1 hm
    have := hb i hi
    rw [atB_eq hi] at this
    simpa using this
  unfold idx
  rw [this]
theorem seek_here {l : List B} {n : ByteArray} {k : Nat} (h : k < l.length) (hb : ∀ j, j < k → (atB l j).v ≠ n) (e : (atB l k).v = n) : seek l n = some (atB l k).a := by
  unfold seek
  have : l.find? (fun b => decide (b.v = n)) = some l[k] := by
    rw [List.find?_eq_some_iff_getElem]
    refine ⟨by rw [atB_eq h] at e; simpa using e, k, h, rfl, fun j hj => ?_⟩
    have := hb j hj
    rw [atB_eq (by omega)] at this
    simpa using this
  rw [this, atB_eq h]
  rfl
theorem seek_no {l : List B} {n : ByteArray} (hb : ∀ j, j < l.length → (atB l j).v ≠ n) : seek l n = none := by
  rw [seek_none]
  intro b hm
  obtain ⟨i, hi, rfl⟩ := List.mem_iff_getElem.1 hm
  have := hb i hi
  rwa [atB_eq hi] at this
theorem seek_idx (l : List B) (n : ByteArray) : (∃ k, k < l.length ∧ idx l n = (k : Int) ∧ seek l n = some (atB l k).a) ∨ (idx l n = -1 ∧ seek l n = none) := by
  by_cases h : ∃ k, k < l.length ∧ (atB l k).v = n
  · obtain ⟨k, ⟨hk, he⟩, hmin⟩ : ∃ k, (k < l.length ∧ (atB l k).v = n) ∧ ∀ j, j < k → ¬ (j < l.length ∧ (atB l j).v = n) := by
      obtain ⟨k0, hk0⟩ := h
      induction k0 using Nat.strongRecOn with
      | _ k ih =>
        by_cases hm : ∃ j, j < k ∧ (j < l.length ∧ (atB l j).v = n)
        · obtain ⟨j, hj, hp⟩ := hm
          exact ih j hj hp
        · exact ⟨k, hk0, fun j hj hp => hm ⟨j, hj, hp⟩⟩
    have hb : ∀ j, j < k → (atB l j).v ≠ n := fun j hj e => hmin j hj ⟨by omega, e⟩
    exact .inl ⟨k, hk, idx_here hk hb he, seek_here hk hb he⟩
  · have hb : ∀ j, j < l.length → (atB l j).v ≠ n := fun j hj e => h ⟨j, hj, e⟩
    exact .inr ⟨idx_none hb, seek_no hb⟩

theorem same_any (v : ByteArray) (k n : Int) (s : ByteArray) (p : Nat) (t : T) (w : World) (hp : TAt w p 0 t) : Calls Tryz.prog 99 #[.agg #[.string v, .int .i8 k, .int .i64 n, .string s], .pointer (some ⟨p, 0, none⟩)] w fun e w' => e = .returned (.bool (decide (v = t.v))) ∧ Below w.heap.size w w' := by
  have hE := eq_bytes v t.v
  have hlt := World.block_lt_of_cell? _ _ hp.c0
  have BA := (Below.refl w.heap.size w).alloc (Nat.le_refl _) (.cells #[.string v, .int .i8 k, .int .i64 n, .string s] 66)
  obtain ⟨t0, t1, t2, t3⟩ := hp.below BA hlt
  clear hp t1 t2 t3
  go_enter Tryz.func99, Tryz.ntmps99
  go_wp2
  go_ret
  first
    | exact ⟨rfl, BA⟩
    | exact ⟨ret_bool hE, BA⟩

set_option maxHeartbeats 800000 in
theorem indexFunc_any (v : Value) (l : List B) (p : Nat) (t : T) (w : World) (hl : Lb w v l) (hp : TAt w p 0 t) : Calls Tryz.prog 98 #[v, .func (.func 99) #[] #[.pointer (some ⟨p, 0, none⟩)]] w fun e w' => e = .returned (.int .i64 (idx l t.v)) ∧ Below w.heap.size w w' := by
  obtain ⟨a, c, rfl, hc1, hc2, hat⟩ := hl.form
  have hmax : l.length ≤ maxLen := Nat.le_trans hc1 hc2
  unfold maxLen at hmax
  have HAT : Hid _ := hat
  have HP : Hid _ := hp
  have hplt : p < w.heap.size := World.block_lt_of_cell? _ _ hp.c0
  clear hat hp hl
  go_enter Tryz.func98, Tryz.ntmps98
  go_wp2
  go_loopw [8] (fun i wr => ∃ k : Nat, k ≤ l.length ∧ i = .int .i64 k ∧ Below w.heap.size w wr ∧ Hid (∀ j, j < k → (atB l j).v ≠ t.v)) (fun i _ => l.length - (intOf i).toNat)
  case atStart => exact ⟨0, Nat.zero_le _, rfl, Below.refl _ _, fun j hj => absurd hj (by omega)⟩
  case round =>
    obtain ⟨k, hk, rfl, bel, HS⟩ := hrel
    by_cases hlt : k < l.length
    · have hlt' : (k : Int) < (l.length : Int) := by omega
      obtain ⟨g, off, rfl, hg, hT⟩ := HAT.out (by omega)
      obtain ⟨x0, x1, x2, x3⟩ := (hT k hlt).below bel hg
      simp only at x0 x1 x2 x3
      have HY : Hid ((atB l k).v = t.v → idx l t.v = (k : Int)) := fun e => idx_here hlt HS.out e
      have HN : Hid (¬ (atB l k).v = t.v → ∀ j, j < k + 1 → (atB l j).v ≠ t.v) := fun e j hj => by
        by_cases h : j = k
        · rw [h]; exact e
        · exact HS.out j (by omega)
      clear HAT hT HS
      generalize atB l k = b at *
      go_wp2_with fail
      refine (same_any b.v b.a.k b.a.n b.a.s p t _ (HP.out.below bel hplt)).mono ?_
      rintro e w1 ⟨rfl, b1⟩
      have b1' := bel.trans (b1.mono bel.size)
      by_cases e : b.v = t.v
      · rw [decide_eq_true e]
        have HV : Hid _ := HY.out e
        clear e
        go_wp2
        go_ret
        exact ⟨ret_int HV.out.symm, b1'⟩
      · rw [decide_eq_false e]
        have HV : Hid _ := HN.out e
        clear e
        go_wp2
        go_roundw
        case rel => exact ⟨k + 1, by omega, by go_num, b1', HV.out⟩
        case measure => simp [intOf]; omega
    · obtain rfl : k = l.length := by omega
      have HV : Hid _ := idx_none HS.out
      go_wp2
      go_ret
      exact ⟨ret_int HV.out.symm, bel⟩
theorem val_results {fn : Func} {sl so : Nat} (hr : fn.results = #[.cell sl 38, .tmp so]) {W : World} {tmps : Array Value} {b : Nat} {x0 x1 x2 ok : Value} (h2 : tmps.getD sl undef = .pointer (some ⟨b, 0, none⟩)) (h3 : tmps.getD so undef = ok)
    (c0 : W.cell? ⟨b, 0, none⟩ = some x0) (c1 : W.cell? ⟨b, 1, none⟩ = some x1) (c2 : W.cell? ⟨b, 2, none⟩ = some x2) :
    (results fn tmps).run Tryz.prog W = .ok (.tuple #[.agg #[x0, x1, x2], ok]) W := by
  have hl : (loadVar 38 ⟨b, 0, none⟩).run Tryz.prog W = .ok (.agg #[x0, x1, x2]) W := by
    refine run_loadVar_mid W b 0 38 [x0, x1, x2] _ (fun j v hj => ?_) Tryz.underlying38 rfl (by kernel_rfl)
    match j, hj with
    | 0, hj => simp at hj; subst hj; exact c0
    | 1, hj => simp at hj; subst hj; exact c1
    | 2, hj => simp at hj; subst hj; exact c2
  have e0 : results fn tmps = (do
      let x ← asAddr (tmps.getD sl undef)
      let x ← loadVar 38 x
      pure (.tuple #[x, tmps.getD so undef])) := by
    simp [results, hr]
  rw [e0, h2, h3]
  simp [asAddr, hl, Result.andThen]
/-- the cells of a value in block b, that may be written -/
def Own3 (w : World) (b : Nat) : Prop := (∃ y0 y1 y2, w.cell? ⟨b, 0, none⟩ = some y0 ∧ w.cell? ⟨b, 1, none⟩ = some y1 ∧ w.cell? ⟨b, 2, none⟩ = some y2) ∧
  w.frozen? ⟨b, 0, none⟩ = false ∧ w.frozen? ⟨b, 1, none⟩ = false ∧ w.frozen? ⟨b, 2, none⟩ = false ∧ b < w.heap.size
theorem own3 {w w1 : World} {a b c : Value} {T : TypeId} (hb : Below (w.alloc (.cells #[a, b, c] T)).heap.size (w.alloc (.cells #[a, b, c] T)) w1) : Own3 w1 w.heap.size :=
  ⟨⟨_, _, _, kept_cell hb 0 _ rfl, kept_cell hb 1 _ rfl, kept_cell hb 2 _ rfl⟩, kept_frozen hb 0, kept_frozen hb 1, kept_frozen hb 2, kept_lt hb⟩
theorem Own3.below {w w1 : World} {b : Nat} (h : Own3 w b) (hb : Below w.heap.size w w1) : Own3 w1 b := by
  obtain ⟨⟨y0, y1, y2, c0, c1, c2⟩, f0, f1, f2, hl⟩ := h
  refine ⟨⟨y0, y1, y2, ?_, ?_, ?_⟩, ?_, ?_, ?_, Nat.lt_of_lt_of_le hl hb.size⟩
  all_goals first | rw [hb.cell (by exact hl)]; assumption | rw [hb.frozen (by exact hl)]; assumption
theorem val_done {fn : Func} {sl so : Nat} (hr : fn.results = #[.cell sl 38, .tmp so]) {w w1 : World} {tmps : Array Value} {b : Nat} {x0 x1 x2 ok v : Value}
    (ho : Own3 w1 b) (hB : w.heap.size ≤ b) (hb : Below w.heap.size w w1)
    (h2 : tmps.getD sl undef = .pointer (some ⟨b, 0, none⟩)) (h3 : tmps.getD so undef = ok) (hv : v = .tuple #[.agg #[x0, x1, x2], ok]) :
    bodyPost Tryz.prog fn (fun e w' => e = .returned v ∧ Below w.heap.size w w') .ret { tmps := tmps, defers := [] }
      (((w1.setCell ⟨b, 0, none⟩ x0).setCell ⟨b, 1, none⟩ x1).setCell ⟨b, 2, none⟩ x2) := by
  obtain ⟨⟨y0, y1, y2, c0, c1, c2⟩, f0, f1, f2, hl⟩ := ho
  refine bodyPost_ret (val_results hr (x0 := x0) (x1 := x1) (x2 := x2) h2 h3 ?_ ?_ ?_) rfl ⟨by rw [hv], ?_⟩
  · go_simp
  · go_simp
  · go_simp
  · exact (((hb.setCell (p := ⟨b, 0, none⟩) hB _).setCell (p := ⟨b, 1, none⟩) hB _).setCell (p := ⟨b, 2, none⟩) hB _)
def optV (o : Option V) : Value := match o with | some a => .tuple #[.agg #[.int .i8 a.k, .int .i64 a.n, .string a.s], .bool true] | none => .tuple #[.agg #[.int .i8 0, .int .i64 0, .string ⟨#[]⟩], .bool false]
set_option maxHeartbeats 800000 in
theorem valueOf_any (t : T) (v : Value) (l : List B) (w : World) (ht : t.wf) (hl : Lb w v l) : Calls Tryz.prog 76 #[.agg #[.string t.v, .int .i8 t.a.k, .int .i64 t.a.n, .string t.a.s], v] w fun e w' => e = .returned (optV (valOf t l)) ∧ Below w.heap.size w w' := by
  obtain ⟨a, c, rfl, hc1, hc2, hat⟩ := hl.form
  have hmax : l.length ≤ maxLen := Nat.le_trans hc1 hc2
  unfold maxLen at hmax
  have HAT : Hid _ := hat
  have HWF : Hid (∀ b ∈ l, b.wf) := hl.wf
  have HL : Hid _ := hl
  clear hat hl
  obtain ⟨r, HR⟩ : ∃ r, Hid (optV (valOf t l) = r) := ⟨_, rfl⟩
  rw [HR.out]
  have b0 := ((Below.refl w.heap.size w).alloc (Nat.le_refl _) (.cells #[.string t.v, .int .i8 t.a.k, .int .i64 t.a.n, .string t.a.s] 44)).alloc (by simp) (.cells #[.int .i8 0, .int .i64 0, .string ⟨#[]⟩] 38)
  have HO0 : Hid (Own3 ((w.alloc (.cells #[.string t.v, .int .i8 t.a.k, .int .i64 t.a.n, .string t.a.s] 44)).alloc (.cells #[.int .i8 0, .int .i64 0, .string ⟨#[]⟩] 38)) (w.heap.size + 1)) := by
    have := own3 (Below.refl _ ((w.alloc (.cells #[.string t.v, .int .i8 t.a.k, .int .i64 t.a.n, .string t.a.s] 44)).alloc (.cells #[.int .i8 0, .int .i64 0, .string ⟨#[]⟩] 38)))
    show Own3 _ _
    simpa using this
  have HT0 : Hid (TAt ((w.alloc (.cells #[.string t.v, .int .i8 t.a.k, .int .i64 t.a.n, .string t.a.s] 44)).alloc (.cells #[.int .i8 0, .int .i64 0, .string ⟨#[]⟩] 38)) w.heap.size 0 t) := by
    refine ⟨?_, ?_, ?_, ?_⟩ <;> go_simp
  go_enter Tryz.func76, Tryz.ntmps76
  go_upto_region 1 with fail
  generalize (w.alloc (.cells #[.string t.v, .int .i8 t.a.k, .int .i64 t.a.n, .string t.a.s] 44)).alloc (.cells #[.int .i8 0, .int .i64 0, .string ⟨#[]⟩] 38) = W at b0 HO0 HT0 ⊢
  have hzW : w.heap.size + 1 < W.heap.size := HO0.out.2.2.2.2
  by_cases e0 : t.v = noS
  · have he : t.v.toList.isEmpty = true := by rw [e0, ByteArray.toList_eq]; rfl
    have HV : Hid (r = .tuple #[.agg #[.int .i8 t.a.k, .int .i64 t.a.n, .string t.a.s], .bool true]) := by
      show r = _
      rw [← HR.out]
      unfold valOf
      rw [if_pos e0]
      rfl
    obtain ⟨t0, t1, t2, t3⟩ := HT0.out
    simp only [Nat.zero_add] at t1 t2 t3
    obtain ⟨⟨y0, y1, y2, o0, o1, o2⟩, f0, f1, f2, _⟩ := HO0.out
    clear e0
    go_wp2
    refine val_done Tryz.results76 (b := w.heap.size + 1) (ok := .bool true) HO0.out (by omega) b0 ?_ ?_ ?_
    · rfl
    · rfl
    · exact HV.out
  · have he := some_iff t.v e0
    have hI := seek_idx l t.v
    have HV0 : Hid (valOf t l = (seek l t.v).filter okV) := by show _ = _; unfold valOf; rw [if_neg e0]
    obtain ⟨t0, t1, t2, t3⟩ := HT0.out
    clear t1 t2 t3 e0
    go_wp2_with fail
    refine (indexFunc_any _ l w.heap.size t W (HL.out.below b0) HT0.out).mono ?_
    rintro e w1 ⟨rfl, b1⟩
    have b1' := b0.trans (b1.mono b0.size)
    have HO1 : Hid (Own3 w1 (w.heap.size + 1)) := HO0.out.below b1
    obtain ⟨⟨y0, y1, y2, o0, o1, o2⟩, f0, f1, f2, hz1⟩ := HO1.out
    clear t0 b1
    rcases hI with ⟨k, hk, hidx, hsk⟩ | ⟨hidx, hsk⟩
    · rw [hidx]
      have hk' : (k : Int) < (l.length : Int) := by omega
      have hk0 : ¬ (k : Int) < 0 := by omega
      have hk1 : (0 : Int) ≤ (k : Int) := by omega
      obtain ⟨g, off, rfl, hg, hT⟩ := HAT.out (by omega)
      obtain ⟨x0, x1, x2, x3⟩ := (hT k hk).below b1' hg
      simp only at x0 x1 x2 x3
      have hbw := atB_wf HWF.out k
      clear HAT hT hidx x0
      generalize atB l k = b at *
      have HS : Hid _ := hsk
      clear hsk
      go_wp2_with fail
      refine (vcheck_any b.a.k b.a.n b.a.s _ hbw.val.text).mono ?_
      rintro e w2 ⟨rfl, b2⟩
      have b2' := b1'.trans (b2.mono b1'.size)
      have HO2 : Hid (Own3 w2 (w.heap.size + 1)) := Own3.below HO1.out b2
      have hgl : g < w1.heap.size := World.block_lt_of_cell? _ _ x1
      have z1 : w2.cell? ⟨g, off + k * 4 + 1, none⟩ = some (.int .i8 b.a.k) := by rw [b2.cell (p := ⟨g, _, none⟩) hgl]; exact x1
      have z2 : w2.cell? ⟨g, off + k * 4 + 2, none⟩ = some (.int .i64 b.a.n) := by rw [b2.cell (p := ⟨g, _, none⟩) hgl]; exact x2
      have z3 : w2.cell? ⟨g, off + k * 4 + 3, none⟩ = some (.string b.a.s) := by rw [b2.cell (p := ⟨g, _, none⟩) hgl]; exact x3
      clear x1 x2 x3 o0 o1 o2 f0 f1 f2 b2 hgl
      obtain ⟨⟨y0, y1, y2, o0, o1, o2⟩, f0, f1, f2, _⟩ := HO2.out
      by_cases hc : chk b.a.k b.a.n b.a.s = 0
      · rw [hc]
        have HV : Hid (r = .tuple #[.agg #[.int .i8 b.a.k, .int .i64 b.a.n, .string b.a.s], .bool true]) := by
          show r = _
          rw [← HR.out, HV0.out, HS.out]
          have : okV b.a = true := by unfold okV chkV; rw [hc]; rfl
          simp [Option.filter, this, optV]
        clear hc
        go_wp2
        refine val_done Tryz.results76 (b := w.heap.size + 1) (ok := .bool true) HO2.out (by omega) b2' ?_ ?_ ?_
        · rfl
        · rfl
        · exact HV.out
      · have HV : Hid (r = .tuple #[.agg #[.int .i8 0, .int .i64 0, .string ⟨#[]⟩], .bool false]) := by
          show r = _
          rw [← HR.out, HV0.out, HS.out]
          have : okV b.a = false := by unfold okV chkV; simpa using hc
          simp [Option.filter, this, optV]
        rw [chk_ten hc]
        clear hc
        go_wp2
        refine val_done Tryz.results76 (b := w.heap.size + 1) (ok := .bool false) HO2.out (by omega) b2' ?_ ?_ ?_
        · rfl
        · rfl
        · exact HV.out
    · rw [hidx]
      have HV : Hid (r = .tuple #[.agg #[.int .i8 0, .int .i64 0, .string ⟨#[]⟩], .bool false]) := by
        show r = _
        rw [← HR.out, HV0.out, hsk]
        rfl
      clear hidx hsk
      go_wp2
      refine val_done Tryz.results76 (b := w.heap.size + 1) (ok := .bool false) HO1.out (by omega) b1' ?_ ?_ ?_
      · rfl
      · rfl
      · exact HV.out
end Go.Proofs.YtgfnijhhhgjabaaGreatDoor.EV
end
section
namespace Go.Proofs.YtgfnijhhhgjabaaGreatDoor.EV
open Go.RowKit Go.Maps
set_option linter.unusedVariables false
set_option linter.unusedSimpArgs false
attribute [local go_sem ↓] Go.wp_at_zero Go.wp_at_succ

theorem below_drewN {B : Nat} {a w : World} (h : Below B a w) (n : Nat) : Below B a (w.drewN n) := ⟨h.os, h.tape, h.output, h.size, h.block⟩
/-- what a term is under binds (the zero value, if it is a name that they don't have) -/
def bndV (l : List B) (t : T) : V := if t.v = noS then t.a else (seek l t.v).getD V0
def bndOk (l : List B) (t : T) : Bool := if t.v = noS then true else ((seek l t.v).map okV).getD false
theorem bnd_done {fn : Func} {sl so : Nat} (hr : fn.results = #[.cell sl 38, .tmp so]) {w w1 : World} {tmps : Array Value} {b : Nat} {x0 x1 x2 : Value} (ok : Bool) {r : V} {okR : Bool} (he : ok = okR)
    (ho : Own3 w1 b) (hB : w.heap.size ≤ b) (hb : Below w.heap.size w w1)
    (h2 : tmps.getD sl undef = .pointer (some ⟨b, 0, none⟩)) (h3 : tmps.getD so undef = .bool ok) (hx : Value.agg #[x0, x1, x2] = .agg #[.int .i8 r.k, .int .i64 r.n, .string r.s]) :
    bodyPost Tryz.prog fn (fun e w' => e = .returned (.tuple #[.agg #[.int .i8 r.k, .int .i64 r.n, .string r.s], .bool okR]) ∧ Below w.heap.size w w') .ret { tmps := tmps, defers := [] }
      (((w1.setCell ⟨b, 0, none⟩ x0).setCell ⟨b, 1, none⟩ x1).setCell ⟨b, 2, none⟩ x2) := by
  obtain ⟨⟨y0, y1, y2, c0, c1, c2⟩, f0, f1, f2, hl⟩ := ho
  refine bodyPost_ret (val_results hr (x0 := x0) (x1 := x1) (x2 := x2) h2 h3 ?_ ?_ ?_) rfl ⟨by rw [hx, he], ?_⟩
  · go_simp
  · go_simp
  · go_simp
  · exact (((hb.setCell (p := ⟨b, 0, none⟩) hB _).setCell (p := ⟨b, 1, none⟩) hB _).setCell (p := ⟨b, 2, none⟩) hB _)
set_option maxHeartbeats 1600000 in
theorem bound_full (t : T) (v : Value) (l : List B) (w : World) (ht : t.wf) (hl : Lb w v l) : Calls Tryz.prog 28 #[v, .agg #[.string t.v, .int .i8 t.a.k, .int .i64 t.a.n, .string t.a.s]] w fun e w' => e = .returned (.tuple #[.agg #[.int .i8 (bndV l t).k, .int .i64 (bndV l t).n, .string (bndV l t).s], .bool (bndOk l t)]) ∧ Below w.heap.size w w' := by
  obtain ⟨a, c, rfl, hc1, hc2, hat⟩ := hl.form
  have hmax : l.length ≤ maxLen := Nat.le_trans hc1 hc2
  unfold maxLen at hmax
  have HAT : Hid _ := hat
  have HWF : Hid (∀ b ∈ l, b.wf) := hl.wf
  clear hat hl
  obtain ⟨r, HR⟩ : ∃ r, Hid (bndV l t = r) := ⟨_, rfl⟩
  rw [HR.out]
  obtain ⟨okR, HOK⟩ : ∃ q, Hid (bndOk l t = q) := ⟨_, rfl⟩
  rw [HOK.out]
  have b0 := ((Below.refl w.heap.size w).alloc (Nat.le_refl _) (.cells #[.string t.v, .int .i8 t.a.k, .int .i64 t.a.n, .string t.a.s] 44)).alloc (by simp) (.cells #[.int .i8 0, .int .i64 0, .string ⟨#[]⟩] 38)
  have HO0 : Hid (Own3 ((w.alloc (.cells #[.string t.v, .int .i8 t.a.k, .int .i64 t.a.n, .string t.a.s] 44)).alloc (.cells #[.int .i8 0, .int .i64 0, .string ⟨#[]⟩] 38)) (w.heap.size + 1)) := by
    have := own3 (Below.refl _ ((w.alloc (.cells #[.string t.v, .int .i8 t.a.k, .int .i64 t.a.n, .string t.a.s] 44)).alloc (.cells #[.int .i8 0, .int .i64 0, .string ⟨#[]⟩] 38)))
    show Own3 _ _
    simpa using this
  have HT0 : Hid (TAt ((w.alloc (.cells #[.string t.v, .int .i8 t.a.k, .int .i64 t.a.n, .string t.a.s] 44)).alloc (.cells #[.int .i8 0, .int .i64 0, .string ⟨#[]⟩] 38)) w.heap.size 0 t) := by
    refine ⟨?_, ?_, ?_, ?_⟩ <;> go_simp
  go_enter Tryz.func28, Tryz.ntmps28
  go_upto_region 1 with fail
  generalize (w.alloc (.cells #[.string t.v, .int .i8 t.a.k, .int .i64 t.a.n, .string t.a.s] 44)).alloc (.cells #[.int .i8 0, .int .i64 0, .string ⟨#[]⟩] 38) = W at b0 HO0 HT0 ⊢
  have hzW : w.heap.size + 1 < W.heap.size := HO0.out.2.2.2.2
  by_cases e0 : t.v = noS
  · have he : t.v.toList.isEmpty = true := by rw [e0, ByteArray.toList_eq]; rfl
    have HV : Hid (t.a = r) := by
      show _ = r
      rw [← HR.out]
      unfold bndV
      rw [if_pos e0]
    have HO1k : Hid (true = okR) := by
      show _ = okR
      rw [← HOK.out]
      unfold bndOk
      rw [if_pos e0]
    obtain ⟨t0, t1, t2, t3⟩ := HT0.out
    simp only [Nat.zero_add] at t1 t2 t3
    obtain ⟨⟨y0, y1, y2, o0, o1, o2⟩, f0, f1, f2, _⟩ := HO0.out
    clear e0
    go_wp2
    refine bnd_done Tryz.results28 (b := w.heap.size + 1) true HO1k.out HO0.out (by omega) b0 ?_ ?_ ?_
    · rfl
    · rfl
    · rw [← HV.out]
  · have he := some_iff t.v e0
    have HV0 : Hid (bndV l t = (seek l t.v).getD V0) := by show _ = _; unfold bndV; rw [if_neg e0]
    have HK0 : Hid (okR = ((seek l t.v).map okV).getD false) := by show _ = _; rw [← HOK.out]; unfold bndOk; rw [if_neg e0]
    have t0 := HT0.out.c0
    have HT0' : Hid (∀ u, Below W.heap.size W u → u.cell? ⟨w.heap.size, 0, none⟩ = some (.string t.v)) := fun u hu => by rw [hu.cell (p := ⟨w.heap.size, 0, none⟩) (by show w.heap.size < _; omega)]; exact HT0.out.c0
    clear e0 HT0
    go_wp2
    clear t0
    go_loopw [6] (fun i wr => ∃ k : Nat, k ≤ l.length ∧ i = .int .i64 k ∧ Below W.heap.size W wr ∧ Hid (∀ j, j < k → (atB l j).v ≠ t.v)) (fun i _ => l.length - (intOf i).toNat)
    case atStart => exact ⟨0, Nat.zero_le _, rfl, Below.refl _ _, fun j hj => absurd hj (by omega)⟩
    case round =>
      obtain ⟨k, hk, rfl, bel, HB⟩ := hrel
      have BWR : Hid (Below w.heap.size w wr) := b0.trans (bel.mono b0.size)
      by_cases hlt : k < l.length
      · have hlt' : (k : Int) < (l.length : Int) := by omega
        have hge : (0 : Int) ≤ (k : Int) := by omega
        obtain ⟨g, off, rfl, hg, hT⟩ := HAT.out (by omega)
        have HX : Hid (∀ u, Below w.heap.size w u → TAt u g (off + k * 4) ⟨(atB l k).v, (atB l k).a⟩) := fun u hu => (hT k hlt).below hu hg
        have hbw := atB_wf HWF.out k
        have HBK : Hid (∀ x, atB l k = x → x.v = t.v → r = x.a ∧ okR = okV x.a) := by
          intro x hx hv
          refine ⟨?_, ?_⟩
          · rw [← HR.out, HV0.out, seek_here hlt HB.out (by rw [hx]; exact hv), hx]
            rfl
          · rw [HK0.out, seek_here hlt HB.out (by rw [hx]; exact hv), hx]
            rfl
        have HBN : Hid ((atB l k).v ≠ t.v → ∀ j, j < k + 1 → (atB l j).v ≠ t.v) := by
          intro hne j hj
          by_cases h : j < k
          · exact HB.out j h
          · obtain rfl : j = k := by omega
            exact hne
        have HBW : Hid _ := hbw
        clear hT HB hbw
        generalize atB l k = b at HX HBK HBN HBW
        have t0 := HT0'.out wr bel
        obtain ⟨x0, x1, x2, x3⟩ := HX.out wr BWR.out
        simp only at x0
        clear x1 x2 x3
        by_cases e : b.v = t.v
        · have hB : (b.v.toList == t.v.toList) = true := by rw [e]; simp
          have HRA : Hid (r = b.a) := (HBK.out b rfl e).1
          have HRK : Hid (okR = okV b.a) := (HBK.out b rfl e).2
          clear e HBK HBN
          go_wp2_with fail
          go_quiet (fail)
          have bel3 : Below W.heap.size W (wr.drewN nq) := below_drewN bel nq
          have bw3 : Below w.heap.size w (wr.drewN nq) := below_drewN BWR.out nq
          generalize wr.drewN nq = W3 at bel3 bw3 ⊢
          clear x0 t0 HT0' hB bel BWR
          have HB3 : Hid (∀ u, Below W3.heap.size W3 u → Below W.heap.size W u ∧ Below w.heap.size w u) := fun u hu => ⟨bel3.trans (hu.mono bel3.size), bw3.trans (hu.mono bw3.size)⟩
          obtain ⟨-, x1, x2, x3⟩ := HX.out W3.drew bw3.drew
          simp only at x1 x2 x3
          obtain ⟨⟨y0, y1, y2, o0, o1, o2⟩, f0, f1, f2, _⟩ := HO0.out.below bel3.drew
          clear bel3 bw3
          go_upto_region 7 with fail
          go_region_with (go_at_call 52; refine (rcheck_any b.a.k b.a.n b.a.s _ HBW.out.val.text).mono ?_; rintro e w2 ⟨rfl, b2⟩; obtain ⟨BB2, B2⟩ := HB3.out w2 ((Below.refl _ _).drew.trans b2); obtain ⟨-, z1, z2, z3⟩ := HX.out w2 B2; simp only at z1 z2 z3; have HO2 : Hid _ := HO0.out.below BB2; obtain ⟨⟨y0', y1', y2', o0', o1', o2'⟩, f0', f1', f2', _⟩ := HO2.out)
          all_goals
            clear x1 x2 x3 z1 z2 z3 o0 o1 o2 f0 f1 f2
            go_wp2
            refine bnd_done Tryz.results28 (b := w.heap.size + 1) (chk b.a.k b.a.n b.a.s == 0) (by rw [HRK.out]; rfl) HO2.out (by omega) B2 ?_ ?_ ?_
            · rfl
            · rfl
            · rw [HRA.out]
        · have hB : (b.v.toList == t.v.toList) = false := by
            rw [beq_eq_false_iff_ne]
            exact fun h => e (toList_inj h)
          have HN : Hid _ := HBN.out e
          clear e HBK HBN
          go_wp2_with fail
          go_quiet (fail)
          go_wp2
          go_roundw
          case rel => exact ⟨k + 1, by omega, by go_num, below_drewN bel _, HN⟩
          case measure => simp [intOf]; omega
      · obtain rfl : k = l.length := by omega
        have HV : Hid (r = V0) := by
          show r = V0
          rw [← HR.out, HV0.out, seek_no HB.out]
          rfl
        have HVK : Hid (false = okR) := by
          show _ = okR
          rw [HK0.out, seek_no HB.out]
          rfl
        have HO1 : Hid (Own3 wr (w.heap.size + 1)) := HO0.out.below bel
        obtain ⟨⟨y0, y1, y2, o0, o1, o2⟩, f0, f1, f2, _⟩ := HO1.out
        go_wp2
        refine bnd_done Tryz.results28 (b := w.heap.size + 1) false HVK.out HO1.out (by omega) BWR.out ?_ ?_ ?_
        · rfl
        · rfl
        · rw [HV.out]; rfl
end Go.Proofs.YtgfnijhhhgjabaaGreatDoor.EV
end
