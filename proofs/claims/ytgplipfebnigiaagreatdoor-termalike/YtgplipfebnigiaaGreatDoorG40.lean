import Derived.Test.YtgplipfebnigiaaGreatDoorG2
import Derived.Test.YtgplipfebnigiaaGreatDoorG4
import Derived.Lib.SmallJoins
section
namespace Go.Proofs.YtgplipfebnigiaaGreatDoor.LV
open Go.RowKit
set_option linter.unusedVariables false

/-- a bind: a variable and its value -/
structure B where
  v : ByteArray
  a : V
deriving DecidableEq
def B0 : B := ⟨noS, V0⟩
def B.cells (b : B) : List Value := [.string b.v, .int .i8 b.a.k, .int .i64 b.a.n, .string b.a.s]
def B.val (b : B) : Value := .agg #[.string b.v, .int .i8 b.a.k, .int .i64 b.a.n, .string b.a.s]
structure B.wf (b : B) : Prop where
  text : b.v.size ≤ maxLen
  val : b.a.wf
def atB (l : List B) (i : Nat) : B := l.getD i B0
theorem atB_eq {l : List B} {i : Nat} (h : i < l.length) : atB l i = l[i] := by simp [atB, List.getD, List.getElem?_eq_getElem h]
structure Lb (w : World) (v : Value) (l : List B) : Prop where
  lies : Ls w v l.length (l.flatMap B.cells)
  wf : ∀ t ∈ l, t.wf
theorem Lb.below {w w' : World} {v : Value} {l : List B} (h : Lb w v l) (b : Below w.heap.size w w') : Lb w' v l := ⟨h.lies.below b, h.wf⟩
theorem Lb.form {w : World} {v : Value} {l : List B} (h : Lb w v l) : ∃ a c, v = .slice a l.length c ∧ l.length ≤ c ∧ c ≤ maxLen ∧ (0 < l.length → ∃ g off, a = some ⟨g, off, none⟩ ∧ g < w.heap.size ∧ ∀ i, i < l.length → TAt w g (off + i * 4) ⟨(atB l i).v, (atB l i).a⟩) := by
  obtain ⟨hn, a, c, hv, h1, h2, hc⟩ := h.lies
  refine ⟨a, c, hv, h1, h2, fun h0 => ?_⟩
  obtain ⟨g, off, ha, hg, hf⟩ := hc h0
  refine ⟨g, off, ha, hg, fun i hi => ⟨?_, ?_, ?_, ?_⟩⟩
  · have := hf.elem (k := 4) (fun _ => rfl) B0 hi (j := 0) (by omega) rfl; rw [← Nat.add_assoc] at this; exact this
  · have := hf.elem (k := 4) (fun _ => rfl) B0 hi (j := 1) (by omega) rfl; rw [← Nat.add_assoc] at this; exact this
  · have := hf.elem (k := 4) (fun _ => rfl) B0 hi (j := 2) (by omega) rfl; rw [← Nat.add_assoc] at this; exact this
  · have := hf.elem (k := 4) (fun _ => rfl) B0 hi (j := 3) (by omega) rfl; rw [← Nat.add_assoc] at this; exact this

/-- the first bind of a name -/
def seek (l : List B) (n : ByteArray) : Option V := (l.find? (fun b => decide (b.v = n))).map B.a
def valOf (t : T) (l : List B) : Option V := if t.v = noS then some t.a else (seek l t.v).filter okV
def mat : List B → List T → List V → Option (List B)
  | out, t :: ts, v :: vs =>
    if okV v then
      if t.v = blankS then mat out ts vs
      else match valOf t out with
        | none => mat (out ++ [⟨t.v, v⟩]) ts vs
        | some k => if k = v then mat out ts vs else none
    else none
  | out, _, _ => some out

theorem seek_append (l r : List B) (n : ByteArray) : seek (l ++ r) n = (seek l n).or (seek r n) := by
  unfold seek
  rw [List.find?_append]
  cases l.find? (fun b => decide (b.v = n)) <;> simp
theorem seek_mem {l : List B} {n : ByteArray} {a : V} (h : seek l n = some a) : ⟨n, a⟩ ∈ l := by
  unfold seek at h
  cases hf : l.find? (fun b => decide (b.v = n)) with
  | none => rw [hf] at h; cases h
  | some b =>
    rw [hf] at h
    have hm := List.mem_of_find?_eq_some hf
    have hp : b.v = n := by simpa using List.find?_some hf
    have ha : b.a = a := by simpa using h
    subst hp ha
    exact hm
theorem seek_none {l : List B} {n : ByteArray} : seek l n = none ↔ ∀ b ∈ l, b.v ≠ n := by
  unfold seek
  simp

/-- the first columns of the variables -/
def gath : List B → List T → List V → List B
  | out, t :: ts, v :: vs => if t.v = noS ∨ t.v = blankS ∨ (seek out t.v).isSome then gath out ts vs else gath (out ++ [⟨t.v, v⟩]) ts vs
  | out, _, _ => out
theorem gath_keeps : ∀ (ts : List T) (vs : List V) (out : List B), ∃ r, gath out ts vs = out ++ r
  | [], _, out => ⟨[], by simp [gath]⟩
  | _ :: _, [], out => ⟨[], by simp [gath]⟩
  | t :: ts, v :: vs, out => by
    unfold gath
    split
    · exact gath_keeps ts vs out
    · obtain ⟨r, hr⟩ := gath_keeps ts vs (out ++ [⟨t.v, v⟩])
      exact ⟨[⟨t.v, v⟩] ++ r, by rw [hr, List.append_assoc]⟩
/-- a column fits, the binds being those -/
def fitB (fin : List B) (t : T) (v : V) : Bool := okV v && (decide (t.v = blankS) || (if t.v = noS then decide (t.a = v) else decide (seek fin t.v = some v)))
def fitsB (fin : List B) : List T → List V → Bool
  | t :: ts, v :: vs => fitB fin t v && fitsB fin ts vs
  | _, _ => true
theorem blank_some : blankS ≠ noS := by decide
/-- what Match does column by column is: gather first, then look at all columns -/
theorem mat_gath : ∀ (ts : List T) (vs : List V) (out : List B), (∀ b ∈ out, okV b.a = true) → mat out ts vs = if fitsB (gath out ts vs) ts vs then some (gath out ts vs) else none
  | [], _, out, _ => by simp [mat, gath, fitsB]
  | _ :: _, [], out, _ => by simp [mat, gath, fitsB]
  | t :: ts, v :: vs, out, ho => by
    unfold mat
    by_cases hv : okV v = true
    · rw [if_pos hv]
      by_cases hb : t.v = blankS
      · rw [if_pos hb]
        have hg : gath out (t :: ts) (v :: vs) = gath out ts vs := by rw [gath, if_pos (.inr (.inl hb))]
        rw [hg, mat_gath ts vs out ho, fitsB]
        simp [fitB, hv, hb]
      · rw [if_neg hb]
        by_cases hn : t.v = noS
        · have hvl : valOf t out = some t.a := by unfold valOf; rw [if_pos hn]
          rw [hvl]
          have hg : gath out (t :: ts) (v :: vs) = gath out ts vs := by rw [gath, if_pos (.inl hn)]
          rw [hg, mat_gath ts vs out ho, fitsB]
          by_cases e : t.a = v
          · simp [fitB, hv, hn, e]
          · simp [fitB, hv, hn, e, Ne.symm blank_some]
        · cases hs : seek out t.v with
          | none =>
            have hvl : valOf t out = none := by unfold valOf; rw [if_neg hn, hs]; rfl
            rw [hvl]
            have hg : gath out (t :: ts) (v :: vs) = gath (out ++ [⟨t.v, v⟩]) ts vs := by rw [gath, if_neg (by simp [hn, hb, hs])]
            have ho' : ∀ b ∈ out ++ [⟨t.v, v⟩], okV b.a = true := by
              intro b hb'
              rcases List.mem_append.1 hb' with h | h
              · exact ho b h
              · rw [List.mem_singleton.1 h]; exact hv
            show mat (out ++ [⟨t.v, v⟩]) ts vs = _
            rw [hg, mat_gath ts vs _ ho', fitsB]
            obtain ⟨r, hr⟩ := gath_keeps ts vs (out ++ [⟨t.v, v⟩])
            have hk : seek (gath (out ++ [⟨t.v, v⟩]) ts vs) t.v = some v := by
              rw [hr, seek_append, seek_append, hs]
              simp [seek]
            simp [fitB, hv, hb, hn, hk]
          | some a =>
            have hoka : okV a = true := ho _ (seek_mem hs)
            have hvl : valOf t out = some a := by unfold valOf; rw [if_neg hn, hs]; simp [Option.filter, hoka]
            rw [hvl]
            have hg : gath out (t :: ts) (v :: vs) = gath out ts vs := by rw [gath, if_pos (by simp [hs])]
            rw [hg, mat_gath ts vs out ho, fitsB]
            obtain ⟨r, hr⟩ := gath_keeps ts vs out
            have hk : seek (gath out ts vs) t.v = some a := by rw [hr, seek_append, hs]; rfl
            by_cases e : a = v
            · simp [fitB, hv, hb, hn, hk, e]
            · simp [fitB, hv, hb, hn, hk, e]
    · rw [if_neg hv]
      have hf : fitB (gath out (t :: ts) (v :: vs)) t v = false := by simp [fitB, hv]
      rw [fitsB, hf]
      simp
end Go.Proofs.YtgplipfebnigiaaGreatDoor.LV
end
section
namespace Go.Proofs.YtgplipfebnigiaaGreatDoor.LV
open Go.RowKit Go.Maps
set_option linter.unusedVariables false
set_option linter.unusedSimpArgs false
attribute [local go_sem ↓] Go.wp_at_zero Go.wp_at_succ

theorem atB_wf {l : List B} (h : ∀ t ∈ l, t.wf) (i : Nat) : (atB l i).wf := by
  by_cases hi : i < l.length
  · rw [atB_eq hi]; exact h _ (List.getElem_mem hi)
  · unfold atB
    rw [List.getD, List.getElem?_eq_none (by omega)]
    exact ⟨by decide, V0.ok⟩
theorem chk_ten {k n : Int} {s : ByteArray} (h : ¬ chk k n s = 0) : chk k n s = 10 := by
  unfold chk at h ⊢
  split
  · rename_i hh; rw [if_pos hh] at h; exact absurd rfl h
  · rfl
/-- where the first bind of a name stands; -1: nowhere -/
def idx (l : List B) (n : ByteArray) : Int := match l.findIdx? (fun b => decide (b.v = n)) with | some i => (i : Int) | none => -1
theorem idx_here {l : List B} {n : ByteArray} {k : Nat} (h : k < l.length) (hb : ∀ j, j < k → (atB l j).v ≠ n) (e : (atB l k).v = n) : idx l n = (k : Int) := by
  have : l.findIdx? (fun b => decide (b.v = n)) = some k := by
    rw [List.findIdx?_eq_some_iff_getElem]
    refine ⟨h, by rw [atB_eq h] at e; simpa using e, fun j hj => ?_⟩
    have := hb j hj
    rw [atB_eq (by omega)] at this
    simpa using this
  unfold idx
  rw [this]
theorem idx_none {l : List B} {n : ByteArray} (hb : ∀ j, j < l.length → (atB l j).v ≠ n) : idx l n = -1 := by
  have : l.findIdx? (fun b => decide (b.v = n)) = none := by
    rw [List.findIdx?_eq_none_iff]
    intro b hm
    obtain ⟨i, hi, rfl⟩ := List.mem_iff_getElem.1 hm
    have := hb i hi
    rw [atB_eq hi] at this
    simpa using this
  unfold idx
  rw [this]
theorem seek_here {l : List B} {n : ByteArray} {k : Nat} (h : k < l.length) (hb : ∀ j, j < k → (atB l j).v ≠ n) (e : (atB l k).v = n) : seek l n = some (atB l k).a := by
  unfold seek
  have : l.find? (fun b => decide (b.v = n)) = some l[k] := by
    rw [List.find?_eq_some_iff_getElem]
    refine ⟨by rw [atB_eq h] at e; simpa using e, k, h, rfl, fun j hj => ?_⟩
    have := hb j hj
    rw [atB_eq (by omega)] at this
    simpa using this
  rw [this, atB_eq h]
  rfl
theorem seek_no {l : List B} {n : ByteArray} (hb : ∀ j, j < l.length → (atB l j).v ≠ n) : seek l n = none := by
  rw [seek_none]
  intro b hm
  obtain ⟨i, hi, rfl⟩ := List.mem_iff_getElem.1 hm
  have := hb i hi
  rwa [atB_eq hi] at this
theorem seek_idx (l : List B) (n : ByteArray) : (∃ k, k < l.length ∧ idx l n = (k : Int) ∧ seek l n = some (atB l k).a) ∨ (idx l n = -1 ∧ seek l n = none) := by
  by_cases h : ∃ k, k < l.length ∧ (atB l k).v = n
  · obtain ⟨k, ⟨hk, he⟩, hmin⟩ : ∃ k, (k < l.length ∧ (atB l k).v = n) ∧ ∀ j, j < k → ¬ (j < l.length ∧ (atB l j).v = n) := by
      obtain ⟨k0, hk0⟩ := h
      induction k0 using Nat.strongRecOn with
      | _ k ih =>
        by_cases hm : ∃ j, j < k ∧ (j < l.length ∧ (atB l j).v = n)
        · obtain ⟨j, hj, hp⟩ := hm
          exact ih j hj hp
        · exact ⟨k, hk0, fun j hj hp => hm ⟨j, hj, hp⟩⟩
    have hb : ∀ j, j < k → (atB l j).v ≠ n := fun j hj e => hmin j hj ⟨by omega, e⟩
    exact .inl ⟨k, hk, idx_here hk hb he, seek_here hk hb he⟩
  · have hb : ∀ j, j < l.length → (atB l j).v ≠ n := fun j hj e => h ⟨j, hj, e⟩
    exact .inr ⟨idx_none hb, seek_no hb⟩

theorem same_any (v : ByteArray) (k n : Int) (s : ByteArray) (p : Nat) (t : T) (w : World) (hp : TAt w p 0 t) : Calls Tryz.prog 110 #[.agg #[.string v, .int .i8 k, .int .i64 n, .string s], .pointer (some ⟨p, 0, none⟩)] w fun e w' => e = .returned (.bool (decide (v = t.v))) ∧ Below w.heap.size w w' := by
  have hE := eq_bytes v t.v
  have hlt := World.block_lt_of_cell? _ _ hp.c0
  have BA := (Below.refl w.heap.size w).alloc (Nat.le_refl _) (.cells #[.string v, .int .i8 k, .int .i64 n, .string s] 110)
  obtain ⟨t0, t1, t2, t3⟩ := hp.below BA hlt
  clear hp t1 t2 t3
  go_enter Tryz.func110, Tryz.ntmps110
  go_wp2
  go_ret
  first
    | exact ⟨rfl, BA⟩
    | exact ⟨ret_bool hE, BA⟩

set_option maxHeartbeats 800000 in
theorem indexFunc_any (v : Value) (l : List B) (p : Nat) (t : T) (w : World) (hl : Lb w v l) (hp : TAt w p 0 t) : Calls Tryz.prog 109 #[v, .func (.func 110) #[] #[.pointer (some ⟨p, 0, none⟩)]] w fun e w' => e = .returned (.int .i64 (idx l t.v)) ∧ Below w.heap.size w w' := by
  obtain ⟨a, c, rfl, hc1, hc2, hat⟩ := hl.form
  have hmax : l.length ≤ maxLen := Nat.le_trans hc1 hc2
  unfold maxLen at hmax
  have HAT : Hid _ := hat
  have HP : Hid _ := hp
  have hplt : p < w.heap.size := World.block_lt_of_cell? _ _ hp.c0
  clear hat hp hl
  go_enter Tryz.func109, Tryz.ntmps109
  go_wp2
  go_loopw [8] (fun i wr => ∃ k : Nat, k ≤ l.length ∧ i = .int .i64 k ∧ Below w.heap.size w wr ∧ Hid (∀ j, j < k → (atB l j).v ≠ t.v)) (fun i _ => l.length - (intOf i).toNat)
  case atStart => exact ⟨0, Nat.zero_le _, rfl, Below.refl _ _, fun j hj => absurd hj (by omega)⟩
  case round =>
    obtain ⟨k, hk, rfl, bel, HS⟩ := hrel
    by_cases hlt : k < l.length
    · have hlt' : (k : Int) < (l.length : Int) := by omega
      obtain ⟨g, off, rfl, hg, hT⟩ := HAT.out (by omega)
      obtain ⟨x0, x1, x2, x3⟩ := (hT k hlt).below bel hg
      simp only at x0 x1 x2 x3
      have HY : Hid ((atB l k).v = t.v → idx l t.v = (k : Int)) := fun e => idx_here hlt HS.out e
      have HN : Hid (¬ (atB l k).v = t.v → ∀ j, j < k + 1 → (atB l j).v ≠ t.v) := fun e j hj => by
        by_cases h : j = k
        · rw [h]; exact e
        · exact HS.out j (by omega)
      clear HAT hT HS
      generalize atB l k = b at *
      go_wp2_with fail
      refine (same_any b.v b.a.k b.a.n b.a.s p t _ (HP.out.below bel hplt)).mono ?_
      rintro e w1 ⟨rfl, b1⟩
      have b1' := bel.trans (b1.mono bel.size)
      by_cases e : b.v = t.v
      · rw [decide_eq_true e]
        have HV : Hid _ := HY.out e
        clear e
        go_wp2
        go_ret
        exact ⟨ret_int HV.out.symm, b1'⟩
      · rw [decide_eq_false e]
        have HV : Hid _ := HN.out e
        clear e
        go_wp2
        go_roundw
        case rel => exact ⟨k + 1, by omega, by go_num, b1', HV.out⟩
        case measure => simp [intOf]; omega
    · obtain rfl : k = l.length := by omega
      have HV : Hid _ := idx_none HS.out
      go_wp2
      go_ret
      exact ⟨ret_int HV.out.symm, bel⟩
theorem val_results {fn : Func} {sl so : Nat} (hr : fn.results = #[.cell sl 44, .tmp so]) {W : World} {tmps : Array Value} {b : Nat} {x0 x1 x2 ok : Value} (h2 : tmps.getD sl undef = .pointer (some ⟨b, 0, none⟩)) (h3 : tmps.getD so undef = ok)
    (c0 : W.cell? ⟨b, 0, none⟩ = some x0) (c1 : W.cell? ⟨b, 1, none⟩ = some x1) (c2 : W.cell? ⟨b, 2, none⟩ = some x2) :
    (results fn tmps).run Tryz.prog W = .ok (.tuple #[.agg #[x0, x1, x2], ok]) W := by
  have hl : (loadVar 44 ⟨b, 0, none⟩).run Tryz.prog W = .ok (.agg #[x0, x1, x2]) W := by
    refine run_loadVar_mid W b 0 44 [x0, x1, x2] _ (fun j v hj => ?_) Tryz.underlying44 rfl (by kernel_rfl)
    match j, hj with
    | 0, hj => simp at hj; subst hj; exact c0
    | 1, hj => simp at hj; subst hj; exact c1
    | 2, hj => simp at hj; subst hj; exact c2
  have e0 : results fn tmps = (do
      let x ← asAddr (tmps.getD sl undef)
      let x ← loadVar 44 x
      pure (.tuple #[x, tmps.getD so undef])) := by
    simp [results, hr]
  rw [e0, h2, h3]
  simp [asAddr, hl, Result.andThen]
/-- the cells of a value in block b, that may be written -/
def Own3 (w : World) (b : Nat) : Prop := (∃ y0 y1 y2, w.cell? ⟨b, 0, none⟩ = some y0 ∧ w.cell? ⟨b, 1, none⟩ = some y1 ∧ w.cell? ⟨b, 2, none⟩ = some y2) ∧
  w.frozen? ⟨b, 0, none⟩ = false ∧ w.frozen? ⟨b, 1, none⟩ = false ∧ w.frozen? ⟨b, 2, none⟩ = false ∧ b < w.heap.size
theorem own3 {w w1 : World} {a b c : Value} {T : TypeId} (hb : Below (w.alloc (.cells #[a, b, c] T)).heap.size (w.alloc (.cells #[a, b, c] T)) w1) : Own3 w1 w.heap.size :=
  ⟨⟨_, _, _, kept_cell hb 0 _ rfl, kept_cell hb 1 _ rfl, kept_cell hb 2 _ rfl⟩, kept_frozen hb 0, kept_frozen hb 1, kept_frozen hb 2, kept_lt hb⟩
theorem Own3.below {w w1 : World} {b : Nat} (h : Own3 w b) (hb : Below w.heap.size w w1) : Own3 w1 b := by
  obtain ⟨⟨y0, y1, y2, c0, c1, c2⟩, f0, f1, f2, hl⟩ := h
  refine ⟨⟨y0, y1, y2, ?_, ?_, ?_⟩, ?_, ?_, ?_, Nat.lt_of_lt_of_le hl hb.size⟩
  all_goals first | rw [hb.cell (by exact hl)]; assumption | rw [hb.frozen (by exact hl)]; assumption
theorem val_done {fn : Func} {sl so : Nat} (hr : fn.results = #[.cell sl 44, .tmp so]) {w w1 : World} {tmps : Array Value} {b : Nat} {x0 x1 x2 ok v : Value}
    (ho : Own3 w1 b) (hB : w.heap.size ≤ b) (hb : Below w.heap.size w w1)
    (h2 : tmps.getD sl undef = .pointer (some ⟨b, 0, none⟩)) (h3 : tmps.getD so undef = ok) (hv : v = .tuple #[.agg #[x0, x1, x2], ok]) :
    bodyPost Tryz.prog fn (fun e w' => e = .returned v ∧ Below w.heap.size w w') .ret { tmps := tmps, defers := [] }
      (((w1.setCell ⟨b, 0, none⟩ x0).setCell ⟨b, 1, none⟩ x1).setCell ⟨b, 2, none⟩ x2) := by
  obtain ⟨⟨y0, y1, y2, c0, c1, c2⟩, f0, f1, f2, hl⟩ := ho
  refine bodyPost_ret (val_results hr (x0 := x0) (x1 := x1) (x2 := x2) h2 h3 ?_ ?_ ?_) rfl ⟨by rw [hv], ?_⟩
  · go_simp
  · go_simp
  · go_simp
  · exact (((hb.setCell (p := ⟨b, 0, none⟩) hB _).setCell (p := ⟨b, 1, none⟩) hB _).setCell (p := ⟨b, 2, none⟩) hB _)
def optV (o : Option V) : Value := match o with | some a => .tuple #[.agg #[.int .i8 a.k, .int .i64 a.n, .string a.s], .bool true] | none => .tuple #[.agg #[.int .i8 0, .int .i64 0, .string ⟨#[]⟩], .bool false]
set_option maxHeartbeats 800000 in
theorem valueOf_any (t : T) (v : Value) (l : List B) (w : World) (ht : t.wf) (hl : Lb w v l) : Calls Tryz.prog 72 #[.agg #[.string t.v, .int .i8 t.a.k, .int .i64 t.a.n, .string t.a.s], v] w fun e w' => e = .returned (optV (valOf t l)) ∧ Below w.heap.size w w' := by
  obtain ⟨a, c, rfl, hc1, hc2, hat⟩ := hl.form
  have hmax : l.length ≤ maxLen := Nat.le_trans hc1 hc2
  unfold maxLen at hmax
  have HAT : Hid _ := hat
  have HWF : Hid (∀ b ∈ l, b.wf) := hl.wf
  have HL : Hid _ := hl
  clear hat hl
  obtain ⟨r, HR⟩ : ∃ r, Hid (optV (valOf t l) = r) := ⟨_, rfl⟩
  rw [HR.out]
  have b0 := ((Below.refl w.heap.size w).alloc (Nat.le_refl _) (.cells #[.string t.v, .int .i8 t.a.k, .int .i64 t.a.n, .string t.a.s] 46)).alloc (by simp) (.cells #[.int .i8 0, .int .i64 0, .string ⟨#[]⟩] 44)
  have HO0 : Hid (Own3 ((w.alloc (.cells #[.string t.v, .int .i8 t.a.k, .int .i64 t.a.n, .string t.a.s] 46)).alloc (.cells #[.int .i8 0, .int .i64 0, .string ⟨#[]⟩] 44)) (w.heap.size + 1)) := by
    have := own3 (Below.refl _ ((w.alloc (.cells #[.string t.v, .int .i8 t.a.k, .int .i64 t.a.n, .string t.a.s] 46)).alloc (.cells #[.int .i8 0, .int .i64 0, .string ⟨#[]⟩] 44)))
    show Own3 _ _
    simpa using this
  have HT0 : Hid (TAt ((w.alloc (.cells #[.string t.v, .int .i8 t.a.k, .int .i64 t.a.n, .string t.a.s] 46)).alloc (.cells #[.int .i8 0, .int .i64 0, .string ⟨#[]⟩] 44)) w.heap.size 0 t) := by
    refine ⟨?_, ?_, ?_, ?_⟩ <;> go_simp
  go_enter Tryz.func72, Tryz.ntmps72
  go_upto_region 1 with fail
  generalize (w.alloc (.cells #[.string t.v, .int .i8 t.a.k, .int .i64 t.a.n, .string t.a.s] 46)).alloc (.cells #[.int .i8 0, .int .i64 0, .string ⟨#[]⟩] 44) = W at b0 HO0 HT0 ⊢
  have hzW : w.heap.size + 1 < W.heap.size := HO0.out.2.2.2.2
  by_cases e0 : t.v = noS
  · have he : t.v.toList.isEmpty = true := by rw [e0, ByteArray.toList_eq]; rfl
    have HV : Hid (r = .tuple #[.agg #[.int .i8 t.a.k, .int .i64 t.a.n, .string t.a.s], .bool true]) := by
      show r = _
      rw [← HR.out]
      unfold valOf
      rw [if_pos e0]
      rfl
    obtain ⟨t0, t1, t2, t3⟩ := HT0.out
    simp only [Nat.zero_add] at t1 t2 t3
    obtain ⟨⟨y0, y1, y2, o0, o1, o2⟩, f0, f1, f2, _⟩ := HO0.out
    clear e0
    go_wp2
    refine val_done Tryz.results72 (b := w.heap.size + 1) (ok := .bool true) HO0.out (by omega) b0 ?_ ?_ ?_
    · rfl
    · rfl
    · exact HV.out
  · have he := some_iff t.v e0
    have hI := seek_idx l t.v
    have HV0 : Hid (valOf t l = (seek l t.v).filter okV) := by show _ = _; unfold valOf; rw [if_neg e0]
    obtain ⟨t0, t1, t2, t3⟩ := HT0.out
    clear t1 t2 t3 e0
    go_wp2_with fail
    refine (indexFunc_any _ l w.heap.size t W (HL.out.below b0) HT0.out).mono ?_
    rintro e w1 ⟨rfl, b1⟩
    have b1' := b0.trans (b1.mono b0.size)
    have HO1 : Hid (Own3 w1 (w.heap.size + 1)) := HO0.out.below b1
    obtain ⟨⟨y0, y1, y2, o0, o1, o2⟩, f0, f1, f2, hz1⟩ := HO1.out
    clear t0 b1
    rcases hI with ⟨k, hk, hidx, hsk⟩ | ⟨hidx, hsk⟩
    · rw [hidx]
      have hk' : (k : Int) < (l.length : Int) := by omega
      have hk0 : ¬ (k : Int) < 0 := by omega
      have hk1 : (0 : Int) ≤ (k : Int) := by omega
      obtain ⟨g, off, rfl, hg, hT⟩ := HAT.out (by omega)
      obtain ⟨x0, x1, x2, x3⟩ := (hT k hk).below b1' hg
      simp only at x0 x1 x2 x3
      have hbw := atB_wf HWF.out k
      clear HAT hT hidx x0
      generalize atB l k = b at *
      have HS : Hid _ := hsk
      clear hsk
      go_wp2_with fail
      refine (vcheck_any b.a.k b.a.n b.a.s _ hbw.val.text).mono ?_
      rintro e w2 ⟨rfl, b2⟩
      have b2' := b1'.trans (b2.mono b1'.size)
      have HO2 : Hid (Own3 w2 (w.heap.size + 1)) := Own3.below HO1.out b2
      have hgl : g < w1.heap.size := World.block_lt_of_cell? _ _ x1
      have z1 : w2.cell? ⟨g, off + k * 4 + 1, none⟩ = some (.int .i8 b.a.k) := by rw [b2.cell (p := ⟨g, _, none⟩) hgl]; exact x1
      have z2 : w2.cell? ⟨g, off + k * 4 + 2, none⟩ = some (.int .i64 b.a.n) := by rw [b2.cell (p := ⟨g, _, none⟩) hgl]; exact x2
      have z3 : w2.cell? ⟨g, off + k * 4 + 3, none⟩ = some (.string b.a.s) := by rw [b2.cell (p := ⟨g, _, none⟩) hgl]; exact x3
      clear x1 x2 x3 o0 o1 o2 f0 f1 f2 b2 hgl
      obtain ⟨⟨y0, y1, y2, o0, o1, o2⟩, f0, f1, f2, _⟩ := HO2.out
      by_cases hc : chk b.a.k b.a.n b.a.s = 0
      · rw [hc]
        have HV : Hid (r = .tuple #[.agg #[.int .i8 b.a.k, .int .i64 b.a.n, .string b.a.s], .bool true]) := by
          show r = _
          rw [← HR.out, HV0.out, HS.out]
          have : okV b.a = true := by unfold okV chkV; rw [hc]; rfl
          simp [Option.filter, this, optV]
        clear hc
        go_wp2
        refine val_done Tryz.results72 (b := w.heap.size + 1) (ok := .bool true) HO2.out (by omega) b2' ?_ ?_ ?_
        · rfl
        · rfl
        · exact HV.out
      · have HV : Hid (r = .tuple #[.agg #[.int .i8 0, .int .i64 0, .string ⟨#[]⟩], .bool false]) := by
          show r = _
          rw [← HR.out, HV0.out, HS.out]
          have : okV b.a = false := by unfold okV chkV; simpa using hc
          simp [Option.filter, this, optV]
        rw [chk_ten hc]
        clear hc
        go_wp2
        refine val_done Tryz.results72 (b := w.heap.size + 1) (ok := .bool false) HO2.out (by omega) b2' ?_ ?_ ?_
        · rfl
        · rfl
        · exact HV.out
    · rw [hidx]
      have HV : Hid (r = .tuple #[.agg #[.int .i8 0, .int .i64 0, .string ⟨#[]⟩], .bool false]) := by
        show r = _
        rw [← HR.out, HV0.out, hsk]
        rfl
      clear hidx hsk
      go_wp2
      refine val_done Tryz.results72 (b := w.heap.size + 1) (ok := .bool false) HO1.out (by omega) b1' ?_ ?_ ?_
      · rfl
      · rfl
      · exact HV.out
end Go.Proofs.YtgplipfebnigiaaGreatDoor.LV
end
section
namespace Go.Proofs.YtgplipfebnigiaaGreatDoor.LV
open Go.RowKit Go.Maps
set_option linter.unusedVariables false
set_option linter.unusedSimpArgs false
attribute [local go_sem ↓] Go.wp_at_zero Go.wp_at_succ

theorem run_neqV (k1 n1 : Int) (s1 : ByteArray) (k2 n2 : Int) (s2 : ByteArray) (w : World) :
    (binOp .neq 44 (.agg #[.int .i8 k1, .int .i64 n1, .string s1]) (.agg #[.int .i8 k2, .int .i64 n2, .string s2])).run Tryz.prog w = .ok (.bool (!decide ((⟨k1, n1, s1⟩ : V) = ⟨k2, n2, s2⟩))) w := by
  by_cases hk : k1 = k2
  · by_cases hn : n1 = n2
    · by_cases hs : s1.toList = s2.toList
      · have := toList_inj hs
        subst hk hn this
        go_simp
      · have e : decide ((⟨k1, n1, s1⟩ : V) = ⟨k2, n2, s2⟩) = false := decide_eq_false (fun h => hs (by cases h; rfl))
        rw [e]
        go_simp
    · have e : decide ((⟨k1, n1, s1⟩ : V) = ⟨k2, n2, s2⟩) = false := decide_eq_false (fun h => hn (by cases h; rfl))
      rw [e]
      go_simp
  · have e : decide ((⟨k1, n1, s1⟩ : V) = ⟨k2, n2, s2⟩) = false := decide_eq_false (fun h => hk (by cases h; rfl))
    rw [e]
    go_simp
def matA (pa pf : ByteArray) (la : List T) (lf : List V) : Option (List B) := if pa = pf ∧ la.length = lf.length ∧ atomB pa la = true then mat [] la lf else none
def MatPost (B0 : Nat) (r : Option (List B)) (e : Ending) (w' : World) : Prop :=
  ∃ sv, e = .returned (.tuple #[sv, .bool r.isSome]) ∧ (r = none → sv = .slice none 0 0) ∧ (∀ s, r = some s → w'.ownsRow B0 110 4 sv s.length (s.flatMap B.cells) ∧ (∀ p ∈ s, p.wf) ∧ s.length ≤ 24)
theorem atV_wf {l : List V} (h : ∀ t ∈ l, t.wf) (i : Nat) : (atV l i).wf := by
  by_cases hi : i < l.length
  · rw [atV_eq hi]; exact h _ (List.getElem_mem hi)
  · unfold atV
    rw [List.getD, List.getElem?_eq_none (by omega)]
    exact V0.ok
theorem mat_bad {out : List B} {t : T} {v : V} {ts : List T} {vs : List V} (h : okV v = false) : mat out (t :: ts) (v :: vs) = none := by rw [mat, if_neg (by rw [h]; decide)]
theorem mat_blank {out : List B} {t : T} {v : V} {ts : List T} {vs : List V} (h : okV v = true) (hb : t.v = blankS) : mat out (t :: ts) (v :: vs) = mat out ts vs := by rw [mat, if_pos h, if_pos hb]
theorem mat_new {out : List B} {t : T} {v : V} {ts : List T} {vs : List V} (h : okV v = true) (hb : ¬ t.v = blankS) (hn : valOf t out = none) : mat out (t :: ts) (v :: vs) = mat (out ++ [⟨t.v, v⟩]) ts vs := by rw [mat, if_pos h, if_neg hb, hn]
theorem mat_old {out : List B} {t : T} {v a : V} {ts : List T} {vs : List V} (h : okV v = true) (hb : ¬ t.v = blankS) (hn : valOf t out = some a) : mat out (t :: ts) (v :: vs) = if a = v then mat out ts vs else none := by rw [mat, if_pos h, if_neg hb, hn]

theorem infoB : (Tryz.prog.info? 110).map (fun i => (i.zero, i.size, i.bytes)) = some (some (.agg #[.string ⟨#[]⟩, .int .i8 0, .int .i64 0, .string ⟨#[]⟩]), 4, 48) := by kernel_rfl
set_option maxHeartbeats 1600000 in
set_option maxRecDepth 100000 in
theorem match_yes (p : ByteArray) (va vf : Value) (la : List T) (lf : List V) (w : World) (hp : p.size ≤ maxLen) (ha : Lt w va la) (hf : Lv w vf lf) (hn : la.length = lf.length) (h3 : atomB p la = true) :
    Calls Tryz.prog 37 #[.agg #[.string p, va], .agg #[.string p, vf]] w fun e w' => MatPost w.heap.size (mat [] la lf) e w' ∧ Below w.heap.size w w' := by
  obtain ⟨i0, hi0, hz0, hz1, hz2⟩ := info_parts infoB
  obtain ⟨aa, ca, rfl, hc1, hc2, hta⟩ := ha.form
  obtain ⟨ab, cb, rfl, hd1, hd2, htb⟩ := hf.form
  have h24 : la.length ≤ 24 := by
    unfold atomB at h3
    simp only [Bool.and_eq_true, decide_eq_true_eq] at h3
    exact h3.1.2
  obtain ⟨m, hm⟩ : ∃ m, la.length = m := ⟨_, rfl⟩
  have hm' : lf.length = m := by omega
  have B0 : Hid _ := ((Below.refl w.heap.size w).alloc (Nat.le_refl _) (.cells #[.string p, .slice aa la.length ca] 61)).alloc (by simp) (.cells #[.string p, .slice ab lf.length cb] 65)
  have hN : (p.toList == p.toList) = true := by simp
  have h2' : ((la.length : Int) != (lf.length : Int)) = false := by simp; omega
  obtain ⟨r, HR⟩ : ∃ r, Hid (mat [] la lf = r) := ⟨_, rfl⟩
  rw [HR.out]
  have HA : Hid (Lt w (.slice aa la.length ca) la) := ha
  have HTA : Hid _ := hta
  have HTB : Hid _ := htb
  have H3 : Hid _ := h3
  have HWA : Hid (∀ t ∈ la, t.wf) := ha.wf
  have HWB : Hid (∀ t ∈ lf, t.wf) := hf.wf
  clear ha hf hta htb h3 hc1 hc2 hd1 hd2
  have HM : Hid (la.length = m ∧ lf.length = m) := ⟨hm, hm'⟩
  have h24' : Hid (m ≤ 24) := by show m ≤ 24; omega
  clear hm hm' hn h24
  go_enter Tryz.func37, Tryz.ntmps37
  go_wp2_with fail
  refine (isAtom_any p _ la _ hp (HA.out.below B0.out)).mono ?_
  rw [H3.out]
  rintro e W ⟨rfl, b1⟩
  have BW : Hid (Below w.heap.size w W) := B0.out.trans (b1.mono B0.out.size)
  have C1 : W.cell? ⟨w.heap.size + 1, 1, none⟩ = some (.slice ab lf.length cb) := by rw [b1.cell (p := ⟨w.heap.size + 1, 1, none⟩) (by simp)]; go_simp
  have A1 : W.cell? ⟨w.heap.size, 1, none⟩ = some (.slice aa la.length ca) := by rw [b1.cell (p := ⟨w.heap.size, 1, none⟩) (by simp; omega)]; go_simp
  have hzW : w.heap.size + 1 < W.heap.size := by have := b1.size; simp at this; omega
  clear b1 B0 h2' hN HA H3
  go_wp2
  obtain ⟨hm, hm'⟩ := HM.out
  have HTA' : Hid (0 < m → ∃ g off, aa = some ⟨g, off, none⟩ ∧ g < w.heap.size ∧ ∀ i, i < m → TAt w g (off + i * 4) (atT la i)) := by rw [← hm]; exact HTA.out
  have HTB' : Hid (0 < m → ∃ g off, ab = some ⟨g, off, none⟩ ∧ g < w.heap.size ∧ ∀ i, i < m → VAt w g (off + i * 3) (atV lf i)) := by rw [← hm']; exact HTB.out
  rw [hm] at A1
  rw [hm'] at C1
  rw [hm, hm']
  clear HTA HTB hm hm'
  go_loopw [6, 34] (fun sv i wr => ∃ k : Nat, k ≤ m ∧ i = .int .i64 k ∧ Below W.heap.size W wr ∧ ∃ s, wr.ownsRow W.heap.size 110 4 sv s.length (s.flatMap B.cells) ∧ s.length ≤ k ∧ (∀ p ∈ s, p.wf) ∧ Hid (mat s (la.drop k) (lf.drop k) = r)) (fun _ i _ => m - (intOf i).toNat)
  case atStart => exact ⟨0, Nat.zero_le _, rfl, Below.refl _ _, [], World.ownsRow_nil _ _ _ _, by simp, by simp, HR⟩
  case round =>
    obtain ⟨k, hk, rfl, bel, s, ho, hsl, hsw, HS⟩ := hrel
    have A2 : wr.cell? ⟨w.heap.size, 1, none⟩ = some (.slice aa m ca) := by rw [bel.cell (p := ⟨w.heap.size, 1, none⟩) (by show w.heap.size < _; omega)]; exact A1
    have C2 : wr.cell? ⟨w.heap.size + 1, 1, none⟩ = some (.slice ab m cb) := by rw [bel.cell (p := ⟨w.heap.size + 1, 1, none⟩) hzW]; exact C1
    have BWR : Hid (Below w.heap.size w wr) := BW.out.trans (bel.mono BW.out.size)
    have hzr : w.heap.size + 1 < wr.heap.size := Nat.lt_of_lt_of_le hzW bel.size
    have h24 := h24'.out
    have HO : Hid _ := ho
    have HSW : Hid (∀ b ∈ s, b.wf) := hsw
    have HBEL : Hid (Below W.heap.size W wr) := bel
    obtain ⟨ao, co, rfl, hlo⟩ := own_form ho
    by_cases hlt : k < m
    · have hlt' : (k : Int) < (m : Int) := by omega
      obtain ⟨hm, hm'⟩ := HM.out
      obtain ⟨g, off, rfl, hg, hT⟩ := HTA'.out (by omega)
      obtain ⟨g', off', rfl, hg', hT'⟩ := HTB'.out (by omega)
      obtain ⟨x0, x1, x2, x3⟩ := (hT k (by omega)).below BWR.out hg
      have BA := (Below.refl wr.heap.size wr).alloc (Nat.le_refl _) (.cells #[.string (atT la k).v, .int .i8 (atT la k).a.k, .int .i64 (atT la k).a.n, .string (atT la k).a.s] 46)
      have hgz : g' < wr.heap.size := Nat.lt_of_lt_of_le hg' BWR.out.size
      obtain ⟨y0, y1, y2⟩ := ((hT' k (by omega)).below BWR.out hg').below BA hgz
      have C3 : (wr.alloc (.cells #[.string (atT la k).v, .int .i8 (atT la k).a.k, .int .i64 (atT la k).a.n, .string (atT la k).a.s] 46)).cell? ⟨w.heap.size + 1, 1, none⟩ = some (.slice (some ⟨g', off', none⟩) m cb) := by rw [BA.cell (p := ⟨w.heap.size + 1, 1, none⟩) hzr]; exact C2
      have hxw := atT_wf HWA.out k
      have hyw := atV_wf HWB.out k
      have e1 : la.drop k = atT la k :: la.drop (k + 1) := by rw [atT_eq (by omega)]; exact List.drop_eq_getElem_cons (by omega)
      have e2 : lf.drop k = atV lf k :: lf.drop (k + 1) := by rw [atV_eq (by omega)]; exact List.drop_eq_getElem_cons (by omega)
      have HS' : Hid (mat s (atT la k :: la.drop (k + 1)) (atV lf k :: lf.drop (k + 1)) = r) := by show _ = r; rw [← e1, ← e2]; exact HS.out
      clear HS e1 e2 hT hT' HTA' HTB' hm hm' BA ho hsw bel
      generalize atT la k = x at *
      generalize atV lf k = y at *
      have HYW : Hid _ := hyw
      have HXW : Hid _ := hxw
      clear hyw hxw
      have hB2 := ((Below.refl wr.heap.size wr).alloc (Nat.le_refl _) (.cells #[.string x.v, .int .i8 x.a.k, .int .i64 x.a.n, .string x.a.s] 46)).alloc (by simp) (.cells #[.int .i8 y.k, .int .i64 y.n, .string y.s] 44)
      have hT8 : TAt ((wr.alloc (.cells #[.string x.v, .int .i8 x.a.k, .int .i64 x.a.n, .string x.a.s] 46)).alloc (.cells #[.int .i8 y.k, .int .i64 y.n, .string y.s] 44)) wr.heap.size 0 x := by refine ⟨?_, ?_, ?_, ?_⟩ <;> go_simp
      have hV9 : VAt ((wr.alloc (.cells #[.string x.v, .int .i8 x.a.k, .int .i64 x.a.n, .string x.a.s] 46)).alloc (.cells #[.int .i8 y.k, .int .i64 y.n, .string y.s] 44)) (wr.heap.size + 1) 0 y := by refine ⟨?_, ?_, ?_⟩ <;> go_simp
      have HB2 : Hid _ := hB2
      have HT8 : Hid _ := hT8
      have HV9 : Hid _ := hV9
      clear hB2 hT8 hV9
      go_wp2_with fail
      refine (vcheck_any y.k y.n y.s _ HYW.out.text).mono ?_
      rintro e w3 ⟨rfl, b3⟩
      have hl8 : wr.heap.size < w3.heap.size := by have := b3.size; simp at this; omega
      have hl9 : wr.heap.size + 1 < w3.heap.size := by have := b3.size; simp at this; omega
      have T3 := HT8.out.below b3 (by simp; omega)
      have V3 := HV9.out.below b3 (by simp)
      have B3 : Hid (Below wr.heap.size wr w3) := HB2.out.trans (b3.mono HB2.out.size)
      clear b3 x0 x1 x2 x3 y0 y1 y2 C3
      obtain ⟨p0, p1, p2, p3⟩ := id T3
      obtain ⟨q0, q1, q2⟩ := id V3
      simp only [Nat.zero_add] at p1 p2 p3 q1 q2
      have HT3 : Hid _ := T3
      have HV3 : Hid _ := V3
      clear T3 V3 A2 C2
      have HWB3 : Hid (Below W.heap.size W w3 ∧ Below w.heap.size w w3) := ⟨HBEL.out.trans (B3.out.mono HBEL.out.size), BWR.out.trans (B3.out.mono BWR.out.size)⟩
      have HO3 : Hid (w3.ownsRow W.heap.size 110 4 (.slice ao s.length co) s.length (s.flatMap B.cells)) := own_below HO.out B3.out
      by_cases hc : chk y.k y.n y.s = 0
      · rw [hc]
        have HOK : Hid (okV y = true) := by show okV y = true; unfold okV chkV; rw [hc]; rfl
        clear hc
        by_cases ex : x.v = blankS
        · have hB : (x.v.toList == [95]) = true := by rw [ex, ByteArray.toList_eq]; rfl
          have HN : Hid (mat s (la.drop (k + 1)) (lf.drop (k + 1)) = r) := by show _ = r; rw [← HS'.out, mat_blank HOK.out ex]
          clear ex HS'
          go_wp2
          go_roundw
          case rel => exact ⟨k + 1, by omega, by go_num, HWB3.out.1, s, HO3.out, by omega, HSW.out, HN⟩
          case measure => simp [intOf]; omega
        · have hB := blank_iff ex
          have HEX : Hid (¬ x.v = blankS) := ex
          clear ex
          go_wp2_with fail
          refine (valueOf_any x _ s w3 HXW.out ⟨(ls_own HO.out).below B3.out, HSW.out⟩).mono ?_
          rintro e w4 ⟨rfl, b4⟩
          have HB4 : Hid (Below W.heap.size W w4 ∧ Below w.heap.size w w4) := ⟨HWB3.out.1.trans (b4.mono HWB3.out.1.size), HWB3.out.2.trans (b4.mono HWB3.out.2.size)⟩
          have HO4 : Hid (w4.ownsRow W.heap.size 110 4 (.slice ao s.length co) s.length (s.flatMap B.cells)) := own_below HO3.out b4
          have hz4 := b4.size
          cases hv : valOf x s with
          | none =>
            have HN : Hid (mat (s ++ [⟨x.v, y⟩]) (la.drop (k + 1)) (lf.drop (k + 1)) = r) := by show _ = r; rw [← HS'.out, mat_new HOK.out HEX.out hv]
            have BA4 := (Below.refl w4.heap.size w4).alloc (Nat.le_refl _) (.cells #[.int .i8 0, .int .i64 0, .string ⟨#[]⟩] 44)
            have HO5 : Hid ((w4.alloc (.cells #[.int .i8 0, .int .i64 0, .string ⟨#[]⟩] 44)).ownsRow W.heap.size 110 4 (.slice ao s.length co) s.length (s.flatMap B.cells)) := own_below HO4.out BA4
            obtain ⟨t0, t1, t2, t3⟩ := (HT3.out.below b4 hl8).below BA4 (by omega)
            obtain ⟨u0, u1, u2⟩ := (HV3.out.below b4 hl9).below BA4 (by omega)
            simp only [Nat.zero_add] at t1 t2 t3 u1 u2
            clear p0 p1 p2 p3 q0 q1 q2 hv b4 HS'
            unfold optV
            dsimp only
            have HB5 : Hid _ := BA4
            clear BA4
            go_upto_region 13 with fail
            have HB6 : Hid (Below W.heap.size W (w4.alloc (.cells #[.int .i8 0, .int .i64 0, .string ⟨#[]⟩] 44))) := HB4.out.1.alloc HB4.out.1.size _
            generalize w4.alloc (.cells #[.int .i8 0, .int .i64 0, .string ⟨#[]⟩] 44) = W5 at t0 t1 t2 t3 u0 u1 u2 HO5 HB5 HB6 ⊢
            go_wp2_with (at_builtin; refine wpList_append_own_at _ rfl _ _ 66 rfl W.heap.size 110 i0 _ 4 48 Tryz.underlying66 hi0 hz0 hz1 hz2 rfl (by decide) _ _ _ rfl (own_below HO5.out ((Below.refl _ _).alloc (Nat.le_refl _) _)) ⟨_, 0, none⟩ 1 1 [.string x.v, .int .i8 y.k, .int .i64 y.n, .string y.s] rfl rfl (lit_news _ #[.string x.v, .int .i8 y.k, .int .i64 y.n, .string y.s] _) (by simp [Value.oneCell']) (by unfold maxLen; omega) (by omega) (by have := HB6.out.size; simp; omega) ?_; intro v' w5 hown' hgrow hnil hloc; obtain ⟨a5, c5, rfl, _⟩ := own_form hown')
            go_roundw
            case rel =>
              refine ⟨k + 1, by omega, by go_num, ?_, s ++ [⟨x.v, y⟩], ?_, by simp; omega, ?_, HN⟩
              · exact (HB6.out.alloc HB6.out.size _).grown hgrow (by have := HB6.out.size; simp; omega) (fun j hj => (HO4.out.lt j hj).1)
              · rw [List.flatMap_append, List.length_append]
                exact hown'
              · intro b hb
                rcases List.mem_append.1 hb with h | h
                · exact HSW.out b h
                · rw [List.mem_singleton.1 h]; exact ⟨HXW.out.text, HYW.out⟩
            case measure => simp [intOf]; omega
          | some a =>
            have hE := run_neqV a.k a.n a.s y.k y.n y.s
            have BA4 := (Below.refl w4.heap.size w4).alloc (Nat.le_refl _) (.cells #[.int .i8 a.k, .int .i64 a.n, .string a.s] 44)
            have HO5 : Hid ((w4.alloc (.cells #[.int .i8 a.k, .int .i64 a.n, .string a.s] 44)).ownsRow W.heap.size 110 4 (.slice ao s.length co) s.length (s.flatMap B.cells)) := own_below HO4.out BA4
            obtain ⟨u0, u1, u2⟩ := (HV3.out.below b4 hl9).below BA4 (by omega)
            simp only [Nat.zero_add] at u1 u2
            have HB5 : Hid (Below W.heap.size W (w4.alloc (.cells #[.int .i8 a.k, .int .i64 a.n, .string a.s] 44)) ∧ Below w.heap.size w (w4.alloc (.cells #[.int .i8 a.k, .int .i64 a.n, .string a.s] 44))) := ⟨HB4.out.1.alloc HB4.out.1.size _, HB4.out.2.alloc HB4.out.2.size _⟩
            have HM2 : Hid _ := mat_old (ts := la.drop (k + 1)) (vs := lf.drop (k + 1)) HOK.out HEX.out hv
            clear p0 p1 p2 p3 q0 q1 q2 hv b4 BA4
            unfold optV
            dsimp only
            by_cases e : a = y
            · have hd : decide ((⟨a.k, a.n, a.s⟩ : V) = ⟨y.k, y.n, y.s⟩) = true := decide_eq_true e
              rw [hd] at hE
              have HN : Hid (mat s (la.drop (k + 1)) (lf.drop (k + 1)) = r) := by
                have := HM2.out
                rw [if_pos e] at this
                show _ = r
                rw [← HS'.out, this]
              clear hd e HM2 HS'
              go_wp2
              go_roundw
              case rel => exact ⟨k + 1, by omega, by go_num, HB5.out.1, s, HO5.out, by omega, HSW.out, HN⟩
              case measure => simp [intOf]; omega
            · have hd : decide ((⟨a.k, a.n, a.s⟩ : V) = ⟨y.k, y.n, y.s⟩) = false := decide_eq_false e
              rw [hd] at hE
              have HN : Hid (none = r) := by
                have := HM2.out
                rw [if_neg e] at this
                show none = r
                rw [← HS'.out, this]
              clear hd e HM2 HS'
              go_wp2
              go_ret2
              refine ⟨⟨.slice none 0 0, ?_, fun _ => rfl, fun s' h => ?_⟩, HB5.out.2⟩
              · rw [← HN.out]; rfl
              · rw [← HN.out] at h; cases h
      · rw [chk_ten hc]
        have HN : Hid (none = r) := by
          show none = r
          rw [← HS'.out, mat_bad (by unfold okV chkV; simpa using hc)]
        clear hc HS'
        go_wp2
        go_ret2
        refine ⟨⟨.slice none 0 0, ?_, fun _ => rfl, fun s' h => ?_⟩, HWB3.out.2⟩
        · rw [← HN.out]; rfl
        · rw [← HN.out] at h; cases h
    · obtain rfl : k = m := by omega
      obtain ⟨hm, hm'⟩ := HM.out
      have HV : Hid (some s = r) := by
        show some s = r
        rw [← HS.out, List.drop_of_length_le (by omega), List.drop_of_length_le (by omega)]
        simp [mat]
      clear hm hm'
      go_wp2
      go_ret2
      refine ⟨⟨.slice ao s.length co, ?_, fun h => ?_, fun s' h => ?_⟩, BWR.out⟩
      · rw [← HV.out]; rfl
      · rw [← HV.out] at h; cases h
      · rw [← HV.out] at h
        cases h
        exact ⟨Go.Joins.ownsRow_le ho BW.out.size, hsw, by omega⟩
set_option maxHeartbeats 1600000 in
set_option maxRecDepth 100000 in
theorem match_no (pa pb : ByteArray) (va vb : Value) (la : List T) (lb : List V) (w : World) (hpa : pa.size ≤ maxLen) (hpb : pb.size ≤ maxLen) (ha : Lt w va la) (hb : Lv w vb lb) (hno : ¬ (pa = pb ∧ la.length = lb.length ∧ atomB pa la = true)) :
    Calls Tryz.prog 37 #[.agg #[.string pa, va], .agg #[.string pb, vb]] w fun e w' => e = .returned (.tuple #[.slice none 0 0, .bool false]) ∧ Below w.heap.size w w' := by
  obtain ⟨aa, ca, rfl, hc1, hc2, -⟩ := ha.form
  obtain ⟨ab, cb, rfl, hd1, hd2, -⟩ := hb.form
  have hm1 : la.length ≤ maxLen := Nat.le_trans hc1 hc2
  have hm2 : lb.length ≤ maxLen := Nat.le_trans hd1 hd2
  unfold maxLen at hm1 hm2
  have b0 := ((Below.refl w.heap.size w).alloc (Nat.le_refl _) (.cells #[.string pa, .slice aa la.length ca] 61)).alloc (by simp) (.cells #[.string pb, .slice ab lb.length cb] 65)
  have B0 : Hid _ := b0
  have HA : Hid (Lt w (.slice aa la.length ca) la) := ha
  have HB : Hid (Lv w (.slice ab lb.length cb) lb) := hb
  have HPA : Hid (pa.size ≤ maxLen) := hpa
  have HPB : Hid (pb.size ≤ maxLen) := hpb
  clear ha hb hc1 hc2 hd1 hd2 b0 hpa hpb
  by_cases h1 : pa = pb
  · have hN : (pa.toList == pb.toList) = true := by rw [eq_bytes, decide_eq_true h1]
    by_cases h2 : la.length = lb.length
    · have h2' : ((la.length : Int) != (lb.length : Int)) = false := by simp; omega
      cases h3 : atomB pa la
      · have H3 : Hid _ := h3
        clear hno h1 h2 h3
        go_enter Tryz.func37, Tryz.ntmps37
        go_wp2_with fail
        refine (isAtom_any pa _ la _ HPA.out (HA.out.below B0.out)).mono ?_
        rw [H3.out]
        rintro e w1 ⟨rfl, b1⟩
        go_wp2
        go_ret2
        exact ⟨rfl, B0.out.trans (b1.mono B0.out.size)⟩
      · exact absurd ⟨h1, h2, h3⟩ hno
    · have h2' : ((la.length : Int) != (lb.length : Int)) = true := by simp; omega
      clear hno h1 h2
      go_enter Tryz.func37, Tryz.ntmps37
      go_wp2
      go_ret2
      exact ⟨rfl, B0.out⟩
  · have hN : (pa.toList == pb.toList) = false := by rw [eq_bytes, decide_eq_false h1]
    clear hno h1
    go_enter Tryz.func37, Tryz.ntmps37
    go_wp2
    go_ret2
    exact ⟨rfl, B0.out⟩

theorem checkAtom_any (pred : ByteArray) (v : Value) (l : List T) (w : World) (hp : pred.size ≤ maxLen) (hl : Lt w v l) : Calls Tryz.prog 39 #[.agg #[.string pred, v]] w fun e w' => e = .returned (.int .i64 (errB (atomB pred l))) ∧ Below w.heap.size w w' := by
  obtain ⟨a, c, rfl, hc1, hc2, -⟩ := hl.form
  have b0 := (Below.refl w.heap.size w).alloc (Nat.le_refl _) (.cells #[.string pred, .slice a l.length c] 61)
  go_enter Tryz.func39, Tryz.ntmps39
  go_wp2_with fail
  refine (isAtom_any pred _ l _ hp (hl.below b0)).mono ?_
  rintro e w1 ⟨rfl, b1⟩
  go_wp2_with fail
  refine (verdict_any _ _).mono ?_
  rintro e w2 ⟨rfl, rfl⟩
  go_wp2
  go_ret
  exact ⟨rfl, b0.trans (b1.mono b0.size)⟩
end Go.Proofs.YtgplipfebnigiaaGreatDoor.LV
end
section
namespace Go.Proofs.YtgplipfebnigiaaGreatDoor.LV
open Go.RowKit Go.Maps
set_option linter.unusedVariables false
set_option linter.unusedSimpArgs false
attribute [local go_sem ↓] Go.wp_at_zero Go.wp_at_succ

theorem one_results {fn : Func} {sl : Nat} (hr : fn.results = #[.cell sl 44]) {W : World} {tmps : Array Value} {b : Nat} {x0 x1 x2 : Value} (h2 : tmps.getD sl undef = .pointer (some ⟨b, 0, none⟩))
    (c0 : W.cell? ⟨b, 0, none⟩ = some x0) (c1 : W.cell? ⟨b, 1, none⟩ = some x1) (c2 : W.cell? ⟨b, 2, none⟩ = some x2) :
    (results fn tmps).run Tryz.prog W = .ok (.agg #[x0, x1, x2]) W := by
  have hl : (loadVar 44 ⟨b, 0, none⟩).run Tryz.prog W = .ok (.agg #[x0, x1, x2]) W := by
    refine run_loadVar_mid W b 0 44 [x0, x1, x2] _ (fun j v hj => ?_) Tryz.underlying44 rfl (by kernel_rfl)
    match j, hj with
    | 0, hj => simp at hj; subst hj; exact c0
    | 1, hj => simp at hj; subst hj; exact c1
    | 2, hj => simp at hj; subst hj; exact c2
  have e0 : results fn tmps = (do
      let x ← asAddr (tmps.getD sl undef)
      loadVar 44 x) := by
    simp [results, hr]
  rw [e0, h2]
  simp [asAddr, hl, Result.andThen]
theorem one_done {fn : Func} {sl : Nat} (hr : fn.results = #[.cell sl 44]) {w w1 : World} {tmps : Array Value} {b : Nat} {x0 x1 x2 v : Value}
    (ho : Own3 w1 b) (hB : w.heap.size ≤ b) (hb : Below w.heap.size w w1)
    (h2 : tmps.getD sl undef = .pointer (some ⟨b, 0, none⟩)) (hv : v = .agg #[x0, x1, x2]) :
    bodyPost Tryz.prog fn (fun e w' => e = .returned v ∧ Below w.heap.size w w') .ret { tmps := tmps, defers := [] }
      (((w1.setCell ⟨b, 0, none⟩ x0).setCell ⟨b, 1, none⟩ x1).setCell ⟨b, 2, none⟩ x2) := by
  obtain ⟨⟨y0, y1, y2, c0, c1, c2⟩, f0, f1, f2, hl⟩ := ho
  refine bodyPost_ret (one_results hr (x0 := x0) (x1 := x1) (x2 := x2) h2 ?_ ?_ ?_) rfl ⟨by rw [hv], ?_⟩
  · go_simp
  · go_simp
  · go_simp
  · exact (((hb.setCell (p := ⟨b, 0, none⟩) hB _).setCell (p := ⟨b, 1, none⟩) hB _).setCell (p := ⟨b, 2, none⟩) hB _)

theorem Num_any (n : Int) (w : World) : Calls Tryz.prog 36 #[.int .i64 n] w fun e w' => e = .returned (.agg #[.int .i8 1, .int .i64 n, .string ⟨#[]⟩]) ∧ Below w.heap.size w w' := by
  have HO : Hid (Own3 (w.alloc (.cells #[.int .i8 0, .int .i64 0, .string ⟨#[]⟩] 44)) w.heap.size) := own3 (Below.refl _ _)
  go_enter Tryz.func36, Tryz.ntmps36
  go_wp2
  refine bodyPost_ret (one_results Tryz.results36 (b := w.heap.size) (x0 := .int .i8 1) (x1 := .int .i64 n) (x2 := .string ⟨#[]⟩) ?_ ?_ ?_ ?_) rfl ⟨rfl, ?_⟩
  · rfl
  · go_simp
  · go_simp
  · go_simp
  · exact (Below.refl _ _).alloc (Nat.le_refl _) _
end Go.Proofs.YtgplipfebnigiaaGreatDoor.LV
end
