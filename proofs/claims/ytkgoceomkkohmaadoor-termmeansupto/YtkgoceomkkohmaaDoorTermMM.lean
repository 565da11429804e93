import Derived.Test.YtkgoceomkkohmaaDoorTermL
namespace Go.Proofs.YtkgoceomkkohmaaDoor
open Go.RowKit
set_option linter.unusedVariables false

/-- a bind: a variable and its value -/
structure B where
  v : ByteArray
  a : V
deriving DecidableEq
def B0 : B := ⟨noS, V0⟩
def B.cells (b : B) : List Value := [.string b.v, .int .i8 b.a.k, .int .i64 b.a.n, .string b.a.s]
def B.val (b : B) : Value := .agg #[.string b.v, .int .i8 b.a.k, .int .i64 b.a.n, .string b.a.s]
structure B.wf (b : B) : Prop where
  text : b.v.size ≤ maxLen
  val : b.a.wf
def atB (l : List B) (i : Nat) : B := l.getD i B0
theorem atB_eq {l : List B} {i : Nat} (h : i < l.length) : atB l i = l[i] := by simp [atB, List.getD, List.getElem?_eq_getElem h]
structure Lb (w : World) (v : Value) (l : List B) : Prop where
  lies : Ls w v l.length (l.flatMap B.cells)
  wf : ∀ t ∈ l, t.wf
theorem Lb.below {w w' : World} {v : Value} {l : List B} (h : Lb w v l) (b : Below w.heap.size w w') : Lb w' v l := ⟨h.lies.below b, h.wf⟩
theorem Lb.form {w : World} {v : Value} {l : List B} (h : Lb w v l) : ∃ a c, v = .slice a l.length c ∧ l.length ≤ c ∧ c ≤ maxLen ∧ (0 < l.length → ∃ g off, a = some ⟨g, off, none⟩ ∧ g < w.heap.size ∧ ∀ i, i < l.length → TAt w g (off + i * 4) ⟨(atB l i).v, (atB l i).a⟩) := by
  obtain ⟨hn, a, c, hv, h1, h2, hc⟩ := h.lies
  refine ⟨a, c, hv, h1, h2, fun h0 => ?_⟩
  obtain ⟨g, off, ha, hg, hf⟩ := hc h0
  refine ⟨g, off, ha, hg, fun i hi => ⟨?_, ?_, ?_, ?_⟩⟩
  · have := hf.elem (k := 4) (fun _ => rfl) B0 hi (j := 0) (by omega) rfl; rw [← Nat.add_assoc] at this; exact this
  · have := hf.elem (k := 4) (fun _ => rfl) B0 hi (j := 1) (by omega) rfl; rw [← Nat.add_assoc] at this; exact this
  · have := hf.elem (k := 4) (fun _ => rfl) B0 hi (j := 2) (by omega) rfl; rw [← Nat.add_assoc] at this; exact this
  · have := hf.elem (k := 4) (fun _ => rfl) B0 hi (j := 3) (by omega) rfl; rw [← Nat.add_assoc] at this; exact this

/-- the first bind of a name -/
def seek (l : List B) (n : ByteArray) : Option V := (l.find? (fun b => decide (b.v = n))).map B.a
def valOf (t : T) (l : List B) : Option V := if t.v = noS then some t.a else (seek l t.v).filter okV
def mat : List B → List T → List V → Option (List B)
  | out, t :: ts, v :: vs =>
    if okV v then
      if t.v = blankS then mat out ts vs
      else match valOf t out with
        | none => mat (out ++ [⟨t.v, v⟩]) ts vs
        | some k => if k = v then mat out ts vs else none
    else none
  | out, _, _ => some out

theorem seek_append (l r : List B) (n : ByteArray) : seek (l ++ r) n = (seek l n).or (seek r n) := by
  unfold seek
  rw [List.find?_append]
  cases l.find? (fun b => decide (b.v = n)) <;> simp
theorem seek_mem {l : List B} {n : ByteArray} {a : V} (h : seek l n = some a) : ⟨n, a⟩ ∈ l := by
  unfold seek at h
  cases hf : l.find? (fun b => decide (b.v = n)) with
  | none => rw [hf] at h; cases h
  | some b =>
    rw [hf] at h
    have hm := List.mem_of_find?_eq_some hf
    have hp : b.v = n := by simpa using List.find?_some hf
    have ha : b.a = a := by simpa using h
    subst hp ha
    exact hm
theorem seek_none {l : List B} {n : ByteArray} : seek l n = none ↔ ∀ b ∈ l, b.v ≠ n := by
  unfold seek
  simp

/-- the first columns of the variables -/
def gath : List B → List T → List V → List B
  | out, t :: ts, v :: vs => if t.v = noS ∨ t.v = blankS ∨ (seek out t.v).isSome then gath out ts vs else gath (out ++ [⟨t.v, v⟩]) ts vs
  | out, _, _ => out
theorem gath_keeps : ∀ (ts : List T) (vs : List V) (out : List B), ∃ r, gath out ts vs = out ++ r
  | [], _, out => ⟨[], by simp [gath]⟩
  | _ :: _, [], out => ⟨[], by simp [gath]⟩
  | t :: ts, v :: vs, out => by
    unfold gath
    split
    · exact gath_keeps ts vs out
    · obtain ⟨r, hr⟩ := gath_keeps ts vs (out ++ [⟨t.v, v⟩])
      exact ⟨[⟨t.v, v⟩] ++ r, by rw [hr, List.append_assoc]⟩
/-- a column fits, the binds being those -/
def fitB (fin : List B) (t : T) (v : V) : Bool := okV v && (decide (t.v = blankS) || (if t.v = noS then decide (t.a = v) else decide (seek fin t.v = some v)))
def fitsB (fin : List B) : List T → List V → Bool
  | t :: ts, v :: vs => fitB fin t v && fitsB fin ts vs
  | _, _ => true
theorem blank_some : blankS ≠ noS := by decide
/-- what Match does column by column is: gather first, then look at all columns -/
theorem mat_gath : ∀ (ts : List T) (vs : List V) (out : List B), (∀ b ∈ out, okV b.a = true) → mat out ts vs = if fitsB (gath out ts vs) ts vs then some (gath out ts vs) else none
  | [], _, out, _ => by simp [mat, gath, fitsB]
  | _ :: _, [], out, _ => by simp [mat, gath, fitsB]
  | t :: ts, v :: vs, out, ho => by
    unfold mat
    by_cases hv : okV v = true
    · rw [if_pos hv]
      by_cases hb : t.v = blankS
      · rw [if_pos hb]
        have hg : gath out (t :: ts) (v :: vs) = gath out ts vs := by rw [gath, if_pos (.inr (.inl hb))]
        rw [hg, mat_gath ts vs out ho, fitsB]
        simp [fitB, hv, hb]
      · rw [if_neg hb]
        by_cases hn : t.v = noS
        · have hvl : valOf t out = some t.a := by unfold valOf; rw [if_pos hn]
          rw [hvl]
          have hg : gath out (t :: ts) (v :: vs) = gath out ts vs := by rw [gath, if_pos (.inl hn)]
          rw [hg, mat_gath ts vs out ho, fitsB]
          by_cases e : t.a = v
          · simp [fitB, hv, hn, e]
          · simp [fitB, hv, hn, e, Ne.symm blank_some]
        · cases hs : seek out t.v with
          | none =>
            have hvl : valOf t out = none := by unfold valOf; rw [if_neg hn, hs]; rfl
            rw [hvl]
            have hg : gath out (t :: ts) (v :: vs) = gath (out ++ [⟨t.v, v⟩]) ts vs := by rw [gath, if_neg (by simp [hn, hb, hs])]
            have ho' : ∀ b ∈ out ++ [⟨t.v, v⟩], okV b.a = true := by
              intro b hb'
              rcases List.mem_append.1 hb' with h | h
              · exact ho b h
              · rw [List.mem_singleton.1 h]; exact hv
            show mat (out ++ [⟨t.v, v⟩]) ts vs = _
            rw [hg, mat_gath ts vs _ ho', fitsB]
            obtain ⟨r, hr⟩ := gath_keeps ts vs (out ++ [⟨t.v, v⟩])
            have hk : seek (gath (out ++ [⟨t.v, v⟩]) ts vs) t.v = some v := by
              rw [hr, seek_append, seek_append, hs]
              simp [seek]
            simp [fitB, hv, hb, hn, hk]
          | some a =>
            have hoka : okV a = true := ho _ (seek_mem hs)
            have hvl : valOf t out = some a := by unfold valOf; rw [if_neg hn, hs]; simp [Option.filter, hoka]
            rw [hvl]
            have hg : gath out (t :: ts) (v :: vs) = gath out ts vs := by rw [gath, if_pos (by simp [hs])]
            rw [hg, mat_gath ts vs out ho, fitsB]
            obtain ⟨r, hr⟩ := gath_keeps ts vs out
            have hk : seek (gath out ts vs) t.v = some a := by rw [hr, seek_append, hs]; rfl
            by_cases e : a = v
            · simp [fitB, hv, hb, hn, hk, e]
            · simp [fitB, hv, hb, hn, hk, e]
    · rw [if_neg hv]
      have hf : fitB (gath out (t :: ts) (v :: vs)) t v = false := by simp [fitB, hv]
      rw [fitsB, hf]
      simp
end Go.Proofs.YtkgoceomkkohmaaDoor
