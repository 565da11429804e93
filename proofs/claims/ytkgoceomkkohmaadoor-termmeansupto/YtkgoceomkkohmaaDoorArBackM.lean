import Derived.Test.YtkgoceomkkohmaaDoorArStart
import Derived.Test.YtkgoceomkkohmaaDoorArStr
import Derived.RangeFuncBox
namespace Go.Proofs.YtkgoceomkkohmaaDoor.AR
open Go.RowKit Go.Maps
set_option linter.unusedVariables false
set_option linter.unusedSimpArgs false

/-! a text's characters from its end -/
theorem startsAt_mem (s : ByteArray) : ∀ (f i : Nat), s.size - i ≤ f → ∀ x ∈ startsAt s i, i ≤ x ∧ x < s.size
  | 0, i, hf, x, hx => by rw [starts_end s (by omega)] at hx; cases hx
  | f + 1, i, hf, x, hx => by
    by_cases h : i < s.size
    · have hc := chW_le s h
      rw [starts_cons s h] at hx
      rcases List.mem_cons.1 hx with rfl | hx
      · exact ⟨Nat.le_refl _, h⟩
      · have := startsAt_mem s f (i + chW s i) (by omega) x hx
        omega
    · rw [starts_end s h] at hx; cases hx
theorem startsAt_pair (s : ByteArray) : ∀ (f i : Nat), s.size - i ≤ f → (startsAt s i).Pairwise (· < ·)
  | 0, i, hf => by rw [starts_end s (by omega)]; exact List.Pairwise.nil
  | f + 1, i, hf => by
    by_cases h : i < s.size
    · have hc := chW_le s h
      rw [starts_cons s h]
      refine List.Pairwise.cons (fun x hx => ?_) (startsAt_pair s f (i + chW s i) (by omega))
      have := (startsAt_mem s s.size (i + chW s i) (by omega) x hx).1
      omega
    · rw [starts_end s h]; exact List.Pairwise.nil
theorem starts_len (s : ByteArray) : ∀ (f i : Nat), s.size - i ≤ f → (startsAt s i).length ≤ s.size - i
  | 0, i, hf => by rw [starts_end s (by omega)]; exact Nat.zero_le _
  | f + 1, i, hf => by
    by_cases h : i < s.size
    · have hc := chW_le s h
      rw [starts_cons s h, List.length_cons]
      have := starts_len s f (i + chW s i) (by omega)
      omega
    · rw [starts_end s h]; exact Nat.zero_le _
theorem starts_le (s : ByteArray) : (starts s).length ≤ s.size := by
  have := starts_len s s.size 0 (by omega)
  unfold starts
  simpa using this
/-- where the k-th character from the end begins, and where it ends -/
def startAt (s : ByteArray) (k : Nat) : Nat := (starts s)[(starts s).length - 1 - k]?.getD 0
def endAt (s : ByteArray) (k : Nat) : Nat := if k = 0 then s.size else startAt s (k - 1)
theorem endAt_succ (s : ByteArray) (k : Nat) : endAt s (k + 1) = startAt s k := by unfold endAt; simp
theorem startAt_lt (s : ByteArray) {k : Nat} (hk : k < (starts s).length) : startAt s k < s.size := by
  unfold startAt
  have h : (starts s).length - 1 - k < (starts s).length := by omega
  rw [List.getElem?_eq_getElem h, Option.getD_some]
  exact (startsAt_mem s s.size 0 (by omega) _ (List.getElem_mem h)).2
theorem endAt_le (s : ByteArray) {k : Nat} (hk : k ≤ (starts s).length) : endAt s k ≤ s.size := by
  unfold endAt
  split
  · exact Nat.le_refl _
  · exact Nat.le_of_lt (startAt_lt s (by omega))
theorem start_end (s : ByteArray) {k : Nat} (hk : k < (starts s).length) : startAt s k < endAt s k := by
  unfold endAt
  split
  · exact startAt_lt s hk
  · unfold startAt
    have h1 : (starts s).length - 1 - k < (starts s).length := by omega
    have h2 : (starts s).length - 1 - (k - 1) < (starts s).length := by omega
    rw [List.getElem?_eq_getElem h1, List.getElem?_eq_getElem h2, Option.getD_some, Option.getD_some]
    exact List.pairwise_iff_getElem.1 (startsAt_pair s s.size 0 (by omega)) _ _ h1 h2 (by omega)
theorem endAt_end (s : ByteArray) : endAt s (starts s).length = 0 := by
  by_cases h : 0 < s.size
  · have hl : (starts s).length = (startsAt s (0 + chW s 0)).length + 1 := by unfold starts; rw [starts_cons s h]; rfl
    unfold endAt startAt
    rw [if_neg (by omega), show (starts s).length - 1 - ((starts s).length - 1) = 0 by omega]
    unfold starts
    rw [starts_cons s h]
    rfl
  · have : starts s = [] := by unfold starts; exact starts_end s (by omega)
    rw [this]
    show endAt s 0 = 0
    unfold endAt
    rw [if_pos rfl]
    omega
/-- the bytes of the first k characters from the end -/
def chunk (s : ByteArray) (k : Nat) : ByteArray := s.extract (startAt s k) (endAt s k)
def backL (s : ByteArray) : Nat → List UInt8
  | 0 => []
  | k + 1 => backL s k ++ (chunk s k).data.toList
theorem chunk_size (s : ByteArray) {k : Nat} (hk : k < (starts s).length) : (chunk s k).size = endAt s k - startAt s k := by
  unfold chunk
  rw [ByteArray.size_extract, Nat.min_eq_left (endAt_le s (by omega))]
theorem backL_len (s : ByteArray) : ∀ k, k ≤ (starts s).length → (backL s k).length = s.size - endAt s k
  | 0, _ => by simp [backL, endAt]
  | k + 1, hk => by
    have := start_end s (k := k) (by omega)
    have := endAt_le s (k := k) (by omega)
    rw [backL, List.length_append, backL_len s k (by omega), len_toList, chunk_size s (by omega), endAt_succ]
    omega
theorem backL_all (s : ByteArray) : (backL s (starts s).length).length = s.size := by
  rw [backL_len s _ (Nat.le_refl _), endAt_end]
  omega
def backB (s : ByteArray) : ByteArray := ⟨(backL s (starts s).length).toArray⟩
/-- what lies in memory when k characters have been taken over -/
structure BkSt (W : World) (B : Nat) (s : ByteArray) (k : Nat) : Prop where
  bs : Boxed W B 9 (.string s)
  row : W.ownsRow (B + 1) 5 1 (.slice (some ⟨B + 1, 0, none⟩) (backL s k).length s.size) (backL s k).length (Lib.byteCells (backL s k))
  bo : Boxed W (B + 1 + 1) 90 (.slice (some ⟨B + 1, 0, none⟩) (backL s k).length s.size)
  be : Boxed W (B + 1 + 1 + 1) 3 (.int .i64 (endAt s k : Int))
theorem boxed_kept {W W' : World} {row : Option Nat} {B : Nat} {t : TypeId} {v : Value} (h : Boxed W B t v) (hg : W.grownBy W' row) (hr : ∀ r, row = some r → ∃ o : Obj, W.heap[r]? = some o ∧ o.isCells = false) : Boxed W' B t v :=
  h.kept hg (fun e => by
    obtain ⟨o, ho, hc⟩ := hr B e.symm
    rw [show W.heap[B]? = _ from h] at ho
    cases ho
    cases hc)
theorem ownsRow_keptR {W W' : World} {row : Option Nat} {base : Nat} {e : TypeId} {size : Nat} {v : Value} {k : Nat} {xs : List Value} (h : W.ownsRow base e size v k xs) (hg : W.grownBy W' row) (hr : ∀ r, row = some r → ∃ o : Obj, W.heap[r]? = some o ∧ o.isCells = false) : W'.ownsRow base e size v k xs := by
  refine h.kept hg ?_
  rcases h.2 with ⟨rfl, _⟩ | ⟨g, cap, cur, rfl, _, hgb, _⟩
  · exact .inl rfl
  · refine .inr fun e' => ?_
    obtain ⟨o, ho, hc⟩ := hr g (by simpa [Value.ownBlock] using e'.symm)
    rw [hgb] at ho
    cases ho
    cases hc
theorem BkSt.kept {W W' : World} {row : Option Nat} {B : Nat} {s : ByteArray} {k : Nat} (h : BkSt W B s k) (hg : W.grownBy W' row) (hr : ∀ r, row = some r → ∃ o : Obj, W.heap[r]? = some o ∧ o.isCells = false) : BkSt W' B s k :=
  ⟨boxed_kept h.bs hg hr, ownsRow_keptR h.row hg hr, boxed_kept h.bo hg hr, boxed_kept h.be hg hr⟩
theorem boxed_below {W W' : World} {B : Nat} {t : TypeId} {v : Value} (h : Boxed W B t v) (hb : Below W.heap.size W W') : Boxed W' B t v := (hb.block B h.lt).trans h
theorem BkSt.below {W W' : World} {B : Nat} {s : ByteArray} {k : Nat} (h : BkSt W B s k) (hb : Below W.heap.size W W') : BkSt W' B s k :=
  ⟨boxed_below h.bs hb, own_below h.row hb, boxed_below h.bo hb, boxed_below h.be hb⟩
theorem bkSt_start (w : World) (s : ByteArray) (hs : s.size ≤ 1000000) :
    BkSt ((((w.alloc (.cells #[.string s] 9)).alloc (.cells (madeCells #[.int .u8 0] s.size) 5)).alloc (.cells #[.slice (some ⟨w.heap.size + 1, 0, none⟩) 0 s.size] 90)).alloc (.cells #[.int .i64 (s.size : Int)] 3)) w.heap.size s 0 := by
  have h1 := Boxed.new w 9 (.string s)
  have hrow := World.ownsRow_made (base := w.heap.size + 1) (e := 5) (size := 1) (w.alloc (.cells #[.string s] 9)) (madeCells #[.int .u8 0] s.size) s.size (by simp) (by unfold maxLen; omega) (by rw [size_madeCells, Nat.mul_one])
  simp only [World.size_alloc] at hrow
  have h2 := Boxed.new ((w.alloc (.cells #[.string s] 9)).alloc (.cells (madeCells #[.int .u8 0] s.size) 5)) 90 (.slice (some ⟨w.heap.size + 1, 0, none⟩) 0 s.size)
  have h3 := Boxed.new (((w.alloc (.cells #[.string s] 9)).alloc (.cells (madeCells #[.int .u8 0] s.size) 5)).alloc (.cells #[.slice (some ⟨w.heap.size + 1, 0, none⟩) 0 s.size] 90)) 3 (.int .i64 (s.size : Int))
  simp only [World.size_alloc] at h2 h3
  exact ⟨((h1.alloc _).alloc _).alloc _, (hrow.alloc _).alloc _, h2.alloc _, h3⟩
end Go.Proofs.YtkgoceomkkohmaaDoor.AR
