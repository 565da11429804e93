import Derived.Test.YtoppgalbmijhdaaGreatDoorTmA
import Derived.Deep.MidRow
import Derived.Deep.WholeRow
namespace Go.Proofs.YtoppgalbmijhdaaGreatDoor
open Go.RowKit Go.Maps
set_option linter.unusedVariables false
set_option linter.unusedSimpArgs false
attribute [local go_sem ↓] Go.wp_at_zero Go.wp_at_succ

theorem below_drewV {B : Nat} {a w : World} (h : Below B a w) (n : Nat) : Below B a (w.drewN n) := ⟨h.os, h.tape, h.output, h.size, h.block⟩
/-- a block that holds these cells -/
def RL (w : World) (b : Nat) (t : TypeId) (l : List Value) : Prop := w.rowIs b t l.length (fun j => l.getD j .nilIface)
theorem RL.set {w : World} {b : Nat} {t : TypeId} {l : List Value} (h : RL w b t l) (i : Nat) (v : Value) : RL (w.setCell ⟨b, i, none⟩ v) b t (l.set i v) := by
  unfold RL
  rw [List.length_set]
  refine (World.rowIs.set h i v).congr fun j hj => ?_
  by_cases e : j = i
  · subst e
    rw [if_pos rfl]
    simp [List.getD, List.getElem?_set_self hj]
  · rw [if_neg e]
    simp [List.getD, List.getElem?_set_ne (Ne.symm e)]
theorem RL.other {w : World} {b g i : Nat} {t : TypeId} {l : List Value} (h : RL w b t l) (e : b ≠ g) (v : Value) : RL (w.setCell ⟨g, i, none⟩ v) b t l := World.rowIs.setOther h e v
theorem RL.at {w : World} {b : Nat} {t : TypeId} {l : List Value} (h : RL w b t l) {j : Nat} {v : Value} (e : l[j]? = some v) : w.cell? ⟨b, j, none⟩ = some v := by
  obtain ⟨hj, hv⟩ := List.getElem?_eq_some_iff.1 e
  rw [World.rowIs.cell h hj]
  simp [List.getD, e]
theorem RL.below {w w' : World} {b : Nat} {t : TypeId} {l : List Value} (h : RL w b t l) (hb : Below w.heap.size w w') : RL w' b t l := World.rowIs.of_block h (hb.block b (World.rowIs.lt h))
theorem rl_new (w : World) (c : Array Value) (t : TypeId) : RL (w.alloc (.cells c t)) w.heap.size t c.toList := by
  have := World.rowIs_alloc w c t (fun j => c.toList.getD j .nilIface) (fun i hi => by simp [List.getD, hi])
  unfold RL
  rw [Array.length_toList]
  exact this
theorem rl_results {fn : Func} {sl : Nat} {ty : TypeId} (hr : fn.results = #[.cell sl ty]) {W : World} {tmps : Array Value} {b : Nat} {v : Value} (h2 : tmps.getD sl undef = .pointer (some ⟨b, 0, none⟩)) (hl : (loadVar ty ⟨b, 0, none⟩).run Tryz.prog W = .ok v W) :
    (results fn tmps).run Tryz.prog W = .ok v W := by
  have e0 : results fn tmps = (do
      let x ← asAddr (tmps.getD sl undef)
      loadVar ty x) := by
    simp [results, hr]
  rw [e0, h2]
  simp [asAddr, hl, Result.andThen]
theorem RL.range {w : World} {b : Nat} {t : TypeId} {l : List Value} (h : RL w b t l) : ∀ j v, l[j]? = some v → w.cell? ⟨b, 0 + j, none⟩ = some v := fun j v e => by
  rw [Nat.zero_add]
  exact h.at e
theorem range_below {w w' : World} {g o : Nat} {cs : List Value} (h : w.rangeAt g o cs) (b : Below w.heap.size w w') (hg : g < w.heap.size) : w'.rangeAt g o cs := fun j v hv => by
  rw [b.cell (p := ⟨g, o + j, none⟩) hg]
  exact h j v hv
theorem range_block {w w' : World} {g o : Nat} {cs : List Value} (h : w.rangeAt g o cs) (e : w'.heap[g]? = w.heap[g]?) : w'.rangeAt g o cs := fun j v hv => by
  have : w'.cell? ⟨g, o + j, none⟩ = w.cell? ⟨g, o + j, none⟩ := by unfold World.cell?; rw [e]
  rw [this]
  exact h j v hv
/-- a list in memory: each element's cells -/
theorem ls_range {α : Type} {f : α → List Value} {k : Nat} (hk : ∀ x, (f x).length = k) (z : α) {w : World} {v : Value} {l : List α} (h : Ls w v l.length (l.flatMap f)) :
    ∃ a c, v = .slice a l.length c ∧ l.length ≤ c ∧ c ≤ maxLen ∧ (0 < l.length → ∃ g off, a = some ⟨g, off, none⟩ ∧ g < w.heap.size ∧ ∀ i, i < l.length → w.rangeAt g (off + i * k) (f (l.getD i z))) := by
  obtain ⟨hn, a, c, hv, h1, h2, hc⟩ := h
  refine ⟨a, c, hv, h1, h2, fun h0 => ?_⟩
  obtain ⟨g, off, ha, hg, hf⟩ := hc h0
  refine ⟨g, off, ha, hg, fun i hi j u hu => ?_⟩
  have hj : j < k := by rw [← hk (l.getD i z)]; exact (List.getElem?_eq_some_iff.1 hu).1
  have := hf.elem hk z hi hj hu
  rw [← Nat.add_assoc] at this
  exact this
theorem ls_of_range {α : Type} {f : α → List Value} {k : Nat} (hk0 : 0 < k) (hk : ∀ x, (f x).length = k) (z : α) {w : World} {g c : Nat} {l : List α} (hc1 : l.length ≤ c) (hc2 : c ≤ maxLen) (hg : g < w.heap.size) (h : ∀ i, i < l.length → w.rangeAt g (i * k) (f (l.getD i z))) :
    Ls w (.slice (some ⟨g, 0, none⟩) l.length c) l.length (l.flatMap f) := by
  refine ⟨Nat.le_trans hc1 hc2, _, c, rfl, hc1, hc2, fun _ => ⟨g, 0, rfl, hg, fun i hi => ?_⟩⟩
  have hl := flat_len f k hk l
  have hi2 : i / k < l.length := (Nat.div_lt_iff_lt_mul hk0).2 (by rw [← hl]; exact hi)
  have hm : i % k < k := Nat.mod_lt _ hk0
  have hx := flat_at f k hk z l (i / k) (i % k) hi2 hm
  have he : i / k * k + i % k = i := by rw [Nat.mul_comm]; exact Nat.div_add_mod i k
  rw [he, List.getElem?_eq_getElem hi] at hx
  have := h (i / k) hi2 (i % k) _ hx.symm
  rw [he] at this
  rw [Nat.zero_add]
  exact this
/-- stores of several cells, one behind the other -/
theorem rowIs_setCells {b : Nat} {t : TypeId} {n : Nat} : ∀ (vs : List Value) (o : Nat) (w : World) (f : Nat → Value), w.rowIs b t n f → (w.setCells b o vs).rowIs b t n (fun j => if o ≤ j ∧ j < o + vs.length then vs.getD (j - o) .nilIface else f j)
  | [], o, w, f, h => by
    rw [World.setCells]
    refine World.rowIs.congr h fun j _ => ?_
    rw [if_neg (fun hh => Nat.not_lt.2 hh.1 (by simpa using hh.2))]
  | v :: r, o, w, f, h => by
    rw [World.setCells]
    refine (rowIs_setCells r (o + 1) _ _ (World.rowIs.set h o v)).congr fun j _ => ?_
    by_cases e : j = o
    · subst e
      rw [if_neg (by omega), if_pos rfl, if_pos ⟨Nat.le_refl _, by simp⟩]
      simp [List.getD]
    · by_cases h1 : o + 1 ≤ j ∧ j < o + 1 + r.length
      · rw [if_pos h1, if_pos ⟨by omega, by simp; omega⟩]
        obtain ⟨i, rfl⟩ : ∃ i, j = o + (i + 1) := ⟨j - o - 1, by omega⟩
        rw [show o + (i + 1) - (o + 1) = i by omega, show o + (i + 1) - o = i + 1 by omega]
        simp [List.getD]
      · rw [if_neg h1, if_neg e, if_neg (by simp; omega)]
theorem below_setCells {B : Nat} {w0 : World} {b : Nat} (hb : B ≤ b) : ∀ (vs : List Value) (o : Nat) (w : World), Below B w0 w → Below B w0 (w.setCells b o vs)
  | [], _, _, h => h
  | v :: r, o, w, h => by rw [World.setCells]; exact below_setCells hb r (o + 1) _ (h.setCell (p := ⟨b, o, none⟩) hb _)
theorem size_setCells {b : Nat} : ∀ (vs : List Value) (o : Nat) (w : World), (w.setCells b o vs).heap.size = w.heap.size
  | [], _, _ => rfl
  | v :: r, o, w => by rw [World.setCells, size_setCells r]; simp
theorem heap_setCells_other {b k : Nat} (hk : k ≠ b) : ∀ (vs : List Value) (o : Nat) (w : World), (w.setCells b o vs).heap[k]? = w.heap[k]?
  | [], _, _ => rfl
  | v :: r, o, w => by rw [World.setCells, heap_setCells_other hk r]; exact heap_setCell_other _ _ _ _ hk
/-- a row of elements of sz cells -/
def rowF (sz : Nat) (U : Nat → List Value) : Nat → Value := fun j => (U (j / sz)).getD (j % sz) .nilIface
theorem rowF_set {w : World} {b sz n k : Nat} {t : TypeId} {U : Nat → List Value} (hsz : 0 < sz) (h : w.rowIs b t n (rowF sz U)) (vs : List Value) (hv : vs.length = sz) : (w.setCells b (k * sz) vs).rowIs b t n (rowF sz (fun i => if i = k then vs else U i)) := by
  refine (rowIs_setCells vs (k * sz) w _ h).congr fun j _ => ?_
  have hdm := Nat.div_add_mod j sz
  have hm := Nat.mod_lt j hsz
  rw [Nat.mul_comm] at hdm
  by_cases e : j / sz = k
  · subst e
    rw [hv, if_pos ⟨by omega, by omega⟩]
    unfold rowF
    show _ = (if j / sz = j / sz then vs else U (j / sz)).getD (j % sz) _
    rw [if_pos rfl, show j - j / sz * sz = j % sz by omega]
  · rw [hv, if_neg]
    · unfold rowF
      show _ = (if j / sz = k then vs else U (j / sz)).getD (j % sz) _
      rw [if_neg e]
    · rintro ⟨h1, h2⟩
      apply e
      refine Nat.div_eq_of_lt_le (by rw [Nat.mul_comm] at h1 ⊢; first | exact h1 | (rw [Nat.mul_comm]; exact h1)) ?_
      rw [Nat.succ_mul]
      omega
theorem rowF_range {w : World} {b sz n m : Nat} {t : TypeId} {U : Nat → List Value} (h : w.rowIs b t n (rowF sz U)) (hn : n = m * sz) {i : Nat} (hi : i < m) (hu : (U i).length = sz) : w.rangeAt b (i * sz) (U i) := fun j v hv => by
  have hj : j < sz := by rw [← hu]; exact (List.getElem?_eq_some_iff.1 hv).1
  have hlt : i * sz + j < n := by
    rw [hn]
    calc i * sz + j < i * sz + sz := by omega
      _ = (i + 1) * sz := by rw [Nat.succ_mul]
      _ ≤ m * sz := Nat.mul_le_mul_right _ hi
  rw [World.rowIs.cell h hlt]
  have e1 : (i * sz + j) / sz = i := by rw [Nat.mul_comm, Nat.mul_add_div (by omega), Nat.div_eq_of_lt hj, Nat.add_zero]
  have e2 : (i * sz + j) % sz = j := by rw [Nat.mul_comm, Nat.mul_add_mod, Nat.mod_eq_of_lt hj]
  unfold rowF
  rw [e1, e2]
  simp [List.getD, hv]
theorem rowF_there {w : World} {b sz n m : Nat} {t : TypeId} {U : Nat → List Value} (h : w.rowIs b t n (rowF sz U)) (hn : n = m * sz) {i : Nat} (hi : i < m) : w.there b (i * sz) sz := fun j hj => by
  have hlt : i * sz + j < n := by
    rw [hn]
    calc i * sz + j < i * sz + sz := by omega
      _ = (i + 1) * sz := by rw [Nat.succ_mul]
      _ ≤ m * sz := Nat.mul_le_mul_right _ hi
  exact ⟨by rw [World.rowIs.cell h hlt]; rfl, World.rowIs.frozen h _⟩
theorem made_row (w : World) (z : Array Value) (t : TypeId) (n : Nat) (hz : 0 < z.size) : (w.alloc (.cells (madeCells z (n * z.size)) t)).rowIs w.heap.size t (n * z.size) (rowF z.size (fun _ => z.toList)) := by
  have h := World.rowIs_alloc w (madeCells z (n * z.size)) t (rowF z.size (fun _ => z.toList)) (fun i hi => by
    rw [size_madeCells] at hi
    have hm := Nat.mod_lt i hz
    simp [madeCells, hi, rowF, List.getD, hm])
  rwa [size_madeCells] at h
theorem rl_there {w : World} {b : Nat} {t : TypeId} {l : List Value} (h : RL w b t l) : w.there b 0 l.length := fun j hj => by
  rw [Nat.zero_add]
  exact ⟨by rw [World.rowIs.cell h hj]; rfl, World.rowIs.frozen h _⟩
theorem rl_setAll {w : World} {b : Nat} {t : TypeId} {l : List Value} (h : RL w b t l) (vs : List Value) (hv : vs.length = l.length) : RL (w.setCells b 0 vs) b t vs := by
  unfold RL
  rw [hv]
  refine (rowIs_setCells vs 0 w _ h).congr fun j hj => ?_
  rw [if_pos ⟨Nat.zero_le _, by omega⟩, Nat.sub_zero]
/-- what a row holds whose first k elements are written -/
def upC {α : Type} (f : α → List Value) (z : List Value) (U : Nat → α) (k : Nat) : Nat → List Value := fun i => if i < k then f (U i) else z
theorem upC_step {α : Type} (f : α → List Value) (z : List Value) (U : Nat → α) (k : Nat) (y : α) : (fun i => if i = k then f y else upC f z U k i) = upC f z (fun i => if i = k then y else U i) (k + 1) := by
  funext i
  unfold upC
  by_cases e : i = k
  · subst e; simp
  · simp only [if_neg e]
    by_cases h : i < k
    · rw [if_pos h, if_pos (by omega)]
    · rw [if_neg h, if_neg (by omega)]
theorem upC_len {α : Type} {f : α → List Value} {n : Nat} (hf : ∀ x, (f x).length = n) {z : List Value} (hz : z.length = n) (U : Nat → α) (k i : Nat) : (upC f z U k i).length = n := by
  unfold upC
  split
  · exact hf _
  · exact hz
end Go.Proofs.YtoppgalbmijhdaaGreatDoor
