import Derived.Test.YtlnhnpfgmiffpaaProg
import Derived.WalkKit
import Derived.WalkSpells
import Derived.WalkLawsBesides
import Derived.Below
import Derived.Deep.OwnRows
import Derived.Deep.MidRow
import Derived.Deep.WholeRow
import Derived.Maps.AppendAt
import Derived.OwnWalk
import Derived.Deep.RegionHeld3
import Derived.Deep.DrawnRows
import Derived.Deep.Light
import Derived.Deep.QuietTactic
import Derived.BigQuiet
import Derived.Deep.RegionLaw
import Derived.Lib.Strings
import Derived.Lib.Slices
import Derived.Lib.Small
import Derived.Lib.Walk
import Derived.Deep.Onto
import Derived.Test.YtlnhnpfgmiffpaaG7
section
namespace Go.Proofs.Ytlnhnpfgmiffpaa.BK
open Go.RowKit Go.Maps
set_option linter.unusedVariables false
set_option linter.unusedSimpArgs false
attribute [local go_sem ↓] Go.wp_at_zero Go.wp_at_succ

/-- cells in memory, from a place on -/
def Flat (w : World) (g off : Nat) (xs : List Value) : Prop := ∀ i (h : i < xs.length), w.cell? ⟨g, off + i, none⟩ = some xs[i]
/-- a list of n elements whose cells are xs -/
def Ls (w : World) (v : Value) (n : Nat) (xs : List Value) : Prop :=
  n ≤ maxLen ∧ ∃ a c, v = .slice a n c ∧ n ≤ c ∧ c ≤ maxLen ∧ (0 < n → ∃ g off, a = some ⟨g, off, none⟩ ∧ g < w.heap.size ∧ Flat w g off xs)
theorem Ls.below {w w' : World} {v : Value} {n : Nat} {xs : List Value} (l : Ls w v n xs) (h : Below w.heap.size w w') : Ls w' v n xs := by
  obtain ⟨hn, a, c, hv, h1, h2, hc⟩ := l
  refine ⟨hn, a, c, hv, h1, h2, fun h0 => ?_⟩
  obtain ⟨g, off, ha, hg, hf⟩ := hc h0
  exact ⟨g, off, ha, Nat.lt_of_lt_of_le hg h.size, fun i hi => by rw [h.cell (p := ⟨g, off + i, none⟩) hg]; exact hf i hi⟩

theorem flat_len {α : Type} (f : α → List Value) (k : Nat) (hk : ∀ x, (f x).length = k) : ∀ l : List α, (l.flatMap f).length = l.length * k
  | [] => by simp
  | x :: r => by rw [List.flatMap_cons, List.length_append, hk, flat_len f k hk r, List.length_cons, Nat.succ_mul]; omega
theorem flat_at {α : Type} (f : α → List Value) (k : Nat) (hk : ∀ x, (f x).length = k) (d : α) : ∀ (l : List α) (i j : Nat), i < l.length → j < k → (l.flatMap f)[i * k + j]? = (f (l.getD i d))[j]?
  | [], i, j, h, _ => absurd h (by simp)
  | x :: r, 0, j, _, hj => by
    rw [List.flatMap_cons, Nat.zero_mul, Nat.zero_add, List.getElem?_append_left (by rw [hk]; exact hj)]
    rfl
  | x :: r, i + 1, j, h, hj => by
    have := flat_at f k hk d r i j (by simpa using h) hj
    rw [List.flatMap_cons, List.getElem?_append_right (by rw [hk, Nat.succ_mul]; omega), hk, show (i + 1) * k + j - k = i * k + j by rw [Nat.succ_mul]; omega, this]
    simp [List.getD]
theorem Flat.elem {w : World} {g off : Nat} {α : Type} {f : α → List Value} {k : Nat} (hk : ∀ x, (f x).length = k) {l : List α} (h : Flat w g off (l.flatMap f)) (d : α) {i j : Nat} (hi : i < l.length) (hj : j < k) {u : Value} (hu : (f (l.getD i d))[j]? = some u) : w.cell? ⟨g, off + (i * k + j), none⟩ = some u := by
  have h1 := flat_at f k hk d l i j hi hj
  rw [hu] at h1
  obtain ⟨h2, h3⟩ := List.getElem?_eq_some_iff.1 h1
  rw [h _ h2, h3]

/-- a row of the call's own, read as a list -/
theorem ls_own {w : World} {base : Nat} {e : TypeId} {k : Nat} {sv : Value} {n : Nat} {xs : List Value} (h : w.ownsRow base e k sv n xs) : Ls w sv n xs := by
  obtain ⟨hl, ⟨rfl, rfl⟩ | ⟨g, cap, cur, rfl, _, hb, hn, hc, hs, ht⟩⟩ := h
  · exact ⟨Nat.zero_le _, none, 0, rfl, Nat.le_refl _, Nat.zero_le _, fun h => absurd h (by omega)⟩
  · refine ⟨Nat.le_trans hn hc, _, cap, rfl, hn, hc, fun _ => ⟨g, 0, rfl, ?_, fun i hi => ?_⟩⟩
    · exact Array.getElem?_eq_some_iff.1 hb |>.1
    have h2 : i < n * k := by rw [← hl]; exact hi
    have h3 : cur[i]? = some xs[i] := by
      obtain ⟨u, h1⟩ : ∃ u, xs[i]? = some u := ⟨_, List.getElem?_eq_getElem hi⟩
      have h4 : xs[i] = u := Option.some.inj ((List.getElem?_eq_getElem hi).symm.trans h1)
      rw [h4]
      rw [← ht, List.getElem?_take, if_pos h2] at h1
      simpa using h1
    unfold World.cell?
    simp only [hb, Nat.zero_add]
    exact h3
theorem own_of_block {w w' : World} {base : Nat} {e : TypeId} {k : Nat} {sv : Value} {n : Nat} {xs : List Value} (h : w.ownsRow base e k sv n xs) (hg : ∀ g, sv.ownBlock = some g → w'.heap[g]? = w.heap[g]?) : w'.ownsRow base e k sv n xs := by
  obtain ⟨hl, h1 | ⟨g, cap, cur, rfl, h0, hb, r⟩⟩ := h
  · exact ⟨hl, .inl h1⟩
  · exact ⟨hl, .inr ⟨g, cap, cur, rfl, h0, (hg g rfl).trans hb, r⟩⟩
theorem own_below {w w' : World} {base : Nat} {e : TypeId} {k : Nat} {sv : Value} {n : Nat} {xs : List Value} (h : w.ownsRow base e k sv n xs) (hb : Below w.heap.size w w') : w'.ownsRow base e k sv n xs :=
  own_of_block h (fun g hg => hb.block g (h.lt g hg).2)
theorem below_drewV {B : Nat} {a w : World} (h : Below B a w) (n : Nat) : Below B a (w.drewN n) := ⟨h.os, h.tape, h.output, h.size, h.block⟩
/-- a block that holds these cells -/
def RL (w : World) (b : Nat) (t : TypeId) (l : List Value) : Prop := w.rowIs b t l.length (fun j => l.getD j .nilIface)
theorem RL.set {w : World} {b : Nat} {t : TypeId} {l : List Value} (h : RL w b t l) (i : Nat) (v : Value) : RL (w.setCell ⟨b, i, none⟩ v) b t (l.set i v) := by
  unfold RL
  rw [List.length_set]
  refine (World.rowIs.set h i v).congr fun j hj => ?_
  by_cases e : j = i
  · subst e
    rw [if_pos rfl]
    simp [List.getD, List.getElem?_set_self hj]
  · rw [if_neg e]
    simp [List.getD, List.getElem?_set_ne (Ne.symm e)]
theorem RL.other {w : World} {b g i : Nat} {t : TypeId} {l : List Value} (h : RL w b t l) (e : b ≠ g) (v : Value) : RL (w.setCell ⟨g, i, none⟩ v) b t l := World.rowIs.setOther h e v
theorem RL.at {w : World} {b : Nat} {t : TypeId} {l : List Value} (h : RL w b t l) {j : Nat} {v : Value} (e : l[j]? = some v) : w.cell? ⟨b, j, none⟩ = some v := by
  obtain ⟨hj, hv⟩ := List.getElem?_eq_some_iff.1 e
  rw [World.rowIs.cell h hj]
  simp [List.getD, e]
theorem RL.below {w w' : World} {b : Nat} {t : TypeId} {l : List Value} (h : RL w b t l) (hb : Below w.heap.size w w') : RL w' b t l := World.rowIs.of_block h (hb.block b (World.rowIs.lt h))
theorem rl_new (w : World) (c : Array Value) (t : TypeId) : RL (w.alloc (.cells c t)) w.heap.size t c.toList := by
  have := World.rowIs_alloc w c t (fun j => c.toList.getD j .nilIface) (fun i hi => by simp [List.getD, hi])
  unfold RL
  rw [Array.length_toList]
  exact this
theorem rl_results {fn : Func} {sl : Nat} {ty : TypeId} (hr : fn.results = #[.cell sl ty]) {W : World} {tmps : Array Value} {b : Nat} {v : Value} (h2 : tmps.getD sl undef = .pointer (some ⟨b, 0, none⟩)) (hl : (loadVar ty ⟨b, 0, none⟩).run Try.prog W = .ok v W) :
    (results fn tmps).run Try.prog W = .ok v W := by
  have e0 : results fn tmps = (do
      let x ← asAddr (tmps.getD sl undef)
      loadVar ty x) := by
    simp [results, hr]
  rw [e0, h2]
  simp [asAddr, hl, Result.andThen]
theorem RL.range {w : World} {b : Nat} {t : TypeId} {l : List Value} (h : RL w b t l) : ∀ j v, l[j]? = some v → w.cell? ⟨b, 0 + j, none⟩ = some v := fun j v e => by
  rw [Nat.zero_add]
  exact h.at e
theorem range_below {w w' : World} {g o : Nat} {cs : List Value} (h : w.rangeAt g o cs) (b : Below w.heap.size w w') (hg : g < w.heap.size) : w'.rangeAt g o cs := fun j v hv => by
  rw [b.cell (p := ⟨g, o + j, none⟩) hg]
  exact h j v hv
theorem range_block {w w' : World} {g o : Nat} {cs : List Value} (h : w.rangeAt g o cs) (e : w'.heap[g]? = w.heap[g]?) : w'.rangeAt g o cs := fun j v hv => by
  have : w'.cell? ⟨g, o + j, none⟩ = w.cell? ⟨g, o + j, none⟩ := by unfold World.cell?; rw [e]
  rw [this]
  exact h j v hv
/-- a list in memory: each element's cells -/
theorem ls_range {α : Type} {f : α → List Value} {k : Nat} (hk : ∀ x, (f x).length = k) (z : α) {w : World} {v : Value} {l : List α} (h : Ls w v l.length (l.flatMap f)) :
    ∃ a c, v = .slice a l.length c ∧ l.length ≤ c ∧ c ≤ maxLen ∧ (0 < l.length → ∃ g off, a = some ⟨g, off, none⟩ ∧ g < w.heap.size ∧ ∀ i, i < l.length → w.rangeAt g (off + i * k) (f (l.getD i z))) := by
  obtain ⟨hn, a, c, hv, h1, h2, hc⟩ := h
  refine ⟨a, c, hv, h1, h2, fun h0 => ?_⟩
  obtain ⟨g, off, ha, hg, hf⟩ := hc h0
  refine ⟨g, off, ha, hg, fun i hi j u hu => ?_⟩
  have hj : j < k := by rw [← hk (l.getD i z)]; exact (List.getElem?_eq_some_iff.1 hu).1
  have := hf.elem hk z hi hj hu
  rw [← Nat.add_assoc] at this
  exact this
theorem ls_of_range {α : Type} {f : α → List Value} {k : Nat} (hk0 : 0 < k) (hk : ∀ x, (f x).length = k) (z : α) {w : World} {g c : Nat} {l : List α} (hc1 : l.length ≤ c) (hc2 : c ≤ maxLen) (hg : g < w.heap.size) (h : ∀ i, i < l.length → w.rangeAt g (i * k) (f (l.getD i z))) :
    Ls w (.slice (some ⟨g, 0, none⟩) l.length c) l.length (l.flatMap f) := by
  refine ⟨Nat.le_trans hc1 hc2, _, c, rfl, hc1, hc2, fun _ => ⟨g, 0, rfl, hg, fun i hi => ?_⟩⟩
  have hl := flat_len f k hk l
  have hi2 : i / k < l.length := (Nat.div_lt_iff_lt_mul hk0).2 (by rw [← hl]; exact hi)
  have hm : i % k < k := Nat.mod_lt _ hk0
  have hx := flat_at f k hk z l (i / k) (i % k) hi2 hm
  have he : i / k * k + i % k = i := by rw [Nat.mul_comm]; exact Nat.div_add_mod i k
  rw [he, List.getElem?_eq_getElem hi] at hx
  have := h (i / k) hi2 (i % k) _ hx.symm
  rw [he] at this
  rw [Nat.zero_add]
  exact this
/-- stores of several cells, one behind the other -/
theorem rowIs_setCells {b : Nat} {t : TypeId} {n : Nat} : ∀ (vs : List Value) (o : Nat) (w : World) (f : Nat → Value), w.rowIs b t n f → (w.setCells b o vs).rowIs b t n (fun j => if o ≤ j ∧ j < o + vs.length then vs.getD (j - o) .nilIface else f j)
  | [], o, w, f, h => by
    rw [World.setCells]
    refine World.rowIs.congr h fun j _ => ?_
    rw [if_neg (fun hh => Nat.not_lt.2 hh.1 (by simpa using hh.2))]
  | v :: r, o, w, f, h => by
    rw [World.setCells]
    refine (rowIs_setCells r (o + 1) _ _ (World.rowIs.set h o v)).congr fun j _ => ?_
    by_cases e : j = o
    · subst e
      rw [if_neg (by omega), if_pos rfl, if_pos ⟨Nat.le_refl _, by simp⟩]
      simp [List.getD]
    · by_cases h1 : o + 1 ≤ j ∧ j < o + 1 + r.length
      · rw [if_pos h1, if_pos ⟨by omega, by simp; omega⟩]
        obtain ⟨i, rfl⟩ : ∃ i, j = o + (i + 1) := ⟨j - o - 1, by omega⟩
        rw [show o + (i + 1) - (o + 1) = i by omega, show o + (i + 1) - o = i + 1 by omega]
        simp [List.getD]
      · rw [if_neg h1, if_neg e, if_neg (by simp; omega)]
theorem below_setCells {B : Nat} {w0 : World} {b : Nat} (hb : B ≤ b) : ∀ (vs : List Value) (o : Nat) (w : World), Below B w0 w → Below B w0 (w.setCells b o vs)
  | [], _, _, h => h
  | v :: r, o, w, h => by rw [World.setCells]; exact below_setCells hb r (o + 1) _ (h.setCell (p := ⟨b, o, none⟩) hb _)
theorem size_setCells {b : Nat} : ∀ (vs : List Value) (o : Nat) (w : World), (w.setCells b o vs).heap.size = w.heap.size
  | [], _, _ => rfl
  | v :: r, o, w => by rw [World.setCells, size_setCells r]; simp
theorem heap_setCells_other {b k : Nat} (hk : k ≠ b) : ∀ (vs : List Value) (o : Nat) (w : World), (w.setCells b o vs).heap[k]? = w.heap[k]?
  | [], _, _ => rfl
  | v :: r, o, w => by rw [World.setCells, heap_setCells_other hk r]; exact heap_setCell_other _ _ _ _ hk
/-- a row of elements of sz cells -/
def rowF (sz : Nat) (U : Nat → List Value) : Nat → Value := fun j => (U (j / sz)).getD (j % sz) .nilIface
theorem rowF_set {w : World} {b sz n k : Nat} {t : TypeId} {U : Nat → List Value} (hsz : 0 < sz) (h : w.rowIs b t n (rowF sz U)) (vs : List Value) (hv : vs.length = sz) : (w.setCells b (k * sz) vs).rowIs b t n (rowF sz (fun i => if i = k then vs else U i)) := by
  refine (rowIs_setCells vs (k * sz) w _ h).congr fun j _ => ?_
  have hdm := Nat.div_add_mod j sz
  have hm := Nat.mod_lt j hsz
  rw [Nat.mul_comm] at hdm
  by_cases e : j / sz = k
  · subst e
    rw [hv, if_pos ⟨by omega, by omega⟩]
    unfold rowF
    show _ = (if j / sz = j / sz then vs else U (j / sz)).getD (j % sz) _
    rw [if_pos rfl, show j - j / sz * sz = j % sz by omega]
  · rw [hv, if_neg]
    · unfold rowF
      show _ = (if j / sz = k then vs else U (j / sz)).getD (j % sz) _
      rw [if_neg e]
    · rintro ⟨h1, h2⟩
      apply e
      refine Nat.div_eq_of_lt_le (by rw [Nat.mul_comm] at h1 ⊢; first | exact h1 | (rw [Nat.mul_comm]; exact h1)) ?_
      rw [Nat.succ_mul]
      omega
theorem rowF_range {w : World} {b sz n m : Nat} {t : TypeId} {U : Nat → List Value} (h : w.rowIs b t n (rowF sz U)) (hn : n = m * sz) {i : Nat} (hi : i < m) (hu : (U i).length = sz) : w.rangeAt b (i * sz) (U i) := fun j v hv => by
  have hj : j < sz := by rw [← hu]; exact (List.getElem?_eq_some_iff.1 hv).1
  have hlt : i * sz + j < n := by
    rw [hn]
    calc i * sz + j < i * sz + sz := by omega
      _ = (i + 1) * sz := by rw [Nat.succ_mul]
      _ ≤ m * sz := Nat.mul_le_mul_right _ hi
  rw [World.rowIs.cell h hlt]
  have e1 : (i * sz + j) / sz = i := by rw [Nat.mul_comm, Nat.mul_add_div (by omega), Nat.div_eq_of_lt hj, Nat.add_zero]
  have e2 : (i * sz + j) % sz = j := by rw [Nat.mul_comm, Nat.mul_add_mod, Nat.mod_eq_of_lt hj]
  unfold rowF
  rw [e1, e2]
  simp [List.getD, hv]
theorem rowF_there {w : World} {b sz n m : Nat} {t : TypeId} {U : Nat → List Value} (h : w.rowIs b t n (rowF sz U)) (hn : n = m * sz) {i : Nat} (hi : i < m) : w.there b (i * sz) sz := fun j hj => by
  have hlt : i * sz + j < n := by
    rw [hn]
    calc i * sz + j < i * sz + sz := by omega
      _ = (i + 1) * sz := by rw [Nat.succ_mul]
      _ ≤ m * sz := Nat.mul_le_mul_right _ hi
  exact ⟨by rw [World.rowIs.cell h hlt]; rfl, World.rowIs.frozen h _⟩
theorem made_row (w : World) (z : Array Value) (t : TypeId) (n : Nat) (hz : 0 < z.size) : (w.alloc (.cells (madeCells z (n * z.size)) t)).rowIs w.heap.size t (n * z.size) (rowF z.size (fun _ => z.toList)) := by
  have h := World.rowIs_alloc w (madeCells z (n * z.size)) t (rowF z.size (fun _ => z.toList)) (fun i hi => by
    rw [size_madeCells] at hi
    have hm := Nat.mod_lt i hz
    simp [madeCells, hi, rowF, List.getD, hm])
  rwa [size_madeCells] at h
theorem rl_there {w : World} {b : Nat} {t : TypeId} {l : List Value} (h : RL w b t l) : w.there b 0 l.length := fun j hj => by
  rw [Nat.zero_add]
  exact ⟨by rw [World.rowIs.cell h hj]; rfl, World.rowIs.frozen h _⟩
theorem rl_setAll {w : World} {b : Nat} {t : TypeId} {l : List Value} (h : RL w b t l) (vs : List Value) (hv : vs.length = l.length) : RL (w.setCells b 0 vs) b t vs := by
  unfold RL
  rw [hv]
  refine (rowIs_setCells vs 0 w _ h).congr fun j hj => ?_
  rw [if_pos ⟨Nat.zero_le _, by omega⟩, Nat.sub_zero]
/-- what a row holds whose first k elements are written -/
def upC {α : Type} (f : α → List Value) (z : List Value) (U : Nat → α) (k : Nat) : Nat → List Value := fun i => if i < k then f (U i) else z
theorem upC_step {α : Type} (f : α → List Value) (z : List Value) (U : Nat → α) (k : Nat) (y : α) : (fun i => if i = k then f y else upC f z U k i) = upC f z (fun i => if i = k then y else U i) (k + 1) := by
  funext i
  unfold upC
  by_cases e : i = k
  · subst e; simp
  · simp only [if_neg e]
    by_cases h : i < k
    · rw [if_pos h, if_pos (by omega)]
    · rw [if_neg h, if_neg (by omega)]
theorem upC_len {α : Type} {f : α → List Value} {n : Nat} (hf : ∀ x, (f x).length = n) {z : List Value} (hz : z.length = n) (U : Nat → α) (k i : Nat) : (upC f z U k i).length = n := by
  unfold upC
  split
  · exact hf _
  · exact hz
theorem lit_news (w : World) (cs : Array Value) (e : TypeId) : ∀ (j : Nat) (u : Value), cs.toList[j]? = some u → (w.alloc (.cells cs e)).cell? ((⟨w.heap.size, 0, none⟩ : Addr).add j) = some u := by
  intro j u h
  have e' : (⟨w.heap.size, 0, none⟩ : Addr).add j = ⟨w.heap.size, j, none⟩ := by rw [WideShapes.add_plain]; simp
  rw [e']
  unfold World.cell?
  simp only [heap_alloc_new]
  simpa using h
theorem step_append_own {P : Program} {ops : Array Oper} {o : Oper} {a : Act} {w : World} {K : Act → World → Prop} {Q : Exit → Act → World → Prop} {E : Prop}
    (hg : o.guard = none) (s x : Operand) (t : TypeId) (hop : o.op = Op.call { callee := Callee.builtin Builtin.append, args := #[s, x], argTypes := #[t, t] })
    (e : TypeId) (i : TypeInfo) (z : Value) (size bytes : Nat) (h1 : P.underlying t = some (.slice e)) (h2 : P.info? e = some i) (h3 : i.zero = some z) (h4 : i.size = size) (h5 : i.bytes = bytes) (h6 : z.cells.size = size) (h7 : 0 < size)
    (base : Nat) (v : Value) (n : Nat) (xs : List Value) (hs : a.eval s = v) (hown : w.ownsRow base e size v n xs)
    (ad : Addr) (m c : Nat) (news : List Value) (hx : a.eval x = .slice (some ad) m c) (hn : news.length = m * size) (hc : ∀ j u, news[j]? = some u → w.cell? (ad.add j) = some u) (h1c : ∀ u ∈ news, u.oneCell' = true)
    (b1 : n + m ≤ maxLen) (b2 : (n + m) * bytes ≤ 140737488355328) (hbase : base ≤ w.heap.size)
    (hK : ∀ v' w', w'.ownsRow base e size v' (n + m) (xs ++ news) → w.grownBy w' v.ownBlock → (v'.ownBlock = v.ownBlock ∨ v'.ownBlock = some w.heap.size) → K (a.put o.dst v') w') :
    if Region.wanted o (yielded ops a.tmps) = true then Oper.wp P o a w K Q else E := by
  have hw : Region.wanted o (yielded ops a.tmps) = true := by simp [Region.wanted, hg]
  rw [if_pos hw]
  obtain ⟨v', w', hrun, r1, r2, _, r3⟩ := run_append_own_at (P := P) w base t o.type e i z size bytes h1 h2 h3 h4 h5 h6 h7 v n xs hown ad m c news hn hc h1c b1 b2 hbase
  unfold Oper.wp
  simp [execOp, hop, resolve, invoke, builtin, hs, hx, hrun, Result.andThen]
  exact hK v' w' r1 r2 r3
theorem own_form {w : World} {base : Nat} {e : TypeId} {k : Nat} {sv : Value} {n : Nat} {xs : List Value} (h : w.ownsRow base e k sv n xs) : ∃ a c, sv = .slice a n c ∧ n ≤ maxLen := by
  obtain ⟨hl, ⟨rfl, rfl⟩ | ⟨g, cap, cur, rfl, _, hb, hn, hc, hs, ht⟩⟩ := h
  · exact ⟨none, 0, rfl, Nat.zero_le _⟩
  · exact ⟨_, cap, rfl, Nat.le_trans hn hc⟩
end Go.Proofs.Ytlnhnpfgmiffpaa.BK
end
section
namespace Go.Proofs.Ytlnhnpfgmiffpaa.BK
open Go.RowKit Go.Maps
set_option linter.unusedVariables false
set_option linter.unusedSimpArgs false

/-! a book of lists (pedigreelaw01.Book): what it holds, and that no two of them share memory: for lists of any kind of elements -/
/-- only these blocks may have turned -/
structure Tch (E : Nat → Prop) (w w' : World) : Prop where
  os : w'.os = w.os
  tape : w'.tape = w.tape
  output : w'.output = w.output
  size : w.heap.size ≤ w'.heap.size
  block : ∀ g, g < w.heap.size → ¬ E g → w'.heap[g]? = w.heap[g]?
theorem Tch.refl (E : Nat → Prop) (w : World) : Tch E w w := ⟨rfl, rfl, rfl, Nat.le_refl _, fun _ _ _ => rfl⟩
theorem Tch.trans {E : Nat → Prop} {a b c : World} (h : Tch E a b) (k : Tch E b c) : Tch E a c :=
  ⟨k.os.trans h.os, k.tape.trans h.tape, k.output.trans h.output, Nat.le_trans h.size k.size, fun g hg he => (k.block g (Nat.lt_of_lt_of_le hg h.size) he).trans (h.block g hg he)⟩
theorem Tch.mono {E E' : Nat → Prop} {w w' : World} (h : Tch E w w') (he : ∀ g, g < w.heap.size → E g → E' g) : Tch E' w w' := ⟨h.os, h.tape, h.output, h.size, fun g hg hn => h.block g hg (fun e => hn (he g hg e))⟩
theorem Tch.of_below {E : Nat → Prop} {w w' : World} (h : Below w.heap.size w w') : Tch E w w' := ⟨h.os, h.tape, h.output, h.size, fun g hg _ => h.block g hg⟩
theorem Tch.of_grown {E : Nat → Prop} {w w' : World} {r : Option Nat} (h : w.grownBy w' r) (hr : ∀ g, r = some g → E g) : Tch E w w' := ⟨h.os, h.tape, h.output, h.size, fun g hg hn => h.block g hg (fun e => hn (hr g e.symm))⟩
theorem Tch.setCell {E : Nat → Prop} {w w' : World} (h : Tch E w w') {p : Addr} (hp : w.heap.size ≤ p.block ∨ E p.block) (v : Value) : Tch E w (w'.setCell p v) :=
  ⟨h.os, h.tape, h.output, by simpa using h.size, fun g hg hn => by
    rw [heap_setCell_other _ _ _ _ (fun e => by subst e; rcases hp with hp | hp; omega; exact hn hp)]
    exact h.block g hg hn⟩
theorem Tch.setCells {E : Nat → Prop} {b : Nat} : ∀ (vs : List Value) (o : Nat) {w w' : World}, Tch E w w' → (w.heap.size ≤ b ∨ E b) → Tch E w (w'.setCells b o vs)
  | [], _, _, _, h, _ => h
  | v :: r, o, w, w', h, hb => by rw [World.setCells]; exact Tch.setCells r (o + 1) (h.setCell (p := ⟨b, o, none⟩) hb v) hb
theorem Tch.below {E : Nat → Prop} {w w' : World} {B : Nat} (h : Tch E w w') (hB : B ≤ w.heap.size) (he : ∀ g, g < B → ¬ E g) : Below B w w' := ⟨h.os, h.tape, h.output, h.size, fun g hg => h.block g (by omega) (he g hg)⟩
theorem blk_len (a : Option Addr) (n c m d : Nat) : (Value.slice a n c).ownBlock = (Value.slice a m d).ownBlock := by cases a <;> rfl
def Dj (v v' : Value) : Prop := ∀ g, v.ownBlock = some g → v'.ownBlock ≠ some g
theorem Dj.flip {v v' : Value} (h : Dj v v') : Dj v' v := fun g h1 h2 => h g h2 h1
theorem dj_grow {w : World} {b k n : Nat} {ty : TypeId} {v vb vb' : Value} {xs : List Value} (h : w.ownsRow b ty k v n xs) (hd : Dj v vb) (hloc : vb'.ownBlock = vb.ownBlock ∨ ∃ m, vb'.ownBlock = some m ∧ w.heap.size ≤ m) : Dj v vb' := fun g hg e => by
  rcases hloc with l | ⟨m, l, hm⟩
  · rw [l] at e; exact hd g hg e
  · rw [l] at e
    have := (h.lt g hg).2
    cases e
    omega
theorem ls_block {w w' : World} {v : Value} {n : Nat} {xs : List Value} (h : Ls w v n xs) (hs : w.heap.size ≤ w'.heap.size) (hb : ∀ g, v.ownBlock = some g → w'.heap[g]? = w.heap[g]?) : Ls w' v n xs := by
  obtain ⟨hn, a, c, rfl, h1, h2, hc⟩ := h
  refine ⟨hn, a, c, rfl, h1, h2, fun h0 => ?_⟩
  obtain ⟨g, off, rfl, hg, hf⟩ := hc h0
  refine ⟨g, off, rfl, by omega, fun i hi => ?_⟩
  have e : w'.cell? ⟨g, off + i, none⟩ = w.cell? ⟨g, off + i, none⟩ := by unfold World.cell?; rw [hb g rfl]
  rw [e]
  exact hf i hi
/-- append onto a row of one's own: in place, or into a new block, and then the others stay as they were -/
theorem run_append_own2 {P : Program} (w : World) (base : Nat) (t ty e : TypeId) (i : TypeInfo) (z : Value) (size bytes : Nat) (ht : P.underlying t = some (.slice e)) (hi : P.info? e = some i) (hz : i.zero = some z)
    (hsize : i.size = size) (hby : i.bytes = bytes) (hzs : z.cells.size = size) (hsz : 0 < size)
    (v : Value) (n : Nat) (xs : List Value) (hown : w.ownsRow base e size v n xs)
    (a : Addr) (m c : Nat) (news : List Value) (hl : news.length = m * size) (hnews : ∀ j u, news[j]? = some u → w.cell? (a.add j) = some u) (h1 : ∀ u ∈ news, u.oneCell' = true)
    (h63 : n + m ≤ maxLen) (hbytes : (n + m) * bytes ≤ 140737488355328) (hbase : base ≤ w.heap.size) (hm : 0 < m) :
    ∃ v' w', (Builtin.append_ #[t, t] ty #[v, .slice (some a) m c]).run P w = .ok v' w' ∧ w'.ownsRow base e size v' (n + m) (xs ++ news) ∧ w.grownBy w' v.ownBlock ∧
      ((∃ b cap, v = .slice b n cap ∧ v' = .slice b (n + m) cap) ∨ (v'.ownBlock = some w.heap.size ∧ ∀ k, k < w.heap.size → w'.heap[k]? = w.heap[k]?)) := by
  obtain ⟨v', w', hr, ho, hg, _, hloc⟩ := run_append_own_at (P := P) w base t ty e i z size bytes ht hi hz hsize hby hzs hsz v n xs hown a m c news hl hnews h1 h63 hbytes hbase
  refine ⟨v', w', hr, ho, hg, ?_⟩
  rcases hown.2 with ⟨rfl, rfl⟩ | ⟨g, cap, cur, rfl, hbg, hgg, hnc, hcm, hcs, htake⟩
  · right
    rcases hloc with hloc | hloc
    · exfalso
      rcases ho.2 with ⟨_, e⟩ | ⟨g, cap, cur, rfl, _⟩
      · omega
      · cases hloc
    · exact ⟨hloc, fun k hk => hg.block k hk (fun e => by cases e)⟩
  · by_cases hroom : n + m ≤ cap
    · obtain ⟨w2, hr2, _, _⟩ := run_append_fits (P := P) w base t ty e i size ht hi hsize g n cap xs hown a m c news hl hnews h1 hroom
      rw [hr] at hr2
      injection hr2 with e1 e2
      exact .inl ⟨_, cap, rfl, e1⟩
    · right
      subst hsize hby
      have holds : ∀ j u, xs[j]? = some u → w.cell? ((⟨g, 0, none⟩ : Addr).add j) = some u := hown.cells (g := g) rfl
      have hr2 := run_append_grow (P := P) w t ty e i z ht hi hz ⟨g, 0, none⟩ n cap xs hown.1 holds a m c news hl hnews (by omega) (by simp only [maxLen] at h63; omega) (growslice_fits (by simp only [maxLen] at h63; omega) hbytes)
      rw [hr] at hr2
      injection hr2 with e1 e2
      rw [e1, e2]
      exact ⟨rfl, fun k hk => Below.heap_alloc w.drew _ k hk⟩
/-- storing an element's cells into a row of one's own -/
theorem own_setCells {base : Nat} {e : TypeId} {k g n cap : Nat} : ∀ (vs : List Value) (A O : List Value) {w : World}, w.ownsRow base e k (.slice (some ⟨g, 0, none⟩) n cap) n (A ++ O) → vs.length ≤ O.length → (w.setCells g A.length vs).ownsRow base e k (.slice (some ⟨g, 0, none⟩) n cap) n (A ++ vs ++ O.drop vs.length)
  | [], A, O, w, h, _ => by simpa [World.setCells] using h
  | v :: r, A, [], w, h, hl => absurd hl (by simp)
  | v :: r, A, o :: O, w, h, hl => by
    rw [World.setCells]
    have h1 := (h.stored A.length v).1
    have e1 : (A ++ o :: O).set A.length v = (A ++ [v]) ++ O := by simp
    rw [e1] at h1
    have h2 := own_setCells r (A ++ [v]) O h1 (by simpa using hl)
    rw [List.length_append, List.length_singleton] at h2
    simpa [List.append_assoc] using h2

/-- a list that is held: where it lies, how many there are; the longer one; its number -/
structure Hd where
  a : Option Addr
  n : Nat
  c : Nat
  la : Option Addr
  ln : Nat
  lc : Nat
  m : Nat
def Hd.sv (h : Hd) : Value := .slice h.a h.n h.c
def Hd.lv (h : Hd) : Value := .slice h.la h.ln h.lc
def Hd.cells (h : Hd) : List Value := [.slice h.a h.n h.c, .slice h.la h.ln h.lc, .int .i64 h.m]
def Hd.blk (h : Hd) : Option Nat := (Value.slice h.a h.n h.c).ownBlock
def Hd0 : Hd := ⟨none, 0, 0, none, 0, 0, 0⟩
def atH (l : List Hd) (i : Nat) : Hd := l.getD i Hd0
theorem atH_eq {l : List Hd} {i : Nat} (h : i < l.length) : atH l i = l[i] := by simp [atH, List.getD, List.getElem?_eq_getElem h]
theorem cellsH_one (l : List Hd) : ∀ u ∈ l.flatMap Hd.cells, u.oneCell' = true := by
  intro u hu
  obtain ⟨t, _, ht⟩ := List.mem_flatMap.1 hu
  simp [Hd.cells] at ht
  rcases ht with rfl | rfl | rfl <;> rfl
theorem lenH (l : List Hd) : (l.flatMap Hd.cells).length = l.length * 3 := flat_len Hd.cells 3 (fun _ => rfl) l
/-- a longer list is put down -/
theorem flat_setH : ∀ (l : List Hd) (i : Nat) (a : Option Addr) (n c : Nat), i < l.length → (l.flatMap Hd.cells).set (i * 3 + 1) (.slice a n c) = (l.set i { atH l i with la := a, ln := n, lc := c }).flatMap Hd.cells
  | [], i, _, _, _, h => absurd h (by simp)
  | x :: r, 0, a, n, c, _ => by simp [Hd.cells, atH]
  | x :: r, i + 1, a, n, c, h => by
    have ih := flat_setH r i a n c (by simpa using h)
    have e : atH (x :: r) (i + 1) = atH r i := by simp [atH]
    rw [e, List.flatMap_cons, List.set_cons_succ, List.flatMap_cons, ← ih]
    have h3 : (i + 1) * 3 + 1 = i * 3 + 1 + 1 + 1 + 1 := by omega
    rw [h3]
    rfl

/-- a kind of elements: their marks -/
structure Kd where
  α : Type
  e : TypeId
  sz : Nat
  cel : Nat → α → List Value
  fp : α → Option Nat
  ok : World → Nat → α → Prop
  pos : 0 < sz
  len : ∀ m x, (cel m x).length = sz
  one : ∀ m x u, u ∈ cel m x → u.oneCell' = true
  st : ∀ m x (u u' : World), (∀ b, fp x = some b → u'.heap[b]? = u.heap[b]?) → ok u m x → ok u' m x
/-- marks that are good, none of which lies in ex -/
def Gd (K : Kd) (S : Nat) (ex : Option Nat) (w : World) (m : Nat) (xs : List K.α) : Prop :=
  ∀ x ∈ xs, K.ok w m x ∧ ∀ b, K.fp x = some b → S ≤ b ∧ b < w.heap.size ∧ some b ≠ ex
theorem Gd.keep {K : Kd} {S : Nat} {ex ex' : Option Nat} {w w' : World} {m : Nat} {xs : List K.α} (h : Gd K S ex w m xs) (hs : w.heap.size ≤ w'.heap.size) (hb : ∀ b, S ≤ b → b < w.heap.size → some b ≠ ex → w'.heap[b]? = w.heap[b]?) (hx : ∀ b, S ≤ b → b < w.heap.size → some b = ex' → some b = ex) : Gd K S ex' w' m xs := fun x hm => by
  obtain ⟨h1, h2⟩ := h x hm
  exact ⟨K.st m x w w' (fun b e => hb b (h2 b e).1 (h2 b e).2.1 (h2 b e).2.2) h1, fun b e => ⟨(h2 b e).1, Nat.lt_of_lt_of_le (h2 b e).2.1 hs, fun q => (h2 b e).2.2 (hx b (h2 b e).1 (h2 b e).2.1 q)⟩⟩
theorem Gd.take {K : Kd} {S : Nat} {ex : Option Nat} {w : World} {m : Nat} {xs : List K.α} (h : Gd K S ex w m xs) (n : Nat) : Gd K S ex w m (xs.take n) := fun x hm => h x (List.mem_of_mem_take hm)
theorem Gd.snoc {K : Kd} {S : Nat} {ex : Option Nat} {w : World} {m : Nat} {xs : List K.α} (h : Gd K S ex w m xs) {x : K.α} (hx : Gd K S ex w m [x]) : Gd K S ex w m (xs ++ [x]) := fun y hy => by
  rcases List.mem_append.1 hy with hy | hy
  · exact h y hy
  · exact hx y hy
theorem Kd.flat (K : Kd) (m : Nat) (xs : List K.α) : (xs.flatMap (K.cel m)).length = xs.length * K.sz := flat_len (K.cel m) K.sz (K.len m) xs
theorem Kd.ones (K : Kd) (m : Nat) (xs : List K.α) : ∀ u ∈ xs.flatMap (K.cel m), u.oneCell' = true := fun u hu => by
  obtain ⟨x, _, hx⟩ := List.mem_flatMap.1 hu
  exact K.one m x u hx
/-- a list full of marks -/
def Fil (K : Kd) (S : Nat) (w : World) (h : Hd) : Prop := ∃ xs : List K.α, xs.length = h.n ∧ w.ownsRow 0 K.e K.sz h.sv h.n (xs.flatMap (K.cel h.m)) ∧ Gd K S none w h.m xs
theorem Fil.keep {K : Kd} {S : Nat} {w w' : World} {h : Hd} (f : Fil K S w h) (hs : w.heap.size ≤ w'.heap.size) (hb : ∀ g, g < w.heap.size → (S ≤ g ∨ h.blk = some g) → w'.heap[g]? = w.heap[g]?) : Fil K S w' h := by
  obtain ⟨xs, h1, h2, h3⟩ := f
  exact ⟨xs, h1, own_of_block h2 (fun g hg => hb g (h2.lt g hg).2 (.inr hg)), h3.keep hs (fun b b1 b2 _ => hb b b2 (.inl b1)) (fun _ _ _ e => e)⟩
/-- .. and the longer one too -/
structure Dn (K : Kd) (S : Nat) (w : World) (h : Hd) : Prop where
  ln : h.ln = h.n + 70
  l : ∃ xs : List K.α, xs.length = h.n ∧ Ls w h.sv h.n (xs.flatMap (K.cel h.m)) ∧ Gd K S none w h.m xs
  long : ∃ ys : List K.α, ys.length = h.ln ∧ Ls w h.lv h.ln (ys.flatMap (K.cel h.m)) ∧ Gd K S none w h.m ys
  at1 : ∀ g, h.sv.ownBlock = some g → g < w.heap.size
  at2 : ∀ g, h.lv.ownBlock = some g → g < w.heap.size ∧ (h.sv.ownBlock = some g ∨ S ≤ g)
theorem Dn.keep {K : Kd} {S : Nat} {w w' : World} {h : Hd} (f : Dn K S w h) (hs : w.heap.size ≤ w'.heap.size) (hb : ∀ g, g < w.heap.size → (S ≤ g ∨ h.blk = some g) → w'.heap[g]? = w.heap[g]?) : Dn K S w' h := by
  obtain ⟨h1, ⟨xs, x1, x2, x3⟩, ⟨ys, y1, y2, y3⟩, h4, h5⟩ := f
  refine ⟨h1, ⟨xs, x1, ls_block x2 hs (fun g hg => hb g (h4 g hg) (.inr hg)), x3.keep hs (fun b b1 b2 _ => hb b b2 (.inl b1)) (fun _ _ _ e => e)⟩, ⟨ys, y1, ls_block y2 hs (fun g hg => hb g (h5 g hg).1 ((h5 g hg).2.symm)), y3.keep hs (fun b b1 b2 _ => hb b b2 (.inl b1)) (fun _ _ _ e => e)⟩, fun g hg => Nat.lt_of_lt_of_le (h4 g hg) hs, fun g hg => ⟨Nat.lt_of_lt_of_le (h5 g hg).1 hs, (h5 g hg).2⟩⟩
/-- amid the filling of one list -/
structure Fl (K : Kd) (S : Nat) (h : Hd) (W wr : World) (k : Nat) : Prop where
  row : ∃ (xs : List K.α) (O : List Value), xs.length = k ∧ k ≤ h.n ∧ wr.ownsRow 0 K.e K.sz h.sv h.n (xs.flatMap (K.cel h.m) ++ O) ∧ Gd K S h.blk wr h.m xs
  tch : Tch (fun g => h.blk = some g) W wr
theorem Fl.start {K : Kd} {S : Nat} {h : Hd} {W : World} {O : List Value} (ho : W.ownsRow 0 K.e K.sz h.sv h.n O) : Fl K S h W W 0 :=
  ⟨⟨[], O, rfl, Nat.zero_le _, by simpa using ho, fun x hx => absurd hx (by simp)⟩, Tch.refl _ _⟩
theorem Fl.step {K : Kd} {S : Nat} {h : Hd} {W wr w2 : World} {k g : Nat} (f : Fl K S h W wr k) (hk : k < h.n) (hg : h.blk = some g) (b2 : Below wr.heap.size wr w2) {x : K.α} (hx : Gd K S h.blk w2 h.m [x]) : Fl K S h W (w2.setCells g (k * K.sz) (K.cel h.m x)) (k + 1) := by
  obtain ⟨⟨xs, O, h1, h2, h3, h4⟩, h5⟩ := f
  obtain ⟨ha, hn, hc, hla, hln, hlc, hm⟩ := h
  have ho := own_below h3 b2
  have hsv : Hd.sv ⟨ha, hn, hc, hla, hln, hlc, hm⟩ = .slice (some ⟨g, 0, none⟩) hn hc := by
    rcases ho.2 with ⟨e, _⟩ | ⟨g', cap, cur, e, _⟩
    · unfold Hd.sv at e; unfold Hd.blk at hg; dsimp only at e hg; rw [e] at hg; cases hg
    · unfold Hd.sv at e ⊢; unfold Hd.blk at hg; dsimp only at e hg ⊢; cases e
      have : g' = g := by simpa [Value.ownBlock] using hg
      rw [this]
  dsimp only at *
  rw [hsv] at ho
  have hlen : O.length = (hn - k) * K.sz := by
    have := ho.1
    rw [List.length_append, K.flat, h1] at this
    rw [Nat.sub_mul]
    omega
  have hO : K.sz ≤ O.length := by rw [hlen]; exact Nat.le_mul_of_pos_left _ (by omega)
  have hn' := own_setCells (K.cel hm x) (xs.flatMap (K.cel hm)) O ho (by rw [K.len]; exact hO)
  rw [K.flat, h1] at hn'
  have hsz := b2.size
  have hsm : ∀ b, some b ≠ Hd.blk ⟨ha, hn, hc, hla, hln, hlc, hm⟩ → b ≠ g := fun b hb e => hb (by rw [e, hg])
  refine ⟨⟨xs ++ [x], O.drop (K.cel hm x).length, by rw [List.length_append, h1]; rfl, by show k + 1 ≤ hn; omega, ?_, ?_⟩, ?_⟩
  · rw [hsv, List.flatMap_append]
    simpa [List.append_assoc] using hn'
  · have hA : Gd K S (Hd.blk ⟨ha, hn, hc, hla, hln, hlc, hm⟩) w2 hm (xs ++ [x]) := (h4.keep b2.size (fun b _ b2' _ => b2.block b b2') (fun _ _ _ e => e)).snoc hx
    exact hA.keep (by rw [size_setCells]; exact Nat.le_refl _) (fun b _ _ hb => heap_setCells_other (hsm b hb) _ _ _) (fun _ _ _ e => e)
  · exact (h5.trans (Tch.of_below b2)).setCells _ _ (.inr hg)
theorem Fl.done {K : Kd} {S : Nat} {h : Hd} {W wr : World} (f : Fl K S h W wr h.n) (hb : ∀ g, h.blk = some g → g < S) : Fil K S wr h := by
  obtain ⟨⟨xs, O, h1, h2, h3, h4⟩, h5⟩ := f
  have hO : O = [] := by
    have := h3.1
    rw [List.length_append, K.flat, h1] at this
    exact List.eq_nil_of_length_eq_zero (by omega)
  subst hO
  rw [List.append_nil] at h3
  exact ⟨xs, h1, h3, h4.keep (Nat.le_refl _) (fun _ _ _ _ => rfl) (fun _ _ _ e => by cases e)⟩
/-- the head of a row, in the same block -/
theorem own_head {K : Kd} {w : World} {a : Option Addr} {n j c m : Nat} {ys : List K.α} (ho : w.ownsRow 0 K.e K.sz (.slice a (n + j) c) (n + j) (ys.flatMap (K.cel m))) (hl : ys.length = n + j) : w.ownsRow 0 K.e K.sz (.slice a n c) n ((ys.take n).flatMap (K.cel m)) := by
  have hlen : ((ys.take n).flatMap (K.cel m)).length = n * K.sz := by rw [K.flat, List.length_take, hl]; congr 1; omega
  refine ⟨hlen, ?_⟩
  rcases ho.2 with ⟨e, e0⟩ | ⟨g, cap, cur, e, hbg, hg, hnc, hcm, hcs, htake⟩
  · left
    obtain ⟨rfl, rfl⟩ : n = 0 ∧ j = 0 := by omega
    exact ⟨e, rfl⟩
  · right
    cases e
    refine ⟨g, c, cur, rfl, hbg, hg, by omega, hcm, hcs, ?_⟩
    have e1 : ys.flatMap (K.cel m) = (ys.take n).flatMap (K.cel m) ++ (ys.drop n).flatMap (K.cel m) := by rw [← List.flatMap_append, List.take_append_drop]
    have e2 : cur.toList.take (n * K.sz) = (cur.toList.take ((n + j) * K.sz)).take (n * K.sz) := by
      rw [List.take_take]
      congr 1
      have := Nat.mul_le_mul_right K.sz (Nat.le_add_right n j)
      omega
    rw [e2, htake, e1, ← hlen]
    exact List.take_left
/-- amid the growing of one list -/
structure Gr (K : Kd) (S : Nat) (h : Hd) (W wr : World) (j : Nat) (lv : Value) (ys : List K.α) : Prop where
  len : ys.length = h.n + j
  own : wr.ownsRow 0 K.e K.sz lv (h.n + j) (ys.flatMap (K.cel h.m))
  gd : Gd K S lv.ownBlock wr h.m ys
  loc : lv = .slice h.a (h.n + j) h.c ∨ ∃ g, lv.ownBlock = some g ∧ W.heap.size ≤ g ∧ ∃ xs : List K.α, xs.length = h.n ∧ wr.ownsRow 0 K.e K.sz h.sv h.n (xs.flatMap (K.cel h.m)) ∧ Gd K S lv.ownBlock wr h.m xs
  tch : Tch (fun g => h.blk = some g) W wr
theorem Gr.start {K : Kd} {S : Nat} {h : Hd} {W : World} (f : Fil K S W h) (hb : ∀ g, h.blk = some g → g < S) : ∃ ys, Gr K S h W W 0 h.sv ys := by
  obtain ⟨xs, h1, h2, h3⟩ := f
  exact ⟨xs, h1, h2, fun x hx => ⟨(h3 x hx).1, fun b e => ⟨((h3 x hx).2 b e).1, ((h3 x hx).2 b e).2.1, fun q => by have := hb b q.symm; have := ((h3 x hx).2 b e).1; omega⟩⟩, .inl rfl, Tch.refl _ _⟩
theorem Gr.step {K : Kd} {S : Nat} {h : Hd} {W wr w2 w4 : World} {j : Nat} {lv v' : Value} {ys : List K.α} (f : Gr K S h W wr j lv ys) (hb : ∀ g, h.blk = some g → g < S) (hSW : S ≤ W.heap.size) (b2 : Below wr.heap.size wr w2) {x : K.α} (hx : K.ok w2 h.m x) (hfp : ∀ b, K.fp x = some b → wr.heap.size ≤ b ∧ b < w2.heap.size) {o : Obj}
    (hown : w4.ownsRow 0 K.e K.sz v' (h.n + j + 1) (ys.flatMap (K.cel h.m) ++ K.cel h.m x))
    (hgr : (w2.alloc o).grownBy w4 lv.ownBlock) (hloc : (∃ b cap, lv = .slice b (h.n + j) cap ∧ v' = .slice b (h.n + j + 1) cap) ∨ (v'.ownBlock = some (w2.alloc o).heap.size ∧ ∀ k, k < (w2.alloc o).heap.size → w4.heap[k]? = (w2.alloc o).heap[k]?)) : Gr K S h W w4 (j + 1) v' (ys ++ [x]) := by
  obtain ⟨h1, h2, h3, h4, h5⟩ := f
  have hA : Below wr.heap.size wr (w2.alloc o) := b2.alloc b2.size _
  have hs3 : (w2.alloc o).heap.size = w2.heap.size + 1 := by simp
  have hs2 := b2.size
  have hs4 := hgr.size
  have hWr := h5.size
  have hlt := fun g (hg : lv.ownBlock = some g) => (h2.lt g hg).2
  have hloc' : v'.ownBlock = lv.ownBlock ∨ v'.ownBlock = some (w2.alloc o).heap.size := by
    rcases hloc with ⟨b, cap, e1, e2⟩ | ⟨l, _⟩
    · left; rw [e1, e2]; exact blk_len _ _ _ _ _
    · exact .inr l
  have hlb : ∀ b, b < W.heap.size → h.blk ≠ some b → some b ≠ lv.ownBlock := fun b hb1 hb2 e => by
    rcases h4 with h4 | ⟨g, g1, g2, _⟩
    · rw [h4, blk_len _ _ _ h.n h.c] at e; exact hb2 e.symm
    · rw [g1] at e; cases e; omega
  -- what stays
  have hstay : ∀ b, b < w2.heap.size → some b ≠ lv.ownBlock → w4.heap[b]? = w2.heap[b]? := fun b hb1 hb2 => by
    rw [hgr.block b (by omega) hb2, Below.heap_alloc _ _ _ hb1]
  have hgw : ∀ zs : List K.α, Gd K S lv.ownBlock wr h.m zs → Gd K S v'.ownBlock w4 h.m zs := fun zs hz =>
    (hz.keep (w' := w4) (ex' := v'.ownBlock) (by omega) (fun b b1 b2' b3 => by rw [hstay b (by omega) b3, b2.block b b2']) (fun b b1 b2' e => by
      rcases hloc' with l | l
      · rw [l] at e; exact e
      · rw [l] at e; cases e; omega))
  have hgx : Gd K S v'.ownBlock w4 h.m [x] := fun z hz => by
    obtain rfl := List.mem_singleton.1 hz
    have hne : ∀ b, K.fp z = some b → some b ≠ lv.ownBlock := fun b e q => by have := hlt b q.symm; have := (hfp b e).1; omega
    refine ⟨K.st h.m z w2 w4 (fun b e => hstay b (hfp b e).2 (hne b e)) hx, fun b e => ⟨by have := (hfp b e).1; omega, by have := (hfp b e).2; omega, fun q => ?_⟩⟩
    rcases hloc' with l | l
    · rw [l] at q; exact hne b e q
    · rw [l] at q; have := (hfp b e).2; cases q; omega
  refine ⟨by rw [List.length_append, h1]; rfl, by rw [List.flatMap_append]; simpa [Nat.add_assoc] using hown, (hgw ys h3).snoc hgx, ?_, ?_⟩
  · rcases hloc with ⟨q, cap, q1, q2⟩ | ⟨l, hk⟩
    · have l : v'.ownBlock = lv.ownBlock := by rw [q1, q2]; exact blk_len _ _ _ _ _
      rcases h4 with h4 | ⟨g, g1, g2, xs, x1, x2, x3⟩
      · left
        rw [q1] at h4
        cases h4
        rw [q2]
        rfl
      · refine .inr ⟨g, l.trans g1, g2, xs, x1, own_of_block x2 (fun g' hg' => ?_), hgw xs x3⟩
        have h6 := hb g' hg'
        rw [hstay g' (by omega) (fun q => by rw [g1] at q; cases q; omega), b2.block g' (by omega)]
    · refine .inr ⟨_, l, by omega, ?_⟩
      have hall : ∀ k, k < wr.heap.size → w4.heap[k]? = wr.heap[k]? := fun k hk' => by rw [hk k (by omega), hA.block k hk']
      rcases h4 with h4 | ⟨g, g1, g2, xs, x1, x2, x3⟩
      · refine ⟨ys.take h.n, by rw [List.length_take, h1]; omega, ?_, (hgw ys h3).take _⟩
        have ho : w4.ownsRow 0 K.e K.sz lv (h.n + j) (ys.flatMap (K.cel h.m)) := own_of_block h2 (fun g hg => hall g (hlt g hg))
        rw [h4] at ho
        exact own_head ho h1
      · exact ⟨xs, x1, own_of_block x2 (fun g' hg' => hall g' (by have h6 := hb g' hg'; omega)), hgw xs x3⟩
  · exact ⟨hgr.os.trans (hA.os.trans h5.os), hgr.tape.trans (hA.tape.trans h5.tape), hgr.output.trans (hA.output.trans h5.output), by omega, fun g hg hn => by rw [hgr.block g (by omega) (hlb g hg hn), hA.block g (by omega), h5.block g hg hn]⟩
theorem Gr.done {K : Kd} {S : Nat} {h : Hd} {W wr : World} {a : Option Addr} {c : Nat} {ys : List K.α} (f : Gr K S h W wr 70 (.slice a (h.n + 70) c) ys) (hb : ∀ g, h.blk = some g → g < S) (hSW : S ≤ W.heap.size) : Dn K S wr { h with la := a, ln := h.n + 70, lc := c } := by
  obtain ⟨h1, h2, h3, h4, h5⟩ := f
  have hS := h5.size
  have hd : ∀ zs : List K.α, Gd K S (Value.slice a (h.n + 70) c).ownBlock wr h.m zs → Gd K S none wr h.m zs := fun zs hz => hz.keep (Nat.le_refl _) (fun _ _ _ _ => rfl) (fun _ _ _ e => by cases e)
  refine ⟨rfl, ?_, ⟨ys, h1, ls_own h2, hd _ h3⟩, fun g hg => by have := hb g hg; omega, fun g hg => ⟨(h2.lt g hg).2, ?_⟩⟩
  · rcases h4 with h4 | ⟨g, g1, g2, xs, x1, x2, x3⟩
    · rw [h4] at h2
      exact ⟨ys.take h.n, by rw [List.length_take, h1]; show min h.n _ = h.n; omega, ls_own (own_head h2 h1), (hd _ h3).take _⟩
    · exact ⟨xs, x1, ls_own x2, hd _ x3⟩
  · rcases h4 with h4 | ⟨g', g1, g2, _⟩
    · left
      have h4' : (Value.slice a (h.n + 70) c).ownBlock = some g := hg
      rw [h4, blk_len _ _ _ h.n h.c] at h4'
      exact h4'
    · right
      have : some g' = some g := g1.symm.trans hg
      cases this
      omega
end Go.Proofs.Ytlnhnpfgmiffpaa.BK
end
section
namespace Go.Proofs.Ytlnhnpfgmiffpaa
open Go.RowKit Go.Maps
set_option linter.unusedVariables false
set_option linter.unusedSimpArgs false
attribute [local go_sem ↓] Go.wp_at_zero Go.wp_at_succ

/-- the rows of a list that was there still stand in block g -/
def Hl (g : Nat) (rows : List (List Int)) (w : World) : Prop := ∀ j, j < rows.length * 24 → w.cell? ⟨g, j, none⟩ = (flatR rows)[j]?
theorem Hl.block {g : Nat} {rows : List (List Int)} {w w' : World} (h : Hl g rows w) (e : w'.heap[g]? = w.heap[g]?) : Hl g rows w' := fun j hj => (World.cell?_of_block (w := w) e).trans (h j hj)
theorem hl_of_own {w : World} {B g n cap : Nat} {rows xs : List (List Int)} (h : w.ownsRow B 40 24 (.slice (some ⟨g, 0, none⟩) n cap) n (flatR rows ++ flatR xs)) (ok : ∀ r ∈ rows, r.length = 24) (hn : rows.length ≤ n) : Hl g rows w := fun j hj => by
  rw [h.cellAt j (by omega), List.getElem?_append_left (by rw [flatR_len rows ok]; exact hj)]
theorem Rel.hl {w : World} {B t m g : Nat} {sv : Value} {rows : List (List Int)} {ar gone : Int} (h : Rel w B t m sv rows ar gone) (hg : sv.ownBlock = some g) : Hl g rows w := by
  obtain ⟨a, c, rfl, _⟩ := own_form h.own
  rcases h.own.2 with ⟨e, _⟩ | ⟨g', cap, cur, e, _⟩
  · rw [e] at hg; cases hg
  · cases e
    have : g' = g := by simpa [Value.ownBlock] using hg
    subst this
    have ho : w.ownsRow B 40 24 (.slice (some ⟨g', 0, none⟩) rows.length c) rows.length (flatR rows ++ flatR []) := by
      have := h.own
      simpa [flatR] using this
    exact hl_of_own (xs := []) ho (fun r hr => (h.ok r hr).len) (Nat.le_refl _)
theorem step_append_own2 {P : Program} {ops : Array Oper} {o : Oper} {a : Act} {w : World} {K : Act → World → Prop} {Q : Exit → Act → World → Prop} {E : Prop}
    (hg : o.guard = none) (s x : Operand) (t : TypeId) (hop : o.op = Op.call { callee := Callee.builtin Builtin.append, args := #[s, x], argTypes := #[t, t] })
    (e : TypeId) (i : TypeInfo) (z : Value) (size bytes : Nat) (h1 : P.underlying t = some (.slice e)) (h2 : P.info? e = some i) (h3 : i.zero = some z) (h4 : i.size = size) (h5 : i.bytes = bytes) (h6 : z.cells.size = size) (h7 : 0 < size)
    (base : Nat) (v : Value) (n : Nat) (xs : List Value) (hs : a.eval s = v) (hown : w.ownsRow base e size v n xs)
    (ad : Addr) (m c : Nat) (news : List Value) (hx : a.eval x = .slice (some ad) m c) (hn : news.length = m * size) (hc : ∀ j u, news[j]? = some u → w.cell? (ad.add j) = some u) (h1c : ∀ u ∈ news, u.oneCell' = true)
    (b1 : n + m ≤ maxLen) (b2 : (n + m) * bytes ≤ 140737488355328) (hbase : base ≤ w.heap.size) (hm : 0 < m)
    (hK : ∀ v' w', w'.ownsRow base e size v' (n + m) (xs ++ news) → w.grownBy w' v.ownBlock → (v'.ownBlock = v.ownBlock ∨ v'.ownBlock = some w.heap.size) → ((∃ b cap, v = .slice b n cap ∧ v' = .slice b (n + m) cap) ∨ ∀ k, k < w.heap.size → w'.heap[k]? = w.heap[k]?) → K (a.put o.dst v') w') :
    if Region.wanted o (yielded ops a.tmps) = true then Oper.wp P o a w K Q else E := by
  have hw : Region.wanted o (yielded ops a.tmps) = true := by simp [Region.wanted, hg]
  rw [if_pos hw]
  obtain ⟨v', w', hrun, r1, r2, r3⟩ := BK.run_append_own2 (P := P) w base t o.type e i z size bytes h1 h2 h3 h4 h5 h6 h7 v n xs hown ad m c news hn hc h1c b1 b2 hbase hm
  unfold Oper.wp
  simp [execOp, hop, resolve, invoke, builtin, hs, hx, hrun, Result.andThen]
  refine hK v' w' r1 r2 ?_ ?_
  · rcases r3 with ⟨b, cap, e1, e2⟩ | ⟨e1, _⟩
    · left; rw [e1, e2]; exact BK.blk_len _ _ _ _ _
    · exact .inr e1
  · rcases r3 with h | ⟨_, h⟩
    · exact .inl h
    · exact .inr h
attribute [-go_sem] loadVar
set_option maxHeartbeats 3200000 in
set_option maxRecDepth 100000 in
theorem put_newP {w : World} {B t m : Nat} {sv : Value} {rows : List (List Int)} {ar gone : Int} (h : Rel w B t m sv rows ar gone) (hB : B ≤ w.heap.size) (hlen : rows.length ≤ 1000000000) (r : List Int) (hr : RowOk r) (hx : r ∉ rows) : Calls Try.prog 40 #[.pointer (some ⟨t, 0, none⟩), rowV r] w fun e w' => e = .returned (.bool true) ∧ RTouch w w' t m sv ∧ ∃ sv', Rel w' B t m sv' (rows ++ [r]) ar gone ∧ (∀ g, sv'.ownBlock = some g → sv.ownBlock = some g ∨ w.heap.size ≤ g) ∧ ∀ g, sv.ownBlock = some g → Hl g rows w' := by
  obtain ⟨i0, hi0, hz0, hz1, hz2⟩ := info_parts infoRowB
  have hb := (Below.refl w.heap.size w).alloc (Nat.le_refl _) (.cells (rowC r) 40)
  have HB := Lib.hid hb
  have HA := Lib.hid (rowAt_new w r)
  have l2 := run_loadRow (rowAt_new w r) hr.len
  have HR := Lib.hid (h.keep hb)
  have HH := Lib.hid (has_any (h.keep hb) r hr false ⟨fun e => (by cases e), fun e => absurd e hx⟩)
  have HX := Lib.hid (And.intro hr hx)
  have HTM := Lib.hid (And.intro (World.rowIs.lt h.rl) h.map.lt)
  clear h hb hx
  unfold rowV at l2 HH ⊢
  go_enter Try.func40, Try.ntmps40
  go_upto_region 1 with fail
  generalize w.alloc (.cells (rowC r) 40) = W at HB HA l2 HR HH ⊢
  go_wp2_with fail
  refine HH.out.mono ?_
  rintro e w1 ⟨rfl, b1⟩
  have HR1 := Lib.hid ((HR.out.keep b1).keep (Below.refl _ _).drew)
  have HA1 := Lib.hid ((HA.out.below b1).below (Below.refl _ _).drew)
  have HB1 := Lib.hid ((HB.out.trans (b1.mono HB.out.size)).drew)
  clear HR HA HB HH b1 l2
  obtain ⟨ao, co, hsv, _⟩ := own_form HR1.out.own
  subst hsv
  have l0 := run_loadRows (HR1.out.rl.at (j := 0) rfl)
  have l1 := run_loadMap (HR1.out.rl.at (j := 1) rfl)
  have l2 := run_loadRow HA1.out HX.out.1.len
  obtain ⟨w2, hput, hm2, ht2⟩ := HR1.out.map.put HX.out.1 HX.out.2
  have HM2 := Lib.hid hm2
  have HT2 := Lib.hid (HR1.out.turned ht2)
  unfold rowV at l2 hput
  have HA2 : Hid (RowAt w2 w.heap.size r) := (ht2.grown.block w.heap.size HA1.out.lt (fun e => by have := HTM.out.2; have := Option.some.inj e; omega)).trans HA1.out
  have HB2 : Hid (RTouch w w2 t m (.slice ao rows.length co)) := (RTouch.of HB1.out).mapTurned ht2
  have HNE := Lib.hid (And.intro HR1.out.lo HR1.out.ne)
  have HND : Hid ((rows ++ [r]).Nodup ∧ ∀ x ∈ rows ++ [r], RowOk x) := by
    refine ⟨?_, fun x hx => ?_⟩
    · rw [List.nodup_append]
      exact ⟨HR1.out.nd, by simp, fun a ha b hb => by rw [List.mem_singleton.1 hb]; exact fun e => HX.out.2 (e ▸ ha)⟩
    · rcases List.mem_append.1 hx with hx | hx
      · exact HR1.out.ok x hx
      · rw [List.mem_singleton.1 hx]; exact HX.out.1
  have HBZ : Hid (B ≤ w2.heap.size) := by show _ ≤ _; have := HB2.out.size; omega
  clear hm2 ht2 HTM
  go_upto_region 3 with fail
  go_cut [8] (fun _ wc => wc = w2)
  case first =>
    go_region
    all_goals
      go_wp2_with fail
      go_meet
      exact rfl
  case rest =>
    subst hcut
    have hd : Below wc.heap.size wc wc.drew := (Below.refl _ _).drew
    have hau : Below wc.drew.heap.size wc.drew (wc.drew.alloc (.cells (rowC r) 40)) := (Below.refl _ _).alloc (Nat.le_refl _) _
    have HRL := Lib.hid (HT2.out.1.below hd)
    have HOW := Lib.hid (own_below HT2.out.2 hd)
    have HOWN := Lib.hid (own_below (own_below HT2.out.2 hd) hau)
    have HMP := Lib.hid (HM2.out.below hd)
    have HAU := Lib.hid hau
    have HSZ : Hid (B ≤ (wc.drew.alloc (.cells (rowC r) 40)).heap.size) := by show _ ≤ _; have := HBZ.out; simp; omega
    have HBZ' : Hid (B ≤ wc.drew.heap.size) := HBZ.out
    have HBW : Hid (RTouch w wc.drew t m (.slice ao rows.length co)) := HB2.out.trans (RTouch.of (Below.refl _ _).drew)
    have l0' := run_loadRows (HRL.out.at (j := 0) rfl)
    have l0'' : (loadVar 49 ⟨t, 0, none⟩).run Try.prog (wc.alloc (.cells (List.map cellI r).toArray 40)).drew = .ok (.slice ao rows.length co) (wc.alloc (.cells (List.map cellI r).toArray 40)).drew := run_loadRows ((HRL.out.below hau).at (j := 0) rfl)
    have l2' := run_loadRow (HA2.out.below hd) HX.out.1.len
    have hrl : (r.map cellI).length = 1 * 24 := by rw [List.length_map, HX.out.1.len]
    have HC : Hid (∀ (j : Nat) (u : Value), (r.map cellI)[j]? = some u → (wc.drew.alloc (.cells (rowC r) 40)).cell? ((⟨wc.heap.size, 0, none⟩ : Addr).add j) = some u) := fun j u hu => lit_news wc.drew (rowC r) 40 j u (by simpa using hu)
    have HONE : Hid (∀ u ∈ r.map cellI, u.oneCell' = true) := fun u hu => by
      obtain ⟨x, _, rfl⟩ := List.mem_map.1 hu
      rfl
    have hfold := fold_row HX.out.1.len (A := #[.int .i32 0, .int .i32 0, .int .i32 0, .int .i32 0, .int .i32 0, .int .i32 0, .int .i32 0, .int .i32 0, .int .i32 0, .int .i32 0, .int .i32 0, .int .i32 0, .int .i32 0, .int .i32 0, .int .i32 0, .int .i32 0, .int .i32 0, .int .i32 0, .int .i32 0, .int .i32 0, .int .i32 0, .int .i32 0, .int .i32 0, .int .i32 0]) rfl
    unfold rowV at l2'
    clear hd hau l0 l1 l2 hput HM2 HT2 HA2 HB2 HBZ HA1 HB1 HR1
    go_upto_region 4 with fail
    go_region_law (
      refine step_append_own2 rfl (.tmp 22) (.tmp 24) 49 rfl 40 i0 _ 24 96 Try.underlying49 hi0 hz0 hz1 hz2 rfl (by decide) B (.slice ao rows.length co) rows.length _ (by simp [Act.eval, Act.put]) HOWN.out ⟨wc.heap.size, 0, none⟩ 1 1 (r.map cellI) (by simp [Act.eval, Act.put]) hrl HC.out HONE.out (by unfold maxLen; omega) (by omega) HSZ.out (by decide) ?_
      intro v' w3 hown' hgrow hloc hst
      have HHL : Hid (∀ g, (Value.slice ao rows.length co).ownBlock = some g → Hl g rows (w3.setCell ⟨t, 0, none⟩ v')) := fun g hg => by
        refine Hl.block (w := w3) ?_ (heap_setCell_other _ _ _ _ (by exact (HNE.out.2.2 g hg).1))
        obtain ⟨og, rfl⟩ : ∃ og, ao = some og := by
          cases ao with
          | none => cases hg
          | some og => exact ⟨og, rfl⟩
        rcases hst with ⟨b, cap, e1, e2⟩ | e1
        · injection e1 with q1 q2 q3
          subst q1
          subst e2
          obtain ⟨_, ⟨q, _⟩ | ⟨g', cap', cur, q, _⟩⟩ := id hown'
          · cases q
          · injection q with q1 q2 q3
            have hgg : g' = g := by rw [q1] at hg; simpa [Value.ownBlock] using hg
            subst hgg
            rw [q1] at hown'
            have e9 : flatR [r] = List.map cellI r := by simp [flatR]
            rw [← e9] at hown'
            exact hl_of_own (xs := [r]) hown' (fun x hx => (HND.out.2 x (List.mem_append_left _ hx)).len) (Nat.le_succ _)
        · refine Hl.block (w := wc.drew.alloc (.cells (rowC r) 40)) ?_ (e1 g ((HOWN.out.lt g hg).2))
          obtain ⟨_, ⟨q, _⟩ | ⟨g', cap', cur, q, _⟩⟩ := id HOWN.out
          · cases q
          · injection q with q1 q2 q3
            have hgg : g' = g := by rw [q1] at hg; simpa [Value.ownBlock] using hg
            subst hgg
            have ho := HOWN.out
            rw [q1] at ho
            have ho2 : (wc.drew.alloc (.cells (rowC r) 40)).ownsRow B 40 24 (.slice (some ⟨g', 0, none⟩) rows.length co) rows.length (flatR rows ++ flatR []) := by
              simpa [flatR] using ho
            exact hl_of_own (xs := []) ho2 (fun x hx => (HND.out.2 x (List.mem_append_left _ hx)).len) (Nat.le_refl _)
      clear hst
      obtain ⟨hfin, m4, f4, hbf⟩ := rel_growT HRL.out HOW.out HMP.out HAU.out hown' hgrow hloc HND.out.1 HND.out.2 HNE.out.1 HNE.out.2 HBZ'.out
      obtain ⟨a2, c2, hv', _⟩ := own_form hown'
      subst hv'
      have HFIN := Lib.hid hfin
      have HBF := Lib.hid hbf
      have HLOC := Lib.hid hloc
      clear hown' hgrow hloc hfin hbf)
    all_goals
      go_wp2
      go_ret
      refine ⟨rfl, HBW.out.trans HBF.out, _, HFIN.out, fun g hg => ?_, HHL.out⟩
      rcases HLOC.out with e | e
      · exact .inl (e ▸ hg)
      · rw [e] at hg
        have h1 := Option.some.inj hg
        have h2 := HBW.out.size
        simp at h1 h2
        exact .inr (by omega)
set_option maxHeartbeats 3200000 in
set_option maxRecDepth 100000 in
theorem add_anyP {w : World} {B t m : Nat} {sv : Value} {rows : List (List Int)} {ar gone : Int} (h : Rel w B t m sv rows ar gone) (hB : B ≤ w.heap.size) (hlen : rows.length ≤ 1000000000) (r : List Int) (hr : RowOk r) :
    Calls Try.prog 16 #[.pointer (some ⟨t, 0, none⟩), rowV r] w fun e w' =>
      (fitB r ar = false ∧ e = .returned (.tuple #[.bool false, .int .i64 100]) ∧ Below w.heap.size w w') ∨
      (fitB r ar = true ∧ r ∈ rows ∧ e = .returned (.tuple #[.bool false, .int .i64 0]) ∧ Below w.heap.size w w') ∨
      (fitB r ar = true ∧ r ∉ rows ∧ e = .returned (.tuple #[.bool true, .int .i64 0]) ∧ RTouch w w' t m sv ∧ ∃ sv', Rel w' B t m sv' (rows ++ [r]) ar gone ∧ (∀ g, sv'.ownBlock = some g → sv.ownBlock = some g ∨ w.heap.size ≤ g) ∧ ∀ g, sv.ownBlock = some g → Hl g rows w') := by
  have hb := (Below.refl w.heap.size w).alloc (Nat.le_refl _) (.cells (rowC r) 40)
  have HB := Lib.hid hb
  have HA := Lib.hid (rowAt_new w r)
  have HR := Lib.hid (h.keep hb)
  have HT := Lib.hid (there_yes (h.keep hb))
  have HX := Lib.hid hr
  have hzW : w.heap.size ≤ (w.alloc (.cells (rowC r) 40)).heap.size := by simp
  clear h hb
  unfold rowV
  go_enter Try.func16, Try.ntmps16
  go_upto_region 1 with fail
  generalize w.alloc (.cells (rowC r) 40) = W at HB HA HR HT hzW ⊢
  go_wp2_with fail
  refine HT.out.mono ?_
  rintro e w1 ⟨rfl, rfl⟩
  have HR1 := Lib.hid (HR.out.keep (Below.refl _ _).drew)
  have HA1 := Lib.hid (HA.out.below (Below.refl _ _).drew)
  have l1 := run_loadInt (HR1.out.rl.at (j := 2) rfl)
  have l2 := run_loadRow HA1.out HX.out.len
  unfold rowV at l2
  have HF := fun u => Lib.hid (fits_any r HX.out.len ar u)
  unfold rowV at HF
  clear HT
  go_upto_region 3 with fail
  go_region_law (
    refine step_call rfl 39 Try.func39 (by kernel_rfl) (by kernel_rfl) #[.tmp 9, .tmp 13] _ rfl #[.agg (List.map cellI r).toArray, .int .i64 ar] (by simp [Act.eval, Act.put]) (HF _).out ?_
    rintro ee w2 ⟨rfl, b2⟩
    refine ⟨_, rfl, ?_⟩
    have HB2 := Lib.hid b2
    clear b2)
  all_goals
    have HR2 := Lib.hid ((HR1.out.keep HB2.out).keep (Below.refl _ _).drew)
    have HA2 := Lib.hid ((HA1.out.below HB2.out).below (Below.refl _ _).drew)
    have HBW := Lib.hid (HB.out.drew.trans (HB2.out.mono HB.out.drew.size))
    have hzz : Hid (B ≤ w2.drew.heap.size) := by show _ ≤ _; have := HBW.out.size; show B ≤ w2.heap.size; omega
    have l2' := run_loadRow HA2.out HX.out.len
    unfold rowV at l2'
    clear l1 l2 HR1 HA1 HB2 HF HB HA HR
    cases hf : fitB r ar with
    | false =>
      go_wp2
      go_ret2
      exact .inl ⟨hf, rfl, HBW.out⟩
    | true =>
      by_cases hm : r ∈ rows
      · have HP := Lib.hid (put_old HR2.out r HX.out hm)
        unfold rowV at HP
        have HM := Lib.hid hm
        clear HR2 HA2 hm
        go_upto_region 5 with fail
        go_region_law (
          refine step_call rfl 40 Try.func40 (by kernel_rfl) (by kernel_rfl) #[.tmp 18, .tmp 19] _ rfl #[.pointer (some ⟨t, 0, none⟩), .agg (List.map cellI r).toArray] (by simp [Act.eval, Act.put]) HP.out ?_
          rintro ee w3 ⟨rfl, b3⟩
          refine ⟨_, rfl, ?_⟩
          have HB3 := Lib.hid (HBW.out.drew.trans (b3.mono HBW.out.drew.size))
          clear b3)
        all_goals
          go_wp2
          go_ret2
          exact .inr (.inl ⟨hf, HM.out, rfl, HB3.out⟩)
      · have HP := Lib.hid (put_newP HR2.out hzz.out hlen r HX.out hm)
        unfold rowV at HP
        have HM := Lib.hid hm
        clear HR2 HA2 hm
        go_upto_region 5 with fail
        go_region_law (
          refine step_call rfl 40 Try.func40 (by kernel_rfl) (by kernel_rfl) #[.tmp 18, .tmp 19] _ rfl #[.pointer (some ⟨t, 0, none⟩), .agg (List.map cellI r).toArray] (by simp [Act.eval, Act.put]) HP.out ?_
          rintro ee w3 ⟨rfl, b3, sv', hrel, hloc, hhl⟩
          refine ⟨_, rfl, ?_⟩
          have HB3 : Hid (RTouch w w3 t m sv) := (RTouch.of HBW.out.drew).trans b3
          have HRL := Lib.hid hrel
          have HLC := Lib.hid hloc
          have HHL := Lib.hid hhl
          clear b3 hrel hloc hhl)
        all_goals
          go_wp2
          go_ret2
          exact .inr (.inr ⟨hf, HM.out, rfl, HB3.out, sv', HRL.out, fun g hg => (HLC.out g hg).imp id (fun h => Nat.le_trans HBW.out.size h), HHL.out⟩)
theorem add_oneP {w : World} {B t m : Nat} {sv : Value} {rows : List (List Int)} {ar gone : Int} (h : Rel w B t m sv rows ar gone) (hB : B ≤ w.heap.size) (hlen : rows.length ≤ 1000000000) (r : List Int) (hr : RowOk r) :
    Calls Try.prog 16 #[.pointer (some ⟨t, 0, none⟩), rowV r] w fun e w' =>
      e = .returned (.tuple #[.bool (addX rows r ar), .int .i64 (addE r ar)]) ∧ RTouch w w' t m sv ∧ (∀ g, sv.ownBlock = some g → Hl g rows w') ∧ ∃ sv', Rel w' B t m sv' (addRows rows r ar) ar gone ∧ ∀ g, sv'.ownBlock = some g → sv.ownBlock = some g ∨ w.heap.size ≤ g := by
  refine (add_anyP h hB hlen r hr).mono ?_
  rintro e w' (⟨hf, rfl, b⟩ | ⟨hf, hm, rfl, b⟩ | ⟨hf, hm, rfl, b, sv', hr', hl, hh⟩)
  · exact ⟨by simp [addX, addE, hf], RTouch.of b, fun g hg => (h.keep b).hl hg, sv, by simpa [addRows, addX, hf] using h.keep b, fun g hg => .inl hg⟩
  · exact ⟨by simp [addX, addE, hf, hm], RTouch.of b, fun g hg => (h.keep b).hl hg, sv, by simpa [addRows, addX, hf, hm] using h.keep b, fun g hg => .inl hg⟩
  · exact ⟨by simp [addX, addE, hf, hm], b, hh, sv', by simpa [addRows, addX, hf, hm] using hr', hl⟩
end Go.Proofs.Ytlnhnpfgmiffpaa
end
