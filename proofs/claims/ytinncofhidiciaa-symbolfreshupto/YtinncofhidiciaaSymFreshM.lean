import Derived.Test.YtinncofhidiciaaSymBack
namespace Go.Proofs.Ytinncofhidiciaa
open Go.RowKit Go.Maps Go.ChangeMaps
set_option linter.unusedVariables false
set_option linter.unusedSimpArgs false
attribute [local go_sem ↓] Go.wp_at_zero Go.wp_at_succ

/-- a row of values that the table has already -/
theorem rowAll_in {most : Int} {vs xs : List V} (ok : ∀ x ∈ xs, chk x.k x.n x.s = 0) (hin : ∀ x ∈ xs, x ∈ vs) : rowAll most vs xs = ⟨xs.map (symOf vs), vs, 0⟩ := by
  have key : ∀ (l : List V) (ss : List Nat), (∀ x ∈ l, chk x.k x.n x.s = 0) → (∀ x ∈ l, x ∈ vs) → l.foldl (rowStep most) ⟨ss, vs, 0⟩ = ⟨ss ++ l.map (symOf vs), vs, 0⟩ := by
    intro l
    induction l with
    | nil => intro ss _ _; simp
    | cons x l ih =>
      intro ss h1 h2
      have hc := h1 x List.mem_cons_self
      have hm := h2 x List.mem_cons_self
      have e : rowStep most ⟨ss, vs, 0⟩ x = ⟨ss ++ [symOf vs x], vs, 0⟩ := by
        unfold rowStep addE addS addV
        simp [hc, hm]
      rw [List.foldl_cons, e, ih _ (fun z hz => h1 z (List.mem_cons_of_mem _ hz)) (fun z hz => h2 z (List.mem_cons_of_mem _ hz))]
      simp
  simpa [rowAll] using key xs [] ok hin

/-- Row, of a list that lies ahead of the table -/
theorem trow_ahead {w : World} {B t : Nat} {vs : List V} {most : Int} (h : Table w B t vs most) (xs : List V) (a : Option Addr) (c : Nat) (hv : Lv w (.slice a xs.length c) xs) (hx : xs.length ≤ 24)
    (hD : ∀ g off, a = some ⟨g, off, none⟩ → g < B) (hroom : vs.length ≤ 2147483600) (hok : (rowAll most vs xs).err = 0) :
    Calls Try.prog 21 #[.pointer (some ⟨t, 0, none⟩), .slice a xs.length c] w fun e w' => ∃ C, e = .returned (.tuple #[.agg C, .int .i64 0]) ∧ C.size = 24 ∧ (∀ i, i < 24 → C[i]? = some (rowN (rowAll most vs xs).ss (fun _ => .int .i32 0) i)) ∧ Table w' B t (rowAll most vs xs).vs most ∧ Below B w w' := by
  obtain ⟨m, sv, T, r1, r2, r3⟩ := h
  refine (row_ok T xs a c hv hx (fun g off e => by
    have h1 := hD g off e
    exact ⟨by omega, by omega, fun e2 => by have := r3 g e2; omega⟩) hroom hok).mono ?_
  rintro e w' ⟨C, sv', he, h1, h2, T', U⟩
  obtain ⟨h3, h4⟩ := Table.touch T r1 r2 r3 T' U
  exact ⟨C, he, h1, h2, h3, h4⟩

/-- 24 cells, written out -/
def litC (f : Nat → Value) : Array Value := #[f 0, f 1, f 2, f 3, f 4, f 5, f 6, f 7, f 8, f 9, f 10, f 11, f 12, f 13, f 14, f 15, f 16, f 17, f 18, f 19, f 20, f 21, f 22, f 23]
theorem litC_eq {C : Array Value} {f : Nat → Value} (h1 : C.size = 24) (h2 : ∀ i, i < 24 → C[i]? = some (f i)) : C = litC f := by
  apply Array.ext_getElem?
  intro i
  by_cases h : i < 24
  · rw [h2 i h]
    have : i = 0 ∨ i = 1 ∨ i = 2 ∨ i = 3 ∨ i = 4 ∨ i = 5 ∨ i = 6 ∨ i = 7 ∨ i = 8 ∨ i = 9 ∨ i = 10 ∨ i = 11 ∨ i = 12 ∨ i = 13 ∨ i = 14 ∨ i = 15 ∨ i = 16 ∨ i = 17 ∨ i = 18 ∨ i = 19 ∨ i = 20 ∨ i = 21 ∨ i = 22 ∨ i = 23 := by omega
    rcases this with rfl | rfl | rfl | rfl | rfl | rfl | rfl | rfl | rfl | rfl | rfl | rfl | rfl | rfl | rfl | rfl | rfl | rfl | rfl | rfl | rfl | rfl | rfl | rfl <;> rfl
  · rw [Array.getElem?_eq_none (by omega), Array.getElem?_eq_none (by show 24 ≤ i; omega)]

/-- how long the i-th list is -/
def fourN (L k i : Nat) : Nat := if i % 2 = 0 then L else k
/-- the four lists' cells, the first q of them written -/
def fourC (bs ns : Nat → Nat) (q : Nat) : Nat → Value := fun i => if i < q then .slice (some ⟨bs i, 0, none⟩) (ns i) (ns i) else .slice none 0 0

/-- the world when the four lists are asked for -/
def freshWorld (w : World) (C : Array Value) (L k : Nat) : World := ((w.alloc (.cells C 43)).alloc (.cells #[.int .i64 L, .int .i64 k, .int .i64 L, .int .i64 k] 76)).alloc (.cells #[.slice none 0 0, .slice none 0 0, .slice none 0 0, .slice none 0 0] 77)
theorem freshWorld_size (w : World) (C : Array Value) (L k : Nat) : (freshWorld w C L k).heap.size = w.heap.size + 3 := by simp [freshWorld]
theorem freshWorld_below (w : World) (C : Array Value) (L k : Nat) : Below w.heap.size w (freshWorld w C L k) :=
  (((Below.refl _ _).alloc (Nat.le_refl _) _).alloc (by simp) _).alloc (by simp; omega) _
theorem freshWorld_C (w : World) (C : Array Value) (L k : Nat) : (freshWorld w C L k).heap[w.heap.size]? = some (.cells C 43 (0, 0)) := by
  unfold freshWorld
  rw [Below.heap_alloc _ _ _ (by simp; omega), Below.heap_alloc _ _ _ (by simp)]
  exact heap_alloc_new w _
theorem freshWorld_sizes (w : World) (C : Array Value) (L k : Nat) {q : Nat} (hq : q < 4) : (freshWorld w C L k).cell? ⟨w.heap.size + 1, q, none⟩ = some (.int .i64 (fourN L k q)) := by
  unfold freshWorld
  have e : (w.alloc (.cells C 43)).heap.size = w.heap.size + 1 := by simp
  have h : (((w.alloc (.cells C 43)).alloc (.cells #[.int .i64 L, .int .i64 k, .int .i64 L, .int .i64 k] 76)).alloc (.cells #[.slice none 0 0, .slice none 0 0, .slice none 0 0, .slice none 0 0] 77)).heap[w.heap.size + 1]? = some (.cells #[.int .i64 L, .int .i64 k, .int .i64 L, .int .i64 k] 76 (0, 0)) := by
    rw [Below.heap_alloc _ _ _ (by simp)]
    have := heap_alloc_new (w.alloc (.cells C 43)) (.cells #[.int .i64 L, .int .i64 k, .int .i64 L, .int .i64 k] 76)
    rw [e] at this
    exact this
  simp only [World.cell?]
  rw [h]
  obtain rfl | rfl | rfl | rfl : q = 0 ∨ q = 1 ∨ q = 2 ∨ q = 3 := by omega
  all_goals rfl
theorem freshWorld_lists (w : World) (C : Array Value) (L k : Nat) (bs ns : Nat → Nat) : (freshWorld w C L k).rowIs (w.heap.size + 1 + 1) 77 4 (fourC bs ns 0) := by
  have h := World.rowIs_alloc ((w.alloc (.cells C 43)).alloc (.cells #[.int .i64 L, .int .i64 k, .int .i64 L, .int .i64 k] 76)) #[.slice none 0 0, .slice none 0 0, .slice none 0 0, .slice none 0 0] 77 (fourC bs ns 0) (fun i hi => by
    obtain rfl | rfl | rfl | rfl : i = 0 ∨ i = 1 ∨ i = 2 ∨ i = 3 := by simp at hi; omega
    all_goals rfl)
  have e : ((w.alloc (.cells C 43)).alloc (.cells #[.int .i64 L, .int .i64 k, .int .i64 L, .int .i64 k] 76)).heap.size = w.heap.size + 1 + 1 := by simp
  rw [e] at h
  exact h

/-- the first q of the four lists, each in a row of its own -/
structure Four (w : World) (base q : Nat) (bs ns : Nat → Nat) (f : Nat → Nat → V) : Prop where
  row : ∀ i, i < q → w.rowIs (bs i) 39 (ns i * 3) (rowV (f i) (ns i))
  lo : ∀ i, i < q → base ≤ bs i
  mono : ∀ i j, i < j → j < q → bs i < bs j
theorem Four.blocks {w w' : World} {base q : Nat} {bs ns : Nat → Nat} {f : Nat → Nat → V} (h : Four w base q bs ns f) (hb : ∀ k, base ≤ k → k < w.heap.size → w'.heap[k]? = w.heap[k]?) : Four w' base q bs ns f :=
  ⟨fun i hi => (h.row i hi).of_block (hb _ (h.lo i hi) (h.row i hi).lt), h.lo, h.mono⟩
theorem Four.snoc {w : World} {base q b : Nat} {bs ns : Nat → Nat} {f : Nat → Nat → V} (h : Four w base q bs ns f) (hb : w.rowIs b 39 (ns q * 3) (rowV (f q) (ns q))) (hlo : base ≤ b) (hgt : ∀ i, i < q → bs i < b) : Four w base (q + 1) (fun i => if i = q then b else bs i) ns f := by
  refine ⟨fun i hi => ?_, fun i hi => ?_, fun i j hij hj => ?_⟩
  · by_cases e : i = q
    · subst e; rw [if_pos rfl]; exact hb
    · rw [if_neg e]; exact h.row i (by omega)
  · by_cases e : i = q
    · subst e; simp only [if_pos]; exact hlo
    · simp only [if_neg e]; exact h.lo i (by omega)
  · by_cases e : j = q
    · subst e
      simp only [if_pos, if_neg (show ¬ i = j by omega)]
      exact hgt i hij
    · simp only [if_neg e, if_neg (show ¬ i = q by omega)]
      exact h.mono i j hij (by omega)
theorem fourC_step (bs ns : Nat → Nat) (q b i : Nat) : (if i = q then Value.slice (some ⟨b, 0, none⟩) (ns q) (ns q) else fourC bs ns q i) = fourC (fun i => if i = q then b else bs i) ns (q + 1) i := by
  unfold fourC
  by_cases e : i = q
  · subst e; simp
  · rw [if_neg e]
    by_cases h : i < q
    · rw [if_pos h, if_pos (by omega)]
      simp only [if_neg e]
    · rw [if_neg h, if_neg (by omega)]

theorem range_take {vs : List V} {m : Nat} (h : m ≤ vs.length) : (List.range m).map (atV vs) = vs.take m := by
  apply List.ext_getElem?
  intro i
  by_cases hi : i < m
  · rw [List.getElem?_map, List.getElem?_range hi, Option.map_some, List.getElem?_take, if_pos hi, atV_eq (by omega), List.getElem?_eq_getElem (by omega)]
  · rw [List.getElem?_eq_none (by simp; omega), List.getElem?_eq_none (by simp; omega)]

def mark5 (i : Nat) : V := ⟨5, i, ⟨#[]⟩⟩
def mark6 (i : Nat) : V := ⟨6, i, ⟨#[]⟩⟩
/-- the lists while they are written over: those ahead of q whole, the q-th up to p -/
def fillF (vs : List V) (q p : Nat) : Nat → Nat → V := fun i j => if i < q then mark5 i else if i = q ∧ j < p then mark5 i else atV vs j

theorem rowV_set (g : Nat → V) (u : V) (n p j : Nat) (hp : p < n) :
    (if j = p * 3 + 2 then Value.string u.s else if j = p * 3 + 1 then .int .i64 u.n else if j = p * 3 then .int .i8 u.k else rowV g n j) = rowV (fun i => if i = p then u else g i) n j := by
  have hb : rowV (fun i => if i = p then u else g i) n j = if j / 3 < n then compV (j % 3) (if j / 3 = p then u else g (j / 3)) else compV (j % 3) V0 := rfl
  rw [hb]
  by_cases e : j / 3 = p
  · have h3 : j = p * 3 ∨ j = p * 3 + 1 ∨ j = p * 3 + 2 := by omega
    rw [if_pos (show j / 3 < n by omega), if_pos e]
    rcases h3 with rfl | rfl | rfl
    · simp [compV]
    · simp [compV, show (p * 3 + 1) % 3 = 1 by omega]
    · simp [compV, show (p * 3 + 2) % 3 = 2 by omega]
  · have n0 : ¬ j = p * 3 := by omega
    have n1 : ¬ j = p * 3 + 1 := by omega
    have n2 : ¬ j = p * 3 + 2 := by omega
    rw [if_neg n2, if_neg n1, if_neg n0, if_neg e]
    rfl
theorem rowV_congr {g h : Nat → V} {n : Nat} (e : ∀ i, i < n → g i = h i) (j : Nat) : rowV g n j = rowV h n j := by
  unfold rowV
  by_cases c : j / 3 < n
  · rw [if_pos c, if_pos c, e _ c]
  · rw [if_neg c, if_neg c]
theorem Four.congr {w : World} {base q : Nat} {bs ns : Nat → Nat} {f g : Nat → Nat → V} (h : Four w base q bs ns f) (e : ∀ i, i < q → ∀ j, j < ns i → f i j = g i j) : Four w base q bs ns g :=
  ⟨fun i hi => (h.row i hi).congr fun j _ => rowV_congr (e i hi) j, h.lo, h.mono⟩
theorem Four.ne {w : World} {base q : Nat} {bs ns : Nat → Nat} {f : Nat → Nat → V} (h : Four w base q bs ns f) {i j : Nat} (hi : i < q) (hj : j < q) (e : i ≠ j) : bs i ≠ bs j := by
  rcases Nat.lt_or_ge i j with c | c
  · have := h.mono i j c hj; omega
  · have := h.mono j i (by omega) hi; omega
/-- one element of the q-th list written over -/
theorem Four.set {w : World} {base n4 : Nat} {bs ns : Nat → Nat} {vs : List V} {q p : Nat} (h : Four w base n4 bs ns (fillF vs q p)) (hq : q < n4) (hp : p < ns q) :
    Four (((w.setCell ⟨bs q, p * 3, none⟩ (.int .i8 5)).setCell ⟨bs q, p * 3 + 1, none⟩ (.int .i64 q)).setCell ⟨bs q, p * 3 + 2, none⟩ (.string ⟨#[]⟩)) base n4 bs ns (fillF vs q (p + 1)) := by
  refine ⟨fun i hi => ?_, h.lo, h.mono⟩
  by_cases e : i = q
  · subst e
    refine ((((h.row i hi).set (p * 3) (.int .i8 5)).set (p * 3 + 1) (.int .i64 i)).set (p * 3 + 2) (.string ⟨#[]⟩)).congr fun j _ => ?_
    have := rowV_set (fillF vs i p i) (mark5 i) (ns i) p j hp
    refine (show _ = _ from this).trans (rowV_congr (fun k _ => ?_) j)
    unfold fillF
    by_cases c : k = p
    · subst c; simp
    · rw [if_neg c]
      by_cases c2 : k < p
      · simp [c2, show k < p + 1 by omega]
      · simp [c2, show ¬ k < p + 1 by omega]
  · have hne := h.ne hi hq e
    have e2 : ∀ k, fillF vs q p i k = fillF vs q (p + 1) i k := fun k => by unfold fillF; simp [e]
    exact ((((h.row i hi).setOther (a := ⟨bs q, p * 3, none⟩) hne _).setOther (a := ⟨bs q, p * 3 + 1, none⟩) hne _).setOther (a := ⟨bs q, p * 3 + 2, none⟩) hne _).congr fun j _ => rowV_congr (fun k _ => e2 k) j

theorem fillF_start (vs : List V) (i j : Nat) : atV vs j = fillF vs 0 0 i j := by unfold fillF; simp
theorem fillF_next (vs : List V) (ns : Nat → Nat) (q i j : Nat) (hj : j < ns i) : fillF vs q (ns q) i j = fillF vs (q + 1) 0 i j := by
  unfold fillF
  by_cases h1 : i < q
  · rw [if_pos h1, if_pos (by omega)]
  · rw [if_neg h1]
    by_cases h2 : i = q
    · subst h2
      rw [if_pos ⟨rfl, hj⟩, if_pos (by omega)]
    · rw [if_neg (fun h => h2 h.1), if_neg (by omega), if_neg (fun h => by omega)]
theorem fillF_end (vs : List V) (i j : Nat) (hi : i < 4) : fillF vs 4 0 i j = mark5 i := by unfold fillF; rw [if_pos hi]

/-- a list gone on with: m marks of the first kind, p of the second -/
def longL (m i p : Nat) : List V := List.replicate m (mark5 i) ++ List.replicate p (mark6 i)
theorem longL_length (m i p : Nat) : (longL m i p).length = m + p := by simp [longL]
theorem longL_snoc (m i p : Nat) : longL m i (p + 1) = longL m i p ++ [mark6 i] := by
  unfold longL
  rw [List.replicate_succ', List.append_assoc]
theorem longL_at (m i p j : Nat) (h : j < m + p) : atV (longL m i p) j = if j < m then mark5 i else mark6 i := by
  rw [atV_eq (by rw [longL_length]; exact h)]
  unfold longL
  by_cases c : j < m
  · rw [if_pos c, List.getElem_append_left (by simpa using c)]
    simp
  · rw [if_neg c, List.getElem_append_right (by simpa using c)]
    simp

theorem flat_row {xs : List V} {j : Nat} {u : Value} (h : (xs.flatMap V.cells)[j]? = some u) : j < xs.length * 3 ∧ u = rowV (atV xs) xs.length j := by
  have hj : j < xs.length * 3 := by
    have := (List.getElem?_eq_some_iff.1 h).1
    rwa [cells_length] at this
  have hd : j / 3 < xs.length := by omega
  obtain ⟨c0, c1, c2⟩ := cells_at hd
  refine ⟨hj, ?_⟩
  unfold rowV
  rw [if_pos hd]
  have : j % 3 = 0 ∨ j % 3 = 1 ∨ j % 3 = 2 := by omega
  rcases this with e | e | e
  · rw [show j / 3 * 3 = j by omega, h] at c0
    rw [e, Option.some.inj c0]
    rfl
  · rw [show j / 3 * 3 + 1 = j by omega, h] at c1
    rw [e, Option.some.inj c1]
    rfl
  · rw [show j / 3 * 3 + 2 = j by omega, h] at c2
    rw [e, Option.some.inj c2]
    rfl

/-- a marked row's cells, as append reads them -/
theorem mark_cells {w : World} {b m i : Nat} (h : w.rowIs b 39 (m * 3) (rowV (fun _ => mark5 i) m)) : ∀ ad, some (⟨b, 0, none⟩ : Addr) = some ad → ∀ (j : Nat) (u : Value), ((longL m i 0).flatMap V.cells)[j]? = some u → w.cell? (ad.add j) = some u := by
  intro ad e j u hu
  cases e
  obtain ⟨hj, e⟩ := flat_row hu
  rw [longL_length, Nat.add_zero] at hj e
  rw [WideShapes.add_plain, Nat.zero_add, h.cell hj, e]
  congr 1
  refine rowV_congr (fun k hk => ?_) j
  rw [longL_at m i 0 k (by omega), if_pos hk]

theorem ownsRow_base {w : World} {base base' : Nat} {e : TypeId} {k : Nat} {sv : Value} {n : Nat} {xs : List Value} (h : w.ownsRow base' e k sv n xs) (hb : base ≤ base') : w.ownsRow base e k sv n xs := by
  obtain ⟨hl, h1 | ⟨g, cap, cur, e, h0, r⟩⟩ := h
  · exact ⟨hl, .inl h1⟩
  · exact ⟨hl, .inr ⟨g, cap, cur, e, Nat.le_trans hb h0, r⟩⟩

/-- the cells of the four long lists -/
def longC (lg : Nat → Value) (q : Nat) (cur : Value) : Nat → Value := fun i => if i < q then lg i else if i = q then cur else .slice none 0 0
structure Long (w : World) (base q : Nat) (ns : Nat → Nat) (lg : Nat → Value) : Prop where
  own : ∀ i, i < q → w.ownsRow base 39 3 (lg i) (ns i + 70) ((longL (ns i) i 70).flatMap V.cells)
  ne : ∀ i j, i < j → j < q → (lg i).ownBlock ≠ (lg j).ownBlock
theorem Long.blocks {w w' : World} {base q : Nat} {ns : Nat → Nat} {lg : Nat → Value} (h : Long w base q ns lg) (hb : ∀ i, i < q → ∀ g, (lg i).ownBlock = some g → w'.heap[g]? = w.heap[g]?) : Long w' base q ns lg :=
  ⟨fun i hi => ownsRow_of_block (h.own i hi) (hb i hi), h.ne⟩
theorem Long.snoc {w : World} {base q : Nat} {ns : Nat → Nat} {lg : Nat → Value} {cur : Value} (h : Long w base q ns lg) (hc : w.ownsRow base 39 3 cur (ns q + 70) ((longL (ns q) q 70).flatMap V.cells)) (hn : ∀ i, i < q → (lg i).ownBlock ≠ cur.ownBlock) : Long w base (q + 1) ns (fun i => if i = q then cur else lg i) := by
  refine ⟨fun i hi => ?_, fun i j hij hj => ?_⟩
  · by_cases e : i = q
    · subst e; simp only [if_pos]; exact hc
    · simp only [if_neg e]; exact h.own i (by omega)
  · by_cases e : j = q
    · subst e
      simp only [if_pos, if_neg (show ¬ i = j by omega)]
      exact hn i hij
    · simp only [if_neg e, if_neg (show ¬ i = q by omega)]
      exact h.ne i j hij (by omega)
theorem longC_set (lg : Nat → Value) (q i : Nat) (cur cur' : Value) : (if i = q then cur' else longC lg q cur i) = longC lg q cur' i := by
  unfold longC
  by_cases e : i = q
  · subst e; simp
  · simp [e]
theorem longC_next (lg : Nat → Value) (q i : Nat) (cur : Value) : longC lg q cur i = longC (fun i => if i = q then cur else lg i) (q + 1) (.slice none 0 0) i := by
  unfold longC
  by_cases e : i = q
  · subst e; simp
  · by_cases c : i < q
    · simp [e, c, show i < q + 1 by omega]
    · simp [e, c, show ¬ i < q + 1 by omega]
end Go.Proofs.Ytinncofhidiciaa
