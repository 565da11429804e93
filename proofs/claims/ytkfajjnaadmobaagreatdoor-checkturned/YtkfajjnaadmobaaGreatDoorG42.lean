import Derived.Test.YtkfajjnaadmobaaGreatDoorLitVarsQ
import Derived.Deep.MidRow
import Derived.Deep.WholeRow
section
namespace Go.Proofs.YtkfajjnaadmobaaGreatDoor
open Go.RowKit Go.Maps
set_option linter.unusedVariables false
set_option linter.unusedSimpArgs false

/-- an argument of a head: its aggregate, its term -/
structure A5 where
  g : Int
  t : T
def A5.cells (x : A5) : List Value := [.int .i8 x.g, .string x.t.v, .int .i8 x.t.a.k, .int .i64 x.t.a.n, .string x.t.a.s]
structure A5.wf (x : A5) : Prop where
  gb : -128 ≤ x.g ∧ x.g ≤ 127
  t : x.t.wf
def A50 : A5 := ⟨0, T0⟩
def atA (l : List A5) (i : Nat) : A5 := l.getD i A50
theorem atA_eq {l : List A5} {i : Nat} (h : i < l.length) : atA l i = l[i] := by simp [atA, List.getD, List.getElem?_eq_getElem h]
def XL0 : XL := ⟨⟨0, noS, [], 0, E0, E0⟩, ⟨none, 0, none, 0, none, 0⟩⟩
def atL (l : List XL) (i : Nat) : XL := l.getD i XL0
theorem atL_eq {l : List XL} {i : Nat} (h : i < l.length) : atL l i = l[i] := by simp [atL, List.getD, List.getElem?_eq_getElem h]
theorem range_below {w w' : World} {g o : Nat} {cs : List Value} (h : w.rangeAt g o cs) (b : Below w.heap.size w w') (hg : g < w.heap.size) : w'.rangeAt g o cs := fun j v hv => by
  rw [b.cell (p := ⟨g, o + j, none⟩) hg]
  exact h j v hv
theorem range_block {w w' : World} {g o : Nat} {cs : List Value} (h : w.rangeAt g o cs) (e : w'.heap[g]? = w.heap[g]?) : w'.rangeAt g o cs := fun j v hv => by
  have : w'.cell? ⟨g, o + j, none⟩ = w.cell? ⟨g, o + j, none⟩ := by unfold World.cell?; rw [e]
  rw [this]
  exact h j v hv
/-- a list in memory: each element's cells -/
theorem ls_range {α : Type} {f : α → List Value} {k : Nat} (hk : ∀ x, (f x).length = k) (z : α) {w : World} {v : Value} {l : List α} (h : Ls w v l.length (l.flatMap f)) :
    ∃ a c, v = .slice a l.length c ∧ l.length ≤ c ∧ c ≤ maxLen ∧ (0 < l.length → ∃ g off, a = some ⟨g, off, none⟩ ∧ g < w.heap.size ∧ ∀ i, i < l.length → w.rangeAt g (off + i * k) (f (l.getD i z))) := by
  obtain ⟨hn, a, c, hv, h1, h2, hc⟩ := h
  refine ⟨a, c, hv, h1, h2, fun h0 => ?_⟩
  obtain ⟨g, off, ha, hg, hf⟩ := hc h0
  refine ⟨g, off, ha, hg, fun i hi j u hu => ?_⟩
  have hj : j < k := by rw [← hk (l.getD i z)]; exact (List.getElem?_eq_some_iff.1 hu).1
  have := hf.elem hk z hi hj hu
  rw [← Nat.add_assoc] at this
  exact this
theorem ls_of_range {α : Type} {f : α → List Value} {k : Nat} (hk0 : 0 < k) (hk : ∀ x, (f x).length = k) (z : α) {w : World} {g c : Nat} {l : List α} (hc1 : l.length ≤ c) (hc2 : c ≤ maxLen) (hg : g < w.heap.size) (h : ∀ i, i < l.length → w.rangeAt g (i * k) (f (l.getD i z))) :
    Ls w (.slice (some ⟨g, 0, none⟩) l.length c) l.length (l.flatMap f) := by
  refine ⟨Nat.le_trans hc1 hc2, _, c, rfl, hc1, hc2, fun _ => ⟨g, 0, rfl, hg, fun i hi => ?_⟩⟩
  have hl := flat_len f k hk l
  have hi2 : i / k < l.length := (Nat.div_lt_iff_lt_mul hk0).2 (by rw [← hl]; exact hi)
  have hm : i % k < k := Nat.mod_lt _ hk0
  have hx := flat_at f k hk z l (i / k) (i % k) hi2 hm
  have he : i / k * k + i % k = i := by rw [Nat.mul_comm]; exact Nat.div_add_mod i k
  rw [he, List.getElem?_eq_getElem hi] at hx
  have := h (i / k) hi2 (i % k) _ hx.symm
  rw [he] at this
  rw [Nat.zero_add]
  exact this
/-- a list of arguments, a list of literals, in memory -/
structure La (w : World) (v : Value) (l : List A5) : Prop where
  lies : Ls w v l.length (l.flatMap A5.cells)
  wf : ∀ t ∈ l, t.wf
structure Lb (w : World) (v : Value) (d : Nat) (l : List XL) : Prop where
  lies : Ls w v l.length (l.flatMap XL.cells)
  each : ∀ y ∈ l, LIs w d y.x y.p
theorem La.below {w w' : World} {v : Value} {l : List A5} (h : La w v l) (b : Below w.heap.size w w') : La w' v l := ⟨h.lies.below b, h.wf⟩
theorem Lb.below {w w' : World} {v : Value} {d : Nat} {l : List XL} (h : Lb w v d l) (b : Below w.heap.size w w') : Lb w' v d l := ⟨h.lies.below b, fun y hy => (h.each y hy).below b⟩
theorem La.form {w : World} {v : Value} {l : List A5} (h : La w v l) : ∃ a c, v = .slice a l.length c ∧ l.length ≤ c ∧ c ≤ maxLen ∧ (0 < l.length → ∃ g off, a = some ⟨g, off, none⟩ ∧ g < w.heap.size ∧ ∀ i, i < l.length → w.rangeAt g (off + i * 5) (atA l i).cells) := ls_range (f := A5.cells) (k := 5) (fun _ => rfl) A50 h.lies
theorem Lb.form {w : World} {v : Value} {d : Nat} {l : List XL} (h : Lb w v d l) : ∃ a c, v = .slice a l.length c ∧ l.length ≤ c ∧ c ≤ maxLen ∧ (0 < l.length → ∃ g off, a = some ⟨g, off, none⟩ ∧ g < w.heap.size ∧ ∀ i, i < l.length → w.rangeAt g (off + i * 16) (atL l i).cells) := ls_range (f := XL.cells) (k := 16) (fun _ => rfl) XL0 h.lies
theorem La.at_wf {w : World} {v : Value} {l : List A5} (h : La w v l) {i : Nat} (hi : i < l.length) : (atA l i).wf := by rw [atA_eq hi]; exact h.wf _ (List.getElem_mem hi)
theorem Lb.at_is {w : World} {v : Value} {d : Nat} {l : List XL} (h : Lb w v d l) {i : Nat} (hi : i < l.length) : LIs w d (atL l i).x (atL l i).p := by rw [atL_eq hi]; exact h.each _ (List.getElem_mem hi)
theorem lat_range {w : World} {g o : Nat} {y : XL} (h : w.rangeAt g o y.cells) : LAt w g o y.x y.p :=
  ⟨h 0 _ rfl, h 1 _ rfl, h 2 _ rfl, h 3 _ rfl, ⟨h 4 _ rfl, h 5 _ rfl, h 6 _ rfl, h 7 _ rfl, h 8 _ rfl, h 9 _ rfl⟩, ⟨h 10 _ rfl, h 11 _ rfl, h 12 _ rfl, h 13 _ rfl, h 14 _ rfl, h 15 _ rfl⟩⟩
theorem XL.val_eq (y : XL) : Value.agg y.cells.toArray = y.x.val y.p := rfl
/-- a rule, and where its lists lie -/
structure R3 where
  pr : ByteArray
  hd : List A5
  bd : List XL
structure RP where
  a : Option Addr
  c : Nat
  ba : Option Addr
  bc : Nat
def R3.cells (r : R3) (p : RP) : List Value := [.string r.pr, .slice p.a r.hd.length p.c, .slice p.ba r.bd.length p.bc]
def R3.val (r : R3) (p : RP) : Value := .agg #[.string r.pr, .slice p.a r.hd.length p.c, .slice p.ba r.bd.length p.bc]
structure RIs (w : World) (d : Nat) (r : R3) (p : RP) : Prop where
  pb : r.pr.size ≤ maxLen
  hl : r.hd.length ≤ 281474976710656
  bl : r.bd.length ≤ 281474976710656
  hd : La w (.slice p.a r.hd.length p.c) r.hd
  bd : Lb w (.slice p.ba r.bd.length p.bc) d r.bd
theorem RIs.below {w w' : World} {d : Nat} {r : R3} {p : RP} (h : RIs w d r p) (b : Below w.heap.size w w') : RIs w' d r p := ⟨h.pb, h.hl, h.bl, h.hd.below b, h.bd.below b⟩
/-- the terms of a rule, in their order -/
def termsR (d : Nat) (r : R3) : List T := r.hd.map A5.t ++ r.bd.flatMap (fun y => termsL d y.x)
/-- is it an argument, a rule as it may be? -/
def argB (x : A5) : Bool := if x.g = 0 then namedB x.t else if x.g = 1 then decide (x.t = T0) else if x.g = 2 ∨ x.g = 3 ∨ x.g = 4 then namedB x.t && !decide (x.t.v = noS) else false
def ruleB (d : Nat) (r : R3) : Bool := nameB r.pr && (decide (r.hd.length ≤ 24) && (decide (r.bd.length ≤ 16) && (r.hd.all argB && (r.bd.all (fun y => litB y.x) && decide ((vsT [] (termsR d r)).length ≤ 24)))))
theorem allA_not {f : A5 → Bool} {l : List A5} {k : Nat} (h : k < l.length) (hn : f (atA l k) = false) : l.all f = false := by
  rw [← Bool.not_eq_true]
  intro ha
  rw [List.all_eq_true] at ha
  rw [atA_eq h] at hn
  rw [ha _ (List.getElem_mem h)] at hn
  cases hn
theorem allA_take {f : A5 → Bool} {l : List A5} {k : Nat} (h : k < l.length) : (l.take (k + 1)).all f = ((l.take k).all f && f (atA l k)) := by
  have e : l.take (k + 1) = l.take k ++ [l[k]] := by rw [List.take_add_one, List.getElem?_eq_getElem h]; rfl
  rw [e, List.all_append, atA_eq h]
  simp
theorem allL_not {f : XL → Bool} {l : List XL} {k : Nat} (h : k < l.length) (hn : f (atL l k) = false) : l.all f = false := by
  rw [← Bool.not_eq_true]
  intro ha
  rw [List.all_eq_true] at ha
  rw [atL_eq h] at hn
  rw [ha _ (List.getElem_mem h)] at hn
  cases hn
theorem allL_take {f : XL → Bool} {l : List XL} {k : Nat} (h : k < l.length) : (l.take (k + 1)).all f = ((l.take k).all f && f (atL l k)) := by
  have e : l.take (k + 1) = l.take k ++ [l[k]] := by rw [List.take_add_one, List.getElem?_eq_getElem h]; rfl
  rw [e, List.all_append, atL_eq h]
  simp
/-- stores of several cells, one behind the other -/
theorem rowIs_setCells {b : Nat} {t : TypeId} {n : Nat} : ∀ (vs : List Value) (o : Nat) (w : World) (f : Nat → Value), w.rowIs b t n f → (w.setCells b o vs).rowIs b t n (fun j => if o ≤ j ∧ j < o + vs.length then vs.getD (j - o) .nilIface else f j)
  | [], o, w, f, h => by
    rw [World.setCells]
    refine World.rowIs.congr h fun j _ => ?_
    rw [if_neg (fun hh => Nat.not_lt.2 hh.1 (by simpa using hh.2))]
  | v :: r, o, w, f, h => by
    rw [World.setCells]
    refine (rowIs_setCells r (o + 1) _ _ (World.rowIs.set h o v)).congr fun j _ => ?_
    by_cases e : j = o
    · subst e
      rw [if_neg (by omega), if_pos rfl, if_pos ⟨Nat.le_refl _, by simp⟩]
      simp [List.getD]
    · by_cases h1 : o + 1 ≤ j ∧ j < o + 1 + r.length
      · rw [if_pos h1, if_pos ⟨by omega, by simp; omega⟩]
        obtain ⟨i, rfl⟩ : ∃ i, j = o + (i + 1) := ⟨j - o - 1, by omega⟩
        rw [show o + (i + 1) - (o + 1) = i by omega, show o + (i + 1) - o = i + 1 by omega]
        simp [List.getD]
      · rw [if_neg h1, if_neg e, if_neg (by simp; omega)]
theorem below_setCells {B : Nat} {w0 : World} {b : Nat} (hb : B ≤ b) : ∀ (vs : List Value) (o : Nat) (w : World), Below B w0 w → Below B w0 (w.setCells b o vs)
  | [], _, _, h => h
  | v :: r, o, w, h => by rw [World.setCells]; exact below_setCells hb r (o + 1) _ (h.setCell (p := ⟨b, o, none⟩) hb _)
theorem size_setCells {b : Nat} : ∀ (vs : List Value) (o : Nat) (w : World), (w.setCells b o vs).heap.size = w.heap.size
  | [], _, _ => rfl
  | v :: r, o, w => by rw [World.setCells, size_setCells r]; simp
theorem heap_setCells_other {b k : Nat} (hk : k ≠ b) : ∀ (vs : List Value) (o : Nat) (w : World), (w.setCells b o vs).heap[k]? = w.heap[k]?
  | [], _, _ => rfl
  | v :: r, o, w => by rw [World.setCells, heap_setCells_other hk r]; exact heap_setCell_other _ _ _ _ hk
theorem twL_setCells {lo d b : Nat} {x : Lit4} {p : LP} (hb : b < lo) : ∀ (vs : List Value) (o : Nat) (w : World), TwL w lo d x p → TwL (w.setCells b o vs) lo d x p
  | [], _, _, h => h
  | v :: r, o, w, h => by rw [World.setCells]; exact twL_setCells hb r (o + 1) _ ⟨h.ts.set hb, h.l.set hb, h.r.set hb⟩
theorem TwL.lower {w : World} {lo lo' d : Nat} (hl : lo' ≤ lo) {x : Lit4} {p : LP} (h : TwL w lo d x p) : TwL w lo' d x p := ⟨h.ts.lower hl, h.l.lower hl, h.r.lower hl⟩
/-- a row of elements of sz cells -/
def rowF (sz : Nat) (U : Nat → List Value) : Nat → Value := fun j => (U (j / sz)).getD (j % sz) .nilIface
theorem rowF_set {w : World} {b sz n k : Nat} {t : TypeId} {U : Nat → List Value} (hsz : 0 < sz) (h : w.rowIs b t n (rowF sz U)) (vs : List Value) (hv : vs.length = sz) : (w.setCells b (k * sz) vs).rowIs b t n (rowF sz (fun i => if i = k then vs else U i)) := by
  refine (rowIs_setCells vs (k * sz) w _ h).congr fun j _ => ?_
  have hdm := Nat.div_add_mod j sz
  have hm := Nat.mod_lt j hsz
  rw [Nat.mul_comm] at hdm
  by_cases e : j / sz = k
  · subst e
    rw [hv, if_pos ⟨by omega, by omega⟩]
    unfold rowF
    show _ = (if j / sz = j / sz then vs else U (j / sz)).getD (j % sz) _
    rw [if_pos rfl, show j - j / sz * sz = j % sz by omega]
  · rw [hv, if_neg]
    · unfold rowF
      show _ = (if j / sz = k then vs else U (j / sz)).getD (j % sz) _
      rw [if_neg e]
    · rintro ⟨h1, h2⟩
      apply e
      refine Nat.div_eq_of_lt_le (by rw [Nat.mul_comm] at h1 ⊢; first | exact h1 | (rw [Nat.mul_comm]; exact h1)) ?_
      rw [Nat.succ_mul]
      omega
theorem rowF_range {w : World} {b sz n m : Nat} {t : TypeId} {U : Nat → List Value} (h : w.rowIs b t n (rowF sz U)) (hn : n = m * sz) {i : Nat} (hi : i < m) (hu : (U i).length = sz) : w.rangeAt b (i * sz) (U i) := fun j v hv => by
  have hj : j < sz := by rw [← hu]; exact (List.getElem?_eq_some_iff.1 hv).1
  have hlt : i * sz + j < n := by
    rw [hn]
    calc i * sz + j < i * sz + sz := by omega
      _ = (i + 1) * sz := by rw [Nat.succ_mul]
      _ ≤ m * sz := Nat.mul_le_mul_right _ hi
  rw [World.rowIs.cell h hlt]
  have e1 : (i * sz + j) / sz = i := by rw [Nat.mul_comm, Nat.mul_add_div (by omega), Nat.div_eq_of_lt hj, Nat.add_zero]
  have e2 : (i * sz + j) % sz = j := by rw [Nat.mul_comm, Nat.mul_add_mod, Nat.mod_eq_of_lt hj]
  unfold rowF
  rw [e1, e2]
  simp [List.getD, hv]
theorem rowF_there {w : World} {b sz n m : Nat} {t : TypeId} {U : Nat → List Value} (h : w.rowIs b t n (rowF sz U)) (hn : n = m * sz) {i : Nat} (hi : i < m) : w.there b (i * sz) sz := fun j hj => by
  have hlt : i * sz + j < n := by
    rw [hn]
    calc i * sz + j < i * sz + sz := by omega
      _ = (i + 1) * sz := by rw [Nat.succ_mul]
      _ ≤ m * sz := Nat.mul_le_mul_right _ hi
  exact ⟨by rw [World.rowIs.cell h hlt]; rfl, World.rowIs.frozen h _⟩
theorem made_row (w : World) (z : Array Value) (t : TypeId) (n : Nat) (hz : 0 < z.size) : (w.alloc (.cells (madeCells z (n * z.size)) t)).rowIs w.heap.size t (n * z.size) (rowF z.size (fun _ => z.toList)) := by
  have h := World.rowIs_alloc w (madeCells z (n * z.size)) t (rowF z.size (fun _ => z.toList)) (fun i hi => by
    rw [size_madeCells] at hi
    have hm := Nat.mod_lt i hz
    simp [madeCells, hi, rowF, List.getD, hm])
  rwa [size_madeCells] at h
theorem oneCells_arg (x : A5) : (A5.cells x).toArray.all (·.oneCell') = true := by simp [A5.cells, Value.oneCell']
theorem oneCells_lit (y : XL) : (XL.cells y).toArray.all (·.oneCell') = true := by simp [XL.cells, Value.oneCell']
end Go.Proofs.YtkfajjnaadmobaaGreatDoor
end
section
namespace Go.Proofs.YtkfajjnaadmobaaGreatDoor
open Go.RowKit Go.Maps
set_option linter.unusedVariables false
set_option linter.unusedSimpArgs false
attribute [local go_sem ↓] Go.wp_at_zero Go.wp_at_succ
attribute [-go_sem] loadVar storeVar

theorem rl_there {w : World} {b : Nat} {t : TypeId} {l : List Value} (h : RL w b t l) : w.there b 0 l.length := fun j hj => by
  rw [Nat.zero_add]
  exact ⟨by rw [World.rowIs.cell h hj]; rfl, World.rowIs.frozen h _⟩
theorem rl_setAll {w : World} {b : Nat} {t : TypeId} {l : List Value} (h : RL w b t l) (vs : List Value) (hv : vs.length = l.length) : RL (w.setCells b 0 vs) b t vs := by
  unfold RL
  rw [hv]
  refine (rowIs_setCells vs 0 w _ h).congr fun j hj => ?_
  rw [if_pos ⟨Nat.zero_le _, by omega⟩, Nat.sub_zero]
/-- what a row holds whose first k elements are written -/
def upC {α : Type} (f : α → List Value) (z : List Value) (U : Nat → α) (k : Nat) : Nat → List Value := fun i => if i < k then f (U i) else z
theorem upC_step {α : Type} (f : α → List Value) (z : List Value) (U : Nat → α) (k : Nat) (y : α) : (fun i => if i = k then f y else upC f z U k i) = upC f z (fun i => if i = k then y else U i) (k + 1) := by
  funext i
  unfold upC
  by_cases e : i = k
  · subst e; simp
  · simp only [if_neg e]
    by_cases h : i < k
    · rw [if_pos h, if_pos (by omega)]
    · rw [if_neg h, if_neg (by omega)]
theorem upC_len {α : Type} {f : α → List Value} {n : Nat} (hf : ∀ x, (f x).length = n) {z : List Value} (hz : z.length = n) (U : Nat → α) (k i : Nat) : (upC f z U k i).length = n := by
  unfold upC
  split
  · exact hf _
  · exact hz
theorem load_Arg {u : World} {g o : Nat} {cs : List Value} (h : u.rangeAt g o cs) (hl : cs.length = 5) : (loadVar 56 ⟨g, o, none⟩).run Tryz.prog u = .ok (.agg cs.toArray) u :=
  run_loadVar_mid u g o _ cs _ h Tryz.underlying56 rfl (by rw [hl]; kernel_rfl)
theorem load_Lit {u : World} {g o : Nat} {cs : List Value} (h : u.rangeAt g o cs) (hl : cs.length = 16) : (loadVar 48 ⟨g, o, none⟩).run Tryz.prog u = .ok (.agg cs.toArray) u :=
  run_loadVar_mid u g o _ cs _ h Tryz.underlying48 rfl (by rw [hl]; kernel_rfl)
set_option maxHeartbeats 1600000 in
theorem markLiteral_any (w : World) (hp : PWt w) : Calls Tryz.prog 25 #[.int .i64 777777] w fun e w' => e = .returned (.agg #[.int .i8 99, .string markW, .slice none 0 0, .int .i8 0, .int .i8 0, .string ⟨#[]⟩, .int .i8 0, .int .i64 0, .string ⟨#[]⟩, .slice none 0 0, .int .i8 0, .string ⟨#[]⟩, .int .i8 0, .int .i64 0, .string ⟨#[]⟩, .slice none 0 0]) ∧ Below w.heap.size w w' := by
  have BA := (Below.refl w.heap.size w).alloc (Nat.le_refl _) (.cells #[.int .i8 0, .string ⟨#[]⟩, .slice none 0 0, .int .i8 0, .int .i8 0, .string ⟨#[]⟩, .int .i8 0, .int .i64 0, .string ⟨#[]⟩, .slice none 0 0, .int .i8 0, .string ⟨#[]⟩, .int .i8 0, .int .i64 0, .string ⟨#[]⟩, .slice none 0 0] 48)
  have HP : Hid _ := tab_below hp BA
  have HR0 : Hid (RL (w.alloc (.cells #[.int .i8 0, .string ⟨#[]⟩, .slice none 0 0, .int .i8 0, .int .i8 0, .string ⟨#[]⟩, .int .i8 0, .int .i64 0, .string ⟨#[]⟩, .slice none 0 0, .int .i8 0, .string ⟨#[]⟩, .int .i8 0, .int .i64 0, .string ⟨#[]⟩, .slice none 0 0] 48)) w.heap.size 48 [.int .i8 0, .string ⟨#[]⟩, .slice none 0 0, .int .i8 0, .int .i8 0, .string ⟨#[]⟩, .int .i8 0, .int .i64 0, .string ⟨#[]⟩, .slice none 0 0, .int .i8 0, .string ⟨#[]⟩, .int .i8 0, .int .i64 0, .string ⟨#[]⟩, .slice none 0 0]) := rl_new w #[.int .i8 0, .string ⟨#[]⟩, .slice none 0 0, .int .i8 0, .int .i8 0, .string ⟨#[]⟩, .int .i8 0, .int .i64 0, .string ⟨#[]⟩, .slice none 0 0, .int .i8 0, .string ⟨#[]⟩, .int .i8 0, .int .i64 0, .string ⟨#[]⟩, .slice none 0 0] 48
  clear hp
  go_enter Tryz.func25, Tryz.ntmps25
  go_wp2_with fail
  refine (word_any _ HP.out).mono ?_
  rintro e w1 ⟨rfl, b1⟩
  have HR : Hid (RL w1 w.heap.size 48 [.int .i8 0, .string ⟨#[]⟩, .slice none 0 0, .int .i8 0, .int .i8 0, .string ⟨#[]⟩, .int .i8 0, .int .i64 0, .string ⟨#[]⟩, .slice none 0 0, .int .i8 0, .string ⟨#[]⟩, .int .i8 0, .int .i64 0, .string ⟨#[]⟩, .slice none 0 0]) := RL.below HR0.out b1
  have B1 : Hid (Below w.heap.size w w1) := BA.trans (b1.mono BA.size)
  clear b1 BA HR0 HP
  generalize hmw : markW = MW
  have HM : Hid _ := hmw
  clear hmw
  have hst : (storeVar 48 ⟨w.heap.size, 0, none⟩ (.agg #[.int .i8 99, .string MW, .slice none 0 0, .int .i8 0, .int .i8 0, .string ⟨#[]⟩, .int .i8 0, .int .i64 0, .string ⟨#[]⟩, .slice none 0 0, .int .i8 0, .string ⟨#[]⟩, .int .i8 0, .int .i64 0, .string ⟨#[]⟩, .slice none 0 0])).run Tryz.prog w1 = .ok () (w1.setCells w.heap.size 0 [.int .i8 99, .string MW, .slice none 0 0, .int .i8 0, .int .i8 0, .string ⟨#[]⟩, .int .i8 0, .int .i64 0, .string ⟨#[]⟩, .slice none 0 0, .int .i8 0, .string ⟨#[]⟩, .int .i8 0, .int .i64 0, .string ⟨#[]⟩, .slice none 0 0]) := run_storeVar_mid w1 _ 0 _ #[.int .i8 99, .string MW, .slice none 0 0, .int .i8 0, .int .i8 0, .string ⟨#[]⟩, .int .i8 0, .int .i64 0, .string ⟨#[]⟩, .slice none 0 0, .int .i8 0, .string ⟨#[]⟩, .int .i8 0, .int .i64 0, .string ⟨#[]⟩, .slice none 0 0] (by have := rl_there HR.out; exact this) (by kernel_rfl) (by simp [Value.oneCell'])
  go_wp2
  refine bodyPost_ret (rl_results Tryz.results25 (v := .agg #[.int .i8 99, .string MW, .slice none 0 0, .int .i8 0, .int .i8 0, .string ⟨#[]⟩, .int .i8 0, .int .i64 0, .string ⟨#[]⟩, .slice none 0 0, .int .i8 0, .string ⟨#[]⟩, .int .i8 0, .int .i64 0, .string ⟨#[]⟩, .slice none 0 0]) rfl (run_loadVar_mid _ _ 0 48 [.int .i8 99, .string MW, .slice none 0 0, .int .i8 0, .int .i8 0, .string ⟨#[]⟩, .int .i8 0, .int .i64 0, .string ⟨#[]⟩, .slice none 0 0, .int .i8 0, .string ⟨#[]⟩, .int .i8 0, .int .i64 0, .string ⟨#[]⟩, .slice none 0 0] _ (RL.range (rl_setAll HR.out [.int .i8 99, .string MW, .slice none 0 0, .int .i8 0, .int .i8 0, .string ⟨#[]⟩, .int .i8 0, .int .i64 0, .string ⟨#[]⟩, .slice none 0 0, .int .i8 0, .string ⟨#[]⟩, .int .i8 0, .int .i64 0, .string ⟨#[]⟩, .slice none 0 0] rfl)) Tryz.underlying48 rfl (by kernel_rfl))) rfl ⟨by rw [HM.out], ?_⟩
  exact below_setCells (Nat.le_refl _) _ _ _ B1.out
theorem infoLit : (Tryz.prog.info? 48).map (fun i => (i.zero, i.size, i.bytes)) = some (some (.agg #[.int .i8 0, .string ⟨#[]⟩, .slice none 0 0, .int .i8 0, .int .i8 0, .string ⟨#[]⟩, .int .i8 0, .int .i64 0, .string ⟨#[]⟩, .slice none 0 0, .int .i8 0, .string ⟨#[]⟩, .int .i8 0, .int .i64 0, .string ⟨#[]⟩, .slice none 0 0]), 16, 216) := by kernel_rfl
theorem run_make_Lit (n : Nat) (hn : n ≤ 1048576) (w : World) :
    (Instr.makeSlice 22 (.int .i64 ((n : Int) + 1)) (.int .i64 ((n : Int) + 1))).run Tryz.prog w = .ok (.slice (some ⟨w.heap.size, 0, none⟩) (n + 1) (n + 1)) (w.alloc (.cells (madeCells #[.int .i8 0, .string ⟨#[]⟩, .slice none 0 0, .int .i8 0, .int .i8 0, .string ⟨#[]⟩, .int .i8 0, .int .i64 0, .string ⟨#[]⟩, .slice none 0 0, .int .i8 0, .string ⟨#[]⟩, .int .i8 0, .int .i64 0, .string ⟨#[]⟩, .slice none 0 0] ((n + 1) * 16)) 48)) := by
  have h := infoLit
  obtain ⟨i, hi, he⟩ := Option.map_eq_some_iff.1 h
  simp only [Prod.mk.injEq] at he
  obtain ⟨h1, h2, h3⟩ := he
  have := run_make (P := Tryz.prog) w 22 48 i _ Tryz.underlying22 hi h1 .i64 .i64 ((n : Int) + 1) ((n : Int) + 1) (by omega) (Int.le_refl _) (by rw [h3]; omega) (by omega)
  rw [this, h2, show ((n : Int) + 1).toNat = n + 1 by omega]
  rfl
theorem store_Lit {u : World} {b o : Nat} {cs : List Value} (h : u.there b o 16) (hl : cs.length = 16) (h1 : cs.toArray.all (·.oneCell') = true) : (storeVar 48 ⟨b, o, none⟩ (.agg cs.toArray)).run Tryz.prog u = .ok () (u.setCells b o cs) :=
  run_storeVar_mid u b o _ cs.toArray (by rw [List.size_toArray, hl]; exact h) (by rw [List.size_toArray, hl]; kernel_rfl) h1
/-- a copy of a list of literals, with a mark behind it -/
structure TwB (w : World) (lo d : Nat) (l : List XL) (a : Option Addr) (c : Nat) : Prop where
  cap : c = l.length + 1
  lies : ∃ g, a = some ⟨g, 0, none⟩ ∧ lo ≤ g ∧ g < w.heap.size ∧ w.rangeAt g (l.length * 16) [.int .i8 99, .string markW, .slice none 0 0, .int .i8 0, .int .i8 0, .string ⟨#[]⟩, .int .i8 0, .int .i64 0, .string ⟨#[]⟩, .slice none 0 0, .int .i8 0, .string ⟨#[]⟩, .int .i8 0, .int .i64 0, .string ⟨#[]⟩, .slice none 0 0] ∧ ∀ i, i < l.length → w.rangeAt g (i * 16) (atL l i).cells
  each : ∀ i, i < l.length → TwL w lo d (atL l i).x (atL l i).p
theorem TwB.below {w w' : World} {lo d : Nat} {l : List XL} {a : Option Addr} {c : Nat} (h : TwB w lo d l a c) (b : Below w.heap.size w w') : TwB w' lo d l a c := by
  obtain ⟨h1, ⟨g, h2, h3, h4, h5, h6⟩, h7⟩ := h
  exact ⟨h1, ⟨g, h2, h3, Nat.lt_of_lt_of_le h4 b.size, range_below h5 b h4, fun i hi => range_below (h6 i hi) b h4⟩, fun i hi => (h7 i hi).below b⟩
theorem TwB.set {w : World} {lo d b j : Nat} {v : Value} (hb : b < lo) {l : List XL} {a : Option Addr} {c : Nat} (h : TwB w lo d l a c) : TwB (w.setCell ⟨b, j, none⟩ v) lo d l a c := by
  obtain ⟨h1, ⟨g, h2, h3, h4, h5, h6⟩, h7⟩ := h
  have e : (w.setCell ⟨b, j, none⟩ v).heap[g]? = w.heap[g]? := heap_setCell_other _ _ _ _ (by show g ≠ b; omega)
  exact ⟨h1, ⟨g, h2, h3, by simpa using h4, range_block h5 e, fun i hi => range_block (h6 i hi) e⟩, fun i hi => twL_setCells hb [v] j w (h7 i hi)⟩
theorem TwB.lower {w : World} {lo lo' d : Nat} (hl : lo' ≤ lo) {l : List XL} {a : Option Addr} {c : Nat} (h : TwB w lo d l a c) : TwB w lo' d l a c := by
  obtain ⟨h1, ⟨g, h2, h3, h4, h5, h6⟩, h7⟩ := h
  exact ⟨h1, ⟨g, h2, Nat.le_trans hl h3, h4, h5, h6⟩, fun i hi => (h7 i hi).lower hl⟩
theorem TwL.toIs {w w0 : World} {lo d : Nat} {x : Lit4} {p q : LP} (h : TwL w lo d x q) (h0 : LIs w0 d x p) (hs : x.ts.length ≤ 1048576) : LIs w d x q :=
  ⟨h0.kb, h0.rb, h0.pb, h0.ln, h.ts.lt h0.ts (Nat.le_trans hs (by decide)), h.l.eis h0.l, h.r.eis h0.r⟩
theorem atL_map {n : Nat} (U : Nat → XL) {i : Nat} (h : i < n) : atL ((List.range n).map U) i = U i := by simp [atL, List.getD, h]
set_option maxHeartbeats 3200000 in
theorem twinLiterals_any (d : Nat) (v : Value) (l : List XL) (w : World) (hp : PWt w) (hs : l.length ≤ 1048576) (hsm : ∀ y ∈ l, smallL d y.x) (hL : Lb w v d l) :
    Calls Tryz.prog 8 #[v] w fun r w' => ∃ a' l', r = .returned (.slice a' l.length (l.length + 1)) ∧ Below w.heap.size w w' ∧ l'.length = l.length ∧ (∀ i, i < l.length → (atL l' i).x = (atL l i).x) ∧ TwB w' w.heap.size d l' a' (l.length + 1) := by
  have HEa : Hid (∀ i, i < l.length → LIs w d (atL l i).x (atL l i).p ∧ smallL d (atL l i).x) := fun i hi => ⟨hL.at_is hi, by rw [atL_eq hi]; exact hsm _ (List.getElem_mem hi)⟩
  obtain ⟨a, c, rfl, hc1, hc2, hk⟩ := hL.form
  have hmk := run_make_Lit l.length hs
  have HK : Hid _ := hk
  have HP : Hid (PWt w) := hp
  clear hk hp hc2 hL hsm
  go_enter Tryz.func8, Tryz.ntmps8
  go_wp2
  go_loopw [4] (fun i wr => ∃ (k : Nat) (U : Nat → XL), k ≤ l.length ∧ i = .int .i64 k ∧ Below w.heap.size w wr ∧ wr.rowIs w.heap.size 48 ((l.length + 1) * 16) (rowF 16 (upC XL.cells [.int .i8 0, .string ⟨#[]⟩, .slice none 0 0, .int .i8 0, .int .i8 0, .string ⟨#[]⟩, .int .i8 0, .int .i64 0, .string ⟨#[]⟩, .slice none 0 0, .int .i8 0, .string ⟨#[]⟩, .int .i8 0, .int .i64 0, .string ⟨#[]⟩, .slice none 0 0] U k)) ∧ Hid (∀ i, i < k → (U i).x = (atL l i).x ∧ TwL wr (w.heap.size + 1) d (U i).x (U i).p)) (fun i _ => l.length - (intOf i).toNat)
  case atStart => exact ⟨0, atL l, Nat.zero_le _, rfl, (Below.refl _ _).alloc (Nat.le_refl _) _, made_row w #[.int .i8 0, .string ⟨#[]⟩, .slice none 0 0, .int .i8 0, .int .i8 0, .string ⟨#[]⟩, .int .i8 0, .int .i64 0, .string ⟨#[]⟩, .slice none 0 0, .int .i8 0, .string ⟨#[]⟩, .int .i8 0, .int .i64 0, .string ⟨#[]⟩, .slice none 0 0] 48 (l.length + 1) (by decide), fun i hi => absurd hi (by omega)⟩
  case round =>
    obtain ⟨k, U, hk, rfl, bel, hrow, HTW⟩ := hrel
    clear hmk
    have HR : Hid (wr.rowIs w.heap.size 48 ((l.length + 1) * 16) (rowF 16 (upC XL.cells [.int .i8 0, .string ⟨#[]⟩, .slice none 0 0, .int .i8 0, .int .i8 0, .string ⟨#[]⟩, .int .i8 0, .int .i64 0, .string ⟨#[]⟩, .slice none 0 0, .int .i8 0, .string ⟨#[]⟩, .int .i8 0, .int .i64 0, .string ⟨#[]⟩, .slice none 0 0] U k))) := hrow
    have hwlt : w.heap.size < wr.heap.size := hrow.lt
    clear hrow
    by_cases hlt : k < l.length
    · have hlt' : (k : Int) < (l.length : Int) := by omega
      obtain ⟨g, off, rfl, hg, hKS⟩ := HK.out (by omega)
      have hld := load_Lit (range_below (hKS k hlt) bel hg) rfl
      obtain ⟨hxL, hxS⟩ := HEa.out k hlt
      have HT : Hid _ := twinLiteral_any d (atL l k).x (atL l k).p wr (tab_below HP.out bel) hxS.1 hxS.2.1.1 hxS.2.2.1 (hxL.below bel)
      rw [XL.val_eq] at hld
      obtain ⟨x, hx⟩ : ∃ x, (atL l k).x = x := ⟨_, rfl⟩
      rw [hx] at hld HT
      have HX : Hid _ := hx
      generalize x.val (atL l k).p = QV at hld HT
      clear hKS hxL hxS hx
      go_wp2_with fail
      refine Calls.mono HT.out ?_
      rintro r w1 ⟨q, rfl, b1, htw⟩
      have HR1 : Hid (w1.rowIs w.heap.size 48 ((l.length + 1) * 16) (rowF 16 (upC XL.cells [.int .i8 0, .string ⟨#[]⟩, .slice none 0 0, .int .i8 0, .int .i8 0, .string ⟨#[]⟩, .int .i8 0, .int .i64 0, .string ⟨#[]⟩, .slice none 0 0, .int .i8 0, .string ⟨#[]⟩, .int .i8 0, .int .i64 0, .string ⟨#[]⟩, .slice none 0 0] U k))) := HR.out.of_block (b1.block _ hwlt)
      have bel1 : Below w.heap.size w w1 := bel.trans (b1.mono bel.size)
      have hst := store_Lit (rowF_there HR1.out rfl (i := k) (by omega)) (cs := XL.cells ⟨x, q⟩) rfl (oneCells_lit _)
      rw [XL.val_eq] at hst
      have HN : Hid ((w1.setCells w.heap.size (k * 16) (XL.cells ⟨x, q⟩)).rowIs w.heap.size 48 ((l.length + 1) * 16) (rowF 16 (upC XL.cells [.int .i8 0, .string ⟨#[]⟩, .slice none 0 0, .int .i8 0, .int .i8 0, .string ⟨#[]⟩, .int .i8 0, .int .i64 0, .string ⟨#[]⟩, .slice none 0 0, .int .i8 0, .string ⟨#[]⟩, .int .i8 0, .int .i64 0, .string ⟨#[]⟩, .slice none 0 0] (fun i => if i = k then ⟨x, q⟩ else U i) (k + 1)))) := by
        have := rowF_set (k := k) (by decide) HR1.out (XL.cells ⟨x, q⟩) rfl
        rw [upC_step] at this
        exact this
      have HBn : Hid (Below w.heap.size w (w1.setCells w.heap.size (k * 16) (XL.cells ⟨x, q⟩))) := below_setCells (Nat.le_refl _) _ _ _ bel1
      have HTn : Hid (∀ i, i < k + 1 → ((fun i => if i = k then (⟨x, q⟩ : XL) else U i) i).x = (atL l i).x ∧ TwL (w1.setCells w.heap.size (k * 16) (XL.cells ⟨x, q⟩)) (w.heap.size + 1) d ((fun i => if i = k then (⟨x, q⟩ : XL) else U i) i).x ((fun i => if i = k then (⟨x, q⟩ : XL) else U i) i).p) := fun i hi => by
        by_cases e : i = k
        · subst e
          simp only [if_true]
          exact ⟨HX.out.symm, twL_setCells (by omega) _ _ _ (htw.lower hwlt)⟩
        · simp only [if_neg e]
          obtain ⟨h1, h2⟩ := HTW.out i (by omega)
          exact ⟨h1, twL_setCells (by omega) _ _ _ (h2.below b1)⟩
      generalize w1.setCells w.heap.size (k * 16) (XL.cells ⟨x, q⟩) = W2 at hst HN HBn HTn
      have hk1 : (k : Int) < (l.length : Int) + 1 := by omega
      have hst2 : (storeVar 48 ⟨w.heap.size, k * 16, none⟩ (x.val q)).run Tryz.prog w1 = .ok () W2 := hst
      obtain ⟨RV, hrv⟩ : ∃ RV, x.val q = RV := ⟨_, rfl⟩
      rw [hrv] at hst2 ⊢
      clear HR hld HT b1 htw HR1 HTW hst hrv
      go_wp2
      go_roundw
      case rel => exact ⟨k + 1, _, by omega, by go_num, HBn.out, HN.out, HTn.out⟩
      case measure => simp [intOf]; omega
    · obtain rfl : k = l.length := by omega
      go_wp2_with fail
      refine (markLiteral_any _ (tab_below HP.out bel)).mono ?_
      rintro r w1 ⟨rfl, b1⟩
      have HR1 : Hid (w1.rowIs w.heap.size 48 ((l.length + 1) * 16) (rowF 16 (upC XL.cells [.int .i8 0, .string ⟨#[]⟩, .slice none 0 0, .int .i8 0, .int .i8 0, .string ⟨#[]⟩, .int .i8 0, .int .i64 0, .string ⟨#[]⟩, .slice none 0 0, .int .i8 0, .string ⟨#[]⟩, .int .i8 0, .int .i64 0, .string ⟨#[]⟩, .slice none 0 0] U l.length))) := HR.out.of_block (b1.block _ hwlt)
      have bel1 : Below w.heap.size w w1 := bel.trans (b1.mono bel.size)
      have hst := store_Lit (rowF_there HR1.out rfl (i := l.length) (by omega)) (cs := [.int .i8 99, .string markW, .slice none 0 0, .int .i8 0, .int .i8 0, .string ⟨#[]⟩, .int .i8 0, .int .i64 0, .string ⟨#[]⟩, .slice none 0 0, .int .i8 0, .string ⟨#[]⟩, .int .i8 0, .int .i64 0, .string ⟨#[]⟩, .slice none 0 0]) rfl (by simp [Value.oneCell'])
      have HN : Hid ((w1.setCells w.heap.size (l.length * 16) [.int .i8 99, .string markW, .slice none 0 0, .int .i8 0, .int .i8 0, .string ⟨#[]⟩, .int .i8 0, .int .i64 0, .string ⟨#[]⟩, .slice none 0 0, .int .i8 0, .string ⟨#[]⟩, .int .i8 0, .int .i64 0, .string ⟨#[]⟩, .slice none 0 0]).rowIs w.heap.size 48 ((l.length + 1) * 16) (rowF 16 (fun i => if i = l.length then [.int .i8 99, .string markW, .slice none 0 0, .int .i8 0, .int .i8 0, .string ⟨#[]⟩, .int .i8 0, .int .i64 0, .string ⟨#[]⟩, .slice none 0 0, .int .i8 0, .string ⟨#[]⟩, .int .i8 0, .int .i64 0, .string ⟨#[]⟩, .slice none 0 0] else upC XL.cells [.int .i8 0, .string ⟨#[]⟩, .slice none 0 0, .int .i8 0, .int .i8 0, .string ⟨#[]⟩, .int .i8 0, .int .i64 0, .string ⟨#[]⟩, .slice none 0 0, .int .i8 0, .string ⟨#[]⟩, .int .i8 0, .int .i64 0, .string ⟨#[]⟩, .slice none 0 0] U l.length i))) := rowF_set (k := l.length) (by decide) HR1.out [.int .i8 99, .string markW, .slice none 0 0, .int .i8 0, .int .i8 0, .string ⟨#[]⟩, .int .i8 0, .int .i64 0, .string ⟨#[]⟩, .slice none 0 0, .int .i8 0, .string ⟨#[]⟩, .int .i8 0, .int .i64 0, .string ⟨#[]⟩, .slice none 0 0] rfl
      have HBn : Hid (Below w.heap.size w (w1.setCells w.heap.size (l.length * 16) [.int .i8 99, .string markW, .slice none 0 0, .int .i8 0, .int .i8 0, .string ⟨#[]⟩, .int .i8 0, .int .i64 0, .string ⟨#[]⟩, .slice none 0 0, .int .i8 0, .string ⟨#[]⟩, .int .i8 0, .int .i64 0, .string ⟨#[]⟩, .slice none 0 0])) := below_setCells (Nat.le_refl _) _ _ _ bel1
      have HTn : Hid (∀ i, i < l.length → (U i).x = (atL l i).x ∧ TwL (w1.setCells w.heap.size (l.length * 16) [.int .i8 99, .string markW, .slice none 0 0, .int .i8 0, .int .i8 0, .string ⟨#[]⟩, .int .i8 0, .int .i64 0, .string ⟨#[]⟩, .slice none 0 0, .int .i8 0, .string ⟨#[]⟩, .int .i8 0, .int .i64 0, .string ⟨#[]⟩, .slice none 0 0]) (w.heap.size + 1) d (U i).x (U i).p) := fun i hi => by
        obtain ⟨h1, h2⟩ := HTW.out i hi
        exact ⟨h1, twL_setCells (by omega) _ _ _ (h2.below b1)⟩
      have hst2 : (storeVar 48 ⟨w.heap.size, l.length * 16, none⟩ (.agg #[.int .i8 99, .string markW, .slice none 0 0, .int .i8 0, .int .i8 0, .string ⟨#[]⟩, .int .i8 0, .int .i64 0, .string ⟨#[]⟩, .slice none 0 0, .int .i8 0, .string ⟨#[]⟩, .int .i8 0, .int .i64 0, .string ⟨#[]⟩, .slice none 0 0])).run Tryz.prog w1 = _ := hst
      clear hst
      generalize w1.setCells w.heap.size (l.length * 16) [.int .i8 99, .string markW, .slice none 0 0, .int .i8 0, .int .i8 0, .string ⟨#[]⟩, .int .i8 0, .int .i64 0, .string ⟨#[]⟩, .slice none 0 0, .int .i8 0, .string ⟨#[]⟩, .int .i8 0, .int .i64 0, .string ⟨#[]⟩, .slice none 0 0] = W2 at hst2 HN HBn HTn
      have hk1 : (l.length : Int) < (l.length : Int) + 1 := by omega
      clear b1 HR bel HR1 HTW
      obtain ⟨MW, hmw⟩ : ∃ MW, markW = MW := ⟨_, rfl⟩
      rw [hmw] at hst2 HN ⊢
      have HM : Hid _ := hmw
      clear hmw
      go_wp2
      go_ret
      have hln : ((List.range l.length).map U).length = l.length := by simp
      refine ⟨some ⟨w.heap.size, 0, none⟩, (List.range l.length).map U, rfl, HBn.out, hln, fun i hi => by rw [atL_map U hi]; exact (HTn.out i hi).1, by rw [hln], ⟨w.heap.size, rfl, Nat.le_refl _, World.rowIs.lt HN.out, ?_, fun i hi => ?_⟩, fun i hi => ?_⟩
      · have := rowF_range HN.out rfl (i := l.length) (by omega) (by rw [if_pos rfl]; rfl)
        rw [if_pos rfl] at this
        rw [HM.out, hln]
        exact this
      · rw [hln] at hi
        rw [atL_map U hi]
        have := rowF_range HN.out rfl (i := i) (by omega) (by simp only [if_neg (show ¬ i = l.length by omega)]; exact upC_len (f := XL.cells) (n := 16) (fun _ => rfl) rfl _ _ _)
        simp only [if_neg (show ¬ i = l.length by omega), upC, if_pos hi] at this
        exact this
      · rw [hln] at hi
        rw [atL_map U hi]
        exact (HTn.out i hi).2.lower (by omega)
end Go.Proofs.YtkfajjnaadmobaaGreatDoor
end
