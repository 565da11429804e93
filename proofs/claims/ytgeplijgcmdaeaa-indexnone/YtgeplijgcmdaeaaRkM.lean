import Derived.Test.YtgeplijgcmdaeaaRkBase
import Derived.Deep.Onto
import Derived.Maps.AppendAt
import Derived.OwnWalk
namespace Go.Proofs.Ytgeplijgcmdaeaa.BK
open Go.RowKit Go.Maps
set_option linter.unusedVariables false
set_option linter.unusedSimpArgs false

/-! a book of lists (pedigreelaw01.Book): what it holds, and that no two of them share memory: for lists of any kind of elements -/
/-- only these blocks may have turned -/
structure Tch (E : Nat → Prop) (w w' : World) : Prop where
  os : w'.os = w.os
  tape : w'.tape = w.tape
  output : w'.output = w.output
  size : w.heap.size ≤ w'.heap.size
  block : ∀ g, g < w.heap.size → ¬ E g → w'.heap[g]? = w.heap[g]?
theorem Tch.refl (E : Nat → Prop) (w : World) : Tch E w w := ⟨rfl, rfl, rfl, Nat.le_refl _, fun _ _ _ => rfl⟩
theorem Tch.trans {E : Nat → Prop} {a b c : World} (h : Tch E a b) (k : Tch E b c) : Tch E a c :=
  ⟨k.os.trans h.os, k.tape.trans h.tape, k.output.trans h.output, Nat.le_trans h.size k.size, fun g hg he => (k.block g (Nat.lt_of_lt_of_le hg h.size) he).trans (h.block g hg he)⟩
theorem Tch.mono {E E' : Nat → Prop} {w w' : World} (h : Tch E w w') (he : ∀ g, g < w.heap.size → E g → E' g) : Tch E' w w' := ⟨h.os, h.tape, h.output, h.size, fun g hg hn => h.block g hg (fun e => hn (he g hg e))⟩
theorem Tch.of_below {E : Nat → Prop} {w w' : World} (h : Below w.heap.size w w') : Tch E w w' := ⟨h.os, h.tape, h.output, h.size, fun g hg _ => h.block g hg⟩
theorem Tch.of_grown {E : Nat → Prop} {w w' : World} {r : Option Nat} (h : w.grownBy w' r) (hr : ∀ g, r = some g → E g) : Tch E w w' := ⟨h.os, h.tape, h.output, h.size, fun g hg hn => h.block g hg (fun e => hn (hr g e.symm))⟩
theorem Tch.setCell {E : Nat → Prop} {w w' : World} (h : Tch E w w') {p : Addr} (hp : w.heap.size ≤ p.block ∨ E p.block) (v : Value) : Tch E w (w'.setCell p v) :=
  ⟨h.os, h.tape, h.output, by simpa using h.size, fun g hg hn => by
    rw [heap_setCell_other _ _ _ _ (fun e => by subst e; rcases hp with hp | hp; omega; exact hn hp)]
    exact h.block g hg hn⟩
theorem Tch.setCells {E : Nat → Prop} {b : Nat} : ∀ (vs : List Value) (o : Nat) {w w' : World}, Tch E w w' → (w.heap.size ≤ b ∨ E b) → Tch E w (w'.setCells b o vs)
  | [], _, _, _, h, _ => h
  | v :: r, o, w, w', h, hb => by rw [World.setCells]; exact Tch.setCells r (o + 1) (h.setCell (p := ⟨b, o, none⟩) hb v) hb
theorem Tch.below {E : Nat → Prop} {w w' : World} {B : Nat} (h : Tch E w w') (hB : B ≤ w.heap.size) (he : ∀ g, g < B → ¬ E g) : Below B w w' := ⟨h.os, h.tape, h.output, h.size, fun g hg => h.block g (by omega) (he g hg)⟩
theorem blk_len (a : Option Addr) (n c m d : Nat) : (Value.slice a n c).ownBlock = (Value.slice a m d).ownBlock := by cases a <;> rfl
def Dj (v v' : Value) : Prop := ∀ g, v.ownBlock = some g → v'.ownBlock ≠ some g
theorem Dj.flip {v v' : Value} (h : Dj v v') : Dj v' v := fun g h1 h2 => h g h2 h1
theorem dj_grow {w : World} {b k n : Nat} {ty : TypeId} {v vb vb' : Value} {xs : List Value} (h : w.ownsRow b ty k v n xs) (hd : Dj v vb) (hloc : vb'.ownBlock = vb.ownBlock ∨ ∃ m, vb'.ownBlock = some m ∧ w.heap.size ≤ m) : Dj v vb' := fun g hg e => by
  rcases hloc with l | ⟨m, l, hm⟩
  · rw [l] at e; exact hd g hg e
  · rw [l] at e
    have := (h.lt g hg).2
    cases e
    omega
theorem ls_block {w w' : World} {v : Value} {n : Nat} {xs : List Value} (h : Ls w v n xs) (hs : w.heap.size ≤ w'.heap.size) (hb : ∀ g, v.ownBlock = some g → w'.heap[g]? = w.heap[g]?) : Ls w' v n xs := by
  obtain ⟨hn, a, c, rfl, h1, h2, hc⟩ := h
  refine ⟨hn, a, c, rfl, h1, h2, fun h0 => ?_⟩
  obtain ⟨g, off, rfl, hg, hf⟩ := hc h0
  refine ⟨g, off, rfl, by omega, fun i hi => ?_⟩
  have e : w'.cell? ⟨g, off + i, none⟩ = w.cell? ⟨g, off + i, none⟩ := by unfold World.cell?; rw [hb g rfl]
  rw [e]
  exact hf i hi
/-- append onto a row of one's own: in place, or into a new block, and then the others stay as they were -/
theorem run_append_own2 {P : Program} (w : World) (base : Nat) (t ty e : TypeId) (i : TypeInfo) (z : Value) (size bytes : Nat) (ht : P.underlying t = some (.slice e)) (hi : P.info? e = some i) (hz : i.zero = some z)
    (hsize : i.size = size) (hby : i.bytes = bytes) (hzs : z.cells.size = size) (hsz : 0 < size)
    (v : Value) (n : Nat) (xs : List Value) (hown : w.ownsRow base e size v n xs)
    (a : Addr) (m c : Nat) (news : List Value) (hl : news.length = m * size) (hnews : ∀ j u, news[j]? = some u → w.cell? (a.add j) = some u) (h1 : ∀ u ∈ news, u.oneCell' = true)
    (h63 : n + m ≤ maxLen) (hbytes : (n + m) * bytes ≤ 140737488355328) (hbase : base ≤ w.heap.size) (hm : 0 < m) :
    ∃ v' w', (Builtin.append_ #[t, t] ty #[v, .slice (some a) m c]).run P w = .ok v' w' ∧ w'.ownsRow base e size v' (n + m) (xs ++ news) ∧ w.grownBy w' v.ownBlock ∧
      ((∃ b cap, v = .slice b n cap ∧ v' = .slice b (n + m) cap) ∨ (v'.ownBlock = some w.heap.size ∧ ∀ k, k < w.heap.size → w'.heap[k]? = w.heap[k]?)) := by
  obtain ⟨v', w', hr, ho, hg, _, hloc⟩ := run_append_own_at (P := P) w base t ty e i z size bytes ht hi hz hsize hby hzs hsz v n xs hown a m c news hl hnews h1 h63 hbytes hbase
  refine ⟨v', w', hr, ho, hg, ?_⟩
  rcases hown.2 with ⟨rfl, rfl⟩ | ⟨g, cap, cur, rfl, hbg, hgg, hnc, hcm, hcs, htake⟩
  · right
    rcases hloc with hloc | hloc
    · exfalso
      rcases ho.2 with ⟨_, e⟩ | ⟨g, cap, cur, rfl, _⟩
      · omega
      · cases hloc
    · exact ⟨hloc, fun k hk => hg.block k hk (fun e => by cases e)⟩
  · by_cases hroom : n + m ≤ cap
    · obtain ⟨w2, hr2, _, _⟩ := run_append_fits (P := P) w base t ty e i size ht hi hsize g n cap xs hown a m c news hl hnews h1 hroom
      rw [hr] at hr2
      injection hr2 with e1 e2
      exact .inl ⟨_, cap, rfl, e1⟩
    · right
      subst hsize hby
      have holds : ∀ j u, xs[j]? = some u → w.cell? ((⟨g, 0, none⟩ : Addr).add j) = some u := hown.cells (g := g) rfl
      have hr2 := run_append_grow (P := P) w t ty e i z ht hi hz ⟨g, 0, none⟩ n cap xs hown.1 holds a m c news hl hnews (by omega) (by simp only [maxLen] at h63; omega) (growslice_fits (by simp only [maxLen] at h63; omega) hbytes)
      rw [hr] at hr2
      injection hr2 with e1 e2
      rw [e1, e2]
      exact ⟨rfl, fun k hk => Below.heap_alloc w.drew _ k hk⟩
/-- storing an element's cells into a row of one's own -/
theorem own_setCells {base : Nat} {e : TypeId} {k g n cap : Nat} : ∀ (vs : List Value) (A O : List Value) {w : World}, w.ownsRow base e k (.slice (some ⟨g, 0, none⟩) n cap) n (A ++ O) → vs.length ≤ O.length → (w.setCells g A.length vs).ownsRow base e k (.slice (some ⟨g, 0, none⟩) n cap) n (A ++ vs ++ O.drop vs.length)
  | [], A, O, w, h, _ => by simpa [World.setCells] using h
  | v :: r, A, [], w, h, hl => absurd hl (by simp)
  | v :: r, A, o :: O, w, h, hl => by
    rw [World.setCells]
    have h1 := (h.stored A.length v).1
    have e1 : (A ++ o :: O).set A.length v = (A ++ [v]) ++ O := by simp
    rw [e1] at h1
    have h2 := own_setCells r (A ++ [v]) O h1 (by simpa using hl)
    rw [List.length_append, List.length_singleton] at h2
    simpa [List.append_assoc] using h2

/-- a list that is held: where it lies, how many there are; the longer one; its number -/
structure Hd where
  a : Option Addr
  n : Nat
  c : Nat
  la : Option Addr
  ln : Nat
  lc : Nat
  m : Nat
def Hd.sv (h : Hd) : Value := .slice h.a h.n h.c
def Hd.lv (h : Hd) : Value := .slice h.la h.ln h.lc
def Hd.cells (h : Hd) : List Value := [.slice h.a h.n h.c, .slice h.la h.ln h.lc, .int .i64 h.m]
def Hd.blk (h : Hd) : Option Nat := (Value.slice h.a h.n h.c).ownBlock
def Hd0 : Hd := ⟨none, 0, 0, none, 0, 0, 0⟩
def atH (l : List Hd) (i : Nat) : Hd := l.getD i Hd0
theorem atH_eq {l : List Hd} {i : Nat} (h : i < l.length) : atH l i = l[i] := by simp [atH, List.getD, List.getElem?_eq_getElem h]
theorem cellsH_one (l : List Hd) : ∀ u ∈ l.flatMap Hd.cells, u.oneCell' = true := by
  intro u hu
  obtain ⟨t, _, ht⟩ := List.mem_flatMap.1 hu
  simp [Hd.cells] at ht
  rcases ht with rfl | rfl | rfl <;> rfl
theorem lenH (l : List Hd) : (l.flatMap Hd.cells).length = l.length * 3 := flat_len Hd.cells 3 (fun _ => rfl) l
/-- a longer list is put down -/
theorem flat_setH : ∀ (l : List Hd) (i : Nat) (a : Option Addr) (n c : Nat), i < l.length → (l.flatMap Hd.cells).set (i * 3 + 1) (.slice a n c) = (l.set i { atH l i with la := a, ln := n, lc := c }).flatMap Hd.cells
  | [], i, _, _, _, h => absurd h (by simp)
  | x :: r, 0, a, n, c, _ => by simp [Hd.cells, atH]
  | x :: r, i + 1, a, n, c, h => by
    have ih := flat_setH r i a n c (by simpa using h)
    have e : atH (x :: r) (i + 1) = atH r i := by simp [atH]
    rw [e, List.flatMap_cons, List.set_cons_succ, List.flatMap_cons, ← ih]
    have h3 : (i + 1) * 3 + 1 = i * 3 + 1 + 1 + 1 + 1 := by omega
    rw [h3]
    rfl

/-- a kind of elements: their marks -/
structure Kd where
  α : Type
  e : TypeId
  sz : Nat
  cel : Nat → α → List Value
  fp : α → Option Nat
  ok : World → Nat → α → Prop
  pos : 0 < sz
  len : ∀ m x, (cel m x).length = sz
  one : ∀ m x u, u ∈ cel m x → u.oneCell' = true
  st : ∀ m x (u u' : World), (∀ b, fp x = some b → u'.heap[b]? = u.heap[b]?) → ok u m x → ok u' m x
/-- marks that are good, none of which lies in ex -/
def Gd (K : Kd) (S : Nat) (ex : Option Nat) (w : World) (m : Nat) (xs : List K.α) : Prop :=
  ∀ x ∈ xs, K.ok w m x ∧ ∀ b, K.fp x = some b → S ≤ b ∧ b < w.heap.size ∧ some b ≠ ex
theorem Gd.keep {K : Kd} {S : Nat} {ex ex' : Option Nat} {w w' : World} {m : Nat} {xs : List K.α} (h : Gd K S ex w m xs) (hs : w.heap.size ≤ w'.heap.size) (hb : ∀ b, S ≤ b → b < w.heap.size → some b ≠ ex → w'.heap[b]? = w.heap[b]?) (hx : ∀ b, S ≤ b → b < w.heap.size → some b = ex' → some b = ex) : Gd K S ex' w' m xs := fun x hm => by
  obtain ⟨h1, h2⟩ := h x hm
  exact ⟨K.st m x w w' (fun b e => hb b (h2 b e).1 (h2 b e).2.1 (h2 b e).2.2) h1, fun b e => ⟨(h2 b e).1, Nat.lt_of_lt_of_le (h2 b e).2.1 hs, fun q => (h2 b e).2.2 (hx b (h2 b e).1 (h2 b e).2.1 q)⟩⟩
theorem Gd.take {K : Kd} {S : Nat} {ex : Option Nat} {w : World} {m : Nat} {xs : List K.α} (h : Gd K S ex w m xs) (n : Nat) : Gd K S ex w m (xs.take n) := fun x hm => h x (List.mem_of_mem_take hm)
theorem Gd.snoc {K : Kd} {S : Nat} {ex : Option Nat} {w : World} {m : Nat} {xs : List K.α} (h : Gd K S ex w m xs) {x : K.α} (hx : Gd K S ex w m [x]) : Gd K S ex w m (xs ++ [x]) := fun y hy => by
  rcases List.mem_append.1 hy with hy | hy
  · exact h y hy
  · exact hx y hy
theorem Kd.flat (K : Kd) (m : Nat) (xs : List K.α) : (xs.flatMap (K.cel m)).length = xs.length * K.sz := flat_len (K.cel m) K.sz (K.len m) xs
theorem Kd.ones (K : Kd) (m : Nat) (xs : List K.α) : ∀ u ∈ xs.flatMap (K.cel m), u.oneCell' = true := fun u hu => by
  obtain ⟨x, _, hx⟩ := List.mem_flatMap.1 hu
  exact K.one m x u hx
/-- a list full of marks -/
def Fil (K : Kd) (S : Nat) (w : World) (h : Hd) : Prop := ∃ xs : List K.α, xs.length = h.n ∧ w.ownsRow 0 K.e K.sz h.sv h.n (xs.flatMap (K.cel h.m)) ∧ Gd K S none w h.m xs
theorem Fil.keep {K : Kd} {S : Nat} {w w' : World} {h : Hd} (f : Fil K S w h) (hs : w.heap.size ≤ w'.heap.size) (hb : ∀ g, g < w.heap.size → (S ≤ g ∨ h.blk = some g) → w'.heap[g]? = w.heap[g]?) : Fil K S w' h := by
  obtain ⟨xs, h1, h2, h3⟩ := f
  exact ⟨xs, h1, own_of_block h2 (fun g hg => hb g (h2.lt g hg).2 (.inr hg)), h3.keep hs (fun b b1 b2 _ => hb b b2 (.inl b1)) (fun _ _ _ e => e)⟩
/-- .. and the longer one too -/
structure Dn (K : Kd) (S : Nat) (w : World) (h : Hd) : Prop where
  ln : h.ln = h.n + 70
  l : ∃ xs : List K.α, xs.length = h.n ∧ Ls w h.sv h.n (xs.flatMap (K.cel h.m)) ∧ Gd K S none w h.m xs
  long : ∃ ys : List K.α, ys.length = h.ln ∧ Ls w h.lv h.ln (ys.flatMap (K.cel h.m)) ∧ Gd K S none w h.m ys
  at1 : ∀ g, h.sv.ownBlock = some g → g < w.heap.size
  at2 : ∀ g, h.lv.ownBlock = some g → g < w.heap.size ∧ (h.sv.ownBlock = some g ∨ S ≤ g)
theorem Dn.keep {K : Kd} {S : Nat} {w w' : World} {h : Hd} (f : Dn K S w h) (hs : w.heap.size ≤ w'.heap.size) (hb : ∀ g, g < w.heap.size → (S ≤ g ∨ h.blk = some g) → w'.heap[g]? = w.heap[g]?) : Dn K S w' h := by
  obtain ⟨h1, ⟨xs, x1, x2, x3⟩, ⟨ys, y1, y2, y3⟩, h4, h5⟩ := f
  refine ⟨h1, ⟨xs, x1, ls_block x2 hs (fun g hg => hb g (h4 g hg) (.inr hg)), x3.keep hs (fun b b1 b2 _ => hb b b2 (.inl b1)) (fun _ _ _ e => e)⟩, ⟨ys, y1, ls_block y2 hs (fun g hg => hb g (h5 g hg).1 ((h5 g hg).2.symm)), y3.keep hs (fun b b1 b2 _ => hb b b2 (.inl b1)) (fun _ _ _ e => e)⟩, fun g hg => Nat.lt_of_lt_of_le (h4 g hg) hs, fun g hg => ⟨Nat.lt_of_lt_of_le (h5 g hg).1 hs, (h5 g hg).2⟩⟩
/-- amid the filling of one list -/
structure Fl (K : Kd) (S : Nat) (h : Hd) (W wr : World) (k : Nat) : Prop where
  row : ∃ (xs : List K.α) (O : List Value), xs.length = k ∧ k ≤ h.n ∧ wr.ownsRow 0 K.e K.sz h.sv h.n (xs.flatMap (K.cel h.m) ++ O) ∧ Gd K S h.blk wr h.m xs
  tch : Tch (fun g => h.blk = some g) W wr
theorem Fl.start {K : Kd} {S : Nat} {h : Hd} {W : World} {O : List Value} (ho : W.ownsRow 0 K.e K.sz h.sv h.n O) : Fl K S h W W 0 :=
  ⟨⟨[], O, rfl, Nat.zero_le _, by simpa using ho, fun x hx => absurd hx (by simp)⟩, Tch.refl _ _⟩
theorem Fl.step {K : Kd} {S : Nat} {h : Hd} {W wr w2 : World} {k g : Nat} (f : Fl K S h W wr k) (hk : k < h.n) (hg : h.blk = some g) (b2 : Below wr.heap.size wr w2) {x : K.α} (hx : Gd K S h.blk w2 h.m [x]) : Fl K S h W (w2.setCells g (k * K.sz) (K.cel h.m x)) (k + 1) := by
  obtain ⟨⟨xs, O, h1, h2, h3, h4⟩, h5⟩ := f
  obtain ⟨ha, hn, hc, hla, hln, hlc, hm⟩ := h
  have ho := own_below h3 b2
  have hsv : Hd.sv ⟨ha, hn, hc, hla, hln, hlc, hm⟩ = .slice (some ⟨g, 0, none⟩) hn hc := by
    rcases ho.2 with ⟨e, _⟩ | ⟨g', cap, cur, e, _⟩
    · unfold Hd.sv at e; unfold Hd.blk at hg; dsimp only at e hg; rw [e] at hg; cases hg
    · unfold Hd.sv at e ⊢; unfold Hd.blk at hg; dsimp only at e hg ⊢; cases e
      have : g' = g := by simpa [Value.ownBlock] using hg
      rw [this]
  dsimp only at *
  rw [hsv] at ho
  have hlen : O.length = (hn - k) * K.sz := by
    have := ho.1
    rw [List.length_append, K.flat, h1] at this
    rw [Nat.sub_mul]
    omega
  have hO : K.sz ≤ O.length := by rw [hlen]; exact Nat.le_mul_of_pos_left _ (by omega)
  have hn' := own_setCells (K.cel hm x) (xs.flatMap (K.cel hm)) O ho (by rw [K.len]; exact hO)
  rw [K.flat, h1] at hn'
  have hsz := b2.size
  have hsm : ∀ b, some b ≠ Hd.blk ⟨ha, hn, hc, hla, hln, hlc, hm⟩ → b ≠ g := fun b hb e => hb (by rw [e, hg])
  refine ⟨⟨xs ++ [x], O.drop (K.cel hm x).length, by rw [List.length_append, h1]; rfl, by show k + 1 ≤ hn; omega, ?_, ?_⟩, ?_⟩
  · rw [hsv, List.flatMap_append]
    simpa [List.append_assoc] using hn'
  · have hA : Gd K S (Hd.blk ⟨ha, hn, hc, hla, hln, hlc, hm⟩) w2 hm (xs ++ [x]) := (h4.keep b2.size (fun b _ b2' _ => b2.block b b2') (fun _ _ _ e => e)).snoc hx
    exact hA.keep (by rw [size_setCells]; exact Nat.le_refl _) (fun b _ _ hb => heap_setCells_other (hsm b hb) _ _ _) (fun _ _ _ e => e)
  · exact (h5.trans (Tch.of_below b2)).setCells _ _ (.inr hg)
theorem Fl.done {K : Kd} {S : Nat} {h : Hd} {W wr : World} (f : Fl K S h W wr h.n) (hb : ∀ g, h.blk = some g → g < S) : Fil K S wr h := by
  obtain ⟨⟨xs, O, h1, h2, h3, h4⟩, h5⟩ := f
  have hO : O = [] := by
    have := h3.1
    rw [List.length_append, K.flat, h1] at this
    exact List.eq_nil_of_length_eq_zero (by omega)
  subst hO
  rw [List.append_nil] at h3
  exact ⟨xs, h1, h3, h4.keep (Nat.le_refl _) (fun _ _ _ _ => rfl) (fun _ _ _ e => by cases e)⟩
/-- the head of a row, in the same block -/
theorem own_head {K : Kd} {w : World} {a : Option Addr} {n j c m : Nat} {ys : List K.α} (ho : w.ownsRow 0 K.e K.sz (.slice a (n + j) c) (n + j) (ys.flatMap (K.cel m))) (hl : ys.length = n + j) : w.ownsRow 0 K.e K.sz (.slice a n c) n ((ys.take n).flatMap (K.cel m)) := by
  have hlen : ((ys.take n).flatMap (K.cel m)).length = n * K.sz := by rw [K.flat, List.length_take, hl]; congr 1; omega
  refine ⟨hlen, ?_⟩
  rcases ho.2 with ⟨e, e0⟩ | ⟨g, cap, cur, e, hbg, hg, hnc, hcm, hcs, htake⟩
  · left
    obtain ⟨rfl, rfl⟩ : n = 0 ∧ j = 0 := by omega
    exact ⟨e, rfl⟩
  · right
    cases e
    refine ⟨g, c, cur, rfl, hbg, hg, by omega, hcm, hcs, ?_⟩
    have e1 : ys.flatMap (K.cel m) = (ys.take n).flatMap (K.cel m) ++ (ys.drop n).flatMap (K.cel m) := by rw [← List.flatMap_append, List.take_append_drop]
    have e2 : cur.toList.take (n * K.sz) = (cur.toList.take ((n + j) * K.sz)).take (n * K.sz) := by
      rw [List.take_take]
      congr 1
      have := Nat.mul_le_mul_right K.sz (Nat.le_add_right n j)
      omega
    rw [e2, htake, e1, ← hlen]
    exact List.take_left
/-- amid the growing of one list -/
structure Gr (K : Kd) (S : Nat) (h : Hd) (W wr : World) (j : Nat) (lv : Value) (ys : List K.α) : Prop where
  len : ys.length = h.n + j
  own : wr.ownsRow 0 K.e K.sz lv (h.n + j) (ys.flatMap (K.cel h.m))
  gd : Gd K S lv.ownBlock wr h.m ys
  loc : lv = .slice h.a (h.n + j) h.c ∨ ∃ g, lv.ownBlock = some g ∧ W.heap.size ≤ g ∧ ∃ xs : List K.α, xs.length = h.n ∧ wr.ownsRow 0 K.e K.sz h.sv h.n (xs.flatMap (K.cel h.m)) ∧ Gd K S lv.ownBlock wr h.m xs
  tch : Tch (fun g => h.blk = some g) W wr
theorem Gr.start {K : Kd} {S : Nat} {h : Hd} {W : World} (f : Fil K S W h) (hb : ∀ g, h.blk = some g → g < S) : ∃ ys, Gr K S h W W 0 h.sv ys := by
  obtain ⟨xs, h1, h2, h3⟩ := f
  exact ⟨xs, h1, h2, fun x hx => ⟨(h3 x hx).1, fun b e => ⟨((h3 x hx).2 b e).1, ((h3 x hx).2 b e).2.1, fun q => by have := hb b q.symm; have := ((h3 x hx).2 b e).1; omega⟩⟩, .inl rfl, Tch.refl _ _⟩
theorem Gr.step {K : Kd} {S : Nat} {h : Hd} {W wr w2 w4 : World} {j : Nat} {lv v' : Value} {ys : List K.α} (f : Gr K S h W wr j lv ys) (hb : ∀ g, h.blk = some g → g < S) (hSW : S ≤ W.heap.size) (b2 : Below wr.heap.size wr w2) {x : K.α} (hx : K.ok w2 h.m x) (hfp : ∀ b, K.fp x = some b → wr.heap.size ≤ b ∧ b < w2.heap.size) {o : Obj}
    (hown : w4.ownsRow 0 K.e K.sz v' (h.n + j + 1) (ys.flatMap (K.cel h.m) ++ K.cel h.m x))
    (hgr : (w2.alloc o).grownBy w4 lv.ownBlock) (hloc : (∃ b cap, lv = .slice b (h.n + j) cap ∧ v' = .slice b (h.n + j + 1) cap) ∨ (v'.ownBlock = some (w2.alloc o).heap.size ∧ ∀ k, k < (w2.alloc o).heap.size → w4.heap[k]? = (w2.alloc o).heap[k]?)) : Gr K S h W w4 (j + 1) v' (ys ++ [x]) := by
  obtain ⟨h1, h2, h3, h4, h5⟩ := f
  have hA : Below wr.heap.size wr (w2.alloc o) := b2.alloc b2.size _
  have hs3 : (w2.alloc o).heap.size = w2.heap.size + 1 := by simp
  have hs2 := b2.size
  have hs4 := hgr.size
  have hWr := h5.size
  have hlt := fun g (hg : lv.ownBlock = some g) => (h2.lt g hg).2
  have hloc' : v'.ownBlock = lv.ownBlock ∨ v'.ownBlock = some (w2.alloc o).heap.size := by
    rcases hloc with ⟨b, cap, e1, e2⟩ | ⟨l, _⟩
    · left; rw [e1, e2]; exact blk_len _ _ _ _ _
    · exact .inr l
  have hlb : ∀ b, b < W.heap.size → h.blk ≠ some b → some b ≠ lv.ownBlock := fun b hb1 hb2 e => by
    rcases h4 with h4 | ⟨g, g1, g2, _⟩
    · rw [h4, blk_len _ _ _ h.n h.c] at e; exact hb2 e.symm
    · rw [g1] at e; cases e; omega
  -- what stays
  have hstay : ∀ b, b < w2.heap.size → some b ≠ lv.ownBlock → w4.heap[b]? = w2.heap[b]? := fun b hb1 hb2 => by
    rw [hgr.block b (by omega) hb2, Below.heap_alloc _ _ _ hb1]
  have hgw : ∀ zs : List K.α, Gd K S lv.ownBlock wr h.m zs → Gd K S v'.ownBlock w4 h.m zs := fun zs hz =>
    (hz.keep (w' := w4) (ex' := v'.ownBlock) (by omega) (fun b b1 b2' b3 => by rw [hstay b (by omega) b3, b2.block b b2']) (fun b b1 b2' e => by
      rcases hloc' with l | l
      · rw [l] at e; exact e
      · rw [l] at e; cases e; omega))
  have hgx : Gd K S v'.ownBlock w4 h.m [x] := fun z hz => by
    obtain rfl := List.mem_singleton.1 hz
    have hne : ∀ b, K.fp z = some b → some b ≠ lv.ownBlock := fun b e q => by have := hlt b q.symm; have := (hfp b e).1; omega
    refine ⟨K.st h.m z w2 w4 (fun b e => hstay b (hfp b e).2 (hne b e)) hx, fun b e => ⟨by have := (hfp b e).1; omega, by have := (hfp b e).2; omega, fun q => ?_⟩⟩
    rcases hloc' with l | l
    · rw [l] at q; exact hne b e q
    · rw [l] at q; have := (hfp b e).2; cases q; omega
  refine ⟨by rw [List.length_append, h1]; rfl, by rw [List.flatMap_append]; simpa [Nat.add_assoc] using hown, (hgw ys h3).snoc hgx, ?_, ?_⟩
  · rcases hloc with ⟨q, cap, q1, q2⟩ | ⟨l, hk⟩
    · have l : v'.ownBlock = lv.ownBlock := by rw [q1, q2]; exact blk_len _ _ _ _ _
      rcases h4 with h4 | ⟨g, g1, g2, xs, x1, x2, x3⟩
      · left
        rw [q1] at h4
        cases h4
        rw [q2]
        rfl
      · refine .inr ⟨g, l.trans g1, g2, xs, x1, own_of_block x2 (fun g' hg' => ?_), hgw xs x3⟩
        have h6 := hb g' hg'
        rw [hstay g' (by omega) (fun q => by rw [g1] at q; cases q; omega), b2.block g' (by omega)]
    · refine .inr ⟨_, l, by omega, ?_⟩
      have hall : ∀ k, k < wr.heap.size → w4.heap[k]? = wr.heap[k]? := fun k hk' => by rw [hk k (by omega), hA.block k hk']
      rcases h4 with h4 | ⟨g, g1, g2, xs, x1, x2, x3⟩
      · refine ⟨ys.take h.n, by rw [List.length_take, h1]; omega, ?_, (hgw ys h3).take _⟩
        have ho : w4.ownsRow 0 K.e K.sz lv (h.n + j) (ys.flatMap (K.cel h.m)) := own_of_block h2 (fun g hg => hall g (hlt g hg))
        rw [h4] at ho
        exact own_head ho h1
      · exact ⟨xs, x1, own_of_block x2 (fun g' hg' => hall g' (by have h6 := hb g' hg'; omega)), hgw xs x3⟩
  · exact ⟨hgr.os.trans (hA.os.trans h5.os), hgr.tape.trans (hA.tape.trans h5.tape), hgr.output.trans (hA.output.trans h5.output), by omega, fun g hg hn => by rw [hgr.block g (by omega) (hlb g hg hn), hA.block g (by omega), h5.block g hg hn]⟩
theorem Gr.done {K : Kd} {S : Nat} {h : Hd} {W wr : World} {a : Option Addr} {c : Nat} {ys : List K.α} (f : Gr K S h W wr 70 (.slice a (h.n + 70) c) ys) (hb : ∀ g, h.blk = some g → g < S) (hSW : S ≤ W.heap.size) : Dn K S wr { h with la := a, ln := h.n + 70, lc := c } := by
  obtain ⟨h1, h2, h3, h4, h5⟩ := f
  have hS := h5.size
  have hd : ∀ zs : List K.α, Gd K S (Value.slice a (h.n + 70) c).ownBlock wr h.m zs → Gd K S none wr h.m zs := fun zs hz => hz.keep (Nat.le_refl _) (fun _ _ _ _ => rfl) (fun _ _ _ e => by cases e)
  refine ⟨rfl, ?_, ⟨ys, h1, ls_own h2, hd _ h3⟩, fun g hg => by have := hb g hg; omega, fun g hg => ⟨(h2.lt g hg).2, ?_⟩⟩
  · rcases h4 with h4 | ⟨g, g1, g2, xs, x1, x2, x3⟩
    · rw [h4] at h2
      exact ⟨ys.take h.n, by rw [List.length_take, h1]; show min h.n _ = h.n; omega, ls_own (own_head h2 h1), (hd _ h3).take _⟩
    · exact ⟨xs, x1, ls_own x2, hd _ x3⟩
  · rcases h4 with h4 | ⟨g', g1, g2, _⟩
    · left
      have h4' : (Value.slice a (h.n + 70) c).ownBlock = some g := hg
      rw [h4, blk_len _ _ _ h.n h.c] at h4'
      exact h4'
    · right
      have : some g' = some g := g1.symm.trans hg
      cases this
      omega
end Go.Proofs.Ytgeplijgcmdaeaa.BK
