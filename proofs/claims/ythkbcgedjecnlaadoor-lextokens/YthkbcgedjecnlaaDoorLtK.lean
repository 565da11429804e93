import Derived.Test.YthkbcgedjecnlaaDoorLtG
import Derived.Test.YthkbcgedjecnlaaDoorLexLent2
import Derived.Deep.Onto
import Derived.Maps.AppendAt
import Derived.OwnWalk
namespace Go.Proofs.YthkbcgedjecnlaaDoor
open Go.RowKit Go.Maps
set_option linter.unusedVariables false
set_option linter.unusedSimpArgs false
attribute [local go_sem ↓] Go.wp_at_zero Go.wp_at_succ

/-- append onto a row of one's own: in place, or into a new block, and then the others stay as they were -/
theorem run_append_own2 {P : Program} (w : World) (base : Nat) (t ty e : TypeId) (i : TypeInfo) (z : Value) (size bytes : Nat) (ht : P.underlying t = some (.slice e)) (hi : P.info? e = some i) (hz : i.zero = some z)
    (hsize : i.size = size) (hby : i.bytes = bytes) (hzs : z.cells.size = size) (hsz : 0 < size)
    (v : Value) (n : Nat) (xs : List Value) (hown : w.ownsRow base e size v n xs)
    (a : Addr) (m c : Nat) (news : List Value) (hl : news.length = m * size) (hnews : ∀ j u, news[j]? = some u → w.cell? (a.add j) = some u) (h1 : ∀ u ∈ news, u.oneCell' = true)
    (h63 : n + m ≤ maxLen) (hbytes : (n + m) * bytes ≤ 140737488355328) (hbase : base ≤ w.heap.size) (hm : 0 < m) :
    ∃ v' w', (Builtin.append_ #[t, t] ty #[v, .slice (some a) m c]).run P w = .ok v' w' ∧ w'.ownsRow base e size v' (n + m) (xs ++ news) ∧ w.grownBy w' v.ownBlock ∧
      ((∃ b cap, v = .slice b n cap ∧ v' = .slice b (n + m) cap) ∨ (v'.ownBlock = some w.heap.size ∧ ∀ k, k < w.heap.size → w'.heap[k]? = w.heap[k]?)) := by
  obtain ⟨v', w', hr, ho, hg, _, hloc⟩ := run_append_own_at (P := P) w base t ty e i z size bytes ht hi hz hsize hby hzs hsz v n xs hown a m c news hl hnews h1 h63 hbytes hbase
  refine ⟨v', w', hr, ho, hg, ?_⟩
  rcases hown.2 with ⟨rfl, rfl⟩ | ⟨g, cap, cur, rfl, hbg, hgg, hnc, hcm, hcs, htake⟩
  · right
    rcases hloc with hloc | hloc
    · exfalso
      rcases ho.2 with ⟨_, e⟩ | ⟨g, cap, cur, rfl, _⟩
      · omega
      · cases hloc
    · exact ⟨hloc, fun k hk => hg.block k hk (fun e => by cases e)⟩
  · by_cases hroom : n + m ≤ cap
    · obtain ⟨w2, hr2, _, _⟩ := run_append_fits (P := P) w base t ty e i size ht hi hsize g n cap xs hown a m c news hl hnews h1 hroom
      rw [hr] at hr2
      injection hr2 with e1 e2
      exact .inl ⟨_, cap, rfl, e1⟩
    · right
      subst hsize hby
      have holds : ∀ j u, xs[j]? = some u → w.cell? ((⟨g, 0, none⟩ : Addr).add j) = some u := hown.cells (g := g) rfl
      have hr2 := run_append_grow (P := P) w t ty e i z ht hi hz ⟨g, 0, none⟩ n cap xs hown.1 holds a m c news hl hnews (by omega) (by simp only [maxLen] at h63; omega) (growslice_fits (by simp only [maxLen] at h63; omega) hbytes)
      rw [hr] at hr2
      injection hr2 with e1 e2
      rw [e1, e2]
      exact ⟨rfl, fun k hk => Below.heap_alloc w.drew _ k hk⟩
theorem own_set {w : World} {B : Nat} {e : TypeId} {k g n cap : Nat} {xs : List Value} (h : w.ownsRow B e k (.slice (some ⟨g, 0, none⟩) n cap) n xs) {i : Nat} (hi : i < xs.length) (u : Value) : (w.setCell ⟨g, i, none⟩ u).ownsRow B e k (.slice (some ⟨g, 0, none⟩) n cap) n (xs.set i u) := by
  obtain ⟨hl, ⟨h1, _⟩ | ⟨g', cap', cur, hv, h0, hb, hn, hc, hs, ht⟩⟩ := h
  · cases h1
  · cases hv
    refine ⟨by simp [hl], .inr ⟨g, cap, cur.setIfInBounds i u, rfl, h0, heap_setCell_same w g i cur e u hb, hn, hc, by simp [hs], ?_⟩⟩
    rw [Array.toList_setIfInBounds, List.take_set, ht]
theorem own_cell {w : World} {B : Nat} {e : TypeId} {k g n cap : Nat} {xs : List Value} (h : w.ownsRow B e k (.slice (some ⟨g, 0, none⟩) n cap) n xs) {i : Nat} {u : Value} (hi : xs[i]? = some u) : w.cell? ⟨g, i, none⟩ = some u ∧ w.frozen? ⟨g, i, none⟩ = false ∧ g < w.heap.size ∧ B ≤ g := by
  obtain ⟨hl, ⟨h1, _⟩ | ⟨g', cap', cur, hv, h0, hb, hn, hc, hs, ht⟩⟩ := h
  · cases h1
  · cases hv
    refine ⟨?_, ?_, (Array.getElem?_eq_some_iff.1 hb).1, h0⟩
    · rw [← ht, List.getElem?_take] at hi
      split at hi
      · unfold World.cell?
        simp only [hb]
        simpa using hi
      · cases hi
    · unfold World.frozen?
      simp only [hb]
      simp
theorem set4 (u : Tk) : ∀ (vs : List Tk) (j : Nat), j < vs.length → ((((vs.flatMap Tk.cells).set (j * 4) (.int .i8 u.k)).set (j * 4 + 1) (.string ⟨u.s.toArray⟩)).set (j * 4 + 2) (.int .i64 u.n)).set (j * 4 + 3) (.int .i64 u.a) = (vs.set j u).flatMap Tk.cells
  | [], j, h => absurd h (by simp)
  | t :: r, 0, h => by simp [Tk.cells]
  | t :: r, j + 1, h => by
    have ih := set4 u r j (by simpa using h)
    have hc : t.cells.length = 4 := rfl
    rw [List.set_cons_succ, List.flatMap_cons, List.flatMap_cons, ← ih]
    rw [List.set_append_right _ _ (by rw [hc]; omega), List.set_append_right _ _ (by rw [hc]; omega), List.set_append_right _ _ (by rw [hc]; omega), List.set_append_right _ _ (by rw [hc]; omega), hc]
    rw [show (j + 1) * 4 - 4 = j * 4 by omega, show (j + 1) * 4 + 1 - 4 = j * 4 + 1 by omega, show (j + 1) * 4 + 2 - 4 = j * 4 + 2 by omega, show (j + 1) * 4 + 3 - 4 = j * 4 + 3 by omega]
def put4 (w : World) (g j : Nat) (u : Tk) : World := (((w.setCell ⟨g, j * 4, none⟩ (.int .i8 u.k)).setCell ⟨g, j * 4 + 1, none⟩ (.string ⟨u.s.toArray⟩)).setCell ⟨g, j * 4 + 2, none⟩ (.int .i64 u.n)).setCell ⟨g, j * 4 + 3, none⟩ (.int .i64 u.a)
theorem own_put {w : World} {B g n cap : Nat} {vs : List Tk} {j : Nat} (u : Tk) (hj : j < vs.length) (h : w.ownsRow B 37 4 (.slice (some ⟨g, 0, none⟩) n cap) n (vs.flatMap Tk.cells)) : (put4 w g j u).ownsRow B 37 4 (.slice (some ⟨g, 0, none⟩) n cap) n ((vs.set j u).flatMap Tk.cells) := by
  have hl := cells_len4 vs
  rw [← set4 u vs j hj]
  have o1 := own_set h (i := j * 4) (by omega) (.int .i8 u.k)
  have o2 := own_set o1 (i := j * 4 + 1) (by simp only [List.length_set]; omega) (.string ⟨u.s.toArray⟩)
  have o3 := own_set o2 (i := j * 4 + 2) (by simp only [List.length_set]; omega) (.int .i64 u.n)
  exact own_set o3 (i := j * 4 + 3) (by simp only [List.length_set]; omega) (.int .i64 u.a)
theorem put4_below {w w' : World} {B g j : Nat} {u : Tk} (h : Below B w w') (hg : B ≤ g) : Below B w (put4 w' g j u) :=
  (((h.setCell (p := ⟨g, _, none⟩) hg _).setCell (p := ⟨g, _, none⟩) hg _).setCell (p := ⟨g, _, none⟩) hg _).setCell (p := ⟨g, _, none⟩) hg _
theorem tok_at {w : World} {B g n cap : Nat} {vs : List Tk} {j : Nat} {t : Tk} (h : w.ownsRow B 37 4 (.slice (some ⟨g, 0, none⟩) n cap) n (vs.flatMap Tk.cells)) (hj : vs[j]? = some t) :
    (w.cell? ⟨g, j * 4, none⟩ = some (.int .i8 t.k) ∧ w.cell? ⟨g, j * 4 + 1, none⟩ = some (.string ⟨t.s.toArray⟩) ∧ w.cell? ⟨g, j * 4 + 2, none⟩ = some (.int .i64 t.n) ∧ w.cell? ⟨g, j * 4 + 3, none⟩ = some (.int .i64 t.a)) ∧
    (w.frozen? ⟨g, j * 4, none⟩ = false ∧ w.frozen? ⟨g, j * 4 + 1, none⟩ = false ∧ w.frozen? ⟨g, j * 4 + 2, none⟩ = false ∧ w.frozen? ⟨g, j * 4 + 3, none⟩ = false) ∧ B ≤ g := by
  have k : ∀ i v, t.cells[i]? = some v → i < 4 → w.cell? ⟨g, j * 4 + i, none⟩ = some v ∧ w.frozen? ⟨g, j * 4 + i, none⟩ = false ∧ g < w.heap.size ∧ B ≤ g := fun i v h1 h2 => by
    have := cells_get vs j i t v hj h1 h2
    rw [show 4 * j + i = j * 4 + i by omega] at this
    exact own_cell h this
  exact ⟨⟨(k 0 _ rfl (by omega)).1, (k 1 _ rfl (by omega)).1, (k 2 _ rfl (by omega)).1, (k 3 _ rfl (by omega)).1⟩, ⟨(k 0 _ rfl (by omega)).2.1, (k 1 _ rfl (by omega)).2.1, (k 2 _ rfl (by omega)).2.1, (k 3 _ rfl (by omega)).2.1⟩, (k 0 _ rfl (by omega)).2.2.2⟩
theorem TL_row {w : World} {B g n cap : Nat} {vs : List Tk} (hn : vs.length = n) (h : w.ownsRow B 37 4 (.slice (some ⟨g, 0, none⟩) n cap) n (vs.flatMap Tk.cells)) : TL w (some ⟨g, 0, none⟩) vs := by
  subst hn
  obtain ⟨a, c, e, _, ht⟩ := TL_of_own h
  simp at e
  rw [e.1]
  exact ht

/-- where a list lies -/
structure Sl where
  a : Option Addr
  n : Nat
  c : Nat
def Sl.v (s : Sl) : Value := .slice s.a s.n s.c
def atL (L : List Sl) (j : Nat) : Sl := L.getD j ⟨none, 0, 0⟩
theorem atL_get {L : List Sl} {j : Nat} (h : j < L.length) : L[j]? = some (atL L j) := by simp [atL, List.getElem?_eq_getElem h]
theorem atL_app {L : List Sl} {x : Sl} {j : Nat} (h : j < L.length) : atL (L ++ [x]) j = atL L j := by simp [atL, List.getD, List.getElem?_append_left h]
theorem atL_last {L : List Sl} {x : Sl} : atL (L ++ [x]) L.length = x := by simp [atL, List.getD]
def Dj (v v' : Value) : Prop := ∀ g, v.ownBlock = some g → v'.ownBlock ≠ some g
theorem Dj.flip {v v' : Value} (h : Dj v v') : Dj v' v := fun g h1 h2 => h g h2 h1
theorem dj_new {w : World} {b k n : Nat} {ty : TypeId} {v v' : Value} {xs : List Value} (h : w.ownsRow b ty k v n xs) {m : Nat} (hm : w.heap.size ≤ m) (hv : v'.ownBlock = some m) : Dj v' v := fun g h1 h2 => by
  rw [hv] at h1
  have := (h.lt g h2).2
  cases h1
  omega
theorem dj_grow {w : World} {b k n : Nat} {ty : TypeId} {v vb vb' : Value} {xs : List Value} (h : w.ownsRow b ty k v n xs) (hd : Dj vb v) (hloc : vb'.ownBlock = vb.ownBlock ∨ ∃ m, vb'.ownBlock = some m ∧ w.heap.size ≤ m) : Dj vb' v := by
  rcases hloc with l | ⟨m, l, hm⟩
  · intro g h1 h2
    rw [l] at h1
    exact hd g h1 h2
  · exact dj_new h hm l
theorem own_kept {w w' : World} {b k n : Nat} {ty : TypeId} {v u : Value} {xs : List Value} (h : w.ownsRow b ty k v n xs) (hg : w.grownBy w' u.ownBlock) (hd : Dj u v) : w'.ownsRow b ty k v n xs :=
  h.kept hg (by
    cases hv : v.ownBlock with
    | none => exact .inl rfl
    | some g => exact .inr (fun e => hd g e.symm hv))
theorem own_prefix {w : World} {b k n m : Nat} {ty : TypeId} {a : Option Addr} {c : Nat} {xs ys : List Value} (h : w.ownsRow b ty k (.slice a (n + m) c) (n + m) (xs ++ ys)) (hx : xs.length = n * k) (h0 : 0 < m) : w.ownsRow b ty k (.slice a n c) n xs := by
  obtain ⟨hl, ⟨h1, h2⟩ | ⟨g, cap, cur, hv, hb, hg, hn, hc, hs, ht⟩⟩ := h
  · omega
  · simp only [Value.slice.injEq] at hv
    obtain ⟨rfl, _, rfl⟩ := hv
    refine ⟨hx, .inr ⟨g, c, cur, rfl, hb, hg, by omega, hc, hs, ?_⟩⟩
    have h2 := congrArg (List.take (n * k)) ht
    have h3 : (xs ++ ys).take (n * k) = xs := by rw [List.take_append_of_le_length (by omega), List.take_of_length_le (by omega)]
    rw [List.take_take, Nat.min_eq_left (Nat.mul_le_mul_right k (by omega)), h3] at h2
    exact h2
def mk99 (j : Nat) : Tk := ⟨99, [], j, 0⟩
def mk98 (j : Nat) : Tk := ⟨98, [], j, 0⟩
def fil (j n : Nat) : List Tk := List.replicate n (mk99 j)
def gro (j n : Nat) : List Tk := List.replicate n (mk98 j)
theorem gro_succ (j n : Nat) : gro j (n + 1) = gro j n ++ [mk98 j] := List.replicate_succ'
/-- no two lists share anything, and none lies where their list lies -/
structure Ds (lv : Value) (L : List Sl) : Prop where
  dl : ∀ j, j < L.length → Dj lv (atL L j).v
  dd : ∀ j k, j < L.length → k < L.length → j ≠ k → Dj (atL L j).v (atL L k).v
/-- the lists in memory, and their list -/
structure F1 (S : Nat) (lv : Value) (L : List Sl) (X : Nat → List Tk) (w : World) : Prop where
  list : w.ownsRow S 22 1 lv L.length (L.map Sl.v)
  rows : ∀ j, j < L.length → (X j).length = (atL L j).n ∧ w.ownsRow S 37 4 (atL L j).v (atL L j).n ((X j).flatMap Tk.cells)
theorem heap_put4 (w : World) (g j : Nat) (u : Tk) {b : Nat} (h : b ≠ g) : (put4 w g j u).heap[b]? = w.heap[b]? := by
  unfold put4
  rw [Below.heap_setCell _ _ _ _ h, Below.heap_setCell _ _ _ _ h, Below.heap_setCell _ _ _ _ h, Below.heap_setCell _ _ _ _ h]
def upd (X : Nat → List Tk) (i : Nat) (x : List Tk) : Nat → List Tk := fun j => if j = i then x else X j
theorem F1.put {S : Nat} {lv : Value} {L : List Sl} {X : Nat → List Tk} {w : World} (h : F1 S lv L X w) (d : Ds lv L) {i k g : Nat} (hi : i < L.length) (hk : k < (atL L i).n) (ha : (atL L i).a = some ⟨g, 0, none⟩) (u : Tk) :
    F1 S lv L (upd X i ((X i).set k u)) (put4 w g k u) := by
  have hb : (atL L i).v.ownBlock = some g := by unfold Sl.v; rw [ha]; rfl
  refine ⟨ownsRow_of_block h.list (fun b e => heap_put4 _ _ _ _ (fun q => d.dl i hi b e (by rw [hb, q]))), fun j hj => ?_⟩
  unfold upd
  by_cases e : j = i
  · subst e
    rw [if_pos rfl]
    obtain ⟨h1, h2⟩ := h.rows j hj
    refine ⟨by rw [List.length_set]; exact h1, ?_⟩
    unfold Sl.v at h2 ⊢
    rw [ha] at h2 ⊢
    exact own_put u (by omega) h2
  · rw [if_neg e]
    obtain ⟨h1, h2⟩ := h.rows j hj
    exact ⟨h1, ownsRow_of_block h2 (fun b q => heap_put4 _ _ _ _ (fun r => d.dd j i hj hi e b q (by rw [hb, r])))⟩
/-- the lists full of marks, and the longer ones, so far -/
structure G2 (S : Nat) (lv : Value) (L G : List Sl) (gv : Value) (w : World) : Prop where
  list : w.ownsRow S 22 1 lv L.length (L.map Sl.v)
  rows : ∀ j, j < L.length → w.ownsRow S 37 4 (atL L j).v (atL L j).n ((fil j (atL L j).n).flatMap Tk.cells)
  grown : ∀ j, j < G.length → (atL G j).n = (atL L j).n + 70 ∧ w.ownsRow S 37 4 (atL G j).v ((atL L j).n + 70) ((fil j (atL L j).n ++ gro j 70).flatMap Tk.cells)
  long : w.ownsRow S 22 1 gv G.length (G.map Sl.v)
  dg : ∀ j k, j < G.length → k < L.length → k ≠ j → Dj (atL G j).v (atL L k).v
  dgl : ∀ j, j < G.length → Dj (atL G j).v lv
  dvl : Dj gv lv
  dv : ∀ j, j < L.length → Dj gv (atL L j).v
  dvg : ∀ j, j < G.length → Dj gv (atL G j).v
/-- one list that grows -/
structure Gi (S : Nat) (lv : Value) (L G : List Sl) (gv : Value) (i k : Nat) (v : Value) (w : World) : Prop where
  g2 : G2 S lv L G gv w
  own : w.ownsRow S 37 4 v ((atL L i).n + k) ((fil i (atL L i).n ++ gro i k).flatMap Tk.cells)
  pl : v = .slice (atL L i).a ((atL L i).n + k) (atL L i).c ∨ Dj v (atL L i).v
  dl : Dj v lv
  dgv : Dj v gv
  dL : ∀ j, j < L.length → j ≠ i → Dj v (atL L j).v
  dG : ∀ j, j < G.length → Dj v (atL G j).v
theorem Gi.start {S : Nat} {lv : Value} {L G : List Sl} {gv : Value} {w : World} (h : G2 S lv L G gv w) (d : Ds lv L) (hi : G.length < L.length) : Gi S lv L G gv G.length 0 (atL L G.length).v w :=
  ⟨h, by have := h.rows _ hi; rw [show gro G.length 0 = [] from rfl, List.append_nil]; exact this, .inl rfl, (d.dl _ hi).flip, (h.dv _ hi).flip, fun j hj hn => d.dd _ _ hi hj (fun e => hn e.symm), fun j hj => (h.dg j _ hj hi (by omega)).flip⟩
theorem G2.alloc {S : Nat} {lv : Value} {L G : List Sl} {gv : Value} {w : World} (h : G2 S lv L G gv w) (o : Obj) : G2 S lv L G gv (w.alloc o) :=
  ⟨h.list.alloc o, fun j hj => (h.rows j hj).alloc o, fun j hj => ⟨(h.grown j hj).1, (h.grown j hj).2.alloc o⟩, h.long.alloc o, h.dg, h.dgl, h.dvl, h.dv, h.dvg⟩
theorem Gi.alloc {S : Nat} {lv : Value} {L G : List Sl} {gv : Value} {i k : Nat} {v : Value} {w : World} (h : Gi S lv L G gv i k v w) (o : Obj) : Gi S lv L G gv i k v (w.alloc o) :=
  ⟨h.g2.alloc o, h.own.alloc o, h.pl, h.dl, h.dgv, h.dL, h.dG⟩
theorem Gi.step {S : Nat} {lv : Value} {L G : List Sl} {gv : Value} {i k : Nat} {v v' : Value} {w w' : World} (h : Gi S lv L G gv i k v w) (d : Ds lv L) (hi : i < L.length)
    (ho : w'.ownsRow S 37 4 v' ((atL L i).n + k + 1) ((fil i (atL L i).n ++ gro i k).flatMap Tk.cells ++ (mk98 i).cells)) (hg : w.grownBy w' v.ownBlock)
    (hp : (∃ b cap, v = .slice b ((atL L i).n + k) cap ∧ v' = .slice b ((atL L i).n + k + 1) cap) ∨ (v'.ownBlock = some w.heap.size ∧ ∀ q, q < w.heap.size → w'.heap[q]? = w.heap[q]?)) :
    Gi S lv L G gv i (k + 1) v' w' := by
  have ho' : w'.ownsRow S 37 4 v' ((atL L i).n + (k + 1)) ((fil i (atL L i).n ++ gro i (k + 1)).flatMap Tk.cells) := by
    rw [gro_succ, ← List.append_assoc, List.flatMap_append]
    show w'.ownsRow S 37 4 v' ((atL L i).n + k + 1) _
    simpa using ho
  rcases hp with ⟨b, cap, rfl, rfl⟩ | ⟨hnew, hall⟩
  · have hbl : ∀ m, (Value.slice b m cap).ownBlock = (Value.slice b ((atL L i).n + k) cap).ownBlock := fun m => by cases b <;> rfl
    have hdj : ∀ {u : Value}, Dj (.slice b ((atL L i).n + k) cap) u → Dj (.slice b ((atL L i).n + k + 1) cap) u := fun {u} q g h1 h2 => q g (by rw [← hbl]; exact h1) h2
    have hrow : w'.ownsRow S 37 4 (atL L i).v (atL L i).n ((fil i (atL L i).n).flatMap Tk.cells) := by
      rcases h.pl with e | e
      · simp only [Value.slice.injEq] at e
        obtain ⟨rfl, _, rfl⟩ := e
        have h1 := ho'
        rw [List.flatMap_append] at h1
        exact own_prefix (m := k + 1) h1 (by rw [cells_len4]; simp [fil]) (by omega)
      · exact own_kept (h.g2.rows i hi) hg e
    refine ⟨⟨own_kept h.g2.list hg h.dl, fun j hj => ?_, fun j hj => ⟨(h.g2.grown j hj).1, own_kept (h.g2.grown j hj).2 hg (h.dG j hj)⟩, own_kept h.g2.long hg h.dgv, h.g2.dg, h.g2.dgl, h.g2.dvl, h.g2.dv, h.g2.dvg⟩, ho', ?_, hdj h.dl, hdj h.dgv, fun j hj hn => hdj (h.dL j hj hn), fun j hj => hdj (h.dG j hj)⟩
    · by_cases e : j = i
      · subst e; exact hrow
      · exact own_kept (h.g2.rows j hj) hg (h.dL j hj e)
    · rcases h.pl with e | e
      · simp only [Value.slice.injEq] at e
        obtain ⟨rfl, _, rfl⟩ := e
        exact .inl rfl
      · exact .inr (hdj e)
  · have hk : ∀ {e : TypeId} {q n : Nat} {u : Value} {xs : List Value}, w.ownsRow S e q u n xs → w'.ownsRow S e q u n xs := fun {e q n u xs} r => ownsRow_of_block r (fun g hg => hall g (r.lt g hg).2)
    refine ⟨⟨hk h.g2.list, fun j hj => hk (h.g2.rows j hj), fun j hj => ⟨(h.g2.grown j hj).1, hk (h.g2.grown j hj).2⟩, hk h.g2.long, h.g2.dg, h.g2.dgl, h.g2.dvl, h.g2.dv, h.g2.dvg⟩, ho', .inr (dj_new (h.g2.rows i hi) (Nat.le_refl _) hnew), dj_new h.g2.list (Nat.le_refl _) hnew, dj_new h.g2.long (Nat.le_refl _) hnew, fun j hj _ => dj_new (h.g2.rows j hj) (Nat.le_refl _) hnew, fun j hj => dj_new (h.g2.grown j hj).2 (Nat.le_refl _) hnew⟩
/-- the list has grown: it is put down -/
theorem Gi.done {S : Nat} {lv : Value} {L G : List Sl} {gv gv' : Value} {a : Option Addr} {c : Nat} {w w' : World} (h : Gi S lv L G gv G.length 70 (.slice a ((atL L G.length).n + 70) c) w) (hi : G.length < L.length)
    (ho : w'.ownsRow S 22 1 gv' (G.length + 1) (G.map Sl.v ++ [.slice a ((atL L G.length).n + 70) c])) (hg : w.grownBy w' gv.ownBlock) (hloc : gv'.ownBlock = gv.ownBlock ∨ gv'.ownBlock = some w.heap.size) :
    G2 S lv L (G ++ [⟨a, (atL L G.length).n + 70, c⟩]) gv' w' := by
  have hloc' : gv'.ownBlock = gv.ownBlock ∨ ∃ m, gv'.ownBlock = some m ∧ w.heap.size ≤ m := hloc.imp_right (fun e => ⟨_, e, Nat.le_refl _⟩)
  have hlen : (G ++ [(⟨a, (atL L G.length).n + 70, c⟩ : Sl)]).length = G.length + 1 := by simp
  have hat : ∀ {P : Nat → Sl → Prop}, (∀ j, j < G.length → P j (atL G j)) → P G.length ⟨a, (atL L G.length).n + 70, c⟩ → ∀ j, j < (G ++ [(⟨a, (atL L G.length).n + 70, c⟩ : Sl)]).length → P j (atL (G ++ [(⟨a, (atL L G.length).n + 70, c⟩ : Sl)]) j) := fun {P} h1 h2 j hj => by
    rw [hlen] at hj
    by_cases e : j = G.length
    · subst e; rw [atL_last]; exact h2
    · rw [atL_app (by omega)]; exact h1 j (by omega)
  refine ⟨own_kept h.g2.list hg h.g2.dvl, fun j hj => own_kept (h.g2.rows j hj) hg (h.g2.dv j hj), ?_, ?_, ?_, ?_, dj_grow h.g2.list h.g2.dvl hloc', fun j hj => dj_grow (h.g2.rows j hj) (h.g2.dv j hj) hloc', ?_⟩
  · exact hat (P := fun j s => s.n = (atL L j).n + 70 ∧ w'.ownsRow S 37 4 s.v ((atL L j).n + 70) ((fil j (atL L j).n ++ gro j 70).flatMap Tk.cells)) (fun j hj => ⟨(h.g2.grown j hj).1, own_kept (h.g2.grown j hj).2 hg (h.g2.dvg j hj)⟩) ⟨rfl, own_kept h.own hg h.dgv.flip⟩
  · rw [hlen, List.map_append]; exact ho
  · exact fun j k hj hk hn => hat (P := fun j s => k ≠ j → Dj s.v (atL L k).v) (fun j hj hn => h.g2.dg j k hj hk hn) (fun hn => h.dL k hk hn) j hj hn
  · exact hat (P := fun j s => Dj s.v lv) (fun j hj => h.g2.dgl j hj) h.dl
  · exact hat (P := fun j s => Dj gv' s.v) (fun j hj => dj_grow (h.g2.grown j hj).2 (h.g2.dvg j hj) hloc') (dj_grow h.own h.dgv.flip hloc')
theorem fil_all {j n : Nat} {l : List Tk} (h1 : l.length = n) (h2 : ∀ q, q < n → l[q]? = some (mk99 j)) : l = fil j n := by
  apply List.ext_getElem?
  intro q
  by_cases hq : q < n
  · rw [h2 q hq]; simp [fil, hq]
  · rw [List.getElem?_eq_none (by omega), List.getElem?_eq_none (by simp [fil]; omega)]
theorem F1.full {S : Nat} {lv : Value} {L : List Sl} {X : Nat → List Tk} {w : World} (h : F1 S lv L X w) (d : Ds lv L) (hx : ∀ j, j < L.length → X j = fil j (atL L j).n) : G2 S lv L [] (.slice none 0 0) w :=
  ⟨h.list, fun j hj => by rw [← hx j hj]; exact (h.rows j hj).2, fun j hj => absurd hj (by simp), World.ownsRow_nil _ _ _ _, fun j k hj => absurd hj (by simp), fun j hj => absurd hj (by simp), (fun g h1 => by cases h1), (fun j hj g h1 => by cases h1), fun j hj => absurd hj (by simp)⟩
/-- one mark more, by append -/
theorem wpList_app2 {ops : Array Oper} {rest : List Oper} {o : Oper} {a : Act} {w : World} {Q : Exit → Act → World → Prop} (hgd : o.guard = none) (s x : Operand)
    (hop : o.op = Op.call { callee := Callee.builtin Builtin.append, args := #[s, x], argTypes := #[22, 22] })
    {b : Nat} {v : Value} {n : Nat} {xs : List Value} (hs : a.eval s = v) (hown : w.ownsRow b 37 4 v n xs)
    {ad : Option Addr} {c : Nat} {t : Tk} (hx : a.eval x = .slice ad 1 c) (hl : TL w ad [t]) (h1 : n + 1 ≤ 8589934592) (hb : b ≤ w.heap.size)
    (h : ∀ v' w', w'.ownsRow b 37 4 v' (n + 1) (xs ++ t.cells) → w.grownBy w' v.ownBlock → ((∃ b cap, v = .slice b n cap ∧ v' = .slice b (n + 1) cap) ∨ (v'.ownBlock = some w.heap.size ∧ ∀ k, k < w.heap.size → w'.heap[k]? = w.heap[k]?)) → wpList Tryd.prog ops Q rest (a.put o.dst v') w') :
    wpList Tryd.prog ops Q (o :: rest) a w := by
  refine wpList_plain hgd fun KK hK => ?_
  obtain ⟨i0, hi0, hz0, hz1, hz2⟩ := info_tok
  obtain ⟨g, off, rfl, _⟩ := hl 0 t rfl
  obtain ⟨v', w', hr, r1, r2, r3⟩ := run_append_own2 (P := Tryd.prog) w b 22 o.type 37 i0 _ 4 40 Tryd.underlying22 hi0 hz0 hz1 hz2 rfl (by decide) v n xs hown ⟨g, off, none⟩ 1 c t.cells rfl (fun j u hu => hl.at j u (by simpa using hu)) (by intro u hu; exact cells_one [t] u (by simpa using hu)) (by unfold maxLen; omega) (by omega) hb (by omega)
  unfold Oper.wp execOp
  simp only [hop, resolve, invoke, builtin, Sem.run_bind, Sem.run_pure, Result.andThen_ok, List.map_toArray, List.map_cons, List.map_nil, hs, hx, hr]
  exact hK _ _ (h v' w' r1 r2 r3)
theorem infoSl : (Tryd.prog.info? 22).map (fun i => (i.zero, i.size, i.bytes)) = some (some (.slice none 0 0), 1, 24) := by kernel_rfl
end Go.Proofs.YthkbcgedjecnlaaDoor
