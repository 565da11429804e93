import Derived.Test.YtkgoceomkkohmaaDoorTermTree
namespace Go.Proofs.YtkgoceomkkohmaaDoor
open Go.RowKit Go.Maps
set_option linter.unusedVariables false
set_option linter.unusedSimpArgs false

/-- the six cells of an expression -/
def comp6 (j : Nat) (o : Int) (t : T) (s : Value) : Value := if j = 0 then .int .i8 o else if j = 1 then .string t.v else if j = 2 then .int .i8 t.a.k else if j = 3 then .int .i64 t.a.n else if j = 4 then .string t.a.s else s
/-- what a row of expressions holds whose first k are written -/
def rowE (O : Nat → Int) (U : Nat → T) (S : Nat → Value) (k : Nat) : Nat → Value := fun j => if j / 6 < k then comp6 (j % 6) (O (j / 6)) (U (j / 6)) (S (j / 6)) else comp6 (j % 6) 0 T0 (.slice none 0 0)
theorem rowE_step (O : Nat → Int) (U : Nat → T) (S : Nat → Value) (k j : Nat) (o : Int) (t : T) (s : Value) :
    (if j = k * 6 + 5 then s else if j = k * 6 + 4 then .string t.a.s else if j = k * 6 + 3 then .int .i64 t.a.n else if j = k * 6 + 2 then .int .i8 t.a.k else if j = k * 6 + 1 then .string t.v else if j = k * 6 then .int .i8 o else rowE O U S k j) = rowE (fun i => if i = k then o else O i) (fun i => if i = k then t else U i) (fun i => if i = k then s else S i) (k + 1) j := by
  by_cases e : j / 6 = k
  · have h1 : j / 6 < k + 1 := by omega
    have h3 : j = k * 6 ∨ j = k * 6 + 1 ∨ j = k * 6 + 2 ∨ j = k * 6 + 3 ∨ j = k * 6 + 4 ∨ j = k * 6 + 5 := by omega
    unfold rowE
    rw [if_pos h1, e]
    rcases h3 with rfl | rfl | rfl | rfl | rfl | rfl
    · simp [comp6]
    · simp [comp6, show (k * 6 + 1) % 6 = 1 by omega]
    · simp [comp6, show (k * 6 + 2) % 6 = 2 by omega]
    · simp [comp6, show (k * 6 + 3) % 6 = 3 by omega]
    · simp [comp6, show (k * 6 + 4) % 6 = 4 by omega]
    · simp [comp6, show (k * 6 + 5) % 6 = 5 by omega]
  · have n0 : ¬ j = k * 6 := by omega
    have n1 : ¬ j = k * 6 + 1 := by omega
    have n2 : ¬ j = k * 6 + 2 := by omega
    have n3 : ¬ j = k * 6 + 3 := by omega
    have n4 : ¬ j = k * 6 + 4 := by omega
    have n5 : ¬ j = k * 6 + 5 := by omega
    unfold rowE
    rw [if_neg n5, if_neg n4, if_neg n3, if_neg n2, if_neg n1, if_neg n0]
    by_cases h : j / 6 < k
    · rw [if_pos h, if_pos (by omega)]
      simp [e]
    · rw [if_neg h, if_neg (by omega)]
theorem rowE_at {w : World} {b : Nat} {ty : TypeId} {m : Nat} {O : Nat → Int} {U : Nat → T} {S : Nat → Value} {k : Nat} (h : w.rowIs b ty (m * 6) (rowE O U S k)) {i : Nat} (hi : i < k) (hm : i < m) : XAt w b (i * 6) (O i) (U i) (S i) := by
  refine ⟨?_, ?_, ?_, ?_, ?_, ?_⟩
  · rw [h.cell (by omega)]; simp [rowE, comp6, hi]
  · rw [h.cell (by omega)]; simp [rowE, comp6, show (i * 6 + 1) / 6 = i by omega, show (i * 6 + 1) % 6 = 1 by omega, hi]
  · rw [h.cell (by omega)]; simp [rowE, comp6, show (i * 6 + 2) / 6 = i by omega, show (i * 6 + 2) % 6 = 2 by omega, hi]
  · rw [h.cell (by omega)]; simp [rowE, comp6, show (i * 6 + 3) / 6 = i by omega, show (i * 6 + 3) % 6 = 3 by omega, hi]
  · rw [h.cell (by omega)]; simp [rowE, comp6, show (i * 6 + 4) / 6 = i by omega, show (i * 6 + 4) % 6 = 4 by omega, hi]
  · rw [h.cell (by omega)]; simp [rowE, comp6, show (i * 6 + 5) / 6 = i by omega, show (i * 6 + 5) % 6 = 5 by omega, hi]
theorem made_exprs (w : World) (n : Nat) (O : Nat → Int) (U : Nat → T) (S : Nat → Value) : (w.alloc (.cells (madeCells #[.int .i8 0, .string ⟨#[]⟩, .int .i8 0, .int .i64 0, .string ⟨#[]⟩, .slice none 0 0] (n * 6)) 31)).rowIs w.heap.size 31 (n * 6) (rowE O U S 0) := by
  have h := World.rowIs_alloc w (madeCells #[.int .i8 0, .string ⟨#[]⟩, .int .i8 0, .int .i64 0, .string ⟨#[]⟩, .slice none 0 0] (n * 6)) 31 (rowE O U S 0) (fun i hi => by
    rw [size_madeCells] at hi
    obtain h | h | h | h | h | h : i % 6 = 0 ∨ i % 6 = 1 ∨ i % 6 = 2 ∨ i % 6 = 3 ∨ i % 6 = 4 ∨ i % 6 = 5 := by omega
    all_goals simp [madeCells, hi, rowE, comp6, h, T0, V0, noS])
  rwa [size_madeCells] at h
theorem infoE : (Tryd.prog.info? 31).map (fun i => (i.zero, i.size, i.bytes)) = some (some (.agg #[.int .i8 0, .string ⟨#[]⟩, .int .i8 0, .int .i64 0, .string ⟨#[]⟩, .slice none 0 0]), 6, 80) := by kernel_rfl
theorem run_make_exprs (n : Nat) (hn : n ≤ 1048576) (w : World) :
    (Instr.makeSlice 29 (.int .i64 ((n : Int) + 1)) (.int .i64 ((n : Int) + 1))).run Tryd.prog w = .ok (.slice (some ⟨w.heap.size, 0, none⟩) (n + 1) (n + 1)) (w.alloc (.cells (madeCells #[.int .i8 0, .string ⟨#[]⟩, .int .i8 0, .int .i64 0, .string ⟨#[]⟩, .slice none 0 0] ((n + 1) * 6)) 31)) := by
  have h := infoE
  obtain ⟨i, hi, he⟩ := Option.map_eq_some_iff.1 h
  simp only [Prod.mk.injEq] at he
  obtain ⟨h1, h2, h3⟩ := he
  have := run_make (P := Tryd.prog) w 29 31 i _ Tryd.underlying29 hi h1 .i64 .i64 ((n : Int) + 1) ((n : Int) + 1) (by omega) (Int.le_refl _) (by rw [h3]; omega) (by omega)
  rw [this, h2, show ((n : Int) + 1).toNat = n + 1 by omega]
  rfl

/-- no list within has more than 2^20 -/
def smallE : Nat → E → Prop
  | 0, _ => True
  | d + 1, e => e.kids.length ≤ 1048576 ∧ ∀ i, i < e.kids.length → smallE d (atE e.kids i)
/-- a copy: a row of its own for the kids, with a mark behind it -/
def markW : ByteArray := ⟨#[35, 55, 55, 55, 55, 55, 55]⟩
def TwIs (w : World) (lo : Nat) : Nat → E → Option Addr → Nat → Prop
  | 0, _, _, _ => False
  | d + 1, e, a, c => c = e.kids.length + 1 ∧ ∃ g, a = some ⟨g, 0, none⟩ ∧ lo ≤ g ∧ g < w.heap.size ∧ XAt w g (e.kids.length * 6) 99 ⟨markW, V0⟩ (.slice none 0 0) ∧
    ∀ i, i < e.kids.length → ∃ a' c', XAt w g (i * 6) (atE e.kids i).op (atE e.kids i).t (.slice a' (atE e.kids i).kids.length c') ∧ TwIs w lo d (atE e.kids i) a' c'
theorem XAt.of {w w' : World} {g o : Nat} {op : Int} {t : T} {s : Value} (h : XAt w g o op t s) (e : w'.heap[g]? = w.heap[g]?) : XAt w' g o op t s := by
  have hc : ∀ j, w'.cell? ⟨g, j, none⟩ = w.cell? ⟨g, j, none⟩ := fun j => by unfold World.cell?; rw [e]
  exact ⟨(hc _).trans h.c0, (hc _).trans h.c1, (hc _).trans h.c2, (hc _).trans h.c3, (hc _).trans h.c4, (hc _).trans h.c5⟩
theorem TwIs.of {w w' : World} {lo : Nat} (hs : w.heap.size ≤ w'.heap.size) (hh : ∀ k, lo ≤ k → k < w.heap.size → w'.heap[k]? = w.heap[k]?) : ∀ {d : Nat} {e : E} {a : Option Addr} {c : Nat}, TwIs w lo d e a c → TwIs w' lo d e a c
  | 0, _, _, _, h => h
  | d + 1, e, a, c, h => by
    obtain ⟨h1, g, h2, hl, hg, hm, hk⟩ := h
    refine ⟨h1, g, h2, hl, Nat.lt_of_lt_of_le hg hs, hm.of (hh g hl hg), fun i hi => ?_⟩
    obtain ⟨a', c', hx, he⟩ := hk i hi
    exact ⟨a', c', hx.of (hh g hl hg), he.of hs hh⟩
theorem TwIs.below {w w' : World} {lo : Nat} (b : Below w.heap.size w w') {d : Nat} {e : E} {a : Option Addr} {c : Nat} (h : TwIs w lo d e a c) : TwIs w' lo d e a c := h.of b.size (fun k _ hk => b.block k hk)
theorem TwIs.set {w : World} {lo b j : Nat} {v : Value} (hb : b < lo) {d : Nat} {e : E} {a : Option Addr} {c : Nat} (h : TwIs w lo d e a c) : TwIs (w.setCell ⟨b, j, none⟩ v) lo d e a c :=
  h.of (by simp) (fun k hk _ => heap_setCell_other _ _ _ _ (by show k ≠ b; omega))
theorem TwIs.lower {w : World} {lo lo' : Nat} (hl : lo' ≤ lo) : ∀ {d : Nat} {e : E} {a : Option Addr} {c : Nat}, TwIs w lo d e a c → TwIs w lo' d e a c
  | 0, _, _, _, h => h
  | d + 1, e, a, c, h => by
    obtain ⟨h1, g, h2, h3, hg, hm, hk⟩ := h
    refine ⟨h1, g, h2, Nat.le_trans hl h3, hg, hm, fun i hi => ?_⟩
    obtain ⟨a', c', hx, he⟩ := hk i hi
    exact ⟨a', c', hx, he.lower hl⟩
theorem TwIs.eis {w w0 : World} {lo : Nat} : ∀ {d : Nat} {e : E} {a a0 : Option Addr} {c c0 : Nat}, TwIs w lo d e a c → EIs w0 d e a0 c0 → EIs w d e a c
  | 0, _, _, _, _, _, h, _ => h.elim
  | d + 1, e, a, a0, c, c0, h, h0 => by
    obtain ⟨rfl, g, rfl, _, hg, hm, hk⟩ := h
    obtain ⟨e1, e2, e3, e4, e5⟩ := h0
    refine ⟨e1, e2, by omega, by unfold maxLen; omega, fun hp => ⟨g, 0, rfl, hg, fun i hi => ?_⟩⟩
    obtain ⟨_, _, _, _, hK⟩ := e5 hp
    obtain ⟨a1, c1, _, hE1⟩ := hK i hi
    obtain ⟨a', c', hx, he⟩ := hk i hi
    rw [Nat.zero_add]
    exact ⟨a', c', hx, he.eis hE1⟩
end Go.Proofs.YtkgoceomkkohmaaDoor
