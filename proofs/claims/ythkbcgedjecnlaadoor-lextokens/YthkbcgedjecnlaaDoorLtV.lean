import Derived.Test.YthkbcgedjecnlaaDoorLtP
namespace Go.Proofs.YthkbcgedjecnlaaDoor
open Go.RowKit Go.Maps
set_option linter.unusedVariables false
set_option linter.unusedSimpArgs false
attribute [local go_sem ↓] Go.wp_at_zero Go.wp_at_succ

/-- lists of their own, no two of which share anything -/
def Kp (S : Nat) (w : World) (l : List (Sl × List Tk)) : Prop :=
  (∀ x ∈ l, x.2.length = x.1.n ∧ w.ownsRow S 37 4 x.1.v x.1.n (x.2.flatMap Tk.cells)) ∧ l.Pairwise (fun x y => Dj x.1.v y.1.v)
theorem Kp.below {S : Nat} {w w' : World} {l : List (Sl × List Tk)} (h : Kp S w l) (hb : Below w.heap.size w w') : Kp S w' l :=
  ⟨fun x hx => ⟨(h.1 x hx).1, own_below (h.1 x hx).2 hb⟩, h.2⟩
theorem Kp.add {S : Nat} {w w' : World} {l : List (Sl × List Tk)} (h : Kp S w l) (hb : Below w.heap.size w w') (hS : S ≤ w.heap.size) {a : Option Addr} {c : Nat} {ts : List Tk} (ho : w'.ownsRow w.heap.size 37 4 (.slice a ts.length c) ts.length (ts.flatMap Tk.cells)) : Kp S w' (l ++ [(⟨a, ts.length, c⟩, ts)]) := by
  refine ⟨fun x hx => ?_, ?_⟩
  · rcases List.mem_append.1 hx with hx | hx
    · exact (h.below hb).1 x hx
    · rw [List.mem_singleton.1 hx]
      exact ⟨rfl, own_base ho hS⟩
  · rw [List.pairwise_append]
    refine ⟨h.2, List.pairwise_singleton _ _, fun x hx y hy => ?_⟩
    rw [List.mem_singleton.1 hy]
    intro g h1 h2
    have e1 := ((h.1 x hx).2.lt g h1).2
    have e2 := (ho.lt g h2).1
    omega
theorem Kp.tl {S : Nat} {w : World} {l : List (Sl × List Tk)} (h : Kp S w l) {a : Option Addr} {c : Nat} {ts : List Tk} (hx : ((⟨a, ts.length, c⟩ : Sl), ts) ∈ l) : TL w a ts := by
  have := (h.1 _ hx).2
  obtain ⟨a', c', e, _, ht⟩ := TL_of_own this
  simp only [Sl.v, Value.slice.injEq] at e
  rw [e.1]
  exact ht
structure Sta (w0 w : World) (fs : List Nat) (x0 x1 : Int) (rows : List (Sl × List Tk)) : Prop where
  bel : Below w0.heap.size w0 w
  kp : Kp w0.heap.size w rows
  fl : ∀ b ∈ fs, w.cell? ⟨b, 0, none⟩ = some (.int .i64 x0) ∧ w.cell? ⟨b, 1, none⟩ = some (.int .i64 x1)
theorem Sta.below {w0 w w' : World} {fs : List Nat} {x0 x1 : Int} {rows : List (Sl × List Tk)} (h : Sta w0 w fs x0 x1 rows) (hb : Below w.heap.size w w') : Sta w0 w' fs x0 x1 rows :=
  ⟨h.bel.trans (hb.mono h.bel.size), h.kp.below hb, fun b hx => by
    obtain ⟨c0, c1⟩ := h.fl b hx
    have hl := World.block_lt_of_cell? _ _ c0
    exact ⟨by rw [hb.cell (p := ⟨b, 0, none⟩) hl]; exact c0, by rw [hb.cell (p := ⟨b, 1, none⟩) hl]; exact c1⟩⟩
theorem Sta.row {w0 w w1 : World} {fs : List Nat} {x0 x1 y0 y1 : Int} {rows : List (Sl × List Tk)} (h : Sta w0 w fs x0 x1 rows) (hb : Below w.heap.size w w1) {a : Option Addr} {c : Nat} {ts : List Tk} (ho : w1.ownsRow w.heap.size 37 4 (.slice a ts.length c) ts.length (ts.flatMap Tk.cells)) :
    Sta w0 (w1.alloc (.cells #[.int .i64 y0, .int .i64 y1] 25)) fs x0 x1 (rows ++ [(⟨a, ts.length, c⟩, ts)]) := by
  have h1 : Sta w0 w1 fs x0 x1 rows := h.below hb
  have h2 : Sta w0 w1 fs x0 x1 (rows ++ [(⟨a, ts.length, c⟩, ts)]) := ⟨h1.bel, h.kp.add hb h.bel.size ho, h1.fl⟩
  exact h2.below ((Below.refl _ _).alloc (Nat.le_refl _) _)
theorem Sta.rowF {w0 w w1 : World} {fs : List Nat} {x0 x1 : Int} {rows : List (Sl × List Tk)} (h : Sta w0 w fs x0 x1 rows) (hb : Below w.heap.size w w1) {a : Option Addr} {c : Nat} {ts : List Tk} (ho : w1.ownsRow w.heap.size 37 4 (.slice a ts.length c) ts.length (ts.flatMap Tk.cells)) :
    Sta w0 (w1.alloc (.cells #[.int .i64 x0, .int .i64 x1] 25)) (fs ++ [w1.heap.size]) x0 x1 (rows ++ [(⟨a, ts.length, c⟩, ts)]) := by
  have h1 := h.row (y0 := x0) (y1 := x1) hb ho
  refine ⟨h1.bel, h1.kp, fun b hx => ?_⟩
  rcases List.mem_append.1 hx with hx | hx
  · exact h1.fl b hx
  · rw [List.mem_singleton.1 hx]
    have hr := Below.refl (w1.alloc (.cells #[.int .i64 x0, .int .i64 x1] 25)).heap.size (w1.alloc (.cells #[.int .i64 x0, .int .i64 x1] 25))
    exact ⟨kept_cell hr 0 _ rfl, kept_cell hr 1 _ rfl⟩
theorem flt_form (R : Res) : ∃ x0 x1 : Int, R.flt = .agg #[.int .i64 x0, .int .i64 x1] := by
  cases R with
  | bad e a => exact ⟨_, _, rfl⟩
  | ok ts => exact ⟨_, _, rfl⟩
/-- Tokens, as the law takes it -/
def TkPost (w : World) (ts : List Tk) (x0 x1 : Int) (e : Ending) (w' : World) : Prop :=
  ∃ a c, e = .returned (.tuple #[.slice a ts.length c, .agg #[.int .i64 x0, .int .i64 x1]]) ∧ w'.ownsRow w.heap.size 37 4 (.slice a ts.length c) ts.length (ts.flatMap Tk.cells) ∧ Below w.heap.size w w'
theorem tk_of {w w' : World} {R : Res} {x0 x1 : Int} (hR : R.flt = .agg #[.int .i64 x0, .int .i64 x1]) {e : Ending} (h : ToksPost w R e w') : TkPost w R.ts x0 x1 e w' := by
  obtain ⟨sv, rfl, ho, hb⟩ := h
  obtain ⟨a, c, rfl, _, _⟩ := ownsRow_form ho
  exact ⟨a, c, by rw [hR], ho, hb⟩
theorem four_of {S : Nat} {w : World} {a0 o0 b0 c0 : Sl × List Tk} {l : List (Sl × List Tk)} (h : Kp S w l) (hS : S ≤ w.heap.size) (ha : a0 ∈ l) (ho : o0 ∈ l) (hb : b0 ∈ l) (hc : c0 ∈ l)
    (d1 : Dj a0.1.v o0.1.v) (d2 : Dj a0.1.v b0.1.v) (d3 : Dj a0.1.v c0.1.v) (d4 : Dj o0.1.v b0.1.v) (d5 : Dj o0.1.v c0.1.v) (d6 : Dj b0.1.v c0.1.v) :
    F1 S (.slice (some ⟨w.heap.size, 0, none⟩) 4 4) [a0.1, o0.1, b0.1, c0.1] (fun j => [a0.2, o0.2, b0.2, c0.2].getD j []) (w.alloc (.cells #[a0.1.v, o0.1.v, b0.1.v, c0.1.v] 22)) ∧
    Ds (.slice (some ⟨w.heap.size, 0, none⟩) 4 4) [a0.1, o0.1, b0.1, c0.1] := by
  have hd : ∀ x ∈ l, Dj (.slice (some ⟨w.heap.size, 0, none⟩) 4 4) x.1.v := fun x hx => dj_new (h.1 x hx).2 (Nat.le_refl _) rfl
  have hr : ∀ x ∈ l, x.2.length = x.1.n ∧ (w.alloc (.cells #[a0.1.v, o0.1.v, b0.1.v, c0.1.v] 22)).ownsRow S 37 4 x.1.v x.1.n (x.2.flatMap Tk.cells) := fun x hx => ⟨(h.1 x hx).1, (h.1 x hx).2.alloc _⟩
  have hj : ∀ {P : Nat → Prop}, P 0 → P 1 → P 2 → P 3 → ∀ j, j < [a0.1, o0.1, b0.1, c0.1].length → P j := fun {P} p0 p1 p2 p3 j hj => by
    obtain rfl | rfl | rfl | rfl : j = 0 ∨ j = 1 ∨ j = 2 ∨ j = 3 := by simp at hj; omega
    all_goals assumption
  refine ⟨⟨World.ownsRow_lit w #[a0.1.v, o0.1.v, b0.1.v, c0.1.v] 4 hS (by decide) rfl, hj (hr _ ha) (hr _ ho) (hr _ hb) (hr _ hc)⟩, ⟨hj (hd _ ha) (hd _ ho) (hd _ hb) (hd _ hc), fun j k h1 h2 => ?_⟩⟩
  obtain rfl | rfl | rfl | rfl : j = 0 ∨ j = 1 ∨ j = 2 ∨ j = 3 := by simp at h1; omega
  all_goals
    obtain rfl | rfl | rfl | rfl : k = 0 ∨ k = 1 ∨ k = 2 ∨ k = 3 := by simp at h2; omega
    all_goals first
      | exact fun q => absurd rfl q
      | exact fun _ => d1 | exact fun _ => d1.flip | exact fun _ => d2 | exact fun _ => d2.flip | exact fun _ => d3 | exact fun _ => d3.flip
      | exact fun _ => d4 | exact fun _ => d4.flip | exact fun _ => d5 | exact fun _ => d5.flip | exact fun _ => d6 | exact fun _ => d6.flip
theorem apart_four {S : Nat} {w : World} {l : List (Sl × List Tk)} (h : Kp S w l) (hS : S ≤ w.heap.size) {a o b c : Option Addr} {ca co cb cc : Nat} {ts us : List Tk}
    (ha : ((⟨a, ts.length, ca⟩ : Sl), ts) ∈ l) (ho : ((⟨o, us.length, co⟩ : Sl), us) ∈ l) (hb : ((⟨b, ts.length, cb⟩ : Sl), ts) ∈ l) (hc : ((⟨c, ts.length, cc⟩ : Sl), ts) ∈ l)
    (d1 : Dj (Sl.v ⟨a, ts.length, ca⟩) (Sl.v ⟨o, us.length, co⟩)) (d2 : Dj (Sl.v ⟨a, ts.length, ca⟩) (Sl.v ⟨b, ts.length, cb⟩)) (d3 : Dj (Sl.v ⟨a, ts.length, ca⟩) (Sl.v ⟨c, ts.length, cc⟩)) (d4 : Dj (Sl.v ⟨o, us.length, co⟩) (Sl.v ⟨b, ts.length, cb⟩)) (d5 : Dj (Sl.v ⟨o, us.length, co⟩) (Sl.v ⟨c, ts.length, cc⟩)) (d6 : Dj (Sl.v ⟨b, ts.length, cb⟩) (Sl.v ⟨c, ts.length, cc⟩))
    (ht : ts.length ≤ 65537) (hu : us.length ≤ 65537) :
    Calls Tryd.prog 7 #[.slice (some ⟨w.heap.size, 0, none⟩) 4 4] (w.alloc (.cells #[.slice a ts.length ca, .slice o us.length co, .slice b ts.length cb, .slice c ts.length cc] 22)) fun e w' => e = .returned (.bool true) ∧ Below S (w.alloc (.cells #[.slice a ts.length ca, .slice o us.length co, .slice b ts.length cb, .slice c ts.length cc] 22)) w' := by
  obtain ⟨hF, hD⟩ := four_of h hS ha ho hb hc d1 d2 d3 d4 d5 d6
  have hN : ∀ j, j < [(⟨a, ts.length, ca⟩ : Sl), ⟨o, us.length, co⟩, ⟨b, ts.length, cb⟩, ⟨c, ts.length, cc⟩].length → (atL [(⟨a, ts.length, ca⟩ : Sl), ⟨o, us.length, co⟩, ⟨b, ts.length, cb⟩, ⟨c, ts.length, cc⟩] j).n ≤ 65537 := fun j hj => by
    obtain rfl | rfl | rfl | rfl : j = 0 ∨ j = 1 ∨ j = 2 ∨ j = 3 := by simp at hj; omega
    · simpa [atL] using ht
    · simpa [atL] using hu
    · simpa [atL] using ht
    · simpa [atL] using ht
  have hSz : S ≤ (w.alloc (.cells #[.slice a ts.length ca, .slice o us.length co, .slice b ts.length cb, .slice c ts.length cc] 22)).heap.size := by simp; omega
  exact apart_any (S := S) (B := w.heap.size) (cB := 4) (L := [(⟨a, ts.length, ca⟩ : Sl), ⟨o, us.length, co⟩, ⟨b, ts.length, cb⟩, ⟨c, ts.length, cc⟩]) (w := w.alloc (.cells #[.slice a ts.length ca, .slice o us.length co, .slice b ts.length cb, .slice c ts.length cc] 22)) hF hD (by simp) hN hSz
end Go.Proofs.YthkbcgedjecnlaaDoor
