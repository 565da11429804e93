import Derived.Test.YtkkpdhlnnjkpeaaDoorTermTree
import Derived.Test.YtkkpdhlnnjkpeaaDoorTermOpen
import Derived.SizedLaws
import Derived.Deep.Slices
namespace Go.Proofs.YtkkpdhlnnjkpeaaDoor
open Go.ChangeShapes Go.WideShapes Go.ChangeAt Go.RowKit Go.Joins Go.Deep
set_option linter.unusedVariables false
set_option linter.unusedSimpArgs false
set_option maxRecDepth 100000

theorem cellsE : Tryd.prog.cellsOf 66 = 6 := by kernel_rfl
theorem cellsEO : Tryd.prog.cellsOf 63 = 1 := by kernel_rfl
theorem cellsEK : Tryd.prog.cellsOf 64 = 1 := by kernel_rfl
theorem cellsET : Tryd.prog.cellsOf 49 = 4 := by kernel_rfl
theorem bytesE : Tryd.prog.bytesOf 66 = 80 := by kernel_rfl
theorem weights_all {H : Type} {P : Program} {e : TypeId} : ∀ {ds : List (DataW H)} {i : Nat} {d : DataW H}, ds[i]? = some d → ∀ n ∈ d.weights P e, n ∈ DataW.weightsAll P e ds
  | d0 :: ds, 0, d, hd, n, hn => by
    simp only [List.getElem?_cons_zero, Option.some.injEq] at hd
    subst hd
    simp only [DataW.weightsAll, List.mem_append]
    exact .inl hn
  | d0 :: ds, i + 1, d, hd, n, hn => by
    simp only [List.getElem?_cons_succ] at hd
    simp only [DataW.weightsAll, List.mem_append]
    exact .inr (weights_all hd n hn)
section
variable {H : Type} {enc : TypeId × Value → H} {w : World}
theorem expr_cells {held : Bool} : ∀ (m : Nat) (cs : List Value) (x : DataW H × List MemPlace), cs.length = 6 → DataW.trod enc Tryd.prog w 0 (fun _ => true) held m 66 cs = some x → (∀ n ∈ x.1.weights Tryd.prog 66, n ≤ reachBytes) →
    ∃ (e : E) (a : Option Addr) (c : Nat), cs = [.int .i8 e.op, .string e.t.v, .int .i8 e.t.a.k, .int .i64 e.t.a.n, .string e.t.a.s, .slice a e.kids.length c] ∧ EIs w m e a c := by
  intro m
  induction m using Nat.strongRecOn with
  | _ m ih =>
  intro cs x hl h hw
  obtain ⟨xs, k, rfl, rfl, _, hxl, hf⟩ := DataW.trod_struct Tryd.underlying66 h
  match xs, hxl, cs, hl with
  | [y0, y1, y2], _, [v0, v1, v2, v3, v4, v5], _ =>
    have g0 := hf 0 _ rfl
    have g1 := hf 1 _ rfl
    have g2 := hf 2 _ rfl
    simp [cellsEO, cellsET, cellsEK] at g0 g1 g2
    obtain ⟨o, e0, _, wo⟩ := DataW.trod_int Tryd.underlying63 g0
    obtain ⟨t, e1, ht⟩ := term_cells rfl g1
    simp at e0 e1
    obtain ⟨rfl, rfl, rfl, rfl⟩ := e1
    subst e0
    have hop : -128 ≤ o ∧ o ≤ 127 := by
      simp only [Lit.wf, Bool.and_eq_true, decide_eq_true_eq] at wo
      exact wo
    have hw2 : ∀ n ∈ y2.1.weights Tryd.prog 64, n ≤ reachBytes := fun n hn => hw n (by
      simp only [DataW.weights, Tryd.underlying66]
      exact DataW.weights_mem_each (j := 2) (d := y2.1) rfl rfl n hn)
    rcases DataW.trod_slice Tryd.underlying64 g2 with ⟨hcs, hx⟩ | ⟨a, len, cap, elems, rest, n, hk, hcs, hx, hb, hlc, hcm, hel, hea, hsp, _⟩
    · simp at hcs
      subst hcs
      exact ⟨.mk o t [], none, 0, rfl, ⟨hop, by show 0 ≤ _; omega⟩, ht, Nat.le_refl _, by decide, fun h => absurd (show (0 : Nat) < 0 from h) (by omega)⟩
    · simp at hcs
      subst hcs hk
      have hbound : len ≤ 281474976710656 := by
        have := hw2 ((elems.length + rest.length) * 80) (by
          rw [hx]
          simp [DataW.weights, Tryd.underlying64, bytesE])
        have h3 : reachBytes ≤ 140737488355328 := by decide
        omega
      have each : ∀ i, i < len → ∃ q : E × Option Addr × Nat, w.cell? (a.add (i * 6)) = some (.int .i8 q.1.op) ∧ w.cell? (a.add (i * 6 + 1)) = some (.string q.1.t.v) ∧ w.cell? (a.add (i * 6 + 2)) = some (.int .i8 q.1.t.a.k) ∧ w.cell? (a.add (i * 6 + 3)) = some (.int .i64 q.1.t.a.n) ∧ w.cell? (a.add (i * 6 + 4)) = some (.string q.1.t.a.s) ∧ w.cell? (a.add (i * 6 + 5)) = some (.slice q.2.1 q.1.kids.length q.2.2) ∧ EIs w n q.1 q.2.1 q.2.2 := by
        intro i hi
        have h1 := hea i hi
        obtain ⟨y, hy⟩ : ∃ y, elems[i]? = some y := ⟨_, List.getElem?_eq_getElem (by omega)⟩
        rw [hy] at h1
        obtain ⟨cs', hc1, hc2⟩ := Option.bind_eq_some_iff.1 h1
        rw [cellsE] at hc1
        obtain ⟨_, hlen, hcell⟩ := World.cells?_some hc1
        obtain ⟨e, a', c', rfl, he⟩ := ih n (by omega) cs' y hlen hc2 (fun z hz => hw2 z (by
          rw [hx]
          simp only [DataW.weights, Tryd.underlying64, List.mem_cons, List.mem_append]
          exact .inr (.inl (weights_all (i := i) (d := y.1) (by rw [List.getElem?_map, hy]; rfl) z hz))))
        have e0 := hcell 0 (by simp)
        have e1 := hcell 1 (by simp)
        have e2 := hcell 2 (by simp)
        have e3 := hcell 3 (by simp)
        have e4 := hcell 4 (by simp)
        have e5 := hcell 5 (by simp)
        rw [add_add] at e0 e1 e2 e3 e4 e5
        exact ⟨(e, a', c'), by simpa using e0, by simpa using e1, by simpa using e2, by simpa using e3, by simpa using e4, by simpa using e5, he⟩
      haveI : Inhabited E := ⟨E0⟩
      obtain ⟨q, hq⟩ := choose_lt each
      have hul : ((List.range len).map fun i => (q i).1).length = len := by simp
      refine ⟨.mk o t ((List.range len).map fun i => (q i).1), some a, cap, ?_, ⟨hop, ?_⟩, ht, ?_, hcm, ?_⟩
      · simp only [op_mk, t_mk, kids_mk, hul]
      · simp only [kids_mk, hul]; exact hbound
      · simp only [kids_mk, hul]; exact hlc
      · intro h0
        simp only [kids_mk, hul] at h0 ⊢
        obtain ⟨b, off, spot⟩ := a
        have hspot : spot = none := by simpa [Addr.add] using World.cell?_spot (hq 0 (by omega)).1
        subst hspot
        have plain : ∀ k, (⟨b, off, none⟩ : Addr).add k = ⟨b, off + k, none⟩ := fun k => add_plain b off k
        refine ⟨b, off, rfl, ?_, fun i hi => ?_⟩
        · have := (hq 0 (by omega)).1
          rw [plain] at this
          exact World.block_lt_of_cell? _ _ this
        · have hat : atE ((List.range len).map fun i => (q i).1) i = (q i).1 := by rw [atE_eq (by rw [hul]; exact hi)]; simp
          rw [hat]
          obtain ⟨z0, z1, z2, z3, z4, z5, z6⟩ := hq i hi
          rw [plain] at z0 z1 z2 z3 z4 z5
          exact ⟨(q i).2.1, (q i).2.2, ⟨z0, z1, z2, z3, z4, z5⟩, z6.more⟩
theorem open_expr {r : Reach} {b0 : Nat} {v : Value} {d : DataW H} {p : List MemPlace} {ts : List TypeId} {ds : List (DataW H)} {j : Nat}
    (hv : Value.okWide Tryd.prog w r b0 66 v) (h : DataW.Trod enc Tryd.prog w 0 (fun _ => true) true 66 v d p)
    (hsz : (DataW.weightsEach Tryd.prog ts ds).all (· ≤ reachBytes) = true) (ht : ts[j]? = some 66) (hd : ds[j]? = some d) :
    ∃ (n : Nat) (e : E) (a : Option Addr) (c : Nat), v = e.val a c ∧ EIs w n e a c := by
  obtain ⟨cs, rfl, hcs⟩ := okWide_struct Tryd.underlying66 hv
  obtain ⟨m, hm⟩ := h
  rw [cellsE] at hcs
  obtain ⟨e, a, c, he, hE⟩ := expr_cells m _ _ (by simpa [Value.cells] using hcs) hm (fun n hn => by
    have := List.all_eq_true.1 hsz n (DataW.weights_mem_each ht hd n hn)
    exact of_decide_eq_true this)
  refine ⟨m, e, a, c, ?_, hE⟩
  have : cs.toList = [.int .i8 e.op, .string e.t.v, .int .i8 e.t.a.k, .int .i64 e.t.a.n, .string e.t.a.s, .slice a e.kids.length c] := he
  unfold E.val
  congr 1
  exact Array.toList_inj.1 this
end
end Go.Proofs.YtkkpdhlnnjkpeaaDoor
