import Derived.Test.YtgeplijgcmdaeaaIxNone
import Derived.Test.YtgeplijgcmdaeaaRows
import Derived.ProofKit
import Derived.OpenShut
import Derived.Lib.SmallJoins
import Derived.Deep.CondSized
namespace Go.Proofs.Ytgeplijgcmdaeaa
open Go.ChangeShapes Go.WideShapes Go.ChangeAt Go.RowKit Go.Joins
set_option linter.unusedVariables false
set_option linter.unusedSimpArgs false
set_option maxRecDepth 100000

theorem own : ownKnob Try.prog.godebug = none := by kernel_rfl
theorem laidOut : laidOutB Try.prog = true := by kernel_rfl
theorem cellsKI : Try.prog.cellsOf 3 = 1 := by kernel_rfl
theorem cellsKM : Try.prog.cellsOf 23 = 1 := by kernel_rfl
theorem cellsKO : Try.prog.cellsOf 28 = 28 := by kernel_rfl
section
variable {H : Type} {enc : TypeId × Value → H} {w : World}
/-- a row's 24 cells -/
theorem row_cells {base : Nat} {spare : Nat → Bool} {held : Bool} {n : Nat} {cs : List Value} {y : DataW H × List MemPlace} (hl : cs.length = 24) (h : DataW.trod enc Try.prog w base spare held n 26 cs = some y) :
    ∃ r : List Int, r.length = 24 ∧ cs = r.map cellI := by
  obtain ⟨xs, k, hk, hxy, _, hxl, hf⟩ := DataW.trod_array Try.underlying26 h
  have hall : ∀ v ∈ cs, ∃ a : Int, v = cellI a := by
    intro v hv
    obtain ⟨i, hi, rfl⟩ := List.getElem_of_mem hv
    have g := hf i (by omega)
    rw [cellsSym, List.getElem?_eq_getElem (by omega)] at g
    obtain ⟨a, e, _, _⟩ := DataW.trod_int Try.underlying24 g
    refine ⟨a, ?_⟩
    have e0 := congrArg (fun l => l[0]?) e
    simp [List.getElem?_take, List.getElem?_drop, List.getElem?_eq_getElem hi] at e0
    exact e0
  have hex : ∀ l : List Value, (∀ v ∈ l, ∃ a : Int, v = cellI a) → ∃ r : List Int, l = r.map cellI := by
    intro l
    induction l with
    | nil => intro _; exact ⟨[], rfl⟩
    | cons v l ih =>
      intro hl
      obtain ⟨a, rfl⟩ := hl v (by simp)
      obtain ⟨r, rfl⟩ := ih (fun x hx => hl x (by simp [hx]))
      exact ⟨a :: r, rfl⟩
  obtain ⟨r, rfl⟩ := hex cs hall
  exact ⟨r, by simpa using hl, rfl⟩
theorem op_cells {base : Nat} {spare : Nat → Bool} {held : Bool} {n : Nat} {cs : List Value} {y : DataW H × List MemPlace} (hl : cs.length = 28) (h : DataW.trod enc Try.prog w base spare held n 28 cs = some y) :
    ∃ (k on bo mask : Int) (r : List Int), r.length = 24 ∧ cs = (opC k on bo mask r).toList := by
  obtain ⟨xs, k, hk, hxy, _, hxl, hf⟩ := DataW.trod_struct Try.underlying28 h
  match xs, hxl, cs, hl with
  | [y0, y1, y2, y3, y4], _, v0 :: v1 :: v2 :: v3 :: rest, hl =>
    have hrest : rest.length = 24 := by simpa using hl
    have g0 := hf 0 _ rfl
    have g1 := hf 1 _ rfl
    have g2 := hf 2 _ rfl
    have g3 := hf 3 _ rfl
    have g4 := hf 4 _ rfl
    simp [cellsKI, cellsKM, cellsRow, List.take_of_length_le (Nat.le_of_eq hrest)] at g0 g1 g2 g3 g4
    obtain ⟨a0, e0, _, _⟩ := DataW.trod_int Try.underlying3 g0
    obtain ⟨a1, e1, _, _⟩ := DataW.trod_int Try.underlying3 g1
    obtain ⟨a2, e2, _, _⟩ := DataW.trod_int Try.underlying3 g2
    obtain ⟨a3, e3, _, _⟩ := DataW.trod_int Try.underlying23 g3
    obtain ⟨r, hr, e4⟩ := row_cells hrest g4
    simp at e0 e1 e2 e3
    subst e0 e1 e2 e3 e4
    exact ⟨a0, a1, a2, a3, r, hr, rfl⟩
theorem open_op {base : Nat} {spare : Nat → Bool} {held : Bool} {rr : Reach} {b0 : Nat} {v : Value} {d : DataW H} {p : List MemPlace}
    (hv : Value.okWide Try.prog w rr b0 28 v) (h : DataW.Trod enc Try.prog w base spare held 28 v d p) :
    ∃ (k on bo mask : Int) (r : List Int), r.length = 24 ∧ v = .agg (opC k on bo mask r) := by
  obtain ⟨cs, rfl, hcs⟩ := okWide_struct Try.underlying28 hv
  obtain ⟨m, hm⟩ := h
  rw [cellsKO] at hcs
  obtain ⟨k, on, bo, mask, r, hr, e⟩ := op_cells (by simpa [Value.cells] using hcs) hm
  refine ⟨k, on, bo, mask, r, hr, ?_⟩
  have : cs.toList = (opC k on bo mask r).toList := e
  congr 1
  exact Array.toList_inj.1 this
end
set_option maxRecDepth 100000 in
theorem none_lifted (os : Os) (started : os.Started) (H : Type) (enc : TypeId × Value → H) :
    ReturnsInHanded {} Try.checked os 3 .any (Rows.indexNoneSpec.pre6 enc Try.prog Try.f3 Rows.indexNoneRow.domain false) (Rows.indexNoneSpec.post enc Try.prog Try.f3 false true false false) := by
  refine returnsInHanded_of_change (C := Try.checked) own started (by kernel_rfl) Try.func3
    (ChangeSpec.witness6 (enc := enc) (C := Try.checked) false ⟨#[], #[.agg #[.int .i64 0, .int .i64 0, .int .i64 0, .int .u32 0, .int .i32 0, .int .i32 0, .int .i32 0, .int .i32 0, .int .i32 0, .int .i32 0, .int .i32 0, .int .i32 0, .int .i32 0, .int .i32 0, .int .i32 0, .int .i32 0, .int .i32 0, .int .i32 0, .int .i32 0, .int .i32 0, .int .i32 0, .int .i32 0, .int .i32 0, .int .i32 0, .int .i32 0, .int .i32 0, .int .i32 0, .int .i32 0]], []⟩ 8 (by kernel_rfl) (by kernel_rfl) (by kernel_rfl) (by kernel_rfl)) ?_
  intro W base args ds gs before hval0 hW hcnd _
  have hval : ∀ (j : Nat) t v, Try.f3.params[j]? = some t → args[j]? = some v → Value.okWide Try.prog W .any base t v := hval0
  have hW' := hW
  obtain ⟨p, q, hA0, hV, rfl, hfz, hnd⟩ := hW
  have hA : DataW.TrodAll enc Try.prog W 0 (fun _ => true) true Try.f3.params.toList args.toList ds p := hA0
  rw [Try.params3] at hA hval
  obtain ⟨v0, vs0, d0, ds0, p0, q0, hargs, rfl, rfl, h0, r0⟩ := trodAll_cons hA
  obtain ⟨rfl, rfl, rfl⟩ := trodAll_nil r0
  obtain rfl : args = #[v0] := by cases args; simp_all
  obtain ⟨rfl, rfl⟩ := trodVars_none hV
  have k0 := h0
  have lt0 : ∀ x ∈ p0, x.block < W.heap.size := by obtain ⟨m, hm⟩ := k0; exact DataW.trod_lt m _ _ _ hm
  obtain ⟨k, on, bo, mask, r, hr, rfl⟩ := open_op (hval 0 28 v0 rfl rfl) h0
  clear hA0 hval0
  refine (indexNone_true k on bo mask r hr W).mono fun e W' ⟨he, bel⟩ => ?_
  subst he
  exact ⟨_, rfl, _, _, _, [], _, [], hW', trodAll_mk1 (shut_bool Try.underlying4 _), (trodAll_cons_mk (Below.trod laidOut (by kernel_rfl) (of_decide_eq_true (by kernel_rfl)) k0 bel lt0) trodAll_mk0), rfl, bel.frame _, fun h => by cases h⟩

theorem index_none : Rows.IndexNoneSaid :=
  OpenClaim.holds_of_wide 3 Try.f3 rfl rfl rfl rfl rfl rfl rfl ⟨rfl, rfl, rfl, rfl, rfl⟩ rfl rfl rfl rfl rfl (by kernel_rfl) Try.func3 (by kernel_rfl)
    (of_decide_eq_true (by kernel_rfl)) (by unfold Func.isWrapper; first | (rw [if_pos (by decide +kernel)]; kernel_rfl) | (rw [if_neg (by decide +kernel)]; exact ⟨rfl, rfl⟩))
    (fun os started H enc _ => none_lifted os started H enc)

#print axioms index_none
end Go.Proofs.Ytgeplijgcmdaeaa
