import Derived.Test.YthdcgikhcghigaaSpAdd
namespace Go.Proofs.Ythdcgikhcghigaa
open Go.RowKit Go.Maps Go.ChangeMaps
set_option linter.unusedVariables false
set_option linter.unusedSimpArgs false
attribute [local go_sem ↓] Go.wp_at_zero Go.wp_at_succ

def numC (p : V × Nat) : List Value := [.int .i32 p.2, .int .i8 p.1.k, .int .i64 p.1.n, .string p.1.s]
def numsC (vs : List V) : List Value := vs.zipIdx.flatMap numC
theorem infoNum : (Try.prog.info? 67).map (fun i => (i.zero, i.size, i.bytes)) = some (some (.agg #[.int .i32 0, .int .i8 0, .int .i64 0, .string ⟨#[]⟩]), 4, 40) := by kernel_rfl
theorem numsC_snoc {vs : List V} {k : Nat} (h : k < vs.length) : numsC (vs.take (k + 1)) = numsC (vs.take k) ++ [.int .i32 k, .int .i8 (atV vs k).k, .int .i64 (atV vs k).n, .string (atV vs k).s] := by
  unfold numsC
  rw [List.take_succ_eq_append_getElem h, List.zipIdx_append, List.flatMap_append, atV_eq h]
  simp [numC, Nat.min_eq_left (Nat.le_of_lt h)]
theorem numsC_length (vs : List V) : (numsC vs).length = vs.length * 4 := by
  unfold numsC
  rw [List.length_flatMap]
  have : (vs.zipIdx.map fun a => (numC a).length) = List.replicate vs.zipIdx.length 4 := by
    rw [List.eq_replicate_iff]
    refine ⟨by simp, fun b hb => ?_⟩
    obtain ⟨a, _, rfl⟩ := List.mem_map.1 hb
    rfl
  rw [this]
  simp
theorem four_news (w : World) (i : Nat) (v : V) : ∀ (j : Nat) (u : Value), ([.int .i32 i, .int .i8 v.k, .int .i64 v.n, .string v.s] : List Value)[j]? = some u → (w.alloc (.cells #[.int .i32 i, .int .i8 v.k, .int .i64 v.n, .string v.s] 67)).cell? ((⟨w.heap.size, 0, none⟩ : Addr).add j) = some u := by
  intro j u h
  have hj : j < 4 := (List.getElem?_eq_some_iff.1 h).1
  have e : (⟨w.heap.size, 0, none⟩ : Addr).add j = ⟨w.heap.size, j, none⟩ := by rw [WideShapes.add_plain]; simp
  rw [e]
  simp only [World.cell?]
  rw [heap_alloc_new]
  obtain rfl | rfl | rfl | rfl : j = 0 ∨ j = 1 ∨ j = 2 ∨ j = 3 := by omega
  all_goals simpa using h
set_option maxHeartbeats 3200000 in
set_option maxRecDepth 100000 in
theorem rtall_any {w : World} {B p : Nat} {sv : Value} {vs : List V} {most : Int} (h : Rt w B p sv vs most) (hlen : vs.length ≤ 1000000000) :
    Calls Try.prog 11 #[.pointer (some ⟨p, 0, none⟩)] w fun e w' => ∃ o, e = .returned o ∧ w'.ownsRow w.heap.size 67 4 o vs.length (numsC vs) ∧ Below w.heap.size w w' := by
  obtain ⟨i0, hi0, hz0, hz1, hz2⟩ := info_parts infoNum
  obtain ⟨a, c, rfl, _⟩ := ownsRow_form h.own
  have HR := Lib.hid h
  clear h
  go_enter Try.func11, Try.ntmps11
  go_wp2
  go_loopw [3, 4] (fun o i wr => ∃ k : Nat, k ≤ vs.length ∧ i = .int .i64 k ∧ Below w.heap.size w wr ∧ wr.ownsRow w.heap.size 67 4 o k (numsC (vs.take k))) (fun _ i _ => vs.length - (intOf i).toNat)
  case atStart => exact ⟨0, Nat.zero_le _, rfl, Below.refl _ _, World.ownsRow_nil _ _ _ _⟩
  case round =>
    obtain ⟨k, hk, rfl, bel, own⟩ := hrel
    have hR := HR.out.keep bel
    have HT := Lib.hid (rtlen_yes hR)
    by_cases hlt : k < vs.length
    · have hlt' : (k : Int) < (vs.length : Int) := by omega
      have c2 := hR.rl.at (j := 2) rfl
      obtain ⟨g, c', e, v0, v1, v2⟩ := row_at hR.own hlt
      cases e
      have HS := Lib.hid (numsC_snoc hlt)
      have HBL := Lib.hid bel
      obtain ⟨ao, co, rfl, hlo, _⟩ := ownsRow_form own
      clear hR
      generalize atV vs k = x at v0 v1 v2 HS
      go_wp2_with fail
      refine HT.out.mono ?_
      rintro e w1 ⟨rfl, rfl⟩
      clear HT
      go_wp2_with (first
        | (at_builtin; refine wpList_append_own_at _ rfl _ _ 50 rfl w.heap.size 67 i0 _ 4 40 Try.underlying50 hi0 hz0 hz1 hz2 rfl (by decide) _ _ _ rfl (own_belowW own ((Below.refl _ _).alloc (Nat.le_refl _) _)) ⟨w1.heap.size, 0, none⟩ 1 1 [.int .i32 k, .int .i8 x.k, .int .i64 x.n, .string x.s] rfl rfl (four_news w1 k x) (by simp [Value.oneCell']) (by unfold maxLen; omega) (by omega) (by have := HBL.out.size; simp; omega) ?_; intro v' w2 hown' hgrow hnil hloc)
        | fail)
      go_roundw
      case rel => exact ⟨k + 1, by omega, by go_num, (HBL.out.alloc HBL.out.size _).grown hgrow (by have := HBL.out.size; simp; omega) (fun j hj => (own.lt j hj).1), by rw [HS.out]; exact hown'⟩
      case measure => simp [intOf]; omega
    · obtain rfl : k = vs.length := by omega
      rw [List.take_length] at own
      clear hR
      go_wp2_with fail
      refine HT.out.mono ?_
      rintro e w1 ⟨rfl, rfl⟩
      clear HT
      go_wp2
      go_ret
      exact ⟨_, rfl, own, bel⟩
end Go.Proofs.Ythdcgikhcghigaa
