import Derived.Test.YtlnioaokpmeioaaGreatDoorTreeBeyondSQ
import Derived.Test.YtlnioaokpmeioaaGreatDoorG7
import Derived.Lib.SmallJoins
import Derived.Test.YtlnioaokpmeioaaGreatDoorG20
section
namespace Go.Proofs.YtlnioaokpmeioaaGreatDoor
open Go.RowKit Go.Maps
set_option linter.unusedVariables false
set_option linter.unusedSimpArgs false
attribute [local go_sem ↓] Go.wp_at_zero Go.wp_at_succ

/-- how deep an expression is -/
def depthD : Nat → E → Nat
  | 0, _ => 0
  | d + 1, e => (e.kids.map (depthD d)).foldl max 0 + 1
theorem foldl_max_ge : ∀ (l : List Nat) (m : Nat), m ≤ l.foldl max m
  | [], m => Nat.le_refl _
  | x :: l, m => Nat.le_trans (Nat.le_max_left m x) (foldl_max_ge l (max m x))
theorem foldl_max_le : ∀ (l : List Nat) (m b : Nat), m ≤ b → (∀ x ∈ l, x ≤ b) → l.foldl max m ≤ b
  | [], m, b, h, _ => h
  | x :: l, m, b, h, hl => foldl_max_le l (max m x) b (Nat.max_le.2 ⟨h, hl x List.mem_cons_self⟩) (fun y hy => hl y (List.mem_cons_of_mem _ hy))
theorem mem_flat_len (d : Nat) {l : List E} {e : E} (h : e ∈ l) : (termsD d e).length ≤ (l.flatMap (termsD d)).length := by
  induction l with
  | nil => cases h
  | cons x l ih =>
    rw [List.flatMap_cons, List.length_append]
    rcases List.mem_cons.1 h with rfl | h
    · omega
    · have := ih h; omega
theorem depth_le : ∀ (d : Nat) (e : E), depthD d e ≤ szD d e
  | 0, _ => Nat.le_refl _
  | d + 1, e => by
    unfold szD
    rw [termsD_succ, List.length_cons, depthD]
    have : (e.kids.map (depthD d)).foldl max 0 ≤ (e.kids.flatMap (termsD d)).length := by
      refine foldl_max_le _ _ _ (Nat.zero_le _) (fun x hx => ?_)
      obtain ⟨k, hk, rfl⟩ := List.mem_map.1 hx
      exact Nat.le_trans (depth_le d k) (mem_flat_len d hk)
    omega
theorem max_take {l : List Nat} {k : Nat} (h : k < l.length) : (l.take (k + 1)).foldl max 0 = max ((l.take k).foldl max 0) l[k] := by
  rw [List.take_succ_eq_append_getElem h, List.foldl_append]
  rfl
end Go.Proofs.YtlnioaokpmeioaaGreatDoor
end
section
namespace Go.Proofs.YtlnioaokpmeioaaGreatDoor
open Go.RowKit Go.Maps
set_option linter.unusedVariables false
set_option linter.unusedSimpArgs false
attribute [local go_sem ↓] Go.wp_at_zero Go.wp_at_succ

theorem termsD_wf {w : World} : ∀ (d : Nat) (e : E) (a : Option Addr) (c : Nat), EIs w d e a c → ∀ t ∈ termsD d e, t.wf
  | 0, e, a, c, h, t, ht => absurd h (fun h => h)
  | d + 1, e, a, c, h, t, ht => by
    obtain ⟨_, htw, _, _, hk⟩ := h
    rw [termsD_succ] at ht
    rcases List.mem_cons.1 ht with rfl | ht
    · exact htw
    · obtain ⟨x, hx, htx⟩ := List.mem_flatMap.1 ht
      obtain ⟨i, hi, rfl⟩ := List.getElem_of_mem hx
      obtain ⟨g, off, _, _, hKS⟩ := hk (by omega)
      obtain ⟨a', c', _, he⟩ := hKS i hi
      rw [atE_eq hi] at he
      exact termsD_wf d _ a' c' he t htx
theorem variablesExpr_any (ba : Nat) (d : Nat) (e : E) (a : Option Addr) (c : Nat) (w : World) (hba : ba < w.heap.size) (hx : XAt w ba 0 e.op e.t (.slice a e.kids.length c)) (hE : EIs w d e a c) (hs : szD d e ≤ 1048576) :
    Calls Tryz.prog 56 #[.iface 145 (.pointer (some ⟨ba, 0, none⟩))] w fun e' w' => ∃ sv, e' = .returned sv ∧ w'.ownsRow w.heap.size 9 1 sv (vsT [] (termsD d e)).length ((vsT [] (termsD d e)).flatMap strB) ∧ Below w.heap.size w w' := by
  have HW : Hid _ := walkExpr_any rfl d [] (.slice none 0 0) _ e a c ba 0 (vst_new w) hba hx hE (by unfold szD at hs; simp; omega)
  unfold handE at HW
  have hmk := run_makeSet
  clear hx hE
  go_enter Tryz.func56, Tryz.ntmps56
  go_wp2_with fail
  refine Calls.mono HW.out ?_
  rintro ee w2 ⟨⟨u, rfl⟩, sv2, hv2⟩
  have c0 := hv2.co
  obtain ⟨a2, c2, rfl, _⟩ := own_form hv2.own
  go_wp2
  go_ret
  exact ⟨_, rfl, hv2.own, hv2.bel⟩
theorem vexprVars_any (d : Nat) (e : E) (a : Option Addr) (c : Nat) (w : World) (hE : EIs w d e a c) (hs : szD d e ≤ 1048576) : Calls Tryz.prog 52 #[e.val a c] w fun r w' => ∃ sv, r = .returned sv ∧ Ls w' sv (vsT [] (termsD d e)).length ((vsT [] (termsD d e)).flatMap strB) ∧ Below w.heap.size w w' := by
  have b0 := (Below.refl w.heap.size w).alloc (Nat.le_refl _) (.cells #[.int .i8 e.op, .string e.t.v, .int .i8 e.t.a.k, .int .i64 e.t.a.n, .string e.t.a.s, .slice a e.kids.length c] 63)
  have HV : Hid _ := variablesExpr_any w.heap.size d e a c (w.alloc (.cells #[.int .i8 e.op, .string e.t.v, .int .i8 e.t.a.k, .int .i64 e.t.a.n, .string e.t.a.s, .slice a e.kids.length c] 63)) (by simp) (by refine ⟨?_, ?_, ?_, ?_, ?_, ?_⟩ <;> go_simp) (hE.below b0) hs
  clear hE
  unfold E.val
  go_enter Tryz.func52, Tryz.ntmps52
  go_wp2_with fail
  refine Calls.mono HV.out ?_
  rintro ee w1 ⟨sv, rfl, ho, b1⟩
  go_wp2
  go_ret
  exact ⟨_, rfl, ls_own ho, b0.trans (b1.mono b0.size)⟩
end Go.Proofs.YtlnioaokpmeioaaGreatDoor
end
