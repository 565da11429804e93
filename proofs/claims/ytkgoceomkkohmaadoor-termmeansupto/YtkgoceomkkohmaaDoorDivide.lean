import Derived.Test.YtkgoceomkkohmaaDoorArith
import Derived.Defers
import Derived.Recover
import Derived.RegionTactic
import Derived.Laws.Pointers
namespace Go.Proofs.YtkgoceomkkohmaaDoor.AR
open Go.RowKit
set_option linter.unusedVariables false

theorem catch_panicking (p q r : Addr) (x y : Int) (z : Bool) (u : TypeId) (pv : Value) (older : List PanicEntry) (w : World) (hp : w.cell? p = some (.int .i64 x)) (hq : w.cell? q = some (.int .i64 y)) (hr : w.cell? r = some (.bool z))
    (fp : w.frozen? p = false) (fq : w.frozen? q = false) (fr : w.frozen? r = false) (pq : ¬ p = q) (pr : ¬ p = r) (qr : ¬ q = r) :
    CallsD Tryd.prog 49 #[.pointer (some p), .pointer (some q), .pointer (some r)] (.panicking ({ v := .iface u pv, recovered := false } :: older)) w fun e u' w' =>
      e = .returned (.tuple #[]) ∧ u' = .panicking ({ v := .iface u pv, recovered := true } :: older) ∧ w' = ((w.setCell p (.int .i64 0)).setCell q (.int .i64 0)).setCell r (.bool false) := by
  refine callsD_of_wpS Tryd.func49 rfl fun c₀ cs hu => ?_
  apply wpS_seq
  apply wpS_region
  simp [wpOpsS, go_sem, recoverD, hu, Tryd.ntmps49, Exit.thenS]
  refine wpS_cond (t := true) (by simp [Act.eval, Array.replicate]) ?_
  simp only [if_true]
  apply wpS_region
  have hq' : (w.setCell p (.int .i64 0)).cell? q = some (.int .i64 y) := by rw [World.cell?_setCell_other _ _ _ _ pq]; exact hq
  have hr' : ((w.setCell p (.int .i64 0)).setCell q (.int .i64 0)).cell? r = some (.bool z) := by rw [World.cell?_setCell_other _ _ _ _ qr, World.cell?_setCell_other _ _ _ _ pr]; exact hr
  simp [wpOpsS, go_sem, hp, fp, fq, fr, hq', hr', bodyPostS, results, Tryd.results49]

theorem catch_idle (p q r : Addr) (w : World) :
    CallsD Tryd.prog 49 #[.pointer (some p), .pointer (some q), .pointer (some r)] .returning w fun e u' w' => e = .returned (.tuple #[]) ∧ u' = .returning ∧ w' = w := by
  refine callsD_of_wpS Tryd.func49 rfl fun c₀ cs hu => ?_
  apply wpS_seq
  apply wpS_region
  simp [wpOpsS, go_sem, recoverD, hu, Tryd.ntmps49, Exit.thenS]
  refine wpS_cond (t := false) (by simp [Act.eval, Array.replicate]) ?_
  simp only [Bool.false_eq_true, if_false]
  refine wpS_of_wp (wp_skip ?_)
  cases c₀
  simp_all [bodyPostS, results, Tryd.results49]

set_option maxHeartbeats 800000 in
theorem divide_some (a b : Int) (hb : ¬ b = 0) (w : World) :
    Calls Tryd.prog 40 #[.int .i64 a, .int .i64 b] w fun e w' => e = .returned (.tuple #[.int .i64 (wrap64 (a.tdiv b)), .int .i64 (a.tmod b), .bool true]) ∧ Below w.heap.size w w' := by
  have hmf : ∀ (fn : Fn) (first cap : Array Value) (w : World), (Instr.makeFunc fn first cap).run Tryd.prog w = .ok (.func fn first cap) w := fun _ _ _ _ => rfl
  go_enter_defers Tryd.func40, Tryd.ntmps40
  go_wp2
  go_region
  go_wp2
  refine leaves_cons (f := 49) (args := #[.pointer (some ⟨w.heap.size, 0, none⟩), .pointer (some ⟨w.heap.size + 1, 0, none⟩), .pointer (some ⟨w.heap.size + 1 + 1, 0, none⟩)]) (by simp) (by simp [go_sem]) ?_
  refine (catch_idle ⟨w.heap.size, 0, none⟩ ⟨w.heap.size + 1, 0, none⟩ ⟨w.heap.size + 1 + 1, 0, none⟩ _).mono ?_
  rintro e u' w'' ⟨rfl, rfl, rfl⟩
  simp [Leaves, settle, results, Tryd.results40, go_sem]
  exact ((((Below.refl _ _).alloc (Nat.le_refl _) _).alloc (by simp) _).alloc (by simp; omega) _).drew

/-- what is left where the division faults: one panic, the world and the slots that the door reads -/
def Faulted (W0 : World) (ds : List Deferred) (p4 p5 p6 : Value) : Exit → Act → World → Prop
  | .panic c, a, w => (∃ u pv, c = [{ v := .iface u pv, recovered := false }]) ∧ w = W0 ∧ a.defers = ds ∧ a.tmps[4]? = some p4 ∧ a.tmps[5]? = some p5 ∧ a.tmps[6]? = some p6
  | _, _, _ => False

theorem Faulted.put {W0 : World} {ds : List Deferred} {p4 p5 p6 : Value} {k : Nat} (hk : 6 < k) (v : Value) : ∀ c a w, Faulted W0 ds p4 p5 p6 (.panic c) (Act.put a (some k) v) w → Faulted W0 ds p4 p5 p6 (.panic c) a w := by
  intro c a w h
  simp only [Faulted, Act.put] at h ⊢
  rwa [Array.getElem?_setIfInBounds_ne (by omega), Array.getElem?_setIfInBounds_ne (by omega), Array.getElem?_setIfInBounds_ne (by omega)] at h

set_option maxHeartbeats 800000 in
theorem divide_zero (a : Int) (w : World) :
    Calls Tryd.prog 40 #[.int .i64 a, .int .i64 0] w fun e w' => e = .returned (.tuple #[.int .i64 0, .int .i64 0, .bool false]) ∧ Below w.heap.size w w' := by
  have hmf : ∀ (fn : Fn) (first cap : Array Value) (w : World), (Instr.makeFunc fn first cap).run Tryd.prog w = .ok (.func fn first cap) w := fun _ _ _ _ => rfl
  go_enter_defers Tryd.func40, Tryd.ntmps40
  go_wp2
  have hP : ∀ (e : Exit) (f : Act) (v : World), Faulted (((w.alloc (.cells #[.int .i64 0] 2)).alloc (.cells #[.int .i64 0] 2)).alloc (.cells #[.bool false] 4)).drew
      [{ target := .fn (.func 49) #[.pointer (some ⟨w.heap.size, 0, none⟩), .pointer (some ⟨w.heap.size + 1, 0, none⟩), .pointer (some ⟨w.heap.size + 1 + 1, 0, none⟩)], args := #[] }]
      (.pointer (some ⟨w.heap.size, 0, none⟩)) (.pointer (some ⟨w.heap.size + 1, 0, none⟩)) (.pointer (some ⟨w.heap.size + 1 + 1, 0, none⟩)) e f v →
      bodyPostD Tryd.prog Tryd.f40 (fun e w' => e = .returned (.tuple #[.int .i64 0, .int .i64 0, .bool false]) ∧ Below w.heap.size w w') e f v := by
    intro e f v h
    cases e with
    | panic c =>
      obtain ⟨⟨u, pv, rfl⟩, rfl, hd, h4, h5, h6⟩ := h
      show Leaves _ _ _ _ _ _ _
      rw [hd]
      refine leaves_cons (f := 49) (args := #[.pointer (some ⟨w.heap.size, 0, none⟩), .pointer (some ⟨w.heap.size + 1, 0, none⟩), .pointer (some ⟨w.heap.size + 1 + 1, 0, none⟩)]) (by simp) (by simp [go_sem]) ?_
      refine (catch_panicking ⟨w.heap.size, 0, none⟩ ⟨w.heap.size + 1, 0, none⟩ ⟨w.heap.size + 1 + 1, 0, none⟩ 0 0 false u pv [] _ ?_ ?_ ?_ ?_ ?_ ?_ ?_ ?_ ?_).mono ?_
      all_goals try (first | (go_simp; done) | (simp; done))
      rintro e u' w'' ⟨rfl, rfl, rfl⟩
      simp [Leaves, settle, results, Tryd.results40, go_sem, Array.getD_eq_getD_getElem?, h4, h5, h6]
      exact ((((Below.refl _ _).alloc (Nat.le_refl _) _).alloc (by simp) _).alloc (by simp; omega) _).drew
    | _ => exact absurd h (by simp [Faulted])
  refine Code.wp_mono (Q := Faulted (((w.alloc (.cells #[.int .i64 0] 2)).alloc (.cells #[.int .i64 0] 2)).alloc (.cells #[.bool false] 4)).drew
      [{ target := .fn (.func 49) #[.pointer (some ⟨w.heap.size, 0, none⟩), .pointer (some ⟨w.heap.size + 1, 0, none⟩), .pointer (some ⟨w.heap.size + 1 + 1, 0, none⟩)], args := #[] }]
      (.pointer (some ⟨w.heap.size, 0, none⟩)) (.pointer (some ⟨w.heap.size + 1, 0, none⟩)) (.pointer (some ⟨w.heap.size + 1 + 1, 0, none⟩))) ?_ ?_
  · intro e f v h
    cases e with
    | panic c => exact hP _ _ _ h
    | _ => exact absurd h (by simp [Faulted])
  clear hP
  refine wp_region_any (by kernel_rfl) ?_
  change wpAny _ _ _ _ _ _ _ (World.drew _)
  refine wpAny_take (i := 0) (v := .int .i64 a) rfl (by kernel_rfl) (by kernel_rfl) (by kernel_rfl) (Faulted.put (by omega) _) (Or.inl ⟨by rfl, ?_⟩) ?_
  · intro w; go_simp
  refine wpAny_take (i := 1) (v := .int .i64 0) rfl (by kernel_rfl) (by kernel_rfl) (by kernel_rfl) (Faulted.put (by omega) _) (Or.inl ⟨by rfl, ?_⟩) ?_
  · intro w; go_simp
  refine wpAny_take (i := 3) (v := .int .i64 a) rfl (by kernel_rfl) (by kernel_rfl) (by kernel_rfl) (Faulted.put (by omega) _) (Or.inl ⟨by rfl, ?_⟩) ?_
  · intro w; go_simp
  refine wpAny_take (i := 4) (v := .int .i64 0) rfl (by kernel_rfl) (by kernel_rfl) (by kernel_rfl) (Faulted.put (by omega) _) (Or.inl ⟨by rfl, ?_⟩) ?_
  · intro w; go_simp
  refine wpAny_ready (rs := [2, 5]) (by kernel_rfl) (by simp) ?_
  refine AllReady.cons rfl (fun K hK => ?_) (AllReady.cons rfl (fun K hK => ?_) AllReady.nil)
  · go_simp
    clear hK K
    exact ⟨⟨_, _, rfl⟩, rfl, rfl, rfl, rfl, rfl⟩
  · go_simp
    clear hK K
    exact ⟨⟨_, _, rfl⟩, rfl, rfl, rfl, rfl, rfl⟩

end Go.Proofs.YtkgoceomkkohmaaDoor.AR
