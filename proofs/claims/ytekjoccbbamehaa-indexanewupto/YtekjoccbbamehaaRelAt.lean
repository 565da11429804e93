import Derived.Test.YtekjoccbbamehaaRelAdd
import Derived.Deep.WholeRow
import Derived.Deep.MidRow
namespace Go.Proofs.Ytekjoccbbamehaa
open Go.RowKit Go.Maps
set_option linter.unusedVariables false
set_option linter.unusedSimpArgs false
attribute [local go_sem ↓] Go.wp_at_zero Go.wp_at_succ

theorem wpList_storeRow {P : Program} (w : World) {ops : Array Oper} {rest : List Oper} {o : Oper} {a : Act} {Q : Exit → Act → World → Prop} (hgd : o.guard = none) (p x : Operand) (t : TypeId)
    (ho : o.op = Op.store t p x) (b : Nat) (c c' : Array Value) (hp : a.eval p = .pointer (some ⟨b, 0, none⟩)) (hx : a.eval x = .agg c') (hb : w.heap[b]? = some (.cells c t (0, 0))) (hi : (P.info? t).map (·.size) = some c'.size) (hs : c.size = c'.size) (h1 : c'.all (·.oneCell') = true)
    (hK : wpList P ops Q rest (a.put o.dst undef) (w.setRow b c')) : wpList P ops Q (o :: rest) a w := by
  have hrun : (Instr.storeAt t (.pointer (some ⟨b, 0, none⟩)) (.agg c')).run P w = .ok () (w.setRow b c') := by
    simp only [Instr.storeAt, Instr.sureAddr, Sem.run_bind, Sem.run_pure, Result.andThen]
    exact run_storeVar_row _ _ t t c c' hb hi hs h1
  refine wpList_plain hgd fun K' hK' => ?_
  unfold Oper.wp
  simp [execOp, ho, hp, hx, hrun, Result.andThen]
  exact hK' _ _ hK

theorem rl_results3 {fn : Func} {sl s2 : Nat} {ty : TypeId} (hr : fn.results = #[.cell sl ty, .tmp s2]) {W : World} {tmps : Array Value} {b : Nat} {v u : Value} (h2 : tmps.getD sl undef = .pointer (some ⟨b, 0, none⟩)) (h3 : tmps.getD s2 undef = u) (hl : (loadVar ty ⟨b, 0, none⟩).run Try.prog W = .ok v W) :
    (results fn tmps).run Try.prog W = .ok (.tuple #[v, u]) W := by
  have h2' : tmps[sl]?.getD undef = .pointer (some ⟨b, 0, none⟩) := by simpa using h2
  have h3' : tmps[s2]?.getD undef = u := by simpa using h3
  unfold results
  rw [hr]
  simp [h2', h3', asAddr, hl, Result.andThen]
def zeroL : List Int := List.replicate 24 0
theorem zeroL_ok : RowOk zeroL := ⟨by decide, by decide⟩
theorem flat_row : ∀ (rows : List (List Int)), (∀ r ∈ rows, r.length = 24) → ∀ (i j : Nat) (r : List Int), rows[i]? = some r → j < 24 → (rows.flatMap (fun r => r.map cellI))[i * 24 + j]? = (r.map cellI)[j]?
  | [], _, i, j, r, h, _ => by simp at h
  | x :: rows, hok, 0, j, r, h, hj => by
    simp only [List.getElem?_cons_zero, Option.some.injEq] at h
    subst h
    rw [List.flatMap_cons, Nat.zero_mul, Nat.zero_add, List.getElem?_append_left (by rw [List.length_map, hok x (by simp)]; exact hj)]
  | x :: rows, hok, i + 1, j, r, h, hj => by
    have hx : (x.map cellI).length = 24 := by rw [List.length_map, hok x (by simp)]
    have := flat_row rows (fun y hy => hok y (by simp [hy])) i j r (by simpa using h) hj
    rw [List.flatMap_cons, List.getElem?_append_right (by rw [hx]; omega), hx, show (i + 1) * 24 + j - 24 = i * 24 + j by omega, this]
/-- a row of the list -/
theorem run_loadAtRow {w : World} {B : Nat} {g c n : Nat} {rows : List (List Int)} (hn : n = rows.length) (h : w.ownsRow B 34 24 (.slice (some ⟨g, 0, none⟩) n c) n (rows.flatMap (fun r => r.map cellI))) (hok : ∀ r ∈ rows, r.length = 24) {i : Nat} {r : List Int} (hi : rows[i]? = some r) :
    (loadVar 34 ⟨g, i * 24, none⟩).run Try.prog w = .ok (rowV r) w := by
  have hr : r.length = 24 := hok r (List.mem_of_getElem? hi)
  refine run_loadVar_mid w g (i * 24) 34 (r.map cellI) _ (fun j v hj => ?_) Try.underlying34 rfl (by rw [List.length_map, hr]; exact infoRow)
  have hj24 : j < 24 := by
    have := (List.getElem?_eq_some_iff.1 hj).1
    rw [List.length_map, hr] at this
    exact this
  have hx := flat_row rows hok i j r hi hj24
  rw [hj] at hx
  obtain ⟨hl, ⟨h1, _⟩ | ⟨g', cap', cur, hv, h0, hb, hn', hc, hs, ht⟩⟩ := h
  · cases h1
  · cases hv
    rw [← ht, List.getElem?_take] at hx
    split at hx
    · unfold World.cell?
      simp only [hb]
      simpa using hx
    · cases hx
attribute [-go_sem] loadVar
set_option maxHeartbeats 3200000 in
set_option maxRecDepth 100000 in
theorem at_any {w : World} {B t m : Nat} {sv : Value} {rows : List (List Int)} {ar gone : Int} (h : Rel w B t m sv rows ar gone) (i : Nat) (r : List Int) (hi : rows[i]? = some r) (hlen : rows.length ≤ 1000000000) :
    Calls Try.prog 9 #[.pointer (some ⟨t, 0, none⟩), .int .i64 (i : Int)] w fun e w' => e = .returned (.tuple #[rowV r, .int .i64 0]) ∧ Below w.heap.size w w' := by
  have hb := (Below.refl w.heap.size w).alloc (Nat.le_refl _) (.cells (rowC zeroL) 34)
  have HB := Lib.hid hb
  have HZ := Lib.hid (rowAt_new w zeroL)
  have HR := Lib.hid (h.keep hb)
  have HT := Lib.hid (there_yes (h.keep hb))
  obtain ⟨hlt, _⟩ := List.getElem?_eq_some_iff.1 hi
  have HI := Lib.hid hi
  have hlt' : (i : Int) < (rows.length : Int) := by omega
  have hi0 : (0 : Int) ≤ (i : Int) := by omega
  clear h hb hi
  go_enter Try.func9, Try.ntmps9
  go_upto_region 1 with fail
  rw [show rowC zeroL = #[.int .i32 0, .int .i32 0, .int .i32 0, .int .i32 0, .int .i32 0, .int .i32 0, .int .i32 0, .int .i32 0, .int .i32 0, .int .i32 0, .int .i32 0, .int .i32 0, .int .i32 0, .int .i32 0, .int .i32 0, .int .i32 0, .int .i32 0, .int .i32 0, .int .i32 0, .int .i32 0, .int .i32 0, .int .i32 0, .int .i32 0, .int .i32 0] from rfl] at HB HR HT
  have HZ' : Hid ((w.alloc (.cells #[.int .i32 0, .int .i32 0, .int .i32 0, .int .i32 0, .int .i32 0, .int .i32 0, .int .i32 0, .int .i32 0, .int .i32 0, .int .i32 0, .int .i32 0, .int .i32 0, .int .i32 0, .int .i32 0, .int .i32 0, .int .i32 0, .int .i32 0, .int .i32 0, .int .i32 0, .int .i32 0, .int .i32 0, .int .i32 0, .int .i32 0, .int .i32 0] 34)).heap[w.heap.size]? = some (.cells #[.int .i32 0, .int .i32 0, .int .i32 0, .int .i32 0, .int .i32 0, .int .i32 0, .int .i32 0, .int .i32 0, .int .i32 0, .int .i32 0, .int .i32 0, .int .i32 0, .int .i32 0, .int .i32 0, .int .i32 0, .int .i32 0, .int .i32 0, .int .i32 0, .int .i32 0, .int .i32 0, .int .i32 0, .int .i32 0, .int .i32 0, .int .i32 0] 34 (0, 0))) := HZ.out
  clear HZ
  generalize w.alloc (.cells #[.int .i32 0, .int .i32 0, .int .i32 0, .int .i32 0, .int .i32 0, .int .i32 0, .int .i32 0, .int .i32 0, .int .i32 0, .int .i32 0, .int .i32 0, .int .i32 0, .int .i32 0, .int .i32 0, .int .i32 0, .int .i32 0, .int .i32 0, .int .i32 0, .int .i32 0, .int .i32 0, .int .i32 0, .int .i32 0, .int .i32 0, .int .i32 0] 34) = W at HB HR HT HZ' ⊢
  go_wp2_with fail
  refine HT.out.mono ?_
  rintro e w1 ⟨rfl, rfl⟩
  have hown := HR.out.own
  obtain ⟨ao, co, hsv, _⟩ := own_form hown
  subst hsv
  obtain ⟨g, hao⟩ : ∃ g, ao = some ⟨g, 0, none⟩ := by
    rcases hown.2 with ⟨h1, h2⟩ | ⟨g, cap, cur, hv, _⟩
    · omega
    · cases hv; exact ⟨g, rfl⟩
  subst hao
  have l0 := run_loadRows (HR.out.rl.at (j := 0) rfl)
  have l2 := run_loadAtRow rfl hown (fun x hx => (HR.out.ok x hx).len) HI.out
  unfold rowV at l2
  have HRK := Lib.hid (HR.out.ok r (List.mem_of_getElem? HI.out))
  clear HT hown HR
  go_wp2_with (refine wpList_storeRow _ rfl (.tmp 4) (.tmp 30) 34 rfl w.heap.size #[.int .i32 0, .int .i32 0, .int .i32 0, .int .i32 0, .int .i32 0, .int .i32 0, .int .i32 0, .int .i32 0, .int .i32 0, .int .i32 0, .int .i32 0, .int .i32 0, .int .i32 0, .int .i32 0, .int .i32 0, .int .i32 0, .int .i32 0, .int .i32 0, .int .i32 0, .int .i32 0, .int .i32 0, .int .i32 0, .int .i32 0, .int .i32 0] (List.map cellI r).toArray rfl rfl HZ'.out (by rw [show (List.map cellI r).toArray.size = 24 by simp [HRK.out.len]]; exact infoRow) (by simp [HRK.out.len]) (by simp [cellI, Value.oneCell']) ?_)
  have HF : RowAt (w1.setRow w.heap.size (List.map cellI r).toArray) w.heap.size r := setRow_heap w1 w.heap.size _ _ _ (0, 0) HZ'.out
  refine bodyPost_ret (rl_results3 Try.results9 (b := w.heap.size) (v := rowV r) (u := .int .i64 0) rfl rfl (run_loadRow HF HRK.out.len)) rfl ⟨rfl, ?_⟩
  exact HB.out.trans ⟨rfl, rfl, rfl, by simp, fun k hk => setRow_other w1 w.heap.size k _ (by omega)⟩
end Go.Proofs.Ytekjoccbbamehaa
