import Derived.Test.YtlnhnpfgmiffpaaRpAll
namespace Go.Proofs.Ytlnhnpfgmiffpaa
open Go.RowKit Go.Maps Go.Shelf
set_option linter.unusedVariables false
set_option linter.unusedSimpArgs false
attribute [local go_sem ↓] Go.wp_at_zero Go.wp_at_succ
section
variable {w w' : World} {pT pR : Value} {rows : List (List Int)} {n : Nat} {gn : Int} {E : Nat → Prop}
/-- two that were made one behind the other, and where they lie -/
theorem pa_join2 {B B2 : Nat} {b : Bool} {qT qR : Value} (hT : Ct w B b qT rows n) (hb : Below w.heap.size w w') (hR : Cr w' B2 b qR rows n) (h2 : w.heap.size ≤ B2) : ∃ E, Pa w' qT qR rows n 0 E ∧ ∀ k, E k → (B ≤ k ∧ k < w.heap.size) ∨ B2 ≤ k := by
  cases hT with
  | nil =>
    cases hR
    exact ⟨_, .nil, fun k hk => hk.elim⟩
  | @live t m n sv rows rel na =>
    cases hR with
    | @live p n sv' rows rf =>
      have r2 := rel.keep hb
      have tl := World.rowIs.lt rel.rl
      have ml := rel.map.lt
      have lo := rel.lo
      have plo := rf.lo
      have gl : ∀ g, sv.ownBlock = some g → B ≤ g ∧ g < w.heap.size := fun g hg => rel.own.lt g hg
      have gr : ∀ g, sv'.ownBlock = some g → B2 ≤ g := fun g hg => (rf.own.lt g hg).1
      refine ⟨_, .live ⟨r2.rl, own_lowR r2.own (Nat.zero_le _), r2.map, r2.nd, r2.ok, ⟨Nat.zero_le _, Nat.zero_le _⟩, r2.ne⟩ ⟨rf.rl, own_lowR rf.own (Nat.zero_le _), rf.ok, Nat.zero_le _, rf.ne⟩ na ⟨by omega, by omega, fun g hg => ⟨by have := gl g hg; omega, fun e => by have := gl g hg; have := gr g e; omega⟩, fun g hg => by have := gr g hg; exact ⟨by omega, by omega⟩⟩, fun k hk => ?_⟩
      rcases hk with e | e | e | e | e
      · exact .inl (by omega)
      · exact .inl (by omega)
      · exact .inr (by omega)
      · exact .inl (gl k e)
      · exact .inr (gr k e)
/-- a fresh pair, nothing kept -/
theorem st_fresh {c : Nat} {qT qR : Value} (hr : RL w c 29 [qT, qR, .nilFunc, .int .i64 0, .int .i64 0]) (hp : Pa w qT qR rows n gn E) (hc : ¬ E c) : St w c 29 [qT, qR, .nilFunc, .int .i64 0, .int .i64 0] 0 qT qR .nilFunc 0 0 rows n gn E (fun _ => False) :=
  ⟨hr, rfl, rfl, rfl, rfl, rfl, hp, .nil, fun _ _ h => h, hc, fun h => h⟩
theorem St.tch {b o : Nat} {ty : TypeId} {l : List Value} {kv : Value} {f t : Int} {K F : Nat → Prop} (h : St w b ty l o pT pR kv f t rows n gn E K) (tc : BK.Tch F w w') (h1 : ∀ k, E k → ¬ F k) (h2 : ∀ k, K k → ¬ F k) (h3 : ¬ F b) : St w' b ty l o pT pR kv f t rows n gn E K :=
  ⟨World.rowIs.of_block h.rl (tc.block b (World.rowIs.lt h.rl) h3), h.i0, h.i1, h.i2, h.i3, h.i4, h.pa.blocks (fun k hk => tc.block k (h.pa.lt hk) (h1 k hk)), h.kp.blocks tc.size (fun k hk => tc.block k (h.kp.lt hk) (h2 k hk)), h.dj, h.nb⟩
theorem OpAt.tch {c : Nat} {F : Nat → Prop} {on k nn mm mask : Int} {r : List Int} (h : OpAt w c on k nn mm mask r) (tc : BK.Tch F w w') (hn : ¬ F c) : OpAt w' c on k nn mm mask r := (tc.block c h.lt hn).trans h
end
/-- a pair written into its block -/
theorem room_fin {W w3 : World} {c : Nat} {qT qR : Value} {rows : List (List Int)} {n : Nat} {Ec : Nat → Prop} (q : RL w3 c 29 [.pointer none, .pointer none, .nilFunc, .int .i64 0, .int .i64 0]) (b3 : Below W.heap.size W w3) (hc : W.heap.size ≤ c) (hp : Pa w3 qT qR rows n 0 Ec) (hE : ∀ k, Ec k → k ≠ c) :
    Below W.heap.size W (((((w3.setCell ⟨c, 0, none⟩ qT).setCell ⟨c, 1, none⟩ qR).setCell ⟨c, 2, none⟩ .nilFunc).setCell ⟨c, 3, none⟩ (.int .i64 0)).setCell ⟨c, 4, none⟩ (.int .i64 0)) ∧
    RL (((((w3.setCell ⟨c, 0, none⟩ qT).setCell ⟨c, 1, none⟩ qR).setCell ⟨c, 2, none⟩ .nilFunc).setCell ⟨c, 3, none⟩ (.int .i64 0)).setCell ⟨c, 4, none⟩ (.int .i64 0)) c 29 [qT, qR, .nilFunc, .int .i64 0, .int .i64 0] ∧
    Pa (((((w3.setCell ⟨c, 0, none⟩ qT).setCell ⟨c, 1, none⟩ qR).setCell ⟨c, 2, none⟩ .nilFunc).setCell ⟨c, 3, none⟩ (.int .i64 0)).setCell ⟨c, 4, none⟩ (.int .i64 0)) qT qR rows n 0 Ec := by
  refine ⟨((((b3.setCell (p := ⟨c, 0, none⟩) hc _).setCell (p := ⟨c, 1, none⟩) hc _).setCell (p := ⟨c, 2, none⟩) hc _).setCell (p := ⟨c, 3, none⟩) hc _).setCell (p := ⟨c, 4, none⟩) hc _, ((((q.set 0 qT).set 1 qR).set 2 .nilFunc).set 3 (.int .i64 0)).set 4 (.int .i64 0), hp.blocks (fun k hk => ?_)⟩
  have hne := hE k hk
  rw [heap_setCell_other _ _ _ _ (by exact hne), heap_setCell_other _ _ _ _ (by exact hne), heap_setCell_other _ _ _ _ (by exact hne), heap_setCell_other _ _ _ _ (by exact hne), heap_setCell_other _ _ _ _ (by exact hne)]
/-- an Op with a kind and a row -/
theorem wpList_buildOp (w : World) {ops : Array Oper} {rest : List Oper} {o : Oper} {a : Act} {Q : Exit → Act → World → Prop} (hgd : o.guard = none) (c : Int) (x : Nat) (ho : o.op = Op.build 42 #[(1, .const (.int .i64 c)), (5, .tmp x)])
    (r : List Int) (hr : r.length = 24) (hx : a.tmps[x]?.getD undef = .agg (List.map cellI r).toArray) (hK : wpList Try.prog ops Q rest (a.put o.dst (.agg (opL 0 c 0 0 0 r).toArray)) w) : wpList Try.prog ops Q (o :: rest) a w := by
  refine wpList_plain hgd fun K' hK' => ?_
  unfold Oper.wp
  match r, hr with
  | [a0, a1, a2, a3, a4, a5, a6, a7, a8, a9, a10, a11, a12, a13, a14, a15, a16, a17, a18, a19, a20, a21, a22, a23], _ =>
    simp only [List.map_cons, List.map_nil] at hx
    simp only [execOp, ho]
    go_simp
    exact hK' _ _ hK
theorem wpList_buildWhole (w : World) {ops : Array Oper} {rest : List Oper} {o : Oper} {a : Act} {Q : Exit → Act → World → Prop} (hgd : o.guard = none) (ho : o.op = Op.build 42 #[(1, .const (.int .i64 6)), (2, .const (.int .i64 0)), (3, .const (.int .i64 1099511627776))])
    (hK : wpList Try.prog ops Q rest (a.put o.dst (.agg (opL 0 6 0 1099511627776 0 zeroL).toArray)) w) : wpList Try.prog ops Q (o :: rest) a w := by
  refine wpList_plain hgd fun K' hK' => ?_
  unfold Oper.wp
  simp only [execOp, ho]
  go_simp
  exact hK' _ _ hK
theorem store_freshOp (w : World) (on k n m mask : Int) (r : List Int) (hr : r.length = 24) : (storeCells ⟨w.heap.size, 0, none⟩ (opL on k n m mask r)).run Try.prog (w.alloc (.cells #[.int .i64 0, .int .i64 0, .int .i64 0, .int .i64 0, .int .u32 0, .int .i32 0, .int .i32 0, .int .i32 0, .int .i32 0, .int .i32 0, .int .i32 0, .int .i32 0, .int .i32 0, .int .i32 0, .int .i32 0, .int .i32 0, .int .i32 0, .int .i32 0, .int .i32 0, .int .i32 0, .int .i32 0, .int .i32 0, .int .i32 0, .int .i32 0, .int .i32 0, .int .i32 0, .int .i32 0, .int .i32 0, .int .i32 0] 42)) = .ok () (w.alloc (.cells (opL on k n m mask r).toArray 42)) := by
  have := run_storeCells_new (P := Try.prog) w 42 #[.int .i64 0, .int .i64 0, .int .i64 0, .int .i64 0, .int .u32 0, .int .i32 0, .int .i32 0, .int .i32 0, .int .i32 0, .int .i32 0, .int .i32 0, .int .i32 0, .int .i32 0, .int .i32 0, .int .i32 0, .int .i32 0, .int .i32 0, .int .i32 0, .int .i32 0, .int .i32 0, .int .i32 0, .int .i32 0, .int .i32 0, .int .i32 0, .int .i32 0, .int .i32 0, .int .i32 0, .int .i32 0, .int .i32 0] (opL on k n m mask r).toArray (by rw [List.size_toArray, opL_len _ _ _ _ _ hr]; exact infoOp) (by simp only [List.size_toArray, opL_len _ _ _ _ _ hr]; rfl) (by simp [opL, cellI, Value.oneCell'])
  exact this
theorem run_store_nilFuncP (P : Program) (w : World) (a : Addr) (m : Mode) : (store a .nilFunc m).run P w = stored P w a .nilFunc m := run_store P w a _ m rfl
theorem run_store_ptrP (P : Program) (w : World) (a : Addr) (m : Mode) (p : Option Addr) : (store a (.pointer p) m).run P w = stored P w a (.pointer p) m := run_store P w a _ m rfl
end Go.Proofs.Ytlnhnpfgmiffpaa
