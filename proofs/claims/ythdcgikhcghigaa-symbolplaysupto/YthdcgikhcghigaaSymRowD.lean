import Derived.Test.YthdcgikhcghigaaSymRow
namespace Go.Proofs.Ythdcgikhcghigaa
open Go.RowKit Go.Maps Go.ChangeMaps
set_option linter.unusedVariables false
set_option linter.unusedSimpArgs false
attribute [local go_sem ↓] Go.wp_at_zero Go.wp_at_succ

theorem rowD_ok (be br bt bh : Nat) (u : FrameMode) (w : World) (h0 : w.cell? ⟨be, 0, none⟩ = some (.int .i64 0)) :
    CallsD Try.prog 41 #[.pointer (some ⟨be, 0, none⟩), .pointer (some ⟨br, 0, none⟩), .pointer (some ⟨bt, 0, none⟩), .pointer (some ⟨bh, 0, none⟩)] u w fun e u' w' => u' = u ∧ (e = .returned (.tuple #[]) ∧ w' = w) := by
  go_enter_d Try.func41, Try.ntmps41
  go_wp2
  go_end0
  exact ⟨rfl, rfl⟩

theorem infoRow : (Try.prog.info? 43).map (·.size) = some 24 := by kernel_rfl

theorem wpList_storeRow {P : Program} (w : World) {ops : Array Oper} {rest : List Oper} {o : Oper} {a : Act} {Q : Exit → Act → World → Prop} (hgd : o.guard = none) (p x : Operand) (t : TypeId)
    (ho : o.op = Op.store t p x) (b : Nat) (c c' : Array Value) (hp : a.eval p = .pointer (some ⟨b, 0, none⟩)) (hx : a.eval x = .agg c') (hb : w.heap[b]? = some (.cells c t (0, 0))) (hi : (P.info? t).map (·.size) = some c'.size) (hs : c.size = c'.size) (h1 : c'.all (·.oneCell') = true)
    (hK : wpList P ops Q rest (a.put o.dst undef) (w.setRow b c')) : wpList P ops Q (o :: rest) a w := by
  have hrun : (Instr.storeAt t (.pointer (some ⟨b, 0, none⟩)) (.agg c')).run P w = .ok () (w.setRow b c') := by
    simp only [Instr.storeAt, Instr.sureAddr, Sem.run_bind, Sem.run_pure, Result.andThen]
    exact run_storeVar_row _ _ t t c c' hb hi hs h1
  refine wpList_plain hgd fun K' hK' => ?_
  unfold Oper.wp
  simp [execOp, ho, hp, hx, hrun, Result.andThen]
  exact hK' _ _ hK

theorem wpList_loadRow {P : Program} (w : World) {ops : Array Oper} {rest : List Oper} {o : Oper} {a : Act} {Q : Exit → Act → World → Prop} (hgd : o.guard = none) (p : Operand) (t : TypeId)
    (ho : o.op = Op.load t p) (b n : Nat) (e : TypeId) (c : Array Value) (hp : a.eval p = .pointer (some ⟨b, 0, none⟩)) (hb : w.heap[b]? = some (.cells c t (0, 0))) (hu : P.underlying t = some (.array n e)) (hi : (P.info? t).map (·.size) = some c.size)
    (hK : wpList P ops Q rest (a.put o.dst (.agg c)) w) : wpList P ops Q (o :: rest) a w := by
  have hrun : (Instr.loadAt t (.pointer (some ⟨b, 0, none⟩))).run P w = .ok (.agg c) w := by
    simp only [Instr.loadAt, Instr.sureAddr, Sem.run_bind, Sem.run_pure, Result.andThen]
    exact run_loadVar_row _ _ t t c (0, 0) _ hb hu rfl hi
  refine wpList_plain hgd fun K' hK' => ?_
  unfold Oper.wp
  simp [execOp, ho, hp, hrun, Result.andThen]
  exact hK' _ _ hK

def zeroRow : Array Value := #[.int .i32 0, .int .i32 0, .int .i32 0, .int .i32 0, .int .i32 0, .int .i32 0, .int .i32 0, .int .i32 0, .int .i32 0, .int .i32 0, .int .i32 0, .int .i32 0, .int .i32 0, .int .i32 0, .int .i32 0, .int .i32 0, .int .i32 0, .int .i32 0, .int .i32 0, .int .i32 0, .int .i32 0, .int .i32 0, .int .i32 0, .int .i32 0]
theorem zeroRow_at (i : Nat) (h : i < 24) : zeroRow[i]? = some (.int .i32 0) := by
  have e : zeroRow = Array.replicate 24 (.int .i32 0) := rfl
  rw [e, Array.getElem?_replicate, if_pos h]

theorem Fil.setRow {w w' : World} {t m b : Nat} {sv sv' : Value} (h : Fil w w' t m b sv sv') (c : Array Value) : Fil w (w'.setRow b c) t m b sv sv' :=
  ⟨h.low.trans ⟨rfl, rfl, rfl, by simp, fun k hk => absurd hk (by omega)⟩, fun k hk h1 h2 h3 h4 => (setRow_other w' b k c h3).trans (h.block k hk h1 h2 h3 h4), h.new⟩

theorem rowIs_setRow {w : World} {b : Nat} {t : TypeId} {n : Nat} {f : Nat → Value} (h : w.rowIs b t n f) (c : Array Value) (hc : c.size = n) (g : Nat → Value) (hg : ∀ i, i < n → c[i]? = some (g i)) : (w.setRow b c).rowIs b t n g := by
  obtain ⟨c0, h0, _, _⟩ := h
  exact ⟨c, setRow_heap w b c0 c t (0, 0) h0, hc, hg⟩

theorem cut_ok {w : World} {t m : Nat} {sv : Value} {vs : List V} {most : Int} (h : Tbl w t m sv vs most) {n : Nat} (hn : n ≤ vs.length) :
    Calls Try.prog 33 #[.pointer (some ⟨t, 0, none⟩), .int .i64 n] w fun e w' => e = .returned (.int .i64 0) ∧ ∃ sv', Tbl w' t m sv' (vs.take n) most ∧ Touch w w' t m sv sv' := by
  by_cases h1 : n = vs.length
  · exact cut_all h h1
  · exact cut_some h (by omega)

set_option maxHeartbeats 6400000 in
set_option maxRecDepth 100000 in
theorem rowD_err {w : World} {t m : Nat} {sv : Value} {vs : List V} {most : Int} (T : Tbl w t m sv vs most) (be br bt bh n : Nat) (err : Int) (f : Nat → Value) (u : FrameMode) (h0 : w.cell? ⟨be, 0, none⟩ = some (.int .i64 err)) (he : ¬ err = 0)
    (h1 : w.cell? ⟨bt, 0, none⟩ = some (.pointer (some ⟨t, 0, none⟩))) (h2 : w.cell? ⟨bh, 0, none⟩ = some (.int .i64 n)) (hr : w.rowIs br 43 24 f) (hn : n ≤ vs.length) (hbt : bt ≠ br) (hbh : bh ≠ br) :
    CallsD Try.prog 41 #[.pointer (some ⟨be, 0, none⟩), .pointer (some ⟨br, 0, none⟩), .pointer (some ⟨bt, 0, none⟩), .pointer (some ⟨bh, 0, none⟩)] u w fun e u' w' => u' = u ∧ (e = .returned (.tuple #[]) ∧ ∃ sv', Tbl w' t m sv' (vs.take n) most ∧ w'.rowIs br 43 24 (fun _ => .int .i32 0) ∧ Fil w w' t m br sv sv') := by
  have he' : (err != 0) = true := by simpa using he
  obtain ⟨c, hb, hcs, _⟩ := id hr
  have aw := T.away hr
  have T1 : Tbl (w.setRow br zeroRow) t m sv vs most := T.of_blocks (setRow_other w br t _ aw.1.symm) (setRow_other w br m _ aw.2.1.symm) (fun g hg => setRow_other w br g _ (fun e => aw.2.2 (by rw [hg, e])))
  have r1 := rowIs_setRow hr zeroRow rfl (fun _ => .int .i32 0) zeroRow_at
  have F1 := (Fil.refl w t m br sv).setRow zeroRow
  have k1 : (w.setRow br zeroRow).cell? ⟨bt, 0, none⟩ = some (.pointer (some ⟨t, 0, none⟩)) := (World.cell?_of_block (a := ⟨bt, 0, none⟩) (setRow_other w br bt _ hbt)).trans h1
  have k2 : (w.setRow br zeroRow).cell? ⟨bh, 0, none⟩ = some (.int .i64 n) := (World.cell?_of_block (a := ⟨bh, 0, none⟩) (setRow_other w br bh _ hbh)).trans h2
  clear h1 h2
  go_enter_d Try.func41, Try.ntmps41
  go_wp2_with (first
    | (refine wpList_storeRow _ rfl _ _ 43 rfl br c zeroRow rfl rfl hb infoRow hcs (by decide +kernel) ?_)
    | fail)
  refine (cut_ok T1 hn).mono ?_
  rintro e w2 ⟨rfl, sv2, T2, U2⟩
  have hfin : ∃ sv', Tbl w2 t m sv' (vs.take n) most ∧ w2.rowIs br 43 24 (fun _ => .int .i32 0) ∧ Fil w w2 t m br sv sv' := ⟨sv2, T2, r1.of_block (U2.block br r1.lt aw.1 aw.2.1 aw.2.2), F1.touch U2⟩
  clear T1 T2 U2 F1 r1
  go_wp2
  go_end0
  exact ⟨rfl, hfin⟩
end Go.Proofs.Ythdcgikhcghigaa
