import Derived.Test.YthdcgikhcghigaaSymRowD
import Derived.Deep.RegionWith
namespace Go.Proofs.Ythdcgikhcghigaa
open Go.RowKit Go.Maps Go.ChangeMaps
set_option linter.unusedVariables false
set_option linter.unusedSimpArgs false
attribute [local go_sem ↓] Go.wp_at_zero Go.wp_at_succ

/-- the world of Row when it fills: the box of the table, the row, the error, how many values there were -/
def rowWorld (w : World) (t n : Nat) : World := (((w.alloc (.cells #[.pointer (some ⟨t, 0, none⟩)] 24)).alloc (.cells zeroRow 43)).alloc (.cells #[.int .i64 0] 31)).alloc (.cells #[.int .i64 n] 3)

theorem rowWorld_below (w : World) (t n : Nat) : Below w.heap.size w (rowWorld w t n) :=
  ((((Below.refl _ _).alloc (Nat.le_refl _) _).alloc (by simp) _).alloc (by simp; omega) _).alloc (by simp; omega) _
theorem rowWorld_size (w : World) (t n : Nat) : (rowWorld w t n).heap.size = w.heap.size + 4 := by simp [rowWorld]
theorem rowWorld_row (w : World) (t n : Nat) : (rowWorld w t n).rowIs (w.heap.size + 1) 43 24 (fun _ => .int .i32 0) := by
  have h := World.rowIs_alloc (w.alloc (.cells #[.pointer (some ⟨t, 0, none⟩)] 24)) zeroRow 43 (fun _ => .int .i32 0) (fun i hi => zeroRow_at i hi)
  have e : (w.alloc (.cells #[.pointer (some ⟨t, 0, none⟩)] 24)).heap.size = w.heap.size + 1 := by simp
  rw [e] at h
  exact (h.alloc _).alloc _

theorem rowWorld_cells (w : World) (t n : Nat) : (rowWorld w t n).cell? ⟨w.heap.size, 0, none⟩ = some (.pointer (some ⟨t, 0, none⟩)) ∧ (rowWorld w t n).cell? ⟨w.heap.size + 1 + 1, 0, none⟩ = some (.int .i64 0) ∧ (rowWorld w t n).frozen? ⟨w.heap.size + 1 + 1, 0, none⟩ = false ∧ (rowWorld w t n).cell? ⟨w.heap.size + 1 + 1 + 1, 0, none⟩ = some (.int .i64 n) := by
  unfold rowWorld
  refine ⟨?_, ?_, ?_, ?_⟩
  all_goals go_simp

theorem step_load_row {P : Program} {ops : Array Oper} {o : Oper} {a : Act} {w : World} {K : Act → World → Prop} {Q : Exit → Act → World → Prop} {E : Prop} (hg : o.guard = none) (p : Operand) (t : TypeId) (ho : o.op = Op.load t p)
    (b n : Nat) (e : TypeId) (c : Array Value) (hp : a.eval p = .pointer (some ⟨b, 0, none⟩)) (hb : w.heap[b]? = some (.cells c t (0, 0))) (hu : P.underlying t = some (.array n e)) (hi : (P.info? t).map (·.size) = some c.size)
    (hK : K (a.put o.dst (.agg c)) w) : if Region.wanted o (yielded ops a.tmps) = true then Oper.wp P o a w K Q else E := by
  have hw : Region.wanted o (yielded ops a.tmps) = true := by simp [Region.wanted, hg]
  rw [if_pos hw]
  have hrun : (Instr.loadAt t (.pointer (some ⟨b, 0, none⟩))).run P w = .ok (.agg c) w := by
    simp only [Instr.loadAt, Instr.sureAddr, Sem.run_bind, Sem.run_pure, Result.andThen]
    exact run_loadVar_row _ _ t t c (0, 0) _ hb hu rfl hi
  unfold Oper.wp
  simp [execOp, ho, hp, hrun, Result.andThen]
  exact hK
theorem step_store_row {P : Program} {ops : Array Oper} {o : Oper} {a : Act} {w : World} {K : Act → World → Prop} {Q : Exit → Act → World → Prop} {E : Prop} (hg : o.guard = none) (p x : Operand) (t : TypeId) (ho : o.op = Op.store t p x)
    (b : Nat) (c : Array Value) (hp : a.eval p = .pointer (some ⟨b, 0, none⟩)) (hx : a.eval x = .agg c) (hb : w.heap[b]? = some (.cells c t (0, 0))) (hi : (P.info? t).map (·.size) = some c.size) (h1 : c.all (·.oneCell') = true)
    (hK : K (a.put o.dst undef) w) : if Region.wanted o (yielded ops a.tmps) = true then Oper.wp P o a w K Q else E := by
  have hw : Region.wanted o (yielded ops a.tmps) = true := by simp [Region.wanted, hg]
  rw [if_pos hw]
  have hrun : (Instr.storeAt t (.pointer (some ⟨b, 0, none⟩)) (.agg c)).run P w = .ok () w := by
    simp only [Instr.storeAt, Instr.sureAddr, Sem.run_bind, Sem.run_pure, Result.andThen]
    rw [run_storeVar_row _ _ t t c c hb hi rfl h1, setRow_self w b c t (0, 0) hb]
  unfold Oper.wp
  simp [execOp, ho, hp, hx, hrun, Result.andThen]
  exact hK

theorem row_results {W : World} {tmps : Array Value} {br be : Nat} {C : Array Value} {err : Int} (h4 : tmps.getD 4 undef = .pointer (some ⟨br, 0, none⟩)) (h5 : tmps.getD 5 undef = .pointer (some ⟨be, 0, none⟩)) (hC : W.heap[br]? = some (.cells C 43 (0, 0))) (hi : (Try.prog.info? 43).map (·.size) = some C.size) (he : W.cell? ⟨be, 0, none⟩ = some (.int .i64 err)) :
    (results Try.f37 tmps).run Try.prog W = .ok (.tuple #[.agg C, .int .i64 err]) W := by
  have hl : (loadVar 43 ⟨br, 0, none⟩).run Try.prog W = .ok (.agg C) W := run_loadVar_row _ _ 43 43 C (0, 0) _ hC Try.underlying43 rfl hi
  have he' : (loadVar 31 ⟨be, 0, none⟩).run Try.prog W = .ok (.int .i64 err) W := by go_simp
  have e0 : results Try.f37 tmps = (do
      let x ← asAddr (tmps.getD 4 undef)
      let x ← loadVar 43 x
      let y ← asAddr (tmps.getD 5 undef)
      let y ← loadVar 31 y
      pure (.tuple #[x, y])) := by
    simp [results, Try.results37]
  rw [e0, h4, h5]
  simp [asAddr, hl, he', Result.andThen]

theorem row_fin {w W w5 : World} {t m : Nat} {sv sv5 : Value} {vs' : List V} {most : Int} (bl : Below w.heap.size w W) (hsz : W.heap.size = w.heap.size + 4) (hlt : t < w.heap.size ∧ m < w.heap.size ∧ ∀ g, sv.ownBlock = some g → g < w.heap.size)
    (T5 : Tbl w5 t m sv5 vs' most) (F5 : Fil W.drew w5 t m (w.heap.size + 1) sv sv5) (u v : Value) :
    Tbl ((w5.setCell ⟨w.heap.size + 1 + 1, 0, none⟩ u).setCell ⟨w.heap.size + 1 + 1, 0, none⟩ v).drew t m sv5 vs' most ∧ Touch w ((w5.setCell ⟨w.heap.size + 1 + 1, 0, none⟩ u).setCell ⟨w.heap.size + 1 + 1, 0, none⟩ v).drew t m sv sv5 := by
  have hs : W.drew.heap.size = w.heap.size + 4 := hsz
  have blk : ∀ k, k ≠ w.heap.size + 1 + 1 → ((w5.setCell ⟨w.heap.size + 1 + 1, 0, none⟩ u).setCell ⟨w.heap.size + 1 + 1, 0, none⟩ v).drew.heap[k]? = w5.heap[k]? := fun k hk =>
    (Below.heap_setCell (w5.setCell ⟨w.heap.size + 1 + 1, 0, none⟩ u) ⟨w.heap.size + 1 + 1, 0, none⟩ v k hk).trans (Below.heap_setCell w5 ⟨w.heap.size + 1 + 1, 0, none⟩ u k hk)
  have hb : ∀ g, sv5.ownBlock = some g → sv.ownBlock = some g ∨ w.heap.size + 4 ≤ g := fun g hg => by
    rcases F5.new g hg with h | h
    · exact .inl h
    · exact .inr (by omega)
  refine ⟨T5.of_blocks (blk t (by omega)) (blk m (by omega)) (fun g hg => blk g (fun e => ?_)), ⟨?_, ?_, ?_⟩⟩
  · rcases hb g hg with h | h
    · have := hlt.2.2 g h
      omega
    · omega
  · have e1 : Below 0 w w5 := (bl.mono (Nat.zero_le _)).trans ((⟨rfl, rfl, rfl, Nat.le_refl _, fun _ _ => rfl⟩ : Below 0 W W.drew).trans F5.low)
    exact ((e1.setCell (Nat.zero_le _) u).setCell (Nat.zero_le _) v).drew
  · intro k hk h1 h2 h3
    rw [blk k (by omega), F5.block k (by omega) h1 h2 (by omega) h3]
    exact bl.block k hk
  · intro g hg
    rcases hb g hg with h | h
    · exact .inl h
    · exact .inr (by omega)

theorem row_fin8 {w W w5 : World} {t m n : Nat} {sv sv5 : Value} {vs' : List V} {most : Int} (bl : Below w.heap.size w W) (hsz : W.heap.size = w.heap.size + 4) (hlt : t < w.heap.size ∧ m < w.heap.size ∧ ∀ g, sv.ownBlock = some g → g < w.heap.size)
    (T5 : Tbl w5 t m sv5 vs' most) (F5 : Fil W.drew w5 t m (w.heap.size + 1) sv sv5) (u v : Value) (q0 : W.cell? ⟨w.heap.size, 0, none⟩ = some (.pointer (some ⟨t, 0, none⟩))) (q3 : W.cell? ⟨w.heap.size + 1 + 1 + 1, 0, none⟩ = some (.int .i64 n)) :
    ((w5.setCell ⟨w.heap.size + 1 + 1, 0, none⟩ u).setCell ⟨w.heap.size + 1 + 1, 0, none⟩ v).drew.cell? ⟨w.heap.size, 0, none⟩ = some (.pointer (some ⟨t, 0, none⟩)) ∧
    ((w5.setCell ⟨w.heap.size + 1 + 1, 0, none⟩ u).setCell ⟨w.heap.size + 1 + 1, 0, none⟩ v).drew.cell? ⟨w.heap.size + 1 + 1 + 1, 0, none⟩ = some (.int .i64 n) ∧
    ∀ {w9 : World} {sv9 x : Value}, Fil ((w5.setCell ⟨w.heap.size + 1 + 1, 0, none⟩ u).setCell ⟨w.heap.size + 1 + 1, 0, none⟩ v).drew w9 t m (w.heap.size + 1) sv5 sv9 → ((w5.setCell ⟨w.heap.size + 1 + 1, 0, none⟩ u).setCell ⟨w.heap.size + 1 + 1, 0, none⟩ v).drew.cell? ⟨w.heap.size + 1 + 1, 0, none⟩ = some x → w9.cell? ⟨w.heap.size + 1 + 1, 0, none⟩ = some x := by
  have hs : W.drew.heap.size = w.heap.size + 4 := hsz
  have blk : ∀ k, k ≠ w.heap.size + 1 + 1 → ((w5.setCell ⟨w.heap.size + 1 + 1, 0, none⟩ u).setCell ⟨w.heap.size + 1 + 1, 0, none⟩ v).drew.heap[k]? = w5.heap[k]? := fun k hk =>
    (Below.heap_setCell (w5.setCell ⟨w.heap.size + 1 + 1, 0, none⟩ u) ⟨w.heap.size + 1 + 1, 0, none⟩ v k hk).trans (Below.heap_setCell w5 ⟨w.heap.size + 1 + 1, 0, none⟩ u k hk)
  have nsv : ∀ k, w.heap.size ≤ k → sv.ownBlock ≠ some k := fun k hk e => by have := hlt.2.2 k e; omega
  have e0 := (blk w.heap.size (by omega)).trans (F5.block w.heap.size (by omega) (by omega) (by omega) (by omega) (nsv _ (Nat.le_refl _)))
  have e3 := (blk (w.heap.size + 1 + 1 + 1) (by omega)).trans (F5.block (w.heap.size + 1 + 1 + 1) (by omega) (by omega) (by omega) (by omega) (nsv _ (by omega)))
  refine ⟨(World.cell?_of_block (a := ⟨w.heap.size, 0, none⟩) e0).trans q0, (World.cell?_of_block (a := ⟨w.heap.size + 1 + 1 + 1, 0, none⟩) e3).trans q3, ?_⟩
  intro w9 sv9 x F9 hx
  have hk : w.heap.size + 1 + 1 < ((w5.setCell ⟨w.heap.size + 1 + 1, 0, none⟩ u).setCell ⟨w.heap.size + 1 + 1, 0, none⟩ v).drew.heap.size := World.block_lt_of_cell? _ _ hx
  have e2 := F9.block (w.heap.size + 1 + 1) hk (by omega) (by omega) (by omega) (fun e => by
    rcases F5.new _ e with h | h
    · exact nsv _ (by omega) h
    · omega)
  exact (World.cell?_of_block (a := ⟨w.heap.size + 1 + 1, 0, none⟩) e2).trans hx

theorem row_touch {w W w9 : World} {t m b : Nat} {sv sv5 sv9 : Value} (U : Touch w W t m sv sv5) (F : Fil W w9 t m b sv5 sv9) (hb : w.heap.size ≤ b) : Touch w w9 t m sv sv9 := by
  have hs := U.low.size
  refine ⟨U.low.trans F.low, fun k hk h1 h2 h3 => ?_, fun g hg => ?_⟩
  · rw [F.block k (by omega) h1 h2 (by omega) (fun e => by
      rcases U.new k e with h | h
      · exact h3 h
      · omega), U.block k hk h1 h2 h3]
  · rcases F.new g hg with h | h
    · exact U.new g h
    · exact .inr (by omega)

/-- what is left, and no panic -/
def NoPanic (Q : Exit → Act → World → Prop) : Exit → Act → World → Prop
  | .panic _, _, _ => False
  | e, a, w => Q e a w
theorem NoPanic.ret {Q : Exit → Act → World → Prop} {a : Act} {w : World} (h : Q .ret a w) : NoPanic Q .ret a w := h
theorem NoPanic.out {Q : Exit → Act → World → Prop} : ∀ (e : Exit) (a : Act) (w : World), NoPanic Q e a w → Q e a w := by
  intro e a w h
  cases e with
  | panic c => exact absurd h (by simp [NoPanic])
  | _ => exact h

set_option maxHeartbeats 6400000 in
set_option maxRecDepth 100000 in
theorem row_ok {w : World} {t m : Nat} {sv : Value} {vs : List V} {most : Int} (T : Tbl w t m sv vs most) (xs : List V) (a : Option Addr) (c : Nat) (hv : Lv w (.slice a xs.length c) xs) (hx : xs.length ≤ 24)
    (hsep : 0 < xs.length → ∀ g off, a = some ⟨g, off, none⟩ → g ≠ t ∧ g ≠ m ∧ sv.ownBlock ≠ some g) (hroom : vs.length ≤ 2147483600) (hok : (rowAll most vs xs).err = 0) :
    Calls Try.prog 37 #[.pointer (some ⟨t, 0, none⟩), .slice a xs.length c] w fun e w' => ∃ C sv', e = .returned (.tuple #[.agg C, .int .i64 0]) ∧ C.size = 24 ∧ (∀ i, i < 24 → C[i]? = some (rowN (rowAll most vs xs).ss (fun _ => .int .i32 0) i)) ∧ Tbl w' t m sv' (rowAll most vs xs).vs most ∧ Touch w w' t m sv sv' := by
  have hmf : ∀ (fn : Fn) (first cap : Array Value) (w : World), (Instr.makeFunc fn first cap).run Try.prog w = .ok (.func fn first cap) w := fun _ _ _ _ => rfl
  have lts := T.lts
  have ht := T.lts.1
  have T3 := T.below ((((Below.refl _ _).alloc (Nat.le_refl _) (.cells #[.pointer (some ⟨t, 0, none⟩)] 24)).alloc (by simp) (.cells zeroRow 43)).alloc (by simp; omega) (.cells #[.int .i64 0] 31))
  have bl := rowWorld_below w t vs.length
  have hfill := fillAdd_any (w := (rowWorld w t vs.length).drew) (b := w.heap.size + 1) (T.below bl).drew (rowWorld_row w t vs.length).drew xs a c (hv.below (bl.drew)) hx (fun hp g off e => by
    obtain ⟨h1, h2, h3⟩ := hsep hp g off e
    refine ⟨h1, h2, fun h => ?_, h3⟩
    obtain ⟨g', off', e', hg', _⟩ := hv.at hp
    rw [e] at e'
    cases e'
    omega) hroom
  obtain ⟨a', c', rfl, hl, _⟩ := ownsRow_form T.own
  have c1 : (((w.alloc (.cells #[.pointer (some ⟨t, 0, none⟩)] 24)).alloc (.cells zeroRow 43)).alloc (.cells #[.int .i64 0] 31)).cell? ⟨t, 1, none⟩ = some (.slice a' vs.length c') := T3.row.cell (i := 1) (by omega)
  have hx' : ¬ (24 : Int) < (xs.length : Int) := by omega
  go_enter_defers Try.func37, Try.ntmps37
  refine Code.wp_mono (Q := NoPanic _) (NoPanic.out (Q := _)) ?_
  go_wp2_with (first
    | (go_at_call 21; refine (there_any T3).mono ?_; rintro e w' ⟨rfl, rfl⟩)
    | fail)
  show Code.wp _ _ _ _ (rowWorld w t vs.length)
  obtain ⟨q0, q1, q2, q3⟩ := rowWorld_cells w t vs.length
  have hsz := rowWorld_size w t vs.length
  rw [hok] at hfill
  clear hmf T3 c1
  have hmf : ∀ (fn : Fn) (first cap : Array Value) (w : World), (Instr.makeFunc fn first cap).run Try.prog w = .ok (.func fn first cap) w := fun _ _ _ _ => rfl
  generalize rowWorld w t vs.length = W at hfill bl q0 q1 q2 q3 hsz ⊢
  have HE : Hid (∀ {w5 : World} {sv5 : Value}, Fil W.drew w5 t m (w.heap.size + 1) (.slice a' vs.length c') sv5 → w5.cell? ⟨w.heap.size + 1 + 1, 0, none⟩ = some (.int .i64 0) ∧ w5.frozen? ⟨w.heap.size + 1 + 1, 0, none⟩ = false) := fun F => by
    have e := F.block (w.heap.size + 1 + 1) (by show _ < W.heap.size; omega) (by omega) (by omega) (by omega) (fun e => by have := lts.2.2 _ e; omega)
    exact ⟨(World.cell?_of_block (a := ⟨w.heap.size + 1 + 1, 0, none⟩) e).trans q1, (World.frozen?_of_block (a := ⟨w.heap.size + 1 + 1, 0, none⟩) e).trans q2⟩
  go_region_with (go_at_call 42; refine hfill.mono ?_; rintro e w5 ⟨rfl, sv5, T5, r5, F5⟩; obtain ⟨z0, z1⟩ := HE.out F5)
  obtain ⟨C, hC, hCs, hCat⟩ := r5
  have hC1 : ∀ v ∈ C.toList, v.oneCell' = true := by
    intro v hv
    obtain ⟨i, hi⟩ := List.getElem?_of_mem hv
    have hi' : C[i]? = some v := by simpa using hi
    have hlt : i < 24 := by rw [← hCs]; exact (Array.getElem?_eq_some_iff.1 hi').1
    rw [hCat i hlt] at hi'
    cases hi'
    unfold rowN
    split <;> rfl
  have hC6 : (w5.setCell ⟨w.heap.size + 1 + 1, 0, none⟩ (.int .i64 0)).drew.heap[w.heap.size + 1]? = some (.cells C 43 (0, 0)) := (Below.heap_setCell w5 ⟨w.heap.size + 1 + 1, 0, none⟩ _ (w.heap.size + 1) (by simp)).trans hC
  have hC7 : ((w5.setCell ⟨w.heap.size + 1 + 1, 0, none⟩ (.int .i64 0)).drew.setCell ⟨w.heap.size + 1 + 1, 0, none⟩ (.int .i64 0)).heap[w.heap.size + 1]? = some (.cells C 43 (0, 0)) := (Below.heap_setCell _ ⟨w.heap.size + 1 + 1, 0, none⟩ _ (w.heap.size + 1) (by simp)).trans hC6
  have hCi : (Try.prog.info? 43).map (·.size) = some C.size := by rw [hCs]; exact infoRow
  have hCa : C.all (·.oneCell') = true := by
    rw [← Array.all_toList]
    exact List.all_eq_true.2 hC1
  have HS : Hid (C.size = 24) := hCs
  have H6 : Hid _ := hC6
  have H7 : Hid _ := hC7
  have HI : Hid _ := hCi
  have HA : Hid _ := hCa
  clear hfill HE hC6 hC7 hCi hCa hC1 hC hCs
  have hC8 : ((w5.setCell ⟨w.heap.size + 1 + 1, 0, none⟩ (.int .i64 0)).setCell ⟨w.heap.size + 1 + 1, 0, none⟩ (.int .i64 0)).drew.heap[w.heap.size + 1]? = some (.cells C 43 (0, 0)) := H7.out
  have HQ : Hid (((w5.setCell ⟨w.heap.size + 1 + 1, 0, none⟩ (.int .i64 0)).setCell ⟨w.heap.size + 1 + 1, 0, none⟩ (.int .i64 0)).drew.cell? ⟨w.heap.size + 1 + 1, 0, none⟩ = some (.int .i64 0)) := by
    show ((w5.setCell ⟨w.heap.size + 1 + 1, 0, none⟩ (.int .i64 0)).setCell ⟨w.heap.size + 1 + 1, 0, none⟩ (.int .i64 0)).drew.cell? ⟨w.heap.size + 1 + 1, 0, none⟩ = _
    go_simp
  go_wp2_with fail
  refine wp_region_any (by kernel_rfl) ?_
  change wpAny _ _ _ _ _ _ _ (World.drew _)
  refine wpAny_ready (rs := [0, 1]) (by kernel_rfl) (by simp) (AllReady.cons rfl (fun K hK => ?_) (AllReady.cons rfl (fun K hK => ?_) AllReady.nil))
  · refine step_load_row rfl (.tmp 4) 43 rfl (w.heap.size + 1) 24 41 C rfl H6.out Try.underlying43 HI.out ?_
    refine hK _ _ ?_
    clear hK K
    refine wpAny_ready (rs := [1, 2]) (by kernel_rfl) (by simp) (AllReady.cons rfl (fun K hK => ?_) (AllReady.cons rfl (fun K hK => ?_) AllReady.nil))
    · go_simp
      refine hK _ _ ?_
      clear hK K
      refine wpAny_ready (rs := [2]) (by kernel_rfl) (by simp) (AllReady.cons rfl (fun K hK => ?_) AllReady.nil)
      refine step_store_row rfl (.tmp 4) (.tmp 26) 43 rfl (w.heap.size + 1) C rfl rfl H6.out HI.out HA.out ?_
      refine hK _ _ ?_
      clear hK K
      refine wpAny_ready (rs := [3]) (by kernel_rfl) (by simp) (AllReady.cons rfl (fun K hK => ?_) AllReady.nil)
      go_simp
      refine hK _ _ ?_
      clear hK K
      refine wpAny_done (by kernel_rfl) ?_ _
      go_wp2_with fail
      refine NoPanic.ret ?_
      refine leaves_cons (f := 41) (args := #[.pointer (some ⟨w.heap.size + 1 + 1, 0, none⟩), .pointer (some ⟨w.heap.size + 1, 0, none⟩), .pointer (some ⟨w.heap.size, 0, none⟩), .pointer (some ⟨w.heap.size + 1 + 1 + 1, 0, none⟩)]) (by simp) (by simp [go_sem]) ?_
      refine (rowD_ok _ _ _ _ .returning _ HQ.out).mono ?_
      rintro e u' w'' ⟨rfl, rfl, rfl⟩
      exact ⟨_, row_results rfl rfl hC8 HI.out HQ.out, C, sv5, rfl, HS.out, hCat, (row_fin bl hsz lts T5 F5 _ _).1, (row_fin bl hsz lts T5 F5 _ _).2⟩
    · refine step_store_row rfl (.tmp 4) (.tmp 26) 43 rfl (w.heap.size + 1) C rfl rfl H6.out HI.out HA.out ?_
      refine hK _ _ ?_
      clear hK K
      refine wpAny_ready (rs := [1]) (by kernel_rfl) (by simp) (AllReady.cons rfl (fun K hK => ?_) AllReady.nil)
      go_simp
      refine hK _ _ ?_
      clear hK K
      refine wpAny_ready (rs := [3]) (by kernel_rfl) (by simp) (AllReady.cons rfl (fun K hK => ?_) AllReady.nil)
      go_simp
      refine hK _ _ ?_
      clear hK K
      refine wpAny_done (by kernel_rfl) ?_ _
      go_wp2_with fail
      refine NoPanic.ret ?_
      refine leaves_cons (f := 41) (args := #[.pointer (some ⟨w.heap.size + 1 + 1, 0, none⟩), .pointer (some ⟨w.heap.size + 1, 0, none⟩), .pointer (some ⟨w.heap.size, 0, none⟩), .pointer (some ⟨w.heap.size + 1 + 1 + 1, 0, none⟩)]) (by simp) (by simp [go_sem]) ?_
      refine (rowD_ok _ _ _ _ .returning _ HQ.out).mono ?_
      rintro e u' w'' ⟨rfl, rfl, rfl⟩
      exact ⟨_, row_results rfl rfl hC8 HI.out HQ.out, C, sv5, rfl, HS.out, hCat, (row_fin bl hsz lts T5 F5 _ _).1, (row_fin bl hsz lts T5 F5 _ _).2⟩
  · go_simp
    refine hK _ _ ?_
    clear hK K
    refine wpAny_ready (rs := [0]) (by kernel_rfl) (by simp) (AllReady.cons rfl (fun K hK => ?_) AllReady.nil)
    refine step_load_row rfl (.tmp 4) 43 rfl (w.heap.size + 1) 24 41 C rfl H6.out Try.underlying43 HI.out ?_
    refine hK _ _ ?_
    clear hK K
    refine wpAny_ready (rs := [2]) (by kernel_rfl) (by simp) (AllReady.cons rfl (fun K hK => ?_) AllReady.nil)
    refine step_store_row rfl (.tmp 4) (.tmp 26) 43 rfl (w.heap.size + 1) C rfl rfl H6.out HI.out HA.out ?_
    refine hK _ _ ?_
    clear hK K
    refine wpAny_ready (rs := [3]) (by kernel_rfl) (by simp) (AllReady.cons rfl (fun K hK => ?_) AllReady.nil)
    go_simp
    refine hK _ _ ?_
    clear hK K
    refine wpAny_done (by kernel_rfl) ?_ _
    go_wp2_with fail
    refine NoPanic.ret ?_
    refine leaves_cons (f := 41) (args := #[.pointer (some ⟨w.heap.size + 1 + 1, 0, none⟩), .pointer (some ⟨w.heap.size + 1, 0, none⟩), .pointer (some ⟨w.heap.size, 0, none⟩), .pointer (some ⟨w.heap.size + 1 + 1 + 1, 0, none⟩)]) (by simp) (by simp [go_sem]) ?_
    refine (rowD_ok _ _ _ _ .returning _ HQ.out).mono ?_
    rintro e u' w'' ⟨rfl, rfl, rfl⟩
    exact ⟨_, row_results rfl rfl hC8 HI.out HQ.out, C, sv5, rfl, HS.out, hCat, (row_fin bl hsz lts T5 F5 _ _).1, (row_fin bl hsz lts T5 F5 _ _).2⟩

set_option maxHeartbeats 6400000 in
set_option maxRecDepth 100000 in
theorem row_err {w : World} {t m : Nat} {sv : Value} {vs : List V} {most : Int} (T : Tbl w t m sv vs most) (xs : List V) (a : Option Addr) (c : Nat) (hv : Lv w (.slice a xs.length c) xs) (hx : xs.length ≤ 24)
    (hsep : 0 < xs.length → ∀ g off, a = some ⟨g, off, none⟩ → g ≠ t ∧ g ≠ m ∧ sv.ownBlock ≠ some g) (hroom : vs.length ≤ 2147483600) (herr : ¬ (rowAll most vs xs).err = 0) :
    Calls Try.prog 37 #[.pointer (some ⟨t, 0, none⟩), .slice a xs.length c] w fun e w' => ∃ C sv', e = .returned (.tuple #[.agg C, .int .i64 (rowAll most vs xs).err]) ∧ C.size = 24 ∧ (∀ i, i < 24 → C[i]? = some (.int .i32 0)) ∧ Tbl w' t m sv' vs most ∧ Touch w w' t m sv sv' := by
  have hmf : ∀ (fn : Fn) (first cap : Array Value) (w : World), (Instr.makeFunc fn first cap).run Try.prog w = .ok (.func fn first cap) w := fun _ _ _ _ => rfl
  have lts := T.lts
  have ht := T.lts.1
  have T3 := T.below ((((Below.refl _ _).alloc (Nat.le_refl _) (.cells #[.pointer (some ⟨t, 0, none⟩)] 24)).alloc (by simp) (.cells zeroRow 43)).alloc (by simp; omega) (.cells #[.int .i64 0] 31))
  have bl := rowWorld_below w t vs.length
  have hfill := fillAdd_any (w := (rowWorld w t vs.length).drew) (b := w.heap.size + 1) (T.below bl).drew (rowWorld_row w t vs.length).drew xs a c (hv.below (bl.drew)) hx (fun hp g off e => by
    obtain ⟨h1, h2, h3⟩ := hsep hp g off e
    refine ⟨h1, h2, fun h => ?_, h3⟩
    obtain ⟨g', off', e', hg', _⟩ := hv.at hp
    rw [e] at e'
    cases e'
    omega) hroom
  obtain ⟨err, herrv⟩ : ∃ err, err = (rowAll most vs xs).err := ⟨_, rfl⟩
  rw [← herrv] at herr hfill ⊢
  clear herrv
  have herr' : (err != 0) = true := by simpa using herr
  have HPX := (rowAll_facts most vs xs).2.2.1
  obtain ⟨a', c', rfl, hl, _⟩ := ownsRow_form T.own
  have c1 : (((w.alloc (.cells #[.pointer (some ⟨t, 0, none⟩)] 24)).alloc (.cells zeroRow 43)).alloc (.cells #[.int .i64 0] 31)).cell? ⟨t, 1, none⟩ = some (.slice a' vs.length c') := T3.row.cell (i := 1) (by omega)
  have hx' : ¬ (24 : Int) < (xs.length : Int) := by omega
  go_enter_defers Try.func37, Try.ntmps37
  refine Code.wp_mono (Q := NoPanic _) (NoPanic.out (Q := _)) ?_
  go_wp2_with (first
    | (go_at_call 21; refine (there_any T3).mono ?_; rintro e w' ⟨rfl, rfl⟩)
    | fail)
  show Code.wp _ _ _ _ (rowWorld w t vs.length)
  obtain ⟨q0, q1, q2, q3⟩ := rowWorld_cells w t vs.length
  have hsz := rowWorld_size w t vs.length
  clear hmf T3 c1
  have hmf : ∀ (fn : Fn) (first cap : Array Value) (w : World), (Instr.makeFunc fn first cap).run Try.prog w = .ok (.func fn first cap) w := fun _ _ _ _ => rfl
  generalize rowWorld w t vs.length = W at hfill bl q0 q1 q2 q3 hsz ⊢
  have HE : Hid (∀ {w5 : World} {sv5 : Value}, Fil W.drew w5 t m (w.heap.size + 1) (.slice a' vs.length c') sv5 → w5.cell? ⟨w.heap.size + 1 + 1, 0, none⟩ = some (.int .i64 0) ∧ w5.frozen? ⟨w.heap.size + 1 + 1, 0, none⟩ = false) := fun F => by
    have e := F.block (w.heap.size + 1 + 1) (by show _ < W.heap.size; omega) (by omega) (by omega) (by omega) (fun e => by have := lts.2.2 _ e; omega)
    exact ⟨(World.cell?_of_block (a := ⟨w.heap.size + 1 + 1, 0, none⟩) e).trans q1, (World.frozen?_of_block (a := ⟨w.heap.size + 1 + 1, 0, none⟩) e).trans q2⟩
  go_region_with (go_at_call 42; refine hfill.mono ?_; rintro e w5 ⟨rfl, sv5, T5, r5, F5⟩; obtain ⟨z0, z1⟩ := HE.out F5)
  obtain ⟨C, hC, hCs, hCat⟩ := r5
  have hC1 : ∀ v ∈ C.toList, v.oneCell' = true := by
    intro v hv
    obtain ⟨i, hi⟩ := List.getElem?_of_mem hv
    have hi' : C[i]? = some v := by simpa using hi
    have hlt : i < 24 := by rw [← hCs]; exact (Array.getElem?_eq_some_iff.1 hi').1
    rw [hCat i hlt] at hi'
    cases hi'
    unfold rowN
    split <;> rfl
  have hC6 : (w5.setCell ⟨w.heap.size + 1 + 1, 0, none⟩ (.int .i64 err)).drew.heap[w.heap.size + 1]? = some (.cells C 43 (0, 0)) := (Below.heap_setCell w5 ⟨w.heap.size + 1 + 1, 0, none⟩ _ (w.heap.size + 1) (by simp)).trans hC
  have hC7 : ((w5.setCell ⟨w.heap.size + 1 + 1, 0, none⟩ (.int .i64 err)).drew.setCell ⟨w.heap.size + 1 + 1, 0, none⟩ (.int .i64 err)).heap[w.heap.size + 1]? = some (.cells C 43 (0, 0)) := (Below.heap_setCell _ ⟨w.heap.size + 1 + 1, 0, none⟩ _ (w.heap.size + 1) (by simp)).trans hC6
  have hCi : (Try.prog.info? 43).map (·.size) = some C.size := by rw [hCs]; exact infoRow
  have hCa : C.all (·.oneCell') = true := by
    rw [← Array.all_toList]
    exact List.all_eq_true.2 hC1
  have HS : Hid (C.size = 24) := hCs
  have H6 : Hid _ := hC6
  have H7 : Hid _ := hC7
  have HI : Hid _ := hCi
  have HA : Hid _ := hCa
  clear hfill HE hC6 hC7 hCi hCa hC1 hC hCs
  have hC8 : ((w5.setCell ⟨w.heap.size + 1 + 1, 0, none⟩ (.int .i64 err)).setCell ⟨w.heap.size + 1 + 1, 0, none⟩ (.int .i64 err)).drew.heap[w.heap.size + 1]? = some (.cells C 43 (0, 0)) := H7.out
  have HQ : Hid (((w5.setCell ⟨w.heap.size + 1 + 1, 0, none⟩ (.int .i64 err)).setCell ⟨w.heap.size + 1 + 1, 0, none⟩ (.int .i64 err)).drew.cell? ⟨w.heap.size + 1 + 1, 0, none⟩ = some (.int .i64 err)) := by
    show ((w5.setCell ⟨w.heap.size + 1 + 1, 0, none⟩ (.int .i64 err)).setCell ⟨w.heap.size + 1 + 1, 0, none⟩ (.int .i64 err)).drew.cell? ⟨w.heap.size + 1 + 1, 0, none⟩ = _
    go_simp
  have HFIN := row_fin bl hsz lts T5 F5 (.int .i64 err) (.int .i64 err)
  have H8 : Hid _ := row_fin8 bl hsz lts T5 F5 (.int .i64 err) (.int .i64 err) q0 q3
  obtain ⟨pr, hpr⟩ := HPX
  have hn8 : vs.length ≤ (rowAll most vs xs).vs.length := by rw [hpr]; simp
  have htk : (rowAll most vs xs).vs.take vs.length = vs := by rw [hpr]; simp
  have HTK : Hid _ := htk
  clear htk
  go_wp2_with fail
  refine wp_region_any (by kernel_rfl) ?_
  change wpAny _ _ _ _ _ _ _ (World.drew _)
  refine wpAny_ready (rs := [0, 1]) (by kernel_rfl) (by simp) (AllReady.cons rfl (fun K hK => ?_) (AllReady.cons rfl (fun K hK => ?_) AllReady.nil))
  · refine step_load_row rfl (.tmp 4) 43 rfl (w.heap.size + 1) 24 41 C rfl H6.out Try.underlying43 HI.out ?_
    refine hK _ _ ?_
    clear hK K
    refine wpAny_ready (rs := [1, 2]) (by kernel_rfl) (by simp) (AllReady.cons rfl (fun K hK => ?_) (AllReady.cons rfl (fun K hK => ?_) AllReady.nil))
    · go_simp
      refine hK _ _ ?_
      clear hK K
      refine wpAny_ready (rs := [2]) (by kernel_rfl) (by simp) (AllReady.cons rfl (fun K hK => ?_) AllReady.nil)
      refine step_store_row rfl (.tmp 4) (.tmp 26) 43 rfl (w.heap.size + 1) C rfl rfl H6.out HI.out HA.out ?_
      refine hK _ _ ?_
      clear hK K
      refine wpAny_ready (rs := [3]) (by kernel_rfl) (by simp) (AllReady.cons rfl (fun K hK => ?_) AllReady.nil)
      go_simp
      refine hK _ _ ?_
      clear hK K
      refine wpAny_done (by kernel_rfl) ?_ _
      go_wp2_with fail
      refine NoPanic.ret ?_
      refine leaves_cons (f := 41) (args := #[.pointer (some ⟨w.heap.size + 1 + 1, 0, none⟩), .pointer (some ⟨w.heap.size + 1, 0, none⟩), .pointer (some ⟨w.heap.size, 0, none⟩), .pointer (some ⟨w.heap.size + 1 + 1 + 1, 0, none⟩)]) (by simp) (by simp [go_sem]) ?_
      refine (rowD_err HFIN.1 _ _ _ _ vs.length err _ .returning HQ.out herr H8.out.1 H8.out.2.1 ⟨C, hC8, HS.out, hCat⟩ hn8 (by omega) (by omega)).mono ?_
      rintro e u' w'' ⟨rfl, rfl, sv9, T9, ⟨C9, hC9, hCs9, hCat9⟩, F9⟩
      rw [HTK.out] at T9
      exact ⟨_, row_results rfl rfl hC9 (by rw [hCs9]; exact infoRow) (H8.out.2.2 F9 HQ.out), C9, sv9, rfl, hCs9, hCat9, T9, row_touch HFIN.2 F9 (by omega)⟩
    · refine step_store_row rfl (.tmp 4) (.tmp 26) 43 rfl (w.heap.size + 1) C rfl rfl H6.out HI.out HA.out ?_
      refine hK _ _ ?_
      clear hK K
      refine wpAny_ready (rs := [1]) (by kernel_rfl) (by simp) (AllReady.cons rfl (fun K hK => ?_) AllReady.nil)
      go_simp
      refine hK _ _ ?_
      clear hK K
      refine wpAny_ready (rs := [3]) (by kernel_rfl) (by simp) (AllReady.cons rfl (fun K hK => ?_) AllReady.nil)
      go_simp
      refine hK _ _ ?_
      clear hK K
      refine wpAny_done (by kernel_rfl) ?_ _
      go_wp2_with fail
      refine NoPanic.ret ?_
      refine leaves_cons (f := 41) (args := #[.pointer (some ⟨w.heap.size + 1 + 1, 0, none⟩), .pointer (some ⟨w.heap.size + 1, 0, none⟩), .pointer (some ⟨w.heap.size, 0, none⟩), .pointer (some ⟨w.heap.size + 1 + 1 + 1, 0, none⟩)]) (by simp) (by simp [go_sem]) ?_
      refine (rowD_err HFIN.1 _ _ _ _ vs.length err _ .returning HQ.out herr H8.out.1 H8.out.2.1 ⟨C, hC8, HS.out, hCat⟩ hn8 (by omega) (by omega)).mono ?_
      rintro e u' w'' ⟨rfl, rfl, sv9, T9, ⟨C9, hC9, hCs9, hCat9⟩, F9⟩
      rw [HTK.out] at T9
      exact ⟨_, row_results rfl rfl hC9 (by rw [hCs9]; exact infoRow) (H8.out.2.2 F9 HQ.out), C9, sv9, rfl, hCs9, hCat9, T9, row_touch HFIN.2 F9 (by omega)⟩
  · go_simp
    refine hK _ _ ?_
    clear hK K
    refine wpAny_ready (rs := [0]) (by kernel_rfl) (by simp) (AllReady.cons rfl (fun K hK => ?_) AllReady.nil)
    refine step_load_row rfl (.tmp 4) 43 rfl (w.heap.size + 1) 24 41 C rfl H6.out Try.underlying43 HI.out ?_
    refine hK _ _ ?_
    clear hK K
    refine wpAny_ready (rs := [2]) (by kernel_rfl) (by simp) (AllReady.cons rfl (fun K hK => ?_) AllReady.nil)
    refine step_store_row rfl (.tmp 4) (.tmp 26) 43 rfl (w.heap.size + 1) C rfl rfl H6.out HI.out HA.out ?_
    refine hK _ _ ?_
    clear hK K
    refine wpAny_ready (rs := [3]) (by kernel_rfl) (by simp) (AllReady.cons rfl (fun K hK => ?_) AllReady.nil)
    go_simp
    refine hK _ _ ?_
    clear hK K
    refine wpAny_done (by kernel_rfl) ?_ _
    go_wp2_with fail
    refine NoPanic.ret ?_
    refine leaves_cons (f := 41) (args := #[.pointer (some ⟨w.heap.size + 1 + 1, 0, none⟩), .pointer (some ⟨w.heap.size + 1, 0, none⟩), .pointer (some ⟨w.heap.size, 0, none⟩), .pointer (some ⟨w.heap.size + 1 + 1 + 1, 0, none⟩)]) (by simp) (by simp [go_sem]) ?_
    refine (rowD_err HFIN.1 _ _ _ _ vs.length err _ .returning HQ.out herr H8.out.1 H8.out.2.1 ⟨C, hC8, HS.out, hCat⟩ hn8 (by omega) (by omega)).mono ?_
    rintro e u' w'' ⟨rfl, rfl, sv9, T9, ⟨C9, hC9, hCs9, hCat9⟩, F9⟩
    rw [HTK.out] at T9
    exact ⟨_, row_results rfl rfl hC9 (by rw [hCs9]; exact infoRow) (H8.out.2.2 F9 HQ.out), C9, sv9, rfl, hCs9, hCat9, T9, row_touch HFIN.2 F9 (by omega)⟩
end Go.Proofs.Ythdcgikhcghigaa
