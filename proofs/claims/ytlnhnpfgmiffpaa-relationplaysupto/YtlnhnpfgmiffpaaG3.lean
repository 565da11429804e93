import Derived.Test.YtlnhnpfgmiffpaaG2
import Derived.Deep.WholeRow
import Derived.Deep.MidRow
import Derived.Lib.AppendZerosOnto
import Derived.Deep.Upon
section
namespace Go.Proofs.Ytlnhnpfgmiffpaa
open Go.RowKit Go.Maps
set_option linter.unusedVariables false
set_option linter.unusedSimpArgs false
attribute [local go_sem ↓] Go.wp_at_zero Go.wp_at_succ

theorem wpList_storeRow {P : Program} (w : World) {ops : Array Oper} {rest : List Oper} {o : Oper} {a : Act} {Q : Exit → Act → World → Prop} (hgd : o.guard = none) (p x : Operand) (t : TypeId)
    (ho : o.op = Op.store t p x) (b : Nat) (c c' : Array Value) (hp : a.eval p = .pointer (some ⟨b, 0, none⟩)) (hx : a.eval x = .agg c') (hb : w.heap[b]? = some (.cells c t (0, 0))) (hi : (P.info? t).map (·.size) = some c'.size) (hs : c.size = c'.size) (h1 : c'.all (·.oneCell') = true)
    (hK : wpList P ops Q rest (a.put o.dst undef) (w.setRow b c')) : wpList P ops Q (o :: rest) a w := by
  have hrun : (Instr.storeAt t (.pointer (some ⟨b, 0, none⟩)) (.agg c')).run P w = .ok () (w.setRow b c') := by
    simp only [Instr.storeAt, Instr.sureAddr, Sem.run_bind, Sem.run_pure, Result.andThen]
    exact run_storeVar_row _ _ t t c c' hb hi hs h1
  refine wpList_plain hgd fun K' hK' => ?_
  unfold Oper.wp
  simp [execOp, ho, hp, hx, hrun, Result.andThen]
  exact hK' _ _ hK

theorem rl_results3 {fn : Func} {sl s2 : Nat} {ty : TypeId} (hr : fn.results = #[.cell sl ty, .tmp s2]) {W : World} {tmps : Array Value} {b : Nat} {v u : Value} (h2 : tmps.getD sl undef = .pointer (some ⟨b, 0, none⟩)) (h3 : tmps.getD s2 undef = u) (hl : (loadVar ty ⟨b, 0, none⟩).run Try.prog W = .ok v W) :
    (results fn tmps).run Try.prog W = .ok (.tuple #[v, u]) W := by
  have h2' : tmps[sl]?.getD undef = .pointer (some ⟨b, 0, none⟩) := by simpa using h2
  have h3' : tmps[s2]?.getD undef = u := by simpa using h3
  unfold results
  rw [hr]
  simp [h2', h3', asAddr, hl, Result.andThen]
def zeroL : List Int := List.replicate 24 0
theorem zeroL_ok : RowOk zeroL := ⟨by decide, by decide⟩
theorem flat_row : ∀ (rows : List (List Int)), (∀ r ∈ rows, r.length = 24) → ∀ (i j : Nat) (r : List Int), rows[i]? = some r → j < 24 → (rows.flatMap (fun r => r.map cellI))[i * 24 + j]? = (r.map cellI)[j]?
  | [], _, i, j, r, h, _ => by simp at h
  | x :: rows, hok, 0, j, r, h, hj => by
    simp only [List.getElem?_cons_zero, Option.some.injEq] at h
    subst h
    rw [List.flatMap_cons, Nat.zero_mul, Nat.zero_add, List.getElem?_append_left (by rw [List.length_map, hok x (by simp)]; exact hj)]
  | x :: rows, hok, i + 1, j, r, h, hj => by
    have hx : (x.map cellI).length = 24 := by rw [List.length_map, hok x (by simp)]
    have := flat_row rows (fun y hy => hok y (by simp [hy])) i j r (by simpa using h) hj
    rw [List.flatMap_cons, List.getElem?_append_right (by rw [hx]; omega), hx, show (i + 1) * 24 + j - 24 = i * 24 + j by omega, this]
/-- a row of the list -/
theorem run_loadAtRow {w : World} {B : Nat} {g c n : Nat} {rows : List (List Int)} (hn : n = rows.length) (h : w.ownsRow B 40 24 (.slice (some ⟨g, 0, none⟩) n c) n (rows.flatMap (fun r => r.map cellI))) (hok : ∀ r ∈ rows, r.length = 24) {i : Nat} {r : List Int} (hi : rows[i]? = some r) :
    (loadVar 40 ⟨g, i * 24, none⟩).run Try.prog w = .ok (rowV r) w := by
  have hr : r.length = 24 := hok r (List.mem_of_getElem? hi)
  refine run_loadVar_mid w g (i * 24) 40 (r.map cellI) _ (fun j v hj => ?_) Try.underlying40 rfl (by rw [List.length_map, hr]; exact infoRow)
  have hj24 : j < 24 := by
    have := (List.getElem?_eq_some_iff.1 hj).1
    rw [List.length_map, hr] at this
    exact this
  have hx := flat_row rows hok i j r hi hj24
  rw [hj] at hx
  obtain ⟨hl, ⟨h1, _⟩ | ⟨g', cap', cur, hv, h0, hb, hn', hc, hs, ht⟩⟩ := h
  · cases h1
  · cases hv
    rw [← ht, List.getElem?_take] at hx
    split at hx
    · unfold World.cell?
      simp only [hb]
      simpa using hx
    · cases hx
attribute [-go_sem] loadVar
set_option maxHeartbeats 3200000 in
set_option maxRecDepth 100000 in
theorem at_any {w : World} {B t m : Nat} {sv : Value} {rows : List (List Int)} {ar gone : Int} (h : Rel w B t m sv rows ar gone) (i : Nat) (r : List Int) (hi : rows[i]? = some r) (hlen : rows.length ≤ 1000000000) :
    Calls Try.prog 20 #[.pointer (some ⟨t, 0, none⟩), .int .i64 (i : Int)] w fun e w' => e = .returned (.tuple #[rowV r, .int .i64 0]) ∧ Below w.heap.size w w' := by
  have hb := (Below.refl w.heap.size w).alloc (Nat.le_refl _) (.cells (rowC zeroL) 40)
  have HB := Lib.hid hb
  have HZ := Lib.hid (rowAt_new w zeroL)
  have HR := Lib.hid (h.keep hb)
  have HT := Lib.hid (there_yes (h.keep hb))
  obtain ⟨hlt, _⟩ := List.getElem?_eq_some_iff.1 hi
  have HI := Lib.hid hi
  have hlt' : (i : Int) < (rows.length : Int) := by omega
  have hi0 : (0 : Int) ≤ (i : Int) := by omega
  clear h hb hi
  go_enter Try.func20, Try.ntmps20
  go_upto_region 1 with fail
  rw [show rowC zeroL = #[.int .i32 0, .int .i32 0, .int .i32 0, .int .i32 0, .int .i32 0, .int .i32 0, .int .i32 0, .int .i32 0, .int .i32 0, .int .i32 0, .int .i32 0, .int .i32 0, .int .i32 0, .int .i32 0, .int .i32 0, .int .i32 0, .int .i32 0, .int .i32 0, .int .i32 0, .int .i32 0, .int .i32 0, .int .i32 0, .int .i32 0, .int .i32 0] from rfl] at HB HR HT
  have HZ' : Hid ((w.alloc (.cells #[.int .i32 0, .int .i32 0, .int .i32 0, .int .i32 0, .int .i32 0, .int .i32 0, .int .i32 0, .int .i32 0, .int .i32 0, .int .i32 0, .int .i32 0, .int .i32 0, .int .i32 0, .int .i32 0, .int .i32 0, .int .i32 0, .int .i32 0, .int .i32 0, .int .i32 0, .int .i32 0, .int .i32 0, .int .i32 0, .int .i32 0, .int .i32 0] 40)).heap[w.heap.size]? = some (.cells #[.int .i32 0, .int .i32 0, .int .i32 0, .int .i32 0, .int .i32 0, .int .i32 0, .int .i32 0, .int .i32 0, .int .i32 0, .int .i32 0, .int .i32 0, .int .i32 0, .int .i32 0, .int .i32 0, .int .i32 0, .int .i32 0, .int .i32 0, .int .i32 0, .int .i32 0, .int .i32 0, .int .i32 0, .int .i32 0, .int .i32 0, .int .i32 0] 40 (0, 0))) := HZ.out
  clear HZ
  generalize w.alloc (.cells #[.int .i32 0, .int .i32 0, .int .i32 0, .int .i32 0, .int .i32 0, .int .i32 0, .int .i32 0, .int .i32 0, .int .i32 0, .int .i32 0, .int .i32 0, .int .i32 0, .int .i32 0, .int .i32 0, .int .i32 0, .int .i32 0, .int .i32 0, .int .i32 0, .int .i32 0, .int .i32 0, .int .i32 0, .int .i32 0, .int .i32 0, .int .i32 0] 40) = W at HB HR HT HZ' ⊢
  go_wp2_with fail
  refine HT.out.mono ?_
  rintro e w1 ⟨rfl, rfl⟩
  have hown := HR.out.own
  obtain ⟨ao, co, hsv, _⟩ := own_form hown
  subst hsv
  obtain ⟨g, hao⟩ : ∃ g, ao = some ⟨g, 0, none⟩ := by
    rcases hown.2 with ⟨h1, h2⟩ | ⟨g, cap, cur, hv, _⟩
    · omega
    · cases hv; exact ⟨g, rfl⟩
  subst hao
  have l0 := run_loadRows (HR.out.rl.at (j := 0) rfl)
  have l2 := run_loadAtRow rfl hown (fun x hx => (HR.out.ok x hx).len) HI.out
  unfold rowV at l2
  have HRK := Lib.hid (HR.out.ok r (List.mem_of_getElem? HI.out))
  clear HT hown HR
  go_wp2_with (refine wpList_storeRow _ rfl (.tmp 4) (.tmp 30) 40 rfl w.heap.size #[.int .i32 0, .int .i32 0, .int .i32 0, .int .i32 0, .int .i32 0, .int .i32 0, .int .i32 0, .int .i32 0, .int .i32 0, .int .i32 0, .int .i32 0, .int .i32 0, .int .i32 0, .int .i32 0, .int .i32 0, .int .i32 0, .int .i32 0, .int .i32 0, .int .i32 0, .int .i32 0, .int .i32 0, .int .i32 0, .int .i32 0, .int .i32 0] (List.map cellI r).toArray rfl rfl HZ'.out (by rw [show (List.map cellI r).toArray.size = 24 by simp [HRK.out.len]]; exact infoRow) (by simp [HRK.out.len]) (by simp [cellI, Value.oneCell']) ?_)
  have HF : RowAt (w1.setRow w.heap.size (List.map cellI r).toArray) w.heap.size r := setRow_heap w1 w.heap.size _ _ _ (0, 0) HZ'.out
  refine bodyPost_ret (rl_results3 Try.results20 (b := w.heap.size) (v := rowV r) (u := .int .i64 0) rfl rfl (run_loadRow HF HRK.out.len)) rfl ⟨rfl, ?_⟩
  exact HB.out.trans ⟨rfl, rfl, rfl, by simp, fun k hk => setRow_other w1 w.heap.size k _ (by omega)⟩
end Go.Proofs.Ytlnhnpfgmiffpaa
end
section
namespace Go.Proofs.Ytlnhnpfgmiffpaa
open Go.RowKit Go.Maps Go.ChangeMaps
set_option linter.unusedVariables false
set_option linter.unusedSimpArgs false
attribute [local go_sem ↓] Go.wp_at_zero Go.wp_at_succ

theorem rows_nil (n c : Nat) (w : World) : (binOp .eql 49 (.slice none n c) (.slice none 0 0)).run Try.prog w = .ok (.bool true) w := by kernel_rfl
set_option maxHeartbeats 800000 in
set_option maxRecDepth 100000 in
theorem cloneRows_nil (w : World) : Calls Try.prog 37 #[.slice none 0 0] w fun e w' => e = .returned (.slice none 0 0) ∧ w' = w := by
  have hn := rows_nil 0 0 w
  go_enter Try.func37, Try.ntmps37
  go_wp2
  go_ret
  exact ⟨rfl, rfl⟩
theorem run_clearMap {w : World} {b : Nat} {rows : List (List Int)} (h : MapR w b rows) (ty : TypeId) : ∃ w', (Builtin.clear_ #[50] ty #[.map (some b)]).run Try.prog w = .ok (.tuple #[]) w' ∧ MapR w' b [] ∧ w.mapTurned w' b := by
  obtain ⟨es, c, hb, _⟩ := h
  refine ⟨setBlock w b (.map #[] c), ?_, ⟨#[], c, heap_setBlock_same hb _, rfl, by simp⟩, ⟨es, c, _, _, hb, rfl⟩⟩
  simp [Builtin.clear_, run_underlying Try.underlying50, MapKept.run_getObj_map hb, MapKept.run_setObj_map _ hb, Result.andThen, setBlock]
theorem makeMapR (u : World) : (Instr.makeMap 50 (some (.int .i64 0))).run Try.prog u = .ok (.map (some u.heap.size)) (u.alloc (.map #[] 0)) := by kernel_rfl
attribute [-go_sem] loadVar
set_option maxHeartbeats 1600000 in
set_option maxRecDepth 100000 in
theorem number_nil {w : World} {b m : Nat} (hr : RL w b 52 [.slice none 0 0, .map (some m)]) (hm : MapR w m []) (hne : b ≠ m) : Calls Try.prog 38 #[.pointer (some ⟨b, 0, none⟩)] w fun e w' => (∃ u, e = .returned u) ∧ MapR w' m [] ∧ w.mapTurned w' m := by
  obtain ⟨w2, _, hm2, ht2⟩ := run_clearMap hm 3
  have hcl : ∀ ty, (Builtin.clear_ #[50] ty #[.map (some m)]).run Try.prog w = .ok (.tuple #[]) w2 := fun ty => by
    have : ∀ ty ty', Builtin.clear_ #[50] ty #[.map (some m)] = Builtin.clear_ #[50] ty' #[.map (some m)] := fun _ _ => rfl
    rw [this ty 3]
    assumption
  have rl2 : RL w2 b 52 [.slice none 0 0, .map (some m)] := World.rowIs.of_block hr (ht2.grown.block b (World.rowIs.lt hr) (fun e => hne (Option.some.inj e)))
  have l1 := run_loadMap (hr.at (j := 1) rfl)
  have l0 := run_loadRows (rl2.at (j := 0) rfl)
  have HM := Lib.hid hm2
  have HT := Lib.hid ht2
  clear hr hm hm2 ht2 rl2
  go_enter Try.func38, Try.ntmps38
  go_wp2
  go_loopw [13] (fun i wr => i = .int .i64 0 ∧ wr = w2) (fun i _ => 0)
  case atStart => exact ⟨rfl, rfl⟩
  case round =>
    obtain ⟨rfl, rfl⟩ := hrel
    go_wp2
    go_end0
    exact ⟨⟨_, rfl⟩, HM.out, HT.out⟩
end Go.Proofs.Ytlnhnpfgmiffpaa
end
section
namespace Go.Proofs.Ytlnhnpfgmiffpaa
open Go.RowKit Go.Maps
set_option linter.unusedVariables false
set_option linter.unusedSimpArgs false
attribute [local go_sem ↓] Go.wp_at_zero Go.wp_at_succ

theorem belowA {w : World} (o : Obj) : Below w.heap.size w (w.alloc o) := (Below.refl _ _).alloc (Nat.le_refl _) _
/-- all but block t is as it was -/
structure Beside (t : Nat) (w w' : World) : Prop where
  os : w'.os = w.os
  tape : w'.tape = w.tape
  output : w'.output = w.output
  size : w.heap.size ≤ w'.heap.size
  block : ∀ k, k < w.heap.size → k ≠ t → w'.heap[k]? = w.heap[k]?
theorem Beside.of {t : Nat} {w w' : World} (h : Below w.heap.size w w') : Beside t w w' := ⟨h.os, h.tape, h.output, h.size, fun k hk _ => h.block k hk⟩
theorem Beside.set {t i : Nat} {w w' : World} (h : Beside t w w') (v : Value) : Beside t w (w'.setCell ⟨t, i, none⟩ v) :=
  ⟨h.os, h.tape, h.output, Nat.le_trans h.size (by simp [World.setCell]), fun k hk hn => (Below.heap_setCell _ _ _ _ hn).trans (h.block k hk hn)⟩
theorem Beside.below {t B : Nat} {w w' : World} (h : Beside t w w') (hB : B ≤ t) (hw : B ≤ w.heap.size) : Below B w w' := ⟨h.os, h.tape, h.output, h.size, fun k hk => h.block k (by omega) (by omega)⟩
theorem RL.beside {t b : Nat} {w w' : World} {ty : TypeId} {l : List Value} (h : RL w b ty l) (hb : Beside t w w') (hn : b ≠ t) : RL w' b ty l := World.rowIs.of_block h (hb.block b (World.rowIs.lt h) hn)
theorem RL.apart {w : World} {a b : Nat} {ta tb : TypeId} {l l' : List Value} (h : RL w a ta l) (h' : RL w b tb l') (hl : l.length ≠ l'.length) : a ≠ b := by
  rintro rfl
  obtain ⟨c, h1, h2, _⟩ := h
  obtain ⟨c', h1', h2', _⟩ := h'
  rw [h1] at h1'
  cases h1'
  exact hl (h2.symm.trans h2')
theorem Beside.trans {t : Nat} {a b c : World} (h : Beside t a b) (k : Beside t b c) : Beside t a c :=
  ⟨k.os.trans h.os, k.tape.trans h.tape, k.output.trans h.output, Nat.le_trans h.size k.size, fun i hi hn => (k.block i (Nat.lt_of_lt_of_le hi h.size) hn).trans (h.block i hi hn)⟩
theorem Beside.refl (t : Nat) (w : World) : Beside t w w := ⟨rfl, rfl, rfl, Nat.le_refl _, fun _ _ _ => rfl⟩
theorem Beside.mapTurned {m : Nat} {w w' : World} (h : w.mapTurned w' m) : Beside m w w' :=
  ⟨h.grown.os, h.grown.tape, h.grown.output, h.grown.size, fun k hk hn => h.grown.block k hk (fun e => hn (Option.some.inj e))⟩
/-- a region whose orders all end in the same act and world: what follows is shown once -/
theorem region_once {P : Program} {id : Nat} {ops : Array Oper} {b : Bool} {Q : Exit → Act → World → Prop} {a : Act} {w : World}
    (h : ∃ A V, (Code.region id ops b).wp P (fun e a' w' => e = .normal ∧ a' = A ∧ w' = V) a w ∧ Q .normal A V) : (Code.region id ops b).wp P Q a w := by
  obtain ⟨A, V, h, hk⟩ := h
  exact Code.wp_mono (fun e a' w' h => by obtain ⟨rfl, rfl, rfl⟩ := h; exact hk) h
theorem store_fresh (w : World) (r : List Int) (hr : r.length = 24) : (storeCells ⟨w.heap.size, 0, none⟩ (List.map cellI r)).run Try.prog (w.alloc (.cells #[.int .i32 0, .int .i32 0, .int .i32 0, .int .i32 0, .int .i32 0, .int .i32 0, .int .i32 0, .int .i32 0, .int .i32 0, .int .i32 0, .int .i32 0, .int .i32 0, .int .i32 0, .int .i32 0, .int .i32 0, .int .i32 0, .int .i32 0, .int .i32 0, .int .i32 0, .int .i32 0, .int .i32 0, .int .i32 0, .int .i32 0, .int .i32 0] 40)) = .ok () (w.alloc (.cells (rowC r) 40)) := by
  have := run_storeCells_new (P := Try.prog) w 40 (rowC zeroL) (rowC r) (by rw [rowC_size hr]; exact infoRow) (by rw [rowC_size hr]; decide) (by simp [rowC, cellI, Value.oneCell'])
  exact this
attribute [-go_sem] loadVar
set_option maxHeartbeats 3200000 in
set_option maxRecDepth 100000 in
/-- number: the map has the rows of the list, each with its place -/
theorem number_any {w : World} {B t m : Nat} {sv : Value} {rows rows0 : List (List Int)} (h0 : w.cell? ⟨t, 0, none⟩ = some sv) (h1 : w.cell? ⟨t, 1, none⟩ = some (.map (some m))) (ht : t < w.heap.size) (own : w.ownsRow B 40 24 sv rows.length (rows.flatMap (fun r => r.map cellI)))
    (ok : ∀ r ∈ rows, RowOk r) (nd : rows.Nodup) (hm : MapR w m rows0) (ne : t ≠ m ∧ ∀ g, sv.ownBlock = some g → g ≠ m) (hlen : rows.length ≤ 1000000000) :
    Calls Try.prog 38 #[.pointer (some ⟨t, 0, none⟩)] w fun e w' => (∃ u, e = .returned u) ∧ MapR w' m rows ∧ Beside m w w' := by
  obtain ⟨a, c, rfl, hl⟩ := own_form own
  obtain ⟨w1, hcl, hm1, ht1⟩ := run_clearMap hm 0
  have s1 := Beside.mapTurned ht1
  have l1 := run_loadMap h1
  have HKEEP : Hid (∀ u, Beside m w u → u.cell? ⟨t, 0, none⟩ = some (.slice a rows.length c) ∧ u.cell? ⟨t, 1, none⟩ = some (.map (some m)) ∧ u.ownsRow B 40 24 (.slice a rows.length c) rows.length (rows.flatMap (fun r => r.map cellI))) := fun u hu => by
    have e := hu.block t ht ne.1
    exact ⟨(World.cell?_of_block (a := ⟨t, 0, none⟩) e).trans h0, (World.cell?_of_block (a := ⟨t, 1, none⟩) e).trans h1, own_of_block own (fun g hg => hu.block g (own.lt g hg).2 (ne.2 g hg))⟩
  have l0 := run_loadRows (HKEEP.out w1 s1).1
  have HI0 : Hid (MapR w1 m (rows.take 0) ∧ Beside m w w1) := ⟨hm1, s1⟩
  have HOK := Lib.hid (And.intro ok nd)
  clear h0 h1 own hm hm1 ht1 s1 ok nd ne
  go_enter Try.func38, Try.ntmps38
  go_wp2
  clear hcl l0 l1
  go_loopw [13] (fun i wr => ∃ k : Nat, k ≤ rows.length ∧ i = .int .i64 k ∧ Hid (MapR wr m (rows.take k) ∧ Beside m w wr)) (fun i _ => rows.length - (intOf i).toNat)
  case atStart => exact ⟨0, Nat.zero_le _, rfl, HI0.out⟩
  case round =>
    obtain ⟨k, hk, rfl, HI⟩ := hrel
    clear HI0
    by_cases hlt : k < rows.length
    · have hlt' : (k : Int) < (rows.length : Int) := by omega
      have hk0 : (0 : Int) ≤ (k : Int) := by omega
      obtain ⟨r, hr⟩ : ∃ r, rows[k]? = some r := ⟨rows[k], List.getElem?_eq_getElem hlt⟩
      have hrm := List.mem_of_getElem? hr
      have hro := HOK.out.1 r hrm
      have hown := (HKEEP.out wr HI.out.2).2.2
      obtain ⟨g, rfl⟩ : ∃ g, a = some ⟨g, 0, none⟩ := by
        obtain ⟨_, h | ⟨g, cap, cur, e, _⟩⟩ := hown
        · omega
        · cases e; exact ⟨g, rfl⟩
      have hld := run_loadAtRow rfl hown (fun r hr => (HOK.out.1 r hr).len) hr
      have hst := store_fresh wr r hro.len
      have hrl : r.length = 24 := hro.len
      have hsA : Beside m w (wr.alloc (.cells (rowC r) 40)) := HI.out.2.trans (Beside.of (belowA _))
      have hmA : MapR (wr.alloc (.cells (rowC r) 40)).drew m (rows.take k) := (HI.out.1.below (belowA _)).below (Below.refl _ _).drew
      have hsD : Beside m w (wr.alloc (.cells (rowC r) 40)).drew := hsA.trans (Beside.of (Below.refl _ _).drew)
      have hnew : r ∉ rows.take k := fun hmem => by
        obtain ⟨j, hj⟩ := List.getElem?_of_mem hmem
        have hjk : j < k := by
          have := (List.getElem?_eq_some_iff.1 hj).1
          simp at this
          omega
        rw [List.getElem?_take, if_pos hjk] at hj
        have := (List.getElem?_inj (by omega) HOK.out.2).1 (hj.trans hr.symm)
        omega
      obtain ⟨w2, hput, hm2, ht2⟩ := hmA.put hro hnew
      have hkl : (rows.take k).length = k := by simp; omega
      rw [hkl] at hput
      have HX : Hid (MapR w2 m (rows.take (k + 1)) ∧ Beside m w w2) := ⟨by rw [List.take_add_one, hr]; exact hm2, hsD.trans (Beside.mapTurned ht2)⟩
      have l1 := run_loadMap (HKEEP.out _ hsD).2.1
      have l2 := run_loadRow ((rowAt_new wr r).below (Below.refl _ _).drew) hro.len
      unfold rowV at hld l2 hput
      clear hsA hmA hsD hnew hm2 ht2 hkl hown HI hrm hr
      go_wp2_with fail
      refine region_once ?_
      apply Exists.intro
      apply Exists.intro
      refine ⟨?_, ?_⟩
      · go_region
        all_goals exact ⟨rfl, rfl, rfl⟩
      go_wp2
      go_roundw
      case rel => exact ⟨k + 1, by omega, by go_num, HX⟩
      case measure => simp [intOf]; omega
    · obtain rfl : k = rows.length := by omega
      have HE : Hid (MapR wr m rows ∧ Beside m w wr) := by
        have := HI.out
        rwa [List.take_of_length_le (Nat.le_refl _)] at this
      clear HI
      go_wp2
      go_end0
      exact ⟨⟨_, rfl⟩, HE.out⟩
end Go.Proofs.Ytlnhnpfgmiffpaa
end
section
namespace Go.Proofs.Ytlnhnpfgmiffpaa
open Go.RowKit Go.Maps
set_option linter.unusedVariables false
set_option linter.unusedSimpArgs false
attribute [local go_sem ↓] Go.wp_at_zero Go.wp_at_succ

theorem infoRowQ : (Try.prog.info? 40).map (fun i => (i.zero, i.size, i.bytes)) = some (some (rowV zeroL), 24, 96) := by kernel_rfl
attribute [-go_sem] loadVar Builtin.append_
set_option maxHeartbeats 1600000 in
set_option maxRecDepth 100000 in
theorem grow_nil (n : Nat) (hn : n ≤ 1000000000) (w : World) : Calls Try.prog 59 #[.slice none 0 0, .int .i64 (n : Int)] w fun e w' => ∃ sv, e = .returned sv ∧ w'.ownsRow w.heap.size 40 24 sv 0 [] ∧ Below w.heap.size w w' := by
  have h0 : ¬ (n : Int) < 0 := by omega
  by_cases hz : n = 0
  · subst hz
    go_enter Try.func59, Try.ntmps59
    go_wp2
    go_ret
    exact ⟨_, rfl, World.ownsRow_nil _ _ _ _, Below.refl _ _⟩
  · obtain ⟨i0, hi0, hz0, hz1, hz2⟩ := info_parts infoRowQ
    have hpos : (0 : Int) < (n : Int) := by omega
    have iw : IntKind.i64.wrap (n : Int) = (n : Int) := by rw [IntKind.wrap_i64]; omega
    have hap := Lib.run_append_nil_zeros (P := Try.prog) w 49 3 49 40 i0 (rowV zeroL) .i64 .i64 Try.underlying49 Try.underlying3 hi0 hz0 n (by omega) (by omega) (by omega) (by rw [hz2]; omega)
    have hge := grownCap_ge w n 0 40
    have hle := grownCap_le_maxLen w n 0 40 (by unfold maxLen; omega)
    have hzc : (rowV zeroL).cells.size = 24 := by decide
    have hcs : ∀ q, (Builtin.zeroCells (rowV zeroL).cells q).size = q * 24 := fun q => by rw [size_zeroCells, hzc]
    have HO : Hid ((w.drew.alloc (.cells (Builtin.zeroCells (rowV zeroL).cells n ++ Builtin.zeroCells (rowV zeroL).cells (grownCap w n 0 40 - n)) 40)).ownsRow w.heap.size 40 24 (.slice (some ⟨w.heap.size, 0, none⟩) 0 (grownCap w n 0 40)) 0 []) := by
      refine ⟨rfl, .inr ⟨_, _, _, rfl, Nat.le_refl _, heap_alloc_new w.drew _, Nat.zero_le _, hle, ?_, rfl⟩⟩
      rw [Array.size_append, hcs, hcs]
      rw [← Nat.add_mul]
      congr 1
      omega
    have HBW : Hid (Below w.heap.size w (w.drew.alloc (.cells (Builtin.zeroCells (rowV zeroL).cells n ++ Builtin.zeroCells (rowV zeroL).cells (grownCap w n 0 40 - n)) 40))) := (Below.refl _ _).drew.alloc (Nat.le_refl _) _
    generalize w.drew.alloc _ = W at hap HO HBW
    generalize grownCap w n 0 40 = cap at hap hge hle HO
    have h00 : (0 : Int) ≤ (cap : Int) := by omega
    clear hle hcs hzc
    go_enter Try.func59, Try.ntmps59
    go_wp2
    go_ret
    exact ⟨_, rfl, HO.out, HBW.out⟩
abbrev flatR (rows : List (List Int)) : List Value := rows.flatMap (fun r => r.map cellI)
theorem flatR_len : ∀ rows : List (List Int), (∀ r ∈ rows, r.length = 24) → (flatR rows).length = rows.length * 24
  | [], _ => rfl
  | r :: rows, h => by
    have ih := flatR_len rows (fun x hx => h x (by simp [hx]))
    have h1 := h r (by simp)
    simp only [flatR, List.flatMap_cons, List.length_append, List.length_map, List.length_cons] at ih ⊢
    omega
/-- a list of rows that lies somewhere -/
def LrC (w : World) (v : Value) (rows : List (List Int)) : Prop := (∀ r ∈ rows, r.length = 24) ∧ ∃ a c, v = .slice a rows.length c ∧ (0 < rows.length → ∃ g off, a = some ⟨g, off, none⟩ ∧ g < w.heap.size ∧ ∀ j u, (flatR rows)[j]? = some u → w.cell? ⟨g, off + j, none⟩ = some u)
theorem LrC.below {w w' : World} {v : Value} {rows : List (List Int)} (h : LrC w v rows) (hb : Below w.heap.size w w') : LrC w' v rows := by
  obtain ⟨h1, a, c, rfl, h2⟩ := h
  refine ⟨h1, a, c, rfl, fun hp => ?_⟩
  obtain ⟨g, off, rfl, hg, hc⟩ := h2 hp
  exact ⟨g, off, rfl, Nat.lt_of_lt_of_le hg hb.size, fun j u hu => (hb.cell (p := ⟨g, off + j, none⟩) hg).trans (hc j u hu)⟩
theorem LrC.form {w : World} {v : Value} {rows : List (List Int)} (h : LrC w v rows) : ∃ a c, v = .slice a rows.length c := by
  obtain ⟨h1, a, c, rfl, h2⟩ := h
  exact ⟨a, c, rfl⟩
theorem flatR_one (rows : List (List Int)) : ∀ u ∈ flatR rows, u.oneCell' = true := by
  intro u hu
  obtain ⟨r, _, hr⟩ := List.mem_flatMap.1 hu
  obtain ⟨x, _, rfl⟩ := List.mem_map.1 hr
  rfl
/-- append(o, x...) of rows -/
theorem app_rows {w0 w : World} {B : Nat} {o : Value} {rows1 rows2 : List (List Int)} {n : Nat} (hn : n = rows1.length) (hown : w.ownsRow B 40 24 o n (flatR rows1)) (hB : Below B w0 w) (hw : B ≤ w.heap.size) {a : Option Addr} {c : Nat} (hx : LrC w (.slice a rows2.length c) rows2) (hl : n + rows2.length ≤ 1000000000) (ty : TypeId) :
    ∃ o' w', (Builtin.append_ #[49, 49] ty #[o, .slice a rows2.length c]).run Try.prog w = .ok o' w' ∧ w'.ownsRow B 40 24 o' (n + rows2.length) (flatR (rows1 ++ rows2)) ∧ Below B w0 w' ∧ B ≤ w'.heap.size := by
  obtain ⟨i0, hi0, hz0, hz1, hz2⟩ := info_parts infoRowQ
  by_cases h0 : rows2.length = 0
  · have hu : rows2 = [] := List.eq_nil_of_length_eq_zero h0
    subst hu
    obtain ⟨a1, c1, rfl, _⟩ := own_form hown
    have hsc : n ≤ c1 := by
      obtain ⟨_, ⟨e, hz⟩ | ⟨g, cap, cur, e, _, _, hnc, _⟩⟩ := hown
      · cases e; omega
      · cases e; exact hnc
    refine ⟨.slice a1 n c1, w, ?_, by simpa using hown, hB, hw⟩
    exact run_append_nothing w _ _ ty _ i0 Try.underlying49 hi0 a1 n c1 hsc _ ⟨.inl ⟨_, Try.underlying49⟩, by intro w'; cases a <;> simp [Builtin.lenOf], by cases a <;> simp [Builtin.firstCells, loadCells, loadCellsFrom], by cases a <;> simp [Builtin.firstCells, loadCells, loadCellsFrom], by simp, by simp⟩
  · obtain ⟨h24, a', c', e, hc⟩ := hx
    cases e
    obtain ⟨g, off, rfl, hg, hcell⟩ := hc (by omega)
    obtain ⟨o', w', h1, h2, h3, _, _⟩ := run_append_own_at (P := Try.prog) w B 49 ty 40 i0 _ 24 96 Try.underlying49 hi0 hz0 hz1 hz2 rfl (by decide) o n (flatR rows1) hown ⟨g, off, none⟩ rows2.length c (flatR rows2) (flatR_len rows2 h24) (fun j u hu => by
      rw [show (⟨g, off, none⟩ : Addr).add j = ⟨g, off + j, none⟩ from by simp [Addr.add]]
      exact hcell j u hu) (flatR_one rows2) (by unfold maxLen; omega) (by omega) hw
    refine ⟨o', w', h1, by simpa [flatR] using h2, hB.grown h3 hw (fun j hj => (hown.lt j hj).1), Nat.le_trans hw h3.size⟩
set_option maxHeartbeats 1600000 in
set_option maxRecDepth 100000 in
/-- slices.Concat of two lists -/
theorem concat2 {w : World} {q cq : Nat} {a1 a2 : Option Addr} {c1 c2 : Nat} {rows1 rows2 : List (List Int)} (h1 : w.cell? ⟨q, 0, none⟩ = some (.slice a1 rows1.length c1)) (h2 : w.cell? ⟨q, 1, none⟩ = some (.slice a2 rows2.length c2)) (hq : q < w.heap.size)
    (x1 : LrC w (.slice a1 rows1.length c1) rows1) (x2 : LrC w (.slice a2 rows2.length c2) rows2) (hl : rows1.length + rows2.length ≤ 1000000000) :
    Calls Try.prog 55 #[.slice (some ⟨q, 0, none⟩) 2 cq] w fun e w' => ∃ sv, e = .returned sv ∧ w'.ownsRow w.heap.size 40 24 sv (rows1.length + rows2.length) (flatR (rows1 ++ rows2)) ∧ Below w.heap.size w w' := by
  have l1 := run_loadRows h1
  have l2 := run_loadRows h2
  have HC : Hid (∀ u, Below w.heap.size w u → u.cell? ⟨q, 0, none⟩ = some (.slice a1 rows1.length c1) ∧ u.cell? ⟨q, 1, none⟩ = some (.slice a2 rows2.length c2)) := fun u hu => ⟨(hu.cell (p := ⟨q, 0, none⟩) hq).trans h1, (hu.cell (p := ⟨q, 1, none⟩) hq).trans h2⟩
  have HX := Lib.hid (And.intro x1 x2)
  have i1 : IntKind.i64.wrap (0 + (rows1.length : Int)) = (rows1.length : Int) := by rw [IntKind.wrap_i64]; omega
  have i2 : IntKind.i64.wrap ((rows1.length : Int) + (rows2.length : Int)) = (rows1.length : Int) + (rows2.length : Int) := by rw [IntKind.wrap_i64]; omega
  have n1 : ¬ (rows1.length : Int) < 0 := by omega
  have n2 : ¬ (rows1.length : Int) + (rows2.length : Int) < 0 := by omega
  have HG := Lib.hid (grow_nil (rows1.length + rows2.length) hl w)
  have ec : ((rows1.length + rows2.length : Nat) : Int) = (rows1.length : Int) + (rows2.length : Int) := by omega
  rw [ec] at HG
  clear h1 h2 x1 x2 ec
  go_enter Try.func55, Try.ntmps55
  go_wp2
  go_loopw [3, 11] (fun sz i wr => wr = w ∧ ((sz = .int .i64 0 ∧ i = .int .i64 0) ∨ (sz = .int .i64 (rows1.length : Int) ∧ i = .int .i64 1) ∨ (sz = .int .i64 ((rows1.length : Int) + (rows2.length : Int)) ∧ i = .int .i64 2))) (fun _ i _ => 2 - (intOf i).toNat)
  case atStart => exact ⟨rfl, .inl ⟨rfl, rfl⟩⟩
  case round =>
    obtain ⟨hwr, ⟨rfl, rfl⟩ | ⟨rfl, rfl⟩ | ⟨rfl, rfl⟩⟩ := hrel
    · subst hwr
      go_wp2
      go_roundw
      case rel => exact ⟨by first | rfl | trivial, .inr (.inl ⟨by first | rfl | simp_all, by go_num⟩)⟩
      case measure => simp [intOf]
    · subst hwr
      go_wp2
      go_roundw
      case rel => exact ⟨by first | rfl | trivial, .inr (.inr ⟨by first | rfl | simp_all, by go_num⟩)⟩
      case measure => simp [intOf]
    · have hw := hwr.symm
      clear hwr
      subst hw
      clear l1 l2 i1 i2 n1 n2
      go_wp2_with fail
      refine HG.out.mono ?_
      rintro e w1 ⟨sv, rfl, hown, b1⟩
      have HO := Lib.hid hown
      have HB := Lib.hid b1
      clear HG hown b1
      go_wp2
      go_loopw [6, 27] (fun o i wx => ∃ k : Nat, k ≤ 2 ∧ i = .int .i64 k ∧ Hid (Below w.heap.size w wx ∧ wx.ownsRow w.heap.size 40 24 o (if k = 0 then 0 else if k = 1 then rows1.length else rows1.length + rows2.length) (flatR (if k = 0 then [] else if k = 1 then rows1 else rows1 ++ rows2)))) (fun _ i _ => 2 - (intOf i).toNat)
      case atStart => exact ⟨0, by omega, rfl, HB.out, HO.out⟩
      case round =>
        obtain ⟨k, hk, rfl, HI⟩ := hrel
        clear HO HB
        obtain rfl | rfl | rfl : k = 0 ∨ k = 1 ∨ k = 2 := by omega
        · have l1 := run_loadRows (HC.out _ HI.out.1).1
          obtain ⟨o', w', h1, h2, h3, _⟩ := app_rows (rows1 := []) (n := 0) rfl HI.out.2 HI.out.1 HI.out.1.size (HX.out.1.below HI.out.1) (by omega) 49
          have HN : Hid (Below w.heap.size w w' ∧ w'.ownsRow w.heap.size 40 24 o' rows1.length (flatR rows1)) := ⟨h3, by simpa using h2⟩
          clear h2 h3 HI
          go_wp2
          go_roundw
          case rel => exact ⟨1, by omega, by go_num, HN⟩
          case measure => simp [intOf]
        · have l1 := run_loadRows (HC.out _ HI.out.1).2
          obtain ⟨o', w', h1, h2, h3, _⟩ := app_rows (rows1 := rows1) (n := rows1.length) rfl HI.out.2 HI.out.1 HI.out.1.size (HX.out.2.below HI.out.1) (by omega) 49
          have HN : Hid (Below w.heap.size w w' ∧ w'.ownsRow w.heap.size 40 24 o' (rows1.length + rows2.length) (flatR (rows1 ++ rows2))) := ⟨h3, h2⟩
          clear h2 h3 HI
          go_wp2
          go_roundw
          case rel => exact ⟨2, by omega, by go_num, HN⟩
          case measure => simp [intOf]
        · have HF := Lib.hid HI.out
          obtain ⟨_, _, rfl, _⟩ := own_form HI.out.2
          clear HI HC HX
          go_wp2
          go_ret
          exact ⟨_, rfl, HF.out.2, HF.out.1⟩
end Go.Proofs.Ytlnhnpfgmiffpaa
end
