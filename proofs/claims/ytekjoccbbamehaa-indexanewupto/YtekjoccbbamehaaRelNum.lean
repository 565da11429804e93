import Derived.Test.YtekjoccbbamehaaRelHasW
import Derived.Test.YtekjoccbbamehaaRelAt
import Derived.Test.YtekjoccbbamehaaRelNew
namespace Go.Proofs.Ytekjoccbbamehaa
open Go.RowKit Go.Maps
set_option linter.unusedVariables false
set_option linter.unusedSimpArgs false
attribute [local go_sem ↓] Go.wp_at_zero Go.wp_at_succ

theorem belowA {w : World} (o : Obj) : Below w.heap.size w (w.alloc o) := (Below.refl _ _).alloc (Nat.le_refl _) _
/-- all but block t is as it was -/
structure Beside (t : Nat) (w w' : World) : Prop where
  os : w'.os = w.os
  tape : w'.tape = w.tape
  output : w'.output = w.output
  size : w.heap.size ≤ w'.heap.size
  block : ∀ k, k < w.heap.size → k ≠ t → w'.heap[k]? = w.heap[k]?
theorem Beside.of {t : Nat} {w w' : World} (h : Below w.heap.size w w') : Beside t w w' := ⟨h.os, h.tape, h.output, h.size, fun k hk _ => h.block k hk⟩
theorem Beside.set {t i : Nat} {w w' : World} (h : Beside t w w') (v : Value) : Beside t w (w'.setCell ⟨t, i, none⟩ v) :=
  ⟨h.os, h.tape, h.output, Nat.le_trans h.size (by simp [World.setCell]), fun k hk hn => (Below.heap_setCell _ _ _ _ hn).trans (h.block k hk hn)⟩
theorem Beside.below {t B : Nat} {w w' : World} (h : Beside t w w') (hB : B ≤ t) (hw : B ≤ w.heap.size) : Below B w w' := ⟨h.os, h.tape, h.output, h.size, fun k hk => h.block k (by omega) (by omega)⟩
theorem RL.beside {t b : Nat} {w w' : World} {ty : TypeId} {l : List Value} (h : RL w b ty l) (hb : Beside t w w') (hn : b ≠ t) : RL w' b ty l := World.rowIs.of_block h (hb.block b (World.rowIs.lt h) hn)
theorem RL.apart {w : World} {a b : Nat} {ta tb : TypeId} {l l' : List Value} (h : RL w a ta l) (h' : RL w b tb l') (hl : l.length ≠ l'.length) : a ≠ b := by
  rintro rfl
  obtain ⟨c, h1, h2, _⟩ := h
  obtain ⟨c', h1', h2', _⟩ := h'
  rw [h1] at h1'
  cases h1'
  exact hl (h2.symm.trans h2')
theorem Beside.trans {t : Nat} {a b c : World} (h : Beside t a b) (k : Beside t b c) : Beside t a c :=
  ⟨k.os.trans h.os, k.tape.trans h.tape, k.output.trans h.output, Nat.le_trans h.size k.size, fun i hi hn => (k.block i (Nat.lt_of_lt_of_le hi h.size) hn).trans (h.block i hi hn)⟩
theorem Beside.refl (t : Nat) (w : World) : Beside t w w := ⟨rfl, rfl, rfl, Nat.le_refl _, fun _ _ _ => rfl⟩
theorem Beside.mapTurned {m : Nat} {w w' : World} (h : w.mapTurned w' m) : Beside m w w' :=
  ⟨h.grown.os, h.grown.tape, h.grown.output, h.grown.size, fun k hk hn => h.grown.block k hk (fun e => hn (Option.some.inj e))⟩
/-- a region whose orders all end in the same act and world: what follows is shown once -/
theorem region_once {P : Program} {id : Nat} {ops : Array Oper} {b : Bool} {Q : Exit → Act → World → Prop} {a : Act} {w : World}
    (h : ∃ A V, (Code.region id ops b).wp P (fun e a' w' => e = .normal ∧ a' = A ∧ w' = V) a w ∧ Q .normal A V) : (Code.region id ops b).wp P Q a w := by
  obtain ⟨A, V, h, hk⟩ := h
  exact Code.wp_mono (fun e a' w' h => by obtain ⟨rfl, rfl, rfl⟩ := h; exact hk) h
theorem store_fresh (w : World) (r : List Int) (hr : r.length = 24) : (storeCells ⟨w.heap.size, 0, none⟩ (List.map cellI r)).run Try.prog (w.alloc (.cells #[.int .i32 0, .int .i32 0, .int .i32 0, .int .i32 0, .int .i32 0, .int .i32 0, .int .i32 0, .int .i32 0, .int .i32 0, .int .i32 0, .int .i32 0, .int .i32 0, .int .i32 0, .int .i32 0, .int .i32 0, .int .i32 0, .int .i32 0, .int .i32 0, .int .i32 0, .int .i32 0, .int .i32 0, .int .i32 0, .int .i32 0, .int .i32 0] 34)) = .ok () (w.alloc (.cells (rowC r) 34)) := by
  have := run_storeCells_new (P := Try.prog) w 34 (rowC zeroL) (rowC r) (by rw [rowC_size hr]; exact infoRow) (by rw [rowC_size hr]; decide) (by simp [rowC, cellI, Value.oneCell'])
  exact this
attribute [-go_sem] loadVar
set_option maxHeartbeats 3200000 in
set_option maxRecDepth 100000 in
/-- number: the map has the rows of the list, each with its place -/
theorem number_any {w : World} {B t m : Nat} {sv : Value} {rows rows0 : List (List Int)} (h0 : w.cell? ⟨t, 0, none⟩ = some sv) (h1 : w.cell? ⟨t, 1, none⟩ = some (.map (some m))) (ht : t < w.heap.size) (own : w.ownsRow B 34 24 sv rows.length (rows.flatMap (fun r => r.map cellI)))
    (ok : ∀ r ∈ rows, RowOk r) (nd : rows.Nodup) (hm : MapR w m rows0) (ne : t ≠ m ∧ ∀ g, sv.ownBlock = some g → g ≠ m) (hlen : rows.length ≤ 1000000000) :
    Calls Try.prog 38 #[.pointer (some ⟨t, 0, none⟩)] w fun e w' => (∃ u, e = .returned u) ∧ MapR w' m rows ∧ Beside m w w' := by
  obtain ⟨a, c, rfl, hl⟩ := own_form own
  obtain ⟨w1, hcl, hm1, ht1⟩ := run_clearMap hm 0
  have s1 := Beside.mapTurned ht1
  have l1 := run_loadMap h1
  have HKEEP : Hid (∀ u, Beside m w u → u.cell? ⟨t, 0, none⟩ = some (.slice a rows.length c) ∧ u.cell? ⟨t, 1, none⟩ = some (.map (some m)) ∧ u.ownsRow B 34 24 (.slice a rows.length c) rows.length (rows.flatMap (fun r => r.map cellI))) := fun u hu => by
    have e := hu.block t ht ne.1
    exact ⟨(World.cell?_of_block (a := ⟨t, 0, none⟩) e).trans h0, (World.cell?_of_block (a := ⟨t, 1, none⟩) e).trans h1, own_of_block own (fun g hg => hu.block g (own.lt g hg).2 (ne.2 g hg))⟩
  have l0 := run_loadRows (HKEEP.out w1 s1).1
  have HI0 : Hid (MapR w1 m (rows.take 0) ∧ Beside m w w1) := ⟨hm1, s1⟩
  have HOK := Lib.hid (And.intro ok nd)
  clear h0 h1 own hm hm1 ht1 s1 ok nd ne
  go_enter Try.func38, Try.ntmps38
  go_wp2
  clear hcl l0 l1
  go_loopw [13] (fun i wr => ∃ k : Nat, k ≤ rows.length ∧ i = .int .i64 k ∧ Hid (MapR wr m (rows.take k) ∧ Beside m w wr)) (fun i _ => rows.length - (intOf i).toNat)
  case atStart => exact ⟨0, Nat.zero_le _, rfl, HI0.out⟩
  case round =>
    obtain ⟨k, hk, rfl, HI⟩ := hrel
    clear HI0
    by_cases hlt : k < rows.length
    · have hlt' : (k : Int) < (rows.length : Int) := by omega
      have hk0 : (0 : Int) ≤ (k : Int) := by omega
      obtain ⟨r, hr⟩ : ∃ r, rows[k]? = some r := ⟨rows[k], List.getElem?_eq_getElem hlt⟩
      have hrm := List.mem_of_getElem? hr
      have hro := HOK.out.1 r hrm
      have hown := (HKEEP.out wr HI.out.2).2.2
      obtain ⟨g, rfl⟩ : ∃ g, a = some ⟨g, 0, none⟩ := by
        obtain ⟨_, h | ⟨g, cap, cur, e, _⟩⟩ := hown
        · omega
        · cases e; exact ⟨g, rfl⟩
      have hld := run_loadAtRow rfl hown (fun r hr => (HOK.out.1 r hr).len) hr
      have hst := store_fresh wr r hro.len
      have hrl : r.length = 24 := hro.len
      have hsA : Beside m w (wr.alloc (.cells (rowC r) 34)) := HI.out.2.trans (Beside.of (belowA _))
      have hmA : MapR (wr.alloc (.cells (rowC r) 34)).drew m (rows.take k) := (HI.out.1.below (belowA _)).below (Below.refl _ _).drew
      have hsD : Beside m w (wr.alloc (.cells (rowC r) 34)).drew := hsA.trans (Beside.of (Below.refl _ _).drew)
      have hnew : r ∉ rows.take k := fun hmem => by
        obtain ⟨j, hj⟩ := List.getElem?_of_mem hmem
        have hjk : j < k := by
          have := (List.getElem?_eq_some_iff.1 hj).1
          simp at this
          omega
        rw [List.getElem?_take, if_pos hjk] at hj
        have := (List.getElem?_inj (by omega) HOK.out.2).1 (hj.trans hr.symm)
        omega
      obtain ⟨w2, hput, hm2, ht2⟩ := hmA.put hro hnew
      have hkl : (rows.take k).length = k := by simp; omega
      rw [hkl] at hput
      have HX : Hid (MapR w2 m (rows.take (k + 1)) ∧ Beside m w w2) := ⟨by rw [List.take_add_one, hr]; exact hm2, hsD.trans (Beside.mapTurned ht2)⟩
      have l1 := run_loadMap (HKEEP.out _ hsD).2.1
      have l2 := run_loadRow ((rowAt_new wr r).below (Below.refl _ _).drew) hro.len
      unfold rowV at hld l2 hput
      clear hsA hmA hsD hnew hm2 ht2 hkl hown HI hrm hr
      go_wp2_with fail
      refine region_once ?_
      apply Exists.intro
      apply Exists.intro
      refine ⟨?_, ?_⟩
      · go_region
        all_goals exact ⟨rfl, rfl, rfl⟩
      go_wp2
      go_roundw
      case rel => exact ⟨k + 1, by omega, by go_num, HX⟩
      case measure => simp [intOf]; omega
    · obtain rfl : k = rows.length := by omega
      have HE : Hid (MapR wr m rows ∧ Beside m w wr) := by
        have := HI.out
        rwa [List.take_of_length_le (Nat.le_refl _)] at this
      clear HI
      go_wp2
      go_end0
      exact ⟨⟨_, rfl⟩, HE.out⟩
end Go.Proofs.Ytekjoccbbamehaa
