import Derived.Test.YtnlcnplihjhlfaaDoorTermRes
import Derived.BigQuiet
import Derived.Lib.SmallJoins
namespace Go.Proofs.YtnlcnplihjhlfaaDoor
open Go.RowKit Go.Maps
set_option linter.unusedVariables false
set_option linter.unusedSimpArgs false
attribute [local go_sem ↓] Go.wp_at_zero Go.wp_at_succ

theorem below_drewN {B : Nat} {a w : World} (h : Below B a w) (n : Nat) : Below B a (w.drewN n) := ⟨h.os, h.tape, h.output, h.size, h.block⟩
set_option maxHeartbeats 1600000 in
theorem put_any (v : Value) (s : List P) (t : T) (w : World) (hl : Lp w v s) (ht : t.wf) : Calls Tryd.prog 10 #[v, .agg #[.string t.v, .int .i8 t.a.k, .int .i64 t.a.n, .string t.a.s]] w fun e w' => e = .returned (.agg #[.string (putT s t).v, .int .i8 (putT s t).a.k, .int .i64 (putT s t).a.n, .string (putT s t).a.s]) ∧ Below w.heap.size w w' := by
  obtain ⟨a, c, rfl, hc1, hc2, hat⟩ := hl.form
  have hmax : s.length ≤ maxLen := Nat.le_trans hc1 hc2
  unfold maxLen at hmax
  have HAT : Hid _ := hat
  clear hat hl
  obtain ⟨r, HR⟩ : ∃ r, Hid (putT s t = r) := ⟨_, rfl⟩
  rw [HR.out]
  have b0 := ((Below.refl w.heap.size w).alloc (Nat.le_refl _) (.cells #[.string t.v, .int .i8 t.a.k, .int .i64 t.a.n, .string t.a.s] 37)).alloc (by simp) (.cells #[.string ⟨#[]⟩, .int .i8 0, .int .i64 0, .string ⟨#[]⟩] 37)
  have HO0 : Hid (Own4 ((w.alloc (.cells #[.string t.v, .int .i8 t.a.k, .int .i64 t.a.n, .string t.a.s] 37)).alloc (.cells #[.string ⟨#[]⟩, .int .i8 0, .int .i64 0, .string ⟨#[]⟩] 37)) (w.heap.size + 1)) := by
    have := own4 (Below.refl _ ((w.alloc (.cells #[.string t.v, .int .i8 t.a.k, .int .i64 t.a.n, .string t.a.s] 37)).alloc (.cells #[.string ⟨#[]⟩, .int .i8 0, .int .i64 0, .string ⟨#[]⟩] 37)))
    show Own4 _ _
    simpa using this
  have HT0 : Hid (TAt ((w.alloc (.cells #[.string t.v, .int .i8 t.a.k, .int .i64 t.a.n, .string t.a.s] 37)).alloc (.cells #[.string ⟨#[]⟩, .int .i8 0, .int .i64 0, .string ⟨#[]⟩] 37)) w.heap.size 0 t) := by
    refine ⟨?_, ?_, ?_, ?_⟩ <;> go_simp
  go_enter Tryd.func10, Tryd.ntmps10
  go_upto_region 1 with fail
  generalize (w.alloc (.cells #[.string t.v, .int .i8 t.a.k, .int .i64 t.a.n, .string t.a.s] 37)).alloc (.cells #[.string ⟨#[]⟩, .int .i8 0, .int .i64 0, .string ⟨#[]⟩] 37) = W at b0 HO0 HT0 ⊢
  have HB : Hid (Below w.heap.size w W) := b0
  have hWb : w.heap.size + 1 < W.heap.size := HO0.out.2.2.2.2.2
  clear b0
  by_cases e0 : t.v = noS
  · have he : t.v.toList.isEmpty = true := by rw [e0, ByteArray.toList_eq]; rfl
    have HV : Hid (t = r) := by show t = r; rw [← HR.out]; unfold putT; rw [if_pos (.inl e0)]
    obtain ⟨t0, t1, t2, t3⟩ := HT0.out
    simp only [Nat.zero_add] at t1 t2 t3
    obtain ⟨⟨y0, y1, y2, y3, o0, o1, o2, o3⟩, f0, f1, f2, f3, _⟩ := HO0.out
    clear e0
    go_wp2
    refine term_done Tryd.results10 (b := w.heap.size + 1) HO0.out (by omega) HB.out ?_ ?_
    · rfl
    · rw [HV.out]
  · have he := some_iff t.v e0
    by_cases eb : t.v = blankS
    · have hB : (t.v.toList == [95]) = true := by rw [eb, ByteArray.toList_eq]; rfl
      have HV : Hid (t = r) := by show t = r; rw [← HR.out]; unfold putT; rw [if_pos (.inr eb)]
      obtain ⟨t0, t1, t2, t3⟩ := HT0.out
      simp only [Nat.zero_add] at t1 t2 t3
      obtain ⟨⟨y0, y1, y2, y3, o0, o1, o2, o3⟩, f0, f1, f2, f3, _⟩ := HO0.out
      clear e0 eb
      go_wp2
      refine term_done Tryd.results10 (b := w.heap.size + 1) HO0.out (by omega) HB.out ?_ ?_
      · rfl
      · rw [HV.out]
    · have hB := blank_iff eb
      have HV0 : Hid (res s t = r) := by show _ = r; rw [← HR.out]; unfold putT; rw [if_neg (fun h => h.elim e0 eb)]
      have t0 := HT0.out.c0
      clear e0 eb
      go_wp2
      clear t0
      go_loopw [5] (fun i wr => ∃ k : Nat, k ≤ s.length ∧ i = .int .i64 k ∧ Below W.heap.size W wr ∧ Hid (res (s.drop k) t = r)) (fun i _ => s.length - (intOf i).toNat)
      case atStart => exact ⟨0, Nat.zero_le _, rfl, Below.refl _ _, HV0⟩
      case round =>
        obtain ⟨k, hk, rfl, bel, HS⟩ := hrel
        have hbf : Hid (Below w.heap.size w wr) := HB.out.trans (bel.mono HB.out.size)
        by_cases hlt : k < s.length
        · have hlt' : (k : Int) < (s.length : Int) := by omega
          have hge : (0 : Int) ≤ (k : Int) := by omega
          obtain ⟨g, off, rfl, hg, hT⟩ := HAT.out (by omega)
          have HX : Hid (∀ u, Below w.heap.size w u → PAt u g (off + k * 5) (atP s k)) := fun u hu => (hT k hlt).below hu hg
          have HD : Hid (res (s.drop k) t = if (atP s k).v = t.v then (atP s k).t else res (s.drop (k + 1)) t) := res_drop hlt
          have hE := eq_bytes (atP s k).v t.v
          generalize atP s k = p at HX HD hE
          have t0 := (HT0.out.below bel (by omega)).c0
          have x0 := (HX.out wr hbf.out).c0
          clear hT
          by_cases e : p.v = t.v
          · rw [decide_eq_true e] at hE
            have HV : Hid (p.t = r) := by show p.t = r; rw [← HS.out, HD.out, if_pos e]
            clear HS HD e
            go_wp2_with fail
            go_quiet (fail)
            have bel3 : Below W.heap.size W (wr.drewN nq) := below_drewN bel nq
            have bw3 : Below w.heap.size w (wr.drewN nq) := below_drewN hbf.out nq
            generalize wr.drewN nq = W3 at bel3 bw3 ⊢
            clear x0 t0 hE
            obtain ⟨x0, x1, x2, x3, x4⟩ := HX.out W3 bw3
            have HO3 : Hid _ := Own4.below HO0.out bel3
            obtain ⟨⟨y0, y1, y2, y3, o0, o1, o2, o3⟩, f0, f1, f2, f3, _⟩ := HO3.out
            go_wp2
            refine term_done Tryd.results10 (b := w.heap.size + 1) HO3.out (by omega) bw3 ?_ ?_
            · rfl
            · rw [HV.out]
          · rw [decide_eq_false e] at hE
            have HV : Hid (res (s.drop (k + 1)) t = r) := by show _ = r; rw [← HS.out, HD.out, if_neg e]
            clear HS HD e
            go_wp2_with fail
            go_quiet (fail)
            go_wp2
            go_roundw
            case rel => exact ⟨k + 1, by omega, by go_num, below_drewN bel _, HV⟩
            case measure => simp [intOf]; omega
        · obtain rfl : k = s.length := by omega
          have HV : Hid (t = r) := by show t = r; rw [← HS.out, List.drop_length]; rfl
          clear HS
          obtain ⟨t0, t1, t2, t3⟩ := HT0.out.below bel (by omega)
          simp only [Nat.zero_add] at t1 t2 t3
          have HO3 : Hid _ := Own4.below HO0.out bel
          obtain ⟨⟨y0, y1, y2, y3, o0, o1, o2, o3⟩, f0, f1, f2, f3, _⟩ := HO3.out
          go_wp2
          refine term_done Tryd.results10 (b := w.heap.size + 1) HO3.out (by omega) hbf.out ?_ ?_
          · rfl
          · rw [HV.out]
def turnP (n : ByteArray) (t : T) (p : P) : P := if p.t.v = n then ⟨p.v, t⟩ else p
theorem bindP_turn (s : List P) (n : ByteArray) (t : T) : bindP s n t = s.map (turnP n t) ++ [⟨n, t⟩] := rfl
theorem pcells_take {s : List P} {f : P → P} {k : Nat} (h : k < s.length) : ((s.take (k + 1)).map f).flatMap P.cells = ((s.take k).map f).flatMap P.cells ++ P.cells (f (atP s k)) := by
  rw [List.take_succ_eq_append_getElem h, List.map_append, List.flatMap_append, atP_eq h]
  simp
set_option maxHeartbeats 3200000 in
theorem takes_any (v : Value) (s : List P) (n : ByteArray) (t : T) (w : World) (h24 : s.length ≤ 24) (hl : Lp w v s) : Calls Tryd.prog 11 #[v, .string n, .agg #[.string t.v, .int .i8 t.a.k, .int .i64 t.a.n, .string t.a.s]] w fun e w' => ∃ sv, e = .returned sv ∧ w'.ownsRow w.heap.size 42 5 sv (bindP s n t).length ((bindP s n t).flatMap P.cells) ∧ Below w.heap.size w w' := by
  obtain ⟨i0, hi0, hz0, hz1, hz2⟩ := info_parts infoP
  obtain ⟨a, c, rfl, hc1, hc2, hat⟩ := hl.form
  have HAT : Hid _ := hat
  have HB0 : Hid (Below w.heap.size w (w.alloc (.cells #[.string t.v, .int .i8 t.a.k, .int .i64 t.a.n, .string t.a.s] 37))) := (Below.refl _ _).alloc (Nat.le_refl _) _
  have HT0 : Hid (TAt (w.alloc (.cells #[.string t.v, .int .i8 t.a.k, .int .i64 t.a.n, .string t.a.s] 37)) w.heap.size 0 t) := by refine ⟨?_, ?_, ?_, ?_⟩ <;> go_simp
  clear hat hl hc1 hc2
  go_enter Tryd.func11, Tryd.ntmps11
  go_wp2
  generalize w.alloc (.cells #[.string t.v, .int .i8 t.a.k, .int .i64 t.a.n, .string t.a.s] 37) = W at HB0 HT0 ⊢
  have hzW : w.heap.size < W.heap.size := World.block_lt_of_cell? _ _ HT0.out.c0
  go_loopw [7, 8] (fun sv i wr => ∃ k : Nat, k ≤ s.length ∧ i = .int .i64 k ∧ Below W.heap.size W wr ∧ wr.ownsRow W.heap.size 42 5 sv k (((s.take k).map (turnP n t)).flatMap P.cells)) (fun _ i _ => s.length - (intOf i).toNat)
  case atStart => exact ⟨0, Nat.zero_le _, rfl, Below.refl _ _, World.ownsRow_nil _ _ _ _⟩
  case round =>
    obtain ⟨k, hk, rfl, bel, ho⟩ := hrel
    have HO : Hid (wr.ownsRow W.heap.size 42 5 _ k (((s.take k).map (turnP n t)).flatMap P.cells)) := ho
    have HBEL : Hid (Below W.heap.size W wr) := bel
    have hbf : Hid (Below w.heap.size w wr) := HB0.out.trans (bel.mono HB0.out.size)
    have HTr : Hid (TAt wr w.heap.size 0 t) := HT0.out.below bel hzW
    have hzr : w.heap.size < wr.heap.size := Nat.lt_of_lt_of_le hzW bel.size
    have hzR : W.heap.size ≤ wr.heap.size := bel.size
    obtain ⟨ao, co, rfl, hlo⟩ := own_form ho
    clear ho bel
    by_cases hlt : k < s.length
    · have hlt' : (k : Int) < (s.length : Int) := by omega
      have hge : (0 : Int) ≤ (k : Int) := by omega
      obtain ⟨g, off, rfl, hg, hT⟩ := HAT.out (by omega)
      have HX : Hid (∀ u, Below w.heap.size w u → PAt u g (off + k * 5) (atP s k)) := fun u hu => (hT k hlt).below hu hg
      have HTK : Hid _ := pcells_take (f := turnP n t) hlt
      obtain ⟨p, hp⟩ : ∃ p, atP s k = p := ⟨_, rfl⟩
      rw [hp] at HX HTK
      obtain ⟨x0, x1, x2, x3, x4⟩ := HX.out wr hbf.out
      have hE := eq_bytes p.t.v n
      clear hT hp
      have HB1 : Hid (Below wr.heap.size wr (wr.alloc (.cells #[.string p.t.v, .int .i8 p.t.a.k, .int .i64 p.t.a.n, .string p.t.a.s] 37))) := (Below.refl _ _).alloc (Nat.le_refl _) _
      have HT1 : Hid (TAt (wr.alloc (.cells #[.string p.t.v, .int .i8 p.t.a.k, .int .i64 p.t.a.n, .string p.t.a.s] 37)) wr.heap.size 0 p.t) := by refine ⟨?_, ?_, ?_, ?_⟩ <;> go_simp
      have HO1 : Hid (Own4 (wr.alloc (.cells #[.string p.t.v, .int .i8 p.t.a.k, .int .i64 p.t.a.n, .string p.t.a.s] 37)) wr.heap.size) := own4 (Below.refl _ _)
      have HTt : Hid (TAt (wr.alloc (.cells #[.string p.t.v, .int .i8 p.t.a.k, .int .i64 p.t.a.n, .string p.t.a.s] 37)) w.heap.size 0 t) := HTr.out.below HB1.out hzr
      go_upto_region 6 with fail
      generalize wr.alloc (.cells #[.string p.t.v, .int .i8 p.t.a.k, .int .i64 p.t.a.n, .string p.t.a.s] 37) = W1 at HB1 HT1 HO1 HTt ⊢
      clear x0 x1 x2 x3 x4
      have FIN : Hid (∀ (W4 : World) (y : T), turnP n t p = ⟨p.v, y⟩ → Below wr.heap.size wr W4 → ((s.take (k + 1)).map (turnP n t)).flatMap P.cells = ((s.take k).map (turnP n t)).flatMap P.cells ++ [.string p.v, .string y.v, .int .i8 y.a.k, .int .i64 y.a.n, .string y.a.s]) := fun W4 y h _ => by rw [HTK.out, h]; rfl
      by_cases e : p.t.v = n
      · rw [decide_eq_true e] at hE
        have HTU : Hid (turnP n t p = ⟨p.v, t⟩) := by show _ = _; unfold turnP; rw [if_pos e]
        obtain ⟨q0, q1, q2, q3⟩ := HT1.out
        obtain ⟨t0, t1, t2, t3⟩ := HTt.out
        simp only [Nat.zero_add] at t1 t2 t3 q1 q2 q3
        obtain ⟨-, f0, f1, f2, f3, _⟩ := HO1.out
        have HT4 : Hid (TAt ((((W1.setCell ⟨wr.heap.size, 0, none⟩ (.string t.v)).setCell ⟨wr.heap.size, 1, none⟩ (.int .i8 t.a.k)).setCell ⟨wr.heap.size, 2, none⟩ (.int .i64 t.a.n)).setCell ⟨wr.heap.size, 3, none⟩ (.string t.a.s)) wr.heap.size 0 t) := by refine ⟨?_, ?_, ?_, ?_⟩ <;> go_simp
        have HB4 : Hid (Below wr.heap.size wr ((((W1.setCell ⟨wr.heap.size, 0, none⟩ (.string t.v)).setCell ⟨wr.heap.size, 1, none⟩ (.int .i8 t.a.k)).setCell ⟨wr.heap.size, 2, none⟩ (.int .i64 t.a.n)).setCell ⟨wr.heap.size, 3, none⟩ (.string t.a.s))) := (((HB1.out.setCell (p := ⟨wr.heap.size, 0, none⟩) (Nat.le_refl _) _).setCell (p := ⟨wr.heap.size, 1, none⟩) (Nat.le_refl _) _).setCell (p := ⟨wr.heap.size, 2, none⟩) (Nat.le_refl _) _).setCell (p := ⟨wr.heap.size, 3, none⟩) (Nat.le_refl _) _
        clear e
        go_upto_region 8 with fail
        generalize ((((W1.setCell ⟨wr.heap.size, 0, none⟩ (.string t.v)).setCell ⟨wr.heap.size, 1, none⟩ (.int .i8 t.a.k)).setCell ⟨wr.heap.size, 2, none⟩ (.int .i64 t.a.n)).setCell ⟨wr.heap.size, 3, none⟩ (.string t.a.s)) = W4 at HT4 HB4 ⊢
        clear q0 q1 q2 q3 t0 t1 t2 t3 f0 f1 f2 f3 hE
        have hb4 : Below wr.heap.size wr W4.drew := HB4.out.drew
        have b24 : Below W.heap.size W W4.drew := HBEL.out.trans (hb4.mono hzR)
        obtain ⟨z0, z1, z2, z3⟩ := HT4.out.below (Below.refl _ _).drew (World.block_lt_of_cell? _ _ HT4.out.c0)
        simp only [Nat.zero_add] at z1 z2 z3
        obtain ⟨x0, -, -, -, -⟩ := HX.out W4.drew (hbf.out.trans (hb4.mono hbf.out.size))
        have HEQ : Hid _ := FIN.out W4 t HTU.out HB4.out
        have HOWN : Hid ((W4.drew.alloc (.cells #[.string p.v, .string t.v, .int .i8 t.a.k, .int .i64 t.a.n, .string t.a.s] 42)).ownsRow W.heap.size 42 5 (.slice ao k co) k (((s.take k).map (turnP n t)).flatMap P.cells)) := own_below HO.out (hb4.alloc hb4.size _)
        have HC : Hid (∀ (j : Nat) (u : Value), ([.string p.v, .string t.v, .int .i8 t.a.k, .int .i64 t.a.n, .string t.a.s] : List Value)[j]? = some u → (W4.drew.alloc (.cells #[.string p.v, .string t.v, .int .i8 t.a.k, .int .i64 t.a.n, .string t.a.s] 42)).cell? ((⟨W4.heap.size, 0, none⟩ : Addr).add j) = some u) := lit_news W4.drew #[.string p.v, .string t.v, .int .i8 t.a.k, .int .i64 t.a.n, .string t.a.s] _
        have HSZ : Hid (W.heap.size ≤ (W4.drew.alloc (.cells #[.string p.v, .string t.v, .int .i8 t.a.k, .int .i64 t.a.n, .string t.a.s] 42)).heap.size) := by show _ ≤ _; have := b24.size; simp at this ⊢; omega
        have HFIN : Hid (∀ {w2 : World}, (W4.drew.alloc (.cells #[.string p.v, .string t.v, .int .i8 t.a.k, .int .i64 t.a.n, .string t.a.s] 42)).grownBy w2 (Value.slice ao k co).ownBlock → Below W.heap.size W w2) := fun hg => (b24.alloc b24.size _).grown hg (by have := b24.size; simp at this ⊢; omega) (fun j hj => (HO.out.lt j hj).1)
        clear hb4 b24
        go_region_law (
          refine step_append_own rfl (.tmp 26) (.tmp 34) 25 rfl 42 i0 _ 5 64 Tryd.underlying25 hi0 hz0 hz1 hz2 rfl (by decide) W.heap.size (.slice ao k co) k _ (by simp [Act.eval, Act.put]) HOWN.out ⟨W4.heap.size, 0, none⟩ 1 1 [.string p.v, .string t.v, .int .i8 t.a.k, .int .i64 t.a.n, .string t.a.s] (by simp [Act.eval, Act.put]) rfl HC.out (by simp [Value.oneCell']) (by unfold maxLen; omega) (by omega) HSZ.out ?_
          intro v' w2 hown' hgrow hloc)
        all_goals
          go_wp2
          go_roundw
          case rel => exact ⟨k + 1, by omega, by go_num, HFIN.out hgrow, by rw [HEQ.out]; exact hown'⟩
          case measure => simp [intOf]; omega
      · rw [decide_eq_false e] at hE
        have HTU : Hid (turnP n t p = ⟨p.v, p.t⟩) := by show _ = _; unfold turnP; rw [if_neg e]
        have q0 := HT1.out.c0
        have HT4 : Hid (TAt W1 wr.heap.size 0 p.t) := HT1.out
        have HB4 : Hid (Below wr.heap.size wr W1) := HB1.out
        clear e
        go_upto_region 8 with fail
        clear q0 hE
        have hb4 : Below wr.heap.size wr W1.drew := HB4.out.drew
        have b24 : Below W.heap.size W W1.drew := HBEL.out.trans (hb4.mono hzR)
        obtain ⟨z0, z1, z2, z3⟩ := HT4.out.below (Below.refl _ _).drew (World.block_lt_of_cell? _ _ HT4.out.c0)
        simp only [Nat.zero_add] at z1 z2 z3
        obtain ⟨x0, -, -, -, -⟩ := HX.out W1.drew (hbf.out.trans (hb4.mono hbf.out.size))
        have HEQ : Hid _ := FIN.out W1 p.t HTU.out HB4.out
        have HOWN : Hid ((W1.drew.alloc (.cells #[.string p.v, .string p.t.v, .int .i8 p.t.a.k, .int .i64 p.t.a.n, .string p.t.a.s] 42)).ownsRow W.heap.size 42 5 (.slice ao k co) k (((s.take k).map (turnP n t)).flatMap P.cells)) := own_below HO.out (hb4.alloc hb4.size _)
        have HC : Hid (∀ (j : Nat) (u : Value), ([.string p.v, .string p.t.v, .int .i8 p.t.a.k, .int .i64 p.t.a.n, .string p.t.a.s] : List Value)[j]? = some u → (W1.drew.alloc (.cells #[.string p.v, .string p.t.v, .int .i8 p.t.a.k, .int .i64 p.t.a.n, .string p.t.a.s] 42)).cell? ((⟨W1.heap.size, 0, none⟩ : Addr).add j) = some u) := lit_news W1.drew #[.string p.v, .string p.t.v, .int .i8 p.t.a.k, .int .i64 p.t.a.n, .string p.t.a.s] _
        have HSZ : Hid (W.heap.size ≤ (W1.drew.alloc (.cells #[.string p.v, .string p.t.v, .int .i8 p.t.a.k, .int .i64 p.t.a.n, .string p.t.a.s] 42)).heap.size) := by show _ ≤ _; have := b24.size; simp at this ⊢; omega
        have HFIN : Hid (∀ {w2 : World}, (W1.drew.alloc (.cells #[.string p.v, .string p.t.v, .int .i8 p.t.a.k, .int .i64 p.t.a.n, .string p.t.a.s] 42)).grownBy w2 (Value.slice ao k co).ownBlock → Below W.heap.size W w2) := fun hg => (b24.alloc b24.size _).grown hg (by have := b24.size; simp at this ⊢; omega) (fun j hj => (HO.out.lt j hj).1)
        clear hb4 b24
        go_region_law (
          refine step_append_own rfl (.tmp 26) (.tmp 34) 25 rfl 42 i0 _ 5 64 Tryd.underlying25 hi0 hz0 hz1 hz2 rfl (by decide) W.heap.size (.slice ao k co) k _ (by simp [Act.eval, Act.put]) HOWN.out ⟨W1.heap.size, 0, none⟩ 1 1 [.string p.v, .string p.t.v, .int .i8 p.t.a.k, .int .i64 p.t.a.n, .string p.t.a.s] (by simp [Act.eval, Act.put]) rfl HC.out (by simp [Value.oneCell']) (by unfold maxLen; omega) (by omega) HSZ.out ?_
          intro v' w2 hown' hgrow hloc)
        all_goals
          go_wp2
          go_roundw
          case rel => exact ⟨k + 1, by omega, by go_num, HFIN.out hgrow, by rw [HEQ.out]; exact hown'⟩
          case measure => simp [intOf]; omega
    · obtain rfl : k = s.length := by omega
      rw [List.take_length] at HO
      obtain ⟨t0, t1, t2, t3⟩ := HTr.out
      simp only [Nat.zero_add] at t1 t2 t3
      go_wp2_with (at_builtin; refine wpList_append_own_at _ rfl _ _ 25 rfl W.heap.size 42 i0 _ 5 64 Tryd.underlying25 hi0 hz0 hz1 hz2 rfl (by decide) _ _ _ rfl (own_below HO.out ((Below.refl _ _).alloc (Nat.le_refl _) _)) ⟨_, 0, none⟩ 1 1 [.string n, .string t.v, .int .i8 t.a.k, .int .i64 t.a.n, .string t.a.s] rfl rfl (lit_news _ #[.string n, .string t.v, .int .i8 t.a.k, .int .i64 t.a.n, .string t.a.s] _) (by simp [Value.oneCell']) (by unfold maxLen; omega) (by omega) (by simp; omega) ?_; intro v' w2 hown' hgrow hnil hloc)
      go_ret
      refine ⟨_, rfl, ?_, ?_⟩
      · have h1 := Go.Joins.ownsRow_le hown' HB0.out.size
        rw [bindP_turn, List.flatMap_append, List.length_append, List.length_map]
        exact h1
      · have h2 := (HBEL.out.alloc HBEL.out.size _).grown hgrow (by simp; omega) (fun j hj => (HO.out.lt j hj).1)
        exact HB0.out.trans (h2.mono HB0.out.size)
theorem run_neqP_same (x : P) (u : World) : (binOp .neq 42 (.agg #[.string x.v, .string x.t.v, .int .i8 x.t.a.k, .int .i64 x.t.a.n, .string x.t.a.s]) (.agg #[.string x.v, .string x.t.v, .int .i8 x.t.a.k, .int .i64 x.t.a.n, .string x.t.a.s])).run Tryd.prog u = .ok (.bool false) u := by
  go_simp
set_option maxHeartbeats 3200000 in
theorem samePairs_same (v v' : Value) (l : List P) (w : World) (h1 : Lp w v l) (h2 : Lp w v' l) :
    Calls Tryd.prog 7 #[v, v'] w fun r w' => r = .returned (.bool true) ∧ Below w.heap.size w w' := by
  obtain ⟨a, c, rfl, hc1, hc2, hk⟩ := h1.form
  obtain ⟨a', c', rfl, hc1', hc2', hk'⟩ := h2.form
  have hmax : l.length ≤ maxLen := Nat.le_trans hc1 hc2
  unfold maxLen at hmax
  have HK : Hid _ := hk
  have HK' : Hid _ := hk'
  clear hk hk' h1 h2 hc2 hc2'
  go_enter Tryd.func7, Tryd.ntmps7
  go_wp2
  go_loopw [5] (fun i wr => ∃ k : Nat, k ≤ l.length ∧ i = .int .i64 k ∧ Below w.heap.size w wr) (fun i _ => l.length - (intOf i).toNat)
  case atStart => exact ⟨0, Nat.zero_le _, rfl, Below.refl _ _⟩
  case round =>
    obtain ⟨k, hk, rfl, bel⟩ := hrel
    by_cases hlt : k < l.length
    · have hlt' : (k : Int) < (l.length : Int) := by omega
      obtain ⟨g, off, rfl, hg, hKS⟩ := HK.out (by omega)
      obtain ⟨g', off', rfl, hg', hKS'⟩ := HK'.out (by omega)
      obtain ⟨y0, y1, y2, y3, y4⟩ := (hKS k hlt).below bel hg
      obtain ⟨z0, z1, z2, z3, z4⟩ := (hKS' k hlt).below bel hg'
      generalize atP l k = x at y0 y1 y2 y3 y4 z0 z1 z2 z3 z4
      have hQ := run_neqP_same x
      clear hKS hKS'
      go_wp2_with fail
      go_quiet (fail)
      go_wp2
      go_roundw
      case rel => exact ⟨k + 1, by omega, by go_num, below_drewN bel _⟩
      case measure => simp [intOf]; omega
    · obtain rfl : k = l.length := by omega
      go_wp2
      go_ret
      exact ⟨rfl, bel⟩
end Go.Proofs.YtnlcnplihjhlfaaDoor
