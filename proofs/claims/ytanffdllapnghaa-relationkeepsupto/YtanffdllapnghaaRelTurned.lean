import Derived.Test.YtanffdllapnghaaRelTurnA
import Derived.OwnWalk
namespace Go.Proofs.Ytanffdllapnghaa
open Go.RowKit Go.Maps
set_option linter.unusedVariables false
set_option linter.unusedSimpArgs false
attribute [local go_sem ↓] Go.wp_at_zero Go.wp_at_succ

/-- a turn's row, loaded -/
theorem run_loadTurn {w : World} {g off : Nat} {r : List Int} (hr : r.length = 24) (h : w.rangeAt g off (r.map cellI)) : (loadVar 25 ⟨g, off, none⟩).run Try.prog w = .ok (rowV r) w :=
  run_loadVar_mid w g off 25 (r.map cellI) _ (fun j v hj => h j v hj) Try.underlying25 rfl (by rw [List.length_map, hr]; exact infoRow)
theorem rel_ptr (t : Nat) (w : World) : (binOp .eql 27 (.pointer (some ⟨t, 0, none⟩)) (.pointer none)).run Try.prog w = .ok (.bool false) w := by kernel_rfl
attribute [-go_sem] loadVar Builtin.append_
set_option maxHeartbeats 6400000 in
set_option maxRecDepth 100000 in
theorem turned_any (ar : Int) (h0 : 0 ≤ ar) (h24 : ar ≤ 24) (v : Value) (ts : List Tn) (w : World) (hl : Lt w v ts) (hn : ts.length < 1000000000) :
    Calls Try.prog 5 #[.int .i64 ar, v] w fun e w' => ∃ t m sv o, e = .returned (.tuple #[.pointer (some ⟨t, 0, none⟩), o, .bool true]) ∧ Ts w w' t m sv o (turnL ar ts).1 (turnL ar ts).1 ar (turnL ar ts).2 := by
  have HL := Lib.hid hl
  obtain ⟨_, la, lc, rfl, _⟩ := hl
  have HNEW := Lib.hid (new_any ar h0 h24 w)
  clear h0 h24
  go_enter Try.func5, Try.ntmps5
  go_wp2_with fail
  refine HNEW.out.mono ?_
  rintro e w1 ⟨t, m, rfl, hrel, hb⟩
  have HI0 : Hid (Ts w w1 t m (.slice none 0 0) (.slice none 0 0) [] [] ar 0) := ⟨hrel, ⟨by simp [flatR, maxLen], .inl ⟨rfl, rfl⟩⟩, fun g hg => (by cases hg), hb⟩
  have hp := rel_ptr t w1
  clear hrel hb HNEW
  go_wp2
  clear hp
  go_loopw [9, 10, 11] (fun ov nv i wr => ∃ (k : Nat) (sv : Value) (ao : Option Addr) (co : Nat), k ≤ ts.length ∧ i = .int .i64 k ∧ ov = .slice ao (turnL ar (ts.take k)).1.length co ∧ nv = .int .i64 ((((turnL ar (ts.take k)).1.length + (turnL ar (ts.take k)).2 : Nat)) : Int) ∧ Hid (Ts w wr t m sv (.slice ao (turnL ar (ts.take k)).1.length co) (turnL ar (ts.take k)).1 (turnL ar (ts.take k)).1 ar (turnL ar (ts.take k)).2)) (fun _ _ i _ => ts.length - (intOf i).toNat)
  case atStart => exact ⟨0, _, none, 0, Nat.zero_le _, rfl, rfl, rfl, HI0.out⟩
  case round =>
    obtain ⟨k, sv, ao, co, hk, rfl, rfl, rfl, HT⟩ := hrel
    clear HI0
    by_cases hlt : k < ts.length
    · have hlt' : (k : Int) < (ts.length : Int) := by omega
      have hk0 : (0 : Int) ≤ (k : Int) := by omega
      obtain ⟨⟨off, r⟩, hx⟩ : ∃ x, ts[k]? = some x := ⟨ts[k], List.getElem?_eq_getElem hlt⟩
      have HST := Lib.hid (turnL_take (ar := ar) hx)
      have HLEN := Lib.hid (turnL_len ar ts k hk)
      generalize turnL ar (ts.take k) = S at HST HLEN HT ⊢
      obtain ⟨rows, gn⟩ := S
      have HRO : Hid (RowOk r) := HL.out.1 _ (List.mem_of_getElem? hx)
      obtain ⟨gl, ofl, hla, HG⟩ : ∃ gl ofl, la = some ⟨gl, ofl, none⟩ ∧ Hid (gl < w.heap.size ∧ w.cell? ⟨gl, ofl + k * 25, none⟩ = some (.bool off) ∧ w.rangeAt gl (ofl + k * 25 + 1) (r.map cellI)) := by
        obtain ⟨_, a', c', e, h2⟩ := HL.out
        cases e
        obtain ⟨g, off', rfl, h3⟩ := h2 k _ hx
        exact ⟨g, off', rfl, h3⟩
      subst hla
      have HLD : Hid (∀ u, Below w.heap.size w u → (loadVar 4 ⟨gl, ofl + k * 25, none⟩).run Try.prog u = .ok (.bool off) u ∧ (loadVar 25 ⟨gl, ofl + k * 25 + 1, none⟩).run Try.prog u = .ok (rowV r) u) := fun u hu =>
        ⟨run_loadBoolB ((hu.cell (p := ⟨gl, _, none⟩) HG.out.1).trans HG.out.2.1), run_loadTurn HRO.out.len (fun j v hv => (hu.cell (p := ⟨gl, ofl + k * 25 + 1 + j, none⟩) HG.out.1).trans (HG.out.2.2 j v hv))⟩
      clear HG hx
      simp only at HT HLEN HST ⊢
      have hcp : rows.length ≤ co := by
        obtain ⟨_, ⟨e, hz⟩ | ⟨g, cap, cur, e, _, _, hnc, _⟩⟩ := HT.out.own
        · have h1 := (Value.slice.inj e).2.1; omega
        · cases e; exact hnc
      have HCP := Lib.hid hcp
      clear hcp
      have hrl : rows.length < 1000000000 := by have := HLEN.out.1; omega
      have hgl : gn < 1000000000 := by have := HLEN.out.2; omega
      go_wp2
      go_loopw [12, 13] (fun av j wi => ∃ q : Nat, q ≤ rows.length ∧ j = .int .i64 q ∧ av = .int .i64 (if r ∈ rows.take q then (rows.idxOf r : Int) else -1) ∧ Hid (Ts w wi t m sv (.slice ao rows.length co) rows rows ar gn)) (fun _ j _ => rows.length - (intOf j).toNat)
      case atStart => exact ⟨0, Nat.zero_le _, rfl, by simp, HT⟩
      case round =>
        obtain ⟨q, hq, rfl, rfl, HI⟩ := hrel
        clear HT
        by_cases hqt : q < rows.length
        · have hqt' : (q : Int) < (rows.length : Int) := by omega
          have hq0 : (0 : Int) ≤ (q : Int) := by omega
          obtain ⟨y, hy⟩ : ∃ y, rows[q]? = some y := ⟨rows[q], List.getElem?_eq_getElem hqt⟩
          have hyo : RowOk y := HI.out.rel.ok y (List.mem_of_getElem? hy)
          obtain ⟨g, rfl⟩ : ∃ g, ao = some ⟨g, 0, none⟩ := by
            obtain ⟨_, h | ⟨g, cap, cur, e, _⟩⟩ := HI.out.own
            · omega
            · cases e; exact ⟨g, rfl⟩
          have HI2 := Lib.hid (HI.out.keep (Below.refl _ _).drew)
          have hl1 := run_loadAtRow rfl HI2.out.own (fun x hx => (HI2.out.rel.ok x hx).len) hy
          have hl2 := (HLD.out _ HI2.out.bel).2
          have heq := fun u => run_eqRow hyo HRO.out u
          have HPS := Lib.hid (place_step (r := r) HI.out.rel.nd hy)
          generalize (if r ∈ rows.take q then (rows.idxOf r : Int) else -1) = pq at HPS ⊢
          unfold rowV at hl1 hl2 heq
          clear hy hyo HI
          by_cases e : y = r
          · have heq' : ∀ u : World, (binOp .eql 25 (.agg (List.map cellI y).toArray) (.agg (List.map cellI r).toArray)).run Try.prog u = .ok (.bool true) u := fun u => by rw [heq u, decide_eq_true e]
            rw [if_pos e] at HPS
            clear heq e
            go_wp2_with fail
            refine region_once ?_
            apply Exists.intro
            apply Exists.intro
            refine ⟨?_, ?_⟩
            · go_region
              all_goals exact ⟨rfl, rfl, rfl⟩
            go_wp2
            go_roundw
            case rel => exact ⟨q + 1, by omega, by go_num, by rw [HPS.out], HI2⟩
            case measure => simp [intOf]; omega
          · have heq' : ∀ u : World, (binOp .eql 25 (.agg (List.map cellI y).toArray) (.agg (List.map cellI r).toArray)).run Try.prog u = .ok (.bool false) u := fun u => by rw [heq u, decide_eq_false e]
            rw [if_neg e] at HPS
            clear heq e
            go_wp2_with fail
            refine region_once ?_
            apply Exists.intro
            apply Exists.intro
            refine ⟨?_, ?_⟩
            · go_region
              all_goals exact ⟨rfl, rfl, rfl⟩
            go_wp2
            go_roundw
            case rel => exact ⟨q + 1, by omega, by go_num, by rw [HPS.out], HI2⟩
            case measure => simp [intOf]; omega
        · obtain rfl : q = rows.length := by omega
          rw [List.take_length]
          obtain ⟨lb, lr⟩ := HLD.out _ HI.out.bel
          unfold rowV at lr
          cases off with
          | true =>
            by_cases hm : r ∈ rows
            · rw [if_pos hm]
              have hi := idxOf_at hm
              have HSE : Hid (turnL ar (ts.take (k + 1)) = (rows.eraseIdx (rows.idxOf r), gn + 1)) := by
                show _ = _
                rw [HST.out]
                simp [stepT, hm]
              generalize rows.idxOf r = i at hi HSE ⊢
              have hil : i < rows.length := (List.getElem?_eq_some_iff.1 hi).1
              have HRM := Lib.hid (remove_yes HI.out.rel HI.out.bel.size (by omega) r HRO.out hi (by rw [IntKind.wrap_i64]; omega))
              unfold rowV at HRM
              have HRI := Lib.hid hi
              have HOK : Hid (∀ x ∈ rows, x.length = 24) := fun x hx => (HI.out.rel.ok x hx).len
              obtain ⟨g, rfl⟩ : ∃ g, ao = some ⟨g, 0, none⟩ := by
                obtain ⟨_, h | ⟨g, cap, cur, e, _⟩⟩ := HI.out.own
                · omega
                · cases e; exact ⟨g, rfl⟩
              have j0 : (0 : Int) ≤ (i : Int) := by omega
              have j1 : (i : Int) ≤ (co : Int) := by have := HCP.out; omega
              have jw : IntKind.i64.wrap ((i : Int) + 1) = (i : Int) + 1 := by rw [IntKind.wrap_i64]; omega
              have j2 : (0 : Int) ≤ (i : Int) + 1 := by omega
              have j3 : (i : Int) + 1 ≤ (rows.length : Int) := by omega
              obtain ⟨ad, had⟩ : ∃ ad, (if co = i + 1 then some (⟨g, 0, none⟩ : Addr) else some ⟨g, (i + 1) * 24, none⟩) = ad := ⟨_, rfl⟩
              clear hi hm
              go_wp2_with fail
              refine HRM.out.mono ?_
              rintro e w2 ⟨rfl, ⟨sv2, hrel2, hloc⟩, hT⟩
              have hts1 := (HI.out.turn hT hrel2 (fun g hg => .inr (hloc g hg))).keep (Below.refl _ _).drew
              obtain ⟨o1, wa, o2, wb, ra, rb, hts2⟩ := hts1.cut HOK.out hil (by omega) 28
              rw [had] at rb
              obtain ⟨a2, c2, ho2, _⟩ := own_form hts2.own
              subst ho2
              have HTS := Lib.hid hts2
              clear hrel2 hloc hT hts1 hts2 HRM lb lr HI
              go_wp2_with fail
              refine region_once ?_
              apply Exists.intro
              apply Exists.intro
              refine ⟨?_, ?_⟩
              · go_region
                all_goals exact ⟨rfl, rfl, rfl⟩
              go_wp2
              go_roundw
              case rel =>
                refine ⟨k + 1, sv2, a2, c2, by omega, by go_num, by rw [HSE.out], ?_, by rw [HSE.out]; exact HTS⟩
                rw [HSE.out]
                simp only [List.length_eraseIdx_of_lt hil]
                congr 1
                omega
              case measure => simp [intOf]; omega
            · rw [if_neg hm]
              have HSE : Hid (turnL ar (ts.take (k + 1)) = (rows, gn)) := by
                show _ = _
                rw [HST.out]
                simp [stepT, hm]
              have HRM := Lib.hid (remove_not HI.out.rel r HRO.out hm)
              unfold rowV at HRM
              clear hm
              go_wp2_with fail
              refine HRM.out.mono ?_
              rintro e w2 ⟨rfl, b2⟩
              have HTS := Lib.hid (HI.out.keep b2)
              clear b2 HRM lb lr HI
              go_wp2
              go_roundw
              case rel => exact ⟨k + 1, sv, ao, co, by omega, by go_num, by rw [HSE.out], by rw [HSE.out, Int.natCast_add], by rw [HSE.out]; exact HTS⟩
              case measure => simp [intOf]; omega
          | false =>
            have HRT := fun u => Lib.hid (right_any r HRO.out.len ar u)
            unfold rowV at HRT
            by_cases hm : r ∈ rows
            · rw [if_pos hm]
              have hi := idxOf_at hm
              have hil : rows.idxOf r < rows.length := (List.getElem?_eq_some_iff.1 hi).1
              have HSE : Hid (turnL ar (ts.take (k + 1)) = (rows, gn)) := by
                show _ = _
                rw [HST.out]
                simp [stepT, hm]
              generalize rows.idxOf r = i at hil ⊢
              have j0 : (0 : Int) ≤ (i : Int) := by omega
              have HM := Lib.hid hm
              clear hm hi
              go_wp2_with fail
              refine (HRT _).out.mono ?_
              rintro e w2 ⟨rfl, b2⟩
              have HT2 := Lib.hid (HI.out.keep b2)
              have lr2 := (HLD.out _ HT2.out.bel).2
              have HAD := Lib.hid (add_anyT HT2.out.rel HT2.out.bel.size (by omega) r HRO.out)
              unfold rowV at lr2 HAD
              clear lb lr b2 HI HRT
              go_wp2_with fail
              refine HAD.out.mono ?_
              rintro e w3 (⟨hf, rfl, b3⟩ | ⟨hf, hm2, rfl, b3⟩ | ⟨hf, hm2, rfl, hT, sv2, hrel2, hloc⟩)
              · have HTS := Lib.hid (HT2.out.keep b3)
                clear b3 HAD HT2 lr2
                go_wp2
                go_roundw
                case rel => exact ⟨k + 1, sv, ao, co, by omega, by go_num, by rw [HSE.out], by rw [HSE.out, Int.natCast_add], by rw [HSE.out]; exact HTS⟩
                case measure => simp [intOf]; omega
              · have HTS := Lib.hid (HT2.out.keep b3)
                clear b3 HAD HT2 lr2 hm2
                go_wp2
                go_roundw
                case rel => exact ⟨k + 1, sv, ao, co, by omega, by go_num, by rw [HSE.out], by rw [HSE.out, Int.natCast_add], by rw [HSE.out]; exact HTS⟩
                case measure => simp [intOf]; omega
              · exact absurd HM.out hm2
            · rw [if_neg hm]
              have HSE : Hid (turnL ar (ts.take (k + 1)) = if fitB r ar = true then (rows ++ [r], gn) else (rows, gn)) := by
                show _ = _
                rw [HST.out]
                simp [stepT, hm]
              have HM := Lib.hid hm
              clear hm
              go_wp2_with fail
              refine (HRT _).out.mono ?_
              rintro e w2 ⟨rfl, b2⟩
              have HT2 := Lib.hid (HI.out.keep b2)
              have lr2 := (HLD.out _ HT2.out.bel).2
              have HAD := Lib.hid (add_anyT HT2.out.rel HT2.out.bel.size (by omega) r HRO.out)
              unfold rowV at lr2 HAD
              clear lb lr b2 HI HRT
              go_wp2_with fail
              refine HAD.out.mono ?_
              rintro e w3 (⟨hf, rfl, b3⟩ | ⟨hf, hm2, rfl, b3⟩ | ⟨hf, hm2, rfl, hT, sv2, hrel2, hloc⟩)
              · have HTS := Lib.hid (HT2.out.keep b3)
                have HSE2 : Hid (turnL ar (ts.take (k + 1)) = (rows, gn)) := by
                  show _ = _
                  rw [HSE.out, hf]
                  rfl
                clear b3 HAD HT2 lr2 HSE
                go_wp2
                go_roundw
                case rel => exact ⟨k + 1, sv, ao, co, by omega, by go_num, by rw [HSE2.out], by rw [HSE2.out, Int.natCast_add], by rw [HSE2.out]; exact HTS⟩
                case measure => simp [intOf]; omega
              · exact absurd hm2 HM.out
              · have hts1 := HT2.out.turn hT hrel2 hloc
                obtain ⟨o2, w4, ra, hts2⟩ := hts1.push r HRO.out.len (by omega) 28
                have lr3 := (HLD.out _ hts1.bel).2
                have hfold := fold_row HRO.out.len (A := #[.int .i32 0, .int .i32 0, .int .i32 0, .int .i32 0, .int .i32 0, .int .i32 0, .int .i32 0, .int .i32 0, .int .i32 0, .int .i32 0, .int .i32 0, .int .i32 0, .int .i32 0, .int .i32 0, .int .i32 0, .int .i32 0, .int .i32 0, .int .i32 0, .int .i32 0, .int .i32 0, .int .i32 0, .int .i32 0, .int .i32 0, .int .i32 0]) rfl
                obtain ⟨a2, c2, ho2, _⟩ := own_form hts2.own
                subst ho2
                have HTS := Lib.hid hts2
                have HSE2 : Hid (turnL ar (ts.take (k + 1)) = (rows ++ [r], gn)) := by
                  show _ = _
                  rw [HSE.out, hf]
                  rfl
                have jw : IntKind.i64.wrap ((rows.length : Int) + (gn : Int) + 1) = (rows.length : Int) + (gn : Int) + 1 := by rw [IntKind.wrap_i64]; omega
                have h24r : r.length = 24 := HRO.out.len
                unfold rowV at lr3
                unfold rowC at ra
                clear hrel2 hloc hT hts1 hts2 HAD HT2 lr2 HSE hm2
                go_wp2
                go_roundw
                case rel =>
                  refine ⟨k + 1, sv2, a2, c2, by omega, by go_num, by rw [HSE2.out]; simp, ?_, by rw [HSE2.out]; exact HTS⟩
                  rw [HSE2.out]
                  simp only [List.length_append, List.length_singleton]
                  go_num
                case measure => simp [intOf]; omega
    · obtain rfl : k = ts.length := by omega
      simp only [List.take_length] at HT ⊢
      have HLEN := turnL_len ar ts ts.length (Nat.le_refl _)
      simp only [List.take_length] at HLEN
      have HA := Lib.hid (len_yes HT.out.rel)
      have HG := Lib.hid (gone_yes HT.out.rel)
      have hw : IntKind.i64.wrap (((turnL ar ts).1.length : Int) + ((turnL ar ts).2 : Int)) = ((turnL ar ts).1.length : Int) + ((turnL ar ts).2 : Int) := by rw [IntKind.wrap_i64]; omega
      go_wp2_with fail
      refine HA.out.mono ?_
      rintro e w1 ⟨rfl, rfl⟩
      go_wp2_with fail
      refine HA.out.mono ?_
      rintro e w1 ⟨rfl, rfl⟩
      go_wp2_with fail
      refine HG.out.mono ?_
      rintro e w1 ⟨rfl, rfl⟩
      go_wp2
      go_ret3
      exact ⟨t, m, sv, _, rfl, HT.out⟩
end Go.Proofs.Ytanffdllapnghaa
