import Derived.Test.YtifbbhgihdmhjaaDoorLexLent2
namespace Go.Proofs.YtifbbhgihdmhjaaDoor
open Go.RowKit Go.Maps
set_option linter.unusedVariables false
set_option linter.unusedSimpArgs false
attribute [local go_sem ↓] Go.wp_at_zero Go.wp_at_succ

theorem full_end {t : Tk} {s : List UInt8} (h : fullT t = some s) (h8 : t.k = 8) : s = [] := by
  unfold fullT at h
  split at h
  · rename_i hm
    have hs := Option.some.inj h
    subst hs
    unfold mayT at hm
    simp [h8] at hm ⊢
    exact hm.2
  · cases h
theorem own_len {w : World} {B k n m : Nat} {e : TypeId} {v : Value} {xs : List Value} (h : w.ownsRow B e k v n xs) (en : n = m) : w.ownsRow B e k v m xs := en ▸ h
set_option maxRecDepth 100000 in
set_option maxHeartbeats 6400000 in
theorem rJoin_any (ts : List Tk) (w : World) (a : Option Addr) (c : Nat) (hlen : ts.length ≤ 2147483647) (hl : TL w a ts) (hts : ∀ t ∈ ts, t.ok) :
    Calls Tryd.prog 7 #[.slice a ts.length c] w fun e w' => e = .returned (.tuple #[.string ⟨(joinT fullT 0 [] ts).1.toArray⟩, .int .i64 (joinT fullT 0 [] ts).2]) ∧ Below w.heap.size w w' := by
  obtain ⟨i0, hi0, hz0, hz1, hz2⟩ := info_parts infoByte
  obtain ⟨J, HJ⟩ : ∃ J, Hid (joinT fullT 0 [] ts = J) := ⟨_, rfl⟩
  rw [HJ.out]
  have HL : Hid (TL w a ts) := hl
  have HTS : Hid (∀ t ∈ ts, t.ok) := hts
  have HAL : Hid (∀ (u : World) o, Below u.heap.size u (u.alloc o)) := fun u o => (Below.refl _ _).alloc (Nat.le_refl _) _
  clear hl hts
  go_enter Tryd.func7, Tryd.ntmps7
  go_wp2
  go_loopw [4, 5, 6] (fun b lg i wr => ∃ k : Nat, k ≤ ts.length ∧ i = .int .i64 k ∧ Below w.heap.size w wr ∧ ∃ acc : List UInt8, lg = .bool (decide (65536 < acc.length)) ∧ wr.ownsRow w.heap.size 5 1 b acc.length (Lib.byteCells acc) ∧ acc.length ≤ 66600 ∧ Hid (joinT fullT k acc (ts.drop k) = J)) (fun _ _ i _ => ts.length - (intOf i).toNat)
  case atStart => exact ⟨0, Nat.zero_le _, rfl, Below.refl _ _, [], rfl, World.ownsRow_nil _ _ _ _, by simp, HJ.out⟩
  case round =>
    obtain ⟨k, hk, rfl, bel, acc, rfl, hown, hal, HK⟩ := hrel
    obtain ⟨ao, co, rfl, hlo, _⟩ := ownsRow_form hown
    clear HJ
    by_cases hlt : k < ts.length
    · have hlt' : (k : Int) < (ts.length : Int) := by omega
      obtain ⟨t, ht⟩ : ∃ t, ts[k]? = some t := ⟨_, List.getElem?_eq_getElem hlt⟩
      have hdk : ts.drop k = t :: ts.drop (k + 1) := by
        rw [List.drop_eq_getElem_cons hlt]
        congr 1
        exact Option.some.inj ((List.getElem?_eq_getElem hlt).symm.trans ht)
      have hok := HTS.out t (List.mem_of_getElem? ht)
      have HTX : Hid _ := rtext_ok hok
      obtain ⟨g, off, rfl, c0, c1, c2, c3⟩ := (HL.out.below bel) k t ht
      have hgw := World.block_lt_of_cell? _ _ c0
      have HTX : Hid (∀ w, Calls Tryd.prog 15 #[.agg #[.int .i8 t.k, .string ⟨t.s.toArray⟩, .int .i64 t.n, .int .i64 t.a]] w fun e w' => e = .returned (txV (fullT t)) ∧ Below w.heap.size w w') := fun w => rtext_ok hok w
      generalize (⟨t.s.toArray⟩ : ByteArray) = tsb at *
      go_wp2_with fail
      refine (HTX.out _).mono ?_
      rintro e w2 ⟨rfl, hb2⟩
      have k0 : w2.cell? ⟨g, off + k * 4, none⟩ = some (.int .i8 t.k) := by rw [hb2.cell (p := ⟨g, off + k * 4, none⟩) hgw]; exact c0
      have bel2 := bel.trans (hb2.mono bel.size)
      have own2 := own_below hown hb2
      have hl2 : w.heap.size ≤ w2.heap.size := bel2.size
      clear hb2 bel c0 c1 c2 c3 HTX hown hgw ht
      cases htx : fullT t with
      | none =>
        have HV : Hid (J = ([], 1)) := by show _ = _; rw [← HK.out, hdk, joinT, htx]
        unfold txV
        clear HK hdk own2
        go_wp2_with fail
        go_ret2
        exact ⟨by rw [HV.out]; rfl, bel2⟩
      | some sx =>
        have hsx := full_len hok htx
        have hse := fun h8 => full_end htx h8
        have hsz : (⟨sx.toArray⟩ : ByteArray).size = sx.length := size_mk sx
        obtain ⟨sb, hsb⟩ : ∃ sb, (⟨sx.toArray⟩ : ByteArray) = sb := ⟨_, rfl⟩
        have HSL : Hid (sb.size = sx.length) := by show _ = _; rw [← hsb]; exact hsz
        have HSB : Hid (sb.data.toList = sx) := by show _ = _; rw [← hsb]
        have hsl : sb.size ≤ 1000 := by rw [HSL.out]; exact hsx
        have htv : txV (some sx) = .tuple #[.string sb, .int .i64 0] := by rw [← hsb]; rfl
        rw [htv]
        clear hsb hsz htv
        have HK2 : Hid _ := HK.out
        rw [hdk, joinT, htx] at HK2
        clear HK htx
        by_cases h8 : t.k = 8
        · by_cases hlast : ts.drop (k + 1) = []
          · have hkl : k + 1 = ts.length := by have := congrArg List.length hlast; simp at this; omega
            have hkl' : ¬ (k : Int) < (ts.length : Int) - 1 := by omega
            have HN : Hid (joinT fullT (k + 1) acc (ts.drop (k + 1)) = J) := by
              have := HK2.out
              simp only [h8, hlast, ne_eq, not_true_eq_false, and_false, if_false, true_or, if_true] at this
              show _ = _
              rw [hlast]; exact this
            have hs0 := hse h8
            clear HK2 hdk hse
            by_cases hbig : 65536 < acc.length
            · have hbd : decide (65536 < acc.length) = true := decide_eq_true hbig
              rw [hbd]
              go_wp2
              all_goals
                go_roundw
                case rel => exact ⟨k + 1, by omega, by go_num, bel2, acc, by rw [hbd], own2, hal, HN⟩
                case measure => simp [intOf]; omega
            · have hbd : decide (65536 < acc.length) = false := decide_eq_false hbig
              have hbi : ¬ (65536 : Int) < (acc.length : Int) := by omega
              have hss : sx.length = 0 := by rw [hs0]; rfl
              have HNN : Hid (joinT fullT (k + 1) (acc ++ sx) (ts.drop (k + 1)) = J) := by rw [hs0, List.append_nil]; exact HN
              rw [hbd]
              have hsl0 : sb.size = 0 := by rw [HSL.out]; exact hss
              have hgt : ¬ (65536 : Int) < (acc.length : Int) + (sb.size : Int) := by omega
              clear hs0
              go_wp2_with (first
                | (at_builtin; refine Lib.wpList_append_own_string _ rfl (.tmp 57) (.tmp 58) 35 9 rfl w.heap.size 5 i0 Tryd.underlying35 Tryd.underlying9 hi0 hz0 hz1 hz2 _ _ _ rfl own2 sb rfl (by unfold maxLen; omega) (by omega) bel2.size ?_; intro v4 w4 own4 hg4 hn4
                   have bel4 : Below w.heap.size w w4 := bel2.grown hg4 bel2.size (fun j hj => (own2.lt j hj).1)
                   have HO4 : Hid (w4.ownsRow w.heap.size 5 1 v4 (acc.length + sb.size) (Lib.byteCells (acc ++ sx))) := by
                     show World.ownsRow _ _ _ _ _ _ _
                     rw [Lib.byteCells_append, ← HSB.out]
                     exact own4
                   obtain ⟨a4, c4, rfl, _, _⟩ := ownsRow_form own4
                   clear own4 hg4 hn4))
              all_goals
                go_roundw
                case rel => exact ⟨k + 1, by omega, by go_num, bel4, acc ++ sx, by congr 1; rw [decide_eq_decide, List.length_append, hss]; omega, by have h := own_len HO4.out (m := (acc ++ sx).length) (by rw [List.length_append, hss, hsl0]); rw [hsl0, Nat.add_zero] at h; exact h, by rw [List.length_append, hss]; omega, HNN⟩
                case measure => simp [intOf]; omega
          · have hkl : k + 1 < ts.length := by
              have h1 : (ts.drop (k + 1)).length ≠ 0 := fun e => hlast (List.length_eq_zero_iff.mp e)
              rw [List.length_drop] at h1; omega
            have hkl' : (k : Int) < (ts.length : Int) - 1 := by omega
            have HV : Hid (J = ([], 1)) := by
              have := HK2.out
              simp only [h8, hlast, ne_eq, not_false_eq_true, and_self, if_true] at this
              exact this.symm
            clear HK2 hdk own2 hse
            go_wp2_with fail
            go_ret2
            exact ⟨by rw [HV.out]; rfl, bel2⟩
        · have h8' : (t.k == 8) = false := by simpa using h8
          clear hse
          by_cases hbig : 65536 < acc.length
          · have hbd : decide (65536 < acc.length) = true := decide_eq_true hbig
            have HN : Hid (joinT fullT (k + 1) acc (ts.drop (k + 1)) = J) := by
              have := HK2.out
              simp only [h8, hbig, false_and, if_false, or_true, if_true] at this
              exact this
            clear HK2 hdk
            rw [hbd]
            go_wp2
            all_goals
              go_roundw
              case rel => exact ⟨k + 1, by omega, by go_num, bel2, acc, by rw [hbd], own2, hal, HN⟩
              case measure => simp [intOf]; omega
          · have hbd : decide (65536 < acc.length) = false := decide_eq_false hbig
            have HN : Hid (joinT fullT (k + 1) (acc ++ (if 0 < k then [32] else []) ++ sx) (ts.drop (k + 1)) = J) := by
              have := HK2.out
              simp only [h8, hbig, false_and, if_false, or_self] at this
              exact this
            clear HK2 hdk
            rw [hbd]
            have hbi : ¬ (65536 : Int) < (acc.length : Int) := by omega
            by_cases hk0 : 0 < k
            · have hk0' : (0 : Int) < (k : Int) := by omega
              rw [if_pos hk0] at HN
              by_cases hnew : 65536 < acc.length + 1 + sb.size
              · have hnew' : (65536 : Int) < (acc.length : Int) + 1 + (sb.size : Int) := by omega
                go_wp2_with (first
                  | (at_builtin; refine wpList_append_own_at _ rfl (.tmp 52) (.tmp 53) 35 rfl w.heap.size 5 i0 _ 1 1 Tryd.underlying35 hi0 hz0 hz1 hz2 rfl (by decide) _ _ _ rfl (own2.alloc _) ⟨_, 0, none⟩ 1 1 [.int .u8 32] rfl rfl (VS.lit_news _ #[.int .u8 32] _) (by simp [Value.oneCell']) (by unfold maxLen; omega) (by omega) (by simp; omega) ?_; intro v3 w3 own3 hg3 hn3 hl3
                     have bel3 : Below w.heap.size w w3 := (bel2.trans ((HAL.out w2 _).mono bel2.size)).grown hg3 (by simp; omega) (fun j hj => (own2.lt j hj).1)
                     have own3 : w3.ownsRow w.heap.size 5 1 v3 (acc.length + 1) (Lib.byteCells (acc ++ [32])) := by rw [Lib.byteCells_append]; exact own3
                     obtain ⟨a3, c3, rfl, _, _⟩ := ownsRow_form own3
                     clear hg3 hn3 hl3)
                  | (at_builtin; refine Lib.wpList_append_own_string _ rfl (.tmp 57) (.tmp 58) 35 9 rfl w.heap.size 5 i0 Tryd.underlying35 Tryd.underlying9 hi0 hz0 hz1 hz2 _ _ _ rfl own3 sb rfl (by unfold maxLen; omega) (by omega) bel3.size ?_; intro v4 w4 own4 hg4 hn4
                     have bel4 : Below w.heap.size w w4 := bel3.grown hg4 bel3.size (fun j hj => (own3.lt j hj).1)
                     have HO4 : Hid (w4.ownsRow w.heap.size 5 1 v4 (acc.length + 1 + sb.size) (Lib.byteCells (acc ++ [32] ++ sx))) := by
                       show World.ownsRow _ _ _ _ _ _ _
                       rw [Lib.byteCells_append, ← HSB.out]
                       exact own4
                     obtain ⟨a4, c4, rfl, _, _⟩ := ownsRow_form own4
                     clear own4 hg4 hn4))
                go_roundw
                case rel => exact ⟨k + 1, by omega, by go_num, bel4, acc ++ [32] ++ sx, by have := HSL.out; simp; omega, own_len HO4.out (by have := HSL.out; simp; omega), by have := HSL.out; simp; omega, HN⟩
                case measure => simp [intOf]; omega
              · have hnew' : ¬ (65536 : Int) < (acc.length : Int) + 1 + (sb.size : Int) := by omega
                go_wp2_with (first
                  | (at_builtin; refine wpList_append_own_at _ rfl (.tmp 52) (.tmp 53) 35 rfl w.heap.size 5 i0 _ 1 1 Tryd.underlying35 hi0 hz0 hz1 hz2 rfl (by decide) _ _ _ rfl (own2.alloc _) ⟨_, 0, none⟩ 1 1 [.int .u8 32] rfl rfl (VS.lit_news _ #[.int .u8 32] _) (by simp [Value.oneCell']) (by unfold maxLen; omega) (by omega) (by simp; omega) ?_; intro v3 w3 own3 hg3 hn3 hl3
                     have bel3 : Below w.heap.size w w3 := (bel2.trans ((HAL.out w2 _).mono bel2.size)).grown hg3 (by simp; omega) (fun j hj => (own2.lt j hj).1)
                     have own3 : w3.ownsRow w.heap.size 5 1 v3 (acc.length + 1) (Lib.byteCells (acc ++ [32])) := by rw [Lib.byteCells_append]; exact own3
                     obtain ⟨a3, c3, rfl, _, _⟩ := ownsRow_form own3
                     clear hg3 hn3 hl3)
                  | (at_builtin; refine Lib.wpList_append_own_string _ rfl (.tmp 57) (.tmp 58) 35 9 rfl w.heap.size 5 i0 Tryd.underlying35 Tryd.underlying9 hi0 hz0 hz1 hz2 _ _ _ rfl own3 sb rfl (by unfold maxLen; omega) (by omega) bel3.size ?_; intro v4 w4 own4 hg4 hn4
                     have bel4 : Below w.heap.size w w4 := bel3.grown hg4 bel3.size (fun j hj => (own3.lt j hj).1)
                     have HO4 : Hid (w4.ownsRow w.heap.size 5 1 v4 (acc.length + 1 + sb.size) (Lib.byteCells (acc ++ [32] ++ sx))) := by
                       show World.ownsRow _ _ _ _ _ _ _
                       rw [Lib.byteCells_append, ← HSB.out]
                       exact own4
                     obtain ⟨a4, c4, rfl, _, _⟩ := ownsRow_form own4
                     clear own4 hg4 hn4))
                go_roundw
                case rel => exact ⟨k + 1, by omega, by go_num, bel4, acc ++ [32] ++ sx, by have := HSL.out; simp; omega, own_len HO4.out (by have := HSL.out; simp; omega), by have := HSL.out; simp; omega, HN⟩
                case measure => simp [intOf]; omega
            · have hk0' : ¬ (0 : Int) < (k : Int) := by omega
              rw [if_neg hk0, List.append_nil] at HN
              by_cases hnew : 65536 < acc.length + sb.size
              · have hnew' : (65536 : Int) < (acc.length : Int) + (sb.size : Int) := by omega
                go_wp2_with (first
                  | (at_builtin; refine Lib.wpList_append_own_string _ rfl (.tmp 57) (.tmp 58) 35 9 rfl w.heap.size 5 i0 Tryd.underlying35 Tryd.underlying9 hi0 hz0 hz1 hz2 _ _ _ rfl own2 sb rfl (by unfold maxLen; omega) (by omega) bel2.size ?_; intro v4 w4 own4 hg4 hn4
                     have bel4 : Below w.heap.size w w4 := bel2.grown hg4 bel2.size (fun j hj => (own2.lt j hj).1)
                     have HO4 : Hid (w4.ownsRow w.heap.size 5 1 v4 (acc.length + sb.size) (Lib.byteCells (acc ++ sx))) := by
                       show World.ownsRow _ _ _ _ _ _ _
                       rw [Lib.byteCells_append, ← HSB.out]
                       exact own4
                     obtain ⟨a4, c4, rfl, _, _⟩ := ownsRow_form own4
                     clear own4 hg4 hn4))
                go_roundw
                case rel => exact ⟨k + 1, by omega, by go_num, bel4, acc ++ sx, by have := HSL.out; simp; omega, own_len HO4.out (by have := HSL.out; simp; omega), by have := HSL.out; simp; omega, HN⟩
                case measure => simp [intOf]; omega
              · have hnew' : ¬ (65536 : Int) < (acc.length : Int) + (sb.size : Int) := by omega
                go_wp2_with (first
                  | (at_builtin; refine Lib.wpList_append_own_string _ rfl (.tmp 57) (.tmp 58) 35 9 rfl w.heap.size 5 i0 Tryd.underlying35 Tryd.underlying9 hi0 hz0 hz1 hz2 _ _ _ rfl own2 sb rfl (by unfold maxLen; omega) (by omega) bel2.size ?_; intro v4 w4 own4 hg4 hn4
                     have bel4 : Below w.heap.size w w4 := bel2.grown hg4 bel2.size (fun j hj => (own2.lt j hj).1)
                     have HO4 : Hid (w4.ownsRow w.heap.size 5 1 v4 (acc.length + sb.size) (Lib.byteCells (acc ++ sx))) := by
                       show World.ownsRow _ _ _ _ _ _ _
                       rw [Lib.byteCells_append, ← HSB.out]
                       exact own4
                     obtain ⟨a4, c4, rfl, _, _⟩ := ownsRow_form own4
                     clear own4 hg4 hn4))
                go_roundw
                case rel => exact ⟨k + 1, by omega, by go_num, bel4, acc ++ sx, by have := HSL.out; simp; omega, own_len HO4.out (by have := HSL.out; simp; omega), by have := HSL.out; simp; omega, HN⟩
                case measure => simp [intOf]; omega
    · obtain rfl : k = ts.length := by omega
      have HK2 : Hid _ := HK.out
      rw [List.drop_length, joinT] at HK2
      clear HK
      by_cases hbig : 65536 < acc.length
      · have hbd : decide (65536 < acc.length) = true := decide_eq_true hbig
        have HV : Hid (J = ([], 30)) := by have := HK2.out; rw [if_pos hbig] at this; exact this.symm
        rw [hbd]
        clear HK2 hown
        go_wp2
        go_ret2
        exact ⟨by rw [HV.out]; rfl, bel⟩
      · have hbd : decide (65536 < acc.length) = false := decide_eq_false hbig
        have HV : Hid (J = (acc, 0)) := by have := HK2.out; rw [if_neg hbig] at this; exact this.symm
        have hcv := bytes_string hown
        rw [hbd]
        clear HK2 hown
        go_wp2
        go_ret2
        exact ⟨by rw [HV.out]; rfl, bel⟩
end Go.Proofs.YtifbbhgihdmhjaaDoor
