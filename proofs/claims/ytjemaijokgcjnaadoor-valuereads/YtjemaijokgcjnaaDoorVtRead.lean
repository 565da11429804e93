import Derived.Test.YtjemaijokgcjnaaDoorVtUnq
import Derived.Test.YtjemaijokgcjnaaDoorArith
import Derived.Lib.ParseIntBTie
import Derived.Deep.RegionWith
namespace Go.Proofs.YtjemaijokgcjnaaDoor
open Go.RowKit Go.Maps
set_option linter.unusedVariables false
set_option linter.unusedSimpArgs false
attribute [local go_sem ↓] Go.wp_at_zero Go.wp_at_succ

theorem keptC {w w1 : World} {c : Array Value} {T : TypeId} (hb : Below (w.alloc (.cells c T)).heap.size (w.alloc (.cells c T)) w1) (i : Nat) (v : Value) (hi : c[i]? = some v) : w1.cell? ⟨w.heap.size, i, none⟩ = some v := by
  rw [hb.cell (by simp)]
  unfold World.cell?
  simp only [heap_alloc_new]
  simpa using hi
theorem keptF {w w1 : World} {c : Array Value} {T : TypeId} (hb : Below (w.alloc (.cells c T)).heap.size (w.alloc (.cells c T)) w1) (i : Nat) : w1.frozen? ⟨w.heap.size, i, none⟩ = false := by
  rw [hb.frozen (by simp)]
  unfold World.frozen?
  simp only [heap_alloc_new]
  simp
theorem keptL {w w1 : World} {c : Array Value} {T : TypeId} (hb : Below (w.alloc (.cells c T)).heap.size (w.alloc (.cells c T)) w1) : w.heap.size < w1.heap.size := by
  have := hb.size
  simp at this
  omega
theorem val_results {fn : Func} {sl so : Nat} (hr : fn.results = #[.cell sl 25, .tmp so]) {W : World} {tmps : Array Value} {b : Nat} {x0 x1 x2 ok : Value} (h2 : tmps.getD sl undef = .pointer (some ⟨b, 0, none⟩)) (h3 : tmps.getD so undef = ok)
    (c0 : W.cell? ⟨b, 0, none⟩ = some x0) (c1 : W.cell? ⟨b, 1, none⟩ = some x1) (c2 : W.cell? ⟨b, 2, none⟩ = some x2) :
    (results fn tmps).run Tryd.prog W = .ok (.tuple #[.agg #[x0, x1, x2], ok]) W := by
  have hl : (loadVar 25 ⟨b, 0, none⟩).run Tryd.prog W = .ok (.agg #[x0, x1, x2]) W := by
    refine run_loadVar_mid W b 0 25 [x0, x1, x2] _ (fun j v hj => ?_) Tryd.underlying25 rfl (by kernel_rfl)
    match j, hj with
    | 0, hj => simp at hj; subst hj; exact c0
    | 1, hj => simp at hj; subst hj; exact c1
    | 2, hj => simp at hj; subst hj; exact c2
  have e0 : results fn tmps = (do
      let x ← asAddr (tmps.getD sl undef)
      let x ← loadVar 25 x
      pure (.tuple #[x, tmps.getD so undef])) := by
    simp [results, hr]
  rw [e0, h2, h3]
  simp [asAddr, hl, Result.andThen]
/-- the cells of a value in block b, that may be written -/
def Own3 (w : World) (b : Nat) : Prop := (∃ y0 y1 y2, w.cell? ⟨b, 0, none⟩ = some y0 ∧ w.cell? ⟨b, 1, none⟩ = some y1 ∧ w.cell? ⟨b, 2, none⟩ = some y2) ∧
  w.frozen? ⟨b, 0, none⟩ = false ∧ w.frozen? ⟨b, 1, none⟩ = false ∧ w.frozen? ⟨b, 2, none⟩ = false ∧ b < w.heap.size
theorem own3 {w w1 : World} {a b c : Value} {T : TypeId} (hb : Below (w.alloc (.cells #[a, b, c] T)).heap.size (w.alloc (.cells #[a, b, c] T)) w1) : Own3 w1 w.heap.size :=
  ⟨⟨_, _, _, keptC hb 0 _ rfl, keptC hb 1 _ rfl, keptC hb 2 _ rfl⟩, keptF hb 0, keptF hb 1, keptF hb 2, keptL hb⟩
theorem Own3.below {w w1 : World} {b : Nat} (h : Own3 w b) (hb : Below w.heap.size w w1) : Own3 w1 b := by
  obtain ⟨⟨y0, y1, y2, c0, c1, c2⟩, f0, f1, f2, hl⟩ := h
  refine ⟨⟨y0, y1, y2, ?_, ?_, ?_⟩, ?_, ?_, ?_, Nat.lt_of_lt_of_le hl hb.size⟩
  all_goals first | rw [hb.cell (by exact hl)]; assumption | rw [hb.frozen (by exact hl)]; assumption
theorem val_done {fn : Func} {sl so : Nat} (hr : fn.results = #[.cell sl 25, .tmp so]) {w w1 : World} {tmps : Array Value} {b : Nat} {x0 x1 x2 ok v : Value}
    (ho : Own3 w1 b) (hB : w.heap.size ≤ b) (hb : Below w.heap.size w w1)
    (h2 : tmps.getD sl undef = .pointer (some ⟨b, 0, none⟩)) (h3 : tmps.getD so undef = ok) (hv : v = .tuple #[.agg #[x0, x1, x2], ok]) :
    bodyPost Tryd.prog fn (fun e w' => e = .returned v ∧ Below w.heap.size w w') .ret { tmps := tmps, defers := [] }
      (((w1.setCell ⟨b, 0, none⟩ x0).setCell ⟨b, 1, none⟩ x1).setCell ⟨b, 2, none⟩ x2) := by
  obtain ⟨⟨y0, y1, y2, c0, c1, c2⟩, f0, f1, f2, hl⟩ := ho
  refine bodyPost_ret (val_results hr (x0 := x0) (x1 := x1) (x2 := x2) h2 h3 ?_ ?_ ?_) rfl ⟨by rw [hv], ?_⟩
  · go_simp
  · go_simp
  · go_simp
  · exact (((hb.setCell (p := ⟨b, 0, none⟩) hB _).setCell (p := ⟨b, 1, none⟩) hB _).setCell (p := ⟨b, 2, none⟩) hB _)

theorem unq_len : ∀ (f : Nat) (out l r : List UInt8), PU.unq f out l = some r → r.length ≤ out.length + l.length
  | 0, out, l, r, h => by
    rw [PU.unq] at h
    split at h
    · injection h with h; subst h; omega
    · cases h
  | f + 1, out, l, r, h => by
    rw [PU.unq] at h
    split at h
    · injection h with h; subst h; omega
    · split at h
      · cases h
      · rename_i c n ho
        have h1 := unq_len f _ _ _ h
        have h2 := PU.fstB_le ho
        rw [List.length_append, List.length_drop] at h1
        simp at h1
        omega
/-- what guess tells -/
def guessV (s : ByteArray) : Option V :=
  if s.size = 0 then none
  else if byteAt s 0 = 34 then (match unqS s with | some l => some ⟨2, 0, ⟨l.toArray⟩⟩ | none => none)
  else if byteAt s 0 = 45 ∨ digitB (byteAt s 0) = true then (match Lib.parseIntB 64 s.data.toList with | .ok n => some ⟨1, n, ⟨#[]⟩⟩ | _ => none)
  else some ⟨2, 0, s⟩
def GuessIs (o : Option V) (k n : Int) (t : ByteArray) (b : Bool) : Prop :=
  match o with
  | some u => b = true ∧ u = ⟨k, n, t⟩ ∧ t.size ≤ maxLen ∧ -9223372036854775808 ≤ n ∧ n ≤ 9223372036854775807
  | none => b = false
set_option maxHeartbeats 3200000 in
set_option maxRecDepth 100000 in
theorem guess_any (s : ByteArray) (hs : s.size ≤ 140737488355328) (w : World) (hg : Gv w) : ∃ (k n : Int) (t : ByteArray) (b : Bool), GuessIs (guessV s) k n t b ∧ Calls Tryd.prog 14 #[.string s] w fun e w' => e = .returned (.tuple #[.agg #[.int .i8 k, .int .i64 n, .string t], .bool b]) ∧ Below w.heap.size w w' := by
  have b0 := (Below.refl w.heap.size w).alloc (Nat.le_refl _) (.cells #[.int .i8 0, .int .i64 0, .string ⟨#[]⟩] 25)
  have HO0 : Hid (Own3 (w.alloc (.cells #[.int .i8 0, .int .i64 0, .string ⟨#[]⟩] 25)) w.heap.size) := own3 (Below.refl _ _)
  have HG := Lib.hid (hg.alloc (.cells #[.int .i8 0, .int .i64 0, .string ⟨#[]⟩] 25))
  clear hg
  by_cases h0 : s.size = 0
  · refine ⟨0, 0, ⟨#[]⟩, false, ?_, ?_⟩
    · unfold guessV; rw [if_pos h0]; rfl
    have he : s.toList.isEmpty = true := by rw [empty_iff, h0]; rfl
    go_enter Tryd.func14, Tryd.ntmps14
    go_upto_region 1 with fail
    generalize w.alloc (.cells #[.int .i8 0, .int .i64 0, .string ⟨#[]⟩] 25) = W at b0 HO0 HG ⊢
    obtain ⟨⟨y0, y1, y2, c0, c1, c2⟩, f0, f1, f2, hl⟩ := HO0.out
    go_wp2
    refine val_done Tryd.results14 (ok := .bool false) HO0.out (Nat.le_refl _) b0 ?_ ?_ ?_ <;> rfl
  · have hlt : 0 < s.size := by omega
    have hlt' : (0 : Int) < (s.size : Int) := by omega
    have he : s.toList.isEmpty = false := by rw [empty_iff]; exact decide_eq_false h0
    obtain ⟨c, hcc⟩ : ∃ c, s[0]'hlt = c := ⟨_, rfl⟩
    have hbA : byteAt s 0 = (c.toNat : Int) := by rw [byteAt_eq hlt, hcc]
    have hb8 : c.toNat < 256 := c.toNat_lt
    by_cases h34 : c.toNat = 34
    · have h34' : (c.toNat : Int) = 34 := by omega
      have hgv : guessV s = (match unqS s with | some l => some ⟨2, 0, ⟨l.toArray⟩⟩ | none => none) := by
        unfold guessV; rw [if_neg h0, if_pos (by rw [hbA]; exact h34')]
      have HU := Lib.hid (unquote_any s hs _ HG.out)
      cases hu : unqS s with
      | none =>
        refine ⟨2, 0, ⟨#[]⟩, false, ?_, ?_⟩
        · rw [hgv, hu]; rfl
        rw [hu] at HU
        clear hgv hu h34 hbA h0
        go_enter Tryd.func14, Tryd.ntmps14
        go_upto_region 1 with fail
        generalize w.alloc (.cells #[.int .i8 0, .int .i64 0, .string ⟨#[]⟩] 25) = W at b0 HO0 HG HU ⊢
        go_wp2_with fail
        refine HU.out.mono ?_
        rintro e w1 ⟨rfl, hb1⟩
        have HO1 := Lib.hid (HO0.out.below hb1)
        have b1 := b0.trans (hb1.mono b0.size)
        clear HU hb1 b0 HO0 HG
        unfold uqV
        go_wp2_with fail
        refine (text_any _ _).mono ?_
        rintro e w2 ⟨rfl, hb2⟩
        have HO2 := Lib.hid (HO1.out.below hb2)
        have b2 := b1.trans (hb2.mono b1.size)
        clear hb2 b1 HO1
        obtain ⟨⟨y0, y1, y2, c0, c1, c2⟩, f0, f1, f2, hl⟩ := HO2.out
        go_wp2
        refine val_done Tryd.results14 (ok := .bool false) HO2.out (Nat.le_refl _) b2 ?_ ?_ ?_ <;> rfl
      | some l =>
        refine ⟨2, 0, ⟨l.toArray⟩, true, ?_, ?_⟩
        · rw [hgv, hu]
          refine ⟨rfl, rfl, ?_, by omega, by omega⟩
          show l.toArray.size ≤ maxLen
          have hl : l.length ≤ s.size := by
            unfold unqS at hu
            split at hu
            · cases hu
            · have := unq_len _ _ _ _ hu
              rw [len_toList, ByteArray.size_extract] at this
              simp at this
              omega
          rw [List.size_toArray]; unfold maxLen; omega
        rw [hu] at HU
        clear hgv hu h34 hbA h0
        go_enter Tryd.func14, Tryd.ntmps14
        go_upto_region 1 with fail
        generalize w.alloc (.cells #[.int .i8 0, .int .i64 0, .string ⟨#[]⟩] 25) = W at b0 HO0 HG HU ⊢
        go_wp2_with fail
        refine HU.out.mono ?_
        rintro e w1 ⟨rfl, hb1⟩
        have HO1 := Lib.hid (HO0.out.below hb1)
        have b1 := b0.trans (hb1.mono b0.size)
        clear HU hb1 b0 HO0 HG
        unfold uqV
        generalize (⟨l.toArray⟩ : ByteArray) = T1
        go_wp2_with fail
        refine (text_any _ _).mono ?_
        rintro e w2 ⟨rfl, hb2⟩
        have HO2 := Lib.hid (HO1.out.below hb2)
        have b2 := b1.trans (hb2.mono b1.size)
        clear hb2 b1 HO1
        obtain ⟨⟨y0, y1, y2, c0, c1, c2⟩, f0, f1, f2, hl⟩ := HO2.out
        go_wp2
        refine val_done Tryd.results14 (ok := .bool true) HO2.out (Nat.le_refl _) b2 ?_ ?_ ?_ <;> rfl
    · have hq34 : ((c.toNat : Int) == 34) = false := by simpa using (show ¬ (c.toNat : Int) = 34 by omega)
      by_cases hnum : (c.toNat : Int) = 45 ∨ digitB (c.toNat : Int) = true
      · have hgv : guessV s = (match Lib.parseIntB 64 s.data.toList with | .ok n => some ⟨1, n, ⟨#[]⟩⟩ | _ => none) := by
          unfold guessV; rw [if_neg h0, if_neg (by rw [hbA]; omega), if_pos (by rw [hbA]; exact hnum)]
        have HPC : ∃ (n : Int) (b : Bool), GuessIs (guessV s) 1 n ⟨#[]⟩ b ∧ ∀ W : World, Gv W → Calls Tryd.prog 29 #[.string s, .int .i64 10, .int .i64 64] W fun e w' => ((e = .returned (.tuple #[.int .i64 n, .nilIface]) ∧ b = true) ∨ (b = false ∧ ∃ N, e = .returned (.tuple #[.int .i64 n, .iface 89 (.pointer (some ⟨N, 0, none⟩))]))) ∧ Below W.heap.size W w' := by
          cases hp : Lib.parseIntB 64 s.data.toList with
          | ok n =>
            have hbd := Lib.parseIntB_bounds hp
            refine ⟨n, true, ?_, fun W hW => ?_⟩
            · rw [hgv, hp]
              refine ⟨rfl, rfl, by decide, ?_, ?_⟩ <;> (have h1 := hbd.1; have h2 := hbd.2; simp at h1 h2; omega)
            refine (Tryd.strconv_ParseInt_10_at64_ok s (by omega) n hp W).mono ?_
            rintro e w2 ⟨rfl, hw2⟩
            refine ⟨.inl ⟨rfl, rfl⟩, ?_⟩
            rcases hw2 with rfl | ⟨t, rfl⟩
            · exact Below.refl _ _
            · exact Lib.bytesWorld_below _ _ _
          | «syntax» =>
            refine ⟨0, false, by rw [hgv, hp]; rfl, fun W hW => ?_⟩
            obtain ⟨te, pe, hev⟩ := hW.es
            refine (Tryd.strconv_ParseInt_10_at64_syntax s (by omega) hp _ W hev (.inr ⟨_, _, rfl⟩)).mono ?_
            rintro e w2 ⟨N, rfl, hN, -, hb2⟩
            exact ⟨.inr ⟨rfl, N, rfl⟩, hb2⟩
          | range =>
            refine ⟨Lib.intSat 64 s.data.toList, false, by rw [hgv, hp]; rfl, fun W hW => ?_⟩
            obtain ⟨te, pe, hev⟩ := hW.er
            refine (Tryd.strconv_ParseInt_10_at64_range s (by omega) hp _ W hev (.inr ⟨_, _, rfl⟩)).mono ?_
            rintro e w2 ⟨N, rfl, hN, -, hb2⟩
            exact ⟨.inr ⟨rfl, N, rfl⟩, hb2⟩
        obtain ⟨n, b, hgi, hpc⟩ := HPC
        refine ⟨1, n, ⟨#[]⟩, b, hgi, ?_⟩
        have HPI := Lib.hid hpc
        clear hgi hpc hgv hbA h34 h0
        go_enter Tryd.func14, Tryd.ntmps14
        go_upto_region 1 with fail
        generalize w.alloc (.cells #[.int .i8 0, .int .i64 0, .string ⟨#[]⟩] 25) = W at b0 HO0 HG ⊢
        by_cases h45 : (c.toNat : Int) = 45
        · clear hnum
          go_wp2_with fail
          refine (HPI.out _ HG.out).mono ?_
          rintro e w1 ⟨⟨rfl, rfl⟩ | ⟨rfl, N, rfl⟩, hb1⟩
          all_goals have HO1 := Lib.hid (HO0.out.below hb1)
          all_goals have b1 := b0.trans (hb1.mono b0.size)
          all_goals have HOD := Lib.hid (HO1.out.below ((Below.refl w1.heap.size w1).drew))
          all_goals have hbd := b1.trans (((Below.refl w1.heap.size w1).drew).mono b1.size)
          all_goals clear HPI HG HO0 hb1 b0
          all_goals go_wp2_with fail
          all_goals go_region_with (go_at_call 30; refine (number_any _ _).mono ?_; rintro e w2 ⟨rfl, hb2⟩; have HO2 := Lib.hid (HOD.out.below hb2); have bf := hbd.trans (hb2.mono hbd.size); clear hb2; obtain ⟨⟨y0, y1, y2, c0, c1, c2⟩, f0, f1, f2, hl⟩ := HO2.out)
          all_goals go_wp2
          all_goals first | (refine val_done Tryd.results14 (ok := .bool true) HO2.out (Nat.le_refl _) bf ?_ ?_ ?_ <;> rfl) | (refine val_done Tryd.results14 (ok := .bool false) HO2.out (Nat.le_refl _) bf ?_ ?_ ?_ <;> rfl)
        · have hq45 : ((c.toNat : Int) == 45) = false := by simpa using h45
          have hdg : digitB (c.toNat : Int) = true := hnum.resolve_left h45
          have HDG := Lib.hid (isDigit_any (c.toNat : Int))
          rw [hdg] at HDG
          clear hnum hdg h45
          go_wp2_with fail
          refine (HDG.out _).mono ?_
          rintro e w' ⟨rfl, rfl⟩
          go_wp2_with fail
          refine (HPI.out _ HG.out).mono ?_
          rintro e w1 ⟨⟨rfl, rfl⟩ | ⟨rfl, N, rfl⟩, hb1⟩
          all_goals have HO1 := Lib.hid (HO0.out.below hb1)
          all_goals have b1 := b0.trans (hb1.mono b0.size)
          all_goals have HOD := Lib.hid (HO1.out.below ((Below.refl w1.heap.size w1).drew))
          all_goals have hbd := b1.trans (((Below.refl w1.heap.size w1).drew).mono b1.size)
          all_goals clear HPI HG HO0 hb1 b0
          all_goals go_wp2_with fail
          all_goals go_region_with (go_at_call 30; refine (number_any _ _).mono ?_; rintro e w2 ⟨rfl, hb2⟩; have HO2 := Lib.hid (HOD.out.below hb2); have bf := hbd.trans (hb2.mono hbd.size); clear hb2; obtain ⟨⟨y0, y1, y2, c0, c1, c2⟩, f0, f1, f2, hl⟩ := HO2.out)
          all_goals go_wp2
          all_goals first | (refine val_done Tryd.results14 (ok := .bool true) HO2.out (Nat.le_refl _) bf ?_ ?_ ?_ <;> rfl) | (refine val_done Tryd.results14 (ok := .bool false) HO2.out (Nat.le_refl _) bf ?_ ?_ ?_ <;> rfl)
      · have hq45 : ((c.toNat : Int) == 45) = false := by simpa using (fun h => hnum (.inl h))
        have hdg : digitB (c.toNat : Int) = false := by cases h : digitB (c.toNat : Int) with
          | false => rfl
          | true => exact absurd (.inr h) hnum
        refine ⟨2, 0, s, true, ?_, ?_⟩
        · unfold guessV; rw [if_neg h0, if_neg (by rw [hbA]; omega), if_neg (by rw [hbA]; exact hnum)]
          exact ⟨rfl, rfl, by unfold maxLen; omega, by omega, by omega⟩
        have HDG := Lib.hid (isDigit_any (c.toNat : Int))
        rw [hdg] at HDG
        clear hnum hdg hbA h34 h0
        go_enter Tryd.func14, Tryd.ntmps14
        go_upto_region 1 with fail
        generalize w.alloc (.cells #[.int .i8 0, .int .i64 0, .string ⟨#[]⟩] 25) = W at b0 HO0 HG ⊢
        go_wp2_with fail
        refine (HDG.out _).mono ?_
        rintro e w1 ⟨rfl, rfl⟩
        go_wp2_with fail
        refine (text_any _ _).mono ?_
        rintro e w2 ⟨rfl, hb2⟩
        have HO2 := Lib.hid (HO0.out.below hb2)
        have b2 := b0.trans (hb2.mono b0.size)
        clear hb2 b0 HO0
        obtain ⟨⟨y0, y1, y2, c0, c1, c2⟩, f0, f1, f2, hl⟩ := HO2.out
        go_wp2
        refine val_done Tryd.results14 (ok := .bool true) HO2.out (Nat.le_refl _) b2 ?_ ?_ ?_ <;> rfl
end Go.Proofs.YtjemaijokgcjnaaDoor
