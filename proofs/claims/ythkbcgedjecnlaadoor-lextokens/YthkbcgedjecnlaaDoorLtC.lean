import Derived.Test.YthkbcgedjecnlaaDoorLtA
import Derived.Test.YthkbcgedjecnlaaDoorLtB
import Derived.Test.YthkbcgedjecnlaaDoorLexAt
namespace Go.Proofs.YthkbcgedjecnlaaDoor
open Go.RowKit Go.Maps
set_option linter.unusedVariables false
set_option linter.unusedSimpArgs false
attribute [local go_sem ↓] Go.wp_at_zero Go.wp_at_succ

def rqV : Option (List UInt8 × Nat) → Value
  | none => .tuple #[.string ⟨#[]⟩, .int .i64 0]
  | some (v, n) => .tuple #[.string ⟨v.toArray⟩, .int .i64 n]
theorem not_empty {s : ByteArray} (h : 0 < s.size) : s.toList.isEmpty = false := by
  rw [ByteArray.toList_eq, list_at s h]; rfl
set_option maxHeartbeats 3200000 in
set_option maxRecDepth 100000 in
theorem rquoted_any (s : ByteArray) (w : World) (hs : s.size ≤ 65536) (hs0 : 0 < s.size) (h34 : (s[0]'hs0).toNat = 34) : Calls Tryd.prog 20 #[.string s] w fun e w' => e = .returned (rqV (quotU s.data.toList.length (s.data.toList.drop 1) [] 1)) ∧ Below w.heap.size w w' := by
  obtain ⟨i0, hi0, hz0, hz1, hz2⟩ := info_parts infoByte
  rw [← quotR_is]
  obtain ⟨q0, HQ⟩ : ∃ q0, Hid (quotR s.data.toList.length (s.data.toList.drop 1) [] 1 = q0) := ⟨_, rfl⟩
  obtain ⟨v, HVV⟩ : ∃ v, Hid (rqV (quotR s.data.toList.length (s.data.toList.drop 1) [] 1) = v) := ⟨_, rfl⟩
  rw [HVV.out]
  have HVN : Hid (q0 = none → v = .tuple #[.string ⟨#[]⟩, .int .i64 0]) := by
    intro h; rw [← HVV.out, HQ.out, h]; rfl
  have HVS : Hid (∀ o n, q0 = some (o, n) → v = .tuple #[.string ⟨o.toArray⟩, .int .i64 n]) := by
    intro o n h; rw [← HVV.out, HQ.out, h]; rfl
  have HQ1 : Hid (∃ f, s.size + 1 ≤ 1 + f ∧ quotR f (s.data.toList.drop 1) [] 1 = q0) := ⟨_, by rw [len_toList]; omega, HQ.out⟩
  have hne := not_empty hs0
  have hs0' : (0 : Int) < (s.size : Int) := by omega
  have h34' : (((s[0]'hs0).toNat : Int) != 34) = false := by rw [bne_eq_false_iff_eq]; omega
  clear HVV HQ
  go_enter Tryd.func20, Tryd.ntmps20
  go_wp2
  go_loopw [4, 5] (fun o i wr => ∃ p : Nat, 1 ≤ p ∧ p ≤ s.size ∧ i = .int .i64 p ∧ Below w.heap.size w wr ∧ ∃ out : List UInt8, wr.ownsRow w.heap.size 5 1 o out.length (Lib.byteCells out) ∧ out.length ≤ p ∧ Hid (∃ f, s.size + 1 ≤ p + f ∧ quotR f (s.data.toList.drop p) out p = q0)) (fun _ i _ => s.size - (intOf i).toNat)
  case atStart => exact ⟨1, Nat.le_refl _, hs0, rfl, Below.refl _ _, [], World.ownsRow_nil _ _ _ _, by simp, HQ1.out⟩
  case round =>
    obtain ⟨p, hp1, hp, rfl, bel, out, hown, hol, HF⟩ := hrel
    obtain ⟨ao, co, rfl, hlo, _⟩ := ownsRow_form hown
    clear HQ1 hne h34' h34
    by_cases hlt : p < s.size
    · have hlt' : (p : Int) < (s.size : Int) := by omega
      have hd := drop_at s hlt
      by_cases h34 : (s[p]'hlt).toNat = 34
      · have h34' : (((s[p]'hlt).toNat : Int) != 34) = false := by rw [bne_eq_false_iff_eq]; omega
        by_cases h200 : out.length ≤ 200
        · have h200' : ¬ (200 : Int) < (out.length : Int) := by omega
          have HV : Hid (v = .tuple #[.string ⟨out.toArray⟩, .int .i64 ((p : Int) + 1)]) := by
            refine HVS.out _ (p + 1) ?_
            obtain ⟨f, hf, e⟩ := HF.out
            rw [← e, hd]
            obtain ⟨g, rfl⟩ : ∃ g, f = g + 1 := ⟨f - 1, by omega⟩
            rw [quotR_cons, if_pos h34, if_neg (by omega)]
          have hcv := bytes_string hown
          clear HF hd hown HVN HVS
          generalize (⟨out.toArray⟩ : ByteArray) = ob at *
          go_wp2
          go_ret2
          exact ⟨by rw [HV.out]; rfl, bel⟩
        · have h200' : (200 : Int) < (out.length : Int) := by omega
          have HV : Hid (v = .tuple #[.string ⟨#[]⟩, .int .i64 0]) := by
            refine HVN.out ?_
            obtain ⟨f, hf, e⟩ := HF.out
            rw [← e, hd]
            obtain ⟨g, rfl⟩ : ∃ g, f = g + 1 := ⟨f - 1, by omega⟩
            rw [quotR_cons, if_pos h34, if_pos (by omega)]
          clear HF hd hown HVN HVS
          go_wp2
          go_ret2
          exact ⟨by rw [HV.out]; rfl, bel⟩
      · have h34' : (((s[p]'hlt).toNat : Int) != 34) = true := by rw [bne_iff_ne]; omega
        have HPC : Hid (∀ w, Calls Tryd.prog 36 #[.string s, .int .i64 p] w fun e w' => e = .returned (pcV (pieceU (s.data.toList.drop p))) ∧ Below w.heap.size w w') := fun w => rpiece_any s p w hs hlt h34
        cases hpc : pieceU (s.data.toList.drop p) with
        | none =>
          have HV : Hid (v = .tuple #[.string ⟨#[]⟩, .int .i64 0]) := by
            refine HVN.out ?_
            obtain ⟨f, hf, e⟩ := HF.out
            rw [← e, hd]
            obtain ⟨g, rfl⟩ : ∃ g, f = g + 1 := ⟨f - 1, by omega⟩
            rw [quotR_cons, if_neg h34, ← hd, hpc]
          have HP : Hid (pcV (pieceU (s.data.toList.drop p)) = .tuple #[.int .u8 0, .int .i64 0]) := by show _ = _; rw [hpc]; rfl
          clear HF hd hown HVN HVS hpc
          go_wp2_with (go_at_call 36; refine (HPC.out _).mono ?_; rw [HP.out]; rintro e w1 ⟨rfl, hb1⟩; have bel1 := bel.trans (hb1.mono bel.size); clear hb1)
          go_ret2
          exact ⟨by rw [HV.out]; rfl, bel1⟩
        | some bk =>
          obtain ⟨b, k⟩ := bk
          have hk := pieceU_pos hpc
          rw [List.length_drop, len_toList] at hk
          have HN : Hid (∃ f, s.size + 1 ≤ (p + k) + f ∧ quotR f (s.data.toList.drop (p + k)) (out ++ [b]) (p + k) = q0) := by
            obtain ⟨f, hf, e⟩ := HF.out
            obtain ⟨g, rfl⟩ : ∃ g, f = g + 1 := ⟨f - 1, by omega⟩
            refine ⟨g, by omega, ?_⟩
            rw [← e, hd, quotR_cons, if_neg h34, ← hd, hpc]
            simp only [List.drop_drop]
          have HP : Hid (pcV (pieceU (s.data.toList.drop p)) = .tuple #[.int .u8 (b.toNat : Int), .int .i64 k]) := by show _ = _; rw [hpc]; rfl
          have hk0 : ¬ (k : Int) = 0 := by omega
          clear HF hd HVN HVS hpc
          go_wp2_with (first
            | (go_at_call 36; refine (HPC.out _).mono ?_; rw [HP.out]; rintro e w1 ⟨rfl, hb1⟩; have bel1 := bel.trans (hb1.mono bel.size); have hown1 := own_below hown hb1; clear hb1 bel hown)
            | (at_builtin; refine wpList_append_own_at _ rfl _ _ 54 rfl w.heap.size 5 i0 _ 1 1 Tryd.underlying54 hi0 hz0 hz1 hz2 rfl (by decide) _ _ _ rfl (own_below hown1 ((Below.refl _ _).alloc (Nat.le_refl _) _)) ⟨w1.heap.size, 0, none⟩ 1 1 [.int .u8 (b.toNat : Int)] rfl rfl (one_byte w1 _) (by simp [Value.oneCell']) (by unfold maxLen; omega) (by omega) (by have := bel1.size; simp; omega) ?_; intro v' w2 hown' hgrow hnil hloc))
          go_roundw
          case rel => exact ⟨p + k, by omega, by omega, by go_num, (bel1.alloc bel1.size _).grown hgrow (by have := bel1.size; simp; omega) (fun j hj => (hown1.lt j hj).1), out ++ [b], by rw [Lib.byteCells_append, List.length_append]; exact hown', by simp; omega, HN.out⟩
          case measure => simp [intOf]; omega
    · have hlt' : ¬ (p : Int) < (s.size : Int) := by omega
      have hge : (s.size : Int) ≤ (p : Int) := by omega
      have HV : Hid (v = .tuple #[.string ⟨#[]⟩, .int .i64 0]) := by
        refine HVN.out ?_
        obtain ⟨f, hf, e⟩ := HF.out
        rw [← e, drop_end s hlt, quotR_nil]
      clear HF hown HVN HVS
      go_wp2
      go_ret2
      exact ⟨by rw [HV.out]; rfl, bel⟩
theorem tok3_results {fn : Func} (hr : fn.results = #[.cell 4 37, .tmp 5, .tmp 6]) {W : World} {tmps : Array Value} {b : Nat} {x0 x1 x2 x3 wd er : Value} (h2 : tmps.getD 4 undef = .pointer (some ⟨b, 0, none⟩)) (h3 : tmps.getD 5 undef = wd) (h4 : tmps.getD 6 undef = er)
    (c0 : W.cell? ⟨b, 0, none⟩ = some x0) (c1 : W.cell? ⟨b, 1, none⟩ = some x1) (c2 : W.cell? ⟨b, 2, none⟩ = some x2) (c3 : W.cell? ⟨b, 3, none⟩ = some x3) :
    (results fn tmps).run Tryd.prog W = .ok (.tuple #[.agg #[x0, x1, x2, x3], wd, er]) W := by
  have hl : (loadVar 37 ⟨b, 0, none⟩).run Tryd.prog W = .ok (.agg #[x0, x1, x2, x3]) W := by
    refine run_loadVar_mid W b 0 37 [x0, x1, x2, x3] _ (fun j v hj => ?_) Tryd.underlying37 rfl (by kernel_rfl)
    match j, hj with
    | 0, hj => simp at hj; subst hj; exact c0
    | 1, hj => simp at hj; subst hj; exact c1
    | 2, hj => simp at hj; subst hj; exact c2
    | 3, hj => simp at hj; subst hj; exact c3
  have e0 : results fn tmps = (do
      let x ← asAddr (tmps.getD 4 undef)
      let x ← loadVar 37 x
      pure (.tuple #[x, tmps.getD 5 undef, tmps.getD 6 undef])) := by
    simp [results, hr]
  rw [e0, h2, h3, h4]
  simp [asAddr, hl, Result.andThen]
/-- what the reference's token answers -/
def TokP (p : Nat) (F : Fst) (e : Ending) : Prop := match F with
  | .bad er => ∃ m : Int, e = .returned (.tuple #[noTk, .int .i64 m, .int .i64 er])
  | .tok t n => e = .returned (.tuple #[.agg #[.int .i8 t.k, .string ⟨t.s.toArray⟩, .int .i64 t.n, .int .i64 p], .int .i64 n, .int .i64 0])
theorem tok3_done {fn : Func} (hr : fn.results = #[.cell 4 37, .tmp 5, .tmp 6]) {w w1 : World} {tmps : Array Value} {b p : Nat} {F : Fst} {x0 x1 x2 x3 wd er : Value}
    (ho : Own4 w1 b) (hB : w.heap.size ≤ b) (hb : Below w.heap.size w w1)
    (h2 : tmps.getD 4 undef = .pointer (some ⟨b, 0, none⟩)) (h3 : tmps.getD 5 undef = wd) (h4 : tmps.getD 6 undef = er) (hv : TokP p F (.returned (.tuple #[.agg #[x0, x1, x2, x3], wd, er]))) :
    bodyPost Tryd.prog fn (fun e w' => TokP p F e ∧ Below w.heap.size w w') .ret { tmps := tmps, defers := [] }
      ((((w1.setCell ⟨b, 0, none⟩ x0).setCell ⟨b, 1, none⟩ x1).setCell ⟨b, 2, none⟩ x2).setCell ⟨b, 3, none⟩ x3) := by
  obtain ⟨⟨y0, y1, y2, y3, c0, c1, c2, c3⟩, f0, f1, f2, f3, hl⟩ := ho
  refine bodyPost_ret (tok3_results hr (x0 := x0) (x1 := x1) (x2 := x2) (x3 := x3) h2 h3 h4 ?_ ?_ ?_ ?_) rfl ⟨hv, ?_⟩
  · go_simp
  · go_simp
  · go_simp
  · go_simp
  · exact ((((hb.setCell (p := ⟨b, 0, none⟩) hB _).setCell (p := ⟨b, 1, none⟩) hB _).setCell (p := ⟨b, 2, none⟩) hB _).setCell (p := ⟨b, 3, none⟩) hB _)
theorem tok3_done_new {fn : Func} (hr : fn.results = #[.cell 4 37, .tmp 5, .tmp 6]) {w : World} {tmps : Array Value} {p : Nat} {F : Fst} {x0 x1 x2 x3 wd er : Value}
    (h2 : tmps.getD 4 undef = .pointer (some ⟨w.heap.size, 0, none⟩)) (h3 : tmps.getD 5 undef = wd) (h4 : tmps.getD 6 undef = er) (hv : TokP p F (.returned (.tuple #[.agg #[x0, x1, x2, x3], wd, er]))) :
    bodyPost Tryd.prog fn (fun e w' => TokP p F e ∧ Below w.heap.size w w') .ret { tmps := tmps, defers := [] } (w.alloc (.cells #[x0, x1, x2, x3] 37)) := by
  have hb := Below.refl (w.alloc (.cells #[x0, x1, x2, x3] 37)).heap.size (w.alloc (.cells #[x0, x1, x2, x3] 37))
  exact bodyPost_ret (tok3_results hr (x0 := x0) (x1 := x1) (x2 := x2) (x3 := x3) h2 h3 h4 (kept_cell hb 0 _ rfl) (kept_cell hb 1 _ rfl) (kept_cell hb 2 _ rfl) (kept_cell hb 3 _ rfl)) rfl ⟨hv, (Below.refl _ _).alloc (Nat.le_refl _) _⟩
theorem firstT_drop {s : ByteArray} {p : Nat} (h : p < s.size) : firstT (s.data.toList.drop p) =
    if letU (s[p]'h) then wordT ((s.data.toList.drop p).take (runLen (s.data.toList.drop p))) else if (s[p]'h).toNat = 95 then blankT (runLen (s.data.toList.drop p))
    else if digU (s[p]'h) then numT ((s.data.toList.drop p).take (runLen (s.data.toList.drop p))) else if (s[p]'h).toNat = 34 then quotT (s.data.toList.drop p) else signT (s.data.toList.drop p) := by
  obtain ⟨c, r, hc, e⟩ : ∃ c r, s[p]'h = c ∧ s.data.toList.drop p = c :: r := ⟨_, _, rfl, drop_at s h⟩
  rw [hc, e]
  rfl
theorem ext_run (s : ByteArray) {p : Nat} (h : p ≤ s.size) : (s.extract p (p + runLen (s.data.toList.drop p))).data.toList = (s.data.toList.drop p).take (runLen (s.data.toList.drop p)) ∧ (s.extract p (p + runLen (s.data.toList.drop p))).size = runLen (s.data.toList.drop p) := by
  have hle := runLen_le (s.data.toList.drop p)
  rw [List.length_drop, len_toList] at hle
  have h2 := ext_mid s (p := p) (q := p + runLen (s.data.toList.drop p)) (by omega) (by omega)
  rw [show p + runLen (s.data.toList.drop p) - p = runLen (s.data.toList.drop p) by omega] at h2
  exact h2
theorem head_at {x : ByteArray} {c : UInt8} {r : List UInt8} (h : x.data.toList = c :: r) (h0 : 0 < x.size) : x[0]'h0 = c := by
  have := list_at x h0
  exact (List.cons.inj (h.symm.trans this)).1.symm
theorem signT_rsg (l : List UInt8) : signT l = if rsg l = [] then .bad 31 else .tok ⟨7, rsg l, 0, 0⟩ (rsg l).length := by
  unfold signT rsg
  cases hf : sgs.find? (fun w => Lib.hasPrefix l w) with
  | none => simp
  | some w =>
    have h2 := sgs_len (List.mem_of_find?_eq_some hf)
    have : w ≠ [] := fun e => by rw [e] at h2; simp at h2
    simp [this]
end Go.Proofs.YthkbcgedjecnlaaDoor
