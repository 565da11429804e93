import Derived.Test.YthkbcgedjecnlaaDoorLexOwn
namespace Go.Proofs.YthkbcgedjecnlaaDoor
open Go.RowKit Go.Maps
set_option linter.unusedVariables false
set_option linter.unusedSimpArgs false
attribute [local go_sem ↓] Go.wp_at_zero Go.wp_at_succ

theorem quotU_nil (f : Nat) (out : List UInt8) (n : Nat) : quotU f [] out n = none := by cases f <;> rfl
theorem quotU_cons (f : Nat) (c : UInt8) (r out : List UInt8) (n : Nat) : quotU (f + 1) (c :: r) out n =
    if 200 < out.length then none else if c.toNat = 34 then some (out, n + 1) else match pieceU (c :: r) with | none => none | some (b, k) => quotU f ((c :: r).drop k) (out ++ [b]) (n + k) := rfl
theorem one_byte (w : World) (c : Int) : ∀ (j : Nat) (u : Value), ([.int .u8 c] : List Value)[j]? = some u → (w.alloc (.cells #[.int .u8 c] 5)).cell? ((⟨w.heap.size, 0, none⟩ : Addr).add j) = some u := by
  intro j u h
  have hj : j < 1 := (List.getElem?_eq_some_iff.1 h).1
  obtain rfl : j = 0 := by omega
  have e : (⟨w.heap.size, 0, none⟩ : Addr).add 0 = ⟨w.heap.size, 0, none⟩ := by rw [WideShapes.add_plain]
  rw [e]
  unfold World.cell?
  simp only [heap_new]
  simpa using h
theorem ext_end (s : ByteArray) {p : Nat} (h : p ≤ s.size) : (s.extract p s.size).data.toList = s.data.toList.drop p ∧ (s.extract p s.size).size = s.size - p := by
  have e : (s.extract p s.size).data.toList = s.data.toList.drop p := by
    rw [Lib.extract_data, List.take_of_length_le]
    rw [List.length_drop, len_toList]
    omega
  exact ⟨e, by rw [← len_toList, e, List.length_drop, len_toList]⟩

set_option maxHeartbeats 6400000 in
set_option maxRecDepth 100000 in
theorem quoted_any (s : ByteArray) (w : World) (hs : s.size ≤ 65536) (hs0 : 0 < s.size) : Calls Tryd.prog 27 #[.string s] w fun e w' => e = .returned (fstV (quotT s.data.toList)) ∧ Below w.heap.size w w' := by
  obtain ⟨i0, hi0, hz0, hz1, hz2⟩ := info_parts infoByte
  obtain ⟨q0, HQ⟩ : ∃ q0, Hid (quotU s.data.toList.length (s.data.toList.drop 1) [] 1 = q0) := ⟨_, rfl⟩
  obtain ⟨v, HVV⟩ : ∃ v, Hid (fstV (quotT s.data.toList) = v) := ⟨_, rfl⟩
  rw [HVV.out]
  have HVN : Hid (q0 = none → v = .tuple #[noTk, .int .i64 0, .int .i64 33]) := by
    intro h; rw [← HVV.out]; unfold quotT; rw [HQ.out, h]; rfl
  have HVS : Hid (∀ o n, q0 = some (o, n) → v = .tuple #[.agg #[.int .i8 5, .string ⟨o.toArray⟩, .int .i64 0, .int .i64 0], .int .i64 n, .int .i64 0]) := by
    intro o n h; rw [← HVV.out]; unfold quotT; rw [HQ.out, h]; rfl
  have HQ1 : Hid (∃ f, s.size + 1 ≤ 1 + f ∧ quotU f (s.data.toList.drop 1) [] 1 = q0) := ⟨_, by rw [len_toList]; omega, HQ.out⟩
  clear HVV HQ
  go_enter Tryd.func27, Tryd.ntmps27
  go_wp2
  have hO := own4 (Below.refl _ (w.alloc (.cells #[.int .i8 0, .string ⟨#[]⟩, .int .i64 0, .int .i64 0] 37)))
  have hB := (Below.refl w.heap.size w).alloc (Nat.le_refl _) (.cells #[.int .i8 0, .string ⟨#[]⟩, .int .i64 0, .int .i64 0] 37)
  generalize w.alloc (.cells #[.int .i8 0, .string ⟨#[]⟩, .int .i64 0, .int .i64 0] 37) = W at hO hB ⊢
  have HO : Hid _ := hO
  have HB : Hid _ := hB
  clear hO hB
  go_loopw [5, 6] (fun o i wr => ∃ p : Nat, 1 ≤ p ∧ p ≤ s.size ∧ i = .int .i64 p ∧ Below W.heap.size W wr ∧ ∃ out : List UInt8, wr.ownsRow W.heap.size 5 1 o out.length (Lib.byteCells out) ∧ out.length ≤ 201 ∧ Hid (∃ f, s.size + 1 ≤ p + f ∧ quotU f (s.data.toList.drop p) out p = q0)) (fun _ i _ => s.size - (intOf i).toNat)
  case atStart => exact ⟨1, Nat.le_refl _, hs0, rfl, Below.refl _ _, [], World.ownsRow_nil _ _ _ _, by simp, HQ1.out⟩
  case round =>
    obtain ⟨p, hp1, hp, rfl, bel, out, hown, hol, HF⟩ := hrel
    obtain ⟨ao, co, rfl, hlo, _⟩ := ownsRow_form hown
    have HOr : Hid _ := Own4.below HO.out bel
    have hbf := HB.out.trans (bel.mono HB.out.size)
    obtain ⟨⟨y0, y1, y2, y3, c0, c1, c2, c3⟩, f0, f1, f2, f3, hl⟩ := HOr.out
    clear HQ1
    by_cases hlt : p < s.size
    · have hlt' : (p : Int) < (s.size : Int) := by omega
      have hd := drop_at s hlt
      by_cases h200 : out.length ≤ 200
      · have h200' : (out.length : Int) ≤ 200 := by omega
        by_cases h34 : (s[p]'hlt).toNat = 34
        · have h34' : ((s[p]'hlt).toNat : Int) = 34 := by omega
          have HV : Hid (v = .tuple #[.agg #[.int .i8 5, .string ⟨out.toArray⟩, .int .i64 0, .int .i64 0], .int .i64 ((p : Int) + 1), .int .i64 0]) := by
            refine HVS.out _ (p + 1) ?_
            obtain ⟨f, hf, e⟩ := HF.out
            rw [← e, hd]
            obtain ⟨g, rfl⟩ : ∃ g, f = g + 1 := ⟨f - 1, by omega⟩
            rw [quotU_cons, if_neg (by omega), if_pos h34]
          have hcv := bytes_string hown
          clear HF hd hown HVN HVS
          generalize (⟨out.toArray⟩ : ByteArray) = ob at *
          go_wp2
          refine tok_done Tryd.results27 HOr.out (Nat.le_refl _) hbf ?_ ?_ ?_ HV.out <;> rfl
        · have h34' : ¬ ((s[p]'hlt).toNat : Int) = 34 := by omega
          obtain ⟨hxl, hxs⟩ := ext_end s hp
          have HX : Hid ((s.extract p s.size).data.toList = s.data.toList.drop p) := hxl
          have hx1 : (s.extract p s.size).size ≤ maxLen := by unfold maxLen; omega
          have hx0 : 0 < (s.extract p s.size).size := by omega
          have hxe : s.extract p s.size = s.extract p s.size := rfl
          obtain ⟨x, hx⟩ : ∃ x, s.extract p s.size = x := ⟨_, rfl⟩
          rw [hx] at hx1 hx0 HX
          clear hxe hxl hxs
          cases hpc : pieceU (s.data.toList.drop p) with
          | none =>
            have HV : Hid (v = .tuple #[noTk, .int .i64 0, .int .i64 33]) := by
              refine HVN.out ?_
              obtain ⟨f, hf, e⟩ := HF.out
              rw [← e, hd]
              obtain ⟨g, rfl⟩ : ∃ g, f = g + 1 := ⟨f - 1, by omega⟩
              rw [quotU_cons, if_neg (by omega), if_neg h34, ← hd, hpc]
            have HP : Hid (pcV (pieceU x.data.toList) = .tuple #[.int .u8 0, .int .i64 0]) := by show _ = _; rw [HX.out, hpc]; rfl
            clear HF hd hown HVN HVS HX hpc
            go_wp2_with (go_at_call 42; refine (piece_any x _ hx1 hx0).mono ?_; rw [HP.out]; rintro e w1 ⟨rfl, hb1⟩; have HO1 : Hid _ := Own4.below HOr.out hb1; have hbf1 := hbf.trans (hb1.mono hbf.size); clear hb1 hbf c0 c1 c2 c3 f0 f1 f2 f3 hl; obtain ⟨⟨z0, z1, z2, z3, c0, c1, c2, c3⟩, f0, f1, f2, f3, hl⟩ := HO1.out)
            refine tok_done Tryd.results27 HO1.out (Nat.le_refl _) hbf1 ?_ ?_ ?_ HV.out <;> rfl
          | some bk =>
            obtain ⟨b, k⟩ := bk
            have hk := pieceU_pos hpc
            rw [List.length_drop, len_toList] at hk
            have HN : Hid (∃ f, s.size + 1 ≤ (p + k) + f ∧ quotU f (s.data.toList.drop (p + k)) (out ++ [b]) (p + k) = q0) := by
              obtain ⟨f, hf, e⟩ := HF.out
              obtain ⟨g, rfl⟩ : ∃ g, f = g + 1 := ⟨f - 1, by omega⟩
              refine ⟨g, by omega, ?_⟩
              rw [← e, hd, quotU_cons, if_neg (by omega), if_neg h34, ← hd, hpc]
              simp only [List.drop_drop]
            have HP : Hid (pcV (pieceU x.data.toList) = .tuple #[.int .u8 (b.toNat : Int), .int .i64 k]) := by show _ = _; rw [HX.out, hpc]; rfl
            have hk0 : ¬ (k : Int) = 0 := by omega
            clear HF hd HVN HVS HX hpc c0 c1 c2 c3 f0 f1 f2 f3 hl hbf
            go_wp2_with (first
              | (go_at_call 42; refine (piece_any x _ hx1 hx0).mono ?_; rw [HP.out]; rintro e w1 ⟨rfl, hb1⟩; have bel1 := bel.trans (hb1.mono bel.size); have hown1 := own_below hown hb1; clear hb1 bel hown HOr)
              | (at_builtin; refine wpList_append_own_at _ rfl _ _ 54 rfl W.heap.size 5 i0 _ 1 1 Tryd.underlying54 hi0 hz0 hz1 hz2 rfl (by decide) _ _ _ rfl (own_below hown1 ((Below.refl _ _).alloc (Nat.le_refl _) _)) ⟨w1.heap.size, 0, none⟩ 1 1 [.int .u8 (b.toNat : Int)] rfl rfl (one_byte w1 _) (by simp [Value.oneCell']) (by unfold maxLen; omega) (by omega) (by have := bel1.size; simp; omega) ?_; intro v' w2 hown' hgrow hnil hloc))
            go_roundw
            case rel => exact ⟨p + k, by omega, by omega, by go_num, (bel1.alloc bel1.size _).grown hgrow (by have := bel1.size; simp; omega) (fun j hj => (hown1.lt j hj).1), out ++ [b], by rw [Lib.byteCells_append, List.length_append]; exact hown', by simp; omega, HN.out⟩
            case measure => simp [intOf]; omega
      · have h200' : ¬ (out.length : Int) ≤ 200 := by omega
        have HV : Hid (v = .tuple #[noTk, .int .i64 0, .int .i64 33]) := by
          refine HVN.out ?_
          obtain ⟨f, hf, e⟩ := HF.out
          rw [← e, hd]
          obtain ⟨g, rfl⟩ : ∃ g, f = g + 1 := ⟨f - 1, by omega⟩
          rw [quotU_cons, if_pos (by omega)]
        clear HF hd hown HVN HVS
        go_wp2
        refine tok_done Tryd.results27 HOr.out (Nat.le_refl _) hbf ?_ ?_ ?_ HV.out <;> rfl
    · have hlt' : ¬ (p : Int) < (s.size : Int) := by omega
      have HV : Hid (v = .tuple #[noTk, .int .i64 0, .int .i64 33]) := by
        refine HVN.out ?_
        obtain ⟨f, hf, e⟩ := HF.out
        rw [← e, drop_end s hlt, quotU_nil]
      clear HF hown HVN HVS
      go_wp2
      refine tok_done Tryd.results27 HOr.out (Nat.le_refl _) hbf ?_ ?_ ?_ HV.out <;> rfl
end Go.Proofs.YthkbcgedjecnlaaDoor
