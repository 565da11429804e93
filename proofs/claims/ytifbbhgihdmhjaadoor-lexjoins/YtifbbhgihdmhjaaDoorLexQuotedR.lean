import Derived.Test.YtifbbhgihdmhjaaDoorValueShow2
namespace Go.Proofs.YtifbbhgihdmhjaaDoor.VS
open Go.RowKit Go.Maps
set_option linter.unusedVariables false
set_option linter.unusedSimpArgs false
attribute [local go_sem ↓] Go.wp_at_zero Go.wp_at_succ

theorem wrap16' : ∀ q : Fin 16, IntKind.u8.wrap (q.val : Int) = (q.val : Int) := by decide
set_option maxHeartbeats 800000 in
set_option maxRecDepth 100000 in
theorem rquoted3_any (s : ByteArray) (w : World) (hs : s.size ≤ 200) : Calls Tryd.prog 28 #[.string s] w fun e w' => e = .returned (.string (quoteQ s)) ∧ Below w.heap.size w w' := by
  obtain ⟨i0, hi0, hz0, hz1, hz2⟩ := info_parts infoByte
  go_enter Tryd.func28, Tryd.ntmps28
  go_wp2
  go_loopw [4, 5] (fun o i wr => ∃ k : Nat, k ≤ s.size ∧ i = .int .i64 k ∧ Below w.heap.size w wr ∧ ∃ out : List UInt8, wr.ownsRow w.heap.size 5 1 o out.length (Lib.byteCells out) ∧ out.length ≤ 1 + 4 * k ∧ Hid (34 :: (s.data.toList.take k).flatMap pieceQ = out)) (fun _ i _ => s.size - (intOf i).toNat)
  case atStart => exact ⟨0, Nat.zero_le _, rfl, (Below.refl _ _).alloc (Nat.le_refl _) _, [34], World.ownsRow_lit w #[.int .u8 34] 1 (Nat.le_refl _) (by decide) rfl, by simp, by simp [Hid]⟩
  case round =>
    obtain ⟨k, hk, rfl, bel, out, hown, hol, HF⟩ := hrel
    obtain ⟨ao, co, rfl, hlo⟩ := own_form hown
    by_cases hlt : k < s.size
    · have hlt' : (k : Int) < (s.size : Int) := by omega
      have HN : Hid (34 :: (s.data.toList.take (k + 1)).flatMap pieceQ = out ++ pieceQ s[k]) := by
        show _ = _
        rw [take_more s hlt, List.flatMap_append, ← HF.out]
        simp
      have HP : Hid ((pieceQ s[k]).length ≤ 4) := (pieceQ_len _).2
      have hb8 : (s[k]'hlt).toNat < 256 := (s[k]'hlt).toNat_lt
      clear HF
      obtain ⟨c, hcc⟩ : ∃ c, s[k] = c := ⟨_, rfl⟩
      rw [hcc] at HN HP hb8
      by_cases h10 : c.toNat = 10
      · have h10' : (c.toNat : Int) = 10 := by omega
        have HE : Hid (pieceQ c = [92, 110]) := by show pieceQ c = _; unfold pieceQ; rw [if_pos h10]
        go_wp2_with (at_builtin; refine wpList_append_own_at _ rfl _ _ 35 rfl w.heap.size 5 i0 _ 1 1 Tryd.underlying35 hi0 hz0 hz1 hz2 rfl (by decide) _ _ _ rfl (own_below hown ((Below.refl _ _).alloc (Nat.le_refl _) _)) ⟨_, 0, none⟩ 2 2 [.int .u8 92, .int .u8 110] rfl rfl (lit_news _ #[.int .u8 92, .int .u8 110] _) (by simp [Value.oneCell']) (by unfold maxLen; omega) (by omega) (by have := bel.size; simp; omega) ?_; intro v' w2 hown' hgrow hnil hloc)
        go_roundw
        case rel => exact ⟨k + 1, by omega, by go_num, (bel.alloc bel.size _).grown hgrow (by have := bel.size; simp; omega) (fun j hj => (hown.lt j hj).1), out ++ [92, 110], by rw [Lib.byteCells_append, List.length_append]; exact hown', by simp; omega, by rw [← HE.out]; exact HN⟩
        case measure => simp [intOf]; omega
      · have h10' : ¬ (c.toNat : Int) = 10 := by omega
        by_cases h34 : c.toNat = 34 ∨ c.toNat = 92
        · have HE : Hid (pieceQ c = [92, c]) := by show pieceQ c = _; unfold pieceQ; rw [if_neg h10, if_pos h34]
          have hb10 : ((c.toNat : Int) == 10) = false := by simpa using h10'
          by_cases h3 : c.toNat = 34
          · have hb34 : ((c.toNat : Int) == 34) = true := by have : (c.toNat : Int) = 34 := by omega
                                                             simp [this]
            clear h10 h10' h34 h3
            go_wp2_with (at_builtin; refine wpList_append_own_at _ rfl _ _ 35 rfl w.heap.size 5 i0 _ 1 1 Tryd.underlying35 hi0 hz0 hz1 hz2 rfl (by decide) _ _ _ rfl (own_below hown ((Below.refl _ _).alloc (Nat.le_refl _) _)) ⟨_, 0, none⟩ 2 2 [.int .u8 92, .int .u8 (c.toNat : Int)] rfl rfl (lit_news _ #[.int .u8 92, .int .u8 (c.toNat : Int)] _) (by simp [Value.oneCell']) (by unfold maxLen; omega) (by omega) (by have := bel.size; simp; omega) ?_; intro v' w2 hown' hgrow hnil hloc)
            go_roundw
            case rel => exact ⟨k + 1, by omega, by go_num, (bel.alloc bel.size _).grown hgrow (by have := bel.size; simp; omega) (fun j hj => (hown.lt j hj).1), out ++ [92, c], by rw [Lib.byteCells_append, List.length_append]; exact hown', by simp; omega, by rw [← HE.out]; exact HN⟩
            case measure => simp [intOf]; omega
          · have hb34 : ((c.toNat : Int) == 34) = false := by have : ¬ (c.toNat : Int) = 34 := by omega
                                                              simpa using this
            have hb92 : ((c.toNat : Int) == 92) = true := by have : (c.toNat : Int) = 92 := by omega
                                                             simp [this]
            clear h10 h10' h34 h3
            go_wp2_with (at_builtin; refine wpList_append_own_at _ rfl _ _ 35 rfl w.heap.size 5 i0 _ 1 1 Tryd.underlying35 hi0 hz0 hz1 hz2 rfl (by decide) _ _ _ rfl (own_below hown ((Below.refl _ _).alloc (Nat.le_refl _) _)) ⟨_, 0, none⟩ 2 2 [.int .u8 92, .int .u8 (c.toNat : Int)] rfl rfl (lit_news _ #[.int .u8 92, .int .u8 (c.toNat : Int)] _) (by simp [Value.oneCell']) (by unfold maxLen; omega) (by omega) (by have := bel.size; simp; omega) ?_; intro v' w2 hown' hgrow hnil hloc)
            go_roundw
            case rel => exact ⟨k + 1, by omega, by go_num, (bel.alloc bel.size _).grown hgrow (by have := bel.size; simp; omega) (fun j hj => (hown.lt j hj).1), out ++ [92, c], by rw [Lib.byteCells_append, List.length_append]; exact hown', by simp; omega, by rw [← HE.out]; exact HN⟩
            case measure => simp [intOf]; omega
        · have h34' : ¬ (c.toNat : Int) = 34 := by omega
          have h92' : ¬ (c.toNat : Int) = 92 := by omega
          have hb10 : ((c.toNat : Int) == 10) = false := by simpa using h10'
          have hb34 : ((c.toNat : Int) == 34) = false := by simpa using h34'
          have hb92 : ((c.toNat : Int) == 92) = false := by simpa using h92'
          clear h34' h92' h10'
          by_cases hpr : 32 ≤ c.toNat ∧ c.toNat ≤ 126
          · have HE : Hid (pieceQ c = [c]) := by show pieceQ c = _; unfold pieceQ; rw [if_neg h10, if_neg h34, if_pos hpr]
            have hp1 : (32 : Int) ≤ (c.toNat : Int) := by omega
            have hp2 : (c.toNat : Int) ≤ 126 := by omega
            clear h10 h34 hpr
            go_wp2_with (at_builtin; refine wpList_append_own_at _ rfl _ _ 35 rfl w.heap.size 5 i0 _ 1 1 Tryd.underlying35 hi0 hz0 hz1 hz2 rfl (by decide) _ _ _ rfl (own_below hown ((Below.refl _ _).alloc (Nat.le_refl _) _)) ⟨_, 0, none⟩ 1 1 [.int .u8 (c.toNat : Int)] rfl rfl (lit_news _ #[.int .u8 (c.toNat : Int)] _) (by simp [Value.oneCell']) (by unfold maxLen; omega) (by omega) (by have := bel.size; simp; omega) ?_; intro v' w2 hown' hgrow hnil hloc)
            go_roundw
            case rel => exact ⟨k + 1, by omega, by go_num, (bel.alloc bel.size _).grown hgrow (by have := bel.size; simp; omega) (fun j hj => (hown.lt j hj).1), out ++ [c], by rw [Lib.byteCells_append, List.length_append]; exact hown', by simp; omega, by rw [← HE.out]; exact HN⟩
            case measure => simp [intOf]; omega
          · have HE : Hid (pieceQ c = [92, 120, hexU (c.toNat / 16), hexU (c.toNat % 16)]) := by show pieceQ c = _; unfold pieceQ; rw [if_neg h10, if_neg h34, if_neg hpr]
            have hp' : ¬ ((32 : Int) ≤ (c.toNat : Int) ∧ (c.toNat : Int) ≤ 126) := by omega
            clear h10 h34 hpr
            obtain ⟨q, hq⟩ : ∃ q, q = c.toNat / 16 := ⟨_, rfl⟩
            obtain ⟨r, hr⟩ : ∃ r, r = c.toNat % 16 := ⟨_, rfl⟩
            have hqi : (c.toNat : Int) / 16 = (q : Int) := by omega
            have hri : (c.toNat : Int) % 16 = (r : Int) := by omega
            have hwq : IntKind.u8.wrap (q : Int) = (q : Int) := wrap16' ⟨q, by omega⟩
            have hwr : IntKind.u8.wrap (r : Int) = (r : Int) := wrap16' ⟨r, by omega⟩
            have hqt : (c.toNat : Int).tdiv 16 = (q : Int) := by rw [Int.tdiv_eq_ediv_of_nonneg (by omega)]; exact hqi
            have hrt : (c.toNat : Int).tmod 16 = (r : Int) := by rw [Int.tmod_eq_emod_of_nonneg (by omega)]; exact hri
            have hq16 : q < 16 := by omega
            have hr16 : r < 16 := by omega
            have hq16' : (q : Int) < 16 := by omega
            have hr16' : (r : Int) < 16 := by omega
            have hxq := hex_at q hq16
            have hxr := hex_at r hr16
            rw [← hq, ← hr] at HE
            generalize hexU q = d1 at HE hxq
            generalize hexU r = d2 at HE hxr
            have HOWN : Hid ((wr.drew.alloc (.cells #[.int .u8 92, .int .u8 120, .int .u8 (d1.toNat : Int), .int .u8 (d2.toNat : Int)] 5)).ownsRow w.heap.size 5 1 (.slice ao out.length co) out.length (Lib.byteCells out)) :=
              own_of_block hown (fun g hg => Below.heap_alloc wr.drew _ g (hown.lt g hg).2)
            have HC : Hid (∀ (j : Nat) (u : Value), ([.int .u8 92, .int .u8 120, .int .u8 (d1.toNat : Int), .int .u8 (d2.toNat : Int)] : List Value)[j]? = some u → (wr.drew.alloc (.cells #[.int .u8 92, .int .u8 120, .int .u8 (d1.toNat : Int), .int .u8 (d2.toNat : Int)] 5)).cell? ((⟨wr.heap.size, 0, none⟩ : Addr).add j) = some u) := lit_news wr.drew #[.int .u8 92, .int .u8 120, .int .u8 (d1.toNat : Int), .int .u8 (d2.toNat : Int)] _
            have HSZ : Hid (w.heap.size ≤ (wr.drew.alloc (.cells #[.int .u8 92, .int .u8 120, .int .u8 (d1.toNat : Int), .int .u8 (d2.toNat : Int)] 5)).heap.size) := by show _ ≤ _; have := bel.size; simp; omega
            have HFIN : Hid (∀ {w2 : World}, (wr.drew.alloc (.cells #[.int .u8 92, .int .u8 120, .int .u8 (d1.toNat : Int), .int .u8 (d2.toNat : Int)] 5)).grownBy w2 (Value.slice ao out.length co).ownBlock → Below w.heap.size w w2) := fun hg => (bel.drew.alloc bel.drew.size _).grown hg (by have := bel.size; simp; omega) (fun j hj => (hown.lt j hj).1)
            clear hq hr hb8
            by_cases hp1 : (32 : Int) ≤ (c.toNat : Int)
            · have hp2 : ¬ (c.toNat : Int) ≤ 126 := by omega
              clear hp'
              go_wp2_with fail
              go_region_law (
                refine step_append_own rfl (.tmp 42) (.tmp 51) 35 rfl 5 i0 _ 1 1 Tryd.underlying35 hi0 hz0 hz1 hz2 rfl (by decide) w.heap.size (.slice ao out.length co) out.length _ (by simp [Act.eval, Act.put]) HOWN.out ⟨wr.heap.size, 0, none⟩ 4 4 [.int .u8 92, .int .u8 120, .int .u8 (d1.toNat : Int), .int .u8 (d2.toNat : Int)] (by simp [Act.eval, Act.put]) rfl HC.out (by simp [Value.oneCell']) (by unfold maxLen; omega) (by omega) HSZ.out ?_
                intro v' w2 hown' hgrow hloc)
              all_goals
                go_wp2
                go_roundw
                case rel => exact ⟨k + 1, by omega, by go_num, HFIN.out hgrow, out ++ [92, 120, d1, d2], by rw [Lib.byteCells_append, List.length_append]; exact hown', by simp; omega, by rw [← HE.out]; exact HN⟩
                case measure => simp [intOf]; omega
            · clear hp'
              go_wp2_with fail
              go_region_law (
                refine step_append_own rfl (.tmp 42) (.tmp 51) 35 rfl 5 i0 _ 1 1 Tryd.underlying35 hi0 hz0 hz1 hz2 rfl (by decide) w.heap.size (.slice ao out.length co) out.length _ (by simp [Act.eval, Act.put]) HOWN.out ⟨wr.heap.size, 0, none⟩ 4 4 [.int .u8 92, .int .u8 120, .int .u8 (d1.toNat : Int), .int .u8 (d2.toNat : Int)] (by simp [Act.eval, Act.put]) rfl HC.out (by simp [Value.oneCell']) (by unfold maxLen; omega) (by omega) HSZ.out ?_
                intro v' w2 hown' hgrow hloc)
              all_goals
                go_wp2
                go_roundw
                case rel => exact ⟨k + 1, by omega, by go_num, HFIN.out hgrow, out ++ [92, 120, d1, d2], by rw [Lib.byteCells_append, List.length_append]; exact hown', by simp; omega, by rw [← HE.out]; exact HN⟩
                case measure => simp [intOf]; omega
    · obtain rfl : k = s.size := by omega
      have HV : Hid ((⟨(out ++ [34]).toArray⟩ : ByteArray) = quoteQ s) := by
        show _ = quoteQ s
        unfold quoteQ
        rw [← HF.out, List.take_of_length_le (by rw [len_toList]; exact Nat.le_refl _)]
      go_wp2_with (at_builtin; refine wpList_append_own_at _ rfl _ _ 35 rfl w.heap.size 5 i0 _ 1 1 Tryd.underlying35 hi0 hz0 hz1 hz2 rfl (by decide) _ _ _ rfl (own_below hown ((Below.refl _ _).alloc (Nat.le_refl _) _)) ⟨_, 0, none⟩ 1 1 [.int .u8 34] rfl rfl (lit_news _ #[.int .u8 34] _) (by simp [Value.oneCell']) (by unfold maxLen; omega) (by omega) (by have := bel.size; simp; omega) ?_; intro v' w2 hown' hgrow hnil hloc; have hcv := bytes_string (out := out ++ [34]) (by rw [Lib.byteCells_append]; exact hown'); obtain ⟨a2, c2, rfl, _⟩ := own_form hown')
      go_ret
      exact ⟨by rw [HV.out]; rfl, (bel.alloc bel.size _).grown hgrow (by have := bel.size; simp; omega) (fun j hj => (hown.lt j hj).1)⟩

theorem snoc_bytes (b : UInt8) (t : List UInt8) : (⟨t.toArray⟩ : ByteArray) ++ ⟨#[b]⟩ = ⟨(t ++ [b]).toArray⟩ := by
  have e : ((⟨t.toArray⟩ : ByteArray) ++ ⟨#[b]⟩).data = (t ++ [b]).toArray := by
    rw [ByteArray.data_append]
    simp
  cases h : ((⟨t.toArray⟩ : ByteArray) ++ ⟨#[b]⟩) with
  | mk d => rw [h] at e; simp only at e; rw [e]
theorem dec_ge {m : Nat} (h : ¬ m < 10) : Lib.decDigits m = Lib.decDigits (m / 10) ++ [digB m] := by
  have := dec_step h []
  rw [List.append_nil] at this
  rw [this]
theorem dec_lt {m : Nat} (h : m < 10) : Lib.decDigits m = [digB m] := by
  have := dec_last h []
  rwa [List.append_nil] at this
theorem cell_one {B : Nat} (w : World) (x : Int) {w1 : World} (hb : Below B (w.alloc (.cells #[.int .u8 x] 5)).drew w1) (hB : w.heap.size < B) : w1.cell? ⟨w.heap.size, 0, none⟩ = some (.int .u8 x) := by
  rw [hb.cell (p := ⟨w.heap.size, 0, none⟩) hB]
  go_simp
theorem conv_one {w1 : World} (b : UInt8) {x : Int} (g : Nat) (hx : x = (b.toNat : Int)) (hc : w1.cell? ⟨g, 0, none⟩ = some (.int .u8 x)) : (convert 35 9 (.slice (some ⟨g, 0, none⟩) 1 1)).run Tryd.prog w1 = .ok (.string ⟨#[b]⟩) w1 := by
  have h := run_convert_bytes_back (P := Tryd.prog) w1 35 9 5 ⟨g, 0, none⟩ 1 [b] Tryd.underlying35 Tryd.underlying5 Tryd.underlying9 (fun j hj => by
    obtain rfl : j = 0 := by simpa using hj
    simp [Addr.add]
    rw [hc, hx])
  exact h
set_option maxRecDepth 100000 in
set_option maxHeartbeats 1600000 in
theorem decimal_any : ∀ (k u : Nat), u < 10 ^ (k + 1) → u < 18446744073709551616 → ∀ w : World, Calls Tryd.prog 27 #[.int .u64 u] w fun e w' => e = .returned (.string ⟨(Lib.decDigits u).toArray⟩) ∧ Below w.heap.size w w' := by
  intro k
  induction k with
  | zero =>
    intro u hk hu w
    have hlt : u < 10 := by simpa using hk
    have hlt' : (u : Int) < 10 := by omega
    have hB := digB_nat u
    have hcv := one_string w (digB u) (x := 48 + (u : Int)) (by rw [hB]; omega)
    have HD : Hid (Lib.decDigits u = [digB u]) := dec_lt hlt
    clear hB hk
    go_enter Tryd.func27, Tryd.ntmps27
    go_wp2
    go_ret
    exact ⟨by rw [HD.out]; rfl, (Below.refl _ _).alloc (Nat.le_refl _) _⟩
  | succ k ih =>
    intro u hk hu w
    by_cases hlt : u < 10
    · have hlt' : (u : Int) < 10 := by omega
      have hB := digB_nat u
      have hcv := one_string w (digB u) (x := 48 + (u : Int)) (by rw [hB]; omega)
      have HD : Hid (Lib.decDigits u = [digB u]) := dec_lt hlt
      clear hB hk ih
      go_enter Tryd.func27, Tryd.ntmps27
      go_wp2
      go_ret
      exact ⟨by rw [HD.out]; rfl, (Below.refl _ _).alloc (Nat.le_refl _) _⟩
    · have hlt' : ¬ (u : Int) < 10 := by omega
      obtain ⟨q, hq0⟩ : ∃ q, q = u / 10 := ⟨_, rfl⟩
      have hq : (u : Int) / 10 = (q : Int) := by omega
      have hqt : (u : Int).tdiv 10 = (q : Int) := by rw [Int.tdiv_eq_ediv_of_nonneg (by omega)]; exact hq
      obtain ⟨r, hr0⟩ : ∃ r, r = u % 10 := ⟨_, rfl⟩
      have hri : (u : Int) % 10 = (r : Int) := by omega
      have hrt : (u : Int).tmod 10 = (r : Int) := by rw [Int.tmod_eq_emod_of_nonneg (by omega)]; exact hri
      have hr10 : (r : Int) < 10 := by omega
      have hqm : (q : Int) < 18446744073709551616 := by omega
      have hwq : IntKind.u64.wrap (q : Int) = (q : Int) := by rw [IntKind.wrap_u64]; omega
      have hwr : IntKind.u64.wrap (r : Int) = (r : Int) := by rw [IntKind.wrap_u64]; omega
      have hw1 : IntKind.u64.wrap (48 + (r : Int)) = 48 + (r : Int) := by rw [IntKind.wrap_u64]; omega
      have hw2 : IntKind.u8.wrap (48 + (r : Int)) = 48 + (r : Int) := by rw [IntKind.wrap_u8]; omega
      have hqk : q < 10 ^ (k + 1) := by rw [hq0]; rw [Nat.pow_succ] at hk; omega
      have HI : Hid (∀ w : World, Calls Tryd.prog 27 #[.int .u64 q] w fun e w' => e = .returned (.string ⟨(Lib.decDigits q).toArray⟩) ∧ Below w.heap.size w w') := fun w => ih q hqk (by omega) w
      have hL : (⟨(Lib.decDigits q).toArray⟩ : ByteArray).size ≤ 20 := by
        show (Lib.decDigits q).toArray.size ≤ 20
        simp only [List.size_toArray]
        rw [Lib.decDigits_length]
        exact nDig_le 19 q (by omega)
      have hsn := snoc_bytes (digB u) (Lib.decDigits q)
      have HD : Hid (Lib.decDigits u = Lib.decDigits q ++ [digB u]) := by show _ = _; rw [hq0]; exact dec_ge hlt
      have hB : 48 + (r : Int) = ((digB u).toNat : Int) := by rw [← hri]; exact (digB_nat u).symm
      obtain ⟨A, hA⟩ : ∃ A, A = (⟨(Lib.decDigits q).toArray⟩ : ByteArray) := ⟨_, rfl⟩
      obtain ⟨C, hC⟩ : ∃ C, C = (⟨(Lib.decDigits q ++ [digB u]).toArray⟩ : ByteArray) := ⟨_, rfl⟩
      obtain ⟨B, hBB⟩ : ∃ B, B = (⟨#[digB u]⟩ : ByteArray) := ⟨_, rfl⟩
      have hB1 : B.size = 1 := by rw [hBB]; rfl
      have HCV : Hid (∀ (w1 : World) (g : Nat), w1.cell? ⟨g, 0, none⟩ = some (.int .u8 (48 + (r : Int))) → (convert 35 9 (.slice (some ⟨g, 0, none⟩) 1 1)).run Tryd.prog w1 = .ok (.string B) w1) := fun w1 g hc => by rw [hBB]; exact conv_one (digB u) g hB hc
      rw [← hA] at HI hL hsn
      rw [← hC, ← hBB] at hsn
      have HC : Hid (⟨(Lib.decDigits u).toArray⟩ = C) := by show _ = C; rw [hC, HD.out]
      rw [HC.out]
      have hadd : ∀ W : World, (binOp .add 9 (.string A) (.string B)).run Tryd.prog W = .ok (.string C) W := by
        intro W
        rw [binOp_string_add, run_string_add_sum W A B (by omega), hsn]
      have hadd2 : ∀ W : World, (Op.stringOp .add A B).run Tryd.prog W = .ok (.string C) W := by
        intro W
        rw [run_string_add_sum W A B (by omega), hsn]
      clear hk ih hqk hA hC hBB HD hB HC hq0 hlt hu hr0 hq hri
      have HONE : Hid (∀ W : World, (convert 35 9 (.slice (some ⟨W.heap.size, 0, none⟩) 1 1)).run Tryd.prog (W.alloc (.cells #[.int .u8 (48 + (r : Int))] 5)) = .ok (.string B) (W.alloc (.cells #[.int .u8 (48 + (r : Int))] 5))) := fun W => HCV.out _ _ (by go_simp)
      have hcvB : (convert 35 9 (.slice (some ⟨w.heap.size, 0, none⟩) 1 1)).run Tryd.prog (w.alloc (.cells #[.int .u8 (48 + (r : Int))] 5)).drew = .ok (.string B) (w.alloc (.cells #[.int .u8 (48 + (r : Int))] 5)).drew := HCV.out _ _ (by go_simp)
      go_enter Tryd.func27, Tryd.ntmps27
      go_wp2_with fail
      go_region_with (go_at_call 27; refine (HI.out _).mono ?_; rintro e w1 ⟨rfl, hb1⟩; have hcvC := HONE.out w1; try (have hc1 : w1.cell? ⟨w.heap.size, 0, none⟩ = some (.int .u8 (48 + (r : Int))) := cell_one w _ hb1 (by simp); have hcv1 := HCV.out _ _ hc1))
      all_goals
        go_wp2
        go_ret
        refine ⟨rfl, ?_⟩
        first
          | exact ((Below.refl _ w).drew.trans hb1).alloc hb1.size _
          | exact ((Below.refl _ w).alloc (Nat.le_refl _) _).drew.trans (hb1.mono (by simp))
          | trace_state
end Go.Proofs.YtifbbhgihdmhjaaDoor.VS
