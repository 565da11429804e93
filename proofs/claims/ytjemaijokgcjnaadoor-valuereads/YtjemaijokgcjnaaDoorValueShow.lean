import Derived.Test.YtjemaijokgcjnaaDoorTermAtom
import Derived.Test.YtjemaijokgcjnaaDoorShelf
import Derived.Lib.ItoaNum
import Derived.Lib.AppendIntMem
import Derived.Lib.LaidTab
namespace Go.Proofs.YtjemaijokgcjnaaDoor
open Go.RowKit Go.Maps
set_option linter.unusedVariables false
set_option linter.unusedSimpArgs false
attribute [local go_sem ↓] Go.wp_at_zero Go.wp_at_succ

theorem wrap16 : ∀ q : Fin 16, IntKind.u8.wrap (q.val : Int) = (q.val : Int) := by decide
set_option maxHeartbeats 800000 in
set_option maxRecDepth 100000 in
theorem quoted_any (s : ByteArray) (w : World) (hs : s.size ≤ 200) : Calls Tryd.prog 25 #[.string s] w fun e w' => e = .returned (.string (quoteQ s)) ∧ Below w.heap.size w w' := by
  obtain ⟨i0, hi0, hz0, hz1, hz2⟩ := info_parts infoByte
  go_enter Tryd.func25, Tryd.ntmps25
  go_wp2
  go_loopw [4, 5] (fun o i wr => ∃ k : Nat, k ≤ s.size ∧ i = .int .i64 k ∧ Below w.heap.size w wr ∧ ∃ out : List UInt8, wr.ownsRow w.heap.size 5 1 o out.length (Lib.byteCells out) ∧ out.length ≤ 1 + 4 * k ∧ Hid (34 :: (s.data.toList.take k).flatMap pieceQ = out)) (fun _ i _ => s.size - (intOf i).toNat)
  case atStart => exact ⟨0, Nat.zero_le _, rfl, (Below.refl _ _).alloc (Nat.le_refl _) _, [34], World.ownsRow_lit w #[.int .u8 34] 1 (Nat.le_refl _) (by decide) rfl, by simp, by simp [Hid]⟩
  case round =>
    obtain ⟨k, hk, rfl, bel, out, hown, hol, HF⟩ := hrel
    obtain ⟨ao, co, rfl, hlo⟩ := own_form hown
    by_cases hlt : k < s.size
    · have hlt' : (k : Int) < (s.size : Int) := by omega
      have HN : Hid (34 :: (s.data.toList.take (k + 1)).flatMap pieceQ = out ++ pieceQ s[k]) := by
        show _ = _
        rw [take_more s hlt, List.flatMap_append, ← HF.out]
        simp
      have HP : Hid ((pieceQ s[k]).length ≤ 4) := (pieceQ_len _).2
      have hb8 : (s[k]'hlt).toNat < 256 := (s[k]'hlt).toNat_lt
      clear HF
      obtain ⟨c, hcc⟩ : ∃ c, s[k] = c := ⟨_, rfl⟩
      rw [hcc] at HN HP hb8
      by_cases h10 : c.toNat = 10
      · have h10' : (c.toNat : Int) = 10 := by omega
        have HE : Hid (pieceQ c = [92, 110]) := by show pieceQ c = _; unfold pieceQ; rw [if_pos h10]
        go_wp2_with (at_builtin; refine wpList_append_own_at _ rfl _ _ 46 rfl w.heap.size 5 i0 _ 1 1 Tryd.underlying46 hi0 hz0 hz1 hz2 rfl (by decide) _ _ _ rfl (own_below hown ((Below.refl _ _).alloc (Nat.le_refl _) _)) ⟨_, 0, none⟩ 2 2 [.int .u8 92, .int .u8 110] rfl rfl (lit_news _ #[.int .u8 92, .int .u8 110] _) (by simp [Value.oneCell']) (by unfold maxLen; omega) (by omega) (by have := bel.size; simp; omega) ?_; intro v' w2 hown' hgrow hnil hloc)
        go_roundw
        case rel => exact ⟨k + 1, by omega, by go_num, (bel.alloc bel.size _).grown hgrow (by have := bel.size; simp; omega) (fun j hj => (hown.lt j hj).1), out ++ [92, 110], by rw [Lib.byteCells_append, List.length_append]; exact hown', by simp; omega, by rw [← HE.out]; exact HN⟩
        case measure => simp [intOf]; omega
      · have h10' : ¬ (c.toNat : Int) = 10 := by omega
        by_cases h34 : c.toNat = 34 ∨ c.toNat = 92
        · have HE : Hid (pieceQ c = [92, c]) := by show pieceQ c = _; unfold pieceQ; rw [if_neg h10, if_pos h34]
          have hb10 : ((c.toNat : Int) == 10) = false := by simpa using h10'
          by_cases h3 : c.toNat = 34
          · have hb34 : ((c.toNat : Int) == 34) = true := by have : (c.toNat : Int) = 34 := by omega
                                                             simp [this]
            clear h10 h10' h34 h3
            go_wp2_with (at_builtin; refine wpList_append_own_at _ rfl _ _ 46 rfl w.heap.size 5 i0 _ 1 1 Tryd.underlying46 hi0 hz0 hz1 hz2 rfl (by decide) _ _ _ rfl (own_below hown ((Below.refl _ _).alloc (Nat.le_refl _) _)) ⟨_, 0, none⟩ 2 2 [.int .u8 92, .int .u8 (c.toNat : Int)] rfl rfl (lit_news _ #[.int .u8 92, .int .u8 (c.toNat : Int)] _) (by simp [Value.oneCell']) (by unfold maxLen; omega) (by omega) (by have := bel.size; simp; omega) ?_; intro v' w2 hown' hgrow hnil hloc)
            go_roundw
            case rel => exact ⟨k + 1, by omega, by go_num, (bel.alloc bel.size _).grown hgrow (by have := bel.size; simp; omega) (fun j hj => (hown.lt j hj).1), out ++ [92, c], by rw [Lib.byteCells_append, List.length_append]; exact hown', by simp; omega, by rw [← HE.out]; exact HN⟩
            case measure => simp [intOf]; omega
          · have hb34 : ((c.toNat : Int) == 34) = false := by have : ¬ (c.toNat : Int) = 34 := by omega
                                                              simpa using this
            have hb92 : ((c.toNat : Int) == 92) = true := by have : (c.toNat : Int) = 92 := by omega
                                                             simp [this]
            clear h10 h10' h34 h3
            go_wp2_with (at_builtin; refine wpList_append_own_at _ rfl _ _ 46 rfl w.heap.size 5 i0 _ 1 1 Tryd.underlying46 hi0 hz0 hz1 hz2 rfl (by decide) _ _ _ rfl (own_below hown ((Below.refl _ _).alloc (Nat.le_refl _) _)) ⟨_, 0, none⟩ 2 2 [.int .u8 92, .int .u8 (c.toNat : Int)] rfl rfl (lit_news _ #[.int .u8 92, .int .u8 (c.toNat : Int)] _) (by simp [Value.oneCell']) (by unfold maxLen; omega) (by omega) (by have := bel.size; simp; omega) ?_; intro v' w2 hown' hgrow hnil hloc)
            go_roundw
            case rel => exact ⟨k + 1, by omega, by go_num, (bel.alloc bel.size _).grown hgrow (by have := bel.size; simp; omega) (fun j hj => (hown.lt j hj).1), out ++ [92, c], by rw [Lib.byteCells_append, List.length_append]; exact hown', by simp; omega, by rw [← HE.out]; exact HN⟩
            case measure => simp [intOf]; omega
        · have h34' : ¬ (c.toNat : Int) = 34 := by omega
          have h92' : ¬ (c.toNat : Int) = 92 := by omega
          have hb10 : ((c.toNat : Int) == 10) = false := by simpa using h10'
          have hb34 : ((c.toNat : Int) == 34) = false := by simpa using h34'
          have hb92 : ((c.toNat : Int) == 92) = false := by simpa using h92'
          clear h34' h92' h10'
          by_cases hpr : 32 ≤ c.toNat ∧ c.toNat ≤ 126
          · have HE : Hid (pieceQ c = [c]) := by show pieceQ c = _; unfold pieceQ; rw [if_neg h10, if_neg h34, if_pos hpr]
            have hp1 : (32 : Int) ≤ (c.toNat : Int) := by omega
            have hp2 : (c.toNat : Int) ≤ 126 := by omega
            clear h10 h34 hpr
            go_wp2_with (at_builtin; refine wpList_append_own_at _ rfl _ _ 46 rfl w.heap.size 5 i0 _ 1 1 Tryd.underlying46 hi0 hz0 hz1 hz2 rfl (by decide) _ _ _ rfl (own_below hown ((Below.refl _ _).alloc (Nat.le_refl _) _)) ⟨_, 0, none⟩ 1 1 [.int .u8 (c.toNat : Int)] rfl rfl (lit_news _ #[.int .u8 (c.toNat : Int)] _) (by simp [Value.oneCell']) (by unfold maxLen; omega) (by omega) (by have := bel.size; simp; omega) ?_; intro v' w2 hown' hgrow hnil hloc)
            go_roundw
            case rel => exact ⟨k + 1, by omega, by go_num, (bel.alloc bel.size _).grown hgrow (by have := bel.size; simp; omega) (fun j hj => (hown.lt j hj).1), out ++ [c], by rw [Lib.byteCells_append, List.length_append]; exact hown', by simp; omega, by rw [← HE.out]; exact HN⟩
            case measure => simp [intOf]; omega
          · have HE : Hid (pieceQ c = [92, 120, hexU (c.toNat / 16), hexU (c.toNat % 16)]) := by show pieceQ c = _; unfold pieceQ; rw [if_neg h10, if_neg h34, if_neg hpr]
            have hp' : ¬ ((32 : Int) ≤ (c.toNat : Int) ∧ (c.toNat : Int) ≤ 126) := by omega
            clear h10 h34 hpr
            obtain ⟨q, hq⟩ : ∃ q, q = c.toNat / 16 := ⟨_, rfl⟩
            obtain ⟨r, hr⟩ : ∃ r, r = c.toNat % 16 := ⟨_, rfl⟩
            have hqi : (c.toNat : Int) / 16 = (q : Int) := by omega
            have hri : (c.toNat : Int) % 16 = (r : Int) := by omega
            have hwq : IntKind.u8.wrap (q : Int) = (q : Int) := wrap16 ⟨q, by omega⟩
            have hwr : IntKind.u8.wrap (r : Int) = (r : Int) := wrap16 ⟨r, by omega⟩
            have hqt : (c.toNat : Int).tdiv 16 = (q : Int) := by rw [Int.tdiv_eq_ediv_of_nonneg (by omega)]; exact hqi
            have hrt : (c.toNat : Int).tmod 16 = (r : Int) := by rw [Int.tmod_eq_emod_of_nonneg (by omega)]; exact hri
            have hq16 : q < 16 := by omega
            have hr16 : r < 16 := by omega
            have hq16' : (q : Int) < 16 := by omega
            have hr16' : (r : Int) < 16 := by omega
            have hxq := hex_at q hq16
            have hxr := hex_at r hr16
            rw [← hq, ← hr] at HE
            generalize hexU q = d1 at HE hxq
            generalize hexU r = d2 at HE hxr
            have HOWN : Hid ((wr.drew.alloc (.cells #[.int .u8 92, .int .u8 120, .int .u8 (d1.toNat : Int), .int .u8 (d2.toNat : Int)] 5)).ownsRow w.heap.size 5 1 (.slice ao out.length co) out.length (Lib.byteCells out)) :=
              own_of_block hown (fun g hg => Below.heap_alloc wr.drew _ g (hown.lt g hg).2)
            have HC : Hid (∀ (j : Nat) (u : Value), ([.int .u8 92, .int .u8 120, .int .u8 (d1.toNat : Int), .int .u8 (d2.toNat : Int)] : List Value)[j]? = some u → (wr.drew.alloc (.cells #[.int .u8 92, .int .u8 120, .int .u8 (d1.toNat : Int), .int .u8 (d2.toNat : Int)] 5)).cell? ((⟨wr.heap.size, 0, none⟩ : Addr).add j) = some u) := lit_news wr.drew #[.int .u8 92, .int .u8 120, .int .u8 (d1.toNat : Int), .int .u8 (d2.toNat : Int)] _
            have HSZ : Hid (w.heap.size ≤ (wr.drew.alloc (.cells #[.int .u8 92, .int .u8 120, .int .u8 (d1.toNat : Int), .int .u8 (d2.toNat : Int)] 5)).heap.size) := by show _ ≤ _; have := bel.size; simp; omega
            have HFIN : Hid (∀ {w2 : World}, (wr.drew.alloc (.cells #[.int .u8 92, .int .u8 120, .int .u8 (d1.toNat : Int), .int .u8 (d2.toNat : Int)] 5)).grownBy w2 (Value.slice ao out.length co).ownBlock → Below w.heap.size w w2) := fun hg => (bel.drew.alloc bel.drew.size _).grown hg (by have := bel.size; simp; omega) (fun j hj => (hown.lt j hj).1)
            clear hq hr hb8
            by_cases hp1 : (32 : Int) ≤ (c.toNat : Int)
            · have hp2 : ¬ (c.toNat : Int) ≤ 126 := by omega
              clear hp'
              go_wp2_with fail
              go_region_law (
                refine step_append_own rfl (.tmp 17) (.tmp 26) 46 rfl 5 i0 _ 1 1 Tryd.underlying46 hi0 hz0 hz1 hz2 rfl (by decide) w.heap.size (.slice ao out.length co) out.length _ (by simp [Act.eval, Act.put]) HOWN.out ⟨wr.heap.size, 0, none⟩ 4 4 [.int .u8 92, .int .u8 120, .int .u8 (d1.toNat : Int), .int .u8 (d2.toNat : Int)] (by simp [Act.eval, Act.put]) rfl HC.out (by simp [Value.oneCell']) (by unfold maxLen; omega) (by omega) HSZ.out ?_
                intro v' w2 hown' hgrow hloc)
              all_goals
                go_wp2
                go_roundw
                case rel => exact ⟨k + 1, by omega, by go_num, HFIN.out hgrow, out ++ [92, 120, d1, d2], by rw [Lib.byteCells_append, List.length_append]; exact hown', by simp; omega, by rw [← HE.out]; exact HN⟩
                case measure => simp [intOf]; omega
            · clear hp'
              go_wp2_with fail
              go_region_law (
                refine step_append_own rfl (.tmp 17) (.tmp 26) 46 rfl 5 i0 _ 1 1 Tryd.underlying46 hi0 hz0 hz1 hz2 rfl (by decide) w.heap.size (.slice ao out.length co) out.length _ (by simp [Act.eval, Act.put]) HOWN.out ⟨wr.heap.size, 0, none⟩ 4 4 [.int .u8 92, .int .u8 120, .int .u8 (d1.toNat : Int), .int .u8 (d2.toNat : Int)] (by simp [Act.eval, Act.put]) rfl HC.out (by simp [Value.oneCell']) (by unfold maxLen; omega) (by omega) HSZ.out ?_
                intro v' w2 hown' hgrow hloc)
              all_goals
                go_wp2
                go_roundw
                case rel => exact ⟨k + 1, by omega, by go_num, HFIN.out hgrow, out ++ [92, 120, d1, d2], by rw [Lib.byteCells_append, List.length_append]; exact hown', by simp; omega, by rw [← HE.out]; exact HN⟩
                case measure => simp [intOf]; omega
    · obtain rfl : k = s.size := by omega
      have HV : Hid ((⟨(out ++ [34]).toArray⟩ : ByteArray) = quoteQ s) := by
        show _ = quoteQ s
        unfold quoteQ
        rw [← HF.out, List.take_of_length_le (by rw [len_toList]; exact Nat.le_refl _)]
      go_wp2_with (at_builtin; refine wpList_append_own_at _ rfl _ _ 46 rfl w.heap.size 5 i0 _ 1 1 Tryd.underlying46 hi0 hz0 hz1 hz2 rfl (by decide) _ _ _ rfl (own_below hown ((Below.refl _ _).alloc (Nat.le_refl _) _)) ⟨_, 0, none⟩ 1 1 [.int .u8 34] rfl rfl (lit_news _ #[.int .u8 34] _) (by simp [Value.oneCell']) (by unfold maxLen; omega) (by omega) (by have := bel.size; simp; omega) ?_; intro v' w2 hown' hgrow hnil hloc; have hcv := bytes_string (out := out ++ [34]) (by rw [Lib.byteCells_append]; exact hown'); obtain ⟨a2, c2, rfl, _⟩ := own_form hown')
      go_ret
      exact ⟨by rw [HV.out]; rfl, (bel.alloc bel.size _).grown hgrow (by have := bel.size; simp; omega) (fun j hj => (hown.lt j hj).1)⟩

theorem nDig_le : ∀ (k u : Nat), u < 10 ^ (k + 1) → Lib.nDigits u ≤ k + 1
  | 0, u, h => by rw [Lib.nDigits_small (by simpa using h)]; omega
  | k + 1, u, h => by
    by_cases h1 : u < 10
    · rw [Lib.nDigits_small h1]; omega
    · rw [Lib.nDigits_big h1]
      have := nDig_le k (u / 10) (by rw [Nat.pow_succ] at h; omega)
      omega
def digB (m : Nat) : UInt8 := UInt8.ofNat (48 + m % 10)
theorem dec_step {m : Nat} (h : ¬ m < 10) (t : List UInt8) : Lib.decDigits m ++ t = Lib.decDigits (m / 10) ++ (digB m :: t) := by
  rw [Lib.decDigits, dif_neg h]
  simp [digB]
theorem dec_last {m : Nat} (h : m < 10) (t : List UInt8) : Lib.decDigits m ++ t = digB m :: t := by
  rw [Lib.decDigits, dif_pos h]
  simp [digB, Nat.mod_eq_of_lt h]
theorem digB_nat (m : Nat) : ((digB m).toNat : Int) = 48 + (m : Int) % 10 := by
  unfold digB
  have : (UInt8.ofNat (48 + m % 10)).toNat = 48 + m % 10 := by
    rw [UInt8.toNat_ofNat']
    omega
  rw [this]
  omega
theorem one_string (w : World) (b : UInt8) {x : Int} (hx : x = (b.toNat : Int)) : (convert 46 9 (.slice (some ⟨w.heap.size, 0, none⟩) 1 1)).run Tryd.prog (w.alloc (.cells #[.int .u8 x] 5)) = .ok (.string ⟨#[b]⟩) (w.alloc (.cells #[.int .u8 x] 5)) := by
  subst hx
  exact bytes_string (base := 0) (out := [b]) (World.ownsRow_lit w #[.int .u8 (b.toNat : Int)] 1 (Nat.zero_le _) (by decide) rfl)
theorem cons_bytes (b : UInt8) (t : List UInt8) : (⟨#[b]⟩ : ByteArray) ++ ⟨t.toArray⟩ = ⟨(b :: t).toArray⟩ := by
  have e : ((⟨#[b]⟩ : ByteArray) ++ ⟨t.toArray⟩).data = (b :: t).toArray := by
    rw [ByteArray.data_append]
    simp
  cases h : ((⟨#[b]⟩ : ByteArray) ++ ⟨t.toArray⟩) with
  | mk d => rw [h] at e; simp only at e; rw [e]
set_option maxHeartbeats 800000 in
theorem digits_any (u : Nat) (hu : u < 18446744073709551616) (w : World) : Calls Tryd.prog 44 #[.int .u64 u] w fun e w' => e = .returned (.string ⟨(Lib.decDigits u).toArray⟩) ∧ Below w.heap.size w w' := by
  obtain ⟨D, HD⟩ : ∃ D, Hid (Lib.decDigits u = D) := ⟨_, rfl⟩
  rw [HD.out]
  have HL : Hid (D.length ≤ 20) := by show D.length ≤ 20; rw [← HD.out, Lib.decDigits_length]; exact nDig_le 19 u (by omega)
  have HD0 : Hid (Lib.decDigits u ++ [] = D) := by show _ = D; rw [List.append_nil]; exact HD.out
  go_enter Tryd.func44, Tryd.ntmps44
  go_wp2
  go_loopw [0, 3] (fun n s wr => ∃ (m : Nat) (t : List UInt8), m < 18446744073709551616 ∧ n = .int .u64 m ∧ s = .string ⟨t.toArray⟩ ∧ Below w.heap.size w wr ∧ Hid (Lib.decDigits m ++ t = D)) (fun n _ _ => (intOf n).toNat)
  case atStart => exact ⟨u, [], hu, rfl, rfl, Below.refl _ _, HD0⟩
  case round =>
    obtain ⟨m, t, hm, rfl, rfl, bel, HT⟩ := hrel
    have ht : t.length ≤ 20 := by
      have h1 := congrArg List.length HT.out
      have h2 := HL.out
      rw [List.length_append] at h1
      omega
    have hts : (⟨t.toArray⟩ : ByteArray).size ≤ 20 := by show t.toArray.size ≤ 20; simpa using ht
    have hB := digB_nat m
    have hcc := cons_bytes (digB m) t
    have hcv := one_string wr (digB m) (x := 48 + (m : Int) % 10) hB.symm
    obtain ⟨T1, hT1⟩ : ∃ T1, T1 = (⟨t.toArray⟩ : ByteArray) := ⟨_, rfl⟩
    obtain ⟨T2, hT2⟩ : ∃ T2, T2 = (⟨(digB m :: t).toArray⟩ : ByteArray) := ⟨_, rfl⟩
    obtain ⟨S1, hS1⟩ : ∃ S1, S1 = (⟨#[digB m]⟩ : ByteArray) := ⟨_, rfl⟩
    have hs1 : S1.size = 1 := by rw [hS1]; rfl
    rw [← hT1, ← hT2, ← hS1] at hcc
    rw [← hS1] at hcv
    rw [← hT1] at hts ⊢
    have HT2 : Hid _ := hT2
    clear hT1 hT2 hS1 hB
    by_cases hlt : m < 10
    · have hlt' : ¬ (10 : Int) ≤ (m : Int) := by omega
      have HV : Hid (D = digB m :: t) := by show D = _; rw [← HT.out, dec_last hlt]
      have hmm : (m : Int) % 10 = (m : Int) := by omega
      rw [hmm] at hcv
      clear hmm
      go_wp2
      go_ret
      exact ⟨by rw [HV.out, ← HT2.out]; rfl, bel.alloc bel.size _⟩
    · have hlt' : (10 : Int) ≤ (m : Int) := by omega
      have HN : Hid (Lib.decDigits (m / 10) ++ (digB m :: t) = D) := by show _ = D; rw [← dec_step hlt]; exact HT.out
      obtain ⟨q, hq0⟩ : ∃ q, q = m / 10 := ⟨_, rfl⟩
      have hq : (m : Int) / 10 = (q : Int) := by omega
      have hqm : q < 18446744073709551616 := by omega
      have hqlt : q < m := by omega
      rw [← hq0] at HN
      clear hq0
      go_wp2
      go_roundw
      case rel => exact ⟨q, digB m :: t, hqm, by go_num, by rw [← HT2.out], bel.alloc bel.size _, HN⟩
      case measure => simp [intOf]; omega
end Go.Proofs.YtjemaijokgcjnaaDoor
