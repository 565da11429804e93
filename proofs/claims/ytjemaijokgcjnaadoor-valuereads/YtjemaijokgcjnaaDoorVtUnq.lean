import Derived.Test.YtjemaijokgcjnaaDoorVtByte
import Derived.Laws.MakeOwn
namespace Go.Proofs.YtjemaijokgcjnaaDoor
open Go.RowKit Go.Maps
set_option linter.unusedVariables false
set_option linter.unusedSimpArgs false
attribute [local go_sem ↓] Go.wp_at_zero Go.wp_at_succ

theorem unq_step {f : Nat} {out l : List UInt8} {c : UInt8} {k : Nat} (hl : l ≠ []) (h : PU.fstB l = some (c, k)) (hf : l.length ≤ f) : ∃ g, PU.unq f out l = PU.unq g (out ++ [c]) (l.drop k) ∧ (l.drop k).length ≤ g := by
  have hle := PU.fstB_le h
  have hpos : 0 < l.length := List.length_pos_iff.mpr hl
  match f, hf with
  | 0, hf => omega
  | g + 1, hf =>
    refine ⟨g, ?_, by rw [List.length_drop]; omega⟩
    rw [PU.unq, if_neg hl, h]
theorem unq_stop {f : Nat} {out l : List UInt8} (hl : l ≠ []) (h : PU.fstB l = none) : PU.unq f out l = none := by
  cases f with
  | zero => rw [PU.unq, if_neg hl]
  | succ g => rw [PU.unq, if_neg hl, h]
theorem unq_end {f : Nat} {out : List UInt8} : PU.unq f out [] = some out := by
  cases f <;> rw [PU.unq, if_pos rfl]
def uqV : Option (List UInt8) → Value
  | some l => .tuple #[.string ⟨l.toArray⟩, .bool true]
  | none => .tuple #[.string ⟨#[]⟩, .bool false]
/-- what unquote tells -/
def unqS (s : ByteArray) : Option (List UInt8) := if s.size < 2 ∨ byteAt s (s.size - 1) ≠ 34 then none else PU.unq s.size [] (s.extract 1 (s.size - 1)).data.toList
def strLen : Value → Nat
  | .string x => x.size
  | _ => 0
theorem drop_ext (x : ByteArray) (k : Nat) : (x.extract k x.size).data.toList = x.data.toList.drop k := by
  rw [ByteArray.data_extract]
  simp [ByteArray.size_data, Array.toList_extract, List.extract_eq_take_drop, List.take_of_length_le, len_toList]
set_option maxHeartbeats 3200000 in
set_option maxRecDepth 100000 in
theorem unquote_any (s : ByteArray) (hs : s.size ≤ 140737488355328) (w : World) (hg : Gv w) : Calls Tryd.prog 26 #[.string s] w fun e w' => e = .returned (uqV (unqS s)) ∧ Below w.heap.size w w' := by
  obtain ⟨i0, hi0, hz0, hz1, hz2⟩ := info_parts infoByte
  by_cases h2 : s.size < 2
  · have HV : Hid (uqV (unqS s) = .tuple #[.string ⟨#[]⟩, .bool false]) := by show _ = _; unfold unqS; rw [if_pos (.inl h2)]; rfl
    have h2' : (s.size : Int) < 2 := by omega
    rw [HV.out]
    clear h2 hg HV
    go_enter Tryd.func26, Tryd.ntmps26
    go_wp2
    go_ret2
    exact ⟨rfl, Below.refl _ _⟩
  · have h2' : ¬ (s.size : Int) < 2 := by omega
    have hlt : s.size - 1 < s.size := by omega
    obtain ⟨c, hcc⟩ : ∃ c, s[s.size - 1]'hlt = c := ⟨_, rfl⟩
    have hbA : byteAt s (s.size - 1) = (c.toNat : Int) := by rw [byteAt_eq hlt, hcc]
    by_cases h34 : c.toNat = 34
    · have h34' : (c.toNat : Int) = 34 := by omega
      have hx : (s.extract 1 (s.size - 1)).size = s.size - 2 := by rw [ByteArray.size_extract]; omega
      obtain ⟨U, HU⟩ : ∃ U, Hid (PU.unq s.size [] (s.extract 1 (s.size - 1)).data.toList = U) := ⟨_, rfl⟩
      have HV : Hid (uqV (unqS s) = uqV U) := by show _ = _; unfold unqS; rw [if_neg (by rw [hbA, h34']; simp; omega), HU.out]
      rw [HV.out]
      obtain ⟨R, HRR⟩ : ∃ R, Hid (uqV U = R) := ⟨_, rfl⟩
      rw [HRR.out]
      obtain ⟨x0, hx0⟩ : ∃ x, s.extract 1 (s.size - 1) = x := ⟨_, rfl⟩
      rw [hx0] at hx HU
      have hxs : x0.size ≤ 140737488355328 := by omega
      have HX : Hid (x0.size ≤ s.size) := by show _ ≤ _; omega
      obtain ⟨wm, hmk, hown0, hgr⟩ := run_make_own (P := Tryd.prog) w w.heap.size 46 5 i0 _ 1 Tryd.underlying46 hi0 hz0 hz1 .i64 .i64 x0.size (by rw [hz2]; omega) (by unfold maxLen; omega) (Nat.le_refl _)
      have hbm : Below w.heap.size w wm := (Below.refl _ _).grown hgr (Nat.le_refl _) (fun j hj => by cases hj)
      have HOWN0 := Lib.hid hown0
      have HGR := Lib.hid hgr
      have HG := Lib.hid hg
      clear hown0 hgr hg h2 h34 hbA HV hx
      go_enter Tryd.func26, Tryd.ntmps26
      go_wp2
      go_loopw [4, 5] (fun iv ov wr => ∃ (x : ByteArray) (out : List UInt8) (f : Nat), iv = .string x ∧ Below w.heap.size w wr ∧ wr.ownsRow w.heap.size 5 1 ov out.length (Lib.byteCells out) ∧ x.size + out.length ≤ 140737488355328 ∧ Hid (x.size ≤ f) ∧ Hid (PU.unq f out x.data.toList = U)) (fun iv _ _ => strLen iv)
      case atStart => exact ⟨x0, [], s.size, rfl, hbm, HOWN0.out, hxs, HX, HU⟩
      case round =>
        obtain ⟨x, out, f, rfl, bel, hown, hsz, HF, HQ⟩ := hrel
        obtain ⟨ao, co, rfl, hlo⟩ := own_form hown
        clear hmk hcc hx0 h34' h2' hlt hxs
        by_cases hp : 0 < x.size
        · have hp' : (0 : Int) < (x.size : Int) := by omega
          have hne : x.data.toList ≠ [] := fun e => by rw [← len_toList, e] at hp; cases hp
          have HFB := Lib.hid (firstByte_any x (by unfold maxLen; omega) hp wr (HG.out.below bel))
          cases ho : PU.fstB x.data.toList with
          | none =>
            have HV : Hid (R = .tuple #[.string ⟨#[]⟩, .bool false]) := by show _ = _; rw [← HRR.out, ← HQ.out, unq_stop hne ho]; rfl
            rw [ho] at HFB
            clear HRR hne ho HF HQ HU HX HOWN0 HGR
            go_wp2_with fail
            refine HFB.out.mono ?_
            rintro e w1 ⟨rfl, hb⟩
            have hbf := bel.trans (hb.mono bel.size)
            clear HFB hb
            unfold fbV
            go_wp2
            go_ret2
            exact ⟨by rw [HV.out]; rfl, hbf⟩
          | some cn =>
            obtain ⟨c, n⟩ := cn
            have hle := PU.fstB_le ho
            rw [len_toList] at hle
            obtain ⟨g, hg1, hg2⟩ := unq_step (out := out) hne ho (by rw [len_toList]; exact HF.out)
            have hd := drop_ext x n
            rw [← hd] at hg1 hg2
            rw [len_toList] at hg2
            have hes : (x.extract n x.size).size = x.size - n := by rw [ByteArray.size_extract]; omega
            have hn1 : (n : Int) ≤ (x.size : Int) := by omega
            rw [ho] at HFB
            have HN := Lib.hid (hg1.symm.trans HQ.out)
            have HG2 := Lib.hid hg2
            clear HF HQ HU HX HOWN0 HGR hg1 hg2 hd ho hne
            go_wp2_with fail
            refine HFB.out.mono ?_
            rintro e w1 ⟨rfl, hb⟩
            have bel1 := bel.trans (hb.mono bel.size)
            have hown1 := own_below hown hb
            clear HFB hb hown bel
            unfold fbV
            go_wp2_with (at_builtin; refine wpList_append_own_at _ rfl _ _ 46 rfl w.heap.size 5 i0 _ 1 1 Tryd.underlying46 hi0 hz0 hz1 hz2 rfl (by decide) _ _ _ rfl (own_below hown1 ((Below.refl _ _).alloc (Nat.le_refl _) _)) ⟨_, 0, none⟩ 1 1 [.int .u8 (c.toNat : Int)] rfl rfl (lit_news _ #[.int .u8 (c.toNat : Int)] _) (by simp [Value.oneCell']) (by unfold maxLen; omega) (by omega) (by have := bel1.size; simp; omega) ?_; intro v' w2 hown' hgrow hnil hloc)
            go_roundw
            case rel => exact ⟨x.extract n x.size, out ++ [c], g, rfl, (bel1.alloc bel1.size _).grown hgrow (by have := bel1.size; simp; omega) (fun j hj => (hown1.lt j hj).1), by rw [Lib.byteCells_append, List.length_append]; exact hown', by rw [hes, List.length_append]; simp; omega, HG2, HN⟩
            case measure => simp [strLen, hes]; omega
        · have hp' : ¬ (0 : Int) < (x.size : Int) := by omega
          have hnil : x.data.toList = [] := List.length_eq_zero_iff.mp (by rw [len_toList]; omega)
          have HV : Hid (R = .tuple #[.string ⟨out.toArray⟩, .bool true]) := by show _ = _; rw [← HRR.out, ← HQ.out, hnil, unq_end]; rfl
          have hcv := bytes_string hown
          clear HRR hnil HF HQ HU HX HOWN0 HGR hown
          go_wp2
          go_ret2
          exact ⟨by rw [HV.out]; rfl, bel⟩
    · have h34' : ¬ (c.toNat : Int) = 34 := by omega
      have HV : Hid (uqV (unqS s) = .tuple #[.string ⟨#[]⟩, .bool false]) := by show _ = _; unfold unqS; rw [if_pos (.inr (by rw [hbA]; exact h34'))]; rfl
      rw [HV.out]
      clear h2 hg HV h34 hbA
      go_enter Tryd.func26, Tryd.ntmps26
      go_wp2
      go_ret2
      exact ⟨rfl, Below.refl _ _⟩
end Go.Proofs.YtjemaijokgcjnaaDoor
