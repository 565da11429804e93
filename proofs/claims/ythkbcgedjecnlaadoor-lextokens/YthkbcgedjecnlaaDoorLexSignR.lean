import Derived.Test.YthkbcgedjecnlaaDoorLexRefW
import Derived.BigQuiet
import Derived.Deep.QuietTactic
namespace Go.Proofs.YthkbcgedjecnlaaDoor
open Go.RowKit Go.Maps
set_option linter.unusedVariables false
set_option linter.unusedSimpArgs false

theorem find_at {α : Type} (p : α → Bool) : ∀ (L : List α) (k : Nat) (hk : k < L.length), (∀ j (hj : j < k), p (L[j]'(by omega)) = false) → p L[k] = true → L.find? p = some L[k]
  | [], k, hk, _, _ => absurd hk (by simp)
  | x :: r, 0, hk, _, h => by simp at h; simp [List.find?_cons, h]
  | x :: r, k + 1, hk, hb, h => by
    have h0 := hb 0 (by omega)
    simp at h0 h
    rw [List.find?_cons, h0]
    simpa using find_at p r k (by simpa using hk) (fun j hj => by simpa using hb (j + 1) (by omega)) h
theorem find_no {α : Type} (p : α → Bool) (L : List α) (h : ∀ j (hj : j < L.length), p L[j] = false) : L.find? p = none := by
  rw [List.find?_eq_none]
  intro x hx
  obtain ⟨i, hi, rfl⟩ := List.getElem_of_mem hx
  simp [h i hi]

def sgN (k : Nat) : List UInt8 := sgs.getD k []
def noSg (l : List UInt8) (k : Nat) : Prop := ∀ j, j < k → Lib.hasPrefix l (sgN j) = false
def rsg (l : List UInt8) : List UInt8 := (sgs.find? (fun w => Lib.hasPrefix l w)).getD []
theorem sgN_get (k : Nat) (hk : k < sgs.length) : sgs[k] = sgN k := by simp [sgN, List.getD, hk]
theorem rsg_at {l : List UInt8} {k : Nat} (hk : k < 18) (hb : noSg l k) (h : Lib.hasPrefix l (sgN k) = true) : rsg l = sgN k := by
  have hk' : k < sgs.length := hk
  rw [rsg, find_at _ sgs k hk' (fun j hj => by rw [sgN_get j (by omega)]; exact hb j hj) (by rw [sgN_get k hk']; exact h), sgN_get k hk']
  rfl
theorem rsg_no {l : List UInt8} (hb : noSg l 18) : rsg l = [] := by
  rw [rsg, find_no _ sgs (fun j hj => by rw [sgN_get j hj]; exact hb j hj)]
  rfl
theorem noSg_step {l : List UInt8} {k : Nat} (hb : noSg l k) (h : Lib.hasPrefix l (sgN k) = false) : noSg l (k + 1) := by
  intro j hj
  by_cases e : j = k
  · rw [e]; exact h
  · exact hb j (by omega)
theorem signB_rsg (l : List UInt8) (h : l ≠ []) : signB l = (rsg l == l) := by
  unfold signB signT rsg
  cases hf : sgs.find? (fun w => Lib.hasPrefix l w) with
  | none =>
    simp
    exact h
  | some w => simp [Bool.beq_eq_decide_eq]
def tw (k : Nat) : ByteArray := ⟨(sgN k).toArray⟩
theorem pre_two (s : ByteArray) (k : Nat) (hk : k < 4) (h2 : 2 ≤ s.size) : Lib.hasPrefix s.data.toList (sgN k) = ((s.extract 0 2).toList == (tw k).toList) := by
  have e : (s.extract 0 2).toList = s.data.toList.take 2 := by
    rw [ByteArray.toList_eq]
    simp
  rw [e, ByteArray.toList_eq]
  have h2' : 2 ≤ s.data.toList.length := by rw [len_toList]; exact h2
  match s.data.toList, h2' with
  | a :: b :: r, _ =>
    obtain rfl | rfl | rfl | rfl : k = 0 ∨ k = 1 ∨ k = 2 ∨ k = 3 := by omega
    all_goals simp [sgN, sgs, Lib.hasPrefix, List.isPrefixOf, tw, Bool.beq_eq_decide_eq, eq_comm]
theorem pre_short (s : ByteArray) (k : Nat) (hk : k < 4) (h2 : ¬ 2 ≤ s.size) : Lib.hasPrefix s.data.toList (sgN k) = false := by
  have h2' : ¬ 2 ≤ s.data.toList.length := by rw [len_toList]; exact h2
  match s.data.toList, h2' with
  | [], _ => obtain rfl | rfl | rfl | rfl : k = 0 ∨ k = 1 ∨ k = 2 ∨ k = 3 := by omega
             all_goals rfl
  | [a], _ => obtain rfl | rfl | rfl | rfl : k = 0 ∨ k = 1 ∨ k = 2 ∨ k = 3 := by omega
              all_goals simp [sgN, sgs, Lib.hasPrefix, List.isPrefixOf]
  | a :: b :: r, h => exact absurd (by simp) h
def ones : ByteArray := ⟨#[40, 41, 44, 46, 63, 61, 60, 62, 43, 45, 42, 47, 37, 38]⟩
theorem one_at : ∀ k : Fin 14, sgN (4 + k.val) = [ones.data[k.val]!] := by decide
theorem pre_one (s : ByteArray) (k : Nat) (hk : k < 14) (h1 : 0 < s.size) : Lib.hasPrefix s.data.toList (sgN (4 + k)) = decide ((s[0]'h1) = ones.data[k]!) := by
  rw [one_at ⟨k, hk⟩]
  have h1' : 0 < s.data.toList.length := by rw [len_toList]; exact h1
  have e : s[0]'h1 = s.data.toList[0]'h1' := rfl
  rw [e]
  match s.data.toList, h1' with
  | a :: r, _ => simp [Lib.hasPrefix, List.isPrefixOf]; rw [Bool.beq_eq_decide_eq, decide_eq_decide]; exact eq_comm
theorem head_one (s : ByteArray) (k : Nat) (hk : k < 14) (h1 : 0 < s.size) (h : (s[0]'h1) = ones.data[k]!) : (s.extract 0 1).data.toList = sgN (4 + k) := by
  rw [one_at ⟨k, hk⟩, ← h]
  have h1' : 0 < s.data.toList.length := by rw [len_toList]; exact h1
  have e : s[0]'h1 = s.data.toList[0]'h1' := rfl
  rw [e]
  have e2 : (s.extract 0 1).data.toList = s.data.toList.take 1 := by simp
  rw [e2]
  match s.data.toList, h1' with
  | a :: r, _ => rfl
theorem ones_at (n : Nat) (h : n < 14) : ({ data := #[40, 41, 44, 46, 63, 61, 60, 62, 43, 45, 42, 47, 37, 38] } : ByteArray)[n]'h = ones.data[n]! := by
  have hall : ∀ n : Fin 14, (({ data := #[40, 41, 44, 46, 63, 61, 60, 62, 43, 45, 42, 47, 37, 38] } : ByteArray)[n.val]'n.isLt) = ones.data[n.val]! := by decide +kernel
  exact hall ⟨n, h⟩
theorem str_eq {a b : ByteArray} (h : a.data.toList = b.data.toList) : a = b := by
  cases a with | mk x => cases b with | mk y => congr; exact Array.toList_inj.1 h
theorem ext_two {s : ByteArray} {k : Nat} (h : ((s.extract 0 2).toList == (tw k).toList) = true) : (s.extract 0 2).toList = (tw k).toList := by simpa using h
set_option maxHeartbeats 1600000 in
set_option maxRecDepth 100000 in
theorem rsign_any (s : ByteArray) (w : World) (hs : s.size ≤ maxLen) : Calls Tryd.prog 21 #[.string s] w fun e w' => e = .returned (.string ⟨(rsg s.data.toList).toArray⟩) ∧ Below w.heap.size w w' := by
  unfold maxLen at hs
  obtain ⟨R, HR⟩ : ∃ R, Hid ((⟨(rsg s.data.toList).toArray⟩ : ByteArray) = R) := ⟨_, rfl⟩
  rw [HR.out]
  go_enter Tryd.func21, Tryd.ntmps21
  go_wp2
  go_loopw [4] (fun i wr => ∃ k : Nat, k ≤ 4 ∧ i = .int .i64 k ∧ Below w.heap.size w wr ∧ Hid (∀ j, j < 4 → wr.cell? ⟨w.heap.size, j, none⟩ = some (.string (tw j))) ∧ Hid (noSg s.data.toList k)) (fun i _ => 4 - (intOf i).toNat)
  case atStart =>
    refine ⟨0, by omega, rfl, (Below.refl _ _).alloc (Nat.le_refl _) _, ?_, fun j hj => absurd hj (by omega)⟩
    intro j hj
    obtain rfl | rfl | rfl | rfl : j = 0 ∨ j = 1 ∨ j = 2 ∨ j = 3 := by omega
    all_goals go_simp
    all_goals rfl
  case round =>
    obtain ⟨k, hk, rfl, bel, HC, HN⟩ := hrel
    by_cases hlt : k < 4
    · have hlt' : (k : Int) < 4 := by omega
      have hc := HC.out k hlt
      by_cases h2 : 2 ≤ s.size
      · have h2' : (2 : Int) ≤ (s.size : Int) := by omega
        have hp := pre_two s k hlt h2
        cases hb : ((s.extract 0 2).toList == (tw k).toList)
        · have HN2 : Hid (noSg s.data.toList (k + 1)) := noSg_step HN.out (by rw [hp, hb])
          clear hp
          generalize tw k = T at hc hb
          go_wp2_with fail
          go_quiet (fail)
          go_wp2
          go_roundw
          case rel => exact ⟨k + 1, by omega, by go_num, ⟨bel.os, bel.tape, bel.output, bel.size, bel.block⟩, HC, HN2⟩
          case measure => simp [intOf]; omega
        · have HV : Hid (tw k = R) := by
            show _ = R
            rw [← HR.out, rsg_at (by omega) HN.out (by rw [hp, hb])]
            rfl
          clear hp
          generalize tw k = T at hc hb HV
          go_wp2_with fail
          go_quiet (fail)
          go_wp2
          go_ret
          exact ⟨by rw [HV.out]; rfl, ⟨bel.os, bel.tape, bel.output, bel.size, bel.block⟩⟩
      · have h2' : (s.size : Int) < 2 := by omega
        have hd : decide ((2 : Int) ≤ (s.size : Int)) = false := decide_eq_false (by omega)
        have HN2 : Hid (noSg s.data.toList (k + 1)) := noSg_step HN.out (pre_short s k hlt h2)
        go_wp2_with fail
        go_quiet (fail)
        go_wp2
        go_roundw
        case rel => exact ⟨k + 1, by omega, by go_num, ⟨bel.os, bel.tape, bel.output, bel.size, bel.block⟩, HC, HN2⟩
        case measure => simp [intOf]; omega
    · obtain rfl : k = 4 := by omega
      clear HC
      go_wp2
      go_loopw [6] (fun i wr => ∃ k : Nat, k ≤ 14 ∧ i = .int .i64 k ∧ Below w.heap.size w wr ∧ Hid (noSg s.data.toList (4 + k))) (fun i _ => 14 - (intOf i).toNat)
      case atStart => exact ⟨0, by omega, rfl, bel, HN⟩
      case round =>
        clear HN bel
        obtain ⟨k, hk, rfl, bel, HN⟩ := hrel
        by_cases hlt : k < 14
        · have hlt' : (k : Int) < 14 := by omega
          by_cases h1 : 0 < s.size
          · have h1' : (1 : Int) ≤ (s.size : Int) := by omega
            have hp := pre_one s k hlt h1
            have hh := head_one s k hlt h1
            have hx := ones_at k hlt
            obtain ⟨a, ha⟩ : ∃ a, s[0]'h1 = a := ⟨_, rfl⟩
            rw [ha] at hp hh
            generalize ones.data[k]! = d at hp hh hx
            by_cases hb : a = d
            · have HV : Hid (s.extract 0 1 = R) := by
                show _ = R
                rw [← HR.out, rsg_at (by omega) HN.out (by rw [hp, hb]; simp)]
                exact str_eq (by rw [hh hb])
              have hb' : ((a.toNat : Int) == (d.toNat : Int)) = true := by rw [hb]; simp
              clear hp hh hb
              go_wp2_with fail
              go_quiet (fail)
              go_wp2
              go_ret
              exact ⟨by rw [← HV.out]; rfl, ⟨bel.os, bel.tape, bel.output, bel.size, bel.block⟩⟩
            · have HN2 : Hid (noSg s.data.toList (4 + (k + 1))) := noSg_step (k := 4 + k) HN.out (by rw [hp]; exact decide_eq_false hb)
              have hb' : ((a.toNat : Int) == (d.toNat : Int)) = false := by
                rw [beq_eq_false_iff_ne]
                intro e
                exact hb (UInt8.toNat_inj.1 (by omega))
              clear hp hh hb
              go_wp2_with fail
              go_quiet (fail)
              go_wp2
              go_roundw
              case rel => exact ⟨k + 1, by omega, by go_num, ⟨bel.os, bel.tape, bel.output, bel.size, bel.block⟩, HN2⟩
              case measure => simp [intOf]; omega
          · have h1' : (s.size : Int) < 1 := by omega
            have hd : decide ((1 : Int) ≤ (s.size : Int)) = false := decide_eq_false (by omega)
            have HN2 : Hid (noSg s.data.toList (4 + (k + 1))) := noSg_step (k := 4 + k) HN.out (by
              rw [one_at ⟨k, hlt⟩]
              have e : s.data.toList = [] := nil_iff.2 (by omega)
              rw [e]; rfl)
            go_wp2_with fail
            go_quiet (fail)
            go_wp2
            go_roundw
            case rel => exact ⟨k + 1, by omega, by go_num, ⟨bel.os, bel.tape, bel.output, bel.size, bel.block⟩, HN2⟩
            case measure => simp [intOf]; omega
        · obtain rfl : k = 14 := by omega
          have HV : Hid ((⟨#[]⟩ : ByteArray) = R) := by show _ = R; rw [← HR.out, rsg_no HN.out]
          go_wp2
          go_ret
          exact ⟨by rw [← HV.out]; rfl, bel⟩
end Go.Proofs.YthkbcgedjecnlaaDoor
