import Derived.Test.YtgplipfebnigiaaGreatDoorG4
import Derived.Test.YtgplipfebnigiaaGreatDoorG7
import Derived.Lib.ItoaNum
import Derived.Lib.AppendIntMem
import Derived.Lib.LaidTab
import Derived.Test.YtgplipfebnigiaaGreatDoorG27
import Derived.Test.YtgplipfebnigiaaGreatDoorG24
section
namespace Go.Proofs.YtgplipfebnigiaaGreatDoor
open Go.RowKit Go.Maps
set_option linter.unusedVariables false
set_option linter.unusedSimpArgs false
attribute [local go_sem ↓] Go.wp_at_zero Go.wp_at_succ

theorem nDig_le : ∀ (k u : Nat), u < 10 ^ (k + 1) → Lib.nDigits u ≤ k + 1
  | 0, u, h => by rw [Lib.nDigits_small (by simpa using h)]; omega
  | k + 1, u, h => by
    by_cases h1 : u < 10
    · rw [Lib.nDigits_small h1]; omega
    · rw [Lib.nDigits_big h1]
      have := nDig_le k (u / 10) (by rw [Nat.pow_succ] at h; omega)
      omega
def digB (m : Nat) : UInt8 := UInt8.ofNat (48 + m % 10)
theorem dec_step {m : Nat} (h : ¬ m < 10) (t : List UInt8) : Lib.decDigits m ++ t = Lib.decDigits (m / 10) ++ (digB m :: t) := by
  rw [Lib.decDigits, dif_neg h]
  simp [digB]
theorem dec_last {m : Nat} (h : m < 10) (t : List UInt8) : Lib.decDigits m ++ t = digB m :: t := by
  rw [Lib.decDigits, dif_pos h]
  simp [digB, Nat.mod_eq_of_lt h]
theorem digB_nat (m : Nat) : ((digB m).toNat : Int) = 48 + (m : Int) % 10 := by
  unfold digB
  have : (UInt8.ofNat (48 + m % 10)).toNat = 48 + m % 10 := by
    rw [UInt8.toNat_ofNat']
    omega
  rw [this]
  omega
theorem one_string (w : World) (b : UInt8) {x : Int} (hx : x = (b.toNat : Int)) : (convert 147 9 (.slice (some ⟨w.heap.size, 0, none⟩) 1 1)).run Tryz.prog (w.alloc (.cells #[.int .u8 x] 5)) = .ok (.string ⟨#[b]⟩) (w.alloc (.cells #[.int .u8 x] 5)) := by
  subst hx
  exact bytes_string (base := 0) (out := [b]) (World.ownsRow_lit w #[.int .u8 (b.toNat : Int)] 1 (Nat.zero_le _) (by decide) rfl)
theorem cons_bytes (b : UInt8) (t : List UInt8) : (⟨#[b]⟩ : ByteArray) ++ ⟨t.toArray⟩ = ⟨(b :: t).toArray⟩ := by
  have e : ((⟨#[b]⟩ : ByteArray) ++ ⟨t.toArray⟩).data = (b :: t).toArray := by
    rw [ByteArray.data_append]
    simp
  cases h : ((⟨#[b]⟩ : ByteArray) ++ ⟨t.toArray⟩) with
  | mk d => rw [h] at e; simp only at e; rw [e]
set_option maxHeartbeats 800000 in
theorem digits_any (u : Nat) (hu : u < 18446744073709551616) (w : World) : Calls Tryz.prog 89 #[.int .u64 u] w fun e w' => e = .returned (.string ⟨(Lib.decDigits u).toArray⟩) ∧ Below w.heap.size w w' := by
  obtain ⟨D, HD⟩ : ∃ D, Hid (Lib.decDigits u = D) := ⟨_, rfl⟩
  rw [HD.out]
  have HL : Hid (D.length ≤ 20) := by show D.length ≤ 20; rw [← HD.out, Lib.decDigits_length]; exact nDig_le 19 u (by omega)
  have HD0 : Hid (Lib.decDigits u ++ [] = D) := by show _ = D; rw [List.append_nil]; exact HD.out
  go_enter Tryz.func89, Tryz.ntmps89
  go_wp2
  go_loopw [0, 3] (fun n s wr => ∃ (m : Nat) (t : List UInt8), m < 18446744073709551616 ∧ n = .int .u64 m ∧ s = .string ⟨t.toArray⟩ ∧ Below w.heap.size w wr ∧ Hid (Lib.decDigits m ++ t = D)) (fun n _ _ => (intOf n).toNat)
  case atStart => exact ⟨u, [], hu, rfl, rfl, Below.refl _ _, HD0⟩
  case round =>
    obtain ⟨m, t, hm, rfl, rfl, bel, HT⟩ := hrel
    have ht : t.length ≤ 20 := by
      have h1 := congrArg List.length HT.out
      have h2 := HL.out
      rw [List.length_append] at h1
      omega
    have hts : (⟨t.toArray⟩ : ByteArray).size ≤ 20 := by show t.toArray.size ≤ 20; simpa using ht
    have hB := digB_nat m
    have hcc := cons_bytes (digB m) t
    have hcv := one_string wr (digB m) (x := 48 + (m : Int) % 10) hB.symm
    obtain ⟨T1, hT1⟩ : ∃ T1, T1 = (⟨t.toArray⟩ : ByteArray) := ⟨_, rfl⟩
    obtain ⟨T2, hT2⟩ : ∃ T2, T2 = (⟨(digB m :: t).toArray⟩ : ByteArray) := ⟨_, rfl⟩
    obtain ⟨S1, hS1⟩ : ∃ S1, S1 = (⟨#[digB m]⟩ : ByteArray) := ⟨_, rfl⟩
    have hs1 : S1.size = 1 := by rw [hS1]; rfl
    rw [← hT1, ← hT2, ← hS1] at hcc
    rw [← hS1] at hcv
    rw [← hT1] at hts ⊢
    have HT2 : Hid _ := hT2
    clear hT1 hT2 hS1 hB
    by_cases hlt : m < 10
    · have hlt' : ¬ (10 : Int) ≤ (m : Int) := by omega
      have HV : Hid (D = digB m :: t) := by show D = _; rw [← HT.out, dec_last hlt]
      have hmm : (m : Int) % 10 = (m : Int) := by omega
      rw [hmm] at hcv
      clear hmm
      go_wp2
      go_ret
      exact ⟨by rw [HV.out, ← HT2.out]; rfl, bel.alloc bel.size _⟩
    · have hlt' : (10 : Int) ≤ (m : Int) := by omega
      have HN : Hid (Lib.decDigits (m / 10) ++ (digB m :: t) = D) := by show _ = D; rw [← dec_step hlt]; exact HT.out
      obtain ⟨q, hq0⟩ : ∃ q, q = m / 10 := ⟨_, rfl⟩
      have hq : (m : Int) / 10 = (q : Int) := by omega
      have hqm : q < 18446744073709551616 := by omega
      have hqlt : q < m := by omega
      rw [← hq0] at HN
      clear hq0
      go_wp2
      go_roundw
      case rel => exact ⟨q, digB m :: t, hqm, by go_num, by rw [← HT2.out], bel.alloc bel.size _, HN⟩
      case measure => simp [intOf]; omega
end Go.Proofs.YtgplipfebnigiaaGreatDoor
end
section
namespace Go.Proofs.YtgplipfebnigiaaGreatDoor
open Go.RowKit Go.Maps
set_option linter.unusedVariables false
set_option linter.unusedSimpArgs false

/-- the name of the variable that comes as number i -/
def cnS (i : Nat) : ByteArray := ⟨(86 :: Lib.itoa (i : Int)).toArray⟩
/-- the pairs of Canon, the first k of them -/
def cnP (vs : List ByteArray) (k : Nat) : List P := (List.range k).map fun i => ⟨atS vs i, ⟨cnS i, V0⟩⟩
theorem cnP_succ (vs : List ByteArray) (k : Nat) : cnP vs (k + 1) = cnP vs k ++ [⟨atS vs k, ⟨cnS k, V0⟩⟩] := by unfold cnP; rw [List.range_succ, List.map_append]; rfl
theorem cnP_len (vs : List ByteArray) (k : Nat) : (cnP vs k).length = k := by simp [cnP]
theorem cnS_one {i : Nat} (h : i < 10) : cnS i = ⟨#[86, UInt8.ofNat (48 + i)]⟩ := by
  unfold cnS Lib.itoa
  rw [if_neg (by omega), show ((i : Int)).toNat = i by omega, Lib.decDigits_one h]
theorem cnS_two {i : Nat} (h : ¬ i < 10) (h2 : i < 100) : cnS i = ⟨#[86, UInt8.ofNat (48 + i / 10), UInt8.ofNat (48 + i % 10)]⟩ := by
  unfold cnS Lib.itoa
  rw [if_neg (by omega), show ((i : Int)).toNat = i by omega, Lib.decDigits_two h h2]
theorem var_one : ∀ i : Fin 10, varB ⟨#[86, UInt8.ofNat (48 + i.val)]⟩ = true := by decide
theorem var_two : ∀ i : Fin 24, varB ⟨#[86, UInt8.ofNat (48 + i.val / 10), UInt8.ofNat (48 + i.val % 10)]⟩ = true := by decide
theorem cnS_var {i : Nat} (h : i < 24) : varB (cnS i) = true := by
  by_cases h1 : i < 10
  · rw [cnS_one h1]; exact var_one ⟨i, h1⟩
  · rw [cnS_two h1 (by omega)]; exact var_two ⟨i, h⟩
theorem var_not {s : ByteArray} (h : varB s = true) : ¬ (s = noS ∨ s = blankS) := by
  rintro (rfl | rfl)
  · exact absurd h (by decide)
  · exact absurd h (by decide)

/-- a map of terms that changes nothing but variables' names -/
structure Kp (f : T → T) (g : ByteArray → ByteArray) : Prop where
  same : ∀ t : T, (t.v = noS ∨ t.v = blankS) → f t = t
  name : ∀ t : T, ¬ (t.v = noS ∨ t.v = blankS) → (f t).v = g t.v ∧ ¬ (g t.v = noS ∨ g t.v = blankS)
  tm : ∀ t : T, termB t = true → termB (f t) = true
theorem Kp.zero {f : T → T} {g : ByteArray → ByteArray} (h : Kp f g) : f T0 = T0 := h.same T0 (.inl rfl)
theorem Kp.no {f : T → T} {g : ByteArray → ByteArray} (h : Kp f g) (t : T) : ((f t).v = noS ↔ t.v = noS) := by
  by_cases e : t.v = noS ∨ t.v = blankS
  · rw [h.same t e]
  · obtain ⟨h1, h2⟩ := h.name t e
    rw [h1]
    exact ⟨fun k => absurd (.inl k) h2, fun k => absurd (.inl k) e⟩
theorem Kp.bl {f : T → T} {g : ByteArray → ByteArray} (h : Kp f g) (t : T) : ((f t).v = blankS ↔ t.v = blankS) := by
  by_cases e : t.v = noS ∨ t.v = blankS
  · rw [h.same t e]
  · obtain ⟨h1, h2⟩ := h.name t e
    rw [h1]
    exact ⟨fun k => absurd (.inr k) h2, fun k => absurd (.inr k) e⟩
theorem Kp.named {f : T → T} {g : ByteArray → ByteArray} (h : Kp f g) {t : T} (hb : namedB t = true) : namedB (f t) = true := by
  unfold namedB at hb ⊢
  rw [Bool.and_eq_true] at hb ⊢
  refine ⟨?_, h.tm t hb.2⟩
  have h1 := hb.1
  rw [Bool.not_eq_true', decide_eq_false_iff_not] at h1 ⊢
  exact fun k => h1 ((h.bl t).1 k)
theorem Kp.arg {f : T → T} {g : ByteArray → ByteArray} (h : Kp f g) {x : A5} (hb : argB x = true) : argB (apA f x) = true := by
  unfold argB apA at *
  dsimp only
  split
  · rename_i e
    rw [if_pos e] at hb
    exact h.named hb
  · rename_i e
    rw [if_neg e] at hb
    split
    · rename_i e2
      rw [if_pos e2] at hb
      rw [of_decide_eq_true hb, h.zero]
      exact decide_eq_true rfl
    · rename_i e2
      rw [if_neg e2] at hb
      split
      · rename_i e3
        rw [if_pos e3, Bool.and_eq_true] at hb
        rw [Bool.and_eq_true]
        refine ⟨h.named hb.1, ?_⟩
        have h1 := hb.2
        rw [Bool.not_eq_true', decide_eq_false_iff_not] at h1 ⊢
        exact fun k => h1 ((h.no x.t).1 k)
      · rename_i e3
        rw [if_neg e3] at hb
        cases hb
theorem Kp.expr {f : T → T} {g : ByteArray → ByteArray} (h : Kp f g) : ∀ (d r : Nat) (e : E), exprB r e = true → exprB r (apD f d e) = true
  | 0, r, e, hb => hb
  | d + 1, 0, e, hb => by cases hb
  | d + 1, r + 1, e, hb => by
    rw [apD_succ]
    unfold exprB at hb
    show (decide (0 ≤ e.op) && decide (e.op < 11) && decide ((e.kids.map (apD f d)).length = kidsOf e.op.toNat) && (if e.op = 0 then namedB (f e.t) else (e.kids.map (apD f d)).all (exprB r) && decide (f e.t = T0))) = true
    rw [List.length_map]
    rw [Bool.and_eq_true] at hb ⊢
    refine ⟨hb.1, ?_⟩
    have h2 := hb.2
    by_cases e0 : e.op = 0
    · rw [if_pos e0] at h2 ⊢
      exact h.named h2
    · rw [if_neg e0, Bool.and_eq_true] at h2
      rw [if_neg e0, Bool.and_eq_true]
      refine ⟨?_, ?_⟩
      · rw [List.all_eq_true]
        intro y hy
        obtain ⟨z, hz, rfl⟩ := List.mem_map.1 hy
        exact h.expr d r z (List.all_eq_true.1 h2.1 z hz)
      · rw [of_decide_eq_true h2.2, h.zero]
        exact decide_eq_true rfl
theorem Kp.noE {f : T → T} {g : ByteArray → ByteArray} (h : Kp f g) (d : Nat) {e : E} (hb : Go.Proofs.YtgplipfebnigiaaGreatDoor.noE e = true) : Go.Proofs.YtgplipfebnigiaaGreatDoor.noE (apD f d e) = true := by
  cases d with
  | zero => exact hb
  | succ d =>
    rw [apD_succ]
    unfold Go.Proofs.YtgplipfebnigiaaGreatDoor.noE at hb ⊢
    simp only [op_mk, t_mk, kids_mk, List.length_map]
    simp only [Bool.and_eq_true, decide_eq_true_eq] at hb
    rw [hb.2.1, h.zero, hb.1, hb.2.2]
    rfl
theorem Kp.atom {f : T → T} {g : ByteArray → ByteArray} (h : Kp f g) {pr : ByteArray} {ts : List T} (hb : atomB pr ts = true) : atomB pr (ts.map f) = true := by
  unfold atomB at hb ⊢
  simp only [Bool.and_eq_true, List.length_map] at hb ⊢
  refine ⟨hb.1, ?_⟩
  rw [List.all_eq_true]
  intro y hy
  obtain ⟨z, hz, rfl⟩ := List.mem_map.1 hy
  exact h.tm z (List.all_eq_true.1 hb.2 z hz)
theorem Kp.lit {f : T → T} {g : ByteArray → ByteArray} (h : Kp f g) (d : Nat) {x : Lit4} (hb : litB x = true) : litB (apL f d x) = true := by
  unfold litB apL at *
  dsimp only
  split
  · rename_i e
    rw [if_pos e] at hb
    simp only [Bool.and_eq_true] at hb ⊢
    exact ⟨h.atom hb.1, hb.2.1, h.noE d hb.2.2.1, h.noE d hb.2.2.2⟩
  · rename_i e
    rw [if_neg e] at hb
    split
    · rename_i e2
      rw [if_pos e2] at hb
      simp only [Bool.and_eq_true, List.length_map] at hb ⊢
      exact ⟨hb.1, hb.2.1, hb.2.2.1, hb.2.2.2.1, h.expr d 8 _ hb.2.2.2.2.1, h.expr d 8 _ hb.2.2.2.2.2⟩
    · rename_i e2
      rw [if_neg e2] at hb
      cases hb
theorem Kp.vars {f : T → T} {g : ByteArray → ByteArray} (h : Kp f g) : ∀ (l : List T) (out out' : List ByteArray), (∀ n ∈ out, g n ∈ out') → out'.length ≤ out.length → (vsT out' (l.map f)).length ≤ (vsT out l).length
  | [], out, out', _, h2 => by simpa [vsT] using h2
  | t :: l, out, out', h1, h2 => by
    rw [List.map_cons, vsT, vsT]
    by_cases e : t.v = noS ∨ t.v = blankS
    · rw [h.same t e, if_pos (by rcases e with e | e; exact .inl e; exact .inr (.inl e)), if_pos (by rcases e with e | e; exact .inl e; exact .inr (.inl e))]
      exact h.vars l out out' h1 h2
    · obtain ⟨e1, e2⟩ := h.name t e
      rw [e1]
      by_cases hi : inB out t.v = true
      · rw [if_pos (.inr (.inr (inB_iff.2 (h1 _ (inB_iff.1 hi))))), if_pos (.inr (.inr hi))]
        exact h.vars l out out' h1 h2
      · rw [if_neg (c := t.v = noS ∨ t.v = blankS ∨ inB out t.v = true) (by rintro (k | k | k); exact e (.inl k); exact e (.inr k); exact hi k)]
        by_cases hi2 : inB out' (g t.v) = true
        · rw [if_pos (.inr (.inr hi2))]
          refine h.vars l _ out' (fun n hn => ?_) (by rw [List.length_append]; omega)
          rcases List.mem_append.1 hn with hn | hn
          · exact h1 n hn
          · rw [List.mem_singleton.1 hn]; exact inB_iff.1 hi2
        · rw [if_neg (by rintro (k | k | k); exact e2 (.inl k); exact e2 (.inr k); exact hi2 k)]
          refine h.vars l _ _ (fun n hn => ?_) (by simp only [List.length_append, List.length_singleton]; omega)
          rcases List.mem_append.1 hn with hn | hn
          · exact List.mem_append.2 (.inl (h1 n hn))
          · rw [List.mem_singleton.1 hn]; exact List.mem_append.2 (.inr (List.mem_singleton.2 rfl))
theorem Kp.rule {f : T → T} {g : ByteArray → ByteArray} (h : Kp f g) {d : Nat} {r : R3} (hb : ruleB d r = true) : ruleB d (apR f d r) = true := by
  unfold ruleB at hb ⊢
  rw [termsR_apR]
  unfold apR
  dsimp only
  simp only [Bool.and_eq_true, List.length_map, decide_eq_true_eq] at hb ⊢
  obtain ⟨h1, h2, h3, h4, h5, h6⟩ := hb
  refine ⟨h1, h2, h3, ?_, ?_, Nat.le_trans (h.vars _ [] [] (fun n hn => by cases hn) (Nat.le_refl _)) h6⟩
  · rw [List.all_eq_true]
    intro y hy
    obtain ⟨z, hz, rfl⟩ := List.mem_map.1 hy
    exact h.arg (List.all_eq_true.1 h4 z hz)
  · rw [List.all_eq_true]
    intro y hy
    obtain ⟨z, hz, rfl⟩ := List.mem_map.1 hy
    exact h.lit d (List.all_eq_true.1 h5 z hz)
/-- what a name becomes under pairs -/
def nmP (s : List P) (n : ByteArray) : ByteArray := match s.find? (fun p => decide (p.v = n)) with | some p => p.t.v | none => n
/-- pairs that put variables in the places of variables -/
def VarP (s : List P) : Prop := ∀ p ∈ s, varB p.t.v = true ∧ p.t.a = V0
theorem kp_put {s : List P} (hs : VarP s) : Kp (putT s) (nmP s) := by
  refine ⟨fun t e => by unfold putT; rw [if_pos e], fun t e => ?_, fun t hb => ?_⟩
  · unfold putT
    rw [if_neg e]
    unfold res nmP
    cases hf : s.find? (fun p => decide (p.v = t.v)) with
    | none => exact ⟨rfl, e⟩
    | some p => exact ⟨rfl, var_not (hs p (List.mem_of_find?_eq_some hf)).1⟩
  · by_cases e : t.v = noS ∨ t.v = blankS
    · unfold putT; rw [if_pos e]; exact hb
    · unfold putT
      rw [if_neg e]
      unfold res
      cases hf : s.find? (fun p => decide (p.v = t.v)) with
      | none => exact hb
      | some p =>
        obtain ⟨h1, h2⟩ := hs p (List.mem_of_find?_eq_some hf)
        show termB p.t = true
        unfold termB
        rw [if_neg (fun k => var_not h1 (.inl k)), h1, h2]
        simp
theorem varP_cn (vs : List ByteArray) {k : Nat} (h : k ≤ 24) : VarP (cnP vs k) := by
  intro p hp
  unfold cnP at hp
  obtain ⟨i, hi, rfl⟩ := List.mem_map.1 hp
  exact ⟨cnS_var (by have := List.mem_range.1 hi; omega), rfl⟩
/-- the pairs of a rule's Canon -/
def cnR (d : Nat) (r : R3) : List P := cnP (vsT [] (termsR d r)) (vsT [] (termsR d r)).length
/-- a rule with its variables by number -/
def canR (d : Nat) (r : R3) : R3 := if ruleB d r then apR (putT (cnR d r)) d r else noR
theorem ruleB_vars {d : Nat} {r : R3} (h : ruleB d r = true) : (vsT [] (termsR d r)).length ≤ 24 := by
  unfold ruleB at h
  simp only [Bool.and_eq_true, decide_eq_true_eq] at h
  exact h.2.2.2.2.2
theorem okR_cn {d : Nat} {r : R3} (h : ruleB d r = true) : okR (cnR d r) d r = true := by
  have h1 := (kp_put (varP_cn (vsT [] (termsR d r)) (ruleB_vars h))).rule h
  unfold okR cnR
  rw [h, h1]
  rfl
theorem resR_cn {d : Nat} {r : R3} (h : ruleB d r = true) : resR (cnR d r) d r = canR d r := by
  unfold resR canR
  rw [okR_cn h, h]
theorem LikeR.cnR {r s : R3} (h : LikeR r s) (d : Nat) : Go.Proofs.YtgplipfebnigiaaGreatDoor.cnR d s = Go.Proofs.YtgplipfebnigiaaGreatDoor.cnR d r := by unfold Go.Proofs.YtgplipfebnigiaaGreatDoor.cnR; rw [h.terms d]
theorem LikeR.canR {r s : R3} (h : LikeR r s) (d : Nat) : LikeR (Go.Proofs.YtgplipfebnigiaaGreatDoor.canR d r) (Go.Proofs.YtgplipfebnigiaaGreatDoor.canR d s) := by
  unfold Go.Proofs.YtgplipfebnigiaaGreatDoor.canR
  rw [h.ruleB d, h.cnR d]
  split
  · exact h.apR _ _
  · exact LikeR.refl _
end Go.Proofs.YtgplipfebnigiaaGreatDoor
end
section
namespace Go.Proofs.YtgplipfebnigiaaGreatDoor
open Go.RowKit Go.Maps
set_option linter.unusedVariables false
set_option linter.unusedSimpArgs false
attribute [local go_sem ↓] Go.wp_at_zero Go.wp_at_succ

theorem wrapU_neg {n : Int} (h0 : -9223372036854775808 ≤ n) (h1 : n < 0) : IntKind.u64.wrap n = n + 18446744073709551616 := by
  simp [IntKind.wrap, IntKind.bits, IntKind.signed]
  omega
set_option maxHeartbeats 800000 in
theorem rDigits_any (n : Int) (h0 : -9223372036854775808 ≤ n) (h1 : n ≤ 9223372036854775807) (w : World) : Calls Tryz.prog 51 #[.int .i64 n] w fun e w' => e = .returned (.string ⟨(Lib.itoa n).toArray⟩) ∧ Below w.heap.size w w' := by
  by_cases hn : n < 0
  · have HI : Hid (Lib.itoa n = 45 :: Lib.decDigits n.natAbs) := by show Lib.itoa n = _; unfold Lib.itoa; rw [if_pos hn]
    have hw1 := wrapU_neg h0 hn
    obtain ⟨u, hu⟩ : ∃ u, u = n.natAbs := ⟨_, rfl⟩
    have hw2 : IntKind.u64.wrap (-(n + 18446744073709551616)) = (u : Int) := by
      simp [IntKind.wrap, IntKind.bits, IntKind.signed]
      omega
    have hul : u < 18446744073709551616 := by omega
    rw [← hu] at HI
    clear hu
    have hcc := cons_bytes 45 (Lib.decDigits u)
    go_enter Tryz.func51, Tryz.ntmps51
    go_wp2_with fail
    refine (digits_any u hul _).mono ?_
    rintro e w1 ⟨rfl, b1⟩
    have hsz : (⟨(Lib.decDigits u).toArray⟩ : ByteArray).size ≤ 20 := by
      show (Lib.decDigits u).toArray.size ≤ 20
      rw [List.size_toArray, Lib.decDigits_length]
      exact nDig_le 19 u (by omega)
    obtain ⟨T1, hT1⟩ : ∃ T1, T1 = (⟨(Lib.decDigits u).toArray⟩ : ByteArray) := ⟨_, rfl⟩
    obtain ⟨T2, hT2⟩ : ∃ T2, T2 = (⟨(45 :: Lib.decDigits u).toArray⟩ : ByteArray) := ⟨_, rfl⟩
    rw [← hT1, ← hT2] at hcc
    rw [← hT1] at hsz ⊢
    have HT2 : Hid _ := hT2
    clear hT1 hT2
    go_wp2
    go_ret
    exact ⟨by rw [HI.out, ← HT2.out]; rfl, b1⟩
  · have HI : Hid (Lib.itoa n = Lib.decDigits n.toNat) := by show Lib.itoa n = _; unfold Lib.itoa; rw [if_neg hn]
    obtain ⟨u, hu⟩ : ∃ u, u = n.toNat := ⟨_, rfl⟩
    obtain rfl : n = (u : Int) := by omega
    have hul : u < 18446744073709551616 := by omega
    rw [← hu] at HI
    clear hu
    have hw1 : IntKind.u64.wrap (u : Int) = (u : Int) := by
      simp [IntKind.wrap, IntKind.bits, IntKind.signed]
      omega
    go_enter Tryz.func51, Tryz.ntmps51
    go_wp2_with fail
    refine (digits_any u hul _).mono ?_
    rintro e w1 ⟨rfl, b1⟩
    go_wp2
    go_ret
    exact ⟨by rw [HI.out]; rfl, b1⟩

theorem cnS_cat (i : Nat) : (⟨#[86]⟩ : ByteArray) ++ ⟨(Lib.itoa (i : Int)).toArray⟩ = cnS i := cons_bytes 86 _
theorem cnS_short {i : Nat} (h : i < 24) : (⟨(Lib.itoa (i : Int)).toArray⟩ : ByteArray).size ≤ 20 := by
  unfold Lib.itoa
  rw [if_neg (by omega), show ((i : Int)).toNat = i by omega]
  show (Lib.decDigits i).toArray.size ≤ 20
  rw [List.size_toArray, Lib.decDigits_length]
  exact nDig_le 19 i (by omega)
set_option maxHeartbeats 800000 in
theorem canonical_any (i : Nat) (h : i < 24) (w : World) : Calls Tryz.prog 22 #[.int .i64 i] w fun e w' => e = .returned (.string (cnS i)) ∧ Below w.heap.size w w' := by
  have hm := cnS_cat i
  have hsz := cnS_short h
  have HD := Lib.hid (rDigits_any (i : Int) (by omega) (by omega) w)
  generalize (⟨(Lib.itoa (i : Int)).toArray⟩ : ByteArray) = S at hm hsz HD
  generalize cnS i = C at hm
  have hi : ((i : Int)) < 24 := by omega
  go_enter Tryz.func22, Tryz.ntmps22
  go_wp2_with fail
  refine HD.out.mono ?_
  rintro e w1 ⟨rfl, b1⟩
  go_wp2
  go_ret
  exact ⟨by first | rfl | (rw [← hm]; rfl), b1⟩
theorem infoCnP : (Tryz.prog.info? 49).map (fun i => (i.zero, i.size, i.bytes)) = some (some (.agg #[.string ⟨#[]⟩, .string ⟨#[]⟩, .int .i8 0, .int .i64 0, .string ⟨#[]⟩]), 5, 64) := by kernel_rfl
theorem cnP_cells (vs : List ByteArray) (k : Nat) : (cnP vs (k + 1)).flatMap P.cells = (cnP vs k).flatMap P.cells ++ [.string (atS vs k), .string (cnS k), .int .i8 0, .int .i64 0, .string ⟨#[]⟩] := by
  rw [cnP_succ, List.flatMap_append]
  rfl
theorem cnS_size {i : Nat} (h : i < 24) : (cnS i).size ≤ maxLen := by
  rw [← cnS_cat i]
  have := cnS_short h
  rw [ByteArray.size_append]
  unfold maxLen
  have : (⟨#[86]⟩ : ByteArray).size = 1 := rfl
  omega
theorem cnP_wf {vs : List ByteArray} {k : Nat} (hv : ∀ n ∈ vs, n.size ≤ maxLen) (hk : k ≤ vs.length) (h : k ≤ 24) : ∀ p ∈ cnP vs k, p.wf := by
  intro p hp
  unfold cnP at hp
  obtain ⟨i, hi, rfl⟩ := List.mem_map.1 hp
  have hi := List.mem_range.1 hi
  exact ⟨by show (atS vs i).size ≤ _; rw [atS_eq (by omega)]; exact hv _ (List.getElem_mem _), cnS_size (by omega), V0.ok⟩
theorem vsT_size {w : World} {d : Nat} {r : R3} {p : RP} (h : RIs w d r p) : ∀ n ∈ vsT [] (termsR d r), n.size ≤ maxLen := by
  intro n hn
  rcases vsT_mem _ _ _ hn with h1 | ⟨t, h1, rfl⟩
  · cases h1
  · exact (termsR_wf h t h1).text
end Go.Proofs.YtgplipfebnigiaaGreatDoor
end
