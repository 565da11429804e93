import Derived.Test.YtlnioaokpmeioaaGreatDoorG23
section
namespace Go.Proofs.YtlnioaokpmeioaaGreatDoor
open Go.RowKit Go.Maps
set_option linter.unusedVariables false
set_option linter.unusedSimpArgs false
attribute [local go_sem ↓] Go.wp_at_zero Go.wp_at_succ

/-- a rule and where its lists lie; a list of rules in memory -/
structure XR where
  r : R3
  p : RP
def XR.cells (y : XR) : List Value := [.string y.r.pr, .slice y.p.a y.r.hd.length y.p.c, .slice y.p.ba y.r.bd.length y.p.bc]
theorem XR.val_eq (y : XR) : Value.agg y.cells.toArray = y.r.val y.p := rfl
def XR0 : XR := ⟨⟨noS, [], []⟩, ⟨none, 0, none, 0⟩⟩
def atR (l : List XR) (i : Nat) : XR := l.getD i XR0
theorem atR_eq {l : List XR} {i : Nat} (h : i < l.length) : atR l i = l[i] := by simp [atR, List.getD, List.getElem?_eq_getElem h]
theorem atR_map {n : Nat} (U : Nat → XR) {i : Nat} (h : i < n) : atR ((List.range n).map U) i = U i := by simp [atR, List.getD, h]
theorem oneCells_rule (y : XR) : (XR.cells y).toArray.all (·.oneCell') = true := by simp [XR.cells, Value.oneCell']
structure Lr (w : World) (v : Value) (d : Nat) (l : List XR) : Prop where
  lies : Ls w v l.length (l.flatMap XR.cells)
  each : ∀ i, i < l.length → RIs w d (atR l i).r (atR l i).p
theorem Lr.below {w w' : World} {v : Value} {d : Nat} {l : List XR} (h : Lr w v d l) (b : Below w.heap.size w w') : Lr w' v d l := ⟨h.lies.below b, fun i hi => (h.each i hi).below b⟩
theorem Lr.form {w : World} {v : Value} {d : Nat} {l : List XR} (h : Lr w v d l) : ∃ a c, v = .slice a l.length c ∧ l.length ≤ c ∧ c ≤ maxLen ∧ (0 < l.length → ∃ g off, a = some ⟨g, off, none⟩ ∧ g < w.heap.size ∧ ∀ i, i < l.length → w.rangeAt g (off + i * 3) (atR l i).cells) := ls_range (f := XR.cells) (k := 3) (fun _ => rfl) XR0 h.lies
theorem load_Rul {u : World} {g o : Nat} {cs : List Value} (h : u.rangeAt g o cs) (hl : cs.length = 3) : (loadVar 72 ⟨g, o, none⟩).run Tryz.prog u = .ok (.agg cs.toArray) u :=
  run_loadVar_mid u g o _ cs _ h Tryz.underlying72 rfl (by rw [hl]; kernel_rfl)
end Go.Proofs.YtlnioaokpmeioaaGreatDoor
end
section
namespace Go.Proofs.YtlnioaokpmeioaaGreatDoor
open Go.RowKit Go.Maps
set_option linter.unusedVariables false
set_option linter.unusedSimpArgs false
attribute [local go_sem ↓] Go.wp_at_zero Go.wp_at_succ
attribute [-go_sem] loadVar storeVar

/-- rules that are not beyond the bound -/
structure smallS (d : Nat) (l : List XR) : Prop where
  len : l.length ≤ 1048576
  each : ∀ i, i < l.length → smallR d (atR l i).r
  terms : (l.flatMap (fun y => termsR d y.r)).length ≤ 1048576
theorem takeRl {l : List XR} {k : Nat} (h : k < l.length) : l.take (k + 1) = l.take k ++ [atR l k] := by rw [List.take_add_one, List.getElem?_eq_getElem h, atR_eq h]; rfl
set_option maxHeartbeats 3200000 in
theorem rulePartsN_any (d : Nat) (r : R3) (p : RP) (w : World) (hR : RIs w d r p) :
    Calls Tryz.prog 28 #[r.val p, .int .i64 1048576] w fun e w' => ∃ n : Int, e = .returned (.int .i64 n) ∧ Below w.heap.size w w' ∧ 0 ≤ n ∧ n ≤ 281474976710657 ∧ (n ≤ 1048576 → smallR d r ∧ 1 + ((termsR d r).length : Int) ≤ n) := by
  obtain ⟨pr, hd, bd⟩ := r
  obtain ⟨pa, pc, ba, bc⟩ := p
  have hhl := hR.hl
  have hbl := hR.bl
  have h2 := hR.bd
  unfold R3.val
  dsimp only at hhl hbl h2 ⊢
  have HEa : Hid (∀ i, i < bd.length → LIs w d (atL bd i).x (atL bd i).p) := fun i hi => h2.at_is hi
  obtain ⟨a1, c1, e1, hc1, hc2, hk⟩ := h2.form
  cases e1
  have HK : Hid _ := hk
  have HBA : Hid (Below w.heap.size w (w.alloc (.cells #[.string pr, .slice pa hd.length pc, .slice ba bd.length bc] 72))) := (Below.refl w.heap.size w).alloc (Nat.le_refl _) _
  have HR0 : Hid (RL (w.alloc (.cells #[.string pr, .slice pa hd.length pc, .slice ba bd.length bc] 72)) w.heap.size 72 [.string pr, .slice pa hd.length pc, .slice ba bd.length bc]) := rl_new w #[.string pr, .slice pa hd.length pc, .slice ba bd.length bc] 72
  have hagg1 := fun q => loadVar.eq_1 70 q
  have hagg2 := fun q => loadVar.eq_1 69 q
  have hw0 : IntKind.i64.wrap (1 + (hd.length : Int)) = 1 + (hd.length : Int) := wrap_mid (by omega) (by omega)
  clear hk h2 hR hc2
  go_enter Tryz.func28, Tryz.ntmps28
  go_wp2
  clear hw0
  go_loopw [5, 6] (fun n i wr => ∃ (k : Nat) (m : Int), k ≤ bd.length ∧ i = .int .i64 k ∧ n = .int .i64 m ∧ 0 ≤ m ∧ m ≤ 281474976710657 ∧ Below w.heap.size w wr ∧ Hid (RL wr w.heap.size 72 [.string pr, .slice pa hd.length pc, .slice ba bd.length bc]) ∧ Hid (m ≤ 1048576 → 1 + (hd.length : Int) + (k : Int) + (((bd.take k).flatMap (fun y => termsL d y.x)).length : Int) ≤ m ∧ ∀ y ∈ bd.take k, smallL d y.x)) (fun _ i _ => bd.length - (intOf i).toNat)
  case atStart => exact ⟨0, 1 + (hd.length : Int), Nat.zero_le _, rfl, rfl, by omega, by omega, HBA.out, HR0, fun _ => ⟨by simp, fun y hy => by simp at hy⟩⟩
  case round =>
    obtain ⟨k, m, hk, rfl, rfl, hm0, hm1, bel, HR, HS⟩ := hrel
    have r2 := HR.out.at (j := 2) rfl
    clear HR0 HBA
    by_cases hlt : k < bd.length
    · have hlt' : (k : Int) < (bd.length : Int) := by omega
      by_cases hmm : m ≤ 1048576
      · obtain ⟨g, off, rfl, hg, hKS⟩ := HK.out (by omega)
        have hld := load_Lit (range_below (hKS k hlt) bel hg) rfl
        rw [XL.val_eq] at hld
        have hXk := (HEa.out k hlt).below bel
        have hw1 : IntKind.i64.wrap (1048576 - m) = 1048576 - m := wrap_mid (by omega) (by omega)
        have HP : Hid (∀ z : Int, 0 ≤ z → z ≤ 1048576 → Calls Tryz.prog 51 #[(atL bd k).x.val (atL bd k).p, .int .i64 z] wr fun r w' => ∃ n : Int, r = .returned (.int .i64 n) ∧ Below wr.heap.size wr w' ∧ (0 ≤ n ∧ n ≤ z + 1) ∧ (n ≤ z → smallL d (atL bd k).x ∧ 1 + ((termsL d (atL bd k).x).length : Int) ≤ n)) := fun z h0 h1 => by
          obtain ⟨q, rfl⟩ : ∃ q : Nat, z = q := ⟨z.toNat, by omega⟩
          exact literalPartsT_any d _ _ wr hXk q (by omega)
        have HTk : Hid _ := takeL hlt
        generalize (atL bd k).x.val (atL bd k).p = QV at hld HP
        clear hKS hXk
        go_wp2_with fail
        refine Calls.mono (HP.out _ (by omega) (by omega)) ?_
        rintro ee w1 ⟨n1, rfl, b1, ⟨hn0, hn1⟩, hsm⟩
        have HR1 : Hid (RL w1 w.heap.size 72 _) := RL.below HR.out b1
        have bel1 := bel.trans (b1.mono bel.size)
        have HSM : Hid _ := hsm
        have hw2 : IntKind.i64.wrap (m + n1) = m + n1 := wrap_mid (by omega) (by omega)
        clear hsm b1 bel r2 HR HP hld
        go_wp2
        go_roundw
        case rel =>
          refine ⟨k + 1, m + n1, by omega, by go_num, rfl, by omega, by omega, bel1, HR1, fun h => ?_⟩
          obtain ⟨h1, h2⟩ := HS.out (by omega)
          obtain ⟨h3, h4⟩ := HSM.out (by omega)
          rw [HTk.out, List.flatMap_append, List.length_append]
          refine ⟨by simp only [List.flatMap_cons, List.flatMap_nil, List.append_nil]; omega, fun y hy => ?_⟩
          rcases List.mem_append.1 hy with h5 | h5
          · exact h2 y h5
          · rw [List.mem_singleton.1 h5]; exact h3
        case measure => simp [intOf]; omega
      · have hmm' : ¬ m ≤ 1048576 := hmm
        go_wp2
        go_ret
        exact ⟨_, rfl, bel, hm0, hm1, fun h => absurd h (by omega)⟩
    · obtain rfl : k = bd.length := by omega
      rw [List.take_length] at HS
      go_wp2
      go_ret
      refine ⟨_, rfl, bel, hm0, hm1, fun h => ?_⟩
      obtain ⟨h1, h2⟩ := HS.out h
      have ht : (termsR d ⟨pr, hd, bd⟩).length = hd.length + (bd.flatMap (fun y => termsL d y.x)).length := by unfold termsR; rw [List.length_append, List.length_map]
      exact ⟨⟨by show hd.length ≤ _; omega, by show bd.length ≤ _; omega, h2, by rw [ht]; omega⟩, by rw [ht]; omega⟩
set_option maxHeartbeats 3200000 in
theorem beyondRules_any (d : Nat) (v : Value) (l : List XR) (w : World) (hll : l.length ≤ 281474976710656) (hL : Lr w v d l) :
    Calls Tryz.prog 13 #[v] w fun e w' => ∃ b : Bool, e = .returned (.bool b) ∧ Below w.heap.size w w' ∧ (b = false → smallS d l) := by
  have HEa : Hid (∀ i, i < l.length → RIs w d (atR l i).r (atR l i).p) := hL.each
  obtain ⟨a, c, rfl, hc1, hc2, hk⟩ := hL.form
  have HK : Hid _ := hk
  clear hk hL hc2
  go_enter Tryz.func13, Tryz.ntmps13
  go_wp2
  go_loopw [3, 4] (fun n i wr => ∃ (k : Nat) (m : Int), k ≤ l.length ∧ i = .int .i64 k ∧ n = .int .i64 m ∧ 0 ≤ m ∧ m ≤ 1048576 ∧ Below w.heap.size w wr ∧ Hid ((k : Int) + (((l.take k).flatMap (fun y => termsR d y.r)).length : Int) ≤ m ∧ ∀ i, i < k → smallR d (atR l i).r)) (fun _ i _ => l.length - (intOf i).toNat)
  case atStart => exact ⟨0, 0, Nat.zero_le _, rfl, rfl, by omega, by omega, Below.refl _ _, by simp, fun i hi => absurd hi (by omega)⟩
  case round =>
    obtain ⟨k, m, hk, rfl, rfl, hm0, hm1, bel, HS⟩ := hrel
    by_cases hlt : k < l.length
    · have hlt' : (k : Int) < (l.length : Int) := by omega
      obtain ⟨g, off, rfl, hg, hKS⟩ := HK.out (by omega)
      have hld := load_Rul (range_below (hKS k hlt) bel hg) rfl
      have HP : Hid _ := rulePartsN_any d (atR l k).r (atR l k).p wr ((HEa.out k hlt).below bel)
      rw [XR.val_eq] at hld
      have HTk : Hid _ := takeRl hlt
      generalize (atR l k).r.val (atR l k).p = QV at hld HP
      clear hKS
      go_wp2_with fail
      refine Calls.mono HP.out ?_
      rintro e w1 ⟨n1, rfl, b1, hn0, hn1, hsm⟩
      have bel1 : Below w.heap.size w w1 := bel.trans (b1.mono bel.size)
      have HSM : Hid _ := hsm
      have hw2 : IntKind.i64.wrap (m + n1) = m + n1 := wrap_mid (by omega) (by omega)
      clear hsm b1 bel HP hld
      by_cases hbig : (1048576 : Int) < m + n1
      · go_wp2
        go_ret
        exact ⟨_, rfl, bel1, fun h => by cases h⟩
      · have hbig' : ¬ (1048576 : Int) < m + n1 := hbig
        go_wp2
        go_roundw
        case rel =>
          refine ⟨k + 1, m + n1, by omega, by go_num, rfl, by omega, by omega, bel1, ?_, fun i hi => ?_⟩
          · have h1 := HS.out.1
            have h2 := (HSM.out (by omega)).2
            rw [HTk.out, List.flatMap_append, List.length_append]
            simp only [List.flatMap_cons, List.flatMap_nil, List.append_nil]
            omega
          · by_cases e : i = k
            · rw [e]; exact (HSM.out (by omega)).1
            · exact HS.out.2 i (by omega)
        case measure => simp [intOf]; omega
    · obtain rfl : k = l.length := by omega
      rw [List.take_length] at HS
      go_wp2
      go_ret
      exact ⟨_, rfl, bel, fun _ => ⟨by have := HS.out.1; omega, HS.out.2, by have := HS.out.1; omega⟩⟩
end Go.Proofs.YtlnioaokpmeioaaGreatDoor
end
