import Derived.Test.YteabclfhmapabaaGreatDoorA7
import Derived.Test.YteabclfhmapabaaGreatDoorA2
import Derived.Test.YteabclfhmapabaaGreatDoorA4
import Derived.Test.YteabclfhmapabaaGreatDoorA3
import Derived.Test.YteabclfhmapabaaGreatDoorA5
import Derived.Test.YteabclfhmapabaaGreatDoorA6
section
namespace Go.Proofs.YteabclfhmapabaaGreatDoor
open Go.RowKit Go.Maps
set_option linter.unusedVariables false
set_option linter.unusedSimpArgs false
attribute [local go_sem ↓] Go.wp_at_zero Go.wp_at_succ
attribute [-go_sem] loadVar storeVar

set_option maxHeartbeats 6400000 in
theorem isRule_any (d : Nat) (r : R3) (p : RP) (w : World) (hT : KT w) (hR : RIs w d r p) (hs : smallR d r) : Calls Tryz.prog 33 #[r.val p] w fun e w' => e = .returned (.bool (ruleB d r)) ∧ Below w.heap.size w w' := by
  obtain ⟨pr, hd, bd⟩ := r
  obtain ⟨pa, pc, ba, bc⟩ := p
  have HA : Hid (ruleB d ⟨pr, hd, bd⟩ = (nameB pr && (decide (hd.length ≤ 24) && (decide (bd.length ≤ 16) && (hd.all argB && (bd.all (fun y => litB y.x) && decide ((vsT [] (termsR d ⟨pr, hd, bd⟩)).length ≤ 24))))))) := rfl
  have HVs : Hid (∀ u, Below w.heap.size w u → Calls Tryz.prog 18 #[.agg #[.string pr, .slice pa hd.length pc, .slice ba bd.length bc]] u fun e w' => ∃ sv, e = .returned sv ∧ Ls w' sv (vsT [] (termsR d ⟨pr, hd, bd⟩)).length ((vsT [] (termsR d ⟨pr, hd, bd⟩)).flatMap strB) ∧ Below u.heap.size u w') := fun u hu => vruleVars_any d ⟨pr, hd, bd⟩ ⟨pa, pc, ba, bc⟩ u (hR.below hu) (by have := hs.terms; omega)
  have hhl := hR.hl
  have hbl := hR.bl
  have hpb := hR.pb
  have h1 := hR.hd
  have h2 := hR.bd
  unfold R3.val
  dsimp only at hhl hbl hpb h1 h2 ⊢
  have HAi : Hid (∀ i, i < hd.length → ∀ u, Calls Tryz.prog 63 #[.agg (atA hd i).cells.toArray] u fun e w' => e = .returned (.bool (argB (atA hd i))) ∧ Below u.heap.size u w') := fun i hi u => tArg_any _ u (h1.at_wf hi)
  have HLi : Hid (∀ i, i < bd.length → ∀ u, Below w.heap.size w u → Calls Tryz.prog 64 #[.agg (atL bd i).cells.toArray] u fun e w' => e = .returned (.bool (litB (atL bd i).x)) ∧ Below u.heap.size u w') := fun i hi => fun u hu => isLiteral_any d _ _ u (hT.below hu) ((h2.at_is hi).below hu) (h2.at_is hi).l.len (h2.at_is hi).r.len
  obtain ⟨a1, c1, e1, hc1, hc2, hk1⟩ := h1.form
  cases e1
  obtain ⟨a2, c2, e2, hc3, hc4, hk2⟩ := h2.form
  cases e2
  have HK1 : Hid _ := hk1
  have HK2 : Hid _ := hk2
  have HBA : Hid (Below w.heap.size w (w.alloc (.cells #[.string pr, .slice pa hd.length pc, .slice ba bd.length bc] 25))) := (Below.refl w.heap.size w).alloc (Nat.le_refl _) _
  have HR0 : Hid (RL (w.alloc (.cells #[.string pr, .slice pa hd.length pc, .slice ba bd.length bc] 25)) w.heap.size 25 [.string pr, .slice pa hd.length pc, .slice ba bd.length bc]) := rl_new w #[.string pr, .slice pa hd.length pc, .slice ba bd.length bc] 25
  have HLD : Hid (∀ u, RL u w.heap.size 25 [.string pr, .slice pa hd.length pc, .slice ba bd.length bc] → (loadVar 25 ⟨w.heap.size, 0, none⟩).run Tryz.prog u = .ok (.agg #[.string pr, .slice pa hd.length pc, .slice ba bd.length bc]) u) := fun u hu => run_loadVar_mid _ _ 0 25 [.string pr, .slice pa hd.length pc, .slice ba bd.length bc] _ (RL.range hu) Tryz.underlying25 rfl (by kernel_rfl)
  have hagg1 := fun q => loadVar.eq_1 23 q
  have hagg2 := fun q => loadVar.eq_1 22 q
  have hagg3 := fun q => loadVar.eq_1 9 q
  obtain ⟨vn, hvn⟩ : ∃ vn, vsT [] (termsR d ⟨pr, hd, bd⟩) = vn := ⟨_, rfl⟩
  rw [hvn] at HA HVs
  obtain ⟨rb, hrb⟩ : ∃ rb, ruleB d ⟨pr, hd, bd⟩ = rb := ⟨_, rfl⟩
  rw [hrb] at HA ⊢
  clear hk1 hk2 h1 h2 hR hs hvn hrb hc2 hc4 hc1 hc3 hT
  go_enter Tryz.func33, Tryz.ntmps33
  go_wp2_with fail
  refine (tName_any pr _ hpb).mono ?_
  rintro e w1 ⟨rfl, b1⟩
  have HB1 : Hid (Below w.heap.size w w1) := HBA.out.trans (b1.mono HBA.out.size)
  have HR1 : Hid (RL w1 w.heap.size 25 [.string pr, .slice pa hd.length pc, .slice ba bd.length bc]) := RL.below HR0.out b1
  clear b1 HR0 HBA
  have r1 := HR1.out.at (j := 1) rfl
  have r2 := HR1.out.at (j := 2) rfl
  cases hn : nameB pr
  · have HF : Hid (rb = false) := by show _ = _; rw [HA.out, hn]; rfl
    go_wp2
    go_ret
    exact ⟨ret_bool HF.out.symm, HB1.out⟩
  · by_cases h24 : hd.length ≤ 24
    · by_cases h16 : bd.length ≤ 16
      · have h24' : (hd.length : Int) ≤ 24 := by omega
        have h16' : (bd.length : Int) ≤ 16 := by omega
        have HB : Hid (rb = (hd.all argB && (bd.all (fun y => litB y.x) && decide (vn.length ≤ 24)))) := by show _ = _; rw [HA.out, hn, decide_eq_true h24, decide_eq_true h16]; rfl
        clear HA hn
        go_wp2
        clear r1 r2
        go_loopw [26] (fun i wr => ∃ k : Nat, k ≤ hd.length ∧ i = .int .i64 k ∧ Below w.heap.size w wr ∧ Hid (RL wr w.heap.size 25 [.string pr, .slice pa hd.length pc, .slice ba bd.length bc]) ∧ Hid ((hd.take k).all argB = true)) (fun i _ => hd.length - (intOf i).toNat)
        case atStart => exact ⟨0, Nat.zero_le _, rfl, HB1.out, HR1, by simp [Hid]⟩
        case round =>
          obtain ⟨k, hk, rfl, bel, HRw, HS⟩ := hrel
          by_cases hlt : k < hd.length
          · have hlt' : (k : Int) < (hd.length : Int) := by omega
            have hk0 : (0 : Int) ≤ (k : Int) := by omega
            obtain ⟨g, off, rfl, hg, hT⟩ := HK1.out (by omega)
            have hld := load_Arg (range_below (hT k hlt) bel hg) rfl
            have HI : Hid _ := HAi.out k hlt
            have HN : Hid (argB (atA hd k) = false → rb = false) := fun h => by rw [HB.out, allA_not hlt h]; rfl
            have HY : Hid (argB (atA hd k) = true → (hd.take (k + 1)).all argB = true) := fun h => by rw [allA_take hlt, HS.out, h]; rfl
            have hst : (storeVar 125 ⟨wr.heap.size, 0, none⟩ (.agg (atA hd k).cells.toArray)).run Tryz.prog (wr.alloc (.cells #[.int .i8 0, .string ⟨#[]⟩, .int .i8 0, .int .i64 0, .string ⟨#[]⟩] 125)) = .ok () (wr.alloc (.cells (atA hd k).cells.toArray 125)) := run_storeVar_new wr 125 #[.int .i8 0, .string ⟨#[]⟩, .int .i8 0, .int .i64 0, .string ⟨#[]⟩] (atA hd k).cells.toArray (by kernel_rfl) rfl (oneCells_arg _)
            have hl2 := load_Arg (RL.range (rl_new wr (atA hd k).cells.toArray 125)) rfl
            have HB2 : Hid (Below w.heap.size w (wr.alloc (.cells (atA hd k).cells.toArray 125))) := bel.alloc bel.size _
            have HBN : Hid (Below wr.heap.size wr (wr.alloc (.cells (atA hd k).cells.toArray 125))) := (Below.refl _ _).alloc (Nat.le_refl _) _
            generalize wr.alloc (.cells (atA hd k).cells.toArray 125) = W2 at hst hl2 HB2 HBN
            have hl2' : (loadVar 125 ⟨wr.heap.size, 0, none⟩).run Tryz.prog W2 = .ok (.agg (atA hd k).cells.toArray) W2 := hl2
            clear hl2
            generalize Value.agg (atA hd k).cells.toArray = QV at hld hst hl2' HI
            generalize argB (atA hd k) = ab at HI HN HY
            clear hT
            go_wp2_with fail
            refine Calls.mono (HI.out _) ?_
            rintro e w2 ⟨rfl, b2⟩
            have bel2 : Below w.heap.size w w2 := HB2.out.trans (b2.mono HB2.out.size)
            have HR2 : Hid (RL w2 w.heap.size 25 _) := RL.below (RL.below HRw.out HBN.out) b2
            clear b2 HI hld hst hl2'
            cases ab
            · go_wp2
              go_ret
              exact ⟨ret_bool (HN.out (by first | rfl | trivial)).symm, bel2⟩
            · go_wp2
              go_roundw
              case rel => exact ⟨k + 1, by omega, by go_num, bel2, HR2, HY.out (by first | rfl | trivial)⟩
              case measure => simp [intOf]; omega
          · obtain rfl : k = hd.length := by omega
            rw [List.take_length] at HS
            have HB2 : Hid (rb = (bd.all (fun y => litB y.x) && decide (vn.length ≤ 24))) := by show _ = _; rw [HB.out, HS.out]; rfl
            have HRx : Hid _ := HRw.out
            have q2 := HRw.out.at (j := 2) rfl
            have HBx : Hid _ := bel
            clear HB HS HRw bel
            go_wp2
            clear q2
            go_loopw [37] (fun i wr => ∃ k : Nat, k ≤ bd.length ∧ i = .int .i64 k ∧ Below w.heap.size w wr ∧ Hid (RL wr w.heap.size 25 [.string pr, .slice pa hd.length pc, .slice ba bd.length bc]) ∧ Hid ((bd.take k).all (fun y => litB y.x) = true)) (fun i _ => bd.length - (intOf i).toNat)
            case atStart => exact ⟨0, Nat.zero_le _, rfl, HBx.out, HRx, by simp [Hid]⟩
            case round =>
              obtain ⟨k, hk, rfl, bel, HRw, HS⟩ := hrel
              by_cases hlt : k < bd.length
              · have hlt' : (k : Int) < (bd.length : Int) := by omega
                have hk0 : (0 : Int) ≤ (k : Int) := by omega
                obtain ⟨g, off, rfl, hg, hT⟩ := HK2.out (by omega)
                have hld := load_Lit (range_below (hT k hlt) bel hg) rfl
                have HI : Hid _ := HLi.out k hlt
                have HN : Hid (litB (atL bd k).x = false → rb = false) := fun h => by rw [HB2.out, allL_not (f := fun y => litB y.x) hlt h]; rfl
                have HY : Hid (litB (atL bd k).x = true → (bd.take (k + 1)).all (fun y => litB y.x) = true) := fun h => by rw [allL_take (f := fun y => litB y.x) hlt, HS.out, h]; rfl
                have hst : (storeVar 53 ⟨wr.heap.size, 0, none⟩ (.agg (atL bd k).cells.toArray)).run Tryz.prog (wr.alloc (.cells #[.int .i8 0, .string ⟨#[]⟩, .slice none 0 0, .int .i8 0, .int .i8 0, .string ⟨#[]⟩, .int .i8 0, .int .i64 0, .string ⟨#[]⟩, .slice none 0 0, .int .i8 0, .string ⟨#[]⟩, .int .i8 0, .int .i64 0, .string ⟨#[]⟩, .slice none 0 0] 53)) = .ok () (wr.alloc (.cells (atL bd k).cells.toArray 53)) := run_storeVar_new wr 53 #[.int .i8 0, .string ⟨#[]⟩, .slice none 0 0, .int .i8 0, .int .i8 0, .string ⟨#[]⟩, .int .i8 0, .int .i64 0, .string ⟨#[]⟩, .slice none 0 0, .int .i8 0, .string ⟨#[]⟩, .int .i8 0, .int .i64 0, .string ⟨#[]⟩, .slice none 0 0] (atL bd k).cells.toArray (by kernel_rfl) rfl (oneCells_lit _)
                have hl2 := load_Lit (RL.range (rl_new wr (atL bd k).cells.toArray 53)) rfl
                have HB3 : Hid (Below w.heap.size w (wr.alloc (.cells (atL bd k).cells.toArray 53))) := bel.alloc bel.size _
                have HBN : Hid (Below wr.heap.size wr (wr.alloc (.cells (atL bd k).cells.toArray 53))) := (Below.refl _ _).alloc (Nat.le_refl _) _
                generalize wr.alloc (.cells (atL bd k).cells.toArray 53) = W2 at hst hl2 HB3 HBN
                have hl2' : (loadVar 53 ⟨wr.heap.size, 0, none⟩).run Tryz.prog W2 = .ok (.agg (atL bd k).cells.toArray) W2 := hl2
                clear hl2
                generalize Value.agg (atL bd k).cells.toArray = QV at hld hst hl2' HI
                generalize litB (atL bd k).x = ab at HI HN HY
                clear hT
                go_wp2_with fail
                refine Calls.mono (HI.out _ HB3.out) ?_
                rintro e w2 ⟨rfl, b2⟩
                have bel2 : Below w.heap.size w w2 := HB3.out.trans (b2.mono HB3.out.size)
                have HR2 : Hid (RL w2 w.heap.size 25 _) := RL.below (RL.below HRw.out HBN.out) b2
                clear b2 HI hld hst hl2'
                cases ab
                · go_wp2
                  go_ret
                  exact ⟨ret_bool (HN.out (by first | rfl | trivial)).symm, bel2⟩
                · go_wp2
                  go_roundw
                  case rel => exact ⟨k + 1, by omega, by go_num, bel2, HR2, HY.out (by first | rfl | trivial)⟩
                  case measure => simp [intOf]; omega
              · obtain rfl : k = bd.length := by omega
                rw [List.take_length] at HS
                have HB4 : Hid (rb = decide (vn.length ≤ 24)) := by show _ = _; rw [HB2.out, HS.out]; rfl
                have hl9 := HLD.out _ HRw.out
                go_wp2_with fail
                refine Calls.mono (HVs.out _ bel) ?_
                rintro e w2 ⟨sv, rfl, hls, b2⟩
                obtain ⟨va, vc, rfl, hv1, hv2, _⟩ := ls_str hls
                have bel2 : Below w.heap.size w w2 := bel.trans (b2.mono bel.size)
                clear hls b2 hl9 HB2 HS
                go_wp2
                go_ret
                exact ⟨ret_bool (by rw [HB4.out]; rw [Bool.eq_iff_iff]; simp only [decide_eq_true_eq]; omega), bel2⟩
      · have h16' : (16 : Int) < (bd.length : Int) := by omega
        have h24' : (hd.length : Int) ≤ 24 := by omega
        have HF : Hid (rb = false) := by show _ = _; rw [HA.out, decide_eq_false h16]; simp
        go_wp2
        go_ret
        exact ⟨ret_bool HF.out.symm, HB1.out⟩
    · have h24' : (24 : Int) < (hd.length : Int) := by omega
      have HF : Hid (rb = false) := by show _ = _; rw [HA.out, decide_eq_false h24]; simp
      go_wp2
      go_ret
      exact ⟨ret_bool HF.out.symm, HB1.out⟩
theorem checkRule_any (d : Nat) (r : R3) (p : RP) (w : World) (hT : KT w) (hR : RIs w d r p) (hs : smallR d r) : Calls Tryz.prog 16 #[r.val p] w fun e w' => e = .returned (.int .i64 (errB (ruleB d r))) ∧ Below w.heap.size w w' := by
  have BA := (Below.refl w.heap.size w).alloc (Nat.le_refl _) (.cells #[.string r.pr, .slice p.a r.hd.length p.c, .slice p.ba r.bd.length p.bc] 25)
  have HL : Hid _ := isRule_any d r p _ (hT.below BA) (hR.below BA) hs
  have hld : (loadVar 25 ⟨w.heap.size, 0, none⟩).run Tryz.prog (w.alloc (.cells #[.string r.pr, .slice p.a r.hd.length p.c, .slice p.ba r.bd.length p.bc] 25)) = .ok (.agg #[.string r.pr, .slice p.a r.hd.length p.c, .slice p.ba r.bd.length p.bc]) _ := run_loadVar_mid _ _ 0 25 [.string r.pr, .slice p.a r.hd.length p.c, .slice p.ba r.bd.length p.bc] _ (RL.range (rl_new w #[.string r.pr, .slice p.a r.hd.length p.c, .slice p.ba r.bd.length p.bc] 25)) Tryz.underlying25 rfl (by kernel_rfl)
  clear hR hs hT
  unfold R3.val at *
  go_enter Tryz.func16, Tryz.ntmps16
  go_wp2_with fail
  refine Calls.mono HL.out ?_
  rintro ee w1 ⟨rfl, b1⟩
  go_wp2_with fail
  refine (verdict_any _ _).mono ?_
  rintro ee w2 ⟨rfl, rfl⟩
  go_wp2
  go_ret
  exact ⟨rfl, BA.trans (b1.mono BA.size)⟩
end Go.Proofs.YteabclfhmapabaaGreatDoor
end
section
namespace Go.Proofs.YteabclfhmapabaaGreatDoor
open Go.RowKit Go.Maps Go.ChangeMaps
set_option linter.unusedVariables false
set_option linter.unusedSimpArgs false

/-- a name and the block of its variable -/
structure Vb where
  v : ByteArray
  b : Nat
def ptrV (x : Vb) : Value := .pointer (some ⟨x.b, 0, none⟩)
def entV (x : Vb) : Value × Value := (.string x.v, ptrV x)
/-- block b is the map from these names to these variables -/
def MapV (w : World) (b : Nat) (s : List Vb) : Prop :=
  ∃ es clock, w.heap[b]? = some (.map es clock) ∧ es.toList.map (fun e => (e.key, e.val)) = s.map entV ∧ ∀ p ∈ s, p.v.size ≤ maxLen
theorem MapV.lt {w : World} {b : Nat} {s : List Vb} (h : MapV w b s) : b < w.heap.size := by
  obtain ⟨es, c, hb, _⟩ := h
  exact (Array.getElem?_eq_some_iff.1 hb).1
theorem MapV.of_block {w w' : World} {b : Nat} {s : List Vb} (h : MapV w b s) (e : w'.heap[b]? = w.heap[b]?) : MapV w' b s := by
  obtain ⟨es, c, hb, r⟩ := h
  exact ⟨es, c, e.trans hb, r⟩
theorem MapV.made (w : World) : MapV (w.alloc (.map #[] 0)) w.heap.size [] := ⟨#[], 0, heap_alloc_new w _, rfl, by simp⟩
theorem vents_at {es : Array MapEntry} {s : List Vb} (h : es.toList.map (fun e => (e.key, e.val)) = s.map entV) {j : Nat} {e : MapEntry} (hj : es.toList[j]? = some e) :
    ∃ p, s[j]? = some p ∧ e.key = .string p.v ∧ e.val = ptrV p := by
  have h1 := congrArg (fun l => l[j]?) h
  simp only [List.getElem?_map, hj, Option.map_some] at h1
  obtain ⟨p, hp, he⟩ := Option.map_eq_some_iff.1 h1.symm
  simp only [entV, Prod.mk.injEq] at he
  exact ⟨p, hp, he.1.symm, he.2.symm⟩
theorem vents_keys {es : Array MapEntry} {s : List Vb} (h : es.toList.map (fun e => (e.key, e.val)) = s.map entV) (hw : ∀ p ∈ s, p.v.size ≤ maxLen) : ∀ e ∈ es.toList, ∃ l, keyOf Tryz.prog 9 e.key = some l := by
  intro e he
  obtain ⟨j, hj⟩ := List.getElem?_of_mem he
  obtain ⟨p, hp, hk, _⟩ := vents_at h hj
  rw [hk]
  exact ⟨_, keyOf_s _ (hw p (List.mem_of_getElem? hp))⟩
theorem vents_no {es : Array MapEntry} {s : List Vb} (h : es.toList.map (fun e => (e.key, e.val)) = s.map entV) {n : ByteArray} (hn : ∀ e ∈ es.toList, e.key ≠ .string n) : ∀ p ∈ s, p.v ≠ n := by
  intro p hp e
  obtain ⟨j, hj⟩ := List.getElem?_of_mem hp
  have h1 := congrArg (fun l => l[j]?) h
  simp only [List.getElem?_map, hj, Option.map_some] at h1
  obtain ⟨x, hx, he⟩ := Option.map_eq_some_iff.1 h1
  simp only [entV, Prod.mk.injEq] at he
  exact hn x (List.mem_of_getElem? hx) (by rw [he.1, e])
theorem zeroPv (w : World) : (zeroValue 108).run Tryz.prog w = .ok (.pointer none) w := by kernel_rfl
/-- where a name's variable lies; none -/
def seekV (s : List Vb) (n : ByteArray) : Option Vb := s.find? (fun p => decide (p.v = n))
def lookV (s : List Vb) (n : ByteArray) : Value := match seekV s n with
  | some p => ptrV p
  | none => .pointer none
theorem MapV.look {w : World} {b : Nat} {s : List Vb} (h : MapV w b s) (nd : (s.map Vb.v).Nodup) {n : ByteArray} (hn : n.size ≤ maxLen) :
    (Instr.lookup 104 (.map (some b)) (.string n) false).run Tryz.prog w = .ok (lookV s n) w := by
  obtain ⟨es, c, hb, hes, hw⟩ := h
  have hl := keyOf_s n hn
  rcases keyedS.find w hl es.toList (vents_keys hes hw) with ⟨h1, h2⟩ | ⟨j, e, h1, h2, h3⟩
  · have : lookV s n = .pointer none := by
      unfold lookV seekV
      rw [List.find?_eq_none.2 (fun p hp => by simpa using vents_no hes h2 p hp)]
    rw [this]
    simp [Instr.lookup, run_underlying Tryz.underlying104, MapKept.run_getObj_map hb, keyedS.check w _ hl, h1, Result.andThen, zeroPv]
  · obtain ⟨p, hp, hk, hval⟩ := vents_at hes h2
    have e : p.v = n := by
      have := hk.symm.trans h3
      injection this
    have hf : s.find? (fun p => decide (p.v = n)) = some p := by
      cases hf : s.find? (fun p => decide (p.v = n)) with
      | none => exact absurd e (by simpa using List.find?_eq_none.1 hf p (List.mem_of_getElem? hp))
      | some q =>
        have hq : q.v = n := by simpa using List.find?_some hf
        obtain ⟨i, hi⟩ := List.getElem?_of_mem (List.mem_of_find?_eq_some hf)
        have e1 : (s.map Vb.v)[i]? = some n := by rw [List.getElem?_map, hi, ← hq]; rfl
        have e2 : (s.map Vb.v)[j]? = some n := by rw [List.getElem?_map, hp, ← e]; rfl
        obtain ⟨i1, i2⟩ := List.getElem?_eq_some_iff.1 e1
        obtain ⟨j1, j2⟩ := List.getElem?_eq_some_iff.1 e2
        have nd' := List.pairwise_iff_getElem.1 nd
        have : i = j := by
          rcases Nat.lt_trichotomy i j with h | h | h
          · exact absurd (i2.trans j2.symm) (nd' i j i1 j1 h)
          · exact h
          · exact absurd (j2.trans i2.symm) (nd' j i j1 i1 h)
        rw [this, hp] at hi
        rw [Option.some.inj hi]
    unfold lookV seekV
    rw [hf]
    simp [Instr.lookup, run_underlying Tryz.underlying104, MapKept.run_getObj_map hb, keyedS.check w _ hl, h1, hval, Result.andThen]
/-- 'm[n] = v' where n is not there -/
theorem MapV.put {w : World} {b : Nat} {s : List Vb} (h : MapV w b s) {p : Vb} (hs : p.v.size ≤ maxLen) (hn : ∀ q ∈ s, q.v ≠ p.v) :
    ∃ w', (Instr.mapUpdate 104 (.map (some b)) (.string p.v) (ptrV p)).run Tryz.prog w = .ok () w' ∧ MapV w' b (s ++ [p]) ∧ w.mapTurned w' b := by
  obtain ⟨es, c, hb, hes, hw⟩ := h
  have hl := keyOf_s p.v hs
  rcases keyedS.find w hl es.toList (vents_keys hes hw) with ⟨h1, h2⟩ | ⟨j, e, h1, h2, h3⟩
  · refine ⟨setBlock w b (.map (es.push ⟨.string p.v, ptrV p, c⟩) (c + 1)), by simp [Instr.mapUpdate, run_underlying Tryz.underlying104, MapKept.run_getObj_map hb, keyedS.check w false hl, h1, MapKept.run_setObj_map _ hb, Result.andThen, setBlock], ⟨_, _, heap_setBlock_same hb _, by simp [hes, entV], ?_⟩, ?_⟩
    · intro q hq
      rcases List.mem_append.1 hq with hq | hq
      · exact hw q hq
      · simp at hq
        subst hq
        exact hs
    · exact ⟨es, c, _, _, hb, rfl⟩
  · obtain ⟨q, hp, hk, hval⟩ := vents_at hes h2
    refine absurd ?_ (hn q (List.mem_of_getElem? hp))
    have := hk.symm.trans h3
    injection this
end Go.Proofs.YteabclfhmapabaaGreatDoor
end
section
namespace Go.Proofs.YteabclfhmapabaaGreatDoor
open Go.RowKit Go.Maps
set_option linter.unusedVariables false
set_option linter.unusedSimpArgs false

/-! the mathematics of Limited (P7.2): names, equations' sides, rounds -/
/-- a name more, if it is not there -/
def addN (out : List ByteArray) (n : ByteArray) : List ByteArray := if inB out n = true then out else out ++ [n]
/-- a side of an equation: the variable that it is, and its variables -/
structure Sd where
  lone : Option ByteArray
  vars : List ByteArray
abbrev Qn := Sd × Sd
/-- what a side gives -/
def givesO (v : Option ByteArray) (o fs : List ByteArray) : Option ByteArray := match v with
  | some v => if (!inB fs v && o.all (inB fs)) = true then some v else none
  | none => none
def gaveO (fs : List ByteArray) (q : Qn) : Option ByteArray := match givesO q.1.lone q.2.vars fs with
  | some v => some v
  | none => givesO q.2.lone q.1.vars fs
def stepQ (fs : List ByteArray) (q : Qn) : List ByteArray := match gaveO fs q with
  | some v => fs ++ [v]
  | none => fs
def rndQ (qs : List Qn) (fs : List ByteArray) : List ByteArray := qs.foldl stepQ fs
/-- a round of the program: what is found, what is left over -/
def progR : List Qn → List ByteArray → List ByteArray × List Qn
  | [], fs => (fs, [])
  | q :: ws, fs => match gaveO fs q with
    | some v => progR ws (fs ++ [v])
    | none => ((progR ws fs).1, q :: (progR ws fs).2)
/-- an equation that gives nothing any more -/
structure Spent (fs : List ByteArray) (q : Qn) : Prop where
  l : ∀ v, q.1.lone = some v → v ∈ fs
  r : ∀ v, q.2.lone = some v → v ∈ fs
/-- a lone variable is one of its side's -/
structure OkQ (q : Qn) : Prop where
  l : ∀ v, q.1.lone = some v → v ∈ q.1.vars
  r : ∀ v, q.2.lone = some v → v ∈ q.2.vars
theorem Spent.mono {fs fs' : List ByteArray} {q : Qn} (h : Spent fs q) (hs : ∀ x ∈ fs, x ∈ fs') : Spent fs' q := ⟨fun v hv => hs v (h.l v hv), fun v hv => hs v (h.r v hv)⟩
theorem givesO_some {v : Option ByteArray} {o fs : List ByteArray} {x : ByteArray} (h : givesO v o fs = some x) : v = some x ∧ ¬ x ∈ fs ∧ ∀ y ∈ o, y ∈ fs := by
  unfold givesO at h
  cases v with
  | none => cases h
  | some v =>
    simp only at h
    split at h
    · rename_i hc
      injection h with h
      subst h
      rw [Bool.and_eq_true, Bool.not_eq_true'] at hc
      exact ⟨rfl, fun k => (by rw [inB_iff.2 k] at hc; cases hc.1), fun y hy => inB_iff.1 (List.all_eq_true.1 hc.2 y hy)⟩
    · cases h
theorem givesO_in {v : Option ByteArray} {o fs : List ByteArray} (h : ∀ x, v = some x → x ∈ fs) : givesO v o fs = none := by
  unfold givesO
  cases v with
  | none => rfl
  | some v =>
    simp only
    rw [if_neg (by rw [inB_iff.2 (h v rfl)]; simp)]
theorem Spent.no {fs : List ByteArray} {q : Qn} (h : Spent fs q) : gaveO fs q = none := by
  unfold gaveO
  rw [givesO_in h.l]
  exact givesO_in h.r
theorem gave_spent {fs : List ByteArray} {q : Qn} {v : ByteArray} (hq : OkQ q) (h : gaveO fs q = some v) : Spent (fs ++ [v]) q := by
  unfold gaveO at h
  cases h1 : givesO q.1.lone q.2.vars fs with
  | some x =>
    rw [h1] at h
    injection h with h
    subst h
    obtain ⟨e1, _, e3⟩ := givesO_some h1
    exact ⟨fun y hy => by rw [e1] at hy; injection hy with hy; simp [hy], fun y hy => List.mem_append.2 (.inl (e3 y (hq.r y hy)))⟩
  | none =>
    rw [h1] at h
    obtain ⟨e1, _, e3⟩ := givesO_some h
    exact ⟨fun y hy => List.mem_append.2 (.inl (e3 y (hq.l y hy))), fun y hy => by rw [e1] at hy; injection hy with hy; simp [hy]⟩
theorem gave_new {fs : List ByteArray} {q : Qn} {v : ByteArray} (h : gaveO fs q = some v) : ¬ v ∈ fs ∧ (q.1.lone = some v ∨ q.2.lone = some v) := by
  unfold gaveO at h
  cases h1 : givesO q.1.lone q.2.vars fs with
  | some x =>
    rw [h1] at h
    injection h with h
    subst h
    exact ⟨(givesO_some h1).2.1, .inl (givesO_some h1).1⟩
  | none =>
    rw [h1] at h
    exact ⟨(givesO_some h).2.1, .inr (givesO_some h).1⟩
/-- what waits, among all equations: the others give nothing any more -/
inductive Wt (fs : List ByteArray) : List Qn → List Qn → Prop where
  | nil : Wt fs [] []
  | keep (q : Qn) {qa ws : List Qn} : Wt fs qa ws → Wt fs (q :: qa) (q :: ws)
  | skip (q : Qn) {qa ws : List Qn} : Spent fs q → Wt fs qa ws → Wt fs (q :: qa) ws
theorem Wt.all (fs : List ByteArray) : ∀ l, Wt fs l l
  | [] => .nil
  | q :: l => .keep q (Wt.all fs l)
theorem Wt.mono {fs fs' : List ByteArray} (hs : ∀ x ∈ fs, x ∈ fs') {qa ws : List Qn} (h : Wt fs qa ws) : Wt fs' qa ws := by
  induction h with
  | nil => exact .nil
  | keep q _ ih => exact .keep q ih
  | skip q hq _ ih => exact .skip q (hq.mono hs) ih
theorem progR_sub : ∀ (ws : List Qn) (fs : List ByteArray), ∀ x ∈ fs, x ∈ (progR ws fs).1
  | [], fs, x, hx => hx
  | q :: ws, fs, x, hx => by
    unfold progR
    cases h : gaveO fs q with
    | some v => exact progR_sub ws _ x (List.mem_append.2 (.inl hx))
    | none => exact progR_sub ws fs x hx
theorem Wt.round : ∀ (qa ws : List Qn) (fs : List ByteArray), (∀ q ∈ qa, OkQ q) → Wt fs qa ws → rndQ qa fs = (progR ws fs).1 ∧ Wt (progR ws fs).1 qa (progR ws fs).2
  | [], ws, fs, _, h => by cases h; exact ⟨rfl, .nil⟩
  | q :: qa, ws, fs, hok, h => by
    have hok' : ∀ x ∈ qa, OkQ x := fun x hx => hok x (List.mem_cons_of_mem _ hx)
    show rndQ qa (stepQ fs q) = _ ∧ _
    cases h with
    | @keep _ _ ws' h' =>
      cases hg : gaveO fs q with
      | none =>
        have e1 : stepQ fs q = fs := by unfold stepQ; rw [hg]
        have e2 : progR (q :: ws') fs = ((progR ws' fs).1, q :: (progR ws' fs).2) := by rw [progR, hg]
        rw [e1, e2]
        obtain ⟨h1, h2⟩ := Wt.round qa ws' fs hok' h'
        exact ⟨h1, .keep q h2⟩
      | some v =>
        have e1 : stepQ fs q = fs ++ [v] := by unfold stepQ; rw [hg]
        have e2 : progR (q :: ws') fs = progR ws' (fs ++ [v]) := by rw [progR, hg]
        rw [e1, e2]
        obtain ⟨h1, h2⟩ := Wt.round qa ws' (fs ++ [v]) hok' (h'.mono (fun x hx => List.mem_append.2 (.inl hx)))
        exact ⟨h1, .skip q ((gave_spent (hok q List.mem_cons_self) hg).mono (progR_sub ws' _)) h2⟩
    | skip _ hs h' =>
      have e1 : stepQ fs q = fs := by unfold stepQ; rw [hs.no]
      rw [e1]
      obtain ⟨h1, h2⟩ := Wt.round qa ws fs hok' h'
      exact ⟨h1, .skip q (hs.mono (progR_sub ws fs)) h2⟩
theorem progR_len : ∀ (ws : List Qn) (fs : List ByteArray), (progR ws fs).2.length ≤ ws.length ∧ ((progR ws fs).2.length = ws.length → (progR ws fs).1 = fs)
  | [], fs => ⟨Nat.le_refl _, fun _ => rfl⟩
  | q :: ws, fs => by
    unfold progR
    cases h : gaveO fs q with
    | some v =>
      obtain ⟨h1, h2⟩ := progR_len ws (fs ++ [v])
      simp only [List.length_cons]
      exact ⟨by omega, fun e => by omega⟩
    | none =>
      obtain ⟨h1, h2⟩ := progR_len ws fs
      simp only [List.length_cons]
      exact ⟨by omega, fun e => h2 (by omega)⟩
theorem rndQ_grow : ∀ (qs : List Qn) (fs : List ByteArray), ∃ more, rndQ qs fs = fs ++ more
  | [], fs => ⟨[], by simp [rndQ]⟩
  | q :: qs, fs => by
    obtain ⟨m, hm⟩ := rndQ_grow qs (stepQ fs q)
    show ∃ more, rndQ qs (stepQ fs q) = _
    unfold stepQ at hm ⊢
    cases h : gaveO fs q with
    | some v => rw [h] at hm; exact ⟨[v] ++ m, by rw [← List.append_assoc]; exact hm⟩
    | none => rw [h] at hm; exact ⟨m, hm⟩
/-- what is found in k rounds -/
def itQ (qs : List Qn) : Nat → List ByteArray → List ByteArray
  | 0, fs => fs
  | k + 1, fs => itQ qs k (rndQ qs fs)
theorem itQ_succ (qs : List Qn) : ∀ (k : Nat) (fs : List ByteArray), itQ qs (k + 1) fs = rndQ qs (itQ qs k fs)
  | 0, fs => rfl
  | k + 1, fs => itQ_succ qs k (rndQ qs fs)
theorem itQ_still (qs : List Qn) : ∀ (k : Nat) (fs : List ByteArray), rndQ qs fs = fs → itQ qs k fs = fs
  | 0, fs, _ => rfl
  | k + 1, fs, h => by rw [itQ, h]; exact itQ_still qs k fs h
theorem itQ_add (qs : List Qn) : ∀ (j k : Nat) (fs : List ByteArray), itQ qs (j + k) fs = itQ qs k (itQ qs j fs)
  | 0, k, fs => by rw [Nat.zero_add]; rfl
  | j + 1, k, fs => by rw [show j + 1 + k = (j + k) + 1 by omega, itQ, itQ_add qs j k]; rfl
/-- where the rounds stand still is one place -/
theorem itQ_one {qs : List Qn} {fs : List ByteArray} {j k : Nat} (hj : rndQ qs (itQ qs j fs) = itQ qs j fs) (hk : rndQ qs (itQ qs k fs) = itQ qs k fs) : itQ qs j fs = itQ qs k fs := by
  rcases Nat.le_total j k with h | h
  · obtain ⟨m, rfl⟩ := Nat.exists_eq_add_of_le h
    rw [itQ_add, itQ_still qs m _ hj]
  · obtain ⟨m, rfl⟩ := Nat.exists_eq_add_of_le h
    rw [itQ_add, itQ_still qs m _ hk]
/-- names that may be found: lone ones -/
def loneL (qs : List Qn) : List ByteArray := qs.flatMap fun q => q.1.lone.toList ++ q.2.lone.toList
theorem addN_nodup {out : List ByteArray} (h : out.Nodup) (n : ByteArray) : (addN out n).Nodup := by
  unfold addN
  split
  · exact h
  · rename_i hc
    rw [List.nodup_append]
    refine ⟨h, by simp, fun a ha b hb => ?_⟩
    rw [List.mem_singleton.1 hb]
    rintro rfl
    exact hc (inB_iff.2 ha)
theorem foldN_nodup : ∀ (l out : List ByteArray), out.Nodup → (l.foldl addN out).Nodup
  | [], out, h => h
  | n :: l, out, h => foldN_nodup l _ (addN_nodup h n)
theorem rndQ_nodup : ∀ (qs : List Qn) (fs : List ByteArray), fs.Nodup → (rndQ qs fs).Nodup
  | [], fs, h => h
  | q :: qs, fs, h => by
    show (rndQ qs (stepQ fs q)).Nodup
    refine rndQ_nodup qs _ ?_
    unfold stepQ
    cases hg : gaveO fs q with
    | none => exact h
    | some v =>
      rw [List.nodup_append]
      refine ⟨h, by simp, fun a ha b hb => ?_⟩
      rw [List.mem_singleton.1 hb]
      rintro rfl
      exact (gave_new hg).1 ha
theorem rndQ_in : ∀ (qs : List Qn) (fs all : List ByteArray), (∀ x ∈ fs, x ∈ all) → (∀ x ∈ loneL qs, x ∈ all) → ∀ x ∈ rndQ qs fs, x ∈ all
  | [], fs, all, h, _, x, hx => h x hx
  | q :: qs, fs, all, h, h2, x, hx => by
    refine rndQ_in qs (stepQ fs q) all (fun y hy => ?_) (fun y hy => h2 y (by unfold loneL; rw [List.flatMap_cons]; exact List.mem_append.2 (.inr hy))) x hx
    unfold stepQ at hy
    cases hg : gaveO fs q with
    | none => rw [hg] at hy; exact h y hy
    | some v =>
      rw [hg] at hy
      rcases List.mem_append.1 hy with hy | hy
      · exact h y hy
      · rw [List.mem_singleton.1 hy]
        refine h2 v ?_
        unfold loneL
        rw [List.flatMap_cons]
        refine List.mem_append.2 (.inl ?_)
        rcases (gave_new hg).2 with k | k
        · rw [k]; simp
        · rw [k]; simp
theorem nodupN_le : ∀ (l m : List ByteArray), l.Nodup → (∀ x ∈ l, x ∈ m) → l.length ≤ m.length
  | [], m, _, _ => Nat.zero_le _
  | x :: l, m, h, hm => by
    rw [List.nodup_cons] at h
    have hx : x ∈ m := hm x List.mem_cons_self
    have hlt : (m.filter (fun y => decide (y ≠ x))).length < m.length := by
      rw [List.length_filter_lt_length_iff_exists]
      exact ⟨x, hx, by simp⟩
    have := nodupN_le l (m.filter (fun y => decide (y ≠ x))) h.2 (fun y hy => by
      rw [List.mem_filter]
      exact ⟨hm y (List.mem_cons_of_mem _ hy), decide_eq_true (fun e => h.1 (e ▸ hy))⟩)
    rw [List.length_cons]
    omega
/-- a side, of an expression of at most d levels -/
def sdE (d : Nat) (e : E) : Sd := ⟨if e.op = 0 ∧ e.kids.length = 0 then (vsT [] (termsD d e)).head? else none, vsT [] (termsD d e)⟩
theorem vsT_leaf {d : Nat} {e : E} (h : e.kids.length = 0) : vsT [] (termsD (d + 1) e) = if e.t.v = noS ∨ e.t.v = blankS then [] else [e.t.v] := by
  rw [termsD_succ, List.length_eq_zero_iff.1 h]
  show vsT [] [e.t] = _
  unfold vsT
  by_cases hc : e.t.v = noS ∨ e.t.v = blankS
  · rw [if_pos hc, if_pos (by rcases hc with k | k; exact .inl k; exact .inr (.inl k))]
    rfl
  · rw [if_neg hc, if_neg (by
      rintro (k | k | k)
      · exact hc (.inl k)
      · exact hc (.inr k)
      · cases k)]
    rfl
theorem sd_ok (d : Nat) (e : E) : ∀ v, (sdE d e).lone = some v → v ∈ (sdE d e).vars := by
  intro v hv
  unfold sdE at hv ⊢
  simp only at hv ⊢
  split at hv
  · exact List.mem_of_mem_head? hv
  · cases hv
end Go.Proofs.YteabclfhmapabaaGreatDoor
end
section
namespace Go.Proofs.YteabclfhmapabaaGreatDoor
open Go.RowKit Go.Maps
set_option linter.unusedVariables false
set_option linter.unusedSimpArgs false
attribute [local go_sem ↓] Go.wp_at_zero Go.wp_at_succ

theorem allS_take {f : ByteArray → Bool} {l : List ByteArray} {k : Nat} (h : k < l.length) : (l.take (k + 1)).all f = ((l.take k).all f && f (atS l k)) := by
  have e : l.take (k + 1) = l.take k ++ [l[k]] := by rw [List.take_add_one, List.getElem?_eq_getElem h]; rfl
  rw [e, List.all_append, atS_eq h]
  simp
theorem allS_not {f : ByteArray → Bool} {l : List ByteArray} {k : Nat} (h : k < l.length) (hn : f (atS l k) = false) : l.all f = false := by
  rw [← Bool.not_eq_true]
  intro ha
  rw [List.all_eq_true] at ha
  rw [atS_eq h] at hn
  rw [ha _ (List.getElem_mem h)] at hn
  cases hn
end Go.Proofs.YteabclfhmapabaaGreatDoor
end
section
namespace Go.Proofs.YteabclfhmapabaaGreatDoor
open Go.RowKit Go.Maps
set_option linter.unusedVariables false
set_option linter.unusedSimpArgs false
attribute [local go_sem ↓] Go.wp_at_zero Go.wp_at_succ

theorem belowA {w : World} (o : Obj) : Below w.heap.size w (w.alloc o) := (Below.refl _ _).alloc (Nat.le_refl _) _
end Go.Proofs.YteabclfhmapabaaGreatDoor
end
section
namespace Go.Proofs.YteabclfhmapabaaGreatDoor
open Go.RowKit Go.Maps
set_option linter.unusedVariables false
set_option linter.unusedSimpArgs false
attribute [local go_sem ↓] Go.wp_at_zero Go.wp_at_succ

/-- the variables of a literal, if it is a claim -/
def avX (y : XL) : List ByteArray := if y.x.k = 1 then vsT [] y.x.ts else []
/-- the variables of a body's claims -/
def avL (l : List XL) : List ByteArray := l.flatMap avX
/-- a body's equations -/
def eqX (d : Nat) (y : XL) : List Qn := if y.x.k = 3 ∧ y.x.rel = 1 then [(sdE d y.x.l, sdE d y.x.r)] else []
def eqL (d : Nat) (l : List XL) : List Qn := l.flatMap (eqX d)
/-- what a body's claims find -/
def atN (l : List XL) : List ByteArray := (avL l).foldl addN []
theorem takeXL {l : List XL} {k : Nat} (h : k < l.length) : l.take (k + 1) = l.take k ++ [atL l k] := by rw [List.take_add_one, List.getElem?_eq_getElem h, atL_eq h]; rfl
theorem takeS {l : List ByteArray} {k : Nat} (h : k < l.length) : l.take (k + 1) = l.take k ++ [atS l k] := by rw [List.take_add_one, List.getElem?_eq_getElem h, atS_eq h]; rfl
theorem foldN_len : ∀ (l out : List ByteArray), (l.foldl addN out).length ≤ out.length + l.length
  | [], out => by simp
  | n :: l, out => by
    have := foldN_len l (addN out n)
    have h2 : (addN out n).length ≤ out.length + 1 := by unfold addN; split <;> simp
    simp only [List.foldl_cons, List.length_cons]
    omega
theorem infoStrL : (Tryz.prog.info? 9).map (fun i => (i.zero, i.size, i.bytes)) = some (some (.string ⟨#[]⟩), 1, 16) := by kernel_rfl
end Go.Proofs.YteabclfhmapabaaGreatDoor
end
