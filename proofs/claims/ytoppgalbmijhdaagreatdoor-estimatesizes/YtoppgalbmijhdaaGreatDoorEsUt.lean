import Derived.Test.YtoppgalbmijhdaaGreatDoorEsM
import Derived.Test.YtoppgalbmijhdaaGreatDoorEsKey
import Derived.Test.YtoppgalbmijhdaaGreatDoorSoTw
namespace Go.Proofs.YtoppgalbmijhdaaGreatDoor
open Go.RowKit Go.Maps Go.ChangeMaps
set_option linter.unusedVariables false
set_option linter.unusedSimpArgs false
attribute [local go_sem ↓] Go.wp_at_zero Go.wp_at_succ

/-! unlike tuples, counted -/
def entB (es : List (Nat × V)) : List ((Nat × V) × Value) := es.mapIdx (fun j x => (x, .int .i64 ((j : Int) + 1)))
theorem entB_snoc (es : List (Nat × V)) (x : Nat × V) : entB (es ++ [x]) = entB es ++ [(x, .int .i64 ((es.length : Int) + 1))] := by simp [entB, List.mapIdx_append]
theorem entB_at {es : List (Nat × V)} {j : Nat} {x : Nat × V} (h : es[j]? = some x) : (entB es)[j]? = some (x, .int .i64 ((j : Int) + 1)) := by simp [entB, h]
theorem entB_fst (es : List (Nat × V)) : (entB es).map Prod.fst = es := by
  apply List.ext_getElem?
  intro j
  rw [List.getElem?_map]
  cases h : es[j]? with
  | none => simp [entB, h]
  | some x => rw [entB_at h]; rfl
theorem entB_len (es : List (Nat × V)) : (entB es).length = es.length := by simp [entB]
def entU {α : Type} (s : List α) : List (α × Value) := s.map (fun x => (x, .agg #[]))
theorem entU_fst {α : Type} (s : List α) : (entU s).map Prod.fst = s := by
  unfold entU
  rw [List.map_map]
  exact List.map_id s
theorem entU_snoc {α : Type} (s : List α) (x : α) : entU (s ++ [x]) = entU s ++ [(x, .agg #[])] := by simp [entU]
theorem entU_at {α : Type} {s : List α} {j : Nat} {x : α} (h : s[j]? = some x) : (entU s)[j]? = some (x, .agg #[]) := by simp [entU, h]
theorem entU_set {α : Type} {s : List α} {j : Nat} {x : α} (h : s[j]? = some x) : (entU s).set j (x, .agg #[]) = entU s := by
  apply List.ext_getElem?
  intro k
  rw [List.getElem?_set]
  split
  · rename_i e
    subst e
    have := entU_at h
    rw [if_pos (List.getElem?_eq_some_iff.1 this).1, this]
  · rfl
set_option maxHeartbeats 3200000 in
theorem unlikeT_any (v : Value) (l : List XF) (w : World) (hL : Lu w v l) (hn : l.length ≤ 1048576) (hsm : ∀ y ∈ l, y.vs.length ≤ 1048576) :
    Calls Tryz.prog 18 #[v] w fun e w' => ∃ n, e = .returned (.int .i64 (n : Nat)) ∧ Cnt (l.map XF.vs) n ∧ Below w.heap.size w w' := by
  obtain ⟨a, c, rfl, hc1, hc2, hk⟩ := hL.form
  have HL := Lib.hid hL
  have HK := Lib.hid hk
  have HS := Lib.hid hsm
  clear hL hk hsm hc2
  have m1 := run_mkB w
  have m2 := run_mkN (w.alloc (.map #[] 0))
  rw [World.size_alloc] at m2
  go_enter Tryz.func18, Tryz.ntmps18
  go_wp2
  go_loopw [17] (fun i wr => ∃ (k : Nat) (es : List (Nat × V)) (ps : List (List V)) (S : List Nat), k ≤ l.length ∧ i = .int .i64 k ∧ Below w.heap.size w wr ∧ MapG bV bOk wr w.heap.size (entB es) ∧ MapG nV' nOk wr (w.heap.size + 1) (entU S) ∧ Hid (Tri es ps) ∧ Hid (Who ps ((l.take k).map XF.vs) S) ∧ Hid (es.length ≤ k * 1048576)) (fun i _ => l.length - (intOf i).toNat)
  case atStart =>
    refine ⟨0, [], [[]], [], Nat.zero_le _, rfl, ((Below.refl _ _).alloc (Nat.le_refl _) _).alloc (by simp) _, (MapG.made w).of_block (Below.heap_alloc _ _ _ (by simp)), ?_, Tri.start, Who.start _, Nat.zero_le _⟩
    have := MapG.made (kv := nV') (ok := nOk) (w.alloc (.map #[] 0))
    rw [World.size_alloc] at this
    exact this
  case round =>
    obtain ⟨k, es, ps, S, hk, rfl, bel, hB, hN, HT, HW, HE⟩ := hrel
    clear m1 m2
    by_cases hlt : k < l.length
    · have hlt' : (k : Int) < (l.length : Int) := by omega
      obtain ⟨g, off, rfl, hg, hKS⟩ := HK.out (by omega)
      have x1 : wr.cell? ⟨g, off + k, none⟩ = some (atF l k).tcell := by rw [bel.cell (p := ⟨g, off + k, none⟩) hg]; exact hKS k hlt
      have hV := (HL.out.each (atF l k) (by rw [atF_eq hlt]; exact List.getElem_mem hlt)).1.vs
      obtain ⟨ta, tc, hte, ht1, ht2, htk⟩ := hV.form
      have hts := HS.out (atF l k) (by rw [atF_eq hlt]; exact List.getElem_mem hlt)
      rw [show (atF l k).tcell = .slice ta (atF l k).vs.length tc from hte] at x1
      have htake : Hid ((l.take (k + 1)).map XF.vs = (l.take k).map XF.vs ++ [(atF l k).vs]) := by
        show _ = _
        rw [List.take_succ_eq_append_getElem hlt, atF_eq hlt, List.map_append]
        rfl
      generalize (atF l k).vs = t at x1 hV ht1 ht2 htk hts htake
      clear hKS hte
      have HV := Lib.hid hV
      have HTK := Lib.hid htk
      clear hV htk ht2
      have HWr := Lib.hid bel
      go_wp2
      go_loopw [7, 23] (fun at_ j wi => ∃ (i x : Nat) (es' : List (Nat × V)) (ps' : List (List V)), i ≤ t.length ∧ j = .int .i64 i ∧ at_ = .int .i64 x ∧ Below w.heap.size w wi ∧ MapG bV bOk wi w.heap.size (entB es') ∧ MapG nV' nOk wi (w.heap.size + 1) (entU S) ∧ Hid (Tri es' ps') ∧ Hid (Who ps' ((l.take k).map XF.vs) S) ∧ Hid (ps'[x]? = some (t.take i)) ∧ Hid (es'.length ≤ k * 1048576 + i) ∧ Hid (x ≤ es'.length)) (fun _ j _ => t.length - (intOf j).toNat)
      case atStart =>
        have e1 : es.length ≤ k * 1048576 + 0 := by rw [Nat.add_zero]; exact HE.out
        have e2 : ps[0]? = some (t.take 0) := by rw [List.take_zero]; exact HT.out.zero
        have E1 := Lib.hid e1
        have E2 := Lib.hid e2
        exact ⟨0, 0, es, ps, Nat.zero_le _, rfl, rfl, bel, hB, hN, HT, HW, E2, E1, Lib.hid (Nat.zero_le _)⟩
      case round =>
        clear HT HW HE hB hN x1 bel
        obtain ⟨i, x, es', ps', hi, rfl, rfl, bel, hB, hN, HT, HW, HP, HE, HX⟩ := hrel
        by_cases hlti : i < t.length
        · have hlti' : (i : Int) < (t.length : Int) := by omega
          obtain ⟨g', off', rfl, hg', hat⟩ := HTK.out (by omega)
          have y0 : wr.cell? ⟨g', off' + i * 3, none⟩ = some (.int .i8 (atV t i).k) := by rw [bel.cell (p := ⟨g', _, none⟩) hg']; exact (hat i hlti).c0
          have y1 : wr.cell? ⟨g', off' + i * 3 + 1, none⟩ = some (.int .i64 (atV t i).n) := by rw [bel.cell (p := ⟨g', _, none⟩) hg']; exact (hat i hlti).c1
          have y2 : wr.cell? ⟨g', off' + i * 3 + 2, none⟩ = some (.string (atV t i).s) := by rw [bel.cell (p := ⟨g', _, none⟩) hg']; exact (hat i hlti).c2
          have hw := HV.out.wf (atV t i) (by rw [atV_eq hlti]; exact List.getElem_mem hlti)
          have HTi : Hid (t[i]? = some (atV t i)) := by show _ = _; rw [atV_eq hlti]; exact List.getElem?_eq_getElem hlti
          have hko : bOk (x, atV t i) := ⟨by have h1 := HX.out; have h2 := HE.out; show x ≤ _; omega, hw⟩
          have HKO := Lib.hid hko
          have HB := Lib.hid hB
          have HN := Lib.hid hN
          have HBL := Lib.hid bel
          generalize hvv : atV t i = vv at y0 y1 y2 HTi hko HKO
          obtain ⟨kk, nn, ss⟩ := vv
          simp only at y0 y1 y2
          have hblt := hB.blt
          have b2 : Below wr.heap.size wr ((wr.alloc (.cells #[.int .i8 kk, .int .i64 nn, .string ss] 55)).alloc (.cells #[.int .i64 x, .int .i8 kk, .int .i64 nn, .string ss] 69)) := ((Below.refl _ _).alloc (Nat.le_refl _) _).alloc (by simp) _
          have hB2 := hB.below b2
          clear hat hB hN hw
          by_cases hm : (x, (⟨kk, nn, ss⟩ : V)) ∈ es'
          · obtain ⟨j, hj⟩ := List.getElem?_of_mem hm
            have hlook := MapG.look_yes mkB hB2 (entB_at hj) true
            simp only [bV, if_true] at hlook
            have HJ := Lib.hid hj
            clear hm hvv hblt hg' hg hB2 bel hj hko
            go_wp2
            go_roundw
            case rel =>
              refine ⟨i + 1, j + 1, es', ps', by omega, by go_num, by go_num, HBL.out.trans (b2.mono HBL.out.size), HB.out.below b2, HN.out.below b2, HT, HW, Lib.hid ?_, Lib.hid ?_, Lib.hid ?_⟩
              · rw [take_one HTi.out]
                exact HT.out.old HP.out HJ.out
              · have := HE.out
                omega
              · have := (List.getElem?_eq_some_iff.1 HJ.out).1
                omega
            case measure => simp [intOf]; omega
          · have hel : es'.length ≤ 1099512676352 := by have h1 := HE.out; omega
            have hel0 : (0 : Int) ≤ (es'.length : Int) := by omega
            have hel1 : (es'.length : Int) ≤ 1099512676352 := by omega
            have hlook := MapG.look_no mkB hB2 hko (by rw [entB_fst]; exact hm) true
            have hlen := MapG.len mkB hB2 3
            rw [entB_len] at hlen
            obtain ⟨w3, hput, hB3, hturn⟩ := MapG.put mkB hB2 hko (by rw [entB_fst]; exact hm) (.int .i64 ((es'.length : Int) + 1))
            simp only [bV, Bool.false_eq_true, if_true] at hlook hput
            rw [← entB_snoc] at hB3
            have HB3 := Lib.hid hB3
            have HM := Lib.hid hm
            have HTU := Lib.hid hturn
            have HZ : Hid (wr.heap.size ≤ w3.heap.size) := Lib.hid (by have := hturn.grown.size; simp at this; omega)
            clear hm hvv hblt hg' hg hB2 bel hko hB3 hturn hel
            go_wp2
            go_roundw
            case rel =>
              have hwz := HBL.out.size
              have b3 : Below w.heap.size w w3 := (HBL.out.trans (b2.mono HBL.out.size)).grown HTU.out.grown (by simp; omega) (fun j hj => by cases hj; exact Nat.le_refl _)
              refine ⟨i + 1, es'.length + 1, es' ++ [(x, ⟨kk, nn, ss⟩)], ps' ++ [t.take i ++ [⟨kk, nn, ss⟩]], by omega, by go_num, by go_num, b3, HB3.out, (HN.out.below b2).of_block (HTU.out.grown.block _ ?_ ?_), Lib.hid (HT.out.push HP.out HM.out), Lib.hid (HW.out.more _), Lib.hid ?_, Lib.hid ?_, Lib.hid ?_⟩
              · exact (HN.out.below b2).blt
              · intro e
                have := Option.some.inj e
                omega
              · rw [take_one HTi.out, ← HT.out.len, List.getElem?_append_right (Nat.le_refl _)]
                simp
              · have := HE.out
                simp
                omega
              · simp
            case measure => simp [intOf]; omega
        · obtain rfl : i = t.length := by omega
          have hx60 : x ≤ 1152921504606846976 := by have h1 := HX.out; have h2 := HE.out; omega
          have HP' := HP.out
          rw [List.take_length] at HP'
          have HPT := Lib.hid HP'
          have HB := Lib.hid hB
          have HN := Lib.hid hN
          have HBL := Lib.hid bel
          clear HP' hB HTK HP
          by_cases hm : x ∈ S
          · obtain ⟨j, hj⟩ := List.getElem?_of_mem hm
            obtain ⟨w3, hput, hN3, hturn⟩ := MapG.over mkN hN (entU_at hj) (.agg #[])
            simp only [nV'] at hput
            rw [entU_set hj] at hN3
            have HN3 := Lib.hid hN3
            have HM := Lib.hid hm
            have HTU := Lib.hid hturn
            clear hm hN hN3 hturn hj bel
            go_wp2
            go_roundw
            case rel =>
              have hwz := HBL.out.size
              have b3 : Below w.heap.size w w3 := HBL.out.grown HTU.out.grown hwz (fun j hj => by cases hj; omega)
              refine ⟨k + 1, es', ps', S, by omega, by go_num, b3, HB.out.of_block (HTU.out.grown.block _ HB.out.blt (by intro e; have := Option.some.inj e; omega)), HN3.out, HT, Lib.hid ?_, Lib.hid ?_⟩
              · rw [htake.out]
                exact HW.out.again HPT.out HM.out
              · have := HE.out
                omega
            case measure => simp [intOf]; omega
          · obtain ⟨w3, hput, hN3, hturn⟩ := MapG.put mkN hN hx60 (by rw [entU_fst]; exact hm) (.agg #[])
            simp only [nV'] at hput
            rw [← entU_snoc] at hN3
            have HN3 := Lib.hid hN3
            have HM := Lib.hid hm
            have HTU := Lib.hid hturn
            clear hm hN hN3 hturn bel
            go_wp2
            go_roundw
            case rel =>
              have hwz := HBL.out.size
              have b3 : Below w.heap.size w w3 := HBL.out.grown HTU.out.grown hwz (fun j hj => by cases hj; omega)
              refine ⟨k + 1, es', ps', S ++ [x], by omega, by go_num, b3, HB.out.of_block (HTU.out.grown.block _ HB.out.blt (by intro e; have := Option.some.inj e; omega)), HN3.out, HT, Lib.hid ?_, Lib.hid ?_⟩
              · rw [htake.out]
                exact HW.out.push HPT.out HM.out
              · have := HE.out
                omega
            case measure => simp [intOf]; omega
    · obtain rfl : k = l.length := by omega
      have hlen := MapG.len mkN hN 3
      rw [show (entU S).length = S.length by simp [entU]] at hlen
      have HW' := HW.out
      rw [List.take_length] at HW'
      have HC := Lib.hid (HW'.cnt HT.out.nd)
      clear HW' hN hB HW HT HE
      go_wp2
      go_ret
      exact ⟨S.length, rfl, HC.out, bel⟩
end Go.Proofs.YtoppgalbmijhdaaGreatDoor
