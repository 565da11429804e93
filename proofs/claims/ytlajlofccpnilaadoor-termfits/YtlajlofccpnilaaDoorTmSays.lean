import Derived.Test.YtlajlofccpnilaaDoorTmFitsM
namespace Go.Proofs.YtlajlofccpnilaaDoor
open Go.RowKit Go.Maps
set_option linter.unusedVariables false
set_option linter.unusedSimpArgs false
attribute [local go_sem ↓] Go.wp_at_zero Go.wp_at_succ

/-- what an assignment says of an atom's variables -/
def sayB (l : List B) (ts : List T) : List B := (vsT [] ts).map (fun n => (⟨n, isV l n⟩ : B))
theorem sayB_len (l : List B) (ts : List T) : (sayB l ts).length = (vsT [] ts).length := by simp [sayB]
theorem sayB_at (l : List B) (ts : List T) {k : Nat} (h : k < (vsT [] ts).length) : atB (sayB l ts) k = ⟨atS (vsT [] ts) k, isV l (atS (vsT [] ts) k)⟩ := by
  simp [atB, sayB, List.getD, atS, h]
set_option maxHeartbeats 6400000 in
set_option maxRecDepth 100000 in
theorem says_any (pr : ByteArray) (a ag al : Option Addr) (c cg cl : Nat) (ts : List T) (l : List B) (w : World) (hL : Lt w (.slice a ts.length c) ts) (h24 : ts.length ≤ 24) (hB : Lb w (.slice al l.length cl) l) (hG : Lb w (.slice ag (vsT [] ts).length cg) (sayB l ts)) :
    Calls Tryd.prog 9 #[.slice ag (vsT [] ts).length cg, .agg #[.string pr, .slice a ts.length c], .slice al l.length cl] w fun e w' => e = .returned (.bool true) ∧ Below w.heap.size w w' := by
  have BA : Below w.heap.size w (w.alloc (.cells #[.string pr, .slice a ts.length c] 24)) := (Below.refl _ _).alloc (Nat.le_refl _) _
  have HV : Hid _ := atomVars_any pr _ ts _ (by omega) (hL.below BA)
  have HB0 : Hid (Below w.heap.size w _) := BA
  have HIS : Hid (∀ n u, Below w.heap.size w u → Calls Tryd.prog 12 #[.slice al l.length cl, .string n] u fun e w' => e = .returned (.agg #[.int .i8 (isV l n).k, .int .i64 (isV l n).n, .string (isV l n).s]) ∧ Below u.heap.size u w') := fun n u hu => is_any _ l n u (hB.below hu)
  have hn24 : (vsT [] ts).length ≤ 24 := by have := vsT_len ts []; simp at this; omega
  have HGC : Hid (∀ k, k < (vsT [] ts).length → ∃ g off, ag = some ⟨g, off, none⟩ ∧ ∀ u, Below w.heap.size w u → TAt u g (off + k * 4) ⟨atS (vsT [] ts) k, isV l (atS (vsT [] ts) k)⟩) := fun k hk => by
    obtain ⟨a', c', e, _, _, hh⟩ := hG.form
    injection e with e1 e2 e3
    obtain ⟨g, off, ha, hg, hx⟩ := hh (by rw [sayB_len]; omega)
    have hx2 := hx k (by rw [sayB_len]; exact hk)
    rw [sayB_at l ts hk] at hx2
    exact ⟨g, off, by rw [e1, ha], fun u hu => hx2.below hu hg⟩
  clear BA hL hB hG
  go_enter Tryd.func9, Tryd.ntmps9
  go_wp2_with fail
  refine Calls.mono HV.out ?_
  rintro e w1 ⟨sv, rfl, hown, b1⟩
  have HB1 : Hid (Below w.heap.size w w1) := HB0.out.trans (b1.mono HB0.out.size)
  obtain ⟨av, cv, rfl, _, _, hk⟩ := ls_str (ls_own hown)
  have HK : Hid _ := hk
  clear hown hk b1 HB0 HV
  generalize hns : vsT [] ts = ns at *
  clear hns
  go_wp2
  go_loopw [8] (fun i wr => ∃ k : Nat, k ≤ ns.length ∧ i = .int .i64 k ∧ Below w1.heap.size w1 wr) (fun i _ => ns.length - (intOf i).toNat)
  case atStart => exact ⟨0, Nat.zero_le _, rfl, Below.refl _ _⟩
  case round =>
    obtain ⟨k, hk, rfl, bel⟩ := hrel
    by_cases hlt : k < ns.length
    · have hlt' : (k : Int) < (ns.length : Int) := by omega
      have hk0 : (0 : Int) ≤ (k : Int) := by omega
      obtain ⟨gv, ov, rfl, hgv, hcv⟩ := HK.out (by omega)
      obtain ⟨gg, og, rfl, hcg⟩ := HGC.out k hlt
      have HBw : Hid (Below w.heap.size w wr) := HB1.out.trans (bel.mono HB1.out.size)
      have HC : Hid (∀ u, Below wr.heap.size wr u → u.cell? ⟨gv, ov + k, none⟩ = some (.string (atS ns k)) ∧ (u.cell? ⟨gg, og + k * 4, none⟩ = some (.string (atS ns k)) ∧ u.cell? ⟨gg, og + k * 4 + 1, none⟩ = some (.int .i8 (isV l (atS ns k)).k) ∧ u.cell? ⟨gg, og + k * 4 + 1 + 1, none⟩ = some (.int .i64 (isV l (atS ns k)).n) ∧ u.cell? ⟨gg, og + k * 4 + 1 + 2, none⟩ = some (.string (isV l (atS ns k)).s))) := fun u hu => by
        have h1 := hcg u (HBw.out.trans (hu.mono HBw.out.size))
        refine ⟨?_, h1.c0, h1.c1, h1.c2, h1.c3⟩
        rw [(bel.trans (hu.mono bel.size)).cell (p := ⟨gv, ov + k, none⟩) hgv]
        exact hcv k hlt
      have HI2 : Hid _ := HIS.out (atS ns k)
      generalize atS ns k = n at HC HI2
      have hQ : ∀ u, (binOp .neq 39 (.agg #[.int .i8 (isV l n).k, .int .i64 (isV l n).n, .string (isV l n).s]) (.agg #[.int .i8 (isV l n).k, .int .i64 (isV l n).n, .string (isV l n).s])).run Tryd.prog u = .ok (.bool false) u := neqVt rfl
      generalize isV l n = y at HC HI2 hQ
      have HIu : Hid (∀ u, Below wr.heap.size wr u → Calls Tryd.prog 12 #[.slice al l.length cl, .string n] u fun e w' => e = .returned (.agg #[.int .i8 y.k, .int .i64 y.n, .string y.s]) ∧ Below u.heap.size u w') := fun u hu => HI2.out u (HBw.out.trans (hu.mono HBw.out.size))
      have e0 : (n.toList == n.toList) = true := by simp
      have belx : Below wr.heap.size wr wr := Below.refl _ _
      have HW1 : Hid (∀ u, Below wr.heap.size wr u → Below w1.heap.size w1 u) := fun u hu => bel.trans (hu.mono bel.size)
      have hS0 := HC.out _ belx
      clear hcv hcg HI2 HBw bel
      go_wp2_with fail
      go_region_held3 (fun u => (Below wr.heap.size wr u) ∧ u.cell? ⟨gv, ov + k, none⟩ = some (.string n) ∧ (u.cell? ⟨gg, og + k * 4, none⟩ = some (.string n) ∧ u.cell? ⟨gg, og + k * 4 + 1, none⟩ = some (.int .i8 y.k) ∧ u.cell? ⟨gg, og + k * 4 + 1 + 1, none⟩ = some (.int .i64 y.n) ∧ u.cell? ⟨gg, og + k * 4 + 1 + 2, none⟩ = some (.string y.s)))
        (first
          | assumption
          | exact ⟨belx.drew, HC.out _ belx.drew⟩
          | exact ⟨(by assumption), HC.out _ (by assumption)⟩)
        (first
          | (go_at_call 12; refine Calls.mono (HIu.out _ (by first | assumption | exact belx.drew)) ?_; rintro ee wz ⟨rfl, bz⟩; have bz' : Below wr.heap.size wr wz := lv_next (by first | assumption | exact belx.drew) bz)
          | fail)
      all_goals
        go_wp2
        go_roundw
        case rel => exact ⟨k + 1, by omega, by go_num, HW1.out _ (by first | assumption | exact belx.drew)⟩
        case measure => simp [intOf]; omega
    · obtain rfl : k = ns.length := by omega
      go_wp2
      go_ret
      exact ⟨rfl, HB1.out.trans (bel.mono HB1.out.size)⟩
end Go.Proofs.YtlajlofccpnilaaDoor
