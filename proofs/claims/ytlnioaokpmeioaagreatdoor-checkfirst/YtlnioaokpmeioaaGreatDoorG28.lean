import Derived.Test.YtlnioaokpmeioaaGreatDoorG27
section
namespace Go.Proofs.YtlnioaokpmeioaaGreatDoor
open Go.RowKit Go.Maps
set_option linter.unusedVariables false
set_option linter.unusedSimpArgs false
attribute [local go_sem ↓] Go.wp_at_zero Go.wp_at_succ

/-- a fact, and where its list lies -/
structure XF where
  pr : ByteArray
  vs : List V
  a : Option Addr
  c : Nat
def XF.cells (y : XF) : List Value := [.string y.pr, .slice y.a y.vs.length y.c]
def XF.val (y : XF) : Value := .agg #[.string y.pr, .slice y.a y.vs.length y.c]
theorem XF.val_eq (y : XF) : Value.agg y.cells.toArray = y.val := rfl
def XF0 : XF := ⟨noS, [], none, 0⟩
def atF (l : List XF) (i : Nat) : XF := l.getD i XF0
theorem atF_eq {l : List XF} {i : Nat} (h : i < l.length) : atF l i = l[i] := by simp [atF, List.getD, List.getElem?_eq_getElem h]
theorem atF_map {n : Nat} (U : Nat → XF) {i : Nat} (h : i < n) : atF ((List.range n).map U) i = U i := by simp [atF, List.getD, h]
theorem oneCells_fact (y : XF) : (XF.cells y).toArray.all (·.oneCell') = true := by simp [XF.cells, Value.oneCell']
structure FIs (w : World) (y : XF) : Prop where
  pb : y.pr.size ≤ maxLen
  ln : y.vs.length ≤ 281474976710656
  vs : Lv w (.slice y.a y.vs.length y.c) y.vs
theorem FIs.below {w w' : World} {y : XF} (h : FIs w y) (b : Below w.heap.size w w') : FIs w' y := ⟨h.pb, h.ln, h.vs.below b⟩
structure LikeF (x y : XF) : Prop where
  pr : y.pr = x.pr
  vs : y.vs = x.vs
def TwF (w : World) (lo : Nat) (y : XF) : Prop := TwV w lo y.vs y.a y.c
theorem TwF.below {w w' : World} {lo : Nat} {y : XF} (h : TwF w lo y) (b : Below w.heap.size w w') : TwF w' lo y := TwV.below h b
theorem TwF.lower {w : World} {lo lo' : Nat} (hl : lo' ≤ lo) {y : XF} (h : TwF w lo y) : TwF w lo' y := TwV.lower hl h
theorem twF_setCells {lo b : Nat} {y : XF} (hb : b < lo) : ∀ (vs : List Value) (o : Nat) (w : World), TwF w lo y → TwF (w.setCells b o vs) lo y
  | [], _, _, h => h
  | v :: r, o, w, h => by rw [World.setCells]; exact twF_setCells hb r (o + 1) _ (TwV.set hb h)
theorem TwF.is {u w0 : World} {lo : Nat} {x y : XF} (h : TwF u lo y) (hl : LikeF x y) (h0 : FIs w0 x) (hs : x.vs.length ≤ 1048576) : FIs u y := by
  refine ⟨by rw [hl.pr]; exact h0.pb, by rw [hl.vs]; exact h0.ln, ?_⟩
  have hh : TwV u lo y.vs y.a y.c := h
  rw [hl.vs] at hh ⊢
  exact hh.lv h0.vs hs
end Go.Proofs.YtlnioaokpmeioaaGreatDoor
end
section
namespace Go.Proofs.YtlnioaokpmeioaaGreatDoor
open Go.RowKit Go.Maps
set_option linter.unusedVariables false
set_option linter.unusedSimpArgs false
attribute [local go_sem ↓] Go.wp_at_zero Go.wp_at_succ
attribute [-go_sem] loadVar storeVar

structure Lf (w : World) (v : Value) (l : List XF) : Prop where
  lies : Ls w v l.length (l.flatMap XF.cells)
  each : ∀ i, i < l.length → FIs w (atF l i)
theorem Lf.below {w w' : World} {v : Value} {l : List XF} (h : Lf w v l) (b : Below w.heap.size w w') : Lf w' v l := ⟨h.lies.below b, fun i hi => (h.each i hi).below b⟩
theorem Lf.form {w : World} {v : Value} {l : List XF} (h : Lf w v l) : ∃ a c, v = .slice a l.length c ∧ l.length ≤ c ∧ c ≤ maxLen ∧ (0 < l.length → ∃ g off, a = some ⟨g, off, none⟩ ∧ g < w.heap.size ∧ ∀ i, i < l.length → w.rangeAt g (off + i * 2) (atF l i).cells) := ls_range (f := XF.cells) (k := 2) (fun _ => rfl) XF0 h.lies
/-- facts that are not beyond the bound -/
structure smallF (l : List XF) : Prop where
  len : l.length ≤ 1048576
  each : ∀ i, i < l.length → (atF l i).vs.length ≤ 1048576
  vals : (l.flatMap XF.vs).length ≤ 1048576
theorem load_Fac {u : World} {g o : Nat} {cs : List Value} (h : u.rangeAt g o cs) (hl : cs.length = 2) : (loadVar 78 ⟨g, o, none⟩).run Tryz.prog u = .ok (.agg cs.toArray) u :=
  run_loadVar_mid u g o _ cs _ h Tryz.underlying78 rfl (by rw [hl]; kernel_rfl)
end Go.Proofs.YtlnioaokpmeioaaGreatDoor
end
section
namespace Go.Proofs.YtlnioaokpmeioaaGreatDoor
open Go.RowKit Go.Maps
set_option linter.unusedVariables false
set_option linter.unusedSimpArgs false
attribute [local go_sem ↓] Go.wp_at_zero Go.wp_at_succ

theorem takeFl {l : List XF} {k : Nat} (h : k < l.length) : l.take (k + 1) = l.take k ++ [atF l k] := by rw [List.take_add_one, List.getElem?_eq_getElem h, atF_eq h]; rfl
set_option maxHeartbeats 1600000 in
theorem beyondFacts_any (v : Value) (l : List XF) (w : World) (hll : l.length ≤ 281474976710656) (hL : Lf w v l) :
    Calls Tryz.prog 14 #[v] w fun e w' => ∃ b : Bool, e = .returned (.bool b) ∧ Below w.heap.size w w' ∧ (b = false → smallF l) := by
  have HLn : Hid (∀ i, i < l.length → (atF l i).vs.length ≤ 281474976710656) := fun i hi => (hL.each i hi).ln
  obtain ⟨a, c, rfl, hc1, hc2, hk⟩ := hL.form
  have HK : Hid _ := hk
  clear hk hL hc2
  go_enter Tryz.func14, Tryz.ntmps14
  go_wp2
  go_loopw [3, 4] (fun n i wr => ∃ (k : Nat) (m : Int), k ≤ l.length ∧ i = .int .i64 k ∧ n = .int .i64 m ∧ 0 ≤ m ∧ m ≤ 1048576 ∧ Below w.heap.size w wr ∧ Hid ((k : Int) + (((l.take k).flatMap XF.vs).length : Int) ≤ m ∧ ∀ i, i < k → (atF l i).vs.length ≤ 1048576)) (fun _ i _ => l.length - (intOf i).toNat)
  case atStart => exact ⟨0, 0, Nat.zero_le _, rfl, rfl, by omega, by omega, Below.refl _ _, by simp, fun i hi => absurd hi (by omega)⟩
  case round =>
    obtain ⟨k, m, hk, rfl, rfl, hm0, hm1, bel, HS⟩ := hrel
    by_cases hlt : k < l.length
    · have hlt' : (k : Int) < (l.length : Int) := by omega
      obtain ⟨g, off, rfl, hg, hKS⟩ := HK.out (by omega)
      have x1 : wr.cell? ⟨g, off + k * 2 + 1, none⟩ = some (.slice (atF l k).a (atF l k).vs.length (atF l k).c) := (range_below (hKS k hlt) bel hg) 1 _ rfl
      have hn := HLn.out k hlt
      have HTk : Hid _ := takeFl hlt
      obtain ⟨q, hq⟩ : ∃ q, (atF l k).vs.length = q := ⟨_, rfl⟩
      rw [hq] at x1 hn
      have HQ : Hid _ := hq
      generalize (atF l k).a = fa at x1
      generalize (atF l k).c = fc at x1
      have hw1 : IntKind.i64.wrap (m + 1) = m + 1 := wrap_mid (by omega) (by omega)
      have hw2 : IntKind.i64.wrap (m + 1 + (q : Int)) = m + 1 + (q : Int) := wrap_mid (by omega) (by omega)
      clear hKS hq
      by_cases hbig : (1048576 : Int) < m + 1 + (q : Int)
      · go_wp2
        go_ret
        exact ⟨_, rfl, bel, fun h => by cases h⟩
      · have hbig' : ¬ (1048576 : Int) < m + 1 + (q : Int) := hbig
        go_wp2
        go_roundw
        case rel =>
          refine ⟨k + 1, m + 1 + (q : Int), by omega, by go_num, rfl, by omega, by omega, bel, ?_, fun i hi => ?_⟩
          · have h1 := HS.out.1
            have h2 := HQ.out
            rw [HTk.out, List.flatMap_append, List.length_append]
            simp only [List.flatMap_cons, List.flatMap_nil, List.append_nil]
            omega
          · by_cases e : i = k
            · rw [e, HQ.out]; omega
            · exact HS.out.2 i (by omega)
        case measure => simp [intOf]; omega
    · obtain rfl : k = l.length := by omega
      rw [List.take_length] at HS
      go_wp2
      go_ret
      exact ⟨_, rfl, bel, fun _ => ⟨by have := HS.out.1; omega, HS.out.2, by have := HS.out.1; omega⟩⟩
end Go.Proofs.YtlnioaokpmeioaaGreatDoor
end
