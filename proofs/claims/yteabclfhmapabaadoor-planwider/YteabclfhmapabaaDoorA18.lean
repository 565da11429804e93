import Derived.Test.YteabclfhmapabaaDoorA17
import Derived.Test.YteabclfhmapabaaDoorA7
import Derived.Lib.AppendZerosOnto
import Derived.Deep.Upon
section
namespace Go.Proofs.YteabclfhmapabaaDoor
open Go.RowKit Go.Maps Go.ChangeMaps
set_option linter.unusedVariables false
set_option linter.unusedSimpArgs false
attribute [local go_sem ↓] Go.wp_at_zero Go.wp_at_succ

/-- is a term known? -/
def knT (ss : List ByteArray) (t : T) : Bool := decide (t.v = noS) || inB ss t.v
/-- the first k columns that are known -/
def colM (ss : List ByteArray) (ts : List T) : Nat → Nat
  | 0 => 0
  | k + 1 => if knT ss (atT ts k) = true then colM ss ts k ||| 2 ^ k else colM ss ts k
theorem colM_lt (ss : List ByteArray) (ts : List T) : ∀ k, colM ss ts k < 2 ^ k
  | 0 => by simp [colM]
  | k + 1 => by
    have ih := colM_lt ss ts k
    have h2 : (2 : Nat) ^ (k + 1) = 2 * 2 ^ k := by rw [Nat.pow_succ, Nat.mul_comm]
    unfold colM
    split
    · exact Nat.or_lt_two_pow (by omega) (by rw [h2]; have := Nat.two_pow_pos k; omega)
    · omega
set_option maxHeartbeats 1600000 in
set_option maxRecDepth 100000 in
theorem kn_columns {w : World} {b : Nat} {ss : List ByteArray} (h : SetIs w b ss) {v : Value} {ts : List T} (hl : Lt w v ts) (hn : ts.length ≤ 24) :
    Calls Tryd.prog 33 #[.map (some b), v] w fun e w' => e = .returned (.int .u32 ((colM ss ts ts.length : Nat) : Int)) ∧ Below w.heap.size w w' := by
  have HS := Lib.hid h
  have HWF := Lib.hid hl.wf
  obtain ⟨a, c, rfl, hc1, hc2, hat⟩ := hl.form
  have HAT := Lib.hid hat
  clear h hl hat
  go_enter Tryd.func33, Tryd.ntmps33
  go_wp2
  go_loopw [5, 6, 11] (fun o q i wr => ∃ k : Nat, k ≤ ts.length ∧ i = .int .i64 k ∧ o = .int .u32 ((colM ss ts k : Nat) : Int) ∧ q = .int .u32 ((2 ^ k : Nat) : Int) ∧ Hid (Below w.heap.size w wr)) (fun _ _ i _ => ts.length - (intOf i).toNat)
  case atStart => exact ⟨0, Nat.zero_le _, rfl, rfl, rfl, Below.refl _ _⟩
  case round =>
    obtain ⟨k, hk, rfl, rfl, rfl, HI⟩ := hrel
    obtain ⟨U, rfl⟩ : ∃ U, U = wr := ⟨_, rfl⟩
    by_cases hlt : k < ts.length
    · have hlt' : (k : Int) < (ts.length : Int) := by omega
      have hk0 : (0 : Int) ≤ (k : Int) := by omega
      obtain ⟨g, off, rfl, hg, hT⟩ := HAT.out (by omega)
      obtain ⟨x0, x1, x2, x3⟩ := (hT k hlt).below HI.out hg
      have htw := atT_wf HWF.out k
      have HCS : Hid (colM ss ts (k + 1) = if knT ss (atT ts k) = true then colM ss ts k ||| 2 ^ k else colM ss ts k) := rfl
      have hp : (2 : Nat) ^ k ≤ 8388608 := Nat.le_trans (Nat.pow_le_pow_right (by omega) (show k ≤ 23 by omega)) (by decide)
      have hcm := colM_lt ss ts k
      have hor := bits_or32 (colM ss ts k) (2 ^ k) (by omega) (by omega)
      have HPS : Hid ((2 : Nat) ^ (k + 1) = 2 ^ k * 2) := Nat.pow_succ 2 k
      generalize colM ss ts k = cm at hcm hor HCS ⊢
      generalize (2 : Nat) ^ k = p at hp hcm hor HCS HPS ⊢
      generalize atT ts k = t at x0 x1 x2 x3 htw HCS
      have hA : Below U.heap.size U (U.alloc (.cells #[.string t.v, .int .i8 t.a.k, .int .i64 t.a.n, .string t.a.s] 51)) := (Below.refl _ _).alloc (Nat.le_refl _) _
      have HBW := Lib.hid (HI.out.trans (hA.mono HI.out.size))
      clear hT hcm hA HI
      by_cases hv : t.v = noS
      · have HC : Hid (colM ss ts (k + 1) = cm ||| p) := by
          show _ = _
          rw [HCS.out, if_pos (by rw [knT, decide_eq_true hv]; rfl)]
        have he : t.v.toList.isEmpty = true := by rw [hv, ByteArray.toList_eq]; rfl
        clear hv HCS
        go_wp2
        go_roundw
        case rel => exact ⟨k + 1, by omega, by go_num, by rw [HC.out], by rw [HPS.out]; go_num, HBW.out⟩
        case measure => simp [intOf]; omega
      · have he : t.v.toList.isEmpty = false := some_iff _ hv
        have hK : knT ss t = inB ss t.v := by rw [knT, decide_eq_false hv]; rfl
        rw [hK] at HCS
        have HHS := Lib.hid (kn_has (HS.out.of_block (HBW.out.block b HS.out.lt)) htw.text)
        clear hv hK
        go_wp2_with fail
        refine HHS.out.mono ?_
        rintro e w2 ⟨rfl, b2⟩
        have HB2 := Lib.hid (HBW.out.trans (b2.mono HBW.out.size))
        clear HHS b2 HBW x0 x1 x2 x3
        cases hi : inB ss t.v
        · rw [hi] at HCS
          have HC : Hid (colM ss ts (k + 1) = cm) := HCS.out
          clear hi HCS
          go_wp2
          go_roundw
          case rel => exact ⟨k + 1, by omega, by go_num, by rw [HC.out], by rw [HPS.out]; go_num, HB2.out⟩
          case measure => simp [intOf]; omega
        · rw [hi] at HCS
          have HC : Hid (colM ss ts (k + 1) = cm ||| p) := HCS.out
          clear hi HCS
          go_wp2
          go_roundw
          case rel => exact ⟨k + 1, by omega, by go_num, by rw [HC.out], by rw [HPS.out]; go_num, HB2.out⟩
          case measure => simp [intOf]; omega
    · obtain rfl : k = ts.length := by omega
      go_wp2
      go_ret
      exact ⟨rfl, HI.out⟩
end Go.Proofs.YteabclfhmapabaaDoor
end
section
namespace Go.Proofs.YteabclfhmapabaaDoor
open Go.RowKit Go.Maps Go.ChangeMaps
set_option linter.unusedVariables false
set_option linter.unusedSimpArgs false
attribute [local go_sem ↓] Go.wp_at_zero Go.wp_at_succ

/-- is it a variable's name? -/
def isVarB (s : ByteArray) : Bool := !decide (s = blankS) && termB ⟨s, V0⟩
theorem blank_toList {s : ByteArray} (h : s ≠ blankS) : (s.toList == [95]) = false := by
  rw [beq_eq_false_iff_ne]
  intro e
  apply h
  rw [ByteArray.toList_eq] at e
  cases s with
  | mk d =>
    simp only at e
    unfold blankS
    rw [ByteArray.mk.injEq]
    exact Array.toList_inj.1 e
theorem v0_wf : V0.wf := ⟨by decide, by decide, by decide⟩
set_option maxHeartbeats 800000 in
theorem isVariable_plan (s : ByteArray) (hs : s.size ≤ maxLen) (w : World) : Calls Tryd.prog 43 #[.string s] w fun e w' => e = .returned (.bool (isVarB s)) ∧ Below w.heap.size w w' := by
  by_cases hb : s = blankS
  · have h1 : (s.toList == [95]) = true := by rw [hb, ByteArray.toList_eq]; rfl
    have HF : Hid (isVarB s = false) := by
      show _ = _
      rw [isVarB, decide_eq_true hb]
      rfl
    rw [HF.out]
    clear hb HF
    go_enter Tryd.func43, Tryd.ntmps43
    go_wp2
    go_ret
    exact ⟨rfl, Below.refl _ _⟩
  · have h1 : (s.toList == [95]) = false := blank_toList hb
    have HF : Hid (isVarB s = termB ⟨s, V0⟩) := by
      show _ = _
      rw [isVarB, decide_eq_false hb]
      rfl
    have HC := Lib.hid (checkTerm_any ⟨s, V0⟩ w ⟨hs, v0_wf⟩)
    rw [HF.out]
    clear hb HF
    have e0 : T.val ⟨s, V0⟩ = .agg #[.string s, .int .i8 0, .int .i64 0, .string noS] := rfl
    rw [e0] at HC
    generalize termB ⟨s, V0⟩ = d at HC ⊢
    clear e0
    unfold noS at HC
    go_enter Tryd.func43, Tryd.ntmps43
    go_wp2_with fail
    refine HC.out.mono ?_
    rintro e w2 ⟨rfl, b2⟩
    have HB := Lib.hid b2
    clear b2 HC
    cases d
    all_goals
      simp only [errB]
      go_wp2
      go_ret
      exact ⟨rfl, HB.out⟩
/-- names that may be known: variables, none twice -/
def knB (l : List ByteArray) : Nat → Bool
  | 0 => true
  | k + 1 => knB l k && (!inB (l.take k) (atS l k) && isVarB (atS l k))
theorem knB_no {l : List ByteArray} {k : Nat} : ∀ n, k < n → (inB (l.take k) (atS l k) = true ∨ isVarB (atS l k) = false) → knB l n = false
  | 0, h, _ => absurd h (Nat.not_lt_zero _)
  | n + 1, h, hx => by
    unfold knB
    by_cases e : k = n
    · subst e
      rcases hx with hx | hx
      · rw [hx]
        simp
      · rw [hx]
        simp
    · rw [knB_no n (by omega) hx]
      rfl
theorem turned_below {B : Nat} {w0 w w' : World} {b : Nat} (hb : Below B w0 w) (ht : w.mapTurned w' b) (h : B ≤ b) : Below B w0 w' := by
  obtain ⟨es, c, es', c', hx, rfl⟩ := ht
  exact hb.trans ⟨rfl, rfl, rfl, by simp [setBlock], fun k hk => by
    show (w.heap.setIfInBounds b _)[k]? = _
    rw [Array.getElem?_setIfInBounds_ne (by omega)]⟩
theorem run_makeKn (u : World) : (Instr.makeMap 74 none).run Tryd.prog u = .ok (.map (some u.heap.size)) (u.alloc (.map #[] 0)) := by kernel_rfl
theorem take_atS {l : List ByteArray} {k : Nat} (h : k < l.length) : l.take (k + 1) = l.take k ++ [atS l k] := by
  rw [List.take_add_one]
  unfold atS
  rw [List.getD, List.getElem?_eq_getElem h]
  rfl
attribute [-go_sem] loadVar
set_option maxHeartbeats 1600000 in
set_option maxRecDepth 100000 in
theorem knowing_any {w : World} {v : Value} {l : List ByteArray} (hl : Ls w v l.length (l.flatMap strB)) (hsz : ∀ i, i < l.length → (atS l i).size ≤ maxLen) :
    Calls Tryd.prog 24 #[v] w fun e w' => Below w.heap.size w w' ∧ ((knB l l.length = false ∧ e = .returned (.tuple #[.map none, .bool false])) ∨ (knB l l.length = true ∧ ∃ b, e = .returned (.tuple #[.map (some b), .bool true]) ∧ SetIs w' b l ∧ w.heap.size ≤ b)) := by
  have HZ := Lib.hid hsz
  obtain ⟨a, c, rfl, hc1, hc2, hat⟩ := ls_str hl
  have HAT := Lib.hid hat
  unfold maxLen at hc2
  have hmk := run_makeKn w
  have HI0 : Hid (SetIs (w.alloc (.map #[] 0)) w.heap.size (l.take 0) ∧ Below w.heap.size w (w.alloc (.map #[] 0)) ∧ knB l 0 = true) := ⟨SetIs.made w, (Below.refl _ _).alloc (Nat.le_refl _) _, rfl⟩
  clear hl hsz hat
  go_enter Tryd.func24, Tryd.ntmps24
  go_wp2
  clear hmk
  go_loopw [10] (fun i wr => ∃ k : Nat, k ≤ l.length ∧ i = .int .i64 k ∧ Hid (SetIs wr w.heap.size (l.take k) ∧ Below w.heap.size w wr ∧ knB l k = true)) (fun i _ => l.length - (intOf i).toNat)
  case atStart => exact ⟨0, Nat.zero_le _, rfl, HI0.out⟩
  case round =>
    clear HI0
    obtain ⟨k, hk, rfl, HI⟩ := hrel
    by_cases hlt : k < l.length
    · have hlt' : (k : Int) < (l.length : Int) := by omega
      have hk0 : (0 : Int) ≤ (k : Int) := by omega
      obtain ⟨g, off, rfl, hg, hce⟩ := HAT.out (by omega)
      have l1 := load_strP ((HI.out.2.1.cell (p := ⟨g, off + k, none⟩) hg).trans (hce k hlt))
      have HNO := Lib.hid (knB_no (l := l) (k := k) l.length hlt)
      have HSU : Hid (knB l (k + 1) = (knB l k && (!inB (l.take k) (atS l k) && isVarB (atS l k)))) := rfl
      have HTK := Lib.hid (take_atS hlt)
      have HXZ := Lib.hid (HZ.out k hlt)
      have HHS := Lib.hid (kn_has HI.out.1 HXZ.out)
      generalize atS l k = x at l1 HNO HSU HTK HXZ HHS
      clear hce
      go_wp2_with fail
      refine HHS.out.mono ?_
      rintro e w2 ⟨rfl, b2⟩
      have HS2 := Lib.hid (HI.out.1.of_block (b2.block _ HI.out.1.lt))
      have HB2 := Lib.hid (HI.out.2.1.trans (b2.mono HI.out.2.1.size))
      have HKN := Lib.hid HI.out.2.2
      clear HHS b2 HI l1
      cases hi : inB (l.take k) x
      · have HIV := Lib.hid (isVariable_plan x HXZ.out w2)
        rw [hi] at HSU
        have HNI : Hid (x ∉ l.take k) := fun h => by rw [inB_iff.2 h] at hi; cases hi
        clear hi
        go_wp2_with fail
        refine HIV.out.mono ?_
        rintro e w3 ⟨rfl, b3⟩
        have HS3 := Lib.hid (HS2.out.of_block (b3.block _ HS2.out.lt))
        have HB3 := Lib.hid (HB2.out.trans (b3.mono HB2.out.size))
        clear HIV b3 HS2 HB2
        cases hv : isVarB x
        · have HF := Lib.hid (HNO.out (.inr hv))
          clear hv HNO HSU
          go_wp2
          go_ret2
          exact ⟨HB3.out, .inl ⟨HF.out, rfl⟩⟩
        · rw [hv, HKN.out] at HSU
          have HLN := Lib.hid (kn_learn HS3.out HXZ.out HNI.out)
          rw [← HTK.out] at HLN
          clear hv
          go_wp2_with fail
          refine HLN.out.mono ?_
          rintro e w4 ⟨⟨u, rfl⟩, hs4, ht4⟩
          have HF : Hid (SetIs w4 w.heap.size (l.take (k + 1)) ∧ Below w.heap.size w w4 ∧ knB l (k + 1) = true) := ⟨hs4, turned_below HB3.out ht4 (Nat.le_refl _), HSU.out⟩
          clear hs4 ht4 HLN HS3 HB3
          go_wp2
          go_roundw
          case rel => exact ⟨k + 1, by omega, by go_num, HF.out⟩
          case measure => simp [intOf]; omega
      · have HF := Lib.hid (HNO.out (.inl hi))
        clear hi HNO HSU
        go_wp2
        go_ret2
        exact ⟨HB2.out, .inl ⟨HF.out, rfl⟩⟩
    · obtain rfl : k = l.length := by omega
      rw [List.take_length] at HI
      go_wp2
      go_ret2
      exact ⟨HI.out.2.1, .inr ⟨HI.out.2.2, _, rfl, HI.out.1, Nat.le_refl _⟩⟩
end Go.Proofs.YteabclfhmapabaaDoor
end
section
namespace Go.Proofs.YteabclfhmapabaaDoor
open Go.RowKit Go.Maps
set_option linter.unusedVariables false
set_option linter.unusedSimpArgs false
attribute [local go_sem ↓] Go.wp_at_zero Go.wp_at_succ

def litZ : Value := .agg #[.int .i8 0, .string ⟨#[]⟩, .slice none 0 0, .int .i8 0, .int .i8 0, .string ⟨#[]⟩, .int .i8 0, .int .i64 0, .string ⟨#[]⟩, .slice none 0 0, .int .i8 0, .string ⟨#[]⟩, .int .i8 0, .int .i64 0, .string ⟨#[]⟩, .slice none 0 0]
theorem infoRowQP : (Tryd.prog.info? 56).map (fun i => (i.zero, i.size, i.bytes)) = some (some litZ, 16, 216) := by kernel_rfl
theorem run_loadRowsP {u : World} {a : Addr} {v : Value} (h : u.cell? a = some v) : (loadVar 23 a).run Tryd.prog u = .ok v u := by rw [loadVar.eq_1]; go_simp
attribute [-go_sem] loadVar Builtin.append_
set_option maxHeartbeats 1600000 in
set_option maxRecDepth 100000 in
theorem grow_nilP (n : Nat) (hn : n ≤ 1000000000) (w : World) : Calls Tryd.prog 58 #[.slice none 0 0, .int .i64 (n : Int)] w fun e w' => ∃ sv, e = .returned sv ∧ w'.ownsRow w.heap.size 56 16 sv 0 [] ∧ Below w.heap.size w w' := by
  have h0 : ¬ (n : Int) < 0 := by omega
  by_cases hz : n = 0
  · subst hz
    go_enter Tryd.func58, Tryd.ntmps58
    go_wp2
    go_ret
    exact ⟨_, rfl, World.ownsRow_nil _ _ _ _, Below.refl _ _⟩
  · obtain ⟨i0, hi0, hz0, hz1, hz2⟩ := info_parts infoRowQP
    have hpos : (0 : Int) < (n : Int) := by omega
    have iw : IntKind.i64.wrap (n : Int) = (n : Int) := by rw [IntKind.wrap_i64]; omega
    have hap := Lib.run_append_nil_zeros (P := Tryd.prog) w 23 3 23 56 i0 litZ .i64 .i64 Tryd.underlying23 Tryd.underlying3 hi0 hz0 n (by omega) (by omega) (by omega) (by rw [hz2]; omega)
    have hge := grownCap_ge w n 0 56
    have hle := grownCap_le_maxLen w n 0 56 (by unfold maxLen; omega)
    have hzc : litZ.cells.size = 16 := by decide
    have hcs : ∀ q, (Builtin.zeroCells litZ.cells q).size = q * 16 := fun q => by rw [size_zeroCells, hzc]
    have HO : Hid ((w.drew.alloc (.cells (Builtin.zeroCells litZ.cells n ++ Builtin.zeroCells litZ.cells (grownCap w n 0 56 - n)) 56)).ownsRow w.heap.size 56 16 (.slice (some ⟨w.heap.size, 0, none⟩) 0 (grownCap w n 0 56)) 0 []) := by
      refine ⟨rfl, .inr ⟨_, _, _, rfl, Nat.le_refl _, heap_alloc_new w.drew _, Nat.zero_le _, hle, ?_, rfl⟩⟩
      rw [Array.size_append, hcs, hcs]
      rw [← Nat.add_mul]
      congr 1
      omega
    have HBW : Hid (Below w.heap.size w (w.drew.alloc (.cells (Builtin.zeroCells litZ.cells n ++ Builtin.zeroCells litZ.cells (grownCap w n 0 56 - n)) 56))) := (Below.refl _ _).drew.alloc (Nat.le_refl _) _
    generalize w.drew.alloc _ = W at hap HO HBW
    generalize grownCap w n 0 56 = cap at hap hge hle HO
    have h00 : (0 : Int) ≤ (cap : Int) := by omega
    clear hle hcs hzc
    go_enter Tryd.func58, Tryd.ntmps58
    go_wp2
    go_ret
    exact ⟨_, rfl, HO.out, HBW.out⟩
abbrev flatRP (rows : List (List Value)) : List Value := rows.flatMap (fun r => r)
theorem flatR_lenP : ∀ rows : List (List Value), (∀ r ∈ rows, r.length = 16) → (flatRP rows).length = rows.length * 16
  | [], _ => rfl
  | r :: rows, h => by
    have ih := flatR_lenP rows (fun x hx => h x (by simp [hx]))
    have h1 := h r (by simp)
    simp only [flatRP, List.flatMap_cons, List.length_append, List.length_cons] at ih ⊢
    omega
/-- a list of rows that lies somewhere -/
def LrCP (w : World) (v : Value) (rows : List (List Value)) : Prop := (∀ r ∈ rows, r.length = 16 ∧ ∀ u ∈ r, u.oneCell' = true) ∧ ∃ a c, v = .slice a rows.length c ∧ (0 < rows.length → ∃ g off, a = some ⟨g, off, none⟩ ∧ g < w.heap.size ∧ ∀ j u, (flatRP rows)[j]? = some u → w.cell? ⟨g, off + j, none⟩ = some u)
theorem LrCP.below {w w' : World} {v : Value} {rows : List (List Value)} (h : LrCP w v rows) (hb : Below w.heap.size w w') : LrCP w' v rows := by
  obtain ⟨h1, a, c, rfl, h2⟩ := h
  refine ⟨h1, a, c, rfl, fun hp => ?_⟩
  obtain ⟨g, off, rfl, hg, hc⟩ := h2 hp
  exact ⟨g, off, rfl, Nat.lt_of_lt_of_le hg hb.size, fun j u hu => (hb.cell (p := ⟨g, off + j, none⟩) hg).trans (hc j u hu)⟩
theorem LrCP.form {w : World} {v : Value} {rows : List (List Value)} (h : LrCP w v rows) : ∃ a c, v = .slice a rows.length c := by
  obtain ⟨h1, a, c, rfl, h2⟩ := h
  exact ⟨a, c, rfl⟩
theorem flatR_oneP {rows : List (List Value)} (h : ∀ r ∈ rows, ∀ u ∈ r, u.oneCell' = true) : ∀ u ∈ flatRP rows, u.oneCell' = true := by
  intro u hu
  obtain ⟨r, h1, h2⟩ := List.mem_flatMap.1 hu
  exact h r h1 u h2
/-- append(o, x...) of rows -/
theorem app_rowsP {w0 w : World} {B : Nat} {o : Value} {rows1 rows2 : List (List Value)} {n : Nat} (hn : n = rows1.length) (hown : w.ownsRow B 56 16 o n (flatRP rows1)) (hB : Below B w0 w) (hw : B ≤ w.heap.size) {a : Option Addr} {c : Nat} (hx : LrCP w (.slice a rows2.length c) rows2) (hl : n + rows2.length ≤ 1000000000) (ty : TypeId) :
    ∃ o' w', (Builtin.append_ #[23, 23] ty #[o, .slice a rows2.length c]).run Tryd.prog w = .ok o' w' ∧ w'.ownsRow B 56 16 o' (n + rows2.length) (flatRP (rows1 ++ rows2)) ∧ Below B w0 w' ∧ B ≤ w'.heap.size := by
  obtain ⟨i0, hi0, hz0, hz1, hz2⟩ := info_parts infoRowQP
  by_cases h0 : rows2.length = 0
  · have hu : rows2 = [] := List.eq_nil_of_length_eq_zero h0
    subst hu
    obtain ⟨a1, c1, rfl, _⟩ := own_form hown
    have hsc : n ≤ c1 := by
      obtain ⟨_, ⟨e, hz⟩ | ⟨g, cap, cur, e, _, _, hnc, _⟩⟩ := hown
      · cases e; omega
      · cases e; exact hnc
    refine ⟨.slice a1 n c1, w, ?_, by simpa using hown, hB, hw⟩
    exact run_append_nothing w _ _ ty _ i0 Tryd.underlying23 hi0 a1 n c1 hsc _ ⟨.inl ⟨_, Tryd.underlying23⟩, by intro w'; cases a <;> simp [Builtin.lenOf], by cases a <;> simp [Builtin.firstCells, loadCells, loadCellsFrom], by cases a <;> simp [Builtin.firstCells, loadCells, loadCellsFrom], by simp, by simp⟩
  · obtain ⟨h24, a', c', e, hc⟩ := hx
    cases e
    obtain ⟨g, off, rfl, hg, hcell⟩ := hc (by omega)
    obtain ⟨o', w', h1, h2, h3, _, _⟩ := run_append_own_at (P := Tryd.prog) w B 23 ty 56 i0 _ 16 216 Tryd.underlying23 hi0 hz0 hz1 hz2 rfl (by decide) o n (flatRP rows1) hown ⟨g, off, none⟩ rows2.length c (flatRP rows2) (flatR_lenP rows2 (fun r hr => (h24 r hr).1)) (fun j u hu => by
      rw [show (⟨g, off, none⟩ : Addr).add j = ⟨g, off + j, none⟩ from by simp [Addr.add]]
      exact hcell j u hu) (flatR_oneP (fun r hr => (h24 r hr).2)) (by unfold maxLen; omega) (by omega) hw
    refine ⟨o', w', h1, by simpa [flatRP] using h2, hB.grown h3 hw (fun j hj => (hown.lt j hj).1), Nat.le_trans hw h3.size⟩
set_option maxHeartbeats 1600000 in
set_option maxRecDepth 100000 in
/-- slices.Concat of two lists -/
theorem concat2P {w : World} {q cq : Nat} {a1 a2 : Option Addr} {c1 c2 : Nat} {rows1 rows2 : List (List Value)} (h1 : w.cell? ⟨q, 0, none⟩ = some (.slice a1 rows1.length c1)) (h2 : w.cell? ⟨q, 1, none⟩ = some (.slice a2 rows2.length c2)) (hq : q < w.heap.size)
    (x1 : LrCP w (.slice a1 rows1.length c1) rows1) (x2 : LrCP w (.slice a2 rows2.length c2) rows2) (hl : rows1.length + rows2.length ≤ 1000000000) :
    Calls Tryd.prog 45 #[.slice (some ⟨q, 0, none⟩) 2 cq] w fun e w' => ∃ sv, e = .returned sv ∧ w'.ownsRow w.heap.size 56 16 sv (rows1.length + rows2.length) (flatRP (rows1 ++ rows2)) ∧ Below w.heap.size w w' := by
  have l1 := run_loadRowsP h1
  have l2 := run_loadRowsP h2
  have HC : Hid (∀ u, Below w.heap.size w u → u.cell? ⟨q, 0, none⟩ = some (.slice a1 rows1.length c1) ∧ u.cell? ⟨q, 1, none⟩ = some (.slice a2 rows2.length c2)) := fun u hu => ⟨(hu.cell (p := ⟨q, 0, none⟩) hq).trans h1, (hu.cell (p := ⟨q, 1, none⟩) hq).trans h2⟩
  have HX := Lib.hid (And.intro x1 x2)
  have i1 : IntKind.i64.wrap (0 + (rows1.length : Int)) = (rows1.length : Int) := by rw [IntKind.wrap_i64]; omega
  have i2 : IntKind.i64.wrap ((rows1.length : Int) + (rows2.length : Int)) = (rows1.length : Int) + (rows2.length : Int) := by rw [IntKind.wrap_i64]; omega
  have n1 : ¬ (rows1.length : Int) < 0 := by omega
  have n2 : ¬ (rows1.length : Int) + (rows2.length : Int) < 0 := by omega
  have HG := Lib.hid (grow_nilP (rows1.length + rows2.length) hl w)
  have ec : ((rows1.length + rows2.length : Nat) : Int) = (rows1.length : Int) + (rows2.length : Int) := by omega
  rw [ec] at HG
  clear h1 h2 x1 x2 ec
  go_enter Tryd.func45, Tryd.ntmps45
  go_wp2
  go_loopw [3, 11] (fun sz i wr => wr = w ∧ ((sz = .int .i64 0 ∧ i = .int .i64 0) ∨ (sz = .int .i64 (rows1.length : Int) ∧ i = .int .i64 1) ∨ (sz = .int .i64 ((rows1.length : Int) + (rows2.length : Int)) ∧ i = .int .i64 2))) (fun _ i _ => 2 - (intOf i).toNat)
  case atStart => exact ⟨rfl, .inl ⟨rfl, rfl⟩⟩
  case round =>
    obtain ⟨hwr, ⟨rfl, rfl⟩ | ⟨rfl, rfl⟩ | ⟨rfl, rfl⟩⟩ := hrel
    · subst hwr
      go_wp2
      go_roundw
      case rel => exact ⟨by first | rfl | trivial, .inr (.inl ⟨by first | rfl | simp_all, by go_num⟩)⟩
      case measure => simp [intOf]
    · subst hwr
      go_wp2
      go_roundw
      case rel => exact ⟨by first | rfl | trivial, .inr (.inr ⟨by first | rfl | simp_all, by go_num⟩)⟩
      case measure => simp [intOf]
    · have hw := hwr.symm
      clear hwr
      subst hw
      clear l1 l2 i1 i2 n1 n2
      go_wp2_with fail
      refine HG.out.mono ?_
      rintro e w1 ⟨sv, rfl, hown, b1⟩
      have HO := Lib.hid hown
      have HB := Lib.hid b1
      clear HG hown b1
      go_wp2
      go_loopw [6, 27] (fun o i wx => ∃ k : Nat, k ≤ 2 ∧ i = .int .i64 k ∧ Hid (Below w.heap.size w wx ∧ wx.ownsRow w.heap.size 56 16 o (if k = 0 then 0 else if k = 1 then rows1.length else rows1.length + rows2.length) (flatRP (if k = 0 then [] else if k = 1 then rows1 else rows1 ++ rows2)))) (fun _ i _ => 2 - (intOf i).toNat)
      case atStart => exact ⟨0, by omega, rfl, HB.out, HO.out⟩
      case round =>
        obtain ⟨k, hk, rfl, HI⟩ := hrel
        clear HO HB
        obtain rfl | rfl | rfl : k = 0 ∨ k = 1 ∨ k = 2 := by omega
        · have l1 := run_loadRowsP (HC.out _ HI.out.1).1
          obtain ⟨o', w', h1, h2, h3, _⟩ := app_rowsP (rows1 := []) (n := 0) rfl HI.out.2 HI.out.1 HI.out.1.size (HX.out.1.below HI.out.1) (by omega) 23
          have HN : Hid (Below w.heap.size w w' ∧ w'.ownsRow w.heap.size 56 16 o' rows1.length (flatRP rows1)) := ⟨h3, by simpa using h2⟩
          clear h2 h3 HI
          go_wp2
          go_roundw
          case rel => exact ⟨1, by omega, by go_num, HN⟩
          case measure => simp [intOf]
        · have l1 := run_loadRowsP (HC.out _ HI.out.1).2
          obtain ⟨o', w', h1, h2, h3, _⟩ := app_rowsP (rows1 := rows1) (n := rows1.length) rfl HI.out.2 HI.out.1 HI.out.1.size (HX.out.2.below HI.out.1) (by omega) 23
          have HN : Hid (Below w.heap.size w w' ∧ w'.ownsRow w.heap.size 56 16 o' (rows1.length + rows2.length) (flatRP (rows1 ++ rows2))) := ⟨h3, h2⟩
          clear h2 h3 HI
          go_wp2
          go_roundw
          case rel => exact ⟨2, by omega, by go_num, HN⟩
          case measure => simp [intOf]
        · have HF := Lib.hid HI.out
          obtain ⟨_, _, rfl, _⟩ := own_form HI.out.2
          clear HI HC HX
          go_wp2
          go_ret
          exact ⟨_, rfl, HF.out.2, HF.out.1⟩
end Go.Proofs.YteabclfhmapabaaDoor
end
