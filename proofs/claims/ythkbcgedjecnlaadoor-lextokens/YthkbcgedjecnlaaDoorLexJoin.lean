import Derived.Test.YthkbcgedjecnlaaDoorLexBuild
namespace Go.Proofs.YthkbcgedjecnlaaDoor
open Go.RowKit Go.Maps
set_option linter.unusedVariables false
set_option linter.unusedSimpArgs false
attribute [local go_sem ↓] Go.wp_at_zero Go.wp_at_succ

theorem Bld.below {B b : Nat} {p : Value} {l : List UInt8} {w w' : World} (h : Bld B b p l w) (hb : Below w.heap.size w w') : Bld B b p l w' := by
  obtain ⟨hB, v, hbk, hown, hne⟩ := h
  have hlt : b < w.heap.size := (Array.getElem?_eq_some_iff.mp hbk).1
  exact ⟨hB, v, (hb.block b hlt).trans hbk, own_below hown hb, hne⟩
def BldAny (B b : Nat) (l : List UInt8) (w : World) : Prop := Bld B b (.pointer none) l w ∨ Bld B b (self b) l w
theorem BldAny.below {B b : Nat} {l : List UInt8} {w w' : World} (h : BldAny B b l w) (hb : Below w.heap.size w w') : BldAny B b l w' := h.elim (fun h => .inl (Bld.below h hb)) (fun h => .inr (Bld.below h hb))
theorem BldAny.is {B b : Nat} {l : List UInt8} {w : World} (h : BldAny B b l w) : Lib.IsBuilder 56 5 B b (Lib.byteCells l) w := h

/-- tokens that lie from an address on -/
def TL (w : World) (a : Option Addr) (ts : List Tk) : Prop := ∀ i t, ts[i]? = some t → ∃ g off, a = some ⟨g, off, none⟩ ∧ w.cell? ⟨g, off + i * 4, none⟩ = some (.int .i8 t.k) ∧ w.cell? ⟨g, off + i * 4 + 1, none⟩ = some (.string ⟨t.s.toArray⟩) ∧ w.cell? ⟨g, off + i * 4 + 2, none⟩ = some (.int .i64 t.n) ∧ w.cell? ⟨g, off + i * 4 + 3, none⟩ = some (.int .i64 t.a)
theorem TL.below {w w' : World} {a : Option Addr} {ts : List Tk} (h : TL w a ts) (hb : Below w.heap.size w w') : TL w' a ts := fun i t hi => by
  obtain ⟨g, off, ha, c0, c1, c2, c3⟩ := h i t hi
  have hc : ∀ {o : Nat} {u : Value}, w.cell? ⟨g, o, none⟩ = some u → w'.cell? ⟨g, o, none⟩ = some u := fun {o u} hu => by
    rw [hb.cell (p := ⟨g, o, none⟩) (World.block_lt_of_cell? _ _ hu)]; exact hu
  exact ⟨g, off, ha, hc c0, hc c1, hc c2, hc c3⟩
theorem cells_get : ∀ (ts : List Tk) (i j : Nat) (t : Tk) (v : Value), ts[i]? = some t → t.cells[j]? = some v → j < 4 → (ts.flatMap Tk.cells)[4 * i + j]? = some v
  | [], i, j, t, v, h, _, _ => by simp at h
  | u :: r, 0, j, t, v, h, hv, hj => by
    simp at h; subst h
    rw [List.flatMap_cons, List.getElem?_append_left (by simp [Tk.cells]; omega)]
    simpa using hv
  | u :: r, i + 1, j, t, v, h, hv, hj => by
    simp at h
    rw [List.flatMap_cons, List.getElem?_append_right (by simp [Tk.cells]; omega)]
    rw [← cells_get r i j t v h hv hj]
    congr 1
    simp [Tk.cells]
    omega
theorem TL_of_own {w : World} {base : Nat} {sv : Value} {ts : List Tk} (h : w.ownsRow base 37 4 sv ts.length (ts.flatMap Tk.cells)) : ∃ a c, sv = .slice a ts.length c ∧ ts.length ≤ maxLen ∧ TL w a ts := by
  obtain ⟨a, c, e, hm, hc⟩ := ownsRow_form h
  refine ⟨a, c, e, hm, fun i t hi => ?_⟩
  have hlt : i < ts.length := (List.getElem?_eq_some_iff.mp hi).1
  obtain ⟨g, ha, hcs⟩ := hc (by omega)
  have hk : ∀ j v, t.cells[j]? = some v → j < 4 → w.cell? ⟨g, 0 + i * 4 + j, none⟩ = some v := fun j v hv hj => by
    have h1 := cells_get ts i j t v hi hv hj
    obtain ⟨h2, h3⟩ := List.getElem?_eq_some_iff.mp h1
    have := hcs _ h2
    rw [h3] at this
    rw [← this]
    congr 2
    omega
  exact ⟨g, 0, ha, hk 0 _ rfl (by omega), hk 1 _ rfl (by omega), hk 2 _ rfl (by omega), hk 3 _ rfl (by omega)⟩

/-- the text of the tokens, by the text of each -/
def joinT (tx : Tk → Option (List UInt8)) : Nat → List UInt8 → List Tk → List UInt8 × Int
  | _, acc, [] => if 65536 < acc.length then ([], 30) else (acc, 0)
  | i, acc, t :: r =>
    match tx t with
    | none => ([], 1)
    | some s => if t.k = 8 ∧ r ≠ [] then ([], 1) else if t.k = 8 ∨ 65536 < acc.length then joinT tx (i + 1) acc r else joinT tx (i + 1) (acc ++ (if 0 < i then [32] else []) ++ s) r
def txV (o : Option (List UInt8)) : Value := match o with | none => .tuple #[.string ⟨#[]⟩, .int .i64 1] | some s => .tuple #[.string ⟨s.toArray⟩, .int .i64 0]
def TextOK (tx : Tk → Option (List UInt8)) (t : Tk) : Prop := ∀ w, Gl w → Calls Tryd.prog 29 #[tkV t] w fun e w' => e = .returned (txV (tx t)) ∧ Below w.heap.size w w'
theorem fresh_bld (w : World) : BldAny w.heap.size w.heap.size [] (w.alloc (.cells #[.pointer none, .slice none 0 0] 56)) := Lib.fresh_isBuilder _ _ w

set_option maxHeartbeats 6400000 in
set_option maxRecDepth 100000 in
theorem Join_any (tx : Tk → Option (List UInt8)) (w : World) (a : Option Addr) (c : Nat) (ts : List Tk) (hg : Gl w) (htl : TL w a ts) (hlen : ts.length ≤ maxLen) (hT : ∀ t ∈ ts, TextOK tx t) (hL : ∀ t ∈ ts, ∀ s, tx t = some s → s.length ≤ 1000) :
    Calls Tryd.prog 12 #[.slice a ts.length c] w fun e w' => e = .returned (.tuple #[.string ⟨(joinT tx 0 [] ts).1.toArray⟩, .int .i64 (joinT tx 0 [] ts).2]) ∧ Below w.heap.size w w' := by
  unfold maxLen at hlen
  obtain ⟨J, HJ⟩ : ∃ J, Hid (joinT tx 0 [] ts = J) := ⟨_, rfl⟩
  rw [HJ.out]
  have HT : Hid _ := hT
  have HL : Hid _ := hL
  have hF := fresh_bld w
  have hB := (Below.refl w.heap.size w).alloc (Nat.le_refl _) (.cells #[.pointer none, .slice none 0 0] 56)
  have HG0 : Hid _ := hg
  have HTL0 : Hid _ := htl
  clear hT hL hg htl
  go_enter Tryd.func12, Tryd.ntmps12
  go_wp2_with fail
  generalize w.alloc (.cells #[.pointer none, .slice none 0 0] 56) = W at hF hB ⊢
  go_loopw [11] (fun i wr => ∃ k : Nat, k ≤ ts.length ∧ i = .int .i64 k ∧ Below w.heap.size w wr ∧ ∃ acc : List UInt8, BldAny w.heap.size w.heap.size acc wr ∧ acc.length ≤ 66600 ∧ Hid (joinT tx k acc (ts.drop k) = J)) (fun i _ => ts.length - (intOf i).toNat)
  case atStart => exact ⟨0, Nat.zero_le _, rfl, hB, [], hF, by simp, HJ.out⟩
  case round =>
    obtain ⟨k, hk, rfl, bel, acc, hbl, hal, HK⟩ := hrel
    have hgr : Gl wr := HG0.out.below bel
    have htr : TL wr a ts := TL.below HTL0.out bel
    clear hF hB HJ
    by_cases hlt : k < ts.length
    · have hlt' : (k : Int) < (ts.length : Int) := by omega
      obtain ⟨t, ht⟩ : ∃ t, ts[k]? = some t := ⟨_, List.getElem?_eq_getElem hlt⟩
      have hdk : ts.drop k = t :: ts.drop (k + 1) := by
        rw [List.drop_eq_getElem_cons hlt]
        congr 1
        exact Option.some.inj ((List.getElem?_eq_getElem hlt).symm.trans ht)
      have htm : t ∈ ts := List.mem_of_getElem? ht
      have HTt : Hid _ := HT.out t htm
      have HLt : Hid _ := HL.out t htm
      obtain ⟨g, off, rfl, c0, c1, c2, c3⟩ := htr k t ht
      have HTX : Hid (∀ w, Gl w → Calls Tryd.prog 29 #[.agg #[.int .i8 t.k, .string ⟨t.s.toArray⟩, .int .i64 t.n, .int .i64 t.a]] w fun e w' => e = .returned (txV (tx t)) ∧ Below w.heap.size w w') := HT.out t htm
      clear HTt htr
      generalize (⟨t.s.toArray⟩ : ByteArray) = tsb at *
      go_wp2_with fail
      refine (HTX.out _ (hgr.alloc _)).mono ?_
      rintro e w2 ⟨rfl, hb2⟩
      have k0 := kept_cell hb2 0 _ rfl
      have bel2 := (bel.alloc bel.size _).trans (hb2.mono (by have := bel.size; simp; omega))
      have hbl2 := (hbl.below ((Below.refl _ _).alloc (Nat.le_refl _) _)).below hb2
      have hl2 : w.heap.size ≤ w2.heap.size := bel2.size
      clear hb2 hbl bel c0 c1 c2 c3 hgr HTX
      cases htx : tx t with
      | none =>
        have HV : Hid (J = ([], 1)) := by show _ = _; rw [← HK.out, hdk, joinT, htx]
        unfold txV
        clear HK hdk hbl2
        go_wp2_with fail
        go_ret2
        exact ⟨by rw [HV.out]; rfl, bel2⟩
      | some sx =>
        have hsx := HLt.out sx htx
        have hsz : (⟨sx.toArray⟩ : ByteArray).size ≤ 1048576 := by rw [size_mk]; omega
        unfold txV
        have HK2 : Hid _ := HK.out
        rw [hdk, joinT, htx] at HK2
        clear HK
        by_cases h8 : t.k = 8
        · by_cases hlast : ts.drop (k + 1) = []
          · have hkl : k + 1 = ts.length := by have := congrArg List.length hlast; simp at this; omega
            have hkl' : ¬ (k : Int) < (ts.length : Int) - 1 := by omega
            have HN : Hid (joinT tx (k + 1) acc (ts.drop (k + 1)) = J) := by
              have := HK2.out
              simp only [h8, hlast, ne_eq, not_true_eq_false, and_false, if_false, true_or, if_true] at this
              show _ = _
              rw [hlast]; exact this
            clear HK2 hdk
            go_wp2_with fail
            go_roundw
            case rel => exact ⟨k + 1, by omega, by go_num, bel2, acc, hbl2, hal, HN.out⟩
            case measure => simp [intOf]; omega
          · have hkl : k + 1 < ts.length := by
              have h1 : (ts.drop (k + 1)).length ≠ 0 := fun e => hlast (List.length_eq_zero_iff.mp e)
              rw [List.length_drop] at h1; omega
            have hkl' : (k : Int) < (ts.length : Int) - 1 := by omega
            have HV : Hid (J = ([], 1)) := by
              have := HK2.out
              simp only [h8, hlast, ne_eq, not_false_eq_true, and_self, if_true] at this
              exact this.symm
            clear HK2 hdk hbl2
            go_wp2_with fail
            go_ret2
            exact ⟨by rw [HV.out]; rfl, bel2⟩
        · have h8' : (t.k == 8) = false := by simpa using h8
          by_cases hbig : 65536 < acc.length
          · have hbig' : (65536 : Int) < (acc.length : Int) := by omega
            have HN : Hid (joinT tx (k + 1) acc (ts.drop (k + 1)) = J) := by
              have := HK2.out
              simp only [h8, hbig, false_and, if_false, or_true, if_true] at this
              exact this
            clear HK2 hdk
            have hlc : (Lib.byteCells acc).length = acc.length := Lib.byteCells_length _
            go_wp2_with (first
              | (go_at_call 30; refine (Tryd.Builder_Len _ _ _ _ hbl2.is).mono ?_; rw [hlc]; rintro e w3 ⟨rfl, rfl⟩)
              | fail)
            go_roundw
            case rel => exact ⟨k + 1, by omega, by go_num, bel2, acc, hbl2, hal, HN.out⟩
            case measure => simp [intOf]; omega
          · have hbig' : ¬ (65536 : Int) < (acc.length : Int) := by omega
            have HN : Hid (joinT tx (k + 1) (acc ++ (if 0 < k then [32] else []) ++ sx) (ts.drop (k + 1)) = J) := by
              have := HK2.out
              simp only [h8, hbig, false_and, if_false, or_self] at this
              exact this
            clear HK2 hdk
            have hlc : (Lib.byteCells acc).length = acc.length := Lib.byteCells_length _
            by_cases h0 : 0 < k
            · have h0' : (0 : Int) < (k : Int) := by omega
              rw [if_pos h0] at HN
              go_wp2_with (first
                | (go_at_call 30; refine (Tryd.Builder_Len _ _ _ _ hbl2.is).mono ?_; rw [hlc]; rintro e w3 ⟨rfl, rfl⟩)
                | (go_at_call 31; refine (WriteByte_any 32 hbl2 (by omega) hl2).mono ?_; rintro e w4 ⟨rfl, hbl4, hb4⟩; have bel4 := bel2.trans hb4)
                | (go_at_call 32; refine (WriteString_any ⟨sx.toArray⟩ (.inr hbl4) (by simp; omega) hsz bel4.size).mono ?_; rintro e w5 ⟨rfl, hbl5, hb5⟩; have bel5 := bel4.trans hb5)
                | fail)
              go_roundw
              case rel => exact ⟨k + 1, by omega, by go_num, bel5, acc ++ [32] ++ sx, .inr (by simpa using hbl5), by simp; omega, HN.out⟩
              case measure => simp [intOf]; omega
            · have h0' : ¬ (0 : Int) < (k : Int) := by omega
              rw [if_neg h0, List.append_nil] at HN
              go_wp2_with (first
                | (go_at_call 30; refine (Tryd.Builder_Len _ _ _ _ hbl2.is).mono ?_; rw [hlc]; rintro e w3 ⟨rfl, rfl⟩)
                | (go_at_call 32; refine (WriteString_any ⟨sx.toArray⟩ hbl2 (by omega) hsz hl2).mono ?_; rintro e w5 ⟨rfl, hbl5, hb5⟩; have bel5 := bel2.trans hb5)
                | fail)
              go_roundw
              case rel => exact ⟨k + 1, by omega, by go_num, bel5, acc ++ sx, .inr (by simpa using hbl5), by simp; omega, HN.out⟩
              case measure => simp [intOf]; omega
    · have hlt' : ¬ (k : Int) < (ts.length : Int) := by omega
      have HK2 : Hid _ := HK.out
      rw [List.drop_eq_nil_of_le (by omega), joinT] at HK2
      have hlc : (Lib.byteCells acc).length = acc.length := Lib.byteCells_length _
      clear HK
      by_cases hbig : 65536 < acc.length
      · have hbig' : (65536 : Int) < (acc.length : Int) := by omega
        have HV : Hid (J = ([], 30)) := by have := HK2.out; rw [if_pos hbig] at this; exact this.symm
        clear HK2
        go_wp2_with (first
          | (go_at_call 30; refine (Tryd.Builder_Len _ _ _ _ hbl.is).mono ?_; rw [hlc]; rintro e w3 ⟨rfl, rfl⟩)
          | fail)
        go_ret2
        exact ⟨by rw [HV.out]; rfl, bel⟩
      · have hbig' : ¬ (65536 : Int) < (acc.length : Int) := by omega
        have HV : Hid (J = (acc, 0)) := by have := HK2.out; rw [if_neg hbig] at this; exact this.symm
        clear HK2
        by_cases hnil : acc = []
        · subst hnil
          go_wp2_with (first
            | (go_at_call 30; refine (Tryd.Builder_Len _ _ _ _ hbl.is).mono ?_; rw [hlc]; rintro e w3 ⟨rfl, rfl⟩)
            | (go_at_call 33; refine (Tryd.Builder_String_empty _ _ _ hbl.is bel.size).mono ?_; rintro e w4 ⟨rfl, hb4⟩)
            | fail)
          go_ret2
          exact ⟨by rw [HV.out]; rfl, bel.trans hb4⟩
        · go_wp2_with (first
            | (go_at_call 30; refine (Tryd.Builder_Len _ _ _ _ hbl.is).mono ?_; rw [hlc]; rintro e w3 ⟨rfl, rfl⟩)
            | (go_at_call 33; refine (Tryd.Builder_String _ _ _ _ hbl.is hnil).mono ?_; rintro e w4 ⟨rfl, hb4⟩)
            | fail)
          go_ret2
          exact ⟨by rw [HV.out]; rfl, bel.trans hb4⟩
end Go.Proofs.YthkbcgedjecnlaaDoor
