import Derived.Test.YtjemaijokgcjnaaDoorVtHex
import Derived.OwnWalk
namespace Go.Proofs.YtjemaijokgcjnaaDoor
open Go.RowKit Go.Maps
set_option linter.unusedVariables false
set_option linter.unusedSimpArgs false
attribute [local go_sem ↓] Go.wp_at_zero Go.wp_at_succ

/-- what the package-level variables hold that reading looks into -/
structure Gv (w : World) : Prop where
  es : ∃ te pe, w.cell? ⟨3, 0, none⟩ = some (.iface te pe)
  er : ∃ te pe, w.cell? ⟨4, 0, none⟩ = some (.iface te pe)
  pw : Lib.TabIs Tryd.prog w "internal/strconv.uint64pow10" .u64 Lib.pow10Tab
theorem Gv.below {w w' : World} (h : Gv w) (hb : Below w.heap.size w w') : Gv w' := by
  have hc : ∀ {b i : Nat} {u : Value}, w.cell? ⟨b, i, none⟩ = some u → w'.cell? ⟨b, i, none⟩ = some u := fun {b i u} hu => by
    rw [hb.cell (p := ⟨b, i, none⟩) (World.block_lt_of_cell? _ _ hu)]; exact hu
  obtain ⟨a, b, e1⟩ := h.es
  obtain ⟨c, d, e2⟩ := h.er
  exact ⟨⟨a, b, hc e1⟩, ⟨c, d, hc e2⟩, tab_below h.pw hb⟩
theorem Gv.alloc {w : World} (h : Gv w) (o : Obj) : Gv (w.alloc o) := h.below ((Below.refl _ _).alloc (Nat.le_refl _) _)

theorem hexM_two {l : List UInt8} (h : l.length = 2) {v : Nat} (hv : hexM 0 l = some v) : v < 256 := by
  match l, h with
  | [x, y], _ =>
    simp only [hexM] at hv
    cases hx : PU.hxD x with
    | none => rw [hx] at hv; cases hv
    | some a =>
      cases hy : PU.hxD y with
      | none => rw [hx] at hv; simp only [hy] at hv; cases hv
      | some b =>
        rw [hx] at hv; simp only [hy] at hv
        injection hv with hv
        have := PU.hxD_lt hx
        have := PU.hxD_lt hy
        omega

/-- strconv.ParseUint(t, 16, 8) of two bytes -/
def Pu16 (t : ByteArray) (w : World) (e : Ending) (w' : World) : Prop :=
  ((∃ v, hexM 0 t.data.toList = some v ∧ e = .returned (.tuple #[.int .u64 v, .nilIface])) ∨ (hexM 0 t.data.toList = none ∧ ∃ N, e = .returned (.tuple #[.int .u64 0, .iface 89 (.pointer (some ⟨N, 0, none⟩))]))) ∧ Below w.heap.size w w'
set_option maxHeartbeats 1600000 in
theorem puint16_any (t : ByteArray) (ht : t.size = 2) (w : World) (hg : Gv w) : Calls Tryd.prog 75 #[.string t, .int .i64 16, .int .i64 8] w fun e w' => Pu16 t w e w' := by
  have HP : Hid (∀ e w', ((∃ v, hexM 0 t.data.toList = some v ∧ e = .returned (.tuple #[.int .u64 v, .nilIface])) ∨ (hexM 0 t.data.toList = none ∧ ∃ N, e = .returned (.tuple #[.int .u64 0, .iface 89 (.pointer (some ⟨N, 0, none⟩))]))) → Below w.heap.size w w' → Pu16 t w e w') := fun e w' h1 h2 => ⟨h1, h2⟩
  obtain ⟨te, pe, hev⟩ := (hg.below (Lib.bytesWorld_below w 5 t)).es
  have hb1 : Below w.heap.size w (Lib.bytesWorld w 5 t) := Lib.bytesWorld_below w 5 t
  clear hg
  have HU := uint16_any t ht w
  obtain ⟨o, ho⟩ : ∃ o, hexM 0 t.data.toList = o := ⟨_, rfl⟩
  have HO : Hid (hexM 0 t.data.toList = o) := ho
  rw [ho] at HU
  clear ho
  have hsz : t.size ≤ 281474976710656 := by omega
  have HU2 := Lib.hid HU
  clear HU
  generalize Lib.bytesWorld w 5 t = w1 at hev hb1 HU2
  go_enter Tryd.func75, Tryd.ntmps75
  go_wp2_with fail
  refine HU2.out.mono ?_
  rintro e w' ⟨rfl, rfl⟩
  clear HU2
  cases o with
  | some v =>
    unfold hexV
    go_wp2
    go_ret2
    exact HP.out _ _ (.inl ⟨v, HO.out, rfl⟩) hb1
  | none =>
    unfold hexV
    go_wp2_with fail
    refine (Tryd.strconv_toError_syntax _ t _ _ _ _ hsz hev (.inr ⟨_, _, rfl⟩)).mono ?_
    rintro e w2 ⟨N, rfl, hN, -, hb2⟩
    have hbf := hb1.trans (hb2.mono hb1.size)
    clear hev hb1 hb2 hN
    go_wp2
    go_ret2
    exact HP.out _ _ (.inr ⟨HO.out, N, rfl⟩) hbf
/-- the byte that a text begins with, as the call tells it -/
def fbV : Option (UInt8 × Nat) → Value
  | some (c, n) => .tuple #[.int .u8 c.toNat, .int .i64 n, .bool true]
  | none => .tuple #[.int .u8 0, .int .i64 0, .bool false]
def hex2 (s : ByteArray) : Option (UInt8 × Nat) := if s.size < 4 then none else match hexM 0 (s.extract 2 4).data.toList with | some v => some (UInt8.ofNat v, 4) | none => none
set_option maxHeartbeats 1600000 in
theorem hexByte_any (s : ByteArray) (hs : s.size ≤ maxLen) (w : World) (hg : Gv w) : Calls Tryd.prog 61 #[.string s] w fun e w' => e = .returned (fbV (hex2 s)) ∧ Below w.heap.size w w' := by
  obtain ⟨R, HR⟩ : ∃ R, Hid (fbV (hex2 s) = R) := ⟨_, rfl⟩
  rw [HR.out]
  by_cases h4 : s.size < 4
  · have HV : Hid (R = .tuple #[.int .u8 0, .int .i64 0, .bool false]) := by show _ = _; rw [← HR.out]; unfold hex2; rw [if_pos h4]; rfl
    have h4' : (s.size : Int) < 4 := by omega
    clear h4 hg
    go_enter Tryd.func61, Tryd.ntmps61
    go_wp2
    go_ret3
    exact ⟨by rw [HV.out]; rfl, Below.refl _ _⟩
  · have hx : (s.extract 2 4).size = 2 := by rw [ByteArray.size_extract]; omega
    have h4' : ¬ (s.size : Int) < 4 := by omega
    have h4'' : (4 : Int) ≤ (s.size : Int) := by omega
    have HR2 : Hid (R = match hexM 0 (s.extract 2 4).data.toList with | some v => .tuple #[.int .u8 ((UInt8.ofNat v).toNat : Int), .int .i64 4, .bool true] | none => .tuple #[.int .u8 0, .int .i64 0, .bool false]) := by
      show _ = _; rw [← HR.out]; unfold hex2; rw [if_neg h4]
      cases hexM 0 (s.extract 2 4).data.toList <;> rfl
    have HP := puint16_any _ hx w hg
    have HL : Hid ((s.extract 2 4).data.toList.length = 2) := by show _ = _; rw [len_toList]; exact hx
    obtain ⟨t, ht⟩ : ∃ t, s.extract 2 4 = t := ⟨_, rfl⟩
    rw [ht] at hx HR2 HP HL
    have HP2 := Lib.hid HP
    clear HP h4 hg
    go_enter Tryd.func61, Tryd.ntmps61
    go_wp2_with fail
    refine HP2.out.mono ?_
    rintro e w1 ⟨⟨v, hv, rfl⟩ | ⟨hv, N, rfl⟩, hb⟩
    · have hv2 := hexM_two HL.out hv
      have hv3 : (v : Int) < 256 := by omega
      have HV : Hid (R = .tuple #[.int .u8 (v : Int), .int .i64 4, .bool true]) := by
        show _ = _; rw [HR2.out, hv]
        simp only [UInt8.toNat_ofNat']
        rw [Nat.mod_eq_of_lt (by omega)]
      clear HP2 HR2 HL hv HR
      go_wp2
      go_ret3
      exact ⟨by rw [HV.out]; rfl, hb⟩
    · have HV : Hid (R = .tuple #[.int .u8 0, .int .i64 0, .bool false]) := by show _ = _; rw [HR2.out, hv]
      clear HP2 HR2 HL hv HR
      go_wp2
      go_ret3
      exact ⟨by rw [HV.out]; rfl, hb⟩
theorem cons1 {s : ByteArray} (h : 0 < s.size) : s.data.toList = s[0] :: s.data.toList.drop 1 := by
  cases e : s.data.toList with
  | nil => rw [← len_toList, e] at h; cases h
  | cons c l =>
    have : s[0] = s.data.toList[0]'(by rw [len_toList]; exact h) := by simp [ByteArray.getElem_eq_getElem_data]
    rw [this]; simp [e]
theorem cons2 {s : ByteArray} (h : 1 < s.size) : s.data.toList = s[0] :: s[1] :: s.data.toList.drop 2 := by
  have h1 := cons1 (s := s) (by omega)
  have h2 : s.data.toList.drop 1 = s[1] :: s.data.toList.drop 2 := by
    rw [List.drop_eq_getElem_cons (by rw [len_toList]; exact h)]
    congr 1
  rw [h2] at h1
  exact h1
theorem hex2_eq {s : ByteArray} (h : 1 < s.size) (h0 : s[0] = 92) (h1 : s[1] = 120) : PU.fstB s.data.toList = hex2 s := by
  have e := cons2 h
  have ex : (s.extract 2 4).data.toList = (s.data.toList.drop 2).take 2 := by
    simp [ByteArray.data_extract]
  rw [h0, h1] at e
  unfold hex2
  rw [ex]
  have hl : (s.data.toList.drop 2).length = s.size - 2 := by rw [List.length_drop, len_toList]
  rw [e]
  unfold PU.fstB
  simp only [List.drop_succ_cons, List.drop_zero]
  rw [if_neg (by decide), if_neg (by decide), if_neg (by decide), if_pos trivial]
  rcases hr : s.data.toList.drop 2 with _ | ⟨x, _ | ⟨y, r⟩⟩
  · rw [hr] at hl; rw [if_pos (by simp at hl; omega)]
  · rw [hr] at hl; rw [if_pos (by simp at hl; omega)]
  · rw [hr] at hl; rw [if_neg (by simp at hl; omega)]
    simp only [List.take_succ_cons, List.take_zero, hexM]
    cases PU.hxD x with
    | none => rfl
    | some a => cases PU.hxD y with
      | none => rfl
      | some b => simp [hexM]
set_option maxHeartbeats 1600000 in
theorem firstByte_any (s : ByteArray) (hs : s.size ≤ maxLen) (h0 : 0 < s.size) (w : World) (hg : Gv w) : Calls Tryd.prog 47 #[.string s] w fun e w' => e = .returned (fbV (PU.fstB s.data.toList)) ∧ Below w.heap.size w w' := by
  obtain ⟨R, HR⟩ : ∃ R, Hid (fbV (PU.fstB s.data.toList) = R) := ⟨_, rfl⟩
  rw [HR.out]
  have h0' : (0 : Int) < (s.size : Int) := by omega
  have HC1 : Hid (s.data.toList = s[0] :: s.data.toList.drop 1) := cons1 h0
  have HC2 : Hid (∀ h : 1 < s.size, s.data.toList = s[0] :: s[1] :: s.data.toList.drop 2) := fun h => cons2 h
  have HX2 : Hid (∀ h : 1 < s.size, s[0] = 92 → s[1] = 120 → PU.fstB s.data.toList = hex2 s) := fun h => hex2_eq h
  have HG : Hid (Gv w) := hg
  have HS : Hid (s.size ≤ maxLen) := hs
  clear hg hs
  obtain ⟨c, hcc⟩ : ∃ c, s[0]'h0 = c := ⟨_, rfl⟩
  have hb8 : c.toNat < 256 := c.toNat_lt
  by_cases h92 : c.toNat = 92
  · have hc92 : c = 92 := UInt8.toNat_inj.1 h92
    have h92' : (c.toNat : Int) = 92 := by omega
    by_cases h2 : s.size < 2
    · have HV : Hid (R = .tuple #[.int .u8 0, .int .i64 0, .bool false]) := by
        show _ = _
        rw [← HR.out, HC1.out, hcc, hc92, List.drop_eq_nil_of_le (by rw [len_toList]; omega)]; rfl
      have h2' : (s.size : Int) < 2 := by omega
      clear h2 h92 hc92
      go_enter Tryd.func47, Tryd.ntmps47
      go_wp2
      go_ret3
      exact ⟨by rw [HV.out]; rfl, Below.refl _ _⟩
    · have h1 : 1 < s.size := by omega
      have h1' : (1 : Int) < (s.size : Int) := by omega
      have h2' : ¬ (s.size : Int) < 2 := by omega
      obtain ⟨d, hdd⟩ : ∃ d, s[1]'h1 = d := ⟨_, rfl⟩
      have hd8 : d.toNat < 256 := d.toNat_lt
      have HL : Hid (s.data.toList = 92 :: d :: s.data.toList.drop 2) := by
        show _ = _
        have := HC2.out h1
        rw [hcc, hdd, hc92] at this
        exact this
      by_cases d1 : d.toNat = 110
      · have d1' : (d.toNat : Int) = 110 := by omega
        have HV : Hid (R = .tuple #[.int .u8 10, .int .i64 2, .bool true]) := by
          show _ = _
          rw [← HR.out, HL.out, show d = 110 from UInt8.toNat_inj.1 d1]; rfl
        clear h2 h92 hc92 d1
        go_enter Tryd.func47, Tryd.ntmps47
        go_wp2
        go_ret3
        exact ⟨by rw [HV.out]; rfl, Below.refl _ _⟩
      · by_cases d2 : d.toNat = 34 ∨ d.toNat = 92
        · have HV : Hid (R = .tuple #[.int .u8 (d.toNat : Int), .int .i64 2, .bool true]) := by
            show _ = _
            rw [← HR.out, HL.out]
            rcases d2 with d2 | d2
            · rw [show d = 34 from UInt8.toNat_inj.1 d2]; rfl
            · rw [show d = 92 from UInt8.toNat_inj.1 d2]; rfl
          rcases d2 with d2 | d2
          · have d2' : (d.toNat : Int) = 34 := by omega
            clear h2 h92 hc92 d1 d2
            go_enter Tryd.func47, Tryd.ntmps47
            go_wp2
            go_ret3
            exact ⟨by rw [HV.out]; first | rfl | simp_all, Below.refl _ _⟩
          · have d2' : (d.toNat : Int) = 92 := by omega
            clear h2 h92 hc92 d1 d2
            go_enter Tryd.func47, Tryd.ntmps47
            go_wp2
            go_ret3
            exact ⟨by rw [HV.out]; first | rfl | simp_all, Below.refl _ _⟩
        · have hb110 : ((d.toNat : Int) == 110) = false := by simpa using (show ¬ (d.toNat : Int) = 110 by omega)
          have hb34 : ((d.toNat : Int) == 34) = false := by simpa using (show ¬ (d.toNat : Int) = 34 by omega)
          have hb92 : ((d.toNat : Int) == 92) = false := by simpa using (show ¬ (d.toNat : Int) = 92 by omega)
          by_cases d3 : d.toNat = 120
          · have d3' : (d.toNat : Int) = 120 := by omega
            have HV : Hid (fbV (hex2 s) = R) := by
              show _ = _
              rw [← HR.out, HX2.out h1 (hcc.trans hc92) (hdd.trans (UInt8.toNat_inj.1 d3))]
            obtain ⟨o, ho⟩ : ∃ o, hex2 s = o := ⟨_, rfl⟩
            have HB := hexByte_any s HS.out w HG.out
            rw [ho] at HB HV
            have HB2 := Lib.hid HB
            clear h2 h92 hc92 d1 d2 d3 hb110 hb34 hb92 HB ho
            go_enter Tryd.func47, Tryd.ntmps47
            go_wp2_with fail
            refine HB2.out.mono ?_
            rintro e w1 ⟨rfl, hb⟩
            clear HB2
            rcases o with _ | ⟨x, n⟩
            · unfold fbV
              go_wp2
              go_ret3
              exact ⟨by rw [← HV.out]; rfl, hb⟩
            · unfold fbV
              go_wp2
              go_ret3
              exact ⟨by rw [← HV.out]; rfl, hb⟩
          · have hb120 : ((d.toNat : Int) == 120) = false := by simpa using (show ¬ (d.toNat : Int) = 120 by omega)
            have HV : Hid (R = .tuple #[.int .u8 0, .int .i64 0, .bool false]) := by
              show _ = _
              rw [← HR.out, HL.out]
              unfold PU.fstB
              simp only
              rw [if_neg (by decide), if_neg (fun e => d1 (by rw [e]; rfl)), if_neg (by rintro (e | e) <;> exact d2 (by rw [e]; first | exact .inl rfl | exact .inr rfl)), if_neg (fun e => d3 (by rw [e]; rfl))]
              rfl
            clear h2 h92 hc92 d1 d2 d3
            go_enter Tryd.func47, Tryd.ntmps47
            go_wp2
            go_ret3
            exact ⟨by rw [HV.out]; rfl, Below.refl _ _⟩
  · have h92' : ¬ (c.toNat : Int) = 92 := by omega
    have HV : Hid (R = .tuple #[.int .u8 (c.toNat : Int), .int .i64 1, .bool true]) := by
      show _ = _
      rw [← HR.out, HC1.out, hcc]
      unfold PU.fstB
      simp only
      rw [if_pos (fun e => h92 (by rw [e]; rfl))]
      rfl
    clear h92
    go_enter Tryd.func47, Tryd.ntmps47
    go_wp2
    go_ret3
    exact ⟨by rw [HV.out]; rfl, Below.refl _ _⟩
end Go.Proofs.YtjemaijokgcjnaaDoor
