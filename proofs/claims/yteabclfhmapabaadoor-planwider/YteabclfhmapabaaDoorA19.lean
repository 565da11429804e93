import Derived.Test.YteabclfhmapabaaDoorA18
import Derived.Test.YteabclfhmapabaaDoorA8
section
namespace Go.Proofs.YteabclfhmapabaaDoor
open Go.RowKit Go.Maps Go.ChangeMaps
set_option linter.unusedVariables false
set_option linter.unusedSimpArgs false
attribute [local go_sem ↓] Go.wp_at_zero Go.wp_at_succ

/-- the known ones of the variables, as terms -/
def aheadT (ss l : List ByteArray) : List T := (l.filter (fun n => inB ss n)).map (fun n => T.mk n V0)
theorem aheadT_take {ss l : List ByteArray} {k : Nat} (hk : k < l.length) : aheadT ss (l.take (k + 1)) = if inB ss (atS l k) = true then aheadT ss (l.take k) ++ [T.mk (atS l k) V0] else aheadT ss (l.take k) := by
  unfold aheadT
  rw [take_atS hk, List.filter_append, List.map_append]
  by_cases h : inB ss (atS l k) = true
  · rw [if_pos h]
    simp [h]
  · rw [if_neg h]
    simp [h]
theorem aheadT_len (ss l : List ByteArray) : (aheadT ss l).length ≤ l.length := by
  unfold aheadT
  rw [List.length_map]
  exact List.length_filter_le _ _
theorem infoTermP : (Tryd.prog.info? 51).map (fun i => (i.zero, i.size, i.bytes)) = some (some (.agg #[.string ⟨#[]⟩, .int .i8 0, .int .i64 0, .string ⟨#[]⟩]), 4, 48) := by kernel_rfl
theorem term_push {w0 u : World} {B : Nat} {a : Option Addr} {c : Nat} {out : List T} (x : ByteArray) (own : u.ownsRow B 51 4 (.slice a out.length c) out.length (out.flatMap T.cells)) (hb : Below B w0 u) (hB : B ≤ w0.heap.size) (hl : out.length ≤ 1000000000) :
    ∃ a6 c6 w5, (Builtin.append_ #[42, 42] 42 #[.slice a out.length c, .slice (some ⟨u.heap.size, 0, none⟩) 1 1]).run Tryd.prog (u.alloc (.cells #[.string x, .int .i8 0, .int .i64 0, .string ⟨#[]⟩] 51)) = .ok (.slice a6 (out.length + 1) c6) w5 ∧ w5.ownsRow B 51 4 (.slice a6 (out ++ [T.mk x V0]).length c6) (out ++ [T.mk x V0]).length ((out ++ [T.mk x V0]).flatMap T.cells) ∧ Below B w0 w5 := by
  obtain ⟨i0, hi0, hz0, hz1, hz2⟩ := info_parts infoTermP
  have hA := belowA (w := u) (.cells #[.string x, .int .i8 0, .int .i64 0, .string ⟨#[]⟩] 51)
  have hzu : B ≤ u.heap.size := Nat.le_trans hB hb.size
  have hb5 : Below B w0 (u.alloc (.cells #[.string x, .int .i8 0, .int .i64 0, .string ⟨#[]⟩] 51)) := hb.trans (hA.mono hzu)
  have hz5 : B ≤ (u.alloc (.cells #[.string x, .int .i8 0, .int .i64 0, .string ⟨#[]⟩] 51)).heap.size := Nat.le_trans hzu hA.size
  have ho := own_below own hA
  obtain ⟨v', w5, hrun, hown', hgrow, hnil, hloc⟩ := run_append_own_at (P := Tryd.prog) (u.alloc (.cells #[.string x, .int .i8 0, .int .i64 0, .string ⟨#[]⟩] 51)) B 42 42 51 i0 _ 4 48 Tryd.underlying42 hi0 hz0 hz1 hz2 rfl (by decide) _ _ _ ho ⟨_, 0, none⟩ 1 1 [.string x, .int .i8 0, .int .i64 0, .string ⟨#[]⟩] rfl (lit_news _ #[.string x, .int .i8 0, .int .i64 0, .string ⟨#[]⟩] _) (by simp [Value.oneCell']) (by unfold maxLen; omega) (by omega) hz5
  obtain ⟨a6, c6, rfl, _⟩ := own_form hown'
  refine ⟨a6, c6, w5, hrun, ?_, hb5.grown hgrow hz5 (fun j hj => (ho.lt j hj).1)⟩
  rw [List.length_append, List.flatMap_append]
  exact hown'
attribute [-go_sem] loadVar Builtin.append_ Instr.buildSlice
theorem sliceTerm (x : ByteArray) (u : World) : (Instr.buildSlice 42 1 #[(0, .agg #[.string x, .int .i8 0, .int .i64 0, .string ⟨#[]⟩])]).run Tryd.prog u = .ok (.slice (some ⟨u.heap.size, 0, none⟩) 1 1) (u.alloc (.cells #[.string x, .int .i8 0, .int .i64 0, .string ⟨#[]⟩] 51)) := by
  simp [Instr.buildSlice, Instr.fill, go_sem]
theorem sliceLitP (a : Value) (ha : a.oneCell' = true) (u : World) : (Instr.buildSlice 23 1 #[(0, .agg #[.int .i8 1, .string ⟨#[]⟩, a, .int .i8 0, .int .i8 0, .string ⟨#[]⟩, .int .i8 0, .int .i64 0, .string ⟨#[]⟩, .slice none 0 0, .int .i8 0, .string ⟨#[]⟩, .int .i8 0, .int .i64 0, .string ⟨#[]⟩, .slice none 0 0])]).run Tryd.prog u = .ok (.slice (some ⟨u.heap.size, 0, none⟩) 1 1) (u.alloc (.cells #[.int .i8 1, .string ⟨#[]⟩, a, .int .i8 0, .int .i8 0, .string ⟨#[]⟩, .int .i8 0, .int .i64 0, .string ⟨#[]⟩, .slice none 0 0, .int .i8 0, .string ⟨#[]⟩, .int .i8 0, .int .i64 0, .string ⟨#[]⟩, .slice none 0 0] 56)) := by
  simp [Instr.buildSlice, Instr.fill, go_sem]
theorem slice2P (a1 a2 : Option Addr) (n1 n2 c1 c2 : Nat) (u : World) : (Instr.buildSlice 136 2 #[(0, .slice a1 n1 c1), (1, .slice a2 n2 c2)]).run Tryd.prog u = .ok (.slice (some ⟨u.heap.size, 0, none⟩) 2 2) (u.alloc (.cells #[.slice a1 n1 c1, .slice a2 n2 c2] 23)) := by
  simp [Instr.buildSlice, Instr.fill, go_sem]
/-- the literal that is put ahead -/
def aheadX (ts : List T) (a : Option Addr) (c : Nat) : XL := ⟨⟨1, noS, ts, 0, E0, E0⟩, ⟨a, c, none, 0, none, 0⟩⟩
theorem e0_isP (w : World) (d : Nat) : EIs w (d + 1) E0 none 0 := ⟨by decide, T0.ok, by decide, by decide, fun h => absurd h (by decide)⟩
theorem flat_cells (l : List XL) : flatRP (l.map XL.cells) = l.flatMap XL.cells := by
  unfold flatRP
  rw [List.flatMap_map]
theorem avL_len (d : Nat) : ∀ l : List XL, (avL l).length ≤ (l.flatMap (fun y => termsL d y.x)).length
  | [] => Nat.le_refl _
  | y :: l => by
    have h1 := avL_len d l
    unfold avL at h1 ⊢
    rw [List.flatMap_cons, List.flatMap_cons, List.length_append, List.length_append]
    have h2 : (avX y).length ≤ (termsL d y.x).length := by
      unfold avX termsL
      split
      · have := vsT_len y.x.ts []
        simp only [List.length_nil, List.length_append] at this ⊢
        omega
      · exact Nat.zero_le _
    omega
theorem mem_flatX (f : XL → List T) : ∀ (l : List XL) (y : XL), y ∈ l → (f y).length ≤ (l.flatMap f).length
  | [], y, h => absurd h (by simp)
  | x :: l, y, h => by
    rw [List.flatMap_cons, List.length_append]
    rcases List.mem_cons.1 h with rfl | h
    · omega
    · have := mem_flatX f l y h
      omega
theorem sz_e0 (d : Nat) : szD (d + 1) E0 = 1 := by
  simp [szD, termsD, E0, E.kids, E.t, E.op]
/-- a body with what is known ahead of it -/
def kbL (d : Nat) (ss : List ByteArray) (r : R3) : List XL := aheadX (aheadT ss (vsT [] (termsR d r))) none 0 :: r.bd
theorem eqL_ahead (d : Nat) (ts : List T) (a : Option Addr) (c : Nat) (l : List XL) : eqL d (aheadX ts a c :: l) = eqL d (aheadX ts none 0 :: l) := rfl
theorem atN_ahead (ts : List T) (a : Option Addr) (c : Nat) (l : List XL) : atN (aheadX ts a c :: l) = atN (aheadX ts none 0 :: l) := rfl
set_option maxHeartbeats 3200000 in
set_option maxRecDepth 100000 in
theorem limit_any (d : Nat) (r : R3) (p : RP) {ss : List ByteArray} {b : Nat} (w : World) (h : SetIs w b ss) (hR : RIs w (d + 1) r p) (hT : (termsR (d + 1) r).length ≤ 1048576) (hbd : r.bd.length ≤ 16) (hsz : ∀ i, i < (vsT [] (termsR (d + 1) r)).length → (atS (vsT [] (termsR (d + 1) r)) i).size ≤ maxLen) :
    Calls Tryd.prog 25 #[.map (some b), r.val p] w fun e w' => Below w.heap.size w w' ∧ ∃ fs, (∃ k, fs = itQ (eqL (d + 1) (kbL (d + 1) ss r)) k (atN (kbL (d + 1) ss r))) ∧ rndQ (eqL (d + 1) (kbL (d + 1) ss r)) fs = fs ∧ e = .returned (.bool ((fs.length : Int) == ((vsT [] (termsR (d + 1) r)).length : Int))) := by
  have HTL : Hid (∀ y ∈ r.bd, (termsL (d + 1) y.x).length ≤ 1048576) := fun y hy => by
    have h1 := mem_flatX (fun y => termsL (d + 1) y.x) r.bd y hy
    unfold termsR at hT
    rw [List.length_append] at hT
    omega
  have HAV : Hid ((avL r.bd).length ≤ 1048576) := by
    have h1 := avL_len (d + 1) r.bd
    unfold termsR at hT
    rw [List.length_append] at hT
    exact Nat.le_trans h1 (by omega)
  have hkb : kbL (d + 1) ss r = aheadX (aheadT ss (vsT [] (termsR (d + 1) r))) none 0 :: r.bd := rfl
  rw [hkb]
  clear hkb
  have hA0 := belowA (w := w) (.cells #[.string r.pr, .slice p.a r.hd.length p.c, .slice p.ba r.bd.length p.bc] 25)
  have HR := Lib.hid (hR.below hA0)
  have HS := Lib.hid (h.of_block (hA0.block b h.lt))
  have HB0 := Lib.hid hA0
  have hld : (loadVar 25 ⟨w.heap.size, 0, none⟩).run Tryd.prog (w.alloc (.cells #[.string r.pr, .slice p.a r.hd.length p.c, .slice p.ba r.bd.length p.bc] 25)) = .ok (.agg #[.string r.pr, .slice p.a r.hd.length p.c, .slice p.ba r.bd.length p.bc]) _ := run_loadVar_mid _ _ 0 25 [.string r.pr, .slice p.a r.hd.length p.c, .slice p.ba r.bd.length p.bc] _ (RL.range (rl_new w #[.string r.pr, .slice p.a r.hd.length p.c, .slice p.ba r.bd.length p.bc] 25)) Tryd.underlying25 rfl (by kernel_rfl)
  have HRL := Lib.hid (rl_new w #[.string r.pr, .slice p.a r.hd.length p.c, .slice p.ba r.bd.length p.bc] 25)
  have HRV := Lib.hid (vruleVars_any (d + 1) r p _ (hR.below hA0) (by omega))
  unfold R3.val at HRV
  clear h hR hA0
  unfold R3.val
  go_enter Tryd.func25, Tryd.ntmps25
  go_upto_region 1 with fail
  generalize w.alloc (.cells #[.string r.pr, .slice p.a r.hd.length p.c, .slice p.ba r.bd.length p.bc] 25) = W at HR HS HB0 hld HRL HRV ⊢
  go_wp2_with fail
  refine HRV.out.mono ?_
  rintro e w1 ⟨sv, rfl, hls, b1⟩
  have HB1 := Lib.hid (HB0.out.trans (b1.mono HB0.out.size))
  have HBW := Lib.hid b1
  have HVL := Lib.hid hls
  have hvn : (vsT [] (termsR (d + 1) r)).length ≤ 1048576 := by
    have := vsT_len (termsR (d + 1) r) []
    simp only [List.length_nil] at this
    omega
  have HTW : Hid (∀ t ∈ aheadT ss (vsT [] (termsR (d + 1) r)), t.wf) := by
    intro t ht
    obtain ⟨n, hn, rfl⟩ := List.mem_map.1 ht
    obtain ⟨i, hi, rfl⟩ := List.getElem_of_mem (List.mem_filter.1 hn).1
    have := hsz i hi
    unfold atS at this
    rw [List.getD, List.getElem?_eq_getElem hi] at this
    exact ⟨this, v0_wf⟩
  have HSZ : Hid (∀ i, i < (vsT [] (termsR (d + 1) r)).length → (atS (vsT [] (termsR (d + 1) r)) i).size ≤ maxLen) := hsz
  obtain ⟨vs, hvs⟩ : ∃ vs, vs = vsT [] (termsR (d + 1) r) := ⟨_, rfl⟩
  rw [← hvs] at hls HVL hvn HSZ HTW
  have HVS := Lib.hid hvs
  clear hvs
  obtain ⟨va, vc, rfl, hc1, hc2, hat⟩ := ls_str hls
  have HAT := Lib.hid hat
  clear hls hat b1 HRV hld
  have HO0 : Hid (w1.ownsRow w1.heap.size 51 4 (.slice none (aheadT ss (vs.take 0)).length 0) (aheadT ss (vs.take 0)).length ((aheadT ss (vs.take 0)).flatMap T.cells) ∧ Below w1.heap.size w1 w1) := ⟨World.ownsRow_nil _ _ _ _, Below.refl _ _⟩
  go_wp2
  go_loopw [6, 14] (fun ov i wr => ∃ (k : Nat) (a' : Option Addr) (c' : Nat), k ≤ vs.length ∧ i = .int .i64 k ∧ ov = .slice a' (aheadT ss (vs.take k)).length c' ∧ Hid (wr.ownsRow w1.heap.size 51 4 (.slice a' (aheadT ss (vs.take k)).length c') (aheadT ss (vs.take k)).length ((aheadT ss (vs.take k)).flatMap T.cells) ∧ Below w1.heap.size w1 wr)) (fun _ i _ => vs.length - (intOf i).toNat)
  case atStart => exact ⟨0, none, 0, Nat.zero_le _, rfl, rfl, HO0.out⟩
  case round =>
    obtain ⟨k, a', c', hk, rfl, rfl, HI⟩ := hrel
    clear HO0
    by_cases hlt : k < vs.length
    · have hlt' : (k : Int) < (vs.length : Int) := by omega
      have hk0 : (0 : Int) ≤ (k : Int) := by omega
      obtain ⟨g, off, rfl, hg, hce⟩ := HAT.out (by omega)
      have l1 := load_strP ((HI.out.2.cell (p := ⟨g, off + k, none⟩) hg).trans (hce k hlt))
      have HHS := Lib.hid (kn_has ((HS.out.of_block (HBW.out.block b HS.out.lt)).of_block (HI.out.2.block b (Nat.lt_of_lt_of_le HS.out.lt HBW.out.size))) (HSZ.out k hlt))
      have HLT := Lib.hid (aheadT_take (ss := ss) hlt)
      have hll : (aheadT ss (vs.take k)).length ≤ 1048576 := Nat.le_trans (aheadT_len _ _) (by rw [List.length_take]; omega)
      generalize aheadT ss (vs.take k) = out at HI HLT hll ⊢
      generalize atS vs k = x at l1 HHS HLT
      clear hce
      go_wp2_with fail
      refine HHS.out.mono ?_
      rintro e w2 ⟨rfl, b2⟩
      have HO2 := Lib.hid (own_below HI.out.1 b2)
      have HB2 := Lib.hid (HI.out.2.trans (b2.mono HI.out.2.size))
      clear HHS b2 l1 HI
      cases hi : inB ss x
      · rw [hi, if_neg (by decide)] at HLT
        clear hi
        go_wp2
        go_roundw
        case rel => exact ⟨k + 1, a', c', by omega, by go_num, by rw [HLT.out], by rw [HLT.out]; exact ⟨HO2.out, HB2.out⟩⟩
        case measure => simp [intOf]; omega
      · rw [hi, if_pos rfl] at HLT
        obtain ⟨a6, c6, w5, hrun, hown, hb5⟩ := term_push x HO2.out HB2.out (Nat.le_refl _) (by omega)
        have hsl := sliceTerm x w2
        have HF := Lib.hid (And.intro hown hb5)
        clear hown hb5 HO2 HB2 hi
        go_wp2
        go_roundw
        case rel => exact ⟨k + 1, a6, c6, by omega, by go_num, by rw [HLT.out, List.length_append]; rfl, by rw [HLT.out]; exact HF.out⟩
        case measure => simp [intOf]; omega
    · obtain rfl : k = vs.length := by omega
      rw [List.take_length] at HI
      rw [List.take_length]
      obtain ⟨U, rfl⟩ : ∃ U, U = wr := ⟨_, rfl⟩
      have hal : (aheadT ss vs).length ≤ 1048576 := Nat.le_trans (aheadT_len _ _) hvn
      have HWF : Hid (∀ t ∈ aheadT ss vs, t.wf) := HTW.out
      obtain ⟨ts, hts⟩ : ∃ ts, ts = aheadT ss vs := ⟨_, rfl⟩
      rw [← hts] at HI hal HWF
      rw [← hts]
      have HTS := Lib.hid hts
      clear hts
      have hlit := sliceLitP (.slice a' ts.length c') rfl U
      have hA1 := belowA (w := U) (.cells #[.int .i8 1, .string ⟨#[]⟩, (.slice a' ts.length c'), .int .i8 0, .int .i8 0, .string ⟨#[]⟩, .int .i8 0, .int .i64 0, .string ⟨#[]⟩, .slice none 0 0, .int .i8 0, .string ⟨#[]⟩, .int .i8 0, .int .i64 0, .string ⟨#[]⟩, .slice none 0 0] 56)
      have hBU : Below W.heap.size W U := HBW.out.trans (HI.out.2.mono HBW.out.size)
      have hB1 : Below W.heap.size W (U.alloc (.cells #[.int .i8 1, .string ⟨#[]⟩, (.slice a' ts.length c'), .int .i8 0, .int .i8 0, .string ⟨#[]⟩, .int .i8 0, .int .i64 0, .string ⟨#[]⟩, .slice none 0 0, .int .i8 0, .string ⟨#[]⟩, .int .i8 0, .int .i64 0, .string ⟨#[]⟩, .slice none 0 0] 56)) := hBU.trans (hA1.mono hBU.size)
      have lbody := run_loadRowsP ((hB1.cell (p := ⟨w.heap.size, 2, none⟩) HRL.out.lt).trans (HRL.out.at (j := 2) rfl))
      have hs2 := slice2P (some ⟨U.heap.size, 0, none⟩) p.ba 1 r.bd.length 1 p.bc (U.alloc (.cells #[.int .i8 1, .string ⟨#[]⟩, (.slice a' ts.length c'), .int .i8 0, .int .i8 0, .string ⟨#[]⟩, .int .i8 0, .int .i64 0, .string ⟨#[]⟩, .slice none 0 0, .int .i8 0, .string ⟨#[]⟩, .int .i8 0, .int .i64 0, .string ⟨#[]⟩, .slice none 0 0] 56))
      obtain ⟨W1, hW1⟩ : ∃ W1, W1 = U.alloc (.cells #[.int .i8 1, .string ⟨#[]⟩, (.slice a' ts.length c'), .int .i8 0, .int .i8 0, .string ⟨#[]⟩, .int .i8 0, .int .i64 0, .string ⟨#[]⟩, .slice none 0 0, .int .i8 0, .string ⟨#[]⟩, .int .i8 0, .int .i64 0, .string ⟨#[]⟩, .slice none 0 0] 56) := ⟨_, rfl⟩
      have hz1 : W1.heap.size = U.heap.size + 1 := by rw [hW1]; simp
      have hg1 : ∀ j u, (aheadX ts a' c').cells[j]? = some u → W1.cell? ⟨U.heap.size, 0 + j, none⟩ = some u := fun j u hu => by
        rw [hW1]
        have := lit_news U #[.int .i8 1, .string ⟨#[]⟩, (.slice a' ts.length c'), .int .i8 0, .int .i8 0, .string ⟨#[]⟩, .int .i8 0, .int .i64 0, .string ⟨#[]⟩, .slice none 0 0, .int .i8 0, .string ⟨#[]⟩, .int .i8 0, .int .i64 0, .string ⟨#[]⟩, .slice none 0 0] 56 j u hu
        rw [show (⟨U.heap.size, 0, none⟩ : Addr).add j = ⟨U.heap.size, 0 + j, none⟩ by rw [WideShapes.add_plain]] at this
        exact this
      rw [← hW1] at hlit hA1 hB1 lbody hs2
      have hA2 := belowA (w := W1) (.cells #[.slice (some ⟨U.heap.size, 0, none⟩) 1 1, .slice p.ba r.bd.length p.bc] 23)
      obtain ⟨W2, hW2⟩ : ∃ W2, W2 = W1.alloc (.cells #[.slice (some ⟨U.heap.size, 0, none⟩) 1 1, .slice p.ba r.bd.length p.bc] 23) := ⟨_, rfl⟩
      have hq0 : W2.cell? ⟨W1.heap.size, 0, none⟩ = some (.slice (some ⟨U.heap.size, 0, none⟩) 1 1) := by rw [hW2]; go_simp
      have hq1 : W2.cell? ⟨W1.heap.size, 1, none⟩ = some (.slice p.ba r.bd.length p.bc) := by rw [hW2]; go_simp
      have hqz : W1.heap.size < W2.heap.size := by rw [hW2]; simp
      rw [← hW2] at hs2 hA2
      have hB2 : Below W.heap.size W W2 := hB1.trans (hA2.mono hB1.size)
      have hRB := (HR.out.below hB2).bd
      have x1 : LrCP W2 (.slice (some ⟨U.heap.size, 0, none⟩) [(aheadX ts a' c').cells].length 1) [(aheadX ts a' c').cells] := by
        refine ⟨fun r hr => ?_, _, _, rfl, fun _ => ⟨U.heap.size, 0, rfl, by omega, fun j u hu => ?_⟩⟩
        · obtain rfl := List.mem_singleton.1 hr
          exact ⟨rfl, by simp [aheadX, XL.cells, Value.oneCell']⟩
        · have hlt : U.heap.size < W1.heap.size := by omega
          exact (hA2.cell (p := ⟨U.heap.size, 0 + j, none⟩) hlt).trans (hg1 j u (by simpa [flatRP] using hu))
      have x2 : LrCP W2 (.slice p.ba (r.bd.map XL.cells).length p.bc) (r.bd.map XL.cells) := by
        obtain ⟨_, a2, c2, e2, _, _, hx⟩ := hRB.lies
        cases e2
        refine ⟨fun r hr => ?_, p.ba, p.bc, by rw [List.length_map], fun h0 => ?_⟩
        · obtain ⟨y, _, rfl⟩ := List.mem_map.1 hr
          exact ⟨rfl, by simp [XL.cells, Value.oneCell']⟩
        · rw [List.length_map] at h0
          obtain ⟨g, off, ea, hg, hf⟩ := hx h0
          refine ⟨g, off, ea, hg, fun j u hu => ?_⟩
          rw [flat_cells] at hu
          obtain ⟨hj, e⟩ := List.getElem?_eq_some_iff.1 hu
          rw [hf j hj, e]
      have HCC := Lib.hid (concat2P (cq := 2) (rows1 := [(aheadX ts a' c').cells]) hq0 (by rw [List.length_map]; exact hq1) hqz x1 x2 (by rw [List.length_map]; simp; omega))
      have HBU := Lib.hid (HB0.out.trans (hB2.mono HB0.out.size))
      have HB2 := Lib.hid hB2
      have HU2 : Hid (Below U.heap.size U W2) := hA1.trans (hA2.mono hA1.size)
      rw [hz1] at HCC
      clear hq0 hq1 hqz x1 x2 hg1 hA1 hA2 hB1 hB2 hBU hRB hW1 hW2
      go_wp2_with fail
      refine HCC.out.mono ?_
      rintro e w7 ⟨sv7, rfl, hown7, b7⟩
      obtain ⟨nn, hnn⟩ : ∃ nn, nn = [(aheadX ts a' c').cells].length + (r.bd.map XL.cells).length := ⟨_, rfl⟩
      rw [← hnn] at hown7
      have hU7 : Below U.heap.size U w7 := HU2.out.trans (b7.mono HU2.out.size)
      have hW7 : Below W.heap.size W w7 := HB2.out.trans (b7.mono HB2.out.size)
      have HLB : Hid (Lb w7 sv7 (d + 1) (aheadX ts a' c' :: r.bd)) := by
        refine ⟨?_, fun y hy => ?_⟩
        · have h1 := ls_own hown7
          have e1 : ([(aheadX ts a' c').cells] ++ r.bd.map XL.cells) = (aheadX ts a' c' :: r.bd).map XL.cells := rfl
          rw [e1, flat_cells] at h1
          have e2 : (aheadX ts a' c' :: r.bd).length = nn := by
            rw [hnn, List.length_map, List.length_cons, List.length_singleton, Nat.add_comm]
          rw [e2]
          exact h1
        · rcases List.mem_cons.1 hy with rfl | hy
          · exact ⟨⟨by show (-128 : Int) ≤ 1; decide, by show (1 : Int) ≤ 127; decide⟩, ⟨by show (-128 : Int) ≤ 0; decide, by show (0 : Int) ≤ 127; decide⟩, by show noS.size ≤ maxLen; decide, by show ts.length ≤ _; omega, ⟨ls_own (own_below HI.out.1 hU7), HWF.out⟩, e0_isP _ _, e0_isP _ _⟩
          · exact (HR.out.below hW7).bd.each y hy
      have HB7 := Lib.hid (HBU.out.trans (b7.mono HBU.out.size))
      have HLM := Lib.hid (limitedG_any d sv7 _ w7 HLB.out (fun i hi => by
        rw [atL_eq hi]
        rcases List.mem_cons.1 (List.getElem_mem hi) with h | h
        · rw [h]
          exact hal
        · have h1 := HTL.out _ h
          unfold termsL at h1
          rw [List.length_append] at h1
          omega) (by
        have e1 : avL (aheadX ts a' c' :: r.bd) = vsT [] ts ++ avL r.bd := rfl
        have h1 := vsT_len ts []
        have h2 := HAV.out
        rw [e1, List.length_append]
        simp only [List.length_nil] at h1
        omega) (by rw [List.length_cons]; omega) (fun i hi => by
        rw [atL_eq hi]
        rcases List.mem_cons.1 (List.getElem_mem hi) with h | h
        · rw [h]
          have e0 : szD (d + 1) E0 ≤ 1048576 := by
            rw [sz_e0]
            omega
          exact ⟨e0, e0⟩
        · have h1 := HTL.out _ h
          unfold termsL at h1
          rw [List.length_append, List.length_append] at h1
          unfold szD
          omega))
      obtain ⟨a7, c7, rfl, _⟩ := own_form hown7
      rw [eqL_ahead, atN_ahead] at HLM
      clear HCC hown7 b7 hU7 hW7 HLB HI hlit lbody hs2 hnn
      go_wp2_with fail
      refine HLM.out.mono ?_
      rintro e w8 ⟨sv8, fs, rfl, hown8, b8, hit, hst⟩
      obtain ⟨a8, c8, rfl, _⟩ := own_form hown8
      have HF : Hid (Below w.heap.size w w8 ∧ (∃ k, fs = itQ (eqL (d + 1) (aheadX ts none 0 :: r.bd)) k (atN (aheadX ts none 0 :: r.bd))) ∧ rndQ (eqL (d + 1) (aheadX ts none 0 :: r.bd)) fs = fs) := ⟨HB7.out.trans (b8.mono HB7.out.size), hit, hst⟩
      clear HLM hown8 b8 hit hst
      go_wp2
      go_ret
      rw [← HVS.out, ← HTS.out]
      exact ⟨HF.out.1, fs, HF.out.2.1, HF.out.2.2, rfl⟩
end Go.Proofs.YteabclfhmapabaaDoor
end
section
namespace Go.Proofs.YteabclfhmapabaaDoor
open Go.RowKit Go.Maps Go.ChangeMaps
set_option linter.unusedVariables false
set_option linter.unusedSimpArgs false
attribute [local go_sem ↓] Go.wp_at_zero Go.wp_at_succ

/-- what is limited, where those that are known count too -/
structure LimK (d : Nat) (ss : List ByteArray) (r : R3) (fs : List ByteArray) : Prop where
  it : ∃ k, fs = itQ (eqL d (kbL d ss r)) k (atN (kbL d ss r))
  st : rndQ (eqL d (kbL d ss r)) fs = fs
theorem vars_sz {w : World} {d : Nat} {r : R3} {p : RP} (h : RIs w d r p) : ∀ i, i < (vsT [] (termsR d r)).length → (atS (vsT [] (termsR d r)) i).size ≤ maxLen := by
  intro i hi
  have hm : atS (vsT [] (termsR d r)) i ∈ vsT [] (termsR d r) := by
    unfold atS
    rw [List.getD, List.getElem?_eq_getElem hi]
    exact List.getElem_mem hi
  rcases vsT_mem _ _ _ hm with h1 | ⟨t, ht, e⟩
  · simp at h1
  · rw [← e]
    exact (termsR_wf h t ht).text
/-- how things stand ahead of a step -/
structure TuIs (w : World) (tb kb : Nat) (v : Value) (ss : List ByteArray) (left : Nat) : Prop where
  rl : RL w tb 77 [v, .map (some kb), .int .u32 (left : Int)]
  set : SetIs w kb ss
  ne : tb ≠ kb
theorem region_onceP {P : Program} {id : Nat} {ops : Array Oper} {b : Bool} {Q : Exit → Act → World → Prop} {a : Act} {w : World}
    (h : ∃ A V, (Code.region id ops b).wp P (fun e a' w' => e = .normal ∧ a' = A ∧ w' = V) a w ∧ Q .normal A V) : (Code.region id ops b).wp P Q a w := by
  obtain ⟨A, V, h, hk⟩ := h
  exact Code.wp_mono (fun e a' w' h => by obtain ⟨rfl, rfl, rfl⟩ := h; exact hk) h
attribute [-go_sem] loadVar
theorem load_litsB {u : World} {a : Addr} {v : Value} (h : u.cell? a = some v) : (loadVar 23 a).run Tryd.prog u = .ok v u := by rw [loadVar.eq_1]; go_simp
set_option maxHeartbeats 3200000 in
set_option maxRecDepth 100000 in
theorem begin_any (d : Nat) (r : R3) (p : RP) (w : World) (hKT : KT w) (hR : RIs w (d + 1) r p) (hs : smallR (d + 1) r) (hT : (termsR (d + 1) r).length ≤ 1048576) {v : Value} {l : List ByteArray} (hl : Ls w v l.length (l.flatMap strB)) (hsz : ∀ i, i < l.length → (atS l i).size ≤ maxLen) :
    Calls Tryd.prog 12 #[r.val p, v] w fun e w' => Below w.heap.size w w' ∧
      ((ruleB (d + 1) r = false ∧ e = .returned (.tuple #[.pointer none, .int .i64 40])) ∨
       (ruleB (d + 1) r = true ∧ knB l l.length = false ∧ e = .returned (.tuple #[.pointer none, .int .i64 1])) ∨
       (ruleB (d + 1) r = true ∧ knB l l.length = true ∧ ∃ fs, LimK (d + 1) l r fs ∧ ((fs.length ≠ (vsT [] (termsR (d + 1) r)).length ∧ e = .returned (.tuple #[.pointer none, .int .i64 73])) ∨
         (fs.length = (vsT [] (termsR (d + 1) r)).length ∧ ∃ tb kb, e = .returned (.tuple #[.pointer (some ⟨tb, 0, none⟩), .int .i64 0]) ∧ TuIs w' tb kb (.slice p.ba r.bd.length p.bc) l (2 ^ r.bd.length - 1) ∧ w.heap.size ≤ tb ∧ w.heap.size ≤ kb)))) := by
  have hA0 := belowA (w := w) (.cells #[.string r.pr, .slice p.a r.hd.length p.c, .slice p.ba r.bd.length p.bc] 25)
  have HR := Lib.hid (hR.below hA0)
  have HL := Lib.hid (hl.below hA0)
  have HZ := Lib.hid hsz
  have HB0 := Lib.hid hA0
  have hld : (loadVar 25 ⟨w.heap.size, 0, none⟩).run Tryd.prog (w.alloc (.cells #[.string r.pr, .slice p.a r.hd.length p.c, .slice p.ba r.bd.length p.bc] 25)) = .ok (.agg #[.string r.pr, .slice p.a r.hd.length p.c, .slice p.ba r.bd.length p.bc]) _ := run_loadVar_mid _ _ 0 25 [.string r.pr, .slice p.a r.hd.length p.c, .slice p.ba r.bd.length p.bc] _ (RL.range (rl_new w #[.string r.pr, .slice p.a r.hd.length p.c, .slice p.ba r.bd.length p.bc] 25)) Tryd.underlying25 rfl (by kernel_rfl)
  have HRL := Lib.hid (rl_new w #[.string r.pr, .slice p.a r.hd.length p.c, .slice p.ba r.bd.length p.bc] 25)
  have HCR := Lib.hid (checkRule_any (d + 1) r p _ (hKT.below hA0) (hR.below hA0) hs)
  have HVZ := Lib.hid (vars_sz hR)
  have HBD : Hid (ruleB (d + 1) r = true → r.bd.length ≤ 16) := fun h => by
    unfold ruleB at h
    simp only [Bool.and_eq_true, decide_eq_true_eq] at h
    exact h.2.2.1
  unfold R3.val at HCR
  clear hKT hR hl hsz hA0 hs
  unfold R3.val
  go_enter Tryd.func12, Tryd.ntmps12
  go_upto_region 1 with fail
  generalize w.alloc (.cells #[.string r.pr, .slice p.a r.hd.length p.c, .slice p.ba r.bd.length p.bc] 25) = W at HR HL HB0 hld HRL HCR ⊢
  go_wp2_with fail
  refine HCR.out.mono ?_
  rintro e w1 ⟨rfl, b1⟩
  have HB1 := Lib.hid (HB0.out.trans (b1.mono HB0.out.size))
  have HW1 := Lib.hid b1
  clear b1 HCR hld
  cases hrb : ruleB (d + 1) r
  · simp only [errB]
    have HF := Lib.hid hrb
    clear hrb
    go_wp2
    go_ret2
    exact ⟨HB1.out, .inl ⟨HF.out, rfl⟩⟩
  · simp only [errB]
    have hbd := HBD.out hrb
    have HRT := Lib.hid hrb
    have HKN := Lib.hid (knowing_any (HL.out.below HW1.out) HZ.out)
    clear hrb HBD
    go_wp2_with fail
    refine HKN.out.mono ?_
    rintro e w2 ⟨b2, hcase⟩
    have HB2 := Lib.hid (HB1.out.trans (b2.mono HB1.out.size))
    have HW2 := Lib.hid (HW1.out.trans (b2.mono HW1.out.size))
    clear HKN
    rcases hcase with ⟨hk, rfl⟩ | ⟨hk, kb, rfl, hset, hkb⟩
    · have HK := Lib.hid hk
      clear hk b2
      go_wp2
      go_ret2
      exact ⟨HB2.out, .inr (.inl ⟨HRT.out, HK.out, rfl⟩)⟩
    · have HK := Lib.hid hk
      have HS := Lib.hid hset
      have HKB : Hid (w.heap.size ≤ kb) := Nat.le_trans HB1.out.size hkb
      have hld2 : (loadVar 25 ⟨w.heap.size, 0, none⟩).run Tryd.prog w2 = .ok (.agg #[.string r.pr, .slice p.a r.hd.length p.c, .slice p.ba r.bd.length p.bc]) w2 := run_loadVar_mid _ _ 0 25 [.string r.pr, .slice p.a r.hd.length p.c, .slice p.ba r.bd.length p.bc] _ (RL.range (RL.below HRL.out HW2.out)) Tryd.underlying25 rfl (by kernel_rfl)
      have HLI := Lib.hid (limit_any d r p w2 hset (HR.out.below HW2.out) hT hbd HVZ.out)
      unfold R3.val at HLI
      clear hk hset hkb b2
      go_wp2_with fail
      refine HLI.out.mono ?_
      rintro e w3 ⟨b3, fs, hit, hst, rfl⟩
      have HB3 := Lib.hid (HB2.out.trans (b3.mono HB2.out.size))
      have HW3 := Lib.hid (HW2.out.trans (b3.mono HW2.out.size))
      have HS3 := Lib.hid (HS.out.of_block (b3.block kb HS.out.lt))
      have HLK : Hid (LimK (d + 1) l r fs) := ⟨hit, hst⟩
      obtain ⟨vn, hvn⟩ : ∃ vn, vn = (vsT [] (termsR (d + 1) r)).length := ⟨_, rfl⟩
      rw [← hvn]
      have HVN := Lib.hid hvn
      clear hit hst hvn HLI hld2 HS
      by_cases he : fs.length = vn
      · have hd : ((fs.length : Int) == (vn : Int)) = true := by rw [beq_iff_eq]; omega
        rw [hd]
        have HE := Lib.hid he
        clear hd he b3
        have lb := load_litsB ((HW3.out.cell (p := ⟨w.heap.size, 2, none⟩) HRL.out.lt).trans (HRL.out.at (j := 2) rfl))
        have HLD : Hid (∀ u, Below w3.heap.size w3 u → (loadVar 23 ⟨w.heap.size, 2, none⟩).run Tryd.prog u = .ok (.slice p.ba r.bd.length p.bc) u) := fun u hu => load_litsB (((HW3.out.trans (hu.mono HW3.out.size)).cell (p := ⟨w.heap.size, 2, none⟩) HRL.out.lt).trans (HRL.out.at (j := 2) rfl))
        have HFO := fun u => Lib.hid (firstOf_any r.bd.length hbd u)
        clear lb
        go_upto_region 9 with fail
        have lb := HLD.out _ (Below.refl w3.heap.size w3).drew
        have hgf := HFO w3.drew
        clear HFO HLD
        refine region_onceP ?_
        apply Exists.intro
        apply Exists.intro
        refine ⟨?_, ?_⟩
        · refine wp_region_noPanic ?_
          go_region_with (go_at_call 26; refine (hgf.out).mono ?_; rintro ee w4 ⟨rfl, rfl⟩)
          all_goals exact NoPanic.normal ⟨rfl, rfl, rfl⟩
        simp (config := { maxSteps := 8000000 }) only [Act.put, List.getElem_toArray, List.getElem_cons_zero, List.getElem_cons_succ, List.setIfInBounds_toArray, List.set_cons_succ, List.set_cons_zero]
        simp only [Exit.then]
        go_at_K
        have HA : Hid (Below w3.heap.size w3 (w3.drew.alloc (.cells #[.slice p.ba r.bd.length p.bc, .map (some kb), .int .u32 ((2 ^ r.bd.length - 1 : Nat) : Int)] 77))) := (Below.refl _ _).drew.alloc (Nat.le_refl _) _
        have HTU : Hid (TuIs (w3.drew.alloc (.cells #[.slice p.ba r.bd.length p.bc, .map (some kb), .int .u32 ((2 ^ r.bd.length - 1 : Nat) : Int)] 77)) w3.heap.size kb (.slice p.ba r.bd.length p.bc) l (2 ^ r.bd.length - 1)) := ⟨rl_new w3.drew #[.slice p.ba r.bd.length p.bc, .map (some kb), .int .u32 ((2 ^ r.bd.length - 1 : Nat) : Int)] 77, HS3.out.of_block (HA.out.block kb HS3.out.lt), fun e => by have := HS3.out.lt; omega⟩
        have HBF := Lib.hid (HB3.out.trans (HA.out.mono HB3.out.size))
        have HSZ := Lib.hid HB3.out.size
        clear HA lb hgf
        go_wp2
        go_ret2
        exact ⟨HBF.out, .inr (.inr ⟨HRT.out, HK.out, fs, HLK.out, .inr ⟨by rw [← HVN.out]; exact HE.out, w3.heap.size, kb, rfl, HTU.out, HSZ.out, HKB.out⟩⟩)⟩
      · have hd : ((fs.length : Int) == (vn : Int)) = false := by rw [beq_eq_false_iff_ne]; omega
        rw [hd]
        have HE := Lib.hid he
        clear hd he b3
        go_wp2
        go_ret2
        exact ⟨HB3.out, .inr (.inr ⟨HRT.out, HK.out, fs, HLK.out, .inl ⟨by rw [← HVN.out]; exact HE.out, rfl⟩⟩)⟩
end Go.Proofs.YteabclfhmapabaaDoor
end
