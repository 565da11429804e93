import Derived.Test.YteabclfhmapabaaDoorA3
import Derived.Test.YteabclfhmapabaaDoorA2
section
namespace Go.Proofs.YteabclfhmapabaaDoor
open Go.RowKit Go.Maps
set_option linter.unusedVariables false
set_option linter.unusedSimpArgs false
attribute [local go_sem ↓] Go.wp_at_zero Go.wp_at_succ

/-- an expression, and where its kids lie -/
structure X where
  e : E
  a : Option Addr
  c : Nat
def X.cells (x : X) : List Value := [.int .i8 x.e.op, .string x.e.t.v, .int .i8 x.e.t.a.k, .int .i64 x.e.t.a.n, .string x.e.t.a.s, .slice x.a x.e.kids.length x.c]
def X0 : X := ⟨E0, none, 0⟩
def atX (l : List X) (i : Nat) : X := l.getD i X0
theorem atX_eq {l : List X} {i : Nat} (h : i < l.length) : atX l i = l[i] := by simp [atX, List.getD, List.getElem?_eq_getElem h]
/-- a list of expressions in memory -/
structure Lx (w : World) (v : Value) (d : Nat) (l : List X) : Prop where
  lies : Ls w v l.length (l.flatMap X.cells)
  each : ∀ x ∈ l, EIs w d x.e x.a x.c
theorem Lx.below {w w' : World} {v : Value} {d : Nat} {l : List X} (h : Lx w v d l) (b : Below w.heap.size w w') : Lx w' v d l := ⟨h.lies.below b, fun x hx => (h.each x hx).below b⟩
theorem Lx.form {w : World} {v : Value} {d : Nat} {l : List X} (h : Lx w v d l) : ∃ a c, v = .slice a l.length c ∧ l.length ≤ c ∧ c ≤ maxLen ∧ (0 < l.length → ∃ g off, a = some ⟨g, off, none⟩ ∧ g < w.heap.size ∧ ∀ i, i < l.length → XAt w g (off + i * 6) (atX l i).e.op (atX l i).e.t (.slice (atX l i).a (atX l i).e.kids.length (atX l i).c)) := by
  obtain ⟨hn, a, c, hv, h1, h2, hc⟩ := h.lies
  refine ⟨a, c, hv, h1, h2, fun h0 => ?_⟩
  obtain ⟨g, off, ha, hg, hf⟩ := hc h0
  refine ⟨g, off, ha, hg, fun i hi => ⟨?_, ?_, ?_, ?_, ?_, ?_⟩⟩
  · have := hf.elem (k := 6) (fun _ => rfl) X0 hi (j := 0) (by omega) rfl; rw [← Nat.add_assoc] at this; exact this
  · have := hf.elem (k := 6) (fun _ => rfl) X0 hi (j := 1) (by omega) rfl; rw [← Nat.add_assoc] at this; exact this
  · have := hf.elem (k := 6) (fun _ => rfl) X0 hi (j := 2) (by omega) rfl; rw [← Nat.add_assoc] at this; exact this
  · have := hf.elem (k := 6) (fun _ => rfl) X0 hi (j := 3) (by omega) rfl; rw [← Nat.add_assoc] at this; exact this
  · have := hf.elem (k := 6) (fun _ => rfl) X0 hi (j := 4) (by omega) rfl; rw [← Nat.add_assoc] at this; exact this
  · have := hf.elem (k := 6) (fun _ => rfl) X0 hi (j := 5) (by omega) rfl; rw [← Nat.add_assoc] at this; exact this
theorem flatX_len (l : List X) : (l.flatMap X.cells).length = l.length * 6 := flat_len X.cells 6 (fun _ => rfl) l
theorem lx_one {g : Nat} (w : World) (hg : g = w.heap.size) (x : X) (d : Nat) (h : EIs w d x.e x.a x.c) : Lx (w.alloc (.cells #[.int .i8 x.e.op, .string x.e.t.v, .int .i8 x.e.t.a.k, .int .i64 x.e.t.a.n, .string x.e.t.a.s, .slice x.a x.e.kids.length x.c] 54)) (.slice (some ⟨g, 0, none⟩) 1 1) d [x] := by
  subst hg
  refine ⟨?_, fun y hy => ?_⟩
  · have := ls_own (World.ownsRow_lit (base := 0) (e := 54) (size := 6) w #[.int .i8 x.e.op, .string x.e.t.v, .int .i8 x.e.t.a.k, .int .i64 x.e.t.a.n, .string x.e.t.a.s, .slice x.a x.e.kids.length x.c] 1 (Nat.zero_le _) (by decide) rfl)
    simpa [X.cells] using this
  · obtain rfl := List.mem_singleton.1 hy
    exact h.below ((Below.refl _ _).alloc (Nat.le_refl _) _)
theorem small_step {d : Nat} {x : X} {K : List X} (h1 : x.e.kids.length ≤ 1048576) (hK : K.map X.e = x.e.kids) (hs : ∀ y ∈ K, smallE d y.e) : smallE (d + 1) x.e := by
  refine ⟨h1, fun i hi => ?_⟩
  rw [atE_eq hi]
  have : x.e.kids[i] ∈ K.map X.e := by rw [hK]; exact List.getElem_mem hi
  obtain ⟨y, hy, he⟩ := List.mem_map.1 this
  rw [← he]
  exact hs y hy
end Go.Proofs.YteabclfhmapabaaDoor
end
section
namespace Go.Proofs.YteabclfhmapabaaDoor
open Go.RowKit Go.Maps
set_option linter.unusedVariables false
set_option linter.unusedSimpArgs false
attribute [local go_sem ↓] Go.wp_at_zero Go.wp_at_succ

/-- the terms of an expression, of at most so many levels, in their order -/
def termsD : Nat → E → List T
  | 0, _ => []
  | d + 1, e => e.t :: e.kids.flatMap (termsD d)
theorem termsD_succ (d : Nat) (e : E) : termsD (d + 1) e = e.t :: e.kids.flatMap (termsD d) := rfl
theorem vsT_append : ∀ (l m : List T) (ns : List ByteArray), vsT ns (l ++ m) = vsT (vsT ns l) m
  | [], m, ns => rfl
  | t :: l, m, ns => by rw [List.cons_append, vsT_step, vsT_step, vsT_append l m]
theorem flat_drop (d : Nat) {l : List E} {k : Nat} (h : k < l.length) : (l.drop k).flatMap (termsD d) = termsD d (atE l k) ++ (l.drop (k + 1)).flatMap (termsD d) := by
  rw [List.drop_eq_getElem_cons h, List.flatMap_cons, atE_eq h]
def handE (bs bo : Nat) : Value := .func (.func 74) #[] #[.pointer (some ⟨bs, 0, none⟩), .pointer (some ⟨bo, 0, none⟩)]
theorem exRule (v : Value) (w : World) : (Instr.typeAssert (.iface 123 v) 20 91 true).run Tryd.prog w = .ok (.tuple #[.pointer none, .bool false]) w := by kernel_rfl
theorem exLiteral (v : Value) (w : World) : (Instr.typeAssert (.iface 123 v) 20 118 true).run Tryd.prog w = .ok (.tuple #[.pointer none, .bool false]) w := by kernel_rfl
theorem exAtom (v : Value) (w : World) : (Instr.typeAssert (.iface 123 v) 20 122 true).run Tryd.prog w = .ok (.tuple #[.pointer none, .bool false]) w := by kernel_rfl
theorem exExpr (v : Value) (w : World) : (Instr.typeAssert (.iface 123 v) 20 123 true).run Tryd.prog w = .ok (.tuple #[v, .bool true]) w := by kernel_rfl
set_option maxHeartbeats 3200000 in
set_option maxRecDepth 100000 in
theorem walkExpr_any {B : Nat} {w0 : World} {bo bs bm : Nat} (hB : B = w0.heap.size) : ∀ (d : Nat) (ns : List ByteArray) (sv : Value) (w : World) (e : E) (a : Option Addr) (c g o : Nat), Vst B w0 bo bs bm ns sv w → g < B → XAt w0 g o e.op e.t (.slice a e.kids.length c) → EIs w0 d e a c → ns.length + (termsD d e).length ≤ 4398046511104 →
    Calls Tryd.prog 29 #[.iface 123 (.pointer (some ⟨g, o, none⟩)), handE bs bo] w fun e' w' => (∃ u, e' = .returned u) ∧ ∃ sv', Vst B w0 bo bs bm (vsT ns (termsD d e)) sv' w' := by
  intro d
  induction d with
  | zero => intro ns sv w e a c g o h hg hx hE; exact absurd hE (fun h => h)
  | succ d ih =>
  intro ns sv w e a c g o h hg hx hE hn
  obtain ⟨⟨hop, hkl⟩, htw, hc1, hc2, hk⟩ := hE
  have HK : Hid _ := hk
  have HIH : Hid _ := ih
  have HXC : Hid (∀ u, Below B w0 u → u.cell? ⟨g, o + 1, none⟩ = some (.string e.t.v) ∧ u.cell? ⟨g, o + 5, none⟩ = some (.slice a e.kids.length c)) := fun u hu => ⟨by rw [hu.cell (p := ⟨g, o + 1, none⟩) hg]; exact hx.c1, by rw [hu.cell (p := ⟨g, o + 5, none⟩) hg]; exact hx.c5⟩
  have HN : Hid _ := hn
  rw [termsD_succ] at hn ⊢
  rw [vsT_step]
  have hn1 : ns.length ≤ 4398046511104 := by simp at hn; omega
  have HH : Hid _ := hand_any h hn1 g (o + 1) e.t.v hg htw.text (HXC.out w h.bel).1
  have HLn : Hid _ := stepN_len ns e.t.v
  obtain ⟨n1, hn1'⟩ : ∃ n1, stepN ns e.t.v = n1 := ⟨_, rfl⟩
  rw [hn1'] at HH HLn ⊢
  have hsum : n1.length + (e.kids.flatMap (termsD d)).length ≤ 4398046511104 := by
    have := HLn.out
    simp only [List.length_cons] at hn
    omega
  have HSUM : Hid _ := hsum
  obtain ⟨r, HR⟩ : ∃ r, Hid (vsT n1 (e.kids.flatMap (termsD d)) = r) := ⟨_, rfl⟩
  rw [HR.out]
  have h1 := exRule (.pointer (some ⟨g, o, none⟩))
  have h2 := exLiteral (.pointer (some ⟨g, o, none⟩))
  have h3 := exAtom (.pointer (some ⟨g, o, none⟩))
  have h4 := exExpr (.pointer (some ⟨g, o, none⟩))
  clear hk ih h hx hop htw hn hn1 hn1' hsum
  unfold handE
  go_enter Tryd.func29, Tryd.ntmps29
  go_wp2_with fail
  refine Calls.mono HH.out ?_
  rintro ee w1 ⟨⟨u, rfl⟩, sv1, hv1⟩
  have HV1 : Hid _ := hv1
  have c5 := (HXC.out w1 hv1.bel).2
  clear h1 h2 h3 h4 hv1
  go_wp2
  clear c5
  go_loopw [106] (fun i wr => ∃ k : Nat, k ≤ e.kids.length ∧ i = .int .i64 k ∧ ∃ (ns' : List ByteArray) (sv' : Value), Hid (Vst B w0 bo bs bm ns' sv' wr) ∧ Hid (ns'.length + ((e.kids.drop k).flatMap (termsD d)).length ≤ 4398046511104) ∧ Hid (vsT ns' ((e.kids.drop k).flatMap (termsD d)) = r)) (fun i _ => e.kids.length - (intOf i).toNat)
  case atStart => exact ⟨0, Nat.zero_le _, rfl, n1, sv1, HV1, HSUM, HR⟩
  case round =>
    obtain ⟨k, hk, rfl, ns', sv', HV', HL', HS⟩ := hrel
    have c5 := (HXC.out wr HV'.out.bel).2
    by_cases hlt : k < e.kids.length
    · have hlt' : (k : Int) < (e.kids.length : Int) := by omega
      have hk0 : (0 : Int) ≤ (k : Int) := by omega
      obtain ⟨g', off', rfl, hg', hKS⟩ := HK.out (by omega)
      obtain ⟨a', c', hxk, hek⟩ := hKS k hlt
      have hgB : g' < B := by rw [hB]; exact hg'
      have hfd := flat_drop d hlt
      have HS2 : Hid (vsT (vsT ns' (termsD d (atE e.kids k))) ((e.kids.drop (k + 1)).flatMap (termsD d)) = r) := by
        show _ = r
        rw [← vsT_append, ← hfd]
        exact HS.out
      have hle := HL'.out
      rw [hfd, List.length_append] at hle
      have HI : Hid _ := HIH.out ns' sv' wr (atE e.kids k) a' c' g' (off' + k * 6) HV'.out hgB hxk hek (by omega)
      have HL2 : Hid ((vsT ns' (termsD d (atE e.kids k))).length + ((e.kids.drop (k + 1)).flatMap (termsD d)).length ≤ 4398046511104) := by
        show _ ≤ _
        have := vsT_len (termsD d (atE e.kids k)) ns'
        omega
      unfold handE at HI
      clear hKS hxk hek hfd hle HS HL'
      generalize vsT ns' (termsD d (atE e.kids k)) = n2 at HI HS2 HL2
      go_wp2_with fail
      refine Calls.mono HI.out ?_
      rintro ee w2 ⟨⟨u, rfl⟩, sv2, hv2⟩
      go_wp2
      go_roundw
      case rel => exact ⟨k + 1, by omega, by go_num, n2, sv2, hv2, HL2, HS2⟩
      case measure => simp [intOf]; omega
    · obtain rfl : k = e.kids.length := by omega
      have HV2 : Hid (ns' = r) := by show ns' = r; rw [← HS.out, List.drop_length]; simp [vsT]
      go_wp2
      go_end0
      rw [← HV2.out]
      exact ⟨⟨_, rfl⟩, _, HV'.out⟩
end Go.Proofs.YteabclfhmapabaaDoor
end
section
namespace Go.Proofs.YteabclfhmapabaaDoor
open Go.RowKit Go.Maps
set_option linter.unusedVariables false
set_option linter.unusedSimpArgs false
attribute [local go_sem ↓] Go.wp_at_zero Go.wp_at_succ

/-- how many terms an expression has; those of a list of expressions -/
def szD (d : Nat) (e : E) : Nat := (termsD d e).length
def szL (d : Nat) (l : List X) : Nat := (l.flatMap (fun x => termsD d x.e)).length
theorem szL_append (d : Nat) (l m : List X) : szL d (l ++ m) = szL d l + szL d m := by simp [szL, List.flatMap_append]
theorem szL_single {d : Nat} {x : X} {K : List X} (hK : K.map X.e = x.e.kids) : szL (d + 1) [x] = 1 + szL d K := by
  unfold szL
  have : K.flatMap (fun x => termsD d x.e) = x.e.kids.flatMap (termsD d) := by rw [← hK, List.flatMap_map]
  rw [this]
  simp only [List.flatMap_cons, List.flatMap_nil, List.append_nil, termsD_succ, List.length_cons]
  omega
set_option maxHeartbeats 6400000 in
theorem exprPartsS_any (d : Nat) (e : E) (a : Option Addr) (c : Nat) (w : World) (hE : EIs w d e a c) (lf : Nat) (hlf : lf ≤ 1048576) :
    Calls Tryd.prog 40 #[e.val a c, .int .i64 (lf : Int)] w fun r w' => ∃ n : Int, r = .returned (.int .i64 n) ∧ Below w.heap.size w w' ∧ (0 ≤ n ∧ n ≤ (lf : Int) + 1) ∧ (n ≤ (lf : Int) → smallE d e ∧ (szD d e : Int) ≤ n) := by
  obtain ⟨i0, hi0, hz0, hz1, hz2⟩ := info_parts infoE
  have BA := (Below.refl w.heap.size w).alloc (Nat.le_refl _) (.cells #[.int .i8 e.op, .string e.t.v, .int .i8 e.t.a.k, .int .i64 e.t.a.n, .string e.t.a.s, .slice a e.kids.length c] 54)
  have HL0 : Hid (Lx _ (.slice (some ⟨w.heap.size + 1, 0, none⟩) 1 1) d [⟨e, a, c⟩]) := lx_one (w.alloc (.cells #[.int .i8 e.op, .string e.t.v, .int .i8 e.t.a.k, .int .i64 e.t.a.n, .string e.t.a.s, .slice a e.kids.length c] 54)) (by simp) ⟨e, a, c⟩ d (hE.below BA)
  have HB0 : Hid (Below w.heap.size w _) := BA.alloc BA.size (.cells #[.int .i8 e.op, .string e.t.v, .int .i8 e.t.a.k, .int .i64 e.t.a.n, .string e.t.a.s, .slice a e.kids.length c] 54)
  clear hE BA
  unfold E.val
  go_enter Tryd.func40, Tryd.ntmps40
  go_wp2
  go_loopw [5, 6, 7] (fun n lv dp wr => ∃ (nn dd dpt : Nat) (L : List X), n = .int .i64 nn ∧ dp = .int .i64 dd ∧ nn ≤ lf ∧ L.length ≤ 1048576 ∧ dd ≤ 65537 ∧ Below w.heap.size w wr ∧ Hid (Lx wr lv dpt L) ∧ Hid (((∀ x ∈ L, smallE dpt x.e) → smallE d e) ∧ szD d e = nn + szL dpt L)) (fun _ _ dp _ => 70000 - (intOf dp).toNat)
  case atStart => exact ⟨0, 0, d, [⟨e, a, c⟩], rfl, rfl, by omega, by simp, by omega, HB0.out, HL0.out, ⟨fun h => h ⟨e, a, c⟩ (by simp), by simp [szL, szD]⟩⟩
  case round =>
    obtain ⟨nn, dd, dpt, L, rfl, rfl, hnn, hLl, hdd, bel, HLx, HSm⟩ := hrel
    obtain ⟨la, lc, rfl, hlc1, hlc2, hat⟩ := HLx.out.form
    clear HL0 HB0
    by_cases hL0 : 0 < L.length
    · have hL0' : (0 : Int) < (L.length : Int) := by omega
      obtain ⟨lg, lo, rfl, hlg, hLat⟩ := hat hL0
      have HAT : Hid _ := hLat
      clear hat hLat
      by_cases hbig : nn + L.length > lf
      · have hb1 : (lf : Int) < (nn : Int) + (L.length : Int) := by omega
        go_wp2
        go_ret
        exact ⟨_, rfl, bel, ⟨by omega, by omega⟩, fun h => absurd h (by omega)⟩
      · have hb1 : ¬ (lf : Int) < (nn : Int) + (L.length : Int) := by omega
        by_cases hdeep : dd > 65536
        · have hd1 : (65536 : Int) < (dd : Int) := by omega
          go_wp2
          go_ret
          exact ⟨_, rfl, bel, ⟨by omega, by omega⟩, fun h => absurd h (by omega)⟩
        · have hd1 : ¬ (65536 : Int) < (dd : Int) := by omega
          cases dpt with
          | zero => exact absurd (HLx.out.each L[0] (List.getElem_mem hL0)) (fun h => h)
          | succ dp =>
          obtain ⟨W1, rfl⟩ : ∃ W1, W1 = wr := ⟨_, rfl⟩
          obtain ⟨M, hM⟩ : ∃ M : Nat, nn + L.length = M := ⟨_, rfl⟩
          have hM1 : (nn : Int) + (L.length : Int) = (M : Int) := by omega
          have hM2 : M ≤ lf := by omega
          have HEa : Hid _ := HLx.out.each
          have hM3 : ¬ (lf : Int) < (M : Int) := by omega
          clear hb1 hbig HLx hM
          go_wp2
          go_loopw [8, 9] (fun nx i wr2 => ∃ (k : Nat) (N : List X), k ≤ L.length ∧ i = .int .i64 k ∧ M + N.length ≤ lf ∧ Below W1.heap.size W1 wr2 ∧ Hid (wr2.ownsRow W1.heap.size 54 6 nx N.length (N.flatMap X.cells)) ∧ Hid (∀ x ∈ N, EIs W1 dp x.e x.a x.c) ∧ Hid (((∀ x ∈ N, smallE dp x.e) → ∀ x ∈ L.take k, smallE (dp + 1) x.e) ∧ szL (dp + 1) (L.take k) = k + szL dp N)) (fun _ i _ => L.length - (intOf i).toNat)
          case atStart => exact ⟨0, [], Nat.zero_le _, rfl, by simpa using hM2, Below.refl _ _, ⟨rfl, .inl ⟨rfl, rfl⟩⟩, fun x hx => by simp at hx, ⟨fun _ x hx => by simp at hx, by simp [szL]⟩⟩
          case round =>
            obtain ⟨k, N, hk, rfl, hN, bel2, HO, HEN, HSN⟩ := hrel
            obtain ⟨na, nc, rfl, hnl⟩ := own_form HO.out
            by_cases hlt : k < L.length
            · have hlt' : (k : Int) < (L.length : Int) := by omega
              have x5 := ((HAT.out k hlt).below bel2 hlg).c5
              have HEx : Hid (EIs W1 (dp + 1) (atX L k).e (atX L k).a (atX L k).c) := by rw [atX_eq hlt]; exact HEa.out _ (List.getElem_mem hlt)
              have HTk : Hid (L.take (k + 1) = L.take k ++ [atX L k]) := by show _ = _; rw [List.take_add_one, List.getElem?_eq_getElem hlt, atX_eq hlt]; rfl
              have hlt0 := hlt
              obtain ⟨x, hxx⟩ : ∃ x, atX L k = x := ⟨_, rfl⟩
              rw [hxx] at x5 HEx HTk
              have HXe : Hid _ := hxx
              clear hxx
              obtain ⟨hxo, hxt, hxc1, hxc2, hxk⟩ := HEx.out
              have hkl := hxo.2
              have HXK : Hid _ := hxk
              clear hxk hxo hxt HEx
              by_cases hbk : M + N.length + x.e.kids.length > lf
              · have hb1 : (lf : Int) < (M : Int) + (N.length : Int) + (x.e.kids.length : Int) := by omega
                go_wp2
                go_ret
                exact ⟨_, rfl, bel.trans (bel2.mono bel.size), ⟨by omega, by omega⟩, fun h => absurd h (by omega)⟩
              · have hb1 : ¬ (lf : Int) < (M : Int) + (N.length : Int) + (x.e.kids.length : Int) := by omega
                have hkb : M + N.length + x.e.kids.length ≤ lf := by omega
                clear hbk
                go_wp2
                obtain ⟨W2, rfl⟩ : ∃ W2, W2 = wr := ⟨_, rfl⟩
                go_loopw [8, 10] (fun nx i wr3 => ∃ (m : Nat) (K : List X), m ≤ x.e.kids.length ∧ i = .int .i64 m ∧ Below W1.heap.size W1 wr3 ∧ Hid (K.map X.e = x.e.kids.take m) ∧ Hid (wr3.ownsRow W1.heap.size 54 6 nx (N ++ K).length ((N ++ K).flatMap X.cells)) ∧ Hid (∀ y ∈ N ++ K, EIs W1 dp y.e y.a y.c)) (fun _ i _ => x.e.kids.length - (intOf i).toNat)
                case atStart => exact ⟨0, [], Nat.zero_le _, rfl, bel2, by simp [Hid], by simp only [List.append_nil]; exact HO.out, by simp only [List.append_nil]; exact HEN.out⟩
                case round =>
                  obtain ⟨m, K, hm, rfl, bel3, HKm, HO3, HE3⟩ := hrel
                  have hKl : K.length = m := by have := congrArg List.length HKm.out; rw [List.length_map, List.length_take] at this; omega
                  obtain ⟨na3, nc3, rfl, hnl3⟩ := own_form HO3.out
                  have z5 := ((HAT.out k hlt0).below bel3 hlg).c5
                  rw [HXe.out] at z5
                  by_cases hmt : m < x.e.kids.length
                  · have hmt' : (m : Int) < (x.e.kids.length : Int) := by omega
                    obtain ⟨g3, o3, hxa, hg3, hKS⟩ := HXK.out (by omega)
                    obtain ⟨a3, c3, hy, hyE⟩ := hKS m hmt
                    obtain ⟨y0, y1, y2, y3, y4, y5⟩ := hy.below bel3 hg3
                    rw [hxa] at z5
                    clear hxa
                    have HKn : Hid (x.e.kids.take (m + 1) = x.e.kids.take m ++ [atE x.e.kids m]) := by show _ = _; rw [List.take_add_one, List.getElem?_eq_getElem hmt, atE_eq hmt]; rfl
                    generalize atE x.e.kids m = ke at y0 y1 y2 y3 y4 y5 hyE HKn
                    have HyE : Hid _ := hyE
                    have hnk : (N ++ K).length ≤ 1048576 := by rw [List.length_append]; omega
                    have hflat := flatX_len (N ++ K)
                    obtain ⟨fl, hfl⟩ : ∃ fl, (N ++ K).flatMap X.cells = fl := ⟨_, rfl⟩
                    obtain ⟨nl, hnl⟩ : ∃ nl, (N ++ K).length = nl := ⟨_, rfl⟩
                    rw [hfl, hnl] at HO3
                    rw [hnl] at hnk hflat
                    rw [hfl] at hflat
                    have HFL : Hid _ := hfl
                    have HNL : Hid _ := hnl
                    have hnk' : (nl : Int) < 1048577 := by omega
                    have HB3 : Hid (Below W1.heap.size W1 _) := bel3.alloc bel3.size (.cells #[.int .i8 ke.op, .string ke.t.v, .int .i8 ke.t.a.k, .int .i64 ke.t.a.n, .string ke.t.a.s, .slice a3 ke.kids.length c3] 54)
                    rw [hnl]
                    clear hKS hy hyE hfl hnl hflat
                    go_wp2_with (first
                      | (at_builtin; refine wpList_append_own_at _ rfl _ _ 52 rfl W1.heap.size 54 i0 _ 6 80 Tryd.underlying52 hi0 hz0 hz1 hz2 rfl (by decide) _ _ _ rfl (own_below HO3.out ((Below.refl _ _).alloc (Nat.le_refl _) _)) ⟨wr.heap.size, 0, none⟩ 1 1 [.int .i8 ke.op, .string ke.t.v, .int .i8 ke.t.a.k, .int .i64 ke.t.a.n, .string ke.t.a.s, .slice a3 ke.kids.length c3] rfl rfl (lit_news wr #[.int .i8 ke.op, .string ke.t.v, .int .i8 ke.t.a.k, .int .i64 ke.t.a.n, .string ke.t.a.s, .slice a3 ke.kids.length c3] _) (by simp [Value.oneCell']) (by unfold maxLen; omega) (by omega) (by have := bel3.size; simp; omega) ?_; intro v' w2 hown' hgrow hnil hloc)
                      | fail)
                    have hB4 : Below W1.heap.size W1 w2 := HB3.out.grown hgrow (by have := bel3.size; simp; omega) (fun q hq => (HO3.out.lt q hq).1)
                    have hO4 : w2.ownsRow W1.heap.size 54 6 v' (N ++ (K ++ [(⟨ke, a3, c3⟩ : X)])).length ((N ++ (K ++ [(⟨ke, a3, c3⟩ : X)])).flatMap X.cells) := by
                      rw [← List.append_assoc, List.flatMap_append, HFL.out, List.length_append, HNL.out]
                      exact hown'
                    go_roundw
                    case rel => exact ⟨m + 1, K ++ [(⟨ke, a3, c3⟩ : X)], by omega, by go_num, hB4, by show _ = _; rw [List.map_append, HKm.out, HKn.out]; rfl, hO4, fun y hy => by
                      rw [← List.append_assoc, List.mem_append] at hy
                      rcases hy with hy | hy
                      · exact HE3.out y hy
                      · obtain rfl := List.mem_singleton.1 hy
                        exact HyE.out⟩
                    case measure => simp [intOf]; omega
                  · obtain rfl : m = x.e.kids.length := by omega
                    rw [List.take_length] at HKm
                    have HSn : Hid (((∀ y ∈ N ++ K, smallE dp y.e) → ∀ y ∈ L.take (k + 1), smallE (dp + 1) y.e) ∧ szL (dp + 1) (L.take (k + 1)) = (k + 1) + szL dp (N ++ K)) := by
                      refine ⟨fun h y hy => ?_, ?_⟩
                      · rw [HTk.out, List.mem_append] at hy
                        rcases hy with hy | hy
                        · exact HSN.out.1 (fun z hz => h z (List.mem_append_left _ hz)) y hy
                        · obtain rfl := List.mem_singleton.1 hy
                          exact small_step (by omega) HKm.out (fun z hz => h z (List.mem_append_right _ hz))
                      · rw [HTk.out, szL_append, szL_append, HSN.out.2, szL_single HKm.out]
                        omega
                    go_wp2
                    go_roundw
                    case rel => exact ⟨k + 1, N ++ K, by omega, by go_num, by rw [List.length_append]; omega, bel3, HO3.out, HE3.out, HSn.out⟩
                    case measure => simp [intOf]; omega
            · obtain rfl : k = L.length := by omega
              have HFin : Hid (((∀ x ∈ N, smallE dp x.e) → smallE d e) ∧ szD d e = M + szL dp N) := by
                refine ⟨fun h => HSm.out.1 (by have := HSN.out.1 h; rwa [List.take_length] at this), ?_⟩
                have h1 := HSm.out.2
                have h2 := HSN.out.2
                rw [List.take_length] at h2
                rw [h1, h2]
                omega
              have HLN : Hid (Lx wr (.slice na N.length nc) dp N) := ⟨ls_own HO.out, fun x hx => (HEN.out x hx).below bel2⟩
              go_wp2
              go_roundw
              case rel => exact ⟨M, dd + 1, dp, N, rfl, by go_num, hM2, by omega, by omega, bel.trans (bel2.mono bel.size), HLN, HFin⟩
              case measure => simp [intOf]; omega
    · have hL0' : ¬ (0 : Int) < (L.length : Int) := by omega
      have HN : Hid (smallE d e ∧ szD d e = nn) := by
        refine ⟨HSm.out.1 (fun x hx => absurd (List.length_pos_of_mem hx) hL0), ?_⟩
        have h1 := HSm.out.2
        obtain rfl : L = [] := List.length_eq_zero_iff.1 (by omega)
        rw [h1]
        simp [szL]
      clear hat
      go_wp2
      go_ret
      exact ⟨_, rfl, bel, ⟨by omega, by omega⟩, fun _ => ⟨HN.out.1, by rw [HN.out.2]; omega⟩⟩
end Go.Proofs.YteabclfhmapabaaDoor
end
