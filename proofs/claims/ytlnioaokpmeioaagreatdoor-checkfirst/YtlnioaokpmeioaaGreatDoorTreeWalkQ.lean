import Derived.Test.YtlnioaokpmeioaaGreatDoorTermHandQ
import Derived.Test.YtlnioaokpmeioaaGreatDoorTermTreeQ
section
namespace Go.Proofs.YtlnioaokpmeioaaGreatDoor
open Go.RowKit Go.Maps
set_option linter.unusedVariables false
set_option linter.unusedSimpArgs false
attribute [local go_sem ↓] Go.wp_at_zero Go.wp_at_succ

/-- the terms of an expression, of at most so many levels, in their order -/
def termsD : Nat → E → List T
  | 0, _ => []
  | d + 1, e => e.t :: e.kids.flatMap (termsD d)
theorem termsD_succ (d : Nat) (e : E) : termsD (d + 1) e = e.t :: e.kids.flatMap (termsD d) := rfl
theorem vsT_append : ∀ (l m : List T) (ns : List ByteArray), vsT ns (l ++ m) = vsT (vsT ns l) m
  | [], m, ns => rfl
  | t :: l, m, ns => by rw [List.cons_append, vsT_step, vsT_step, vsT_append l m]
theorem flat_drop (d : Nat) {l : List E} {k : Nat} (h : k < l.length) : (l.drop k).flatMap (termsD d) = termsD d (atE l k) ++ (l.drop (k + 1)).flatMap (termsD d) := by
  rw [List.drop_eq_getElem_cons h, List.flatMap_cons, atE_eq h]
def handE (bs bo : Nat) : Value := .func (.func 72) #[] #[.pointer (some ⟨bs, 0, none⟩), .pointer (some ⟨bo, 0, none⟩)]
theorem exRule (v : Value) (w : World) : (Instr.typeAssert (.iface 145 v) 20 135 true).run Tryz.prog w = .ok (.tuple #[.pointer none, .bool false]) w := by kernel_rfl
theorem exLiteral (v : Value) (w : World) : (Instr.typeAssert (.iface 145 v) 20 175 true).run Tryz.prog w = .ok (.tuple #[.pointer none, .bool false]) w := by kernel_rfl
theorem exAtom (v : Value) (w : World) : (Instr.typeAssert (.iface 145 v) 20 138 true).run Tryz.prog w = .ok (.tuple #[.pointer none, .bool false]) w := by kernel_rfl
theorem exExpr (v : Value) (w : World) : (Instr.typeAssert (.iface 145 v) 20 145 true).run Tryz.prog w = .ok (.tuple #[v, .bool true]) w := by kernel_rfl
set_option maxHeartbeats 3200000 in
set_option maxRecDepth 100000 in
theorem walkExpr_any {B : Nat} {w0 : World} {bo bs bm : Nat} (hB : B = w0.heap.size) : ∀ (d : Nat) (ns : List ByteArray) (sv : Value) (w : World) (e : E) (a : Option Addr) (c g o : Nat), Vst B w0 bo bs bm ns sv w → g < B → XAt w0 g o e.op e.t (.slice a e.kids.length c) → EIs w0 d e a c → ns.length + (termsD d e).length ≤ 4398046511104 →
    Calls Tryz.prog 71 #[.iface 145 (.pointer (some ⟨g, o, none⟩)), handE bs bo] w fun e' w' => (∃ u, e' = .returned u) ∧ ∃ sv', Vst B w0 bo bs bm (vsT ns (termsD d e)) sv' w' := by
  intro d
  induction d with
  | zero => intro ns sv w e a c g o h hg hx hE; exact absurd hE (fun h => h)
  | succ d ih =>
  intro ns sv w e a c g o h hg hx hE hn
  obtain ⟨⟨hop, hkl⟩, htw, hc1, hc2, hk⟩ := hE
  have HK : Hid _ := hk
  have HIH : Hid _ := ih
  have HXC : Hid (∀ u, Below B w0 u → u.cell? ⟨g, o + 1, none⟩ = some (.string e.t.v) ∧ u.cell? ⟨g, o + 5, none⟩ = some (.slice a e.kids.length c)) := fun u hu => ⟨by rw [hu.cell (p := ⟨g, o + 1, none⟩) hg]; exact hx.c1, by rw [hu.cell (p := ⟨g, o + 5, none⟩) hg]; exact hx.c5⟩
  have HN : Hid _ := hn
  rw [termsD_succ] at hn ⊢
  rw [vsT_step]
  have hn1 : ns.length ≤ 4398046511104 := by simp at hn; omega
  have HH : Hid _ := hand_any h hn1 g (o + 1) e.t.v hg htw.text (HXC.out w h.bel).1
  have HLn : Hid _ := stepN_len ns e.t.v
  obtain ⟨n1, hn1'⟩ : ∃ n1, stepN ns e.t.v = n1 := ⟨_, rfl⟩
  rw [hn1'] at HH HLn ⊢
  have hsum : n1.length + (e.kids.flatMap (termsD d)).length ≤ 4398046511104 := by
    have := HLn.out
    simp only [List.length_cons] at hn
    omega
  have HSUM : Hid _ := hsum
  obtain ⟨r, HR⟩ : ∃ r, Hid (vsT n1 (e.kids.flatMap (termsD d)) = r) := ⟨_, rfl⟩
  rw [HR.out]
  have h1 := exRule (.pointer (some ⟨g, o, none⟩))
  have h2 := exLiteral (.pointer (some ⟨g, o, none⟩))
  have h3 := exAtom (.pointer (some ⟨g, o, none⟩))
  have h4 := exExpr (.pointer (some ⟨g, o, none⟩))
  clear hk ih h hx hop htw hn hn1 hn1' hsum
  unfold handE
  go_enter Tryz.func71, Tryz.ntmps71
  go_wp2_with fail
  refine Calls.mono HH.out ?_
  rintro ee w1 ⟨⟨u, rfl⟩, sv1, hv1⟩
  have HV1 : Hid _ := hv1
  have c5 := (HXC.out w1 hv1.bel).2
  clear h1 h2 h3 h4 hv1
  go_wp2
  clear c5
  go_loopw [106] (fun i wr => ∃ k : Nat, k ≤ e.kids.length ∧ i = .int .i64 k ∧ ∃ (ns' : List ByteArray) (sv' : Value), Hid (Vst B w0 bo bs bm ns' sv' wr) ∧ Hid (ns'.length + ((e.kids.drop k).flatMap (termsD d)).length ≤ 4398046511104) ∧ Hid (vsT ns' ((e.kids.drop k).flatMap (termsD d)) = r)) (fun i _ => e.kids.length - (intOf i).toNat)
  case atStart => exact ⟨0, Nat.zero_le _, rfl, n1, sv1, HV1, HSUM, HR⟩
  case round =>
    obtain ⟨k, hk, rfl, ns', sv', HV', HL', HS⟩ := hrel
    have c5 := (HXC.out wr HV'.out.bel).2
    by_cases hlt : k < e.kids.length
    · have hlt' : (k : Int) < (e.kids.length : Int) := by omega
      have hk0 : (0 : Int) ≤ (k : Int) := by omega
      obtain ⟨g', off', rfl, hg', hKS⟩ := HK.out (by omega)
      obtain ⟨a', c', hxk, hek⟩ := hKS k hlt
      have hgB : g' < B := by rw [hB]; exact hg'
      have hfd := flat_drop d hlt
      have HS2 : Hid (vsT (vsT ns' (termsD d (atE e.kids k))) ((e.kids.drop (k + 1)).flatMap (termsD d)) = r) := by
        show _ = r
        rw [← vsT_append, ← hfd]
        exact HS.out
      have hle := HL'.out
      rw [hfd, List.length_append] at hle
      have HI : Hid _ := HIH.out ns' sv' wr (atE e.kids k) a' c' g' (off' + k * 6) HV'.out hgB hxk hek (by omega)
      have HL2 : Hid ((vsT ns' (termsD d (atE e.kids k))).length + ((e.kids.drop (k + 1)).flatMap (termsD d)).length ≤ 4398046511104) := by
        show _ ≤ _
        have := vsT_len (termsD d (atE e.kids k)) ns'
        omega
      unfold handE at HI
      clear hKS hxk hek hfd hle HS HL'
      generalize vsT ns' (termsD d (atE e.kids k)) = n2 at HI HS2 HL2
      go_wp2_with fail
      refine Calls.mono HI.out ?_
      rintro ee w2 ⟨⟨u, rfl⟩, sv2, hv2⟩
      go_wp2
      go_roundw
      case rel => exact ⟨k + 1, by omega, by go_num, n2, sv2, hv2, HL2, HS2⟩
      case measure => simp [intOf]; omega
    · obtain rfl : k = e.kids.length := by omega
      have HV2 : Hid (ns' = r) := by show ns' = r; rw [← HS.out, List.drop_length]; simp [vsT]
      go_wp2
      go_end0
      rw [← HV2.out]
      exact ⟨⟨_, rfl⟩, _, HV'.out⟩
end Go.Proofs.YtlnioaokpmeioaaGreatDoor
end
