import Derived.Test.YtmblkafejhbffaaGreatDoorTermHand
namespace Go.Proofs.YtmblkafejhbffaaGreatDoor
open Go.RowKit Go.Maps
set_option linter.unusedVariables false
set_option linter.unusedSimpArgs false
attribute [local go_sem ↓] Go.wp_at_zero Go.wp_at_succ

/-- the function value that 'variables' hands on -/
def handV (bs bo : Nat) : Value := .func (.func 120) #[] #[.pointer (some ⟨bs, 0, none⟩), .pointer (some ⟨bo, 0, none⟩)]
theorem asRule (v : Value) (w : World) : (Instr.typeAssert (.iface 171 v) 20 142 true).run Tryz.prog w = .ok (.tuple #[.pointer none, .bool false]) w := by kernel_rfl
theorem asLiteral (v : Value) (w : World) : (Instr.typeAssert (.iface 171 v) 20 170 true).run Tryz.prog w = .ok (.tuple #[.pointer none, .bool false]) w := by kernel_rfl
theorem asAtom (v : Value) (w : World) : (Instr.typeAssert (.iface 171 v) 20 171 true).run Tryz.prog w = .ok (.tuple #[v, .bool true]) w := by kernel_rfl
set_option maxHeartbeats 3200000 in
set_option maxRecDepth 100000 in
theorem walkAtom_any {B : Nat} {w0 : World} {bo bs bm : Nat} {ns : List ByteArray} {sv : Value} {w : World} (h : Vst B w0 bo bs bm ns sv w) (hB : B = w0.heap.size) (ba o : Nat) (hba : ba < B) (a : Option Addr) (c : Nat) (ts : List T) (hc : w0.cell? ⟨ba, o + 1, none⟩ = some (.slice a ts.length c)) (hL : Lt w0 (.slice a ts.length c) ts) (hn : ns.length + ts.length ≤ 4398046511104) :
    Calls Tryz.prog 119 #[.iface 171 (.pointer (some ⟨ba, o, none⟩)), handV bs bo] w fun e w' => (∃ u, e = .returned u) ∧ ∃ sv', Vst B w0 bo bs bm (vsT ns ts) sv' w' := by
  have hwf := hL.wf
  obtain ⟨a', c', e, hc1, hc2, hat⟩ := hL.form
  cases e
  have hmax : ts.length ≤ maxLen := Nat.le_trans hc1 hc2
  unfold maxLen at hmax
  have HAT : Hid _ := hat
  have HWF : Hid _ := hwf
  have HCC : Hid (∀ u, Below B w0 u → u.cell? ⟨ba, o + 1, none⟩ = some (.slice a ts.length c)) := fun u hu => by rw [hu.cell (p := ⟨ba, o + 1, none⟩) hba]; exact hc
  have HV : Hid (Vst B w0 bo bs bm ns sv w) := h
  have c0 := HCC.out w h.bel
  have h1 := asRule (.pointer (some ⟨ba, o, none⟩))
  have h2 := asLiteral (.pointer (some ⟨ba, o, none⟩))
  have h3 := asAtom (.pointer (some ⟨ba, o, none⟩))
  obtain ⟨r, HR⟩ : ∃ r, Hid (vsT ns ts = r) := ⟨_, rfl⟩
  rw [HR.out]
  clear hat hwf hL hc h hc1 hc2
  unfold handV
  go_enter Tryz.func119, Tryz.ntmps119
  go_wp2
  clear c0 h1 h2 h3
  go_loopw [81] (fun i wr => ∃ k : Nat, k ≤ ts.length ∧ i = .int .i64 k ∧ ∃ (ns' : List ByteArray) (sv' : Value), Hid (Vst B w0 bo bs bm ns' sv' wr) ∧ ns'.length ≤ ns.length + k ∧ Hid (vsT ns' (ts.drop k) = r)) (fun i _ => ts.length - (intOf i).toNat)
  case atStart => exact ⟨0, Nat.zero_le _, rfl, ns, sv, HV, Nat.le_refl _, HR⟩
  case round =>
    obtain ⟨k, hk, rfl, ns', sv', HV', hl, HS⟩ := hrel
    have c0 := HCC.out wr HV'.out.bel
    by_cases hlt : k < ts.length
    · have hlt' : (k : Int) < (ts.length : Int) := by omega
      have hk0 : (0 : Int) ≤ (k : Int) := by omega
      obtain ⟨g, off, rfl, hg, hT⟩ := HAT.out (by omega)
      have hgB : g < B := by rw [hB]; exact hg
      have x0 : wr.cell? ⟨g, off + k * 4, none⟩ = some (.string (atT ts k).v) := by rw [HV'.out.bel.cell (p := ⟨g, off + k * 4, none⟩) hgB]; exact (hT k hlt).c0
      have hxw := atT_wf HWF.out k
      have e1 : ts.drop k = atT ts k :: ts.drop (k + 1) := by rw [atT_eq hlt]; exact List.drop_eq_getElem_cons hlt
      have HN : Hid (vsT (stepN ns' (atT ts k).v) (ts.drop (k + 1)) = r) := by show _ = r; rw [← HS.out, e1, vsT_step]
      have HH : Hid _ := hand_any HV'.out (by omega) g (off + k * 4) (atT ts k).v hgB hxw.text x0
      have HLn : Hid _ := stepN_len ns' (atT ts k).v
      clear hT e1 hxw x0 HS
      generalize (atT ts k).v = t at HN HH HLn
      go_wp2_with fail
      refine Calls.mono HH.out ?_
      rintro e w2 ⟨⟨u, rfl⟩, sv2, hv2⟩
      go_wp2
      go_roundw
      case rel => exact ⟨k + 1, by omega, by go_num, stepN ns' t, sv2, hv2, by have := HLn.out; omega, HN⟩
      case measure => simp [intOf]; omega
    · obtain rfl : k = ts.length := by omega
      have HV2 : Hid (ns' = r) := by show ns' = r; rw [← HS.out, List.drop_length]; simp [vsT]
      go_wp2
      go_end0
      rw [← HV2.out]
      exact ⟨⟨_, rfl⟩, _, HV'.out⟩
end Go.Proofs.YtmblkafejhbffaaGreatDoor
