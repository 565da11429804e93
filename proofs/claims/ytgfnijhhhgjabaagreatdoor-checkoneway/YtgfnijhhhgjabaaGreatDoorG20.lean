import Derived.Test.YtgfnijhhhgjabaaGreatDoorTermHandQ
section
namespace Go.Proofs.YtgfnijhhhgjabaaGreatDoor
open Go.RowKit Go.Maps
set_option linter.unusedVariables false
set_option linter.unusedSimpArgs false
attribute [local go_sem ↓] Go.wp_at_zero Go.wp_at_succ

/-- the function value that 'variables' hands on -/
def handV (bs bo : Nat) : Value := .func (.func 74) #[] #[.pointer (some ⟨bs, 0, none⟩), .pointer (some ⟨bo, 0, none⟩)]
theorem asRule (v : Value) (w : World) : (Instr.typeAssert (.iface 151 v) 20 110 true).run Tryz.prog w = .ok (.tuple #[.pointer none, .bool false]) w := by kernel_rfl
theorem asLiteral (v : Value) (w : World) : (Instr.typeAssert (.iface 151 v) 20 162 true).run Tryz.prog w = .ok (.tuple #[.pointer none, .bool false]) w := by kernel_rfl
theorem asAtom (v : Value) (w : World) : (Instr.typeAssert (.iface 151 v) 20 151 true).run Tryz.prog w = .ok (.tuple #[v, .bool true]) w := by kernel_rfl
set_option maxHeartbeats 3200000 in
set_option maxRecDepth 100000 in
theorem walkAtom_any {B : Nat} {w0 : World} {bo bs bm : Nat} {ns : List ByteArray} {sv : Value} {w : World} (h : Vst B w0 bo bs bm ns sv w) (hB : B = w0.heap.size) (ba o : Nat) (hba : ba < B) (a : Option Addr) (c : Nat) (ts : List T) (hc : w0.cell? ⟨ba, o + 1, none⟩ = some (.slice a ts.length c)) (hL : Lt w0 (.slice a ts.length c) ts) (hn : ns.length + ts.length ≤ 4398046511104) :
    Calls Tryz.prog 73 #[.iface 151 (.pointer (some ⟨ba, o, none⟩)), handV bs bo] w fun e w' => (∃ u, e = .returned u) ∧ ∃ sv', Vst B w0 bo bs bm (vsT ns ts) sv' w' := by
  have hwf := hL.wf
  obtain ⟨a', c', e, hc1, hc2, hat⟩ := hL.form
  cases e
  have hmax : ts.length ≤ maxLen := Nat.le_trans hc1 hc2
  unfold maxLen at hmax
  have HAT : Hid _ := hat
  have HWF : Hid _ := hwf
  have HCC : Hid (∀ u, Below B w0 u → u.cell? ⟨ba, o + 1, none⟩ = some (.slice a ts.length c)) := fun u hu => by rw [hu.cell (p := ⟨ba, o + 1, none⟩) hba]; exact hc
  have HV : Hid (Vst B w0 bo bs bm ns sv w) := h
  have c0 := HCC.out w h.bel
  have h1 := asRule (.pointer (some ⟨ba, o, none⟩))
  have h2 := asLiteral (.pointer (some ⟨ba, o, none⟩))
  have h3 := asAtom (.pointer (some ⟨ba, o, none⟩))
  obtain ⟨r, HR⟩ : ∃ r, Hid (vsT ns ts = r) := ⟨_, rfl⟩
  rw [HR.out]
  clear hat hwf hL hc h hc1 hc2
  unfold handV
  go_enter Tryz.func73, Tryz.ntmps73
  go_wp2
  clear c0 h1 h2 h3
  go_loopw [81] (fun i wr => ∃ k : Nat, k ≤ ts.length ∧ i = .int .i64 k ∧ ∃ (ns' : List ByteArray) (sv' : Value), Hid (Vst B w0 bo bs bm ns' sv' wr) ∧ ns'.length ≤ ns.length + k ∧ Hid (vsT ns' (ts.drop k) = r)) (fun i _ => ts.length - (intOf i).toNat)
  case atStart => exact ⟨0, Nat.zero_le _, rfl, ns, sv, HV, Nat.le_refl _, HR⟩
  case round =>
    obtain ⟨k, hk, rfl, ns', sv', HV', hl, HS⟩ := hrel
    have c0 := HCC.out wr HV'.out.bel
    by_cases hlt : k < ts.length
    · have hlt' : (k : Int) < (ts.length : Int) := by omega
      have hk0 : (0 : Int) ≤ (k : Int) := by omega
      obtain ⟨g, off, rfl, hg, hT⟩ := HAT.out (by omega)
      have hgB : g < B := by rw [hB]; exact hg
      have x0 : wr.cell? ⟨g, off + k * 4, none⟩ = some (.string (atT ts k).v) := by rw [HV'.out.bel.cell (p := ⟨g, off + k * 4, none⟩) hgB]; exact (hT k hlt).c0
      have hxw := atT_wf HWF.out k
      have e1 : ts.drop k = atT ts k :: ts.drop (k + 1) := by rw [atT_eq hlt]; exact List.drop_eq_getElem_cons hlt
      have HN : Hid (vsT (stepN ns' (atT ts k).v) (ts.drop (k + 1)) = r) := by show _ = r; rw [← HS.out, e1, vsT_step]
      have HH : Hid _ := hand_any HV'.out (by omega) g (off + k * 4) (atT ts k).v hgB hxw.text x0
      have HLn : Hid _ := stepN_len ns' (atT ts k).v
      clear hT e1 hxw x0 HS
      generalize (atT ts k).v = t at HN HH HLn
      go_wp2_with fail
      refine Calls.mono HH.out ?_
      rintro e w2 ⟨⟨u, rfl⟩, sv2, hv2⟩
      go_wp2
      go_roundw
      case rel => exact ⟨k + 1, by omega, by go_num, stepN ns' t, sv2, hv2, by have := HLn.out; omega, HN⟩
      case measure => simp [intOf]; omega
    · obtain rfl : k = ts.length := by omega
      have HV2 : Hid (ns' = r) := by show ns' = r; rw [← HS.out, List.drop_length]; simp [vsT]
      go_wp2
      go_end0
      rw [← HV2.out]
      exact ⟨⟨_, rfl⟩, _, HV'.out⟩
end Go.Proofs.YtgfnijhhhgjabaaGreatDoor
end
section
namespace Go.Proofs.YtgfnijhhhgjabaaGreatDoor
open Go.RowKit Go.Maps
set_option linter.unusedVariables false
set_option linter.unusedSimpArgs false
attribute [local go_sem ↓] Go.wp_at_zero Go.wp_at_succ

theorem vst_new (w : World) : Vst w.heap.size w w.heap.size (w.heap.size + 2) (w.heap.size + 1) [] (.slice none 0 0) (((w.alloc (.cells #[.slice none 0 0] 33)).alloc (.map #[] 0)).alloc (.cells #[.map (some (w.heap.size + 1))] 137)) := by
  have s1 : (w.alloc (.cells #[.slice none 0 0] 33)).heap.size = w.heap.size + 1 := by simp
  have s2 : ((w.alloc (.cells #[.slice none 0 0] 33)).alloc (.map #[] 0)).heap.size = w.heap.size + 2 := by simp
  have b1 : Below w.heap.size w (w.alloc (.cells #[.slice none 0 0] 33)) := (Below.refl _ _).alloc (Nat.le_refl _) _
  have b2 : Below (w.heap.size + 1) (w.alloc (.cells #[.slice none 0 0] 33)) ((w.alloc (.cells #[.slice none 0 0] 33)).alloc (.map #[] 0)) := by
    have := (Below.refl (w.alloc (.cells #[.slice none 0 0] 33)).heap.size (w.alloc (.cells #[.slice none 0 0] 33))).alloc (Nat.le_refl _) (.map #[] 0)
    rw [s1] at this
    exact this
  have b3 : Below (w.heap.size + 2) ((w.alloc (.cells #[.slice none 0 0] 33)).alloc (.map #[] 0)) (((w.alloc (.cells #[.slice none 0 0] 33)).alloc (.map #[] 0)).alloc (.cells #[.map (some (w.heap.size + 1))] 137)) := by
    have := (Below.refl ((w.alloc (.cells #[.slice none 0 0] 33)).alloc (.map #[] 0)).heap.size ((w.alloc (.cells #[.slice none 0 0] 33)).alloc (.map #[] 0))).alloc (Nat.le_refl _) (.cells #[.map (some (w.heap.size + 1))] 137)
    rw [s2] at this
    exact this
  have hm : SetIs ((w.alloc (.cells #[.slice none 0 0] 33)).alloc (.map #[] 0)) (w.heap.size + 1) [] := by
    have := SetIs.made (w.alloc (.cells #[.slice none 0 0] 33))
    rw [s1] at this
    exact this
  have hb : Below w.heap.size w (((w.alloc (.cells #[.slice none 0 0] 33)).alloc (.map #[] 0)).alloc (.cells #[.map (some (w.heap.size + 1))] 137)) := (b1.trans (b2.mono (by omega))).trans (b3.mono (by omega))
  refine ⟨hb, by simp; omega, ⟨Nat.le_refl _, by omega, by omega⟩, ⟨by omega, by omega, by omega⟩, ?_, ?_, ?_, World.ownsRow_nil _ _ _ _, fun g hg => (by cases hg), ?_⟩
  · have e : ((w.alloc (.cells #[.slice none 0 0] 33)).alloc (.map #[] 0)).heap.size = w.heap.size + 2 := s2
    unfold World.cell?
    rw [show (⟨w.heap.size + 2, 0, none⟩ : Addr).block = ((w.alloc (.cells #[.slice none 0 0] 33)).alloc (.map #[] 0)).heap.size from e.symm, heap_alloc_new]
    rfl
  · rw [b3.cell (p := ⟨w.heap.size, 0, none⟩) (by show w.heap.size < _; omega), b2.cell (p := ⟨w.heap.size, 0, none⟩) (by show w.heap.size < _; omega)]
    go_simp
  · rw [b3.frozen (p := ⟨w.heap.size, 0, none⟩) (by show w.heap.size < _; omega), b2.frozen (p := ⟨w.heap.size, 0, none⟩) (by show w.heap.size < _; omega)]
    exact Lib.frozen_of_heap (heap_alloc_new w _) 0
  · exact hm.of_block (b3.block _ (by omega))
theorem run_makeSet (u : World) : (Instr.makeMap 137 none).run Tryz.prog u = .ok (.map (some u.heap.size)) (u.alloc (.map #[] 0)) := by kernel_rfl
set_option maxHeartbeats 1600000 in
theorem variablesAtom_any (ba : Nat) (a : Option Addr) (c : Nat) (ts : List T) (w : World) (hba : ba < w.heap.size) (hc : w.cell? ⟨ba, 1, none⟩ = some (.slice a ts.length c)) (hL : Lt w (.slice a ts.length c) ts) (hn : ts.length ≤ 4398046511104) :
    Calls Tryz.prog 45 #[.iface 151 (.pointer (some ⟨ba, 0, none⟩))] w fun e w' => ∃ sv, e = .returned sv ∧ w'.ownsRow w.heap.size 9 1 sv (vsT [] ts).length ((vsT [] ts).flatMap strB) ∧ Below w.heap.size w w' := by
  have HW : Hid _ := walkAtom_any (vst_new w) rfl ba 0 hba a c ts hc hL (by simpa using hn)
  unfold handV at HW
  have hmk := run_makeSet
  clear hc hL
  go_enter Tryz.func45, Tryz.ntmps45
  go_wp2_with fail
  refine Calls.mono HW.out ?_
  rintro e w2 ⟨⟨u, rfl⟩, sv2, hv2⟩
  have c0 := hv2.co
  obtain ⟨a2, c2, rfl, _⟩ := own_form hv2.own
  go_wp2
  go_ret
  exact ⟨_, rfl, hv2.own, hv2.bel⟩
theorem vatomVars_any (pr : ByteArray) (v : Value) (ts : List T) (w : World) (hn : ts.length ≤ 4398046511104) (hl : Lt w v ts) : Calls Tryz.prog 54 #[.agg #[.string pr, v]] w fun e w' => ∃ sv, e = .returned sv ∧ w'.ownsRow w.heap.size 9 1 sv (vsT [] ts).length ((vsT [] ts).flatMap strB) ∧ Below w.heap.size w w' := by
  obtain ⟨a, c, rfl, hc1, hc2, -⟩ := hl.form
  have b0 := (Below.refl w.heap.size w).alloc (Nat.le_refl _) (.cells #[.string pr, .slice a ts.length c] 48)
  have HV : Hid _ := variablesAtom_any w.heap.size a c ts (w.alloc (.cells #[.string pr, .slice a ts.length c] 48)) (by simp) (by go_simp) (hl.below b0) hn
  clear hl
  go_enter Tryz.func54, Tryz.ntmps54
  go_wp2_with fail
  refine Calls.mono HV.out ?_
  rintro e w1 ⟨sv, rfl, ho, b1⟩
  go_wp2
  go_ret
  exact ⟨_, rfl, Go.Joins.ownsRow_le ho (by simp), b0.trans (b1.mono b0.size)⟩
end Go.Proofs.YtgfnijhhhgjabaaGreatDoor
end
