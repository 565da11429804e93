import Derived.Test.YtnpmhgjbfkgmdaaDoorOnApp
namespace Go.Proofs.YtnpmhgjbfkgmdaaDoor
open Go.RowKit Go.Maps
set_option linter.unusedVariables false
set_option linter.unusedSimpArgs false
attribute [local go_sem ↓] Go.wp_at_zero Go.wp_at_succ

def putF (bm : Nat) : Value := .func (.func 26) #[.map (some bm)] #[]
theorem asRule (v : Value) (w : World) : (Instr.typeAssert (.iface 66 v) 20 79 true).run Tryd.prog w = .ok (.tuple #[.pointer none, .bool false]) w := by kernel_rfl
theorem asLiteral (v : Value) (w : World) : (Instr.typeAssert (.iface 66 v) 20 88 true).run Tryd.prog w = .ok (.tuple #[.pointer none, .bool false]) w := by kernel_rfl
theorem asAtom (v : Value) (w : World) : (Instr.typeAssert (.iface 66 v) 20 66 true).run Tryd.prog w = .ok (.tuple #[v, .bool true]) w := by kernel_rfl
set_option maxHeartbeats 1600000 in
set_option maxRecDepth 100000 in
theorem walk_none (ba bm : Nat) (a : Option Addr) (c : Nat) (w : World) (hc : w.cell? ⟨ba, 1, none⟩ = some (.slice a 0 c)) :
    Calls Tryd.prog 24 #[.iface 66 (.pointer (some ⟨ba, 0, none⟩)), putF bm] w fun e w' => (∃ u, e = .returned u) ∧ w' = w := by
  have h1 := asRule (.pointer (some ⟨ba, 0, none⟩))
  have h2 := asLiteral (.pointer (some ⟨ba, 0, none⟩))
  have h3 := asAtom (.pointer (some ⟨ba, 0, none⟩))
  unfold putF
  go_enter Tryd.func24, Tryd.ntmps24
  go_wp2
  clear h1 h2 h3
  go_loopw [81] (fun i wr => i = .int .i64 0 ∧ wr = w) (fun i _ => 0)
  case atStart => exact ⟨rfl, rfl⟩
  case round =>
    obtain ⟨rfl, rfl⟩ := hrel
    go_wp2
    go_end0
    exact ⟨⟨_, rfl⟩, rfl⟩
/-- the first k terms with what takes their places -/
def upTo (s : List P) (us : List T) (k : Nat) : List T := (us.take k).map (res s) ++ us.drop k
theorem upTo_len (s : List P) (us : List T) (k : Nat) : (upTo s us k).length = us.length := by
  unfold upTo
  rw [List.length_append, List.length_map, List.length_take, List.length_drop]
  omega
theorem upTo_at (s : List P) (us : List T) {k : Nat} (h : k < us.length) : atT (upTo s us k) k = atT us k := by
  rw [atT_eq (by rw [upTo_len]; exact h), atT_eq h]
  unfold upTo
  rw [List.getElem_append_right (by simp; omega)]
  simp [List.length_take, Nat.min_eq_left (Nat.le_of_lt h)]
theorem upTo_next (s : List P) (us : List T) {k : Nat} (h : k < us.length) : (upTo s us k).set k (res s (atT us k)) = upTo s us (k + 1) := by
  unfold upTo
  have e1 : us.take (k + 1) = us.take k ++ [us[k]] := by rw [List.take_add_one, List.getElem?_eq_getElem h]; rfl
  have e2 : us.drop k = us[k] :: us.drop (k + 1) := List.drop_eq_getElem_cons h
  have e3 : k - ((us.take k).map (res s)).length = 0 := by rw [List.length_map, List.length_take]; omega
  rw [e2, List.set_append_right _ _ (by rw [List.length_map, List.length_take]; omega), e3, List.set_cons_zero, e1, List.map_append, List.append_assoc, atT_eq h]
  rfl
theorem upTo_wf {s : List P} {us : List T} (hs : ∀ p ∈ s, p.wf) (hu : ∀ t ∈ us, t.wf) (k : Nat) : ∀ t ∈ upTo s us k, t.wf := fun t ht => by
  unfold upTo at ht
  rcases List.mem_append.1 ht with ht | ht
  · obtain ⟨x, hx, rfl⟩ := List.mem_map.1 ht
    rcases res_cases s x with ⟨e, _⟩ | ⟨p, hp, _, e⟩
    · rw [e]; exact hu x (List.mem_of_mem_take hx)
    · rw [e]; exact (hs p hp).term
  · exact hu t (List.mem_of_mem_drop ht)
set_option maxHeartbeats 3200000 in
set_option maxRecDepth 100000 in
theorem walk_places {B : Nat} {W : World} {g cap bm : Nat} {s : List P} {us : List T} {w : World} (h : Ast B W g cap bm s us w) (nd : (s.map P.v).Nodup) (hs : ∀ p ∈ s, p.wf) (hu : ∀ t ∈ us, t.wf) (h24 : us.length ≤ 24) (ba : Nat) (hba : ba < B) (hc : W.cell? ⟨ba, 1, none⟩ = some (.slice (some ⟨g, 0, none⟩) us.length cap)) :
    Calls Tryd.prog 24 #[.iface 66 (.pointer (some ⟨ba, 0, none⟩)), putF bm] w fun e w' => (∃ u, e = .returned u) ∧ Ast B W g cap bm s (us.map (res s)) w' := by
  have HH := Lib.hid h
  have HCC : Hid (∀ u, Below B W u → u.cell? ⟨ba, 1, none⟩ = some (.slice (some ⟨g, 0, none⟩) us.length cap)) := fun u hu => by rw [hu.cell (p := ⟨ba, 1, none⟩) hba]; exact hc
  have c0 := HCC.out w h.bel
  have HQ : Hid (∀ k wr, k < us.length → Ast B W g cap bm s (upTo s us k) wr → Calls Tryd.prog 26 #[.map (some bm), .pointer (some ⟨g, k * 4, none⟩)] wr fun e w' => (∃ u, e = .returned u) ∧ Ast B W g cap bm s (upTo s us (k + 1)) w') := fun k wr hk ha => by
    have := put_any ha nd (j := k) (by rw [upTo_len]; exact hk) (upTo_wf hs hu k)
    rw [upTo_at s us hk, upTo_next s us hk] at this
    exact this
  have h1 := asRule (.pointer (some ⟨ba, 0, none⟩))
  have h2 := asLiteral (.pointer (some ⟨ba, 0, none⟩))
  have h3 := asAtom (.pointer (some ⟨ba, 0, none⟩))
  clear h hc nd hs hu
  unfold putF
  go_enter Tryd.func24, Tryd.ntmps24
  go_wp2
  clear c0 h1 h2 h3
  go_loopw [81] (fun i wr => ∃ k : Nat, k ≤ us.length ∧ i = .int .i64 k ∧ Hid (Ast B W g cap bm s (upTo s us k) wr)) (fun i _ => us.length - (intOf i).toNat)
  case atStart => exact ⟨0, Nat.zero_le _, rfl, by show Ast _ _ _ _ _ _ _ _; unfold upTo; rw [List.take_zero, List.map_nil, List.nil_append, List.drop_zero]; exact HH.out⟩
  case round =>
    obtain ⟨k, hk, rfl, HA⟩ := hrel
    have c0 := HCC.out wr HA.out.bel
    clear HH
    by_cases hlt : k < us.length
    · have hlt' : (k : Int) < (us.length : Int) := by omega
      have hk0 : (0 : Int) ≤ (k : Int) := by omega
      have HP := Lib.hid (HQ.out k wr hlt HA.out)
      go_wp2_with fail
      refine Calls.mono HP.out ?_
      rintro e w2 ⟨⟨u, rfl⟩, ha2⟩
      have HA2 := Lib.hid ha2
      clear ha2 HP HA
      go_wp2
      go_roundw
      case rel => exact ⟨k + 1, by omega, by go_num, HA2⟩
      case measure => simp [intOf]; omega
    · obtain rfl : k = us.length := by omega
      have HE : Hid (upTo s us us.length = us.map (res s)) := by show _ = _; unfold upTo; rw [List.take_length, List.drop_length, List.append_nil]
      go_wp2
      go_end0
      exact ⟨⟨_, rfl⟩, by rw [← HE.out]; exact HA.out⟩
theorem walk_all {B : Nat} {cv : Value} {bm : Nat} {s : List P} {ts : List T} {w : World} (ho : w.ownsRow B 38 4 cv ts.length (ts.flatMap T.cells)) (hm : MapT w bm s) (lo : B ≤ bm) (ne : ∀ g, cv.ownBlock = some g → g ≠ bm) (hB : B ≤ w.heap.size) (nd : (s.map P.v).Nodup) (hs : ∀ p ∈ s, p.wf) (hu : ∀ t ∈ ts, t.wf) (h24 : ts.length ≤ 24) (ba : Nat) (hba : ba < B) (hc : w.cell? ⟨ba, 1, none⟩ = some cv) :
    Calls Tryd.prog 24 #[.iface 66 (.pointer (some ⟨ba, 0, none⟩)), putF bm] w fun e w' => (∃ u, e = .returned u) ∧ Below B w w' ∧ w'.ownsRow B 38 4 cv ts.length ((ts.map (res s)).flatMap T.cells) := by
  have ho' := ho
  rcases ho.2 with ⟨rfl, h0⟩ | ⟨g, cap, cur, rfl, _⟩
  · obtain rfl : ts = [] := List.length_eq_zero_iff.1 h0
    refine (walk_none ba bm none 0 w hc).mono ?_
    rintro e w' ⟨hu, rfl⟩
    exact ⟨hu, Below.refl _ _, ho⟩
  · have h : Ast B w g cap bm s ts w := ⟨Below.refl _ _, hB, ho', hm, lo, ne g rfl⟩
    refine (walk_places h nd hs hu h24 ba hba hc).mono ?_
    rintro e w' ⟨hu, ha⟩
    refine ⟨hu, ha.bel, ?_⟩
    have := ha.own
    rw [List.length_map] at this
    exact this
set_option maxHeartbeats 3200000 in
set_option maxRecDepth 100000 in
theorem apply_any (sv : Value) (s : List P) (pr : ByteArray) (v : Value) (ts : List T) (w : World) (hs : Lp w sv s) (h24s : s.length ≤ 24) (hsv : Sv s) (hl : Lt w v ts) (h24 : ts.length ≤ 24) :
    Calls Tryd.prog 8 #[sv, .agg #[.string pr, v]] w fun e w' => ∃ a c, e = .returned (.agg #[.string pr, .slice a ts.length c]) ∧ Lt w' (.slice a ts.length c) (ts.map (res s)) ∧ Below w.heap.size w w' := by
  obtain ⟨a0, c0, rfl, _, _, _⟩ := hl.form
  obtain ⟨a1, c1, rfl, _, _, _⟩ := hs.form
  have HB2 : Hid (Below w.heap.size w ((w.alloc (.cells #[.string pr, .slice a0 ts.length c0] 24)).alloc (.cells #[.string ⟨#[]⟩, .slice none 0 0] 24))) := ((Below.refl _ _).alloc (Nat.le_refl _) _).alloc (by simp) _
  have HR0 := Lib.hid ((rl_new w #[.string pr, .slice a0 ts.length c0] 24).below ((Below.refl _ _).alloc (Nat.le_refl _) (.cells #[.string ⟨#[]⟩, .slice none 0 0] 24)))
  have HR1 := Lib.hid (rl_new (w.alloc (.cells #[.string pr, .slice a0 ts.length c0] 24)) #[.string ⟨#[]⟩, .slice none 0 0] 24)
  have HZ : Hid (((w.alloc (.cells #[.string pr, .slice a0 ts.length c0] 24)).alloc (.cells #[.string ⟨#[]⟩, .slice none 0 0] 24)).heap.size = w.heap.size + 2) := by show _ = _; simp
  rw [show (w.alloc (.cells #[.string pr, .slice a0 ts.length c0] 24)).heap.size = w.heap.size + 1 by simp] at HR1
  have HS := Lib.hid hs
  have HL := Lib.hid hl
  have HSV := Lib.hid hsv
  clear hs hl hsv
  go_enter Tryd.func8, Tryd.ntmps8
  go_upto_region 1 with fail
  generalize (w.alloc (.cells #[.string pr, .slice a0 ts.length c0] 24)).alloc (.cells #[.string ⟨#[]⟩, .slice none 0 0] 24) = W at HB2 HR0 HR1 HZ ⊢
  have x1 := HR0.out.at (j := 1) rfl
  have HL2 := Lib.hid (HL.out.below HB2.out)
  go_wp2_with fail
  refine (clone_any _ ts _ HL2.out (by omega)).mono ?_
  rintro e w1 ⟨cv, rfl, ho, b1⟩
  rw [HZ.out] at ho
  have k0 := (HR0.out.below b1)
  have z1 : w.heap.size + 2 ≤ w1.heap.size := by rw [← HZ.out]; exact b1.size
  have f1 := World.rowIs.frozen k0 1
  have y1 := k0.at (j := 1) rfl
  have HK2 := Lib.hid (k0.set 1 cv)
  have HK3 := Lib.hid ((HR1.out.below b1).other (i := 1) (show w.heap.size + 1 ≠ w.heap.size by omega) cv)
  have ho2 : (w1.setCell ⟨w.heap.size, 1, none⟩ cv).ownsRow (w.heap.size + 2) 38 4 cv ts.length (ts.flatMap T.cells) := own_of_block ho (fun g hg => by
    have := (ho.lt g hg).1
    rw [heap_setCell_other _ _ _ _ (by show g ≠ w.heap.size; omega)])
  have HO2 := Lib.hid ho2
  have b2 : Below w.heap.size w (w1.setCell ⟨w.heap.size, 1, none⟩ cv) := (HB2.out.trans (b1.mono HB2.out.size)).setCell (p := ⟨w.heap.size, 1, none⟩) (Nat.le_refl _) _
  have HB3 := Lib.hid b2
  have Z2 : Hid (w.heap.size + 2 ≤ (w1.setCell ⟨w.heap.size, 1, none⟩ cv).heap.size) := by show _ ≤ _; simp; exact z1
  obtain ⟨ca, cc, rfl, _⟩ := own_form ho
  clear ho ho2 b2 b1 k0 HR0 HR1 HB2 HL2 x1
  go_upto_region 2 with fail
  generalize w1.setCell ⟨w.heap.size, 1, none⟩ (.slice ca ts.length cc) = W2 at HK2 HK3 HO2 HB3 Z2 ⊢
  clear y1 f1 z1
  go_wp2_with fail
  refine (placesOf_any _ s _ (HS.out.below HB3.out) (by omega) HSV.out).mono ?_
  rintro e w3 ⟨rfl, hm, b3⟩
  have HK4 := Lib.hid (HK2.out.below b3)
  have HK5 := Lib.hid (HK3.out.below b3)
  have HW := Lib.hid (walk_all (own_below HO2.out b3) hm Z2.out (fun g hg => Nat.ne_of_lt (HO2.out.lt g hg).2) (Nat.le_trans Z2.out b3.size) HSV.out.nd HS.out.wf HL.out.wf h24 w.heap.size (by omega) (HK4.out.at (j := 1) rfl))
  have HB4 := Lib.hid (HB3.out.trans (b3.mono HB3.out.size))
  clear HK2 HK3 HO2 HB3 hm b3
  unfold putF at HW
  have hmf : ∀ (fn : Fn) (first cap : Array Value) (w : World), (Instr.makeFunc fn first cap).run Tryd.prog w = .ok (.func fn first cap) w := fun _ _ _ _ => rfl
  go_wp2_with fail
  refine HW.out.mono ?_
  rintro e w4 ⟨⟨u, rfl⟩, b4, ho4⟩
  have k4 : RL w4 w.heap.size 24 [.string pr, .slice ca ts.length cc] := World.rowIs.of_block HK4.out (b4.block _ (by omega))
  have k5 : RL w4 (w.heap.size + 1) 24 [.string ⟨#[]⟩, .slice none 0 0] := World.rowIs.of_block HK5.out (b4.block _ (by omega))
  have y0 := k4.at (j := 0) rfl
  have y1 := k4.at (j := 1) rfl
  have v0 := k5.at (j := 0) rfl
  have v1 := k5.at (j := 1) rfl
  have g0 := World.rowIs.frozen k5 0
  have g1 := World.rowIs.frozen k5 1
  have HK5' := Lib.hid k5
  have HO4 := Lib.hid ho4
  have HB5 := Lib.hid (HB4.out.trans (b4.mono (by omega)))
  have HWf : Hid (∀ t ∈ ts.map (res s), t.wf) := fun t ht => by
    obtain ⟨x, hx, rfl⟩ := List.mem_map.1 ht
    rcases res_cases s x with ⟨e, _⟩ | ⟨p, hp, _, e⟩
    · rw [e]; exact HL.out.wf x hx
    · rw [e]; exact (HS.out.wf p hp).term
  clear HW HK4 HK5 HB4 ho4 b4 k4 k5 hmf
  go_wp2
  have hfin := ((HK5'.out.set 0 (.string pr)).set 1 (.slice ca ts.length cc))
  refine bodyPost_ret (rl_results Tryd.results8 (v := .agg #[.string pr, .slice ca ts.length cc]) rfl (run_loadVar_mid _ _ 0 24 [.string pr, .slice ca ts.length cc] _ (RL.range hfin) Tryd.underlying24 rfl (by kernel_rfl))) rfl ⟨ca, cc, rfl, ⟨?_, HWf.out⟩, ?_⟩
  · have hown := HO4.out
    have ho2 : (((w4.setCell ⟨w.heap.size + 1, 0, none⟩ (.string pr)).setCell ⟨w.heap.size + 1, 1, none⟩ (.slice ca ts.length cc))).ownsRow (w.heap.size + 2) 38 4 (.slice ca ts.length cc) ts.length ((ts.map (res s)).flatMap T.cells) := own_of_block hown (fun g hg => by
      have := (hown.lt g hg).1
      rw [heap_setCell_other _ _ _ _ (by show g ≠ w.heap.size + 1; omega), heap_setCell_other _ _ _ _ (by show g ≠ w.heap.size + 1; omega)])
    show Ls _ _ (ts.map (res s)).length _
    rw [List.length_map]
    exact ls_own ho2
  · exact (HB5.out.setCell (p := ⟨w.heap.size + 1, 0, none⟩) (by simp) _).setCell (p := ⟨w.heap.size + 1, 1, none⟩) (by simp) _
end Go.Proofs.YtnpmhgjbfkgmdaaDoor
