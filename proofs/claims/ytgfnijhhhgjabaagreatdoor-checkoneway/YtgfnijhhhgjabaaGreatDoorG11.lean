import Derived.Test.YtgfnijhhhgjabaaGreatDoorTreeWalkQ
import Derived.Test.YtgfnijhhhgjabaaGreatDoorG20
import Derived.Test.YtgfnijhhhgjabaaGreatDoorG9
import Derived.Test.YtgfnijhhhgjabaaGreatDoorG42
import Derived.Test.YtgfnijhhhgjabaaGreatDoorG10
section
namespace Go.Proofs.YtgfnijhhhgjabaaGreatDoor
open Go.RowKit Go.Maps
set_option linter.unusedVariables false
set_option linter.unusedSimpArgs false
attribute [local go_sem ↓] Go.wp_at_zero Go.wp_at_succ

theorem allS_take {f : ByteArray → Bool} {l : List ByteArray} {k : Nat} (h : k < l.length) : (l.take (k + 1)).all f = ((l.take k).all f && f (atS l k)) := by
  have e : l.take (k + 1) = l.take k ++ [l[k]] := by rw [List.take_add_one, List.getElem?_eq_getElem h]; rfl
  rw [e, List.all_append, atS_eq h]
  simp
theorem allS_not {f : ByteArray → Bool} {l : List ByteArray} {k : Nat} (h : k < l.length) (hn : f (atS l k) = false) : l.all f = false := by
  rw [← Bool.not_eq_true]
  intro ha
  rw [List.all_eq_true] at ha
  rw [atS_eq h] at hn
  rw [ha _ (List.getElem_mem h)] at hn
  cases hn
/-- what Lone answers -/
def loneV (o : Option ByteArray) : Value := match o with
  | some v => .tuple #[.string v, .bool true]
  | none => .tuple #[.string ⟨#[]⟩, .bool false]
theorem sd_leaf {d : Nat} {e : E} (h0 : e.op = 0) (h1 : e.kids.length = 0) (h2 : ¬ (e.t.v = noS ∨ e.t.v = blankS)) : (sdE (d + 1) e).lone = some e.t.v := by
  unfold sdE
  simp only
  rw [if_pos ⟨h0, h1⟩, vsT_leaf h1, if_neg h2]
  rfl
theorem sd_none {d : Nat} {e : E} (h : ¬ (e.op = 0 ∧ e.kids.length = 0) ∨ (e.t.v = noS ∨ e.t.v = blankS)) : (sdE (d + 1) e).lone = none := by
  unfold sdE
  simp only
  by_cases hc : e.op = 0 ∧ e.kids.length = 0
  · rw [if_pos hc, vsT_leaf hc.2, if_pos (h.resolve_left (fun k => k hc))]
    rfl
  · rw [if_neg hc]
set_option maxHeartbeats 1600000 in
theorem rlone_any (d : Nat) (e : E) (a : Option Addr) (c : Nat) (w : World) (hE : EIs w (d + 1) e a c) :
    Calls Tryz.prog 23 #[e.val a c] w fun r w' => r = .returned (loneV (sdE (d + 1) e).lone) ∧ Below w.heap.size w w' := by
  have BA := (Below.refl w.heap.size w).alloc (Nat.le_refl _) (.cells #[.int .i8 e.op, .string e.t.v, .int .i8 e.t.a.k, .int .i64 e.t.a.n, .string e.t.a.s, .slice a e.kids.length c] 53)
  have hkl := hE.1.2
  obtain ⟨V, hV⟩ : ∃ V, loneV (sdE (d + 1) e).lone = V := ⟨_, rfl⟩
  rw [hV]
  have HV := Lib.hid hV
  clear hE hV
  unfold E.val
  by_cases h0 : e.op = 0
  · have e0 : (e.op != 0) = false := by rw [h0]; rfl
    by_cases h1 : e.kids.length = 0
    · have e1 : ((e.kids.length : Int) != 0) = false := by rw [h1]; rfl
      by_cases h2 : e.t.v = noS
      · have e2 : e.t.v.toList.isEmpty = true := by rw [h2, ByteArray.toList_eq]; rfl
        have HN : Hid (V = .tuple #[.string ⟨#[]⟩, .bool false]) := by show V = _; rw [← HV.out, sd_none (.inr (.inl h2))]; rfl
        clear h0 h1 h2
        go_enter Tryz.func23, Tryz.ntmps23
        go_wp2
        go_ret2
        exact ⟨by rw [HN.out]; rfl, BA⟩
      · have e2 : e.t.v.toList.isEmpty = false := some_iff _ h2
        by_cases h3 : e.t.v = blankS
        · have e3 : (e.t.v.toList == [95]) = true := by rw [h3, ByteArray.toList_eq]; rfl
          have HN : Hid (V = .tuple #[.string ⟨#[]⟩, .bool false]) := by show V = _; rw [← HV.out, sd_none (.inr (.inr h3))]; rfl
          clear h0 h1 h2 h3
          go_enter Tryz.func23, Tryz.ntmps23
          go_wp2
          go_ret2
          exact ⟨by rw [HN.out]; rfl, BA⟩
        · have e3 : (e.t.v.toList == [95]) = false := by
            rw [beq_eq_false_iff_ne]
            exact fun k => h3 (toList_inj (k.trans (by rw [ByteArray.toList_eq]; rfl)))
          have HN : Hid (V = .tuple #[.string e.t.v, .bool true]) := by show V = _; rw [← HV.out, sd_leaf h0 h1 (by rintro (k | k); exact h2 k; exact h3 k)]; rfl
          clear h0 h1 h2 h3
          go_enter Tryz.func23, Tryz.ntmps23
          go_wp2
          go_ret2
          exact ⟨by rw [HN.out]; rfl, BA⟩
    · have e1 : ((e.kids.length : Int) != 0) = true := by rw [bne_iff_ne]; omega
      have HN : Hid (V = .tuple #[.string ⟨#[]⟩, .bool false]) := by show V = _; rw [← HV.out, sd_none (.inl (fun k => h1 k.2))]; rfl
      clear h0 h1
      go_enter Tryz.func23, Tryz.ntmps23
      go_wp2
      go_ret2
      exact ⟨by rw [HN.out]; rfl, BA⟩
  · have e0 : (e.op != 0) = true := by rw [bne_iff_ne]; exact h0
    have HN : Hid (V = .tuple #[.string ⟨#[]⟩, .bool false]) := by show V = _; rw [← HV.out, sd_none (.inl (fun k => h0 k.1))]; rfl
    clear h0
    go_enter Tryz.func23, Tryz.ntmps23
    go_wp2
    go_ret2
    exact ⟨by rw [HN.out]; rfl, BA⟩
end Go.Proofs.YtgfnijhhhgjabaaGreatDoor
end
section
namespace Go.Proofs.YtgfnijhhhgjabaaGreatDoor
open Go.RowKit Go.Maps
set_option linter.unusedVariables false
set_option linter.unusedSimpArgs false
attribute [local go_sem ↓] Go.wp_at_zero Go.wp_at_succ

theorem belowA {w : World} (o : Obj) : Below w.heap.size w (w.alloc o) := (Below.refl _ _).alloc (Nat.le_refl _) _
end Go.Proofs.YtgfnijhhhgjabaaGreatDoor
end
section
namespace Go.Proofs.YtgfnijhhhgjabaaGreatDoor
open Go.RowKit Go.Maps
set_option linter.unusedVariables false
set_option linter.unusedSimpArgs false
attribute [local go_sem ↓] Go.wp_at_zero Go.wp_at_succ

/-- the variables of a literal, if it is a claim -/
def avX (y : XL) : List ByteArray := if y.x.k = 1 then vsT [] y.x.ts else []
/-- the variables of a body's claims -/
def avL (l : List XL) : List ByteArray := l.flatMap avX
/-- a body's equations -/
def eqX (d : Nat) (y : XL) : List Qn := if y.x.k = 3 ∧ y.x.rel = 1 then [(sdE d y.x.l, sdE d y.x.r)] else []
def eqL (d : Nat) (l : List XL) : List Qn := l.flatMap (eqX d)
/-- what a body's claims find -/
def atN (l : List XL) : List ByteArray := (avL l).foldl addN []
theorem takeXL {l : List XL} {k : Nat} (h : k < l.length) : l.take (k + 1) = l.take k ++ [atL l k] := by rw [List.take_add_one, List.getElem?_eq_getElem h, atL_eq h]; rfl
theorem atN_take {l : List XL} {k : Nat} (h : k < l.length) : atN (l.take (k + 1)) = (avX (atL l k)).foldl addN (atN (l.take k)) := by
  unfold atN avL
  rw [takeXL h, List.flatMap_append, List.foldl_append]
  simp
theorem takeS {l : List ByteArray} {k : Nat} (h : k < l.length) : l.take (k + 1) = l.take k ++ [atS l k] := by rw [List.take_add_one, List.getElem?_eq_getElem h, atS_eq h]; rfl
theorem foldN_take {l : List ByteArray} {k : Nat} (out : List ByteArray) (h : k < l.length) : (l.take (k + 1)).foldl addN out = addN ((l.take k).foldl addN out) (atS l k) := by
  rw [takeS h, List.foldl_append]
  rfl
theorem foldN_len : ∀ (l out : List ByteArray), (l.foldl addN out).length ≤ out.length + l.length
  | [], out => by simp
  | n :: l, out => by
    have := foldN_len l (addN out n)
    have h2 : (addN out n).length ≤ out.length + 1 := by unfold addN; split <;> simp
    simp only [List.foldl_cons, List.length_cons]
    omega
theorem infoStrL : (Tryz.prog.info? 9).map (fun i => (i.zero, i.size, i.bytes)) = some (some (.string ⟨#[]⟩), 1, 16) := by kernel_rfl
set_option maxHeartbeats 3200000 in
set_option maxRecDepth 100000 in
theorem ratoms_any (d : Nat) (v : Value) (l : List XL) (w : World) (hL : Lb w v d l) (hts : ∀ i, i < l.length → (atL l i).x.ts.length ≤ 1048576) (hn : (avL l).length ≤ 1048576) (hll : l.length ≤ 1048576) :
    Calls Tryz.prog 21 #[v] w fun e w' => ∃ sv, e = .returned sv ∧ w'.ownsRow w.heap.size 9 1 sv (atN l).length ((atN l).flatMap strB) ∧ Below w.heap.size w w' := by
  obtain ⟨i0, hi0, hz0, hz1, hz2⟩ := info_parts infoStrL
  have HIS : Hid (∀ i, i < l.length → ∀ u, Below w.heap.size w u → LIs u d (atL l i).x (atL l i).p) := fun i hi u hu => (hL.at_is hi).below hu
  obtain ⟨a, c, rfl, hc1, hc2, hat⟩ := hL.form
  have HAT := Lib.hid hat
  have HTS := Lib.hid hts
  have HNB : Hid (∀ k, k ≤ l.length → (avL (l.take k)).length ≤ 1048576) := fun k hk => by
    have e : l = l.take k ++ l.drop k := (List.take_append_drop k l).symm
    have h2 : (avL l).length = (avL (l.take k)).length + (avL (l.drop k)).length := by
      unfold avL
      rw [← List.length_append, ← List.flatMap_append, List.take_append_drop]
    omega
  clear hat hL hts hc2
  go_enter Tryz.func21, Tryz.ntmps21
  go_wp2
  go_loopw [3, 4] (fun v i wr => ∃ (k : Nat) (a' : Option Addr) (c' : Nat) (fs : List ByteArray), k ≤ l.length ∧ i = .int .i64 k ∧ v = .slice a' fs.length c' ∧ Hid (fs = atN (l.take k)) ∧ Hid (wr.ownsRow w.heap.size 9 1 (.slice a' fs.length c') fs.length (fs.flatMap strB)) ∧ Hid (Below w.heap.size w wr)) (fun _ i _ => l.length - (intOf i).toNat)
  case atStart => exact ⟨0, none, 0, [], Nat.zero_le _, rfl, rfl, rfl, World.ownsRow_nil _ _ _ _, Below.refl _ _⟩
  case round =>
    obtain ⟨k, a', c', fs, hk, rfl, rfl, HF, HO, HB⟩ := hrel
    by_cases hlt : k < l.length
    · have hlt' : (k : Int) < (l.length : Int) := by omega
      have hk0 : (0 : Int) ≤ (k : Int) := by omega
      obtain ⟨g, off, rfl, hg, hT⟩ := HAT.out (by omega)
      have ry := range_below (hT k hlt) HB.out hg
      have HNX := Lib.hid (atN_take hlt)
      obtain ⟨x, p, hxp⟩ : ∃ x p, atL l k = ⟨x, p⟩ := ⟨_, _, rfl⟩
      have y0 : wr.cell? ⟨g, off + k * 16, none⟩ = some (.int .i8 x.k) := by have := ry 0 _ rfl; rw [hxp] at this; exact this
      have y1 : wr.cell? ⟨g, off + k * 16 + 1, none⟩ = some (.string x.pr) := by have := ry 1 _ rfl; rw [hxp] at this; exact this
      have y2 : wr.cell? ⟨g, off + k * 16 + 2, none⟩ = some (.slice p.a x.ts.length p.c) := by have := ry 2 _ rfl; rw [hxp] at this; exact this
      have HLT := Lib.hid ((HIS.out k hlt wr HB.out).ts)
      have hts0 : (atL l k).x.ts.length ≤ 1048576 := HTS.out k hlt
      have HNB1 := Lib.hid (HNB.out (k + 1) hlt)
      rw [hxp] at HLT hts0 HNX
      clear hT ry hxp
      by_cases hk1 : x.k = 1
      · have e1 : (x.k != 1) = false := by rw [hk1]; rfl
        have HAV : Hid (avX ⟨x, p⟩ = vsT [] x.ts) := by show _ = _; unfold avX; rw [if_pos hk1]
        have HAX := Lib.hid (atomVars_any x.pr (.slice p.a x.ts.length p.c) x.ts wr (by simp only at hts0; omega) HLT.out)
        rw [HAV.out] at HNX
        have HNL : Hid ((vsT [] x.ts).length ≤ 1048576) := by
          show _ ≤ _
          have := vsT_len x.ts []
          simp only [List.length_nil] at this hts0
          omega
        have HFL : Hid (fs.length ≤ 1048576) := by
          show _ ≤ _
          rw [HF.out]
          have := foldN_len (avL (l.take k)) []
          have := HNB.out k (by omega)
          unfold atN
          simp only [List.length_nil] at *
          omega
        generalize vsT [] x.ts = ns at HAX HNX HNL
        have HFE := Lib.hid HF.out
        clear hk1 HAV HLT hts0
        go_wp2_with fail
        refine HAX.out.mono ?_
        rintro e w2 ⟨sv2, rfl, hown2, b2⟩
        have HLN := Lib.hid (ls_own hown2)
        have HOB : Hid (∀ g, sv2.ownBlock = some g → wr.heap.size ≤ g ∧ g < w2.heap.size) := fun g hg => hown2.lt g hg
        obtain ⟨a2, c2, rfl, hnl0, hnl1, hnt⟩ := ls_str (ls_own hown2)
        have HO2 := Lib.hid (own_below HO.out b2)
        have HOL : Hid (∀ g, (Value.slice a' fs.length c').ownBlock = some g → g < wr.heap.size ∨ w2.heap.size ≤ g) := fun g hg => .inl (HO.out.lt g hg).2
        have HB2 := Lib.hid (HB.out.trans (b2.mono HB.out.size))
        have HNT := Lib.hid hnt
        have HNG : Hid (0 < ns.length → ∃ g off, a2 = some ⟨g, off, none⟩ ∧ wr.heap.size ≤ g ∧ g < w2.heap.size ∧ ∀ i, i < ns.length → w2.cell? ⟨g, off + i, none⟩ = some (.string (atS ns i))) := fun h0 => by
          obtain ⟨g, off, ha, hg, hc⟩ := HNT.out h0
          subst ha
          have hob : (Value.slice (some ⟨g, off, none⟩) ns.length c2).ownBlock = some g := by
            have h1 := hown2
            obtain ⟨_, ⟨h2, _⟩ | ⟨g2, cap, cur, h2, _⟩⟩ := h1
            · cases h2
            · injection h2 with h2 _ _
              injection h2 with h2
              injection h2 with h2 _ _
              subst h2
              rfl
          exact ⟨g, off, rfl, (HOB.out g hob).1, hg, hc⟩
        clear hnt hnl0 hnl1 hown2 b2 HAX HO HNT HOB HLN y0 y1 y2
        go_wp2
        go_loopw [3, 6] (fun v i wq => ∃ (j : Nat) (a' : Option Addr) (c' : Nat) (gs : List ByteArray), j ≤ ns.length ∧ i = .int .i64 j ∧ v = .slice a' gs.length c' ∧ Hid (gs = (ns.take j).foldl addN fs) ∧ Hid (wq.ownsRow w.heap.size 9 1 (.slice a' gs.length c') gs.length (gs.flatMap strB)) ∧ Hid (Below w.heap.size w wq) ∧ Hid (∀ g, (Value.slice a' gs.length c').ownBlock = some g → g < wr.heap.size ∨ w2.heap.size ≤ g) ∧ Hid (w2.heap.size ≤ wq.heap.size ∧ ∀ b, wr.heap.size ≤ b → b < w2.heap.size → wq.heap[b]? = w2.heap[b]?)) (fun _ i _ => ns.length - (intOf i).toNat)
        case atStart => exact ⟨0, a', c', fs, Nat.zero_le _, rfl, rfl, rfl, HO2, HB2, HOL, ⟨Nat.le_refl _, fun _ _ _ => rfl⟩⟩
        case round =>
          clear HO2 HB2 HOL HF HB
          obtain ⟨W, rfl⟩ : ∃ W, W = wr := ⟨_, rfl⟩
          obtain ⟨j, a5, c5, gs, hj, rfl, rfl, HGS, HO, HB, HOL, HK⟩ := hrel
          by_cases hjl : j < ns.length
          · have hjl' : (j : Int) < (ns.length : Int) := by omega
            have hj0 : (0 : Int) ≤ (j : Int) := by omega
            obtain ⟨g2, off2, rfl, hgl, hgu, hcs⟩ := HNG.out (by omega)
            have x0 : W.cell? ⟨g2, off2 + j, none⟩ = some (.string (atS ns j)) := by rw [World.cell?_of_block (w := w2) (HK.out.2 g2 hgl hgu)]; exact hcs j hjl
            have HIN := Lib.hid (in_any (atS ns j) _ gs W (ls_own HO.out))
            have HFT := Lib.hid (foldN_take fs hjl)
            rw [← HGS.out] at HFT
            have HGL : Hid (gs.length ≤ 2097152) := by
              show _ ≤ _
              rw [HGS.out]
              have h1 := foldN_len (ns.take j) fs
              have h2 : (ns.take j).length ≤ ns.length := by rw [List.length_take]; omega
              have := HNL.out
              have := HFL.out
              omega
            have hgl2 := HGL.out
            have hnb : ns.length ≤ 1048576 := HNL.out
            generalize atS ns j = nm at x0 HIN HFT
            clear hcs
            cases hq : inB gs nm
            · have HADD : Hid ((ns.take (j + 1)).foldl addN fs = gs ++ [nm]) := by show _ = _; rw [HFT.out]; unfold addN; rw [hq]; rfl
              rw [hq] at HIN
              clear hq HFT HGS
              go_wp2_with fail
              refine HIN.out.mono ?_
              rintro ee w3 ⟨rfl, rfl⟩
              have hzz : w.heap.size ≤ w3.heap.size := HB.out.size
              go_wp2_with (at_builtin; refine wpList_append_own_at _ rfl _ _ 33 rfl w.heap.size 9 i0 _ 1 16 Tryz.underlying33 hi0 hz0 hz1 hz2 rfl (by decide) _ _ _ rfl (own_below HO.out ((Below.refl _ _).alloc (Nat.le_refl _) _)) ⟨_, 0, none⟩ 1 1 [.string nm] rfl rfl (lit_news _ #[.string nm] _) (by simp [Value.oneCell']) (by unfold maxLen; omega) (by omega) (by simp; omega) ?_; intro v' w4 hown' hgrow hnil hloc)
              obtain ⟨a6, c6, rfl, _⟩ := own_form hown'
              have HB4 : Hid (Below w.heap.size w w4) := (HB.out.alloc HB.out.size _).grown hgrow (by simp; omega) (fun j hj => (HO.out.lt j hj).1)
              have HO4 : Hid (w4.ownsRow w.heap.size 9 1 (.slice a6 (gs ++ [nm]).length c6) (gs ++ [nm]).length ((gs ++ [nm]).flatMap strB)) := by
                show World.ownsRow _ _ _ _ _ _ _
                rw [List.length_append, List.flatMap_append]
                exact hown'
              have HOL4 : Hid (∀ g, (Value.slice a6 (gs ++ [nm]).length c6).ownBlock = some g → g < wr.heap.size ∨ w2.heap.size ≤ g) := fun g hg => by
                rw [List.length_append] at hg
                rcases hloc with e | e
                · exact HOL.out g (Eq.trans (Eq.symm e) hg)
                · have h1 := hg.symm.trans e
                  simp only [Option.some.injEq, World.size_alloc] at h1
                  have := HK.out.1
                  right
                  omega
              have HK4 : Hid (w2.heap.size ≤ w4.heap.size ∧ ∀ b, wr.heap.size ≤ b → b < w2.heap.size → w4.heap[b]? = w2.heap[b]?) := by
                refine ⟨?_, fun b b1 b2 => ?_⟩
                · have h1 := hgrow.size
                  have h2 := HK.out.1
                  simp only [World.size_alloc] at h1
                  omega
                · have h2 := HK.out.1
                  rw [hgrow.block b (by simp only [World.size_alloc]; omega) (fun e => by rcases HOL.out b e.symm with k | k <;> omega), (belowA (w := w3) _).block b (by omega)]
                  exact HK.out.2 b b1 b2
              clear hown' hgrow hnil hloc
              go_wp2
              go_roundw
              case rel => exact ⟨j + 1, a6, c6, gs ++ [nm], by omega, by go_num, by first | rfl | simp, HADD.out.symm, HO4, HB4, HOL4, HK4⟩
              case measure => simp [intOf]; omega
            · have HADD : Hid ((ns.take (j + 1)).foldl addN fs = gs) := by show _ = _; rw [HFT.out]; unfold addN; rw [hq]; rfl
              rw [hq] at HIN
              clear hq HFT HGS
              go_wp2_with fail
              refine HIN.out.mono ?_
              rintro ee w3 ⟨rfl, rfl⟩
              go_wp2
              go_roundw
              case rel => exact ⟨j + 1, a5, c5, gs, by omega, by go_num, rfl, HADD.out.symm, HO, HB, HOL, HK⟩
              case measure => simp [intOf]; omega
          · obtain rfl : j = ns.length := by omega
            have HNF : Hid (gs = atN (l.take (k + 1))) := by show gs = _; rw [HNX.out, HGS.out, List.take_length, ← HFE.out]
            go_wp2
            go_roundw
            case rel => exact ⟨k + 1, a5, c5, gs, by omega, by go_num, rfl, HNF, HO, HB⟩
            case measure => simp [intOf]; omega
      · have e1 : (x.k != 1) = true := by rw [bne_iff_ne]; exact hk1
        have HNF : Hid (fs = atN (l.take (k + 1))) := by show fs = _; rw [HNX.out, HF.out]; unfold avX; rw [if_neg hk1]; rfl
        clear hk1 HF
        go_wp2
        go_roundw
        case rel => exact ⟨k + 1, a', c', fs, by omega, by go_num, rfl, HNF, HO, HB⟩
        case measure => simp [intOf]; omega
    · obtain rfl : k = l.length := by omega
      have HE : Hid (fs = atN l) := by show fs = _; rw [HF.out, List.take_length]
      go_wp2
      go_ret
      exact ⟨_, rfl, by rw [← HE.out]; exact HO.out, HB.out⟩
end Go.Proofs.YtgfnijhhhgjabaaGreatDoor
end
