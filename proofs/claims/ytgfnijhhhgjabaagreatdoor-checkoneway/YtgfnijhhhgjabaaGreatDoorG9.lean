import Derived.Test.YtgfnijhhhgjabaaGreatDoorTreeBeyondSQ
import Derived.Test.YtgfnijhhhgjabaaGreatDoorG7
import Derived.Lib.SmallJoins
import Derived.Test.YtgfnijhhhgjabaaGreatDoorG20
section
namespace Go.Proofs.YtgfnijhhhgjabaaGreatDoor
open Go.RowKit Go.Maps
set_option linter.unusedVariables false
set_option linter.unusedSimpArgs false
attribute [local go_sem ↓] Go.wp_at_zero Go.wp_at_succ

/-- how deep an expression is -/
def depthD : Nat → E → Nat
  | 0, _ => 0
  | d + 1, e => (e.kids.map (depthD d)).foldl max 0 + 1
theorem foldl_max_ge : ∀ (l : List Nat) (m : Nat), m ≤ l.foldl max m
  | [], m => Nat.le_refl _
  | x :: l, m => Nat.le_trans (Nat.le_max_left m x) (foldl_max_ge l (max m x))
theorem foldl_max_le : ∀ (l : List Nat) (m b : Nat), m ≤ b → (∀ x ∈ l, x ≤ b) → l.foldl max m ≤ b
  | [], m, b, h, _ => h
  | x :: l, m, b, h, hl => foldl_max_le l (max m x) b (Nat.max_le.2 ⟨h, hl x List.mem_cons_self⟩) (fun y hy => hl y (List.mem_cons_of_mem _ hy))
theorem mem_flat_len (d : Nat) {l : List E} {e : E} (h : e ∈ l) : (termsD d e).length ≤ (l.flatMap (termsD d)).length := by
  induction l with
  | nil => cases h
  | cons x l ih =>
    rw [List.flatMap_cons, List.length_append]
    rcases List.mem_cons.1 h with rfl | h
    · omega
    · have := ih h; omega
theorem depth_le : ∀ (d : Nat) (e : E), depthD d e ≤ szD d e
  | 0, _ => Nat.le_refl _
  | d + 1, e => by
    unfold szD
    rw [termsD_succ, List.length_cons, depthD]
    have : (e.kids.map (depthD d)).foldl max 0 ≤ (e.kids.flatMap (termsD d)).length := by
      refine foldl_max_le _ _ _ (Nat.zero_le _) (fun x hx => ?_)
      obtain ⟨k, hk, rfl⟩ := List.mem_map.1 hx
      exact Nat.le_trans (depth_le d k) (mem_flat_len d hk)
    omega
theorem max_take {l : List Nat} {k : Nat} (h : k < l.length) : (l.take (k + 1)).foldl max 0 = max ((l.take k).foldl max 0) l[k] := by
  rw [List.take_succ_eq_append_getElem h, List.foldl_append]
  rfl
end Go.Proofs.YtgfnijhhhgjabaaGreatDoor
end
section
namespace Go.Proofs.YtgfnijhhhgjabaaGreatDoor
open Go.RowKit Go.Maps
set_option linter.unusedVariables false
set_option linter.unusedSimpArgs false
attribute [local go_sem ↓] Go.wp_at_zero Go.wp_at_succ

theorem termsD_wf {w : World} : ∀ (d : Nat) (e : E) (a : Option Addr) (c : Nat), EIs w d e a c → ∀ t ∈ termsD d e, t.wf
  | 0, e, a, c, h, t, ht => absurd h (fun h => h)
  | d + 1, e, a, c, h, t, ht => by
    obtain ⟨_, htw, _, _, hk⟩ := h
    rw [termsD_succ] at ht
    rcases List.mem_cons.1 ht with rfl | ht
    · exact htw
    · obtain ⟨x, hx, htx⟩ := List.mem_flatMap.1 ht
      obtain ⟨i, hi, rfl⟩ := List.getElem_of_mem hx
      obtain ⟨g, off, _, _, hKS⟩ := hk (by omega)
      obtain ⟨a', c', _, he⟩ := hKS i hi
      rw [atE_eq hi] at he
      exact termsD_wf d _ a' c' he t htx
theorem infoTm : (Tryz.prog.info? 44).map (fun i => (i.zero, i.size, i.bytes)) = some (some (.agg #[.string ⟨#[]⟩, .int .i8 0, .int .i64 0, .string ⟨#[]⟩]), 4, 48) := by kernel_rfl
/-- a list of one's own that a call was handed and may have put elsewhere -/
structure Grew (w : World) (sv : Value) (w' : World) (sv' : Value) : Prop where
  gr : w.grownBy w' sv.ownBlock
  loc : sv'.ownBlock = sv.ownBlock ∨ ∃ b, sv'.ownBlock = some b ∧ w.heap.size ≤ b
theorem Grew.trans {w w1 w2 : World} {sv sv1 sv2 : Value} (h : Grew w sv w1 sv1) (h2 : Grew w1 sv1 w2 sv2) : Grew w sv w2 sv2 := by
  refine ⟨⟨h2.gr.os.trans h.gr.os, h2.gr.tape.trans h.gr.tape, h2.gr.output.trans h.gr.output, Nat.le_trans h.gr.size h2.gr.size, fun k hk hn => ?_⟩, ?_⟩
  · rw [h2.gr.block k (Nat.lt_of_lt_of_le hk h.gr.size) (fun e => ?_), h.gr.block k hk hn]
    rcases h.loc with l | ⟨b, l, hb⟩
    · exact hn (e.trans l)
    · rw [l] at e
      have := Option.some.inj e
      omega
  · rcases h2.loc with l2 | ⟨b, l2, hb⟩
    · rcases h.loc with l | ⟨b, l, hb⟩
      · exact .inl (l2.trans l)
      · exact .inr ⟨b, l2.trans l, hb⟩
    · exact .inr ⟨b, l2, Nat.le_trans h.gr.size hb⟩
set_option maxHeartbeats 3200000 in
theorem exprTerms_any {w0 : World} : ∀ (d : Nat) (e : E) (a : Option Addr) (c : Nat) (sv : Value) (ls : List T) (w : World), EIs w0 d e a c → Below w0.heap.size w0 w → w0.heap.size ≤ w.heap.size → w.ownsRow w0.heap.size 44 4 sv ls.length (ls.flatMap T.cells) → ls.length + szD d e ≤ 1000000000000 →
    Calls Tryz.prog 82 #[sv, e.val a c] w fun r w' => ∃ sv', r = .returned sv' ∧ w'.ownsRow w0.heap.size 44 4 sv' (ls ++ termsD d e).length ((ls ++ termsD d e).flatMap T.cells) ∧ Grew w sv w' sv' := by
  intro d
  induction d with
  | zero => intro e a c sv ls w hE; exact absurd hE (fun h => h)
  | succ d ih =>
  intro e a c sv ls w hE hbw hzw hown hs
  obtain ⟨i0, hi0, hz0, hz1, hz2⟩ := info_parts infoTm
  obtain ⟨⟨hop, hkl⟩, htw, hc1, hc2, hk⟩ := hE
  have HK : Hid _ := hk
  have HIH : Hid _ := ih
  obtain ⟨ao, co, rfl, hlo⟩ := own_form hown
  have HLT : Hid (∀ g, (Value.slice ao ls.length co).ownBlock = some g → w0.heap.size ≤ g ∧ g < w.heap.size) := fun g hg => hown.lt g hg
  have hs2 : ls.length + 1 + (e.kids.flatMap (termsD d)).length ≤ 1000000000000 := by
    unfold szD at hs
    rw [termsD_succ, List.length_cons] at hs
    omega
  have HS2 : Hid _ := hs2
  have hl1 : ls.length ≤ 1000000000000 := by omega
  have HBW : Hid _ := hbw
  have HOWN : Hid _ := hown
  obtain ⟨r, HR⟩ : ∃ r, Hid (ls ++ termsD (d + 1) e = r) := ⟨_, rfl⟩
  rw [HR.out]
  clear hk ih hop htw hs hs2 hown hbw
  unfold E.val
  go_enter Tryz.func82, Tryz.ntmps82
  go_upto_region 1 with fail
  have HG0 : Hid (Grew w (.slice ao ls.length co) (w.alloc (.cells #[.int .i8 e.op, .string e.t.v, .int .i8 e.t.a.k, .int .i64 e.t.a.n, .string e.t.a.s, .slice a e.kids.length c] 53)) (.slice ao ls.length co)) := ⟨⟨rfl, rfl, rfl, by simp, fun k hk _ => Below.heap_alloc w _ k hk⟩, .inl rfl⟩
  have HXA : Hid (XAt (w.alloc (.cells #[.int .i8 e.op, .string e.t.v, .int .i8 e.t.a.k, .int .i64 e.t.a.n, .string e.t.a.s, .slice a e.kids.length c] 53)) w.heap.size 0 e.op e.t (.slice a e.kids.length c)) := by refine ⟨?_, ?_, ?_, ?_, ?_, ?_⟩ <;> go_simp
  have hzW : (w.alloc (.cells #[.int .i8 e.op, .string e.t.v, .int .i8 e.t.a.k, .int .i64 e.t.a.n, .string e.t.a.s, .slice a e.kids.length c] 53)).heap.size = w.heap.size + 1 := by simp
  have HOW : Hid ((w.alloc (.cells #[.int .i8 e.op, .string e.t.v, .int .i8 e.t.a.k, .int .i64 e.t.a.n, .string e.t.a.s, .slice a e.kids.length c] 53)).ownsRow w0.heap.size 44 4 (.slice ao ls.length co) ls.length (ls.flatMap T.cells)) := own_below HOWN.out ((Below.refl _ _).alloc (Nat.le_refl _) _)
  generalize w.alloc (.cells #[.int .i8 e.op, .string e.t.v, .int .i8 e.t.a.k, .int .i64 e.t.a.n, .string e.t.a.s, .slice a e.kids.length c] 53) = W at HG0 HXA hzW HOW ⊢
  obtain ⟨y0, y1, y2, y3, y4, y5⟩ := HXA.out
  simp only [Nat.zero_add] at y0 y1 y2 y3 y4 y5
  have HZW : Hid _ := hzW
  have hzb : w0.heap.size ≤ W.heap.size := by omega
  clear hzW
  go_wp2_with (at_builtin; refine wpList_append_own_at _ rfl _ _ 46 rfl w0.heap.size 44 i0 _ 4 48 Tryz.underlying46 hi0 hz0 hz1 hz2 rfl (by decide) _ _ _ rfl (own_below HOW.out ((Below.refl _ _).alloc (Nat.le_refl _) _)) ⟨_, 0, none⟩ 1 1 [.string e.t.v, .int .i8 e.t.a.k, .int .i64 e.t.a.n, .string e.t.a.s] rfl rfl (lit_news _ #[.string e.t.v, .int .i8 e.t.a.k, .int .i64 e.t.a.n, .string e.t.a.s] _) (by simp [Value.oneCell']) (by unfold maxLen; omega) (by omega) (by simp; omega) ?_; intro v' w2 hown' hgrow hnil hloc)
  have G1 : Grew W (.slice ao ls.length co) w2 v' := by
    refine ⟨⟨hgrow.os, hgrow.tape, hgrow.output, Nat.le_trans (by simp) hgrow.size, fun k hk hn => (hgrow.block k (by simp; omega) hn).trans (Below.heap_alloc W _ k hk)⟩, ?_⟩
    rcases hloc with l | l
    · exact .inl l
    · exact .inr ⟨_, l, by simp⟩
  obtain ⟨a1, c1, rfl, _⟩ := own_form hown'
  have hl1 : (ls ++ [e.t]).length = ls.length + 1 := by simp
  have HO1 : Hid (w2.ownsRow w0.heap.size 44 4 (.slice a1 (ls ++ [e.t]).length c1) (ls ++ [e.t]).length ((ls ++ [e.t]).flatMap T.cells)) := by
    show World.ownsRow _ _ _ _ _ _ _
    rw [hl1, List.flatMap_append]
    exact hown'
  have HR1 : Hid ((ls ++ [e.t]) ++ e.kids.flatMap (termsD d) = r) := by
    show _ = r
    rw [← HR.out, termsD_succ, List.append_assoc]
    rfl
  have HG1 : Hid (Grew W (.slice ao ls.length co) w2 (.slice a1 (ls ++ [e.t]).length c1)) := by rw [hl1]; exact G1
  have HS3 : Hid ((ls ++ [e.t]).length + (e.kids.flatMap (termsD d)).length ≤ 1000000000000) := by
    show _ ≤ _
    rw [hl1]
    exact HS2.out
  have HBX : Hid (∀ (u : World) (sx : Value), Grew W (.slice ao ls.length co) u sx → Below w0.heap.size w0 u ∧ w0.heap.size ≤ u.heap.size ∧ u.cell? ⟨w.heap.size, 5, none⟩ = some (.slice a e.kids.length c)) := fun u sx hg => by
    have hb1 : Below w0.heap.size w0 W := by
      refine HBW.out.grown HG0.out.gr hzw (fun j hj => (HLT.out j hj).1)
    refine ⟨hb1.grown hg.gr hzb (fun j hj => (HLT.out j hj).1), Nat.le_trans hzb hg.gr.size, ?_⟩
    rw [World.cell?_of_block (a := ⟨w.heap.size, 5, none⟩) (hg.gr.block w.heap.size (by rw [HZW.out]; omega) (fun e => by have := (HLT.out _ e.symm).2; omega))]
    exact y5
  rw [← hl1]
  generalize hL1 : ls ++ [e.t] = l1 at HO1 HR1 HG1 HS3
  clear hown' hgrow hnil hloc G1 hl1 y0 y1 y2 y3 y4 y5 HOW HXA HOWN HR HS2 hL1
  go_loopw [0, 5] (fun lv i wr => ∃ (k : Nat) (ls' : List T) (a' : Option Addr) (c' : Nat), k ≤ e.kids.length ∧ i = .int .i64 k ∧ lv = .slice a' ls'.length c' ∧ Hid (wr.ownsRow w0.heap.size 44 4 (.slice a' ls'.length c') ls'.length (ls'.flatMap T.cells)) ∧ Hid (Grew W (.slice ao ls.length co) wr (.slice a' ls'.length c')) ∧ Hid (ls' ++ (e.kids.drop k).flatMap (termsD d) = r) ∧ Hid (ls'.length + ((e.kids.drop k).flatMap (termsD d)).length ≤ 1000000000000)) (fun _ i _ => e.kids.length - (intOf i).toNat)
  case atStart => exact ⟨0, l1, a1, c1, Nat.zero_le _, rfl, rfl, HO1, HG1, HR1, HS3⟩
  case round =>
    obtain ⟨k, ls', a', c', hk, rfl, rfl, HO, HG, HRk, HSk⟩ := hrel
    obtain ⟨hbu, hzu, y5⟩ := HBX.out wr _ HG.out
    by_cases hlt : k < e.kids.length
    · have hlt' : (k : Int) < (e.kids.length : Int) := by omega
      have hk0 : (0 : Int) ≤ (k : Int) := by omega
      obtain ⟨g', off', rfl, hg', hKS⟩ := HK.out (by omega)
      obtain ⟨a'', c'', hxk, hek⟩ := hKS k hlt
      obtain ⟨x0, x1, x2, x3, x4, x5⟩ := hxk.below hbu hg'
      have hfd := flat_drop d hlt
      have hle := HSk.out
      rw [hfd, List.length_append] at hle
      have HI : Hid _ := HIH.out (atE e.kids k) a'' c'' (.slice a' ls'.length c') ls' wr hek hbu hzu HO.out (by unfold szD; omega)
      have HR2 : Hid ((ls' ++ termsD d (atE e.kids k)) ++ (e.kids.drop (k + 1)).flatMap (termsD d) = r) := by
        show _ = r
        rw [List.append_assoc, ← hfd]
        exact HRk.out
      have HS2 : Hid ((ls' ++ termsD d (atE e.kids k)).length + ((e.kids.drop (k + 1)).flatMap (termsD d)).length ≤ 1000000000000) := by
        show _ ≤ _
        rw [List.length_append]
        omega
      unfold E.val at HI
      clear hKS hxk hek hfd hle HRk HSk hbu hzu
      generalize ls' ++ termsD d (atE e.kids k) = l2 at HI HR2 HS2
      generalize atE e.kids k = ke at HI x0 x1 x2 x3 x4 x5
      go_wp2_with fail
      refine Calls.mono HI.out ?_
      rintro ee w3 ⟨sv3, rfl, ho3, hg3⟩
      obtain ⟨a3, c3, rfl, _⟩ := own_form ho3
      have HG3 : Hid _ := Grew.trans HG.out hg3
      have HO3 : Hid _ := ho3
      clear ho3 hg3 x0 x1 x2 x3 x4 x5 y5
      go_wp2
      go_roundw
      case rel => exact ⟨k + 1, l2, a3, c3, by omega, by go_num, rfl, HO3.out, HG3.out, HR2, HS2⟩
      case measure => simp [intOf]; omega
    · obtain rfl : k = e.kids.length := by omega
      have HV : Hid (ls' = r) := by show ls' = r; rw [← HRk.out, List.drop_length]; simp
      go_wp2
      go_ret
      rw [← HV.out]
      exact ⟨_, rfl, HO.out, Grew.trans HG0.out HG.out⟩
theorem variablesExpr_any (ba : Nat) (d : Nat) (e : E) (a : Option Addr) (c : Nat) (w : World) (hba : ba < w.heap.size) (hx : XAt w ba 0 e.op e.t (.slice a e.kids.length c)) (hE : EIs w d e a c) (hs : szD d e ≤ 1048576) :
    Calls Tryz.prog 45 #[.iface 152 (.pointer (some ⟨ba, 0, none⟩))] w fun e' w' => ∃ sv, e' = .returned sv ∧ w'.ownsRow w.heap.size 9 1 sv (vsT [] (termsD d e)).length ((vsT [] (termsD d e)).flatMap strB) ∧ Below w.heap.size w w' := by
  have HW : Hid _ := walkExpr_any rfl d [] (.slice none 0 0) _ e a c ba 0 (vst_new w) hba hx hE (by unfold szD at hs; simp; omega)
  unfold handE at HW
  have hmk := run_makeSet
  clear hx hE
  go_enter Tryz.func45, Tryz.ntmps45
  go_wp2_with fail
  refine Calls.mono HW.out ?_
  rintro ee w2 ⟨⟨u, rfl⟩, sv2, hv2⟩
  have c0 := hv2.co
  obtain ⟨a2, c2, rfl, _⟩ := own_form hv2.own
  go_wp2
  go_ret
  exact ⟨_, rfl, hv2.own, hv2.bel⟩
theorem vexprVars_any (d : Nat) (e : E) (a : Option Addr) (c : Nat) (w : World) (hE : EIs w d e a c) (hs : szD d e ≤ 1048576) : Calls Tryz.prog 55 #[e.val a c] w fun r w' => ∃ sv, r = .returned sv ∧ Ls w' sv (vsT [] (termsD d e)).length ((vsT [] (termsD d e)).flatMap strB) ∧ Below w.heap.size w w' := by
  have b0 := (Below.refl w.heap.size w).alloc (Nat.le_refl _) (.cells #[.int .i8 e.op, .string e.t.v, .int .i8 e.t.a.k, .int .i64 e.t.a.n, .string e.t.a.s, .slice a e.kids.length c] 53)
  have HV : Hid _ := variablesExpr_any w.heap.size d e a c (w.alloc (.cells #[.int .i8 e.op, .string e.t.v, .int .i8 e.t.a.k, .int .i64 e.t.a.n, .string e.t.a.s, .slice a e.kids.length c] 53)) (by simp) (by refine ⟨?_, ?_, ?_, ?_, ?_, ?_⟩ <;> go_simp) (hE.below b0) hs
  clear hE
  unfold E.val
  go_enter Tryz.func55, Tryz.ntmps55
  go_wp2_with fail
  refine Calls.mono HV.out ?_
  rintro ee w1 ⟨sv, rfl, ho, b1⟩
  go_wp2
  go_ret
  exact ⟨_, rfl, ls_own ho, b0.trans (b1.mono b0.size)⟩
end Go.Proofs.YtgfnijhhhgjabaaGreatDoor
end
