import Derived.Test.YtjjjnpmppblchaaGreatDoorTreeBeyondS
import Derived.Test.YtjjjnpmppblchaaGreatDoorTreeTwin
import Derived.Lib.SmallJoins
import Derived.Test.YtjjjnpmppblchaaGreatDoorWk
import Derived.Deep.RegionHeld3
namespace Go.Proofs.YtjjjnpmppblchaaGreatDoor
open Go.RowKit Go.Maps
set_option linter.unusedVariables false
set_option linter.unusedSimpArgs false
attribute [local go_sem ↓] Go.wp_at_zero Go.wp_at_succ

/-- how deep an expression is -/
def depthD : Nat → E → Nat
  | 0, _ => 0
  | d + 1, e => (e.kids.map (depthD d)).foldl max 0 + 1
theorem foldl_max_ge : ∀ (l : List Nat) (m : Nat), m ≤ l.foldl max m
  | [], m => Nat.le_refl _
  | x :: l, m => Nat.le_trans (Nat.le_max_left m x) (foldl_max_ge l (max m x))
theorem foldl_max_le : ∀ (l : List Nat) (m b : Nat), m ≤ b → (∀ x ∈ l, x ≤ b) → l.foldl max m ≤ b
  | [], m, b, h, _ => h
  | x :: l, m, b, h, hl => foldl_max_le l (max m x) b (Nat.max_le.2 ⟨h, hl x List.mem_cons_self⟩) (fun y hy => hl y (List.mem_cons_of_mem _ hy))
theorem mem_flat_len (d : Nat) {l : List E} {e : E} (h : e ∈ l) : (termsD d e).length ≤ (l.flatMap (termsD d)).length := by
  induction l with
  | nil => cases h
  | cons x l ih =>
    rw [List.flatMap_cons, List.length_append]
    rcases List.mem_cons.1 h with rfl | h
    · omega
    · have := ih h; omega
theorem depth_le : ∀ (d : Nat) (e : E), depthD d e ≤ szD d e
  | 0, _ => Nat.le_refl _
  | d + 1, e => by
    unfold szD
    rw [termsD_succ, List.length_cons, depthD]
    have : (e.kids.map (depthD d)).foldl max 0 ≤ (e.kids.flatMap (termsD d)).length := by
      refine foldl_max_le _ _ _ (Nat.zero_le _) (fun x hx => ?_)
      obtain ⟨k, hk, rfl⟩ := List.mem_map.1 hx
      exact Nat.le_trans (depth_le d k) (mem_flat_len d hk)
    omega
theorem max_take {l : List Nat} {k : Nat} (h : k < l.length) : (l.take (k + 1)).foldl max 0 = max ((l.take k).foldl max 0) l[k] := by
  rw [List.take_succ_eq_append_getElem h, List.foldl_append]
  rfl
open Go.RowKit Go.Maps
set_option linter.unusedVariables false
set_option linter.unusedSimpArgs false
attribute [local go_sem ↓] Go.wp_at_zero Go.wp_at_succ

theorem termsD_wf {w : World} : ∀ (d : Nat) (e : E) (a : Option Addr) (c : Nat), EIs w d e a c → ∀ t ∈ termsD d e, t.wf
  | 0, e, a, c, h, t, ht => absurd h (fun h => h)
  | d + 1, e, a, c, h, t, ht => by
    obtain ⟨_, htw, _, _, hk⟩ := h
    rw [termsD_succ] at ht
    rcases List.mem_cons.1 ht with rfl | ht
    · exact htw
    · obtain ⟨x, hx, htx⟩ := List.mem_flatMap.1 ht
      obtain ⟨i, hi, rfl⟩ := List.getElem_of_mem hx
      obtain ⟨g, off, _, _, hKS⟩ := hk (by omega)
      obtain ⟨a', c', _, he⟩ := hKS i hi
      rw [atE_eq hi] at he
      exact termsD_wf d _ a' c' he t htx
theorem vcheckExpr_any (d : Nat) (e : E) (a : Option Addr) (c : Nat) (w : World) (hT : KT w) (hE : EIs w d e a c) : Calls Tryz.prog 42 #[e.val a c] w fun r w' => r = .returned (.int .i64 (errB (exprB 8 e))) ∧ Below w.heap.size w w' := by
  have BA := (Below.refl w.heap.size w).alloc (Nat.le_refl _) (.cells #[.int .i8 e.op, .string e.t.v, .int .i8 e.t.a.k, .int .i64 e.t.a.n, .string e.t.a.s, .slice a e.kids.length c] 56)
  have HT : Hid (KT _) := hT.below BA
  have HE : Hid (EIs _ d e a c) := hE.below BA
  clear hT hE
  unfold E.val
  go_enter Tryz.func42, Tryz.ntmps42
  go_wp2_with fail
  refine (isExpr_any 8 d e a c _ (by omega) HT.out HE.out).mono ?_
  rintro ee w1 ⟨rfl, b1⟩
  go_wp2_with fail
  refine (verdict_any _ _).mono ?_
  rintro ee w2 ⟨rfl, rfl⟩
  go_wp2
  go_ret
  exact ⟨rfl, BA.trans (b1.mono BA.size)⟩
theorem infoTm : (Tryz.prog.info? 52).map (fun i => (i.zero, i.size, i.bytes)) = some (some (.agg #[.string ⟨#[]⟩, .int .i8 0, .int .i64 0, .string ⟨#[]⟩]), 4, 48) := by kernel_rfl
/-- a list of one's own that a call was handed and may have put elsewhere -/
structure Grew (w : World) (sv : Value) (w' : World) (sv' : Value) : Prop where
  gr : w.grownBy w' sv.ownBlock
  loc : sv'.ownBlock = sv.ownBlock ∨ ∃ b, sv'.ownBlock = some b ∧ w.heap.size ≤ b
theorem Grew.trans {w w1 w2 : World} {sv sv1 sv2 : Value} (h : Grew w sv w1 sv1) (h2 : Grew w1 sv1 w2 sv2) : Grew w sv w2 sv2 := by
  refine ⟨⟨h2.gr.os.trans h.gr.os, h2.gr.tape.trans h.gr.tape, h2.gr.output.trans h.gr.output, Nat.le_trans h.gr.size h2.gr.size, fun k hk hn => ?_⟩, ?_⟩
  · rw [h2.gr.block k (Nat.lt_of_lt_of_le hk h.gr.size) (fun e => ?_), h.gr.block k hk hn]
    rcases h.loc with l | ⟨b, l, hb⟩
    · exact hn (e.trans l)
    · rw [l] at e
      have := Option.some.inj e
      omega
  · rcases h2.loc with l2 | ⟨b, l2, hb⟩
    · rcases h.loc with l | ⟨b, l, hb⟩
      · exact .inl (l2.trans l)
      · exact .inr ⟨b, l2.trans l, hb⟩
    · exact .inr ⟨b, l2, Nat.le_trans h.gr.size hb⟩
set_option maxHeartbeats 3200000 in
theorem exprTerms_any {w0 : World} : ∀ (d : Nat) (e : E) (a : Option Addr) (c : Nat) (sv : Value) (ls : List T) (w : World), EIs w0 d e a c → Below w0.heap.size w0 w → w0.heap.size ≤ w.heap.size → w.ownsRow w0.heap.size 52 4 sv ls.length (ls.flatMap T.cells) → ls.length + szD d e ≤ 1000000000000 →
    Calls Tryz.prog 132 #[sv, e.val a c] w fun r w' => ∃ sv', r = .returned sv' ∧ w'.ownsRow w0.heap.size 52 4 sv' (ls ++ termsD d e).length ((ls ++ termsD d e).flatMap T.cells) ∧ Grew w sv w' sv' := by
  intro d
  induction d with
  | zero => intro e a c sv ls w hE; exact absurd hE (fun h => h)
  | succ d ih =>
  intro e a c sv ls w hE hbw hzw hown hs
  obtain ⟨i0, hi0, hz0, hz1, hz2⟩ := info_parts infoTm
  obtain ⟨⟨hop, hkl⟩, htw, hc1, hc2, hk⟩ := hE
  have HK : Hid _ := hk
  have HIH : Hid _ := ih
  obtain ⟨ao, co, rfl, hlo⟩ := own_form hown
  have HLT : Hid (∀ g, (Value.slice ao ls.length co).ownBlock = some g → w0.heap.size ≤ g ∧ g < w.heap.size) := fun g hg => hown.lt g hg
  have hs2 : ls.length + 1 + (e.kids.flatMap (termsD d)).length ≤ 1000000000000 := by
    unfold szD at hs
    rw [termsD_succ, List.length_cons] at hs
    omega
  have HS2 : Hid _ := hs2
  have hl1 : ls.length ≤ 1000000000000 := by omega
  have HBW : Hid _ := hbw
  have HOWN : Hid _ := hown
  obtain ⟨r, HR⟩ : ∃ r, Hid (ls ++ termsD (d + 1) e = r) := ⟨_, rfl⟩
  rw [HR.out]
  clear hk ih hop htw hs hs2 hown hbw
  unfold E.val
  go_enter Tryz.func132, Tryz.ntmps132
  go_upto_region 1 with fail
  have HG0 : Hid (Grew w (.slice ao ls.length co) (w.alloc (.cells #[.int .i8 e.op, .string e.t.v, .int .i8 e.t.a.k, .int .i64 e.t.a.n, .string e.t.a.s, .slice a e.kids.length c] 56)) (.slice ao ls.length co)) := ⟨⟨rfl, rfl, rfl, by simp, fun k hk _ => Below.heap_alloc w _ k hk⟩, .inl rfl⟩
  have HXA : Hid (XAt (w.alloc (.cells #[.int .i8 e.op, .string e.t.v, .int .i8 e.t.a.k, .int .i64 e.t.a.n, .string e.t.a.s, .slice a e.kids.length c] 56)) w.heap.size 0 e.op e.t (.slice a e.kids.length c)) := by refine ⟨?_, ?_, ?_, ?_, ?_, ?_⟩ <;> go_simp
  have hzW : (w.alloc (.cells #[.int .i8 e.op, .string e.t.v, .int .i8 e.t.a.k, .int .i64 e.t.a.n, .string e.t.a.s, .slice a e.kids.length c] 56)).heap.size = w.heap.size + 1 := by simp
  have HOW : Hid ((w.alloc (.cells #[.int .i8 e.op, .string e.t.v, .int .i8 e.t.a.k, .int .i64 e.t.a.n, .string e.t.a.s, .slice a e.kids.length c] 56)).ownsRow w0.heap.size 52 4 (.slice ao ls.length co) ls.length (ls.flatMap T.cells)) := own_below HOWN.out ((Below.refl _ _).alloc (Nat.le_refl _) _)
  generalize w.alloc (.cells #[.int .i8 e.op, .string e.t.v, .int .i8 e.t.a.k, .int .i64 e.t.a.n, .string e.t.a.s, .slice a e.kids.length c] 56) = W at HG0 HXA hzW HOW ⊢
  obtain ⟨y0, y1, y2, y3, y4, y5⟩ := HXA.out
  simp only [Nat.zero_add] at y0 y1 y2 y3 y4 y5
  have HZW : Hid _ := hzW
  have hzb : w0.heap.size ≤ W.heap.size := by omega
  clear hzW
  go_wp2_with (at_builtin; refine wpList_append_own_at _ rfl _ _ 59 rfl w0.heap.size 52 i0 _ 4 48 Tryz.underlying59 hi0 hz0 hz1 hz2 rfl (by decide) _ _ _ rfl (own_below HOW.out ((Below.refl _ _).alloc (Nat.le_refl _) _)) ⟨_, 0, none⟩ 1 1 [.string e.t.v, .int .i8 e.t.a.k, .int .i64 e.t.a.n, .string e.t.a.s] rfl rfl (lit_news _ #[.string e.t.v, .int .i8 e.t.a.k, .int .i64 e.t.a.n, .string e.t.a.s] _) (by simp [Value.oneCell']) (by unfold maxLen; omega) (by omega) (by simp; omega) ?_; intro v' w2 hown' hgrow hnil hloc)
  have G1 : Grew W (.slice ao ls.length co) w2 v' := by
    refine ⟨⟨hgrow.os, hgrow.tape, hgrow.output, Nat.le_trans (by simp) hgrow.size, fun k hk hn => (hgrow.block k (by simp; omega) hn).trans (Below.heap_alloc W _ k hk)⟩, ?_⟩
    rcases hloc with l | l
    · exact .inl l
    · exact .inr ⟨_, l, by simp⟩
  obtain ⟨a1, c1, rfl, _⟩ := own_form hown'
  have hl1 : (ls ++ [e.t]).length = ls.length + 1 := by simp
  have HO1 : Hid (w2.ownsRow w0.heap.size 52 4 (.slice a1 (ls ++ [e.t]).length c1) (ls ++ [e.t]).length ((ls ++ [e.t]).flatMap T.cells)) := by
    show World.ownsRow _ _ _ _ _ _ _
    rw [hl1, List.flatMap_append]
    exact hown'
  have HR1 : Hid ((ls ++ [e.t]) ++ e.kids.flatMap (termsD d) = r) := by
    show _ = r
    rw [← HR.out, termsD_succ, List.append_assoc]
    rfl
  have HG1 : Hid (Grew W (.slice ao ls.length co) w2 (.slice a1 (ls ++ [e.t]).length c1)) := by rw [hl1]; exact G1
  have HS3 : Hid ((ls ++ [e.t]).length + (e.kids.flatMap (termsD d)).length ≤ 1000000000000) := by
    show _ ≤ _
    rw [hl1]
    exact HS2.out
  have HBX : Hid (∀ (u : World) (sx : Value), Grew W (.slice ao ls.length co) u sx → Below w0.heap.size w0 u ∧ w0.heap.size ≤ u.heap.size ∧ u.cell? ⟨w.heap.size, 5, none⟩ = some (.slice a e.kids.length c)) := fun u sx hg => by
    have hb1 : Below w0.heap.size w0 W := by
      refine HBW.out.grown HG0.out.gr hzw (fun j hj => (HLT.out j hj).1)
    refine ⟨hb1.grown hg.gr hzb (fun j hj => (HLT.out j hj).1), Nat.le_trans hzb hg.gr.size, ?_⟩
    rw [World.cell?_of_block (a := ⟨w.heap.size, 5, none⟩) (hg.gr.block w.heap.size (by rw [HZW.out]; omega) (fun e => by have := (HLT.out _ e.symm).2; omega))]
    exact y5
  rw [← hl1]
  generalize hL1 : ls ++ [e.t] = l1 at HO1 HR1 HG1 HS3
  clear hown' hgrow hnil hloc G1 hl1 y0 y1 y2 y3 y4 y5 HOW HXA HOWN HR HS2 hL1
  go_loopw [0, 5] (fun lv i wr => ∃ (k : Nat) (ls' : List T) (a' : Option Addr) (c' : Nat), k ≤ e.kids.length ∧ i = .int .i64 k ∧ lv = .slice a' ls'.length c' ∧ Hid (wr.ownsRow w0.heap.size 52 4 (.slice a' ls'.length c') ls'.length (ls'.flatMap T.cells)) ∧ Hid (Grew W (.slice ao ls.length co) wr (.slice a' ls'.length c')) ∧ Hid (ls' ++ (e.kids.drop k).flatMap (termsD d) = r) ∧ Hid (ls'.length + ((e.kids.drop k).flatMap (termsD d)).length ≤ 1000000000000)) (fun _ i _ => e.kids.length - (intOf i).toNat)
  case atStart => exact ⟨0, l1, a1, c1, Nat.zero_le _, rfl, rfl, HO1, HG1, HR1, HS3⟩
  case round =>
    obtain ⟨k, ls', a', c', hk, rfl, rfl, HO, HG, HRk, HSk⟩ := hrel
    obtain ⟨hbu, hzu, y5⟩ := HBX.out wr _ HG.out
    by_cases hlt : k < e.kids.length
    · have hlt' : (k : Int) < (e.kids.length : Int) := by omega
      have hk0 : (0 : Int) ≤ (k : Int) := by omega
      obtain ⟨g', off', rfl, hg', hKS⟩ := HK.out (by omega)
      obtain ⟨a'', c'', hxk, hek⟩ := hKS k hlt
      obtain ⟨x0, x1, x2, x3, x4, x5⟩ := hxk.below hbu hg'
      have hfd := flat_drop d hlt
      have hle := HSk.out
      rw [hfd, List.length_append] at hle
      have HI : Hid _ := HIH.out (atE e.kids k) a'' c'' (.slice a' ls'.length c') ls' wr hek hbu hzu HO.out (by unfold szD; omega)
      have HR2 : Hid ((ls' ++ termsD d (atE e.kids k)) ++ (e.kids.drop (k + 1)).flatMap (termsD d) = r) := by
        show _ = r
        rw [List.append_assoc, ← hfd]
        exact HRk.out
      have HS2 : Hid ((ls' ++ termsD d (atE e.kids k)).length + ((e.kids.drop (k + 1)).flatMap (termsD d)).length ≤ 1000000000000) := by
        show _ ≤ _
        rw [List.length_append]
        omega
      unfold E.val at HI
      clear hKS hxk hek hfd hle HRk HSk hbu hzu
      generalize ls' ++ termsD d (atE e.kids k) = l2 at HI HR2 HS2
      generalize atE e.kids k = ke at HI x0 x1 x2 x3 x4 x5
      go_wp2_with fail
      refine Calls.mono HI.out ?_
      rintro ee w3 ⟨sv3, rfl, ho3, hg3⟩
      obtain ⟨a3, c3, rfl, _⟩ := own_form ho3
      have HG3 : Hid _ := Grew.trans HG.out hg3
      have HO3 : Hid _ := ho3
      clear ho3 hg3 x0 x1 x2 x3 x4 x5 y5
      go_wp2
      go_roundw
      case rel => exact ⟨k + 1, l2, a3, c3, by omega, by go_num, rfl, HO3.out, HG3.out, HR2, HS2⟩
      case measure => simp [intOf]; omega
    · obtain rfl : k = e.kids.length := by omega
      have HV : Hid (ls' = r) := by show ls' = r; rw [← HRk.out, List.drop_length]; simp
      go_wp2
      go_ret
      rw [← HV.out]
      exact ⟨_, rfl, HO.out, Grew.trans HG0.out HG.out⟩
open Go.RowKit Go.Maps
set_option linter.unusedVariables false
set_option linter.unusedSimpArgs false
attribute [local go_sem ↓] Go.wp_at_zero Go.wp_at_succ

set_option maxHeartbeats 1600000 in
theorem isMark_any (w : World) (hp : PWt w) : Calls Tryz.prog 140 #[.agg #[.int .i8 99, .string markW, .int .i8 0, .int .i64 0, .string ⟨#[]⟩, .slice none 0 0], .int .i64 777777] w fun e w' => e = .returned (.bool true) ∧ Below w.heap.size w w' := by
  have BA := (Below.refl w.heap.size w).alloc (Nat.le_refl _) (.cells #[.int .i8 99, .string markW, .int .i8 0, .int .i64 0, .string ⟨#[]⟩, .slice none 0 0] 56)
  have HX0 : Hid (XAt (w.alloc (.cells #[.int .i8 99, .string markW, .int .i8 0, .int .i64 0, .string ⟨#[]⟩, .slice none 0 0] 56)) w.heap.size 0 99 ⟨markW, V0⟩ (.slice none 0 0)) := ⟨by go_simp, by go_simp, by go_simp; rfl, by go_simp; rfl, by go_simp; rfl, by go_simp⟩
  have hE : ∀ u, (binOp .eql 52 (.agg #[.string markW, .int .i8 0, .int .i64 0, .string ⟨#[]⟩]) (.agg #[.string markW, .int .i8 0, .int .i64 0, .string ⟨#[]⟩])).run Tryz.prog u = .ok (.bool true) u := fun u => by
    have := run_eqT ⟨markW, V0⟩ ⟨markW, V0⟩ u
    rw [decide_eq_true rfl] at this
    exact this
  have HS : Hid (∀ u, Below (w.alloc (.cells #[.int .i8 99, .string markW, .int .i8 0, .int .i64 0, .string ⟨#[]⟩, .slice none 0 0] 56)).heap.size (w.alloc (.cells #[.int .i8 99, .string markW, .int .i8 0, .int .i64 0, .string ⟨#[]⟩, .slice none 0 0] 56)) u → Below w.heap.size w u ∧ u.cell? ⟨w.heap.size, 0, none⟩ = some (.int .i8 99) ∧ u.cell? ⟨w.heap.size, 1, none⟩ = some (.string markW) ∧ u.cell? ⟨w.heap.size, 2, none⟩ = some (.int .i8 0) ∧ u.cell? ⟨w.heap.size, 3, none⟩ = some (.int .i64 0) ∧ u.cell? ⟨w.heap.size, 4, none⟩ = some (.string ⟨#[]⟩) ∧ u.cell? ⟨w.heap.size, 5, none⟩ = some (.slice none 0 0)) := fun u hu => by
    obtain ⟨x0, x1, x2, x3, x4, x5⟩ := HX0.out.below hu (by simp)
    exact ⟨BA.trans (hu.mono BA.size), x0, x1, x2, x3, x4, x5⟩
  have HP : Hid (∀ u, Below w.heap.size w u → PWt u) := fun u hu => tab_below hp hu
  have HR : Hid (∀ u, Below w.heap.size w u → w.heap.size ≤ u.heap.size) := fun u hu => hu.size
  obtain ⟨MW, hmw⟩ : ∃ MW, markW = MW := ⟨_, rfl⟩
  have HW : Hid (∀ u, PWt u → Calls Tryz.prog 25 #[.int .i64 777777] u fun e w' => e = .returned (.string MW) ∧ Below u.heap.size u w') := fun u hu => by rw [← hmw]; exact word_any u hu
  rw [hmw] at hE HS ⊢
  clear hp hmw BA HX0
  go_enter Tryz.func140, Tryz.ntmps140
  go_wp2_with fail
  generalize hWW : w.alloc (.cells #[.int .i8 99, .string MW, .int .i8 0, .int .i64 0, .string ⟨#[]⟩, .slice none 0 0] 56) = W at HS ⊢
  clear hWW
  have hB0 : Below W.heap.size W W := Below.refl _ _
  go_region_held3 (fun u => (Below W.heap.size W u) ∧ u.cell? ⟨w.heap.size, 0, none⟩ = some (.int .i8 99) ∧ u.cell? ⟨w.heap.size, 1, none⟩ = some (.string MW) ∧ u.cell? ⟨w.heap.size, 2, none⟩ = some (.int .i8 0) ∧ u.cell? ⟨w.heap.size, 3, none⟩ = some (.int .i64 0) ∧ u.cell? ⟨w.heap.size, 4, none⟩ = some (.string ⟨#[]⟩) ∧ u.cell? ⟨w.heap.size, 5, none⟩ = some (.slice none 0 0))
    (first
      | assumption
      | exact ⟨hB0.drew, (HS.out _ hB0.drew).2⟩
      | exact ⟨(by assumption), (HS.out _ (by assumption)).2⟩)
    (first
      | (go_at_call 25; refine (HW.out _ (HP.out _ (HS.out _ hB0.drew).1)).mono ?_; rintro ee w2 ⟨rfl, b2⟩; have b2' : Below W.heap.size W w2 := hB0.drew.trans b2)
      | fail)
  go_wp2
  go_ret
  exact ⟨rfl, (HS.out _ b2').1⟩
/-- what LeftExpr says of a copy of an expression of at most d levels -/
def LeftOK (d : Nat) : Prop := ∀ (e : E) (a a0 : Option Addr) (c c0 lo : Nat) (w : World), PWt w → TwIs w lo d e a c → EIs w d e a0 c0 →
  Calls Tryz.prog 102 #[e.val a c, e.val a0 c0] w fun r w' => r = .returned (.bool true) ∧ Below w.heap.size w w'
set_option maxHeartbeats 3200000 in
theorem leftExprs_any (d : Nat) (hT : LeftOK d) (e : E) (a a0 : Option Addr) (c c0 lo : Nat) (w : World) (hp : PWt w) (hW : TwIs w lo (d + 1) e a c) (hE : EIs w (d + 1) e a0 c0) :
    Calls Tryz.prog 124 #[.slice a e.kids.length c, .slice a0 e.kids.length c0] w fun r w' => r = .returned (.bool true) ∧ Below w.heap.size w w' := by
  obtain ⟨op, t, kids⟩ := e
  obtain ⟨hop, htw, hc1, hc2, hk⟩ := hE
  obtain ⟨rfl, g, rfl, hlo, hg, hmk, hkt⟩ := hW
  simp only [op_mk, t_mk, kids_mk] at *
  have HT : Hid _ := hT
  have HK : Hid _ := hk
  have HKT : Hid _ := hkt
  have HMK : Hid (XAt w g (kids.length * 6) 99 ⟨markW, V0⟩ (.slice none 0 0)) := hmk
  have HP : Hid (PWt w) := hp
  have hlen := hop.2
  clear hT hk hkt hmk hp hop htw hc2 hlo
  go_enter Tryz.func124, Tryz.ntmps124
  go_wp2
  go_loopw [5] (fun i wr => ∃ k : Nat, k ≤ kids.length ∧ i = .int .i64 k ∧ Below w.heap.size w wr) (fun i _ => kids.length - (intOf i).toNat)
  case atStart => exact ⟨0, Nat.zero_le _, rfl, Below.refl _ _⟩
  case round =>
    obtain ⟨k, hk, rfl, bel⟩ := hrel
    by_cases hlt : k < kids.length
    · have hlt' : (k : Int) < (kids.length : Int) := by omega
      obtain ⟨g', off, rfl, hg', hKS⟩ := HK.out (by omega)
      obtain ⟨a2, c2, hx2, hE2⟩ := hKS k hlt
      obtain ⟨a1, c1, hx1, hW1⟩ := HKT.out k hlt
      have HC : Hid (∀ u, Below w.heap.size w u → (u.cell? ⟨g, k * 6, none⟩ = some (.int .i8 (atE kids k).op) ∧ u.cell? ⟨g, k * 6 + 1, none⟩ = some (.string (atE kids k).t.v) ∧ u.cell? ⟨g, k * 6 + 2, none⟩ = some (.int .i8 (atE kids k).t.a.k) ∧ u.cell? ⟨g, k * 6 + 3, none⟩ = some (.int .i64 (atE kids k).t.a.n) ∧ u.cell? ⟨g, k * 6 + 4, none⟩ = some (.string (atE kids k).t.a.s) ∧ u.cell? ⟨g, k * 6 + 5, none⟩ = some (.slice a1 (atE kids k).kids.length c1)) ∧ (u.cell? ⟨g', off + k * 6, none⟩ = some (.int .i8 (atE kids k).op) ∧ u.cell? ⟨g', off + k * 6 + 1, none⟩ = some (.string (atE kids k).t.v) ∧ u.cell? ⟨g', off + k * 6 + 2, none⟩ = some (.int .i8 (atE kids k).t.a.k) ∧ u.cell? ⟨g', off + k * 6 + 3, none⟩ = some (.int .i64 (atE kids k).t.a.n) ∧ u.cell? ⟨g', off + k * 6 + 4, none⟩ = some (.string (atE kids k).t.a.s) ∧ u.cell? ⟨g', off + k * 6 + 5, none⟩ = some (.slice a2 (atE kids k).kids.length c2))) := fun u hu => by
        obtain ⟨x0, x1, x2, x3, x4, x5⟩ := hx1.below hu hg
        obtain ⟨y0, y1, y2, y3, y4, y5⟩ := hx2.below hu hg'
        exact ⟨⟨x0, x1, x2, x3, x4, x5⟩, ⟨y0, y1, y2, y3, y4, y5⟩⟩
      have HW : Hid (∀ u, Below w.heap.size w u → Calls Tryz.prog 102 #[(atE kids k).val a1 c1, (atE kids k).val a2 c2] u fun r w' => r = .returned (.bool true) ∧ Below u.heap.size u w') := fun u hu => HT.out _ a1 a2 c1 c2 lo u (tab_below HP.out hu) (hW1.below hu) (hE2.below hu)
      generalize atE kids k = x at HC HW
      have hS0 := HC.out _ bel
      clear hKS hx1 hx2 hE2 hW1 hg'
      go_wp2_with fail
      go_region_held3 (fun u => (Below w.heap.size w u) ∧ (u.cell? ⟨g, k * 6, none⟩ = some (.int .i8 x.op) ∧ u.cell? ⟨g, k * 6 + 1, none⟩ = some (.string x.t.v) ∧ u.cell? ⟨g, k * 6 + 2, none⟩ = some (.int .i8 x.t.a.k) ∧ u.cell? ⟨g, k * 6 + 3, none⟩ = some (.int .i64 x.t.a.n) ∧ u.cell? ⟨g, k * 6 + 4, none⟩ = some (.string x.t.a.s) ∧ u.cell? ⟨g, k * 6 + 5, none⟩ = some (.slice a1 x.kids.length c1)) ∧ (u.cell? ⟨g', off + k * 6, none⟩ = some (.int .i8 x.op) ∧ u.cell? ⟨g', off + k * 6 + 1, none⟩ = some (.string x.t.v) ∧ u.cell? ⟨g', off + k * 6 + 2, none⟩ = some (.int .i8 x.t.a.k) ∧ u.cell? ⟨g', off + k * 6 + 3, none⟩ = some (.int .i64 x.t.a.n) ∧ u.cell? ⟨g', off + k * 6 + 4, none⟩ = some (.string x.t.a.s) ∧ u.cell? ⟨g', off + k * 6 + 5, none⟩ = some (.slice a2 x.kids.length c2)))
        (first
          | assumption
          | exact ⟨bel.drew, HC.out _ bel.drew⟩
          | exact ⟨(by assumption), HC.out _ (by assumption)⟩)
        (first
          | (go_at_call 102; refine (HW.out _ bel.drew).mono ?_; rintro ee w2 ⟨rfl, b2⟩; have b2' : Below w.heap.size w w2 := bel.drew.trans (b2.mono bel.size))
          | fail)
      go_wp2
      go_roundw
      case rel => exact ⟨k + 1, by omega, by go_num, b2'⟩
      case measure => simp [intOf]; omega
    · obtain rfl : k = kids.length := by omega
      obtain ⟨z0, z1, z2, z3, z4, z5⟩ := HMK.out.below bel hg
      have hMK : Hid _ := isMark_any wr (tab_below HP.out bel)
      have hk1 : (kids.length : Int) < (kids.length : Int) + 1 := by omega
      have z2' : wr.cell? ⟨g, kids.length * 6 + 2, none⟩ = some (.int .i8 0) := z2
      have z3' : wr.cell? ⟨g, kids.length * 6 + 3, none⟩ = some (.int .i64 0) := z3
      have z4' : wr.cell? ⟨g, kids.length * 6 + 4, none⟩ = some (.string ⟨#[]⟩) := z4
      have z1' : wr.cell? ⟨g, kids.length * 6 + 1, none⟩ = some (.string markW) := z1
      clear z1 z2 z3 z4
      obtain ⟨MW, hmw⟩ : ∃ MW, markW = MW := ⟨_, rfl⟩
      rw [hmw] at z1' hMK
      clear hmw
      go_wp2_with fail
      refine Calls.mono hMK.out ?_
      rintro ee w2 ⟨rfl, b2⟩
      go_wp2
      go_ret
      exact ⟨rfl, bel.trans (b2.mono bel.size)⟩
set_option maxHeartbeats 3200000 in
theorem leftExpr_step (d : Nat) (hT : LeftOK d) : LeftOK (d + 1) := by
  intro e a a0 c c0 lo w hp hW hE
  have BA := (Below.refl w.heap.size w).alloc (Nat.le_refl _) (.cells #[.int .i8 e.op, .string e.t.v, .int .i8 e.t.a.k, .int .i64 e.t.a.n, .string e.t.a.s, .slice a e.kids.length c] 56)
  have BB := BA.alloc BA.size (.cells #[.int .i8 e.op, .string e.t.v, .int .i8 e.t.a.k, .int .i64 e.t.a.n, .string e.t.a.s, .slice a0 e.kids.length c0] 56)
  have HL : Hid _ := leftExprs_any d hT e a a0 c c0 lo _ (tab_below hp BB) (hW.below BB) (hE.below BB)
  have hQ : ∀ u, (binOp .eql 52 (.agg #[.string e.t.v, .int .i8 e.t.a.k, .int .i64 e.t.a.n, .string e.t.a.s]) (.agg #[.string e.t.v, .int .i8 e.t.a.k, .int .i64 e.t.a.n, .string e.t.a.s])).run Tryz.prog u = .ok (.bool true) u := fun u => by
    have := run_eqT e.t e.t u
    rw [decide_eq_true rfl] at this
    exact this
  have HB : Hid (Below w.heap.size w _) := BB
  clear hp hW hE BA BB
  unfold E.val
  go_enter Tryz.func102, Tryz.ntmps102
  go_wp2_with (go_at_call 124; refine Calls.mono HL.out ?_; rintro ee w1 ⟨rfl, b1⟩)
  go_ret
  exact ⟨rfl, HB.out.trans (b1.mono HB.out.size)⟩
theorem leftOK : ∀ d, LeftOK d
  | 0 => fun _ _ _ _ _ _ _ _ h _ => h.elim
  | d + 1 => leftExpr_step d (leftOK d)
end Go.Proofs.YtjjjnpmppblchaaGreatDoor
