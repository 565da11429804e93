import Derived.Test.YteabclfhmapabaaGreatDoorA24
import Derived.Test.YteabclfhmapabaaGreatDoorA25
import Derived.Test.YteabclfhmapabaaGreatDoorA35
import Derived.Test.YteabclfhmapabaaGreatDoorA36
section
namespace Go.Proofs.YteabclfhmapabaaGreatDoor
open Go.RowKit Go.Maps Go.Shelf
set_option linter.unusedVariables false
set_option linter.unusedSimpArgs false

/-! rules that are the same have the same plans; what limited says of check.Rule (PlanSound) -/
theorem LikeR.atX {r s : R3} (h : LikeR r s) (i : Nat) : (atL s.bd i).x = (atL r.bd i).x := by
  by_cases hi : i < r.bd.length
  · exact h.bd i hi
  · have h1 : r.bd.length ≤ i := by omega
    have h2 : s.bd.length ≤ i := by rw [h.bl]; exact h1
    unfold atL
    rw [List.getD, List.getD, List.getElem?_eq_none h1, List.getElem?_eq_none h2]
theorem LikeR.stL {r s : R3} (h : LikeR r s) (d : Nat) (ss : List ByteArray) (k : Nat) : Go.Proofs.YteabclfhmapabaaGreatDoor.stL d ss s.bd k = Go.Proofs.YteabclfhmapabaaGreatDoor.stL d ss r.bd k := by
  unfold Go.Proofs.YteabclfhmapabaaGreatDoor.stL
  rw [h.atX]
theorem LikeR.okW {r s : R3} (h : LikeR r s) (d : Nat) (ss : List ByteArray) (left : Nat) (x : St) : Go.Proofs.YteabclfhmapabaaGreatDoor.okW d s.bd ss left x = Go.Proofs.YteabclfhmapabaaGreatDoor.okW d r.bd ss left x := by
  unfold Go.Proofs.YteabclfhmapabaaGreatDoor.okW
  rw [h.stL]
theorem LikeR.goR {r s : R3} (h : LikeR r s) (d : Nat) : ∀ (xs : List St) (ss : List ByteArray) (left : Nat), Go.Proofs.YteabclfhmapabaaGreatDoor.goR d s.bd ss left xs = Go.Proofs.YteabclfhmapabaaGreatDoor.goR d r.bd ss left xs
  | [], ss, left => rfl
  | x :: xs, ss, left => by
    rw [Go.Proofs.YteabclfhmapabaaGreatDoor.goR, Go.Proofs.YteabclfhmapabaaGreatDoor.goR, h.okW, h.stL, LikeR.goR h d xs]
theorem eqL_like (d : Nat) : ∀ {l m : List XL}, l.map XL.x = m.map XL.x → eqL d l = eqL d m
  | [], [], _ => rfl
  | [], y :: m, h => by cases h
  | y :: l, [], h => by cases h
  | y :: l, z :: m, h => by
    rw [List.map_cons, List.map_cons] at h
    injection h with h1 h2
    have ih := eqL_like d h2
    unfold eqL at ih ⊢
    rw [List.flatMap_cons, List.flatMap_cons, ih]
    unfold eqX
    rw [h1]
theorem avL_like : ∀ {l m : List XL}, l.map XL.x = m.map XL.x → avL l = avL m
  | [], [], _ => rfl
  | [], y :: m, h => by cases h
  | y :: l, [], h => by cases h
  | y :: l, z :: m, h => by
    rw [List.map_cons, List.map_cons] at h
    injection h with h1 h2
    have ih := avL_like h2
    unfold avL at ih ⊢
    rw [List.flatMap_cons, List.flatMap_cons, ih]
    unfold avX
    rw [h1]
theorem LikeR.limK {r s : R3} (h : LikeR r s) {d : Nat} {ss fs : List ByteArray} (hl : LimK d ss s fs) : LimK d ss r fs := by
  have e0 : (kbL d ss s).map XL.x = (kbL d ss r).map XL.x := by
    unfold kbL
    rw [h.terms d, List.map_cons, List.map_cons, h.map]
  have e1 := eqL_like d e0
  have e2 : atN (kbL d ss s) = atN (kbL d ss r) := by
    unfold atN
    rw [avL_like e0]
  obtain ⟨⟨k, hk⟩, hs⟩ := hl
  rw [e1, e2] at hk
  rw [e1] at hs
  exact ⟨⟨k, hk⟩, hs⟩
theorem LimK.one {r : R3} {d : Nat} {ss fs fs' : List ByteArray} (h : LimK d ss r fs) (h' : LimK d ss r fs') : fs = fs' := Lim.one ⟨h.it, h.st⟩ ⟨h'.it, h'.st⟩
theorem aheadT_nil (l : List ByteArray) : aheadT [] l = [] := by simp [aheadT, inB]
theorem limK_nil {r : R3} {d : Nat} {fs : List ByteArray} (h : LimK d [] r fs) : Lim (eqL d r.bd) (atN r.bd) fs := by
  have e1 : eqL d (kbL d [] r) = eqL d r.bd := rfl
  have e2 : atN (kbL d [] r) = atN r.bd := by
    unfold kbL
    rw [aheadT_nil]
    rfl
  obtain ⟨hi, hs⟩ := h
  rw [e1, e2] at hi
  rw [e1] at hs
  exact ⟨hi, hs⟩
theorem body_sub {d : Nat} {r : R3} {y : XL} (hy : y ∈ r.bd) {us : List T} (h : ∀ t ∈ us, t ∈ termsL d y.x) : ∀ m ∈ vsT [] us, m ∈ vsT [] (termsR d r) := fun m hm => vsT_sub (fun t ht => by
    unfold termsR
    exact List.mem_append.2 (.inr (List.mem_flatMap.2 ⟨y, hy, h t ht⟩))) m hm
theorem limK_in {d : Nat} {r : R3} {l fs : List ByteArray} (hL : LimK (d + 1) l r fs) : (∀ x ∈ fs, x ∈ vsT [] (termsR (d + 1) r)) ∧ fs.Nodup := by
  have hat : ∀ x ∈ atN (kbL (d + 1) l r), x ∈ vsT [] (termsR (d + 1) r) := fun x hx2 => by
    unfold atN at hx2
    rcases foldN_memG _ _ x hx2 with h1 | h1
    · cases h1
    · unfold avL at h1
      obtain ⟨y, hy, hxy⟩ := List.mem_flatMap.1 h1
      rcases List.mem_cons.1 hy with rfl | hy
      · obtain ⟨_, _, t, ht, e⟩ := mem_vsT.1 (show x ∈ vsT [] (aheadT l (vsT [] (termsR (d + 1) r))) from hxy)
        unfold aheadT at ht
        obtain ⟨m, hm, rfl⟩ := List.mem_map.1 ht
        have hm2 := List.mem_filter.1 hm
        have e' : m = x := e
        subst e'
        exact hm2.1
      · unfold avX at hxy
        split at hxy
        · exact body_sub hy (fun t ht => mem_termsL.2 (.inl ht)) x hxy
        · cases hxy
  have hlone : ∀ x ∈ loneL (eqL (d + 1) (kbL (d + 1) l r)), x ∈ vsT [] (termsR (d + 1) r) := fun x hx2 => by
    unfold loneL at hx2
    obtain ⟨q, hq, hxq⟩ := List.mem_flatMap.1 hx2
    unfold eqL at hq
    obtain ⟨y, hy, hqy⟩ := List.mem_flatMap.1 hq
    rcases List.mem_cons.1 hy with rfl | hy
    · cases hqy
    · unfold eqX at hqy
      split at hqy
      · obtain rfl := List.mem_singleton.1 hqy
        rcases List.mem_append.1 hxq with h1 | h1
        · exact body_sub hy (fun t ht => mem_termsL.2 (.inr (.inl ht))) x (sd_ok (d + 1) y.x.l x (Option.mem_toList.1 h1))
        · exact body_sub hy (fun t ht => mem_termsL.2 (.inr (.inr ht))) x (sd_ok (d + 1) y.x.r x (Option.mem_toList.1 h1))
      · cases hqy
  obtain ⟨⟨k, rfl⟩, _⟩ := hL
  exact itQ_inG _ hlone k _ hat (foldN_nodup _ _ List.nodup_nil)
/-- all are limited just if as many are found as there are -/
theorem limK_full {d : Nat} {r : R3} {l fs : List ByteArray} (hL : LimK (d + 1) l r fs) : fs.length = (vsT [] (termsR (d + 1) r)).length ↔ ∀ n ∈ vsT [] (termsR (d + 1) r), n ∈ fs := by
  obtain ⟨h1, h2⟩ := limK_in hL
  have h3 : (vsT [] (termsR (d + 1) r)).Nodup := vsT_nodup _ _ List.nodup_nil
  constructor
  · intro hlen n hn
    apply Classical.byContradiction
    intro hnf
    have hle := nodupN_le fs ((vsT [] (termsR (d + 1) r)).filter (fun m => decide (m ≠ n))) h2 (fun x hx => List.mem_filter.2 ⟨h1 x hx, decide_eq_true (fun e => hnf (e ▸ hx))⟩)
    have hlt : ((vsT [] (termsR (d + 1) r)).filter (fun m => decide (m ≠ n))).length < (vsT [] (termsR (d + 1) r)).length := List.length_filter_lt_length_iff_exists.2 ⟨n, hn, by simp⟩
    omega
  · intro h
    have a := nodupN_le _ _ h2 h1
    have b := nodupN_le _ _ h3 h
    omega
theorem limK_ru {d : Nat} {r : R3} {fs : List ByteArray} (hL : LimK (d + 1) [] r fs) (hb : ruleB (d + 1) r = true) : ruE (d + 1) r fs = if fs.length = (vsT [] (termsR (d + 1) r)).length then 0 else 73 := by
  unfold ruE
  rw [if_pos hb]
  by_cases h : fs.length = (vsT [] (termsR (d + 1) r)).length
  · rw [if_pos h, if_pos]
    rw [List.all_eq_true]
    exact fun n hn => inB_iff.2 ((limK_full hL).1 h n hn)
  · rw [if_neg h, if_neg]
    intro ha
    rw [List.all_eq_true] at ha
    exact h ((limK_full hL).2 (fun n hn => inB_iff.1 (ha n hn)))
theorem ru_no {d : Nat} {r : R3} (fs : List ByteArray) (hb : ruleB d r = false) : ruE d r fs = 40 := by
  unfold ruE
  rw [hb]
  rfl
theorem still_shut {qs : List Qn} {fs : List ByteArray} (h : rndQ qs fs = fs) : ∀ q ∈ qs, ShutQ fs q := fun q hq => by
  have h1 := still_none qs fs h q hq
  refine ⟨fun v hv hm => ?_, fun v hv hm => ?_⟩
  · apply Classical.byContradiction
    intro hn
    refine hit_gave hn ?_ h1
    unfold hitQ
    rw [decide_eq_true hv, List.all_eq_true.2 (fun y hy => inB_iff.2 (hm y hy))]
    rfl
  · apply Classical.byContradiction
    intro hn
    refine hit_gave hn ?_ h1
    unfold hitQ
    rw [decide_eq_true hv, List.all_eq_true.2 (fun y hy => inB_iff.2 (hm y hy)), Bool.or_eq_true]
    exact .inr rfl
/-- with more known no less is limited -/
theorem limK_mono {d : Nat} {r : R3} {l f0 f1 : List ByteArray} (h0 : LimK (d + 1) [] r f0) (h1 : LimK (d + 1) l r f1) : ∀ x ∈ f0, x ∈ f1 := by
  obtain ⟨⟨k, hk⟩, _⟩ := limK_nil h0
  obtain ⟨k1, hk1⟩ := h1.it
  obtain ⟨more, hm⟩ := itQ_grow (eqL (d + 1) (kbL (d + 1) l r)) k1 (atN (kbL (d + 1) l r))
  have hst : rndQ (eqL (d + 1) r.bd) f1 = f1 := h1.st
  rw [hk]
  refine it_shut _ (still_shut hst) k _ (fun x hx => ?_)
  rw [hk1, hm, List.mem_append]
  left
  unfold atN at hx ⊢
  rw [foldN_mem] at hx ⊢
  rcases hx with hx | hx
  · cases hx
  · right
    unfold kbL avL at *
    rw [List.flatMap_cons, List.mem_append]
    exact .inr hx
theorem limK_more {d : Nat} {r : R3} {l f0 f1 : List ByteArray} (h0 : LimK (d + 1) [] r f0) (h1 : LimK (d + 1) l r f1) (hf : f0.length = (vsT [] (termsR (d + 1) r)).length) : f1.length = (vsT [] (termsR (d + 1) r)).length :=
  (limK_full h1).2 (fun n hn => limK_mono h0 h1 n ((limK_full h0).1 hf n hn))
/-- without pairs a rule stays -/
theorem putT_nil (t : T) : putT [] t = t := by
  unfold putT res
  split <;> rfl
theorem apD_id {f : T → T} (hf : ∀ t, f t = t) : ∀ (d : Nat) (e : E), apD f d e = e
  | 0, e => rfl
  | d + 1, e => by
    rw [apD_succ, hf, show e.kids.map (apD f d) = e.kids from by
      conv => rhs; rw [← List.map_id e.kids]
      exact List.map_congr_left (fun x _ => apD_id hf d x)]
    cases e
    rfl
theorem apL_id {f : T → T} (hf : ∀ t, f t = t) (d : Nat) (x : Lit4) : apL f d x = x := by
  unfold apL
  rw [apD_id hf, apD_id hf, show x.ts.map f = x.ts from by
    conv => rhs; rw [← List.map_id x.ts]
    exact List.map_congr_left (fun t _ => hf t)]
theorem apR_id {f : T → T} (hf : ∀ t, f t = t) (d : Nat) (r : R3) : apR f d r = r := by
  unfold apR
  rw [show r.hd.map (apA f) = r.hd from by
    conv => rhs; rw [← List.map_id r.hd]
    exact List.map_congr_left (fun t _ => by unfold apA; rw [hf]; rfl), show r.bd.map (apX f d) = r.bd from by
    conv => rhs; rw [← List.map_id r.bd]
    exact List.map_congr_left (fun t _ => by unfold apX; rw [apL_id hf]; rfl)]
theorem resR_nil {d : Nat} {r : R3} (h : ruleB d r = true) : resR [] d r = r := by
  unfold resR okR
  rw [apR_id putT_nil, h]
  rfl
theorem like_sameR {dec : Dec} {r s : R3} (h : LikeR r s) : sameR dec s r = true := sameR_t ⟨h.pr, h.hd, h.map⟩
theorem knB_succ {l : List ByteArray} {k : Nat} (h : knB l k = true) (h1 : inB (l.take k) (atS l k) = false) (h2 : isVarB (atS l k) = true) : knB l (k + 1) = true := by
  unfold knB
  rw [h, h1, h2]
  rfl
end Go.Proofs.YteabclfhmapabaaGreatDoor
end
section
namespace Go.Proofs.YteabclfhmapabaaGreatDoor
open Go.RowKit Go.Maps Go.Shelf
set_option linter.unusedVariables false
set_option linter.unusedSimpArgs false

/-! p(X, N) :- N = M + 1, e(X, M). -/
def sX : ByteArray := ⟨#[88]⟩
def sN : ByteArray := ⟨#[78]⟩
def sM : ByteArray := ⟨#[77]⟩
def v1 : V := ⟨1, 1, ⟨#[]⟩⟩
def oX : T := ⟨sX, V0⟩
def oN : T := ⟨sN, V0⟩
def oM : T := ⟨sM, V0⟩
def o1 : T := ⟨⟨#[]⟩, v1⟩
def oS : Lit4 := ⟨3, ⟨#[]⟩, [], 1, E.mk 0 oN [], E.mk 2 T0 [E.mk 0 oM [], E.mk 0 o1 []]⟩
def oE : Lit4 := ⟨1, ⟨#[101]⟩, [oX, oM], 0, E0, E0⟩
def oR (p1 p2 : LP) : R3 := ⟨⟨#[112]⟩, [⟨0, oX⟩, ⟨0, oN⟩], [⟨oS, p1⟩, ⟨oE, p2⟩]⟩
def oT1 : St := ⟨2, 1, 1, [sM]⟩
def oT2 : St := ⟨6, 0, 0, [sN]⟩
theorem o_rule (p1 p2 : LP) : ruleB 3 (oR p1 p2) = true := by kernel_rfl
theorem o_kn : knB [sX] 1 = true := by kernel_rfl
theorem o_vars (p1 p2 : LP) : (vsT [] (termsR 3 (oR p1 p2))).length = 3 := by kernel_rfl
theorem o_next1 (p1 p2 : LP) : nextM 3 [sX] (oR p1 p2).bd 3 = (oT1, true) := by kernel_rfl
theorem o_next2 (p1 p2 : LP) : nextM 3 [sX, sM] (oR p1 p2).bd (clrN 3 1) = (oT2, true) := by kernel_rfl
theorem o_next3 (p1 p2 : LP) : nextM 3 [sX, sM, sN] (oR p1 p2).bd (clrN (clrN 3 1) 0) = (⟨0, 0, 0, []⟩, false) := by kernel_rfl
theorem o_go (p1 p2 : LP) : endR (goR 3 (oR p1 p2).bd [sX] 3 [oT1, oT2]) = true := by kernel_rfl
theorem o_go0 (p1 p2 : LP) : endR (goR 3 (oR p1 p2).bd [] 3 [oT1, oT2]) = false := by kernel_rfl
theorem o_res (p1 p2 : LP) : resR [] 3 (oR p1 p2) = oR p1 p2 := by kernel_rfl
theorem o_lim {fs : List ByteArray} {p1 p2 : LP} (h : LimK 3 [sX] (oR p1 p2) fs) : fs.length = 3 := by
  obtain ⟨⟨j, rfl⟩, hs⟩ := h
  have hk : rndQ (eqL 3 (kbL 3 [sX] (oR p1 p2))) (itQ (eqL 3 (kbL 3 [sX] (oR p1 p2))) 1 (atN (kbL 3 [sX] (oR p1 p2)))) = itQ (eqL 3 (kbL 3 [sX] (oR p1 p2))) 1 (atN (kbL 3 [sX] (oR p1 p2))) := by kernel_rfl
  have e := itQ_one hs hk
  have h3 : (itQ (eqL 3 (kbL 3 [sX] (oR p1 p2))) 1 (atN (kbL 3 [sX] (oR p1 p2)))).length = 3 := by kernel_rfl
  exact (congrArg List.length e).trans h3
theorem o_gt {xs : List St} {p1 p2 : LP} (h : Gt 3 (oR p1 p2).bd [sX] 3 (firstM 3 [sX] (oR p1 p2).bd 3 (-1)) xs) : xs = [oT1, oT2] := by
  have e1 : firstM 3 [sX] (oR p1 p2).bd 3 (-1) = (oT1, true) := by
    unfold firstM
    rw [if_pos rfl]
    exact o_next1 p1 p2
  rw [e1] at h
  cases h with
  | more _ _ _ xs h =>
    have e2 : nextM 3 ([sX] ++ oT1.g) (oR p1 p2).bd (clrN 3 oT1.i.toNat) = (oT2, true) := o_next2 p1 p2
    rw [e2] at h
    cases h with
    | more _ _ _ xs h =>
      have e3 : nextM 3 ([sX] ++ oT1.g ++ oT2.g) (oR p1 p2).bd (clrN (clrN 3 oT1.i.toNat) oT2.i.toNat) = (⟨0, 0, 0, []⟩, false) := o_next3 p1 p2
      rw [e3] at h
      cases h
      rfl
theorem o_like {p1 p2 : LP} {r : R3} (h : LikeR (oR p1 p2) r) : ∃ q1 q2, r = oR q1 q2 := by
  obtain ⟨pr, hd, bd⟩ := r
  have h1 := h.pr
  have h2 := h.hd
  have h3 := h.bl
  simp only at h1 h2 h3
  subst h1 h2
  have h4 : bd.length = 2 := h3
  match bd, h4 with
  | [⟨x1, q1⟩, ⟨x2, q2⟩], _ =>
    have a1 := h.bd 0 (by show 0 < 2; decide)
    have a2 := h.bd 1 (by show 1 < 2; decide)
    have b1 : x1 = oS := a1
    have b2 : x2 = oE := a2
    subst b1 b2
    exact ⟨q1, q2, rfl⟩
end Go.Proofs.YteabclfhmapabaaGreatDoor
end
