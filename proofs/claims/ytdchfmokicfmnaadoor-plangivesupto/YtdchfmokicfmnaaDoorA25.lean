import Derived.Test.YtdchfmokicfmnaaDoorA24
section
namespace Go.Proofs.YtdchfmokicfmnaaDoor
open Go.RowKit Go.Maps Go.Shelf
set_option linter.unusedVariables false
set_option linter.unusedSimpArgs false

/-! what PlanGives asks, of right steps -/
theorem vsT_ok : ∀ (ts : List T) (out : List ByteArray) (n : ByteArray), (∀ m ∈ out, m ≠ noS ∧ m ≠ blankS) → n ∈ vsT out ts → n ≠ noS ∧ n ≠ blankS
  | [], out, n, h, hn => h n hn
  | t :: ts, out, n, h, hn => by
    rw [vsT] at hn
    split at hn
    · exact vsT_ok ts out n h hn
    · next hc =>
      refine vsT_ok ts _ n (fun m hm => ?_) hn
      rcases List.mem_append.1 hm with h1 | h1
      · exact h m h1
      · obtain rfl := List.mem_singleton.1 h1
        exact ⟨fun e => hc (Or.inl e), fun e => hc (Or.inr (Or.inl e))⟩
theorem mem_vsT {ts : List T} {n : ByteArray} : n ∈ vsT [] ts ↔ n ≠ noS ∧ n ≠ blankS ∧ ∃ t ∈ ts, t.v = n := by
  constructor
  · intro h
    have h1 := vsT_ok ts [] n (fun m hm => by cases hm) h
    rcases vsT_mem _ _ _ h with h2 | h2
    · cases h2
    · exact ⟨h1.1, h1.2, h2⟩
  · rintro ⟨h1, h2, t, ht, rfl⟩
    exact vsT_has _ _ t ht h1 h2
theorem vsT_sub {ts us : List T} (h : ∀ t ∈ ts, t ∈ us) : ∀ n ∈ vsT [] ts, n ∈ vsT [] us := fun n hn => by
  obtain ⟨h1, h2, t, ht, e⟩ := mem_vsT.1 hn
  exact mem_vsT.2 ⟨h1, h2, t, h t ht, e⟩
theorem lackL_all {ss l : List ByteArray} : ∀ n ∈ l, n ∈ ss ++ lackL ss l := fun n hn => by
  rw [List.mem_append]
  by_cases h : n ∈ ss
  · exact .inl h
  · refine .inr (List.mem_filter.2 ⟨hn, ?_⟩)
    have : inB ss n = false := Bool.eq_false_iff.2 (fun hh => h (inB_iff.1 hh))
    rw [this]
    rfl
theorem lackL_none {ss l : List ByteArray} (h : (lackL ss l).length = 0) : ∀ n ∈ l, n ∈ ss := fun n hn => by
  have h1 := lackL_all (ss := ss) n hn
  rw [List.eq_nil_of_length_eq_zero h, List.append_nil] at h1
  exact h1
theorem noE_vars {d : Nat} {e : E} (h : noE e = true) : ∀ t ∈ termsD d e, t.v = noS := by
  unfold noE at h
  simp only [Bool.and_eq_true, decide_eq_true_eq] at h
  intro t ht
  cases d with
  | zero => cases ht
  | succ d =>
    rw [termsD_succ, List.eq_nil_of_length_eq_zero h.2.2] at ht
    obtain rfl := List.mem_singleton.1 ht
    rw [h.2.1]
    rfl
theorem mem_termsL {d : Nat} {x : Lit4} {t : T} : t ∈ termsL d x ↔ t ∈ x.ts ∨ t ∈ termsD d x.l ∨ t ∈ termsD d x.r := by
  unfold termsL
  rw [List.mem_append, List.mem_append]
/-- a step that is to be taken gives what its literal has and is not known -/
structure GivM (d : Nat) (ss : List ByteArray) (x : Lit4) (s : St) : Prop where
  all : ∀ n ∈ vsT [] (termsL d x), n ∈ ss ++ s.g
  own : ∀ n ∈ s.g, n ∈ vsT [] (termsL d x)
  new : NewL ss s.g
  no : x.k = 2 → s.g = []
theorem stM_gives {d : Nat} {ss : List ByteArray} {x : Lit4} {k : Nat} (hx : litB x = true) (hk : ((stM d ss x k).k != 0) = true) : GivM d ss x (stM d ss x k) := by
  have hnew := stM_new d ss x k
  unfold litB at hx
  by_cases h1 : x.k = 1
  · rw [if_pos (Or.inl h1)] at hx
    simp only [Bool.and_eq_true] at hx
    have hv : ∀ n, n ∈ vsT [] (termsL d x) ↔ n ∈ vsT [] x.ts := fun n => by
      constructor
      · intro h
        obtain ⟨a1, a2, t, ht, e⟩ := mem_vsT.1 h
        rcases mem_termsL.1 ht with h3 | h3 | h3
        · exact mem_vsT.2 ⟨a1, a2, t, h3, e⟩
        · exact absurd (e.symm.trans (noE_vars hx.2.2.1 t h3)) a1
        · exact absurd (e.symm.trans (noE_vars hx.2.2.2 t h3)) a1
      · exact fun h => vsT_sub (fun t ht => mem_termsL.2 (.inl ht)) n h
    have hg : (stM d ss x k).g = lackL ss (vsT [] x.ts) := by
      unfold stM
      rw [if_pos h1]
    refine ⟨fun n hn => ?_, fun n hn => ?_, hnew, fun h => ?_⟩
    · rw [hg]
      exact lackL_all n ((hv n).1 hn)
    · rw [hg] at hn
      exact (hv n).2 (List.mem_filter.1 hn).1
    · rw [h1] at h
      cases h
  · by_cases h2 : x.k = 2
    · rw [if_pos (Or.inr h2)] at hx
      simp only [Bool.and_eq_true] at hx
      have hg : (stM d ss x k).g = [] := by
        unfold stM
        rw [if_neg h1, if_pos h2]
      have hl : (lackL ss (vsT [] x.ts)).length = 0 := by
        apply Decidable.byContradiction
        intro h
        unfold stM at hk
        rw [if_neg h1, if_pos h2, if_neg h] at hk
        cases hk
      refine ⟨fun n hn => ?_, fun n hn => ?_, hnew, fun _ => hg⟩
      · rw [hg, List.append_nil]
        obtain ⟨a1, a2, t, ht, e⟩ := mem_vsT.1 hn
        rcases mem_termsL.1 ht with h3 | h3 | h3
        · exact lackL_none hl n (mem_vsT.2 ⟨a1, a2, t, h3, e⟩)
        · exact absurd (e.symm.trans (noE_vars hx.2.2.1 t h3)) a1
        · exact absurd (e.symm.trans (noE_vars hx.2.2.2 t h3)) a1
      · rw [hg] at hn
        cases hn
    · rw [if_neg (by rintro (h | h); exact h1 h; exact h2 h)] at hx
      split at hx
      · simp only [Bool.and_eq_true, decide_eq_true_eq] at hx
        have hts : x.ts = [] := List.eq_nil_of_length_eq_zero hx.2.1
        have hg : (stM d ss x k).g = (cmpM x (lackL ss (vsT [] (termsD d x.l))) (lackL ss (vsT [] (termsD d x.r)))).2 := by
          unfold stM
          rw [if_neg h1, if_neg h2]
        have hkk : ((cmpM x (lackL ss (vsT [] (termsD d x.l))) (lackL ss (vsT [] (termsD d x.r)))).1 != 0) = true := by
          unfold stM at hk
          rw [if_neg h1, if_neg h2] at hk
          exact hk
        have hL : ∀ n ∈ vsT [] (termsD d x.l), n ∈ vsT [] (termsL d x) := vsT_sub (fun t ht => mem_termsL.2 (.inr (.inl ht)))
        have hR : ∀ n ∈ vsT [] (termsD d x.r), n ∈ vsT [] (termsL d x) := vsT_sub (fun t ht => mem_termsL.2 (.inr (.inr ht)))
        have hA : ∀ n ∈ vsT [] (termsL d x), n ∈ vsT [] (termsD d x.l) ∨ n ∈ vsT [] (termsD d x.r) := fun n hn => by
          obtain ⟨a1, a2, t, ht, e⟩ := mem_vsT.1 hn
          rcases mem_termsL.1 ht with h3 | h3 | h3
          · rw [hts] at h3
            cases h3
          · exact .inl (mem_vsT.2 ⟨a1, a2, t, h3, e⟩)
          · exact .inr (mem_vsT.2 ⟨a1, a2, t, h3, e⟩)
        have key : (∀ n ∈ vsT [] (termsD d x.l), n ∈ ss ++ (stM d ss x k).g) ∧ (∀ n ∈ vsT [] (termsD d x.r), n ∈ ss ++ (stM d ss x k).g) ∧ ∀ n ∈ (stM d ss x k).g, n ∈ vsT [] (termsD d x.l) ∨ n ∈ vsT [] (termsD d x.r) := by
          rw [hg]
          generalize hPA : lackL ss (vsT [] (termsD d x.l)) = PA at hkk ⊢
          generalize hPB : lackL ss (vsT [] (termsD d x.r)) = PB at hkk ⊢
          unfold cmpM at hkk ⊢
          by_cases c1 : PA.length = 0 ∧ PB.length = 0
          · rw [if_pos c1]
            refine ⟨fun n hn => ?_, fun n hn => ?_, fun n hn => by cases hn⟩
            · exact List.mem_append.2 (.inl (lackL_none (by rw [hPA]; exact c1.1) n hn))
            · exact List.mem_append.2 (.inl (lackL_none (by rw [hPB]; exact c1.2) n hn))
          · rw [if_neg c1] at hkk ⊢
            by_cases c2 : x.rel ≠ 1
            · rw [if_pos c2] at hkk
              cases hkk
            · rw [if_neg c2] at hkk ⊢
              by_cases c3 : PB.length = 0 ∧ x.l.op = 0
              · rw [if_pos c3]
                refine ⟨fun n hn => ?_, fun n hn => ?_, fun n hn => ?_⟩
                · rw [← hPA]
                  exact lackL_all n hn
                · exact List.mem_append.2 (.inl (lackL_none (by rw [hPB]; exact c3.1) n hn))
                · rw [← hPA] at hn
                  exact .inl (List.mem_filter.1 hn).1
              · rw [if_neg c3] at hkk ⊢
                by_cases c4 : PA.length = 0 ∧ x.r.op = 0
                · rw [if_pos c4]
                  refine ⟨fun n hn => ?_, fun n hn => ?_, fun n hn => ?_⟩
                  · exact List.mem_append.2 (.inl (lackL_none (by rw [hPA]; exact c4.1) n hn))
                  · rw [← hPB]
                    exact lackL_all n hn
                  · rw [← hPB] at hn
                    exact .inr (List.mem_filter.1 hn).1
                · rw [if_neg c4] at hkk
                  cases hkk
        refine ⟨fun n hn => ?_, fun n hn => ?_, hnew, fun h => absurd h h2⟩
        · rcases hA n hn with h | h
          · exact key.1 n h
          · exact key.2.1 n h
        · rcases key.2.2 n hn with h | h
          · exact hL n h
          · exact hR n h
      · cases hx
theorem sameSt_eq {s t : St} (h : sameSt s t = true) : s = t := by
  obtain ⟨k, i, m, g⟩ := s
  obtain ⟨k2, i2, m2, g2⟩ := t
  unfold sameSt at h
  simp only [Bool.and_eq_true, decide_eq_true_eq] at h
  obtain ⟨rfl, rfl, rfl, rfl⟩ := h
  rfl
theorem goR_prefix {d : Nat} {l : List XL} {ss : List ByteArray} {left : Nat} {xs : List SX} {r : List ByteArray × Nat} (h : goR d l ss left (xs.map SX.s) = some r) {j : Nat} (hj : j < xs.length) {ss' : List ByteArray} {left' : Nat} (hp : goR d l ss left ((xs.take j).map SX.s) = some (ss', left')) : okW d l ss' left' (atZ xs j).s = true := by
  rcases hb : okW d l ss' left' (atZ xs j).s with _ | _
  · rw [goR_fails hj hp hb] at h
    cases h
  · rfl
theorem clrN_bit {left k i : Nat} (hi : i < 32) (hk : k < 32) : (clrN left k).testBit i = (left.testBit i && !decide (k = i)) := by
  have hp : (2 : Nat) ^ k < 2 ^ 32 := Nat.pow_lt_pow_right (by decide) hk
  unfold clrN
  rw [Nat.testBit_and, show (4294967295 : Nat) - 2 ^ k = 2 ^ 32 - (2 ^ k + 1) by omega, Nat.testBit_two_pow_sub_succ hp, Nat.testBit_two_pow]
  simp [hi]
/-- of the literals that are taken all variables are known -/
def TakM (d : Nat) (l : List XL) (ss : List ByteArray) (left : Nat) : Prop := ∀ i, i < l.length → left.testBit i = false → ∀ n ∈ vsT [] (termsL d (atL l i).x), n ∈ ss
theorem okW_out {d : Nat} {l : List XL} {ss : List ByteArray} {left : Nat} {s : St} (hl : left < 2 ^ l.length) (h : okW d l ss left s = true) : ∃ k : Nat, s.i = (k : Int) ∧ k < l.length ∧ left.testBit k = true ∧ ((stL d ss l k).k != 0) = true ∧ s = stL d ss l k := by
  unfold okW at h
  rw [Bool.and_eq_true, Bool.and_eq_true] at h
  obtain ⟨h1, h2, h3⟩ := h
  obtain ⟨h4, h5⟩ := hasB_lt hl h1
  obtain ⟨k, hk⟩ : ∃ k : Nat, s.i = (k : Int) := ⟨s.i.toNat, by omega⟩
  rw [hk, Int.toNat_natCast] at h2 h3 h5
  unfold hasB at h1
  rw [hk, Int.toNat_natCast] at h1
  simp only [Bool.and_eq_true] at h1
  exact ⟨k, hk, h5, h1.2, h2, sameSt_eq h3⟩
theorem takM_step {d : Nat} {l : List XL} {ss : List ByteArray} {left k : Nat} (hn : l.length ≤ 16) (hx : l.all (fun y => litB y.x) = true) (hk : k < l.length) (hz : ((stL d ss l k).k != 0) = true) (h : TakM d l ss left) : TakM d l (ss ++ (stL d ss l k).g) (clrN left k) := by
  intro i hi hb n hv
  rw [clrN_bit (by omega) (by omega)] at hb
  by_cases hik : k = i
  · subst hik
    have hlx : litB (atL l k).x = true := by
      rw [List.all_eq_true] at hx
      rw [atL_eq hk]
      exact hx _ (List.getElem_mem hk)
    exact (stM_gives hlx hz).all n hv
  · rw [decide_eq_false hik, Bool.not_false, Bool.and_true] at hb
    exact List.mem_append.2 (.inl (h i hi hb n hv))
theorem foldN_memG : ∀ (l out : List ByteArray) (x : ByteArray), x ∈ l.foldl addN out → x ∈ out ∨ x ∈ l
  | [], out, x, h => .inl h
  | n :: l, out, x, h => by
    rw [List.foldl_cons] at h
    rcases foldN_memG l _ x h with h1 | h1
    · unfold addN at h1
      split at h1
      · exact .inl h1
      · rcases List.mem_append.1 h1 with h2 | h2
        · exact .inl h2
        · obtain rfl := List.mem_singleton.1 h2
          exact .inr (by simp)
    · exact .inr (List.mem_cons_of_mem _ h1)
theorem itQ_inG (qs : List Qn) {all : List ByteArray} (hq : ∀ x ∈ loneL qs, x ∈ all) : ∀ (k : Nat) (fs : List ByteArray), (∀ x ∈ fs, x ∈ all) → fs.Nodup → (∀ x ∈ itQ qs k fs, x ∈ all) ∧ (itQ qs k fs).Nodup
  | 0, fs, h, hn => ⟨h, hn⟩
  | k + 1, fs, h, hn => by
    obtain ⟨h1, h2⟩ := itQ_inG qs hq k fs h hn
    rw [itQ_succ]
    exact ⟨rndQ_in qs _ all h1 hq, rndQ_nodup qs _ h2⟩
/-- where as many are limited as there are, each variable is known ahead or stands in the body -/
theorem lim_all {d : Nat} {r : R3} {ss fs S : List ByteArray} (h : LimK (d + 1) ss r fs) (hl : fs.length = (vsT [] (termsR (d + 1) r)).length) (hs : ∀ n ∈ ss, n ∈ S) (hb : ∀ y ∈ r.bd, ∀ n ∈ vsT [] (termsL (d + 1) y.x), n ∈ S) : ∀ n ∈ vsT [] (termsR (d + 1) r), n ∈ S := by
  obtain ⟨⟨k, rfl⟩, _⟩ := h
  intro n hn
  apply Classical.byContradiction
  intro hnS
  have hbody : ∀ y ∈ r.bd, ∀ m ∈ vsT [] (termsL (d + 1) y.x), m ∈ vsT [] (termsR (d + 1) r) := fun y hy => vsT_sub (fun t ht => by
    unfold termsR
    exact List.mem_append.2 (.inr (List.mem_flatMap.2 ⟨y, hy, ht⟩)))
  have hall : ∀ m, (m ∈ vsT [] (termsR (d + 1) r) ∧ m ∈ S) → m ∈ (vsT [] (termsR (d + 1) r)).filter (fun m => decide (m ≠ n)) := fun m ⟨h1, h2⟩ => List.mem_filter.2 ⟨h1, decide_eq_true (fun e => hnS (e ▸ h2))⟩
  have hsides : ∀ y ∈ r.bd, ∀ q ∈ eqX (d + 1) y, ∀ m, (q.1.lone = some m ∨ q.2.lone = some m) → m ∈ vsT [] (termsL (d + 1) y.x) := fun y hy q hq m hm => by
    unfold eqX at hq
    split at hq
    · obtain rfl := List.mem_singleton.1 hq
      rcases hm with hm | hm
      · exact vsT_sub (fun t ht => mem_termsL.2 (.inr (.inl ht))) m (sd_ok (d + 1) y.x.l m hm)
      · exact vsT_sub (fun t ht => mem_termsL.2 (.inr (.inr ht))) m (sd_ok (d + 1) y.x.r m hm)
    · cases hq
  have hlone : ∀ x ∈ loneL (eqL (d + 1) (kbL (d + 1) ss r)), x ∈ (vsT [] (termsR (d + 1) r)).filter (fun m => decide (m ≠ n)) := fun x hx => by
    unfold loneL at hx
    obtain ⟨q, hq, hxq⟩ := List.mem_flatMap.1 hx
    unfold eqL at hq
    obtain ⟨y, hy, hqy⟩ := List.mem_flatMap.1 hq
    rcases List.mem_cons.1 hy with rfl | hy
    · cases hqy
    · have hm : q.1.lone = some x ∨ q.2.lone = some x := by
        rcases List.mem_append.1 hxq with h1 | h1
        · exact .inl (Option.mem_toList.1 h1)
        · exact .inr (Option.mem_toList.1 h1)
      have h3 := hsides y hy q hqy x hm
      exact hall x ⟨hbody y hy x h3, hb y hy x h3⟩
  have hat : ∀ x ∈ atN (kbL (d + 1) ss r), x ∈ (vsT [] (termsR (d + 1) r)).filter (fun m => decide (m ≠ n)) := fun x hx => by
    unfold atN at hx
    rcases foldN_memG _ _ x hx with h1 | h1
    · cases h1
    · unfold avL at h1
      obtain ⟨y, hy, hxy⟩ := List.mem_flatMap.1 h1
      rcases List.mem_cons.1 hy with rfl | hy
      · obtain ⟨_, _, t, ht, e⟩ := mem_vsT.1 (show x ∈ vsT [] (aheadT ss (vsT [] (termsR (d + 1) r))) from hxy)
        unfold aheadT at ht
        obtain ⟨m, hm, rfl⟩ := List.mem_map.1 ht
        have hm2 := List.mem_filter.1 hm
        have e' : m = x := e
        subst e'
        exact hall m ⟨hm2.1, hs m (inB_iff.1 hm2.2)⟩
      · unfold avX at hxy
        split at hxy
        · have h3 := vsT_sub (fun t ht => mem_termsL.2 (.inl ht)) x hxy (us := termsL (d + 1) y.x)
          exact hall x ⟨hbody y hy x h3, hb y hy x h3⟩
        · cases hxy
  obtain ⟨hin, hnd⟩ := itQ_inG _ hlone k _ hat (foldN_nodup _ _ List.nodup_nil)
  have hle := nodupN_le _ _ hnd hin
  have hlt : ((vsT [] (termsR (d + 1) r)).filter (fun m => decide (m ≠ n))).length < (vsT [] (termsR (d + 1) r)).length := by
    refine List.length_filter_lt_length_iff_exists.2 ⟨n, hn, by simp⟩
  omega
end Go.Proofs.YtdchfmokicfmnaaDoor
end
section
namespace Go.Proofs.YtdchfmokicfmnaaDoor
open Go.RowKit Go.Maps Go.Shelf
set_option linter.unusedVariables false
set_option linter.unusedSimpArgs false
attribute [local go_sem ↓] Go.wp_at_zero Go.wp_at_succ
attribute [-go_sem] loadVar

theorem inB_all {l : List ByteArray} {s : ByteArray} (h : ∀ j, j < l.length → atS l j ≠ s) : inB l s = false := Bool.eq_false_iff.2 (fun hh => by
  obtain ⟨j, hj, e⟩ := List.getElem_of_mem (inB_iff.1 hh)
  refine h j hj ?_
  unfold atS
  rw [List.getD, List.getElem?_eq_getElem hj]
  exact e)
theorem inB_at {l : List ByteArray} {s : ByteArray} {j : Nat} (hj : j < l.length) (h : atS l j = s) : inB l s = true := inB_iff.2 (by
  unfold atS at h
  rw [List.getD, List.getElem?_eq_getElem hj] at h
  exact h ▸ List.getElem_mem hj)
set_option maxHeartbeats 1600000 in
set_option maxRecDepth 100000 in
theorem has_any {w : World} {v : Value} {l : List ByteArray} (hl : Ls w v l.length (l.flatMap strB)) (s : ByteArray) :
    Calls Tryd.prog 8 #[v, .string s] w fun e w' => e = .returned (.bool (inB l s)) ∧ w' = w := by
  obtain ⟨a, c, rfl, hc1, hc2, hat⟩ := ls_str hl
  have HAT := Lib.hid hat
  unfold maxLen at hc2
  clear hl hat
  go_enter Tryd.func8, Tryd.ntmps8
  go_wp2
  go_loopw [5] (fun i wr => ∃ k : Nat, k ≤ l.length ∧ i = .int .i64 k ∧ Hid (∀ j, j < k → atS l j ≠ s) ∧ Hid (wr = w)) (fun i _ => l.length - (intOf i).toNat)
  case atStart => exact ⟨0, Nat.zero_le _, rfl, fun j hj => absurd hj (Nat.not_lt_zero _), rfl⟩
  case round =>
    obtain ⟨k, hk, rfl, HN, HW⟩ := hrel
    by_cases hlt : k < l.length
    · have hlt' : (k : Int) < (l.length : Int) := by omega
      have hk0 : (0 : Int) ≤ (k : Int) := by omega
      obtain ⟨g, off, rfl, hg, hce⟩ := HAT.out (by omega)
      have hcw : wr.cell? ⟨g, off + k, none⟩ = some (.string (atS l k)) := by rw [HW.out]; exact hce k hlt
      have l1 := load_strP hcw
      have HX : Hid (atS l k ≠ s → ∀ j, j < k + 1 → atS l j ≠ s) := fun h j hj => by
        by_cases hjk : j = k
        · rw [hjk]
          exact h
        · exact HN.out j (by omega)
      have HY : Hid (atS l k = s → inB l s = true) := fun h => inB_at hlt h
      generalize atS l k = x at l1 HX HY
      clear hce hcw hg
      by_cases hx : x = s
      · have hd : (x.toList == s.toList) = true := by rw [hx]; exact beq_self_eq_true _
        have HF := Lib.hid (HY.out hx)
        clear hx HX HY
        go_wp2
        go_ret
        exact ⟨by rw [HF.out]; rfl, HW.out⟩
      · have hd : (x.toList == s.toList) = false := by
          rw [beq_eq_false_iff_ne]
          exact fun e => hx (toList_inj e)
        have HF := Lib.hid (HX.out hx)
        clear hx HX HY
        go_wp2
        go_roundw
        case rel => exact ⟨k + 1, by omega, by go_num, HF, HW⟩
        case measure => simp [intOf]; omega
    · obtain rfl : k = l.length := by omega
      have HF : Hid (inB l s = false) := inB_all HN.out
      go_wp2
      go_ret
      exact ⟨by rw [HF.out]; rfl, HW.out⟩
end Go.Proofs.YtdchfmokicfmnaaDoor
end
section
namespace Go.Proofs.YtdchfmokicfmnaaDoor
open Go.RowKit Go.Maps Go.Shelf
set_option linter.unusedVariables false
set_option linter.unusedSimpArgs false
attribute [local go_sem ↓] Go.wp_at_zero Go.wp_at_succ

theorem colM_bit (ss : List ByteArray) (ts : List T) : ∀ (n k : Nat), k < n → (colM ss ts n).testBit k = knT ss (atT ts k)
  | 0, k, h => absurd h (Nat.not_lt_zero _)
  | n + 1, k, h => by
    have hlt := colM_lt ss ts n
    unfold colM
    by_cases hk : k = n
    · subst hk
      have h0 : (colM ss ts k).testBit k = false := Nat.testBit_lt_two_pow hlt
      split
      · next hx =>
        rw [Nat.testBit_or, Nat.testBit_two_pow_self, h0, hx]
        rfl
      · next hx =>
        rw [h0]
        exact (Bool.eq_false_iff.2 hx).symm
    · have ih := colM_bit ss ts n k (by omega)
      split
      · rw [Nat.testBit_or, ih, Nat.testBit_two_pow, decide_eq_false (by omega), Bool.or_false]
      · exact ih
theorem colM_zero (ss : List ByteArray) (ts : List T) (k : Nat) : decide (colM ss ts (k + 1) = 0) = (decide (colM ss ts k = 0) && !knT ss (atT ts k)) := by
  have hlt := colM_lt ss ts k
  have hp := Nat.two_pow_pos k
  have hor : ∀ a, a < 2 ^ k → (a ||| 2 ^ k) = a + 2 ^ k := fun a ha => by
    have := Nat.two_pow_add_eq_or_of_lt ha 1
    rw [Nat.mul_one] at this
    rw [Nat.or_comm, ← this, Nat.add_comm]
  rw [colM]
  cases hz : knT ss (atT ts k)
  · simp
  · rw [if_pos rfl, hor _ hlt, decide_eq_false (by omega)]
    simp
theorem colM_full (ss : List ByteArray) (ts : List T) (k : Nat) : decide (colM ss ts (k + 1) = 2 ^ (k + 1) - 1) = (decide (colM ss ts k = 2 ^ k - 1) && knT ss (atT ts k)) := by
  have hlt := colM_lt ss ts k
  have hp := Nat.two_pow_pos k
  have hor : ∀ a, a < 2 ^ k → (a ||| 2 ^ k) = a + 2 ^ k := fun a ha => by
    have := Nat.two_pow_add_eq_or_of_lt ha 1
    rw [Nat.mul_one] at this
    rw [Nat.or_comm, ← this, Nat.add_comm]
  have h2 : (2 : Nat) ^ (k + 1) = 2 * 2 ^ k := by rw [Nat.pow_succ, Nat.mul_comm]
  rw [colM, h2]
  cases hz : knT ss (atT ts k)
  · rw [if_neg (by decide), decide_eq_false (by omega)]
    simp
  · rw [if_pos rfl, hor _ hlt, Bool.and_true]
    by_cases h : colM ss ts k = 2 ^ k - 1
    · rw [decide_eq_true h, decide_eq_true (by omega)]
    · rw [decide_eq_false h, decide_eq_false (by omega)]
/-- the step of a comparison -/
theorem cmp_kind {d : Nat} {ss : List ByteArray} {x : Lit4} {k : Nat} (hx : litB x = true) (h3 : x.k = 3) (hk : ((stM (d + 1) ss x k).k != 0) = true) : (stM (d + 1) ss x k).m = 0 ∧ (((stM (d + 1) ss x k).k = 5 ∧ (stM (d + 1) ss x k).g.length = 0) ∨ ((stM (d + 1) ss x k).k = 6 ∧ (stM (d + 1) ss x k).g.length = 1 ∧ x.rel = 1)) := by
  unfold litB at hx
  rw [if_neg (by rw [h3]; decide), if_pos h3] at hx
  simp only [Bool.and_eq_true, decide_eq_true_eq] at hx
  have hts : x.ts = [] := List.eq_nil_of_length_eq_zero hx.2.1
  have one : ∀ e : E, exprB 8 e = true → e.op = 0 → (vsT [] (termsD (d + 1) e)).length ≤ 1 := fun e he h0 => by
    rw [exprB] at he
    simp only [Bool.and_eq_true, decide_eq_true_eq] at he
    have hk0 : e.kids.length = 0 := by
      rw [he.1.2, h0]
      rfl
    rw [vsT_leaf hk0]
    split <;> simp
  have hLl := one x.l hx.2.2.2.2.1
  have hLr := one x.r hx.2.2.2.2.2
  have hn1 : ¬ x.k = 1 := by rw [h3]; decide
  have hn2 : ¬ x.k = 2 := by rw [h3]; decide
  have hA := lackL_len ss (vsT [] (termsD (d + 1) x.l))
  have hB := lackL_len ss (vsT [] (termsD (d + 1) x.r))
  unfold stM at hk ⊢
  rw [if_neg hn1, if_neg hn2] at hk ⊢
  simp only at hk ⊢
  generalize lackL ss (vsT [] (termsD (d + 1) x.l)) = A at hk hA ⊢
  generalize lackL ss (vsT [] (termsD (d + 1) x.r)) = B at hk hB ⊢
  refine ⟨by rw [hts]; rfl, ?_⟩
  unfold cmpM at hk ⊢
  by_cases c1 : A.length = 0 ∧ B.length = 0
  · rw [if_pos c1]
    exact .inl ⟨rfl, rfl⟩
  · rw [if_neg c1] at hk ⊢
    by_cases c2 : x.rel ≠ 1
    · rw [if_pos c2] at hk
      cases hk
    · rw [if_neg c2] at hk ⊢
      have hr : x.rel = 1 := Decidable.not_not.1 c2
      by_cases c3 : B.length = 0 ∧ x.l.op = 0
      · rw [if_pos c3]
        have := hLl c3.2
        exact .inr ⟨rfl, by show A.length = 1; omega, hr⟩
      · rw [if_neg c3] at hk ⊢
        by_cases c4 : A.length = 0 ∧ x.r.op = 0
        · rw [if_pos c4]
          have := hLr c4.2
          exact .inr ⟨rfl, by show B.length = 1; omega, hr⟩
        · rw [if_neg c4] at hk
          cases hk
theorem load_relP {u : World} {a : Addr} {v : Value} (h : u.cell? a = some v) : (loadVar 43 a).run Tryd.prog u = .ok v u := by rw [loadVar.eq_1]; go_simp
theorem load_lkP {u : World} {a : Addr} {v : Value} (h : u.cell? a = some v) : (loadVar 39 a).run Tryd.prog u = .ok v u := by rw [loadVar.eq_1]; go_simp
theorem load_teP {u : World} {g o : Nat} {cs : List Value} (h : u.rangeAt g o cs) (hl : cs.length = 4) : (loadVar 49 ⟨g, o, none⟩).run Tryd.prog u = .ok (.agg cs.toArray) u :=
  run_loadVar_mid u g o 49 cs _ h Tryd.underlying49 rfl (by rw [hl]; kernel_rfl)
attribute [-go_sem] loadVar
set_option maxHeartbeats 3200000 in
set_option maxRecDepth 100000 in
theorem marked_cmp {w : World} {x : Lit4} {q : LP} {hv : Value} {sk si : Int} {g : List ByteArray} {sa : Option Addr} {sc : Nat} (h3 : x.k = 3) (hs : (sk = 5 ∧ g.length = 0) ∨ (sk = 6 ∧ g.length = 1 ∧ x.rel = 1)) :
    Calls Tryd.prog 9 #[x.val q, .agg #[.int .i8 sk, .int .i64 si, .int .u32 0, .slice sa g.length sc], hv] w fun e w' => e = .returned (.bool true) ∧ Below w.heap.size w w' := by
  have hA0 := belowA (w := w) (.cells #[.int .i8 x.k, .string x.pr, .slice q.a x.ts.length q.c, .int .i8 x.rel, .int .i8 x.l.op, .string x.l.t.v, .int .i8 x.l.t.a.k, .int .i64 x.l.t.a.n, .string x.l.t.a.s, .slice q.la x.l.kids.length q.lc, .int .i8 x.r.op, .string x.r.t.v, .int .i8 x.r.t.a.k, .int .i64 x.r.t.a.n, .string x.r.t.a.s, .slice q.ra x.r.kids.length q.rc] 54)
  have hA1 : Below w.heap.size w ((w.alloc (.cells #[.int .i8 x.k, .string x.pr, .slice q.a x.ts.length q.c, .int .i8 x.rel, .int .i8 x.l.op, .string x.l.t.v, .int .i8 x.l.t.a.k, .int .i64 x.l.t.a.n, .string x.l.t.a.s, .slice q.la x.l.kids.length q.lc, .int .i8 x.r.op, .string x.r.t.v, .int .i8 x.r.t.a.k, .int .i64 x.r.t.a.n, .string x.r.t.a.s, .slice q.ra x.r.kids.length q.rc] 54)).alloc (.cells #[.int .i8 sk, .int .i64 si, .int .u32 0, .slice sa g.length sc] 38)) := hA0.trans ((belowA _).mono hA0.size)
  have r3 : RL ((w.alloc (.cells #[.int .i8 x.k, .string x.pr, .slice q.a x.ts.length q.c, .int .i8 x.rel, .int .i8 x.l.op, .string x.l.t.v, .int .i8 x.l.t.a.k, .int .i64 x.l.t.a.n, .string x.l.t.a.s, .slice q.la x.l.kids.length q.lc, .int .i8 x.r.op, .string x.r.t.v, .int .i8 x.r.t.a.k, .int .i64 x.r.t.a.n, .string x.r.t.a.s, .slice q.ra x.r.kids.length q.rc] 54)).alloc (.cells #[.int .i8 sk, .int .i64 si, .int .u32 0, .slice sa g.length sc] 38)) w.heap.size 54 [.int .i8 x.k, .string x.pr, .slice q.a x.ts.length q.c, .int .i8 x.rel, .int .i8 x.l.op, .string x.l.t.v, .int .i8 x.l.t.a.k, .int .i64 x.l.t.a.n, .string x.l.t.a.s, .slice q.la x.l.kids.length q.lc, .int .i8 x.r.op, .string x.r.t.v, .int .i8 x.r.t.a.k, .int .i64 x.r.t.a.n, .string x.r.t.a.s, .slice q.ra x.r.kids.length q.rc] := RL.below (rl_new w #[.int .i8 x.k, .string x.pr, .slice q.a x.ts.length q.c, .int .i8 x.rel, .int .i8 x.l.op, .string x.l.t.v, .int .i8 x.l.t.a.k, .int .i64 x.l.t.a.n, .string x.l.t.a.s, .slice q.la x.l.kids.length q.lc, .int .i8 x.r.op, .string x.r.t.v, .int .i8 x.r.t.a.k, .int .i64 x.r.t.a.n, .string x.r.t.a.s, .slice q.ra x.r.kids.length q.rc] 54) (belowA _)
  have r4 := rl_new (w.alloc (.cells #[.int .i8 x.k, .string x.pr, .slice q.a x.ts.length q.c, .int .i8 x.rel, .int .i8 x.l.op, .string x.l.t.v, .int .i8 x.l.t.a.k, .int .i64 x.l.t.a.n, .string x.l.t.a.s, .slice q.la x.l.kids.length q.lc, .int .i8 x.r.op, .string x.r.t.v, .int .i8 x.r.t.a.k, .int .i64 x.r.t.a.n, .string x.r.t.a.s, .slice q.ra x.r.kids.length q.rc] 54)) #[.int .i8 sk, .int .i64 si, .int .u32 0, .slice sa g.length sc] 38
  rw [World.size_alloc] at r4
  have l1 := load_lkP (RL.at r3 (j := 0) rfl)
  have l2 := load_relP (RL.at r3 (j := 3) rfl)
  have l3 := load_kdP (RL.at r4 (j := 0) rfl)
  have l4 := load_mkP (RL.at r4 (j := 2) rfl)
  have l5 := load_ssP (RL.at r4 (j := 3) rfl)
  have HB := Lib.hid hA1
  have dk : (x.k == 3) = true := by rw [h3]; rfl
  clear hA0 hA1 r3 r4 h3
  unfold Lit4.val
  rcases hs with ⟨rfl, hg⟩ | ⟨rfl, hg, hr⟩
  · rw [hg] at l1 l2 l3 l4 l5 HB ⊢
    go_enter Tryd.func9, Tryd.ntmps9
    go_wp2
    go_ret
    exact ⟨rfl, HB.out⟩
  · rw [hg] at l1 l2 l3 l4 l5 HB ⊢
    rw [hr] at l1 l2 l3 l4 l5 HB ⊢
    go_enter Tryd.func9, Tryd.ntmps9
    go_wp2
    go_ret
    exact ⟨rfl, HB.out⟩
end Go.Proofs.YtdchfmokicfmnaaDoor
end
