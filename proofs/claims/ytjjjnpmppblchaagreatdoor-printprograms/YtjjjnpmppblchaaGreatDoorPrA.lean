import Derived.Test.YtjjjnpmppblchaaGreatDoorPrintR
import Derived.Test.YtjjjnpmppblchaaGreatDoorPrintN
import Derived.Test.YtjjjnpmppblchaaGreatDoorTermIn
import Derived.Test.YtjjjnpmppblchaaGreatDoorRuA
namespace Go.Proofs.YtjjjnpmppblchaaGreatDoor
open Go.RowKit Go.Maps
set_option linter.unusedVariables false
set_option linter.unusedSimpArgs false
attribute [local go_sem ↓] Go.wp_at_zero Go.wp_at_succ

def preT (p : ByteArray) (ts : List T) (k : Nat) : List UInt8 := p.data.toList ++ [40] ++ upT ts k
def strT (t : T) : List Value := [.string (termS t)]
theorem txt_bytes (s : ByteArray) : txt s.data.toList = s := arr_bytes s rfl
theorem txt_term (t : T) : txt (termT t) = termS t := termS_eq t
theorem preT_le (p : ByteArray) {ts : List T} {k : Nat} (h : k ≤ ts.length) (h0 : ts.length ≠ 0) : (preT p ts k).length < (atomT p ts).length := by
  have h1 := upT_le ts k (ts.length - k)
  rw [show k + (ts.length - k) = ts.length by omega] at h1
  unfold preT atomT colT
  rw [if_neg h0]
  simp only [List.length_append, List.length_cons, List.length_nil]
  omega
theorem preT_end (p : ByteArray) {ts : List T} (h0 : ts.length ≠ 0) : preT p ts ts.length ++ [41] = atomT p ts := by
  unfold preT atomT colT
  rw [if_neg h0]
  simp only [List.append_assoc]
theorem preT_zero (p : ByteArray) (ts : List T) : p ++ (⟨#[40]⟩ : ByteArray) = txt (preT p ts 0) := by
  conv => lhs; rw [← txt_bytes p, txt_one, txt_app]
  simp [preT, upT]
set_option maxHeartbeats 1600000 in
theorem r6columns_any (pr : ByteArray) (v : Value) (ts : List T) (w : World) (hlen : (atomT pr ts).length ≤ 1000000000) (hl : Ls w v ts.length (ts.flatMap strT)) :
    Calls Tryz.prog 29 #[.string pr, v] w fun r w' => r = .returned (.string (txt (atomT pr ts))) ∧ w' = w := by
  obtain ⟨hmax, a, c, rfl, hc1, hc2, hk⟩ := hl
  unfold maxLen at hmax
  by_cases h0 : ts.length = 0
  · have e0 : txt (atomT pr ts) = pr := by unfold atomT colT; rw [if_pos h0, List.append_nil, txt_bytes]
    rw [e0]
    have h0' : ((ts.length : Nat) : Int) = 0 := by omega
    clear hk e0
    go_enter Tryz.func29, Tryz.ntmps29
    go_wp2
    go_ret
    exact ⟨rfl, rfl⟩
  · obtain ⟨g, off, rfl, hg, hf⟩ := hk (by omega)
    have hF : Hid (∀ k, k < ts.length → w.cell? ⟨g, off + k, none⟩ = some (.string (termS (atT ts k)))) := fun k hk => by
      have := hf.elem (k := 1) (fun _ => rfl) T0 (j := 0) hk (by decide) (u := .string (termS (atT ts k))) rfl
      simpa using this
    have h0' : ¬ ((ts.length : Nat) : Int) = 0 := by omega
    have HLn : Hid _ := hlen
    have HN0 : Hid (ts.length ≠ 0) := h0
    have hz := preT_zero pr ts
    have hps : pr.size ≤ 1000000000 := by
      have : pr.size ≤ (atomT pr ts).length := by unfold atomT; rw [List.length_append, len_toList]; omega
      omega
    obtain ⟨S0, hS0⟩ : ∃ S0, txt (preT pr ts 0) = S0 := ⟨_, rfl⟩
    rw [hS0] at hz
    have HS0 : Hid _ := hS0
    obtain ⟨SE, hSE⟩ : ∃ SE, txt (atomT pr ts) = SE := ⟨_, rfl⟩
    rw [hSE]
    have HSE : Hid _ := hSE
    clear hf hk hlen h0 hS0 hSE
    go_enter Tryz.func29, Tryz.ntmps29
    go_wp2
    go_loopw [5, 6] (fun s i wr => ∃ k : Nat, k ≤ ts.length ∧ i = .int .i64 k ∧ ∃ S, s = .string S ∧ Hid (txt (preT pr ts k) = S) ∧ Hid (wr = w)) (fun _ i _ => ts.length - (intOf i).toNat)
    case atStart => exact ⟨0, Nat.zero_le _, rfl, S0, rfl, HS0, rfl⟩
    case round =>
      obtain ⟨k, hk, rfl, S, rfl, HS, HW⟩ := hrel
      clear hz HS0 hps
      have hss : S.size ≤ 1000000000 := by
        rw [← HS.out, txt_size]
        have := preT_le pr hk HN0.out
        have := HLn.out
        omega
      by_cases hlt : k < ts.length
      · have hlt' : (k : Int) < (ts.length : Int) := by omega
        have hc : wr.cell? ⟨g, off + k, none⟩ = some (.string (termS (atT ts k))) := by rw [HW.out]; exact hF.out k hlt
        have HU : Hid (preT pr ts (k + 1) = preT pr ts k ++ ((if k = 0 then [] else [44, 32]) ++ termT (atT ts k))) := by show _ = _; unfold preT; rw [upT]; simp only [List.append_assoc]
        have HT : Hid _ := txt_term (atT ts k)
        have HLe : Hid _ := preT_le pr (k := k + 1) hlt HN0.out
        generalize atT ts k = t at hc HU HT
        have hts : (termS t).size ≤ 1000000000 := by
          rw [← HT.out, txt_size]
          have h1 := HLe.out
          have h2 := HLn.out
          have h3 := congrArg List.length HU.out
          rw [List.length_append, List.length_append] at h3
          omega
        by_cases k0 : k = 0
        · have k0' : ¬ (0 : Int) < (k : Int) := by omega
          have hadd : S ++ termS t = txt (preT pr ts (k + 1)) := by rw [HU.out, if_pos k0, List.nil_append, ← HS.out, ← HT.out, txt_app]
          obtain ⟨S2, hS2⟩ : ∃ S2, txt (preT pr ts (k + 1)) = S2 := ⟨_, rfl⟩
          rw [hS2] at hadd
          have HS2 : Hid _ := hS2
          clear hS2 k0 HU HLe
          go_wp2
          go_roundw
          case rel => exact ⟨k + 1, by omega, by go_num, S2, rfl, HS2, HW⟩
          case measure => simp [intOf]; omega
        · have k0' : (0 : Int) < (k : Int) := by omega
          have hadd1 : S ++ (⟨#[44, 32]⟩ : ByteArray) = txt (preT pr ts k ++ [44, 32]) := by rw [← HS.out, show (⟨#[44, 32]⟩ : ByteArray) = txt [44, 32] from rfl, txt_app]
          have hadd : txt (preT pr ts k ++ [44, 32]) ++ termS t = txt (preT pr ts (k + 1)) := by rw [HU.out, if_neg k0, ← HT.out, txt_app]; simp only [List.append_assoc]
          obtain ⟨S2, hS2⟩ : ∃ S2, txt (preT pr ts (k + 1)) = S2 := ⟨_, rfl⟩
          obtain ⟨S1, hS1⟩ : ∃ S1, txt (preT pr ts k ++ [44, 32]) = S1 := ⟨_, rfl⟩
          have hs1 : S1.size ≤ 1000000010 := by
            rw [← hS1, txt_size, List.length_append, ← txt_size, HS.out]
            simp only [List.length_cons, List.length_nil]
            omega
          rw [hS2, hS1] at hadd
          rw [hS1] at hadd1
          have HS2 : Hid _ := hS2
          clear hS2 hS1 k0 HU HLe
          go_wp2
          go_roundw
          case rel => exact ⟨k + 1, by omega, by go_num, S2, rfl, HS2, HW⟩
          case measure => simp [intOf]; omega
      · obtain rfl : k = ts.length := by omega
        have hadd : S ++ (⟨#[41]⟩ : ByteArray) = SE := by rw [← HSE.out, ← preT_end pr HN0.out, ← HS.out, txt_one, txt_app]
        go_wp2
        go_ret
        exact ⟨rfl, HW.out⟩
open Go.RowKit Go.Maps
set_option linter.unusedVariables false
set_option linter.unusedSimpArgs false
attribute [local go_sem ↓] Go.wp_at_zero Go.wp_at_succ

theorem strT_take {ts : List T} {k : Nat} (h : k < ts.length) : (ts.take (k + 1)).flatMap strT = (ts.take k).flatMap strT ++ [.string (termS (atT ts k))] := by
  rw [List.take_succ_eq_append_getElem h, List.flatMap_append, atT_eq h]
  rfl
set_option maxHeartbeats 1600000 in
theorem r6atom_any (pr : ByteArray) (v : Value) (ts : List T) (w : World) (hok : ts.all termB = true) (h24 : ts.length ≤ 24) (hlen : (atomT pr ts).length ≤ 1000000000) (hl : Lt w v ts) :
    Calls Tryz.prog 57 #[.agg #[.string pr, v]] w fun r w' => r = .returned (.string (txt (atomT pr ts))) ∧ Below w.heap.size w w' := by
  obtain ⟨i0, hi0, hz0, hz1, hz2⟩ := info_parts infoStr
  have hwf := hl.wf
  obtain ⟨a, c, rfl, hc1, hc2, hat⟩ := hl.form
  have BA := (Below.refl w.heap.size w).alloc (Nat.le_refl _) (.cells #[.string pr, .slice a ts.length c] 61)
  have HAT : Hid _ := hat
  have HWF : Hid _ := hwf
  have HLn : Hid _ := hlen
  have HOK : Hid (∀ i, i < ts.length → termB (atT ts i) = true) := fun i hi => by rw [atT_eq hi]; exact List.all_eq_true.1 hok _ (List.getElem_mem hi)
  obtain ⟨SE, hSE⟩ : ∃ SE, txt (atomT pr ts) = SE := ⟨_, rfl⟩
  rw [hSE]
  have HSE : Hid _ := hSE
  have HBA : Hid (Below w.heap.size w _) := BA
  clear hl hat hok hlen hwf hSE BA
  go_enter Tryz.func57, Tryz.ntmps57
  go_wp2
  go_loopw [3, 4] (fun l i wr => ∃ k : Nat, k ≤ ts.length ∧ i = .int .i64 k ∧ Below (w.heap.size + 1) (w.alloc (.cells #[.string pr, .slice a ts.length c] 61)) wr ∧ wr.ownsRow (w.heap.size + 1) 9 1 l k ((ts.take k).flatMap strT)) (fun _ i _ => ts.length - (intOf i).toNat)
  case atStart => exact ⟨0, Nat.zero_le _, rfl, Below.refl _ _, World.ownsRow_nil _ _ _ _⟩
  case round =>
    obtain ⟨k, hk, rfl, bel, hown⟩ := hrel
    obtain ⟨ao, co, rfl, hlo⟩ := own_form hown
    have y0 : wr.cell? ⟨w.heap.size, 0, none⟩ = some (.string pr) := by rw [bel.cell (p := ⟨w.heap.size, 0, none⟩) (by simp)]; go_simp
    have y1 : wr.cell? ⟨w.heap.size, 1, none⟩ = some (.slice a ts.length c) := by rw [bel.cell (p := ⟨w.heap.size, 1, none⟩) (by simp)]; go_simp
    have bel' : Below w.heap.size w wr := HBA.out.trans (bel.mono (Nat.le_succ _))
    have hsz : w.heap.size + 1 ≤ wr.heap.size := by have := bel.size; simpa using this
    by_cases hlt : k < ts.length
    · have hlt' : (k : Int) < (ts.length : Int) := by omega
      obtain ⟨g, off, rfl, hg, hT⟩ := HAT.out (by omega)
      obtain ⟨x0, x1, x2, x3⟩ := (hT k hlt).below bel' hg
      have htw := atT_wf HWF.out k
      have hok := HOK.out k hlt
      have HTK : Hid _ := strT_take hlt
      generalize atT ts k = t at x0 x1 x2 x3 htw hok HTK
      have HK : Hid _ := hok
      clear hT hok bel'
      go_wp2_with fail
      refine (r6term_any t _ htw HK.out).mono ?_
      rintro e w1 ⟨rfl, b1⟩
      have own1 := own_below hown b1
      have bel1 := bel.trans (b1.mono hsz)
      have hsz1 : w.heap.size + 1 ≤ w1.heap.size := Nat.le_trans hsz b1.size
      clear b1 x0 x1 x2 x3 y0 y1 hown bel
      generalize termS t = S at HTK
      go_wp2_with (at_builtin; refine wpList_append_own_at _ rfl _ _ 72 rfl (w.heap.size + 1) 9 i0 _ 1 16 Tryz.underlying72 hi0 hz0 hz1 hz2 rfl (by decide) _ _ _ rfl (own_below own1 ((Below.refl _ _).alloc (Nat.le_refl _) _)) ⟨_, 0, none⟩ 1 1 [.string S] rfl rfl (lit_news _ #[.string S] _) (by simp [Value.oneCell']) (by unfold maxLen; omega) (by omega) (by simp; omega) ?_; intro v' w2 hown' hgrow hnil hloc)
      go_roundw
      case rel => exact ⟨k + 1, by omega, by go_num, (bel1.alloc hsz1 _).grown hgrow (by simp; omega) (fun j hj => (own1.lt j hj).1), by rw [HTK.out]; exact hown'⟩
      case measure => simp [intOf]; omega
    · obtain rfl : k = ts.length := by omega
      rw [List.take_length] at hown
      have HLS : Hid _ := ls_own hown
      clear hown
      go_wp2_with fail
      refine (r6columns_any pr _ ts _ HLn.out HLS.out).mono ?_
      rintro e w1 ⟨rfl, rfl⟩
      rw [HSE.out]
      go_wp2
      go_ret
      exact ⟨rfl, bel'⟩
theorem atomB_len {p : ByteArray} {ts : List T} (h : atomB p ts = true) : ts.length ≤ 24 := by
  unfold atomB at h
  simp only [Bool.and_eq_true, decide_eq_true_eq] at h
  exact h.1.2
open Go.RowKit Go.Maps
set_option linter.unusedVariables false
set_option linter.unusedSimpArgs false
attribute [local go_sem ↓] Go.wp_at_zero Go.wp_at_succ

theorem rel6_any (p : Nat) (h2 : 1 ≤ p) (h7 : p ≤ 6) (w : World) : Calls Tryz.prog 59 #[.int .i8 (p : Int)] w fun r w' => r = .returned (.string (relS p)) ∧ w' = w := by
  rcases (by omega : p = 1 ∨ p = 2 ∨ p = 3 ∨ p = 4 ∨ p = 5 ∨ p = 6) with rfl | rfl | rfl | rfl | rfl | rfl
  all_goals
    go_enter Tryz.func59, Tryz.ntmps59
    go_wp2
    go_ret
    exact ⟨rfl, rfl⟩
theorem relS_txt (p : Nat) : relS p = txt (relT p) := rfl
set_option maxHeartbeats 3200000 in
theorem r6literal_any (d : Nat) (x : Lit4) (p : LP) (w : World) (h : LIs w d x p) (hok : litB x = true) :
    Calls Tryz.prog 30 #[x.val p] w fun r w' => r = .returned (.string (txt (litT x))) ∧ Below w.heap.size w w' := by
  rcases litB_form hok with ⟨e, ha⟩ | ⟨e, ha⟩ | ⟨e, r1, r6, el, er⟩
  · have hT : litT x = atomT x.pr x.ts := by unfold litT; rw [if_pos e]
    have ha1 := (atomT_len h.ts.wf ha).2
    have HA : Hid (∀ u, Below w.heap.size w u → Calls Tryz.prog 57 #[.agg #[.string x.pr, .slice p.a x.ts.length p.c]] u fun r w' => r = .returned (.string (txt (atomT x.pr x.ts))) ∧ Below u.heap.size u w') := fun u hu => r6atom_any x.pr _ x.ts u (atomB_all ha) (atomB_len ha) (by omega) (h.ts.below hu)
    rw [hT]
    obtain ⟨k, pr, ts, rel, l, r⟩ := x
    dsimp only at *
    subst e
    have BA := (Below.refl w.heap.size w).alloc (Nat.le_refl _) (.cells #[.int .i8 1, .string pr, .slice p.a ts.length p.c, .int .i8 rel, .int .i8 l.op, .string l.t.v, .int .i8 l.t.a.k, .int .i64 l.t.a.n, .string l.t.a.s, .slice p.la l.kids.length p.lc, .int .i8 r.op, .string r.t.v, .int .i8 r.t.a.k, .int .i64 r.t.a.n, .string r.t.a.s, .slice p.ra r.kids.length p.rc] 66)
    clear h hok ha hT
    generalize txt (atomT pr ts) = S at HA ⊢
    unfold Lit4.val
    dsimp only
    go_enter Tryz.func30, Tryz.ntmps30
    go_wp2_with fail
    refine Calls.mono (HA.out _ BA) ?_
    rintro ee w1 ⟨rfl, b1⟩
    go_wp2
    go_ret
    exact ⟨rfl, BA.trans (b1.mono BA.size)⟩
  · have hT : litT x = [110, 111, 116, 32] ++ atomT x.pr x.ts := by unfold litT; rw [if_neg (by omega), if_pos e]
    have ha1 := (atomT_len h.ts.wf ha).2
    have HA : Hid (∀ u, Below w.heap.size w u → Calls Tryz.prog 57 #[.agg #[.string x.pr, .slice p.a x.ts.length p.c]] u fun r w' => r = .returned (.string (txt (atomT x.pr x.ts))) ∧ Below u.heap.size u w') := fun u hu => r6atom_any x.pr _ x.ts u (atomB_all ha) (atomB_len ha) (by omega) (h.ts.below hu)
    rw [hT]
    obtain ⟨k, pr, ts, rel, l, r⟩ := x
    dsimp only at *
    subst e
    have BA := (Below.refl w.heap.size w).alloc (Nat.le_refl _) (.cells #[.int .i8 2, .string pr, .slice p.a ts.length p.c, .int .i8 rel, .int .i8 l.op, .string l.t.v, .int .i8 l.t.a.k, .int .i64 l.t.a.n, .string l.t.a.s, .slice p.la l.kids.length p.lc, .int .i8 r.op, .string r.t.v, .int .i8 r.t.a.k, .int .i64 r.t.a.n, .string r.t.a.s, .slice p.ra r.kids.length p.rc] 66)
    clear h hok ha hT
    have hadd : (⟨#[110, 111, 116, 32]⟩ : ByteArray) ++ txt (atomT pr ts) = txt ([110, 111, 116, 32] ++ atomT pr ts) := by rw [show (⟨#[110, 111, 116, 32]⟩ : ByteArray) = txt [110, 111, 116, 32] from rfl, txt_app]
    have hs : (txt (atomT pr ts)).size ≤ 30000 := by rw [txt_size]; exact ha1
    generalize txt ([110, 111, 116, 32] ++ atomT pr ts) = S2 at hadd ⊢
    generalize txt (atomT pr ts) = S at HA hadd hs
    unfold Lit4.val
    dsimp only
    go_enter Tryz.func30, Tryz.ntmps30
    go_wp2_with fail
    refine Calls.mono (HA.out _ BA) ?_
    rintro ee w1 ⟨rfl, b1⟩
    go_wp2
    go_ret
    exact ⟨rfl, BA.trans (b1.mono BA.size)⟩
  · have hT : litT x = textE 8 x.l ++ (([32] ++ relT x.rel.toNat ++ [32]) ++ textE 8 x.r) := by unfold litT; rw [if_neg (by omega), if_neg (by omega)]
    have hl1 := textE_len 8 d x.l p.la p.lc w h.l el
    have hl2 := textE_len 8 d x.r p.ra p.rc w h.r er
    have HEl : Hid (∀ u, Below w.heap.size w u → Calls Tryz.prog 58 #[x.l.val p.la p.lc] u fun r w' => r = .returned (.string (txt (textE 8 x.l))) ∧ Below u.heap.size u w') := fun u hu => r6expr_any 8 d x.l p.la p.lc u (h.l.below hu) el (by omega)
    have HEr : Hid (∀ u, Below w.heap.size w u → Calls Tryz.prog 58 #[x.r.val p.ra p.rc] u fun r w' => r = .returned (.string (txt (textE 8 x.r))) ∧ Below u.heap.size u w') := fun u hu => r6expr_any 8 d x.r p.ra p.rc u (h.r.below hu) er (by omega)
    rw [hT]
    obtain ⟨k, pr, ts, rel, l, r⟩ := x
    dsimp only at *
    subst e
    obtain ⟨n, rfl⟩ : ∃ n : Nat, rel = n := ⟨rel.toNat, by omega⟩
    rw [Int.toNat_natCast]
    have HR : Hid (∀ u, Calls Tryz.prog 59 #[.int .i8 (n : Int)] u fun r w' => r = .returned (.string (relS n)) ∧ w' = u) := fun u => rel6_any n (by omega) (by omega) u
    clear h hok hT el er r1 r6
    generalize textE 8 l = kt at HEl hl1 ⊢
    generalize textE 8 r = kt' at HEr hl2 ⊢
    obtain ⟨lo, lt, lk⟩ := l
    obtain ⟨ro, rt, rk⟩ := r
    unfold Lit4.val E.val at *
    simp only [op_mk, t_mk, kids_mk] at HEl HEr ⊢
    have BA := (Below.refl w.heap.size w).alloc (Nat.le_refl _) (.cells #[.int .i8 3, .string pr, .slice p.a ts.length p.c, .int .i8 (n : Int), .int .i8 lo, .string lt.v, .int .i8 lt.a.k, .int .i64 lt.a.n, .string lt.a.s, .slice p.la lk.length p.lc, .int .i8 ro, .string rt.v, .int .i8 rt.a.k, .int .i64 rt.a.n, .string rt.a.s, .slice p.ra rk.length p.rc] 66)
    have hrl := relT_len n
    have e1 : txt kt ++ (⟨#[32]⟩ : ByteArray) = txt (kt ++ [32]) := by rw [txt_one, txt_app]
    have e2 : txt (kt ++ [32]) ++ relS n = txt (kt ++ [32] ++ relT n) := by rw [relS_txt, txt_app]
    have e3 : txt (kt ++ [32] ++ relT n) ++ (⟨#[32]⟩ : ByteArray) = txt (kt ++ [32] ++ relT n ++ [32]) := by rw [txt_one, txt_app]
    have e4 : txt (kt ++ [32] ++ relT n ++ [32]) ++ txt kt' = txt (kt ++ (([32] ++ relT n ++ [32]) ++ kt')) := by rw [txt_app]; simp [List.append_assoc]
    have s1 : ¬ 9223372036854775807 < (txt kt).size + 1 := by rw [txt_size]; omega
    have s2 : ¬ 9223372036854775807 < (txt (kt ++ [32])).size + (relS n).size := by rw [relS_txt, txt_size, txt_size, List.length_append]; simp only [List.length_cons, List.length_nil]; omega
    have s3 : ¬ 9223372036854775807 < (txt (kt ++ [32] ++ relT n)).size + 1 := by rw [txt_size, List.length_append, List.length_append]; simp only [List.length_cons, List.length_nil]; omega
    have s4 : ¬ 9223372036854775807 < (txt (kt ++ [32] ++ relT n ++ [32])).size + (txt kt').size := by rw [txt_size, txt_size, List.length_append, List.length_append, List.length_append]; simp only [List.length_cons, List.length_nil]; omega
    generalize txt (kt ++ (([32] ++ relT n ++ [32]) ++ kt')) = TX at e4 ⊢
    generalize txt (kt ++ [32] ++ relT n ++ [32]) = A3 at e3 e4 s4
    generalize txt (kt ++ [32] ++ relT n) = A2 at e2 e3 s3
    generalize txt (kt ++ [32]) = A1 at e1 e2 s2
    generalize txt kt = S at e1 s1 HEl
    generalize txt kt' = S' at e4 s4 HEr
    generalize relS n = O at e2 s2 HR
    have HC : Hid (∀ u, Below (w.alloc (.cells #[.int .i8 3, .string pr, .slice p.a ts.length p.c, .int .i8 (n : Int), .int .i8 lo, .string lt.v, .int .i8 lt.a.k, .int .i64 lt.a.n, .string lt.a.s, .slice p.la lk.length p.lc, .int .i8 ro, .string rt.v, .int .i8 rt.a.k, .int .i64 rt.a.n, .string rt.a.s, .slice p.ra rk.length p.rc] 66)).heap.size (w.alloc (.cells #[.int .i8 3, .string pr, .slice p.a ts.length p.c, .int .i8 (n : Int), .int .i8 lo, .string lt.v, .int .i8 lt.a.k, .int .i64 lt.a.n, .string lt.a.s, .slice p.la lk.length p.lc, .int .i8 ro, .string rt.v, .int .i8 rt.a.k, .int .i64 rt.a.n, .string rt.a.s, .slice p.ra rk.length p.rc] 66)) u → Below w.heap.size w u ∧ u.cell? ⟨w.heap.size, 3, none⟩ = some (.int .i8 (n : Int)) ∧ u.cell? ⟨w.heap.size, 4, none⟩ = some (.int .i8 lo) ∧ u.cell? ⟨w.heap.size, 5, none⟩ = some (.string lt.v) ∧ u.cell? ⟨w.heap.size, 6, none⟩ = some (.int .i8 lt.a.k) ∧ u.cell? ⟨w.heap.size, 7, none⟩ = some (.int .i64 lt.a.n) ∧ u.cell? ⟨w.heap.size, 8, none⟩ = some (.string lt.a.s) ∧ u.cell? ⟨w.heap.size, 9, none⟩ = some (.slice p.la lk.length p.lc) ∧ u.cell? ⟨w.heap.size, 10, none⟩ = some (.int .i8 ro) ∧ u.cell? ⟨w.heap.size, 11, none⟩ = some (.string rt.v) ∧ u.cell? ⟨w.heap.size, 12, none⟩ = some (.int .i8 rt.a.k) ∧ u.cell? ⟨w.heap.size, 13, none⟩ = some (.int .i64 rt.a.n) ∧ u.cell? ⟨w.heap.size, 14, none⟩ = some (.string rt.a.s) ∧ u.cell? ⟨w.heap.size, 15, none⟩ = some (.slice p.ra rk.length p.rc)) := fun u hu => by
      have q3 : u.cell? ⟨w.heap.size, 3, none⟩ = some (.int .i8 (n : Int)) := by rw [hu.cell (p := ⟨w.heap.size, 3, none⟩) (by simp)]; go_simp
      have q4 : u.cell? ⟨w.heap.size, 4, none⟩ = some (.int .i8 lo) := by rw [hu.cell (p := ⟨w.heap.size, 4, none⟩) (by simp)]; go_simp
      have q5 : u.cell? ⟨w.heap.size, 5, none⟩ = some (.string lt.v) := by rw [hu.cell (p := ⟨w.heap.size, 5, none⟩) (by simp)]; go_simp
      have q6 : u.cell? ⟨w.heap.size, 6, none⟩ = some (.int .i8 lt.a.k) := by rw [hu.cell (p := ⟨w.heap.size, 6, none⟩) (by simp)]; go_simp
      have q7 : u.cell? ⟨w.heap.size, 7, none⟩ = some (.int .i64 lt.a.n) := by rw [hu.cell (p := ⟨w.heap.size, 7, none⟩) (by simp)]; go_simp
      have q8 : u.cell? ⟨w.heap.size, 8, none⟩ = some (.string lt.a.s) := by rw [hu.cell (p := ⟨w.heap.size, 8, none⟩) (by simp)]; go_simp
      have q9 : u.cell? ⟨w.heap.size, 9, none⟩ = some (.slice p.la lk.length p.lc) := by rw [hu.cell (p := ⟨w.heap.size, 9, none⟩) (by simp)]; go_simp
      have q10 : u.cell? ⟨w.heap.size, 10, none⟩ = some (.int .i8 ro) := by rw [hu.cell (p := ⟨w.heap.size, 10, none⟩) (by simp)]; go_simp
      have q11 : u.cell? ⟨w.heap.size, 11, none⟩ = some (.string rt.v) := by rw [hu.cell (p := ⟨w.heap.size, 11, none⟩) (by simp)]; go_simp
      have q12 : u.cell? ⟨w.heap.size, 12, none⟩ = some (.int .i8 rt.a.k) := by rw [hu.cell (p := ⟨w.heap.size, 12, none⟩) (by simp)]; go_simp
      have q13 : u.cell? ⟨w.heap.size, 13, none⟩ = some (.int .i64 rt.a.n) := by rw [hu.cell (p := ⟨w.heap.size, 13, none⟩) (by simp)]; go_simp
      have q14 : u.cell? ⟨w.heap.size, 14, none⟩ = some (.string rt.a.s) := by rw [hu.cell (p := ⟨w.heap.size, 14, none⟩) (by simp)]; go_simp
      have q15 : u.cell? ⟨w.heap.size, 15, none⟩ = some (.slice p.ra rk.length p.rc) := by rw [hu.cell (p := ⟨w.heap.size, 15, none⟩) (by simp)]; go_simp
      exact ⟨BA.trans (hu.mono BA.size), q3, q4, q5, q6, q7, q8, q9, q10, q11, q12, q13, q14, q15⟩
    clear BA hl1 hl2 hrl
    go_enter Tryz.func30, Tryz.ntmps30
    go_upto_region 6 with fail
    generalize hWW : w.alloc (.cells #[.int .i8 3, .string pr, .slice p.a ts.length p.c, .int .i8 (n : Int), .int .i8 lo, .string lt.v, .int .i8 lt.a.k, .int .i64 lt.a.n, .string lt.a.s, .slice p.la lk.length p.lc, .int .i8 ro, .string rt.v, .int .i8 rt.a.k, .int .i64 rt.a.n, .string rt.a.s, .slice p.ra rk.length p.rc] 66) = W at HC ⊢
    clear hWW
    have hB0 : Below W.heap.size W W.drew := (Below.refl _ _).drew
    have hS0 := HC.out _ (Below.refl _ _)
    go_region_held3 (fun u => (Below W.heap.size W u) ∧ u.cell? ⟨w.heap.size, 3, none⟩ = some (.int .i8 (n : Int)) ∧ u.cell? ⟨w.heap.size, 4, none⟩ = some (.int .i8 lo) ∧ u.cell? ⟨w.heap.size, 5, none⟩ = some (.string lt.v) ∧ u.cell? ⟨w.heap.size, 6, none⟩ = some (.int .i8 lt.a.k) ∧ u.cell? ⟨w.heap.size, 7, none⟩ = some (.int .i64 lt.a.n) ∧ u.cell? ⟨w.heap.size, 8, none⟩ = some (.string lt.a.s) ∧ u.cell? ⟨w.heap.size, 9, none⟩ = some (.slice p.la lk.length p.lc) ∧ u.cell? ⟨w.heap.size, 10, none⟩ = some (.int .i8 ro) ∧ u.cell? ⟨w.heap.size, 11, none⟩ = some (.string rt.v) ∧ u.cell? ⟨w.heap.size, 12, none⟩ = some (.int .i8 rt.a.k) ∧ u.cell? ⟨w.heap.size, 13, none⟩ = some (.int .i64 rt.a.n) ∧ u.cell? ⟨w.heap.size, 14, none⟩ = some (.string rt.a.s) ∧ u.cell? ⟨w.heap.size, 15, none⟩ = some (.slice p.ra rk.length p.rc))
      (first
        | assumption
        | exact ⟨hB0, (HC.out _ hB0).2⟩
        | exact ⟨(by assumption), (HC.out _ (by assumption)).2⟩)
      (first
        | (go_at_call_of 58 (Value.string lt.v); refine Calls.mono (HEl.out _ (HC.out _ (by assumption)).1) ?_; rintro ee wf ⟨rfl, bf⟩; have bf' := below_next (wc := W) (by assumption) bf)
        | (go_at_call_of 58 (Value.string rt.v); refine Calls.mono (HEr.out _ (HC.out _ (by assumption)).1) ?_; rintro ee wf ⟨rfl, bf⟩; have bf' := below_next (wc := W) (by assumption) bf)
        | (go_at_call 59; refine Calls.mono (HR.out _) ?_; rintro ee wf ⟨rfl, rfl⟩)
        | fail)
    go_wp2
    go_ret
    exact ⟨rfl, (HC.out _ (by assumption)).1⟩
open Go.RowKit Go.Maps
set_option linter.unusedVariables false
set_option linter.unusedSimpArgs false

/-- the texts of the first k things, with a comma and a blank between each two -/
def upG (tx : List (List UInt8)) : Nat → List UInt8
  | 0 => []
  | k + 1 => upG tx k ++ ((if k = 0 then [] else [44, 32]) ++ tx.getD k [])
theorem upG_le (tx : List (List UInt8)) (k : Nat) : ∀ j, (upG tx k).length ≤ (upG tx (k + j)).length
  | 0 => Nat.le_refl _
  | j + 1 => by
    have := upG_le tx k j
    rw [← Nat.add_assoc, upG, List.length_append]
    omega
def colG (tx : List (List UInt8)) : List UInt8 := if tx.length = 0 then [] else [40] ++ upG tx tx.length ++ [41]
/-- the words of the aggregates -/
def aggTab : List (List UInt8) := [[], [99, 111, 117, 110, 116], [115, 117, 109], [109, 105, 110], [109, 97, 120]]
def aggT (n : Nat) : List UInt8 := aggTab.getD n []
def aggS (n : Nat) : ByteArray := ⟨(aggT n).toArray⟩
theorem aggS_bytes (n : Nat) : (aggS n).data.toList = aggT n := by simp [aggS]
theorem aggS_size (n : Nat) : (aggS n).size = (aggT n).length := by rw [← len_toList, aggS_bytes]
theorem aggT_len (p : Nat) : (aggT p).length ≤ 5 := by
  by_cases h : p < 5
  · exact (by decide : ∀ p : Fin 5, (aggT p.val).length ≤ 5) ⟨p, h⟩
  · unfold aggT
    rw [List.getD, List.getElem?_eq_none (by simp [aggTab]; omega)]
    simp
/-- the text of an argument, of a rule -/
def argT (x : A5) : List UInt8 := if x.g = 0 then termT x.t else aggT x.g.toNat ++ ([40] ++ (x.t.v.data.toList ++ [41]))
def txA (l : List A5) : List (List UInt8) := l.map argT
def txB (l : List XL) : List (List UInt8) := l.map (fun y => litT y.x)
def bodyT (l : List XL) : List UInt8 := if l.length = 0 then [] else [32, 58, 45, 32] ++ upG (txB l) l.length
def ruleT (r : R3) : List UInt8 := r.pr.data.toList ++ (colG (txA r.hd) ++ (bodyT r.bd ++ [46]))
theorem txA_at {l : List A5} {i : Nat} (h : i < l.length) : (txA l).getD i [] = argT (atA l i) := by simp [txA, List.getD, h, atA]
theorem txB_at {l : List XL} {i : Nat} (h : i < l.length) : (txB l).getD i [] = litT (atL l i).x := by simp [txB, List.getD, h, atL]
theorem txA_len (l : List A5) : (txA l).length = l.length := by simp [txA]
theorem txB_len (l : List XL) : (txB l).length = l.length := by simp [txB]
theorem argB_form {x : A5} (hx : x.wf) (h : argB x = true) : (x.g = 0 ∧ termB x.t = true) ∨ ((1 ≤ x.g ∧ x.g ≤ 4) ∧ x.t.v.size ≤ 1000) := by
  unfold argB at h
  split at h
  · next e =>
    refine .inl ⟨e, ?_⟩
    unfold namedB at h
    simp only [Bool.and_eq_true] at h
    exact h.2
  · split at h
    · next e =>
      refine .inr ⟨by omega, ?_⟩
      rw [of_decide_eq_true h]
      decide
    · split at h
      · next e =>
        refine .inr ⟨by omega, ?_⟩
        simp only [Bool.and_eq_true, Bool.not_eq_true', decide_eq_false_iff_not] at h
        have h1 := h.1
        unfold namedB at h1
        simp only [Bool.and_eq_true, Bool.not_eq_true', decide_eq_false_iff_not] at h1
        have h2 := (termT_len hx.t h1.2).2
        unfold termT at h2
        rw [if_neg h.2, len_toList] at h2
        exact h2
      · cases h
theorem argT_len {x : A5} (hx : x.wf) (h : argB x = true) : (argT x).length ≤ 2000 := by
  rcases argB_form hx h with ⟨e, ht⟩ | ⟨e, hv⟩
  · unfold argT
    rw [if_pos e]
    have := (termT_len hx.t ht).2
    omega
  · unfold argT
    rw [if_neg (by omega)]
    have := aggT_len x.g.toNat
    simp only [List.length_append, List.length_cons, List.length_nil, len_toList]
    omega
theorem upG_len {tx : List (List UInt8)} {m : Nat} (h : ∀ i, i < tx.length → (tx.getD i []).length ≤ m) : ∀ k, k ≤ tx.length → (upG tx k).length ≤ k * (m + 2)
  | 0, _ => by simp [upG]
  | k + 1, hk => by
    have h1 := upG_len h k (by omega)
    have h2 := h k (by omega)
    rw [upG, Nat.succ_mul]
    simp only [List.length_append]
    have h3 : (if k = 0 then ([] : List UInt8) else [44, 32]).length ≤ 2 := by split <;> simp
    omega
open Go.RowKit Go.Maps
set_option linter.unusedVariables false
set_option linter.unusedSimpArgs false
attribute [local go_sem ↓] Go.wp_at_zero Go.wp_at_succ

/-- the tables, with the aggregates -/
structure Gr (w : World) : Prop where
  gq : Gq w
  lag : 0 < w.heap.size
  ag : ∀ i : Nat, i < 5 → w.cell? ⟨0, i, none⟩ = some (.string (aggS i))
theorem Gr.below {w w' : World} (h : Gr w) (b : Below w.heap.size w w') : Gr w' :=
  ⟨h.gq.below b, Nat.lt_of_lt_of_le h.lag b.size, fun i hi => by rw [b.cell (p := ⟨_, i, none⟩) h.lag]; exact h.ag i hi⟩
theorem put_new4 {B b g : Nat} {l : List UInt8} {w : World} (s1 s2 s3 s4 : ByteArray) (hg : g = w.heap.size) (h : BldA B b l w) (hBw : B ≤ w.heap.size) (hl : l.length + (s1.size + s2.size + s3.size + s4.size) ≤ 1099511627776) :
    Calls Tryz.prog 31 #[self b, .slice (some ⟨g, 0, none⟩) 4 4] (w.alloc (.cells #[.string s1, .string s2, .string s3, .string s4] 9)) (Wrote B b l (s1.data.toList ++ (s2.data.toList ++ (s3.data.toList ++ s4.data.toList))) w) := by
  subst hg
  have BA := (Below.refl w.heap.size w).alloc (Nat.le_refl _) (.cells #[.string s1, .string s2, .string s3, .string s4] 9)
  have e : bytesOf [s1, s2, s3, s4] = s1.data.toList ++ (s2.data.toList ++ (s3.data.toList ++ s4.data.toList)) := by simp [bytesOf]
  have := put_any (g := w.heap.size) [s1, s2, s3, s4] (0, 0) (h.below BA) (Nat.le_trans hBw BA.size) (by rw [e]; simp only [List.length_append, len_toList]; omega) (by simp) (heap_alloc_new w _) (by have := h.lt; omega)
  rw [e] at this
  refine this.mono ?_
  rintro e w' ⟨rfl, h1, h2, h3⟩
  exact ⟨rfl, h1, (BA.mono hBw).trans h2, (Spare.below BA).trans h3⟩
set_option maxHeartbeats 1600000 in
theorem warg_any {B b : Nat} (x : A5) (hx : x.wf) (hok : argB x = true) (W0 : World) (hW : W0.heap.size ≤ B) (hG : Gr W0) (l : List UInt8) (w : World) (hb : Below W0.heap.size W0 w) (h : BldA B b l w) (hBw : B ≤ w.heap.size) (hl : l.length + (argT x).length ≤ 1099511627776) :
    Calls Tryz.prog 36 #[self b, .agg #[.int .i8 x.g, .string x.t.v, .int .i8 x.t.a.k, .int .i64 x.t.a.n, .string x.t.a.s]] w (Wrote B b l (argT x) w) := by
  have BA := (Below.refl w.heap.size w).alloc (Nat.le_refl _) (.cells #[.int .i8 x.g, .string x.t.v, .int .i8 x.t.a.k, .int .i64 x.t.a.n, .string x.t.a.s] 76)
  have hbl : BldA B b l _ := h.below BA
  have HGu : Hid (∀ u, Below W0.heap.size W0 u → Gr u) := fun u hu => hG.below hu
  have HBA : Hid (Below w.heap.size w _) := BA
  rcases argB_form hx hok with ⟨e, ht⟩ | ⟨⟨e1, e4⟩, hv⟩
  · have hT : argT x = termT x.t := by unfold argT; rw [if_pos e]
    rw [hT] at hl ⊢
    have f0 : (x.g == 0) = true := by rw [e]; rfl
    have HC : Hid _ := wterm_any x.t hx.t ht (hG.below (hb.trans (BA.mono hb.size))).gq.gp.pw hbl (Nat.le_trans hBw BA.size) hl
    clear hx hok hG h hT e ht hl hbl BA
    unfold T.val at HC
    unfold self at *
    go_enter Tryz.func36, Tryz.ntmps36
    go_wp2_with fail
    refine Calls.mono HC.out ?_
    rintro ee w2 hw2
    obtain ⟨rfl, hw3⟩ := hw2.from (HBA.out.mono hBw) (Spare.below HBA.out)
    go_wp2
    go_end0
    exact ⟨rfl, hw3⟩
  · obtain ⟨q, hq⟩ : ∃ q : Nat, x.g = (q : Int) := ⟨x.g.toNat, by omega⟩
    have hq5 : q < 5 := by omega
    have hT : argT x = aggT q ++ ([40] ++ (x.t.v.data.toList ++ [41])) := by unfold argT; rw [if_neg (by omega), hq, Int.toNat_natCast]
    rw [hT] at hl ⊢
    have f0 : ((q : Int) == 0) = false := by rw [beq_eq_false_iff_ne]; omega
    have hq5' : (q : Int) < 5 := by omega
    have hq0' : (0 : Int) ≤ (q : Int) := by omega
    have HL : Hid (l.length + ((aggS q).size + 1 + x.t.v.size + 1) ≤ 1099511627776) := by
      show _ ≤ _
      simp only [List.length_append, List.length_cons, List.length_nil, len_toList] at hl
      rw [aggS_size]
      omega
    have HOB : Hid ((aggS q).data.toList = aggT q) := aggS_bytes q
    have hcg := (HGu.out _ (hb.trans (BA.mono hb.size))).ag q hq5
    have HBL : Hid (BldA B b l _) := hbl
    rw [hq] at hcg HBL HBA ⊢
    clear hx hok hG h hT hl hbl BA hq e1 e4 hv
    generalize aggS q = os at HL HOB hcg
    unfold self at *
    go_enter Tryz.func36, Tryz.ntmps36
    go_wp2_with fail
    have HBLd : Hid (BldA B b l (w.alloc (.cells #[.int .i8 (q : Int), .string x.t.v, .int .i8 x.t.a.k, .int .i64 x.t.a.n, .string x.t.a.s] 76)).drew) := HBL.out.below (Below.refl _ _).drew
    have HBAd : Hid (Below w.heap.size w (w.alloc (.cells #[.int .i8 (q : Int), .string x.t.v, .int .i8 x.t.a.k, .int .i64 x.t.a.n, .string x.t.a.s] 76)).drew) := HBA.out.drew
    go_region_with (go_at_call 31; refine (put_new4 (g := w.heap.size + 1) os ⟨#[40]⟩ x.t.v ⟨#[41]⟩ (by simp) HBLd.out (Nat.le_trans hBw HBAd.out.size) (by have := HL.out; show _ + (_ + 1 + _ + 1) ≤ _; omega)).mono ?_; rintro ee w2 hw2; obtain ⟨rfl, k1, k2, k3⟩ := hw2.from (HBAd.out.mono hBw) (Spare.below HBAd.out); clear hw2)
    all_goals
      go_wp2
      go_end0
      exact ⟨rfl, by rw [← HOB.out]; exact k1, k2, k3⟩
open Go.RowKit Go.Maps
set_option linter.unusedVariables false
set_option linter.unusedSimpArgs false
attribute [local go_sem ↓] Go.wp_at_zero Go.wp_at_succ
attribute [-go_sem] loadVar storeVar

set_option maxHeartbeats 800000 in
set_option maxRecDepth 100000 in
theorem listArg_any {B b : Nat} (v : Value) (ts : List A5) (W0 : World) (hW : W0.heap.size ≤ B) (hL : La W0 v ts) (hG : Gr W0) (hok : ts.all argB = true) (l : List UInt8) (w : World) (hb : Below W0.heap.size W0 w) (h : BldA B b l w) (hBw : B ≤ w.heap.size)
    (hl : l.length + (upG (txA ts) ts.length).length ≤ 1099511627776) :
    Calls Tryz.prog 65 #[self b, v, .func (.func 36) #[] #[]] w (Wrote B b l (upG (txA ts) ts.length) w) := by
  have HWr : Hid (∀ i, i < ts.length → ∀ (l : List UInt8) (u : World), Below W0.heap.size W0 u → BldA B b l u → B ≤ u.heap.size → l.length + ((txA ts).getD i []).length ≤ 1099511627776 → Calls Tryz.prog 36 #[self b, .agg (atA ts i).cells.toArray] u (Wrote B b l ((txA ts).getD i []) u)) := fun i hi l u h1 h2 h3 h4 => by
    rw [txA_at hi] at h4 ⊢
    exact warg_any _ (hL.at_wf hi) (by rw [atA_eq hi]; exact List.all_eq_true.1 hok _ (List.getElem_mem hi)) W0 hW hG l u h1 h2 h3 h4
  obtain ⟨a, c, rfl, hc1, hc2, hat⟩ := hL.form
  have hmax : ts.length ≤ maxLen := Nat.le_trans hc1 hc2
  unfold maxLen at hmax
  have HH : Hid (BldA B b l w) := h
  have HL : Hid _ := hl
  have HAT : Hid _ := hat
  have HB0 : Hid (Below W0.heap.size W0 w) := hb
  clear h hl hok hat hb hL hG
  unfold self
  go_enter Tryz.func65, Tryz.ntmps65
  go_wp2
  go_loopw [10] (fun i wr => ∃ k : Nat, k ≤ ts.length ∧ i = .int .i64 k ∧ Hid (BldA B b (l ++ upG (txA ts) k) wr ∧ Below B w wr ∧ Spare b w wr)) (fun i _ => ts.length - (intOf i).toNat)
  case atStart => exact ⟨0, Nat.zero_le _, rfl, by simpa [upG] using HH.out, Below.refl _ _, Spare.refl _ _⟩
  case round =>
    obtain ⟨k, hk, rfl, HR⟩ := hrel
    by_cases hlt : k < ts.length
    · have hlt' : (k : Int) < (ts.length : Int) := by omega
      obtain ⟨g, off, rfl, hg, hT⟩ := HAT.out (by omega)
      have HB1 : Hid (Below W0.heap.size W0 wr) := HB0.out.trans (HR.out.2.1.mono hW)
      have hld := load_Arg (range_below (hT k hlt) HB1.out hg) rfl
      have HC : Hid _ := HWr.out k hlt
      have HU : Hid (upG (txA ts) (k + 1) = upG (txA ts) k ++ ((if k = 0 then [] else [44, 32]) ++ (txA ts).getD k [])) := rfl
      have HLE : Hid (l.length + (upG (txA ts) (k + 1)).length ≤ 1099511627776) := by
        have h1 := upG_le (txA ts) (k + 1) (ts.length - (k + 1))
        rw [show k + 1 + (ts.length - (k + 1)) = ts.length by omega] at h1
        have := HL.out
        show _ ≤ _
        omega
      have hst : (storeVar 76 ⟨wr.heap.size, 0, none⟩ (.agg (atA ts k).cells.toArray)).run Tryz.prog (wr.alloc (.cells #[.int .i8 0, .string ⟨#[]⟩, .int .i8 0, .int .i64 0, .string ⟨#[]⟩] 76)) = .ok () (wr.alloc (.cells (atA ts k).cells.toArray 76)) := run_storeVar_new wr 76 #[.int .i8 0, .string ⟨#[]⟩, .int .i8 0, .int .i64 0, .string ⟨#[]⟩] (atA ts k).cells.toArray (by kernel_rfl) rfl (oneCells_arg _)
      have BA := (Below.refl wr.heap.size wr).alloc (Nat.le_refl _) (.cells (atA ts k).cells.toArray 76)
      have hl2 := load_Arg (RL.range (rl_new wr (atA ts k).cells.toArray 76)) rfl
      have HN : Hid _ := heap_alloc_new wr (.cells (atA ts k).cells.toArray 76)
      have hnb : wr.heap.size ≠ b := by have := HR.out.1.lt; omega
      have hBr : B ≤ wr.heap.size := Nat.le_trans hBw HR.out.2.1.size
      have HL3 : Hid (∀ u, Spare b (wr.alloc (.cells (atA ts k).cells.toArray 76)) u → (loadVar 76 ⟨wr.heap.size, 0, none⟩).run Tryz.prog u = .ok (.agg (atA ts k).cells.toArray) u) := fun u hu => load_Arg (cs := (atA ts k).cells) (fun j y hy => by
        rw [Nat.zero_add, hu.cell HN.out (by decide) hnb]
        simpa using hy) rfl
      have HBA : Hid (BldA B b (l ++ upG (txA ts) k) (wr.alloc (.cells (atA ts k).cells.toArray 76))) := HR.out.1.below BA
      have HBB : Hid (Below wr.heap.size wr (wr.alloc (.cells (atA ts k).cells.toArray 76))) := BA
      have hl2' : (loadVar 76 ⟨wr.heap.size, 0, none⟩).run Tryz.prog (wr.alloc (.cells (atA ts k).cells.toArray 76)) = .ok (.agg (atA ts k).cells.toArray) (wr.alloc (.cells (atA ts k).cells.toArray 76)) := hl2
      clear hT hl2 BA HN
      generalize wr.alloc (.cells (atA ts k).cells.toArray 76) = W2 at hst HL3 HBA HBB hl2'
      generalize Value.agg (atA ts k).cells.toArray = QV at hld hst HL3 hl2' HC
      generalize (txA ts).getD k [] = tk at HC HU
      by_cases k0 : k = 0
      · rw [if_pos k0, List.nil_append] at HU
        have k0' : ¬ (0 : Int) < (k : Int) := by omega
        have HL2 : Hid ((l ++ upG (txA ts) k).length + tk.length ≤ 1099511627776) := by
          have := HLE.out
          rw [HU.out, List.length_append] at this
          show _ ≤ _
          rw [List.length_append]; omega
        clear k0
        go_wp2_with fail
        refine (HC.out _ W2 (HB1.out.trans (HBB.out.mono HB1.out.size)) HBA.out (Nat.le_trans hBr HBB.out.size) HL2.out).mono ?_
        rintro e w2 hw2
        obtain ⟨rfl, k5, k6, k7⟩ := hw2.from (HBB.out.mono hBr) (Spare.below HBB.out)
        go_wp2
        go_roundw
        case rel => exact ⟨k + 1, by omega, by go_num, by rw [HU.out, ← List.append_assoc]; exact k5, HR.out.2.1.trans k6, HR.out.2.2.trans k7⟩
        case measure => simp [intOf]; omega
      · rw [if_neg k0] at HU
        have k0' : (0 : Int) < (k : Int) := by omega
        have HL1 : Hid ((l ++ upG (txA ts) k).length + 2 ≤ 1099511627776 ∧ (l ++ upG (txA ts) k ++ [44, 32]).length + tk.length ≤ 1099511627776) := by
          have := HLE.out
          rw [HU.out] at this
          simp only [List.length_append, List.length_cons, List.length_nil] at this ⊢
          show _ ∧ _
          omega
        clear k0
        go_wp2_with fail
        refine (put_new (g := W2.heap.size) ⟨#[44, 32]⟩ rfl HBA.out (Nat.le_trans hBr HBB.out.size) HL1.out.1).mono ?_
        rintro e w2 ⟨rfl, k1, k2, k3⟩
        have hw2 : Hid (BldA B b (l ++ upG (txA ts) k ++ [44, 32]) w2) := k1
        have y0 := HL3.out w2 k3
        have HW2 : Hid (Below B wr w2 ∧ Spare b wr w2) := ⟨(HBB.out.mono hBr).trans k2, (Spare.below HBB.out).trans k3⟩
        clear k1 k2 k3 hld hst hl2' HBA
        go_wp2_with fail
        refine (HC.out _ w2 (HB1.out.trans (HW2.out.1.mono hW)) hw2.out (Nat.le_trans hBr HW2.out.1.size) HL1.out.2).mono ?_
        rintro e w3 hw3
        obtain ⟨rfl, k5, k6, k7⟩ := hw3.from HW2.out.1 HW2.out.2
        clear y0
        go_wp2
        go_roundw
        case rel => exact ⟨k + 1, by omega, by go_num, by rw [HU.out, ← List.append_assoc, ← List.append_assoc]; exact k5, HR.out.2.1.trans k6, HR.out.2.2.trans k7⟩
        case measure => simp [intOf]; omega
    · obtain rfl : k = ts.length := by omega
      go_wp2
      go_end0
      exact ⟨rfl, HR.out.1, HR.out.2.1, HR.out.2.2⟩
set_option maxHeartbeats 800000 in
set_option maxRecDepth 100000 in
theorem listLit_any {B b : Nat} (v : Value) (d : Nat) (ts : List XL) (W0 : World) (hW : W0.heap.size ≤ B) (hL : Lb W0 v d ts) (hG : Gr W0) (hok : ts.all (fun y => litB y.x) = true) (l : List UInt8) (w : World) (hb : Below W0.heap.size W0 w) (h : BldA B b l w) (hBw : B ≤ w.heap.size)
    (hl : l.length + (upG (txB ts) ts.length).length ≤ 1099511627776) :
    Calls Tryz.prog 37 #[self b, v, .func (.func 38) #[] #[]] w (Wrote B b l (upG (txB ts) ts.length) w) := by
  have HWr : Hid (∀ i, i < ts.length → ∀ (l : List UInt8) (u : World), Below W0.heap.size W0 u → BldA B b l u → B ≤ u.heap.size → l.length + ((txB ts).getD i []).length ≤ 1099511627776 → Calls Tryz.prog 38 #[self b, .agg (atL ts i).cells.toArray] u (Wrote B b l ((txB ts).getD i []) u)) := fun i hi l u h1 h2 h3 h4 => by
    rw [txB_at hi] at h4 ⊢
    exact wliteral_any d _ _ W0 hW (hL.at_is hi) hG.gq (by rw [atL_eq hi]; exact List.all_eq_true.1 hok _ (List.getElem_mem hi)) l u h1 h2 h3 h4
  obtain ⟨a, c, rfl, hc1, hc2, hat⟩ := hL.form
  have hmax : ts.length ≤ maxLen := Nat.le_trans hc1 hc2
  unfold maxLen at hmax
  have HH : Hid (BldA B b l w) := h
  have HL : Hid _ := hl
  have HAT : Hid _ := hat
  have HB0 : Hid (Below W0.heap.size W0 w) := hb
  clear h hl hok hat hb hL hG
  unfold self
  go_enter Tryz.func37, Tryz.ntmps37
  go_wp2
  go_loopw [10] (fun i wr => ∃ k : Nat, k ≤ ts.length ∧ i = .int .i64 k ∧ Hid (BldA B b (l ++ upG (txB ts) k) wr ∧ Below B w wr ∧ Spare b w wr)) (fun i _ => ts.length - (intOf i).toNat)
  case atStart => exact ⟨0, Nat.zero_le _, rfl, by simpa [upG] using HH.out, Below.refl _ _, Spare.refl _ _⟩
  case round =>
    obtain ⟨k, hk, rfl, HR⟩ := hrel
    by_cases hlt : k < ts.length
    · have hlt' : (k : Int) < (ts.length : Int) := by omega
      obtain ⟨g, off, rfl, hg, hT⟩ := HAT.out (by omega)
      have HB1 : Hid (Below W0.heap.size W0 wr) := HB0.out.trans (HR.out.2.1.mono hW)
      have hld := load_Lit (range_below (hT k hlt) HB1.out hg) rfl
      have HC : Hid _ := HWr.out k hlt
      have HU : Hid (upG (txB ts) (k + 1) = upG (txB ts) k ++ ((if k = 0 then [] else [44, 32]) ++ (txB ts).getD k [])) := rfl
      have HLE : Hid (l.length + (upG (txB ts) (k + 1)).length ≤ 1099511627776) := by
        have h1 := upG_le (txB ts) (k + 1) (ts.length - (k + 1))
        rw [show k + 1 + (ts.length - (k + 1)) = ts.length by omega] at h1
        have := HL.out
        show _ ≤ _
        omega
      have hst : (storeVar 66 ⟨wr.heap.size, 0, none⟩ (.agg (atL ts k).cells.toArray)).run Tryz.prog (wr.alloc (.cells #[.int .i8 0, .string ⟨#[]⟩, .slice none 0 0, .int .i8 0, .int .i8 0, .string ⟨#[]⟩, .int .i8 0, .int .i64 0, .string ⟨#[]⟩, .slice none 0 0, .int .i8 0, .string ⟨#[]⟩, .int .i8 0, .int .i64 0, .string ⟨#[]⟩, .slice none 0 0] 66)) = .ok () (wr.alloc (.cells (atL ts k).cells.toArray 66)) := run_storeVar_new wr 66 #[.int .i8 0, .string ⟨#[]⟩, .slice none 0 0, .int .i8 0, .int .i8 0, .string ⟨#[]⟩, .int .i8 0, .int .i64 0, .string ⟨#[]⟩, .slice none 0 0, .int .i8 0, .string ⟨#[]⟩, .int .i8 0, .int .i64 0, .string ⟨#[]⟩, .slice none 0 0] (atL ts k).cells.toArray (by kernel_rfl) rfl (oneCells_lit _)
      have BA := (Below.refl wr.heap.size wr).alloc (Nat.le_refl _) (.cells (atL ts k).cells.toArray 66)
      have hl2 := load_Lit (RL.range (rl_new wr (atL ts k).cells.toArray 66)) rfl
      have HN : Hid _ := heap_alloc_new wr (.cells (atL ts k).cells.toArray 66)
      have hnb : wr.heap.size ≠ b := by have := HR.out.1.lt; omega
      have hBr : B ≤ wr.heap.size := Nat.le_trans hBw HR.out.2.1.size
      have HL3 : Hid (∀ u, Spare b (wr.alloc (.cells (atL ts k).cells.toArray 66)) u → (loadVar 66 ⟨wr.heap.size, 0, none⟩).run Tryz.prog u = .ok (.agg (atL ts k).cells.toArray) u) := fun u hu => load_Lit (cs := (atL ts k).cells) (fun j y hy => by
        rw [Nat.zero_add, hu.cell HN.out (by decide) hnb]
        simpa using hy) rfl
      have HBA : Hid (BldA B b (l ++ upG (txB ts) k) (wr.alloc (.cells (atL ts k).cells.toArray 66))) := HR.out.1.below BA
      have HBB : Hid (Below wr.heap.size wr (wr.alloc (.cells (atL ts k).cells.toArray 66))) := BA
      have hl2' : (loadVar 66 ⟨wr.heap.size, 0, none⟩).run Tryz.prog (wr.alloc (.cells (atL ts k).cells.toArray 66)) = .ok (.agg (atL ts k).cells.toArray) (wr.alloc (.cells (atL ts k).cells.toArray 66)) := hl2
      clear hT hl2 BA HN
      generalize wr.alloc (.cells (atL ts k).cells.toArray 66) = W2 at hst HL3 HBA HBB hl2'
      generalize Value.agg (atL ts k).cells.toArray = QV at hld hst HL3 hl2' HC
      generalize (txB ts).getD k [] = tk at HC HU
      by_cases k0 : k = 0
      · rw [if_pos k0, List.nil_append] at HU
        have k0' : ¬ (0 : Int) < (k : Int) := by omega
        have HL2 : Hid ((l ++ upG (txB ts) k).length + tk.length ≤ 1099511627776) := by
          have := HLE.out
          rw [HU.out, List.length_append] at this
          show _ ≤ _
          rw [List.length_append]; omega
        clear k0
        go_wp2_with fail
        refine (HC.out _ W2 (HB1.out.trans (HBB.out.mono HB1.out.size)) HBA.out (Nat.le_trans hBr HBB.out.size) HL2.out).mono ?_
        rintro e w2 hw2
        obtain ⟨rfl, k5, k6, k7⟩ := hw2.from (HBB.out.mono hBr) (Spare.below HBB.out)
        go_wp2
        go_roundw
        case rel => exact ⟨k + 1, by omega, by go_num, by rw [HU.out, ← List.append_assoc]; exact k5, HR.out.2.1.trans k6, HR.out.2.2.trans k7⟩
        case measure => simp [intOf]; omega
      · rw [if_neg k0] at HU
        have k0' : (0 : Int) < (k : Int) := by omega
        have HL1 : Hid ((l ++ upG (txB ts) k).length + 2 ≤ 1099511627776 ∧ (l ++ upG (txB ts) k ++ [44, 32]).length + tk.length ≤ 1099511627776) := by
          have := HLE.out
          rw [HU.out] at this
          simp only [List.length_append, List.length_cons, List.length_nil] at this ⊢
          show _ ∧ _
          omega
        clear k0
        go_wp2_with fail
        refine (put_new (g := W2.heap.size) ⟨#[44, 32]⟩ rfl HBA.out (Nat.le_trans hBr HBB.out.size) HL1.out.1).mono ?_
        rintro e w2 ⟨rfl, k1, k2, k3⟩
        have hw2 : Hid (BldA B b (l ++ upG (txB ts) k ++ [44, 32]) w2) := k1
        have y0 := HL3.out w2 k3
        have HW2 : Hid (Below B wr w2 ∧ Spare b wr w2) := ⟨(HBB.out.mono hBr).trans k2, (Spare.below HBB.out).trans k3⟩
        clear k1 k2 k3 hld hst hl2' HBA
        go_wp2_with fail
        refine (HC.out _ w2 (HB1.out.trans (HW2.out.1.mono hW)) hw2.out (Nat.le_trans hBr HW2.out.1.size) HL1.out.2).mono ?_
        rintro e w3 hw3
        obtain ⟨rfl, k5, k6, k7⟩ := hw3.from HW2.out.1 HW2.out.2
        clear y0
        go_wp2
        go_roundw
        case rel => exact ⟨k + 1, by omega, by go_num, by rw [HU.out, ← List.append_assoc, ← List.append_assoc]; exact k5, HR.out.2.1.trans k6, HR.out.2.2.trans k7⟩
        case measure => simp [intOf]; omega
    · obtain rfl : k = ts.length := by omega
      go_wp2
      go_end0
      exact ⟨rfl, HR.out.1, HR.out.2.1, HR.out.2.2⟩
end Go.Proofs.YtjjjnpmppblchaaGreatDoor
