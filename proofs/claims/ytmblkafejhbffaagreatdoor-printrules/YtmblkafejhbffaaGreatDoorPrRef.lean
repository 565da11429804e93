import Derived.Test.YtmblkafejhbffaaGreatDoorPrintR
import Derived.Test.YtmblkafejhbffaaGreatDoorPrintN
import Derived.Test.YtmblkafejhbffaaGreatDoorTermIn
namespace Go.Proofs.YtmblkafejhbffaaGreatDoor
open Go.RowKit Go.Maps
set_option linter.unusedVariables false
set_option linter.unusedSimpArgs false
attribute [local go_sem ↓] Go.wp_at_zero Go.wp_at_succ

def preT (p : ByteArray) (ts : List T) (k : Nat) : List UInt8 := p.data.toList ++ [40] ++ upT ts k
def strT (t : T) : List Value := [.string (termS t)]
theorem txt_bytes (s : ByteArray) : txt s.data.toList = s := arr_bytes s rfl
theorem txt_term (t : T) : txt (termT t) = termS t := termS_eq t
theorem preT_le (p : ByteArray) {ts : List T} {k : Nat} (h : k ≤ ts.length) (h0 : ts.length ≠ 0) : (preT p ts k).length < (atomT p ts).length := by
  have h1 := upT_le ts k (ts.length - k)
  rw [show k + (ts.length - k) = ts.length by omega] at h1
  unfold preT atomT colT
  rw [if_neg h0]
  simp only [List.length_append, List.length_cons, List.length_nil]
  omega
theorem preT_end (p : ByteArray) {ts : List T} (h0 : ts.length ≠ 0) : preT p ts ts.length ++ [41] = atomT p ts := by
  unfold preT atomT colT
  rw [if_neg h0]
  simp only [List.append_assoc]
theorem preT_zero (p : ByteArray) (ts : List T) : p ++ (⟨#[40]⟩ : ByteArray) = txt (preT p ts 0) := by
  conv => lhs; rw [← txt_bytes p, txt_one, txt_app]
  simp [preT, upT]
set_option maxHeartbeats 1600000 in
theorem r6columns_any (pr : ByteArray) (v : Value) (ts : List T) (w : World) (hlen : (atomT pr ts).length ≤ 1000000000) (hl : Ls w v ts.length (ts.flatMap strT)) :
    Calls Tryz.prog 29 #[.string pr, v] w fun r w' => r = .returned (.string (txt (atomT pr ts))) ∧ w' = w := by
  obtain ⟨hmax, a, c, rfl, hc1, hc2, hk⟩ := hl
  unfold maxLen at hmax
  by_cases h0 : ts.length = 0
  · have e0 : txt (atomT pr ts) = pr := by unfold atomT colT; rw [if_pos h0, List.append_nil, txt_bytes]
    rw [e0]
    have h0' : ((ts.length : Nat) : Int) = 0 := by omega
    clear hk e0
    go_enter Tryz.func29, Tryz.ntmps29
    go_wp2
    go_ret
    exact ⟨rfl, rfl⟩
  · obtain ⟨g, off, rfl, hg, hf⟩ := hk (by omega)
    have hF : Hid (∀ k, k < ts.length → w.cell? ⟨g, off + k, none⟩ = some (.string (termS (atT ts k)))) := fun k hk => by
      have := hf.elem (k := 1) (fun _ => rfl) T0 (j := 0) hk (by decide) (u := .string (termS (atT ts k))) rfl
      simpa using this
    have h0' : ¬ ((ts.length : Nat) : Int) = 0 := by omega
    have HLn : Hid _ := hlen
    have HN0 : Hid (ts.length ≠ 0) := h0
    have hz := preT_zero pr ts
    have hps : pr.size ≤ 1000000000 := by
      have : pr.size ≤ (atomT pr ts).length := by unfold atomT; rw [List.length_append, len_toList]; omega
      omega
    obtain ⟨S0, hS0⟩ : ∃ S0, txt (preT pr ts 0) = S0 := ⟨_, rfl⟩
    rw [hS0] at hz
    have HS0 : Hid _ := hS0
    obtain ⟨SE, hSE⟩ : ∃ SE, txt (atomT pr ts) = SE := ⟨_, rfl⟩
    rw [hSE]
    have HSE : Hid _ := hSE
    clear hf hk hlen h0 hS0 hSE
    go_enter Tryz.func29, Tryz.ntmps29
    go_wp2
    go_loopw [5, 6] (fun s i wr => ∃ k : Nat, k ≤ ts.length ∧ i = .int .i64 k ∧ ∃ S, s = .string S ∧ Hid (txt (preT pr ts k) = S) ∧ Hid (wr = w)) (fun _ i _ => ts.length - (intOf i).toNat)
    case atStart => exact ⟨0, Nat.zero_le _, rfl, S0, rfl, HS0, rfl⟩
    case round =>
      obtain ⟨k, hk, rfl, S, rfl, HS, HW⟩ := hrel
      clear hz HS0 hps
      have hss : S.size ≤ 1000000000 := by
        rw [← HS.out, txt_size]
        have := preT_le pr hk HN0.out
        have := HLn.out
        omega
      by_cases hlt : k < ts.length
      · have hlt' : (k : Int) < (ts.length : Int) := by omega
        have hc : wr.cell? ⟨g, off + k, none⟩ = some (.string (termS (atT ts k))) := by rw [HW.out]; exact hF.out k hlt
        have HU : Hid (preT pr ts (k + 1) = preT pr ts k ++ ((if k = 0 then [] else [44, 32]) ++ termT (atT ts k))) := by show _ = _; unfold preT; rw [upT]; simp only [List.append_assoc]
        have HT : Hid _ := txt_term (atT ts k)
        have HLe : Hid _ := preT_le pr (k := k + 1) hlt HN0.out
        generalize atT ts k = t at hc HU HT
        have hts : (termS t).size ≤ 1000000000 := by
          rw [← HT.out, txt_size]
          have h1 := HLe.out
          have h2 := HLn.out
          have h3 := congrArg List.length HU.out
          rw [List.length_append, List.length_append] at h3
          omega
        by_cases k0 : k = 0
        · have k0' : ¬ (0 : Int) < (k : Int) := by omega
          have hadd : S ++ termS t = txt (preT pr ts (k + 1)) := by rw [HU.out, if_pos k0, List.nil_append, ← HS.out, ← HT.out, txt_app]
          obtain ⟨S2, hS2⟩ : ∃ S2, txt (preT pr ts (k + 1)) = S2 := ⟨_, rfl⟩
          rw [hS2] at hadd
          have HS2 : Hid _ := hS2
          clear hS2 k0 HU HLe
          go_wp2
          go_roundw
          case rel => exact ⟨k + 1, by omega, by go_num, S2, rfl, HS2, HW⟩
          case measure => simp [intOf]; omega
        · have k0' : (0 : Int) < (k : Int) := by omega
          have hadd1 : S ++ (⟨#[44, 32]⟩ : ByteArray) = txt (preT pr ts k ++ [44, 32]) := by rw [← HS.out, show (⟨#[44, 32]⟩ : ByteArray) = txt [44, 32] from rfl, txt_app]
          have hadd : txt (preT pr ts k ++ [44, 32]) ++ termS t = txt (preT pr ts (k + 1)) := by rw [HU.out, if_neg k0, ← HT.out, txt_app]; simp only [List.append_assoc]
          obtain ⟨S2, hS2⟩ : ∃ S2, txt (preT pr ts (k + 1)) = S2 := ⟨_, rfl⟩
          obtain ⟨S1, hS1⟩ : ∃ S1, txt (preT pr ts k ++ [44, 32]) = S1 := ⟨_, rfl⟩
          have hs1 : S1.size ≤ 1000000010 := by
            rw [← hS1, txt_size, List.length_append, ← txt_size, HS.out]
            simp only [List.length_cons, List.length_nil]
            omega
          rw [hS2, hS1] at hadd
          rw [hS1] at hadd1
          have HS2 : Hid _ := hS2
          clear hS2 hS1 k0 HU HLe
          go_wp2
          go_roundw
          case rel => exact ⟨k + 1, by omega, by go_num, S2, rfl, HS2, HW⟩
          case measure => simp [intOf]; omega
      · obtain rfl : k = ts.length := by omega
        have hadd : S ++ (⟨#[41]⟩ : ByteArray) = SE := by rw [← HSE.out, ← preT_end pr HN0.out, ← HS.out, txt_one, txt_app]
        go_wp2
        go_ret
        exact ⟨rfl, HW.out⟩
open Go.RowKit Go.Maps
set_option linter.unusedVariables false
set_option linter.unusedSimpArgs false
attribute [local go_sem ↓] Go.wp_at_zero Go.wp_at_succ

theorem strT_take {ts : List T} {k : Nat} (h : k < ts.length) : (ts.take (k + 1)).flatMap strT = (ts.take k).flatMap strT ++ [.string (termS (atT ts k))] := by
  rw [List.take_succ_eq_append_getElem h, List.flatMap_append, atT_eq h]
  rfl
set_option maxHeartbeats 1600000 in
theorem r6atom_any (pr : ByteArray) (v : Value) (ts : List T) (w : World) (hok : ts.all termB = true) (h24 : ts.length ≤ 24) (hlen : (atomT pr ts).length ≤ 1000000000) (hl : Lt w v ts) :
    Calls Tryz.prog 58 #[.agg #[.string pr, v]] w fun r w' => r = .returned (.string (txt (atomT pr ts))) ∧ Below w.heap.size w w' := by
  obtain ⟨i0, hi0, hz0, hz1, hz2⟩ := info_parts infoStr
  have hwf := hl.wf
  obtain ⟨a, c, rfl, hc1, hc2, hat⟩ := hl.form
  have BA := (Below.refl w.heap.size w).alloc (Nat.le_refl _) (.cells #[.string pr, .slice a ts.length c] 58)
  have HAT : Hid _ := hat
  have HWF : Hid _ := hwf
  have HLn : Hid _ := hlen
  have HOK : Hid (∀ i, i < ts.length → termB (atT ts i) = true) := fun i hi => by rw [atT_eq hi]; exact List.all_eq_true.1 hok _ (List.getElem_mem hi)
  obtain ⟨SE, hSE⟩ : ∃ SE, txt (atomT pr ts) = SE := ⟨_, rfl⟩
  rw [hSE]
  have HSE : Hid _ := hSE
  have HBA : Hid (Below w.heap.size w _) := BA
  clear hl hat hok hlen hwf hSE BA
  go_enter Tryz.func58, Tryz.ntmps58
  go_wp2
  go_loopw [3, 4] (fun l i wr => ∃ k : Nat, k ≤ ts.length ∧ i = .int .i64 k ∧ Below (w.heap.size + 1) (w.alloc (.cells #[.string pr, .slice a ts.length c] 58)) wr ∧ wr.ownsRow (w.heap.size + 1) 9 1 l k ((ts.take k).flatMap strT)) (fun _ i _ => ts.length - (intOf i).toNat)
  case atStart => exact ⟨0, Nat.zero_le _, rfl, Below.refl _ _, World.ownsRow_nil _ _ _ _⟩
  case round =>
    obtain ⟨k, hk, rfl, bel, hown⟩ := hrel
    obtain ⟨ao, co, rfl, hlo⟩ := own_form hown
    have y0 : wr.cell? ⟨w.heap.size, 0, none⟩ = some (.string pr) := by rw [bel.cell (p := ⟨w.heap.size, 0, none⟩) (by simp)]; go_simp
    have y1 : wr.cell? ⟨w.heap.size, 1, none⟩ = some (.slice a ts.length c) := by rw [bel.cell (p := ⟨w.heap.size, 1, none⟩) (by simp)]; go_simp
    have bel' : Below w.heap.size w wr := HBA.out.trans (bel.mono (Nat.le_succ _))
    have hsz : w.heap.size + 1 ≤ wr.heap.size := by have := bel.size; simpa using this
    by_cases hlt : k < ts.length
    · have hlt' : (k : Int) < (ts.length : Int) := by omega
      obtain ⟨g, off, rfl, hg, hT⟩ := HAT.out (by omega)
      obtain ⟨x0, x1, x2, x3⟩ := (hT k hlt).below bel' hg
      have htw := atT_wf HWF.out k
      have hok := HOK.out k hlt
      have HTK : Hid _ := strT_take hlt
      generalize atT ts k = t at x0 x1 x2 x3 htw hok HTK
      have HK : Hid _ := hok
      clear hT hok bel'
      go_wp2_with fail
      refine (r6term_any t _ htw HK.out).mono ?_
      rintro e w1 ⟨rfl, b1⟩
      have own1 := own_below hown b1
      have bel1 := bel.trans (b1.mono hsz)
      have hsz1 : w.heap.size + 1 ≤ w1.heap.size := Nat.le_trans hsz b1.size
      clear b1 x0 x1 x2 x3 y0 y1 hown bel
      generalize termS t = S at HTK
      go_wp2_with (at_builtin; refine wpList_append_own_at _ rfl _ _ 71 rfl (w.heap.size + 1) 9 i0 _ 1 16 Tryz.underlying71 hi0 hz0 hz1 hz2 rfl (by decide) _ _ _ rfl (own_below own1 ((Below.refl _ _).alloc (Nat.le_refl _) _)) ⟨_, 0, none⟩ 1 1 [.string S] rfl rfl (lit_news _ #[.string S] _) (by simp [Value.oneCell']) (by unfold maxLen; omega) (by omega) (by simp; omega) ?_; intro v' w2 hown' hgrow hnil hloc)
      go_roundw
      case rel => exact ⟨k + 1, by omega, by go_num, (bel1.alloc hsz1 _).grown hgrow (by simp; omega) (fun j hj => (own1.lt j hj).1), by rw [HTK.out]; exact hown'⟩
      case measure => simp [intOf]; omega
    · obtain rfl : k = ts.length := by omega
      rw [List.take_length] at hown
      have HLS : Hid _ := ls_own hown
      clear hown
      go_wp2_with fail
      refine (r6columns_any pr _ ts _ HLn.out HLS.out).mono ?_
      rintro e w1 ⟨rfl, rfl⟩
      rw [HSE.out]
      go_wp2
      go_ret
      exact ⟨rfl, bel'⟩
theorem atomB_len {p : ByteArray} {ts : List T} (h : atomB p ts = true) : ts.length ≤ 24 := by
  unfold atomB at h
  simp only [Bool.and_eq_true, decide_eq_true_eq] at h
  exact h.1.2
open Go.RowKit Go.Maps
set_option linter.unusedVariables false
set_option linter.unusedSimpArgs false
attribute [local go_sem ↓] Go.wp_at_zero Go.wp_at_succ

theorem rel6_any (p : Nat) (h2 : 1 ≤ p) (h7 : p ≤ 6) (w : World) : Calls Tryz.prog 60 #[.int .i8 (p : Int)] w fun r w' => r = .returned (.string (relS p)) ∧ w' = w := by
  rcases (by omega : p = 1 ∨ p = 2 ∨ p = 3 ∨ p = 4 ∨ p = 5 ∨ p = 6) with rfl | rfl | rfl | rfl | rfl | rfl
  all_goals
    go_enter Tryz.func60, Tryz.ntmps60
    go_wp2
    go_ret
    exact ⟨rfl, rfl⟩
theorem relS_txt (p : Nat) : relS p = txt (relT p) := rfl
set_option maxHeartbeats 3200000 in
theorem r6literal_any (d : Nat) (x : Lit4) (p : LP) (w : World) (h : LIs w d x p) (hok : litB x = true) :
    Calls Tryz.prog 30 #[x.val p] w fun r w' => r = .returned (.string (txt (litT x))) ∧ Below w.heap.size w w' := by
  rcases litB_form hok with ⟨e, ha⟩ | ⟨e, ha⟩ | ⟨e, r1, r6, el, er⟩
  · have hT : litT x = atomT x.pr x.ts := by unfold litT; rw [if_pos e]
    have ha1 := (atomT_len h.ts.wf ha).2
    have HA : Hid (∀ u, Below w.heap.size w u → Calls Tryz.prog 58 #[.agg #[.string x.pr, .slice p.a x.ts.length p.c]] u fun r w' => r = .returned (.string (txt (atomT x.pr x.ts))) ∧ Below u.heap.size u w') := fun u hu => r6atom_any x.pr _ x.ts u (atomB_all ha) (atomB_len ha) (by omega) (h.ts.below hu)
    rw [hT]
    obtain ⟨k, pr, ts, rel, l, r⟩ := x
    dsimp only at *
    subst e
    have BA := (Below.refl w.heap.size w).alloc (Nat.le_refl _) (.cells #[.int .i8 1, .string pr, .slice p.a ts.length p.c, .int .i8 rel, .int .i8 l.op, .string l.t.v, .int .i8 l.t.a.k, .int .i64 l.t.a.n, .string l.t.a.s, .slice p.la l.kids.length p.lc, .int .i8 r.op, .string r.t.v, .int .i8 r.t.a.k, .int .i64 r.t.a.n, .string r.t.a.s, .slice p.ra r.kids.length p.rc] 63)
    clear h hok ha hT
    generalize txt (atomT pr ts) = S at HA ⊢
    unfold Lit4.val
    dsimp only
    go_enter Tryz.func30, Tryz.ntmps30
    go_wp2_with fail
    refine Calls.mono (HA.out _ BA) ?_
    rintro ee w1 ⟨rfl, b1⟩
    go_wp2
    go_ret
    exact ⟨rfl, BA.trans (b1.mono BA.size)⟩
  · have hT : litT x = [110, 111, 116, 32] ++ atomT x.pr x.ts := by unfold litT; rw [if_neg (by omega), if_pos e]
    have ha1 := (atomT_len h.ts.wf ha).2
    have HA : Hid (∀ u, Below w.heap.size w u → Calls Tryz.prog 58 #[.agg #[.string x.pr, .slice p.a x.ts.length p.c]] u fun r w' => r = .returned (.string (txt (atomT x.pr x.ts))) ∧ Below u.heap.size u w') := fun u hu => r6atom_any x.pr _ x.ts u (atomB_all ha) (atomB_len ha) (by omega) (h.ts.below hu)
    rw [hT]
    obtain ⟨k, pr, ts, rel, l, r⟩ := x
    dsimp only at *
    subst e
    have BA := (Below.refl w.heap.size w).alloc (Nat.le_refl _) (.cells #[.int .i8 2, .string pr, .slice p.a ts.length p.c, .int .i8 rel, .int .i8 l.op, .string l.t.v, .int .i8 l.t.a.k, .int .i64 l.t.a.n, .string l.t.a.s, .slice p.la l.kids.length p.lc, .int .i8 r.op, .string r.t.v, .int .i8 r.t.a.k, .int .i64 r.t.a.n, .string r.t.a.s, .slice p.ra r.kids.length p.rc] 63)
    clear h hok ha hT
    have hadd : (⟨#[110, 111, 116, 32]⟩ : ByteArray) ++ txt (atomT pr ts) = txt ([110, 111, 116, 32] ++ atomT pr ts) := by rw [show (⟨#[110, 111, 116, 32]⟩ : ByteArray) = txt [110, 111, 116, 32] from rfl, txt_app]
    have hs : (txt (atomT pr ts)).size ≤ 30000 := by rw [txt_size]; exact ha1
    generalize txt ([110, 111, 116, 32] ++ atomT pr ts) = S2 at hadd ⊢
    generalize txt (atomT pr ts) = S at HA hadd hs
    unfold Lit4.val
    dsimp only
    go_enter Tryz.func30, Tryz.ntmps30
    go_wp2_with fail
    refine Calls.mono (HA.out _ BA) ?_
    rintro ee w1 ⟨rfl, b1⟩
    go_wp2
    go_ret
    exact ⟨rfl, BA.trans (b1.mono BA.size)⟩
  · have hT : litT x = textE 8 x.l ++ (([32] ++ relT x.rel.toNat ++ [32]) ++ textE 8 x.r) := by unfold litT; rw [if_neg (by omega), if_neg (by omega)]
    have hl1 := textE_len 8 d x.l p.la p.lc w h.l el
    have hl2 := textE_len 8 d x.r p.ra p.rc w h.r er
    have HEl : Hid (∀ u, Below w.heap.size w u → Calls Tryz.prog 59 #[x.l.val p.la p.lc] u fun r w' => r = .returned (.string (txt (textE 8 x.l))) ∧ Below u.heap.size u w') := fun u hu => r6expr_any 8 d x.l p.la p.lc u (h.l.below hu) el (by omega)
    have HEr : Hid (∀ u, Below w.heap.size w u → Calls Tryz.prog 59 #[x.r.val p.ra p.rc] u fun r w' => r = .returned (.string (txt (textE 8 x.r))) ∧ Below u.heap.size u w') := fun u hu => r6expr_any 8 d x.r p.ra p.rc u (h.r.below hu) er (by omega)
    rw [hT]
    obtain ⟨k, pr, ts, rel, l, r⟩ := x
    dsimp only at *
    subst e
    obtain ⟨n, rfl⟩ : ∃ n : Nat, rel = n := ⟨rel.toNat, by omega⟩
    rw [Int.toNat_natCast]
    have HR : Hid (∀ u, Calls Tryz.prog 60 #[.int .i8 (n : Int)] u fun r w' => r = .returned (.string (relS n)) ∧ w' = u) := fun u => rel6_any n (by omega) (by omega) u
    clear h hok hT el er r1 r6
    generalize textE 8 l = kt at HEl hl1 ⊢
    generalize textE 8 r = kt' at HEr hl2 ⊢
    obtain ⟨lo, lt, lk⟩ := l
    obtain ⟨ro, rt, rk⟩ := r
    unfold Lit4.val E.val at *
    simp only [op_mk, t_mk, kids_mk] at HEl HEr ⊢
    have BA := (Below.refl w.heap.size w).alloc (Nat.le_refl _) (.cells #[.int .i8 3, .string pr, .slice p.a ts.length p.c, .int .i8 (n : Int), .int .i8 lo, .string lt.v, .int .i8 lt.a.k, .int .i64 lt.a.n, .string lt.a.s, .slice p.la lk.length p.lc, .int .i8 ro, .string rt.v, .int .i8 rt.a.k, .int .i64 rt.a.n, .string rt.a.s, .slice p.ra rk.length p.rc] 63)
    have hrl := relT_len n
    have e1 : txt kt ++ (⟨#[32]⟩ : ByteArray) = txt (kt ++ [32]) := by rw [txt_one, txt_app]
    have e2 : txt (kt ++ [32]) ++ relS n = txt (kt ++ [32] ++ relT n) := by rw [relS_txt, txt_app]
    have e3 : txt (kt ++ [32] ++ relT n) ++ (⟨#[32]⟩ : ByteArray) = txt (kt ++ [32] ++ relT n ++ [32]) := by rw [txt_one, txt_app]
    have e4 : txt (kt ++ [32] ++ relT n ++ [32]) ++ txt kt' = txt (kt ++ (([32] ++ relT n ++ [32]) ++ kt')) := by rw [txt_app]; simp [List.append_assoc]
    have s1 : ¬ 9223372036854775807 < (txt kt).size + 1 := by rw [txt_size]; omega
    have s2 : ¬ 9223372036854775807 < (txt (kt ++ [32])).size + (relS n).size := by rw [relS_txt, txt_size, txt_size, List.length_append]; simp only [List.length_cons, List.length_nil]; omega
    have s3 : ¬ 9223372036854775807 < (txt (kt ++ [32] ++ relT n)).size + 1 := by rw [txt_size, List.length_append, List.length_append]; simp only [List.length_cons, List.length_nil]; omega
    have s4 : ¬ 9223372036854775807 < (txt (kt ++ [32] ++ relT n ++ [32])).size + (txt kt').size := by rw [txt_size, txt_size, List.length_append, List.length_append, List.length_append]; simp only [List.length_cons, List.length_nil]; omega
    generalize txt (kt ++ (([32] ++ relT n ++ [32]) ++ kt')) = TX at e4 ⊢
    generalize txt (kt ++ [32] ++ relT n ++ [32]) = A3 at e3 e4 s4
    generalize txt (kt ++ [32] ++ relT n) = A2 at e2 e3 s3
    generalize txt (kt ++ [32]) = A1 at e1 e2 s2
    generalize txt kt = S at e1 s1 HEl
    generalize txt kt' = S' at e4 s4 HEr
    generalize relS n = O at e2 s2 HR
    have HC : Hid (∀ u, Below (w.alloc (.cells #[.int .i8 3, .string pr, .slice p.a ts.length p.c, .int .i8 (n : Int), .int .i8 lo, .string lt.v, .int .i8 lt.a.k, .int .i64 lt.a.n, .string lt.a.s, .slice p.la lk.length p.lc, .int .i8 ro, .string rt.v, .int .i8 rt.a.k, .int .i64 rt.a.n, .string rt.a.s, .slice p.ra rk.length p.rc] 63)).heap.size (w.alloc (.cells #[.int .i8 3, .string pr, .slice p.a ts.length p.c, .int .i8 (n : Int), .int .i8 lo, .string lt.v, .int .i8 lt.a.k, .int .i64 lt.a.n, .string lt.a.s, .slice p.la lk.length p.lc, .int .i8 ro, .string rt.v, .int .i8 rt.a.k, .int .i64 rt.a.n, .string rt.a.s, .slice p.ra rk.length p.rc] 63)) u → Below w.heap.size w u ∧ u.cell? ⟨w.heap.size, 3, none⟩ = some (.int .i8 (n : Int)) ∧ u.cell? ⟨w.heap.size, 4, none⟩ = some (.int .i8 lo) ∧ u.cell? ⟨w.heap.size, 5, none⟩ = some (.string lt.v) ∧ u.cell? ⟨w.heap.size, 6, none⟩ = some (.int .i8 lt.a.k) ∧ u.cell? ⟨w.heap.size, 7, none⟩ = some (.int .i64 lt.a.n) ∧ u.cell? ⟨w.heap.size, 8, none⟩ = some (.string lt.a.s) ∧ u.cell? ⟨w.heap.size, 9, none⟩ = some (.slice p.la lk.length p.lc) ∧ u.cell? ⟨w.heap.size, 10, none⟩ = some (.int .i8 ro) ∧ u.cell? ⟨w.heap.size, 11, none⟩ = some (.string rt.v) ∧ u.cell? ⟨w.heap.size, 12, none⟩ = some (.int .i8 rt.a.k) ∧ u.cell? ⟨w.heap.size, 13, none⟩ = some (.int .i64 rt.a.n) ∧ u.cell? ⟨w.heap.size, 14, none⟩ = some (.string rt.a.s) ∧ u.cell? ⟨w.heap.size, 15, none⟩ = some (.slice p.ra rk.length p.rc)) := fun u hu => by
      have q3 : u.cell? ⟨w.heap.size, 3, none⟩ = some (.int .i8 (n : Int)) := by rw [hu.cell (p := ⟨w.heap.size, 3, none⟩) (by simp)]; go_simp
      have q4 : u.cell? ⟨w.heap.size, 4, none⟩ = some (.int .i8 lo) := by rw [hu.cell (p := ⟨w.heap.size, 4, none⟩) (by simp)]; go_simp
      have q5 : u.cell? ⟨w.heap.size, 5, none⟩ = some (.string lt.v) := by rw [hu.cell (p := ⟨w.heap.size, 5, none⟩) (by simp)]; go_simp
      have q6 : u.cell? ⟨w.heap.size, 6, none⟩ = some (.int .i8 lt.a.k) := by rw [hu.cell (p := ⟨w.heap.size, 6, none⟩) (by simp)]; go_simp
      have q7 : u.cell? ⟨w.heap.size, 7, none⟩ = some (.int .i64 lt.a.n) := by rw [hu.cell (p := ⟨w.heap.size, 7, none⟩) (by simp)]; go_simp
      have q8 : u.cell? ⟨w.heap.size, 8, none⟩ = some (.string lt.a.s) := by rw [hu.cell (p := ⟨w.heap.size, 8, none⟩) (by simp)]; go_simp
      have q9 : u.cell? ⟨w.heap.size, 9, none⟩ = some (.slice p.la lk.length p.lc) := by rw [hu.cell (p := ⟨w.heap.size, 9, none⟩) (by simp)]; go_simp
      have q10 : u.cell? ⟨w.heap.size, 10, none⟩ = some (.int .i8 ro) := by rw [hu.cell (p := ⟨w.heap.size, 10, none⟩) (by simp)]; go_simp
      have q11 : u.cell? ⟨w.heap.size, 11, none⟩ = some (.string rt.v) := by rw [hu.cell (p := ⟨w.heap.size, 11, none⟩) (by simp)]; go_simp
      have q12 : u.cell? ⟨w.heap.size, 12, none⟩ = some (.int .i8 rt.a.k) := by rw [hu.cell (p := ⟨w.heap.size, 12, none⟩) (by simp)]; go_simp
      have q13 : u.cell? ⟨w.heap.size, 13, none⟩ = some (.int .i64 rt.a.n) := by rw [hu.cell (p := ⟨w.heap.size, 13, none⟩) (by simp)]; go_simp
      have q14 : u.cell? ⟨w.heap.size, 14, none⟩ = some (.string rt.a.s) := by rw [hu.cell (p := ⟨w.heap.size, 14, none⟩) (by simp)]; go_simp
      have q15 : u.cell? ⟨w.heap.size, 15, none⟩ = some (.slice p.ra rk.length p.rc) := by rw [hu.cell (p := ⟨w.heap.size, 15, none⟩) (by simp)]; go_simp
      exact ⟨BA.trans (hu.mono BA.size), q3, q4, q5, q6, q7, q8, q9, q10, q11, q12, q13, q14, q15⟩
    clear BA hl1 hl2 hrl
    go_enter Tryz.func30, Tryz.ntmps30
    go_upto_region 6 with fail
    generalize hWW : w.alloc (.cells #[.int .i8 3, .string pr, .slice p.a ts.length p.c, .int .i8 (n : Int), .int .i8 lo, .string lt.v, .int .i8 lt.a.k, .int .i64 lt.a.n, .string lt.a.s, .slice p.la lk.length p.lc, .int .i8 ro, .string rt.v, .int .i8 rt.a.k, .int .i64 rt.a.n, .string rt.a.s, .slice p.ra rk.length p.rc] 63) = W at HC ⊢
    clear hWW
    have hB0 : Below W.heap.size W W.drew := (Below.refl _ _).drew
    have hS0 := HC.out _ (Below.refl _ _)
    go_region_held3 (fun u => (Below W.heap.size W u) ∧ u.cell? ⟨w.heap.size, 3, none⟩ = some (.int .i8 (n : Int)) ∧ u.cell? ⟨w.heap.size, 4, none⟩ = some (.int .i8 lo) ∧ u.cell? ⟨w.heap.size, 5, none⟩ = some (.string lt.v) ∧ u.cell? ⟨w.heap.size, 6, none⟩ = some (.int .i8 lt.a.k) ∧ u.cell? ⟨w.heap.size, 7, none⟩ = some (.int .i64 lt.a.n) ∧ u.cell? ⟨w.heap.size, 8, none⟩ = some (.string lt.a.s) ∧ u.cell? ⟨w.heap.size, 9, none⟩ = some (.slice p.la lk.length p.lc) ∧ u.cell? ⟨w.heap.size, 10, none⟩ = some (.int .i8 ro) ∧ u.cell? ⟨w.heap.size, 11, none⟩ = some (.string rt.v) ∧ u.cell? ⟨w.heap.size, 12, none⟩ = some (.int .i8 rt.a.k) ∧ u.cell? ⟨w.heap.size, 13, none⟩ = some (.int .i64 rt.a.n) ∧ u.cell? ⟨w.heap.size, 14, none⟩ = some (.string rt.a.s) ∧ u.cell? ⟨w.heap.size, 15, none⟩ = some (.slice p.ra rk.length p.rc))
      (first
        | assumption
        | exact ⟨hB0, (HC.out _ hB0).2⟩
        | exact ⟨(by assumption), (HC.out _ (by assumption)).2⟩)
      (first
        | (go_at_call_of 59 (Value.string lt.v); refine Calls.mono (HEl.out _ (HC.out _ (by assumption)).1) ?_; rintro ee wf ⟨rfl, bf⟩; have bf' := below_next (wc := W) (by assumption) bf)
        | (go_at_call_of 59 (Value.string rt.v); refine Calls.mono (HEr.out _ (HC.out _ (by assumption)).1) ?_; rintro ee wf ⟨rfl, bf⟩; have bf' := below_next (wc := W) (by assumption) bf)
        | (go_at_call 60; refine Calls.mono (HR.out _) ?_; rintro ee wf ⟨rfl, rfl⟩)
        | fail)
    go_wp2
    go_ret
    exact ⟨rfl, (HC.out _ (by assumption)).1⟩
end Go.Proofs.YtmblkafejhbffaaGreatDoor
