import Derived.Test.YtjjjnpmppblchaaGreatDoorPrB
import Derived.Test.YtjjjnpmppblchaaGreatDoorRlB
namespace Go.Proofs.YtjjjnpmppblchaaGreatDoor
open Go.RowKit Go.Maps
set_option linter.unusedVariables false
set_option linter.unusedSimpArgs false

theorem flat_one {l : List E} (f : E → List T) (h : 0 < l.length) : (f (atE l 0)).length ≤ (l.flatMap f).length := by
  match l, h with
  | x :: r, _ => simp [atE, List.getD]
theorem flat_two {l : List E} (f : E → List T) (h : 1 < l.length) : (f (atE l 0)).length + (f (atE l 1)).length ≤ (l.flatMap f).length := by
  match l, h with
  | x :: y :: r, _ => simp [atE, List.getD]
/-- an expression's text, by its number of terms -/
theorem textE_sz : ∀ (r d : Nat) (e : E) (a : Option Addr) (c : Nat) (w : World), EIs w d e a c → exprB r e = true → (textE r e).length + 4 ≤ 1020 * (termsD d e).length
  | 0, _, _, _, _, _, _, h => by cases h
  | r + 1, 0, _, _, _, _, h, _ => h.elim
  | r + 1, d + 1, e, a, c, w, hE, he => by
    obtain ⟨hop, htw, hc1, hc2, hk⟩ := hE
    obtain ⟨f1, f2, f3, f4, f5⟩ := exprB_form he
    obtain ⟨op, t, kids⟩ := e
    rw [termsD_succ, List.length_cons]
    simp only [op_mk, t_mk, kids_mk] at *
    obtain ⟨p, rfl⟩ : ∃ p : Nat, op = p := ⟨op.toNat, by omega⟩
    rw [Int.toNat_natCast] at f3
    rw [textE_mk]
    by_cases h0 : (p : Int) = 0
    · rw [if_pos h0]
      have hok : termB t = true := by
        have := f4 h0
        unfold namedB at this
        simp only [Bool.and_eq_true] at this
        exact this.2
      have := termT_len htw hok
      omega
    · rw [if_neg h0]
      have hkid : ∀ i, i < kids.length → (textE r (atE kids i)).length + 4 ≤ 1020 * (termsD d (atE kids i)).length := fun i hi => by
        obtain ⟨g, off, _, _, hKS⟩ := hk (by omega)
        obtain ⟨a', c', _, he'⟩ := hKS i hi
        exact textE_sz r d _ a' c' w he' (f5 h0 i hi)
      have hk0 : 0 < kids.length := by
        rw [f3]
        exact (by decide : ∀ q : Fin 11, q.val ≠ 0 → 0 < kidsOf q.val) ⟨p, by omega⟩ (by show p ≠ 0; omega)
      have A := hkid 0 hk0
      have F := flat_one (termsD d) hk0
      by_cases h1 : (p : Int) = 1
      · rw [if_pos h1, List.length_append]
        have := kidT_len (decide (holdT (atE kids 0).op.toNat < holdT 1) || unsB (atE kids 0)) (textE r (atE kids 0))
        have := opT_len 1
        omega
      · rw [if_neg h1]
        by_cases h8 : 8 ≤ (p : Int)
        · rw [if_pos h8, List.length_append]
          have := kidT_len true (textE r (atE kids 0))
          have := opT_len p
          omega
        · rw [if_neg h8]
          have hk1 : 1 < kids.length := by
            rw [f3, (by decide : ∀ q : Fin 11, q.val ≠ 0 → q.val ≠ 1 → ¬ 8 ≤ q.val → kidsOf q.val = 2) ⟨p, by omega⟩ (by show p ≠ 0; omega) (by show p ≠ 1; omega) (by show ¬ 8 ≤ p; omega)]
            omega
          have A1 := hkid 1 hk1
          have F2 := flat_two (termsD d) hk1
          simp only [List.length_append, List.length_cons, List.length_nil]
          have := kidT_len (decide (holdT (atE kids 0).op.toNat < holdT p)) (textE r (atE kids 0))
          have := kidT_len (decide (holdT (atE kids 1).op.toNat ≤ holdT p)) (textE r (atE kids 1))
          have := opT_len p
          omega
theorem termsD_pos {w : World} {d : Nat} {e : E} {a : Option Addr} {c : Nat} (h : EIs w d e a c) : 1 ≤ (termsD d e).length := by
  cases d with
  | zero => exact h.elim
  | succ d => rw [termsD_succ, List.length_cons]; omega
theorem litT_sz {w : World} {d : Nat} {x : Lit4} {p : LP} (h : LIs w d x p) (hok : litB x = true) : (litT x).length + 2 ≤ 1030 * (termsL d x).length := by
  have p1 := termsD_pos h.l
  have p2 := termsD_pos h.r
  have hl : (termsL d x).length = x.ts.length + ((termsD d x.l).length + (termsD d x.r).length) := by unfold termsL; simp only [List.length_append]
  have hat : ∀ hA : atomB x.pr x.ts = true, (atomT x.pr x.ts).length ≤ 122 + x.ts.length * 1002 := fun hA => by
    have hn : nameB x.pr = true := by unfold atomB at hA; simp only [Bool.and_eq_true] at hA; exact hA.1.1
    have h1 := name_size hn
    have h2 := upT_len h.ts.wf (atomB_all hA) x.ts.length (Nat.le_refl _)
    unfold atomT colT
    rw [List.length_append, len_toList]
    split
    · simp only [List.length_nil]; omega
    · simp only [List.length_append, List.length_cons, List.length_nil]; omega
  rcases litB_form hok with ⟨e, hA⟩ | ⟨e, hA⟩ | ⟨e, r1, r6, el, er⟩
  · have := hat hA
    unfold litT
    rw [if_pos e]
    omega
  · have := hat hA
    unfold litT
    rw [if_neg (by omega), if_pos e]
    simp only [List.length_append, List.length_cons, List.length_nil]
    omega
  · have h1 := textE_sz 8 d _ _ _ w h.l el
    have h2 := textE_sz 8 d _ _ _ w h.r er
    have h3 := relT_len x.rel.toNat
    unfold litT
    rw [if_neg (by omega), if_neg (by omega)]
    simp only [List.length_append, List.length_cons, List.length_nil]
    omega
theorem argT_sz {x : A5} (hx : x.wf) (h : argB x = true) : (argT x).length ≤ 1010 := by
  rcases argB_form hx h with ⟨e, ht⟩ | ⟨e, hv⟩
  · unfold argT
    rw [if_pos e]
    have := (termT_len hx.t ht).2
    omega
  · unfold argT
    rw [if_neg (by omega)]
    have := aggT_len x.g.toNat
    simp only [List.length_append, List.length_cons, List.length_nil, len_toList]
    omega
theorem upG_sum {tx : List (List UInt8)} : ∀ k, k ≤ tx.length → (upG tx k).length ≤ ((tx.take k).map (fun t => t.length + 2)).sum
  | 0, _ => by simp [upG]
  | k + 1, hk => by
    have h1 := upG_sum (tx := tx) k (by omega)
    have e : tx.take (k + 1) = tx.take k ++ [tx.getD k []] := by
      rw [List.take_add_one, List.getElem?_eq_getElem (by omega : k < tx.length)]
      simp [List.getD, (by omega : k < tx.length)]
    rw [upG, e, List.map_append, List.sum_append]
    simp only [List.length_append, List.map_cons, List.map_nil, List.sum_cons, List.sum_nil]
    have h3 : (if k = 0 then ([] : List UInt8) else [44, 32]).length ≤ 2 := by split <;> simp
    omega
theorem sum_le_flat {w : World} {d : Nat} : ∀ (l : List XL), (∀ y ∈ l, LIs w d y.x y.p) → l.all (fun y => litB y.x) = true → ((txB l).map (fun t => t.length + 2)).sum ≤ 1030 * (l.flatMap (fun y => termsL d y.x)).length
  | [], _, _ => by simp [txB]
  | y :: r, hL, hok => by
    simp only [List.all_cons, Bool.and_eq_true] at hok
    have h1 := litT_sz (hL y (by simp)) hok.1
    have h2 := sum_le_flat r (fun z hz => hL z (by simp [hz])) hok.2
    unfold txB at h2 ⊢
    simp only [List.map_cons, List.sum_cons, List.flatMap_cons, List.length_append]
    omega
theorem sum_le_args : ∀ (l : List A5), (∀ y ∈ l, y.wf) → l.all argB = true → ((txA l).map (fun t => t.length + 2)).sum ≤ 1030 * l.length
  | [], _, _ => by simp [txA]
  | y :: r, hL, hok => by
    simp only [List.all_cons, Bool.and_eq_true] at hok
    have h1 := argT_sz (hL y (by simp)) hok.1
    have h2 := sum_le_args r (fun z hz => hL z (by simp [hz])) hok.2
    unfold txA at h2 ⊢
    simp only [List.map_cons, List.sum_cons, List.length_cons]
    omega
theorem ruleT_sz {w : World} {d : Nat} {r : R3} {p : RP} (hR : RIs w d r p) (hok : ruleB d r = true) : (ruleT r).length ≤ 1030 * (termsR d r).length + 200 := by
  obtain ⟨h1, h2, h3, h4, h5⟩ := ruleB_form hok
  have a1 := name_size h1
  have a2 := upG_sum (tx := txA r.hd) r.hd.length (by rw [txA_len]; exact Nat.le_refl _)
  rw [List.take_of_length_le (by rw [txA_len]; exact Nat.le_refl _)] at a2
  have a3 := sum_le_args r.hd hR.hd.wf h4
  have a4 := upG_sum (tx := txB r.bd) r.bd.length (by rw [txB_len]; exact Nat.le_refl _)
  rw [List.take_of_length_le (by rw [txB_len]; exact Nat.le_refl _)] at a4
  have a5 := sum_le_flat r.bd hR.bd.each h5
  have c1 : (colG (txA r.hd)).length ≤ 2 + (upG (txA r.hd) r.hd.length).length := by
    unfold colG
    rw [txA_len]
    split
    · simp
    · simp only [List.length_append, List.length_cons, List.length_nil]; omega
  have c2 : (bodyT r.bd).length ≤ 4 + (upG (txB r.bd) r.bd.length).length := by
    unfold bodyT
    split
    · simp
    · simp only [List.length_append, List.length_cons, List.length_nil]; omega
  unfold ruleT termsR
  simp only [List.length_append, List.length_cons, List.length_nil, List.length_map, len_toList]
  omega
open Go.RowKit Go.Maps
set_option linter.unusedVariables false
set_option linter.unusedSimpArgs false
attribute [local go_sem ↓] Go.wp_at_zero Go.wp_at_succ

/-- are all rules as they may be? their lines -/
def okS (d : Nat) (l : List XR) : Bool := l.all (fun y => ruleB d y.r)
def lineT (y : XR) : List UInt8 := ruleT y.r ++ [10]
def txtS (l : List XR) : List UInt8 := l.flatMap lineT
theorem okS_not {d : Nat} {l : List XR} {k : Nat} (h : k < l.length) (hn : ruleB d (atR l k).r = false) : okS d l = false := by
  unfold okS
  rw [← Bool.not_eq_true]
  intro ha
  rw [List.all_eq_true] at ha
  rw [atR_eq h] at hn
  rw [ha _ (List.getElem_mem h)] at hn
  cases hn
theorem okS_take {d : Nat} {l : List XR} {k : Nat} (h : k < l.length) : okS d (l.take (k + 1)) = (okS d (l.take k) && ruleB d (atR l k).r) := by
  unfold okS
  rw [takeRl h, List.all_append]
  simp
theorem txtS_take {l : List XR} {k : Nat} (h : k < l.length) : txtS (l.take (k + 1)) = txtS (l.take k) ++ (ruleT (atR l k).r ++ [10]) := by
  unfold txtS
  rw [takeRl h, List.flatMap_append]
  simp [lineT]
theorem txtS_sum {w : World} {d : Nat} : ∀ (l : List XR), (∀ y ∈ l, RIs w d y.r y.p) → okS d l = true → (txtS l).length ≤ 1030 * (l.flatMap (fun y => termsR d y.r)).length + 201 * l.length
  | [], _, _ => by simp [txtS]
  | y :: r, hL, hok => by
    unfold okS at hok
    simp only [List.all_cons, Bool.and_eq_true] at hok
    have h1 := ruleT_sz (hL y (by simp)) hok.1
    have h2 := txtS_sum r (fun z hz => hL z (by simp [hz])) hok.2
    unfold txtS at h2 ⊢
    simp only [List.flatMap_cons, List.length_append, List.length_cons, List.length_nil, lineT]
    omega
theorem flat_take_le {d : Nat} (l : List XR) (k : Nat) : ((l.take k).flatMap (fun y => termsR d y.r)).length ≤ (l.flatMap (fun y => termsR d y.r)).length := by
  conv => rhs; rw [← List.take_append_drop k l, List.flatMap_append, List.length_append]
  omega
theorem txtS_len {w : World} {v : Value} {d : Nat} {l : List XR} (hL : Lr w v d l) (hs : smallS d l) {k : Nat} (hk : k ≤ l.length) (hok : okS d (l.take k) = true) : (txtS (l.take k)).length ≤ 1300000000 := by
  have h1 := txtS_sum (w := w) (l.take k) (fun y hy => by
    obtain ⟨i, hi, rfl⟩ := List.getElem_of_mem (List.mem_of_mem_take hy)
    have := hL.each i hi
    rw [atR_eq hi] at this
    exact this) hok
  have h2 := flat_take_le (d := d) l k
  have h3 := hs.terms
  have h4 := hs.len
  rw [List.length_take] at h1
  have : min k l.length ≤ 1048576 := by omega
  omega
attribute [-go_sem] loadVar storeVar
set_option maxHeartbeats 3200000 in
set_option maxRecDepth 20000 in
theorem r6Program_any (d : Nat) (v : Value) (l : List XR) (w : World) (hL : Lr w v d l) (hs : smallS d l) :
    Calls Tryz.prog 6 #[.agg #[v]] w fun e w' => e = .returned (toldV (okS d l) (txtS l)) ∧ Below w.heap.size w w' := by
  have hll := hs.len
  have HLn : Hid (∀ k, k ≤ l.length → okS d (l.take k) = true → (txtS (l.take k)).length ≤ 1300000000) := fun k hk hok => txtS_len hL hs hk hok
  have HCk : Hid (∀ i, i < l.length → ∀ u, Below w.heap.size w u → Calls Tryz.prog 13 #[.agg (atR l i).cells.toArray] u fun e w' => e = .returned (.int .i64 (errB (ruleB d (atR l i).r))) ∧ Below u.heap.size u w') := fun i hi u hu => rcheckRule_any d (atR l i).r (atR l i).p u ((hL.each i hi).below hu) (hs.each i hi)
  have HRl : Hid (∀ i, i < l.length → ruleB d (atR l i).r = true → ∀ u, Below w.heap.size w u → Calls Tryz.prog 14 #[.agg (atR l i).cells.toArray] u fun e w' => e = .returned (.string (txt (ruleT (atR l i).r))) ∧ Below u.heap.size u w') := fun i hi hok u hu => r6rule_any d (atR l i).r (atR l i).p u ((hL.each i hi).below hu) hok
  obtain ⟨a, c, rfl, hc1, hc2, hk⟩ := hL.form
  have HK : Hid _ := hk
  have HBA : Hid (Below w.heap.size w (w.alloc (.cells #[.slice a l.length c] 29))) := (Below.refl w.heap.size w).alloc (Nat.le_refl _) _
  have HR0 : Hid (RL (w.alloc (.cells #[.slice a l.length c] 29)) w.heap.size 29 [.slice a l.length c]) := rl_new w #[.slice a l.length c] 29
  have hagg2 := fun q => loadVar.eq_1 22 q
  have HTV : Hid (∀ b t, toldV b t = if b then .tuple #[.string ⟨t.toArray⟩, .int .i64 0] else .tuple #[.string ⟨#[]⟩, .int .i64 40]) := fun b t => rfl
  obtain ⟨ov, hov⟩ : ∃ ov, toldV (okS d l) (txtS l) = ov := ⟨_, rfl⟩
  rw [hov]
  have HOV : Hid _ := hov
  clear hk hL hs hov hc2
  go_enter Tryz.func6, Tryz.ntmps6
  go_wp2
  go_loopw [4, 5] (fun s i wr => ∃ k : Nat, k ≤ l.length ∧ i = .int .i64 k ∧ ∃ S, s = .string S ∧ Hid (txt (txtS (l.take k)) = S) ∧ Hid (okS d (l.take k) = true) ∧ Below w.heap.size w wr ∧ Hid (RL wr w.heap.size 29 [.slice a l.length c])) (fun _ i _ => l.length - (intOf i).toNat)
  case atStart => exact ⟨0, Nat.zero_le _, rfl, ⟨#[]⟩, rfl, by simp [Hid, txtS, txt], by simp [Hid, okS], HBA.out, HR0⟩
  case round =>
    obtain ⟨k, hk, rfl, S, rfl, HS, HO, bel, HRw⟩ := hrel
    have r0 := HRw.out.at (j := 0) rfl
    clear HR0 HBA
    by_cases hlt : k < l.length
    · have hlt' : (k : Int) < (l.length : Int) := by omega
      have hk0 : (0 : Int) ≤ (k : Int) := by omega
      obtain ⟨g, off, rfl, hg, hT⟩ := HK.out (by omega)
      have HLd : Hid (∀ u, Below w.heap.size w u → (loadVar 34 ⟨g, off + k * 3, none⟩).run Tryz.prog u = .ok (.agg (atR l k).cells.toArray) u) := fun u hu => load_Rul (range_below (hT k hlt) hu hg) rfl
      have hss : S.size ≤ 1300000000 := by rw [← HS.out, txt_size]; exact HLn.out k hk HO.out
      have HC : Hid _ := HCk.out k hlt
      have HR : Hid _ := HRl.out k hlt
      have HNo : Hid (ruleB d (atR l k).r = false → ov = .tuple #[.string ⟨#[]⟩, .int .i64 40]) := fun h => by rw [← HOV.out, okS_not hlt h, HTV.out]; rfl
      have HYe : Hid (ruleB d (atR l k).r = true → okS d (l.take (k + 1)) = true) := fun h => by rw [okS_take hlt, HO.out, h]; rfl
      have HTk : Hid _ := txtS_take hlt
      have HL2 : Hid (okS d (l.take (k + 1)) = true → (txtS (l.take (k + 1))).length ≤ 1300000000) := HLn.out (k + 1) hlt
      generalize Value.agg (atR l k).cells.toArray = QV at HLd HC HR
      generalize ruleT (atR l k).r = rt at HR HTk
      generalize ruleB d (atR l k).r = rb at HC HR HNo HYe
      have hld := HLd.out wr bel
      clear hT
      go_wp2_with fail
      refine Calls.mono (HC.out _ bel) ?_
      rintro e w1 ⟨rfl, b1⟩
      have bel1 : Below w.heap.size w w1 := bel.trans (b1.mono bel.size)
      have HR1 : Hid (RL w1 w.heap.size 29 _) := RL.below HRw.out b1
      have r1 := HR1.out.at (j := 0) rfl
      have hld1 := HLd.out w1 bel1
      clear b1 HC hld r0 bel HRw
      cases rb
      · unfold errB
        simp only [Bool.false_eq_true, if_false]
        go_wp2
        go_ret2
        exact ⟨by rw [HNo.out (by first | rfl | trivial)]; rfl, bel1⟩
      · unfold errB
        simp only [if_true]
        have HO2 : Hid _ := HYe.out rfl
        have hl2 := HL2.out HO2.out
        rw [HTk.out] at hl2
        have hadd1 : S ++ txt rt = txt (txtS (l.take k) ++ rt) := by rw [← HS.out, txt_app]
        have hadd2 : txt (txtS (l.take k) ++ rt) ++ (⟨#[10]⟩ : ByteArray) = txt (txtS (l.take (k + 1))) := by rw [HTk.out, txt_one, txt_app, List.append_assoc]
        obtain ⟨S1, hS1⟩ : ∃ S1, txt (txtS (l.take k) ++ rt) = S1 := ⟨_, rfl⟩
        obtain ⟨S2, hS2⟩ : ∃ S2, txt (txtS (l.take (k + 1))) = S2 := ⟨_, rfl⟩
        have hs1 : S1.size ≤ 1300000000 := by
          rw [← hS1, txt_size, List.length_append]
          simp only [List.length_append] at hl2
          omega
        have hrs : (txt rt).size ≤ 1300000000 := by
          rw [txt_size]
          simp only [List.length_append] at hl2
          omega
        rw [hS1] at hadd1 hadd2
        rw [hS2] at hadd2
        have HS2 : Hid _ := hS2
        have HRx : Hid _ := HR.out rfl
        clear hS1 hS2 hl2 HL2 HTk HR
        generalize txt rt = RS at HRx hrs hadd1
        go_wp2_with fail
        refine Calls.mono (HRx.out _ bel1) ?_
        rintro e w2 ⟨rfl, b2⟩
        have bel2 : Below w.heap.size w w2 := bel1.trans (b2.mono bel1.size)
        have HR2 : Hid (RL w2 w.heap.size 29 _) := RL.below HR1.out b2
        clear b2 HRx hld1 r1 bel1 HR1
        go_wp2
        go_roundw
        case rel => exact ⟨k + 1, by omega, by go_num, S2, rfl, HS2, HO2, bel2, HR2⟩
        case measure => simp [intOf]; omega
    · obtain rfl : k = l.length := by omega
      rw [List.take_length] at HS HO
      have HE : Hid (ov = .tuple #[.string S, .int .i64 0]) := by show _ = _; rw [← HOV.out, HO.out, HTV.out, if_pos rfl, ← HS.out]; rfl
      go_wp2
      go_ret2
      exact ⟨by rw [HE.out]; rfl, bel⟩
end Go.Proofs.YtjjjnpmppblchaaGreatDoor
