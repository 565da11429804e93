import Derived.Test.YteabclfhmapabaaDoorA42
import Derived.Test.YteabclfhmapabaaDoorPlLv
import Derived.Test.YteabclfhmapabaaDoorPlMkR
import Derived.Test.YteabclfhmapabaaDoorPlStR
namespace Go.Proofs.YteabclfhmapabaaDoor
open Go.RowKit Go.Maps Go.Shelf Go.ChangeMaps
set_option linter.unusedVariables false
set_option linter.unusedSimpArgs false
attribute [local go_sem ↓] Go.wp_at_zero Go.wp_at_succ
attribute [-go_sem] loadVar
theorem run_notV (ev : Operand → Value) (o : Oper) {t : TypeId} {x : Operand} (hop : o.op = .unOp .not t x) (w : World) {b : Bool} (hx : ev x = .bool b) : (execOp ev o).run Tryd.prog w = .ok (.value (.bool (!b))) w := by
  simp only [execOp, hop, hx]
  go_simp
theorem goR_prefix {d : Nat} {l : List XL} {ss : List ByteArray} {left : Nat} {xs : List SX} {r : List ByteArray × Nat} (h : goR d l ss left (xs.map SX.s) = some r) {j : Nat} (hj : j < xs.length) {ss' : List ByteArray} {left' : Nat} (hp : goR d l ss left ((xs.take j).map SX.s) = some (ss', left')) : okW d l ss' left' (atZ xs j).s = true := by
  rcases hb : okW d l ss' left' (atZ xs j).s with _ | _
  · rw [goR_fails hj hp hb] at h
    cases h
  · rfl
theorem inB_all {l : List ByteArray} {s : ByteArray} (h : ∀ j, j < l.length → atS l j ≠ s) : inB l s = false := Bool.eq_false_iff.2 (fun hh => by
  obtain ⟨j, hj, e⟩ := List.getElem_of_mem (inB_iff.1 hh)
  refine h j hj ?_
  unfold atS
  rw [List.getD, List.getElem?_eq_getElem hj]
  exact e)
theorem inB_at {l : List ByteArray} {s : ByteArray} {j : Nat} (hj : j < l.length) (h : atS l j = s) : inB l s = true := inB_iff.2 (by
  unfold atS at h
  rw [List.getD, List.getElem?_eq_getElem hj] at h
  exact h ▸ List.getElem_mem hj)
set_option maxHeartbeats 1600000 in
set_option maxRecDepth 100000 in
theorem has_any {w : World} {v : Value} {l : List ByteArray} (hl : Ls w v l.length (l.flatMap strB)) (s : ByteArray) :
    Calls Tryd.prog 21 #[v, .string s] w fun e w' => e = .returned (.bool (inB l s)) ∧ w' = w := by
  obtain ⟨a, c, rfl, hc1, hc2, hat⟩ := ls_str hl
  have HAT := Lib.hid hat
  unfold maxLen at hc2
  clear hl hat
  go_enter Tryd.func21, Tryd.ntmps21
  go_wp2
  go_loopw [5] (fun i wr => ∃ k : Nat, k ≤ l.length ∧ i = .int .i64 k ∧ Hid (∀ j, j < k → atS l j ≠ s) ∧ Hid (wr = w)) (fun i _ => l.length - (intOf i).toNat)
  case atStart => exact ⟨0, Nat.zero_le _, rfl, fun j hj => absurd hj (Nat.not_lt_zero _), rfl⟩
  case round =>
    obtain ⟨k, hk, rfl, HN, HW⟩ := hrel
    by_cases hlt : k < l.length
    · have hlt' : (k : Int) < (l.length : Int) := by omega
      have hk0 : (0 : Int) ≤ (k : Int) := by omega
      obtain ⟨g, off, rfl, hg, hce⟩ := HAT.out (by omega)
      have hcw : wr.cell? ⟨g, off + k, none⟩ = some (.string (atS l k)) := by rw [HW.out]; exact hce k hlt
      have l1 := load_strP hcw
      have HX : Hid (atS l k ≠ s → ∀ j, j < k + 1 → atS l j ≠ s) := fun h j hj => by
        by_cases hjk : j = k
        · rw [hjk]
          exact h
        · exact HN.out j (by omega)
      have HY : Hid (atS l k = s → inB l s = true) := fun h => inB_at hlt h
      generalize atS l k = x at l1 HX HY
      clear hce hcw hg
      by_cases hx : x = s
      · have hd : (x.toList == s.toList) = true := by rw [hx]; exact beq_self_eq_true _
        have HF := Lib.hid (HY.out hx)
        clear hx HX HY
        go_wp2
        go_ret
        exact ⟨by rw [HF.out]; rfl, HW.out⟩
      · have hd : (x.toList == s.toList) = false := by
          rw [beq_eq_false_iff_ne]
          exact fun e => hx (toList_inj e)
        have HF := Lib.hid (HX.out hx)
        clear hx HX HY
        go_wp2
        go_roundw
        case rel => exact ⟨k + 1, by omega, by go_num, HF, HW⟩
        case measure => simp [intOf]; omega
    · obtain rfl : k = l.length := by omega
      have HF : Hid (inB l s = false) := inB_all HN.out
      go_wp2
      go_ret
      exact ⟨by rw [HF.out]; rfl, HW.out⟩
theorem foldN_mem : ∀ (l out : List ByteArray) (x : ByteArray), x ∈ l.foldl addN out ↔ x ∈ out ∨ x ∈ l
  | [], out, x => by simp
  | n :: l, out, x => by
    rw [List.foldl_cons, foldN_mem l]
    unfold addN
    split
    · rename_i hc
      constructor
      · rintro (h | h)
        · exact .inl h
        · exact .inr (List.mem_cons_of_mem _ h)
      · rintro (h | h)
        · exact .inl h
        · rcases List.mem_cons.1 h with rfl | h
          · exact .inl (inB_iff.1 hc)
          · exact .inr h
    · rw [List.mem_append, List.mem_singleton, List.mem_cons]
      constructor
      · rintro ((h | h) | h)
        · exact .inl h
        · exact .inr (.inl h)
        · exact .inr (.inr h)
      · rintro (h | h | h)
        · exact .inl (.inl h)
        · exact .inl (.inr h)
        · exact .inr h
theorem body_sub {d : Nat} {r : R3} {y : XL} (hy : y ∈ r.bd) {us : List T} (h : ∀ t ∈ us, t ∈ termsL d y.x) : ∀ m ∈ vsT [] us, m ∈ vsT [] (termsR d r) := fun m hm => vsT_sub (fun t ht => by
    unfold termsR
    exact List.mem_append.2 (.inr (List.mem_flatMap.2 ⟨y, hy, h t ht⟩))) m hm
theorem limK_in {d : Nat} {r : R3} {l fs : List ByteArray} (hL : LimK (d + 1) l r fs) : (∀ x ∈ fs, x ∈ vsT [] (termsR (d + 1) r)) ∧ fs.Nodup := by
  have hat : ∀ x ∈ atN (kbL (d + 1) l r), x ∈ vsT [] (termsR (d + 1) r) := fun x hx2 => by
    unfold atN at hx2
    rcases foldN_memG _ _ x hx2 with h1 | h1
    · cases h1
    · unfold avL at h1
      obtain ⟨y, hy, hxy⟩ := List.mem_flatMap.1 h1
      rcases List.mem_cons.1 hy with rfl | hy
      · obtain ⟨_, _, t, ht, e⟩ := mem_vsT.1 (show x ∈ vsT [] (aheadT l (vsT [] (termsR (d + 1) r))) from hxy)
        unfold aheadT at ht
        obtain ⟨m, hm, rfl⟩ := List.mem_map.1 ht
        have hm2 := List.mem_filter.1 hm
        have e' : m = x := e
        subst e'
        exact hm2.1
      · unfold avX at hxy
        split at hxy
        · exact body_sub hy (fun t ht => mem_termsL.2 (.inl ht)) x hxy
        · cases hxy
  have hlone : ∀ x ∈ loneL (eqL (d + 1) (kbL (d + 1) l r)), x ∈ vsT [] (termsR (d + 1) r) := fun x hx2 => by
    unfold loneL at hx2
    obtain ⟨q, hq, hxq⟩ := List.mem_flatMap.1 hx2
    unfold eqL at hq
    obtain ⟨y, hy, hqy⟩ := List.mem_flatMap.1 hq
    rcases List.mem_cons.1 hy with rfl | hy
    · cases hqy
    · unfold eqX at hqy
      split at hqy
      · obtain rfl := List.mem_singleton.1 hqy
        rcases List.mem_append.1 hxq with h1 | h1
        · exact body_sub hy (fun t ht => mem_termsL.2 (.inr (.inl ht))) x (sd_ok (d + 1) y.x.l x (Option.mem_toList.1 h1))
        · exact body_sub hy (fun t ht => mem_termsL.2 (.inr (.inr ht))) x (sd_ok (d + 1) y.x.r x (Option.mem_toList.1 h1))
      · cases hqy
  obtain ⟨⟨k, rfl⟩, _⟩ := hL
  exact itQ_inG _ hlone k _ hat (foldN_nodup _ _ List.nodup_nil)
/-- all are limited just if as many are found as there are -/
theorem limK_full {d : Nat} {r : R3} {l fs : List ByteArray} (hL : LimK (d + 1) l r fs) : fs.length = (vsT [] (termsR (d + 1) r)).length ↔ ∀ n ∈ vsT [] (termsR (d + 1) r), n ∈ fs := by
  obtain ⟨h1, h2⟩ := limK_in hL
  have h3 : (vsT [] (termsR (d + 1) r)).Nodup := vsT_nodup _ _ List.nodup_nil
  constructor
  · intro hlen n hn
    apply Classical.byContradiction
    intro hnf
    have hle := nodupN_le fs ((vsT [] (termsR (d + 1) r)).filter (fun m => decide (m ≠ n))) h2 (fun x hx => List.mem_filter.2 ⟨h1 x hx, decide_eq_true (fun e => hnf (e ▸ hx))⟩)
    have hlt : ((vsT [] (termsR (d + 1) r)).filter (fun m => decide (m ≠ n))).length < (vsT [] (termsR (d + 1) r)).length := List.length_filter_lt_length_iff_exists.2 ⟨n, hn, by simp⟩
    omega
  · intro h
    have a := nodupN_le _ _ h2 h1
    have b := nodupN_le _ _ h3 h
    omega
theorem still_shut {qs : List Qn} {fs : List ByteArray} (h : rndQ qs fs = fs) : ∀ q ∈ qs, ShutQ fs q := fun q hq => by
  have h1 := still_none qs fs h q hq
  refine ⟨fun v hv hm => ?_, fun v hv hm => ?_⟩
  · apply Classical.byContradiction
    intro hn
    refine hit_gave hn ?_ h1
    unfold hitQ
    rw [decide_eq_true hv, List.all_eq_true.2 (fun y hy => inB_iff.2 (hm y hy))]
    rfl
  · apply Classical.byContradiction
    intro hn
    refine hit_gave hn ?_ h1
    unfold hitQ
    rw [decide_eq_true hv, List.all_eq_true.2 (fun y hy => inB_iff.2 (hm y hy)), Bool.or_eq_true]
    exact .inr rfl
theorem run_idxPs (ev : Operand → Value) (o : Oper) {x y : Operand} (hop : o.op = .indexAddr 26 x y) (w : World) {g off n c k : Nat} (hx : ev x = .slice (some ⟨g, off, none⟩) n c) (hy : ev y = .int .i64 (k : Int)) (hk : k < n) : (execOp ev o).run Tryd.prog w = .ok (.value (.pointer (some ⟨g, off + k, none⟩))) w := by
  have hk' : (k : Int) < (n : Int) := by omega
  have hk0 : (0 : Int) ≤ (k : Int) := by omega
  simp only [execOp, hop, hx, hy]
  go_simp
theorem eqlS_run (s t : ByteArray) (u : World) : (binOp .eql 9 (.string s) (.string t)).run Tryd.prog u = .ok (.bool (s.toList == t.toList)) u := by go_simp
theorem s_ne {s t : ByteArray} (h : ¬ s = t) : (s.toList == t.toList) = false := by
  rw [beq_eq_false_iff_ne]
  exact fun e => h (toList_inj e)
/-- what Make answers: a plan's cells and an error -/
def MkC (d : Nat) (r : R3) (l : List ByteArray) (first : Int) (u : World) (pr : ByteArray) (ra : Option Addr) (rn rc : Nat) (ba : Option Addr) (bn bc : Nat) (sa : Option Addr) (sn sc : Nat) (er : Int) : Prop :=
  (er = 40 ∧ ruleB (d + 1) r = false) ∨ (er = 1 ∧ ruleB (d + 1) r = true ∧ knB l l.length = false) ∨ (er = 73 ∧ ruleB (d + 1) r = true ∧ knB l l.length = true ∧ ∃ fs, LimK (d + 1) l r fs ∧ fs.length ≠ (vsT [] (termsR (d + 1) r)).length) ∨
  (er = 120 ∧ ruleB (d + 1) r = true ∧ knB l l.length = true ∧ first ≠ -1 ∧ isAtM r.bd (2 ^ r.bd.length - 1) first = false) ∨
  (er = 0 ∧ ∃ (y : R3) (q : RP) (xs : List SX), pr = y.pr ∧ ra = q.a ∧ rn = y.hd.length ∧ rc = q.c ∧ ba = q.ba ∧ bn = y.bd.length ∧ bc = q.bc ∧ sn = xs.length ∧ MkY d r l first u y q xs sa sc)
end Go.Proofs.YteabclfhmapabaaDoor
