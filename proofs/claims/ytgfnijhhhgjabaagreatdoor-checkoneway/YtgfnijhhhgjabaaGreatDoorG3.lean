import Derived.Test.YtgfnijhhhgjabaaGreatDoorG2
import Derived.Deep.RegionLaw
import Derived.Laws.OwnMore
import Derived.Laws.BytesString
import Derived.Laws.Cells
import Derived.Lib.UnsafeStr
section
namespace Go.Proofs.YtgfnijhhhgjabaaGreatDoor
open Go.RowKit
set_option linter.unusedVariables false
set_option linter.unusedSimpArgs false
attribute [local go_sem ↓] Go.wp_at_zero Go.wp_at_succ

theorem run_eqV (k1 n1 : Int) (s1 : ByteArray) (k2 n2 : Int) (s2 : ByteArray) (w : World) :
    (binOp .eql 38 (.agg #[.int .i8 k1, .int .i64 n1, .string s1]) (.agg #[.int .i8 k2, .int .i64 n2, .string s2])).run Tryz.prog w = .ok (.bool (decide ((⟨k1, n1, s1⟩ : V) = ⟨k2, n2, s2⟩))) w := by
  by_cases hk : k1 = k2
  · by_cases hn : n1 = n2
    · by_cases hs : s1.toList = s2.toList
      · have := toList_inj hs
        subst hk hn this
        go_simp
      · have e : decide ((⟨k1, n1, s1⟩ : V) = ⟨k2, n2, s2⟩) = false := decide_eq_false (fun h => hs (by cases h; rfl))
        rw [e]
        go_simp
    · have e : decide ((⟨k1, n1, s1⟩ : V) = ⟨k2, n2, s2⟩) = false := decide_eq_false (fun h => hn (by cases h; rfl))
      rw [e]
      go_simp
  · have e : decide ((⟨k1, n1, s1⟩ : V) = ⟨k2, n2, s2⟩) = false := decide_eq_false (fun h => hk (by cases h; rfl))
    rw [e]
    go_simp

theorem some_iff (s : ByteArray) (h : s ≠ noS) : s.toList.isEmpty = false := by
  cases e : s.toList with
  | nil => exact absurd ((noS_iff s).1 e) h
  | cons _ _ => rfl
theorem blank_iff {s : ByteArray} (h : s ≠ blankS) : (s.toList == [95]) = false := by
  rw [beq_eq_false_iff_ne]
  intro e
  exact h (toList_inj (by rw [e, ByteArray.toList_eq]; rfl))

set_option maxHeartbeats 1600000 in
theorem isTerm_any (t : T) (w : World) (ht : t.wf) : Calls Tryz.prog 97 #[t.val] w fun e w' => e = .returned (.bool (termB t)) ∧ Below w.heap.size w w' := by
  obtain ⟨tv, k, n, s⟩ := t
  have h1 : tv.size ≤ maxLen := ht.text
  have h2 : s.size ≤ maxLen := ht.val.text
  unfold T.val
  dsimp only
  by_cases e0 : tv = noS
  · subst e0
    have HT : Hid (termB ⟨noS, k, n, s⟩ = (chk k n s == 0)) := by show termB _ = _; unfold termB okV chkV; rw [if_pos rfl]
    unfold noS
    go_enter Tryz.func97, Tryz.ntmps97
    go_wp2_with fail
    refine (vcheck_any k n s _ h2).mono ?_
    rintro e w' ⟨rfl, hb⟩
    go_wp2
    go_ret
    exact ⟨ret_bool HT.out.symm, ((Below.refl _ _).alloc (Nat.le_refl _) _).trans (hb.mono (by simp))⟩
  · have he := some_iff tv e0
    have hE := run_eqV k n s 0 0 ⟨#[]⟩
    by_cases ea : (⟨k, n, s⟩ : V) = V0
    · have hE' : decide ((⟨k, n, s⟩ : V) = ⟨0, 0, ⟨#[]⟩⟩) = true := decide_eq_true ea
      rw [hE'] at hE
      by_cases eb : tv = blankS
      · subst eb
        have HT : Hid (termB ⟨blankS, k, n, s⟩ = true) := by show termB _ = _; unfold termB; rw [if_neg e0]; simp [ea]
        clear e0 ea hE'
        unfold blankS at *
        go_enter Tryz.func97, Tryz.ntmps97
        go_wp2
        go_ret
        exact ⟨ret_bool HT.out.symm, ((Below.refl _ _).alloc (Nat.le_refl _) _)⟩
      · have hb0 := blank_iff eb
        have HT : Hid (termB ⟨tv, k, n, s⟩ = varB tv) := by show termB _ = _; unfold termB; rw [if_neg e0]; simp [ea, eb]
        clear e0 ea hE' eb
        go_enter Tryz.func97, Tryz.ntmps97
        go_wp2_with fail
        refine (isVariable_any tv _ h1).mono ?_
        rintro e w' ⟨rfl, rfl⟩
        go_wp2
        go_ret
        exact ⟨ret_bool HT.out.symm, ((Below.refl _ _).alloc (Nat.le_refl _) _)⟩
    · have hE' : decide ((⟨k, n, s⟩ : V) = ⟨0, 0, ⟨#[]⟩⟩) = false := decide_eq_false ea
      rw [hE'] at hE
      have HT : Hid (termB ⟨tv, k, n, s⟩ = false) := by show termB _ = _; unfold termB; rw [if_neg e0]; simp [ea]
      clear e0 ea hE'
      go_enter Tryz.func97, Tryz.ntmps97
      go_wp2
      go_ret
      exact ⟨ret_bool HT.out.symm, ((Below.refl _ _).alloc (Nat.le_refl _) _)⟩

set_option maxHeartbeats 1600000 in
theorem rterm_any (t : T) (w : World) (ht : t.wf) : Calls Tryz.prog 65 #[t.val] w fun e w' => e = .returned (.bool (termB t)) ∧ Below w.heap.size w w' := by
  obtain ⟨tv, k, n, s⟩ := t
  have h1 : tv.size ≤ maxLen := ht.text
  have h2 : s.size ≤ maxLen := ht.val.text
  unfold T.val
  dsimp only
  by_cases e0 : tv = noS
  · subst e0
    have HT : Hid (termB ⟨noS, k, n, s⟩ = (chk k n s == 0)) := by show termB _ = _; unfold termB okV chkV; rw [if_pos rfl]
    unfold noS
    go_enter Tryz.func65, Tryz.ntmps65
    go_wp2_with fail
    refine (rcheck_any k n s _ h2).mono ?_
    rintro e w' ⟨rfl, hb⟩
    go_wp2
    go_ret
    exact ⟨ret_bool HT.out.symm, (((Below.refl _ _).alloc (Nat.le_refl _) _).alloc (by simp) _).trans (hb.mono (by simp; omega))⟩
  · have he := some_iff tv e0
    have hE := run_eqV k n s 0 0 ⟨#[]⟩
    by_cases eb : tv = blankS
    · subst eb
      have HT : Hid (termB ⟨blankS, k, n, s⟩ = decide ((⟨k, n, s⟩ : V) = ⟨0, 0, ⟨#[]⟩⟩)) := by show termB _ = decide ((⟨k, n, s⟩ : V) = V0); unfold termB; rw [if_neg e0]; simp
      clear e0
      generalize decide ((⟨k, n, s⟩ : V) = ⟨0, 0, ⟨#[]⟩⟩) = z at hE HT
      unfold blankS at *
      go_enter Tryz.func65, Tryz.ntmps65
      go_wp2
      go_ret
      exact ⟨ret_bool HT.out.symm, (((Below.refl _ _).alloc (Nat.le_refl _) _).alloc (by simp) _)⟩
    · have hb0 := blank_iff eb
      have HT : Hid (termB ⟨tv, k, n, s⟩ = (varB tv && decide ((⟨k, n, s⟩ : V) = ⟨0, 0, ⟨#[]⟩⟩))) := by show termB _ = (_ && decide ((⟨k, n, s⟩ : V) = V0)); unfold termB; rw [if_neg e0]; simp [eb, Bool.and_comm]
      clear e0 eb
      generalize decide ((⟨k, n, s⟩ : V) = ⟨0, 0, ⟨#[]⟩⟩) = z at hE HT
      cases hvb : varB tv
      all_goals
        rw [hvb] at HT
        go_enter Tryz.func65, Tryz.ntmps65
        go_wp2_with fail
        refine (rVariable_any tv _ h1).mono ?_
        rw [hvb]
        rintro e w' ⟨rfl, rfl⟩
        go_wp2
        go_ret
        exact ⟨ret_bool (by rw [HT.out]; simp), (((Below.refl _ _).alloc (Nat.le_refl _) _).alloc (by simp) _)⟩

def errB (b : Bool) : Int := if b then 0 else 40
theorem verdict_any (b : Bool) (w : World) : Calls Tryz.prog 42 #[.bool b] w fun e w' => e = .returned (.int .i64 (errB b)) ∧ w' = w := by
  cases b <;>
  · go_enter Tryz.func42, Tryz.ntmps42
    go_wp2
    go_ret
    exact ⟨rfl, rfl⟩
theorem said_any (b : Bool) (w : World) : Calls Tryz.prog 15 #[.bool b] w fun e w' => e = .returned (.int .i64 (errB b)) ∧ w' = w := by
  cases b <;>
  · go_enter Tryz.func15, Tryz.ntmps15
    go_wp2
    go_ret
    exact ⟨rfl, rfl⟩
end Go.Proofs.YtgfnijhhhgjabaaGreatDoor
end
section
namespace Go.Proofs.YtgfnijhhhgjabaaGreatDoor
open Go.RowKit Go.Maps
set_option linter.unusedVariables false
set_option linter.unusedSimpArgs false
attribute [local go_sem ↓] Go.wp_at_zero Go.wp_at_succ

theorem lit_news (w : World) (cs : Array Value) (e : TypeId) : ∀ (j : Nat) (u : Value), cs.toList[j]? = some u → (w.alloc (.cells cs e)).cell? ((⟨w.heap.size, 0, none⟩ : Addr).add j) = some u := by
  intro j u h
  have e' : (⟨w.heap.size, 0, none⟩ : Addr).add j = ⟨w.heap.size, j, none⟩ := by rw [WideShapes.add_plain]; simp
  rw [e']
  unfold World.cell?
  simp only [heap_alloc_new]
  simpa using h
theorem step_append_own {P : Program} {ops : Array Oper} {o : Oper} {a : Act} {w : World} {K : Act → World → Prop} {Q : Exit → Act → World → Prop} {E : Prop}
    (hg : o.guard = none) (s x : Operand) (t : TypeId) (hop : o.op = Op.call { callee := Callee.builtin Builtin.append, args := #[s, x], argTypes := #[t, t] })
    (e : TypeId) (i : TypeInfo) (z : Value) (size bytes : Nat) (h1 : P.underlying t = some (.slice e)) (h2 : P.info? e = some i) (h3 : i.zero = some z) (h4 : i.size = size) (h5 : i.bytes = bytes) (h6 : z.cells.size = size) (h7 : 0 < size)
    (base : Nat) (v : Value) (n : Nat) (xs : List Value) (hs : a.eval s = v) (hown : w.ownsRow base e size v n xs)
    (ad : Addr) (m c : Nat) (news : List Value) (hx : a.eval x = .slice (some ad) m c) (hn : news.length = m * size) (hc : ∀ j u, news[j]? = some u → w.cell? (ad.add j) = some u) (h1c : ∀ u ∈ news, u.oneCell' = true)
    (b1 : n + m ≤ maxLen) (b2 : (n + m) * bytes ≤ 140737488355328) (hbase : base ≤ w.heap.size)
    (hK : ∀ v' w', w'.ownsRow base e size v' (n + m) (xs ++ news) → w.grownBy w' v.ownBlock → (v'.ownBlock = v.ownBlock ∨ v'.ownBlock = some w.heap.size) → K (a.put o.dst v') w') :
    if Region.wanted o (yielded ops a.tmps) = true then Oper.wp P o a w K Q else E := by
  have hw : Region.wanted o (yielded ops a.tmps) = true := by simp [Region.wanted, hg]
  rw [if_pos hw]
  obtain ⟨v', w', hrun, r1, r2, _, r3⟩ := run_append_own_at (P := P) w base t o.type e i z size bytes h1 h2 h3 h4 h5 h6 h7 v n xs hown ad m c news hn hc h1c b1 b2 hbase
  unfold Oper.wp
  simp [execOp, hop, resolve, invoke, builtin, hs, hx, hrun, Result.andThen]
  exact hK v' w' r1 r2 r3
theorem own_form {w : World} {base : Nat} {e : TypeId} {k : Nat} {sv : Value} {n : Nat} {xs : List Value} (h : w.ownsRow base e k sv n xs) : ∃ a c, sv = .slice a n c ∧ n ≤ maxLen := by
  obtain ⟨hl, ⟨rfl, rfl⟩ | ⟨g, cap, cur, rfl, _, hb, hn, hc, hs, ht⟩⟩ := h
  · exact ⟨none, 0, rfl, Nat.zero_le _⟩
  · exact ⟨_, cap, rfl, Nat.le_trans hn hc⟩
theorem len_toList (s : ByteArray) : s.data.toList.length = s.size := by rw [Array.length_toList]; rfl

theorem fold_bytes : ∀ (l : List UInt8) (s : ByteArray), (l.map (fun b => (b.toNat : Int))).foldl (fun r n => r.push (UInt8.ofNat n.toNat)) s = ⟨s.data ++ l.toArray⟩
  | [], s => by cases s; simp
  | c :: r, s => by
    simp only [List.map_cons, List.foldl_cons]
    rw [fold_bytes r]
    cases s with
    | mk d => simp [ByteArray.push]
theorem bytes_string {w : World} {base : Nat} {sv : Value} {n : Nat} {out : List UInt8} (h : w.ownsRow base 5 1 sv n (Lib.byteCells out)) : (convert 197 9 sv).run Tryz.prog w = .ok (.string ⟨out.toArray⟩) w := by
  obtain ⟨hl, ⟨rfl, rfl⟩ | ⟨g, cap, cur, rfl, _, hb, hn, hc, hs, ht⟩⟩ := h
  · have : out = [] := List.length_eq_zero_iff.mp (by rw [Lib.byteCells_length] at hl; omega)
    subst this
    rw [run_convert_bytes_string w _ _ _ _ _ _ Tryz.underlying197 Tryz.underlying5 Tryz.underlying9]
    simp [Conv.bytesToString]
    rfl
  · rw [run_convert_bytes_string w _ _ _ _ _ _ Tryz.underlying197 Tryz.underlying5 Tryz.underlying9]
    have hlen : out.length = n := by rw [Lib.byteCells_length] at hl; omega
    have hload : (loadCells ⟨g, 0, none⟩ n).run Tryz.prog w = .ok ((out.map (fun b => (b.toNat : Int))).map (Value.int .u8)).toArray w := by
      have := run_loadCells_list (P := Tryz.prog) (w := w) ⟨g, 0, none⟩ ((out.map (fun b => (b.toNat : Int))).map (Value.int .u8)) (fun j v hj => by
        have e : (⟨g, 0, none⟩ : Addr).add j = ⟨g, j, none⟩ := by rw [WideShapes.add_plain]; simp
        rw [e]
        unfold World.cell?
        simp only [hb]
        have hj' : (Lib.byteCells out)[j]? = some v := by unfold Lib.byteCells; rw [List.map_map] at hj; exact hj
        rw [← ht] at hj'
        have := List.getElem?_take (l := cur.toList) (i := n * 1) (j := j)
        rw [this] at hj'
        split at hj'
        · simpa using hj'
        · cases hj')
      simpa [hlen] using this
    rw [run_bytesToString w _ _ _ _ hload, fold_bytes]
    simp [ByteArray.empty, ByteArray.emptyWithCapacity]
    try rfl
theorem infoByte : (Tryz.prog.info? 5).map (fun i => (i.zero, i.size, i.bytes)) = some (some (.int .u8 0), 1, 1) := by kernel_rfl
/-- what stands for a byte of a quoted text -/
def hexU (n : Nat) : UInt8 := (#[48, 49, 50, 51, 52, 53, 54, 55, 56, 57, 97, 98, 99, 100, 101, 102] : Array UInt8).getD n 0
def pieceQ (c : UInt8) : List UInt8 := if c.toNat = 10 then [92, 110] else if c.toNat = 34 ∨ c.toNat = 92 then [92, c] else if 32 ≤ c.toNat ∧ c.toNat ≤ 126 then [c] else [92, 120, hexU (c.toNat / 16), hexU (c.toNat % 16)]
theorem pieceQ_len (c : UInt8) : 1 ≤ (pieceQ c).length ∧ (pieceQ c).length ≤ 4 := by
  unfold pieceQ
  split
  · decide
  · split
    · simp
    · split <;> simp
theorem and15 : ∀ c : Fin 256, bits BinOp.and IntKind.u8 (c.val : Int) 15 = ((c.val % 16 : Nat) : Int) := by decide +kernel
theorem hex_at (n : Nat) (h : n < 16) : ({ data := #[48, 49, 50, 51, 52, 53, 54, 55, 56, 57, 97, 98, 99, 100, 101, 102] } : ByteArray)[n]'h = hexU n := by
  have hall : ∀ n : Fin 16, (({ data := #[48, 49, 50, 51, 52, 53, 54, 55, 56, 57, 97, 98, 99, 100, 101, 102] } : ByteArray)[n.val]'n.isLt) = hexU n.val := by decide +kernel
  exact hall ⟨n, h⟩
def quoteQ (s : ByteArray) : ByteArray := ⟨((34 :: s.data.toList.flatMap pieceQ) ++ [34]).toArray⟩
theorem flat_ge : ∀ l : List UInt8, l.length ≤ (l.flatMap pieceQ).length
  | [] => Nat.le_refl _
  | c :: r => by
    have := flat_ge r
    have := (pieceQ_len c).1
    simp only [List.flatMap_cons, List.length_append, List.length_cons]
    omega
theorem quoteQ_size (s : ByteArray) : s.size + 2 ≤ (quoteQ s).size := by
  have h := flat_ge s.data.toList
  rw [len_toList] at h
  rw [← len_toList (quoteQ s)]
  simp only [quoteQ, List.length_append, List.length_cons, List.length_nil]
  omega
theorem take_more (s : ByteArray) {k : Nat} (h : k < s.size) : s.data.toList.take (k + 1) = s.data.toList.take k ++ [s[k]] := by
  rw [List.take_add_one, List.getElem?_eq_getElem (by rw [len_toList]; exact h)]
  rfl
set_option maxHeartbeats 800000 in
set_option maxRecDepth 100000 in
theorem quote_any (s : ByteArray) (w : World) (hs : s.size ≤ 200) : Calls Tryz.prog 115 #[.string s] w fun e w' => e = .returned (.string (quoteQ s)) ∧ Below w.heap.size w w' := by
  obtain ⟨i0, hi0, hz0, hz1, hz2⟩ := info_parts infoByte
  go_enter Tryz.func115, Tryz.ntmps115
  go_wp2
  go_loopw [3, 9] (fun o i wr => ∃ k : Nat, k ≤ s.size ∧ i = .int .i64 k ∧ Below w.heap.size w wr ∧ ∃ out : List UInt8, wr.ownsRow w.heap.size 5 1 o out.length (Lib.byteCells out) ∧ out.length ≤ 1 + 4 * k ∧ Hid (34 :: (s.data.toList.take k).flatMap pieceQ = out)) (fun _ i _ => s.size - (intOf i).toNat)
  case atStart => exact ⟨0, Nat.zero_le _, rfl, (Below.refl _ _).alloc (Nat.le_refl _) _, [34], World.ownsRow_lit w #[.int .u8 34] 1 (Nat.le_refl _) (by decide) rfl, by simp, by simp [Hid]⟩
  case round =>
    obtain ⟨k, hk, rfl, bel, out, hown, hol, HF⟩ := hrel
    obtain ⟨ao, co, rfl, hlo⟩ := own_form hown
    by_cases hlt : k < s.size
    · have hlt' : (k : Int) < (s.size : Int) := by omega
      have HN : Hid (34 :: (s.data.toList.take (k + 1)).flatMap pieceQ = out ++ pieceQ s[k]) := by
        show _ = _
        rw [take_more s hlt, List.flatMap_append, ← HF.out]
        simp
      have HP : Hid ((pieceQ s[k]).length ≤ 4) := (pieceQ_len _).2
      have hb8 : (s[k]'hlt).toNat < 256 := (s[k]'hlt).toNat_lt
      clear HF
      obtain ⟨c, hcc⟩ : ∃ c, s[k] = c := ⟨_, rfl⟩
      rw [hcc] at HN HP hb8
      by_cases h10 : c.toNat = 10
      · have h10' : (c.toNat : Int) = 10 := by omega
        have HE : Hid (pieceQ c = [92, 110]) := by show pieceQ c = _; unfold pieceQ; rw [if_pos h10]
        go_wp2_with (at_builtin; refine wpList_append_own_at _ rfl _ _ 197 rfl w.heap.size 5 i0 _ 1 1 Tryz.underlying197 hi0 hz0 hz1 hz2 rfl (by decide) _ _ _ rfl (own_below hown ((Below.refl _ _).alloc (Nat.le_refl _) _)) ⟨_, 0, none⟩ 2 2 [.int .u8 92, .int .u8 110] rfl rfl (lit_news _ #[.int .u8 92, .int .u8 110] _) (by simp [Value.oneCell']) (by unfold maxLen; omega) (by omega) (by have := bel.size; simp; omega) ?_; intro v' w2 hown' hgrow hnil hloc)
        go_roundw
        case rel => exact ⟨k + 1, by omega, by go_num, (bel.alloc bel.size _).grown hgrow (by have := bel.size; simp; omega) (fun j hj => (hown.lt j hj).1), out ++ [92, 110], by rw [Lib.byteCells_append, List.length_append]; exact hown', by simp; omega, by rw [← HE.out]; exact HN⟩
        case measure => simp [intOf]; omega
      · have h10' : ¬ (c.toNat : Int) = 10 := by omega
        by_cases h34 : c.toNat = 34 ∨ c.toNat = 92
        · have HE : Hid (pieceQ c = [92, c]) := by show pieceQ c = _; unfold pieceQ; rw [if_neg h10, if_pos h34]
          have hb10 : ((c.toNat : Int) == 10) = false := by simpa using h10'
          by_cases h3 : c.toNat = 34
          · have hb34 : ((c.toNat : Int) == 34) = true := by have : (c.toNat : Int) = 34 := by omega
                                                             simp [this]
            clear h10 h10' h34 h3
            go_wp2_with (at_builtin; refine wpList_append_own_at _ rfl _ _ 197 rfl w.heap.size 5 i0 _ 1 1 Tryz.underlying197 hi0 hz0 hz1 hz2 rfl (by decide) _ _ _ rfl (own_below hown ((Below.refl _ _).alloc (Nat.le_refl _) _)) ⟨_, 0, none⟩ 2 2 [.int .u8 92, .int .u8 (c.toNat : Int)] rfl rfl (lit_news _ #[.int .u8 92, .int .u8 (c.toNat : Int)] _) (by simp [Value.oneCell']) (by unfold maxLen; omega) (by omega) (by have := bel.size; simp; omega) ?_; intro v' w2 hown' hgrow hnil hloc)
            go_roundw
            case rel => exact ⟨k + 1, by omega, by go_num, (bel.alloc bel.size _).grown hgrow (by have := bel.size; simp; omega) (fun j hj => (hown.lt j hj).1), out ++ [92, c], by rw [Lib.byteCells_append, List.length_append]; exact hown', by simp; omega, by rw [← HE.out]; exact HN⟩
            case measure => simp [intOf]; omega
          · have hb34 : ((c.toNat : Int) == 34) = false := by have : ¬ (c.toNat : Int) = 34 := by omega
                                                              simpa using this
            have hb92 : ((c.toNat : Int) == 92) = true := by have : (c.toNat : Int) = 92 := by omega
                                                             simp [this]
            clear h10 h10' h34 h3
            go_wp2_with (at_builtin; refine wpList_append_own_at _ rfl _ _ 197 rfl w.heap.size 5 i0 _ 1 1 Tryz.underlying197 hi0 hz0 hz1 hz2 rfl (by decide) _ _ _ rfl (own_below hown ((Below.refl _ _).alloc (Nat.le_refl _) _)) ⟨_, 0, none⟩ 2 2 [.int .u8 92, .int .u8 (c.toNat : Int)] rfl rfl (lit_news _ #[.int .u8 92, .int .u8 (c.toNat : Int)] _) (by simp [Value.oneCell']) (by unfold maxLen; omega) (by omega) (by have := bel.size; simp; omega) ?_; intro v' w2 hown' hgrow hnil hloc)
            go_roundw
            case rel => exact ⟨k + 1, by omega, by go_num, (bel.alloc bel.size _).grown hgrow (by have := bel.size; simp; omega) (fun j hj => (hown.lt j hj).1), out ++ [92, c], by rw [Lib.byteCells_append, List.length_append]; exact hown', by simp; omega, by rw [← HE.out]; exact HN⟩
            case measure => simp [intOf]; omega
        · have h34' : ¬ (c.toNat : Int) = 34 := by omega
          have h92' : ¬ (c.toNat : Int) = 92 := by omega
          have hb10 : ((c.toNat : Int) == 10) = false := by simpa using h10'
          have hb34 : ((c.toNat : Int) == 34) = false := by simpa using h34'
          have hb92 : ((c.toNat : Int) == 92) = false := by simpa using h92'
          clear h34' h92' h10'
          by_cases hpr : 32 ≤ c.toNat ∧ c.toNat ≤ 126
          · have HE : Hid (pieceQ c = [c]) := by show pieceQ c = _; unfold pieceQ; rw [if_neg h10, if_neg h34, if_pos hpr]
            have hp1 : (32 : Int) ≤ (c.toNat : Int) := by omega
            have hp2 : (c.toNat : Int) ≤ 126 := by omega
            clear h10 h34 hpr
            go_wp2_with (at_builtin; refine wpList_append_own_at _ rfl _ _ 197 rfl w.heap.size 5 i0 _ 1 1 Tryz.underlying197 hi0 hz0 hz1 hz2 rfl (by decide) _ _ _ rfl (own_below hown ((Below.refl _ _).alloc (Nat.le_refl _) _)) ⟨_, 0, none⟩ 1 1 [.int .u8 (c.toNat : Int)] rfl rfl (lit_news _ #[.int .u8 (c.toNat : Int)] _) (by simp [Value.oneCell']) (by unfold maxLen; omega) (by omega) (by have := bel.size; simp; omega) ?_; intro v' w2 hown' hgrow hnil hloc)
            go_roundw
            case rel => exact ⟨k + 1, by omega, by go_num, (bel.alloc bel.size _).grown hgrow (by have := bel.size; simp; omega) (fun j hj => (hown.lt j hj).1), out ++ [c], by rw [Lib.byteCells_append, List.length_append]; exact hown', by simp; omega, by rw [← HE.out]; exact HN⟩
            case measure => simp [intOf]; omega
          · have HE : Hid (pieceQ c = [92, 120, hexU (c.toNat / 16), hexU (c.toNat % 16)]) := by show pieceQ c = _; unfold pieceQ; rw [if_neg h10, if_neg h34, if_neg hpr]
            have hp' : ¬ ((32 : Int) ≤ (c.toNat : Int) ∧ (c.toNat : Int) ≤ 126) := by omega
            clear h10 h34 hpr
            obtain ⟨q, hq⟩ : ∃ q, q = c.toNat / 16 := ⟨_, rfl⟩
            obtain ⟨r, hr⟩ : ∃ r, r = c.toNat % 16 := ⟨_, rfl⟩
            have hqi : (c.toNat : Int) / 16 = (q : Int) := by omega
            have hri : bits BinOp.and IntKind.u8 (c.toNat : Int) 15 = (r : Int) := by rw [hr]; exact and15 ⟨c.toNat, hb8⟩
            have hq16 : q < 16 := by omega
            have hr16 : r < 16 := by omega
            have hq16' : (q : Int) < 16 := by omega
            have hr16' : (r : Int) < 16 := by omega
            have hxq := hex_at q hq16
            have hxr := hex_at r hr16
            rw [← hq, ← hr] at HE
            generalize hexU q = d1 at HE hxq
            generalize hexU r = d2 at HE hxr
            have HOWN : Hid ((wr.drew.alloc (.cells #[.int .u8 92, .int .u8 120, .int .u8 (d1.toNat : Int), .int .u8 (d2.toNat : Int)] 5)).ownsRow w.heap.size 5 1 (.slice ao out.length co) out.length (Lib.byteCells out)) :=
              own_of_block hown (fun g hg => Below.heap_alloc wr.drew _ g (hown.lt g hg).2)
            have HC : Hid (∀ (j : Nat) (u : Value), ([.int .u8 92, .int .u8 120, .int .u8 (d1.toNat : Int), .int .u8 (d2.toNat : Int)] : List Value)[j]? = some u → (wr.drew.alloc (.cells #[.int .u8 92, .int .u8 120, .int .u8 (d1.toNat : Int), .int .u8 (d2.toNat : Int)] 5)).cell? ((⟨wr.heap.size, 0, none⟩ : Addr).add j) = some u) := lit_news wr.drew #[.int .u8 92, .int .u8 120, .int .u8 (d1.toNat : Int), .int .u8 (d2.toNat : Int)] _
            have HSZ : Hid (w.heap.size ≤ (wr.drew.alloc (.cells #[.int .u8 92, .int .u8 120, .int .u8 (d1.toNat : Int), .int .u8 (d2.toNat : Int)] 5)).heap.size) := by show _ ≤ _; have := bel.size; simp; omega
            have HFIN : Hid (∀ {w2 : World}, (wr.drew.alloc (.cells #[.int .u8 92, .int .u8 120, .int .u8 (d1.toNat : Int), .int .u8 (d2.toNat : Int)] 5)).grownBy w2 (Value.slice ao out.length co).ownBlock → Below w.heap.size w w2) := fun hg => (bel.drew.alloc bel.drew.size _).grown hg (by have := bel.size; simp; omega) (fun j hj => (hown.lt j hj).1)
            clear hq hr hb8
            by_cases hp1 : (32 : Int) ≤ (c.toNat : Int)
            · have hp2 : ¬ (c.toNat : Int) ≤ 126 := by omega
              clear hp'
              go_wp2_with fail
              go_region_law (
                refine step_append_own rfl (.tmp 15) (.tmp 22) 197 rfl 5 i0 _ 1 1 Tryz.underlying197 hi0 hz0 hz1 hz2 rfl (by decide) w.heap.size (.slice ao out.length co) out.length _ (by simp [Act.eval, Act.put]) HOWN.out ⟨wr.heap.size, 0, none⟩ 4 4 [.int .u8 92, .int .u8 120, .int .u8 (d1.toNat : Int), .int .u8 (d2.toNat : Int)] (by simp [Act.eval, Act.put]) rfl HC.out (by simp [Value.oneCell']) (by unfold maxLen; omega) (by omega) HSZ.out ?_
                intro v' w2 hown' hgrow hloc)
              all_goals
                go_wp2
                go_roundw
                case rel => exact ⟨k + 1, by omega, by go_num, HFIN.out hgrow, out ++ [92, 120, d1, d2], by rw [Lib.byteCells_append, List.length_append]; exact hown', by simp; omega, by rw [← HE.out]; exact HN⟩
                case measure => simp [intOf]; omega
            · clear hp'
              go_wp2_with fail
              go_region_law (
                refine step_append_own rfl (.tmp 15) (.tmp 22) 197 rfl 5 i0 _ 1 1 Tryz.underlying197 hi0 hz0 hz1 hz2 rfl (by decide) w.heap.size (.slice ao out.length co) out.length _ (by simp [Act.eval, Act.put]) HOWN.out ⟨wr.heap.size, 0, none⟩ 4 4 [.int .u8 92, .int .u8 120, .int .u8 (d1.toNat : Int), .int .u8 (d2.toNat : Int)] (by simp [Act.eval, Act.put]) rfl HC.out (by simp [Value.oneCell']) (by unfold maxLen; omega) (by omega) HSZ.out ?_
                intro v' w2 hown' hgrow hloc)
              all_goals
                go_wp2
                go_roundw
                case rel => exact ⟨k + 1, by omega, by go_num, HFIN.out hgrow, out ++ [92, 120, d1, d2], by rw [Lib.byteCells_append, List.length_append]; exact hown', by simp; omega, by rw [← HE.out]; exact HN⟩
                case measure => simp [intOf]; omega
    · obtain rfl : k = s.size := by omega
      have HV : Hid ((⟨(out ++ [34]).toArray⟩ : ByteArray) = quoteQ s) := by
        show _ = quoteQ s
        unfold quoteQ
        rw [← HF.out, List.take_of_length_le (by rw [len_toList]; exact Nat.le_refl _)]
      go_wp2_with (at_builtin; refine wpList_append_own_at _ rfl _ _ 197 rfl w.heap.size 5 i0 _ 1 1 Tryz.underlying197 hi0 hz0 hz1 hz2 rfl (by decide) _ _ _ rfl (own_below hown ((Below.refl _ _).alloc (Nat.le_refl _) _)) ⟨_, 0, none⟩ 1 1 [.int .u8 34] rfl rfl (lit_news _ #[.int .u8 34] _) (by simp [Value.oneCell']) (by unfold maxLen; omega) (by omega) (by have := bel.size; simp; omega) ?_; intro v' w2 hown' hgrow hnil hloc; have hcv := bytes_string (out := out ++ [34]) (by rw [Lib.byteCells_append]; exact hown'); obtain ⟨a2, c2, rfl, _⟩ := own_form hown')
      go_ret
      exact ⟨by rw [HV.out]; rfl, (bel.alloc bel.size _).grown hgrow (by have := bel.size; simp; omega) (fun j hj => (hown.lt j hj).1)⟩
end Go.Proofs.YtgfnijhhhgjabaaGreatDoor
end
section
namespace Go.Proofs.YtgfnijhhhgjabaaGreatDoor
open Go.RowKit Go.Maps
set_option linter.unusedVariables false
set_option linter.unusedSimpArgs false
attribute [local go_sem ↓] Go.wp_at_zero Go.wp_at_succ

theorem TAt.below {w w' : World} {g o : Nat} {t : T} (h : TAt w g o t) (b : Below w.heap.size w w') (hg : g < w.heap.size) : TAt w' g o t :=
  ⟨by rw [b.cell (p := ⟨g, o, none⟩) hg]; exact h.c0, by rw [b.cell (p := ⟨g, o + 1, none⟩) hg]; exact h.c1, by rw [b.cell (p := ⟨g, o + 2, none⟩) hg]; exact h.c2, by rw [b.cell (p := ⟨g, o + 3, none⟩) hg]; exact h.c3⟩
theorem PAt.below {w w' : World} {g o : Nat} {t : P} (h : PAt w g o t) (b : Below w.heap.size w w') (hg : g < w.heap.size) : PAt w' g o t :=
  ⟨by rw [b.cell (p := ⟨g, o, none⟩) hg]; exact h.c0, by rw [b.cell (p := ⟨g, o + 1, none⟩) hg]; exact h.c1, by rw [b.cell (p := ⟨g, o + 2, none⟩) hg]; exact h.c2, by rw [b.cell (p := ⟨g, o + 3, none⟩) hg]; exact h.c3, by rw [b.cell (p := ⟨g, o + 4, none⟩) hg]; exact h.c4⟩
theorem VAt.below {w w' : World} {g o : Nat} {t : V} (h : VAt w g o t) (b : Below w.heap.size w w') (hg : g < w.heap.size) : VAt w' g o t :=
  ⟨by rw [b.cell (p := ⟨g, o, none⟩) hg]; exact h.c0, by rw [b.cell (p := ⟨g, o + 1, none⟩) hg]; exact h.c1, by rw [b.cell (p := ⟨g, o + 2, none⟩) hg]; exact h.c2⟩
theorem all_take {l : List T} {k : Nat} (h : k < l.length) : (l.take (k + 1)).all termB = ((l.take k).all termB && termB (atT l k)) := by
  have e : l.take (k + 1) = l.take k ++ [l[k]] := by rw [List.take_add_one, List.getElem?_eq_getElem h]; rfl
  rw [e, List.all_append, atT_eq h]
  simp
theorem all_not {l : List T} {k : Nat} (h : k < l.length) (hn : termB (atT l k) = false) : l.all termB = false := by
  rw [← Bool.not_eq_true]
  intro ha
  rw [List.all_eq_true] at ha
  rw [atT_eq h] at hn
  rw [ha _ (List.getElem_mem h)] at hn
  cases hn
theorem atT_wf {l : List T} (h : ∀ t ∈ l, t.wf) (i : Nat) : (atT l i).wf := by
  by_cases hi : i < l.length
  · rw [atT_eq hi]; exact h _ (List.getElem_mem hi)
  · unfold atT
    rw [List.getD, List.getElem?_eq_none (by omega)]
    exact T0.ok

def showT (s : ByteArray) : Value := if s.size ≤ 200 then .tuple #[.string (if nameB s then s else quoteQ s), .int .i64 0] else .tuple #[.string noS, .int .i64 10]
theorem chk_text (s : ByteArray) : chk 2 0 s = if s.size ≤ 200 then 0 else 10 := by
  unfold chk
  by_cases h : s.size ≤ 200
  · rw [if_pos h, if_pos (.inr ⟨rfl, rfl, by omega⟩)]
  · rw [if_neg h, if_neg]
    rintro (⟨h1, _⟩ | ⟨_, _, h1⟩)
    · cases h1
    · omega
set_option maxHeartbeats 800000 in
theorem show_text (s : ByteArray) (w : World) (hs : s.size ≤ maxLen) : Calls Tryz.prog 94 #[.agg #[.int .i8 2, .int .i64 0, .string s]] w fun e w' => e = .returned (showT s) ∧ Below w.heap.size w w' := by
  unfold showT
  have hc := chk_text s
  by_cases h : s.size ≤ 200
  · rw [if_pos h] at hc ⊢
    go_enter Tryz.func94, Tryz.ntmps94
    go_wp2_with fail
    refine (vcheck_any 2 0 s _ hs).mono ?_
    rintro e w1 ⟨rfl, b1⟩
    rw [hc]
    have b1' := ((Below.refl w.heap.size w).alloc (Nat.le_refl _) (.cells #[.int .i8 2, .int .i64 0, .string s] 38)).trans (b1.mono (by simp))
    have c0 : w1.cell? ⟨w.heap.size, 0, none⟩ = some (.int .i8 2) := by rw [b1.cell (p := ⟨w.heap.size, 0, none⟩) (by simp)]; go_simp
    have c2 : w1.cell? ⟨w.heap.size, 2, none⟩ = some (.string s) := by rw [b1.cell (p := ⟨w.heap.size, 2, none⟩) (by simp)]; go_simp
    clear b1 hc
    cases hn : nameB s
    · go_wp2_with (first
        | (go_at_call 114; refine (isName_any s _ hs).mono ?_; rw [hn]; rintro e w' ⟨rfl, rfl⟩)
        | (go_at_call 115; refine (quote_any s _ h).mono ?_; rintro e w2 ⟨rfl, b2⟩))
      all_goals
        go_ret2
        exact ⟨rfl, b1'.trans (b2.mono b1'.size)⟩
    · go_wp2_with (go_at_call 114; refine (isName_any s _ hs).mono ?_; rw [hn]; rintro e w' ⟨rfl, rfl⟩)
      go_ret2
      exact ⟨rfl, b1'⟩
  · rw [if_neg h] at hc ⊢
    go_enter Tryz.func94, Tryz.ntmps94
    go_wp2_with fail
    refine (vcheck_any 2 0 s _ hs).mono ?_
    rintro e w1 ⟨rfl, b1⟩
    rw [hc]
    have b1' := ((Below.refl w.heap.size w).alloc (Nat.le_refl _) (.cells #[.int .i8 2, .int .i64 0, .string s] 38)).trans (b1.mono (by simp))
    go_wp2
    go_ret2
    exact ⟨rfl, b1'⟩

theorem name_short {s : ByteArray} (h : ¬ s.size ≤ 200) : nameB s = false := by
  unfold nameB
  have : decide (s.size ≤ 120) = false := decide_eq_false (by omega)
  rw [this]
  simp
theorem quote_not (s : ByteArray) : ((quoteQ s).toList == s.toList) = false := by
  rw [beq_eq_false_iff_ne]
  intro e
  have := toList_inj e
  have h := quoteQ_size s
  rw [this] at h
  omega
set_option maxHeartbeats 800000 in
theorem tName_any (s : ByteArray) (w : World) (hs : s.size ≤ maxLen) : Calls Tryz.prog 69 #[.string s] w fun e w' => e = .returned (.bool (nameB s)) ∧ Below w.heap.size w w' := by
  have hq := quote_not s
  go_enter Tryz.func69, Tryz.ntmps69
  go_wp2_with fail
  refine (show_text s _ hs).mono ?_
  rintro e w1 ⟨rfl, b1⟩
  unfold showT
  by_cases h : s.size ≤ 200
  · rw [if_pos h]
    cases hn : nameB s
    · simp only [Bool.false_eq_true, if_false]
      generalize quoteQ s = q at hq
      go_wp2
      go_ret
      exact ⟨ret_bool hn.symm, b1⟩
    · simp only [if_true]
      go_wp2
      go_ret
      exact ⟨ret_bool hn.symm, b1⟩
  · rw [if_neg h]
    go_wp2
    go_ret
    exact ⟨ret_bool (name_short h).symm, b1⟩

set_option maxHeartbeats 1600000 in
theorem isAtom_any (pred : ByteArray) (v : Value) (l : List T) (w : World) (hp : pred.size ≤ maxLen) (hl : Lt w v l) : Calls Tryz.prog 95 #[.agg #[.string pred, v]] w fun e w' => e = .returned (.bool (atomB pred l)) ∧ Below w.heap.size w w' := by
  obtain ⟨a, c, rfl, hc1, hc2, hat⟩ := hl.form
  have hwf := hl.wf
  have hmax : l.length ≤ maxLen := Nat.le_trans hc1 hc2
  unfold maxLen at hmax
  have HA : Hid (atomB pred l = (nameB pred && decide (l.length ≤ 24) && l.all termB)) := rfl
  go_enter Tryz.func95, Tryz.ntmps95
  go_wp2_with fail
  refine (tName_any pred _ hp).mono ?_
  rintro e w1 ⟨rfl, b1⟩
  have b1' := ((Below.refl w.heap.size w).alloc (Nat.le_refl _) (.cells #[.string pred, .slice a l.length c] 48)).trans (b1.mono (by simp))
  have c1 : w1.cell? ⟨w.heap.size, 1, none⟩ = some (.slice a l.length c) := by rw [b1.cell (p := ⟨w.heap.size, 1, none⟩) (by simp)]; go_simp
  clear b1
  cases hn : nameB pred
  · have HF : Hid (atomB pred l = false) := by show atomB pred l = false; rw [HA.out, hn]; rfl
    go_wp2
    go_ret
    exact ⟨ret_bool HF.out.symm, b1'⟩
  · by_cases h24 : l.length ≤ 24
    · have h24' : (l.length : Int) ≤ 24 := by omega
      have HB : Hid (atomB pred l = l.all termB) := by show atomB pred l = _; rw [HA.out, hn, decide_eq_true h24]; simp
      go_wp2
      go_loopw [18] (fun i wr => ∃ k : Nat, k ≤ l.length ∧ i = .int .i64 k ∧ Below w.heap.size w wr ∧ Hid ((l.take k).all termB = true)) (fun i _ => l.length - (intOf i).toNat)
      case atStart => exact ⟨0, Nat.zero_le _, rfl, b1', by simp [Hid]⟩
      case round =>
        obtain ⟨k, hk, rfl, bel, HS⟩ := hrel
        by_cases hlt : k < l.length
        · have hlt' : (k : Int) < (l.length : Int) := by omega
          obtain ⟨g, off, rfl, hg, hT⟩ := hat (by omega)
          obtain ⟨x0, x1, x2, x3⟩ := (hT k hlt).below bel hg
          have htw := atT_wf hwf k
          have HN : Hid (termB (atT l k) = false → atomB pred l = false) := fun h => by rw [HB.out]; exact all_not hlt h
          have HY : Hid (termB (atT l k) = true → (l.take (k + 1)).all termB = true) := fun h => by rw [all_take hlt, HS.out, h]; rfl
          generalize atT l k = t at x0 x1 x2 x3 htw HN HY
          clear hat hT
          go_wp2_with fail
          refine (isTerm_any t _ htw).mono ?_
          rintro e w2 ⟨rfl, b2⟩
          have b2' := (bel.alloc bel.size (.cells #[.string t.v, .int .i8 t.a.k, .int .i64 t.a.n, .string t.a.s] 44)).trans (b2.mono (by have := bel.size; simp; omega))
          cases ht : termB t
          · go_wp2
            go_ret
            exact ⟨ret_bool (HN.out ht).symm, b2'⟩
          · go_wp2
            go_roundw
            case rel => exact ⟨k + 1, by omega, by go_num, b2', HY.out ht⟩
            case measure => simp [intOf]; omega
        · obtain rfl : k = l.length := by omega
          go_wp2
          go_ret
          exact ⟨ret_bool (by rw [HB.out, ← HS.out, List.take_length]), bel⟩
    · have h24' : (24 : Int) < (l.length : Int) := by omega
      have HF : Hid (atomB pred l = false) := by show atomB pred l = false; rw [HA.out, decide_eq_false h24]; simp
      go_wp2
      go_ret
      exact ⟨ret_bool HF.out.symm, b1'⟩

theorem rKeyword_any (s : ByteArray) (w : World) : Calls Tryz.prog 64 #[.string s] w fun e w' => e = .returned (.bool (kwB s)) ∧ w' = w := by
  go_enter Tryz.func64, Tryz.ntmps64
  go_wp2
  all_goals
    go_ret
    refine ⟨ret_bool ?_, rfl⟩
    go_light
    unfold kwB keywords
    first
      | (simp_all; done)
      | (rw [Bool.eq_iff_iff]; simp; simp_all)
theorem rName_any (s : ByteArray) (w : World) (hs : s.size ≤ maxLen) : Calls Tryz.prog 39 #[.string s] w fun e w' => e = .returned (.bool (nameB s)) ∧ w' = w := by
  rw [nameB_word]
  go_enter Tryz.func39, Tryz.ntmps39
  go_wp2_with fail
  refine (written_any s 97 122 _ hs fun c h => by simp [letterB, smallB, h.1, h.2]).mono ?_
  rintro e w' ⟨rfl, rfl⟩
  cases hx : wordB 97 122 s
  · go_wp2
    go_ret
    exact ⟨ret_bool (by rw [hx]; rfl), rfl⟩
  · go_wp2_with (go_at_call 64; refine (rKeyword_any s _).mono ?_; rintro e w' ⟨rfl, rfl⟩)
    go_ret
    exact ⟨ret_bool (by rw [hx]; simp), rfl⟩
set_option maxHeartbeats 1600000 in
theorem ratom_any (pred : ByteArray) (v : Value) (l : List T) (w : World) (hp : pred.size ≤ maxLen) (hl : Lt w v l) : Calls Tryz.prog 66 #[.agg #[.string pred, v]] w fun e w' => e = .returned (.bool (atomB pred l)) ∧ Below w.heap.size w w' := by
  obtain ⟨a, c, rfl, hc1, hc2, hat⟩ := hl.form
  have hwf := hl.wf
  have hmax : l.length ≤ maxLen := Nat.le_trans hc1 hc2
  unfold maxLen at hmax
  have HA : Hid (atomB pred l = (nameB pred && decide (l.length ≤ 24) && l.all termB)) := rfl
  have b0 := (Below.refl w.heap.size w).alloc (Nat.le_refl _) (.cells #[.string pred, .slice a l.length c] 48)
  cases hn : nameB pred
  · have HF : Hid (atomB pred l = false) := by show atomB pred l = false; rw [HA.out, hn]; rfl
    go_enter Tryz.func66, Tryz.ntmps66
    go_wp2_with (go_at_call 39; refine (rName_any pred _ hp).mono ?_; rw [hn]; rintro e w' ⟨rfl, rfl⟩)
    go_ret
    exact ⟨ret_bool HF.out.symm, b0⟩
  · by_cases h24 : l.length ≤ 24
    · have h24' : (l.length : Int) ≤ 24 := by omega
      have HB : Hid (atomB pred l = l.all termB) := by show atomB pred l = _; rw [HA.out, hn, decide_eq_true h24]; simp
      have c1 : (w.alloc (.cells #[.string pred, .slice a l.length c] 48)).cell? ⟨w.heap.size, 1, none⟩ = some (.slice a l.length c) := by go_simp
      have b00 : Below (w.alloc (.cells #[.string pred, .slice a l.length c] 48)).heap.size (w.alloc (.cells #[.string pred, .slice a l.length c] 48)) (w.alloc (.cells #[.string pred, .slice a l.length c] 48)) := Below.refl _ _
      go_enter Tryz.func66, Tryz.ntmps66
      go_wp2_with (go_at_call 39; refine (rName_any pred _ hp).mono ?_; rw [hn]; rintro e w' ⟨rfl, rfl⟩)
      generalize w.alloc (.cells #[.string pred, .slice a l.length c] 48) = W at b0 c1 b00 ⊢
      have hWlt : w.heap.size < W.heap.size := World.block_lt_of_cell? _ _ c1
      go_loopw [3] (fun i wr => ∃ k : Nat, k ≤ l.length ∧ i = .int .i64 k ∧ Below W.heap.size W wr ∧ Hid ((l.take k).all termB = true)) (fun i _ => l.length - (intOf i).toNat)
      case atStart => exact ⟨0, Nat.zero_le _, rfl, b00, by simp [Hid]⟩
      case round =>
        obtain ⟨k, hk, rfl, bel, HS⟩ := hrel
        have d1 : wr.cell? ⟨w.heap.size, 1, none⟩ = some (.slice a l.length c) := by rw [bel.cell (p := ⟨w.heap.size, 1, none⟩) hWlt]; exact c1
        have belw : Below w.heap.size w wr := b0.trans (bel.mono b0.size)
        by_cases hlt : k < l.length
        · have hlt' : (k : Int) < (l.length : Int) := by omega
          obtain ⟨g, off, rfl, hg, hT⟩ := hat (by omega)
          obtain ⟨x0, x1, x2, x3⟩ := (hT k hlt).below belw hg
          have htw := atT_wf hwf k
          have HN : Hid (termB (atT l k) = false → atomB pred l = false) := fun h => by rw [HB.out]; exact all_not hlt h
          have HY : Hid (termB (atT l k) = true → (l.take (k + 1)).all termB = true) := fun h => by rw [all_take hlt, HS.out, h]; rfl
          generalize atT l k = t at x0 x1 x2 x3 htw HN HY
          clear hat hT c1 b00
          go_wp2_with fail
          refine (rterm_any t _ htw).mono ?_
          rintro e w2 ⟨rfl, b2⟩
          cases ht : termB t
          · go_wp2
            go_ret
            exact ⟨ret_bool (HN.out ht).symm, belw.trans (b2.mono belw.size)⟩
          · go_wp2
            go_roundw
            case rel => exact ⟨k + 1, by omega, by go_num, bel.trans (b2.mono bel.size), HY.out ht⟩
            case measure => simp [intOf]; omega
        · obtain rfl : k = l.length := by omega
          go_wp2
          go_ret
          exact ⟨ret_bool (by rw [HB.out, ← HS.out, List.take_length]), belw⟩
    · have h24' : (24 : Int) < (l.length : Int) := by omega
      have HF : Hid (atomB pred l = false) := by show atomB pred l = false; rw [HA.out, decide_eq_false h24]; simp
      go_enter Tryz.func66, Tryz.ntmps66
      go_wp2_with (go_at_call 39; refine (rName_any pred _ hp).mono ?_; rw [hn]; rintro e w' ⟨rfl, rfl⟩)
      go_ret
      exact ⟨ret_bool HF.out.symm, b0⟩
end Go.Proofs.YtgfnijhhhgjabaaGreatDoor
end
