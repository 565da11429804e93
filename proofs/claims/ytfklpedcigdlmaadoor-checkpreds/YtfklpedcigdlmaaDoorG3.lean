import Derived.Test.YtfklpedcigdlmaaDoorG2
import Derived.Deep.RegionLaw
import Derived.Laws.OwnMore
import Derived.Laws.BytesString
import Derived.Laws.Cells
import Derived.Lib.UnsafeStr
section
namespace Go.Proofs.YtfklpedcigdlmaaDoor
open Go.RowKit
set_option linter.unusedVariables false
set_option linter.unusedSimpArgs false
attribute [local go_sem ↓] Go.wp_at_zero Go.wp_at_succ

theorem run_eqV (k1 n1 : Int) (s1 : ByteArray) (k2 n2 : Int) (s2 : ByteArray) (w : World) :
    (binOp .eql 75 (.agg #[.int .i8 k1, .int .i64 n1, .string s1]) (.agg #[.int .i8 k2, .int .i64 n2, .string s2])).run Tryd.prog w = .ok (.bool (decide ((⟨k1, n1, s1⟩ : V) = ⟨k2, n2, s2⟩))) w := by
  by_cases hk : k1 = k2
  · by_cases hn : n1 = n2
    · by_cases hs : s1.toList = s2.toList
      · have := toList_inj hs
        subst hk hn this
        go_simp
      · have e : decide ((⟨k1, n1, s1⟩ : V) = ⟨k2, n2, s2⟩) = false := decide_eq_false (fun h => hs (by cases h; rfl))
        rw [e]
        go_simp
    · have e : decide ((⟨k1, n1, s1⟩ : V) = ⟨k2, n2, s2⟩) = false := decide_eq_false (fun h => hn (by cases h; rfl))
      rw [e]
      go_simp
  · have e : decide ((⟨k1, n1, s1⟩ : V) = ⟨k2, n2, s2⟩) = false := decide_eq_false (fun h => hk (by cases h; rfl))
    rw [e]
    go_simp

theorem some_iff (s : ByteArray) (h : s ≠ noS) : s.toList.isEmpty = false := by
  cases e : s.toList with
  | nil => exact absurd ((noS_iff s).1 e) h
  | cons _ _ => rfl
theorem blank_iff {s : ByteArray} (h : s ≠ blankS) : (s.toList == [95]) = false := by
  rw [beq_eq_false_iff_ne]
  intro e
  exact h (toList_inj (by rw [e, ByteArray.toList_eq]; rfl))

def errB (b : Bool) : Int := if b then 0 else 40
end Go.Proofs.YtfklpedcigdlmaaDoor
end
section
namespace Go.Proofs.YtfklpedcigdlmaaDoor
open Go.RowKit Go.Maps
set_option linter.unusedVariables false
set_option linter.unusedSimpArgs false
attribute [local go_sem ↓] Go.wp_at_zero Go.wp_at_succ

theorem lit_news (w : World) (cs : Array Value) (e : TypeId) : ∀ (j : Nat) (u : Value), cs.toList[j]? = some u → (w.alloc (.cells cs e)).cell? ((⟨w.heap.size, 0, none⟩ : Addr).add j) = some u := by
  intro j u h
  have e' : (⟨w.heap.size, 0, none⟩ : Addr).add j = ⟨w.heap.size, j, none⟩ := by rw [WideShapes.add_plain]; simp
  rw [e']
  unfold World.cell?
  simp only [heap_alloc_new]
  simpa using h
theorem step_append_own {P : Program} {ops : Array Oper} {o : Oper} {a : Act} {w : World} {K : Act → World → Prop} {Q : Exit → Act → World → Prop} {E : Prop}
    (hg : o.guard = none) (s x : Operand) (t : TypeId) (hop : o.op = Op.call { callee := Callee.builtin Builtin.append, args := #[s, x], argTypes := #[t, t] })
    (e : TypeId) (i : TypeInfo) (z : Value) (size bytes : Nat) (h1 : P.underlying t = some (.slice e)) (h2 : P.info? e = some i) (h3 : i.zero = some z) (h4 : i.size = size) (h5 : i.bytes = bytes) (h6 : z.cells.size = size) (h7 : 0 < size)
    (base : Nat) (v : Value) (n : Nat) (xs : List Value) (hs : a.eval s = v) (hown : w.ownsRow base e size v n xs)
    (ad : Addr) (m c : Nat) (news : List Value) (hx : a.eval x = .slice (some ad) m c) (hn : news.length = m * size) (hc : ∀ j u, news[j]? = some u → w.cell? (ad.add j) = some u) (h1c : ∀ u ∈ news, u.oneCell' = true)
    (b1 : n + m ≤ maxLen) (b2 : (n + m) * bytes ≤ 140737488355328) (hbase : base ≤ w.heap.size)
    (hK : ∀ v' w', w'.ownsRow base e size v' (n + m) (xs ++ news) → w.grownBy w' v.ownBlock → (v'.ownBlock = v.ownBlock ∨ v'.ownBlock = some w.heap.size) → K (a.put o.dst v') w') :
    if Region.wanted o (yielded ops a.tmps) = true then Oper.wp P o a w K Q else E := by
  have hw : Region.wanted o (yielded ops a.tmps) = true := by simp [Region.wanted, hg]
  rw [if_pos hw]
  obtain ⟨v', w', hrun, r1, r2, _, r3⟩ := run_append_own_at (P := P) w base t o.type e i z size bytes h1 h2 h3 h4 h5 h6 h7 v n xs hown ad m c news hn hc h1c b1 b2 hbase
  unfold Oper.wp
  simp [execOp, hop, resolve, invoke, builtin, hs, hx, hrun, Result.andThen]
  exact hK v' w' r1 r2 r3
theorem own_form {w : World} {base : Nat} {e : TypeId} {k : Nat} {sv : Value} {n : Nat} {xs : List Value} (h : w.ownsRow base e k sv n xs) : ∃ a c, sv = .slice a n c ∧ n ≤ maxLen := by
  obtain ⟨hl, ⟨rfl, rfl⟩ | ⟨g, cap, cur, rfl, _, hb, hn, hc, hs, ht⟩⟩ := h
  · exact ⟨none, 0, rfl, Nat.zero_le _⟩
  · exact ⟨_, cap, rfl, Nat.le_trans hn hc⟩
theorem len_toList (s : ByteArray) : s.data.toList.length = s.size := by rw [Array.length_toList]; rfl

end Go.Proofs.YtfklpedcigdlmaaDoor
end
section
namespace Go.Proofs.YtfklpedcigdlmaaDoor
open Go.RowKit Go.Maps
set_option linter.unusedVariables false
set_option linter.unusedSimpArgs false
attribute [local go_sem ↓] Go.wp_at_zero Go.wp_at_succ

theorem TAt.below {w w' : World} {g o : Nat} {t : T} (h : TAt w g o t) (b : Below w.heap.size w w') (hg : g < w.heap.size) : TAt w' g o t :=
  ⟨by rw [b.cell (p := ⟨g, o, none⟩) hg]; exact h.c0, by rw [b.cell (p := ⟨g, o + 1, none⟩) hg]; exact h.c1, by rw [b.cell (p := ⟨g, o + 2, none⟩) hg]; exact h.c2, by rw [b.cell (p := ⟨g, o + 3, none⟩) hg]; exact h.c3⟩
theorem PAt.below {w w' : World} {g o : Nat} {t : P} (h : PAt w g o t) (b : Below w.heap.size w w') (hg : g < w.heap.size) : PAt w' g o t :=
  ⟨by rw [b.cell (p := ⟨g, o, none⟩) hg]; exact h.c0, by rw [b.cell (p := ⟨g, o + 1, none⟩) hg]; exact h.c1, by rw [b.cell (p := ⟨g, o + 2, none⟩) hg]; exact h.c2, by rw [b.cell (p := ⟨g, o + 3, none⟩) hg]; exact h.c3, by rw [b.cell (p := ⟨g, o + 4, none⟩) hg]; exact h.c4⟩
theorem VAt.below {w w' : World} {g o : Nat} {t : V} (h : VAt w g o t) (b : Below w.heap.size w w') (hg : g < w.heap.size) : VAt w' g o t :=
  ⟨by rw [b.cell (p := ⟨g, o, none⟩) hg]; exact h.c0, by rw [b.cell (p := ⟨g, o + 1, none⟩) hg]; exact h.c1, by rw [b.cell (p := ⟨g, o + 2, none⟩) hg]; exact h.c2⟩
theorem all_take {l : List T} {k : Nat} (h : k < l.length) : (l.take (k + 1)).all termB = ((l.take k).all termB && termB (atT l k)) := by
  have e : l.take (k + 1) = l.take k ++ [l[k]] := by rw [List.take_add_one, List.getElem?_eq_getElem h]; rfl
  rw [e, List.all_append, atT_eq h]
  simp
theorem all_not {l : List T} {k : Nat} (h : k < l.length) (hn : termB (atT l k) = false) : l.all termB = false := by
  rw [← Bool.not_eq_true]
  intro ha
  rw [List.all_eq_true] at ha
  rw [atT_eq h] at hn
  rw [ha _ (List.getElem_mem h)] at hn
  cases hn
theorem atT_wf {l : List T} (h : ∀ t ∈ l, t.wf) (i : Nat) : (atT l i).wf := by
  by_cases hi : i < l.length
  · rw [atT_eq hi]; exact h _ (List.getElem_mem hi)
  · unfold atT
    rw [List.getD, List.getElem?_eq_none (by omega)]
    exact T0.ok

end Go.Proofs.YtfklpedcigdlmaaDoor
end
