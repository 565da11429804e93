import Derived.Test.YtekjoccbbamehaaIxLike
namespace Go.Proofs.Ytekjoccbbamehaa
open Go.RowKit Go.Maps Go.ChangeMaps
set_option linter.unusedVariables false
set_option linter.unusedSimpArgs false
attribute [local go_sem ↓] Go.wp_at_zero Go.wp_at_succ

/-- a list of rows that lies somewhere -/
def Lrw (w : World) (v : Value) (l : List (List Int)) : Prop :=
  (∀ x ∈ l, RowOk x) ∧ ∃ a c, v = .slice a l.length c ∧ ∀ i x, l[i]? = some x → ∃ g off, a = some ⟨g, off, none⟩ ∧ g < w.heap.size ∧ w.rangeAt g (off + i * 24) (x.map cellI)
theorem Lrw.below {w w' : World} {v : Value} {l : List (List Int)} (h : Lrw w v l) (hb : Below w.heap.size w w') : Lrw w' v l := by
  obtain ⟨h1, a, c, rfl, h2⟩ := h
  refine ⟨h1, a, c, rfl, fun i x hx => ?_⟩
  obtain ⟨g, off, rfl, hg, hr⟩ := h2 i x hx
  refine ⟨g, off, rfl, Nat.lt_of_lt_of_le hg hb.size, fun j v hv => ?_⟩
  exact (hb.cell (p := ⟨g, off + i * 24 + j, none⟩) hg).trans (hr j v hv)
theorem load_rowT {w : World} {g off : Nat} {r : List Int} (hr : r.length = 24) (h : w.rangeAt g off (r.map cellI)) : (loadVar 34 ⟨g, off, none⟩).run Try.prog w = .ok (rowV r) w :=
  run_loadVar_mid w g off 34 (r.map cellI) _ (fun j v hj => h j v hj) Try.underlying34 rfl (by rw [List.length_map, hr]; exact infoRow)
/-- a row more, if it is not there -/
def putR (rows : List (List Int)) (r : List Int) : List (List Int) := if r ∈ rows then rows else rows ++ [r]
def fillL (n : Nat) (l : List (List Int)) : List (List Int) := l.foldl (fun rows x => putR rows (fitL x n)) []
theorem fillL_take {n : Nat} {l : List (List Int)} {k : Nat} {x : List Int} (h : l[k]? = some x) : fillL n (l.take (k + 1)) = putR (fillL n (l.take k)) (fitL x n) := by
  unfold fillL
  rw [List.take_add_one, h]
  simp [List.foldl_append]
theorem putR_len (rows : List (List Int)) (r : List Int) : (putR rows r).length ≤ rows.length + 1 := by
  unfold putR
  split <;> simp
theorem fillL_len (n : Nat) : ∀ (l : List (List Int)) (k : Nat), k ≤ l.length → (fillL n (l.take k)).length ≤ k
  | l, 0, _ => by simp [fillL]
  | l, k + 1, h => by
    have ih := fillL_len n l k (by omega)
    obtain ⟨x, hx⟩ : ∃ x, l[k]? = some x := ⟨l[k], List.getElem?_eq_getElem (by omega)⟩
    rw [fillL_take hx]
    have := putR_len (fillL n (l.take k)) (fitL x n)
    omega
/-- a relation that is being filled, with or without a book over it -/
structure Fl (w wr : World) (t m n : Nat) (rows : List (List Int)) (bv : Value) : Prop where
  is : ∃ sv, Rel wr w.heap.size t m sv rows (n : Int) 0 ∧ (bv = .pointer none ∨ ∃ B bk mb, bv = .pointer (some ⟨bk, 0, none⟩) ∧ w.heap.size ≤ B ∧ Rb wr w.heap.size B t m sv rows n 0 bk mb [])
  bel : Below w.heap.size w wr
theorem Fl.keep {w wr wr' : World} {t m n : Nat} {rows : List (List Int)} {bv : Value} (h : Fl w wr t m n rows bv) (hb : Below wr.heap.size wr wr') : Fl w wr' t m n rows bv := by
  obtain ⟨⟨sv, h1, h2⟩, h3⟩ := h
  refine ⟨⟨sv, h1.keep hb, ?_⟩, h3.trans (hb.mono h3.size)⟩
  rcases h2 with h2 | ⟨B, bk, mb, e, hB, h2⟩
  · exact .inl h2
  · exact .inr ⟨B, bk, mb, e, hB, h2.keep hb⟩
attribute [-go_sem] loadVar
theorem Fl.add {w wr : World} {t m n : Nat} {rows : List (List Int)} {bv : Value} (h : Fl w wr t m n rows bv) (hlen : rows.length ≤ 1000000000) {r : List Int} (hr : RowOk r) (hf : fitB r (n : Int) = true) :
    Calls Try.prog 15 #[.pointer (some ⟨t, 0, none⟩), rowV r] wr fun e w' => (∃ x y, e = .returned (.tuple #[x, y])) ∧ Fl w w' t m n (putR rows r) bv := by
  obtain ⟨⟨sv, h1, h2⟩, h3⟩ := h
  refine (add_anyT h1 h3.size hlen r hr).mono ?_
  rintro e w' (⟨hf', -⟩ | ⟨-, hm, rfl, hb⟩ | ⟨-, hm, rfl, hT, sv', hR, hloc⟩)
  · exact absurd (hf'.symm.trans hf) (by decide)
  · refine ⟨⟨_, _, rfl⟩, ?_⟩
    rw [putR, if_pos hm]
    exact Fl.keep ⟨⟨sv, h1, h2⟩, h3⟩ hb
  · refine ⟨⟨_, _, rfl⟩, ?_⟩
    rw [putR, if_neg hm]
    refine ⟨⟨sv', hR, ?_⟩, h3.trans (hT.below h3.size h1.lo.1 h1.lo.2 (fun g hg => (h1.own.lt g hg).1))⟩
    rcases h2 with h2 | ⟨B, bk, mb, e, hB, h2⟩
    · exact .inl h2
    · exact .inr ⟨B, bk, mb, e, hB, h2.add hT hR hloc⟩
theorem Fl.book {w wr : World} {t m n : Nat} {rows : List (List Int)} {bv : Value} (h : Fl w wr t m n rows bv) (hlen : rows.length ≤ 1000000000) :
    Calls Try.prog 16 #[.pointer (some ⟨t, 0, none⟩)] wr fun e w' => ∃ bk, e = .returned (.tuple #[.pointer (some ⟨bk, 0, none⟩), .int .i64 0]) ∧ Fl w w' t m n rows (.pointer (some ⟨bk, 0, none⟩)) := by
  obtain ⟨⟨sv, h1, h2⟩, h3⟩ := h
  refine (new_bk h1 hlen).mono ?_
  rintro e w' ⟨bk, mb, rfl, hbk, hb⟩
  exact ⟨bk, rfl, ⟨sv, h1.keep hb, .inr ⟨wr.heap.size, bk, mb, rfl, h3.size, Rb.made h1 h3.size hbk hb⟩⟩, h3.trans (hb.mono h3.size)⟩
theorem relX_ptr (t : Nat) (w : World) : (binOp .eql 26 (.pointer (some ⟨t, 0, none⟩)) (.pointer none)).run Try.prog w = .ok (.bool false) w := by kernel_rfl
set_option maxHeartbeats 6400000 in
set_option maxRecDepth 100000 in
theorem filled_any (n : Nat) (hn : n ≤ 24) (v : Value) (l : List (List Int)) (w : World) (hl : Lrw w v l) (hln : l.length ≤ 1048576) :
    Calls Try.prog 6 #[.int .i64 (n : Int), v] w fun e w' => ∃ t m bk, e = .returned (.tuple #[.pointer (some ⟨t, 0, none⟩), .pointer (some ⟨bk, 0, none⟩)]) ∧ Fl w w' t m n (fillL n l) (.pointer (some ⟨bk, 0, none⟩)) := by
  have HL := Lib.hid hl
  obtain ⟨_, la, lc, rfl, _⟩ := hl
  have HNEW := Lib.hid (new_any (n : Int) (by omega) (by omega) w)
  go_enter Try.func6, Try.ntmps6
  go_wp2_with fail
  refine HNEW.out.mono ?_
  rintro e w1 ⟨t, m, rfl, hrel, hb⟩
  have HI0 : Hid (Fl w w1 t m n [] (.pointer none)) := ⟨⟨_, hrel, .inl rfl⟩, hb⟩
  have hp := relX_ptr t w1
  clear hrel hb HNEW
  go_wp2
  clear hp
  go_loopw [8, 9] (fun bv i wr => ∃ k : Nat, k ≤ l.length + 1 ∧ i = .int .i64 k ∧ Hid (Fl w wr t m n (fillL n (l.take k)) bv ∧ (l.length / 2 < k → ∃ bk, bv = .pointer (some ⟨bk, 0, none⟩)))) (fun _ i _ => l.length + 1 - (intOf i).toNat)
  case atStart => exact ⟨0, by omega, rfl, HI0.out, fun h => absurd h (by omega)⟩
  case round =>
    obtain ⟨k, hk, rfl, HI⟩ := hrel
    clear HI0
    by_cases hlt : k ≤ l.length
    · have hlt' : (k : Int) ≤ (l.length : Int) := by omega
      have HLEN : Hid ((fillL n (l.take k)).length ≤ 1000000000) := Nat.le_trans (fillL_len n l k hlt) (by omega)
      have HLEN : Hid ((fillL n (l.take k)).length ≤ 1000000000) := Nat.le_trans (fillL_len n l k hlt) (by omega)
      have HX : Hid (∀ x, l[k]? = some x → ∃ gl ofl, la = some ⟨gl, ofl, none⟩ ∧ RowOk x ∧ ∀ u, Below w.heap.size w u → (loadVar 34 ⟨gl, ofl + k * 24, none⟩).run Try.prog u = .ok (rowV x) u) := by
        intro x hx
        obtain ⟨h0, a', c', e, h2⟩ := HL.out
        cases e
        obtain ⟨g, off', rfl, hg, h3⟩ := h2 k _ hx
        have hxo := h0 _ (List.mem_of_getElem? hx)
        exact ⟨g, off', rfl, hxo, fun u hu => load_rowT hxo.len (fun j v hv => (hu.cell (p := ⟨g, off' + k * 24 + j, none⟩) hg).trans (h3 j v hv))⟩
      go_upto_if 33 with fail
      obtain ⟨d, hd⟩ : ∃ d : Bool, ((k : Int) == (l.length : Int) / 2) = d := ⟨_, rfl⟩
      rw [hd]
      have HD := Lib.hid hd
      clear hd
      go_cut [8] from 23 to 53 (fun x wc => Hid (Fl w wc t m n (fillL n (l.take k)) x ∧ (l.length / 2 < k + 1 → ∃ bk, x = .pointer (some ⟨bk, 0, none⟩))))
      case first =>
        by_cases he : k = l.length / 2
        · obtain rfl : d = true := by
            rw [← HD.out, beq_iff_eq]
            omega
          clear HD he
          go_wp2_with fail
          refine (HI.out.1.book HLEN.out).mono ?_
          rintro e w2 ⟨bk, rfl, hF⟩
          have HF := Lib.hid hF
          clear hF HI
          go_wp2_with fail
          go_meet
          exact ⟨HF.out, fun _ => ⟨bk, rfl⟩⟩
        · obtain rfl : d = false := by
            rw [← HD.out, beq_eq_false_iff_ne]
            omega
          clear HD
          have HF : Hid (Fl w wr t m n (fillL n (l.take k)) u8 ∧ (l.length / 2 < k + 1 → ∃ bk, u8 = .pointer (some ⟨bk, 0, none⟩))) := ⟨HI.out.1, fun h => HI.out.2 (by omega)⟩
          clear HI
          go_wp2_with fail
          go_meet
          exact HF.out
      case rest =>
        have HC : Hid _ := hcut
        clear hcut HI
        by_cases hlt2 : k < l.length
        · have hlt2' : (k : Int) < (l.length : Int) := by omega
          have hk0 : (0 : Int) ≤ (k : Int) := by omega
          obtain ⟨x, hx⟩ : ∃ x, l[k]? = some x := ⟨l[k], List.getElem?_eq_getElem hlt2⟩
          obtain ⟨gl, ofl, rfl, hxo, hld⟩ := HX.out x hx
          have hl1 := hld _ HC.out.1.bel
          have HFT := Lib.hid (fit_any x hxo n hn wc)
          have HST := Lib.hid (fillL_take (n := n) hx)
          have HXO := Lib.hid hxo
          clear hld HX hx hxo
          unfold rowV at hl1 HFT
          go_wp2_with fail
          refine HFT.out.mono ?_
          rintro e w3 ⟨rfl, b3⟩
          have HAD := Lib.hid ((HC.out.1.keep b3).add HLEN.out (fitL_ok HXO.out n) (fitL_fits HXO.out n))
          rw [← HST.out] at HAD
          unfold rowV at HAD
          clear hl1 HFT b3
          go_wp2_with fail
          refine HAD.out.mono ?_
          rintro e w4 ⟨⟨q1, q2, rfl⟩, hF⟩
          have HF : Hid (Fl w w4 t m n (fillL n (l.take (k + 1))) u8 ∧ (l.length / 2 < k + 1 → ∃ bk, u8 = .pointer (some ⟨bk, 0, none⟩))) := ⟨hF, HC.out.2⟩
          clear HAD hF HC
          go_wp2
          go_roundw
          case rel => exact ⟨k + 1, by omega, by go_num, HF.out⟩
          case measure => simp [intOf]; omega
        · have hlt2' : ¬ (k : Int) < (l.length : Int) := by omega
          have hkl : k = l.length := by omega
          have HF : Hid (Fl w wc t m n (fillL n (l.take (k + 1))) u8 ∧ (l.length / 2 < k + 1 → ∃ bk, u8 = .pointer (some ⟨bk, 0, none⟩))) := by
            refine ⟨?_, HC.out.2⟩
            rw [List.take_of_length_le (by omega)]
            have := HC.out.1
            rw [List.take_of_length_le (by omega)] at this
            exact this
          clear HC HX
          go_wp2
          go_roundw
          case rel => exact ⟨k + 1, by omega, by go_num, HF.out⟩
          case measure => simp [intOf]; omega
    · have hlt' : ¬ (k : Int) ≤ (l.length : Int) := by omega
      obtain ⟨bk, hbk⟩ := HI.out.2 (by omega)
      have HF : Hid (Fl w wr t m n (fillL n l) (.pointer (some ⟨bk, 0, none⟩))) := by
        have := HI.out.1
        rw [List.take_of_length_le (by omega), hbk] at this
        exact this
      clear HI
      subst hbk
      go_wp2
      go_ret2
      exact ⟨t, m, bk, rfl, HF.out⟩
end Go.Proofs.Ytekjoccbbamehaa
