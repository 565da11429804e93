import Derived.Test.YtjemaijokgcjnaaDoorVtRd
namespace Go.Proofs.YtjemaijokgcjnaaDoor
open Go.RowKit Go.Maps
set_option linter.unusedVariables false
set_option linter.unusedSimpArgs false

theorem size_of_list {s : ByteArray} {l : List UInt8} (h : s.data.toList = l) : s.size = l.length := by rw [← len_toList, h]
theorem byte_of_list {s : ByteArray} {l : List UInt8} (h : s.data.toList = l) {i : Nat} (hi : i < l.length) : byteAt s i = (l[i].toNat : Int) := by
  have hs : i < s.size := by rw [size_of_list h]; exact hi
  rw [byteAt_eq hs]
  subst h
  have : s[i] = s.data.toList[i]'hi := by simp [ByteArray.getElem_eq_getElem_data]
  rw [this]
/-- the value that Show tells so is what guess tells -/
theorem guess_hit {k n : Int} {t s : ByteArray} (hc : chk k n t = 0) (hn0 : -9223372036854775808 ≤ n) (hn1 : n ≤ 9223372036854775807) (h : showB ⟨k, n, t⟩ = s.data.toList) : guessV s = some ⟨k, n, t⟩ := by
  have hcs : k = 1 ∧ t.toList = [] ∨ k = 2 ∧ n = 0 ∧ (t.size : Int) ≤ 200 := by
    unfold chk at hc
    split at hc
    · assumption
    · cases hc
  rcases hcs with ⟨rfl, ht⟩ | ⟨rfl, rfl, ht⟩
  · obtain rfl := PU.noS_of ht
    have hb : showB ⟨1, n, noS⟩ = Lib.itoa n := by unfold showB; rw [if_pos rfl]
    rw [hb] at h
    have hd : ∃ c l, Lib.itoa n = c :: l ∧ (c.toNat = 45 ∨ (48 ≤ c.toNat ∧ c.toNat ≤ 57)) := by
      unfold Lib.itoa
      split
      · exact ⟨_, _, rfl, .inl rfl⟩
      · obtain ⟨c, l, e, hc⟩ := PU.dec_head n.toNat
        exact ⟨c, l, e, .inr hc⟩
    obtain ⟨c, l, e, hcc⟩ := hd
    have h' : s.data.toList = c :: l := by rw [← h, e]
    have hby := byte_of_list h' (i := 0) (by simp)
    simp only [List.getElem_cons_zero] at hby
    unfold guessV
    rw [if_neg (by rw [size_of_list h']; simp), if_neg (by rw [hby]; omega), if_pos (by
      rw [hby]
      rcases hcc with hcc | hcc
      · exact .inl (by omega)
      · exact .inr (by unfold digitB; exact decide_eq_true (by omega))), ← h, PU.parse_itoa hn0 hn1]
    rfl
  · cases hnm : nameB t with
    | true =>
      have hb : showB ⟨2, 0, t⟩ = t.data.toList := by unfold showB; rw [if_neg (by simp), if_pos hnm]
      rw [hb] at h
      obtain rfl : t = s := PU.bytes_inj h
      obtain ⟨_, _, c, l, e, hc1⟩ := PU.name_form hnm
      have hby := byte_of_list e (i := 0) (by simp)
      simp only [List.getElem_cons_zero] at hby
      unfold guessV
      rw [if_neg (by rw [size_of_list e]; simp), if_neg (by rw [hby]; omega), if_neg (by
        rw [hby]
        rintro (h | h)
        · omega
        · unfold digitB at h
          have := of_decide_eq_true h
          omega)]
    | false =>
      have hb : showB ⟨2, 0, t⟩ = 34 :: (t.data.toList.flatMap pieceQ ++ [34]) := by
        unfold showB; rw [if_neg (by simp), if_neg (by simp [hnm])]; unfold quoteQ; simp
      rw [hb] at h
      obtain ⟨F, hF⟩ : ∃ F, t.data.toList.flatMap pieceQ = F := ⟨_, rfl⟩
      rw [hF] at h
      have hsz := size_of_list h.symm
      simp only [List.length_cons, List.length_append, List.length_nil] at hsz
      have hby := byte_of_list h.symm (i := 0) (by simp)
      simp only [List.getElem_cons_zero] at hby
      have hlast := byte_of_list h.symm (i := s.size - 1) (by rw [hsz]; simp)
      have hl34 : byteAt s (s.size - 1) = 34 := by
        rw [hlast]
        have : (34 :: (F ++ [34]))[s.size - 1]'(by rw [hsz]; simp) = (34 : UInt8) := by
          simp only [hsz]
          simp
        rw [this]; rfl
      have hex : (s.extract 1 (s.size - 1)).data.toList = F := by
        rw [ByteArray.data_extract]
        rw [Array.toList_extract, List.extract_eq_take_drop, ← h, hsz]
        simp
      have hu : unqS s = some t.data.toList := by
        unfold unqS
        rw [if_neg (by rw [hl34]; simp; omega), hex, ← hF]
        have hlen := flat_ge t.data.toList
        rw [hF] at hlen
        rw [PU.unq_pieces t.data.toList [] s.size (by omega)]
        simp
      unfold guessV
      rw [if_neg (by omega), if_pos (by rw [hby]; rfl), hu]
theorem read_back {k n : Int} {t s : ByteArray} (hc : chk k n t = 0) (hn0 : -9223372036854775808 ≤ n) (hn1 : n ≤ 9223372036854775807) (h : showB ⟨k, n, t⟩ = s.data.toList) : readV s = some ⟨k, n, t⟩ := by
  unfold readV
  rw [guess_hit hc hn0 hn1 h]
  exact if_pos ⟨hc, h⟩
theorem read_ok {s : ByteArray} {u : V} (h : readV s = some u) : chk u.k u.n u.s = 0 ∧ showB u = s.data.toList := by
  unfold readV at h
  split at h
  · cases h
  · split at h
    · injection h with h; subst h; assumption
    · cases h
end Go.Proofs.YtjemaijokgcjnaaDoor
