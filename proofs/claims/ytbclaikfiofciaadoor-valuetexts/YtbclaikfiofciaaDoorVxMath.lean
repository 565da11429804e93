import Derived.Test.YtbclaikfiofciaaDoorArRef
namespace Go.Proofs.YtbclaikfiofciaaDoor
open Go.RowKit Go.Maps
set_option linter.unusedVariables false
set_option linter.unusedSimpArgs false

/-! texts as rows of characters -/
abbrev bl (s : ByteArray) : List UInt8 := s.data.toList
theorem bl_len (s : ByteArray) : (bl s).length = s.size := len_toList s
theorem bt_list (s : ByteArray) (i : Nat) (b : UInt8) (h : (bl s)[i]? = some b) : bt s i = b.toNat := by
  obtain ⟨hi, hb⟩ := List.getElem?_eq_some_iff.1 h
  have hi' : i < s.size := by rw [← bl_len]; exact hi
  unfold bt
  rw [byteAt_eq hi']
  have : s[i] = b := by
    rw [← hb]
    show s.data[i] = s.data.toList[i]
    simp
  rw [this]
  simp
def ptL (p : Int) : List UInt8 → Int
  | [] => p
  | x :: r => ptL (p * 64 + (x.toNat : Int) - 128) r
/-- the bytes of one code point -/
def goodC : List UInt8 → Bool
  | [] => false
  | b :: r => decide (fN b.toNat = (r.length : Int)) && r.all (fun x => contB x.toNat) && !badP (ptL (fB b.toNat) r) (fL b.toNat)
theorem ptL_snoc (p : Int) : ∀ (r : List UInt8) (x : UInt8), ptL p (r ++ [x]) = ptL p r * 64 + (x.toNat : Int) - 128
  | [], x => rfl
  | y :: r, x => ptL_snoc _ r x
/-- what is read at a place where these bytes stand -/
theorem at_bytes (s : ByteArray) (p : Nat) (b : UInt8) : ∀ (r rest : List UInt8), (bl s).drop p = (b :: r) ++ rest → contsTo s p r.length = r.all (fun x => contB x.toNat) ∧ ptN s p r.length = ptL (fB b.toNat) r := by
  have key : ∀ (n : Nat) (r rest : List UInt8), r.length = n → (bl s).drop p = (b :: r) ++ rest → contsTo s p n = r.all (fun x => contB x.toNat) ∧ ptN s p n = ptL (fB b.toNat) r := by
    intro n
    induction n with
    | zero =>
      intro r rest hr h
      have : r = [] := List.eq_nil_of_length_eq_zero hr
      subst this
      have h0 : (bl s)[p]? = some b := by
        have := congrArg (fun l => l[0]?) h
        simpa [List.getElem?_drop] using this
      refine ⟨rfl, ?_⟩
      show fB (bt s p) = _
      rw [bt_list s p b h0]
      rfl
    | succ n ih =>
      intro r rest hr h
      obtain ⟨r', x, rfl⟩ : ∃ r' x, r = r' ++ [x] := ⟨r.dropLast, r.getLast (by intro e; rw [e] at hr; simp at hr), (List.dropLast_concat_getLast _).symm⟩
      have hr' : r'.length = n := by simpa using hr
      obtain ⟨i1, i2⟩ := ih r' (x :: rest) hr' (by rw [h]; simp)
      have hx : (bl s)[p + (n + 1)]? = some x := by
        have := congrArg (fun l => l[n + 1]?) h
        simp only [List.getElem?_drop] at this
        rw [this, List.getElem?_append_left (by simp; omega), List.getElem?_cons_succ, List.getElem?_append_right (by omega), hr']
        simp
      refine ⟨?_, ?_⟩
      · show (contsTo s p n && contB (bt s (p + (n + 1)))) = _
        rw [i1, bt_list s _ x hx, List.all_append]
        simp
      · show ptN s p n * 64 + (bt s (p + (n + 1)) : Int) - 128 = _
        rw [i2, bt_list s _ x hx, ptL_snoc]
  intro r rest h
  exact key r.length r rest rfl h
theorem good_at (s : ByteArray) (p : Nat) (c rest : List UInt8) (hg : goodC c = true) (h : (bl s).drop p = c ++ rest) : chW s p = c.length ∧ chOk s p = true ∧ p < s.size := by
  cases c with
  | nil => simp [goodC] at hg
  | cons b r =>
    simp only [goodC, Bool.and_eq_true, decide_eq_true_eq, Bool.not_eq_true'] at hg
    obtain ⟨⟨g1, g2⟩, g3⟩ := hg
    have hl := congrArg List.length h
    rw [List.length_drop, bl_len] at hl
    simp at hl
    have hp : p < s.size := by omega
    have h0 : bt s p = b.toNat := bt_list s p b (by
      have := congrArg (fun l => l[0]?) h
      simpa [List.getElem?_drop] using this)
    obtain ⟨i1, i2⟩ := at_bytes s p b r rest h
    have hd := dec_ok s hp
    have hr : charR s p = (1 + (r.length : Int), true) := by
      unfold charR
      rw [h0, g1, if_neg (by omega)]
      have e : ((r.length : Int)).toNat = r.length := by omega
      rw [e, i1, i2, g2, g3, if_neg (by simp), if_neg (by simp)]
    rw [hr] at hd
    simp only [Prod.mk.injEq] at hd
    refine ⟨?_, hd.2.symm, hp⟩
    simp
    omega
theorem at_good (s : ByteArray) {p : Nat} (hp : p < s.size) (ho : chOk s p = true) : goodC (((bl s).drop p).take (chW s p)) = true := by
  have hd := dec_ok s hp
  rw [ho] at hd
  unfold charR at hd
  by_cases a1 : fN (bt s p) < 0 ∨ (s.size : Int) ≤ (p : Int) + fN (bt s p)
  · rw [if_pos a1] at hd; simp at hd
  rw [if_neg a1] at hd
  by_cases a2 : contsTo s p (fN (bt s p)).toNat = false
  · rw [if_pos a2] at hd; simp at hd
  rw [if_neg a2] at hd
  by_cases a3 : badP (ptN s p (fN (bt s p)).toNat) (fL (bt s p)) = true
  · rw [if_pos a3] at hd; simp at hd
  rw [if_neg a3] at hd
  simp only [Prod.mk.injEq, and_true] at hd
  obtain ⟨n, hn⟩ : ∃ n : Nat, fN (bt s p) = n := ⟨(fN (bt s p)).toNat, by omega⟩
  have hw : chW s p = n + 1 := by omega
  rw [hn] at a2 a3
  simp only [Int.toNat_natCast] at a2 a3
  have hlen : ((bl s).drop p).length = s.size - p := by rw [List.length_drop, bl_len]
  obtain ⟨b, rr, hb⟩ : ∃ b rr, (bl s).drop p = b :: rr := by
    cases hh : (bl s).drop p with
    | nil => rw [hh] at hlen; simp at hlen; omega
    | cons b rr => exact ⟨b, rr, rfl⟩
  have h0 : bt s p = b.toNat := bt_list s p b (by
    have := congrArg (fun l => l[0]?) hb
    simpa [List.getElem?_drop] using this)
  have hrl : rr.length = s.size - p - 1 := by rw [hb] at hlen; simp at hlen; omega
  obtain ⟨i1, i2⟩ := at_bytes s p b (rr.take n) (rr.drop n) (by rw [hb]; simp)
  have ht : (rr.take n).length = n := by rw [List.length_take]; omega
  rw [ht] at i1 i2
  rw [hw, hb]
  show goodC (b :: rr.take n) = true
  simp only [goodC, Bool.and_eq_true, decide_eq_true_eq, Bool.not_eq_true']
  rw [← h0, ht, ← i1]
  rw [← h0] at i2
  rw [← i2]
  exact ⟨⟨hn, by simpa using a2⟩, by simpa using a3⟩
/-- the characters from a place on -/
def chunksAt (s : ByteArray) (p : Nat) : List (List UInt8) := (startsAt s p).map (fun q => ((bl s).drop q).take (chW s q))
theorem chunks_cons (s : ByteArray) {p : Nat} (h : p < s.size) : chunksAt s p = ((bl s).drop p).take (chW s p) :: chunksAt s (p + chW s p) := by
  unfold chunksAt
  rw [starts_cons s h]
  rfl
theorem chunks_end (s : ByteArray) {p : Nat} (h : ¬ p < s.size) : chunksAt s p = [] := by
  unfold chunksAt
  rw [starts_end s h]
  rfl
theorem chunks_flat (s : ByteArray) : ∀ (f p : Nat), s.size - p ≤ f → (chunksAt s p).flatten = (bl s).drop p
  | 0, p, hf => by
    rw [chunks_end s (by omega)]
    symm
    rw [List.flatten_nil, List.drop_eq_nil_iff, bl_len]
    omega
  | f + 1, p, hf => by
    by_cases h : p < s.size
    · have hc := chW_le s h
      rw [chunks_cons s h, List.flatten_cons, chunks_flat s f _ (by omega), ← List.drop_drop, List.take_append_drop]
    · rw [chunks_end s h]
      symm
      rw [List.flatten_nil, List.drop_eq_nil_iff, bl_len]
      omega
theorem chunks_good (s : ByteArray) : ∀ (L : List (List UInt8)) (p : Nat), (∀ c ∈ L, goodC c = true) → (bl s).drop p = L.flatten → chunksAt s p = L
  | [], p, _, h => by
    rw [List.flatten_nil, List.drop_eq_nil_iff, bl_len] at h
    exact chunks_end s (by omega)
  | c :: L, p, hg, h => by
    rw [List.flatten_cons] at h
    obtain ⟨h1, _, h3⟩ := good_at s p c L.flatten (hg c (by simp)) h
    rw [chunks_cons s h3, h1, h, List.take_left]
    congr 1
    refine chunks_good s L _ (fun x hx => hg x (by simp [hx])) ?_
    rw [← List.drop_drop, h, List.drop_left]
def pointsB (s : ByteArray) : Bool := (starts s).all (chOk s)
theorem points_chunks {s : ByteArray} (h : pointsB s = true) : ∀ c ∈ chunksAt s 0, goodC c = true := by
  intro c hc
  obtain ⟨q, hq, rfl⟩ := List.mem_map.1 hc
  have hm := startsAt_mem s s.size 0 (by omega) q hq
  exact at_good s hm.2 (List.all_eq_true.1 h q hq)
theorem chunks_len (s : ByteArray) (p : Nat) : (chunksAt s p).length = (startsAt s p).length := by unfold chunksAt; simp
theorem chunks_all (s : ByteArray) : (chunksAt s 0).flatten = bl s := by
  rw [chunks_flat s s.size 0 (by omega)]
  rfl
theorem chunk_bytes (s : ByteArray) {k : Nat} (hk : k < (starts s).length) : (chunksAt s 0)[(starts s).length - 1 - k]? = some (bl (chunk s k)) := by
  have h : (starts s).length - 1 - k < (starts s).length := by omega
  unfold chunksAt
  show ((starts s).map _)[_]? = _
  rw [List.getElem?_map, List.getElem?_eq_getElem h]
  rw [← charS_chunk s hk]
  unfold charS startAt
  rw [List.getElem?_eq_getElem h]
  simp only [Option.getD_some, Option.map_some, Option.some.injEq]
  generalize (starts s)[(starts s).length - 1 - k] = q
  rw [show bl (s.extract q (q + chW s q)) = (s.data.extract q (q + chW s q)).toList by show (s.extract q (q + chW s q)).data.toList = _; rw [ByteArray.data_extract], Array.toList_extract]
  simp [List.extract_eq_take_drop]
theorem backL_rev (s : ByteArray) : ∀ k, k ≤ (starts s).length → backL s k = ((chunksAt s 0).reverse.take k).flatten
  | 0, _ => by simp [backL]
  | k + 1, hk => by
    have hl : (chunksAt s 0).length = (starts s).length := chunks_len s 0
    have hkr : k < (chunksAt s 0).reverse.length := by rw [List.length_reverse]; omega
    have hx : (chunksAt s 0).reverse[k] = bl (chunk s k) := by
      have := chunk_bytes s (k := k) (by omega)
      rw [List.getElem_reverse]
      obtain ⟨h1, h2⟩ := List.getElem?_eq_some_iff.1 this
      rw [← h2]
      congr 1
      omega
    rw [backL, backL_rev s k (by omega), List.take_succ_eq_append_getElem hkr, List.flatten_append, hx]
    simp
theorem back_bytes (s : ByteArray) : bl (backB s) = (chunksAt s 0).reverse.flatten := by
  have h := backL_rev s (starts s).length (Nat.le_refl _)
  rw [List.take_of_length_le (by rw [List.length_reverse, chunks_len]; exact Nat.le_refl _)] at h
  show ((backL s (starts s).length).toArray).toList = _
  rw [List.toList_toArray]
  exact h
theorem ba_ext {a b : ByteArray} (h : bl a = bl b) : a = b := ByteArray.ext (Array.toList_inj.1 h)
/-- turned round twice, where every character is a code point's -/
theorem back_twice {s : ByteArray} (h : pointsB s = true) : backB (backB s) = s ∧ (starts (backB s)).length = (starts s).length := by
  have hg := points_chunks h
  have hc : chunksAt (backB s) 0 = (chunksAt s 0).reverse := chunks_good (backB s) _ 0 (fun c hc => hg c (List.mem_reverse.1 hc)) (by rw [List.drop_zero, back_bytes])
  refine ⟨ba_ext ?_, ?_⟩
  · rw [back_bytes, hc, List.reverse_reverse, chunks_all]
  · have := congrArg List.length hc
    rw [List.length_reverse, chunks_len, chunks_len] at this
    exact this
theorem bl_append (s t : ByteArray) : bl (s ++ t) = bl s ++ bl t := by
  show (s ++ t).data.toList = _
  rw [ByteArray.data_append, Array.toList_append]
theorem cat_points {s t : ByteArray} (h1 : pointsB s = true) (h2 : pointsB t = true) : (starts (s ++ t)).length = (starts s).length + (starts t).length := by
  have hc : chunksAt (s ++ t) 0 = chunksAt s 0 ++ chunksAt t 0 := chunks_good (s ++ t) _ 0 (fun c hc => by
    rcases List.mem_append.1 hc with h | h
    · exact points_chunks h1 c h
    · exact points_chunks h2 c h) (by rw [List.drop_zero, bl_append, List.flatten_append, chunks_all, chunks_all])
  have := congrArg List.length hc
  rw [List.length_append, chunks_len, chunks_len, chunks_len] at this
  exact this
/-- the bytes that begin a code point -/
def fstB (b : UInt8) : Bool := decide (b.toNat < 128) || decide (192 ≤ b.toNat)
theorem good_first {c : List UInt8} (h : goodC c = true) : c.countP fstB = 1 := by
  cases c with
  | nil => simp [goodC] at h
  | cons b r =>
    simp only [goodC, Bool.and_eq_true, decide_eq_true_eq, Bool.not_eq_true'] at h
    obtain ⟨⟨g1, g2⟩, _⟩ := h
    have hb : fstB b = true := by
      unfold fstB
      unfold fN at g1
      rw [Bool.or_eq_true, decide_eq_true_eq, decide_eq_true_eq]
      repeat' split at g1
      all_goals first | (left; assumption) | (right; omega) | omega
    have hr : r.countP fstB = 0 := by
      rw [List.countP_eq_zero]
      intro x hx
      have := List.all_eq_true.1 g2 x hx
      simp [contB] at this
      simp [fstB]
      omega
    rw [List.countP_cons, hr, hb]
    rfl
theorem first_count {s : ByteArray} (h : pointsB s = true) : (bl s).countP fstB = (starts s).length := by
  have hg := points_chunks h
  rw [← chunks_all s, ← show (chunksAt s 0).length = (starts s).length from chunks_len s 0]
  generalize chunksAt s 0 = L at hg
  induction L with
  | nil => rfl
  | cons c L ih =>
    rw [List.flatten_cons, List.countP_append, good_first (hg c (by simp)), ih (fun x hx => hg x (by simp [hx])), List.length_cons]
    omega
theorem four_le (s : ByteArray) : ∀ (f p : Nat), s.size - p ≤ f → s.size - p ≤ 4 * (startsAt s p).length
  | 0, p, hf => by omega
  | f + 1, p, hf => by
    by_cases h : p < s.size
    · have hc := chW_le s h
      have := four_le s f (p + chW s p) (by omega)
      rw [starts_cons s h, List.length_cons]
      omega
    · omega
/-- only what stands behind counts -/
theorem bt_suffix {u v : ByteArray} {p q : Nat} (h : (bl u).drop p = (bl v).drop q) (k : Nat) : bt u (p + k) = bt v (q + k) := by
  have e : (bl u)[p + k]? = (bl v)[q + k]? := by
    have := congrArg (fun l => l[k]?) h
    simpa [List.getElem?_drop] using this
  cases hb : (bl u)[p + k]? with
  | some b => rw [bt_list u _ b hb, bt_list v _ b (by rw [← e, hb])]
  | none =>
    have h1 := List.getElem?_eq_none_iff.1 hb
    have h2 := List.getElem?_eq_none_iff.1 (e ▸ hb)
    rw [bl_len] at h1 h2
    have z : ∀ (s : ByteArray) (i : Nat), s.size ≤ i → bt s i = 0 := fun s i hi => by
      unfold bt byteAt
      rw [dif_neg (by omega)]
      rfl
    rw [z u _ h1, z v _ h2]
theorem size_suffix {u v : ByteArray} {p q : Nat} (h : (bl u).drop p = (bl v).drop q) : u.size - p = v.size - q := by
  have := congrArg List.length h
  rwa [List.length_drop, List.length_drop, bl_len, bl_len] at this
theorem chW_suffix {u v : ByteArray} {p q : Nat} (h : (bl u).drop p = (bl v).drop q) (hp : p < u.size) : chW u p = chW v q := by
  have hz := size_suffix h
  have hq : q < v.size := by omega
  have b0 : bt u p = bt v q := bt_suffix h 0
  have hc : ∀ n, contsTo u p n = contsTo v q n := by
    intro n
    induction n with
    | zero => rfl
    | succ n ih => simp only [contsTo, ih, bt_suffix h]
  have hpt : ∀ n, ptN u p n = ptN v q n := by
    intro n
    induction n with
    | zero => simp only [ptN, b0]
    | succ n ih => simp only [ptN, ih, bt_suffix h]
  have hr : charR u p = charR v q := by
    unfold charR
    rw [b0, hc, hpt]
    have e : (fN (bt v q) < 0 ∨ (u.size : Int) ≤ (p : Int) + fN (bt v q)) = (fN (bt v q) < 0 ∨ (v.size : Int) ≤ (q : Int) + fN (bt v q)) := by
      apply propext
      constructor
      · rintro (h | h)
        · exact .inl h
        · exact .inr (by omega)
      · rintro (h | h)
        · exact .inl h
        · exact .inr (by omega)
    simp only [e]
  rw [dec_ok u hp, dec_ok v hq] at hr
  simp only [Prod.mk.injEq] at hr
  omega
theorem cnt_suffix {u v : ByteArray} : ∀ (f p q : Nat), u.size - p ≤ f → (bl u).drop p = (bl v).drop q → (startsAt u p).length = (startsAt v q).length
  | 0, p, q, hf, h => by
    have := size_suffix h
    rw [starts_end u (by omega), starts_end v (by omega)]
  | f + 1, p, q, hf, h => by
    have hz := size_suffix h
    by_cases hp : p < u.size
    · have hc := chW_le u hp
      rw [starts_cons u hp, starts_cons v (by omega), List.length_cons, List.length_cons, ← chW_suffix h hp, cnt_suffix f (p + chW u p) (q + chW u p) (by omega) (by rw [← List.drop_drop, h, List.drop_drop])]
    · rw [starts_end u hp, starts_end v (by omega)]
/-- a byte that begins none is a character by itself -/
theorem cont_one (t : ByteArray) {j : Nat} (hj : j < t.size) (hc : contB (bt t j) = true) : chW t j = 1 := by
  have hcc : 128 ≤ bt t j ∧ bt t j < 192 := by simpa [contB] using hc
  have hd := dec_ok t hj
  have hr : charR t j = (1, false) := by
    unfold charR
    have : fN (bt t j) = -1 := by
      unfold fN
      rw [if_neg (by omega), if_neg (by omega), if_neg (by omega), if_neg (by omega)]
    rw [this, if_pos (by omega)]
  rw [hr] at hd
  simp only [Prod.mk.injEq] at hd
  omega
theorem conts_cnt (t : ByteArray) (q : Nat) (hq : q ≤ t.size) (hc : ∀ j, j < q → contB (bt t j) = true) : ∀ d, d ≤ q → (startsAt t q).length ≤ (startsAt t (q - d)).length
  | 0, _ => Nat.le_refl _
  | d + 1, hd => by
    have ih := conts_cnt t q hq hc d (by omega)
    have hj : q - (d + 1) < t.size := by omega
    rw [starts_cons t hj, cont_one t hj (hc _ (by omega)), List.length_cons, show q - (d + 1) + 1 = q - d by omega]
    omega
theorem bt_left (s t : ByteArray) {i : Nat} (h : i < s.size) : bt (s ++ t) i = bt s i := by
  have hl : i < (bl s).length := by rw [bl_len]; exact h
  rw [bt_list s i _ (List.getElem?_eq_getElem hl), bt_list (s ++ t) i (bl s)[i] (by rw [bl_append, List.getElem?_append_left hl, List.getElem?_eq_getElem hl])]
theorem bt_right (s t : ByteArray) (i : Nat) : bt (s ++ t) (s.size + i) = bt t i := by
  refine bt_suffix (u := s ++ t) (v := t) (p := s.size) (q := 0) ?_ i |>.trans (by rw [Nat.zero_add])
  rw [bl_append, List.drop_zero, List.drop_left' (bl_len s)]
theorem size_cat (s t : ByteArray) : (s ++ t).size = s.size + t.size := ByteArray.size_append
/-- a character that does not reach over the border is the same -/
theorem chW_left (s t : ByteArray) {p : Nat} (hp : p < s.size) (hw : p + chW (s ++ t) p ≤ s.size) : chW s p = chW (s ++ t) p := by
  have hpu : p < (s ++ t).size := by rw [size_cat]; omega
  have hdrop : (bl (s ++ t)).drop p = (bl s).drop p ++ bl t := by
    rw [bl_append, List.drop_append_of_le_length (by rw [bl_len]; omega)]
  have h1 := chW_le (s ++ t) hpu
  have h2 := chW_le s hp
  by_cases ho : chOk (s ++ t) p = true
  · have hg := at_good (s ++ t) hpu ho
    have hlen : chW (s ++ t) p ≤ ((bl s).drop p).length := by rw [List.length_drop, bl_len]; omega
    rw [hdrop, List.take_append_of_le_length hlen] at hg
    have := good_at s p _ (((bl s).drop p).drop (chW (s ++ t) p)) hg (by rw [List.take_append_drop])
    rw [this.1, List.length_take]
    omega
  · have w1 : chW (s ++ t) p = 1 := by
      unfold chOk at ho
      simp at ho
      exact ho.2
    by_cases ho2 : chOk s p = true
    · have hg := at_good s hp ho2
      have := good_at (s ++ t) p _ (((bl s).drop p).drop (chW s p) ++ bl t) hg (by rw [hdrop, ← List.append_assoc, List.take_append_drop])
      exact absurd this.2.1 ho
    · unfold chOk at ho2
      simp at ho2
      rw [w1, ho2.2]
theorem cat_le (s t : ByteArray) : ∀ (f p : Nat), s.size - p ≤ f → p ≤ s.size → (startsAt (s ++ t) p).length ≤ (startsAt s p).length + (starts t).length
  | f, p, hf, hp => by
    by_cases hlt : p < s.size
    · have hpu : p < (s ++ t).size := by rw [size_cat]; omega
      have h1 := chW_le (s ++ t) hpu
      rw [starts_cons (s ++ t) hpu, starts_cons s hlt, List.length_cons, List.length_cons]
      by_cases hw : p + chW (s ++ t) p ≤ s.size
      · rw [chW_left s t hlt hw]
        cases f with
        | zero => omega
        | succ f =>
          have := cat_le s t f (p + chW (s ++ t) p) (by omega) hw
          omega
      · obtain ⟨q, hq⟩ : ∃ q, p + chW (s ++ t) p = s.size + q := ⟨p + chW (s ++ t) p - s.size, by omega⟩
        have hqt : q ≤ t.size := by have := h1.2.2; rw [size_cat] at this; omega
        rw [hq, cnt_suffix (u := s ++ t) (v := t) (s ++ t).size (s.size + q) q (by omega) (by rw [bl_append, ← List.drop_drop, List.drop_left' (bl_len s)])]
        have hall : ∀ j, j < q → contB (bt t j) = true := by
          intro j hj
          have w2 : chW (s ++ t) p ≠ 1 := by omega
          have ho : chOk (s ++ t) p = true := by unfold chOk; simp [w2]
          have hg := at_good (s ++ t) hpu ho
          cases hc : ((bl (s ++ t)).drop p).take (chW (s ++ t) p) with
          | nil => rw [hc] at hg; simp [goodC] at hg
          | cons b r =>
            rw [hc] at hg
            simp only [goodC, Bool.and_eq_true, decide_eq_true_eq, Bool.not_eq_true'] at hg
            have hidx : (bl (s ++ t))[s.size + j]? = r[s.size + j - p - 1]? := by
              have := congrArg (fun l => l[s.size + j - p]?) hc
              simp only [List.getElem?_take, List.getElem?_drop] at this
              rw [if_pos (by omega), show p + (s.size + j - p) = s.size + j by omega, show s.size + j - p = (s.size + j - p - 1) + 1 by omega, List.getElem?_cons_succ] at this
              exact this
            have hsz : s.size + j < (bl (s ++ t)).length := by rw [bl_len, size_cat]; omega
            rw [List.getElem?_eq_getElem hsz] at hidx
            have hb := bt_list (s ++ t) (s.size + j) _ (List.getElem?_eq_getElem hsz)
            rw [bt_right] at hb
            rw [hb]
            exact List.all_eq_true.1 hg.1.2 _ (List.mem_of_getElem? hidx.symm)
        have := conts_cnt t q hqt hall q (Nat.le_refl _)
        rw [Nat.sub_self] at this
        show _ ≤ _ + (startsAt t 0).length
        omega
    · obtain rfl : p = s.size := by omega
      rw [cnt_suffix (u := s ++ t) (v := t) (s ++ t).size s.size 0 (by omega) (by rw [bl_append, List.drop_zero, List.drop_left' (bl_len s)])]
      exact Nat.le_add_left _ _
end Go.Proofs.YtbclaikfiofciaaDoor
