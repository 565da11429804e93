import Derived.Test.YtfkggabdjcabcaaRelSelA
import Derived.Deep.RegionWith
namespace Go.Proofs.Ytfkggabdjcabcaa
open Go.RowKit Go.Maps Go.Shelf
set_option linter.unusedVariables false
set_option linter.unusedSimpArgs false
attribute [local go_sem ↓] Go.wp_at_zero Go.wp_at_succ
attribute [local go_sem] Oper.semAt_some

/-- the numbers of the rows, among the first k, that are the key under the mask -/
def selN (m2 : Int) (rows : List (List Int)) (key : List Int) (k : Nat) : List Nat := (List.range k).filter (fun i => decide (underL m2 (rows.getD i []) = key))
theorem selN_succ (m2 : Int) (rows : List (List Int)) (key : List Int) (k : Nat) : selN m2 rows key (k + 1) = if underL m2 (rows.getD k []) = key then selN m2 rows key k ++ [k] else selN m2 rows key k := by
  unfold selN
  rw [List.range_succ, List.filter_append]
  by_cases h : underL m2 (rows.getD k []) = key
  · rw [if_pos h]
    simp only [List.filter_cons, h, decide_true, if_true, List.filter_nil]
  · rw [if_neg h]
    simp only [List.filter_cons, h, decide_false, List.filter_nil, Bool.false_eq_true, if_false, List.append_nil]
theorem selN_len (m2 : Int) (rows : List (List Int)) (key : List Int) (k : Nat) : (selN m2 rows key k).length ≤ k := by
  have := List.length_filter_le (fun i => decide (underL m2 (rows.getD i []) = key)) (List.range k)
  simpa [selN] using this
theorem underL_ok (m2 : Int) {x : List Int} (h : RowOk x) : RowOk (underL m2 x) := by
  refine ⟨by rw [underL_len, h.len], fun y hy => ?_⟩
  obtain ⟨i, hi⟩ := List.mem_iff_getElem?.1 hy
  unfold underL at hi
  rw [underN_at] at hi
  split at hi
  · cases hx : x[i]? with
    | none => rw [hx] at hi; cases hi
    | some z => rw [hx] at hi; cases hi; rfl
  · exact h.num y (List.mem_of_getElem? hi)
/-- what a range over all rows tells -/
theorem range_seq (n : Nat) {w w8 : World} {B t m : Nat} {sv : Value} {rows : List (List Int)} {ar gone : Int} (h : Rel w B t m sv rows ar gone) (hb : Below w.heap.size w w8) (hlen : rows.length ≤ 1000000000) {b0 b1 b2 : Nat}
    (h0 : w8.cell? ⟨b0, 0, none⟩ = some (.pointer (some ⟨t, 0, none⟩))) (h1 : w8.cell? ⟨b1, 0, none⟩ = some (.int .i64 0)) (h2 : w8.cell? ⟨b2, 0, none⟩ = some (.int .i64 (rows.length : Int))) (hbs : b0 < w8.heap.size ∧ b1 < w8.heap.size ∧ b2 < w8.heap.size) :
    ∃ g, g < w.heap.size ∧ SeqTells Fence.wide n Try.prog 26 #[.pointer (some ⟨b0, 0, none⟩), .pointer (some ⟨b1, 0, none⟩), .pointer (some ⟨b2, 0, none⟩)] (rowsAt rows 0) (Keeps2 g b2) rows.length w8 := by
  have hr := h.keep hb
  rcases h.own.2 with ⟨rfl, hz⟩ | ⟨g, cap, cur, rfl, _, hgb, _⟩
  · have : rows = [] := List.eq_nil_of_length_eq_zero hz
    subst this
    exact ⟨t, World.rowIs.lt h.rl, range_tells0 n hr h0 h1 h2 hbs _ _⟩
  · exact ⟨g, (Array.getElem?_eq_some_iff.1 hgb).1, range_tells n hr hlen 0 (Nat.zero_le _) h0 h1 h2 hbs⟩
theorem own_low {w : World} {B B' : Nat} {e : TypeId} {k : Nat} {v : Value} {n : Nat} {xs : List Value} (h : w.ownsRow B e k v n xs) (hB : B' ≤ B) : w.ownsRow B' e k v n xs := by
  obtain ⟨e1, e2 | ⟨g', cap', cur, e, hbase, rest⟩⟩ := h
  · exact ⟨e1, .inl e2⟩
  · exact ⟨e1, .inr ⟨g', cap', cur, e, by omega, rest⟩⟩
attribute [-go_sem] loadVar Builtin.append_
set_option maxHeartbeats 3200000 in
set_option maxRecDepth 100000 in
theorem select4 {w : World} {B t m : Nat} {sv : Value} {rows : List (List Int)} {gone : Int} (h : Rel w B t m sv rows 4 gone) (hlen : rows.length ≤ 100000000) (mk : Int) (x : List Int) (hx : RowOk x) :
    Calls Try.prog 7 #[.pointer (some ⟨t, 0, none⟩), .int .u32 mk, rowV x] w fun e w' => ∃ a c, e = .returned (.slice a (selN (bits BinOp.and IntKind.u32 mk 15) rows (underL (bits BinOp.and IntKind.u32 mk 15) x) rows.length).length c) ∧ w'.ownsRow w.heap.size 3 1 (.slice a (selN (bits BinOp.and IntKind.u32 mk 15) rows (underL (bits BinOp.and IntKind.u32 mk 15) x) rows.length).length c) (selN (bits BinOp.and IntKind.u32 mk 15) rows (underL (bits BinOp.and IntKind.u32 mk 15) x) rows.length).length ((selN (bits BinOp.and IntKind.u32 mk 15) rows (underL (bits BinOp.and IntKind.u32 mk 15) x) rows.length).map intN) ∧ Below w.heap.size w w' := by
  refine (callsIn_wide (n := 8)).1 ?_
  refine callsIn_of_wp_marks Try.func7 rfl trivial ?_ rfl
  simp only [Try.ntmps7, List.size_toArray, List.length_cons, List.length_nil, Nat.reduceAdd, Nat.reduceSub, Array.replicate_succ, Array.replicate_zero, List.push_toArray, List.append_toArray, List.nil_append, List.cons_append]
  have hb2 := (((Below.refl w.heap.size w).alloc (Nat.le_refl _) (.cells #[.int .u32 mk] 24)).alloc (by simp) (.cells (rowC x) 27))
  have HB2 := Lib.hid hb2
  have HN2 := Lib.hid (h.keep hb2)
  have B1 := Lib.hid (bxB (Boxed.new w 24 (.int .u32 mk)) (belowA (.cells (rowC x) 27)))
  have R2 : Hid (RowAt ((w.alloc (.cells #[.int .u32 mk] 24)).alloc (.cells (rowC x) 27)) (w.heap.size + 1) x) := by
    have := rowAt_new (w.alloc (.cells #[.int .u32 mk] 24)) x
    simp only [World.size_alloc] at this
    exact this
  have HN := Lib.hid h
  have HX := Lib.hid hx
  clear h hb2 hx
  unfold rowV
  gi_wp2_with fail
  generalize ((w.alloc (.cells #[.int .u32 mk] 24)).alloc (.cells (rowC x) 27)) = W at HB2 HN2 B1 R2 ⊢
  refine wpIn_wide.2 ?_
  have l1 := run_loadMaskS (bxB B1.out (Below.refl _ _).drew).cell
  have c1 := (bxB B1.out (Below.refl _ _).drew).cell
  have f1 := (bxB B1.out (Below.refl _ _).drew).frozen
  have hB0 : Below W.heap.size W W.drew := (Below.refl _ _).drew
  have HA := Lib.hid (arity_yes (HN2.out.keep hB0))
  refine wp_region_noPanic ?_
  go_region_with (go_at_call 9; refine HA.out.mono ?_; rintro ee w2 ⟨rfl, rfl⟩)
  all_goals
    clear HA l1 c1 f1
    refine NoPanic.normal ?_
    rename_i hK
    refine hK _ _ ?_
    have e15 : IntKind.u32.wrap (IntKind.u32.wrap 16 - 1) = 15 := by decide
    rw [e15]
    obtain ⟨m2, hm2⟩ : ∃ m2, m2 = bits BinOp.and IntKind.u32 mk 15 := ⟨_, rfl⟩
    rw [← hm2]
    have HM2 := Lib.hid hm2
    have HB3 := Lib.hid ((HB2.out.setCell (p := ⟨w.heap.size, 0, none⟩) (Nat.le_refl _) (.int .u32 m2)).drew)
    have B3 := Lib.hid (bxB (B1.out.set (.int .u32 m2)) (Below.refl _ _).drew)
    have l1 := run_loadMaskS B3.out.cell
    have l2 := run_loadRow (RowAt.below (R2.out.other (i := 0) (by show w.heap.size + 1 ≠ w.heap.size; omega) (.int .u32 m2)) (Below.refl _ _).drew) HX.out.len
    clear hB0 HB2 HN2 B1 R2 hm2 e15
    generalize (W.setCell ⟨w.heap.size, 0, none⟩ (.int .u32 m2)).drew = W3 at HB3 B3 l1 l2 ⊢
    unfold rowV at l2
    gi_wp2_with fail
    refine ⟨trivial, (callsIn_wide.2 (under_is m2 x HX.out.len W3)).mono ?_⟩
    rintro e w4 ⟨rfl, b4⟩
    have HKO := Lib.hid (underL_ok m2 HX.out)
    obtain ⟨key, hkey⟩ : ∃ key, key = underL m2 x := ⟨_, rfl⟩
    rw [← hkey] at HKO ⊢
    have HKE := Lib.hid hkey
    have HB4 := Lib.hid (HB3.out.trans (b4.mono HB3.out.size))
    have B4 := Lib.hid (bxB B3.out b4)
    have h24 : key.length = 24 := HKO.out.len
    clear l1 l2 HB3 B3 b4 hkey
    unfold rowV
    have hst := store_fresh w4 key h24
    have hA1 := belowA (w := w4) (.cells (rowC key) 27)
    have hA2 := belowA (w := w4.alloc (.cells (rowC key) 27)) (.cells #[.slice none 0 0] 35)
    have HB6 := Lib.hid ((HB4.out.alloc HB4.out.size (.cells (rowC key) 27)).alloc (Nat.le_trans HB4.out.size (by simp)) (.cells #[.slice none 0 0] 35))
    have O6 := Lib.hid (bxN (w := w4.alloc (.cells (rowC key) 27)) (B := w4.heap.size + 1) (by simp) 35 (.slice none 0 0))
    have M6 := Lib.hid (bxB (bxB B4.out hA1) hA2)
    have K6 := Lib.hid ((rowAt_new w4 key).below hA2)
    have HLT := Lib.hid (Boxed.lt B4.out)
    clear hA1 hA2
    gi_wp2_with fail
    clear hst HB4 B4
    generalize (w4.alloc (.cells (rowC key) 27)).alloc (.cells #[.slice none 0 0] 35) = W6 at HB6 O6 M6 K6 ⊢
    refine ⟨trivial, (callsIn_wide.2 (len_yes (HN.out.keep HB6.out))).mono ?_⟩
    rintro e w7 ⟨rfl, rfl⟩
    gi_wp2_with fail
    refine ⟨trivial, (callsIn_wide.2 (range_yes t 0 (rows.length : Int) _)).mono ?_⟩
    rintro e w8 ⟨b0, b1, b2, rfl, k0, k1, k2, hbs, hb2, b8⟩
    have HB8 := Lib.hid (HB6.out.trans (b8.mono HB6.out.size))
    obtain ⟨g, hg, hseq⟩ := range_seq 7 HN.out HB8.out (by omega) k0 k1 k2 hbs
    have HSQ := Lib.hid hseq
    have hob := Boxed.lt O6.out
    have hlt := HLT.out
    have h68 := b8.size
    have HS8 : Hid (Sl w w8 w.heap.size w4.heap.size (w4.heap.size + 1) b2 m2 key (selN m2 rows key 0) w8) :=
      ⟨bxB M6.out b8, K6.out.below b8, ⟨none, 0, bxB O6.out b8, ⟨by simp [selN], .inl ⟨rfl, rfl⟩⟩⟩, HB8.out, rfl, Nat.le_refl _⟩
    have hw8 := HB8.out.size
    have hb28 := hbs.2.2
    clear hseq b8 HB6 O6 M6 K6 k0 k1 k2 HLT
    gi_wp2_with fail
    have hmo : Try.prog.follows .mixedOrders = true := by kernel_rfl
    refine wpIn_rangeTells rfl (by omega) (gf := 26) (lb := #[.pointer (some ⟨b0, 0, none⟩), .pointer (some ⟨b1, 0, none⟩), .pointer (some ⟨b2, 0, none⟩)]) rfl trivial (enters_of Try.func26 (by kernel_rfl) rfl) HSQ.out (fun h k => h.trans k)
      (fun W l o o' hl _ _ _ => ⟨World.putObj_heap_other (by omega), World.putObj_heap_other (by omega)⟩) (Below.refl _ _) (fun _ => rfl)
      (fun k W => Sl w w8 w.heap.size w4.heap.size (w4.heap.size + 1) b2 m2 key (selN m2 rows key k) W) (fun _ _ _ => False)
      (fun k X Y row hs hg hr => hs.kept hw8 hb28 hg hr)
      (fun _ _ _ _ _ hs _ _ => hs) HS8.out
      (fun k a' W => ∃ yb, a' = { tmps := #[.pointer (some ⟨t, 0, none⟩), .int .u32 mk, .agg (List.map cellI x).toArray, undef, .pointer (some ⟨w.heap.size, 0, none⟩), .pointer (some ⟨w.heap.size + 1, 0, none⟩), .slice none 0 0, .pointer (some ⟨w4.heap.size, 0, none⟩), .pointer (some ⟨w4.heap.size + 1, 0, none⟩), .int .i64 (k : Int), .pointer (some ⟨yb, 0, none⟩), .int .u32 mk, .pointer (some ⟨t, 0, none⟩), .int .i64 4, .int .u32 (IntKind.u32.wrap 16), .int .u32 15, .int .u32 m2, .int .u32 m2, .agg (List.map cellI x).toArray, .agg (List.map cellI key).toArray, .pointer (some ⟨t, 0, none⟩), .pointer (some ⟨t, 0, none⟩), .int .i64 (rows.length : Int), .func (.func 26) #[] #[.pointer (some ⟨b0, 0, none⟩), .pointer (some ⟨b1, 0, none⟩), .pointer (some ⟨b2, 0, none⟩)], .int .i64 (k : Int), .agg (List.map cellI (rows.getD k [])).toArray, undef, undef, undef, undef, undef, undef, undef, undef, undef, undef], defers := [] } ∧ RowAt W yb (rows.getD k []))
      (fun k a' _ X Y row hs hg hr => by
        obtain ⟨yb, e, hy⟩ := hs
        refine ⟨yb, e, (hg.block yb (RowAt.lt hy) (fun e' => ?_)).trans hy⟩
        obtain ⟨_, o, ho, hcl⟩ := hr _ e'.symm
        have hy' : X.heap[yb]? = some (.cells (rowC (rows.getD k [])) 27 (0, 0)) := hy
        rw [hy'] at ho
        cases ho
        simp [Obj.isCells] at hcl) ?assign ?body ?done ?stop
    case assign =>
      intro l k W K hk hi hK
      have hro : RowOk (rows.getD k []) := by
        exact HN.out.ok _ (by rw [List.getD, List.getElem?_eq_getElem hk]; exact List.getElem_mem hk)
      have h24y := hro.len
      have hst := store_fresh W _ h24y
      have hA := belowA (w := W) (.cells (rowC (rows.getD k [])) 27)
      have hK' := hK _ _ (KeepsFrom.below hA) ⟨hA.block g (by have := hi.bel.size; omega), hA.block b2 (by have := hi.sz; omega)⟩ (hi.keep hA hb28) ⟨W.heap.size, rfl, rowAt_new W _⟩
      clear hK hi HSQ HS8 hA HB8 hro
      unfold rowsAt rowV
      rw [Nat.zero_add]
      generalize rows.getD k [] = y at h24y hst hK' ⊢
      gi_wp2
      exact hK'
    case body =>
      rintro l k a' W hk hsl ⟨yb, rfl, hy⟩
      have hro : RowOk (rows.getD k []) := by
        exact HN.out.ok _ (by rw [List.getD, List.getElem?_eq_getElem hk]; exact List.getElem_mem hk)
      have HD := Lib.hid (hsl.keep (Below.refl _ _).drew hb28)
      have l1 := run_loadMaskS HD.out.msk.cell
      have l2 := run_loadRow (hy.below (Below.refl _ _).drew) hro.len
      have l3 := run_loadRow HD.out.ky h24
      have HU := Lib.hid (under_is m2 _ hro.len W.drew)
      have hsn := selN_succ m2 rows key k
      have hsl8 := selN_len m2 rows key k
      have HUO := Lib.hid (underL_ok m2 hro)
      generalize rows.getD k [] = y at l2 HU HUO hro hsn ⊢
      have heq := fun u => run_eqRow HUO.out HKO.out u
      have HSW := Lib.hid hsl
      clear hsl hy HSQ HS8 HB8 hro
      unfold rowV at l2 l3 HU heq
      by_cases he : underL m2 y = key
      · have heq' : ∀ u : World, (binOp .eql 27 (.agg (List.map cellI (underL m2 y)).toArray) (.agg (List.map cellI key).toArray)).run Try.prog u = .ok (.bool true) u := fun u => by rw [heq u, decide_eq_true he]
        rw [if_pos he] at hsn
        clear heq he
        gi_wp2_with fail
        gi_region_with_o (refine ⟨trivial, (CallsIn.inRound l (callsIn_wide.2 HU.out)).mono ?_⟩; rintro ee w2 ⟨rfl, bu⟩; have l3' := run_loadRow (HD.out.ky.below bu) h24; have hsl2 := HD.out.keep bu hb28; obtain ⟨a1, c1, a2, c2, w', hbx, hap, hbx', hsl3, hkf⟩ := hsl2.push ⟨by omega, by omega, by omega, hb28⟩ ⟨by omega, by omega, by omega⟩ (by omega) (by omega) k 35; have HFIN := Lib.hid (And.intro hsl3 (And.intro hkf bu)); have q1 := run_loadIntsS hbx.cell; have q2 := hbx'.cell; have q3 := hbx'.frozen; unfold rowV at l3'; clear hsl2 hsl3 hkf bu hbx hbx')
        all_goals
          gi_wp2
          obtain ⟨hsl3, hkf, bu⟩ := HFIN.out
          exact ⟨(KeepsFrom.below (Below.refl _ _).drew).trans ((KeepsFrom.below bu).trans hkf), ⟨(hsl3.bel.block g hg).trans (HSW.out.bel.block g hg).symm, hsl3.box.trans HSW.out.box.symm⟩, by show Sl _ _ _ _ _ _ _ _ (selN m2 rows key (k + 1)) _; rw [hsn]; exact hsl3⟩
      · have heq' : ∀ u : World, (binOp .eql 27 (.agg (List.map cellI (underL m2 y)).toArray) (.agg (List.map cellI key).toArray)).run Try.prog u = .ok (.bool false) u := fun u => by rw [heq u, decide_eq_false he]
        rw [if_neg he] at hsn
        clear heq he
        gi_wp2_with fail
        gi_region_with_o (refine ⟨trivial, (CallsIn.inRound l (callsIn_wide.2 HU.out)).mono ?_⟩; rintro ee w2 ⟨rfl, bu⟩; have l3' := run_loadRow (HD.out.ky.below bu) h24; have hsl2 := HD.out.keep bu hb28; have HFIN := Lib.hid (And.intro hsl2 bu); unfold rowV at l3'; clear hsl2 bu)
        all_goals
          gi_wp2
          obtain ⟨hsl3, bu⟩ := HFIN.out
          exact ⟨(KeepsFrom.below (Below.refl _ _).drew).trans (KeepsFrom.below bu), ⟨(hsl3.bel.block g hg).trans (HSW.out.bel.block g hg).symm, hsl3.box.trans HSW.out.box.symm⟩, by show Sl _ _ _ _ _ _ _ _ (selN m2 rows key (k + 1)) _; rw [hsn]; exact hsl3⟩
    case done =>
      rintro D W hD hsl hKD
      obtain ⟨a9, c9, hbx, hown⟩ := hsl.out
      have l9 := run_loadIntsS hbx.cell
      have HKD := Lib.hid hKD
      have hm := HM2.out
      have hke := HKE.out
      subst hm
      subst hke
      have HF : Hid ((W.putObj D (.deferred none)).ownsRow w.heap.size 3 1 (.slice a9 (selN (bits BinOp.and IntKind.u32 mk 15) rows (underL (bits BinOp.and IntKind.u32 mk 15) x) rows.length).length c9) (selN (bits BinOp.and IntKind.u32 mk 15) rows (underL (bits BinOp.and IntKind.u32 mk 15) x) rows.length).length ((selN (bits BinOp.and IntKind.u32 mk 15) rows (underL (bits BinOp.and IntKind.u32 mk 15) x) rows.length).map intN) ∧ Below w.heap.size w (W.putObj D (.deferred none))) := by
        refine ⟨?_, hsl.bel.trans (belowK_b (w := w) (Nat.le_refl _) _ D _ (.deferred none) (by omega) hKD rfl rfl)⟩
        refine own_of_block (own_low hown hw8) (fun g' hg' => World.putObj_heap_other (fun e => ?_))
        subst e
        obtain ⟨_, ⟨e, h0⟩ | ⟨g'', cap', cur, e, _, hgb', _⟩⟩ := hown
        · rw [e] at hg'; cases hg'
        · rw [e] at hg'
          have hgg : g'' = g' := by simpa [Value.ownBlock] using hg'
          subst hgg
          rw [hKD] at hgb'
          cases hgb'
      clear hsl hbx hown hKD hD HSQ HS8 HB8
      gi_wp2
      exact ⟨by simp, .inl ⟨_, _, rfl, run_takeDeferred HKD.out, _, results_tmp rfl _ _ _, _, _, rfl, HF.out⟩⟩
    case stop =>
      rintro D c k W _ _ h _
      exact h.elim
end Go.Proofs.Ytfkggabdjcabcaa
