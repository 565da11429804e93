import Derived.Test.YtlnhnpfgmiffpaaG9
import Derived.Deep.RegionWith
import Derived.Test.YtlnhnpfgmiffpaaG8
import Derived.Test.YtlnhnpfgmiffpaaG7
import Derived.Deep.QuietTactic
import Derived.BigQuiet
import Derived.Test.YtlnhnpfgmiffpaaG10
section
namespace Go.Proofs.Ytlnhnpfgmiffpaa
open Go.RowKit Go.Maps Go.Shelf
set_option linter.unusedVariables false
set_option linter.unusedSimpArgs false
attribute [local go_sem ↓] Go.wp_at_zero Go.wp_at_succ
attribute [local go_sem] Oper.semAt_some

/-- the numbers of the rows, among the first k, that are the key under the mask -/
def selN (m2 : Int) (rows : List (List Int)) (key : List Int) (k : Nat) : List Nat := (List.range k).filter (fun i => decide (underL m2 (rows.getD i []) = key))
theorem selN_succ (m2 : Int) (rows : List (List Int)) (key : List Int) (k : Nat) : selN m2 rows key (k + 1) = if underL m2 (rows.getD k []) = key then selN m2 rows key k ++ [k] else selN m2 rows key k := by
  unfold selN
  rw [List.range_succ, List.filter_append]
  by_cases h : underL m2 (rows.getD k []) = key
  · rw [if_pos h]
    simp only [List.filter_cons, h, decide_true, if_true, List.filter_nil]
  · rw [if_neg h]
    simp only [List.filter_cons, h, decide_false, List.filter_nil, Bool.false_eq_true, if_false, List.append_nil]
theorem selN_len (m2 : Int) (rows : List (List Int)) (key : List Int) (k : Nat) : (selN m2 rows key k).length ≤ k := by
  have := List.length_filter_le (fun i => decide (underL m2 (rows.getD i []) = key)) (List.range k)
  simpa [selN] using this
theorem underL_ok (m2 : Int) {x : List Int} (h : RowOk x) : RowOk (underL m2 x) := by
  refine ⟨by rw [underL_len, h.len], fun y hy => ?_⟩
  obtain ⟨i, hi⟩ := List.mem_iff_getElem?.1 hy
  unfold underL at hi
  rw [underN_at] at hi
  split at hi
  · cases hx : x[i]? with
    | none => rw [hx] at hi; cases hi
    | some z => rw [hx] at hi; cases hi; rfl
  · exact h.num y (List.mem_of_getElem? hi)
/-- what a range over all rows tells -/
theorem range_seq (n : Nat) {w w8 : World} {B t m : Nat} {sv : Value} {rows : List (List Int)} {ar gone : Int} (h : Rel w B t m sv rows ar gone) (hb : Below w.heap.size w w8) (hlen : rows.length ≤ 1000000000) {b0 b1 b2 : Nat}
    (h0 : w8.cell? ⟨b0, 0, none⟩ = some (.pointer (some ⟨t, 0, none⟩))) (h1 : w8.cell? ⟨b1, 0, none⟩ = some (.int .i64 0)) (h2 : w8.cell? ⟨b2, 0, none⟩ = some (.int .i64 (rows.length : Int))) (hbs : b0 < w8.heap.size ∧ b1 < w8.heap.size ∧ b2 < w8.heap.size) :
    ∃ g, g < w.heap.size ∧ SeqTells Fence.wide n Try.prog 51 #[.pointer (some ⟨b0, 0, none⟩), .pointer (some ⟨b1, 0, none⟩), .pointer (some ⟨b2, 0, none⟩)] (rowsAt rows 0) (Keeps2 g b2) rows.length w8 := by
  have hr := h.keep hb
  rcases h.own.2 with ⟨rfl, hz⟩ | ⟨g, cap, cur, rfl, _, hgb, _⟩
  · have : rows = [] := List.eq_nil_of_length_eq_zero hz
    subst this
    exact ⟨t, World.rowIs.lt h.rl, range_tells0 n hr h0 h1 h2 hbs _ _⟩
  · exact ⟨g, (Array.getElem?_eq_some_iff.1 hgb).1, range_tells n hr hlen 0 (Nat.zero_le _) h0 h1 h2 hbs⟩
theorem own_low {w : World} {B B' : Nat} {e : TypeId} {k : Nat} {v : Value} {n : Nat} {xs : List Value} (h : w.ownsRow B e k v n xs) (hB : B' ≤ B) : w.ownsRow B' e k v n xs := by
  obtain ⟨e1, e2 | ⟨g', cap', cur, e, hbase, rest⟩⟩ := h
  · exact ⟨e1, .inl e2⟩
  · exact ⟨e1, .inr ⟨g', cap', cur, e, by omega, rest⟩⟩
attribute [-go_sem] loadVar Builtin.append_
set_option maxHeartbeats 3200000 in
set_option maxRecDepth 100000 in
theorem selectA (n : Nat) (hn : n ≤ 24) {w : World} {B t m : Nat} {sv : Value} {rows : List (List Int)} {gone : Int} (h : Rel w B t m sv rows (n : Int) gone) (hlen : rows.length ≤ 100000000) (mk : Int) (x : List Int) (hx : RowOk x) :
    Calls Try.prog 25 #[.pointer (some ⟨t, 0, none⟩), .int .u32 mk, rowV x] w fun e w' => ∃ a c, e = .returned (.slice a (selN (bits BinOp.and IntKind.u32 mk (2 ^ n - 1)) rows (underL (bits BinOp.and IntKind.u32 mk (2 ^ n - 1)) x) rows.length).length c) ∧ w'.ownsRow w.heap.size 3 1 (.slice a (selN (bits BinOp.and IntKind.u32 mk (2 ^ n - 1)) rows (underL (bits BinOp.and IntKind.u32 mk (2 ^ n - 1)) x) rows.length).length c) (selN (bits BinOp.and IntKind.u32 mk (2 ^ n - 1)) rows (underL (bits BinOp.and IntKind.u32 mk (2 ^ n - 1)) x) rows.length).length ((selN (bits BinOp.and IntKind.u32 mk (2 ^ n - 1)) rows (underL (bits BinOp.and IntKind.u32 mk (2 ^ n - 1)) x) rows.length).map intN) ∧ Below w.heap.size w w' := by
  refine (callsIn_wide (n := 8)).1 ?_
  refine callsIn_of_wp_marks Try.func25 rfl trivial ?_ rfl
  simp only [Try.ntmps25, List.size_toArray, List.length_cons, List.length_nil, Nat.reduceAdd, Nat.reduceSub, Array.replicate_succ, Array.replicate_zero, List.push_toArray, List.append_toArray, List.nil_append, List.cons_append]
  have hb2 := (((Below.refl w.heap.size w).alloc (Nat.le_refl _) (.cells #[.int .u32 mk] 37)).alloc (by simp) (.cells (rowC x) 40))
  have HB2 := Lib.hid hb2
  have HN2 := Lib.hid (h.keep hb2)
  have B1 := Lib.hid (bxB (Boxed.new w 37 (.int .u32 mk)) (belowA (.cells (rowC x) 40)))
  have R2 : Hid (RowAt ((w.alloc (.cells #[.int .u32 mk] 37)).alloc (.cells (rowC x) 40)) (w.heap.size + 1) x) := by
    have := rowAt_new (w.alloc (.cells #[.int .u32 mk] 37)) x
    simp only [World.size_alloc] at this
    exact this
  have HN := Lib.hid h
  have HX := Lib.hid hx
  clear h hb2 hx
  unfold rowV
  gi_wp2_with fail
  generalize ((w.alloc (.cells #[.int .u32 mk] 37)).alloc (.cells (rowC x) 40)) = W at HB2 HN2 B1 R2 ⊢
  refine wpIn_wide.2 ?_
  have l1 := run_loadMaskS (bxB B1.out (Below.refl _ _).drew).cell
  have c1 := (bxB B1.out (Below.refl _ _).drew).cell
  have f1 := (bxB B1.out (Below.refl _ _).drew).frozen
  have hB0 : Below W.heap.size W W.drew := (Below.refl _ _).drew
  have HA := Lib.hid (arity_yes (HN2.out.keep hB0))
  refine wp_region_noPanic ?_
  go_region_with (go_at_call 36; refine HA.out.mono ?_; rintro ee w2 ⟨rfl, rfl⟩)
  all_goals
    clear HA l1 c1 f1
    refine NoPanic.normal ?_
    rename_i hK
    refine hK _ _ ?_
    have e8 : IntKind.u32.wrap (2 ^ n) = 2 ^ n := by
      have h : ∀ m : Fin 25, IntKind.u32.wrap (2 ^ (m : Nat)) = 2 ^ (m : Nat) := by decide
      exact h ⟨n, by omega⟩
    have e7 : IntKind.u32.wrap (2 ^ n - 1) = 2 ^ n - 1 := by
      have h : ∀ m : Fin 25, IntKind.u32.wrap (2 ^ (m : Nat) - 1) = 2 ^ (m : Nat) - 1 := by decide
      exact h ⟨n, by omega⟩
    rw [e8, e7]
    obtain ⟨m2, hm2⟩ : ∃ m2, m2 = bits BinOp.and IntKind.u32 mk (2 ^ n - 1) := ⟨_, rfl⟩
    rw [← hm2]
    have HM2 := Lib.hid hm2
    have HB3 := Lib.hid ((HB2.out.setCell (p := ⟨w.heap.size, 0, none⟩) (Nat.le_refl _) (.int .u32 m2)).drew)
    have B3 := Lib.hid (bxB (B1.out.set (.int .u32 m2)) (Below.refl _ _).drew)
    have l1 := run_loadMaskS B3.out.cell
    have l2 := run_loadRow (RowAt.below (R2.out.other (i := 0) (by show w.heap.size + 1 ≠ w.heap.size; omega) (.int .u32 m2)) (Below.refl _ _).drew) HX.out.len
    clear hB0 HB2 HN2 B1 R2 hm2 e7 e8
    generalize (W.setCell ⟨w.heap.size, 0, none⟩ (.int .u32 m2)).drew = W3 at HB3 B3 l1 l2 ⊢
    unfold rowV at l2
    gi_wp2_with fail
    refine ⟨trivial, (callsIn_wide.2 (under_is m2 x HX.out.len W3)).mono ?_⟩
    rintro e w4 ⟨rfl, b4⟩
    have HKO := Lib.hid (underL_ok m2 HX.out)
    obtain ⟨key, hkey⟩ : ∃ key, key = underL m2 x := ⟨_, rfl⟩
    rw [← hkey] at HKO ⊢
    have HKE := Lib.hid hkey
    have HB4 := Lib.hid (HB3.out.trans (b4.mono HB3.out.size))
    have B4 := Lib.hid (bxB B3.out b4)
    have h24 : key.length = 24 := HKO.out.len
    clear l1 l2 HB3 B3 b4 hkey
    unfold rowV
    have hst := store_fresh w4 key h24
    have hA1 := belowA (w := w4) (.cells (rowC key) 40)
    have hA2 := belowA (w := w4.alloc (.cells (rowC key) 40)) (.cells #[.slice none 0 0] 65)
    have HB6 := Lib.hid ((HB4.out.alloc HB4.out.size (.cells (rowC key) 40)).alloc (Nat.le_trans HB4.out.size (by simp)) (.cells #[.slice none 0 0] 65))
    have O6 := Lib.hid (bxN (w := w4.alloc (.cells (rowC key) 40)) (B := w4.heap.size + 1) (by simp) 65 (.slice none 0 0))
    have M6 := Lib.hid (bxB (bxB B4.out hA1) hA2)
    have K6 := Lib.hid ((rowAt_new w4 key).below hA2)
    have HLT := Lib.hid (Boxed.lt B4.out)
    clear hA1 hA2
    gi_wp2_with fail
    clear hst HB4 B4
    generalize (w4.alloc (.cells (rowC key) 40)).alloc (.cells #[.slice none 0 0] 65) = W6 at HB6 O6 M6 K6 ⊢
    refine ⟨trivial, (callsIn_wide.2 (len_yes (HN.out.keep HB6.out))).mono ?_⟩
    rintro e w7 ⟨rfl, rfl⟩
    gi_wp2_with fail
    refine ⟨trivial, (callsIn_wide.2 (range_yes t 0 (rows.length : Int) _)).mono ?_⟩
    rintro e w8 ⟨b0, b1, b2, rfl, k0, k1, k2, hbs, hb2, b8⟩
    have HB8 := Lib.hid (HB6.out.trans (b8.mono HB6.out.size))
    obtain ⟨g, hg, hseq⟩ := range_seq 7 HN.out HB8.out (by omega) k0 k1 k2 hbs
    have HSQ := Lib.hid hseq
    have hob := Boxed.lt O6.out
    have hlt := HLT.out
    have h68 := b8.size
    have HS8 : Hid (Sl w w8 w.heap.size w4.heap.size (w4.heap.size + 1) b2 m2 key (selN m2 rows key 0) w8) :=
      ⟨bxB M6.out b8, K6.out.below b8, ⟨none, 0, bxB O6.out b8, ⟨by simp [selN], .inl ⟨rfl, rfl⟩⟩⟩, HB8.out, rfl, Nat.le_refl _⟩
    have hw8 := HB8.out.size
    have hb28 := hbs.2.2
    clear hseq b8 HB6 O6 M6 K6 k0 k1 k2 HLT
    gi_wp2_with fail
    have hmo : Try.prog.follows .mixedOrders = true := by kernel_rfl
    refine wpIn_rangeTells rfl (by omega) (gf := 51) (lb := #[.pointer (some ⟨b0, 0, none⟩), .pointer (some ⟨b1, 0, none⟩), .pointer (some ⟨b2, 0, none⟩)]) rfl trivial (enters_of Try.func51 (by kernel_rfl) rfl) HSQ.out (fun h k => h.trans k)
      (fun W l o o' hl _ _ _ => ⟨World.putObj_heap_other (by omega), World.putObj_heap_other (by omega)⟩) (Below.refl _ _) (fun _ => rfl)
      (fun k W => Sl w w8 w.heap.size w4.heap.size (w4.heap.size + 1) b2 m2 key (selN m2 rows key k) W) (fun _ _ _ => False)
      (fun k X Y row hs hg hr => hs.kept hw8 hb28 hg hr)
      (fun _ _ _ _ _ hs _ _ => hs) HS8.out
      (fun k a' W => ∃ yb, a' = { tmps := #[.pointer (some ⟨t, 0, none⟩), .int .u32 mk, .agg (List.map cellI x).toArray, undef, .pointer (some ⟨w.heap.size, 0, none⟩), .pointer (some ⟨w.heap.size + 1, 0, none⟩), .slice none 0 0, .pointer (some ⟨w4.heap.size, 0, none⟩), .pointer (some ⟨w4.heap.size + 1, 0, none⟩), .int .i64 (k : Int), .pointer (some ⟨yb, 0, none⟩), .int .u32 mk, .pointer (some ⟨t, 0, none⟩), .int .i64 (n : Int), .int .u32 (2 ^ n), .int .u32 (2 ^ n - 1), .int .u32 m2, .int .u32 m2, .agg (List.map cellI x).toArray, .agg (List.map cellI key).toArray, .pointer (some ⟨t, 0, none⟩), .pointer (some ⟨t, 0, none⟩), .int .i64 (rows.length : Int), .func (.func 51) #[] #[.pointer (some ⟨b0, 0, none⟩), .pointer (some ⟨b1, 0, none⟩), .pointer (some ⟨b2, 0, none⟩)], .int .i64 (k : Int), .agg (List.map cellI (rows.getD k [])).toArray, undef, undef, undef, undef, undef, undef, undef, undef, undef, undef], defers := [] } ∧ RowAt W yb (rows.getD k []))
      (fun k a' _ X Y row hs hg hr => by
        obtain ⟨yb, e, hy⟩ := hs
        refine ⟨yb, e, (hg.block yb (RowAt.lt hy) (fun e' => ?_)).trans hy⟩
        obtain ⟨_, o, ho, hcl⟩ := hr _ e'.symm
        have hy' : X.heap[yb]? = some (.cells (rowC (rows.getD k [])) 40 (0, 0)) := hy
        rw [hy'] at ho
        cases ho
        simp [Obj.isCells] at hcl) ?assign ?body ?done ?stop
    case assign =>
      intro l k W K hk hi hK
      have hro : RowOk (rows.getD k []) := by
        exact HN.out.ok _ (by rw [List.getD, List.getElem?_eq_getElem hk]; exact List.getElem_mem hk)
      have h24y := hro.len
      have hst := store_fresh W _ h24y
      have hA := belowA (w := W) (.cells (rowC (rows.getD k [])) 40)
      have hK' := hK _ _ (KeepsFrom.below hA) ⟨hA.block g (by have := hi.bel.size; omega), hA.block b2 (by have := hi.sz; omega)⟩ (hi.keep hA hb28) ⟨W.heap.size, rfl, rowAt_new W _⟩
      clear hK hi HSQ HS8 hA HB8 hro
      unfold rowsAt rowV
      rw [Nat.zero_add]
      generalize rows.getD k [] = y at h24y hst hK' ⊢
      gi_wp2
      exact hK'
    case body =>
      rintro l k a' W hk hsl ⟨yb, rfl, hy⟩
      have hro : RowOk (rows.getD k []) := by
        exact HN.out.ok _ (by rw [List.getD, List.getElem?_eq_getElem hk]; exact List.getElem_mem hk)
      have HD := Lib.hid (hsl.keep (Below.refl _ _).drew hb28)
      have l1 := run_loadMaskS HD.out.msk.cell
      have l2 := run_loadRow (hy.below (Below.refl _ _).drew) hro.len
      have l3 := run_loadRow HD.out.ky h24
      have HU := Lib.hid (under_is m2 _ hro.len W.drew)
      have hsn := selN_succ m2 rows key k
      have hsl8 := selN_len m2 rows key k
      have HUO := Lib.hid (underL_ok m2 hro)
      generalize rows.getD k [] = y at l2 HU HUO hro hsn ⊢
      have heq := fun u => run_eqRow HUO.out HKO.out u
      have HSW := Lib.hid hsl
      clear hsl hy HSQ HS8 HB8 hro
      unfold rowV at l2 l3 HU heq
      by_cases he : underL m2 y = key
      · have heq' : ∀ u : World, (binOp .eql 40 (.agg (List.map cellI (underL m2 y)).toArray) (.agg (List.map cellI key).toArray)).run Try.prog u = .ok (.bool true) u := fun u => by rw [heq u, decide_eq_true he]
        rw [if_pos he] at hsn
        clear heq he
        gi_wp2_with fail
        gi_region_with_o (refine ⟨trivial, (CallsIn.inRound l (callsIn_wide.2 HU.out)).mono ?_⟩; rintro ee w2 ⟨rfl, bu⟩; have l3' := run_loadRow (HD.out.ky.below bu) h24; have hsl2 := HD.out.keep bu hb28; obtain ⟨a1, c1, a2, c2, w', hbx, hap, hbx', hsl3, hkf⟩ := hsl2.push ⟨by omega, by omega, by omega, hb28⟩ ⟨by omega, by omega, by omega⟩ (by omega) (by omega) k 65; have HFIN := Lib.hid (And.intro hsl3 (And.intro hkf bu)); have q1 := run_loadIntsS hbx.cell; have q2 := hbx'.cell; have q3 := hbx'.frozen; unfold rowV at l3'; clear hsl2 hsl3 hkf bu hbx hbx')
        all_goals
          gi_wp2
          obtain ⟨hsl3, hkf, bu⟩ := HFIN.out
          exact ⟨(KeepsFrom.below (Below.refl _ _).drew).trans ((KeepsFrom.below bu).trans hkf), ⟨(hsl3.bel.block g hg).trans (HSW.out.bel.block g hg).symm, hsl3.box.trans HSW.out.box.symm⟩, by show Sl _ _ _ _ _ _ _ _ (selN m2 rows key (k + 1)) _; rw [hsn]; exact hsl3⟩
      · have heq' : ∀ u : World, (binOp .eql 40 (.agg (List.map cellI (underL m2 y)).toArray) (.agg (List.map cellI key).toArray)).run Try.prog u = .ok (.bool false) u := fun u => by rw [heq u, decide_eq_false he]
        rw [if_neg he] at hsn
        clear heq he
        gi_wp2_with fail
        gi_region_with_o (refine ⟨trivial, (CallsIn.inRound l (callsIn_wide.2 HU.out)).mono ?_⟩; rintro ee w2 ⟨rfl, bu⟩; have l3' := run_loadRow (HD.out.ky.below bu) h24; have hsl2 := HD.out.keep bu hb28; have HFIN := Lib.hid (And.intro hsl2 bu); unfold rowV at l3'; clear hsl2 bu)
        all_goals
          gi_wp2
          obtain ⟨hsl3, bu⟩ := HFIN.out
          exact ⟨(KeepsFrom.below (Below.refl _ _).drew).trans (KeepsFrom.below bu), ⟨(hsl3.bel.block g hg).trans (HSW.out.bel.block g hg).symm, hsl3.box.trans HSW.out.box.symm⟩, by show Sl _ _ _ _ _ _ _ _ (selN m2 rows key (k + 1)) _; rw [hsn]; exact hsl3⟩
    case done =>
      rintro D W hD hsl hKD
      obtain ⟨a9, c9, hbx, hown⟩ := hsl.out
      have l9 := run_loadIntsS hbx.cell
      have HKD := Lib.hid hKD
      have hm := HM2.out
      have hke := HKE.out
      subst hm
      subst hke
      have HF : Hid ((W.putObj D (.deferred none)).ownsRow w.heap.size 3 1 (.slice a9 (selN (bits BinOp.and IntKind.u32 mk (2 ^ n - 1)) rows (underL (bits BinOp.and IntKind.u32 mk (2 ^ n - 1)) x) rows.length).length c9) (selN (bits BinOp.and IntKind.u32 mk (2 ^ n - 1)) rows (underL (bits BinOp.and IntKind.u32 mk (2 ^ n - 1)) x) rows.length).length ((selN (bits BinOp.and IntKind.u32 mk (2 ^ n - 1)) rows (underL (bits BinOp.and IntKind.u32 mk (2 ^ n - 1)) x) rows.length).map intN) ∧ Below w.heap.size w (W.putObj D (.deferred none))) := by
        refine ⟨?_, hsl.bel.trans (belowK_b (w := w) (Nat.le_refl _) _ D _ (.deferred none) (by omega) hKD rfl rfl)⟩
        refine own_of_block (own_low hown hw8) (fun g' hg' => World.putObj_heap_other (fun e => ?_))
        subst e
        obtain ⟨_, ⟨e, h0⟩ | ⟨g'', cap', cur, e, _, hgb', _⟩⟩ := hown
        · rw [e] at hg'; cases hg'
        · rw [e] at hg'
          have hgg : g'' = g' := by simpa [Value.ownBlock] using hg'
          subst hgg
          rw [hKD] at hgb'
          cases hgb'
      clear hsl hbx hown hKD hD HSQ HS8 HB8
      gi_wp2
      exact ⟨by simp, .inl ⟨_, _, rfl, run_takeDeferred HKD.out, _, results_tmp rfl _ _ _, _, _, rfl, HF.out⟩⟩
    case stop =>
      rintro D c k W _ _ h _
      exact h.elim
end Go.Proofs.Ytlnhnpfgmiffpaa
end
section
namespace Go.Proofs.Ytlnhnpfgmiffpaa
open Go.RowKit Go.Maps
set_option linter.unusedVariables false
set_option linter.unusedSimpArgs false
attribute [local go_sem ↓] Go.wp_at_zero Go.wp_at_succ

theorem run_loadTurn {w : World} {g off : Nat} {r : List Int} (hr : r.length = 24) (h : w.rangeAt g off (r.map cellI)) : (loadVar 40 ⟨g, off, none⟩).run Try.prog w = .ok (rowV r) w :=
  run_loadVar_mid w g off 40 (r.map cellI) _ (fun j v hj => h j v hj) Try.underlying40 rfl (by rw [List.length_map, hr]; exact infoRow)
theorem run_neqRowK {x y : List Int} (hx : RowOk x) (hy : RowOk y) (w : World) : (binOp .neq 40 (rowV x) (rowV y)).run Try.prog w = .ok (.bool (decide (x ≠ y))) w := by
  have h := run_eqRow hx hy w
  unfold rowV at h ⊢
  simp [binOp, run_underlying Try.underlying40, Result.andThen] at h ⊢
  revert h
  generalize (Op.equal _ _ _).run Try.prog w = R
  intro h
  cases R with
  | ok b u => simp at h ⊢; obtain ⟨rfl, rfl⟩ := h; simp
  | _ => simp at h
set_option maxRecDepth 100000 in
theorem geR (x y : Operand) (A B : Array Value) (u : World) : (eqGuard .neq 40 x y (.agg A) (.agg B)).run Try.prog u = .ok () u := by
  have h : Try.prog.eqGuardType Try.prog.depth 40 = false := by kernel_rfl
  unfold eqGuard
  simp [h, (show Sem.run Try.prog program u = .ok Try.prog u from rfl), Result.andThen]
set_option maxHeartbeats 3200000 in
theorem sameInts_same (v v' : Value) (l : List Nat) (w : World) (hm : l.length ≤ 1000000000) (h1 : BK.Ls w v l.length (l.map intN)) (h2 : BK.Ls w v' l.length (l.map intN)) :
    Calls Try.prog 24 #[v, v'] w fun r w' => r = .returned (.bool true) ∧ Below w.heap.size w w' := by
  obtain ⟨_, a, c, rfl, _, _, hk⟩ := h1
  obtain ⟨_, a', c', rfl, _, _, hk'⟩ := h2
  have HK := Lib.hid hk
  have HK' := Lib.hid hk'
  clear hk hk'
  go_enter Try.func24, Try.ntmps24
  go_wp2
  go_loopw [5] (fun i wr => ∃ k : Nat, k ≤ l.length ∧ i = .int .i64 k ∧ Below w.heap.size w wr) (fun i _ => l.length - (intOf i).toNat)
  case atStart => exact ⟨0, Nat.zero_le _, rfl, Below.refl _ _⟩
  case round =>
    obtain ⟨k, hk, rfl, bel⟩ := hrel
    by_cases hlt : k < l.length
    · have hlt' : (k : Int) < (l.length : Int) := by omega
      have hk0 : (0 : Int) ≤ (k : Int) := by omega
      obtain ⟨g, off, rfl, hg, hf⟩ := HK.out (by omega)
      obtain ⟨g', off', rfl, hg', hf'⟩ := HK'.out (by omega)
      have y0 : wr.cell? ⟨g, off + k, none⟩ = some (.int .i64 (l[k] : Int)) := by
        rw [bel.cell (p := ⟨g, off + k, none⟩) hg, hf k (by rw [List.length_map]; exact hlt), List.getElem_map]; rfl
      have z0 : wr.cell? ⟨g', off' + k, none⟩ = some (.int .i64 (l[k] : Int)) := by
        rw [bel.cell (p := ⟨g', off' + k, none⟩) hg', hf' k (by rw [List.length_map]; exact hlt), List.getElem_map]; rfl
      generalize (l[k] : Int) = q at y0 z0
      clear hf hf'
      go_wp2_with fail
      go_quiet (fail)
      go_wp2
      go_roundw
      case rel => exact ⟨k + 1, by omega, by go_num, BK.below_drewV bel _⟩
      case measure => simp [intOf]; omega
    · obtain rfl : k = l.length := by omega
      go_wp2
      go_ret
      exact ⟨rfl, bel⟩
attribute [-go_sem] loadVar
theorem flat_rows_at {w : World} {g off : Nat} {rs : List (List Int)} (hr : ∀ r ∈ rs, RowOk r) (hf : BK.Flat w g off (flatR rs)) {k : Nat} (hk : k < rs.length) : w.rangeAt g (off + k * 24) ((rs[k]).map cellI) := fun j v hv => by
  have hj : j < 24 := by
    have := (List.getElem?_eq_some_iff.1 hv).1
    rw [List.length_map, (hr _ (List.getElem_mem hk)).len] at this
    exact this
  have h1 := flat_row rs (fun r h => (hr r h).len) k j rs[k] (List.getElem?_eq_getElem hk) hj
  rw [hv] at h1
  obtain ⟨h2, h3⟩ := List.getElem?_eq_some_iff.1 h1
  have := hf _ h2
  rw [h3, ← Nat.add_assoc] at this
  exact this
set_option maxHeartbeats 3200000 in
theorem sameRows_same (v v' : Value) (rs : List (List Int)) (w : World) (hm : rs.length ≤ 1000000000) (hr : ∀ r ∈ rs, RowOk r) (h1 : BK.Ls w v rs.length (flatR rs)) (h2 : BK.Ls w v' rs.length (flatR rs)) :
    Calls Try.prog 33 #[v, v'] w fun r w' => r = .returned (.bool true) ∧ Below w.heap.size w w' := by
  obtain ⟨_, a, c, rfl, _, _, hk⟩ := h1
  obtain ⟨_, a', c', rfl, _, _, hk'⟩ := h2
  have HK := Lib.hid hk
  have HK' := Lib.hid hk'
  have HRO := Lib.hid hr
  clear hk hk' hr
  go_enter Try.func33, Try.ntmps33
  go_wp2
  go_loopw [5] (fun i wr => ∃ k : Nat, k ≤ rs.length ∧ i = .int .i64 k ∧ Below w.heap.size w wr) (fun i _ => rs.length - (intOf i).toNat)
  case atStart => exact ⟨0, Nat.zero_le _, rfl, Below.refl _ _⟩
  case round =>
    obtain ⟨k, hk, rfl, bel⟩ := hrel
    by_cases hlt : k < rs.length
    · have hlt' : (k : Int) < (rs.length : Int) := by omega
      have hk0 : (0 : Int) ≤ (k : Int) := by omega
      obtain ⟨g, off, rfl, hg, hf⟩ := HK.out (by omega)
      obtain ⟨g', off', rfl, hg', hf'⟩ := HK'.out (by omega)
      have hro := HRO.out _ (List.getElem_mem hlt)
      have l1 := fun n => run_loadTurn hro.len (BK.range_below (flat_rows_at HRO.out hf hlt) (BK.below_drewV bel n) hg)
      have l2 := fun n => run_loadTurn hro.len (BK.range_below (flat_rows_at HRO.out hf' hlt) (BK.below_drewV bel n) hg')
      have hq : ∀ u : World, (binOp .neq 40 (rowV rs[k]) (rowV rs[k])).run Try.prog u = .ok (.bool false) u := fun u => by
        have := run_neqRowK hro hro u
        simpa using this
      unfold rowV at l1 l2 hq
      have hge := fun x y u => geR x y (List.map cellI rs[k]).toArray (List.map cellI rs[k]).toArray u
      generalize rs[k] = rk at l1 l2 hq hge
      clear hf hf' hro
      go_wp2_with fail
      go_quiet (fail)
      go_wp2
      go_roundw
      case rel => exact ⟨k + 1, by omega, by go_num, BK.below_drewV bel _⟩
      case measure => simp [intOf]; omega
    · obtain rfl : k = rs.length := by omega
      go_wp2
      go_ret
      exact ⟨rfl, bel⟩
end Go.Proofs.Ytlnhnpfgmiffpaa
end
section
namespace Go.Proofs.Ytlnhnpfgmiffpaa
open Go.RowKit Go.Maps Go.Shelf
set_option linter.unusedVariables false
set_option linter.unusedSimpArgs false
attribute [local go_sem ↓] Go.wp_at_zero Go.wp_at_succ
attribute [local go_sem] Oper.semAt_some

/-- a range over rows from lo on in which the loop's frame is what it was but for these slots; it may be left early -/
theorem wpIn_rangeRowsX {P : Program} {g : Operand} {ps : Array Tmp} {assign body : Code} {Q : Exit → Act → World → Prop} {a : Act} {w : World}
    {gf : Nat} {lb : Array Value} (hg : a.eval g = .func (.func gf) #[] lb) (eg : ∀ args w, (callFunc gf args).run P w = .ok (.enter gf args) w)
    {rows : List (List Int)} {lo N : Nat} {Kp : World → World → Prop} {w0 : World} (hseq : SeqTells Fence.wide 7 P gf lb (rowsAt rows lo) Kp N w0)
    (hKt : ∀ {A B C : World}, Kp A B → Kp B C → Kp A C) (hKb : ∀ (W : World) (l : Nat) (o o' : Obj), w.heap.size ≤ l → W.heap[l]? = some o → o.isCells = false → o.isWalk = false → Kp W (W.putObj l o')) (hb0 : Below w0.heap.size w0 w) (hps : ps.size = 2)
    (I : Nat → World → Prop) (Ix : Code → Nat → World → Prop) (hI : OwnFrom w.heap.size I) (hIx : ∀ c, OwnFrom w.heap.size (Ix c)) (h0 : I 0 w) (fT : Array Value → Nat → Nat → Array Value)
    (hassign : ∀ (l k : Nat) (W : World) (K : Act → World → Prop), k < N → I k W → (∀ a' W', KeepsFrom w.heap.size W W' → Kp W W' → I k W' → (∃ yb, a' = { tmps := fT a.tmps k yb, defers := [] } ∧ RowAt W' yb (rows.getD (lo + k) []) ∧ w.heap.size ≤ yb) → K a' W') →
      assign.wpIn (Fence.wide.inRound l) 6 P (Exit.then K (fun _ _ _ => False)) { tmps := (ps.zip (rowsAt rows lo k)).foldl (fun t (p, v) => t.setIfInBounds p v) a.tmps, defers := [] } W)
    (hbody : ∀ (l k yb : Nat) (W : World), k < N → I k W → RowAt W yb (rows.getD (lo + k) []) → w.heap.size ≤ yb → body.wpIn (Fence.wide.inRound l) 6 P (tellPost w.heap.size Kp I Ix (k + 1) W) { tmps := fT a.tmps k yb, defers := [] } W)
    (hdone : ∀ (D : Nat) (W : World), w.heap.size ≤ D → I N W → W.heap[D]? = some (.deferred (some [])) → Q .normal { a with defers := { target := .collected D, args := #[] } :: a.defers } W)
    (hstop : ∀ (D : Nat) (c : Code) (k : Nat) (W : World), w.heap.size ≤ D → k ≤ N → Ix c k W → W.heap[D]? = some (.deferred (some [])) → c.wpIn Fence.wide 8 P Q { a with defers := { target := .collected D, args := #[] } :: a.defers } W) :
    (Code.rangeFunc g ps assign body).wpIn Fence.wide 8 P Q a w :=
  wpIn_rangeTells rfl (by omega) hg trivial eg hseq hKt hKb hb0 (fun _ => hps.symm) I Ix hI hIx h0
    (fun k a' W => ∃ yb, a' = { tmps := fT a.tmps k yb, defers := [] } ∧ RowAt W yb (rows.getD (lo + k) []) ∧ w.heap.size ≤ yb)
    (fun k a' _ X Y row hs hg hr => by
      obtain ⟨yb, e, hy, hyl⟩ := hs
      refine ⟨yb, e, (hg.block yb (RowAt.lt hy) (fun e' => ?_)).trans hy, hyl⟩
      obtain ⟨_, o, ho, hcl⟩ := hr _ e'.symm
      have hy' : X.heap[yb]? = some (.cells (rowC (rows.getD (lo + k) [])) 40 (0, 0)) := hy
      rw [hy'] at ho
      cases ho
      simp [Obj.isCells] at hcl) hassign
    (fun l k a' W hk hi hax => by
      obtain ⟨yb, rfl, hy, hyl⟩ := hax
      exact hbody l k yb W hk hi hy hyl) hdone hstop
theorem run_loadNumsP {w : World} {a : Addr} {v : Value} (h : w.cell? a = some v) : (loadVar 69 a).run Try.prog w = .ok v w := by
  simp [loadVar, go_sem, h]
theorem run_loadBoolP {w : World} {a : Addr} {v : Value} (h : w.cell? a = some v) : (loadVar 4 a).run Try.prog w = .ok v w := by
  simp [loadVar, go_sem, h]
theorem fn_there (f : Nat) (lb : Array Value) (w : World) : (binOp .eql 27 (.func (.func f) #[] lb) .nilFunc).run Try.prog w = .ok (.bool false) w := by kernel_rfl
theorem fn_thereN (f : Nat) (lb : Array Value) (w : World) : (binOp .neq 27 (.func (.func f) #[] lb) .nilFunc).run Try.prog w = .ok (.bool true) w := by kernel_rfl
theorem fn_gone (w : World) : (binOp .eql 27 .nilFunc .nilFunc).run Try.prog w = .ok (.bool true) w := by kernel_rfl
/-- a list of numbered rows that lies somewhere: what stands at the k-th place -/
theorem flatN_at : ∀ (l : List (Nat × List Int)), (∀ x ∈ l, x.2.length = 24) → ∀ (k j : Nat) (x : Nat × List Int), l[k]? = some x → j < 25 → (flatN l)[k * 25 + j]? = (nbC x)[j]?
  | [], _, k, j, x, h, _ => by simp at h
  | y :: l, hok, 0, j, x, h, hj => by
    simp only [List.getElem?_cons_zero, Option.some.injEq] at h
    subst h
    have hl : (nbC y).length = 25 := by simp [nbC, hok y (by simp)]
    simp only [flatN, List.flatMap_cons, Nat.zero_mul, Nat.zero_add]
    rw [List.getElem?_append_left (by omega)]
  | y :: l, hok, k + 1, j, x, h, hj => by
    simp only [List.getElem?_cons_succ] at h
    have hl : (nbC y).length = 25 := by simp [nbC, hok y (by simp)]
    have ih := flatN_at l (fun z hz => hok z (List.mem_cons_of_mem _ hz)) k j x h hj
    simp only [flatN, List.flatMap_cons] at ih ⊢
    rw [List.getElem?_append_right (by omega), hl, show (k + 1) * 25 + j - 25 = k * 25 + j by omega]
    exact ih
/-- the wanted list: in a block of its own -/
def Wl (w : World) (a : Option Addr) (L : List (Nat × List Int)) : Prop := 0 < L.length → ∃ g, a = some ⟨g, 0, none⟩ ∧ g < w.heap.size ∧ ∀ j, j < L.length * 25 → w.cell? ⟨g, j, none⟩ = (flatN L)[j]?
theorem Wl.keep {w w' : World} {a : Option Addr} {L : List (Nat × List Int)} (h : Wl w a L) (b : Below w.heap.size w w') : Wl w' a L := fun hp => by
  obtain ⟨g, e, hg, hc⟩ := h hp
  exact ⟨g, e, Nat.lt_of_lt_of_le hg b.size, fun j hj => (b.cell (p := ⟨g, j, none⟩) hg).trans (hc j hj)⟩
theorem wl_of_own {w : World} {B c : Nat} {a : Option Addr} {L : List (Nat × List Int)} (h : w.ownsRow B 79 25 (.slice a L.length c) L.length (flatN L)) : Wl w a L := fun hp => by
  rcases h.2 with ⟨e, hz⟩ | ⟨g, cap, cur, e, _⟩
  · omega
  · cases e
    exact ⟨g, rfl, (h.lt g rfl).2, fun j hj => h.cellAt j (by omega)⟩
theorem Wl.num {w : World} {g : Nat} {L : List (Nat × List Int)} (hc : ∀ j, j < L.length * 25 → w.cell? ⟨g, j, none⟩ = (flatN L)[j]?) (ok : ∀ x ∈ L, x.2.length = 24) {k : Nat} {x : Nat × List Int} (hx : L[k]? = some x) : w.cell? ⟨g, k * 25, none⟩ = some (.int .i64 (x.1 : Int)) := by
  have hk := (List.getElem?_eq_some_iff.1 hx).1
  have := flatN_at L ok k 0 x hx (by omega)
  rw [hc (k * 25) (by omega)]
  simpa [nbC] using this
theorem Wl.row {w : World} {g : Nat} {L : List (Nat × List Int)} (hc : ∀ j, j < L.length * 25 → w.cell? ⟨g, j, none⟩ = (flatN L)[j]?) (ok : ∀ x ∈ L, x.2.length = 24) {k : Nat} {x : Nat × List Int} (hx : L[k]? = some x) : (loadVar 40 ⟨g, k * 25 + 1, none⟩).run Try.prog w = .ok (rowV x.2) w := by
  have hk := (List.getElem?_eq_some_iff.1 hx).1
  have hr := ok x (List.mem_of_getElem? hx)
  refine run_loadVar_mid w g (k * 25 + 1) 40 (x.2.map cellI) _ (fun j v hj => ?_) Try.underlying40 rfl (by rw [List.length_map, hr]; exact infoRow)
  have hj24 : j < 24 := by
    have := (List.getElem?_eq_some_iff.1 hj).1
    rw [List.length_map, hr] at this
    exact this
  have hx2 := flatN_at L ok k (1 + j) x hx (by omega)
  show w.cell? ⟨g, k * 25 + 1 + j, none⟩ = some v
  rw [show k * 25 + 1 + j = k * 25 + (1 + j) by omega, hc _ (by omega), hx2]
  rw [Nat.add_comm 1 j]
  simpa [nbC] using hj
/-- amid tells: the boxes of the list, of n, of the answer and of k -/
structure Tl (w : World) (B : Nat) (a : Option Addr) (c n : Nat) (x : Int) (k : Nat) (W : World) : Prop where
  bw : Boxed W w.heap.size 69 (.slice a n c)
  bn : Boxed W (w.heap.size + 1) 3 (.int .i64 x)
  br : Boxed W (w.heap.size + 1 + 1) 4 (.bool false)
  bk : Boxed W (w.heap.size + 1 + 1 + 1) 3 (.int .i64 (k : Int))
  bel : Below w.heap.size w W
  sz : B ≤ W.heap.size
theorem Tl.keep {w W W' : World} {a : Option Addr} {B c n k : Nat} {x : Int} (h : Tl w B a c n x k W) (b : Below W.heap.size W W') : Tl w B a c n x k W' := ⟨bxB h.bw b, bxB h.bn b, bxB h.br b, bxB h.bk b, h.bel.trans (b.mono h.bel.size), Nat.le_trans h.sz b.size⟩
theorem Tl.kept {w W W' : World} {a : Option Addr} {c n k B B0 : Nat} {x : Int} {row : Option Nat} (h : Tl w B a c n x k W) (hw : w.heap.size ≤ B0) (hg : W.grownBy W' row) (hr : ∀ r, row = some r → B0 ≤ r ∧ ∃ o : Obj, W.heap[r]? = some o ∧ o.isCells = false) : Tl w B a c n x k W' := by
  have hne : ∀ {g : Nat} {t : TypeId} {v : Value}, Boxed W g t v → some g ≠ row := fun hc e => by
    obtain ⟨_, o, ho, hcl⟩ := hr _ e.symm
    rw [show W.heap[_]? = _ from hc] at ho
    cases ho
    simp [Obj.isCells] at hcl
  exact ⟨h.bw.kept hg (hne h.bw), h.bn.kept hg (hne h.bn), h.br.kept hg (hne h.br), h.bk.kept hg (hne h.bk), h.bel.grown hg h.bel.size (fun k e => Nat.le_trans hw (hr k e).1), Nat.le_trans h.sz hg.size⟩
theorem Tl.next {w W : World} {a : Option Addr} {B c n k : Nat} {x : Int} (h : Tl w B a c n x k W) : Tl w B a c n x (k + 1) (W.setCell ⟨w.heap.size + 1 + 1 + 1, 0, none⟩ (.int .i64 ((k : Int) + 1))) := by
  have e : ∀ g, g ≠ w.heap.size + 1 + 1 + 1 → (W.setCell ⟨w.heap.size + 1 + 1 + 1, 0, none⟩ (.int .i64 ((k : Int) + 1))).heap[g]? = W.heap[g]? := fun g hg => heap_setCell_other _ _ _ _ (by exact hg)
  exact ⟨(e _ (by omega)).trans h.bw, (e _ (by omega)).trans h.bn, (e _ (by omega)).trans h.br, by rw [Int.natCast_add]; exact h.bk.set _, h.bel.setCell (p := ⟨w.heap.size + 1 + 1 + 1, 0, none⟩) (by show w.heap.size ≤ w.heap.size + 1 + 1 + 1; omega) _, by simpa using h.sz⟩
/-- at the end of a call with a range in it: the deferred calls (none) are taken, a result is in its box -/
theorem collectedB {w W : World} {B D : Nat} {v : Value} (hb : Below w.heap.size w W) (hB : Boxed W B 4 v) (hw : w.heap.size ≤ B) (hD : w.heap.size ≤ D) (hK : W.heap[D]? = some (.deferred (some []))) (x : Value) :
    Hid ((W.setCell ⟨B, 0, none⟩ x).heap[D]? = some (.deferred (some []))) ∧ Hid ((loadVar 4 ⟨B, 0, none⟩).run Try.prog ((W.setCell ⟨B, 0, none⟩ x).putObj D (.deferred none)) = .ok x ((W.setCell ⟨B, 0, none⟩ x).putObj D (.deferred none))) ∧
      Hid (Below w.heap.size w ((W.setCell ⟨B, 0, none⟩ x).putObj D (.deferred none))) := by
  have hne : D ≠ B := by
    rintro rfl
    rw [show W.heap[D]? = _ from hB] at hK
    cases hK
  have hK' : (W.setCell ⟨B, 0, none⟩ x).heap[D]? = some (.deferred (some [])) := (heap_setCell_other _ _ _ _ (by exact hne)).trans hK
  have hbx : Boxed ((W.setCell ⟨B, 0, none⟩ x).putObj D (.deferred none)) B 4 x := (World.putObj_heap_other (by omega)).trans (hB.set x)
  exact ⟨hK', run_loadBoolP hbx.cell, (hb.setCell (p := ⟨B, 0, none⟩) hw x).trans (belowK_b (w := w) (Nat.le_refl _) _ D _ (.deferred none) (by omega) hK' rfl rfl)⟩
attribute [-go_sem] loadVar
set_option maxHeartbeats 6400000 in
set_option maxRecDepth 100000 in
/-- tells: what an iterator tells is the list -/
theorem tells_is {w : World} {lb : Array Value} {rows : List (List Int)} {lo N g b2 : Nat} (hseq : ∀ W, Below w.heap.size w W → SeqTells Fence.wide 7 Try.prog 51 lb (rowsAt rows lo) (KeepsP g rows b2) N W) (hgb : g < w.heap.size ∧ b2 < w.heap.size)
    (hrow : ∀ k, k < N → RowOk (rows.getD (lo + k) [])) (a : Option Addr) (c : Nat) (hN : N ≤ 1000000000) (hl : Wl w a ((List.range N).map (fun i => (lo + i, rows.getD (lo + i) [])))) (x : Int) :
    Calls Try.prog 30 #[.func (.func 51) #[] lb, .slice a N c, .int .i64 x] w fun e w' => e = .returned (.bool true) ∧ Below w.heap.size w w' := by
  refine (callsIn_wide (n := 8)).1 ?_
  refine callsIn_of_wp_marks Try.func30 rfl trivial ?_ rfl
  simp only [Try.ntmps30, List.size_toArray, List.length_cons, List.length_nil, Nat.reduceAdd, Nat.reduceSub, Array.replicate_succ, Array.replicate_zero, List.push_toArray, List.append_toArray, List.nil_append, List.cons_append]
  have HB4 := Lib.hid (((((Below.refl w.heap.size w).alloc (Nat.le_refl _) (.cells #[.slice a N c] 69)).alloc (by simp) (.cells #[.int .i64 x] 3)).alloc (by simp; omega) (.cells #[.bool false] 4)).alloc (by simp; omega) (.cells #[.int .i64 0] 3))
  have B1 := bxB (bxB (bxB (Boxed.new w 69 (.slice a N c)) (belowA (.cells #[.int .i64 x] 3))) (belowA (.cells #[.bool false] 4))) (belowA (.cells #[.int .i64 0] 3))
  have B2 := bxB (bxB (bxN (w := w.alloc (.cells #[.slice a N c] 69)) (B := w.heap.size + 1) (by simp) 3 (.int .i64 x)) (belowA (.cells #[.bool false] 4))) (belowA (.cells #[.int .i64 0] 3))
  have B3 := bxB (bxN (w := (w.alloc (.cells #[.slice a N c] 69)).alloc (.cells #[.int .i64 x] 3)) (B := w.heap.size + 1 + 1) (by simp) 4 (.bool false)) (belowA (.cells #[.int .i64 0] 3))
  have B4 := bxN (w := ((w.alloc (.cells #[.slice a N c] 69)).alloc (.cells #[.int .i64 x] 3)).alloc (.cells #[.bool false] 4)) (B := w.heap.size + 1 + 1 + 1) (by simp) 3 (.int .i64 0)
  have HT4 : Hid (Tl w (w.heap.size + 1 + 1 + 1 + 1) a c N x 0 ((((w.alloc (.cells #[.slice a N c] 69)).alloc (.cells #[.int .i64 x] 3)).alloc (.cells #[.bool false] 4)).alloc (.cells #[.int .i64 0] 3))) := ⟨B1, B2, B3, B4, HB4.out, by simp⟩
  have HSQ := Lib.hid (hseq _ HB4.out)
  have HGB := Lib.hid hgb
  have HRW := Lib.hid hrow
  have HWL := Lib.hid hl
  clear B1 B2 B3 B4 hseq hgb hrow hl
  have hft := fun w => fn_there 51 lb w
  have hs4 : ((((w.alloc (.cells #[.slice a N c] 69)).alloc (.cells #[.int .i64 x] 3)).alloc (.cells #[.bool false] 4)).alloc (.cells #[.int .i64 0] 3)).heap.size = w.heap.size + 1 + 1 + 1 + 1 := by simp
  rw [← hs4] at HT4
  gi_wp2_with fail
  generalize ((((w.alloc (.cells #[.slice a N c] 69)).alloc (.cells #[.int .i64 x] 3)).alloc (.cells #[.bool false] 4)).alloc (.cells #[.int .i64 0] 3)) = W4 at HB4 HT4 HSQ hs4 ⊢
  clear hft hs4
  have hz4 : w.heap.size ≤ W4.heap.size := HB4.out.size
  have hmo : Try.prog.follows .mixedOrders = true := by kernel_rfl
  refine wpIn_rangeRowsX (rows := rows) (lo := lo) (N := N) (gf := 51) (lb := lb) rfl (enters_of Try.func51 (by kernel_rfl) rfl) HSQ.out (fun h k => h.trans k)
    (fun W l o o' hl _ _ _ => KeepsP.of (World.putObj_heap_other (by have := HGB.out.1; omega)) (World.putObj_heap_other (by have := HGB.out.2; omega))) (Below.refl _ _) rfl
    (fun k W => Tl w W4.heap.size a c N x k W) (fun cd k W => cd = .exit 0 ∧ ∃ j : Nat, (j : Int) = x ∧ Tl w W4.heap.size a c N x j W)
    (fun k X Y row hs hg hr => hs.kept hz4 hg hr)
    (fun cd k X Y row hs hg hr => ⟨hs.1, hs.2.choose, hs.2.choose_spec.1, hs.2.choose_spec.2.kept hz4 hg hr⟩) HT4.out
    (fun T k yb => (((T.setIfInBounds 13 (.int .i64 ((lo + k : Nat) : Int))).setIfInBounds 14 (.agg (List.map cellI (rows.getD (lo + k) [])).toArray)).setIfInBounds 8 (.int .i64 ((lo + k : Nat) : Int))).setIfInBounds 9 (.pointer (some ⟨yb, 0, none⟩))) ?assign ?body ?done ?stop
  case assign =>
    intro l k W K hk hi hK
    have hro := HRW.out k hk
    have h24y := hro.len
    have hst := store_fresh W _ h24y
    have hA := belowA (w := W) (.cells (rowC (rows.getD (lo + k) [])) 40)
    have hgW : g < W.heap.size := by have := HGB.out.1; have := hi.bel.size; omega
    have hbW : b2 < W.heap.size := by have := HGB.out.2; have := hi.bel.size; omega
    have hK' := hK _ _ (KeepsFrom.below hA) (KeepsP.of (hA.block g hgW) (hA.block b2 hbW)) (hi.keep hA) ⟨W.heap.size, rfl, rowAt_new W _, hi.sz⟩
    simp (config := { maxSteps := 10000000 }) only [List.setIfInBounds_toArray, List.set_cons_succ, List.set_cons_zero] at hK'
    clear hK hi HSQ hA hro HT4 HB4
    unfold rowsAt rowV
    generalize rows.getD (lo + k) [] = y at h24y hst hK' ⊢
    generalize lo + k = q at hK' ⊢
    gi_wp2
    exact hK'
  case body =>
    intro l k yb W hk hi hy hyl
    simp (config := { maxSteps := 10000000 }) only [List.setIfInBounds_toArray, List.set_cons_succ, List.set_cons_zero]
    have l7 := run_loadInt hi.bk.cell
    have l5 := run_loadInt hi.bn.cell
    by_cases hx : (k : Int) = x
    · have hxe : ((k : Int) == x) = true := by simpa using hx
      have HI := Lib.hid (And.intro hi hx)
      clear hi hy HSQ HT4 HB4 HWL HRW hx
      gi_wp2
      exact ⟨KeepsFrom.refl _ _, rfl, k, HI.out.2, HI.out.1⟩
    · have hxe : ((k : Int) == x) = false := by simpa using hx
      obtain ⟨gw, rfl, hgw, hcw⟩ := HWL.out (by simp; omega)
      have hLk : ((List.range N).map (fun i => (lo + i, rows.getD (lo + i) [])))[k]? = some (lo + k, rows.getD (lo + k) []) := by simp [hk]
      have hLok : ∀ z ∈ (List.range N).map (fun i => (lo + i, rows.getD (lo + i) [])), z.2.length = 24 := fun z hz => by
        obtain ⟨i, hi, rfl⟩ := List.mem_map.1 hz
        exact (HRW.out i (List.mem_range.1 hi)).len
      have hbD : ∀ m, Below w.heap.size w (W.drewN m) := fun m => below_drewN hi.bel m
      have hcD : ∀ m, ∀ j, j < ((List.range N).map (fun i => (lo + i, rows.getD (lo + i) []))).length * 25 → (W.drewN m).cell? ⟨gw, j, none⟩ = (flatN ((List.range N).map (fun i => (lo + i, rows.getD (lo + i) []))))[j]? := fun m j hj => ((hbD m).cell (p := ⟨gw, j, none⟩) hgw).trans (hcw j hj)
      have HD : ∀ m, Tl w W4.heap.size (some ⟨gw, 0, none⟩) c N x k (W.drewN m) := fun m => hi.keep (below_drewN (Below.refl W.heap.size W) m)
      have hro := HRW.out k hk
      have d7 := fun m => run_loadInt (HD m).bk.cell
      have d4 := fun m => run_loadNumsP (HD m).bw.cell
      have dn := fun m => run_loadInt (Wl.num (hcD m) hLok hLk)
      have dr := fun m => Wl.row (hcD m) hLok hLk
      have dy := fun m => run_loadRow (hy.below (below_drewN (Below.refl W.heap.size W) m)) hro.len
      have c7 := fun m => (HD m).bk.cell
      have f7 := fun m => (HD m).bk.frozen
      have hne' : ∀ u : World, (binOp .neq 40 (rowV (rows.getD (lo + k) [])) (rowV (rows.getD (lo + k) []))).run Try.prog u = .ok (.bool false) u := fun u => by
        rw [run_neqRowK hro hro u]
        simp
      have HFI : Hid (∀ m, KeepsFrom W4.heap.size W ((W.drewN m).setCell ⟨w.heap.size + 1 + 1 + 1, 0, none⟩ (.int .i64 ((k : Int) + 1))) ∧ KeepsP g rows b2 W ((W.drewN m).setCell ⟨w.heap.size + 1 + 1 + 1, 0, none⟩ (.int .i64 ((k : Int) + 1))) ∧ Tl w W4.heap.size (some ⟨gw, 0, none⟩) c N x (k + 1) ((W.drewN m).setCell ⟨w.heap.size + 1 + 1 + 1, 0, none⟩ (.int .i64 ((k : Int) + 1))))   := by
        intro m
        have h1 := HGB.out.1
        have h2 := HGB.out.2
        have e1 : ((W.drewN m).setCell ⟨w.heap.size + 1 + 1 + 1, 0, none⟩ (.int .i64 ((k : Int) + 1))).heap[g]? = W.heap[g]? := heap_setCell_other _ _ _ _ (by show g ≠ w.heap.size + 1 + 1 + 1; omega)
        have e2 : ((W.drewN m).setCell ⟨w.heap.size + 1 + 1 + 1, 0, none⟩ (.int .i64 ((k : Int) + 1))).heap[b2]? = W.heap[b2]? := heap_setCell_other _ _ _ _ (by show b2 ≠ w.heap.size + 1 + 1 + 1; omega)
        exact ⟨(KeepsFrom.below (below_drewN (Below.refl W.heap.size W) m)).trans ((KeepsOthers.setCell _ _ _).from _), KeepsP.of e1 e2, (HD m).next⟩
      have hkN : ¬ N ≤ k := by omega
      have hkL : k < N := hk
      have hk2 : (k : Int) < (N : Int) := by omega
      have hk0 : (0 : Int) ≤ (k : Int) := by omega
      have iwk : IntKind.i64.wrap ((k : Int) + 1) = (k : Int) + 1 := by rw [IntKind.wrap_i64]; omega
      unfold rowV at dr dy hne'
      simp only at dn dr
      clear hi hy HSQ HT4 HB4 HWL HRW HD hcD hcw hLk hLok hro hbD hx
      generalize rows.getD (lo + k) [] = y at dr dy hne' ⊢
      generalize lo + k = q at dn ⊢
      gi_wp2_with fail
      refine wpIn_region_quiet_round (by kernel_rfl) (by kernel_rfl) (by kernel_rfl) ?_
      repeat (gi_big_quiet_step (fail))
      refine wpQuietIn_nil ?_
      rintro _ ⟨nq, rfl⟩
      have d7' := d7 nq
      have c7' := c7 nq
      have f7' := f7 nq
      have HFI' := Lib.hid (HFI.out nq)
      clear HFI d7 d4 dn dr dy c7 f7 l7 l5
      gi_wp2
      exact HFI'.out
  case done =>
    rintro D W hD hi hKD
    have l1 := run_loadNumsP hi.bw.cell
    have l4 := run_loadInt hi.bk.cell
    have c3 := hi.br.cell
    have f3 := hi.br.frozen
    obtain ⟨HK, HR, HBW⟩ := collectedB hi.bel hi.br (by omega) (by omega) hKD (.bool true)
    clear hi hKD hD HSQ HT4 HB4 HWL HRW
    gi_wp2
    exact ⟨by simp, .inl ⟨_, _, rfl, run_takeDeferred HK.out, _, rl_results Try.results30 rfl HR.out, rfl, HBW.out⟩⟩
  case stop =>
    rintro D c k W hD hk ⟨rfl, j, hj, hi⟩ hKD
    subst hj
    have l1 := run_loadNumsP hi.bw.cell
    have l4 := run_loadInt hi.bk.cell
    have l5 := run_loadInt hi.bn.cell
    have c3 := hi.br.cell
    have f3 := hi.br.frozen
    have hj0 : (0 : Int) ≤ (j : Int) := by omega
    obtain ⟨HK, HR, HBW⟩ := collectedB hi.bel hi.br (by omega) (by omega) hKD (.bool true)
    clear hi hKD hD HSQ HT4 HB4 HWL HRW
    by_cases hjN : (j : Int) = (N : Int)
    · have hje : ((j : Int) == (N : Int)) = true := by simpa using hjN
      clear hjN
      gi_wp2
      exact ⟨by simp, .inl ⟨_, _, rfl, run_takeDeferred HK.out, _, rl_results Try.results30 rfl HR.out, rfl, HBW.out⟩⟩
    · have hje : ((j : Int) == (N : Int)) = false := by simpa using hjN
      clear hjN
      gi_wp2
      exact ⟨by simp, .inl ⟨_, _, rfl, run_takeDeferred HK.out, _, rl_results Try.results30 rfl HR.out, rfl, HBW.out⟩⟩
end Go.Proofs.Ytlnhnpfgmiffpaa
end
