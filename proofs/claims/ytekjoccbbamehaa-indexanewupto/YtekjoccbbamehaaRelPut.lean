import Derived.Test.YtekjoccbbamehaaRelHas
import Derived.Deep.RegionLaw
import Derived.Maps.AppendAt
namespace Go.Proofs.Ytekjoccbbamehaa
open Go.RowKit Go.Maps
set_option linter.unusedVariables false
set_option linter.unusedSimpArgs false
attribute [local go_sem ↓] Go.wp_at_zero Go.wp_at_succ

theorem step_append_own {P : Program} {ops : Array Oper} {o : Oper} {a : Act} {w : World} {K : Act → World → Prop} {Q : Exit → Act → World → Prop} {E : Prop}
    (hg : o.guard = none) (s x : Operand) (t : TypeId) (hop : o.op = Op.call { callee := Callee.builtin Builtin.append, args := #[s, x], argTypes := #[t, t] })
    (e : TypeId) (i : TypeInfo) (z : Value) (size bytes : Nat) (h1 : P.underlying t = some (.slice e)) (h2 : P.info? e = some i) (h3 : i.zero = some z) (h4 : i.size = size) (h5 : i.bytes = bytes) (h6 : z.cells.size = size) (h7 : 0 < size)
    (base : Nat) (v : Value) (n : Nat) (xs : List Value) (hs : a.eval s = v) (hown : w.ownsRow base e size v n xs)
    (ad : Addr) (m c : Nat) (news : List Value) (hx : a.eval x = .slice (some ad) m c) (hn : news.length = m * size) (hc : ∀ j u, news[j]? = some u → w.cell? (ad.add j) = some u) (h1c : ∀ u ∈ news, u.oneCell' = true)
    (b1 : n + m ≤ maxLen) (b2 : (n + m) * bytes ≤ 140737488355328) (hbase : base ≤ w.heap.size)
    (hK : ∀ v' w', w'.ownsRow base e size v' (n + m) (xs ++ news) → w.grownBy w' v.ownBlock → (v'.ownBlock = v.ownBlock ∨ v'.ownBlock = some w.heap.size) → K (a.put o.dst v') w') :
    if Region.wanted o (yielded ops a.tmps) = true then Oper.wp P o a w K Q else E := by
  have hw : Region.wanted o (yielded ops a.tmps) = true := by simp [Region.wanted, hg]
  rw [if_pos hw]
  obtain ⟨v', w', hrun, r1, r2, _, r3⟩ := run_append_own_at (P := P) w base t o.type e i z size bytes h1 h2 h3 h4 h5 h6 h7 v n xs hown ad m c news hn hc h1c b1 b2 hbase
  unfold Oper.wp
  simp [execOp, hop, resolve, invoke, builtin, hs, hx, hrun, Result.andThen]
  exact hK v' w' r1 r2 r3
theorem lit_news (w : World) (cs : Array Value) (e : TypeId) : ∀ (j : Nat) (u : Value), cs.toList[j]? = some u → (w.alloc (.cells cs e)).cell? ((⟨w.heap.size, 0, none⟩ : Addr).add j) = some u := by
  intro j u h
  have e' : (⟨w.heap.size, 0, none⟩ : Addr).add j = ⟨w.heap.size, j, none⟩ := by rw [WideShapes.add_plain]; simp
  rw [e']
  unfold World.cell?
  simp only [heap_alloc_new]
  simpa using h
theorem fold_at : ∀ (l : List Value) (k : Nat) (A : Array Value) (i : Nat), ((l.zipIdx k).foldl (fun (cs : Array Value) (x : Value × Nat) => cs.setIfInBounds x.2 x.1) A)[i]? = if k ≤ i ∧ i < k + l.length ∧ i < A.size then l[i - k]? else A[i]?
  | [], k, A, i => by
    rw [if_neg (by simp; omega)]
    rfl
  | a :: l, k, A, i => by
    rw [List.zipIdx_cons, List.foldl_cons, fold_at l (k + 1) _ i]
    simp only [Array.size_setIfInBounds, List.length_cons]
    by_cases h1 : k + 1 ≤ i ∧ i < k + 1 + l.length ∧ i < A.size
    · rw [if_pos h1, if_pos (by omega), show i - k = (i - (k + 1)) + 1 by omega, List.getElem?_cons_succ]
    · rw [if_neg h1]
      by_cases hk : k = i
      · subst hk
        by_cases hs : k < A.size
        · rw [if_pos (by omega), Array.getElem?_setIfInBounds_self_of_lt hs, Nat.sub_self]
          rfl
        · rw [if_neg (by omega), Array.getElem?_eq_none (by simp; omega), Array.getElem?_eq_none (by omega)]
      · rw [Array.getElem?_setIfInBounds_ne hk, if_neg (by omega)]
theorem fold_row {r : List Int} (h : r.length = 24) {A : Array Value} (hA : A.size = 24) : ((r.map cellI).zipIdx).foldl (fun (cs : Array Value) (x : Value × Nat) => cs.setIfInBounds x.2 x.1) A = (r.map cellI).toArray := by
  apply Array.ext_getElem?
  intro i
  rw [fold_at]
  by_cases hi : i < 24
  · rw [if_pos (by rw [List.length_map]; omega), Nat.sub_zero]
    simp
  · rw [if_neg (by omega), Array.getElem?_eq_none (by omega), Array.getElem?_eq_none (by simp; omega)]
theorem infoRowB : (Try.prog.info? 34).map (fun i => (i.zero, i.size, i.bytes)) = some (some (rowV (List.replicate 24 0)), 24, 96) := by kernel_rfl
theorem run_loadRows {w : World} {a : Addr} {v : Value} (h : w.cell? a = some v) : (loadVar 22 a).run Try.prog w = .ok v w := by
  simp [loadVar, go_sem, h]
/-- behind the map's turn -/
theorem Rel.turned {w w2 : World} {B t m : Nat} {sv : Value} {rows : List (List Int)} {ar gone : Int} (h : Rel w B t m sv rows ar gone) (ht : w.mapTurned w2 m) :
    RL w2 t 65 [sv, .map (some m), .int .i64 ar, .int .i64 gone] ∧ w2.ownsRow B 34 24 sv rows.length (rows.flatMap (fun r => r.map cellI)) := by
  have gr := ht.grown
  have ht' := World.rowIs.lt h.rl
  exact ⟨World.rowIs.of_block h.rl (gr.block t ht' (fun e => h.ne.1 (Option.some.inj e))), own_of_block h.own (fun g hg => gr.block g (h.own.lt g hg).2 (fun e => (h.ne.2 g hg).2 (Option.some.inj e)))⟩
/-- a row more -/
theorem rel_grow {W u w3 : World} {B t m : Nat} {sv v' : Value} {rows : List (List Int)} {r : List Int} {ar gone : Int}
    (rl : RL W t 65 [sv, .map (some m), .int .i64 ar, .int .i64 gone]) (own : W.ownsRow B 34 24 sv rows.length (rows.flatMap (fun r => r.map cellI))) (map : MapR W m (rows ++ [r])) (hWu : Below W.heap.size W u)
    (hown : w3.ownsRow B 34 24 v' (rows.length + 1) (rows.flatMap (fun r => r.map cellI) ++ r.map cellI)) (hg : u.grownBy w3 sv.ownBlock) (hloc : v'.ownBlock = sv.ownBlock ∨ v'.ownBlock = some u.heap.size)
    (nd : (rows ++ [r]).Nodup) (ok : ∀ x ∈ rows ++ [r], RowOk x) (lo : B ≤ t ∧ B ≤ m) (ne : t ≠ m ∧ ∀ g, sv.ownBlock = some g → g ≠ t ∧ g ≠ m) (hB : B ≤ W.heap.size) :
    Rel (w3.setCell ⟨t, 0, none⟩ v') B t m v' (rows ++ [r]) ar gone ∧ w3.cell? ⟨t, 0, none⟩ = some sv ∧ w3.frozen? ⟨t, 0, none⟩ = false ∧ Below B W (w3.setCell ⟨t, 0, none⟩ v') := by
  have tl := World.rowIs.lt rl
  have ml := map.lt
  have hz := hWu.size
  have nt : some t ≠ sv.ownBlock := fun e => (ne.2 t e.symm).1 rfl
  have nm : some m ≠ sv.ownBlock := fun e => (ne.2 m e.symm).2 rfl
  have rl3 : RL w3 t 65 [sv, .map (some m), .int .i64 ar, .int .i64 gone] := World.rowIs.of_block rl ((hg.block t (by omega) nt).trans (hWu.block t tl))
  have m3 : MapR w3 m (rows ++ [r]) := map.of_block ((hg.block m (by omega) nm).trans (hWu.block m ml))
  have ne3 : ∀ g, v'.ownBlock = some g → g ≠ t ∧ g ≠ m := fun g hgg => by
    rcases hloc with e | e
    · exact ne.2 g (by rw [← e]; exact hgg)
    · rw [e] at hgg
      have := Option.some.inj hgg
      omega
  refine ⟨⟨rl3.set 0 v', ?_, m3.of_block (heap_setCell_other _ _ _ _ (by exact fun e => ne.1 e.symm)), nd, ok, lo, ne.1, ne3⟩, rl3.at (j := 0) rfl, World.rowIs.frozen rl3 0, ?_⟩
  · rw [List.length_append, List.flatMap_append]
    have e : [r].flatMap (fun r => r.map cellI) = r.map cellI := by simp
    rw [e]
    exact own_of_block hown (fun g hgg => heap_setCell_other _ _ _ _ (by exact (ne3 g hgg).1))
  · exact ((hWu.mono hB).grown hg (by omega) (fun j hj => (own.lt j hj).1)).setCell (p := ⟨t, 0, none⟩) lo.1 _
attribute [-go_sem] loadVar
set_option maxHeartbeats 3200000 in
set_option maxRecDepth 100000 in
theorem put_old {w : World} {B t m : Nat} {sv : Value} {rows : List (List Int)} {ar gone : Int} (h : Rel w B t m sv rows ar gone) (r : List Int) (hr : RowOk r) (hx : r ∈ rows) : Calls Try.prog 30 #[.pointer (some ⟨t, 0, none⟩), rowV r] w fun e w' => e = .returned (.bool false) ∧ Below w.heap.size w w' := by
  have hb := (Below.refl w.heap.size w).alloc (Nat.le_refl _) (.cells (rowC r) 34)
  have HB := Lib.hid hb
  have l2 := run_loadRow (rowAt_new w r) hr.len
  have HH := Lib.hid (has_any (h.keep hb) r hr true ⟨fun _ => hx, fun _ => rfl⟩)
  clear h hb hx
  unfold rowV at *
  go_enter Try.func30, Try.ntmps30
  go_upto_region 1 with fail
  generalize w.alloc (.cells (rowC r) 34) = W at HB l2 HH ⊢
  go_wp2_with fail
  refine HH.out.mono ?_
  rintro e w1 ⟨rfl, b1⟩
  go_wp2
  go_ret
  exact ⟨rfl, HB.out.trans (b1.mono HB.out.size)⟩
set_option maxHeartbeats 3200000 in
set_option maxRecDepth 100000 in
theorem put_new {w : World} {B t m : Nat} {sv : Value} {rows : List (List Int)} {ar gone : Int} (h : Rel w B t m sv rows ar gone) (hB : B ≤ w.heap.size) (hlen : rows.length ≤ 1000000000) (r : List Int) (hr : RowOk r) (hx : r ∉ rows) : Calls Try.prog 30 #[.pointer (some ⟨t, 0, none⟩), rowV r] w fun e w' => e = .returned (.bool true) ∧ Below B w w' ∧ ∃ sv', Rel w' B t m sv' (rows ++ [r]) ar gone := by
  obtain ⟨i0, hi0, hz0, hz1, hz2⟩ := info_parts infoRowB
  have hb := (Below.refl w.heap.size w).alloc (Nat.le_refl _) (.cells (rowC r) 34)
  have HB := Lib.hid hb
  have HA := Lib.hid (rowAt_new w r)
  have l2 := run_loadRow (rowAt_new w r) hr.len
  have HR := Lib.hid (h.keep hb)
  have HH := Lib.hid (has_any (h.keep hb) r hr false ⟨fun e => (by cases e), fun e => absurd e hx⟩)
  have HX := Lib.hid (And.intro hr hx)
  have HTM := Lib.hid (And.intro (World.rowIs.lt h.rl) h.map.lt)
  clear h hb hx
  unfold rowV at l2 HH ⊢
  go_enter Try.func30, Try.ntmps30
  go_upto_region 1 with fail
  generalize w.alloc (.cells (rowC r) 34) = W at HB HA l2 HR HH ⊢
  go_wp2_with fail
  refine HH.out.mono ?_
  rintro e w1 ⟨rfl, b1⟩
  have HR1 := Lib.hid ((HR.out.keep b1).keep (Below.refl _ _).drew)
  have HA1 := Lib.hid ((HA.out.below b1).below (Below.refl _ _).drew)
  have HB1 := Lib.hid ((HB.out.trans (b1.mono HB.out.size)).drew)
  clear HR HA HB HH b1 l2
  obtain ⟨ao, co, hsv, _⟩ := own_form HR1.out.own
  subst hsv
  have l0 := run_loadRows (HR1.out.rl.at (j := 0) rfl)
  have l1 := run_loadMap (HR1.out.rl.at (j := 1) rfl)
  have l2 := run_loadRow HA1.out HX.out.1.len
  obtain ⟨w2, hput, hm2, ht2⟩ := HR1.out.map.put HX.out.1 HX.out.2
  have HM2 := Lib.hid hm2
  have HT2 := Lib.hid (HR1.out.turned ht2)
  unfold rowV at l2 hput
  have HA2 : Hid (RowAt w2 w.heap.size r) := (ht2.grown.block w.heap.size HA1.out.lt (fun e => by have := HTM.out.2; have := Option.some.inj e; omega)).trans HA1.out
  have HB2 : Hid (Below B w w2) := (HB1.out.mono hB).grown ht2.grown (by have := HB1.out.size; omega) (fun j hj => by cases hj; exact HR1.out.lo.2)
  have HNE := Lib.hid (And.intro HR1.out.lo HR1.out.ne)
  have HND : Hid ((rows ++ [r]).Nodup ∧ ∀ x ∈ rows ++ [r], RowOk x) := by
    refine ⟨?_, fun x hx => ?_⟩
    · rw [List.nodup_append]
      exact ⟨HR1.out.nd, by simp, fun a ha b hb => by rw [List.mem_singleton.1 hb]; exact fun e => HX.out.2 (e ▸ ha)⟩
    · rcases List.mem_append.1 hx with hx | hx
      · exact HR1.out.ok x hx
      · rw [List.mem_singleton.1 hx]; exact HX.out.1
  have HBZ : Hid (B ≤ w2.heap.size) := by show _ ≤ _; have := HB2.out.size; omega
  clear hm2 ht2 HTM
  go_upto_region 3 with fail
  go_cut [8] (fun _ wc => wc = w2)
  case first =>
    go_region
    all_goals
      go_wp2_with fail
      go_meet
      exact rfl
  case rest =>
    subst hcut
    have hd : Below wc.heap.size wc wc.drew := (Below.refl _ _).drew
    have hau : Below wc.drew.heap.size wc.drew (wc.drew.alloc (.cells (rowC r) 34)) := (Below.refl _ _).alloc (Nat.le_refl _) _
    have HRL := Lib.hid (HT2.out.1.below hd)
    have HOW := Lib.hid (own_below HT2.out.2 hd)
    have HOWN := Lib.hid (own_below (own_below HT2.out.2 hd) hau)
    have HMP := Lib.hid (HM2.out.below hd)
    have HAU := Lib.hid hau
    have HSZ : Hid (B ≤ (wc.drew.alloc (.cells (rowC r) 34)).heap.size) := by show _ ≤ _; have := HBZ.out; simp; omega
    have HBZ' : Hid (B ≤ wc.drew.heap.size) := HBZ.out
    have HBW : Hid (Below B w wc.drew) := HB2.out.drew
    have l0' := run_loadRows (HRL.out.at (j := 0) rfl)
    have l0'' : (loadVar 22 ⟨t, 0, none⟩).run Try.prog (wc.alloc (.cells (List.map cellI r).toArray 34)).drew = .ok (.slice ao rows.length co) (wc.alloc (.cells (List.map cellI r).toArray 34)).drew := run_loadRows ((HRL.out.below hau).at (j := 0) rfl)
    have l2' := run_loadRow (HA2.out.below hd) HX.out.1.len
    have hrl : (r.map cellI).length = 1 * 24 := by rw [List.length_map, HX.out.1.len]
    have HC : Hid (∀ (j : Nat) (u : Value), (r.map cellI)[j]? = some u → (wc.drew.alloc (.cells (rowC r) 34)).cell? ((⟨wc.heap.size, 0, none⟩ : Addr).add j) = some u) := fun j u hu => lit_news wc.drew (rowC r) 34 j u (by simpa using hu)
    have HONE : Hid (∀ u ∈ r.map cellI, u.oneCell' = true) := fun u hu => by
      obtain ⟨x, _, rfl⟩ := List.mem_map.1 hu
      rfl
    have hfold := fold_row HX.out.1.len (A := #[.int .i32 0, .int .i32 0, .int .i32 0, .int .i32 0, .int .i32 0, .int .i32 0, .int .i32 0, .int .i32 0, .int .i32 0, .int .i32 0, .int .i32 0, .int .i32 0, .int .i32 0, .int .i32 0, .int .i32 0, .int .i32 0, .int .i32 0, .int .i32 0, .int .i32 0, .int .i32 0, .int .i32 0, .int .i32 0, .int .i32 0, .int .i32 0]) rfl
    unfold rowV at l2'
    clear hd hau l0 l1 l2 hput HM2 HT2 HA2 HB2 HBZ HA1 HB1 HR1
    go_upto_region 4 with fail
    go_region_law (
      refine step_append_own rfl (.tmp 22) (.tmp 24) 22 rfl 34 i0 _ 24 96 Try.underlying22 hi0 hz0 hz1 hz2 rfl (by decide) B (.slice ao rows.length co) rows.length _ (by simp [Act.eval, Act.put]) HOWN.out ⟨wc.heap.size, 0, none⟩ 1 1 (r.map cellI) (by simp [Act.eval, Act.put]) hrl HC.out HONE.out (by unfold maxLen; omega) (by omega) HSZ.out ?_
      intro v' w3 hown' hgrow hloc
      obtain ⟨hfin, m4, f4, hbf⟩ := rel_grow HRL.out HOW.out HMP.out HAU.out hown' hgrow hloc HND.out.1 HND.out.2 HNE.out.1 HNE.out.2 HBZ'.out
      obtain ⟨a2, c2, hv', _⟩ := own_form hown'
      subst hv'
      have HFIN := Lib.hid hfin
      have HBF := Lib.hid hbf
      clear hown' hgrow hloc hfin hbf)
    all_goals
      go_wp2
      go_ret
      exact ⟨rfl, HBW.out.trans HBF.out, _, HFIN.out⟩
end Go.Proofs.Ytekjoccbbamehaa
