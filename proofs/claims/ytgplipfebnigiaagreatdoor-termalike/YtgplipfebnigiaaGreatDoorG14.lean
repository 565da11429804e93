import Derived.Test.YtgplipfebnigiaaGreatDoorG6
import Derived.Test.YtgplipfebnigiaaGreatDoorG12
import Derived.Test.YtgplipfebnigiaaGreatDoorG8
import Derived.Lib.SmallJoins
import Derived.Test.YtgplipfebnigiaaGreatDoorG13
section
namespace Go.Proofs.YtgplipfebnigiaaGreatDoor
open Go.RowKit Go.Maps
set_option linter.unusedVariables false
set_option linter.unusedSimpArgs false
attribute [local go_sem ↓] Go.wp_at_zero Go.wp_at_succ

/-- how many terms an expression has; those of a list of expressions -/
def szD (d : Nat) (e : E) : Nat := (termsD d e).length
def szL (d : Nat) (l : List X) : Nat := (l.flatMap (fun x => termsD d x.e)).length
theorem szL_append (d : Nat) (l m : List X) : szL d (l ++ m) = szL d l + szL d m := by simp [szL, List.flatMap_append]
theorem szL_single {d : Nat} {x : X} {K : List X} (hK : K.map X.e = x.e.kids) : szL (d + 1) [x] = 1 + szL d K := by
  unfold szL
  have : K.flatMap (fun x => termsD d x.e) = x.e.kids.flatMap (termsD d) := by rw [← hK, List.flatMap_map]
  rw [this]
  simp only [List.flatMap_cons, List.flatMap_nil, List.append_nil, termsD_succ, List.length_cons]
  omega
set_option maxHeartbeats 6400000 in
theorem exprPartsS_any (d : Nat) (e : E) (a : Option Addr) (c : Nat) (w : World) (hE : EIs w d e a c) (lf : Nat) (hlf : lf ≤ 1048576) :
    Calls Tryz.prog 82 #[e.val a c, .int .i64 (lf : Int)] w fun r w' => ∃ n : Int, r = .returned (.int .i64 n) ∧ Below w.heap.size w w' ∧ (0 ≤ n ∧ n ≤ (lf : Int) + 1) ∧ (n ≤ (lf : Int) → smallE d e ∧ (szD d e : Int) ≤ n) := by
  obtain ⟨i0, hi0, hz0, hz1, hz2⟩ := info_parts infoE
  have BA := (Below.refl w.heap.size w).alloc (Nat.le_refl _) (.cells #[.int .i8 e.op, .string e.t.v, .int .i8 e.t.a.k, .int .i64 e.t.a.n, .string e.t.a.s, .slice a e.kids.length c] 74)
  have HL0 : Hid (Lx _ (.slice (some ⟨w.heap.size + 1, 0, none⟩) 1 1) d [⟨e, a, c⟩]) := lx_one (w.alloc (.cells #[.int .i8 e.op, .string e.t.v, .int .i8 e.t.a.k, .int .i64 e.t.a.n, .string e.t.a.s, .slice a e.kids.length c] 74)) (by simp) ⟨e, a, c⟩ d (hE.below BA)
  have HB0 : Hid (Below w.heap.size w _) := BA.alloc BA.size (.cells #[.int .i8 e.op, .string e.t.v, .int .i8 e.t.a.k, .int .i64 e.t.a.n, .string e.t.a.s, .slice a e.kids.length c] 74)
  clear hE BA
  unfold E.val
  go_enter Tryz.func82, Tryz.ntmps82
  go_wp2
  go_loopw [5, 6, 7] (fun n lv dp wr => ∃ (nn dd dpt : Nat) (L : List X), n = .int .i64 nn ∧ dp = .int .i64 dd ∧ nn ≤ lf ∧ L.length ≤ 1048576 ∧ dd ≤ 65537 ∧ Below w.heap.size w wr ∧ Hid (Lx wr lv dpt L) ∧ Hid (((∀ x ∈ L, smallE dpt x.e) → smallE d e) ∧ szD d e = nn + szL dpt L)) (fun _ _ dp _ => 70000 - (intOf dp).toNat)
  case atStart => exact ⟨0, 0, d, [⟨e, a, c⟩], rfl, rfl, by omega, by simp, by omega, HB0.out, HL0.out, ⟨fun h => h ⟨e, a, c⟩ (by simp), by simp [szL, szD]⟩⟩
  case round =>
    obtain ⟨nn, dd, dpt, L, rfl, rfl, hnn, hLl, hdd, bel, HLx, HSm⟩ := hrel
    obtain ⟨la, lc, rfl, hlc1, hlc2, hat⟩ := HLx.out.form
    clear HL0 HB0
    by_cases hL0 : 0 < L.length
    · have hL0' : (0 : Int) < (L.length : Int) := by omega
      obtain ⟨lg, lo, rfl, hlg, hLat⟩ := hat hL0
      have HAT : Hid _ := hLat
      clear hat hLat
      by_cases hbig : nn + L.length > lf
      · have hb1 : (lf : Int) < (nn : Int) + (L.length : Int) := by omega
        go_wp2
        go_ret
        exact ⟨_, rfl, bel, ⟨by omega, by omega⟩, fun h => absurd h (by omega)⟩
      · have hb1 : ¬ (lf : Int) < (nn : Int) + (L.length : Int) := by omega
        by_cases hdeep : dd > 65536
        · have hd1 : (65536 : Int) < (dd : Int) := by omega
          go_wp2
          go_ret
          exact ⟨_, rfl, bel, ⟨by omega, by omega⟩, fun h => absurd h (by omega)⟩
        · have hd1 : ¬ (65536 : Int) < (dd : Int) := by omega
          cases dpt with
          | zero => exact absurd (HLx.out.each L[0] (List.getElem_mem hL0)) (fun h => h)
          | succ dp =>
          obtain ⟨W1, rfl⟩ : ∃ W1, W1 = wr := ⟨_, rfl⟩
          obtain ⟨M, hM⟩ : ∃ M : Nat, nn + L.length = M := ⟨_, rfl⟩
          have hM1 : (nn : Int) + (L.length : Int) = (M : Int) := by omega
          have hM2 : M ≤ lf := by omega
          have HEa : Hid _ := HLx.out.each
          have hM3 : ¬ (lf : Int) < (M : Int) := by omega
          clear hb1 hbig HLx hM
          go_wp2
          go_loopw [8, 9] (fun nx i wr2 => ∃ (k : Nat) (N : List X), k ≤ L.length ∧ i = .int .i64 k ∧ M + N.length ≤ lf ∧ Below W1.heap.size W1 wr2 ∧ Hid (wr2.ownsRow W1.heap.size 74 6 nx N.length (N.flatMap X.cells)) ∧ Hid (∀ x ∈ N, EIs W1 dp x.e x.a x.c) ∧ Hid (((∀ x ∈ N, smallE dp x.e) → ∀ x ∈ L.take k, smallE (dp + 1) x.e) ∧ szL (dp + 1) (L.take k) = k + szL dp N)) (fun _ i _ => L.length - (intOf i).toNat)
          case atStart => exact ⟨0, [], Nat.zero_le _, rfl, by simpa using hM2, Below.refl _ _, ⟨rfl, .inl ⟨rfl, rfl⟩⟩, fun x hx => by simp at hx, ⟨fun _ x hx => by simp at hx, by simp [szL]⟩⟩
          case round =>
            obtain ⟨k, N, hk, rfl, hN, bel2, HO, HEN, HSN⟩ := hrel
            obtain ⟨na, nc, rfl, hnl⟩ := own_form HO.out
            by_cases hlt : k < L.length
            · have hlt' : (k : Int) < (L.length : Int) := by omega
              have x5 := ((HAT.out k hlt).below bel2 hlg).c5
              have HEx : Hid (EIs W1 (dp + 1) (atX L k).e (atX L k).a (atX L k).c) := by rw [atX_eq hlt]; exact HEa.out _ (List.getElem_mem hlt)
              have HTk : Hid (L.take (k + 1) = L.take k ++ [atX L k]) := by show _ = _; rw [List.take_add_one, List.getElem?_eq_getElem hlt, atX_eq hlt]; rfl
              have hlt0 := hlt
              obtain ⟨x, hxx⟩ : ∃ x, atX L k = x := ⟨_, rfl⟩
              rw [hxx] at x5 HEx HTk
              have HXe : Hid _ := hxx
              clear hxx
              obtain ⟨hxo, hxt, hxc1, hxc2, hxk⟩ := HEx.out
              have hkl := hxo.2
              have HXK : Hid _ := hxk
              clear hxk hxo hxt HEx
              by_cases hbk : M + N.length + x.e.kids.length > lf
              · have hb1 : (lf : Int) < (M : Int) + (N.length : Int) + (x.e.kids.length : Int) := by omega
                go_wp2
                go_ret
                exact ⟨_, rfl, bel.trans (bel2.mono bel.size), ⟨by omega, by omega⟩, fun h => absurd h (by omega)⟩
              · have hb1 : ¬ (lf : Int) < (M : Int) + (N.length : Int) + (x.e.kids.length : Int) := by omega
                have hkb : M + N.length + x.e.kids.length ≤ lf := by omega
                clear hbk
                go_wp2
                obtain ⟨W2, rfl⟩ : ∃ W2, W2 = wr := ⟨_, rfl⟩
                go_loopw [8, 10] (fun nx i wr3 => ∃ (m : Nat) (K : List X), m ≤ x.e.kids.length ∧ i = .int .i64 m ∧ Below W1.heap.size W1 wr3 ∧ Hid (K.map X.e = x.e.kids.take m) ∧ Hid (wr3.ownsRow W1.heap.size 74 6 nx (N ++ K).length ((N ++ K).flatMap X.cells)) ∧ Hid (∀ y ∈ N ++ K, EIs W1 dp y.e y.a y.c)) (fun _ i _ => x.e.kids.length - (intOf i).toNat)
                case atStart => exact ⟨0, [], Nat.zero_le _, rfl, bel2, by simp [Hid], by simp only [List.append_nil]; exact HO.out, by simp only [List.append_nil]; exact HEN.out⟩
                case round =>
                  obtain ⟨m, K, hm, rfl, bel3, HKm, HO3, HE3⟩ := hrel
                  have hKl : K.length = m := by have := congrArg List.length HKm.out; rw [List.length_map, List.length_take] at this; omega
                  obtain ⟨na3, nc3, rfl, hnl3⟩ := own_form HO3.out
                  have z5 := ((HAT.out k hlt0).below bel3 hlg).c5
                  rw [HXe.out] at z5
                  by_cases hmt : m < x.e.kids.length
                  · have hmt' : (m : Int) < (x.e.kids.length : Int) := by omega
                    obtain ⟨g3, o3, hxa, hg3, hKS⟩ := HXK.out (by omega)
                    obtain ⟨a3, c3, hy, hyE⟩ := hKS m hmt
                    obtain ⟨y0, y1, y2, y3, y4, y5⟩ := hy.below bel3 hg3
                    rw [hxa] at z5
                    clear hxa
                    have HKn : Hid (x.e.kids.take (m + 1) = x.e.kids.take m ++ [atE x.e.kids m]) := by show _ = _; rw [List.take_add_one, List.getElem?_eq_getElem hmt, atE_eq hmt]; rfl
                    generalize atE x.e.kids m = ke at y0 y1 y2 y3 y4 y5 hyE HKn
                    have HyE : Hid _ := hyE
                    have hnk : (N ++ K).length ≤ 1048576 := by rw [List.length_append]; omega
                    have hflat := flatX_len (N ++ K)
                    obtain ⟨fl, hfl⟩ : ∃ fl, (N ++ K).flatMap X.cells = fl := ⟨_, rfl⟩
                    obtain ⟨nl, hnl⟩ : ∃ nl, (N ++ K).length = nl := ⟨_, rfl⟩
                    rw [hfl, hnl] at HO3
                    rw [hnl] at hnk hflat
                    rw [hfl] at hflat
                    have HFL : Hid _ := hfl
                    have HNL : Hid _ := hnl
                    have hnk' : (nl : Int) < 1048577 := by omega
                    have HB3 : Hid (Below W1.heap.size W1 _) := bel3.alloc bel3.size (.cells #[.int .i8 ke.op, .string ke.t.v, .int .i8 ke.t.a.k, .int .i64 ke.t.a.n, .string ke.t.a.s, .slice a3 ke.kids.length c3] 74)
                    rw [hnl]
                    clear hKS hy hyE hfl hnl hflat
                    go_wp2_with (first
                      | (at_builtin; refine wpList_append_own_at _ rfl _ _ 72 rfl W1.heap.size 74 i0 _ 6 80 Tryz.underlying72 hi0 hz0 hz1 hz2 rfl (by decide) _ _ _ rfl (own_below HO3.out ((Below.refl _ _).alloc (Nat.le_refl _) _)) ⟨wr.heap.size, 0, none⟩ 1 1 [.int .i8 ke.op, .string ke.t.v, .int .i8 ke.t.a.k, .int .i64 ke.t.a.n, .string ke.t.a.s, .slice a3 ke.kids.length c3] rfl rfl (lit_news wr #[.int .i8 ke.op, .string ke.t.v, .int .i8 ke.t.a.k, .int .i64 ke.t.a.n, .string ke.t.a.s, .slice a3 ke.kids.length c3] _) (by simp [Value.oneCell']) (by unfold maxLen; omega) (by omega) (by have := bel3.size; simp; omega) ?_; intro v' w2 hown' hgrow hnil hloc)
                      | fail)
                    have hB4 : Below W1.heap.size W1 w2 := HB3.out.grown hgrow (by have := bel3.size; simp; omega) (fun q hq => (HO3.out.lt q hq).1)
                    have hO4 : w2.ownsRow W1.heap.size 74 6 v' (N ++ (K ++ [(⟨ke, a3, c3⟩ : X)])).length ((N ++ (K ++ [(⟨ke, a3, c3⟩ : X)])).flatMap X.cells) := by
                      rw [← List.append_assoc, List.flatMap_append, HFL.out, List.length_append, HNL.out]
                      exact hown'
                    go_roundw
                    case rel => exact ⟨m + 1, K ++ [(⟨ke, a3, c3⟩ : X)], by omega, by go_num, hB4, by show _ = _; rw [List.map_append, HKm.out, HKn.out]; rfl, hO4, fun y hy => by
                      rw [← List.append_assoc, List.mem_append] at hy
                      rcases hy with hy | hy
                      · exact HE3.out y hy
                      · obtain rfl := List.mem_singleton.1 hy
                        exact HyE.out⟩
                    case measure => simp [intOf]; omega
                  · obtain rfl : m = x.e.kids.length := by omega
                    rw [List.take_length] at HKm
                    have HSn : Hid (((∀ y ∈ N ++ K, smallE dp y.e) → ∀ y ∈ L.take (k + 1), smallE (dp + 1) y.e) ∧ szL (dp + 1) (L.take (k + 1)) = (k + 1) + szL dp (N ++ K)) := by
                      refine ⟨fun h y hy => ?_, ?_⟩
                      · rw [HTk.out, List.mem_append] at hy
                        rcases hy with hy | hy
                        · exact HSN.out.1 (fun z hz => h z (List.mem_append_left _ hz)) y hy
                        · obtain rfl := List.mem_singleton.1 hy
                          exact small_step (by omega) HKm.out (fun z hz => h z (List.mem_append_right _ hz))
                      · rw [HTk.out, szL_append, szL_append, HSN.out.2, szL_single HKm.out]
                        omega
                    go_wp2
                    go_roundw
                    case rel => exact ⟨k + 1, N ++ K, by omega, by go_num, by rw [List.length_append]; omega, bel3, HO3.out, HE3.out, HSn.out⟩
                    case measure => simp [intOf]; omega
            · obtain rfl : k = L.length := by omega
              have HFin : Hid (((∀ x ∈ N, smallE dp x.e) → smallE d e) ∧ szD d e = M + szL dp N) := by
                refine ⟨fun h => HSm.out.1 (by have := HSN.out.1 h; rwa [List.take_length] at this), ?_⟩
                have h1 := HSm.out.2
                have h2 := HSN.out.2
                rw [List.take_length] at h2
                rw [h1, h2]
                omega
              have HLN : Hid (Lx wr (.slice na N.length nc) dp N) := ⟨ls_own HO.out, fun x hx => (HEN.out x hx).below bel2⟩
              go_wp2
              go_roundw
              case rel => exact ⟨M, dd + 1, dp, N, rfl, by go_num, hM2, by omega, by omega, bel.trans (bel2.mono bel.size), HLN, HFin⟩
              case measure => simp [intOf]; omega
    · have hL0' : ¬ (0 : Int) < (L.length : Int) := by omega
      have HN : Hid (smallE d e ∧ szD d e = nn) := by
        refine ⟨HSm.out.1 (fun x hx => absurd (List.length_pos_of_mem hx) hL0), ?_⟩
        have h1 := HSm.out.2
        obtain rfl : L = [] := List.length_eq_zero_iff.1 (by omega)
        rw [h1]
        simp [szL]
      clear hat
      go_wp2
      go_ret
      exact ⟨_, rfl, bel, ⟨by omega, by omega⟩, fun _ => ⟨HN.out.1, by rw [HN.out.2]; omega⟩⟩
end Go.Proofs.YtgplipfebnigiaaGreatDoor
end
section
namespace Go.Proofs.YtgplipfebnigiaaGreatDoor
open Go.RowKit Go.Maps
set_option linter.unusedVariables false
set_option linter.unusedSimpArgs false
attribute [local go_sem ↓] Go.wp_at_zero Go.wp_at_succ

/-- how deep an expression is -/
def depthD : Nat → E → Nat
  | 0, _ => 0
  | d + 1, e => (e.kids.map (depthD d)).foldl max 0 + 1
theorem foldl_max_ge : ∀ (l : List Nat) (m : Nat), m ≤ l.foldl max m
  | [], m => Nat.le_refl _
  | x :: l, m => Nat.le_trans (Nat.le_max_left m x) (foldl_max_ge l (max m x))
theorem foldl_max_le : ∀ (l : List Nat) (m b : Nat), m ≤ b → (∀ x ∈ l, x ≤ b) → l.foldl max m ≤ b
  | [], m, b, h, _ => h
  | x :: l, m, b, h, hl => foldl_max_le l (max m x) b (Nat.max_le.2 ⟨h, hl x List.mem_cons_self⟩) (fun y hy => hl y (List.mem_cons_of_mem _ hy))
theorem mem_flat_len (d : Nat) {l : List E} {e : E} (h : e ∈ l) : (termsD d e).length ≤ (l.flatMap (termsD d)).length := by
  induction l with
  | nil => cases h
  | cons x l ih =>
    rw [List.flatMap_cons, List.length_append]
    rcases List.mem_cons.1 h with rfl | h
    · omega
    · have := ih h; omega
theorem depth_le : ∀ (d : Nat) (e : E), depthD d e ≤ szD d e
  | 0, _ => Nat.le_refl _
  | d + 1, e => by
    unfold szD
    rw [termsD_succ, List.length_cons, depthD]
    have : (e.kids.map (depthD d)).foldl max 0 ≤ (e.kids.flatMap (termsD d)).length := by
      refine foldl_max_le _ _ _ (Nat.zero_le _) (fun x hx => ?_)
      obtain ⟨k, hk, rfl⟩ := List.mem_map.1 hx
      exact Nat.le_trans (depth_le d k) (mem_flat_len d hk)
    omega
theorem max_take {l : List Nat} {k : Nat} (h : k < l.length) : (l.take (k + 1)).foldl max 0 = max ((l.take k).foldl max 0) l[k] := by
  rw [List.take_succ_eq_append_getElem h, List.foldl_append]
  rfl
end Go.Proofs.YtgplipfebnigiaaGreatDoor
end
section
namespace Go.Proofs.YtgplipfebnigiaaGreatDoor
open Go.RowKit Go.Maps
set_option linter.unusedVariables false
set_option linter.unusedSimpArgs false
attribute [local go_sem ↓] Go.wp_at_zero Go.wp_at_succ

theorem termsD_wf {w : World} : ∀ (d : Nat) (e : E) (a : Option Addr) (c : Nat), EIs w d e a c → ∀ t ∈ termsD d e, t.wf
  | 0, e, a, c, h, t, ht => absurd h (fun h => h)
  | d + 1, e, a, c, h, t, ht => by
    obtain ⟨_, htw, _, _, hk⟩ := h
    rw [termsD_succ] at ht
    rcases List.mem_cons.1 ht with rfl | ht
    · exact htw
    · obtain ⟨x, hx, htx⟩ := List.mem_flatMap.1 ht
      obtain ⟨i, hi, rfl⟩ := List.getElem_of_mem hx
      obtain ⟨g, off, _, _, hKS⟩ := hk (by omega)
      obtain ⟨a', c', _, he⟩ := hKS i hi
      rw [atE_eq hi] at he
      exact termsD_wf d _ a' c' he t htx
theorem infoTm : (Tryz.prog.info? 46).map (fun i => (i.zero, i.size, i.bytes)) = some (some (.agg #[.string ⟨#[]⟩, .int .i8 0, .int .i64 0, .string ⟨#[]⟩]), 4, 48) := by kernel_rfl
/-- a list of one's own that a call was handed and may have put elsewhere -/
structure Grew (w : World) (sv : Value) (w' : World) (sv' : Value) : Prop where
  gr : w.grownBy w' sv.ownBlock
  loc : sv'.ownBlock = sv.ownBlock ∨ ∃ b, sv'.ownBlock = some b ∧ w.heap.size ≤ b
theorem Grew.trans {w w1 w2 : World} {sv sv1 sv2 : Value} (h : Grew w sv w1 sv1) (h2 : Grew w1 sv1 w2 sv2) : Grew w sv w2 sv2 := by
  refine ⟨⟨h2.gr.os.trans h.gr.os, h2.gr.tape.trans h.gr.tape, h2.gr.output.trans h.gr.output, Nat.le_trans h.gr.size h2.gr.size, fun k hk hn => ?_⟩, ?_⟩
  · rw [h2.gr.block k (Nat.lt_of_lt_of_le hk h.gr.size) (fun e => ?_), h.gr.block k hk hn]
    rcases h.loc with l | ⟨b, l, hb⟩
    · exact hn (e.trans l)
    · rw [l] at e
      have := Option.some.inj e
      omega
  · rcases h2.loc with l2 | ⟨b, l2, hb⟩
    · rcases h.loc with l | ⟨b, l, hb⟩
      · exact .inl (l2.trans l)
      · exact .inr ⟨b, l2.trans l, hb⟩
    · exact .inr ⟨b, l2, Nat.le_trans h.gr.size hb⟩
set_option maxHeartbeats 3200000 in
theorem exprTerms_any {w0 : World} : ∀ (d : Nat) (e : E) (a : Option Addr) (c : Nat) (sv : Value) (ls : List T) (w : World), EIs w0 d e a c → Below w0.heap.size w0 w → w0.heap.size ≤ w.heap.size → w.ownsRow w0.heap.size 46 4 sv ls.length (ls.flatMap T.cells) → ls.length + szD d e ≤ 1000000000000 →
    Calls Tryz.prog 113 #[sv, e.val a c] w fun r w' => ∃ sv', r = .returned sv' ∧ w'.ownsRow w0.heap.size 46 4 sv' (ls ++ termsD d e).length ((ls ++ termsD d e).flatMap T.cells) ∧ Grew w sv w' sv' := by
  intro d
  induction d with
  | zero => intro e a c sv ls w hE; exact absurd hE (fun h => h)
  | succ d ih =>
  intro e a c sv ls w hE hbw hzw hown hs
  obtain ⟨i0, hi0, hz0, hz1, hz2⟩ := info_parts infoTm
  obtain ⟨⟨hop, hkl⟩, htw, hc1, hc2, hk⟩ := hE
  have HK : Hid _ := hk
  have HIH : Hid _ := ih
  obtain ⟨ao, co, rfl, hlo⟩ := own_form hown
  have HLT : Hid (∀ g, (Value.slice ao ls.length co).ownBlock = some g → w0.heap.size ≤ g ∧ g < w.heap.size) := fun g hg => hown.lt g hg
  have hs2 : ls.length + 1 + (e.kids.flatMap (termsD d)).length ≤ 1000000000000 := by
    unfold szD at hs
    rw [termsD_succ, List.length_cons] at hs
    omega
  have HS2 : Hid _ := hs2
  have hl1 : ls.length ≤ 1000000000000 := by omega
  have HBW : Hid _ := hbw
  have HOWN : Hid _ := hown
  obtain ⟨r, HR⟩ : ∃ r, Hid (ls ++ termsD (d + 1) e = r) := ⟨_, rfl⟩
  rw [HR.out]
  clear hk ih hop htw hs hs2 hown hbw
  unfold E.val
  go_enter Tryz.func113, Tryz.ntmps113
  go_upto_region 1 with fail
  have HG0 : Hid (Grew w (.slice ao ls.length co) (w.alloc (.cells #[.int .i8 e.op, .string e.t.v, .int .i8 e.t.a.k, .int .i64 e.t.a.n, .string e.t.a.s, .slice a e.kids.length c] 74)) (.slice ao ls.length co)) := ⟨⟨rfl, rfl, rfl, by simp, fun k hk _ => Below.heap_alloc w _ k hk⟩, .inl rfl⟩
  have HXA : Hid (XAt (w.alloc (.cells #[.int .i8 e.op, .string e.t.v, .int .i8 e.t.a.k, .int .i64 e.t.a.n, .string e.t.a.s, .slice a e.kids.length c] 74)) w.heap.size 0 e.op e.t (.slice a e.kids.length c)) := by refine ⟨?_, ?_, ?_, ?_, ?_, ?_⟩ <;> go_simp
  have hzW : (w.alloc (.cells #[.int .i8 e.op, .string e.t.v, .int .i8 e.t.a.k, .int .i64 e.t.a.n, .string e.t.a.s, .slice a e.kids.length c] 74)).heap.size = w.heap.size + 1 := by simp
  have HOW : Hid ((w.alloc (.cells #[.int .i8 e.op, .string e.t.v, .int .i8 e.t.a.k, .int .i64 e.t.a.n, .string e.t.a.s, .slice a e.kids.length c] 74)).ownsRow w0.heap.size 46 4 (.slice ao ls.length co) ls.length (ls.flatMap T.cells)) := own_below HOWN.out ((Below.refl _ _).alloc (Nat.le_refl _) _)
  generalize w.alloc (.cells #[.int .i8 e.op, .string e.t.v, .int .i8 e.t.a.k, .int .i64 e.t.a.n, .string e.t.a.s, .slice a e.kids.length c] 74) = W at HG0 HXA hzW HOW ⊢
  obtain ⟨y0, y1, y2, y3, y4, y5⟩ := HXA.out
  simp only [Nat.zero_add] at y0 y1 y2 y3 y4 y5
  have HZW : Hid _ := hzW
  have hzb : w0.heap.size ≤ W.heap.size := by omega
  clear hzW
  go_wp2_with (at_builtin; refine wpList_append_own_at _ rfl _ _ 59 rfl w0.heap.size 46 i0 _ 4 48 Tryz.underlying59 hi0 hz0 hz1 hz2 rfl (by decide) _ _ _ rfl (own_below HOW.out ((Below.refl _ _).alloc (Nat.le_refl _) _)) ⟨_, 0, none⟩ 1 1 [.string e.t.v, .int .i8 e.t.a.k, .int .i64 e.t.a.n, .string e.t.a.s] rfl rfl (lit_news _ #[.string e.t.v, .int .i8 e.t.a.k, .int .i64 e.t.a.n, .string e.t.a.s] _) (by simp [Value.oneCell']) (by unfold maxLen; omega) (by omega) (by simp; omega) ?_; intro v' w2 hown' hgrow hnil hloc)
  have G1 : Grew W (.slice ao ls.length co) w2 v' := by
    refine ⟨⟨hgrow.os, hgrow.tape, hgrow.output, Nat.le_trans (by simp) hgrow.size, fun k hk hn => (hgrow.block k (by simp; omega) hn).trans (Below.heap_alloc W _ k hk)⟩, ?_⟩
    rcases hloc with l | l
    · exact .inl l
    · exact .inr ⟨_, l, by simp⟩
  obtain ⟨a1, c1, rfl, _⟩ := own_form hown'
  have hl1 : (ls ++ [e.t]).length = ls.length + 1 := by simp
  have HO1 : Hid (w2.ownsRow w0.heap.size 46 4 (.slice a1 (ls ++ [e.t]).length c1) (ls ++ [e.t]).length ((ls ++ [e.t]).flatMap T.cells)) := by
    show World.ownsRow _ _ _ _ _ _ _
    rw [hl1, List.flatMap_append]
    exact hown'
  have HR1 : Hid ((ls ++ [e.t]) ++ e.kids.flatMap (termsD d) = r) := by
    show _ = r
    rw [← HR.out, termsD_succ, List.append_assoc]
    rfl
  have HG1 : Hid (Grew W (.slice ao ls.length co) w2 (.slice a1 (ls ++ [e.t]).length c1)) := by rw [hl1]; exact G1
  have HS3 : Hid ((ls ++ [e.t]).length + (e.kids.flatMap (termsD d)).length ≤ 1000000000000) := by
    show _ ≤ _
    rw [hl1]
    exact HS2.out
  have HBX : Hid (∀ (u : World) (sx : Value), Grew W (.slice ao ls.length co) u sx → Below w0.heap.size w0 u ∧ w0.heap.size ≤ u.heap.size ∧ u.cell? ⟨w.heap.size, 5, none⟩ = some (.slice a e.kids.length c)) := fun u sx hg => by
    have hb1 : Below w0.heap.size w0 W := by
      refine HBW.out.grown HG0.out.gr hzw (fun j hj => (HLT.out j hj).1)
    refine ⟨hb1.grown hg.gr hzb (fun j hj => (HLT.out j hj).1), Nat.le_trans hzb hg.gr.size, ?_⟩
    rw [World.cell?_of_block (a := ⟨w.heap.size, 5, none⟩) (hg.gr.block w.heap.size (by rw [HZW.out]; omega) (fun e => by have := (HLT.out _ e.symm).2; omega))]
    exact y5
  rw [← hl1]
  generalize hL1 : ls ++ [e.t] = l1 at HO1 HR1 HG1 HS3
  clear hown' hgrow hnil hloc G1 hl1 y0 y1 y2 y3 y4 y5 HOW HXA HOWN HR HS2 hL1
  go_loopw [0, 5] (fun lv i wr => ∃ (k : Nat) (ls' : List T) (a' : Option Addr) (c' : Nat), k ≤ e.kids.length ∧ i = .int .i64 k ∧ lv = .slice a' ls'.length c' ∧ Hid (wr.ownsRow w0.heap.size 46 4 (.slice a' ls'.length c') ls'.length (ls'.flatMap T.cells)) ∧ Hid (Grew W (.slice ao ls.length co) wr (.slice a' ls'.length c')) ∧ Hid (ls' ++ (e.kids.drop k).flatMap (termsD d) = r) ∧ Hid (ls'.length + ((e.kids.drop k).flatMap (termsD d)).length ≤ 1000000000000)) (fun _ i _ => e.kids.length - (intOf i).toNat)
  case atStart => exact ⟨0, l1, a1, c1, Nat.zero_le _, rfl, rfl, HO1, HG1, HR1, HS3⟩
  case round =>
    obtain ⟨k, ls', a', c', hk, rfl, rfl, HO, HG, HRk, HSk⟩ := hrel
    obtain ⟨hbu, hzu, y5⟩ := HBX.out wr _ HG.out
    by_cases hlt : k < e.kids.length
    · have hlt' : (k : Int) < (e.kids.length : Int) := by omega
      have hk0 : (0 : Int) ≤ (k : Int) := by omega
      obtain ⟨g', off', rfl, hg', hKS⟩ := HK.out (by omega)
      obtain ⟨a'', c'', hxk, hek⟩ := hKS k hlt
      obtain ⟨x0, x1, x2, x3, x4, x5⟩ := hxk.below hbu hg'
      have hfd := flat_drop d hlt
      have hle := HSk.out
      rw [hfd, List.length_append] at hle
      have HI : Hid _ := HIH.out (atE e.kids k) a'' c'' (.slice a' ls'.length c') ls' wr hek hbu hzu HO.out (by unfold szD; omega)
      have HR2 : Hid ((ls' ++ termsD d (atE e.kids k)) ++ (e.kids.drop (k + 1)).flatMap (termsD d) = r) := by
        show _ = r
        rw [List.append_assoc, ← hfd]
        exact HRk.out
      have HS2 : Hid ((ls' ++ termsD d (atE e.kids k)).length + ((e.kids.drop (k + 1)).flatMap (termsD d)).length ≤ 1000000000000) := by
        show _ ≤ _
        rw [List.length_append]
        omega
      unfold E.val at HI
      clear hKS hxk hek hfd hle HRk HSk hbu hzu
      generalize ls' ++ termsD d (atE e.kids k) = l2 at HI HR2 HS2
      generalize atE e.kids k = ke at HI x0 x1 x2 x3 x4 x5
      go_wp2_with fail
      refine Calls.mono HI.out ?_
      rintro ee w3 ⟨sv3, rfl, ho3, hg3⟩
      obtain ⟨a3, c3, rfl, _⟩ := own_form ho3
      have HG3 : Hid _ := Grew.trans HG.out hg3
      have HO3 : Hid _ := ho3
      clear ho3 hg3 x0 x1 x2 x3 x4 x5 y5
      go_wp2
      go_roundw
      case rel => exact ⟨k + 1, l2, a3, c3, by omega, by go_num, rfl, HO3.out, HG3.out, HR2, HS2⟩
      case measure => simp [intOf]; omega
    · obtain rfl : k = e.kids.length := by omega
      have HV : Hid (ls' = r) := by show ls' = r; rw [← HRk.out, List.drop_length]; simp
      go_wp2
      go_ret
      rw [← HV.out]
      exact ⟨_, rfl, HO.out, Grew.trans HG0.out HG.out⟩
end Go.Proofs.YtgplipfebnigiaaGreatDoor
end
