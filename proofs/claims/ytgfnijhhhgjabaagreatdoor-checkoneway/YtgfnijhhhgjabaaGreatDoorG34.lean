import Derived.Test.YtgfnijhhhgjabaaGreatDoorG31
import Derived.Test.YtgfnijhhhgjabaaGreatDoorG32
import Derived.Test.YtgfnijhhhgjabaaGreatDoorG42
import Derived.Test.YtgfnijhhhgjabaaGreatDoorG43
import Derived.Test.YtgfnijhhhgjabaaGreatDoorG16
section
namespace Go.Proofs.YtgfnijhhhgjabaaGreatDoor
open Go.RowKit Go.Maps Go.ChangeMaps
set_option linter.unusedVariables false
set_option linter.unusedSimpArgs false
attribute [local go_sem ↓] Go.wp_at_zero Go.wp_at_succ

theorem own_lower {w : World} {B B' k n : Nat} {ty : TypeId} {v : Value} {xs : List Value} (h : w.ownsRow B ty k v n xs) (hb : B' ≤ B) : w.ownsRow B' ty k v n xs := by
  obtain ⟨h1, h2 | ⟨g, cap, cur, e, hB, r⟩⟩ := h
  · exact ⟨h1, .inl h2⟩
  · exact ⟨h1, .inr ⟨g, cap, cur, e, Nat.le_trans hb hB, r⟩⟩
/-- one predicate let in -/
def takeP (s : List Pd) (p : Pd) : List Pd × Bool := match seekP s p.n with
  | some q => (s, decide (q.a = p.a))
  | none => (s ++ [p], true)
theorem takeP_nodup {s : List Pd} (h : (s.map Pd.n).Nodup) (p : Pd) : ((takeP s p).1.map Pd.n).Nodup := by
  unfold takeP
  cases hq : seekP s p.n with
  | none => exact nodup_more h hq
  | some q => exact h
theorem takeP_len (s : List Pd) (p : Pd) : (takeP s p).1.length ≤ s.length + 1 := by
  unfold takeP
  cases seekP s p.n with
  | none => simp
  | some q => simp
theorem letL_cons (s : List Pd) (p : Pd) (l : List Pd) : letL s (p :: l) = if (takeP s p).2 = true then letL (takeP s p).1 l else none := by
  rw [letL]
  unfold takeP
  cases seekP s p.n with
  | none => rfl
  | some q =>
    simp only [decide_eq_true_eq]
theorem infoPd : (Tryz.prog.info? 129).map (fun i => (i.zero, i.size, i.bytes)) = some (some (.agg #[.string ⟨#[]⟩, .int .i64 0]), 2, 24) := by kernel_rfl
theorem oneCells_pd (p : Pd) : p.cells.toArray.all (·.oneCell') = true := by simp [Pd.cells, Value.oneCell']
set_option maxHeartbeats 1600000 in
theorem take_any {w : World} {b : Nat} {s : List Pd} (h : MapP w b s) (nd : (s.map Pd.n).Nodup) (p : Pd) (hp : p.n.size ≤ maxLen) :
    Calls Tryz.prog 60 #[.map (some b), .agg p.cells.toArray] w fun e w' => e = .returned (.bool (takeP s p).2) ∧ MapP w' b (takeP s p).1 ∧ Tz (fun k => k = b) w w' := by
  have hB := belowA (w := w) (.cells p.cells.toArray 129)
  have hm := h.of_block (hB.block b h.lt)
  have hlk := hm.look nd hp
  have HM := Lib.hid hm
  have HB := Lib.hid hB
  have HTZ : Hid (∀ u, Tz (fun k => k = b) (w.alloc (.cells p.cells.toArray 129)) u → Tz (fun k => k = b) w u) := fun u hu => (Tz.of_below (ex := fun k => k = b) HB.out).trans hu (fun _ _ e => e)
  unfold Pd.cells at *
  cases hq : seekP s p.n with
  | some q =>
    have e1 : lookP s p.n = .tuple #[.int .i64 (q.a : Int), .bool true] := by unfold lookP; rw [hq]
    have HTP : Hid (takeP s p = (s, decide (q.a = p.a))) := by show _ = _; unfold takeP; rw [hq]
    rw [e1] at hlk
    rw [HTP.out]
    have hz : Below w.heap.size w (w.alloc (.cells [.string p.n, .int .i64 (p.a : Int)].toArray 129)) := HB.out
    clear hq e1 h hm hB
    by_cases he : q.a = p.a
    · have e2 : ((q.a : Int) == (p.a : Int)) = true := by rw [he]; simp
      have HD : Hid (decide (q.a = p.a) = true) := decide_eq_true he
      rw [HD.out]
      clear he
      go_enter Tryz.func60, Tryz.ntmps60
      go_wp2
      go_ret
      exact ⟨rfl, HM.out, HTZ.out _ (Tz.refl _ _)⟩
    · have e2 : ((q.a : Int) == (p.a : Int)) = false := by rw [beq_eq_false_iff_ne]; omega
      have HD : Hid (decide (q.a = p.a) = false) := decide_eq_false he
      rw [HD.out]
      clear he
      go_enter Tryz.func60, Tryz.ntmps60
      go_wp2
      go_ret
      exact ⟨rfl, HM.out, HTZ.out _ (Tz.refl _ _)⟩
  | none =>
    have e1 : lookP s p.n = .tuple #[.int .i64 0, .bool false] := by unfold lookP; rw [hq]
    have HTP : Hid (takeP s p = (s ++ [p], true)) := by show _ = _; unfold takeP; rw [hq]
    obtain ⟨w2, hrun, hm2, ht2⟩ := hm.put hp hq
    have HM2 := Lib.hid hm2
    have HT2 := Lib.hid ht2
    rw [e1] at hlk
    rw [HTP.out]
    clear hq e1 h hm hB hm2 ht2
    go_enter Tryz.func60, Tryz.ntmps60
    go_wp2
    go_ret
    exact ⟨rfl, HM2.out, HTZ.out _ HT2.out⟩
/-- what takeAll comes to -/
def TaP (b : Nat) (s l : List Pd) (w : World) (e : Ending) (w' : World) : Prop :=
  Tz (fun k => k = b) w w' ∧ ((∃ s', letL s l = some s' ∧ e = .returned (.bool true) ∧ MapP w' b s' ∧ (s'.map Pd.n).Nodup ∧ s'.length ≤ s.length + l.length) ∨ (letL s l = none ∧ e = .returned (.bool false)))
set_option maxHeartbeats 1600000 in
theorem takeAll_any {w : World} {b : Nat} {s : List Pd} (h : MapP w b s) (nd : (s.map Pd.n).Nodup) (v : Value) (l : List Pd) (hl : Ls w v l.length (l.flatMap Pd.cells)) (hn : ∀ p ∈ l, p.n.size ≤ maxLen) (hb : ∀ g off n c, v = .slice (some ⟨g, off, none⟩) n c → g ≠ b) :
    Calls Tryz.prog 58 #[.map (some b), v] w fun e w' => TaP b s l w e w' := by
  obtain ⟨a, c, rfl, hc1, hc2, hat⟩ := ls_range (f := Pd.cells) (k := 2) (fun _ => rfl) Pd0 hl
  have hmax : l.length ≤ maxLen := Nat.le_trans hc1 hc2
  unfold maxLen at hmax
  have HAT := Lib.hid hat
  have HN := Lib.hid hn
  have HNB := Lib.hid hb
  have HM0 := Lib.hid h
  have HND := Lib.hid nd
  clear hat hl hn hb h nd
  go_enter Tryz.func58, Tryz.ntmps58
  go_wp2
  go_loopw [9] (fun i wr => ∃ (k : Nat) (t : List Pd), k ≤ l.length ∧ i = .int .i64 k ∧ Hid (letL s l = letL t (l.drop k)) ∧ Hid (MapP wr b t) ∧ Hid (Tz (fun k => k = b) w wr) ∧ Hid ((t.map Pd.n).Nodup ∧ t.length ≤ s.length + k)) (fun i _ => l.length - (intOf i).toNat)
  case atStart => exact ⟨0, s, Nat.zero_le _, rfl, rfl, HM0, Tz.refl _ _, ⟨HND.out, Nat.le_refl _⟩⟩
  case round =>
    clear HM0 HND
    obtain ⟨k, t, hk, rfl, HTK, HM, HT, HNL⟩ := hrel
    obtain ⟨U, rfl⟩ : ∃ U, U = wr := ⟨_, rfl⟩
    by_cases hlt : k < l.length
    · have hlt' : (k : Int) < (l.length : Int) := by omega
      have hk0 : (0 : Int) ≤ (k : Int) := by omega
      obtain ⟨g, off, rfl, hg, hT⟩ := HAT.out (by omega)
      have hgb : g ≠ b := HNB.out g off _ _ rfl
      have hp : l[k] ∈ l := List.getElem_mem hlt
      have HDR : Hid (l.drop k = l[k] :: l.drop (k + 1)) := List.drop_eq_getElem_cons hlt
      have r0 := hT k hlt
      rw [show l.getD k Pd0 = l[k] from atPd_eq hlt] at r0
      obtain ⟨p, hpe⟩ : ∃ p, l[k] = p := ⟨_, rfl⟩
      rw [hpe] at hp r0 HDR
      have c0 : U.cell? ⟨g, off + k * 2, none⟩ = some (.string p.n) := by
        rw [World.cell?_of_block (w := w) (HT.out.block g hg hgb)]
        exact r0 0 _ rfl
      have c1 : U.cell? ⟨g, off + k * 2 + 1, none⟩ = some (.int .i64 (p.a : Int)) := by
        rw [World.cell?_of_block (w := w) (HT.out.block g hg hgb)]
        exact r0 1 _ rfl
      have hB := belowA (w := U) (.cells #[.string p.n, .int .i64 (p.a : Int)] 129)
      have HC := Lib.hid (take_any (HM.out.of_block (hB.block b HM.out.lt)) HNL.out.1 p (HN.out p hp))
      have HTB : Hid (∀ u, Tz (fun k => k = b) (U.alloc (.cells #[.string p.n, .int .i64 (p.a : Int)] 129)) u → Tz (fun k => k = b) w u) := fun u hu => (HT.out.trans (Tz.of_below (ex := fun k => k = b) hB) (fun _ _ e => e)).trans hu (fun _ _ e => e)
      have HKN : Hid (letL s l = if (takeP t p).2 = true then letL (takeP t p).1 (l.drop (k + 1)) else none) := by show _ = _; rw [HTK.out, HDR.out, letL_cons]
      have HNN : Hid (((takeP t p).1.map Pd.n).Nodup ∧ (takeP t p).1.length ≤ s.length + (k + 1)) := ⟨takeP_nodup HNL.out.1 p, by have := takeP_len t p; have := HNL.out.2; omega⟩
      unfold Pd.cells at HC
      generalize takeP t p = tp at HC HKN HNN
      obtain ⟨t2, b2⟩ := tp
      clear hT r0 hp hpe hB HTK HM HT HNL HDR
      cases b2
      · go_wp2_with fail
        refine HC.out.mono ?_
        rintro e w' ⟨rfl, hm, ht⟩
        have HT2 := Lib.hid (HTB.out w' ht)
        clear hm ht HC HTB
        go_wp2
        go_ret
        exact ⟨HT2.out, .inr ⟨HKN.out, rfl⟩⟩
      · go_wp2_with fail
        refine HC.out.mono ?_
        rintro e w' ⟨rfl, hm, ht⟩
        have HT2 := Lib.hid (HTB.out w' ht)
        have HM2 := Lib.hid hm
        clear hm ht HC HTB
        go_wp2
        go_roundw
        case rel => exact ⟨k + 1, t2, by omega, by go_num, HKN, HM2, HT2, HNN⟩
        case measure => simp [intOf]; omega
    · obtain rfl : k = l.length := by omega
      rw [List.drop_length] at HTK
      go_wp2
      go_ret
      exact ⟨HT.out, .inl ⟨t, by rw [HTK.out]; rfl, rfl, HM.out, HNL.out.1, HNL.out.2⟩⟩
def slLnP : Value → Nat | .slice _ n _ => n | _ => 0
theorem tz_iter {w u : World} {r : Nat} {o : Obj} (hr : w.heap.size ≤ r) (h : Below w.heap.size w u) (hs : w.heap.size ≤ u.heap.size) : Below w.heap.size w (setBlock u r o) :=
  ⟨h.os, h.tape, h.output, by simp [setBlock]; exact h.size, fun k hk => by
    show (u.heap.setIfInBounds r o)[k]? = _
    rw [Array.getElem?_setIfInBounds_ne (by omega)]
    exact h.block k hk⟩
theorem heap_setBlk {u : World} {r : Nat} {o : Obj} (h : r < u.heap.size) : (setBlock u r o).heap[r]? = some o := by
  show (u.heap.setIfInBounds r o)[r]? = _
  rw [Array.getElem?_setIfInBounds_self_of_lt h]
theorem heap_setBlk_ne {u : World} {r k : Nat} {o : Obj} (h : k ≠ r) : (setBlock u r o).heap[k]? = u.heap[k]? := by
  show (u.heap.setIfInBounds r o)[k]? = _
  rw [Array.getElem?_setIfInBounds_ne (Ne.symm h)]
/-- amid the range over the map: what is gathered, what is still to come -/
structure Rg (w : World) (b cl : Nat) (ps : List Pn) (seen : Array Nat) (out : List Pd) (v : Value) (u : World) : Prop where
  it : ∃ c0, cl ≤ c0 ∧ u.heap[w.heap.size]? = some (.mapIter (some b) cl seen c0)
  mp : u.heap[b]? = some (.map (ps.map entP).toArray cl)
  own : u.ownsRow (w.heap.size + 1) 129 2 v out.length (out.flatMap Pd.cells)
  bl : Below w.heap.size w u
  pm : (out ++ (lfP ps seen).map Prod.fst).Perm (ps.map Prod.fst)
  zz : w.heap.size + 1 ≤ u.heap.size
theorem Rg.len {w : World} {b cl : Nat} {ps : List Pn} {seen : Array Nat} {out : List Pd} {v : Value} {u : World} (h : Rg w b cl ps seen out v u) : out.length + (lfP ps seen).length = ps.length := by
  have := h.pm.length_eq
  rw [List.length_append, List.length_map, List.length_map] at this
  exact this
/-- the next entry -/
theorem Rg.next {w : World} {b cl : Nat} {ps : List Pn} {seen : Array Nat} {out : List Pd} {v : Value} {u : World} (h : Rg w b cl ps seen out v u) (hb : b < w.heap.size) (hnd : (ps.map Prod.snd).Nodup) (hlt : ∀ x ∈ ps, x.2 < cl) (ty : TypeId) :
    (lfP ps seen = [] ∧ (Instr.next (.pointer (some ⟨w.heap.size, 0, none⟩)) false ty).run Tryz.prog u = .ok (.tuple #[.bool false]) u) ∨
    ∃ (x : Pn) (u2 : World), (Instr.next (.pointer (some ⟨w.heap.size, 0, none⟩)) false ty).run Tryz.prog u = .ok (.tuple #[.bool true, .string x.1.n, .int .i64 (x.1.a : Int)]) u2 ∧ (Instr.entry (.pointer (some ⟨w.heap.size, 0, none⟩))).run Tryz.prog u2 = .ok (.tuple #[.string x.1.n, .int .i64 (x.1.a : Int)]) u2 ∧
      (∀ v3 u3, u3.ownsRow (w.heap.size + 1) 129 2 v3 (out.length + 1) (out.flatMap Pd.cells ++ x.1.cells) → u3.heap[w.heap.size]? = u2.heap[w.heap.size]? → u3.heap[b]? = u2.heap[b]? → Below w.heap.size w u3 → w.heap.size + 1 ≤ u3.heap.size → Rg w b cl ps (seen.push x.2) (out ++ [x.1]) v3 u3) ∧
      u2.ownsRow (w.heap.size + 1) 129 2 v out.length (out.flatMap Pd.cells) ∧ Below w.heap.size w u2 ∧ u2.heap.size = u.heap.size ∧ out.length < ps.length := by
  obtain ⟨c0, hc0, hit⟩ := h.it
  have hz := h.zz
  have hold : ∀ x ∈ (ps.map entP).toArray.toList, x.born < cl := by
    intro e he
    simp only [List.toList_toArray] at he
    obtain ⟨x, hx, rfl⟩ := List.mem_map.1 he
    exact hlt x hx
  rcases run_next_at (P := Tryz.prog) u ty w.heap.size b cl c0 seen _ cl hit h.mp hold hc0 with ⟨h0, hr⟩ | ⟨e, he, w1, hw1, hr⟩
  · refine .inl ⟨?_, hr⟩
    rw [lfP_left] at h0
    have : (lfP ps seen).length = 0 := by simpa using h0
    exact List.length_eq_zero_iff.1 this
  · rw [lfP_left] at he
    simp only [List.toList_toArray] at he
    obtain ⟨x, hx, rfl⟩ := List.mem_map.1 he
    have hw : w1.heap = u.heap ∧ w1.os = u.os ∧ w1.tape = u.tape ∧ w1.output = u.output := by
      rcases hw1 with rfl | rfl
      · exact ⟨rfl, rfl, rfl, rfl⟩
      · exact ⟨rfl, rfl, rfl, rfl⟩
    have hb1 : Below w.heap.size w w1 := ⟨hw.2.1.trans h.bl.os, hw.2.2.1.trans h.bl.tape, hw.2.2.2.trans h.bl.output, by rw [hw.1]; exact h.bl.size, fun k hk => by rw [hw.1]; exact h.bl.block k hk⟩
    have hsz : w1.heap.size = u.heap.size := by rw [hw.1]
    have hrl : w.heap.size < w1.heap.size := by omega
    have hne : b ≠ w.heap.size := by omega
    have hit2 := heap_setBlk (o := .mapIter (some b) cl (seen.push x.2) cl) hrl
    have hmp2 : (setBlock w1 w.heap.size (.mapIter (some b) cl (seen.push x.2) cl)).heap[b]? = some (.map (ps.map entP).toArray cl) := by rw [heap_setBlk_ne hne, hw.1]; exact h.mp
    have hxm := (List.mem_filter.1 hx).1
    have hll : 0 < (lfP ps seen).length := List.length_pos_of_mem hx
    refine .inr ⟨x, setBlock w1 w.heap.size (.mapIter (some b) cl (seen.push x.2) cl), hr, ?_, fun v3 u3 ho h1 h2 h3 h4 => ⟨⟨cl, Nat.le_refl _, h1.trans hit2⟩, h2.trans hmp2, ?_, h3, ?_, h4⟩, ?_, tz_iter (Nat.le_refl _) hb1 (by omega), by simp [setBlock, hsz], by have := h.len; omega⟩
    · exact run_entry_at (P := Tryz.prog) _ w.heap.size b cl seen _ cl (entP x) hit2 hmp2 (by simp only [List.toList_toArray]; exact List.mem_map.2 ⟨x, hxm, rfl⟩) (by
        simp only [List.toList_toArray, List.map_map]
        exact hnd)
    · rw [List.length_append, List.length_singleton, List.flatMap_append]
      simpa using ho
    · refine List.Perm.trans ?_ h.pm
      rw [List.append_assoc]
      refine List.Perm.append_left out ?_
      exact ((lfP_step ps seen x hnd hx).map Prod.fst).symm
    · exact own_of_block h.own (fun g hg => by
        have := (h.own.lt g hg).1
        rw [heap_setBlk_ne (by omega), hw.1])
attribute [-go_sem] Builtin.append_
set_option maxHeartbeats 3200000 in
theorem preds_any {w : World} {b : Nat} {s : List Pd} (h : MapP w b s) (nd : (s.map Pd.n).Nodup) (hl : s.length ≤ 1000000000) :
    Calls Tryz.prog 62 #[.map (some b)] w fun e w' => ∃ a c rs, e = .returned (.slice a rs.length c) ∧ rs.Perm s ∧ Up rs ∧ w'.ownsRow w.heap.size 129 2 (.slice a rs.length c) rs.length (rs.flatMap Pd.cells) ∧ Below w.heap.size w w' := by
  obtain ⟨i0, hi0, hz0, hz1, hz2⟩ := info_parts infoPd
  have hbl := h.lt
  obtain ⟨ps, cl, hb, hps, hnd, hlt, hw⟩ := h
  have hrg := run_range_map (P := Tryz.prog) w 124 9 3 b _ cl Tryz.underlying124 hb
  have hpl : ps.length = s.length := by rw [← hps, List.length_map]
  have HR0 : Hid (Rg w b cl ps #[] [] (.slice none 0 0) (w.alloc (.mapIter (some b) cl #[] cl))) := by
    have hA := belowA (w := w) (.mapIter (some b) cl #[] cl)
    refine ⟨⟨cl, Nat.le_refl _, Go.heap_alloc_new w _⟩, (hA.block b hbl).trans hb, World.ownsRow_nil _ _ _ _, hA, ?_, by simp⟩
    have : lfP ps #[] = ps := by unfold lfP; exact List.filter_eq_self.2 (fun x _ => by simp)
    rw [this, List.nil_append]
  have HND := Lib.hid hnd
  have HLT := Lib.hid hlt
  have HNS := Lib.hid nd
  have HPS := Lib.hid hps
  clear hnd hlt hw hb nd hps
  go_enter Tryz.func62, Tryz.ntmps62
  go_wp2
  clear hrg
  generalize w.alloc (.mapIter (some b) cl #[] cl) = W0 at HR0 ⊢
  go_loopw [3] (fun v wr => ∃ (seen : Array Nat) (out : List Pd) (a : Option Addr) (c : Nat), v = .slice a out.length c ∧ Hid (Rg w b cl ps seen out (.slice a out.length c) wr)) (fun v _ => ps.length - slLnP v)
  case atStart => exact ⟨#[], [], none, 0, rfl, HR0⟩
  case round =>
    clear HR0
    obtain ⟨seen, out, a, c, rfl, HR⟩ := hrel
    obtain ⟨U, rfl⟩ : ∃ U, U = wr := ⟨_, rfl⟩
    rcases HR.out.next hbl HND.out HLT.out 0 with ⟨h0, hr⟩ | ⟨x, u2, hr, hen, hst, hown, hb2, hsz2, hlen⟩
    · have hpm := HR.out.pm
      rw [h0, List.map_nil, List.append_nil, HPS.out] at hpm
      have hond : (out.map Pd.n).Nodup := (hpm.map Pd.n).nodup_iff.2 HNS.out
      have hol : out.length ≤ 1000000000 := by have := hpm.length_eq; omega
      have HS := Lib.hid (sortPds HR.out.own hond hol)
      have HB := Lib.hid HR.out.bl
      have HPM := Lib.hid hpm
      have HZ := Lib.hid HR.out.zz
      clear h0 hpm hond hol HR
      go_wp2_with fail
      refine HS.out.mono ?_
      rintro e w3 ⟨rfl, rs, hp, hu, ho, hb3⟩
      have HP := Lib.hid hp
      have HU := Lib.hid hu
      have HO := Lib.hid ho
      have HB3 := Lib.hid hb3
      clear hp hu ho hb3 HS hr
      go_wp2
      go_ret
      have hlen : rs.length = out.length := HP.out.length_eq
      refine ⟨a, c, rs, by rw [hlen]; rfl, HP.out.trans HPM.out, HU.out, ?_, HB.out.trans (HB3.out.mono (Nat.le_succ _))⟩
      rw [hlen]
      exact own_lower HO.out (Nat.le_succ _)
    · have hA := belowA (w := u2) (.cells #[.string x.1.n, .int .i64 (x.1.a : Int)] 129)
      have hz2' : w.heap.size + 1 ≤ (u2.alloc (.cells #[.string x.1.n, .int .i64 (x.1.a : Int)] 129)).heap.size := by
        have := HR.out.zz
        have := hA.size
        omega
      obtain ⟨v', w3, hrun, hown', hgrow, hnil, hloc⟩ := run_append_own_at (P := Tryz.prog) (u2.alloc (.cells #[.string x.1.n, .int .i64 (x.1.a : Int)] 129)) (w.heap.size + 1) 100 100 129 i0 _ 2 24 Tryz.underlying100 hi0 hz0 hz1 hz2 rfl (by decide) _ _ _ (own_below hown hA) ⟨_, 0, none⟩ 1 1 [.string x.1.n, .int .i64 (x.1.a : Int)] rfl (lit_news _ #[.string x.1.n, .int .i64 (x.1.a : Int)] _) (by simp [Value.oneCell']) (by unfold maxLen; omega) (by omega) hz2'
      have hgo : ∀ k, k < u2.heap.size → k ≤ w.heap.size → w3.heap[k]? = u2.heap[k]? := fun k hk hk2 => by
        rw [hgrow.block k (by have := hA.size; omega) (fun e => by have := (hown.lt k e.symm).1; omega), hA.block k hk]
      have hu2 : w.heap.size < u2.heap.size := by have := HR.out.zz; omega
      have hB3 : Below w.heap.size w w3 := (hb2.trans (hA.mono hb2.size)).grown hgrow (by omega) (fun j hj => by have := (hown.lt j hj).1; omega)
      have HR2 := Lib.hid (hst v' w3 hown' (hgo _ hu2 (Nat.le_refl _)) (hgo b (by omega) (by omega)) hB3 (by have := hgrow.size; omega))
      obtain ⟨a6, c6, rfl, _⟩ := own_form hown'
      clear hst hown hb2 hsz2 hA hz2' hown' hgrow hnil hloc hgo hu2 hB3 HR
      go_wp2
      go_roundw
      case rel =>
        have : (out ++ [x.1]).length = out.length + 1 := by simp
        rw [← this] at HR2
        exact ⟨_, out ++ [x.1], a6, c6, by simp, HR2⟩
      case measure => simp [slLnP]; omega
end Go.Proofs.YtgfnijhhhgjabaaGreatDoor
end
section
namespace Go.Proofs.YtgfnijhhhgjabaaGreatDoor
open Go.RowKit Go.Maps
set_option linter.unusedVariables false
set_option linter.unusedSimpArgs false
attribute [local go_sem ↓] Go.wp_at_zero Go.wp_at_succ

theorem atomPred_any (pr : ByteArray) (a : Option Addr) (n c : Nat) (w : World) : Calls Tryz.prog 87 #[.agg #[.string pr, .slice a n c]] w fun e w' => e = .returned (.agg #[.string pr, .int .i64 (n : Int)]) ∧ Below w.heap.size w w' := by
  obtain ⟨W1, hW1⟩ : ∃ W1, W1 = w.alloc (.cells #[.string pr, .slice a n c] 48) := ⟨_, rfl⟩
  obtain ⟨W2, hW2⟩ : ∃ W2, W2 = W1.alloc (.cells #[.string ⟨#[]⟩, .int .i64 0] 129) := ⟨_, rfl⟩
  have z1 : W1.heap.size = w.heap.size + 1 := by rw [hW1]; simp
  have b1 : Below w.heap.size w W1 := by rw [hW1]; exact belowA _
  have b2 : Below W1.heap.size W1 W2 := by rw [hW2]; exact belowA _
  have r1 : RL W2 w.heap.size 48 [.string pr, .slice a n c] := by
    have := rl_new w #[.string pr, .slice a n c] 48
    rw [← hW1] at this
    exact RL.below this b2
  have r2 : RL W2 (w.heap.size + 1) 129 [.string ⟨#[]⟩, .int .i64 0] := by
    have := rl_new W1 #[.string ⟨#[]⟩, .int .i64 0] 129
    rw [← hW2, z1] at this
    exact this
  have HR2 := Lib.hid r2
  have HB : Hid (Below w.heap.size w W2) := b1.trans (b2.mono b1.size)
  have c0 := r1.at (j := 0) rfl
  have c1 := r1.at (j := 1) rfl
  have d0 := r2.at (j := 0) rfl
  have d1 := r2.at (j := 1) rfl
  have f0 := World.rowIs.frozen r2 0
  have f1 := World.rowIs.frozen r2 1
  clear b1 b2 r1 r2
  go_enter Tryz.func87, Tryz.ntmps87
  go_upto_region 1 with fail
  rw [← hW1, ← hW2]
  clear hW1 hW2 z1 W1
  go_wp2
  have hd : RL ((W2.setCell ⟨w.heap.size + 1, 0, none⟩ (.string pr)).setCell ⟨w.heap.size + 1, 1, none⟩ (.int .i64 (n : Int))) (w.heap.size + 1) 129 [.string pr, .int .i64 (n : Int)] := (HR2.out.set 0 _).set 1 _
  refine bodyPost_ret (rl_results Tryz.results87 (v := .agg #[.string pr, .int .i64 (n : Int)]) rfl (run_loadVar_mid _ _ 0 129 [.string pr, .int .i64 (n : Int)] _ (RL.range hd) Tryz.underlying129 rfl (by kernel_rfl))) rfl ?_
  refine ⟨rfl, HB.out.os, HB.out.tape, HB.out.output, by simpa using HB.out.size, fun k hk => ?_⟩
  rw [heap_setTwo (b5 := k + 1) (by omega) (by omega)]
  exact HB.out.block k hk
theorem factPred_any (pr : ByteArray) (a : Option Addr) (n c : Nat) (w : World) : Calls Tryz.prog 61 #[.agg #[.string pr, .slice a n c]] w fun e w' => e = .returned (.agg #[.string pr, .int .i64 (n : Int)]) ∧ Below w.heap.size w w' := by
  obtain ⟨W1, hW1⟩ : ∃ W1, W1 = w.alloc (.cells #[.string pr, .slice a n c] 98) := ⟨_, rfl⟩
  obtain ⟨W2, hW2⟩ : ∃ W2, W2 = W1.alloc (.cells #[.string ⟨#[]⟩, .int .i64 0] 129) := ⟨_, rfl⟩
  have z1 : W1.heap.size = w.heap.size + 1 := by rw [hW1]; simp
  have b1 : Below w.heap.size w W1 := by rw [hW1]; exact belowA _
  have b2 : Below W1.heap.size W1 W2 := by rw [hW2]; exact belowA _
  have r1 : RL W2 w.heap.size 98 [.string pr, .slice a n c] := by
    have := rl_new w #[.string pr, .slice a n c] 98
    rw [← hW1] at this
    exact RL.below this b2
  have r2 : RL W2 (w.heap.size + 1) 129 [.string ⟨#[]⟩, .int .i64 0] := by
    have := rl_new W1 #[.string ⟨#[]⟩, .int .i64 0] 129
    rw [← hW2, z1] at this
    exact this
  have HR2 := Lib.hid r2
  have HB : Hid (Below w.heap.size w W2) := b1.trans (b2.mono b1.size)
  have c0 := r1.at (j := 0) rfl
  have c1 := r1.at (j := 1) rfl
  have d0 := r2.at (j := 0) rfl
  have d1 := r2.at (j := 1) rfl
  have f0 := World.rowIs.frozen r2 0
  have f1 := World.rowIs.frozen r2 1
  clear b1 b2 r1 r2
  go_enter Tryz.func61, Tryz.ntmps61
  go_upto_region 1 with fail
  rw [← hW1, ← hW2]
  clear hW1 hW2 z1 W1
  go_wp2
  have hd : RL ((W2.setCell ⟨w.heap.size + 1, 0, none⟩ (.string pr)).setCell ⟨w.heap.size + 1, 1, none⟩ (.int .i64 (n : Int))) (w.heap.size + 1) 129 [.string pr, .int .i64 (n : Int)] := (HR2.out.set 0 _).set 1 _
  refine bodyPost_ret (rl_results Tryz.results61 (v := .agg #[.string pr, .int .i64 (n : Int)]) rfl (run_loadVar_mid _ _ 0 129 [.string pr, .int .i64 (n : Int)] _ (RL.range hd) Tryz.underlying129 rfl (by kernel_rfl))) rfl ?_
  refine ⟨rfl, HB.out.os, HB.out.tape, HB.out.output, by simpa using HB.out.size, fun k hk => ?_⟩
  rw [heap_setTwo (b5 := k + 1) (by omega) (by omega)]
  exact HB.out.block k hk
attribute [-go_sem] loadVar storeVar Builtin.append_
theorem stR_take {r : R3} {k : Nat} (h : k < r.bd.length) : (r.bd.take (k + 1)).flatMap stX = (r.bd.take k).flatMap stX ++ stX (atL r.bd k) := by
  rw [takeXL h, List.flatMap_append]
  simp
theorem stX_len (y : XL) : (stX y).length ≤ 1 := by unfold stX; split <;> simp
theorem stL_len : ∀ l : List XL, (l.flatMap stX).length ≤ l.length
  | [] => Nat.le_refl _
  | y :: l => by
    have := stL_len l
    have := stX_len y
    rw [List.flatMap_cons, List.length_append, List.length_cons]
    omega
theorem stR_len (r : R3) : (stR r).length ≤ r.bd.length + 1 := by
  have := stL_len r.bd
  unfold stR
  rw [List.length_cons]
  omega
theorem rule_name {u : World} {b : Nat} {r : R3} {p : RP} (h : RL u b 25 (r.cells p)) : (loadVar 9 ⟨b, 0, none⟩).run Tryz.prog u = .ok (.string r.pr) u := load_s (RL.at h (j := 0) rfl)
set_option maxHeartbeats 3200000 in
set_option maxRecDepth 100000 in
theorem rulePreds_any (d : Nat) (r : R3) (p : RP) (w : World) (hR : RIs w d r p) (hbl : r.bd.length ≤ 1048576) :
    Calls Tryz.prog 59 #[r.val p] w fun e w' => ∃ a c, e = .returned (.slice a (stR r).length c) ∧ w'.ownsRow w.heap.size 129 2 (.slice a (stR r).length c) (stR r).length ((stR r).flatMap Pd.cells) ∧ Below w.heap.size w w' := by
  obtain ⟨i0, hi0, hz0, hz1, hz2⟩ := info_parts infoPd
  obtain ⟨pa, pc, ba, bc⟩ := p
  have hB := belowA (w := w) (.cells (r.cells ⟨pa, pc, ba, bc⟩).toArray 25)
  have HR0 := Lib.hid (rl_new w (r.cells ⟨pa, pc, ba, bc⟩).toArray 25)
  have HB := Lib.hid hB
  obtain ⟨ba', bc', hv, hc1, hc2, hat⟩ := hR.bd.form
  injection hv with hv1 _ hv2
  subst hv1 hv2
  have HAT := Lib.hid hat
  have hl2 : (loadVar 23 ⟨w.heap.size, 2, none⟩).run Tryz.prog _ = .ok (.slice ba r.bd.length bc) _ := (rule_loads HR0.out).2.1
  have hl1 : (loadVar 22 ⟨w.heap.size, 1, none⟩).run Tryz.prog _ = .ok (.slice pa r.hd.length pc) _ := (rule_loads HR0.out).2.2
  have hl0 := rule_name HR0.out
  have HST : Hid (∀ k, k ≤ r.bd.length → (⟨r.pr, r.hd.length⟩ :: (r.bd.take k).flatMap stX : List Pd).length ≤ 1048577) := fun k hk => by
    have := stL_len (r.bd.take k)
    rw [List.length_take] at this
    rw [List.length_cons]
    omega
  have hbox : (R3.val r ⟨pa, pc, ba, bc⟩) = .agg #[.string r.pr, .slice pa r.hd.length pc, .slice ba r.bd.length bc] := rfl
  have hcl : (r.cells ⟨pa, pc, ba, bc⟩).toArray = #[.string r.pr, .slice pa r.hd.length pc, .slice ba r.bd.length bc] := rfl
  rw [hbox]
  rw [hcl] at hl0 hl1 hl2 HB HR0
  clear hB hR hat hbox hcl
  go_enter Tryz.func59, Tryz.ntmps59
  go_upto_region 1 with fail
  have HR1 : Hid (RL (w.alloc (.cells #[.string r.pr, .slice pa r.hd.length pc, .slice ba r.bd.length bc] 25)) w.heap.size 25 (r.cells ⟨pa, pc, ba, bc⟩)) := HR0.out
  have HZ : Hid ((w.alloc (.cells #[.string r.pr, .slice pa r.hd.length pc, .slice ba r.bd.length bc] 25)).heap.size = w.heap.size + 1) := by show _ = _; simp
  clear HR0
  generalize w.alloc (.cells #[.string r.pr, .slice pa r.hd.length pc, .slice ba r.bd.length bc] 25) = W at HB HR1 HZ hl0 hl1 hl2 ⊢
  have HR2 := Lib.hid (RL.below HR1.out (belowA (w := W) (.cells #[.string r.pr, .int .i64 (r.hd.length : Int)] 129)))
  have hl2' : (loadVar 23 ⟨w.heap.size, 2, none⟩).run Tryz.prog _ = .ok (.slice ba r.bd.length bc) _ := (rule_loads HR2.out).2.1
  have HO : Hid ((W.alloc (.cells #[.string r.pr, .int .i64 (r.hd.length : Int)] 129)).ownsRow W.heap.size 129 2 (.slice (some ⟨W.heap.size, 0, none⟩) 1 1) 1 [.string r.pr, .int .i64 (r.hd.length : Int)]) := World.ownsRow_lit W #[.string r.pr, .int .i64 (r.hd.length : Int)] 1 (Nat.le_refl _) (by decide) rfl
  have HBB := Lib.hid (belowA (w := W) (.cells #[.string r.pr, .int .i64 (r.hd.length : Int)] 129))
  clear hl2 HR1 HR2
  go_wp2
  clear hl0 hl1 hl2'
  generalize W.alloc (.cells #[.string r.pr, .int .i64 (r.hd.length : Int)] 129) = W1 at HO HBB ⊢
  go_loopw [3, 16] (fun v i wr => ∃ (k : Nat) (a' : Option Addr) (c' : Nat) (st : List Pd), k ≤ r.bd.length ∧ i = .int .i64 k ∧ v = .slice a' st.length c' ∧ Hid (st = ⟨r.pr, r.hd.length⟩ :: (r.bd.take k).flatMap stX) ∧ Hid (wr.ownsRow W.heap.size 129 2 (.slice a' st.length c') st.length (st.flatMap Pd.cells)) ∧ Hid (Below W.heap.size W wr)) (fun _ i _ => r.bd.length - (intOf i).toNat)
  case atStart => exact ⟨0, some ⟨W.heap.size, 0, none⟩, 1, [⟨r.pr, r.hd.length⟩], Nat.zero_le _, rfl, rfl, rfl, HO, HBB⟩
  case round =>
    clear HO HBB
    obtain ⟨k, a', c', st, hk, rfl, rfl, HS, HO, HBW⟩ := hrel
    obtain ⟨U, rfl⟩ : ∃ U, U = wr := ⟨_, rfl⟩
    by_cases hlt : k < r.bd.length
    · have hlt' : (k : Int) < (r.bd.length : Int) := by omega
      have hk0 : (0 : Int) ≤ (k : Int) := by omega
      obtain ⟨g, off, hba, hg, hT⟩ := HAT.out (by omega)
      subst hba
      have hBU : Below w.heap.size w U := HB.out.trans (HBW.out.mono HB.out.size)
      have r1 := range_below (hT k hlt) hBU hg
      have HNX : Hid (∀ x, stX (atL r.bd k) = x → ⟨r.pr, r.hd.length⟩ :: (r.bd.take (k + 1)).flatMap stX = st ++ x) := fun x hx => by rw [stR_take hlt, HS.out, hx]; rfl
      have hstl : st.length ≤ 1048577 := by rw [HS.out]; exact HST.out k (by omega)
      obtain ⟨y, hy⟩ : ∃ y, atL r.bd k = y := ⟨_, rfl⟩
      rw [hy] at r1 HNX
      have hld := load_Lit r1 rfl
      have hst : (storeVar 55 ⟨U.heap.size, 0, none⟩ (.agg y.cells.toArray)).run Tryz.prog (U.alloc (.cells #[.int .i8 0, .string ⟨#[]⟩, .slice none 0 0, .int .i8 0, .int .i8 0, .string ⟨#[]⟩, .int .i8 0, .int .i64 0, .string ⟨#[]⟩, .slice none 0 0, .int .i8 0, .string ⟨#[]⟩, .int .i8 0, .int .i64 0, .string ⟨#[]⟩, .slice none 0 0] 55)) = .ok () (U.alloc (.cells y.cells.toArray 55)) := run_storeVar_new U 55 #[.int .i8 0, .string ⟨#[]⟩, .slice none 0 0, .int .i8 0, .int .i8 0, .string ⟨#[]⟩, .int .i8 0, .int .i64 0, .string ⟨#[]⟩, .slice none 0 0, .int .i8 0, .string ⟨#[]⟩, .int .i8 0, .int .i64 0, .string ⟨#[]⟩, .slice none 0 0] y.cells.toArray (by kernel_rfl) rfl (oneCells_lit _)
      have BA := belowA (w := U) (.cells y.cells.toArray 55)
      have HRN := Lib.hid (rl_new U y.cells.toArray 55)
      have HB2 := Lib.hid (HBW.out.trans (BA.mono HBW.out.size))
      have HO2 := Lib.hid (own_below HO.out BA)
      clear hT r1 hy BA HO HBW hBU HS
      generalize U.alloc (.cells y.cells.toArray 55) = W2 at hst HRN HB2 HO2
      obtain ⟨hf1, hf2⟩ := lit_atom (y := y) HRN.out
      generalize Value.agg y.cells.toArray = QV at hld hst
      by_cases hq : y.x.k = 1 ∨ y.x.k = 2
      · have HX := Lib.hid (HNX.out [Pd.mk y.x.pr y.x.ts.length] (by unfold stX; rw [if_pos hq]))
        have HA := Lib.hid (atomPred_any y.x.pr y.p.a y.x.ts.length y.p.c W2)
        clear HRN HNX
        generalize Value.agg #[.string y.x.pr, .slice y.p.a y.x.ts.length y.p.c] = AV at hf2 HA
        have HAP : Hid (∀ w4, Below W2.heap.size W2 w4 → ∃ v' w5, (Builtin.append_ #[100, 100] 100 #[.slice a' st.length c', .slice (some ⟨w4.heap.size, 0, none⟩) 1 1]).run Tryz.prog (w4.alloc (.cells #[.string y.x.pr, .int .i64 (y.x.ts.length : Int)] 129)) = .ok v' w5 ∧ w5.ownsRow W.heap.size 129 2 v' (st.length + 1) (st.flatMap Pd.cells ++ [.string y.x.pr, .int .i64 (y.x.ts.length : Int)]) ∧ Below W.heap.size W w5) := fun w4 b4 => by
          have hA := belowA (w := w4) (.cells #[.string y.x.pr, .int .i64 (y.x.ts.length : Int)] 129)
          have hb4 : Below W.heap.size W w4 := HB2.out.trans (b4.mono HB2.out.size)
          have hb5 : Below W.heap.size W (w4.alloc (.cells #[.string y.x.pr, .int .i64 (y.x.ts.length : Int)] 129)) := hb4.trans (hA.mono hb4.size)
          have ho := own_below (own_below HO2.out b4) hA
          obtain ⟨v', w5, hrun, hown', hgrow, hnil, hloc⟩ := run_append_own_at (P := Tryz.prog) (w4.alloc (.cells #[.string y.x.pr, .int .i64 (y.x.ts.length : Int)] 129)) W.heap.size 100 100 129 i0 _ 2 24 Tryz.underlying100 hi0 hz0 hz1 hz2 rfl (by decide) _ _ _ ho ⟨_, 0, none⟩ 1 1 [.string y.x.pr, .int .i64 (y.x.ts.length : Int)] rfl (lit_news _ #[.string y.x.pr, .int .i64 (y.x.ts.length : Int)] _) (by simp [Value.oneCell']) (by unfold maxLen; omega) (by omega) hb5.size
          exact ⟨v', w5, hrun, hown', hb5.grown hgrow hb5.size (fun j hj => (ho.lt j hj).1)⟩
        clear HB2 HO2
        have HE : Hid (∀ w4, Below W2.heap.size W2 w4 → True) := fun _ _ => trivial
        by_cases h1 : y.x.k = 1
        · have e1 : (y.x.k == 1) = true := by rw [h1]; rfl
          clear h1 hq
          go_wp2_with fail
          refine HA.out.mono ?_
          rintro e w4 ⟨rfl, b4⟩
          obtain ⟨v', w5, hrun, hown', hb5⟩ := HAP.out w4 b4
          obtain ⟨a6, c6, rfl, _⟩ := own_form hown'
          have HO5 : Hid (w5.ownsRow W.heap.size 129 2 (.slice a6 (st ++ [Pd.mk y.x.pr y.x.ts.length]).length c6) (st ++ [Pd.mk y.x.pr y.x.ts.length]).length ((st ++ [Pd.mk y.x.pr y.x.ts.length]).flatMap Pd.cells)) := by
            show World.ownsRow _ _ _ _ _ _ _
            rw [List.length_append, List.flatMap_append]
            exact hown'
          have HB5 := Lib.hid hb5
          clear hown' hb5 b4 HA HAP hld hst hf1 hf2
          go_wp2
          go_roundw
          case rel => exact ⟨k + 1, a6, c6, st ++ [Pd.mk y.x.pr y.x.ts.length], by omega, by go_num, by simp, HX.out.symm, HO5, HB5⟩
          case measure => simp [intOf]; omega
        · have h2 : y.x.k = 2 := hq.resolve_left h1
          have e1 : (y.x.k == 1) = false := by rw [h2]; rfl
          have e2 : (y.x.k == 2) = true := by rw [h2]; rfl
          clear h1 h2 hq
          go_wp2_with fail
          refine HA.out.mono ?_
          rintro e w4 ⟨rfl, b4⟩
          obtain ⟨v', w5, hrun, hown', hb5⟩ := HAP.out w4 b4
          obtain ⟨a6, c6, rfl, _⟩ := own_form hown'
          have HO5 : Hid (w5.ownsRow W.heap.size 129 2 (.slice a6 (st ++ [Pd.mk y.x.pr y.x.ts.length]).length c6) (st ++ [Pd.mk y.x.pr y.x.ts.length]).length ((st ++ [Pd.mk y.x.pr y.x.ts.length]).flatMap Pd.cells)) := by
            show World.ownsRow _ _ _ _ _ _ _
            rw [List.length_append, List.flatMap_append]
            exact hown'
          have HB5 := Lib.hid hb5
          clear hown' hb5 b4 HA HAP hld hst hf1 hf2
          go_wp2
          go_roundw
          case rel => exact ⟨k + 1, a6, c6, st ++ [Pd.mk y.x.pr y.x.ts.length], by omega, by go_num, by simp, HX.out.symm, HO5, HB5⟩
          case measure => simp [intOf]; omega
      · have HX := Lib.hid (HNX.out [] (by unfold stX; rw [if_neg hq]))
        rw [List.append_nil] at HX
        have e1 : (y.x.k == 1) = false := by rw [beq_eq_false_iff_ne]; exact fun h => hq (.inl h)
        have e2 : (y.x.k == 2) = false := by rw [beq_eq_false_iff_ne]; exact fun h => hq (.inr h)
        clear HRN HNX hq
        go_wp2
        go_roundw
        case rel => exact ⟨k + 1, a', c', st, by omega, by go_num, rfl, HX.out.symm, HO2, HB2⟩
        case measure => simp [intOf]; omega
    · obtain rfl : k = r.bd.length := by omega
      rw [List.take_length] at HS
      have hst : st = stR r := HS.out
      subst hst
      have HBF : Hid (Below w.heap.size w U) := HB.out.trans (HBW.out.mono HB.out.size)
      go_wp2
      go_ret
      exact ⟨a', c', rfl, own_lower HO.out HB.out.size, HBF.out⟩
end Go.Proofs.YtgfnijhhhgjabaaGreatDoor
end
