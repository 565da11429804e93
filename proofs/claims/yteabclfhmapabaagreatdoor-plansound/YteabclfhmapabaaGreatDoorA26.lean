import Derived.Test.YteabclfhmapabaaGreatDoorA24
import Derived.Test.YteabclfhmapabaaGreatDoorA2
import Derived.Deep.MidRow
import Derived.Test.YteabclfhmapabaaGreatDoorA3
import Derived.BigQuiet
import Derived.Lib.SmallJoins
import Derived.Test.YteabclfhmapabaaGreatDoorA5
import Derived.Maps.OwnSet
import Derived.Maps.AppendAt
import Derived.Deep.OwnRows
import Derived.DeepKeys4
section
namespace Go.Proofs.YteabclfhmapabaaGreatDoor
open Go.RowKit Go.Maps Go.Shelf
set_option linter.unusedVariables false
set_option linter.unusedSimpArgs false
attribute [local go_sem ↓] Go.wp_at_zero Go.wp_at_succ
attribute [-go_sem] loadVar Builtin.append_ Instr.buildSlice

theorem GtS.start {w w1 : World} {d : Nat} {l : List XL} {v : Value} {tb kb : Nat} {ss : List ByteArray} {left : Nat} {t : St} {b : Bool} {ta : Option Addr} {tc : Nat} {G : List St → Prop} {b6 : Nat} (hb : Below w.heap.size w w1) (hT : TuIs w tb kb v ss left) (hl : left < 2 ^ l.length) (hn : l.length ≤ 16) (hbx : RL w1 b6 61 [.int .i8 t.k, .int .i64 t.i, .int .u32 t.m, .slice ta t.g.length tc]) (ho : w1.ownsRow w.heap.size 9 1 (.slice ta t.g.length tc) t.g.length (t.g.flatMap strB)) (hf : FitM d ss l left (t, b)) (hG : ∀ ys, Gt d l ss left (t, b) ys → G ys) : GtS w d l v tb kb b6 G w1 [] none 0 ss left t b ta tc :=
  ⟨⟨RL.below hT.rl hb, hT.set.of_block (hb.block kb hT.set.lt), hT.ne⟩, hl, hbx, ho, World.ownsRow_nil _ _ _ _, fun y hy => absurd hy (by simp), Px.of_below hb, hf, hG, by
    have : (2 : Nat) ^ l.length ≤ 65536 := Nat.le_trans (Nat.pow_le_pow_right (by omega) hn) (by decide)
    simp only [List.length_nil]
    omega⟩
/-- behind the append -/
structure GtU (w : World) (tb kb b6 : Nat) (v : Value) (ss : List ByteArray) (left : Nat) (u : World) (xs : List SX) (bx : List Value) : Prop where
  tu : TuIs u tb kb v ss left
  box : RL u b6 61 bx
  giv : ∀ y ∈ xs, u.ownsRow w.heap.size 9 1 (.slice y.a y.s.g.length y.c) y.s.g.length (y.s.g.flatMap strB)
  px : Px tb kb w u
theorem gt_pushed {w : World} {tb kb b6 : Nat} {v : Value} {ss : List ByteArray} {left : Nat} {u1 u2 V : World} {xs : List SX} {oa : Option Addr} {oc : Nat} {t : St} {ta : Option Addr} {tc : Nat} (hn : GtN w tb kb b6)
    (hbx : RL u1 b6 61 [.int .i8 t.k, .int .i64 t.i, .int .u32 t.m, .slice ta t.g.length tc]) (how : u1.ownsRow w.heap.size 9 1 (.slice ta t.g.length tc) t.g.length (t.g.flatMap strB)) (hou : u1.ownsRow (b6 + 1) 61 4 (.slice oa xs.length oc) xs.length (xs.flatMap SX.cells)) (hgi : ∀ y ∈ xs, u1.ownsRow w.heap.size 9 1 (.slice y.a y.s.g.length y.c) y.s.g.length (y.s.g.flatMap strB)) (hpw : Px tb kb w u1) (htu : TuIs u1 tb kb v ss left)
    (hV : Below u1.heap.size u1 V) (hg : V.grownBy u2 ((.slice oa xs.length oc : Value).ownBlock)) : GtU w tb kb b6 v ss left u2 (xs ++ [⟨t, ta, tc⟩]) [.int .i8 t.k, .int .i64 t.i, .int .u32 t.m, .slice ta t.g.length tc] := by
  have e1 := hn.t
  have e2 := hn.k
  have e3 := hn.b
  have hou' := own_below hou hV
  have hr : ∀ g, (.slice oa xs.length oc : Value).ownBlock = some g → b6 + 1 ≤ g := fun g hg' => (hou.lt g hg').1
  have hlow : ∀ b, b < u1.heap.size → b ≤ b6 → u2.heap[b]? = u1.heap[b]? := fun b hb hb6 => (hg.block b (Nat.lt_of_lt_of_le hb hV.size) (fun e => by have := hr b e.symm; omega)).trans (hV.block b hb)
  have hstr : ∀ {v' : Value} {n : Nat} {ys : List Value}, u1.ownsRow w.heap.size 9 1 v' n ys → u2.ownsRow w.heap.size 9 1 v' n ys := fun {v' n ys} h => by
    refine own_of_block h (fun g hg' => ?_)
    have hlt := (h.lt g hg').2
    refine (hg.block g (Nat.lt_of_lt_of_le hlt hV.size) (fun e => ?_)).trans (hV.block g hlt)
    obtain ⟨cs, hcs⟩ := own_block hou (g := g) e.symm
    exact own_ne h hcs (by decide) g hg' rfl
  refine ⟨⟨World.rowIs.of_block htu.rl (hlow tb htu.rl.lt (by omega)), htu.set.of_block (hlow kb htu.set.lt (by omega)), htu.ne⟩, World.rowIs.of_block hbx (hlow b6 hbx.lt (Nat.le_refl _)), fun y hy => ?_, ?_⟩
  · rcases List.mem_append.1 hy with h | h
    · exact hstr (hgi y h)
    · obtain rfl := List.mem_singleton.1 h
      exact hstr how
  · have hs : w.heap.size ≤ u1.heap.size := hpw.size
    refine ⟨(hg.os.trans hV.os).trans hpw.os, (hg.tape.trans hV.tape).trans hpw.tape, (hg.output.trans hV.output).trans hpw.output, Nat.le_trans hs (Nat.le_trans hV.size hg.size), fun b hb h1 h2 => ?_⟩
    exact (hlow b (by omega) (by omega)).trans (hpw.block b hb h1 h2)
theorem gt_len {xs : List SX} {left left' : Nat} (x : SX) (h : xs.length + left ≤ 65536) (hl : left' < left) : (xs ++ [x]).length + left' ≤ 65536 := by
  rw [List.length_append, List.length_singleton]
  omega
theorem gt_more {d : Nat} {l : List XL} {ss : List ByteArray} {left k : Nat} {t : St} {G : List St → Prop} {xs : List SX} {ta : Option Addr} {tc : Nat} {c : St × Bool} (hk : t.i = (k : Int)) (hgt : ∀ ys, Gt d l ss left (t, true) ys → G (xs.map SX.s ++ ys)) (hc : c = nextM d (ss ++ t.g) l (clrN left k)) : ∀ ys, Gt d l (ss ++ t.g) (clrN left k) c ys → G ((xs ++ [SX.mk t ta tc]).map SX.s ++ ys) := by
  intro ys hy
  have h0 : Gt d l (ss ++ t.g) (clrN left t.i.toNat) (nextM d (ss ++ t.g) l (clrN left t.i.toNat)) ys := by
    rw [hk, Int.toNat_natCast, ← hc]
    exact hy
  have h1 := hgt _ (Gt.more ss left t ys h0)
  rw [List.map_append, List.append_assoc]
  exact h1
theorem gt_next {w : World} {d : Nat} {l : List XL} {tb kb b6 : Nat} {v : Value} {ss : List ByteArray} {left : Nat} {u2 u3 : World} {xs : List SX} {n : St} {nb : Bool} {a3 : Option Addr} {c3 : Nat} {oa : Option Addr} {oc : Nat} {G : List St → Prop} {x0 x1 x2 x3 : Value} (hn : GtN w tb kb b6) (hu : GtU w tb kb b6 v ss left u2 xs [x0, x1, x2, x3]) (ho : u2.ownsRow (b6 + 1) 61 4 (.slice oa xs.length oc) xs.length (xs.flatMap SX.cells)) (hl : left < 2 ^ l.length) (hf : FitM d ss l left (n, nb)) (hb : Below u2.heap.size u2 u3) (h3 : u3.ownsRow u2.heap.size 9 1 (.slice a3 n.g.length c3) n.g.length (n.g.flatMap strB)) (hG : ∀ ys, Gt d l ss left (n, nb) ys → G (xs.map SX.s ++ ys)) (hlen : xs.length + left ≤ 65536) :
    GtS w d l v tb kb b6 G (st4 u3 b6 n.k n.i n.m (.slice a3 n.g.length c3)) xs oa oc ss left n nb a3 c3 := by
  have e1 := hn.t
  have e2 := hn.k
  have e3 := hn.b
  have hlt := hu.box.lt
  have hbx := RL.below hu.box hb
  have hs3 : w.heap.size ≤ u2.heap.size := hu.px.size
  refine ⟨⟨World.rowIs.of_block (RL.below hu.tu.rl hb) (st4_block _ _ _ _ _ _ (by omega)), (hu.tu.set.of_block (hb.block kb hu.tu.set.lt)).of_block (st4_block _ _ _ _ _ _ (by omega)), hu.tu.ne⟩, hl, st4_rl hbx _ _ _ _, own_base (own_st5 h3 b6 hlt _ _ _ _) hs3, own_of_block (own_below ho hb) (fun g hg => st4_block _ _ _ _ _ _ (by have := (ho.lt g hg).1; omega)), fun y hy => ?_, ?_, hf, hG, hlen⟩
  · have h1 := own_below (hu.giv y hy) hb
    obtain ⟨cs, hcs, _⟩ := hbx
    exact own_of_block h1 (fun g hg => st4_block _ _ _ _ _ _ (own_ne h1 hcs (by decide) g hg))
  · have hp : Px tb kb w u3 := hu.px.trans (Px.of_below hb)
    have hz : (st4 u3 b6 n.k n.i n.m (.slice a3 n.g.length c3)).heap.size = u3.heap.size := by simp [st4, World.setCell]
    refine ⟨hp.os, hp.tape, hp.output, by rw [hz]; exact hp.size, fun b hb' h1 h2 => ?_⟩
    rw [st4_block _ _ _ _ _ _ (by omega)]
    exact hp.block b hb' h1 h2
set_option maxRecDepth 100000 in
set_option maxHeartbeats 1600000 in
theorem goThrough_any {w : World} {tb kb d : Nat} {v : Value} {ss : List ByteArray} {left : Nat} {l : List XL} (hT : TuIs w tb kb v ss left) (hL : ∀ u, Px tb kb w u → Lb u v d l) (hB : BdR d l) (hl : left < 2 ^ l.length) (hD : ∀ u, Px tb kb w u → DT u) (hS : ∀ x ∈ l, ∀ k ss, ∀ y ∈ (stM d ss x.x k).g, y.size ≤ maxLen) (first : Int) (hf : first = -1 ∨ hasB left first = true) :
    Calls Tryz.prog 15 #[.pointer (some ⟨tb, 0, none⟩), .int .i64 first] w fun e w' => Px tb kb w w' ∧ ∃ (xs : List SX) (a : Option Addr) (c : Nat), e = .returned (.slice a xs.length c) ∧ Gt d l ss left (firstM d ss l left first) (xs.map SX.s) ∧ w'.ownsRow w.heap.size 61 4 (.slice a xs.length c) xs.length (xs.flatMap SX.cells) ∧ ∀ y ∈ xs, w'.ownsRow w.heap.size 9 1 (.slice y.a y.s.g.length y.c) y.s.g.length (y.s.g.flatMap strB) := by
  have P0 : Px tb kb w w := Px.of_below (Below.refl _ _)
  have HT := Lib.hid hT
  have HL := Lib.hid hL
  have HB := Lib.hid hB
  have HLT := Lib.hid hl
  have HDT := Lib.hid hD
  have HZ := Lib.hid hS
  have HF := Lib.hid hf
  have HNX := Lib.hid (next_any hT (hL _ P0) hB hl (hD _ P0))
  clear hT hL hB hl hD hS hf P0
  go_enter Tryz.func15, Tryz.ntmps15
  go_wp2_with fail
  refine HNX.out.mono ?_
  rintro e w1 ⟨b1, a1, c1, rfl, hown⟩
  have HQ := Lib.hid (nextM_fit d ss l left)
  obtain ⟨nx, hnx⟩ : ∃ nx, nx = nextM d ss l left := ⟨_, rfl⟩
  rw [← hnx] at HQ hown ⊢
  have HNE := Lib.hid hnx
  clear hnx HNX
  obtain ⟨⟨tk, ti, tm, tg⟩, tf⟩ := nx
  unfold St.val
  simp only at hown ⊢
  have HB1 := Lib.hid b1
  have HO1 := Lib.hid hown
  have HRB := Lib.hid (rl_new w1 #[.int .i8 tk, .int .i64 ti, .int .u32 tm, .slice a1 tg.length c1] 61)
  have HBV : Hid (Below w1.heap.size w1 (w1.alloc (.cells #[.int .i8 tk, .int .i64 ti, .int .u32 tm, .slice a1 tg.length c1] 61))) := belowA _
  clear b1 hown
  by_cases hfi : first = -1
  · have dfi : (first != -1) = false := by rw [hfi]; rfl
    have HFM : Hid (firstM d ss l left first = (⟨tk, ti, tm, tg⟩, tf)) := by
      show _ = _
      unfold firstM
      rw [if_pos hfi, HNE.out]
    have HGS : Hid (GtS w d l v tb kb w1.heap.size (Gt d l ss left (firstM d ss l left first)) (w1.alloc (.cells #[.int .i8 tk, .int .i64 ti, .int .u32 tm, .slice a1 tg.length c1] 61)) [] none 0 ss left ⟨tk, ti, tm, tg⟩ tf a1 c1) := GtS.start (HB1.out.trans (HBV.out.mono HB1.out.size)) HT.out HLT.out HB.out.bn HRB.out (own_below HO1.out HBV.out) HQ.out (fun ys hy => by rw [HFM.out]; exact hy)
    have HN : Hid (GtN w tb kb w1.heap.size) := ⟨HT.out.rl.lt, HT.out.set.lt, HB1.out.size⟩
    clear hfi HRB HBV HO1
    go_wp2
    go_loopw [5, 7] (fun o ok wr => ∃ (xs : List SX) (oa : Option Addr) (oc : Nat) (ss' : List ByteArray) (left' : Nat) (t : St) (b : Bool) (ta : Option Addr) (tc : Nat), o = .slice oa xs.length oc ∧ ok = .bool b ∧ Hid (GtS w d l v tb kb w1.heap.size (Gt d l ss left (firstM d ss l left first)) wr xs oa oc ss' left' t b ta tc)) (fun _ _ wr => leftOf tb wr)
    case atStart => exact ⟨[], none, 0, ss, left, _, _, _, _, rfl, rfl, HGS⟩
    case round =>
      clear HGS
      obtain ⟨xs, oa, oc, ss', left', t, b, ta, tc, rfl, rfl, HS⟩ := hrel
      cases b
      · go_wp2
        go_ret
        have hs := HS.out
        have hG := hs.gt [] (Gt.done _ _ _)
        rw [List.append_nil] at hG
        exact ⟨hs.px, xs, oa, oc, rfl, hG, own_base hs.out (Nat.le_trans HN.out.b (Nat.le_succ _)), hs.giv⟩
      · obtain ⟨hbt, htq⟩ := HS.out.fit rfl
        obtain ⟨h0, hi⟩ := hasB_lt HS.out.lt hbt
        obtain ⟨tk', ti', tm', tg'⟩ := t
        simp only at hbt htq h0 hi
        obtain ⟨k', rfl⟩ : ∃ k' : Nat, ti' = (k' : Int) := ⟨ti'.toNat, by omega⟩
        rw [Int.toNat_natCast] at hi htq
        have HTQ := Lib.hid htq
        have HBT : Hid (left'.testBit k' = true) := by
          unfold hasB at hbt
          simp only [Bool.and_eq_true, decide_eq_true_eq, Int.toNat_natCast] at hbt
          exact hbt.2
        have hbn := HB.out.bn
        have h32 : left' < 4294967296 := Nat.lt_of_lt_of_le HS.out.lt (Nat.le_trans (Nat.pow_le_pow_right (by omega) hbn) (by decide))
        have l6 := load_StP HS.out.box
        have HNW : NewL ss' tg' := by
          have := stM_new d ss' (atL l k').x k'
          rw [show stM d ss' (atL l k').x k' = stL d ss' l k' from rfl, ← htq] at this
          exact this
        have HSZ : ∀ y ∈ tg', y.size ≤ maxLen := by
          have := HZ.out (atL l k') (by rw [atL_eq hi]; exact List.getElem_mem hi) k' ss'
          rw [show stM d ss' (atL l k').x k' = stL d ss' l k' from rfl, ← htq] at this
          exact this
        have HGL : tg'.length ≤ 1048576 := by
          have := stM_glen d ss' (atL l k').x k' (HB.out.bc k' hi) (HB.out.bl k' hi) (HB.out.br k' hi)
          rw [show stM d ss' (atL l k').x k' = stL d ss' l k' from rfl, ← htq] at this
          exact this
        have HTA := Lib.hid (take_any (B := w.heap.size) HS.out.tu ⟨tk', (k' : Int), tm', tg'⟩ (a := ta) (c := tc) (k := k') rfl (by omega) h32 HS.out.own HN.out.t HN.out.k (szAt HSZ) HNW HGL)
        unfold St.val at HTA
        simp only at HTA
        have HCL : Hid (clrN left' k' < left') := clrN_lt (by omega) HBT.out
        have hxl : xs.length ≤ 65536 := by have := HS.out.len; omega
        clear hbt htq h0 hi HNW HSZ HGL h32
        go_wp2_with fail
        refine HTA.out.mono ?_
        rintro e u1 ⟨⟨y, rfl⟩, htu, hpx⟩
        obtain ⟨hbx, how, hou, hgi, hpw⟩ := HS.out.taken HN.out hpx
        have l7 := load_StP hbx
        have hsl := sliceStep tk' (k' : Int) tm' ta tg'.length tc u1
        have HLE : Hid (leftOf tb wr = left') := leftOf_is HS.out.tu
        obtain ⟨a6, c6, u2, hap, how2, hgr⟩ := step_push ⟨⟨tk', (k' : Int), tm', tg'⟩, ta, tc⟩ hou (by have := hbx.lt; omega) (by omega)
        have HAL := Lib.hid (belowA (w := u1) (.cells #[.int .i8 tk', .int .i64 (k' : Int), .int .u32 tm', .slice ta tg'.length tc] 61))
        have HU := Lib.hid (gt_pushed HN.out hbx how hou hgi hpw htu HAL.out hgr)
        have HO2 := Lib.hid how2
        have HGT := Lib.hid HS.out.gt
        have HLN := Lib.hid HS.out.len
        have HLL : Hid (clrN left' k' < 2 ^ l.length) := Nat.lt_trans HCL.out HS.out.lt
        clear HTA l6 how hou hgi hpw htu hpx hbx how2 hgr HS
        simp only at hap
        have HNY := Lib.hid (next_any HU.out.tu (HL.out _ HU.out.px) HB.out HLL.out (HDT.out _ HU.out.px))
        have HFT := Lib.hid (nextM_fit d (ss' ++ tg') l (clrN left' k'))
        obtain ⟨ny, hny⟩ : ∃ ny, ny = nextM d (ss' ++ tg') l (clrN left' k') := ⟨_, rfl⟩
        rw [← hny] at HFT HNY
        have HNYE := Lib.hid hny
        clear hny
        obtain ⟨⟨nk, ni, nm, ng⟩, nb⟩ := ny
        unfold St.val at HNY
        simp only at HNY
        go_wp2_with fail
        refine HNY.out.mono ?_
        rintro e u3 ⟨b3, a3, c3, rfl, hown3⟩
        have HBX3 := Lib.hid (RL.below HU.out.box b3)
        have z0 := RL.at HBX3.out (j := 0) rfl
        have z1 := RL.at HBX3.out (j := 1) rfl
        have z2 := RL.at HBX3.out (j := 2) rfl
        have z3 := RL.at HBX3.out (j := 3) rfl
        have y0 := World.rowIs.frozen HBX3.out 0
        have y1 := World.rowIs.frozen HBX3.out 1
        have y2 := World.rowIs.frozen HBX3.out 2
        have y3 := World.rowIs.frozen HBX3.out 3
        have HGM := Lib.hid (gt_more (ta := ta) (tc := tc) (t := ⟨tk', (k' : Int), tm', tg'⟩) (k := k') rfl HGT.out HNYE.out)
        have HLM : Hid ((xs ++ [SX.mk ⟨tk', (k' : Int), tm', tg'⟩ ta tc]).length + clrN left' k' ≤ 65536) := gt_len _ HLN.out HCL.out
        have hns : (GtS w d l v tb kb w1.heap.size (Gt d l ss left (firstM d ss l left first)) (st4 u3 w1.heap.size nk ni nm (.slice a3 ng.length c3)) (xs ++ [⟨⟨tk', (k' : Int), tm', tg'⟩, ta, tc⟩]) a6 c6 (ss' ++ tg') (clrN left' k') ⟨nk, ni, nm, ng⟩ nb a3 c3) :=
          gt_next (n := ⟨nk, ni, nm, ng⟩) (nb := nb) (xs := xs ++ [⟨⟨tk', (k' : Int), tm', tg'⟩, ta, tc⟩]) (left := clrN left' k') (ss := ss' ++ tg') HN.out HU.out HO2.out HLL.out HFT.out b3 hown3 HGM.out HLM.out
        have HNS := Lib.hid hns
        clear hns
        have HML : Hid (leftOf tb (st4 u3 w1.heap.size nk ni nm (.slice a3 ng.length c3)) < left') := by
          show _ < _
          rw [leftOf_is HNS.out.tu]
          exact HCL.out
        unfold st4 at HNS HML
        clear HNY b3 hown3 HBX3 HU HO2 HGT HLN HLL HFT hap hsl l7
        go_wp2
        go_roundw
        case rel => exact ⟨_, a6, c6, ss' ++ tg', clrN left' k', ⟨nk, ni, nm, ng⟩, nb, a3, c3, by rw [List.length_append]; rfl, rfl, HNS⟩
        case measure =>
          have h1 := HML.out
          have h2 := HLE.out
          rw [h2]
          exact h1
  · have dfi : (first != -1) = true := by rw [bne_iff_ne]; exact hfi
    have hfb : hasB left first = true := by
      rcases HF.out with h | h
      · exact absurd h hfi
      · exact h
    obtain ⟨h0, hi⟩ := hasB_lt HLT.out hfb
    obtain ⟨k, rfl⟩ : ∃ k : Nat, first = (k : Int) := ⟨first.toNat, by omega⟩
    rw [Int.toNat_natCast] at hi
    have HP1 : Hid (Px tb kb w (w1.alloc (.cells #[.int .i8 tk, .int .i64 ti, .int .u32 tm, .slice a1 tg.length c1] 61))) := Px.of_below (HB1.out.trans (HBV.out.mono HB1.out.size))
    have HT1 : Hid (TuIs (w1.alloc (.cells #[.int .i8 tk, .int .i64 ti, .int .u32 tm, .slice a1 tg.length c1] 61)) tb kb v ss left) := by
      have hb := HB1.out.trans (HBV.out.mono HB1.out.size)
      exact ⟨RL.below HT.out.rl hb, HT.out.set.of_block (hb.block kb HT.out.set.lt), HT.out.ne⟩
    have HST := Lib.hid (step_any HT1.out (HL.out _ HP1.out) hi HB.out.bn (HB.out.bc k hi) (HB.out.bl k hi) (HB.out.br k hi))
    have HFM : Hid (firstM d ss l left (k : Int) = (stL d ss l k, (stL d ss l k).k != 0)) := by
      show _ = _
      unfold firstM
      rw [if_neg hfi, Int.toNat_natCast]
    have HQ2 := Lib.hid (firstM_fit d ss l left (k : Int) (.inr hfb))
    clear hfi hfb h0 hi HF
    rw [HFM.out] at HQ2
    obtain ⟨t2, ht2⟩ : ∃ t2, t2 = stL d ss l k := ⟨_, rfl⟩
    rw [← ht2] at HST HFM HQ2
    clear ht2
    obtain ⟨tk2, ti2, tm2, tg2⟩ := t2
    unfold St.val at HST
    simp only at HST HFM HQ2
    go_wp2_with fail
    refine HST.out.mono ?_
    rintro e w2 ⟨b2, a2, c2, rfl, hown2⟩
    have HRX := Lib.hid (RL.below HRB.out b2)
    have HBW : Hid (Below w.heap.size w w2) := (HB1.out.trans (HBV.out.mono HB1.out.size)).trans (b2.mono (Nat.le_trans HB1.out.size HBV.out.size))
    have z0 := RL.at HRX.out (j := 0) rfl
    have z1 := RL.at HRX.out (j := 1) rfl
    have z2 := RL.at HRX.out (j := 2) rfl
    have z3 := RL.at HRX.out (j := 3) rfl
    have y0 := World.rowIs.frozen HRX.out 0
    have y1 := World.rowIs.frozen HRX.out 1
    have y2 := World.rowIs.frozen HRX.out 2
    have y3 := World.rowIs.frozen HRX.out 3
    have hlt6 : w1.heap.size < (w1.alloc (.cells #[.int .i8 tk, .int .i64 ti, .int .u32 tm, .slice a1 tg.length c1] 61)).heap.size := by simp
    have HGS : Hid (GtS w d l v tb kb w1.heap.size (Gt d l ss left (firstM d ss l left (k : Int))) (st4 w2 w1.heap.size tk2 ti2 tm2 (.slice a2 tg2.length c2)) [] none 0 ss left ⟨tk2, ti2, tm2, tg2⟩ (tk2 != 0) a2 c2) := GtS.start (st4_below HBW.out HB1.out.size _ _ _ _) HT.out HLT.out HB.out.bn (st4_rl HRX.out _ _ _ _) (own_base (own_st5 hown2 _ hlt6 _ _ _ _) (Nat.le_trans HB1.out.size HBV.out.size)) HQ2.out (fun ys hy => by rw [HFM.out]; exact hy)
    have HN : Hid (GtN w tb kb w1.heap.size) := ⟨HT.out.rl.lt, HT.out.set.lt, HB1.out.size⟩
    unfold st4 at HGS
    clear HST b2 hown2 HRX hlt6 HRB HBV HO1
    go_wp2
    clear z0 z1 z2 z3 y0 y1 y2 y3
    go_loopw [5, 7] (fun o ok wr => ∃ (xs : List SX) (oa : Option Addr) (oc : Nat) (ss' : List ByteArray) (left' : Nat) (t : St) (b : Bool) (ta : Option Addr) (tc : Nat), o = .slice oa xs.length oc ∧ ok = .bool b ∧ Hid (GtS w d l v tb kb w1.heap.size (Gt d l ss left (firstM d ss l left (k : Int))) wr xs oa oc ss' left' t b ta tc)) (fun _ _ wr => leftOf tb wr)
    case atStart => exact ⟨[], none, 0, ss, left, _, _, _, _, rfl, rfl, HGS⟩
    case round =>
      clear HGS
      obtain ⟨xs, oa, oc, ss', left', t, b, ta, tc, rfl, rfl, HS⟩ := hrel
      cases b
      · go_wp2
        go_ret
        have hs := HS.out
        have hG := hs.gt [] (Gt.done _ _ _)
        rw [List.append_nil] at hG
        exact ⟨hs.px, xs, oa, oc, rfl, hG, own_base hs.out (Nat.le_trans HN.out.b (Nat.le_succ _)), hs.giv⟩
      · obtain ⟨hbt, htq⟩ := HS.out.fit rfl
        obtain ⟨h0, hi⟩ := hasB_lt HS.out.lt hbt
        obtain ⟨tk', ti', tm', tg'⟩ := t
        simp only at hbt htq h0 hi
        obtain ⟨k', rfl⟩ : ∃ k' : Nat, ti' = (k' : Int) := ⟨ti'.toNat, by omega⟩
        rw [Int.toNat_natCast] at hi htq
        have HTQ := Lib.hid htq
        have HBT : Hid (left'.testBit k' = true) := by
          unfold hasB at hbt
          simp only [Bool.and_eq_true, decide_eq_true_eq, Int.toNat_natCast] at hbt
          exact hbt.2
        have hbn := HB.out.bn
        have h32 : left' < 4294967296 := Nat.lt_of_lt_of_le HS.out.lt (Nat.le_trans (Nat.pow_le_pow_right (by omega) hbn) (by decide))
        have l6 := load_StP HS.out.box
        have HNW : NewL ss' tg' := by
          have := stM_new d ss' (atL l k').x k'
          rw [show stM d ss' (atL l k').x k' = stL d ss' l k' from rfl, ← htq] at this
          exact this
        have HSZ : ∀ y ∈ tg', y.size ≤ maxLen := by
          have := HZ.out (atL l k') (by rw [atL_eq hi]; exact List.getElem_mem hi) k' ss'
          rw [show stM d ss' (atL l k').x k' = stL d ss' l k' from rfl, ← htq] at this
          exact this
        have HGL : tg'.length ≤ 1048576 := by
          have := stM_glen d ss' (atL l k').x k' (HB.out.bc k' hi) (HB.out.bl k' hi) (HB.out.br k' hi)
          rw [show stM d ss' (atL l k').x k' = stL d ss' l k' from rfl, ← htq] at this
          exact this
        have HTA := Lib.hid (take_any (B := w.heap.size) HS.out.tu ⟨tk', (k' : Int), tm', tg'⟩ (a := ta) (c := tc) (k := k') rfl (by omega) h32 HS.out.own HN.out.t HN.out.k (szAt HSZ) HNW HGL)
        unfold St.val at HTA
        simp only at HTA
        have HCL : Hid (clrN left' k' < left') := clrN_lt (by omega) HBT.out
        have hxl : xs.length ≤ 65536 := by have := HS.out.len; omega
        clear hbt htq h0 hi HNW HSZ HGL h32
        go_wp2_with fail
        refine HTA.out.mono ?_
        rintro e u1 ⟨⟨y, rfl⟩, htu, hpx⟩
        obtain ⟨hbx, how, hou, hgi, hpw⟩ := HS.out.taken HN.out hpx
        have l7 := load_StP hbx
        have hsl := sliceStep tk' (k' : Int) tm' ta tg'.length tc u1
        have HLE : Hid (leftOf tb wr = left') := leftOf_is HS.out.tu
        obtain ⟨a6, c6, u2, hap, how2, hgr⟩ := step_push ⟨⟨tk', (k' : Int), tm', tg'⟩, ta, tc⟩ hou (by have := hbx.lt; omega) (by omega)
        have HAL := Lib.hid (belowA (w := u1) (.cells #[.int .i8 tk', .int .i64 (k' : Int), .int .u32 tm', .slice ta tg'.length tc] 61))
        have HU := Lib.hid (gt_pushed HN.out hbx how hou hgi hpw htu HAL.out hgr)
        have HO2 := Lib.hid how2
        have HGT := Lib.hid HS.out.gt
        have HLN := Lib.hid HS.out.len
        have HLL : Hid (clrN left' k' < 2 ^ l.length) := Nat.lt_trans HCL.out HS.out.lt
        clear HTA l6 how hou hgi hpw htu hpx hbx how2 hgr HS
        simp only at hap
        have HNY := Lib.hid (next_any HU.out.tu (HL.out _ HU.out.px) HB.out HLL.out (HDT.out _ HU.out.px))
        have HFT := Lib.hid (nextM_fit d (ss' ++ tg') l (clrN left' k'))
        obtain ⟨ny, hny⟩ : ∃ ny, ny = nextM d (ss' ++ tg') l (clrN left' k') := ⟨_, rfl⟩
        rw [← hny] at HFT HNY
        have HNYE := Lib.hid hny
        clear hny
        obtain ⟨⟨nk, ni, nm, ng⟩, nb⟩ := ny
        unfold St.val at HNY
        simp only at HNY
        go_wp2_with fail
        refine HNY.out.mono ?_
        rintro e u3 ⟨b3, a3, c3, rfl, hown3⟩
        have HBX3 := Lib.hid (RL.below HU.out.box b3)
        have z0 := RL.at HBX3.out (j := 0) rfl
        have z1 := RL.at HBX3.out (j := 1) rfl
        have z2 := RL.at HBX3.out (j := 2) rfl
        have z3 := RL.at HBX3.out (j := 3) rfl
        have y0 := World.rowIs.frozen HBX3.out 0
        have y1 := World.rowIs.frozen HBX3.out 1
        have y2 := World.rowIs.frozen HBX3.out 2
        have y3 := World.rowIs.frozen HBX3.out 3
        have HGM := Lib.hid (gt_more (ta := ta) (tc := tc) (t := ⟨tk', (k' : Int), tm', tg'⟩) (k := k') rfl HGT.out HNYE.out)
        have HLM : Hid ((xs ++ [SX.mk ⟨tk', (k' : Int), tm', tg'⟩ ta tc]).length + clrN left' k' ≤ 65536) := gt_len _ HLN.out HCL.out
        have hns : (GtS w d l v tb kb w1.heap.size (Gt d l ss left (firstM d ss l left (k : Int))) (st4 u3 w1.heap.size nk ni nm (.slice a3 ng.length c3)) (xs ++ [⟨⟨tk', (k' : Int), tm', tg'⟩, ta, tc⟩]) a6 c6 (ss' ++ tg') (clrN left' k') ⟨nk, ni, nm, ng⟩ nb a3 c3) :=
          gt_next (n := ⟨nk, ni, nm, ng⟩) (nb := nb) (xs := xs ++ [⟨⟨tk', (k' : Int), tm', tg'⟩, ta, tc⟩]) (left := clrN left' k') (ss := ss' ++ tg') HN.out HU.out HO2.out HLL.out HFT.out b3 hown3 HGM.out HLM.out
        have HNS := Lib.hid hns
        clear hns
        have HML : Hid (leftOf tb (st4 u3 w1.heap.size nk ni nm (.slice a3 ng.length c3)) < left') := by
          show _ < _
          rw [leftOf_is HNS.out.tu]
          exact HCL.out
        unfold st4 at HNS HML
        clear HNY b3 hown3 HBX3 HU HO2 HGT HLN HLL HFT hap hsl l7
        go_wp2
        go_roundw
        case rel => exact ⟨_, a6, c6, ss' ++ tg', clrN left' k', ⟨nk, ni, nm, ng⟩, nb, a3, c3, by rw [List.length_append]; rfl, rfl, HNS⟩
        case measure =>
          have h1 := HML.out
          have h2 := HLE.out
          rw [h2]
          exact h1
end Go.Proofs.YteabclfhmapabaaGreatDoor
end
section
namespace Go.Proofs.YteabclfhmapabaaGreatDoor
open Go.RowKit Go.Maps
set_option linter.unusedVariables false
set_option linter.unusedSimpArgs false
attribute [local go_sem ↓] Go.wp_at_zero Go.wp_at_succ

/-- the cells of a term in block b, that may be written -/
def Own4 (w : World) (b : Nat) : Prop := (∃ y0 y1 y2 y3, w.cell? ⟨b, 0, none⟩ = some y0 ∧ w.cell? ⟨b, 1, none⟩ = some y1 ∧ w.cell? ⟨b, 2, none⟩ = some y2 ∧ w.cell? ⟨b, 3, none⟩ = some y3) ∧
  w.frozen? ⟨b, 0, none⟩ = false ∧ w.frozen? ⟨b, 1, none⟩ = false ∧ w.frozen? ⟨b, 2, none⟩ = false ∧ w.frozen? ⟨b, 3, none⟩ = false ∧ b < w.heap.size
theorem Own4.below {w w1 : World} {b : Nat} (h : Own4 w b) (hb : Below w.heap.size w w1) : Own4 w1 b := by
  obtain ⟨⟨y0, y1, y2, y3, c0, c1, c2, c3⟩, f0, f1, f2, f3, hl⟩ := h
  refine ⟨⟨y0, y1, y2, y3, ?_, ?_, ?_, ?_⟩, ?_, ?_, ?_, ?_, Nat.lt_of_lt_of_le hl hb.size⟩
  all_goals first | rw [hb.cell (by exact hl)]; assumption | rw [hb.frozen (by exact hl)]; assumption

theorem res_wf {s : List P} (hs : ∀ p ∈ s, p.wf) {t : T} (ht : t.wf) : (res s t).wf := by
  unfold res
  cases hf : s.find? (fun p => decide (p.v = t.v)) with
  | none => exact ht
  | some p => exact (hs p (List.mem_of_find?_eq_some hf)).term

end Go.Proofs.YteabclfhmapabaaGreatDoor
end
section
namespace Go.Proofs.YteabclfhmapabaaGreatDoor
open Go.RowKit Go.Maps
set_option linter.unusedVariables false
set_option linter.unusedSimpArgs false
attribute [local go_sem ↓] Go.wp_at_zero Go.wp_at_succ

end Go.Proofs.YteabclfhmapabaaGreatDoor
end
section
namespace Go.Proofs.YteabclfhmapabaaGreatDoor
open Go.RowKit Go.Maps Go.ChangeMaps
set_option linter.unusedVariables false
set_option linter.unusedSimpArgs false
attribute [local go_sem ↓] Go.wp_at_zero Go.wp_at_succ

def entP (p : P) : Value × Value := (.string p.v, p.t.val)
/-- block b is the map from these variables to these terms -/
def MapT (w : World) (b : Nat) (s : List P) : Prop :=
  ∃ es clock, w.heap[b]? = some (.map es clock) ∧ es.toList.map (fun e => (e.key, e.val)) = s.map entP ∧ ∀ p ∈ s, p.v.size ≤ maxLen
theorem MapT.lt {w : World} {b : Nat} {s : List P} (h : MapT w b s) : b < w.heap.size := by
  obtain ⟨es, c, hb, _⟩ := h
  exact (Array.getElem?_eq_some_iff.1 hb).1
theorem MapT.of_block {w w' : World} {b : Nat} {s : List P} (h : MapT w b s) (e : w'.heap[b]? = w.heap[b]?) : MapT w' b s := by
  obtain ⟨es, c, hb, r⟩ := h
  exact ⟨es, c, e.trans hb, r⟩
theorem MapT.below {w w' : World} {b : Nat} {s : List P} (h : MapT w b s) (hb : Below w.heap.size w w') : MapT w' b s := h.of_block (hb.block b h.lt)
theorem MapT.made (w : World) : MapT (w.alloc (.map #[] 0)) w.heap.size [] := ⟨#[], 0, heap_alloc_new w _, rfl, by simp⟩
theorem ments_at {es : Array MapEntry} {s : List P} (h : es.toList.map (fun e => (e.key, e.val)) = s.map entP) {j : Nat} {e : MapEntry} (hj : es.toList[j]? = some e) :
    ∃ p, s[j]? = some p ∧ e.key = .string p.v ∧ e.val = p.t.val := by
  have h1 := congrArg (fun l => l[j]?) h
  simp only [List.getElem?_map, hj, Option.map_some] at h1
  obtain ⟨p, hp, he⟩ := Option.map_eq_some_iff.1 h1.symm
  simp only [entP, Prod.mk.injEq] at he
  exact ⟨p, hp, he.1.symm, he.2.symm⟩
theorem ments_keys {es : Array MapEntry} {s : List P} (h : es.toList.map (fun e => (e.key, e.val)) = s.map entP) (hw : ∀ p ∈ s, p.v.size ≤ maxLen) : ∀ e ∈ es.toList, ∃ l, keyOf Tryz.prog 9 e.key = some l := by
  intro e he
  obtain ⟨j, hj⟩ := List.getElem?_of_mem he
  obtain ⟨p, hp, hk, _⟩ := ments_at h hj
  rw [hk]
  exact ⟨_, keyOf_s _ (hw p (List.mem_of_getElem? hp))⟩
theorem ments_no {es : Array MapEntry} {s : List P} (h : es.toList.map (fun e => (e.key, e.val)) = s.map entP) {n : ByteArray} (hn : ∀ e ∈ es.toList, e.key ≠ .string n) : ∀ p ∈ s, p.v ≠ n := by
  intro p hp e
  obtain ⟨j, hj⟩ := List.getElem?_of_mem hp
  have h1 := congrArg (fun l => l[j]?) h
  simp only [List.getElem?_map, hj, Option.map_some] at h1
  obtain ⟨x, hx, he⟩ := Option.map_eq_some_iff.1 h1
  simp only [entP, Prod.mk.injEq] at he
  exact hn x (List.mem_of_getElem? hx) (by rw [he.1, e])
theorem zeroTm (w : World) : (zeroValue 48).run Tryz.prog w = .ok (.agg #[.string ⟨#[]⟩, .int .i8 0, .int .i64 0, .string ⟨#[]⟩]) w := by kernel_rfl
/-- what the map has for a name -/
def lookP (s : List P) (n : ByteArray) : Value := match s.find? (fun p => decide (p.v = n)) with
  | some p => .tuple #[p.t.val, .bool true]
  | none => .tuple #[.agg #[.string ⟨#[]⟩, .int .i8 0, .int .i64 0, .string ⟨#[]⟩], .bool false]
theorem lookP_no {s : List P} {n : ByteArray} (h : ∀ p ∈ s, p.v ≠ n) : lookP s n = .tuple #[.agg #[.string ⟨#[]⟩, .int .i8 0, .int .i64 0, .string ⟨#[]⟩], .bool false] := by
  unfold lookP
  rw [List.find?_eq_none.2 (fun p hp => by simpa using h p hp)]
theorem MapT.look {w : World} {b : Nat} {s : List P} (h : MapT w b s) (nd : (s.map P.v).Nodup) {n : ByteArray} (hn : n.size ≤ maxLen) :
    (Instr.lookup 98 (.map (some b)) (.string n) true).run Tryz.prog w = .ok (lookP s n) w := by
  obtain ⟨es, c, hb, hes, hw⟩ := h
  have hl := keyOf_s n hn
  rcases keyedS.find w hl es.toList (ments_keys hes hw) with ⟨h1, h2⟩ | ⟨j, e, h1, h2, h3⟩
  · rw [lookP_no (ments_no hes h2)]
    simp [Instr.lookup, run_underlying Tryz.underlying98, MapKept.run_getObj_map hb, keyedS.check w _ hl, h1, Result.andThen, zeroTm]
  · obtain ⟨p, hp, hk, hval⟩ := ments_at hes h2
    have e : p.v = n := by
      have := hk.symm.trans h3
      injection this
    have hf : s.find? (fun p => decide (p.v = n)) = some p := by
      cases hf : s.find? (fun p => decide (p.v = n)) with
      | none => exact absurd e (by simpa using List.find?_eq_none.1 hf p (List.mem_of_getElem? hp))
      | some q =>
        have hq : q.v = n := by simpa using List.find?_some hf
        obtain ⟨i, hi⟩ := List.getElem?_of_mem (List.mem_of_find?_eq_some hf)
        have e1 : (s.map P.v)[i]? = some n := by rw [List.getElem?_map, hi, ← hq]; rfl
        have e2 : (s.map P.v)[j]? = some n := by rw [List.getElem?_map, hp, ← e]; rfl
        obtain ⟨i1, i2⟩ := List.getElem?_eq_some_iff.1 e1
        obtain ⟨j1, j2⟩ := List.getElem?_eq_some_iff.1 e2
        have nd' := List.pairwise_iff_getElem.1 nd
        have : i = j := by
          rcases Nat.lt_trichotomy i j with h | h | h
          · exact absurd (i2.trans j2.symm) (nd' i j i1 j1 h)
          · exact h
          · exact absurd (j2.trans i2.symm) (nd' j i j1 i1 h)
        rw [this, hp] at hi
        rw [Option.some.inj hi]
    unfold lookP
    rw [hf]
    simp [Instr.lookup, run_underlying Tryz.underlying98, MapKept.run_getObj_map hb, keyedS.check w _ hl, h1, hval, Result.andThen]
/-- 'm[n] = t' where n is not there -/
theorem MapT.put {w : World} {b : Nat} {s : List P} (h : MapT w b s) {p : P} (hs : p.v.size ≤ maxLen) (hn : ∀ q ∈ s, q.v ≠ p.v) :
    ∃ w', (Instr.mapUpdate 98 (.map (some b)) (.string p.v) p.t.val).run Tryz.prog w = .ok () w' ∧ MapT w' b (s ++ [p]) ∧ w.mapTurned w' b := by
  obtain ⟨es, c, hb, hes, hw⟩ := h
  have hl := keyOf_s p.v hs
  rcases keyedS.find w hl es.toList (ments_keys hes hw) with ⟨h1, h2⟩ | ⟨j, e, h1, h2, h3⟩
  · refine ⟨setBlock w b (.map (es.push ⟨.string p.v, p.t.val, c⟩) (c + 1)), by simp [Instr.mapUpdate, run_underlying Tryz.underlying98, MapKept.run_getObj_map hb, keyedS.check w false hl, h1, MapKept.run_setObj_map _ hb, Result.andThen, setBlock], ⟨_, _, heap_setBlock_same hb _, by simp [hes, entP], ?_⟩, ?_⟩
    · intro q hq
      rcases List.mem_append.1 hq with hq | hq
      · exact hw q hq
      · simp at hq
        subst hq
        exact hs
    · exact ⟨es, c, _, _, hb, rfl⟩
  · obtain ⟨q, hp, hk, hval⟩ := ments_at hes h2
    refine absurd ?_ (hn q (List.mem_of_getElem? hp))
    have := hk.symm.trans h3
    injection this
end Go.Proofs.YteabclfhmapabaaGreatDoor
end
