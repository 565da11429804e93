import Derived.Test.YtoppgalbmijhdaaGreatDoorSoApp
import Derived.Deep.DeepCutAuto
namespace Go.Proofs.YtoppgalbmijhdaaGreatDoor
open Go.RowKit Go.Maps
set_option linter.unusedVariables false
set_option linter.unusedSimpArgs false
attribute [local go_sem ↓] Go.wp_at_zero Go.wp_at_succ
attribute [-go_sem] Builtin.append_

/-- a step of a region that draws: a call of a function, by its contract -/
theorem step_call {P : Program} {ops : Array Oper} {o : Oper} {a : Act} {w : World} {K : Act → World → Prop} {Q : Exit → Act → World → Prop} {E : Prop}
    (hg : o.guard = none) (f : FuncId) {fn : Func} (hf : P.funcs[f]? = some fn) (hn : (fn.name == "runtime.NumGoroutine") = false) (hb : fn.body.isNone = false) (xs : Array Operand) (tys : Array TypeId) (hop : o.op = Op.call { callee := Callee.value (Operand.func f), args := xs, argTypes := tys }) (vs : Array Value) (hx : xs.map a.eval = vs)
    {post : Ending → World → Prop} (hc : Calls P f vs w post) (hK : ∀ e w', post e w' → ∃ v, e = .returned v ∧ K (a.put o.dst v) w') :
    if Region.wanted o (yielded ops a.tmps) = true then Oper.wp P o a w K Q else E := by
  have hw : Region.wanted o (yielded ops a.tmps) = true := by simp [Region.wanted, hg]
  rw [if_pos hw]
  have he : (execOp a.eval o).run P w = .ok (.enter f vs) w := by
    have hn' : ¬ fn.name = "runtime.NumGoroutine" := by simpa using hn
    have hb' : ¬ fn.body = none := by cases h : fn.body <;> simp [h] at hb ⊢
    simp [execOp, hop, resolve, invoke, ← hx, Act.eval, Result.andThen, Deferred.ofValue, callFunc, (show Sem.run P program w = .ok P w from rfl), hf, hn', hb', go_sem]
  unfold Oper.wp
  rw [he, Oper.upon_enter]
  refine hc.mono fun e w' h => ?_
  obtain ⟨v, rfl, hk⟩ := hK e w' h
  exact hk
theorem FrF.lower {lo lo' : Nat} {wr : World} {ex : Nat → Prop} {y : XF} (h : FrF lo wr ex y) (hl : lo' ≤ lo) : FrF lo' wr ex y := fun w'' h1 h2 => h w'' h1 (fun k k1 k2 k3 => h2 k (Nat.le_trans hl k1) k2 k3)
set_option maxHeartbeats 3200000 in
set_option maxRecDepth 100000 in
theorem copyFact_any (y : XF) (w : World) (hy : FIs w y) (hn : y.vs.length ≤ 1048576) :
    Calls Tryz.prog 60 #[y.val] w fun e w' => ∃ y', e = .returned y'.val ∧ LikeF y y' ∧ Below w.heap.size w w' ∧ FrF w.heap.size w' (fun _ => False) y' := by
  obtain ⟨pr, vs, a, c⟩ := y
  have hp := hy.pb
  have hv := hy.vs
  have hln := hy.ln
  dsimp only at hp hv hln hn
  have hA1 := belowA (w := w) (.cells #[.string pr, .slice a vs.length c] 31)
  have hA2 := belowA (w := w.alloc (.cells #[.string pr, .slice a vs.length c] 31)) (.cells #[.string ⟨#[]⟩, .slice none 0 0] 31)
  have HB0 : Hid (Below w.heap.size w ((w.alloc (.cells #[.string pr, .slice a vs.length c] 31)).alloc (.cells #[.string ⟨#[]⟩, .slice none 0 0] 31))) := hA1.trans (hA2.mono hA1.size)
  have HR0 : Hid (RL ((w.alloc (.cells #[.string pr, .slice a vs.length c] 31)).alloc (.cells #[.string ⟨#[]⟩, .slice none 0 0] 31)) w.heap.size 31 [.string pr, .slice a vs.length c]) := (rl_new w #[.string pr, .slice a vs.length c] 31).below hA2
  have hR1 := rl_new (w.alloc (.cells #[.string pr, .slice a vs.length c] 31)) #[.string ⟨#[]⟩, .slice none 0 0] 31
  rw [World.size_alloc] at hR1
  have HR1 : Hid (RL ((w.alloc (.cells #[.string pr, .slice a vs.length c] 31)).alloc (.cells #[.string ⟨#[]⟩, .slice none 0 0] 31)) (w.heap.size + 1) 31 [.string ⟨#[]⟩, .slice none 0 0]) := hR1
  have HSZ : Hid (w.heap.size + 2 = ((w.alloc (.cells #[.string pr, .slice a vs.length c] 31)).alloc (.cells #[.string ⟨#[]⟩, .slice none 0 0] 31)).heap.size) := by show _ = _; simp
  have HLV : Hid (∀ u, Below w.heap.size w u → Lv u (.slice a vs.length c) vs) := fun u hu => hv.below hu
  have HWF : Hid (∀ v ∈ vs, v.wf) := hv.wf
  clear hA1 hA2 hR1 hv hy
  unfold XF.val
  dsimp only
  go_enter Tryz.func60, Tryz.ntmps60
  go_upto_region 1 with fail
  generalize (w.alloc (.cells #[.string pr, .slice a vs.length c] 31)).alloc (.cells #[.string ⟨#[]⟩, .slice none 0 0] 31) = W at HB0 HR0 HR1 HSZ ⊢
  have y0 := HR0.out.at (j := 0) rfl
  have y1 := HR0.out.at (j := 1) rfl
  go_region_law (
    refine step_call rfl 73 Tryz.func73 (by kernel_rfl) (by kernel_rfl) #[.tmp 6] _ rfl #[.slice a vs.length c] (by simp [Act.eval, Act.put]) (copyTuple_any a c vs W.drew (HLV.out _ HB0.out.drew) hn) ?_
    rintro ee w2 ⟨a', c', rfl, ho, b2⟩
    refine ⟨_, rfl, ?_⟩
    have B2 : Hid (Below W.heap.size W w2) := (Below.refl W.heap.size W).drew.trans b2
    have HO2 : Hid (w2.ownsRow W.heap.size 55 3 (.slice a' vs.length c') vs.length (vs.flatMap V.cells)) := ho
    have z0 := (HR0.out.below B2.out).at (j := 0) rfl
    have q0 := (HR1.out.below B2.out).at (j := 0) rfl
    have q1 := (HR1.out.below B2.out).at (j := 1) rfl
    have f0 := World.rowIs.frozen (HR1.out.below B2.out) 0
    have f1 := World.rowIs.frozen (HR1.out.below B2.out) 1
    clear b2 ho)
  all_goals
    have hz := HSZ.out
    have hRf := ((HR1.out.below B2.out).set 0 (.string pr)).set 1 (.slice a' vs.length c')
    have HF : Hid (Below w.heap.size w ((w2.setCell ⟨w.heap.size + 1, 0, none⟩ (.string pr)).setCell ⟨w.heap.size + 1, 1, none⟩ (.slice a' vs.length c')) ∧ FrF w.heap.size ((w2.setCell ⟨w.heap.size + 1, 0, none⟩ (.string pr)).setCell ⟨w.heap.size + 1, 1, none⟩ (.slice a' vs.length c')) (fun _ => False) ⟨pr, vs, a', c'⟩) := by
      refine ⟨((HB0.out.trans (B2.out.mono HB0.out.size)).setCell (p := ⟨w.heap.size + 1, 0, none⟩) (by show _ ≤ w.heap.size + 1; omega) _).setCell (p := ⟨w.heap.size + 1, 1, none⟩) (by show _ ≤ w.heap.size + 1; omega) _, ?_⟩
      have h1 : FrF W.heap.size w2 (fun _ => False) ⟨pr, vs, a', c'⟩ := frF_own hp hln HWF.out HO2.out
      refine (h1.keep (by simp only [World.size_setCell]; omega) (fun k k1 k2 _ => ?_) (fun _ _ e => e)).lower (by omega)
      rw [heap_setCell_other _ _ _ _ (by show k ≠ w.heap.size + 1; omega), heap_setCell_other _ _ _ _ (by show k ≠ w.heap.size + 1; omega)]
    have HRF : Hid _ := hRf
    clear hz hRf HR0 HR1 HLV
    go_wp2
    refine bodyPost_ret (rl_results Tryz.results60 (v := .agg #[.string pr, .slice a' vs.length c']) rfl (run_loadVar_mid _ _ 0 31 [.string pr, .slice a' vs.length c'] _ (RL.range HRF.out) Tryz.underlying31 rfl (by kernel_rfl))) rfl ?_
    exact ⟨⟨pr, vs, a', c'⟩, rfl, ⟨rfl, rfl⟩, HF.out⟩
theorem facts_some (ad : Addr) (n c : Nat) (w : World) : (binOp .eql 22 (.slice (some ad) n c) (.slice none 0 0)).run Tryz.prog w = .ok (.bool false) w := by kernel_rfl
theorem facts_nil (w : World) : (binOp .eql 22 (.slice none 0 0) (.slice none 0 0)).run Tryz.prog w = .ok (.bool true) w := by kernel_rfl
set_option maxHeartbeats 1600000 in
set_option maxRecDepth 100000 in
theorem cloneFacts_any {w : World} {a : Option Addr} {c : Nat} {l : List XF} (hl : Ls w (.slice a l.length c) l.length (l.flatMap XF.cells)) (hnil : a = none → l = [] ∧ c = 0) (hn : l.length ≤ 1048576) :
    Calls Tryz.prog 68 #[.slice a l.length c] w fun e w' => ∃ a' c', e = .returned (.slice a' l.length c') ∧ w'.ownsRow w.heap.size 31 2 (.slice a' l.length c') l.length (l.flatMap XF.cells) ∧ Below w.heap.size w w' := by
  cases a with
  | none =>
    obtain ⟨rfl, rfl⟩ := hnil rfl
    have hq := facts_nil w
    simp only [List.length_nil]
    go_enter Tryz.func68, Tryz.ntmps68
    go_wp2
    go_ret
    exact ⟨none, 0, rfl, World.ownsRow_nil _ _ _ _, Below.refl _ _⟩
  | some ad =>
    obtain ⟨i0, hi0, hz0, hz1, hz2⟩ := info_partsS infoFs
    have hq := fun w => facts_some ad l.length c w
    have hb := belowA (w := w) (.cells #[] 31)
    have ho : (w.alloc (.cells #[] 31)).ownsRow w.heap.size 31 2 (.slice (some ⟨w.heap.size, 0, none⟩) 0 0) 0 [] := ⟨rfl, .inr ⟨_, _, _, rfl, Nat.le_refl _, heap_alloc_new w _, Nat.le_refl _, Nat.zero_le _, rfl, rfl⟩⟩
    obtain ⟨v', w1, hr, ho1, hg, hloc⟩ := run_app_ls (w := w.alloc (.cells #[] 31)) (b := w.heap.size) 22 22 31 i0 _ Tryz.underlying22 hi0 hz0 hz1 hz2 rfl (by decide) ho (hl.below hb) (flat_len XF.cells 2 (fun _ => rfl) l) (cellsF_one l) (by unfold maxLen; omega) (by omega) (by simp)
    rw [Nat.zero_add, List.nil_append] at ho1
    obtain ⟨a', c', rfl, _⟩ := own_form ho1
    have HF : Hid (w1.ownsRow w.heap.size 31 2 (.slice a' l.length c') l.length (l.flatMap XF.cells) ∧ Below w.heap.size w w1) := ⟨ho1, hb.grown hg hb.size (fun j hj => by have := (ho.lt j hj).1; exact this)⟩
    clear hl hb ho ho1 hg hloc hnil
    go_enter Tryz.func68, Tryz.ntmps68
    go_wp2
    go_ret
    exact ⟨a', c', rfl, HF.out⟩
/-- amid the loop -/
def Sofar (rs : List XF) (i : Nat) (out : List XF) : Prop := (i = 0 ∧ out = []) ∨ ∃ p, 0 < i ∧ rs[i - 1]? = some p ∧ Amid ((rs.take i).map XF.key) (out.map XF.key) p.key
theorem sofar_told {l rs : List XF} (ho : InOrder l rs) {out : List XF} (h : Sofar rs rs.length out) : Told (l.map XF.key) (out.map XF.key) := by
  have hm : ∀ k, k ∈ rs.map XF.key ↔ k ∈ l.map XF.key := fun k => (ho.perm.map XF.key).mem_iff
  rcases h with ⟨h0, rfl⟩ | ⟨p, _, _, h⟩
  · have : rs = [] := List.eq_nil_of_length_eq_zero h0
    subst this
    exact ⟨List.Pairwise.nil, fun k => hm k⟩
  · rw [List.take_length] at h
    exact ⟨h.told.rises, fun k => (h.told.same k).trans (hm k)⟩
theorem takeX {l : List XF} {k : Nat} {y : XF} (h : l[k]? = some y) : (l.take (k + 1)).map XF.key = (l.take k).map XF.key ++ [y.key] := by
  rw [List.take_add_one, h, List.map_append]
  rfl
theorem sofar_first {rs : List XF} {y y' : XF} (h : rs[0]? = some y) (hl : LikeF y y') : Sofar rs 1 ([] ++ [y']) := by
  refine .inr ⟨y, by omega, h, ?_⟩
  rw [takeX h]
  have : y'.key = y.key := by unfold XF.key; rw [hl.pr, hl.vs]
  simp only [List.nil_append, List.map_cons, List.map_nil, List.take_zero, this]
  exact Amid.first _
theorem sofar_next {l rs : List XF} (ho : InOrder l rs) {i : Nat} {out : List XF} {p y : XF} (h : Sofar rs (i + 1) out) (hp : rs[i]? = some p) (hy : rs[i + 1]? = some y) :
    (ko p.key y.key = 0 → Sofar rs (i + 1 + 1) out) ∧ (ko p.key y.key ≠ 0 → ∀ y', LikeF y y' → Sofar rs (i + 1 + 1) (out ++ [y'])) := by
  rcases h with ⟨h0, _⟩ | ⟨p', _, hp', hA⟩
  · omega
  · rw [show i + 1 - 1 = i by omega, hp] at hp'
    cases hp'
    have hup := ho.up i (i + 1) p y (by omega) hp hy
    refine ⟨fun e => ?_, fun e y' hl => ?_⟩
    · refine .inr ⟨y, by omega, by rw [show i + 1 + 1 - 1 = i + 1 by omega]; exact hy, ?_⟩
      rw [takeX hy, ← ko_zero e]
      refine hA.again (List.mem_map.2 ⟨p, ?_, rfl⟩)
      rw [List.take_add_one, hp]
      simp
    · refine .inr ⟨y, by omega, by rw [show i + 1 + 1 - 1 = i + 1 by omega]; exact hy, ?_⟩
      have hk : y'.key = y.key := by unfold XF.key; rw [hl.pr, hl.vs]
      rw [takeX hy, List.map_append, List.map_cons, List.map_nil, hk]
      refine hA.next ?_
      rcases kl_of hup with h | h
      · exact absurd (by rw [h]; exact ko_self _) e
      · exact h
/-- a region whose orders all end in the same act, in a world of which R holds -/
theorem region_R {P : Program} {id : Nat} {ops : Array Oper} {b : Bool} {Q : Exit → Act → World → Prop} {a : Act} {w : World} (R : World → Prop)
    (h : ∃ A, (Code.region id ops b).wp P (fun e a' w' => e = .normal ∧ a' = A ∧ R w') a w ∧ ∀ w', R w' → Q .normal A w') : (Code.region id ops b).wp P Q a w := by
  obtain ⟨A, h, hk⟩ := h
  exact Code.wp_mono (fun e a' w' h => by obtain ⟨rfl, rfl, hr⟩ := h; exact hk _ hr) h
set_option maxHeartbeats 6400000 in
set_option maxRecDepth 100000 in
theorem eachOnceF_any {w : World} {a : Option Addr} {c : Nat} {l : List XF} (hl : Ls w (.slice a l.length c) l.length (l.flatMap XF.cells)) (hnil : a = none → l = [] ∧ c = 0) (hn : l.length ≤ 1048576) (ok : ∀ y ∈ l, FIs w y) (hsm : ∀ y ∈ l, y.vs.length ≤ 1048576) :
    Calls Tryz.prog 58 #[.slice a l.length c, .func (.func 59) #[] #[], .func (.func 60) #[] #[]] w fun e w' => ∃ a' c' out, e = .returned (.slice a' out.length c') ∧ Below w.heap.size w w' ∧ Told (l.map XF.key) (out.map XF.key) ∧ Lf w' (.slice a' out.length c') out := by
  obtain ⟨i0, hi0, hz0, hz1, hz2⟩ := info_partsS infoFs
  have HC := Lib.hid (cloneFacts_any hl hnil hn)
  have HOK := Lib.hid ok
  have HSM := Lib.hid hsm
  clear hl hnil ok hsm
  go_enter Tryz.func58, Tryz.ntmps58
  go_wp2_with fail
  refine HC.out.mono ?_
  rintro e w1 ⟨a1, c1, rfl, ho1, b1⟩
  have HS := Lib.hid (sortFacts b1 ho1 HOK.out (by omega))
  have HB1 := Lib.hid b1
  clear ho1 b1 HC
  go_wp2_with fail
  refine HS.out.mono ?_
  rintro e w2 ⟨rfl, rs, hio, ho2, b2⟩
  have HIO := Lib.hid hio
  have HO2 := Lib.hid ho2
  have HB2 := Lib.hid (HB1.out.trans b2)
  have hrl : rs.length = l.length := hio.perm.length_eq
  have HRS : Hid (∀ y ∈ rs, FIs w y ∧ y.vs.length ≤ 1048576) := fun y hy => ⟨HOK.out y (hio.perm.mem_iff.1 hy), HSM.out y (hio.perm.mem_iff.1 hy)⟩
  have HRL := Lib.hid hrl
  clear hio ho2 b2 HS HB1 hrl
  have HBW0 := Lib.hid (Below.refl w2.heap.size w2)
  have HE0 := Lib.hid (eoS_nil 31 2 XF.cells w2.heap.size w2)
  go_wp2
  go_loopw [8, 18] (fun ov iv wr => ∃ (i : Nat) (a' : Option Addr) (c' : Nat) (out : List XF), i ≤ l.length ∧ iv = .int .i64 i ∧ ov = .slice a' out.length c' ∧ out.length ≤ i ∧ Hid (EoS 31 2 XF.cells w2.heap.size out a' c' wr) ∧ Hid (Below w2.heap.size w2 wr) ∧ Hid (Sofar rs i out)) (fun _ iv _ => l.length - (intOf iv).toNat)
  case atStart => exact ⟨0, none, 0, [], Nat.zero_le _, rfl, rfl, Nat.le_refl _, HE0, HBW0, .inl ⟨rfl, rfl⟩⟩
  case round =>
    obtain ⟨i, a', c', out, hi, rfl, rfl, hol, HE, HBW, HSF⟩ := hrel
    clear HBW0 HE0
    by_cases hlt : i < l.length
    · have hlt' : (i : Int) < (l.length : Int) := by omega
      have hi00 : (0 : Int) ≤ (i : Int) := by omega
      obtain ⟨y, hy⟩ : ∃ y, rs[i]? = some y := ⟨rs[i]'(by have := HRL.out; omega), List.getElem?_eq_getElem _⟩
      have hlies := ls_own HO2.out
      obtain ⟨_, aa, cc, hv, _, _, hfl⟩ := hlies
      cases hv
      obtain ⟨g1, off1, rfl, hg1, hflat⟩ := hfl (by omega)
      have hcell : ∀ (j : Nat) (z : XF), rs[j]? = some z → ∀ u, Below w2.heap.size w2 u → u.cell? ⟨g1, off1 + j * 2, none⟩ = some (.string z.pr) ∧ u.cell? ⟨g1, off1 + j * 2 + 1, none⟩ = some (.slice z.a z.vs.length z.c) := fun j z hz u hu => by
        obtain ⟨hjl, hjz⟩ := List.getElem?_eq_some_iff.1 hz
        have hz' : rs.getD j XF0 = z := by rw [List.getD, hz]; rfl
        have e0 := hflat.elem (k := 2) (f := XF.cells) (fun _ => rfl) XF0 hjl (j := 0) (by omega) (u := .string z.pr) (by rw [hz']; rfl)
        have e1 := hflat.elem (k := 2) (f := XF.cells) (fun _ => rfl) XF0 hjl (j := 1) (by omega) (u := .slice z.a z.vs.length z.c) (by rw [hz']; rfl)
        refine ⟨?_, ?_⟩
        · rw [hu.cell (p := ⟨g1, off1 + j * 2, none⟩) hg1]; exact e0
        · rw [hu.cell (p := ⟨g1, off1 + j * 2 + 1, none⟩) hg1]; rw [Nat.add_assoc]; exact e1
      have HCL := Lib.hid hcell
      clear hflat hfl hcell
      obtain ⟨y0, y1⟩ := HCL.out i y hy wr HBW.out
      have hA := belowA (w := wr) (.cells #[.string y.pr, .slice y.a y.vs.length y.c] 31)
      have HBX := Lib.hid (HBW.out.trans (hA.mono HBW.out.size))
      have HEX := Lib.hid (HE.out.keep hA)
      have HRX := Lib.hid (rl_new wr #[.string y.pr, .slice y.a y.vs.length y.c] 31)
      have HY := Lib.hid (And.intro hy (HRS.out y (List.mem_of_getElem? hy)))
      clear hA hy HE HBW
      go_upto_region 7 with fail
      generalize wr.alloc (.cells #[.string y.pr, .slice y.a y.vs.length y.c] 31) = WX at HBX HEX HRX ⊢
      generalize wr.heap.size = bx at HRX ⊢
      clear y0 y1
      have HCP : Hid (∀ u, Below WX.heap.size WX u → Calls Tryz.prog 60 #[.agg #[.string y.pr, .slice y.a y.vs.length y.c]] u fun e w' => ∃ y', e = .returned (.agg #[.string y'.pr, .slice y'.a y'.vs.length y'.c]) ∧ LikeF y y' ∧ Below u.heap.size u w' ∧ FrF u.heap.size w' (fun _ => False) y') := fun u hu => copyFact_any y u (HY.out.2.1.below (HB2.out.trans ((HBX.out.trans (hu.mono HBX.out.size)).mono HB2.out.size))) HY.out.2.2
      rcases Nat.eq_zero_or_pos i with h0 | hpos
      · have HOE : Hid (out = []) := by
          rcases HSF.out with ⟨_, h⟩ | ⟨_, h, _⟩
          · exact h
          · omega
        have HFI : Hid (∀ y', LikeF y y' → Sofar rs (i + 1) (out ++ [y'])) := fun y' hlk => by
          have h1 := HY.out.1
          rw [h0] at h1 ⊢
          rw [HOE.out]
          exact sofar_first h1 hlk
        have hz0' : ((i : Int) == 0) = true := by simp [h0]
        clear h0
        go_wp2_with fail
        go_quiet (fail)
        have HBQ := Lib.hid (below_drewV (Below.refl WX.heap.size WX) nq)
        have HRQ := Lib.hid (HRX.out.below HBQ.out)
        have HEQ := Lib.hid (HEX.out.keep HBQ.out)
        have HB5 := Lib.hid (HBX.out.trans (HBQ.out.mono HBX.out.size))
        generalize WX.drewN nq = WY at HBQ HRQ HEQ HB5 ⊢
        have q0 := HRQ.out.at (j := 0) rfl
        have q1 := HRQ.out.at (j := 1) rfl
        go_wp2_with fail
        refine (HCP.out WY HBQ.out).mono ?_
        rintro e w5 ⟨y', rfl, hlk, b5, hfr⟩
        have B5 := Lib.hid b5
        have HE5 := HEQ
        obtain ⟨v', w6, hrun, hown', hgrow, hnilx, hloc⟩ := run_append_own_at (P := Tryz.prog) (w5.alloc (.cells #[.string y'.pr, .slice y'.a y'.vs.length y'.c] 31)) w2.heap.size 22 22 31 i0 _ 2 40 Tryz.underlying22 hi0 hz0 hz1 hz2 rfl (by decide) _ _ _ (own_below (own_below HE5.out.own b5) (belowA _)) ⟨_, 0, none⟩ 1 1 [.string y'.pr, .slice y'.a y'.vs.length y'.c] rfl (lit_news w5 #[.string y'.pr, .slice y'.a y'.vs.length y'.c] _) (by simp [Value.oneCell']) (by unfold maxLen; omega) (by omega) (by have h1 := HB5.out.size; have h2 := b5.size; simp; omega)
        obtain ⟨a6, c6, rfl, hst, hbl⟩ := HE5.out.step HB5.out.size b5 y' hfr hown' hgrow hloc
        have HST := Lib.hid hst
        have HB6 := Lib.hid (hbl HB5.out)
        have HNX := Lib.hid (HFI.out y' hlk)
        have HLn : Hid ((out ++ [y']).length = out.length + 1) := by show _ = _; simp
        clear hown' hgrow hnilx hloc hst hbl hfr hlk b5
        go_wp2
        go_roundw
        case rel => exact ⟨i + 1, a6, c6, out ++ [y'], by omega, by go_num, by rw [HLn.out], by rw [HLn.out]; omega, HST, HB6, HNX⟩
        case measure => simp [intOf]; omega
      · obtain ⟨j, hij⟩ : ∃ j, i = j + 1 := ⟨i - 1, by omega⟩
        obtain ⟨p, hp⟩ : ∃ p, rs[j]? = some p := ⟨rs[j]'(by have := HRL.out; omega), List.getElem?_eq_getElem _⟩
        have HSN : Hid ((ko p.key y.key = 0 → Sofar rs (i + 1) out) ∧ (ko p.key y.key ≠ 0 → ∀ y', LikeF y y' → Sofar rs (i + 1) (out ++ [y']))) := by
          have h1 := HSF.out
          have h2 := HY.out.1
          rw [hij] at h1 h2
          show _ ∧ _
          rw [hij]
          exact sofar_next HIO.out h1 hp h2
        have HP := Lib.hid (HRS.out p (List.mem_of_getElem? hp))
        have HPC : Hid (∀ u, Below WX.heap.size WX u → u.cell? ⟨g1, off1 + j * 2, none⟩ = some (.string p.pr) ∧ u.cell? ⟨g1, off1 + j * 2 + 1, none⟩ = some (.slice p.a p.vs.length p.c) ∧ u.cell? ⟨bx, 0, none⟩ = some (.string y.pr) ∧ u.cell? ⟨bx, 1, none⟩ = some (.slice y.a y.vs.length y.c)) := fun u hu => ⟨(HCL.out j p hp u (HBX.out.trans (hu.mono HBX.out.size))).1, (HCL.out j p hp u (HBX.out.trans (hu.mono HBX.out.size))).2, (HRX.out.below hu).at (j := 0) rfl, (HRX.out.below hu).at (j := 1) rfl⟩
        obtain ⟨cv, hcv⟩ : ∃ cv, ko p.key y.key = cv := ⟨_, rfl⟩
        have HCM : Hid (∀ u, Below WX.heap.size WX u → Calls Tryz.prog 59 #[.agg #[.string p.pr, .slice p.a p.vs.length p.c], .agg #[.string y.pr, .slice y.a y.vs.length y.c]] u fun e w' => e = .returned (.int .i64 cv) ∧ Below u.heap.size u w') := fun u hu => by
          have hb : Below w.heap.size w u := HB2.out.trans ((HBX.out.trans (hu.mono HBX.out.size)).mono HB2.out.size)
          have := AR.vcf p.fc y.fc u (XF.lies (HP.out.1.below hb)) (XF.lies (HY.out.2.1.below hb))
          rw [ko_fc, hcv] at this
          exact this
        rw [hcv] at HSN
        have hB0 : Below WX.heap.size WX WX.drew := (Below.refl _ _).drew
        obtain ⟨p0, p1, p2, p3⟩ := HPC.out _ hB0
        have hge : ((i : Int) == 0) = false := by simp; omega
        have hsub : IntKind.i64.wrap ((i : Int) - 1) = (j : Int) := by rw [IntKind.wrap_i64]; omega
        have hj0 : (0 : Int) ≤ (j : Int) := by omega
        have hjl : (j : Int) < (l.length : Int) := by omega
        have hi1 : i + 1 ≤ l.length := by omega
        clear hcv hp hij hpos
        by_cases hcv0 : cv = 0
        · have hcb : (cv != 0) = false := by simp [hcv0]
          have HNX := Lib.hid (HSN.out.1 hcv0)
          clear hcv0 HSN
          go_wp2_with fail
          refine region_R (fun u => Below WX.heap.size WX u) ?_
          apply Exists.intro
          refine ⟨?_, ?_⟩
          · refine wp_region_noPanic ?_
            go_region_with (go_at_call 59; refine (HCM.out _ hB0).mono ?_; rintro ee w7 ⟨rfl, b7⟩; have hb7 := hB0.trans (b7.mono hB0.size))
            all_goals exact NoPanic.normal ⟨rfl, rfl, by assumption⟩
          intro WY hbY
          simp (config := { maxSteps := 10000000 }) only [Act.put, List.getElem_toArray, List.getElem_cons_zero, List.getElem_cons_succ, List.setIfInBounds_toArray, List.set_cons_succ, List.set_cons_zero]
          have HEY := Lib.hid (HEX.out.keep hbY)
          have HBY := Lib.hid (HBX.out.trans (hbY.mono HBX.out.size))
          clear hbY p0 p1 p2 p3
          go_wp2
          go_roundw
          case rel => exact ⟨i + 1, a', c', out, by omega, by go_num, rfl, by omega, HEY, HBY, HNX⟩
          case measure => simp [intOf]; omega
        · have hcb : (cv != 0) = true := by simp [hcv0]
          have HSNN := Lib.hid (HSN.out.2 hcv0)
          clear hcv0 HSN
          go_wp2_with fail
          refine region_R (fun u => Below WX.heap.size WX u) ?_
          apply Exists.intro
          refine ⟨?_, ?_⟩
          · refine wp_region_noPanic ?_
            go_region_with (go_at_call 59; refine (HCM.out _ hB0).mono ?_; rintro ee w7 ⟨rfl, b7⟩; have hb7 := hB0.trans (b7.mono hB0.size))
            all_goals exact NoPanic.normal ⟨rfl, rfl, by assumption⟩
          intro WY hbY
          simp (config := { maxSteps := 10000000 }) only [Act.put, List.getElem_toArray, List.getElem_cons_zero, List.getElem_cons_succ, List.setIfInBounds_toArray, List.set_cons_succ, List.set_cons_zero]
          have HBQ := Lib.hid hbY
          have HEQ := Lib.hid (HEX.out.keep hbY)
          have HB5 := Lib.hid (HBX.out.trans (hbY.mono HBX.out.size))
          have q0 := (HRX.out.below hbY).at (j := 0) rfl
          have q1 := (HRX.out.below hbY).at (j := 1) rfl
          clear hbY p0 p1 p2 p3
          go_wp2_with fail
          refine (HCP.out WY HBQ.out).mono ?_
          rintro e w5 ⟨y', rfl, hlk, b5, hfr⟩
          have B5 := Lib.hid b5
          have HE5 := HEQ
          obtain ⟨v', w6, hrun, hown', hgrow, hnilx, hloc⟩ := run_append_own_at (P := Tryz.prog) (w5.alloc (.cells #[.string y'.pr, .slice y'.a y'.vs.length y'.c] 31)) w2.heap.size 22 22 31 i0 _ 2 40 Tryz.underlying22 hi0 hz0 hz1 hz2 rfl (by decide) _ _ _ (own_below (own_below HE5.out.own b5) (belowA _)) ⟨_, 0, none⟩ 1 1 [.string y'.pr, .slice y'.a y'.vs.length y'.c] rfl (lit_news w5 #[.string y'.pr, .slice y'.a y'.vs.length y'.c] _) (by simp [Value.oneCell']) (by unfold maxLen; omega) (by omega) (by have h1 := HB5.out.size; have h2 := b5.size; simp; omega)
          obtain ⟨a6, c6, rfl, hst, hbl⟩ := HE5.out.step HB5.out.size b5 y' hfr hown' hgrow hloc
          have HST := Lib.hid hst
          have HB6 := Lib.hid (hbl HB5.out)
          have HNX := Lib.hid (HSNN.out y' hlk)
          have HLn : Hid ((out ++ [y']).length = out.length + 1) := by show _ = _; simp
          clear hown' hgrow hnilx hloc hst hbl hfr hlk b5
          go_wp2
          go_roundw
          case rel => exact ⟨i + 1, a6, c6, out ++ [y'], by omega, by go_num, by rw [HLn.out], by rw [HLn.out]; omega, HST, HB6, HNX⟩
          case measure => simp [intOf]; omega
    · obtain rfl : i = l.length := by omega
      have HT : Hid (Told (l.map XF.key) (out.map XF.key)) := by
        have h := HSF.out
        rw [← HRL.out] at h
        exact sofar_told HIO.out h
      have HF : Hid (Below w.heap.size w wr) := HB2.out.trans (HBW.out.mono HB2.out.size)
      have HEF : Hid (Lf wr (.slice a' out.length c') out) := ⟨ls_own HE.out.own, fun j hj => (HE.out.fr _ (by rw [atF_eq hj]; exact List.getElem_mem hj)).is⟩
      go_wp2
      go_ret
      exact ⟨a', c', out, rfl, HF.out, HT.out, HEF.out⟩
end Go.Proofs.YtoppgalbmijhdaaGreatDoor
