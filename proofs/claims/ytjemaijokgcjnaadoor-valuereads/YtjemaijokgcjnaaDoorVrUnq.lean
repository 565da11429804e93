import Derived.Test.YtjemaijokgcjnaaDoorVrNum
import Derived.Laws.MakeOwn
import Derived.Deep.RegionLaw
namespace Go.Proofs.YtjemaijokgcjnaaDoor
open Go.RowKit Go.Maps
set_option linter.unusedVariables false
set_option linter.unusedSimpArgs false
attribute [local go_sem ↓] Go.wp_at_zero Go.wp_at_succ

/-- a step of a region that draws: a call of a function, by its contract -/
theorem step_call {P : Program} {ops : Array Oper} {o : Oper} {a : Act} {w : World} {K : Act → World → Prop} {Q : Exit → Act → World → Prop} {E : Prop}
    (hg : o.guard = none) (f : FuncId) {fn : Func} (hf : P.funcs[f]? = some fn) (hn : (fn.name == "runtime.NumGoroutine") = false) (hb : fn.body.isNone = false) (xs : Array Operand) (tys : Array TypeId) (hop : o.op = Op.call { callee := Callee.value (Operand.func f), args := xs, argTypes := tys }) (vs : Array Value) (hx : xs.map a.eval = vs)
    {post : Ending → World → Prop} (hc : Calls P f vs w post) (hK : ∀ e w', post e w' → ∃ v, e = .returned v ∧ K (a.put o.dst v) w') :
    if Region.wanted o (yielded ops a.tmps) = true then Oper.wp P o a w K Q else E := by
  have hw : Region.wanted o (yielded ops a.tmps) = true := by simp [Region.wanted, hg]
  rw [if_pos hw]
  have he : (execOp a.eval o).run P w = .ok (.enter f vs) w := by
    have hn' : ¬ fn.name = "runtime.NumGoroutine" := by simpa using hn
    have hb' : ¬ fn.body = none := by cases h : fn.body <;> simp [h] at hb ⊢
    simp [execOp, hop, resolve, invoke, ← hx, Act.eval, Result.andThen, Deferred.ofValue, callFunc, (show Sem.run P program w = .ok P w from rfl), hf, hn', hb', go_sem]
  unfold Oper.wp
  rw [he, Oper.upon_enter]
  refine hc.mono fun e w' h => ?_
  obtain ⟨v, rfl, hk⟩ := hK e w' h
  exact hk
theorem half_range (c : Nat) : -1 ≤ halfI c ∧ halfI c ≤ 15 := by
  unfold halfI
  split
  · omega
  · split <;> omega
/-- what the reference's unquoted tells: of a quoted text what was quoted -/
def UqR (s r : ByteArray) : Prop := r.size ≤ 140737488355328 ∧ ∀ t : List UInt8, s.data.toList = 34 :: (t.flatMap pieceQ ++ [34]) → r.data.toList = t
set_option maxHeartbeats 6400000 in
set_option maxRecDepth 100000 in
theorem unquoted_any (s : ByteArray) (hs : s.size ≤ 140737488355328) (w : World) : Calls Tryd.prog 12 #[.string s] w fun e w' => ∃ r : ByteArray, e = .returned (.string r) ∧ Below w.heap.size w w' ∧ Hid (UqR s r) := by
  obtain ⟨i0, hi0, hz0, hz1, hz2⟩ := info_parts infoByte
  go_enter Tryd.func12, Tryd.ntmps12
  go_wp2
  go_loopw [3, 4] (fun ov iv wr => ∃ (out : List UInt8) (q : Nat), iv = .int .i64 q ∧ Below w.heap.size w wr ∧ wr.ownsRow w.heap.size 5 1 ov out.length (Lib.byteCells out) ∧ out.length + 1 ≤ q ∧ q ≤ s.size + 1 ∧ Hid (Quo s.data.toList out q)) (fun _ iv _ => s.size + 1 - (intOf iv).toNat)
  case atStart => exact ⟨[], 1, rfl, Below.refl _ _, World.ownsRow_nil _ _ _ _, by simp, by omega, quo_start _⟩
  case round =>
    obtain ⟨out, q, rfl, bel, hown, ho, hq2, HQ⟩ := hrel
    obtain ⟨ao, co, rfl, hlo⟩ := own_form hown
    by_cases hp : q + 1 < s.size
    · have hp' : (q : Int) < (s.size : Int) - 1 := by omega
      have hp2 : (q : Int) < (s.size : Int) := by omega
      have hp3 : (q : Int) + 1 < (s.size : Int) := by omega
      have hl0 : q < s.size := by omega
      obtain ⟨c0, hc0⟩ : ∃ c, s[q]'hl0 = c := ⟨_, rfl⟩
      obtain ⟨c1, hc1⟩ : ∃ c, s[q + 1]'hp = c := ⟨_, rfl⟩
      have el0 : s.data.toList[q]'(by rw [len_toList]; exact hl0) = c0 := by rw [at_list hl0, hc0]
      have el1 : s.data.toList[q + 1]'(by rw [len_toList]; exact hp) = c1 := by rw [at_list hp, hc1]
      by_cases h92 : c0.toNat = 92
      · have h92' : (c0.toNat : Int) = 92 := by omega
        have h92b : ((c0.toNat : Int) != 92) = false := by rw [h92']; rfl
        by_cases hx3 : q + 3 < s.size
        · have hx3' : (q : Int) + 3 < (s.size : Int) := by omega
          by_cases h120 : c1.toNat = 120
          · have h120' : (c1.toNat : Int) = 120 := by omega
            have hl2 : q + 2 < s.size := by omega
            have hl2' : (q : Int) + 2 < (s.size : Int) := by omega
            obtain ⟨c2, hc2⟩ : ∃ c, s[q + 2]'hl2 = c := ⟨_, rfl⟩
            obtain ⟨c3, hc3⟩ : ∃ c, s[q + 3]'hx3 = c := ⟨_, rfl⟩
            have el2 : s.data.toList[q + 2]'(by rw [len_toList]; exact hl2) = c2 := by rw [at_list hl2, hc2]
            have el3 : s.data.toList[q + 3]'(by rw [len_toList]; exact hx3) = c3 := by rw [at_list hx3, hc3]
            have HH2 := fun W => Lib.hid (half_any c2.toNat c2.toNat_lt W)
            have HH3 := fun W => Lib.hid (half_any c3.toNat c3.toNat_lt W)
            have hr2 := half_range c2.toNat
            have hr3 := half_range c3.toNat
            have HN0 := fun d hd => quo_hex HQ.out (by rw [len_toList]; exact hx3) (by rw [el0]; exact h92) (by rw [el1]; exact h120) d (by rw [el2, el3]; exact hd)
            generalize halfI c2.toNat = x at HH2 hr2 HN0
            generalize halfI c3.toNat = y at HH3 hr3 HN0
            obtain ⟨x1, x2⟩ := hr2
            obtain ⟨y1, y2⟩ := hr3
            obtain ⟨d, hd⟩ : ∃ d : UInt8, (d.toNat : Int) = (16 * x + y) % 256 := ⟨UInt8.ofNat ((16 * x + y) % 256).toNat, by rw [UInt8.toNat_ofNat']; omega⟩
            have HN := Lib.hid (HN0 d hd)
            clear HN0 HQ el0 el1 el2 el3 h120 h92
            obtain ⟨Q2, hQ2⟩ : ∃ Q : Nat, Q = q + 2 := ⟨_, rfl⟩
            obtain ⟨Q3, hQ3⟩ : ∃ Q : Nat, Q = q + 3 := ⟨_, rfl⟩
            have k1 : IntKind.i64.wrap ((q : Int) + 2) = (Q2 : Int) := by rw [IntKind.wrap_i64]; omega
            have k2 : IntKind.i64.wrap ((q : Int) + 3) = (Q3 : Int) := by rw [IntKind.wrap_i64]; omega
            have k3 : (Q2 : Int) < (s.size : Int) := by omega
            have k4 : (Q3 : Int) < (s.size : Int) := by omega
            have k3n : Q2 < s.size := by omega
            have k4n : Q3 < s.size := by omega
            have hc2' : s[Q2]'k3n = c2 := by subst hQ2; exact hc2
            have hc3' : s[Q3]'k4n = c3 := by subst hQ3; exact hc3
            have HQ3 := Lib.hid hQ3
            clear hQ2 hQ3 hc2 hc3 hl2 hl2'
            have k5 : IntKind.i64.wrap (16 * x) = 16 * x := by rw [IntKind.wrap_i64]; omega
            have k6 : IntKind.i64.wrap (16 * x + y) = 16 * x + y := by rw [IntKind.wrap_i64]; omega
            have HOWN : Hid ((wr.drew.alloc (.cells #[.int .u8 ((16 * x + y) % 256)] 5)).ownsRow w.heap.size 5 1 (.slice ao out.length co) out.length (Lib.byteCells out)) :=
              own_of_block hown (fun g hg => Below.heap_alloc wr.drew _ g (hown.lt g hg).2)
            have HC : Hid (∀ (j : Nat) (u : Value), ([.int .u8 ((16 * x + y) % 256)] : List Value)[j]? = some u → (wr.drew.alloc (.cells #[.int .u8 ((16 * x + y) % 256)] 5)).cell? ((⟨wr.heap.size, 0, none⟩ : Addr).add j) = some u) := lit_news wr.drew #[.int .u8 ((16 * x + y) % 256)] _
            have HSZ : Hid (w.heap.size ≤ (wr.drew.alloc (.cells #[.int .u8 ((16 * x + y) % 256)] 5)).heap.size) := by show _ ≤ _; have := bel.size; simp; omega
            have HFIN : Hid (∀ {w2 : World}, (wr.drew.alloc (.cells #[.int .u8 ((16 * x + y) % 256)] 5)).grownBy w2 (Value.slice ao out.length co).ownBlock → Below w.heap.size w w2) := fun hg => (bel.drew.alloc bel.drew.size _).grown hg (by have := bel.size; simp; omega) (fun j hj => (hown.lt j hj).1)
            have HD := Lib.hid hd
            clear hd hown
            go_upto_region 8 with fail
            go_region_law (first
              | (refine step_call rfl 22 Tryd.func22 (by kernel_rfl) (by kernel_rfl) #[.tmp 40] _ rfl #[.int .u8 (c2.toNat : Int)] (by simp [Act.eval, Act.put]) (HH2 _).out ?_
                 rintro ee w2 ⟨rfl, rfl⟩
                 refine ⟨_, rfl, ?_⟩)
              | (refine step_call rfl 22 Tryd.func22 (by kernel_rfl) (by kernel_rfl) #[.tmp 46] _ rfl #[.int .u8 (c3.toNat : Int)] (by simp [Act.eval, Act.put]) (HH3 _).out ?_
                 rintro ee w2 ⟨rfl, rfl⟩
                 refine ⟨_, rfl, ?_⟩)
              | (refine step_append_own rfl (.tmp 36) (.tmp 50) 46 rfl 5 i0 _ 1 1 Tryd.underlying46 hi0 hz0 hz1 hz2 rfl (by decide) w.heap.size (.slice ao out.length co) out.length _ (by simp [Act.eval, Act.put]) HOWN.out ⟨wr.heap.size, 0, none⟩ 1 1 [.int .u8 ((16 * x + y) % 256)] (by simp [Act.eval, Act.put]) rfl HC.out (by simp [Value.oneCell']) (by unfold maxLen; omega) (by omega) HSZ.out ?_
                 intro v' w2 hown' hgrow hloc
                 rw [← HD.out] at hown'))
            all_goals
              go_wp2
              go_roundw
              case rel => exact ⟨out ++ [d], Q3 + 1, by go_num, HFIN.out hgrow, by rw [Lib.byteCells_append, List.length_append]; exact hown', by have := HQ3.out; rw [List.length_append]; simp; omega, by omega, by rw [HQ3.out]; exact HN⟩
              case measure => have := HQ3.out; simp [intOf]; omega
          · have h120' : ¬ (c1.toNat : Int) = 120 := by omega
            have hno : q + 3 < s.size → c1.toNat ≠ 120 := fun _ => h120
            clear h120
            by_cases h110 : c1.toNat = 110
            · have h110' : (c1.toNat : Int) = 110 := by omega
              have HN : Hid (Quo s.data.toList (out ++ [10]) (q + 2)) := quo_nl HQ.out (by rw [len_toList]; exact hp) (by rw [el0]; exact h92) (by rw [el1]; exact h110)
              clear h110 h92
              clear HQ el0 el1
              go_wp2_with (at_builtin; refine wpList_append_own_at _ rfl _ _ 46 rfl w.heap.size 5 i0 _ 1 1 Tryd.underlying46 hi0 hz0 hz1 hz2 rfl (by decide) _ _ _ rfl (own_below hown ((Below.refl _ _).alloc (Nat.le_refl _) _)) ⟨_, 0, none⟩ 1 1 [.int .u8 10] rfl rfl (lit_news _ #[.int .u8 10] _) (by simp [Value.oneCell']) (by unfold maxLen; omega) (by omega) (by have := bel.size; simp; omega) ?_; intro v' w2 hown' hgrow hnil hloc)
              go_roundw
              case rel => exact ⟨out ++ [10], q + 2, by go_num, (bel.alloc bel.size _).grown hgrow (by have := bel.size; simp; omega) (fun j hj => (hown.lt j hj).1), by rw [Lib.byteCells_append, List.length_append]; exact hown', by rw [List.length_append]; simp; omega, by omega, HN⟩
              case measure => simp [intOf]; omega
            · have h110' : ¬ (c1.toNat : Int) = 110 := by omega
              have HN : Hid (Quo s.data.toList (out ++ [c1]) (q + 2)) := by
                have := quo_self HQ.out (by rw [len_toList]; exact hp) (by rw [el0]; exact h92) (by rw [el1]; exact h110) (by rw [el1, len_toList]; exact hno)
                rw [el1] at this
                exact this
              clear h110 h92
              clear HQ el0 el1
              go_wp2_with (at_builtin; refine wpList_append_own_at _ rfl _ _ 46 rfl w.heap.size 5 i0 _ 1 1 Tryd.underlying46 hi0 hz0 hz1 hz2 rfl (by decide) _ _ _ rfl (own_below hown ((Below.refl _ _).alloc (Nat.le_refl _) _)) ⟨_, 0, none⟩ 1 1 [.int .u8 (c1.toNat : Int)] rfl rfl (lit_news _ #[.int .u8 (c1.toNat : Int)] _) (by simp [Value.oneCell']) (by unfold maxLen; omega) (by omega) (by have := bel.size; simp; omega) ?_; intro v' w2 hown' hgrow hnil hloc)
              go_roundw
              case rel => exact ⟨out ++ [c1], q + 2, by go_num, (bel.alloc bel.size _).grown hgrow (by have := bel.size; simp; omega) (fun j hj => (hown.lt j hj).1), by rw [Lib.byteCells_append, List.length_append]; exact hown', by rw [List.length_append]; simp; omega, by omega, HN⟩
              case measure => simp [intOf]; omega
        · have hx3' : ¬ (q : Int) + 3 < (s.size : Int) := by omega
          have hno : q + 3 < s.size → c1.toNat ≠ 120 := fun h => absurd h hx3
          clear hx3
          by_cases h110 : c1.toNat = 110
          · have h110' : (c1.toNat : Int) = 110 := by omega
            have HN : Hid (Quo s.data.toList (out ++ [10]) (q + 2)) := quo_nl HQ.out (by rw [len_toList]; exact hp) (by rw [el0]; exact h92) (by rw [el1]; exact h110)
            clear h110 h92
            clear HQ el0 el1
            go_wp2_with (at_builtin; refine wpList_append_own_at _ rfl _ _ 46 rfl w.heap.size 5 i0 _ 1 1 Tryd.underlying46 hi0 hz0 hz1 hz2 rfl (by decide) _ _ _ rfl (own_below hown ((Below.refl _ _).alloc (Nat.le_refl _) _)) ⟨_, 0, none⟩ 1 1 [.int .u8 10] rfl rfl (lit_news _ #[.int .u8 10] _) (by simp [Value.oneCell']) (by unfold maxLen; omega) (by omega) (by have := bel.size; simp; omega) ?_; intro v' w2 hown' hgrow hnil hloc)
            go_roundw
            case rel => exact ⟨out ++ [10], q + 2, by go_num, (bel.alloc bel.size _).grown hgrow (by have := bel.size; simp; omega) (fun j hj => (hown.lt j hj).1), by rw [Lib.byteCells_append, List.length_append]; exact hown', by rw [List.length_append]; simp; omega, by omega, HN⟩
            case measure => simp [intOf]; omega
          · have h110' : ¬ (c1.toNat : Int) = 110 := by omega
            have HN : Hid (Quo s.data.toList (out ++ [c1]) (q + 2)) := by
              have := quo_self HQ.out (by rw [len_toList]; exact hp) (by rw [el0]; exact h92) (by rw [el1]; exact h110) (by rw [el1, len_toList]; exact hno)
              rw [el1] at this
              exact this
            clear h110 h92
            clear HQ el0 el1
            go_wp2_with (at_builtin; refine wpList_append_own_at _ rfl _ _ 46 rfl w.heap.size 5 i0 _ 1 1 Tryd.underlying46 hi0 hz0 hz1 hz2 rfl (by decide) _ _ _ rfl (own_below hown ((Below.refl _ _).alloc (Nat.le_refl _) _)) ⟨_, 0, none⟩ 1 1 [.int .u8 (c1.toNat : Int)] rfl rfl (lit_news _ #[.int .u8 (c1.toNat : Int)] _) (by simp [Value.oneCell']) (by unfold maxLen; omega) (by omega) (by have := bel.size; simp; omega) ?_; intro v' w2 hown' hgrow hnil hloc)
            go_roundw
            case rel => exact ⟨out ++ [c1], q + 2, by go_num, (bel.alloc bel.size _).grown hgrow (by have := bel.size; simp; omega) (fun j hj => (hown.lt j hj).1), by rw [Lib.byteCells_append, List.length_append]; exact hown', by rw [List.length_append]; simp; omega, by omega, HN⟩
            case measure => simp [intOf]; omega
      · have h92' : ¬ (c0.toNat : Int) = 92 := by omega
        have h92b : ((c0.toNat : Int) != 92) = true := by simpa using h92'
        have HN : Hid (Quo s.data.toList (out ++ [c0]) (q + 1)) := by
          have := quo_plain HQ.out (q := q) (by rw [len_toList]; exact hp) (by rw [el0]; exact h92)
          rw [el0] at this
          exact this
        clear HQ el0 el1 hc1 h92
        go_wp2_with (at_builtin; refine wpList_append_own_at _ rfl _ _ 46 rfl w.heap.size 5 i0 _ 1 1 Tryd.underlying46 hi0 hz0 hz1 hz2 rfl (by decide) _ _ _ rfl (own_below hown ((Below.refl _ _).alloc (Nat.le_refl _) _)) ⟨_, 0, none⟩ 1 1 [.int .u8 (c0.toNat : Int)] rfl rfl (lit_news _ #[.int .u8 (c0.toNat : Int)] _) (by simp [Value.oneCell']) (by unfold maxLen; omega) (by omega) (by have := bel.size; simp; omega) ?_; intro v' w2 hown' hgrow hnil hloc)
        go_roundw
        case rel => exact ⟨out ++ [c0], q + 1, by go_num, (bel.alloc bel.size _).grown hgrow (by have := bel.size; simp; omega) (fun j hj => (hown.lt j hj).1), by rw [Lib.byteCells_append, List.length_append]; exact hown', by rw [List.length_append]; simp; omega, by omega, HN⟩
        case measure => simp [intOf]; omega
    · have hp' : ¬ (q : Int) < (s.size : Int) - 1 := by omega
      have hcv := bytes_string hown
      have HR : Hid (UqR s ⟨out.toArray⟩) := ⟨by show out.length ≤ _; omega, fun t ht => (quo_end HQ.out (by rw [len_toList]; omega) ht).symm⟩
      clear HQ
      go_wp2
      go_ret
      exact ⟨_, rfl, bel, HR⟩
end Go.Proofs.YtjemaijokgcjnaaDoor
