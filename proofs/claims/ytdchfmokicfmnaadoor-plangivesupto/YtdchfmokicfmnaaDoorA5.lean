import Derived.Shelf.Strconv.Itoa0
import Derived.Shelf.Strconv.Itoa1
import Derived.Shelf.LaysM
import Derived.Shelf.Strconv.Itoa2
import Derived.Shelf.Strconv.Itoa3
import Derived.Shelf.Strconv.Itoa4
import Derived.Test.YtdchfmokicfmnaaDoorProg
import Derived.Test.YtdchfmokicfmnaaDoorA2
import Derived.Lib.ItoaNum
import Derived.Lib.AppendIntMem
import Derived.Lib.LaidTab
import Derived.Test.YtdchfmokicfmnaaDoorA4
import Derived.Deep.MidRow
import Derived.Lib.SmallJoins
import Derived.Test.YtdchfmokicfmnaaDoorA3
import Derived.Deep.RegionHeld3
import Derived.Deep.RegionWith
section
-- the library's contracts at this dump, in plain words (lay-shelf.mjs, shelfcut.py, lay-plain.mjs)
namespace Go.Proofs
open Go.Shelf
def Tryd.laysM246_ren : Go.Shelf.Ren := ⟨fun | 246 => 82 | 283 => 89 | 284 => 90 | 285 => 91 | 286 => 92 | 129 => 94 | 317 => 93 | 318 => 95 | 319 => 96 | 320 => 97 | 337 => 75 | 338 => 98 | n => n, fun | 2 => 2 | 3 => 3 | 9 => 9 | 4 => 4 | 171 => 175 | 0 => 0 | 53 => 176 | 37 => 173 | 5 => 5 | 173 => 179 | 212 => 183 | 51 => 35 | 20 => 20 | 213 => 184 | 46 => 109 | 232 => 171 | 233 => 186 | n => n, fun | 17 => 2 | 18 => 1 | 19 => 3 | n => n⟩
theorem Tryd.laysM246 : Go.Proofs.LaysM.n246 Tryd.prog Tryd.laysM246_ren := {
  mixed := by kernel_rfl
  f129 := Tryd.func94.trans (congrArg some (by kernel_rfl))
  f246 := Tryd.func82.trans (congrArg some (by kernel_rfl))
  f283 := Tryd.func89.trans (congrArg some (by kernel_rfl))
  f284 := Tryd.func90.trans (congrArg some (by kernel_rfl))
  f285 := Tryd.func91.trans (congrArg some (by kernel_rfl))
  f286 := Tryd.func92.trans (congrArg some (by kernel_rfl))
  f317 := Tryd.func93.trans (congrArg some (by kernel_rfl))
  f318 := Tryd.func95.trans (congrArg some (by kernel_rfl))
  f319 := Tryd.func96.trans (congrArg some (by kernel_rfl))
  f320 := Tryd.func97.trans (congrArg some (by kernel_rfl))
  f337 := Tryd.func75.trans (congrArg some (by kernel_rfl))
  f338 := Tryd.func98.trans (congrArg some (by kernel_rfl))
  t0 := Tryd.underlying0
  a0 := Tryd.isAgg0
  z0 := Tryd.sizeOf0
  v0 := Tryd.zeroValue0
  t2 := Tryd.underlying2
  a2 := Tryd.isAgg2
  z2 := Tryd.sizeOf2
  v2 := Tryd.zeroValue2
  t3 := Tryd.underlying3
  a3 := Tryd.isAgg3
  z3 := Tryd.sizeOf3
  v3 := Tryd.zeroValue3
  t4 := Tryd.underlying4
  a4 := Tryd.isAgg4
  z4 := Tryd.sizeOf4
  v4 := Tryd.zeroValue4
  t5 := Tryd.underlying5
  a5 := Tryd.isAgg5
  z5 := Tryd.sizeOf5
  v5 := Tryd.zeroValue5
  t9 := Tryd.underlying9
  a9 := Tryd.isAgg9
  z9 := Tryd.sizeOf9
  v9 := Tryd.zeroValue9
  t20 := Tryd.underlying20
  a20 := Tryd.isAgg20
  z20 := Tryd.sizeOf20
  v20 := Tryd.zeroValue20
  t37 := Tryd.underlying173
  a37 := Tryd.isAgg173
  z37 := Tryd.sizeOf173
  v37 := Tryd.zeroValue173
  t46 := Tryd.underlying109
  a46 := Tryd.isAgg109
  z46 := Tryd.sizeOf109
  v46 := Tryd.zeroValue109
  t51 := Tryd.underlying35
  a51 := Tryd.isAgg35
  z51 := Tryd.sizeOf35
  v51 := Tryd.zeroValue35
  t53 := Tryd.underlying176
  a53 := Tryd.isAgg176
  z53 := Tryd.sizeOf176
  v53 := Tryd.zeroValue176
  t171 := Tryd.underlying175
  a171 := Tryd.isAgg175
  z171 := Tryd.sizeOf175
  v171 := Tryd.zeroValue175
  t173 := Tryd.underlying179
  a173 := Tryd.isAgg179
  z173 := Tryd.sizeOf179
  v173 := Tryd.zeroValue179
  t212 := Tryd.underlying183
  a212 := Tryd.isAgg183
  z212 := Tryd.sizeOf183
  v212 := Tryd.zeroValue183
  t213 := Tryd.underlying184
  a213 := Tryd.isAgg184
  z213 := Tryd.sizeOf184
  t232 := Tryd.underlying171
  a232 := Tryd.isAgg171
  z232 := Tryd.sizeOf171
  v232 := Tryd.zeroValue171
  t233 := Tryd.underlying186
  a233 := Tryd.isAgg186
  z233 := Tryd.sizeOf186
  v233 := Tryd.zeroValue186
  g17 := by kernel_rfl
  g18 := by kernel_rfl
  g19 := by kernel_rfl
  i0 := by kernel_rfl
  i2 := by kernel_rfl
  i3 := by kernel_rfl
  i4 := by kernel_rfl
  i5 := by kernel_rfl
  i9 := by kernel_rfl
  i20 := by kernel_rfl
  i37 := by kernel_rfl
  i46 := by kernel_rfl
  i51 := by kernel_rfl
  i53 := by kernel_rfl
  i171 := by kernel_rfl
  i173 := by kernel_rfl
  i212 := by kernel_rfl
  i232 := by kernel_rfl
  i233 := by kernel_rfl
  m17 := by kernel_rfl
  m18 := by kernel_rfl
  m19 := by kernel_rfl }
open Go.RowKit Go.Sort Go.Lib in
theorem Tryd.internal_strconv_FormatInt_10 (n : Int) (h0 : -9223372036854775808 ≤ n) (h1 : n ≤ 9223372036854775807) (w : World) (htab : Lib.TabIs Tryd.prog w "internal/strconv.uint64pow10" .u64 Lib.pow10Tab) :
    Calls Tryd.prog 82 #[.int .i64 n, .int .i64 10] w fun e w' => e = .returned (.string ⟨(Lib.itoa n).toArray⟩) ∧ ∃ k os, w' = grow (w.drewN k) os := Any.internal_strconv_FormatInt_10 Tryd.laysM246 n h0 h1 w htab
end Go.Proofs
end
section
namespace Go.Proofs.YtdchfmokicfmnaaDoor
open Go.RowKit Go.Maps
set_option linter.unusedVariables false
set_option linter.unusedSimpArgs false

/-- in ValueShow2's place, where value.Show is not called -/
theorem tab_below {W W' : World} {name : String} {k : IntKind} {zs : List Int} (h : Lib.TabIs Tryd.prog W name k zs) (hb : Below W.heap.size W W') : Lib.TabIs Tryd.prog W' name k zs := by
  unfold Lib.TabIs World.var? at h ⊢
  cases hg : Tryd.prog.globalNamed name with
  | none => rw [hg] at h; cases h
  | some g =>
    rw [hg] at h
    simp only [Option.bind_some] at h ⊢
    have hlt : g < W.heap.size := by
      by_cases hl : g < W.heap.size
      · exact hl
      · rw [Array.getElem?_eq_none (by omega)] at h; cases h
    rw [hb.block g hlt]
    exact h
end Go.Proofs.YtdchfmokicfmnaaDoor
end
section
namespace Go.Proofs.YtdchfmokicfmnaaDoor
open Go.RowKit Go.Maps
set_option linter.unusedVariables false
set_option linter.unusedSimpArgs false
attribute [local go_sem ↓] Go.wp_at_zero Go.wp_at_succ

abbrev PWt (w : World) : Prop := Lib.TabIs Tryd.prog w "internal/strconv.uint64pow10" .u64 Lib.pow10Tab
end Go.Proofs.YtdchfmokicfmnaaDoor
end
section
namespace Go.Proofs.YtdchfmokicfmnaaDoor
open Go.RowKit Go.Maps
set_option linter.unusedVariables false
set_option linter.unusedSimpArgs false
attribute [local go_sem ↓] Go.wp_at_zero Go.wp_at_succ

/-- how deep an expression is -/
def depthD : Nat → E → Nat
  | 0, _ => 0
  | d + 1, e => (e.kids.map (depthD d)).foldl max 0 + 1
theorem foldl_max_ge : ∀ (l : List Nat) (m : Nat), m ≤ l.foldl max m
  | [], m => Nat.le_refl _
  | x :: l, m => Nat.le_trans (Nat.le_max_left m x) (foldl_max_ge l (max m x))
theorem foldl_max_le : ∀ (l : List Nat) (m b : Nat), m ≤ b → (∀ x ∈ l, x ≤ b) → l.foldl max m ≤ b
  | [], m, b, h, _ => h
  | x :: l, m, b, h, hl => foldl_max_le l (max m x) b (Nat.max_le.2 ⟨h, hl x List.mem_cons_self⟩) (fun y hy => hl y (List.mem_cons_of_mem _ hy))
theorem mem_flat_len (d : Nat) {l : List E} {e : E} (h : e ∈ l) : (termsD d e).length ≤ (l.flatMap (termsD d)).length := by
  induction l with
  | nil => cases h
  | cons x l ih =>
    rw [List.flatMap_cons, List.length_append]
    rcases List.mem_cons.1 h with rfl | h
    · omega
    · have := ih h; omega
theorem depth_le : ∀ (d : Nat) (e : E), depthD d e ≤ szD d e
  | 0, _ => Nat.le_refl _
  | d + 1, e => by
    unfold szD
    rw [termsD_succ, List.length_cons, depthD]
    have : (e.kids.map (depthD d)).foldl max 0 ≤ (e.kids.flatMap (termsD d)).length := by
      refine foldl_max_le _ _ _ (Nat.zero_le _) (fun x hx => ?_)
      obtain ⟨k, hk, rfl⟩ := List.mem_map.1 hx
      exact Nat.le_trans (depth_le d k) (mem_flat_len d hk)
    omega
theorem max_take {l : List Nat} {k : Nat} (h : k < l.length) : (l.take (k + 1)).foldl max 0 = max ((l.take k).foldl max 0) l[k] := by
  rw [List.take_succ_eq_append_getElem h, List.foldl_append]
  rfl
end Go.Proofs.YtdchfmokicfmnaaDoor
end
section
namespace Go.Proofs.YtdchfmokicfmnaaDoor
open Go.RowKit Go.Maps
set_option linter.unusedVariables false
set_option linter.unusedSimpArgs false
attribute [local go_sem ↓] Go.wp_at_zero Go.wp_at_succ

theorem termsD_wf {w : World} : ∀ (d : Nat) (e : E) (a : Option Addr) (c : Nat), EIs w d e a c → ∀ t ∈ termsD d e, t.wf
  | 0, e, a, c, h, t, ht => absurd h (fun h => h)
  | d + 1, e, a, c, h, t, ht => by
    obtain ⟨_, htw, _, _, hk⟩ := h
    rw [termsD_succ] at ht
    rcases List.mem_cons.1 ht with rfl | ht
    · exact htw
    · obtain ⟨x, hx, htx⟩ := List.mem_flatMap.1 ht
      obtain ⟨i, hi, rfl⟩ := List.getElem_of_mem hx
      obtain ⟨g, off, _, _, hKS⟩ := hk (by omega)
      obtain ⟨a', c', _, he⟩ := hKS i hi
      rw [atE_eq hi] at he
      exact termsD_wf d _ a' c' he t htx
theorem variablesExpr_any (ba : Nat) (d : Nat) (e : E) (a : Option Addr) (c : Nat) (w : World) (hba : ba < w.heap.size) (hx : XAt w ba 0 e.op e.t (.slice a e.kids.length c)) (hE : EIs w d e a c) (hs : szD d e ≤ 1048576) :
    Calls Tryd.prog 19 #[.iface 118 (.pointer (some ⟨ba, 0, none⟩))] w fun e' w' => ∃ sv, e' = .returned sv ∧ w'.ownsRow w.heap.size 9 1 sv (vsT [] (termsD d e)).length ((vsT [] (termsD d e)).flatMap strB) ∧ Below w.heap.size w w' := by
  have HW : Hid _ := walkExpr_any rfl d [] (.slice none 0 0) _ e a c ba 0 (vst_new w) hba hx hE (by unfold szD at hs; simp; omega)
  unfold handE at HW
  have hmk := run_makeSet
  clear hx hE
  go_enter Tryd.func19, Tryd.ntmps19
  go_wp2_with fail
  refine Calls.mono HW.out ?_
  rintro ee w2 ⟨⟨u, rfl⟩, sv2, hv2⟩
  have c0 := hv2.co
  obtain ⟨a2, c2, rfl, _⟩ := own_form hv2.own
  go_wp2
  go_ret
  exact ⟨_, rfl, hv2.own, hv2.bel⟩
theorem vexprVars_any (d : Nat) (e : E) (a : Option Addr) (c : Nat) (w : World) (hE : EIs w d e a c) (hs : szD d e ≤ 1048576) : Calls Tryd.prog 44 #[e.val a c] w fun r w' => ∃ sv, r = .returned sv ∧ Ls w' sv (vsT [] (termsD d e)).length ((vsT [] (termsD d e)).flatMap strB) ∧ Below w.heap.size w w' := by
  have b0 := (Below.refl w.heap.size w).alloc (Nat.le_refl _) (.cells #[.int .i8 e.op, .string e.t.v, .int .i8 e.t.a.k, .int .i64 e.t.a.n, .string e.t.a.s, .slice a e.kids.length c] 52)
  have HV : Hid _ := variablesExpr_any w.heap.size d e a c (w.alloc (.cells #[.int .i8 e.op, .string e.t.v, .int .i8 e.t.a.k, .int .i64 e.t.a.n, .string e.t.a.s, .slice a e.kids.length c] 52)) (by simp) (by refine ⟨?_, ?_, ?_, ?_, ?_, ?_⟩ <;> go_simp) (hE.below b0) hs
  clear hE
  unfold E.val
  go_enter Tryd.func44, Tryd.ntmps44
  go_wp2_with fail
  refine Calls.mono HV.out ?_
  rintro ee w1 ⟨sv, rfl, ho, b1⟩
  go_wp2
  go_ret
  exact ⟨_, rfl, ls_own ho, b0.trans (b1.mono b0.size)⟩
end Go.Proofs.YtdchfmokicfmnaaDoor
end
section
namespace Go.Proofs.YtdchfmokicfmnaaDoor
open Go.RowKit Go.Maps
set_option linter.unusedVariables false
set_option linter.unusedSimpArgs false
attribute [local go_sem ↓] Go.wp_at_zero Go.wp_at_succ

theorem run_neqT (t u : T) (w : World) :
    (binOp .neq 49 (.agg #[.string t.v, .int .i8 t.a.k, .int .i64 t.a.n, .string t.a.s]) (.agg #[.string u.v, .int .i8 u.a.k, .int .i64 u.a.n, .string u.a.s])).run Tryd.prog w = .ok (.bool (!decide (t = u))) w := by
  obtain ⟨tv, k1, n1, s1⟩ := t
  obtain ⟨uv, k2, n2, s2⟩ := u
  dsimp only
  by_cases hv : tv.toList = uv.toList
  · have ev := toList_inj hv
    subst ev
    by_cases hk : k1 = k2
    · by_cases hn : n1 = n2
      · by_cases hs : s1.toList = s2.toList
        · have := toList_inj hs
          subst hk hn this
          go_simp
        · have e : decide ((⟨tv, k1, n1, s1⟩ : T) = ⟨tv, k2, n2, s2⟩) = false := decide_eq_false (fun h => hs (by cases h; rfl))
          rw [e]
          go_simp
      · have e : decide ((⟨tv, k1, n1, s1⟩ : T) = ⟨tv, k2, n2, s2⟩) = false := decide_eq_false (fun h => hn (by cases h; rfl))
        rw [e]
        go_simp
    · have e : decide ((⟨tv, k1, n1, s1⟩ : T) = ⟨tv, k2, n2, s2⟩) = false := decide_eq_false (fun h => hk (by cases h; rfl))
      rw [e]
      go_simp
  · have e : decide ((⟨tv, k1, n1, s1⟩ : T) = ⟨uv, k2, n2, s2⟩) = false := decide_eq_false (fun h => hv (by cases h; rfl))
    rw [e]
    go_simp
end Go.Proofs.YtdchfmokicfmnaaDoor
end
section
namespace Go.Proofs.YtdchfmokicfmnaaDoor
open Go.RowKit Go.Maps
set_option linter.unusedVariables false
set_option linter.unusedSimpArgs false
attribute [local go_sem ↓] Go.wp_at_zero Go.wp_at_succ

/-- a literal: its kind, its atom, its relation, its sides -/
structure Lit4 where
  k : Int
  pr : ByteArray
  ts : List T
  rel : Int
  l : E
  r : E
/-- where a literal's lists lie -/
structure LP where
  a : Option Addr
  c : Nat
  la : Option Addr
  lc : Nat
  ra : Option Addr
  rc : Nat
def Lit4.val (x : Lit4) (p : LP) : Value := .agg #[.int .i8 x.k, .string x.pr, .slice p.a x.ts.length p.c, .int .i8 x.rel, .int .i8 x.l.op, .string x.l.t.v, .int .i8 x.l.t.a.k, .int .i64 x.l.t.a.n, .string x.l.t.a.s, .slice p.la x.l.kids.length p.lc, .int .i8 x.r.op, .string x.r.t.v, .int .i8 x.r.t.a.k, .int .i64 x.r.t.a.n, .string x.r.t.a.s, .slice p.ra x.r.kids.length p.rc]
/-- a literal in memory -/
structure LIs (w : World) (d : Nat) (x : Lit4) (p : LP) : Prop where
  kb : -128 ≤ x.k ∧ x.k ≤ 127
  rb : -128 ≤ x.rel ∧ x.rel ≤ 127
  pb : x.pr.size ≤ maxLen
  ln : x.ts.length ≤ 281474976710656
  ts : Lt w (.slice p.a x.ts.length p.c) x.ts
  l : EIs w d x.l p.la p.lc
  r : EIs w d x.r p.ra p.rc
theorem LIs.below {w w' : World} {d : Nat} {x : Lit4} {p : LP} (h : LIs w d x p) (b : Below w.heap.size w w') : LIs w' d x p := ⟨h.kb, h.rb, h.pb, h.ln, h.ts.below b, h.l.below b, h.r.below b⟩
/-- is it the zero expression? -/
def noE (e : E) : Bool := decide (e.op = 0) && (decide (e.t = T0) && decide (e.kids.length = 0))
/-- is it a literal as it may be? -/
def litB (x : Lit4) : Bool := if x.k = 1 ∨ x.k = 2 then atomB x.pr x.ts && (decide (x.rel = 0) && (noE x.l && noE x.r)) else if x.k = 3 then decide (x.pr = noS) && (decide (x.ts.length = 0) && (decide (1 ≤ x.rel) && (decide (x.rel ≤ 6) && (exprB 8 x.l && exprB 8 x.r)))) else false

set_option maxHeartbeats 1600000 in
theorem isNoExpr_any (e : E) (a : Option Addr) (c : Nat) (w : World) (hl : e.kids.length ≤ 281474976710656) : Calls Tryd.prog 69 #[e.val a c] w fun r w' => r = .returned (.bool (noE e)) ∧ Below w.heap.size w w' := by
  have BA := (Below.refl w.heap.size w).alloc (Nat.le_refl _) (.cells #[.int .i8 e.op, .string e.t.v, .int .i8 e.t.a.k, .int .i64 e.t.a.n, .string e.t.a.s, .slice a e.kids.length c] 52)
  have HN : Hid (noE e = (decide (e.op = 0) && (decide (e.t = T0) && decide (e.kids.length = 0)))) := rfl
  have hQ := run_eqT e.t T0
  unfold E.val
  by_cases h0 : e.op = 0
  · have d0 : (e.op == 0) = true := by rw [h0]; rfl
    by_cases h1 : e.t = T0
    · rw [decide_eq_true h1] at hQ
      unfold T0 V0 noS at hQ
      dsimp only at hQ
      by_cases h2 : e.kids.length = 0
      · have d2 : ((e.kids.length : Int) == 0) = true := by rw [h2]; rfl
        have HF : Hid (noE e = true) := by show _ = _; rw [HN.out, decide_eq_true h0, decide_eq_true h1, decide_eq_true h2]; rfl
        clear HN h0 h1 h2
        go_enter Tryd.func69, Tryd.ntmps69
        go_wp2
        go_ret
        exact ⟨ret_bool HF.out.symm, BA⟩
      · have d2 : ((e.kids.length : Int) == 0) = false := by rw [beq_eq_false_iff_ne]; omega
        have HF : Hid (noE e = false) := by show _ = _; rw [HN.out, decide_eq_false h2]; simp
        clear HN h0 h1 h2
        go_enter Tryd.func69, Tryd.ntmps69
        go_wp2
        go_ret
        exact ⟨ret_bool HF.out.symm, BA⟩
    · rw [decide_eq_false h1] at hQ
      unfold T0 V0 noS at hQ
      dsimp only at hQ
      have HF : Hid (noE e = false) := by show _ = _; rw [HN.out, decide_eq_false h1]; simp
      clear HN h0 h1
      go_enter Tryd.func69, Tryd.ntmps69
      go_wp2
      go_ret
      exact ⟨ret_bool HF.out.symm, BA⟩
  · have d0 : (e.op == 0) = false := by rw [beq_eq_false_iff_ne]; exact h0
    have HF : Hid (noE e = false) := by show _ = _; rw [HN.out, decide_eq_false h0]; simp
    clear HN h0
    go_enter Tryd.func69, Tryd.ntmps69
    go_wp2
    go_ret
    exact ⟨ret_bool HF.out.symm, BA⟩
theorem below_next' {wc u v : World} (h : Below wc.heap.size wc u) (h2 : Below u.heap.size u v) : Below wc.heap.size wc v := h.trans (h2.mono h.size)
set_option maxHeartbeats 3200000 in
theorem isLiteral_any (d : Nat) (x : Lit4) (p : LP) (w : World) (hT : KT w) (h : LIs w d x p) (hl1 : x.l.kids.length ≤ 281474976710656) (hl2 : x.r.kids.length ≤ 281474976710656) : Calls Tryd.prog 51 #[x.val p] w fun r w' => r = .returned (.bool (litB x)) ∧ Below w.heap.size w w' := by
  have BA := (Below.refl w.heap.size w).alloc (Nat.le_refl _) (.cells #[.int .i8 x.k, .string x.pr, .slice p.a x.ts.length p.c, .int .i8 x.rel, .int .i8 x.l.op, .string x.l.t.v, .int .i8 x.l.t.a.k, .int .i64 x.l.t.a.n, .string x.l.t.a.s, .slice p.la x.l.kids.length p.lc, .int .i8 x.r.op, .string x.r.t.v, .int .i8 x.r.t.a.k, .int .i64 x.r.t.a.n, .string x.r.t.a.s, .slice p.ra x.r.kids.length p.rc] 54)
  have hW0 : Below (w.alloc (.cells #[.int .i8 x.k, .string x.pr, .slice p.a x.ts.length p.c, .int .i8 x.rel, .int .i8 x.l.op, .string x.l.t.v, .int .i8 x.l.t.a.k, .int .i64 x.l.t.a.n, .string x.l.t.a.s, .slice p.la x.l.kids.length p.lc, .int .i8 x.r.op, .string x.r.t.v, .int .i8 x.r.t.a.k, .int .i64 x.r.t.a.n, .string x.r.t.a.s, .slice p.ra x.r.kids.length p.rc] 54)).heap.size (w.alloc (.cells #[.int .i8 x.k, .string x.pr, .slice p.a x.ts.length p.c, .int .i8 x.rel, .int .i8 x.l.op, .string x.l.t.v, .int .i8 x.l.t.a.k, .int .i64 x.l.t.a.n, .string x.l.t.a.s, .slice p.la x.l.kids.length p.lc, .int .i8 x.r.op, .string x.r.t.v, .int .i8 x.r.t.a.k, .int .i64 x.r.t.a.n, .string x.r.t.a.s, .slice p.ra x.r.kids.length p.rc] 54)) (w.alloc (.cells #[.int .i8 x.k, .string x.pr, .slice p.a x.ts.length p.c, .int .i8 x.rel, .int .i8 x.l.op, .string x.l.t.v, .int .i8 x.l.t.a.k, .int .i64 x.l.t.a.n, .string x.l.t.a.s, .slice p.la x.l.kids.length p.lc, .int .i8 x.r.op, .string x.r.t.v, .int .i8 x.r.t.a.k, .int .i64 x.r.t.a.n, .string x.r.t.a.s, .slice p.ra x.r.kids.length p.rc] 54)) := Below.refl _ _
  have HNX : Hid (∀ u v, Below (w.alloc (.cells #[.int .i8 x.k, .string x.pr, .slice p.a x.ts.length p.c, .int .i8 x.rel, .int .i8 x.l.op, .string x.l.t.v, .int .i8 x.l.t.a.k, .int .i64 x.l.t.a.n, .string x.l.t.a.s, .slice p.la x.l.kids.length p.lc, .int .i8 x.r.op, .string x.r.t.v, .int .i8 x.r.t.a.k, .int .i64 x.r.t.a.n, .string x.r.t.a.s, .slice p.ra x.r.kids.length p.rc] 54)).heap.size (w.alloc (.cells #[.int .i8 x.k, .string x.pr, .slice p.a x.ts.length p.c, .int .i8 x.rel, .int .i8 x.l.op, .string x.l.t.v, .int .i8 x.l.t.a.k, .int .i64 x.l.t.a.n, .string x.l.t.a.s, .slice p.la x.l.kids.length p.lc, .int .i8 x.r.op, .string x.r.t.v, .int .i8 x.r.t.a.k, .int .i64 x.r.t.a.n, .string x.r.t.a.s, .slice p.ra x.r.kids.length p.rc] 54)) u → Below u.heap.size u v → Below (w.alloc (.cells #[.int .i8 x.k, .string x.pr, .slice p.a x.ts.length p.c, .int .i8 x.rel, .int .i8 x.l.op, .string x.l.t.v, .int .i8 x.l.t.a.k, .int .i64 x.l.t.a.n, .string x.l.t.a.s, .slice p.la x.l.kids.length p.lc, .int .i8 x.r.op, .string x.r.t.v, .int .i8 x.r.t.a.k, .int .i64 x.r.t.a.n, .string x.r.t.a.s, .slice p.ra x.r.kids.length p.rc] 54)).heap.size (w.alloc (.cells #[.int .i8 x.k, .string x.pr, .slice p.a x.ts.length p.c, .int .i8 x.rel, .int .i8 x.l.op, .string x.l.t.v, .int .i8 x.l.t.a.k, .int .i64 x.l.t.a.n, .string x.l.t.a.s, .slice p.la x.l.kids.length p.lc, .int .i8 x.r.op, .string x.r.t.v, .int .i8 x.r.t.a.k, .int .i64 x.r.t.a.n, .string x.r.t.a.s, .slice p.ra x.r.kids.length p.rc] 54)) v) := fun u v h1 h2 => below_next' h1 h2
  have HCE : Hid (∀ u, Below (w.alloc (.cells #[.int .i8 x.k, .string x.pr, .slice p.a x.ts.length p.c, .int .i8 x.rel, .int .i8 x.l.op, .string x.l.t.v, .int .i8 x.l.t.a.k, .int .i64 x.l.t.a.n, .string x.l.t.a.s, .slice p.la x.l.kids.length p.lc, .int .i8 x.r.op, .string x.r.t.v, .int .i8 x.r.t.a.k, .int .i64 x.r.t.a.n, .string x.r.t.a.s, .slice p.ra x.r.kids.length p.rc] 54)).heap.size (w.alloc (.cells #[.int .i8 x.k, .string x.pr, .slice p.a x.ts.length p.c, .int .i8 x.rel, .int .i8 x.l.op, .string x.l.t.v, .int .i8 x.l.t.a.k, .int .i64 x.l.t.a.n, .string x.l.t.a.s, .slice p.la x.l.kids.length p.lc, .int .i8 x.r.op, .string x.r.t.v, .int .i8 x.r.t.a.k, .int .i64 x.r.t.a.n, .string x.r.t.a.s, .slice p.ra x.r.kids.length p.rc] 54)) u → Below w.heap.size w u ∧ u.cell? ⟨w.heap.size, 0, none⟩ = some (.int .i8 x.k) ∧ u.cell? ⟨w.heap.size, 1, none⟩ = some (.string x.pr) ∧ u.cell? ⟨w.heap.size, 2, none⟩ = some (.slice p.a x.ts.length p.c) ∧ u.cell? ⟨w.heap.size, 3, none⟩ = some (.int .i8 x.rel) ∧ u.cell? ⟨w.heap.size, 4, none⟩ = some (.int .i8 x.l.op) ∧ u.cell? ⟨w.heap.size, 5, none⟩ = some (.string x.l.t.v) ∧ u.cell? ⟨w.heap.size, 6, none⟩ = some (.int .i8 x.l.t.a.k) ∧ u.cell? ⟨w.heap.size, 7, none⟩ = some (.int .i64 x.l.t.a.n) ∧ u.cell? ⟨w.heap.size, 8, none⟩ = some (.string x.l.t.a.s) ∧ u.cell? ⟨w.heap.size, 9, none⟩ = some (.slice p.la x.l.kids.length p.lc) ∧ u.cell? ⟨w.heap.size, 10, none⟩ = some (.int .i8 x.r.op) ∧ u.cell? ⟨w.heap.size, 11, none⟩ = some (.string x.r.t.v) ∧ u.cell? ⟨w.heap.size, 12, none⟩ = some (.int .i8 x.r.t.a.k) ∧ u.cell? ⟨w.heap.size, 13, none⟩ = some (.int .i64 x.r.t.a.n) ∧ u.cell? ⟨w.heap.size, 14, none⟩ = some (.string x.r.t.a.s) ∧ u.cell? ⟨w.heap.size, 15, none⟩ = some (.slice p.ra x.r.kids.length p.rc)) := fun u hu => by
    have hc : ∀ (j : Nat), u.cell? ⟨w.heap.size, j, none⟩ = (w.alloc (.cells #[.int .i8 x.k, .string x.pr, .slice p.a x.ts.length p.c, .int .i8 x.rel, .int .i8 x.l.op, .string x.l.t.v, .int .i8 x.l.t.a.k, .int .i64 x.l.t.a.n, .string x.l.t.a.s, .slice p.la x.l.kids.length p.lc, .int .i8 x.r.op, .string x.r.t.v, .int .i8 x.r.t.a.k, .int .i64 x.r.t.a.n, .string x.r.t.a.s, .slice p.ra x.r.kids.length p.rc] 54)).cell? ⟨w.heap.size, j, none⟩ := fun j => hu.cell (p := ⟨w.heap.size, j, none⟩) (by simp)
    refine ⟨BA.trans (hu.mono BA.size), ?_, ?_, ?_, ?_, ?_, ?_, ?_, ?_, ?_, ?_, ?_, ?_, ?_, ?_, ?_, ?_⟩ <;> rw [hc] <;> go_simp
  have HAt : Hid (∀ u, Below w.heap.size w u → Calls Tryd.prog 68 #[.agg #[.string x.pr, .slice p.a x.ts.length p.c]] u fun r w' => r = .returned (.bool (atomB x.pr x.ts)) ∧ Below u.heap.size u w') := fun u hu => isAtom_any x.pr _ x.ts u h.pb (h.ts.below hu)
  have HNl : Hid (∀ u, Calls Tryd.prog 69 #[.agg #[.int .i8 x.l.op, .string x.l.t.v, .int .i8 x.l.t.a.k, .int .i64 x.l.t.a.n, .string x.l.t.a.s, .slice p.la x.l.kids.length p.lc]] u fun r w' => r = .returned (.bool (noE x.l)) ∧ Below u.heap.size u w') := fun u => isNoExpr_any x.l p.la p.lc u hl1
  have HNr : Hid (∀ u, Calls Tryd.prog 69 #[.agg #[.int .i8 x.r.op, .string x.r.t.v, .int .i8 x.r.t.a.k, .int .i64 x.r.t.a.n, .string x.r.t.a.s, .slice p.ra x.r.kids.length p.rc]] u fun r w' => r = .returned (.bool (noE x.r)) ∧ Below u.heap.size u w') := fun u => isNoExpr_any x.r p.ra p.rc u hl2
  have HEl : Hid (∀ u, Below w.heap.size w u → Calls Tryd.prog 70 #[.agg #[.int .i8 x.l.op, .string x.l.t.v, .int .i8 x.l.t.a.k, .int .i64 x.l.t.a.n, .string x.l.t.a.s, .slice p.la x.l.kids.length p.lc], .int .i64 8] u fun r w' => r = .returned (.bool (exprB 8 x.l)) ∧ Below u.heap.size u w') := fun u hu => isExpr_any 8 d x.l p.la p.lc u (by omega) (hT.below hu) (h.l.below hu)
  have HEr : Hid (∀ u, Below w.heap.size w u → Calls Tryd.prog 70 #[.agg #[.int .i8 x.r.op, .string x.r.t.v, .int .i8 x.r.t.a.k, .int .i64 x.r.t.a.n, .string x.r.t.a.s, .slice p.ra x.r.kids.length p.rc], .int .i64 8] u fun r w' => r = .returned (.bool (exprB 8 x.r)) ∧ Below u.heap.size u w') := fun u hu => isExpr_any 8 d x.r p.ra p.rc u (by omega) (hT.below hu) (h.r.below hu)
  have hln := h.ln
  have hkb := h.kb
  have hrb := h.rb
  clear h hT hl1 hl2
  have HB : Hid (litB x = if x.k = 1 ∨ x.k = 2 then atomB x.pr x.ts && (decide (x.rel = 0) && (noE x.l && noE x.r)) else if x.k = 3 then decide (x.pr = noS) && (decide (x.ts.length = 0) && (decide (1 ≤ x.rel) && (decide (x.rel ≤ 6) && (exprB 8 x.l && exprB 8 x.r)))) else false) := rfl
  unfold Lit4.val
  by_cases k12 : x.k = 1 ∨ x.k = 2
  · rw [if_pos k12] at HB
    have F : (x.k == 1) = true ∨ ((x.k == 1) = false ∧ (x.k == 2) = true) := by
      rcases k12 with e | e
      · exact .inl (by rw [e]; rfl)
      · exact .inr ⟨by rw [e]; rfl, by rw [e]; rfl⟩
    clear k12 BA
    cases hA : atomB x.pr x.ts
    · have HF : Hid (litB x = false) := by show _ = _; rw [HB.out, hA]; rfl
      clear HB
      rcases F with f1 | ⟨f1, f2⟩
      all_goals
        go_enter Tryd.func51, Tryd.ntmps51
        go_wp2_with (first | (go_at_call_of 68 (Value.string x.pr); refine Calls.mono (HAt.out _ (HCE.out _ (by assumption)).1) ?_; rw [hA]; rintro ee wn ⟨rfl, bn⟩; have hWn := HNX.out _ _ (by assumption) bn; obtain ⟨hwn, c0, c1, c2, c3, c4, c5, c6, c7, c8, c9, c10, c11, c12, c13, c14, c15⟩ := HCE.out _ hWn))
        all_goals
          go_ret
          exact ⟨ret_bool HF.out.symm, (HCE.out _ (by assumption)).1⟩
    · by_cases hr0 : x.rel = 0
      · have dr : (x.rel == 0) = true := by rw [hr0]; rfl
        cases hNl : noE x.l
        · have HF : Hid (litB x = false) := by show _ = _; rw [HB.out, hNl]; simp
          clear HB hr0
          rcases F with f1 | ⟨f1, f2⟩
          all_goals
            go_enter Tryd.func51, Tryd.ntmps51
            go_wp2_with (first | (go_at_call_of 68 (Value.string x.pr); refine Calls.mono (HAt.out _ (HCE.out _ (by assumption)).1) ?_; rw [hA]; rintro ee wn ⟨rfl, bn⟩; have hWn := HNX.out _ _ (by assumption) bn; obtain ⟨hwn, c0, c1, c2, c3, c4, c5, c6, c7, c8, c9, c10, c11, c12, c13, c14, c15⟩ := HCE.out _ hWn) | (go_at_call_of 69 (Value.string x.l.t.v); refine Calls.mono (HNl.out _) ?_; rw [hNl]; rintro ee wn ⟨rfl, bn⟩; have hWn := HNX.out _ _ (by assumption) bn; obtain ⟨hwn, c0, c1, c2, c3, c4, c5, c6, c7, c8, c9, c10, c11, c12, c13, c14, c15⟩ := HCE.out _ hWn))
            all_goals
              go_ret
              exact ⟨ret_bool HF.out.symm, (HCE.out _ (by assumption)).1⟩
        · cases hNr : noE x.r
          all_goals
            have HF : Hid (litB x = noE x.r) := by show _ = _; rw [HB.out, hA, hNl, hNr, decide_eq_true hr0]; rfl
            rw [hNr] at HF
            clear HB hr0
            rcases F with f1 | ⟨f1, f2⟩
            all_goals
              go_enter Tryd.func51, Tryd.ntmps51
              go_wp2_with (first | (go_at_call_of 68 (Value.string x.pr); refine Calls.mono (HAt.out _ (HCE.out _ (by assumption)).1) ?_; rw [hA]; rintro ee wn ⟨rfl, bn⟩; have hWn := HNX.out _ _ (by assumption) bn; obtain ⟨hwn, c0, c1, c2, c3, c4, c5, c6, c7, c8, c9, c10, c11, c12, c13, c14, c15⟩ := HCE.out _ hWn) | (go_at_call_of 69 (Value.string x.l.t.v); refine Calls.mono (HNl.out _) ?_; rw [hNl]; rintro ee wn ⟨rfl, bn⟩; have hWn := HNX.out _ _ (by assumption) bn; obtain ⟨hwn, c0, c1, c2, c3, c4, c5, c6, c7, c8, c9, c10, c11, c12, c13, c14, c15⟩ := HCE.out _ hWn) | (go_at_call_of 69 (Value.string x.r.t.v); refine Calls.mono (HNr.out _) ?_; rw [hNr]; rintro ee wn ⟨rfl, bn⟩; have hWn := HNX.out _ _ (by assumption) bn; obtain ⟨hwn, c0, c1, c2, c3, c4, c5, c6, c7, c8, c9, c10, c11, c12, c13, c14, c15⟩ := HCE.out _ hWn))
              all_goals
                go_ret
                exact ⟨ret_bool HF.out.symm, (HCE.out _ (by assumption)).1⟩
      · have dr : (x.rel == 0) = false := by rw [beq_eq_false_iff_ne]; exact hr0
        have HF : Hid (litB x = false) := by show _ = _; rw [HB.out, decide_eq_false hr0]; simp
        clear HB hr0
        rcases F with f1 | ⟨f1, f2⟩
        all_goals
          go_enter Tryd.func51, Tryd.ntmps51
          go_wp2_with (first | (go_at_call_of 68 (Value.string x.pr); refine Calls.mono (HAt.out _ (HCE.out _ (by assumption)).1) ?_; rw [hA]; rintro ee wn ⟨rfl, bn⟩; have hWn := HNX.out _ _ (by assumption) bn; obtain ⟨hwn, c0, c1, c2, c3, c4, c5, c6, c7, c8, c9, c10, c11, c12, c13, c14, c15⟩ := HCE.out _ hWn))
          all_goals
            go_ret
            exact ⟨ret_bool HF.out.symm, (HCE.out _ (by assumption)).1⟩
  · rw [if_neg k12] at HB
    have f1 : (x.k == 1) = false := by rw [beq_eq_false_iff_ne]; omega
    have f2 : (x.k == 2) = false := by rw [beq_eq_false_iff_ne]; omega
    by_cases k3 : x.k = 3
    · rw [if_pos k3] at HB
      have f3 : (x.k == 3) = true := by rw [k3]; rfl
      clear k12 k3 BA
      by_cases hp0 : x.pr = noS
      · have dp : x.pr.toList.isEmpty = true := by rw [hp0, ByteArray.toList_eq]; rfl
        by_cases hn0 : x.ts.length = 0
        · have dn : ((x.ts.length : Int) == 0) = true := by rw [hn0]; rfl
          by_cases h1 : 1 ≤ x.rel
          · by_cases h6 : x.rel ≤ 6
            · cases hEl : exprB 8 x.l
              · have HF : Hid (litB x = false) := by show _ = _; rw [HB.out, hEl]; simp
                clear HB hp0 hn0
                go_enter Tryd.func51, Tryd.ntmps51
                go_wp2_with (first | (go_at_call_of 70 (Value.string x.l.t.v); refine Calls.mono (HEl.out _ (HCE.out _ (by assumption)).1) ?_; rw [hEl]; rintro ee wn ⟨rfl, bn⟩; have hWn := HNX.out _ _ (by assumption) bn; obtain ⟨hwn, c0, c1, c2, c3, c4, c5, c6, c7, c8, c9, c10, c11, c12, c13, c14, c15⟩ := HCE.out _ hWn))
                all_goals
                  go_ret
                  exact ⟨ret_bool HF.out.symm, (HCE.out _ (by assumption)).1⟩
              · cases hEr : exprB 8 x.r
                all_goals
                  have HF : Hid (litB x = exprB 8 x.r) := by show _ = _; rw [HB.out, hEl, hEr, decide_eq_true hp0, decide_eq_true hn0, decide_eq_true h1, decide_eq_true h6]; rfl
                  rw [hEr] at HF
                  clear HB hp0 hn0
                  go_enter Tryd.func51, Tryd.ntmps51
                  go_wp2_with (first | (go_at_call_of 70 (Value.string x.l.t.v); refine Calls.mono (HEl.out _ (HCE.out _ (by assumption)).1) ?_; rw [hEl]; rintro ee wn ⟨rfl, bn⟩; have hWn := HNX.out _ _ (by assumption) bn; obtain ⟨hwn, c0, c1, c2, c3, c4, c5, c6, c7, c8, c9, c10, c11, c12, c13, c14, c15⟩ := HCE.out _ hWn) | (go_at_call_of 70 (Value.string x.r.t.v); refine Calls.mono (HEr.out _ (HCE.out _ (by assumption)).1) ?_; rw [hEr]; rintro ee wn ⟨rfl, bn⟩; have hWn := HNX.out _ _ (by assumption) bn; obtain ⟨hwn, c0, c1, c2, c3, c4, c5, c6, c7, c8, c9, c10, c11, c12, c13, c14, c15⟩ := HCE.out _ hWn))
                  all_goals
                    go_ret
                    exact ⟨ret_bool HF.out.symm, (HCE.out _ (by assumption)).1⟩
            · have HF : Hid (litB x = false) := by show _ = _; rw [HB.out, decide_eq_false h6]; simp
              clear HB hp0 hn0
              go_enter Tryd.func51, Tryd.ntmps51
              go_wp2
              all_goals
                go_ret
                exact ⟨ret_bool HF.out.symm, (HCE.out _ (by assumption)).1⟩
          · have HF : Hid (litB x = false) := by show _ = _; rw [HB.out, decide_eq_false h1]; simp
            clear HB hp0 hn0
            go_enter Tryd.func51, Tryd.ntmps51
            go_wp2
            all_goals
              go_ret
              exact ⟨ret_bool HF.out.symm, (HCE.out _ (by assumption)).1⟩
        · have dn : ((x.ts.length : Int) == 0) = false := by rw [beq_eq_false_iff_ne]; omega
          have HF : Hid (litB x = false) := by show _ = _; rw [HB.out, decide_eq_false hn0]; simp
          clear HB hp0 hn0
          go_enter Tryd.func51, Tryd.ntmps51
          go_wp2
          all_goals
            go_ret
            exact ⟨ret_bool HF.out.symm, (HCE.out _ (by assumption)).1⟩
      · have dp := some_iff x.pr hp0
        have HF : Hid (litB x = false) := by show _ = _; rw [HB.out, decide_eq_false hp0]; simp
        clear HB hp0
        go_enter Tryd.func51, Tryd.ntmps51
        go_wp2
        all_goals
          go_ret
          exact ⟨ret_bool HF.out.symm, (HCE.out _ (by assumption)).1⟩
    · rw [if_neg k3] at HB
      have f3 : (x.k == 3) = false := by rw [beq_eq_false_iff_ne]; omega
      have HF : Hid (litB x = false) := HB.out
      clear HB k12 k3 BA
      go_enter Tryd.func51, Tryd.ntmps51
      go_wp2
      all_goals
        go_ret
        exact ⟨ret_bool HF.out.symm, (HCE.out _ (by assumption)).1⟩
end Go.Proofs.YtdchfmokicfmnaaDoor
end
