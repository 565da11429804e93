import Derived.Test.YtoppgalbmijhdaaGreatDoorEsZr
import Derived.Test.YtoppgalbmijhdaaGreatDoorEsSh
import Derived.Test.YtoppgalbmijhdaaGreatDoorSoRT
import Derived.Test.YtoppgalbmijhdaaGreatDoorSoRef
namespace Go.Proofs.YtoppgalbmijhdaaGreatDoor
open Go.RowKit Go.Maps Go.ChangeMaps
set_option linter.unusedVariables false
set_option linter.unusedSimpArgs false
attribute [local go_sem ↓] Go.wp_at_zero Go.wp_at_succ
attribute [-go_sem] Builtin.append_

/-! the reference's size of a name -/
theorem own_snoc (p : ByteArray) (ks : List Key) (k : Key) : ownT p (ks ++ [k]) = ownT p ks ++ (if k.1 = p then [k.2] else []) := by
  unfold ownT
  rw [List.filter_append, List.map_append]
  by_cases h : k.1 = p
  · simp [h]
  · simp [h]
def RW (ts : List (List V)) (W : Nat) : Prop := ∀ c, c < W ↔ ∃ t ∈ ts, c < t.length
theorem RW.start : RW [] 0 := fun c => by simp
theorem RW.step {ts : List (List V)} {W : Nat} (h : RW ts W) (t : List V) : RW (ts ++ [t]) (max W t.length) := fun c => by
  constructor
  · intro hc
    by_cases h1 : c < W
    · obtain ⟨u, h2, h3⟩ := (h c).1 h1
      exact ⟨u, List.mem_append_left _ h2, h3⟩
    · exact ⟨t, by simp, by omega⟩
  · rintro ⟨u, hu, hc⟩
    rcases List.mem_append.1 hu with hu | hu
    · have := (h c).2 ⟨u, hu, hc⟩
      omega
    · rw [List.mem_singleton.1 hu] at hc
      omega
theorem map_of {α β : Type} {f : β → α} : ∀ l : List α, (∀ k ∈ l, ∃ v, f v = k) → ∃ ys : List β, l = ys.map f
  | [], _ => ⟨[], rfl⟩
  | k :: l, h => by
    obtain ⟨v, hv⟩ := h k List.mem_cons_self
    obtain ⟨ys, hy⟩ := map_of l (fun k hk => h k (List.mem_cons_of_mem _ hk))
    exact ⟨v :: ys, by rw [List.map_cons, hv, ← hy]⟩
def oneK (v : V) : Key := (noS, [v])
theorem oneK_inj {u v : V} (h : oneK u = oneK v) : u = v := by
  have := congrArg Prod.snd h
  exact (List.cons.inj this).1
theorem cnt_ones {ts : List V} {out : List Key} (h : Told (ts.map oneK) out) : Cnt ts out.length := by
  obtain ⟨ys, rfl⟩ := map_of (f := oneK) out (fun k hk => by
    obtain ⟨v, _, e⟩ := List.mem_map.1 ((h.same k).1 hk)
    exact ⟨v, e⟩)
  have nd := h.nodup
  refine ⟨ys, ?_, fun v => ?_, by rw [List.length_map]⟩
  · rw [List.Nodup, List.pairwise_map] at nd
    exact nd.imp (fun {a b} hab e => hab (by rw [e]))
  · constructor
    · intro hv
      obtain ⟨u, hu, e⟩ := List.mem_map.1 ((h.same (oneK v)).1 (List.mem_map_of_mem hv))
      rw [← oneK_inj e]
      exact hu
    · intro hv
      obtain ⟨u, hu, e⟩ := List.mem_map.1 ((h.same (oneK v)).2 (List.mem_map_of_mem hv))
      rw [← oneK_inj e]
      exact hu
/-- the size amid its making: the row's block b, the counts behind it -/
structure Zr (b : Nat) (wr : World) (p : ByteArray) (n : Nat) (ds : List Nat) (da : Option Addr) (dc : Nat) : Prop where
  row : RL wr b 36 [.string p, .int .i64 (n : Nat), .slice da ds.length dc]
  ds : wr.ownsRow (b + 1) 3 1 (.slice da ds.length dc) ds.length (ds.map iC)
theorem Zr.below {b : Nat} {w w' : World} {p : ByteArray} {n : Nat} {ds : List Nat} {da : Option Addr} {dc : Nat} (h : Zr b w p n ds da dc) (hb : Below w.heap.size w w') : Zr b w' p n ds da dc := ⟨h.row.below hb, own_below h.ds hb⟩
theorem Zr.step {b : Nat} {wt : World} {p : ByteArray} {n : Nat} {ds : List Nat} {da : Option Addr} {dc : Nat} (h : Zr b wt p n ds da dc) (m : Nat) (hd : ds.length ≤ 1048576) :
    ∃ av w6, (Builtin.append_ #[34, 34] 34 #[.slice da ds.length dc, .slice (some ⟨wt.heap.size, 0, none⟩) 1 1]).run Tryz.prog (wt.alloc (.cells #[.int .i64 (m : Int)] 3)) = .ok av w6 ∧ (∃ a n c, av = .slice a n c) ∧ RL w6 b 36 [.string p, .int .i64 (n : Nat), .slice da ds.length dc] ∧ (∃ a2 c2, Zr b (w6.setCell ⟨b, 2, none⟩ av) p n (ds ++ [m]) a2 c2) ∧ ∀ {W : World} {B : Nat}, B ≤ b → Below B W wt → Below B W (w6.setCell ⟨b, 2, none⟩ av) := by
  obtain ⟨i0, hi0, hz0, hz1, hz2⟩ := info_partsS infoInt
  have hbl := World.rowIs.lt h.row
  obtain ⟨v', w6, hrun, hown', hgrow, _, hloc⟩ := run_append_own_at (P := Tryz.prog) (wt.alloc (.cells #[.int .i64 (m : Int)] 3)) (b + 1) 34 34 3 i0 _ 1 8 Tryz.underlying34 hi0 hz0 hz1 hz2 rfl (by decide) _ _ _ (own_below h.ds (belowA _)) ⟨_, 0, none⟩ 1 1 [.int .i64 (m : Int)] rfl (lit_news wt #[.int .i64 (m : Int)] _) (by simp [Value.oneCell']) (by unfold maxLen; omega) (by omega) (by simp; omega)
  obtain ⟨a2, c2, rfl, _⟩ := own_form hown'
  have hlt : ∀ k, (Value.slice da ds.length dc).ownBlock = some k → b + 1 ≤ k := fun k hk => (h.ds.lt k hk).1
  have hr6 : RL w6 b 36 [.string p, .int .i64 (n : Nat), .slice da ds.length dc] := by
    refine World.rowIs.of_block h.row ?_
    rw [hgrow.block b (by simp; omega) (fun e => by have := hlt b e.symm; omega), (belowA (w := wt) _).block b hbl]
  have hl : (ds ++ [m]).length = ds.length + 1 := by simp
  refine ⟨_, w6, hrun, ⟨_, _, _, rfl⟩, hr6, ⟨a2, c2, ⟨?_, ?_⟩⟩, fun {W B} hB hW => ?_⟩
  · rw [hl]
    exact hr6.set 2 _
  · rw [hl, List.map_append]
    refine own_of_block hown' (fun k hk => ?_)
    have := (hown'.lt k hk).1
    exact heap_setCell_other _ _ _ _ (by show k ≠ b; omega)
  · have h1 : Below B W w6 := (hW.trans ((belowA (w := wt) _).mono (by omega))).grown hgrow (by have := hW.size; simp; omega) (fun k hk => by have := hlt k hk; omega)
    exact h1.setCell hB _
theorem ls_off {α : Type} {f : α → List Value} {k : Nat} (hk0 : 0 < k) (hk : ∀ x, (f x).length = k) (z : α) {w : World} {g off c : Nat} {l : List α} (hc1 : l.length ≤ c) (hc2 : c ≤ maxLen) (hg : g < w.heap.size) (h : ∀ i, i < l.length → w.rangeAt g (off + i * k) (f (l.getD i z))) :
    Ls w (.slice (some ⟨g, off, none⟩) l.length c) l.length (l.flatMap f) := by
  refine ⟨Nat.le_trans hc1 hc2, _, c, rfl, hc1, hc2, fun _ => ⟨g, off, rfl, hg, fun i hi => ?_⟩⟩
  have hl := flat_len f k hk l
  have hi2 : i / k < l.length := (Nat.div_lt_iff_lt_mul hk0).2 (by rw [← hl]; exact hi)
  have hm : i % k < k := Nat.mod_lt _ hk0
  have hx := flat_at f k hk z l (i / k) (i % k) hi2 hm
  have he : i / k * k + i % k = i := by rw [Nat.mul_comm]; exact Nat.div_add_mod i k
  rw [he, List.getElem?_eq_getElem hi] at hx
  have := h (i / k) hi2 (i % k) _ hx.symm
  rw [Nat.add_assoc, he] at this
  exact this
theorem col_snoc (k : Nat) (ts : List (List V)) (t : List V) : colAt k (ts ++ [t]) = colAt k ts ++ (t[k]?).toList := by
  unfold colAt
  rw [List.filterMap_append]
  cases h : t[k]? <;> simp [h]
theorem results_cell1 {fn : Func} {p : Tmp} {ty : TypeId} (h : fn.results = #[.cell p ty]) (tmps : Array Value) (P : Program) (w : World) {b : Nat} {v : Value} (ht : tmps.getD p undef = .pointer (some ⟨b, 0, none⟩)) (hl : (loadVar ty ⟨b, 0, none⟩).run P w = .ok v w) : (results fn tmps).run P w = .ok v w := by
  have ht' : tmps[p]?.getD undef = .pointer (some ⟨b, 0, none⟩) := by rw [← ht]; simp
  simp only [results, h]
  simp [Sem.run_bind, Result.andThen, ht', asAddr, hl]
theorem load_Ints {u : World} {g o : Nat} {a : Option Addr} {n c : Nat} (h : u.cell? ⟨g, o, none⟩ = some (.slice a n c)) : (loadVar 34 ⟨g, o, none⟩).run Tryz.prog u = .ok (.slice a n c) u := by go_simp
def colX (y : XF) (g off k : Nat) : XF := ⟨noS, [atV y.vs k], some ⟨g, off + k * 3, none⟩, y.c - k⟩
theorem colX_is {w : World} {y : XF} {g off k : Nat} (h : FIs w y) (ha : y.a = some ⟨g, off, none⟩) (hk : k < y.vs.length) : FIs w (colX y g off k) ∧ y.vs.length ≤ y.c := by
  obtain ⟨ya, yc, hye, h1, h2, hyk⟩ := h.vs.rform
  injection hye with e1 e2 e3
  subst e1 e3
  obtain ⟨g2, off2, hya, hg2, hat⟩ := hyk (by omega)
  rw [ha] at hya
  cases hya
  refine ⟨⟨by show noS.size ≤ maxLen; decide, by show 1 ≤ _; omega, ?_, ?_⟩, h1⟩
  · exact ls_off (f := V.cells) (k := 3) (l := [atV y.vs k]) (by omega) (fun _ => rfl) V0 (by show 1 ≤ y.c - k; omega) (by show y.c - k ≤ maxLen; omega) hg2 (fun i hi => by
      have : i = 0 := by simpa using hi
      subst this
      have := hat k hk
      simpa using this)
  · intro t ht
    rw [show t = atV y.vs k from List.mem_singleton.1 ht, atV_eq hk]
    exact h.vs.wf _ (List.getElem_mem hk)
set_option maxHeartbeats 12800000 in
set_option maxRecDepth 100000 in
theorem rsize_any (l : List XF) (a : Option Addr) (c : Nat) (p : ByteArray) (w : World) (hL : Lf w (.slice a l.length c) l) (hn : l.length ≤ 1048576) (hsm : ∀ y ∈ l, y.vs.length ≤ 1048576) :
    Calls Tryz.prog 13 #[.slice a l.length c, .string p] w fun e w' => ∃ (n : Nat) (ds : List Nat) (da : Option Addr) (dc : Nat), e = .returned (.agg #[.string p, .int .i64 (n : Nat), .slice da ds.length dc]) ∧ Below w.heap.size w w' ∧ w'.ownsRow w.heap.size 3 1 (.slice da ds.length dc) ds.length (ds.map iC) ∧ n = (ownT p (l.map XF.key)).length ∧ RW (ownT p (l.map XF.key)) ds.length ∧ ∀ k d, ds[k]? = some d → Cnt (colAt k (ownT p (l.map XF.key))) d := by
  obtain ⟨i0, hi0, hz0, hz1, hz2⟩ := info_partsS infoLv
  obtain ⟨a', c', he, hf1, hf2, hfk⟩ := hL.form
  injection he with e1 e2 e3
  subst e1 e3
  have HLF := Lib.hid hL
  have HFK := Lib.hid hfk
  have HSM := Lib.hid hsm
  have HU0 : Hid (Below w.heap.size w ((w.alloc (.cells #[.string ⟨#[]⟩, .int .i64 0, .slice none 0 0] 36)).alloc (.cells #[.string p, .int .i64 0, .slice none 0 0] 36))) := ((Below.refl _ w).alloc (Nat.le_refl _) _).alloc (by simp) _
  have HR0 : Hid (RL ((w.alloc (.cells #[.string ⟨#[]⟩, .int .i64 0, .slice none 0 0] 36)).alloc (.cells #[.string p, .int .i64 0, .slice none 0 0] 36)) w.heap.size 36 [.string ⟨#[]⟩, .int .i64 0, .slice none 0 0]) := (rl_new w #[.string ⟨#[]⟩, .int .i64 0, .slice none 0 0] 36).below (belowA _)
  have HZ0 : Hid (Zr (w.heap.size + 1) ((w.alloc (.cells #[.string ⟨#[]⟩, .int .i64 0, .slice none 0 0] 36)).alloc (.cells #[.string p, .int .i64 0, .slice none 0 0] 36)) p 0 [] none 0) := ⟨by
    have := rl_new (w.alloc (.cells #[.string ⟨#[]⟩, .int .i64 0, .slice none 0 0] 36)) #[.string p, .int .i64 0, .slice none 0 0] 36
    rw [show (w.alloc (.cells #[.string ⟨#[]⟩, .int .i64 0, .slice none 0 0] 36)).heap.size = w.heap.size + 1 by simp] at this
    exact this, World.ownsRow_nil _ _ _ _⟩
  clear hL hfk hsm e2 hf1 hf2
  go_enter Tryz.func13, Tryz.ntmps13
  go_wp2_with fail
  generalize (w.alloc (.cells #[.string ⟨#[]⟩, .int .i64 0, .slice none 0 0] 36)).alloc (.cells #[.string p, .int .i64 0, .slice none 0 0] 36) = U0 at HU0 HR0 HZ0 ⊢
  go_loopw [6, 7] (fun wv j wr => ∃ (i n wd : Nat), i ≤ l.length ∧ n ≤ i ∧ wd ≤ 1048576 ∧ j = .int .i64 i ∧ wv = .int .i64 wd ∧ Hid (Below w.heap.size w wr) ∧ Hid (RL wr w.heap.size 36 [.string ⟨#[]⟩, .int .i64 0, .slice none 0 0]) ∧ Hid (Zr (w.heap.size + 1) wr p n [] none 0) ∧ Hid (n = (ownT p ((l.take i).map XF.key)).length) ∧ Hid (RW (ownT p ((l.take i).map XF.key)) wd)) (fun _ j _ => l.length - (intOf j).toNat)
  case atStart => exact ⟨0, 0, 0, Nat.zero_le _, Nat.zero_le _, Nat.zero_le _, rfl, rfl, HU0, HR0, HZ0, Lib.hid rfl, Lib.hid RW.start⟩
  case round =>
    obtain ⟨i, n, wd, hi, hni, hwd, rfl, rfl, HB, HR, HZ, HN, HW⟩ := hrel
    clear HU0 HR0 HZ0
    by_cases hlti : i < l.length
    · have hlti' : (i : Int) < (l.length : Int) := by omega
      have hi0' : (0 : Int) ≤ (i : Int) := by omega
      obtain ⟨g, off, rfl, hg, hKS⟩ := HFK.out (by omega)
      have x0 : wr.cell? ⟨g, off + i * 2, none⟩ = some (.string (atF l i).pr) := by rw [HB.out.cell (p := ⟨g, _, none⟩) hg]; exact hKS i hlti 0 _ rfl
      have htk : Hid (ownT p ((l.take (i + 1)).map XF.key) = ownT p ((l.take i).map XF.key) ++ (if (atF l i).pr = p then [(atF l i).vs] else [])) := by
        show _ = _
        rw [take_fact hlti, List.map_append]
        exact own_snoc p _ _
      have HX1 : Hid (∀ u, Below w.heap.size w u → u.cell? ⟨g, off + i * 2 + 1, none⟩ = some (.slice (atF l i).a (atF l i).vs.length (atF l i).c)) := fun u hu => by rw [hu.cell (p := ⟨g, _, none⟩) hg]; exact hKS i hlti 1 _ rfl
      have hvl : (atF l i).vs.length ≤ 1048576 := by rw [atF_eq hlti]; exact HSM.out _ (List.getElem_mem hlti)
      have HG : Hid (g < w.heap.size) := hg
      generalize atF l i = y at x0 htk HX1 hvl
      clear hKS hg
      by_cases hpe : y.pr = p
      · have hpt : (y.pr.toList == p.toList) = true := by rw [eq_bytesE, decide_eq_true hpe]
        have htk' : Hid (ownT p ((l.take (i + 1)).map XF.key) = ownT p ((l.take i).map XF.key) ++ [y.vs]) := by
          show _ = _
          rw [htk.out, if_pos hpe]
        have hbS : Below w.heap.size w (wr.setCell ⟨w.heap.size + 1, 1, none⟩ (.int .i64 ((n : Int) + 1))) := HB.out.setCell (by show _ ≤ w.heap.size + 1; omega) _
        have x1 := HX1.out _ hbS
        have c1 := HZ.out.row.at (j := 1) rfl
        have f1 := World.rowIs.frozen HZ.out.row 1
        have HBS := Lib.hid hbS
        have HRS : Hid (RL (wr.setCell ⟨w.heap.size + 1, 1, none⟩ (.int .i64 ((n : Int) + 1))) w.heap.size 36 [.string ⟨#[]⟩, .int .i64 0, .slice none 0 0]) := HR.out.other (by omega) _
        have HZS : Hid (Zr (w.heap.size + 1) (wr.setCell ⟨w.heap.size + 1, 1, none⟩ (.int .i64 ((n : Int) + 1))) p (n + 1) [] none 0) := ⟨HZ.out.row.set 1 _, World.ownsRow_nil _ _ _ _⟩
        have HNn : Hid (n + 1 = (ownT p ((l.take (i + 1)).map XF.key)).length) := by
          show _ = _
          rw [htk'.out, List.length_append, ← HN.out]
          rfl
        have HWn : Hid (RW (ownT p ((l.take (i + 1)).map XF.key)) (max wd y.vs.length)) := by
          show RW _ _
          rw [htk'.out]
          exact HW.out.step _
        have hmx : max (wd : Int) (y.vs.length : Int) = ((max wd y.vs.length : Nat) : Int) := by omega
        have HMX : Hid (max wd y.vs.length ≤ 1048576) := by show _ ≤ _; omega
        clear hpe htk htk' hbS HX1 HG HB HR HZ HN HW
        go_wp2
        go_roundw
        case rel => exact ⟨i + 1, n + 1, max wd y.vs.length, by omega, by omega, HMX.out, by go_num, by go_num, HBS, HRS, HZS, HNn, HWn⟩
        case measure => simp [intOf]; omega
      · have hpt : (y.pr.toList == p.toList) = false := by rw [eq_bytesE, decide_eq_false hpe]
        have hts : ownT p ((l.take (i + 1)).map XF.key) = ownT p ((l.take i).map XF.key) := by rw [htk.out, if_neg hpe, List.append_nil]
        have HNn : Hid (n = (ownT p ((l.take (i + 1)).map XF.key)).length) := by show _ = _; rw [hts]; exact HN.out
        have HWn : Hid (RW (ownT p ((l.take (i + 1)).map XF.key)) wd) := by show RW _ _; rw [hts]; exact HW.out
        clear hpe htk hts HX1 HG
        go_wp2
        go_roundw
        case rel => exact ⟨i + 1, n, wd, by omega, by omega, hwd, by go_num, rfl, HB, HR, HZ, HNn, HWn⟩
        case measure => simp [intOf]; omega
    · obtain rfl : i = l.length := by omega
      rw [List.take_length] at HN HW
      have HC0 : Hid (∀ k d, ([] : List Nat)[k]? = some d → Cnt (colAt k (ownT p (l.map XF.key))) d) := fun k d h => by simp at h
      have HTS : Hid (∀ k, colAt k (ownT p ((l.take k).map XF.key)) = colAt k (ownT p ((l.take k).map XF.key))) := fun k => rfl
      have HL0 : Hid (([] : List Nat).length = 0) := rfl
      go_wp2
      go_loopw [8] (fun j wr => ∃ (k : Nat) (ds : List Nat) (da : Option Addr) (dc : Nat), k ≤ wd ∧ j = .int .i64 k ∧ Hid (Below w.heap.size w wr) ∧ Hid (RL wr w.heap.size 36 [.string ⟨#[]⟩, .int .i64 0, .slice none 0 0]) ∧ Hid (Zr (w.heap.size + 1) wr p n ds da dc) ∧ Hid (ds.length = k) ∧ Hid (∀ k d, ds[k]? = some d → Cnt (colAt k (ownT p (l.map XF.key))) d)) (fun j _ => wd - (intOf j).toNat)
      case atStart => exact ⟨0, [], none, 0, Nat.zero_le _, rfl, HB, HR, HZ, HL0, HC0⟩
      case round =>
        clear HB HR HZ HL0 HC0 HTS
        obtain ⟨k, ds, da, dc, hk, rfl, HB, HR, HZ, HDL, HDC⟩ := hrel
        by_cases hltk : k < wd
        · have hltk' : (k : Int) < (wd : Int) := by omega
          have hk0' : (0 : Int) ≤ (k : Int) := by omega
          have HB0 := Lib.hid (Below.refl wr.heap.size wr)
          have HO0 := Lib.hid (World.ownsRow_nil wr wr.heap.size 29 1)
          have HX0 : Hid (([] : List XF).map XF.key = (colAt k (ownT p ((l.take 0).map XF.key))).map oneK ∧ ∀ y ∈ ([] : List XF), FIs w y ∧ y.pr = noS ∧ y.vs.length = 1) := ⟨rfl, fun y hy => absurd hy (by simp)⟩
          generalize wr = wq at HB HR HZ HB0 HO0 HX0 ⊢
          go_wp2
          go_loopw [9, 10] (fun cv j wz => ∃ (i : Nat) (ca : Option Addr) (cc : Nat) (xs : List XF), i ≤ l.length ∧ xs.length ≤ i ∧ j = .int .i64 i ∧ cv = .slice ca xs.length cc ∧ Hid (Below wq.heap.size wq wz) ∧ Hid (wz.ownsRow wq.heap.size 29 1 (.slice ca xs.length cc) xs.length (xs.flatMap XF.tcells)) ∧ Hid (xs.map XF.key = (colAt k (ownT p ((l.take i).map XF.key))).map oneK ∧ ∀ y ∈ xs, FIs w y ∧ y.pr = noS ∧ y.vs.length = 1)) (fun _ j _ => l.length - (intOf j).toNat)
          case atStart => exact ⟨0, none, 0, [], Nat.zero_le _, Nat.zero_le _, rfl, rfl, HB0, HO0, HX0⟩
          case round =>
            clear HB0 HO0 HX0
            obtain ⟨i, ca, cc, xs, hi, hxi, rfl, rfl, HBz, HO, HX⟩ := hrel
            by_cases hlti : i < l.length
            · have hlti' : (i : Int) < (l.length : Int) := by omega
              have hi0' : (0 : Int) ≤ (i : Int) := by omega
              obtain ⟨g, off, rfl, hg, hKS⟩ := HFK.out (by omega)
              have hBw : Below w.heap.size w wr := HB.out.trans (HBz.out.mono HB.out.size)
              have x0 : wr.cell? ⟨g, off + i * 2, none⟩ = some (.string (atF l i).pr) := by rw [hBw.cell (p := ⟨g, _, none⟩) hg]; exact hKS i hlti 0 _ rfl
              have x1 : wr.cell? ⟨g, off + i * 2 + 1, none⟩ = some (.slice (atF l i).a (atF l i).vs.length (atF l i).c) := by rw [hBw.cell (p := ⟨g, _, none⟩) hg]; exact hKS i hlti 1 _ rfl
              have htk : Hid (ownT p ((l.take (i + 1)).map XF.key) = ownT p ((l.take i).map XF.key) ++ (if (atF l i).pr = p then [(atF l i).vs] else [])) := by
                show _ = _
                rw [take_fact hlti, List.map_append]
                exact own_snoc p _ _
              have HYF := Lib.hid (HLF.out.each i hlti)
              have HBW := Lib.hid hBw
              generalize atF l i = y at x0 x1 htk HYF
              clear hKS hBw
              by_cases hpe : y.pr = p
              · have hpt : (y.pr.toList == p.toList) = true := by rw [eq_bytesE, decide_eq_true hpe]
                have htk' : Hid (colAt k (ownT p ((l.take (i + 1)).map XF.key)) = colAt k (ownT p ((l.take i).map XF.key)) ++ (y.vs[k]?).toList) := by
                  show _ = _
                  rw [htk.out, if_pos hpe]
                  exact col_snoc _ _ _
                by_cases hkl : k < y.vs.length
                · have hkl' : (k : Int) < (y.vs.length : Int) := by omega
                  obtain ⟨ya, yc, hye, _, _, hyk⟩ := HYF.out.vs.rform
                  injection hye with e1 e2 e3
                  subst e1 e3
                  obtain ⟨g2, off2, hya, _, _⟩ := hyk (by omega)
                  obtain ⟨hcx, hcap⟩ := colX_is HYF.out hya hkl
                  rw [hya] at x1
                  obtain ⟨v', w7, hrun, hown', hgrow, hnilx, hloc⟩ := run_append_own_at (P := Tryz.prog) (wr.alloc (.cells #[.slice (some ⟨g2, off2 + k * 3, none⟩) 1 (y.c - k)] 29)) wq.heap.size 41 41 29 i0 _ 1 24 Tryz.underlying41 hi0 hz0 hz1 hz2 rfl (by decide) _ _ _ (own_below HO.out (belowA _)) ⟨_, 0, none⟩ 1 1 [.slice (some ⟨g2, off2 + k * 3, none⟩) 1 (y.c - k)] rfl (lit_news wr #[.slice (some ⟨g2, off2 + k * 3, none⟩) 1 (y.c - k)] _) (by simp [Value.oneCell']) (by unfold maxLen; omega) (by omega) (by have := HBz.out.size; simp; omega)
                  obtain ⟨a7, c7, rfl, _⟩ := own_form hown'
                  have hzz := HBz.out.size
                  have HBn := Lib.hid ((HBz.out.trans ((belowA (w := wr) (.cells #[.slice (some ⟨g2, off2 + k * 3, none⟩) 1 (y.c - k)] 29)).mono HBz.out.size)).grown hgrow (by simp; omega) (fun j hj => (HO.out.lt j hj).1))
                  have HLn : Hid ((xs ++ [colX y g2 off2 k]).length = xs.length + 1) := by show _ = _; simp
                  have HOn : Hid (w7.ownsRow wq.heap.size 29 1 (.slice a7 (xs ++ [colX y g2 off2 k]).length c7) (xs ++ [colX y g2 off2 k]).length ((xs ++ [colX y g2 off2 k]).flatMap XF.tcells)) := by
                    show World.ownsRow _ _ _ _ _ _ _
                    rw [HLn.out, List.flatMap_append]
                    exact hown'
                  have HXn : Hid ((xs ++ [colX y g2 off2 k]).map XF.key = (colAt k (ownT p ((l.take (i + 1)).map XF.key))).map oneK ∧ ∀ y' ∈ xs ++ [colX y g2 off2 k], FIs w y' ∧ y'.pr = noS ∧ y'.vs.length = 1) := by
                    refine ⟨?_, fun y' hy' => ?_⟩
                    · rw [htk'.out, List.map_append, List.map_append, HX.out.1, List.getElem?_eq_getElem hkl]
                      have : atV y.vs k = y.vs[k] := atV_eq hkl
                      simp only [List.map_cons, List.map_nil, Option.toList_some, colX, XF.key, oneK, this]
                    · rcases List.mem_append.1 hy' with hy' | hy'
                      · exact HX.out.2 y' hy'
                      · rw [List.mem_singleton.1 hy']
                        exact ⟨hcx, rfl, rfl⟩
                  have hcap' : (k : Int) + 1 ≤ (y.c : Int) := by omega
                  have hc1 : k + 1 ≤ y.c := by omega
                  have hk1 : (k : Int) ≤ (k : Int) + 1 := by omega
                  clear hown' hgrow hnilx hloc hzz hcx hyk hya e2 hpe htk htk'
                  go_wp2
                  go_roundw
                  case rel => exact ⟨i + 1, a7, c7, xs ++ [colX y g2 off2 k], by omega, by rw [HLn.out]; omega, by go_num, by rw [HLn.out], HBn, HOn, HXn⟩
                  case measure => simp [intOf]; omega
                · have hkl' : ¬ (k : Int) < (y.vs.length : Int) := by omega
                  have HXn : Hid (xs.map XF.key = (colAt k (ownT p ((l.take (i + 1)).map XF.key))).map oneK ∧ ∀ y' ∈ xs, FIs w y' ∧ y'.pr = noS ∧ y'.vs.length = 1) := by
                    refine ⟨?_, HX.out.2⟩
                    rw [htk'.out, List.getElem?_eq_none (by omega), HX.out.1]
                    simp
                  clear hpe htk htk'
                  go_wp2
                  go_roundw
                  case rel => exact ⟨i + 1, ca, cc, xs, by omega, by omega, by go_num, rfl, HBz, HO, HXn⟩
                  case measure => simp [intOf]; omega
              · have hpt : (y.pr.toList == p.toList) = false := by rw [eq_bytesE, decide_eq_false hpe]
                have HXn : Hid (xs.map XF.key = (colAt k (ownT p ((l.take (i + 1)).map XF.key))).map oneK ∧ ∀ y' ∈ xs, FIs w y' ∧ y'.pr = noS ∧ y'.vs.length = 1) := by
                  refine ⟨?_, HX.out.2⟩
                  rw [htk.out, if_neg hpe, List.append_nil]
                  exact HX.out.1
                clear hpe htk x1
                go_wp2
                go_roundw
                case rel => exact ⟨i + 1, ca, cc, xs, by omega, by omega, by go_num, rfl, HBz, HO, HXn⟩
                case measure => simp [intOf]; omega
            · obtain rfl : i = l.length := by omega
              rw [List.take_length] at HX
              have HZ1 := Lib.hid (HZ.out.below HBz.out)
              have HR1 := Lib.hid (HR.out.below HBz.out)
              have HBW := Lib.hid (HB.out.trans (HBz.out.mono HB.out.size))
              have hxl : xs.length ≤ 1048576 := Nat.le_trans hxi hn
              have HLO := Lib.hid (ls_own HO.out)
              have HDL' : Hid (ds.length ≤ 1048576) := by
                show _ ≤ _
                have := HDL.out
                omega
              clear HZ HR HB HFK
              go_upto_region 18 with fail
              refine wp_region_noPanic ?_
              refine wp_region_held (S := fun _ => True) (by kernel_rfl) ?_
              refine esz18 (w5 := wr) (b5 := w.heap.size + 1) (cv := .slice ca xs.length cc) (ga := .slice da ds.length dc) (t0 := .string p) (t1 := .int .i64 (n : Nat)) (t2 := .slice da ds.length dc) (PO := fun wt _ _ m => Below wr.heap.size wr wt ∧ Cnt (colAt k (ownT p (l.map XF.key))) m) (FI := fun wc => Below w.heap.size w wc ∧ RL wc w.heap.size 36 [.string ⟨#[]⟩, .int .i64 0, .slice none 0 0] ∧ ∃ m a2 c2, Cnt (colAt k (ownT p (l.map XF.key))) m ∧ Zr (w.heap.size + 1) wc p n (ds ++ [m]) a2 c2) rfl rfl rfl rfl rfl rfl rfl rfl rfl (by kernel_rfl) (by kernel_rfl) (by kernel_rfl) (by kernel_rfl) (by kernel_rfl) (by kernel_rfl) (by kernel_rfl) (by kernel_rfl) (by kernel_rfl) (by kernel_rfl) (by kernel_rfl) (fun _ _ _ _ _ h => h) (by simp) rfl rfl rfl ?_ ?_ ?_ ?_ ?_ ?_
              · exact load_Ints ((HZ1.out.below (Below.refl _ wr).drew).row.at (j := 2) rfl)
              · rintro wt ta tc m ⟨hb, _⟩
                exact load_Ints ((HZ1.out.below hb).row.at (j := 2) rfl)
              · rintro wt ta tc m ⟨hb, _⟩
                exact load_Ints (((HZ1.out.below hb).below (belowA _)).row.at (j := 2) rfl)
              · have hd : Below wr.heap.size wr wr.drew := (Below.refl _ wr).drew
                refine (rtuples_any xs.length xs ca cc wr.drew (Nat.le_refl _) (HLO.out.below hd) (fun y hy => ((HX.out.2 y hy).1.below HBW.out).below hd) hxl (fun y hy => by rw [(HX.out.2 y hy).2.2]; omega) (fun y hy => (HX.out.2 y hy).2.1)).mono ?_
                rintro e wt ⟨ta, tc, out, rfl, hb, ht, _, _, _⟩
                refine ⟨ta, tc, out.length, rfl, hd.trans (hb.mono hd.size), ?_⟩
                rw [HX.out.1] at ht
                have := cnt_ones ht
                rw [List.length_map] at this
                exact this
              · rintro wt ta tc m ⟨hb, hc⟩
                obtain ⟨av, w6, hrun, hav, hrl, ⟨a2, c2, hz⟩, hB⟩ := (HZ1.out.below hb).step m HDL'.out
                refine ⟨av, w6, hrun, hav, hrl, hB (Nat.le_succ _) (HBW.out.trans (hb.mono HBW.out.size)), ?_, m, a2, c2, hc, hz⟩
                exact World.rowIs.of_block (HR1.out.below hb) ((hB (Nat.le_refl _) (Below.refl (w.heap.size + 1) wt)).block _ (Nat.lt_succ_self _))
              · rintro v1 v2 v3 v4 wc ⟨hb, hr, m, a2, c2, hc, hz⟩
                refine NoPanic.normal ?_
                simp only [Exit.inBlock, Exit.then]
                apply_assumption
                have HBn := Lib.hid hb
                have HRn := Lib.hid hr
                have HZn := Lib.hid hz
                have HDLn : Hid ((ds ++ [m]).length = k + 1) := by show _ = _; rw [List.length_append, HDL.out]; rfl
                have HDCn : Hid (∀ k' d, (ds ++ [m])[k']? = some d → Cnt (colAt k' (ownT p (l.map XF.key))) d) := fun k' d hd => by
                  by_cases h1 : k' < ds.length
                  · rw [List.getElem?_append_left h1] at hd
                    exact HDC.out k' d hd
                  · rw [List.getElem?_append_right (by omega)] at hd
                    have h2 : k' = ds.length := by
                      have := (List.getElem?_eq_some_iff.1 hd).1
                      simp at this
                      omega
                    subst h2
                    simp at hd
                    rw [← hd, HDL.out]
                    exact hc
                clear hb hr hz hc HZ1 HR1 HBW HLO HO HX
                simp (config := { maxSteps := 8000000 }) only [Act.put, List.getElem_toArray, List.getElem_cons_zero, List.getElem_cons_succ, List.setIfInBounds_toArray, List.set_cons_succ, List.set_cons_zero]
                go_wp2
                go_roundw
                case rel => exact ⟨k + 1, ds ++ [m], a2, c2, by omega, by go_num, HBn, HRn, HZn, HDLn, HDCn⟩
                case measure => simp [intOf]; omega
        · obtain rfl : k = wd := by omega
          have c0 := HZ.out.row.at (j := 0) rfl
          have c1 := HZ.out.row.at (j := 1) rfl
          have c2 := HZ.out.row.at (j := 2) rfl
          have d0 := HR.out.at (j := 0) rfl
          have d1 := HR.out.at (j := 1) rfl
          have d2 := HR.out.at (j := 2) rfl
          have f0 := World.rowIs.frozen HR.out 0
          have f1 := World.rowIs.frozen HR.out 1
          have f2 := World.rowIs.frozen HR.out 2
          go_wp2
          have hrow : RL (((wr.setCell ⟨w.heap.size, 0, none⟩ (.string p)).setCell ⟨w.heap.size, 1, none⟩ (.int .i64 (n : Nat))).setCell ⟨w.heap.size, 2, none⟩ (.slice da ds.length dc)) w.heap.size 36 [.string p, .int .i64 (n : Nat), .slice da ds.length dc] := ((HR.out.set 0 _).set 1 _).set 2 _
          refine bodyPost_ret (results_cell1 rfl _ _ _ rfl (load_Siz (z := ⟨p, n, ds, da, dc⟩) (o := 0) (fun j v h => hrow.range j v h))) rfl ?_
          refine ⟨n, ds, da, dc, rfl, ((HB.out.setCell (Nat.le_refl _) _).setCell (Nat.le_refl _) _).setCell (Nat.le_refl _) _, ?_, HN.out, by rw [HDL.out]; exact HW.out, HDC.out⟩
          refine own_lower (own_of_block HZ.out.ds (fun k hk => ?_)) (Nat.le_trans (Nat.le_succ _) (Nat.le_succ _))
          have := (HZ.out.ds.lt k hk).1
          rw [heap_setCell_other _ _ _ _ (by show k ≠ w.heap.size; omega), heap_setCell_other _ _ _ _ (by show k ≠ w.heap.size; omega), heap_setCell_other _ _ _ _ (by show k ≠ w.heap.size; omega)]
end Go.Proofs.YtoppgalbmijhdaaGreatDoor
