import Derived.Test.YtekjoccbbamehaaIxAsk
namespace Go.Proofs.Ytekjoccbbamehaa
open Go.RowKit Go.Maps Go.ChangeMaps
set_option linter.unusedVariables false
set_option linter.unusedSimpArgs false
attribute [local go_sem ↓] Go.wp_at_zero Go.wp_at_succ
attribute [-go_sem] loadVar storeVar

set_option maxHeartbeats 1600000 in
set_option maxRecDepth 100000 in
/-- an index that is not there yet -/
theorem ask_new {w : World} {B bk mb tt : Nat} {is : List Ie} (h : Ibk w B bk mb tt is) (hB : B ≤ w.heap.size) {B' mm : Nat} {sv : Value} {rows : List (List Int)} {n : Nat} {gone : Int} (hr : Rel w B' tt mm sv rows (n : Int) gone) (hn : n ≤ 24) (hG : ∀ i ∈ is, i.gone = gone → i.G = grpN i.m rows i.seen ∧ i.seen ≤ rows.length) (hap : ∀ k, BX bk mb is k → k ≠ tt ∧ k ≠ mm ∧ sv.ownBlock ≠ some k) (hlen : rows.length ≤ 100000000) {m : Int} (hm : (Lit.int .u32 m).wf = true) (hc : colB m n = true) (hi : m ∉ is.map Ie.m) :
    Calls Try.prog 25 #[.pointer (some ⟨bk, 0, none⟩), .int .u32 m] w fun e w' => ∃ is' j, e = .returned (.tuple #[.pointer (some ⟨j.x, 0, none⟩), .int .i64 0]) ∧ Asked w w' B bk mb tt is is' j m rows gone := by
  have l1 := load_kn (RL.at h.rl (j := 0) rfl)
  have HT := Lib.hid (there_bk h)
  have HCL := Lib.hid (columns_ix hr hn m)
  rw [hc] at HCL
  have HL : Hid (∀ u, Below w.heap.size w u → (Instr.lookup 78 (.map (some mb)) (.int .u32 m) false).run Try.prog u = .ok (.pointer none) u) := fun u hu => by
    have := (h.keep hu).map.look (by rw [mb_v]; exact h.nd) hm
    rw [this, lookM_no (by rw [mb_v]; exact hi)]
  have HH := Lib.hid h
  have HR := Lib.hid hr
  have HAP := Lib.hid hap
  have HM := Lib.hid hm
  clear h hr hG hap hm
  go_enter Try.func25, Try.ntmps25
  go_wp2_with fail
  refine HT.out.mono ?_
  rintro e w1 ⟨rfl, rfl⟩
  go_wp2_with fail
  refine HCL.out.mono ?_
  rintro e w2 ⟨rfl, b2⟩
  have HB2 := Lib.hid (HH.out.keep b2)
  have l3 := RL.mapM HB2.out
  have l4 := HL.out w2 b2
  have HB := Lib.hid b2
  have hsz := b2.size
  -- the new index
  have hbU : Below w2.heap.size w2 ((w2.alloc (.map #[] 0)).alloc (.cells #[.int .u32 m, .map (some w2.heap.size), .int .i64 0, .int .i64 0] 74)) := (belowA (w := w2) (.map #[] 0)).alloc (by simp) _
  have l6 := RL.mapM (HB2.out.keep hbU)
  obtain ⟨w4, hput, hmap4, hT4⟩ := (HB2.out.keep hbU).map.put (p := ⟨m, w2.heap.size + 1⟩) HM.out (fun q hq e => hi (by
    have : q.v ∈ (is.map Ie.mb).map Mb.v := List.mem_map.2 ⟨q, hq, rfl⟩
    rw [mb_v] at this
    have e' : q.v = m := e
    rw [e'] at this
    exact this))
  have t4 := tx_turned hT4
  have hsU : ((w2.alloc (.map #[] 0)).alloc (.cells #[.int .u32 m, .map (some w2.heap.size), .int .i64 0, .int .i64 0] 74)).heap.size = w2.heap.size + 2 := by simp
  have hmlt : mb < w2.heap.size := HB2.out.map.lt
  have HI4 : Hid (Ix w4 B (w2.heap.size + 1) w2.heap.size m [] [] 0 0) := by
    have hbx : ∀ k, k < w2.heap.size + 2 → k ≠ mb → w4.heap[k]? = ((w2.alloc (.map #[] 0)).alloc (.cells #[.int .u32 m, .map (some w2.heap.size), .int .i64 0, .int .i64 0] 74)).heap[k]? := fun k hk hne => t4.block k (by rw [hsU]; exact hk) hne
    refine ⟨World.rowIs.of_block (w := (w2.alloc (.map #[] 0)).alloc (.cells #[.int .u32 m, .map (some w2.heap.size), .int .i64 0, .int .i64 0] 74)) ?_ (hbx _ (by omega) (by omega)), MapS.of_block (w := (w2.alloc (.map #[] 0)).alloc (.cells #[.int .u32 m, .map (some w2.heap.size), .int .i64 0, .int .i64 0] 74)) ((MapS.made w2).below (belowA _)) (hbx _ (by omega) (by omega)), rfl, by simp, fun i k l v h1 _ => (by simp at h1), ⟨by omega, by omega, by omega⟩, fun v hv => (by cases hv), fun i j u v g h1 _ _ _ => (by simp at h1)⟩
    have := rl_new (w2.alloc (.map #[] 0)) #[.int .u32 m, .map (some w2.heap.size), .int .i64 0, .int .i64 0] 74
    rw [World.size_alloc] at this
    exact this
  have HB4 : Hid (Ibk w4 B bk mb tt (is ++ [⟨m, w2.heap.size + 1, w2.heap.size, [], [], 0, 0⟩])) := by
    refine HB2.out.push (j := ⟨m, w2.heap.size + 1, w2.heap.size, [], [], 0, 0⟩) hi hmap4 HI4.out (fun k hk => ?_) (fun k hk hne => (t4.block k (by rw [hsU]; omega) hne).trans (hbU.block k hk))
    rcases hk with e | e | ⟨v, hv, _⟩
    · show w2.heap.size ≤ k
      rw [e]
      exact Nat.le_succ _
    · show w2.heap.size ≤ k
      rw [e]
      exact Nat.le_refl _
    · cases hv
  have HT4 : Hid (Tx (BX bk mb is) w2 w4) := (Tx.of_below (ex := BX bk mb is) hbU).trans t4 (fun k _ e => .inr (.inl e))
  have HR4 : Hid (Rel w4 B' tt mm sv rows (n : Int) gone) := by
    have hr2 := HR.out.keep HB.out
    have hblk : ∀ k, k < w2.heap.size → k ≠ mb → w4.heap[k]? = w2.heap[k]? := fun k hk hne => (t4.block k (by rw [hsU]; omega) hne).trans (hbU.block k hk)
    have ha := HAP.out mb (.inr (.inl rfl))
    exact ⟨World.rowIs.of_block hr2.rl (hblk tt (World.rowIs.lt hr2.rl) (fun e => ha.1 e.symm)), own_of_block hr2.own (fun g hg => hblk g (hr2.own.lt g hg).2 (fun e => ha.2.2 (e ▸ hg))), hr2.map.of_block (hblk mm hr2.map.lt (fun e => ha.2.1 e.symm)), hr2.nd, hr2.ok, hr2.lo, hr2.ne⟩
  have l5 := load_kn (RL.at HB4.out.rl (j := 0) rfl)
  have h24 : w2.heap.size + 2 ≤ w4.heap.size := by have := t4.size; rw [hsU] at this; exact this
  unfold ptrM at hput
  have hmk : (Instr.makeMap 72 none).run Try.prog w2 = .ok (.map (some w2.heap.size)) (w2.alloc (.map #[] 0)) := by
    simp [Instr.makeMap, run_underlying Try.underlying72, Result.andThen, go_sem]
  clear HT HCL l1 b2 HL hbU hmap4 hT4 t4 hsU
  go_wp2_with fail
  refine (renew_ix HI4.out (by omega) HR4.out (fun e => ⟨rfl, Nat.zero_le _⟩) (fun k hk => ?_) hlen).mono ?_
  · rcases hk with e | e | ⟨v, hv, _⟩
    · refine ⟨fun e' => ?_, fun e' => ?_, fun e' => ?_⟩
      · have := World.rowIs.lt (HR.out.keep HB.out).rl; omega
      · have := (HR.out.keep HB.out).map.lt; omega
      · have := ((HR.out.keep HB.out).own.lt k e').2; omega
    · refine ⟨fun e' => ?_, fun e' => ?_, fun e' => ?_⟩
      · have := World.rowIs.lt (HR.out.keep HB.out).rl; omega
      · have := (HR.out.keep HB.out).map.lt; omega
      · have := ((HR.out.keep HB.out).own.lt k e').2; omega
    · cases hv
  rintro e w3 ⟨⟨u, rfl⟩, vs', hi3, t3, hw3⟩
  have HF : Hid (∃ is' j, j.x = w2.heap.size + 1 ∧ Asked w1 w3 B bk mb tt is is' j m rows gone) := by
    have hfx : ∀ k, FX (w2.heap.size + 1) w2.heap.size vs' k → FX (w2.heap.size + 1) w2.heap.size [] k ∨ w4.heap.size ≤ k := fun k hk => by
      rcases hk with e | e | ⟨v, hv, e⟩
      · exact .inl (.inl e)
      · exact .inl (.inr (.inl e))
      · exact (hw3 v hv k e).imp (fun e => .inr (.inr e)) id
    have hbt := HB4.out.turn (p := is.length) (i := ⟨m, w2.heap.size + 1, w2.heap.size, [], [], 0, 0⟩) (j := ⟨m, w2.heap.size + 1, w2.heap.size, vs', grpN m rows rows.length, rows.length, gone⟩) (by simp) rfl rfl hi3 t3 hfx
    have hset : (is ++ [(⟨m, w2.heap.size + 1, w2.heap.size, [], [], 0, 0⟩ : Ie)]).set is.length ⟨m, w2.heap.size + 1, w2.heap.size, vs', grpN m rows rows.length, rows.length, gone⟩ = is ++ [⟨m, w2.heap.size + 1, w2.heap.size, vs', grpN m rows rows.length, rows.length, gone⟩] := by simp
    rw [hset] at hbt
    have hnew : ∀ k, FX (w2.heap.size + 1) w2.heap.size vs' k → w2.heap.size ≤ k := fun k hk => by
      rcases hfx k hk with e | e
      · rcases e with e | e | ⟨v, hv, _⟩
        · omega
        · omega
        · cases hv
      · omega
    refine ⟨_, _, rfl, ⟨List.mem_append_right _ (List.mem_singleton.2 rfl), rfl, rfl, rfl, rfl, hbt, fun a ha => ?_, ?_, fun k hk => ?_, ?_⟩⟩
    · rcases List.mem_append.1 ha with ha | ha
      · exact .inr ha
      · exact .inl (List.mem_singleton.1 ha)
    · refine ((Tx.of_below (ex := BX bk mb is) HB.out).trans HT4.out (fun _ _ e => e)).trans t3 (fun k hk e => ?_)
      rcases e with e | e | ⟨v, hv, _⟩
      · omega
      · omega
      · cases hv
    · rcases hk with e | e | ⟨a, ha, e⟩
      · exact .inl (.inl e)
      · exact .inl (.inr (.inl e))
      · rcases List.mem_append.1 ha with ha | ha
        · exact .inl (.inr (.inr ⟨a, ha, e⟩))
        · rw [List.mem_singleton.1 ha] at e
          have := hnew k e
          exact .inr (by omega)
    · rw [if_neg hi, List.map_append]
      rfl
  clear HB2 HB l3 l4 l5 l6 hput HAP HR HH hi3 t3 hw3 hsz HI4 HB4 HT4 HR4 h24 hmlt
  obtain ⟨is', j, hjx, hA⟩ := HF.out
  have HA := Lib.hid hA
  rw [← hjx]
  clear hA HF hjx
  go_wp2
  go_ret2
  exact ⟨is', j, rfl, HA.out⟩
/-- an asking, of any mask of the columns -/
theorem ask_ix {w : World} {B bk mb tt : Nat} {is : List Ie} (h : Ibk w B bk mb tt is) (hB : B ≤ w.heap.size) {B' mm : Nat} {sv : Value} {rows : List (List Int)} {n : Nat} {gone : Int} (hr : Rel w B' tt mm sv rows (n : Int) gone) (hn : n ≤ 24) (hG : ∀ i ∈ is, i.gone = gone → i.G = grpN i.m rows i.seen ∧ i.seen ≤ rows.length) (hap : ∀ k, BX bk mb is k → k ≠ tt ∧ k ≠ mm ∧ sv.ownBlock ≠ some k) (hlen : rows.length ≤ 100000000) {m : Int} (hm : (Lit.int .u32 m).wf = true) (hc : colB m n = true) :
    Calls Try.prog 25 #[.pointer (some ⟨bk, 0, none⟩), .int .u32 m] w fun e w' => ∃ is' j, e = .returned (.tuple #[.pointer (some ⟨j.x, 0, none⟩), .int .i64 0]) ∧ Asked w w' B bk mb tt is is' j m rows gone := by
  by_cases hi : m ∈ is.map Ie.m
  · obtain ⟨i, him, hi⟩ := List.mem_map.1 hi
    obtain ⟨p, hp⟩ := List.getElem?_of_mem him
    exact ask_old h hB hr hn hG hap hlen hm hc hp hi
  · exact ask_new h hB hr hn hG hap hlen hm hc hi
end Go.Proofs.Ytekjoccbbamehaa
