import Derived.Test.YteabclfhmapabaaGreatDoorA8
section
namespace Go.Proofs.YteabclfhmapabaaGreatDoor
open Go.RowKit Go.Maps
set_option linter.unusedVariables false
set_option linter.unusedSimpArgs false
attribute [local go_sem ↓] Go.wp_at_zero Go.wp_at_succ

/-- nothing changes but some blocks, and new ones -/
structure Tz (ex : Nat → Prop) (w w' : World) : Prop where
  os : w'.os = w.os
  tape : w'.tape = w.tape
  output : w'.output = w.output
  size : w.heap.size ≤ w'.heap.size
  block : ∀ b, b < w.heap.size → ¬ ex b → w'.heap[b]? = w.heap[b]?
theorem Tz.refl (ex : Nat → Prop) (w : World) : Tz ex w w := ⟨rfl, rfl, rfl, Nat.le_refl _, fun _ _ _ => rfl⟩
theorem Tz.of_below {ex : Nat → Prop} {w w' : World} (h : Below w.heap.size w w') : Tz ex w w' := ⟨h.os, h.tape, h.output, h.size, fun b hb _ => h.block b hb⟩
theorem Tz.trans {ex ex' : Nat → Prop} {w w' w'' : World} (h : Tz ex w w') (k : Tz ex' w' w'') (hs : ∀ b, b < w.heap.size → ex' b → ex b) : Tz ex w w'' :=
  ⟨k.os.trans h.os, k.tape.trans h.tape, k.output.trans h.output, Nat.le_trans h.size k.size, fun b hb he => (k.block b (Nat.lt_of_lt_of_le hb h.size) (fun e => he (hs b hb e))).trans (h.block b hb he)⟩
theorem Tz.below {ex : Nat → Prop} {B : Nat} {w0 w w' : World} (h : Below B w0 w) (k : Tz ex w w') (hz : B ≤ w.heap.size) (he : ∀ b, ex b → B ≤ b) : Below B w0 w' :=
  ⟨k.os.trans h.os, k.tape.trans h.tape, k.output.trans h.output, Nat.le_trans h.size k.size, fun b hb => (k.block b (by omega) (fun e => by have := he b e; omega)).trans (h.block b hb)⟩
/-- what a finder keeps: the variables (vs) and what is found (fs, in the row sv) -/
structure Fd (B bf bm : Nat) (vs : List Vb) (fs : List ByteArray) (sv : Value) (w : World) : Prop where
  r : RL w bf 106 [.map (some bm), sv]
  own : w.ownsRow B 9 1 sv fs.length (fs.flatMap strB)
  map : MapV w bm vs
  nd : (vs.map Vb.v).Nodup
  bd : (vs.map Vb.b).Nodup
  each : ∀ x ∈ vs, RL w x.b 158 [.string x.v, .bool (inB fs x.v)]
  lo : B ≤ bf ∧ B ≤ bm ∧ ∀ x ∈ vs, B ≤ x.b
  ne : bf ≠ bm ∧ ∀ x ∈ vs, x.b ≠ bf ∧ x.b ≠ bm
  ap : ∀ g, sv.ownBlock = some g → g ≠ bf ∧ g ≠ bm ∧ ∀ x ∈ vs, g ≠ x.b
  al : ∀ n ∈ fs, ∃ x ∈ vs, x.v = n
/-- its blocks -/
def FP (bf bm : Nat) (vs : List Vb) (sv : Value) (k : Nat) : Prop := k = bf ∨ k = bm ∨ sv.ownBlock = some k ∨ ∃ x ∈ vs, x.b = k
theorem Fd.keep {B bf bm : Nat} {vs : List Vb} {fs : List ByteArray} {sv : Value} {w w' : World} (h : Fd B bf bm vs fs sv w) (hk : ∀ k, FP bf bm vs sv k → w'.heap[k]? = w.heap[k]?) : Fd B bf bm vs fs sv w' :=
  ⟨World.rowIs.of_block h.r (hk _ (.inl rfl)), own_of_block h.own (fun g hg => hk _ (.inr (.inr (.inl hg)))), h.map.of_block (hk _ (.inr (.inl rfl))), h.nd, h.bd, fun x hx => World.rowIs.of_block (h.each x hx) (hk _ (.inr (.inr (.inr ⟨x, hx, rfl⟩)))), h.lo, h.ne, h.ap, h.al⟩
theorem Fd.lt {B bf bm : Nat} {vs : List Vb} {fs : List ByteArray} {sv : Value} {w : World} (h : Fd B bf bm vs fs sv w) : ∀ k, FP bf bm vs sv k → k < w.heap.size := by
  rintro k (rfl | rfl | e | ⟨x, hx, rfl⟩)
  · exact World.rowIs.lt h.r
  · exact h.map.lt
  · exact (h.own.lt k e).2
  · exact World.rowIs.lt (h.each x hx)
theorem Fd.ge {B bf bm : Nat} {vs : List Vb} {fs : List ByteArray} {sv : Value} {w : World} (h : Fd B bf bm vs fs sv w) : ∀ k, FP bf bm vs sv k → B ≤ k := by
  rintro k (rfl | rfl | e | ⟨x, hx, rfl⟩)
  · exact h.lo.1
  · exact h.lo.2.1
  · exact (h.own.lt k e).1
  · exact h.lo.2.2 x hx
theorem Fd.below {B bf bm : Nat} {vs : List Vb} {fs : List ByteArray} {sv : Value} {w w' : World} (h : Fd B bf bm vs fs sv w) (hb : Below w.heap.size w w') : Fd B bf bm vs fs sv w' := h.keep (fun k hk => hb.block k (h.lt k hk))
theorem nodup_map_inj {α β : Type} {f : α → β} : ∀ {l : List α}, (l.map f).Nodup → ∀ {x y : α}, x ∈ l → y ∈ l → f x = f y → x = y
  | [], _, x, y, hx, _, _ => by cases hx
  | a :: l, h, x, y, hx, hy, e => by
    rw [List.map_cons, List.nodup_cons] at h
    rcases List.mem_cons.1 hx with hx1 | hx1
    · rcases List.mem_cons.1 hy with hy1 | hy1
      · rw [hx1, hy1]
      · exact absurd (List.mem_map.2 ⟨y, hy1, by rw [← e, hx1]⟩) h.1
    · rcases List.mem_cons.1 hy with hy1 | hy1
      · exact absurd (List.mem_map.2 ⟨x, hx1, by rw [e, hy1]⟩) h.1
      · exact nodup_map_inj h.2 hx1 hy1 e
theorem seekV_some {vs : List Vb} {n : ByteArray} {x : Vb} (h : seekV vs n = some x) : x ∈ vs ∧ x.v = n := ⟨List.mem_of_find?_eq_some h, by simpa using List.find?_some h⟩
theorem seekV_none {vs : List Vb} {n : ByteArray} (h : seekV vs n = none) : ∀ x ∈ vs, x.v ≠ n := fun x hx => by simpa using List.find?_eq_none.1 h x hx
theorem Fd.new {B bf bm : Nat} {vs : List Vb} {fs : List ByteArray} {sv : Value} {w : World} (h : Fd B bf bm vs fs sv w) {n : ByteArray} (hn : ∀ x ∈ vs, x.v ≠ n) : inB fs n = false := by
  cases hq : inB fs n with
  | false => rfl
  | true =>
    obtain ⟨x, hx, e⟩ := h.al n (inB_iff.1 hq)
    exact absurd e (hn x hx)
/-- a variable more -/
theorem Fd.more {B bf bm : Nat} {vs : List Vb} {fs : List ByteArray} {sv : Value} {w w2 : World} {n : ByteArray} (h : Fd B bf bm vs fs sv w) (hB : B ≤ w.heap.size) (hn : ∀ x ∈ vs, x.v ≠ n)
    (hm : MapV w2 bm (vs ++ [⟨n, w.heap.size⟩])) (ht : (w.alloc (.cells #[.string n, .bool false] 158)).mapTurned w2 bm) :
    Fd B bf bm (vs ++ [⟨n, w.heap.size⟩]) fs sv w2 ∧ Tz (fun k => k = bm) w w2 := by
  have gr := ht.grown
  have hA := belowA (w := w) (.cells #[.string n, .bool false] 158)
  have hsz : (w.alloc (.cells #[.string n, .bool false] 158)).heap.size = w.heap.size + 1 := by simp
  have hbm := h.map.lt
  have hkeep : ∀ k, k < w.heap.size → k ≠ bm → w2.heap[k]? = w.heap[k]? := fun k hk hne => by
    rw [gr.block k (by rw [hsz]; omega) (fun e => hne (Option.some.inj e)), hA.block k hk]
  have hnew : RL w2 w.heap.size 158 [.string n, .bool (inB fs n)] := by
    rw [h.new hn]
    exact World.rowIs.of_block (rl_new w #[.string n, .bool false] 158) (gr.block _ (by rw [hsz]; omega) (fun e => by have := Option.some.inj e; omega))
  have hlt := h.lt
  refine ⟨⟨World.rowIs.of_block h.r (hkeep _ (hlt _ (.inl rfl)) h.ne.1), own_of_block h.own (fun g hg => hkeep g (h.own.lt g hg).2 (h.ap g hg).2.1), hm, ?_, ?_, ?_, ⟨h.lo.1, h.lo.2.1, ?_⟩, ⟨h.ne.1, ?_⟩, ?_, ?_⟩, ?_⟩
  · rw [List.map_append, List.nodup_append]
    refine ⟨h.nd, by simp, fun a ha b hb => ?_⟩
    obtain ⟨x, hx, rfl⟩ := List.mem_map.1 ha
    simp only [List.map_cons, List.map_nil, List.mem_singleton] at hb
    rw [hb]
    exact hn x hx
  · rw [List.map_append, List.nodup_append]
    refine ⟨h.bd, by simp, fun a ha b hb => ?_⟩
    obtain ⟨x, hx, rfl⟩ := List.mem_map.1 ha
    simp only [List.map_cons, List.map_nil, List.mem_singleton] at hb
    rw [hb]
    have := hlt x.b (.inr (.inr (.inr ⟨x, hx, rfl⟩)))
    omega
  · intro x hx
    rcases List.mem_append.1 hx with hx | hx
    · exact World.rowIs.of_block (h.each x hx) (hkeep _ (hlt x.b (.inr (.inr (.inr ⟨x, hx, rfl⟩)))) (h.ne.2 x hx).2)
    · rw [List.mem_singleton.1 hx]
      exact hnew
  · intro x hx
    rcases List.mem_append.1 hx with hx | hx
    · exact h.lo.2.2 x hx
    · rw [List.mem_singleton.1 hx]; exact hB
  · intro x hx
    rcases List.mem_append.1 hx with hx | hx
    · exact h.ne.2 x hx
    · rw [List.mem_singleton.1 hx]
      have := hlt bf (.inl rfl)
      exact ⟨by show w.heap.size ≠ bf; omega, by show w.heap.size ≠ bm; omega⟩
  · intro g hg
    refine ⟨(h.ap g hg).1, (h.ap g hg).2.1, fun x hx => ?_⟩
    rcases List.mem_append.1 hx with hx | hx
    · exact (h.ap g hg).2.2 x hx
    · rw [List.mem_singleton.1 hx]
      have := (h.own.lt g hg).2
      show g ≠ w.heap.size
      omega
  · intro m hm
    obtain ⟨x, hx, e⟩ := h.al m hm
    exact ⟨x, List.mem_append.2 (.inl hx), e⟩
  · obtain ⟨es, c, es', c', hb, rfl⟩ := ht
    exact ⟨rfl, rfl, rfl, by have := gr.size; rw [hsz] at this; omega, fun b hb he => hkeep b hb he⟩
/-- one found more -/
theorem Fd.found {B bf bm : Nat} {vs : List Vb} {fs : List ByteArray} {sv sv' : Value} {w w3 Y : World} {x : Vb} (h : Fd B bf bm vs fs sv w) (hx : x ∈ vs) (hf : inB fs x.v = false) (hY : Below (w.setCell ⟨x.b, 1, none⟩ (.bool true)).heap.size (w.setCell ⟨x.b, 1, none⟩ (.bool true)) Y)
    (hown' : w3.ownsRow B 9 1 sv' (fs.length + 1) (fs.flatMap strB ++ [.string x.v])) (hgrow : Y.grownBy w3 sv.ownBlock) (hloc : sv'.ownBlock = sv.ownBlock ∨ sv'.ownBlock = some Y.heap.size) :
    Fd B bf bm vs (fs ++ [x.v]) sv' (w3.setCell ⟨bf, 1, none⟩ sv') ∧ Tz (FP bf bm vs sv) w (w3.setCell ⟨bf, 1, none⟩ sv') ∧ (∀ g, sv'.ownBlock = some g → sv.ownBlock = some g ∨ w.heap.size ≤ g) := by
  have hlt := h.lt
  have hxb := hlt x.b (.inr (.inr (.inr ⟨x, hx, rfl⟩)))
  have hbf := hlt bf (.inl rfl)
  have hsz : w.heap.size ≤ Y.heap.size := by have := hY.size; simpa using this
  have hz3 : w.heap.size ≤ w3.heap.size := Nat.le_trans hsz hgrow.size
  have k3 : ∀ k, k < w.heap.size → k ≠ x.b → some k ≠ sv.ownBlock → w3.heap[k]? = w.heap[k]? := fun k hk hne hn => by
    rw [hgrow.block k (by omega) hn, hY.block k (by simpa using hk)]
    exact heap_setCell_other _ _ _ _ (by show k ≠ x.b; exact hne)
  have hnx : some x.b ≠ sv.ownBlock := fun e => (h.ap x.b e.symm).2.2 x hx rfl
  have kx : w3.heap[x.b]? = (w.setCell ⟨x.b, 1, none⟩ (.bool true)).heap[x.b]? := by
    rw [hgrow.block x.b (by omega) hnx, hY.block x.b (by simpa using hxb)]
  have hrx : RL w3 x.b 158 [.string x.v, .bool true] := World.rowIs.of_block ((h.each x hx).set 1 (.bool true)) kx
  have hnbf : some bf ≠ sv.ownBlock := fun e => (h.ap bf e.symm).1 rfl
  have hxf : x.b ≠ bf := (h.ne.2 x hx).1
  have hrf : RL w3 bf 106 [.map (some bm), sv] := World.rowIs.of_block h.r (k3 bf hbf (Ne.symm hxf) hnbf)
  have hnew : ∀ g, sv'.ownBlock = some g → sv.ownBlock = some g ∨ w.heap.size ≤ g := fun g hg => by
    rcases hloc with e | e
    · exact .inl (by rw [← e]; exact hg)
    · rw [e] at hg
      have := Option.some.inj hg
      exact .inr (by omega)
  have hap : ∀ g, sv'.ownBlock = some g → g ≠ bf ∧ g ≠ bm ∧ ∀ y ∈ vs, g ≠ y.b := fun g hg => by
    rcases hnew g hg with e | e
    · exact h.ap g e
    · refine ⟨by omega, by have := h.map.lt; omega, fun y hy => by have := hlt y.b (.inr (.inr (.inr ⟨y, hy, rfl⟩))); omega⟩
  have kf : ∀ k, k ≠ bf → (w3.setCell ⟨bf, 1, none⟩ sv').heap[k]? = w3.heap[k]? := fun k hk => heap_setCell_other _ _ _ _ (by show k ≠ bf; exact hk)
  refine ⟨⟨hrf.set 1 sv', ?_, ?_, h.nd, h.bd, ?_, h.lo, h.ne, hap, ?_⟩, ?_, hnew⟩
  · have e1 : (fs ++ [x.v]).length = fs.length + 1 := by simp
    have e2 : (fs ++ [x.v]).flatMap strB = fs.flatMap strB ++ [.string x.v] := by rw [List.flatMap_append]; rfl
    rw [e1, e2]
    exact own_of_block hown' (fun g hg => kf g (hap g hg).1)
  · have hnm : some bm ≠ sv.ownBlock := fun e => (h.ap bm e.symm).2.1 rfl
    refine h.map.of_block ?_
    rw [kf bm (Ne.symm h.ne.1)]
    exact k3 bm h.map.lt (Ne.symm (h.ne.2 x hx).2) hnm
  · intro y hy
    by_cases e : y = x
    · subst e
      have : inB (fs ++ [y.v]) y.v = true := inB_iff.2 (by simp)
      rw [this]
      exact World.rowIs.of_block hrx (kf y.b hxf)
    · have hyv : y.v ≠ x.v := fun ev => e (nodup_map_inj h.nd hy hx ev)
      have hyb : y.b ≠ x.b := fun ev => e (nodup_map_inj h.bd hy hx ev)
      have e2 : inB (fs ++ [x.v]) y.v = inB fs y.v := by
        cases hq : inB fs y.v with
        | true => exact inB_iff.2 (List.mem_append.2 (.inl (inB_iff.1 hq)))
        | false =>
          rw [← Bool.not_eq_true]
          intro hc
          rcases List.mem_append.1 (inB_iff.1 hc) with hc | hc
          · rw [inB_iff.2 hc] at hq; cases hq
          · exact hyv (List.mem_singleton.1 hc)
      rw [e2]
      refine World.rowIs.of_block (h.each y hy) ?_
      rw [kf y.b (h.ne.2 y hy).1]
      exact k3 y.b (hlt y.b (.inr (.inr (.inr ⟨y, hy, rfl⟩)))) hyb (fun ev => (h.ap y.b ev.symm).2.2 y hy rfl)
  · intro n hn
    rcases List.mem_append.1 hn with hn | hn
    · exact h.al n hn
    · rw [List.mem_singleton.1 hn]; exact ⟨x, hx, rfl⟩
  · refine ⟨hgrow.os.trans hY.os, hgrow.tape.trans hY.tape, hgrow.output.trans hY.output, by simp only [World.size_setCell]; omega, fun b hb he => ?_⟩
    rw [kf b (fun e => he (.inl e))]
    exact k3 b hb (fun e => he (.inr (.inr (.inr ⟨x, hx, e.symm⟩)))) (fun e => he (.inr (.inr (.inl e.symm))))
set_option maxHeartbeats 1600000 in
theorem variable_any {B bf bm : Nat} {vs : List Vb} {fs : List ByteArray} {sv : Value} {w : World} (h : Fd B bf bm vs fs sv w) (hB : B ≤ w.heap.size) (n : ByteArray) (hn : n.size ≤ maxLen) :
    Calls Tryz.prog 44 #[.pointer (some ⟨bf, 0, none⟩), .string n] w fun e w' => ∃ vs' x, e = .returned (ptrV x) ∧ x ∈ vs' ∧ x.v = n ∧ (∃ m, vs' = vs ++ m ∧ ∀ y ∈ m, w.heap.size ≤ y.b ∧ y.v = n) ∧ Fd B bf bm vs' fs sv w' ∧ Tz (fun k => k = bm) w w' := by
  have c0 := h.r.at (j := 0) rfl
  have HL := h.map.look h.nd hn
  have HH := Lib.hid h
  cases hs : seekV vs n with
  | some x =>
    obtain ⟨hx, hv⟩ := seekV_some hs
    have e1 : lookV vs n = .pointer (some ⟨x.b, 0, none⟩) := by unfold lookV; rw [hs]; rfl
    rw [e1] at HL
    have HX : Hid (x ∈ vs ∧ x.v = n) := ⟨hx, hv⟩
    clear hs hx hv e1 h
    go_enter Tryz.func44, Tryz.ntmps44
    go_wp2
    go_ret
    exact ⟨vs, x, rfl, HX.out.1, HX.out.2, ⟨[], by simp, fun y hy => by cases hy⟩, HH.out, Tz.refl _ _⟩
  | none =>
    have e1 : lookV vs n = .pointer none := by unfold lookV; rw [hs]
    rw [e1] at HL
    have hno := seekV_none hs
    have hA := belowA (w := w) (.cells #[.string n, .bool false] 158)
    obtain ⟨w2, hrun, hm2, ht2⟩ := (h.map.of_block (hA.block _ h.map.lt)).put (p := ⟨n, w.heap.size⟩) hn hno
    have HM := Lib.hid (h.more hB hno hm2 ht2)
    have c0' : (w.alloc (.cells #[.string n, .bool false] 158)).cell? ⟨bf, 0, none⟩ = some (.map (some bm)) := (h.r.below hA).at (j := 0) rfl
    unfold ptrV at hrun
    simp only at hrun
    clear hs hno e1 h hm2 ht2 hA
    go_enter Tryz.func44, Tryz.ntmps44
    go_wp2
    go_ret
    exact ⟨vs ++ [⟨n, w.heap.size⟩], ⟨n, w.heap.size⟩, rfl, List.mem_append.2 (.inr (List.mem_singleton.2 rfl)), rfl, ⟨[⟨n, w.heap.size⟩], rfl, fun y hy => by rw [List.mem_singleton.1 hy]; exact ⟨Nat.le_refl _, rfl⟩⟩, HM.out.1, HM.out.2⟩
set_option maxHeartbeats 3200000 in
theorem find_any {B bf bm : Nat} {vs : List Vb} {fs : List ByteArray} {sv : Value} {w : World} (h : Fd B bf bm vs fs sv w) (hB : B ≤ w.heap.size) (x : Vb) (hx : x ∈ vs) (hl : fs.length ≤ 1000000000) :
    Calls Tryz.prog 43 #[.pointer (some ⟨bf, 0, none⟩), .pointer (some ⟨x.b, 0, none⟩)] w fun e w' => (∃ u, e = .returned u) ∧ ∃ sv', Fd B bf bm vs (addN fs x.v) sv' w' ∧ Tz (FP bf bm vs sv) w w' ∧ (∀ g, sv'.ownBlock = some g → sv.ownBlock = some g ∨ w.heap.size ≤ g) := by
  obtain ⟨i0, hi0, hz0, hz1, hz2⟩ := info_parts infoStrL
  have c1 := (h.each x hx).at (j := 1) rfl
  have HH := Lib.hid h
  cases hq : inB fs x.v
  · rw [hq] at c1
    have HAD : Hid (addN fs x.v = fs ++ [x.v]) := by show _ = _; unfold addN; rw [hq]; rfl
    have f1 := World.rowIs.frozen (h.each x hx) 1
    have HQ := Lib.hid hq
    obtain ⟨sa, sc, rfl, _⟩ := own_form h.own
    have hxf : x.b ≠ bf := (h.ne.2 x hx).1
    have hlt := h.lt
    have hxb := hlt x.b (.inr (.inr (.inr ⟨x, hx, rfl⟩)))
    have HX := Lib.hid hx
    have HRX := Lib.hid ((h.each x hx).set 1 (.bool true))
    have HRF : Hid (RL (w.setCell ⟨x.b, 1, none⟩ (.bool true)) bf 106 [.map (some bm), .slice sa fs.length sc]) := h.r.other (Ne.symm hxf) _
    have HOW : Hid ((w.setCell ⟨x.b, 1, none⟩ (.bool true)).ownsRow B 9 1 (.slice sa fs.length sc) fs.length (fs.flatMap strB)) := own_of_block h.own (fun g hg => heap_setCell_other _ _ _ _ (by show g ≠ x.b; exact (h.ap g hg).2.2 x hx))
    have HFN : Hid (∀ {w3 Y : World} {sv' : Value}, Below (w.setCell ⟨x.b, 1, none⟩ (.bool true)).heap.size (w.setCell ⟨x.b, 1, none⟩ (.bool true)) Y → w3.ownsRow B 9 1 sv' (fs.length + 1) (fs.flatMap strB ++ [.string x.v]) → Y.grownBy w3 (Value.slice sa fs.length sc).ownBlock → (sv'.ownBlock = (Value.slice sa fs.length sc).ownBlock ∨ sv'.ownBlock = some Y.heap.size) → _) := fun h0 h1 h2 h3 => HH.out.found HX.out HQ.out h0 h1 h2 h3
    have HSZ : Hid (B ≤ (w.setCell ⟨x.b, 1, none⟩ (.bool true)).heap.size) := by show _ ≤ _; simp; omega
    clear hq hx hlt h
    go_enter Tryz.func43, Tryz.ntmps43
    go_upto_region 2 with fail
    have HNB : Hid (some bf ≠ (Value.slice sa fs.length sc).ownBlock) := fun e => (HH.out.ap bf e.symm).1 rfl
    have HBL : Hid (bf < (w.setCell ⟨x.b, 1, none⟩ (.bool true)).heap.size) := by show _ < _; have := HH.out.lt bf (.inl rfl); simpa using this
    generalize w.setCell ⟨x.b, 1, none⟩ (.bool true) = W at HRX HRF HOW HFN HSZ HBL ⊢
    have n0 := HRX.out.at (j := 0) rfl
    have g1 := HRF.out.at (j := 1) rfl
    have g2 := (HRF.out.below (belowA (w := W) (.cells #[.string x.v] 9))).at (j := 1) rfl
    have HYW : Hid (Below W.heap.size W (W.alloc (.cells #[.string x.v] 9)).drew) := ((Below.refl W.heap.size W).alloc (Nat.le_refl _) _).drew
    have HOWN : Hid ((W.alloc (.cells #[.string x.v] 9)).drew.ownsRow B 9 1 (.slice sa fs.length sc) fs.length (fs.flatMap strB)) := own_below HOW.out HYW.out
    have HC : Hid (∀ (j : Nat) (u : Value), ([.string x.v] : List Value)[j]? = some u → (W.alloc (.cells #[.string x.v] 9)).drew.cell? ((⟨W.heap.size, 0, none⟩ : Addr).add j) = some u) := lit_news W #[.string x.v] 9
    have HSZ2 : Hid (B ≤ (W.alloc (.cells #[.string x.v] 9)).drew.heap.size) := by show _ ≤ _; have := HSZ.out; simp; omega
    clear f1 hxb c1
    have hst : ∀ {ops : Array Oper} {o : Oper} {aa : Act} {K : Act → World → Prop} {Q : Exit → Act → World → Prop} {E : Prop} {Y : World}, o.guard = none → o.op = Op.call { callee := Callee.builtin Builtin.append, args := #[.tmp 16, .tmp 21], argTypes := #[26, 26] } → aa.eval (.tmp 16) = .slice sa fs.length sc → aa.eval (.tmp 21) = .slice (some ⟨W.heap.size, 0, none⟩) 1 1 → Below W.heap.size W Y → Y.cell? ⟨W.heap.size, 0, none⟩ = some (.string x.v) →
        (∀ a6 c6 w3, w3.cell? ⟨bf, 1, none⟩ = some (.slice sa fs.length sc) → w3.frozen? ⟨bf, 1, none⟩ = false → Hid (Fd B bf bm vs (fs ++ [x.v]) (.slice a6 (fs.length + 1) c6) (w3.setCell ⟨bf, 1, none⟩ (.slice a6 (fs.length + 1) c6)) ∧ Tz (FP bf bm vs (.slice sa fs.length sc)) w (w3.setCell ⟨bf, 1, none⟩ (.slice a6 (fs.length + 1) c6)) ∧ (∀ g, (Value.slice a6 (fs.length + 1) c6).ownBlock = some g → (Value.slice sa fs.length sc).ownBlock = some g ∨ w.heap.size ≤ g)) → K (aa.put o.dst (.slice a6 (fs.length + 1) c6)) w3) →
        if Region.wanted o (yielded ops aa.tmps) = true then Oper.wp Tryz.prog o aa Y K Q else E := fun {ops o aa K Q E Y} hg hop h16 h21 hY hYc hK => by
      refine step_append_own hg (.tmp 16) (.tmp 21) 26 hop 9 i0 _ 1 16 Tryz.underlying26 hi0 hz0 hz1 hz2 rfl (by decide) B (.slice sa fs.length sc) fs.length _ h16 (own_below HOW.out hY) ⟨W.heap.size, 0, none⟩ 1 1 [.string x.v] h21 rfl (fun j u hj => ?_) (by simp [Value.oneCell']) (by unfold maxLen; omega) (by omega) (Nat.le_trans HSZ.out hY.size) ?_
      · match j, hj with
        | 0, hj => simp at hj; subst hj; exact hYc
      intro v' w3 hown' hgrow hloc
      have HR3 : RL w3 bf 106 [.map (some bm), .slice sa fs.length sc] := World.rowIs.of_block HRF.out ((hgrow.block bf (by have := HBL.out; have := hY.size; omega) HNB.out).trans (hY.block bf HBL.out))
      have HD := HFN.out hY hown' hgrow hloc
      obtain ⟨a6, c6, rfl, _⟩ := own_form hown'
      exact hK a6 c6 w3 (HR3.at (j := 1) rfl) (World.rowIs.frozen HR3 1) HD
    clear HOWN HC HSZ2 HFN HOW
    go_region_law (
      refine hst rfl rfl (by simp [Act.eval, Act.put]) (by simp [Act.eval, Act.put]) (by first | exact HYW.out | exact ((Below.refl W.heap.size W).drew.alloc (Nat.le_refl _) _)) (by go_simp) ?_
      intro a6 c6 w3 q1 f3 HD)
    all_goals
      go_wp2
      go_end0
      exact ⟨⟨_, rfl⟩, _, by rw [HAD.out]; exact HD.out.1, HD.out.2.1, HD.out.2.2⟩
  · rw [hq] at c1
    have HAD : Hid (addN fs x.v = fs) := by show _ = _; unfold addN; rw [hq]; rfl
    clear hq hx h
    go_enter Tryz.func43, Tryz.ntmps43
    go_wp2
    go_end0
    exact ⟨⟨_, rfl⟩, sv, by rw [HAD.out]; exact HH.out, Tz.refl _ _, fun g hg => .inl hg⟩
end Go.Proofs.YteabclfhmapabaaGreatDoor
end
section
namespace Go.Proofs.YteabclfhmapabaaGreatDoor
open Go.RowKit Go.Maps
set_option linter.unusedVariables false
set_option linter.unusedSimpArgs false
attribute [local go_sem ↓] Go.wp_at_zero Go.wp_at_succ

def slLen : Value → Nat | .slice _ n _ => n | _ => 0
def Vb0 : Vb := ⟨noS, 0⟩
def atVb (l : List Vb) (i : Nat) : Vb := l.getD i Vb0
theorem atVb_eq {l : List Vb} {i : Nat} (h : i < l.length) : atVb l i = l[i] := by simp [atVb, List.getD, List.getElem?_eq_getElem h]
/-- a list of pointers to variables: it lies at a, with room for c -/
def Lq (w : World) (a : Option Addr) (c : Nat) (xs : List Vb) : Prop := xs.length ≤ c ∧ c ≤ maxLen ∧ (0 < xs.length → ∃ g off, a = some ⟨g, off, none⟩ ∧ g < w.heap.size ∧ ∀ i, i < xs.length → w.cell? ⟨g, off + i, none⟩ = some (ptrV (atVb xs i)))
/-- what isKnown leaves of a side: some that are found fall away ahead -/
def KnL (be : Nat) (l0 l1 s1 : Value) (a : Option Addr) (xs : List Vb) (fs : List ByteArray) (w' : World) : Prop := ∃ ds ys a' c', xs = ds ++ ys ∧ (∀ x ∈ ds, x.v ∈ fs) ∧ RL w' be 120 [l0, .slice a' ys.length c', l1, s1] ∧ Lq w' a' c' ys ∧ (∀ g off, a' = some ⟨g, off, none⟩ → ∃ off0, a = some ⟨g, off0, none⟩)
set_option maxHeartbeats 3200000 in
theorem isKnownL_any {B bf bm : Nat} {vs : List Vb} {fs : List ByteArray} {sv : Value} {w : World} (h : Fd B bf bm vs fs sv w) (be : Nat) {l0 : Value} {l1 : Value} {s1 : Value} (a : Option Addr) (c : Nat) (xs : List Vb) (hq : RL w be 120 [l0, .slice a xs.length c, l1, s1]) (hbe : ¬ FP bf bm vs sv be) (hx : ∀ x ∈ xs, x ∈ vs)
    (hl : Lq w a c xs) (hne : ∀ g off, a = some ⟨g, off, none⟩ → g ≠ be) :
    Calls Tryz.prog 87 #[.pointer (some ⟨be, 0, none⟩)] w fun e w' => e = .returned (.bool (xs.all (fun x => inB fs x.v))) ∧ Tz (fun k => k = be) w w' ∧ KnL be l0 l1 s1 a xs fs w' := by
  obtain ⟨hc1, hc2, hat⟩ := hl
  have HAT := Lib.hid hat
  have HH := Lib.hid h
  have HX := Lib.hid hx
  have HNE := Lib.hid hne
  have HNB := Lib.hid hbe
  have HQ0 := Lib.hid hq
  have hmx : xs.length ≤ maxLen := Nat.le_trans hc1 hc2
  unfold maxLen at hmx hc2
  clear hat h hx hne hbe hq
  go_enter Tryz.func87, Tryz.ntmps87
  go_wp2
  go_loopw [] (fun wr => ∃ (k : Nat) (a' : Option Addr), k ≤ xs.length ∧ Hid (∀ x ∈ xs.take k, x.v ∈ fs) ∧ Hid (RL wr be 120 [l0, .slice a' (xs.length - k) (c - k), l1, s1]) ∧ Hid (Tz (fun k => k = be) w wr) ∧ Hid (k < xs.length → ∃ g off, a = some ⟨g, off, none⟩ ∧ a' = some ⟨g, off + k, none⟩) ∧ Hid (∀ g off, a' = some ⟨g, off, none⟩ → ∃ off0, a = some ⟨g, off0, none⟩)) (fun wr => slLen ((wr.cell? ⟨be, 1, none⟩).getD (.bool false)))
  case atStart => exact ⟨0, a, Nat.zero_le _, fun x hx => (by cases hx), HQ0, Tz.refl _ _, fun h0 => (by obtain ⟨g, off, ha, _⟩ := HAT.out h0; exact ⟨g, off, ha, ha⟩), fun g off e => ⟨off, e⟩⟩
  case round =>
    obtain ⟨k, a', hk, HTK, HR, HT, HA, HA2⟩ := hrel
    have q1 := HR.out.at (j := 1) rfl
    by_cases hlt : k < xs.length
    · obtain ⟨g, off, ha, ha'⟩ := HA.out hlt
      obtain ⟨g2, off2, ha2, hgl, hcs⟩ := HAT.out (by omega)
      have HCS := Lib.hid hcs
      rw [ha] at ha2
      injection ha2 with ha2
      injection ha2 with e1 e2 _
      subst e1 e2
      have hgb : g ≠ be := HNE.out g off ha
      have x0 : wr.cell? ⟨g, off + k, none⟩ = some (ptrV (atVb xs k)) := by rw [World.cell?_of_block (a := ⟨g, off + k, none⟩) (HT.out.block g hgl hgb)]; exact hcs k hlt
      have hmem : atVb xs k ∈ xs := by rw [atVb_eq hlt]; exact List.getElem_mem _
      obtain ⟨x, hxx⟩ : ∃ x, atVb xs k = x := ⟨_, rfl⟩
      rw [hxx] at x0 hmem
      have hxb : x.b ≠ be := fun e => HNB.out (.inr (.inr (.inr ⟨x, HX.out x hmem, e⟩)))
      have hf : wr.cell? ⟨x.b, 1, none⟩ = some (.bool (inB fs x.v)) := by
        rw [World.cell?_of_block (a := ⟨x.b, 1, none⟩) (HT.out.block x.b (HH.out.lt x.b (.inr (.inr (.inr ⟨x, HX.out x hmem, rfl⟩)))) hxb)]
        exact (HH.out.each x (HX.out x hmem)).at (j := 1) rfl
      have hpos : (0 : Int) < ((xs.length - k : Nat) : Int) := by omega
      have HXX := Lib.hid hxx
      unfold ptrV at x0
      clear hcs HAT
      cases hfl : inB fs x.v
      · rw [hfl] at hf
        have e0 : (((xs.length - k : Nat) : Int) == 0) = false := by rw [beq_eq_false_iff_ne]; omega
        have HALL : Hid (xs.all (fun x => inB fs x.v) = false) := by
          show _ = _
          rw [← Bool.not_eq_true]
          intro hc
          rw [List.all_eq_true.1 hc x hmem] at hfl
          cases hfl
        have HLQ : Hid (Lq wr a' (c - k) (xs.drop k)) := by
          show Lq _ _ _ _
          refine ⟨by rw [List.length_drop]; omega, by unfold maxLen; omega, fun _ => ⟨g, off + k, ha', ?_, ?_⟩⟩
          · exact Nat.lt_of_lt_of_le hgl HT.out.size
          · intro i hi
            rw [List.length_drop] at hi
            rw [World.cell?_of_block (a := ⟨g, off + k + i, none⟩) (HT.out.block g hgl hgb)]
            have := HCS.out (k + i) (by omega)
            rw [Nat.add_assoc, this, atVb_eq (by omega), atVb_eq (by rw [List.length_drop]; omega), List.getElem_drop]
        subst ha'
        clear hfl hmem
        go_wp2
        go_ret
        refine ⟨by rw [HALL.out]; rfl, HT.out, ⟨xs.take k, xs.drop k, _, c - k, (List.take_append_drop k xs).symm, HTK.out, ?_, HLQ.out, fun g1 o1 e => (by rw [← ha]; exact HA2.out g1 o1 e)⟩⟩
        rw [List.length_drop]
        exact HR.out
      · rw [hfl] at hf
        have HTK1 : Hid (∀ y ∈ xs.take (k + 1), y.v ∈ fs) := by
          show ∀ y ∈ _, _
          intro y hy
          have e : xs.take (k + 1) = xs.take k ++ [atVb xs k] := by rw [List.take_add_one, List.getElem?_eq_getElem hlt, atVb_eq hlt]; rfl
          rw [e] at hy
          rcases List.mem_append.1 hy with hy | hy
          · exact HTK.out y hy
          · rw [List.mem_singleton.1 hy, HXX.out]
            exact inB_iff.1 hfl
        subst ha'
        have f1 := World.rowIs.frozen HR.out 1
        clear hfl hmem
        go_wp2
        refine ⟨⟨k + 1, if c - k = 1 then some ⟨g, off + k, none⟩ else some ⟨g, off + k + 1, none⟩, by omega, HTK1, ?_, ?_, ?_, ?_⟩, ?_⟩
        · have := HR.out.set 1 (.slice (if c - k = 1 then some ⟨g, off + k, none⟩ else some ⟨g, off + k + 1, none⟩) (xs.length - k - 1) (c - k - 1))
          rw [Nat.sub_sub, Nat.sub_sub] at this
          exact this
        · exact ⟨HT.out.os, HT.out.tape, HT.out.output, by simp only [World.size_setCell]; exact HT.out.size, fun b hb he => by rw [heap_setCell_other _ _ _ _ (by show b ≠ be; exact he)]; exact HT.out.block b hb he⟩
        · exact fun h => ⟨g, off, ha, by rw [if_neg (by omega)]; rfl⟩
        · intro g' off' e
          split at e
          · injection e with e
            injection e with e _ _
            subst e
            exact ⟨off, ha⟩
          · injection e with e
            injection e with e _ _
            subst e
            exact ⟨off, ha⟩
        · rw [World.cell?_setCell_same _ _ _ q1, q1]
          show xs.length - k - 1 < xs.length - k
          omega
    · obtain rfl : k = xs.length := by omega
      have e0 : (((xs.length - xs.length : Nat) : Int) == 0) = true := by rw [Nat.sub_self]; rfl
      have e1 : ¬ (0 : Int) < ((xs.length - xs.length : Nat) : Int) := by rw [Nat.sub_self]; decide
      have HALL : Hid (xs.all (fun x => inB fs x.v) = true) := by
        show _ = _
        rw [List.all_eq_true]
        intro x hx
        exact inB_iff.2 (HTK.out x (by rw [List.take_length]; exact hx))
      go_wp2
      go_ret
      refine ⟨by rw [HALL.out]; rfl, HT.out, ⟨xs, [], _, c - xs.length, (List.append_nil _).symm, fun x hx => HTK.out x (by rw [List.take_length]; exact hx), ?_, ⟨Nat.zero_le _, by unfold maxLen; omega, fun h => absurd h (by simp)⟩, HA2.out⟩⟩
      have := HR.out
      rw [Nat.sub_self] at this
      exact this
/-- what isKnown leaves of a side: some that are found fall away ahead -/
def KnR (be : Nat) (l0 s0 l1 : Value) (a : Option Addr) (xs : List Vb) (fs : List ByteArray) (w' : World) : Prop := ∃ ds ys a' c', xs = ds ++ ys ∧ (∀ x ∈ ds, x.v ∈ fs) ∧ RL w' be 120 [l0, s0, l1, .slice a' ys.length c'] ∧ Lq w' a' c' ys ∧ (∀ g off, a' = some ⟨g, off, none⟩ → ∃ off0, a = some ⟨g, off0, none⟩)
set_option maxHeartbeats 3200000 in
theorem isKnownR_any {B bf bm : Nat} {vs : List Vb} {fs : List ByteArray} {sv : Value} {w : World} (h : Fd B bf bm vs fs sv w) (be : Nat) {l0 : Value} {s0 : Value} {l1 : Value} (a : Option Addr) (c : Nat) (xs : List Vb) (hq : RL w be 120 [l0, s0, l1, .slice a xs.length c]) (hbe : ¬ FP bf bm vs sv be) (hx : ∀ x ∈ xs, x ∈ vs)
    (hl : Lq w a c xs) (hne : ∀ g off, a = some ⟨g, off, none⟩ → g ≠ be) :
    Calls Tryz.prog 87 #[.pointer (some ⟨be, 2, none⟩)] w fun e w' => e = .returned (.bool (xs.all (fun x => inB fs x.v))) ∧ Tz (fun k => k = be) w w' ∧ KnR be l0 s0 l1 a xs fs w' := by
  obtain ⟨hc1, hc2, hat⟩ := hl
  have HAT := Lib.hid hat
  have HH := Lib.hid h
  have HX := Lib.hid hx
  have HNE := Lib.hid hne
  have HNB := Lib.hid hbe
  have HQ0 := Lib.hid hq
  have hmx : xs.length ≤ maxLen := Nat.le_trans hc1 hc2
  unfold maxLen at hmx hc2
  clear hat h hx hne hbe hq
  go_enter Tryz.func87, Tryz.ntmps87
  go_wp2
  go_loopw [] (fun wr => ∃ (k : Nat) (a' : Option Addr), k ≤ xs.length ∧ Hid (∀ x ∈ xs.take k, x.v ∈ fs) ∧ Hid (RL wr be 120 [l0, s0, l1, .slice a' (xs.length - k) (c - k)]) ∧ Hid (Tz (fun k => k = be) w wr) ∧ Hid (k < xs.length → ∃ g off, a = some ⟨g, off, none⟩ ∧ a' = some ⟨g, off + k, none⟩) ∧ Hid (∀ g off, a' = some ⟨g, off, none⟩ → ∃ off0, a = some ⟨g, off0, none⟩)) (fun wr => slLen ((wr.cell? ⟨be, 3, none⟩).getD (.bool false)))
  case atStart => exact ⟨0, a, Nat.zero_le _, fun x hx => (by cases hx), HQ0, Tz.refl _ _, fun h0 => (by obtain ⟨g, off, ha, _⟩ := HAT.out h0; exact ⟨g, off, ha, ha⟩), fun g off e => ⟨off, e⟩⟩
  case round =>
    obtain ⟨k, a', hk, HTK, HR, HT, HA, HA2⟩ := hrel
    have q1 := HR.out.at (j := 3) rfl
    by_cases hlt : k < xs.length
    · obtain ⟨g, off, ha, ha'⟩ := HA.out hlt
      obtain ⟨g2, off2, ha2, hgl, hcs⟩ := HAT.out (by omega)
      have HCS := Lib.hid hcs
      rw [ha] at ha2
      injection ha2 with ha2
      injection ha2 with e1 e2 _
      subst e1 e2
      have hgb : g ≠ be := HNE.out g off ha
      have x0 : wr.cell? ⟨g, off + k, none⟩ = some (ptrV (atVb xs k)) := by rw [World.cell?_of_block (a := ⟨g, off + k, none⟩) (HT.out.block g hgl hgb)]; exact hcs k hlt
      have hmem : atVb xs k ∈ xs := by rw [atVb_eq hlt]; exact List.getElem_mem _
      obtain ⟨x, hxx⟩ : ∃ x, atVb xs k = x := ⟨_, rfl⟩
      rw [hxx] at x0 hmem
      have hxb : x.b ≠ be := fun e => HNB.out (.inr (.inr (.inr ⟨x, HX.out x hmem, e⟩)))
      have hf : wr.cell? ⟨x.b, 1, none⟩ = some (.bool (inB fs x.v)) := by
        rw [World.cell?_of_block (a := ⟨x.b, 1, none⟩) (HT.out.block x.b (HH.out.lt x.b (.inr (.inr (.inr ⟨x, HX.out x hmem, rfl⟩)))) hxb)]
        exact (HH.out.each x (HX.out x hmem)).at (j := 1) rfl
      have hpos : (0 : Int) < ((xs.length - k : Nat) : Int) := by omega
      have HXX := Lib.hid hxx
      unfold ptrV at x0
      clear hcs HAT
      cases hfl : inB fs x.v
      · rw [hfl] at hf
        have e0 : (((xs.length - k : Nat) : Int) == 0) = false := by rw [beq_eq_false_iff_ne]; omega
        have HALL : Hid (xs.all (fun x => inB fs x.v) = false) := by
          show _ = _
          rw [← Bool.not_eq_true]
          intro hc
          rw [List.all_eq_true.1 hc x hmem] at hfl
          cases hfl
        have HLQ : Hid (Lq wr a' (c - k) (xs.drop k)) := by
          show Lq _ _ _ _
          refine ⟨by rw [List.length_drop]; omega, by unfold maxLen; omega, fun _ => ⟨g, off + k, ha', ?_, ?_⟩⟩
          · exact Nat.lt_of_lt_of_le hgl HT.out.size
          · intro i hi
            rw [List.length_drop] at hi
            rw [World.cell?_of_block (a := ⟨g, off + k + i, none⟩) (HT.out.block g hgl hgb)]
            have := HCS.out (k + i) (by omega)
            rw [Nat.add_assoc, this, atVb_eq (by omega), atVb_eq (by rw [List.length_drop]; omega), List.getElem_drop]
        subst ha'
        clear hfl hmem
        go_wp2
        go_ret
        refine ⟨by rw [HALL.out]; rfl, HT.out, ⟨xs.take k, xs.drop k, _, c - k, (List.take_append_drop k xs).symm, HTK.out, ?_, HLQ.out, fun g1 o1 e => (by rw [← ha]; exact HA2.out g1 o1 e)⟩⟩
        rw [List.length_drop]
        exact HR.out
      · rw [hfl] at hf
        have HTK1 : Hid (∀ y ∈ xs.take (k + 1), y.v ∈ fs) := by
          show ∀ y ∈ _, _
          intro y hy
          have e : xs.take (k + 1) = xs.take k ++ [atVb xs k] := by rw [List.take_add_one, List.getElem?_eq_getElem hlt, atVb_eq hlt]; rfl
          rw [e] at hy
          rcases List.mem_append.1 hy with hy | hy
          · exact HTK.out y hy
          · rw [List.mem_singleton.1 hy, HXX.out]
            exact inB_iff.1 hfl
        subst ha'
        have f1 := World.rowIs.frozen HR.out 3
        clear hfl hmem
        go_wp2
        refine ⟨⟨k + 1, if c - k = 1 then some ⟨g, off + k, none⟩ else some ⟨g, off + k + 1, none⟩, by omega, HTK1, ?_, ?_, ?_, ?_⟩, ?_⟩
        · have := HR.out.set 3 (.slice (if c - k = 1 then some ⟨g, off + k, none⟩ else some ⟨g, off + k + 1, none⟩) (xs.length - k - 1) (c - k - 1))
          rw [Nat.sub_sub, Nat.sub_sub] at this
          exact this
        · exact ⟨HT.out.os, HT.out.tape, HT.out.output, by simp only [World.size_setCell]; exact HT.out.size, fun b hb he => by rw [heap_setCell_other _ _ _ _ (by show b ≠ be; exact he)]; exact HT.out.block b hb he⟩
        · exact fun h => ⟨g, off, ha, by rw [if_neg (by omega)]; rfl⟩
        · intro g' off' e
          split at e
          · injection e with e
            injection e with e _ _
            subst e
            exact ⟨off, ha⟩
          · injection e with e
            injection e with e _ _
            subst e
            exact ⟨off, ha⟩
        · rw [World.cell?_setCell_same _ _ _ q1, q1]
          show xs.length - k - 1 < xs.length - k
          omega
    · obtain rfl : k = xs.length := by omega
      have e0 : (((xs.length - xs.length : Nat) : Int) == 0) = true := by rw [Nat.sub_self]; rfl
      have e1 : ¬ (0 : Int) < ((xs.length - xs.length : Nat) : Int) := by rw [Nat.sub_self]; decide
      have HALL : Hid (xs.all (fun x => inB fs x.v) = true) := by
        show _ = _
        rw [List.all_eq_true]
        intro x hx
        exact inB_iff.2 (HTK.out x (by rw [List.take_length]; exact hx))
      go_wp2
      go_ret
      refine ⟨by rw [HALL.out]; rfl, HT.out, ⟨xs, [], _, c - xs.length, (List.append_nil _).symm, fun x hx => HTK.out x (by rw [List.take_length]; exact hx), ?_, ⟨Nat.zero_le _, by unfold maxLen; omega, fun h => absurd h (by simp)⟩, HA2.out⟩⟩
      have := HR.out
      rw [Nat.sub_self] at this
      exact this
end Go.Proofs.YteabclfhmapabaaGreatDoor
end
