import Derived.Test.YtjcfhhcohmcehaaGreatDoorRkA
namespace Go.Proofs.YtjcfhhcohmcehaaGreatDoor.BK
open Go.RowKit Go.Maps
set_option linter.unusedVariables false
set_option linter.unusedSimpArgs false
attribute [local go_sem ↓] Go.wp_at_zero Go.wp_at_succ

structure Reg (w : World) (L bk B n : Nat) (C : Nat → Prop) (vI vR : Value) (hsI hsR : List Hd) : Prop where
  b : Bk w bk B n vI vR hsI hsR
  qI : Rg KI w L bk B hsI
  qR : Rg KR w L bk B hsR
  sep : Sep L bk B hsI hsR
  cov : ∀ g, (RG hsI g ∨ RG hsR g) → C g
  lens : hsI.length ≤ n ∧ hsR.length ≤ n
theorem rg_app {l : List Hd} {h : Hd} {g : Nat} (hg : RG (l ++ [h]) g) : RG l g ∨ h.blk = some g := by
  obtain ⟨x, hx, e⟩ := hg
  rcases List.mem_append.1 hx with q | q
  · exact .inl ⟨x, q, e⟩
  · rw [List.mem_singleton.1 q] at e; exact .inr e
theorem Rg.push {K : Kd} {w w' : World} {L bk B n : Nat} {l : List Hd} {h : Hd} {O : List Value} (r : Rg K w L bk B l) (t : Tch (EB bk B) w w') (ho : w.ownsRow 0 K.e K.sz h.sv h.n O) (hb : ∀ g, h.blk = some g → L ≤ g ∧ g < B ∧ g ≠ bk) (hn : ∀ g, h.blk = some g → ¬ RG l g) (h1 : h.m ≤ 2000000000 ∧ h.n ≤ 2097152) (h2 : l.length < 1000000000) : Rg K w' L bk B (l ++ [h]) := by
  have hr := r.keep t (fun g e q => by
    obtain ⟨_, q2, q3⟩ := r.at q
    rcases e with e | e
    · exact q3 e
    · omega)
  refine ⟨fun x hx => ?_, fun x hx => ?_, List.pairwise_append.2 ⟨r.nd, List.pairwise_singleton _ _, fun x hx y hy g e1 e2 => ?_⟩, fun x hx => ?_, by simp; omega⟩
  · rcases List.mem_append.1 hx with q | q
    · exact hr.reg x q
    · rw [List.mem_singleton.1 q]
      exact ⟨O, own_of_block ho (fun g hg => t.block g (ho.lt g hg).2 (fun e => by
        obtain ⟨_, q2, q3⟩ := hb g hg
        rcases e with e | e
        · exact q3 e
        · omega))⟩
  · rcases List.mem_append.1 hx with q | q
    · exact r.blt x q
    · rw [List.mem_singleton.1 q]; exact hb
  · rw [List.mem_singleton.1 hy] at e2
    exact hn g e2 ⟨x, hx, e1⟩
  · rcases List.mem_append.1 hx with q | q
    · exact r.num x q
    · rw [List.mem_singleton.1 q]; exact h1
theorem Rg.other {K : Kd} {w w' : World} {L bk B : Nat} {l : List Hd} (r : Rg K w L bk B l) (t : Tch (EB bk B) w w') : Rg K w' L bk B l := r.keep t (fun g e q => by
  obtain ⟨_, q2, q3⟩ := r.at q
  rcases e with e | e
  · exact q3 e
  · omega)
theorem Reg.pushI {w w' : World} {L bk B n : Nat} {C : Nat → Prop} {vI vR v' : Value} {hsI hsR : List Hd} {h : Hd} {O : List Value} (hR' : Reg w L bk B n C vI vR hsI hsR) (hb' : Bk w' bk B (n + 1) v' vR (hsI ++ [h]) hsR) (t : Tch (EB bk B) w w') (ho : w.ownsRow 0 (KI).e (KI).sz h.sv h.n O) (hb : ∀ g, h.blk = some g → L ≤ g ∧ g < B ∧ g ≠ bk) (hC : ∀ g, h.blk = some g → ¬ C g) (hm : h.m ≤ 2000000000 ∧ h.n ≤ 2097152) (hn : n < 1000000000) : Reg w' L bk B (n + 1) (fun g => C g ∨ h.blk = some g) v' vR (hsI ++ [h]) hsR :=
  ⟨hb', hR'.qI.push (n := n) t ho hb (fun g e q => hC g e (hR'.cov g (.inl q))) hm (by have := hR'.lens; omega), hR'.qR.other t, ⟨fun g h1 h2 => (rg_app h1).elim (fun q => hR'.sep.IR g q h2) (fun q => hC g q (hR'.cov g (.inr h2)))⟩, fun g e => by
    rcases e with q | q
    · exact (rg_app q).elim (fun q => .inl (hR'.cov g (.inl q))) (fun q => .inr q)
    · exact .inl (hR'.cov g (.inr q)), ⟨by have := hR'.lens.1; simp; omega, by have := hR'.lens.2; omega⟩⟩
theorem Reg.pushR {w w' : World} {L bk B n : Nat} {C : Nat → Prop} {vI vR v' : Value} {hsI hsR : List Hd} {h : Hd} {O : List Value} (hR' : Reg w L bk B n C vI vR hsI hsR) (hb' : Bk w' bk B (n + 1) vI v' hsI (hsR ++ [h])) (t : Tch (EB bk B) w w') (ho : w.ownsRow 0 (KR).e (KR).sz h.sv h.n O) (hb : ∀ g, h.blk = some g → L ≤ g ∧ g < B ∧ g ≠ bk) (hC : ∀ g, h.blk = some g → ¬ C g) (hm : h.m ≤ 2000000000 ∧ h.n ≤ 2097152) (hn : n < 1000000000) : Reg w' L bk B (n + 1) (fun g => C g ∨ h.blk = some g) vI v' hsI (hsR ++ [h]) :=
  ⟨hb', hR'.qI.other t, hR'.qR.push (n := n) t ho hb (fun g e q => hC g e (hR'.cov g (.inr q))) hm (by have := hR'.lens; omega), ⟨fun g h1 h2 => (rg_app h2).elim (fun q => hR'.sep.IR g h1 q) (fun q => hC g q (hR'.cov g (.inl h1)))⟩, fun g e => by
    rcases e with q | q
    · exact .inl (hR'.cov g (.inl q))
    · exact (rg_app q).elim (fun q => .inl (hR'.cov g (.inr q))) (fun q => .inr q), ⟨by have := hR'.lens.1; omega, by have := hR'.lens.2; simp; omega⟩⟩
set_option maxHeartbeats 3200000 in
theorem bkInts_any {w : World} {L bk B n lo hi : Nat} {C : Nat → Prop} {vI vR : Value} {hsI hsR : List Hd} {a : Option Addr} {c m : Nat} {xs : List Value} (hG : Reg w L bk B n C vI vR hsI hsR) (hBs : B ≤ w.heap.size) (hn : n + 1 ≤ 1000000) (ho : w.ownsRow lo 3 1 (.slice a m c) m xs) (hlt : ∀ g, (Value.slice a m c).ownBlock = some g → lo ≤ g ∧ g < hi) (hlo : L ≤ lo) (hhi : hi ≤ B) (hbk : bk < lo ∨ hi ≤ bk) (hC : ∀ g, lo ≤ g → g < hi → ¬ C g) (hm : m ≤ 2097152) :
    Calls Tryz.prog 11 #[.pointer (some ⟨bk, 0, none⟩), .slice a m c] w fun e w' => e = .returned (.tuple #[]) ∧ Tch (EB bk B) w w' ∧ ∃ vI' vR' hI' hR', Reg w' L bk B (n + 1) (fun g => C g ∨ (lo ≤ g ∧ g < hi)) vI' vR' hI' hR' := by
  have HK := Lib.hid (keepI_any hG.b hBs a m c (by omega) (by have := hG.lens; omega))
  have HP : Hid (∀ w1 a1 c1, Bk w1 bk B (n + 1) (.slice a1 (hsI.length + 1) c1) vR (hsI ++ [⟨a, m, c, none, 0, 0, n + 1⟩]) hsR → Tch (EB bk B) w w1 → ∃ vI' vR' hI' hR', Reg w1 L bk B (n + 1) (fun g => C g ∨ (lo ≤ g ∧ g < hi)) vI' vR' hI' hR') := fun w1 a1 c1 hb t => by
    have hp := hG.pushI hb t (h := ⟨a, m, c, none, 0, 0, n + 1⟩) (ho.mono (Nat.zero_le _)) (fun g hg => by have h1 := hlt g hg; refine ⟨by omega, by omega, by omega⟩) (fun g hg => hC g (hlt g hg).1 (hlt g hg).2) ⟨by show n + 1 ≤ _; omega, hm⟩ (by omega)
    exact ⟨_, _, _, _, ⟨hp.b, hp.qI, hp.qR, hp.sep, fun g e => (hp.cov g e).imp_right (fun q => hlt g q), hp.lens⟩⟩
  clear hG ho hlt hC
  go_enter Tryz.func11, Tryz.ntmps11
  go_wp2_with fail
  refine HK.out.mono ?_
  rintro e w1 ⟨rfl, a1, c1, hb1, t1⟩
  have HF := Lib.hid (And.intro t1 (HP.out w1 a1 c1 hb1 t1))
  clear hb1 t1 HK HP
  go_wp2
  go_end0
  exact ⟨rfl, HF.out⟩
set_option maxHeartbeats 3200000 in
theorem bkRows_any {w : World} {L bk B n lo hi : Nat} {C : Nat → Prop} {vI vR : Value} {hsI hsR : List Hd} {a : Option Addr} {c m : Nat} {xs : List Value} (hG : Reg w L bk B n C vI vR hsI hsR) (hBs : B ≤ w.heap.size) (hn : n + 1 ≤ 1000000) (ho : w.ownsRow lo 27 24 (.slice a m c) m xs) (hlt : ∀ g, (Value.slice a m c).ownBlock = some g → lo ≤ g ∧ g < hi) (hlo : L ≤ lo) (hhi : hi ≤ B) (hbk : bk < lo ∨ hi ≤ bk) (hC : ∀ g, lo ≤ g → g < hi → ¬ C g) (hm : m ≤ 2097152) :
    Calls Tryz.prog 12 #[.pointer (some ⟨bk, 0, none⟩), .slice a m c] w fun e w' => e = .returned (.tuple #[]) ∧ Tch (EB bk B) w w' ∧ ∃ vI' vR' hI' hR', Reg w' L bk B (n + 1) (fun g => C g ∨ (lo ≤ g ∧ g < hi)) vI' vR' hI' hR' := by
  have HK := Lib.hid (keepR_any hG.b hBs a m c (by omega) (by have := hG.lens; omega))
  have HP : Hid (∀ w1 a1 c1, Bk w1 bk B (n + 1) vI (.slice a1 (hsR.length + 1) c1) hsI (hsR ++ [⟨a, m, c, none, 0, 0, n + 1⟩]) → Tch (EB bk B) w w1 → ∃ vI' vR' hI' hR', Reg w1 L bk B (n + 1) (fun g => C g ∨ (lo ≤ g ∧ g < hi)) vI' vR' hI' hR') := fun w1 a1 c1 hb t => by
    have hp := hG.pushR hb t (h := ⟨a, m, c, none, 0, 0, n + 1⟩) (ho.mono (Nat.zero_le _)) (fun g hg => by have h1 := hlt g hg; refine ⟨by omega, by omega, by omega⟩) (fun g hg => hC g (hlt g hg).1 (hlt g hg).2) ⟨by show n + 1 ≤ _; omega, hm⟩ (by omega)
    exact ⟨_, _, _, _, ⟨hp.b, hp.qI, hp.qR, hp.sep, fun g e => (hp.cov g e).imp_right (fun q => hlt g q), hp.lens⟩⟩
  clear hG ho hlt hC
  go_enter Tryz.func12, Tryz.ntmps12
  go_wp2_with fail
  refine HK.out.mono ?_
  rintro e w1 ⟨rfl, a1, c1, hb1, t1⟩
  have HF := Lib.hid (And.intro t1 (HP.out w1 a1 c1 hb1 t1))
  clear hb1 t1 HK HP
  go_wp2
  go_end0
  exact ⟨rfl, HF.out⟩
end Go.Proofs.YtjcfhhcohmcehaaGreatDoor.BK
