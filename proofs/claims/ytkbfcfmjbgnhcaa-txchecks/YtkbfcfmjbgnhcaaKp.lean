/- tx.Decode, tx.Same: their contracts. -/
import Derived.Test.YtkbfcfmjbgnhcaaKn
import Derived.Test.YtkbfcfmjbgnhcaaKo
import Derived.Test.YtkbfcfmjbgnhcaaKf
namespace Go.Proofs.Ytkbfcfmjbgnhcaa
open Go.RowKit
open Go.Deep
set_option linter.unusedVariables false
section
set_option maxRecDepth 10000
set_option maxHeartbeats 4000000
theorem decode_any (s : ByteArray) (w : World) (hs : s.size ≤ maxLen) : Calls Try.prog 13 #[.string s] w fun r w' => ∃ (m : Tm) (ai : Option Addr) (ci : Nat) (ao : Option Addr) (co : Nat) (n' : Nat) (e' : Int), Below w.heap.size w w' ∧ Tk Tm.bytes Tm.ok s 0 0 m n' e' ∧ ((e' = 0 ∧ n' = s.size ∧ r = .returned (.tuple #[.agg (m.cells ai ci ao co), .int .i64 0]) ∧ LO w w' m ai ci ao co ∧ m.ok) ∨ (¬ (e' = 0 ∧ n' = s.size) ∧ ∃ e2 : Int, e2 ≠ 0 ∧ r = .returned (.tuple #[.agg (zT.cells none 0 none 0), .int .i64 e2]))) := by
  have hA0 := heap_alloc_last w (.cells (zT.cells none 0 none 0) 26)
  have bA : Below w.heap.size w (w.alloc (.cells (zT.cells none 0 none 0) 26)) := (Below.refl _ _).alloc (Nat.le_refl _) _
  have RA := hide hA0
  have BA := hide bA
  have SA : Hid (w.heap.size < (w.alloc (.cells (zT.cells none 0 none 0) 26)).heap.size) := lt_heap hA0
  have HT : Hid (∀ W, Calls Try.prog 26 #[.string s, .int .i64 0] W fun r w' => ∃ (C : Array Value) (kk e' : Int), r = .returned (.tuple #[.agg C, .int .i64 kk, .int .i64 e']) ∧ (C.size = 4 ∧ C.all (·.oneCell') = true) ∧ Below W.heap.size W w' ∧ ∃ (m : Tm) (ai : Option Addr) (ci : Nat) (ao : Option Addr) (co : Nat) (n' : Nat), Tk Tm.bytes Tm.ok s 0 0 m n' e' ∧ (e' = 0 → C = m.cells ai ci ao co ∧ kk = n' ∧ LO W w' m ai ci ao co ∧ m.ok)) := fun W => by
    have h := take_any s 0 W hs (Nat.zero_le _)
    rw [show s.extract 0 s.size = s by simp] at h
    simp only [Nat.zero_add] at h
    refine h.mono ?_
    rintro r w' ⟨m, ai, ci, ao, co, n', e', h1, h2, ⟨rfl, rfl, h4, h5⟩ | ⟨h3, rfl⟩⟩
    · exact ⟨_, _, _, rfl, ⟨rfl, m.one _ _ _ _⟩, h1, m, ai, ci, ao, co, n', h2, fun _ => ⟨rfl, rfl, h4, h5⟩⟩
    · exact ⟨_, _, _, rfl, ⟨rfl, zT.one _ _ _ _⟩, h1, m, ai, ci, ao, co, n', h2, fun q => absurd q h3⟩
  clear hs hA0 bA
  generalize hA : w.alloc (.cells (zT.cells none 0 none 0) 26) = A at *
  go_enter Try.func13, Try.ntmps13
  go_upto_region 1 with ((with_reducible refine at_list ?_); refine wpList_allocA AT rfl rfl ?_)
  clear hA
  go_upto_region 2 with (first | (go_at_call 26; refine (HT.out _).mono ?_; rintro r W2 ⟨C, kk, e1, rfl, ⟨hC, hC1⟩, b2, hx⟩; have CZ := hide hC; have C1 := hide hC1; have B2 := hide b2; have HX := hide hx; clear hC hC1 b2 hx) | ((with_reducible refine at_list ?_); first | refine wpList_allocA AT rfl rfl ?_ | refine wpList_store_newA AT rfl _ _ rfl _ rfl C CZ.out C1.out rfl rfl ?_))
  have ba := (Below.refl W2.heap.size W2).alloc (Nat.le_refl _) (.cells C 26)
  have G2 := hide (heap_alloc_last W2 (.cells C 26))
  have BB := hide ba
  have RB := hide ((ba.block _ (Nat.lt_of_lt_of_le SA.out B2.out.size)).trans ((B2.out.block _ SA.out).trans RA.out))
  have B3 := hide (BA.out.trans ((below_next B2.out ba).mono BA.out.size))
  obtain ⟨m, ai, ci, ao, co, n1, t1, hx⟩ := HX.out
  have T1 := hide t1
  have HX2 : Hid (e1 = 0 → C = m.cells ai ci ao co ∧ kk = n1 ∧ LO A (W2.alloc (.cells C 26)) m ai ci ao co ∧ m.ok) := fun q => ⟨(hx q).1, (hx q).2.1, (hx q).2.2.1.below ba, (hx q).2.2.2⟩
  clear HX hx t1 ba BB
  generalize W2.alloc (.cells C 26) = W3 at *
  generalize W2.heap.size = g4 at *
  by_cases he : e1 = 0
  · subst he
    obtain ⟨rfl, rfl, lo, mo⟩ := HX2.out rfl
    have L2 := hide lo
    have MO := hide mo
    clear HX2 lo mo
    by_cases hn : n1 < s.size
    · have hn2 : (n1 : Int) < (s.size : Int) := by omega
      have NN := hide hn
      clear hn
      go_wp2_with ((with_reducible refine at_list ?_); first | refine wpList_buildA AT rfl rfl ?_ | (refine wpList_storeA AT rfl _ _ rfl w.heap.size (zT.cells none 0 none 0) rfl (zT.one _ _ _ _) rfl rfl (zT.cells none 0 none 0) rfl 26 RB.out ?_))
      refine bodyPost_ret (v := .tuple #[.agg (zT.cells none 0 none 0), .int .i64 5]) (resA2 AT Try.results13 _ _ w.heap.size 26 _ rfl rfl (setRow_heap _ _ _ _ _ _ RB.out) _ rfl) rfl ⟨m, ai, ci, ao, co, n1, 0, below_setRow B3.out (Nat.le_refl _) _, T1.out, .inr ⟨by rintro ⟨_, q⟩; have := NN.out; omega, 5, by decide, rfl⟩⟩
    · have hn2 : decide (n1 < s.size) = false := decide_eq_false hn
      have NN := hide (show n1 = s.size by have := T1.out.hi; omega)
      clear hn
      go_wp2_with ((with_reducible refine at_list ?_); first | (refine wpList_loadA AT rfl _ rfl g4 rfl (m.cells ai ci ao co) rfl 26 G2.out ?_) | (refine wpList_storeA AT rfl _ _ rfl w.heap.size (m.cells ai ci ao co) rfl (m.one _ _ _ _) rfl rfl (zT.cells none 0 none 0) rfl 26 RB.out ?_))
      have L3 := L2.out.setRow w.heap.size SA.out (m.cells ai ci ao co)
      refine bodyPost_ret (v := .tuple #[.agg (m.cells ai ci ao co), .int .i64 0]) (resA2 AT Try.results13 _ _ w.heap.size 26 _ rfl rfl (setRow_heap _ _ _ _ _ _ RB.out) _ rfl) rfl ⟨m, ai, ci, ao, co, n1, 0, below_setRow B3.out (Nat.le_refl _) _, T1.out, .inl ⟨rfl, NN.out, rfl, ⟨L3.xi, (fun g hg => Nat.le_trans (Nat.le_of_lt SA.out) (L3.fi g hg)), L3.xo, (fun g hg => Nat.le_trans (Nat.le_of_lt SA.out) (L3.fo g hg))⟩, MO.out⟩⟩
  · have he1 : (e1 == 0) = false := by simp [he]
    have he2 : (e1 != 0) = true := by simp [he]
    have NE := hide he
    clear he
    go_wp2_with ((with_reducible refine at_list ?_); first | refine wpList_buildA AT rfl rfl ?_ | (refine wpList_storeA AT rfl _ _ rfl w.heap.size (zT.cells none 0 none 0) rfl (zT.one _ _ _ _) rfl rfl (zT.cells none 0 none 0) rfl 26 RB.out ?_))
    refine bodyPost_ret (v := .tuple #[.agg (zT.cells none 0 none 0), .int .i64 e1]) (resA2 AT Try.results13 _ _ w.heap.size 26 _ rfl rfl (setRow_heap _ _ _ _ _ _ RB.out) _ rfl) rfl ⟨m, ai, ci, ao, co, n1, e1, below_setRow B3.out (Nat.le_refl _) _, T1.out, .inr ⟨by rintro ⟨q, _⟩; exact NE.out q, e1, NE.out, rfl⟩⟩
end
end Go.Proofs.Ytkbfcfmjbgnhcaa
