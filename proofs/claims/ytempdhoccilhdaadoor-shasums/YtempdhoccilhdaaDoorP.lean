/- The laws ShaSums and ShaKeys: their walks. -/
import Derived.Test.YtempdhoccilhdaaDoorO
namespace Go.Proofs.YtempdhoccilhdaaDoor
open Go.RowKit
open Go.Deep
theorem eqb (t : TypeId) (n : Nat) (ht : Tryd.prog.underlying t = some (.array n 5)) (l : List UInt8) (hl : l.length = n) (W : World) : (Op.equalIn 10000 t (.agg (hc l)) (.agg (hc l))).run Tryd.prog W = .ok true W := by
  have e := run_equalIn_bytes (P := Tryd.prog) W 9998 t 5 n ht Tryd.underlying5 size5 l l hl hl
  rw [show (l == l) = true from by simp] at e
  exact e
theorem below_next {w w1 w2 : World} (B : Below w.heap.size w w1) (b : Below w1.heap.size w1 w2) : Below w.heap.size w w2 := B.trans (b.mono B.size)
theorem and61 (n : Nat) (hn : n < 18446744073709551616) : bits .and .u64 (n : Int) 2305843009213693951 = ((n % 2305843009213693952 : Nat) : Int) := by
  have := bits_mask .u64 64 (by decide) (fun x h0 h1 => wrapu x h0 (by simpa using h1)) 61 (by decide) (n : Int) (by omega) (by omega)
  rw [show (2305843009213693951 : Int) = 2 ^ 61 - 1 from by decide, this]
  omega
/-- Arrays held against each other, as an operation of a walk, guarded or not. -/
theorem wpList_eql {w : World} {ops : Array Oper} {rest : List Oper} {o : Oper} {a : Act} {Q : Exit → Act → World → Prop} (t : TypeId) (x y : Operand) (t2 : TypeId) (ho : o.op = .binOp .eql t x y t2) (c d : Array Value) (hx : a.eval x = .agg c) (hy : a.eval y = .agg d) (hw : Region.wanted o (yielded ops a.tmps) = true)
    (hg : Tryd.prog.eqGuardType Tryd.prog.depth t = false) (v : Bool) (hr : ∀ W, (Op.equalIn 10000 t (.agg c) (.agg d)).run Tryd.prog W = .ok v W)
    (h : wpList Tryd.prog ops Q rest (a.put o.dst (.bool v)) w) : wpList Tryd.prog ops Q (o :: rest) a w := by
  refine wpList_step fun K hK => ?_
  rw [if_pos hw]
  unfold Oper.wp execOp
  simp only [ho, hx, hy, Sem.run_bind, run_eqGuard_agg (P := Tryd.prog) w .eql t x y c d hg, run_eql_struct, hr w, Result.andThen_ok, Sem.run_pure]
  exact hK _ _ h
theorem wpList_neq {w : World} {ops : Array Oper} {rest : List Oper} {o : Oper} {a : Act} {Q : Exit → Act → World → Prop} (t : TypeId) (x y : Operand) (t2 : TypeId) (ho : o.op = .binOp .neq t x y t2) (c d : Array Value) (hx : a.eval x = .agg c) (hy : a.eval y = .agg d) (hw : Region.wanted o (yielded ops a.tmps) = true)
    (hg : Tryd.prog.eqGuardType Tryd.prog.depth t = false) (v : Bool) (hr : ∀ W, (Op.equalIn 10000 t (.agg c) (.agg d)).run Tryd.prog W = .ok v W)
    (h : wpList Tryd.prog ops Q rest (a.put o.dst (.bool !v)) w) : wpList Tryd.prog ops Q (o :: rest) a w := by
  refine wpList_step fun K hK => ?_
  rw [if_pos hw]
  unfold Oper.wp execOp
  simp only [ho, hx, hy, Sem.run_bind, run_eqGuard_agg (P := Tryd.prog) w .neq t x y c d hg, run_neq_struct, hr w, Result.andThen_ok, Sem.run_pure]
  exact hK _ _ h
section
set_option maxRecDepth 10000
set_option maxHeartbeats 1000000
theorem shaSums_walk (s : ByteArray) (hs : s.size < 2305843009213693000) (n : Nat) (hn : n < 18446744073709551616) (w : World) (hK : Kg w) : Calls Tryd.prog 3 #[.string s, .int .u64 (n : Int)] w fun e w' => e = .returned (.bool true) ∧ Below w.heap.size w w' := by
  have HA := hide fun W hW => awake_any W hW
  have H10 := hide fun W hW => sum_any s hs W hW
  have H11 := hide fun W => rsum_any s hs W
  have H12 := hide fun W hW => twice_any s hs W hW
  have H13 := hide fun W => rtwice_any s hs W
  have e1 := hide fun W => eqb 25 32 Tryd.underlying25 (digest s.data.toList) (digest_len _) W
  have e2 := hide fun W => eqb 25 32 Tryd.underlying25 (digest (digest s.data.toList)) (digest_len _) W
  generalize digest (digest s.data.toList) = D2 at *
  generalize digest s.data.toList = D1 at *
  have ha := and61 n hn
  have H14 := hide fun W => pad_any (n % 2305843009213693952) (by omega) W
  have H15 := hide fun W => rpad_any (n % 2305843009213693952) (by omega) W
  generalize (⟨(padL (n % 2305843009213693952)).toArray⟩ : ByteArray) = P at *
  generalize n % 2305843009213693952 = m at *
  have H16 := hide fun W => first_any W
  have H17 := hide fun W => rfirst_any W
  have e3 := hide fun W => eq31 first W
  generalize uc first.list = FC at *
  have HK := hide hK
  clear hK
  go_enter Tryd.func3, Tryd.ntmps3
  go_wp2_with (first | (go_at_call 9; refine (HA.out _ HK.out).mono ?_; rintro e w1 ⟨rfl, b1⟩; have B1 := hide b1; clear b1) | (go_at_call 10; refine (H10.out _ (HK.out.next B1.out)).mono ?_; rintro e w2 ⟨rfl, b2⟩; have B2 := hide (below_next B1.out b2); clear b2) | (go_at_call 11; refine (H11.out _).mono ?_; rintro e w3 ⟨rfl, b3⟩; have B3 := hide (below_next B2.out b3); clear b3) | (go_at_call 12; refine (H12.out _ (HK.out.next B3.out)).mono ?_; rintro e w4 ⟨rfl, b4⟩; have B4 := hide (below_next B3.out b4); clear b4) | (go_at_call 13; refine (H13.out _).mono ?_; rintro e w5 ⟨rfl, b5⟩; have B5 := hide (below_next B4.out b5); clear b5) | (go_at_call 14; refine (H14.out _).mono ?_; rintro e w6 ⟨rfl, b6⟩; have B6 := hide (below_next B5.out b6); clear b6) | (go_at_call 15; refine (H15.out _).mono ?_; rintro e w7 ⟨rfl, b7⟩; have B7 := hide (below_next B6.out b7); clear b7) | (go_at_call 16; refine (H16.out _).mono ?_; rintro e w8 ⟨rfl, b8⟩; have B8 := hide (below_next B7.out b8); clear b8) | (go_at_call 17; refine (H17.out _).mono ?_; rintro e w9 ⟨rfl, b9⟩; have B9 := hide (below_next B8.out b9); clear b9) | refine wpList_eql 25 _ _ _ rfl (hc D1) (hc D1) rfl rfl rfl eqg25 true e1.out ?_ | refine wpList_eql 25 _ _ _ rfl (hc D2) (hc D2) rfl rfl rfl eqg25 true e2.out ?_ | refine wpList_eql 31 _ _ _ rfl FC FC rfl rfl rfl eqg31 true e3.out ?_)
  go_ret
  exact ⟨rfl, B9.out⟩
end
end Go.Proofs.YtempdhoccilhdaaDoor
