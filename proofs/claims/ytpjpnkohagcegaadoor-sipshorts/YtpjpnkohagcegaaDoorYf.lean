/- The contracts of Sum, Hash, Part and awake. -/
import Derived.Test.YtpjpnkohagcegaaDoorYe
namespace Go.Proofs.YtpjpnkohagcegaaDoor
open Go.RowKit
open Go.Deep
theorem sl_int (n : Nat) : IntKind.u64.wrap ((n : Int) * 72057594037927936) = ((UInt64.ofNat (n * 72057594037927936 % 18446744073709551616)).toNat : Int) := by
  rw [UInt64.toNat_ofNat', wrapQ]
  omega
attribute [local go_sem ↓] ldq_eq svq_eq
section
set_option maxRecDepth 10000
set_option maxHeartbeats 1000000
theorem sum_any6 (b : Nat) (s : Sm) (w : World) (hs : s.n < 9223372036854775800) (h : Sat w b s) : Calls Tryd.prog 32 #[.pointer (some ⟨b, 0, none⟩)] w fun e w' => e = .returned (.int .u64 (s.sum.toNat : Int)) ∧ Below w.heap.size w w' := by
  obtain ⟨v, t, n⟩ := s
  have h0 : Sst w b v t n := h
  clear h
  simp only at hs
  have c4 := h0.tail
  have c5 := h0.long
  have e0 := hide (sl_int n)
  have HM := hide fun W => mixed_any v (t ||| UInt64.ofNat (n * 72057594037927936 % 18446744073709551616)) W
  have HF := hide fun W => ended_any (v.mix (t ||| UInt64.ofNat (n * 72057594037927936 % 18446744073709551616))) W
  rw [show (v.mix (t ||| UInt64.ofNat (n * 72057594037927936 % 18446744073709551616))).fin = Sm.sum ⟨v, t, n⟩ from rfl] at HF
  generalize Sm.sum ⟨v, t, n⟩ = R at *
  rw [← orQ] at HM
  generalize UInt64.ofNat (n * 72057594037927936 % 18446744073709551616) = m at *
  generalize v.mix (t ||| m) = u at *
  have l1 := Sst.ld (w := w.drew) h0
  go_enter Tryd.func32, Tryd.ntmps32
  go_upto_region 4 with fail
  rw [e0.out]
  clear e0 h0
  go_region_with (first | (go_at_call 46; refine (HM.out _).mono ?_; rintro e w3 ⟨rfl, b3⟩; have B3 := hide b3; clear b3) | (go_at_call 45; refine (HF.out _).mono ?_; rintro e w4 ⟨rfl, b4⟩; have B4 := hide (B3.out.trans (b4.mono B3.out.size)); clear b4))
  all_goals go_wp2
  all_goals go_ret
  all_goals exact ⟨rfl, ((Below.refl _ _).drew).trans B4.out⟩
theorem Sat.rfr {w w' : World} {b c : Nat} {s : Sm} (h : Sat w b s) (hb : b ≠ c) (r : Rfr c w w') : Sat w' b s := Sst.of_block h (r.block b (Sst.lt h) hb)
/-- The digest of a text by two words. -/
def sipM (k0 k1 : UInt64) (l : List UInt8) : UInt64 := (Sm.puts ⟨begin4 k0 k1, 0, 0⟩ l).sum
theorem hash_any (k0 k1 : UInt64) (q : ByteArray) (hq : q.size < 9223372036854775800) (w : World) : Calls Tryd.prog 20 #[.agg (qc [k0, k1]), .string q] w fun e w' => e = .returned (.int .u64 ((sipM k0 k1 q.data.toList).toNat : Int)) ∧ Below w.heap.size w w' := by
  have HK := hide (heap_alloc_last w (.cells (qc [k0, k1]) 28))
  have BB := hide ((Below.refl w.heap.size w).alloc (Nat.le_refl _) (.cells (qc [k0, k1]) 28))
  have HN := hide fun W => new_any6 k0 k1 W
  have hn := puts_n q.data.toList ⟨begin4 k0 k1, 0, 0⟩
  have hl : q.data.toList.length = q.size := by simp
  have HW := hide fun b W h => write_any6 b ⟨begin4 k0 k1, 0, 0⟩ q W (by simpa using hq) h
  generalize hM : Sm.puts ⟨begin4 k0 k1, 0, 0⟩ q.data.toList = M at *
  have HM : Hid (sipM k0 k1 q.data.toList = M.sum) := by unfold Hid sipM; rw [hM]
  have hmn : M.n < 9223372036854775800 := by rw [hn, hl]; simpa using hq
  clear hM hn hl
  go_enter Tryd.func20, Tryd.ntmps20
  go_wp2_with (first | refine wpList_boxA rfl _ rfl (qc [k0, k1]) rfl ?_ | refine wpList_loadA AK rfl _ rfl _ rfl (qc [k0, k1]) rfl 28 HK.out ?_ | (go_at_call 30; refine (HN.out _).mono ?_; rintro e w1 ⟨b, rfl, h1, b1, hb⟩; have H1 : Hid (Sat w1 b ⟨begin4 k0 k1, 0, 0⟩) := h1; have B1 := hide (BB.out.trans (b1.mono BB.out.size)); have Hb : Hid (w.heap.size ≤ b) := (by have := BB.out.size; exact Nat.le_trans this hb); clear b1 hb h1) | (go_at_call 31; refine (HW.out _ _ H1.out).mono ?_; rintro e w2 ⟨rfl, h2, r2⟩; have H2 := hide h2; have B2 := hide (B1.out.trans (r2.to_below Hb.out B1.out.size)); clear h2 r2) | (go_at_call 32; refine (sum_any6 _ M _ hmn H2.out).mono ?_; rintro e w3 ⟨rfl, b3⟩; have B3 := hide (B2.out.trans (b3.mono B2.out.size)); clear b3))
  go_ret
  exact ⟨by rw [HM.out]; rfl, B3.out⟩
theorem awake_mat : sipM 506097522914230528 1084818905618843912 [] = 8246050544436514353 := by decide +kernel
theorem run_buildK (w : World) : (Instr.build 28 #[(0, .int .u64 506097522914230528), (1, .int .u64 1084818905618843912)]).run Tryd.prog w = .ok (.agg (qc [506097522914230528, 1084818905618843912])) w := by kernel_rfl
theorem wpList_buildK {w : World} {ops : Array Oper} {rest : List Oper} {o : Oper} {f : Act} {Q : Exit → Act → World → Prop} (hgd : o.guard = none) (ho : o.op = .build 28 #[(0, .const (.int .u64 506097522914230528)), (1, .const (.int .u64 1084818905618843912))])
    (h : wpList Tryd.prog ops Q rest (f.put o.dst (.agg (qc [506097522914230528, 1084818905618843912]))) w) : wpList Tryd.prog ops Q (o :: rest) f w := by
  refine wpList_plain hgd fun K hK => ?_
  unfold Oper.wp execOp
  simp only [ho, List.map_toArray, List.map_cons, List.map_nil, Act.eval, run_buildK w, Sem.run_bind, Result.andThen_ok, Sem.run_pure]
  exact hK _ _ h
theorem awake_any6 (w : World) : Calls Tryd.prog 5 #[] w fun e w' => e = .returned (.bool true) ∧ Below w.heap.size w w' := by
  have HH := hide fun W => hash_any 506097522914230528 1084818905618843912 ⟨#[]⟩ (by decide) W
  rw [show (⟨#[]⟩ : ByteArray).data.toList = [] from rfl, awake_mat, show (((8246050544436514353 : UInt64).toNat : Nat) : Int) = 8246050544436514353 from rfl] at HH
  go_enter Tryd.func5, Tryd.ntmps5
  go_wp2_with (first | refine wpList_buildK rfl rfl ?_ | (go_at_call 20; refine (HH.out _).mono ?_; rintro e w1 ⟨rfl, b1⟩; have B1 := hide b1; clear b1))
  go_ret
  exact ⟨rfl, B1.out⟩
end
end Go.Proofs.YtpjpnkohagcegaaDoor
