/- The contracts of rounds, mixed, ended, begun and New. -/
import Derived.Test.YtpjpnkohagcegaaDoorYba
namespace Go.Proofs.YtpjpnkohagcegaaDoor
open Go.RowKit
open Go.Deep
/-- So many rounds. -/
def Q4.rounds (v : Q4) : Nat → Q4
  | 0 => v
  | n + 1 => (v.rounds n).round
/-- Four words behind one more word of a text. -/
def Q4.mix (v : Q4) (m : UInt64) : Q4 :=
  let u := (⟨v.a, v.b, v.c, v.d ^^^ m⟩ : Q4).rounds 2
  ⟨u.a ^^^ m, u.b, u.c, u.d⟩
/-- The answer of four words. -/
def Q4.fin (v : Q4) : UInt64 :=
  let u := (⟨v.a, v.b, v.c ^^^ 255, v.d⟩ : Q4).rounds 4
  u.a ^^^ u.b ^^^ u.c ^^^ u.d
/-- The four words ahead of a text. -/
def begin4 (k0 k1 : UInt64) : Q4 := ⟨k0 ^^^ 8317987319222330741, k1 ^^^ 7237128888997146477, k0 ^^^ 7816392313619706465, k1 ^^^ 8387220255154660723⟩
/-- What is known in rounds, mixed, ended. -/
theorem Rw.block {w W W' : World} {g : Nat} {a b c d : UInt64} (j : Rw w W g a b c d) (h : Below W.heap.size W W') : Rw w W' g a b c d :=
  ⟨j.q.of_block (h.block _ j.q.lt), (h.block _ (lt_heap j.r)).trans j.r, j.b.trans (h.mono (Nat.le_trans (Nat.le_of_lt j.q.lt) (Nat.le_refl _)))⟩
theorem Rw.row {w W : World} {g : Nat} {a b c d : UInt64} (j : Rw w W g a b c d) (v : Q4) : Rw w (W.setRow g (qc v.list)) g v.a v.b v.c v.d :=
  ⟨Qd.of_heap (setRow_heap _ _ _ _ _ _ j.q.heap), (setRow_other _ _ _ _ (by omega)).trans j.r, below_setRow j.b (Nat.le_refl _) _⟩
theorem xor_c (x : UInt64) (n : Nat) (hn : n < 18446744073709551616) : bits .xor .u64 (x.toNat : Int) (n : Int) = ((x ^^^ UInt64.ofNat n).toNat : Int) := by
  rw [← xorQ, UInt64.toNat_ofNat', Nat.mod_eq_of_lt (by simpa using hn)]
section
set_option maxRecDepth 10000
set_option maxHeartbeats 1000000
theorem rounds_any (v : Q4) (n : Nat) (K : Int) (hK : K = (n : Int)) (hn : n ≤ 100) (w : World) : Calls Tryd.prog 54 #[.agg (qc v.list), .int .i64 K] w fun e w' => e = .returned (.agg (qc (v.rounds n).list)) ∧ Below w.heap.size w w' := by
  subst hK
  have J0 := hide (Rw.start w v)
  have HR := hide fun u W => round_any u W
  go_enter Tryd.func54, Tryd.ntmps54
  go_wp2_with (first | refine wpList_boxA rfl _ rfl (qc v.list) rfl ?_ | refine wpList_allocA A4 rfl rfl ?_)
  go_loopw [6] (fun c wr => ∃ i : Nat, i ≤ n ∧ c = .int .i64 i ∧ Hid (Rw w wr w.heap.size (v.rounds i).a (v.rounds i).b (v.rounds i).c (v.rounds i).d)) (fun c _ => (n - intOf c).toNat)
  case atStart => exact ⟨0, by omega, rfl, J0⟩
  case round =>
    clear J0
    obtain ⟨i, hi, rfl, J⟩ := hrel
    have HQ := hide J.out.q.heap
    by_cases hlt : i < n
    · have HE : Hid (v.rounds (i + 1) = (v.rounds i).round) := rfl
      generalize v.rounds i = u at *
      go_wp2_with (first | refine wpList_loadA A4 rfl _ rfl _ rfl (qc u.list) rfl 78 HQ.out ?_ | (go_at_call 57; refine (HR.out u _).mono ?_; rintro e w1 ⟨rfl, b1⟩; have J1 := hide (J.out.block b1); have HQ1 := hide J1.out.q.heap; clear b1) | refine wpList_storeA A4 rfl _ _ rfl _ (qc u.round.list) rfl (qc_one _) rfl rfl (qc u.list) rfl 78 HQ1.out ?_)
      exact ⟨⟨i + 1, by omega, by go_num, by rw [HE.out]; exact hide (J1.out.row u.round)⟩, by simp [intOf]; omega⟩
    · have : i = n := by omega
      subst this
      have HZ := hide J.out.r
      have HB := hide J.out.b
      generalize hu : v.rounds i = u at *
      have HU := hide hu
      clear hu
      go_wp2_with (first | refine wpList_loadA A4 rfl _ rfl _ rfl (qc u.list) rfl 78 HQ.out ?_ | refine wpList_storeA A4 rfl _ _ rfl _ (qc u.list) rfl (qc_one _) rfl rfl (qc qz.list) rfl 78 HZ.out ?_)
      exact bodyPost_ret (v := .agg (qc u.list)) (resA A4 Tryd.results54 _ _ (w.heap.size + 1) 78 _ rfl rfl (setRow_heap _ _ _ _ _ _ HZ.out)) rfl ⟨by rw [HU.out], below_setRow HB.out (by omega) _⟩
theorem mixed_any (v : Q4) (m : UInt64) (w : World) : Calls Tryd.prog 46 #[.agg (qc v.list), .int .u64 (m.toNat : Int)] w fun e w' => e = .returned (.agg (qc (v.mix m).list)) ∧ Below w.heap.size w w' := by
  have J0 := hide (Rw.start w v)
  go_enter Tryd.func46, Tryd.ntmps46
  go_upto_region 1 with (first | refine wpList_boxA rfl _ rfl (qc v.list) rfl ?_ | refine wpList_allocA A4 rfl rfl ?_)
  generalize (w.alloc (.cells (qc v.list) 78)).alloc (.cells (qc qz.list) 78) = W0 at *
  obtain ⟨va, vb, vc, vd⟩ := v
  simp only at J0
  have c3 := J0.out.q.c3
  have f3 := J0.out.q.fz 3
  go_upto_region 2 with fail
  simp only [xorQ]
  have J1 := hide (J0.out.s3 (vd ^^^ m))
  generalize W0.setCell ⟨w.heap.size, 3, none⟩ (.int .u64 ((vd ^^^ m).toNat : Int)) = W1 at *
  clear c3 f3 J0
  have HR := hide fun W => rounds_any ⟨va, vb, vc, vd ^^^ m⟩ 2 2 rfl (by omega) W
  generalize hU : (⟨va, vb, vc, vd ^^^ m⟩ : Q4).rounds 2 = u at *
  have HQ := hide J1.out.q.heap
  have HU := hide hU
  clear hU
  go_upto_region 3 with (first | refine wpList_loadA A4 rfl _ rfl _ rfl (qc [va, vb, vc, vd ^^^ m]) rfl 78 HQ.out ?_ | (go_at_call 54; refine (HR.out _).mono ?_; rintro e w1 ⟨rfl, b1⟩; have J2 := hide (J1.out.block b1); have HQ1 := hide J2.out.q.heap; have J3 := hide (J2.out.row u); clear b1 J2 HR HQ J1) | refine wpList_storeA A4 rfl _ _ rfl _ (qc u.list) rfl (qc_one _) rfl rfl (qc [va, vb, vc, vd ^^^ m]) rfl 78 HQ1.out ?_)
  generalize w1.setRow w.heap.size (qc u.list) = W2 at *
  clear HQ1
  have c0 := J3.out.q.c0
  have f0 := J3.out.q.fz 0
  go_upto_region 4 with fail
  simp only [xorQ]
  have J4 := hide (J3.out.s0 (u.a ^^^ m))
  generalize W2.setCell ⟨w.heap.size, 0, none⟩ (.int .u64 ((u.a ^^^ m).toNat : Int)) = W3 at *
  clear c0 f0 J3
  have HQ := hide J4.out.q.heap
  have HZ := hide J4.out.r
  have HB := hide J4.out.b
  go_wp2_with (first | refine wpList_loadA A4 rfl _ rfl _ rfl (qc [u.a ^^^ m, u.b, u.c, u.d]) rfl 78 HQ.out ?_ | refine wpList_storeA A4 rfl _ _ rfl _ (qc [u.a ^^^ m, u.b, u.c, u.d]) rfl (qc_one _) rfl rfl (qc qz.list) rfl 78 HZ.out ?_)
  refine bodyPost_ret (v := .agg (qc [u.a ^^^ m, u.b, u.c, u.d])) (resA A4 Tryd.results46 _ _ (w.heap.size + 1) 78 _ rfl rfl (setRow_heap _ _ _ _ _ _ HZ.out)) rfl ⟨?_, below_setRow HB.out (by omega) _⟩
  cases HU.out
  rfl
theorem Rw.start1 (w : World) (v : Q4) : Qd (w.alloc (.cells (qc v.list) 78)) w.heap.size v.a v.b v.c v.d := Qd.of_heap (heap_alloc_last _ _)
theorem ended_any (v : Q4) (w : World) : Calls Tryd.prog 45 #[.agg (qc v.list)] w fun e w' => e = .returned (.int .u64 (v.fin.toNat : Int)) ∧ Below w.heap.size w w' := by
  have J0 := hide (Rw.start1 w v)
  have B0 := hide ((Below.refl w.heap.size w).alloc (Nat.le_refl _) (.cells (qc v.list) 78))
  go_enter Tryd.func45, Tryd.ntmps45
  go_upto_region 1 with (first | refine wpList_boxA rfl _ rfl (qc v.list) rfl ?_)
  generalize w.alloc (.cells (qc v.list) 78) = W0 at *
  obtain ⟨va, vb, vc, vd⟩ := v
  simp only at J0
  have c2 := J0.out.c2
  have f2 := J0.out.fz 2
  go_upto_region 2 with fail
  have hx := xor_c vc 255 (by decide)
  rw [show ((255 : Nat) : Int) = 255 from rfl] at hx
  rw [hx]
  have J1 := hide (J0.out.s2 (vc ^^^ UInt64.ofNat 255))
  have B1 : Hid (Below w.heap.size w (W0.setCell ⟨w.heap.size, 2, none⟩ (.int .u64 ((vc ^^^ UInt64.ofNat 255).toNat : Int)))) := B0.out.setCell (Nat.le_refl _) _
  generalize W0.setCell ⟨w.heap.size, 2, none⟩ (.int .u64 ((vc ^^^ UInt64.ofNat 255).toNat : Int)) = W1 at *
  clear c2 f2 J0 hx B0
  have HR := hide fun W => rounds_any ⟨va, vb, vc ^^^ UInt64.ofNat 255, vd⟩ 4 4 rfl (by omega) W
  generalize hU : (⟨va, vb, vc ^^^ UInt64.ofNat 255, vd⟩ : Q4).rounds 4 = u at *
  have HQ := hide J1.out.heap
  have HU := hide hU
  clear hU
  go_upto_region 3 with (first | refine wpList_loadA A4 rfl _ rfl _ rfl (qc [va, vb, vc ^^^ UInt64.ofNat 255, vd]) rfl 78 HQ.out ?_ | (go_at_call 54; refine (HR.out _).mono ?_; rintro e w1 ⟨rfl, b1⟩; have J2 := hide (J1.out.of_block (b1.block _ J1.out.lt)); have HQ1 := hide J2.out.heap; have J3 : Hid (Qd (w1.setRow w.heap.size (qc u.list)) w.heap.size u.a u.b u.c u.d) := Qd.of_heap (setRow_heap _ _ _ _ _ _ HQ1.out); have B3 := hide (below_setRow (B1.out.trans (b1.mono B1.out.size)) (Nat.le_refl _) (qc u.list)); clear b1 J2 HR HQ J1) | refine wpList_storeA A4 rfl _ _ rfl _ (qc u.list) rfl (qc_one _) rfl rfl (qc [va, vb, vc ^^^ UInt64.ofNat 255, vd]) rfl 78 HQ1.out ?_)
  generalize w1.setRow w.heap.size (qc u.list) = W2 at *
  clear HQ1 B1
  have c0 := J3.out.c0
  have c1 := J3.out.c1
  have c2 := J3.out.c2
  have c3 := J3.out.c3
  go_wp2
  go_ret
  refine ⟨?_, B3.out⟩
  simp only [xorQ]
  cases HU.out
  rfl
end
end Go.Proofs.YtpjpnkohagcegaaDoor
