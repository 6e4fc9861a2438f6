/- The contract of the Round of the document. -/
import Derived.Test.YtpjpnkohagcegaaDoorYb
namespace Go.Proofs.YtpjpnkohagcegaaDoor
open Go.RowKit
open Go.Deep
attribute [local go_sem ↓] xorQ
section
set_option maxRecDepth 10000
set_option maxHeartbeats 1000000
theorem rround_any (v : Q4) (w : World) : Calls Tryd.prog 37 #[.agg (qc v.list)] w fun e w' => e = .returned (.agg (qc v.round.list)) ∧ Below w.heap.size w w' := by
  have J0 := hide (Rw.start w v)
  go_enter Tryd.func37, Tryd.ntmps37
  go_upto_region 1 with (first | refine wpList_boxA rfl _ rfl (qc v.list) rfl ?_ | refine wpList_allocA A4 rfl rfl ?_)
  generalize (w.alloc (.cells (qc v.list) 78)).alloc (.cells (qc qz.list) 78) = W0 at *
  obtain ⟨va, vb, vc, vd⟩ := v
  simp only at J0
  have c0 := J0.out.q.c0
  have c1 := J0.out.q.c1
  have c2 := J0.out.q.c2
  have c3 := J0.out.q.c3
  have f0 := J0.out.q.fz 0
  go_upto_region 2 with fail
  simp only [addWQ]
  have J1 := hide (J0.out.s0 (va + vb))
  generalize hE : va + vb = a1 at *
  have E1 := hide hE
  generalize W0.setCell ⟨w.heap.size, 0, none⟩ (.int .u64 (a1.toNat : Int)) = W1 at *
  clear c0 c1 c2 c3 f0 J0 hE
  have c0 := J1.out.q.c0
  have c1 := J1.out.q.c1
  have c2 := J1.out.q.c2
  have c3 := J1.out.q.c3
  have f1 := J1.out.q.fz 1
  have HR := hide fun U => turn_any64 vb 13 13 rfl (by omega) U
  go_cut [] from 9 to 15 (fun wx => wx = W1.drew.setCell ⟨w.heap.size, 1, none⟩ (.int .u64 ((rot vb 13 ^^^ a1).toNat : Int)))
  case first =>
    go_region_with (go_at_call 49; refine (HR.out _).mono ?_; rintro e w3 ⟨rfl, hw3⟩; subst w3)
    all_goals (go_wp2_with fail; go_meet; exact rfl)
  have J2 := hide (J1.out.drew.s1 (rot vb 13 ^^^ a1))
  rw [← hcut] at J2
  clear hcut
  generalize hE : rot vb 13 ^^^ a1 = b2 at *
  have E2 := hide hE
  generalize wc = W2 at *
  clear c0 c1 c2 c3 f1 J1 hE HR
  have c0 := J2.out.q.c0
  have c1 := J2.out.q.c1
  have c2 := J2.out.q.c2
  have c3 := J2.out.q.c3
  have f0 := J2.out.q.fz 0
  have HR := hide fun U => turn_any64 a1 32 32 rfl (by omega) U
  go_upto_region 4 with (go_at_call 49; refine (HR.out _).mono ?_; rintro e w3 ⟨rfl, hw3⟩; subst w3)
  have J3 := hide (J2.out.s0 (rot a1 32))
  generalize hE : rot a1 32 = a3 at *
  have E3 := hide hE
  generalize W2.setCell ⟨w.heap.size, 0, none⟩ (.int .u64 (a3.toNat : Int)) = W3 at *
  clear c0 c1 c2 c3 f0 J2 hE HR
  have c0 := J3.out.q.c0
  have c1 := J3.out.q.c1
  have c2 := J3.out.q.c2
  have c3 := J3.out.q.c3
  have f2 := J3.out.q.fz 2
  go_upto_region 5 with fail
  simp only [addWQ]
  have J4 := hide (J3.out.s2 (vc + vd))
  generalize hE : vc + vd = c4 at *
  have E4 := hide hE
  generalize W3.setCell ⟨w.heap.size, 2, none⟩ (.int .u64 (c4.toNat : Int)) = W4 at *
  clear c0 c1 c2 c3 f2 J3 hE
  have c0 := J4.out.q.c0
  have c1 := J4.out.q.c1
  have c2 := J4.out.q.c2
  have c3 := J4.out.q.c3
  have f3 := J4.out.q.fz 3
  have HR := hide fun U => turn_any64 vd 16 16 rfl (by omega) U
  go_cut [] from 26 to 32 (fun wx => wx = W4.drew.setCell ⟨w.heap.size, 3, none⟩ (.int .u64 ((rot vd 16 ^^^ c4).toNat : Int)))
  case first =>
    go_region_with (go_at_call 49; refine (HR.out _).mono ?_; rintro e w3 ⟨rfl, hw3⟩; subst w3)
    all_goals (go_wp2_with fail; go_meet; exact rfl)
  have J5 := hide (J4.out.drew.s3 (rot vd 16 ^^^ c4))
  rw [← hcut] at J5
  clear hcut
  generalize hE : rot vd 16 ^^^ c4 = d5 at *
  have E5 := hide hE
  generalize wc = W5 at *
  clear c0 c1 c2 c3 f3 J4 hE HR
  have c0 := J5.out.q.c0
  have c1 := J5.out.q.c1
  have c2 := J5.out.q.c2
  have c3 := J5.out.q.c3
  have f0 := J5.out.q.fz 0
  go_upto_region 7 with fail
  simp only [addWQ]
  have J6 := hide (J5.out.s0 (a3 + d5))
  generalize hE : a3 + d5 = a6 at *
  have E6 := hide hE
  generalize W5.setCell ⟨w.heap.size, 0, none⟩ (.int .u64 (a6.toNat : Int)) = W6 at *
  clear c0 c1 c2 c3 f0 J5 hE
  have c0 := J6.out.q.c0
  have c1 := J6.out.q.c1
  have c2 := J6.out.q.c2
  have c3 := J6.out.q.c3
  have f3 := J6.out.q.fz 3
  have HR := hide fun U => turn_any64 d5 21 21 rfl (by omega) U
  go_cut [] from 39 to 45 (fun wx => wx = W6.drew.setCell ⟨w.heap.size, 3, none⟩ (.int .u64 ((rot d5 21 ^^^ a6).toNat : Int)))
  case first =>
    go_region_with (go_at_call 49; refine (HR.out _).mono ?_; rintro e w3 ⟨rfl, hw3⟩; subst w3)
    all_goals (go_wp2_with fail; go_meet; exact rfl)
  have J7 := hide (J6.out.drew.s3 (rot d5 21 ^^^ a6))
  rw [← hcut] at J7
  clear hcut
  generalize hE : rot d5 21 ^^^ a6 = d7 at *
  have E7 := hide hE
  generalize wc = W7 at *
  clear c0 c1 c2 c3 f3 J6 hE HR
  have c0 := J7.out.q.c0
  have c1 := J7.out.q.c1
  have c2 := J7.out.q.c2
  have c3 := J7.out.q.c3
  have f2 := J7.out.q.fz 2
  go_upto_region 9 with fail
  simp only [addWQ]
  have J8 := hide (J7.out.s2 (c4 + b2))
  generalize hE : c4 + b2 = c8 at *
  have E8 := hide hE
  generalize W7.setCell ⟨w.heap.size, 2, none⟩ (.int .u64 (c8.toNat : Int)) = W8 at *
  clear c0 c1 c2 c3 f2 J7 hE
  have c0 := J8.out.q.c0
  have c1 := J8.out.q.c1
  have c2 := J8.out.q.c2
  have c3 := J8.out.q.c3
  have f1 := J8.out.q.fz 1
  have HR := hide fun U => turn_any64 b2 17 17 rfl (by omega) U
  go_cut [] from 52 to 58 (fun wx => wx = W8.drew.setCell ⟨w.heap.size, 1, none⟩ (.int .u64 ((rot b2 17 ^^^ c8).toNat : Int)))
  case first =>
    go_region_with (go_at_call 49; refine (HR.out _).mono ?_; rintro e w3 ⟨rfl, hw3⟩; subst w3)
    all_goals (go_wp2_with fail; go_meet; exact rfl)
  have J9 := hide (J8.out.drew.s1 (rot b2 17 ^^^ c8))
  rw [← hcut] at J9
  clear hcut
  generalize hE : rot b2 17 ^^^ c8 = b9 at *
  have E9 := hide hE
  generalize wc = W9 at *
  clear c0 c1 c2 c3 f1 J8 hE HR
  have c0 := J9.out.q.c0
  have c1 := J9.out.q.c1
  have c2 := J9.out.q.c2
  have c3 := J9.out.q.c3
  have f2 := J9.out.q.fz 2
  have HR := hide fun U => turn_any64 c8 32 32 rfl (by omega) U
  go_upto_region 11 with (go_at_call 49; refine (HR.out _).mono ?_; rintro e w3 ⟨rfl, hw3⟩; subst w3)
  have J10 := hide (J9.out.s2 (rot c8 32))
  generalize hE : rot c8 32 = c10 at *
  have E10 := hide hE
  generalize W9.setCell ⟨w.heap.size, 2, none⟩ (.int .u64 (c10.toNat : Int)) = W10 at *
  clear c0 c1 c2 c3 f2 J9 hE HR
  have HQ := hide (J10.out.q.heap)
  have HZ := hide (J10.out.r)
  have HB := hide (J10.out.b)
  clear J10
  go_wp2_with (first | refine wpList_loadA A4 rfl _ rfl _ rfl (qc [a6, b9, c10, d7]) rfl 78 HQ.out ?_ | refine wpList_storeA A4 rfl _ _ rfl _ (qc [a6, b9, c10, d7]) rfl (qc_one _) rfl rfl (qc qz.list) rfl 78 HZ.out ?_)
  refine bodyPost_ret (v := .agg (qc [a6, b9, c10, d7])) (resA A4 Tryd.results37 _ _ (w.heap.size + 1) 78 _ rfl rfl (setRow_heap _ _ _ _ _ _ HZ.out)) rfl ⟨?_, below_setRow HB.out (by omega) _⟩
  cases E10.out
  cases E9.out
  cases E8.out
  cases E7.out
  cases E6.out
  cases E5.out
  cases E4.out
  cases E3.out
  cases E2.out
  cases E1.out
  rfl
end
end Go.Proofs.YtpjpnkohagcegaaDoor
