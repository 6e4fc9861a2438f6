/- What the three listed tables give the walks of MerkleRoots and MerkleShows. -/
import Derived.Test.YthlaibkdcebekaaDoorV
import Derived.Test.YthlaibkdcebekaaDoorMp
namespace Go.Proofs.YthlaibkdcebekaaDoor
open Go.ChangeShapes Go.WideShapes Go.ChangeAt Go.RowKit Go.Joins
set_option maxRecDepth 10000
theorem gTab64 : Tryd.prog.globalNamed "math/bits.deBruijn64tab" = some 1 := by kernel_rfl
theorem tTab64 : (Tryd.prog.globals[1]?).map (·.type) = some 89 := by kernel_rfl
theorem cellsTab64 : Tryd.prog.cellsOf 89 = 64 := by kernel_rfl
abbrev laid3 : List (String × DataW Unit) := [("math/bits.deBruijn32tab", Rows.laid_math_bits_deBruijn32tab), ("math/bits.deBruijn64tab", Rows.laid_math_bits_deBruijn64tab), ("bedrock/sha.rounds", Rows.laid_bedrock_sha_rounds)]
theorem tab64_eq : (Rows.laid_math_bits_deBruijn64tab : DataW Unit) = .agg (tab64.map fun x : Nat => .lit (.int .u8 ((x : Nat) : Int))) := by kernel_rfl
theorem tab64_len : tab64.length = 64 := by decide
set_option maxRecDepth 100000 in
theorem door_met3 (os : Os) (args : Array Value) : laidMetH Tryd.prog laid3 ((World.doorLaid Tryd.prog 400 os).forCall (fun _ _ => 0) ⟨#[], args, []⟩).memory :=
  laidMetH_of_parts3 (fuel := 8) (laidMet_of_run' 8 (by kernel_rfl) (by kernel_rfl)) (by kernel_rfl) (by kernel_rfl)
theorem of_laid3 {W : World} (h : laidMetH Tryd.prog laid3 W) : Kg W ∧ Kt W := by
  rw [MakeChecks.laidMetH_plain _ _ _ (by kernel_rfl)] at h
  obtain ⟨ps, ⟨g2, t2, cs2, f2, p2, q2, hg2, ht2, hv2, hd2, ⟨g1, t1, cs1, f1, p1, q1, hg1, ht1, hv1, hd1, ⟨g0, t0, cs0, f0, p0, q0, hg0, ht0, hv0, hd0, _, _⟩, _⟩, _⟩, _, _⟩ := h
  constructor
  · obtain rfl := Option.some.inj (gRounds.symm.trans hg0)
    obtain rfl := Option.some.inj (tRounds.symm.trans ht0)
    rw [rounds_eq] at hd0
    obtain ⟨xs, m1, rfl, hx1, hlen, hn, hel⟩ := DataW.trod_array Tryd.underlying100 hd0
    rw [cells66] at hlen
    rw [cells29] at hel
    simp only [Prod.mk.injEq, DataW.agg.injEq] at hx1
    intro j hj
    have hxj : xs[j]? = some (xs[j]'(by omega)) := List.getElem?_eq_getElem (by omega)
    have e := hel j hj
    rw [hxj, Nat.mul_one, List.drop_eq_getElem_cons (by omega)] at e
    simp only [List.take_succ_cons, List.take_zero] at e
    obtain ⟨a, ea, e2, _⟩ := DataW.trod_int Tryd.underlying85 e
    simp only [List.cons.injEq, and_true] at ea
    have h1 := congrArg (fun l : List (DataW Unit) => l[j]?) hx1.1
    simp only [List.getElem?_map, hxj, Option.map_some] at h1
    have hk : kL[j]? = some (kk j) := by
      rw [kk, List.getD_eq_getElem?_getD, List.getElem?_eq_getElem (by rw [kL_len]; exact hj)]
      rfl
    rw [hk, e2] at h1
    simp only [Option.map_some, Option.some.injEq, DataW.lit.injEq, Lit.int.injEq, true_and] at h1
    have hc := World.var?_cell hg0 hv0 j
    rw [hc, ← Array.getElem?_toList, List.getElem?_eq_getElem (by omega), ea, h1]
  · obtain rfl := Option.some.inj (gTab64.symm.trans hg1)
    obtain rfl := Option.some.inj (tTab64.symm.trans ht1)
    rw [tab64_eq] at hd1
    obtain ⟨xs, m1, rfl, hx1, hlen, hn, hel⟩ := DataW.trod_array Tryd.underlying89 hd1
    rw [cellsTab64] at hlen
    rw [cells5] at hel
    simp only [Prod.mk.injEq, DataW.agg.injEq] at hx1
    intro j hj
    have hxj : xs[j]? = some (xs[j]'(by omega)) := List.getElem?_eq_getElem (by omega)
    have e := hel j hj
    rw [hxj, Nat.mul_one, List.drop_eq_getElem_cons (by omega)] at e
    simp only [List.take_succ_cons, List.take_zero] at e
    obtain ⟨a, ea, e2, _⟩ := DataW.trod_int Tryd.underlying5 e
    simp only [List.cons.injEq, and_true] at ea
    have h1 := congrArg (fun l : List (DataW Unit) => l[j]?) hx1.1
    simp only [List.getElem?_map, hxj, Option.map_some] at h1
    have hk : tab64[j]? = some (tab64.getD j 0) := by
      rw [List.getD_eq_getElem?_getD, List.getElem?_eq_getElem (by rw [tab64_len]; exact hj)]
      rfl
    rw [hk, e2] at h1
    simp only [Option.map_some, Option.some.injEq, DataW.lit.injEq, Lit.int.injEq, true_and] at h1
    have hc := World.var?_cell hg1 hv1 j
    rw [hc, ← Array.getElem?_toList, List.getElem?_eq_getElem (by omega), ea, h1]
end Go.Proofs.YthlaibkdcebekaaDoor
