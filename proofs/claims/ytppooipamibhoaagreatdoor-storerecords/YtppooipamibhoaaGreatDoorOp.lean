/- What the listed tables give StoreRecords; a place that comes in. -/
import Derived.Test.YtppooipamibhoaaGreatDoorV
import Derived.Deep.Strs
namespace Go.Proofs.YtppooipamibhoaaGreatDoor
open Go.ChangeShapes Go.WideShapes Go.ChangeAt Go.RowKit Go.Joins
set_option maxRecDepth 10000
abbrev laid4O : List (String × DataW Unit) := [("math/bits.deBruijn32tab", Rows.laid_math_bits_deBruijn32tab), ("math/bits.deBruijn64tab", Rows.laid_math_bits_deBruijn64tab), ("bedrock/sha.rounds", Rows.laid_bedrock_sha_rounds), ("internal/strconv.uint64pow10", Rows.laid_internal_strconv_uint64pow10)]
set_option maxRecDepth 100000 in
theorem door_met4O (os : Os) (args : Array Value) : laidMetH Tryz.prog laid4O ((World.doorLaid Tryz.prog 400 os).forCall (fun _ _ => 0) ⟨#[], args, []⟩).memory :=
  laidMetH_of_parts3 (fuel := 8) (laidMet_of_run' 8 (by kernel_rfl) (by kernel_rfl)) (by kernel_rfl) (by kernel_rfl)
theorem of_laid4O {W : World} (h : laidMetH Tryz.prog laid4O W) : Kg W := by
  rw [MakeChecks.laidMetH_plain _ _ _ (by kernel_rfl)] at h
  obtain ⟨ps, ⟨g2, t2, cs2, f2, p2, q2, hg2, ht2, hv2, hd2, ⟨g1, t1, cs1, f1, p1, q1, hg1, ht1, hv1, hd1, ⟨g0, t0, cs0, f0, p0, q0, hg0, ht0, hv0, hd0, _, _⟩, _⟩, _⟩, _, _⟩ := h
  obtain rfl := Option.some.inj (gRounds.symm.trans hg0)
  obtain rfl := Option.some.inj (tRounds.symm.trans ht0)
  rw [rounds_eq] at hd0
  obtain ⟨xs, m1, rfl, hx1, hlen, hn, hel⟩ := DataW.trod_array Tryz.underlying423 hd0
  rw [cells66] at hlen
  rw [cells29] at hel
  simp only [Prod.mk.injEq, DataW.agg.injEq] at hx1
  intro j hj
  have hxj : xs[j]? = some (xs[j]'(by omega)) := List.getElem?_eq_getElem (by omega)
  have e := hel j hj
  rw [hxj, Nat.mul_one, List.drop_eq_getElem_cons (by omega)] at e
  simp only [List.take_succ_cons, List.take_zero] at e
  obtain ⟨a, ea, e2, _⟩ := DataW.trod_int Tryz.underlying31 e
  simp only [List.cons.injEq, and_true] at ea
  have h1 := congrArg (fun l : List (DataW Unit) => l[j]?) hx1.1
  simp only [List.getElem?_map, hxj, Option.map_some] at h1
  have hk : kL[j]? = some (kk j) := by
    rw [kk, List.getD_eq_getElem?_getD, List.getElem?_eq_getElem (by rw [kL_len]; exact hj)]
    rfl
  rw [hk, e2] at h1
  simp only [Option.map_some, Option.some.injEq, DataW.lit.injEq, Lit.int.injEq, true_and] at h1
  have hc := World.var?_cell hg0 hv0 j
  rw [hc, ← Array.getElem?_toList, List.getElem?_eq_getElem (by omega), ea, h1]
theorem cellIO : Tryz.prog.cellsOf 3 = 1 := by kernel_rfl
theorem cellPO : Tryz.prog.cellsOf 105 = 3 := by kernel_rfl
section
variable {H : Type} {enc : TypeId × Value → H} {W : World} {base : Nat} {v : Value} {d : DataW H} {p : List MemPlace}
/-- A place that comes in. -/
theorem open_pos (hv : Value.okWide Tryz.prog W .any base 105 v) (h : DataW.Trod enc Tryz.prog W 0 (fun _ => true) true 105 v d p) : ∃ F A N : Int, v = .agg #[.int .i64 F, .int .i64 A, .int .i64 N] := by
  simp only [Value.okWide, Tryz.underlying105] at hv
  obtain ⟨cs, rfl, hsz, _⟩ := hv
  rw [cellPO] at hsz
  obtain ⟨fuel, hf⟩ := h
  have hc1 : (Value.agg cs).cells.toList = cs.toList := by simp [Value.cells]
  rw [hc1] at hf
  obtain ⟨l⟩ := cs
  match l, hsz with
  | [x0, x1, x2], _ =>
    obtain ⟨y0, y1, y2, n, e, _, h0, h1, h2⟩ := Go.Deep.trod_struct3 Tryz.underlying105 hf
    rw [cellIO] at h0 h1 h2
    obtain ⟨a, ea, rfl, _⟩ := DataW.trod_int Tryz.underlying3 h0
    obtain ⟨b, eb, rfl, _⟩ := DataW.trod_int Tryz.underlying3 h1
    obtain ⟨c, ec, rfl, _⟩ := DataW.trod_int Tryz.underlying3 h2
    obtain rfl := (List.cons.inj ea).1
    obtain rfl := (List.cons.inj eb).1
    obtain rfl := (List.cons.inj ec).1
    exact ⟨a, b, c, rfl⟩
end
end Go.Proofs.YtppooipamibhoaaGreatDoor
