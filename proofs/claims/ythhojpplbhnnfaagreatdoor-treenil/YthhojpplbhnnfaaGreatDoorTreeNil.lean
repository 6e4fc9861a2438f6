/- The law bedrocklaw14.TreeNil returns true for every header, id and number: no condition on the input. (The card ties sha.rounds to its initialiser.) -/
import Derived.Test.YthhojpplbhnnfaaGreatDoorRows
import Derived.Test.YthhojpplbhnnfaaGreatDoorCards
import Derived.Test.YthhojpplbhnnfaaGreatDoorTie
import Derived.Test.YthhojpplbhnnfaaGreatDoorX01
import Derived.Test.YthhojpplbhnnfaaGreatDoorX02
import Derived.Test.YthhojpplbhnnfaaGreatDoorX03
import Derived.Test.YthhojpplbhnnfaaGreatDoorX04
import Derived.Test.YthhojpplbhnnfaaGreatDoorX05
import Derived.Test.YthhojpplbhnnfaaGreatDoorX06
import Derived.Test.YthhojpplbhnnfaaGreatDoorX07
import Derived.Test.YthhojpplbhnnfaaGreatDoorX08
import Derived.Test.YthhojpplbhnnfaaGreatDoorX09
import Derived.Test.YthhojpplbhnnfaaGreatDoorX10
import Derived.Test.YthhojpplbhnnfaaGreatDoorX11
import Derived.Test.YthhojpplbhnnfaaGreatDoorX12
import Derived.Test.YthhojpplbhnnfaaGreatDoorX13
import Derived.Test.YthhojpplbhnnfaaGreatDoorX14
import Derived.Test.YthhojpplbhnnfaaGreatDoorX15
import Derived.Test.YthhojpplbhnnfaaGreatDoorX16
import Derived.Test.YthhojpplbhnnfaaGreatDoorX17
import Derived.Test.YthhojpplbhnnfaaGreatDoorX18
import Derived.Test.YthhojpplbhnnfaaGreatDoorX19
import Derived.Test.YthhojpplbhnnfaaGreatDoorX20
import Derived.Test.YthhojpplbhnnfaaGreatDoorX21
import Derived.Test.YthhojpplbhnnfaaGreatDoorX22
import Derived.Test.YthhojpplbhnnfaaGreatDoorX23
import Derived.Test.YthhojpplbhnnfaaGreatDoorX24
import Derived.Test.YthhojpplbhnnfaaGreatDoorX25
import Derived.Test.YthhojpplbhnnfaaGreatDoorX26
import Derived.Test.YthhojpplbhnnfaaGreatDoorX27
import Derived.Test.YthhojpplbhnnfaaGreatDoorX28
import Derived.Test.YthhojpplbhnnfaaGreatDoorX29
import Derived.Test.YthhojpplbhnnfaaGreatDoorX30
import Derived.Test.YthhojpplbhnnfaaGreatDoorX31
import Derived.Test.YthhojpplbhnnfaaGreatDoorX32
import Derived.Test.YthhojpplbhnnfaaGreatDoorX33
import Derived.Test.YthhojpplbhnnfaaGreatDoorX34
import Derived.Test.YthhojpplbhnnfaaGreatDoorX35
import Derived.Test.YthhojpplbhnnfaaGreatDoorX36
import Derived.Test.YthhojpplbhnnfaaGreatDoorX37
import Derived.Test.YthhojpplbhnnfaaGreatDoorX38
import Derived.Test.YthhojpplbhnnfaaGreatDoorX39
import Derived.Test.YthhojpplbhnnfaaGreatDoorX40
import Derived.Test.YthhojpplbhnnfaaGreatDoorX41
import Derived.Test.YthhojpplbhnnfaaGreatDoorX42
import Derived.Test.YthhojpplbhnnfaaGreatDoorX43
import Derived.Test.YthhojpplbhnnfaaGreatDoorX44
import Derived.Test.YthhojpplbhnnfaaGreatDoorY01
import Derived.Test.YthhojpplbhnnfaaGreatDoorY02
import Derived.Test.YthhojpplbhnnfaaGreatDoorY03
import Derived.Test.YthhojpplbhnnfaaGreatDoorY04
import Derived.Test.YthhojpplbhnnfaaGreatDoorY05
import Derived.Test.YthhojpplbhnnfaaGreatDoorY06
import Derived.Test.YthhojpplbhnnfaaGreatDoorY07
namespace Go.Proofs.YthhojpplbhnnfaaGreatDoor.treeNil
open Go.ChangeShapes Go.WideShapes Go.ChangeAt Go.RowKit Go.Joins Go.Deep
open Go.ChangeMaps (open_string shut_string)
set_option linter.unusedVariables false
theorem c46 : Tryz.prog.cellsOf 46 = 32 := by kernel_rfl
set_option maxRecDepth 100000 in
theorem lifted (os : Os) (started : os.Started) (H : Type) (enc : TypeId × Value → H) :
    ReturnsInHanded {} Tryz.checked os 5 .any (fun w args => (Rows.treeNilSpec.pre enc Tryz.prog Tryz.f5 [] false w args ∧ laidMetH Tryz.prog laid1 w) ∧ sizedMet enc Tryz.prog Tryz.f5 (OpenSpec.ofChange Rows.treeNilSpec) false w args)
      (Rows.treeNilSpec.post enc Tryz.prog Tryz.f5 false true false false) := by
  refine returnsInHanded_of_change_and (C := Tryz.checked) (X := fun w _ => laidMetH Tryz.prog laid1 w) (fun _ _ _ hh h => h.of_heap hh) own started (by kernel_rfl) Tryz.func5
    (ChangeSpec.witness_shaped (enc := enc) (C := Tryz.checked) (os := os) (X := fun w _ => laidMetH Tryz.prog laid1 w) false (World.doorLaid Tryz.prog 400 os) #[.agg zHd.cells.toArray, .agg (hc zeros), .int .i64 0] 8 rfl (World.shaped_of_RefB (by kernel_rfl) (by kernel_rfl)) (by kernel_rfl) (by kernel_rfl) (by kernel_rfl) (door_met os _)) ?_
  intro W base args ds gs before hval0 hW _ hsz0 hL _
  have hsz : (DataW.weightsEach Tryz.prog (Tryz.f5.params.toList ++ Rows.treeNilSpec.plain.varTypes Tryz.prog) (ds ++ gs)).all (· ≤ reachBytes) = true := hsz0
  have hval : ∀ (j : Nat) t v, Tryz.f5.params[j]? = some t → args[j]? = some v → Value.okWide Tryz.prog W .any base t v := hval0
  have hW' := hW
  obtain ⟨p, q, hA0, hV, rfl, hfz, hnd⟩ := hW
  have hA : DataW.TrodAll enc Tryz.prog W 0 (fun _ => true) true Tryz.f5.params.toList args.toList ds p := hA0
  rw [Tryz.params5] at hA hval hsz
  obtain ⟨v0, vs0, d0, ds0, p0, q0, hargs, rfl, rfl, h0, r0⟩ := trodAll_cons hA
  obtain ⟨v1, vs1, d1, ds1, p1, q1, rfl, rfl, rfl, h1, r1⟩ := trodAll_cons r0
  obtain ⟨v2, vs2, d2, ds2, p2, q2, rfl, rfl, rfl, h2, r2⟩ := trodAll_cons r1
  obtain ⟨rfl, rfl, rfl⟩ := trodAll_nil r2
  obtain rfl : args = #[v0, v1, v2] := by rw [← Array.toList_inj]; exact hargs
  obtain ⟨rfl, rfl⟩ := trodVars_none hV
  have lt0 : ∀ x ∈ p0, x.block < W.heap.size := by obtain ⟨m, hm⟩ := h0; exact DataW.trod_lt m _ _ _ hm
  obtain ⟨a0, rfl⟩ := open_head (hval 0 48 v0 rfl rfl) h0
  obtain ⟨a1, l1, rfl⟩ := open_bytes Tryz.underlying46 c46 (hval 1 46 v1 rfl rfl) h1
  have lt1 : ∀ x ∈ p1, x.block < W.heap.size := by obtain ⟨m, hm⟩ := h1; exact DataW.trod_lt m _ _ _ hm
  obtain ⟨a2, rfl, rfl, rfl, w2⟩ := open_int Tryz.underlying3 (hval 2 3 v2 rfl rfl) h2
  have hK := of_laid hL
  clear hA0 hval0 hsz0
  refine (treeNil_walk W hK a0 a1 l1 a2).mono fun e W' ⟨he, bel⟩ => ?_
  subst he
  exact ⟨_, rfl, _, _, _, [], _, [], hW', trodAll_mk1 (shut_bool Tryz.underlying4 _), (trodAll_cons_mk (Below.trod laidOut (by kernel_rfl) (of_decide_eq_true (by kernel_rfl)) h0 bel lt0) (trodAll_cons_mk (Below.trod laidOut (by kernel_rfl) (of_decide_eq_true (by kernel_rfl)) h1 bel lt1) (trodAll_cons_mk (shut_int Tryz.underlying3 w2) trodAll_mk0))), rfl, bel.frame _, fun h => by cases h⟩
theorem over : Rows.TreeNilSaid :=
  OpenClaim.holds_of_wide 5 Tryz.f5 rfl rfl rfl rfl rfl rfl rfl ⟨rfl, rfl, rfl, rfl, rfl⟩ rfl rfl rfl rfl rfl (by kernel_rfl) Tryz.func5 (by kernel_rfl)
    (of_decide_eq_true (by kernel_rfl)) (by unfold Func.isWrapper; first | (rw [if_pos (by decide +kernel)]; kernel_rfl) | (rw [if_neg (by decide +kernel)]; exact ⟨rfl, rfl⟩))
    (fun os started H enc _ => lifted os started H enc)
end Go.Proofs.YthhojpplbhnnfaaGreatDoor.treeNil
namespace Go.Proofs.YthhojpplbhnnfaaGreatDoor
open Go
theorem treeNil_holds : Rows.TreeNilCardSaid :=
  Claim7.holds_tied_plain_at .later [] [.data] true Rows.treeNilCard.stood.harness true
    treeNil.over (fun _ h => by cases h) (by kernel_rfl) (fun _ h => by cases h) treeNil_row_tie rfl ⟨rfl, rfl⟩ (by kernel_rfl) rfl
    (fun f fn hf hfn => by
      obtain rfl : f = 5 := Option.some.inj ((show Tryz.prog.funcNamed "bedrock/bedrocklaw14.TreeNil" = some 5 by kernel_rfl).symm.trans hf) |>.symm
      obtain rfl : fn = Tryz.f5 := (Option.some.inj (Tryz.func5.symm.trans hfn)).symm
      exact ⟨by kernel_rfl, fun j t ht => by
        rw [Tryz.params5] at ht
        have hm : t ∈ [48, 46, 3] := by simpa using Array.mem_of_getElem? ht
        have hall : ([48, 46, 3].all fun u => !Tryz.prog.wantsStandIn u) = true := by kernel_rfl
        exact (show Tryz.prog.wantsStandIn t = false by simpa using List.all_eq_true.1 hall t hm)⟩)
    (by kernel_rfl)
end Go.Proofs.YthhojpplbhnnfaaGreatDoor
