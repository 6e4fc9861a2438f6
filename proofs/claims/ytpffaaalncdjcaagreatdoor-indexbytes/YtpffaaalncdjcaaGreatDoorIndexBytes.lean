/- The law bedrocklaw13.IndexBytes returns true for any entry and any text: no condition but that sha.rounds is as the program's text lays it (a tied card). -/
import Derived.Test.YtpffaaalncdjcaaGreatDoorRows
import Derived.Test.YtpffaaalncdjcaaGreatDoorCards
import Derived.Test.YtpffaaalncdjcaaGreatDoorTie
import Derived.Test.YtpffaaalncdjcaaGreatDoorIp
import Derived.Test.YtpffaaalncdjcaaGreatDoorN01
import Derived.Test.YtpffaaalncdjcaaGreatDoorN02
import Derived.Test.YtpffaaalncdjcaaGreatDoorN03
import Derived.Test.YtpffaaalncdjcaaGreatDoorN04
import Derived.Test.YtpffaaalncdjcaaGreatDoorN05
import Derived.Test.YtpffaaalncdjcaaGreatDoorN06
import Derived.Test.YtpffaaalncdjcaaGreatDoorN07
import Derived.Test.YtpffaaalncdjcaaGreatDoorN08
import Derived.Test.YtpffaaalncdjcaaGreatDoorN09
import Derived.Test.YtpffaaalncdjcaaGreatDoorN10
import Derived.Test.YtpffaaalncdjcaaGreatDoorN11
import Derived.Test.YtpffaaalncdjcaaGreatDoorN12
import Derived.Test.YtpffaaalncdjcaaGreatDoorN13
import Derived.Test.YtpffaaalncdjcaaGreatDoorN14
import Derived.Test.YtpffaaalncdjcaaGreatDoorN15
import Derived.Test.YtpffaaalncdjcaaGreatDoorN16
import Derived.Test.YtpffaaalncdjcaaGreatDoorN17
import Derived.Test.YtpffaaalncdjcaaGreatDoorN18
import Derived.Test.YtpffaaalncdjcaaGreatDoorN19
import Derived.Test.YtpffaaalncdjcaaGreatDoorN20
import Derived.Test.YtpffaaalncdjcaaGreatDoorN21
import Derived.Test.YtpffaaalncdjcaaGreatDoorN22
import Derived.Test.YtpffaaalncdjcaaGreatDoorN23
import Derived.Test.YtpffaaalncdjcaaGreatDoorN24
import Derived.Test.YtpffaaalncdjcaaGreatDoorN25
import Derived.Test.YtpffaaalncdjcaaGreatDoorN26
import Derived.Test.YtpffaaalncdjcaaGreatDoorN27
import Derived.Test.YtpffaaalncdjcaaGreatDoorN28
import Derived.Test.YtpffaaalncdjcaaGreatDoorN29
import Derived.Test.YtpffaaalncdjcaaGreatDoorN30
import Derived.Test.YtpffaaalncdjcaaGreatDoorN31
import Derived.Test.YtpffaaalncdjcaaGreatDoorN32
import Derived.Test.YtpffaaalncdjcaaGreatDoorN33
import Derived.Test.YtpffaaalncdjcaaGreatDoorN34
import Derived.Test.YtpffaaalncdjcaaGreatDoorN35
import Derived.Test.YtpffaaalncdjcaaGreatDoorN36
import Derived.Test.YtpffaaalncdjcaaGreatDoorN37
import Derived.Test.YtpffaaalncdjcaaGreatDoorN38
import Derived.Test.YtpffaaalncdjcaaGreatDoorN39
import Derived.Test.YtpffaaalncdjcaaGreatDoorN40
namespace Go.Proofs.YtpffaaalncdjcaaGreatDoor.indexBytes
open Go.ChangeShapes Go.WideShapes Go.ChangeAt Go.RowKit Go.Joins Go.Deep
open Go.ChangeMaps (open_string shut_string)
set_option linter.unusedVariables false
set_option maxRecDepth 100000 in
theorem lifted (os : Os) (started : os.Started) (H : Type) (enc : TypeId × Value → H) :
    ReturnsInHanded {} Tryz.checked os 3 .any (fun w args => (Rows.indexBytesSpec.pre enc Tryz.prog Tryz.f3 [] false w args ∧ laidMetH Tryz.prog laid1 w) ∧ sizedMet enc Tryz.prog Tryz.f3 (OpenSpec.ofChange Rows.indexBytesSpec) false w args)
      (Rows.indexBytesSpec.post enc Tryz.prog Tryz.f3 false true false false) := by
  refine returnsInHanded_of_change_and (C := Tryz.checked) (X := fun w _ => laidMetH Tryz.prog laid1 w) (fun _ _ _ hh h => h.of_heap hh) own started (by kernel_rfl) Tryz.func3
    (ChangeSpec.witness_shaped (enc := enc) (C := Tryz.checked) (os := os) (X := fun w _ => laidMetH Tryz.prog laid1 w) false (World.doorLaid Tryz.prog 400 os) #[.agg zEn.cells.toArray, .string ByteArray.empty] 8 rfl (World.shaped_of_RefB (by kernel_rfl) (by kernel_rfl)) (by kernel_rfl) (by kernel_rfl) (by kernel_rfl) (door_met os _)) ?_
  intro W base args ds gs before hval0 hW _ hsz0 hL _
  have hsz : (DataW.weightsEach Tryz.prog (Tryz.f3.params.toList ++ Rows.indexBytesSpec.plain.varTypes Tryz.prog) (ds ++ gs)).all (· ≤ reachBytes) = true := hsz0
  have hval : ∀ (j : Nat) t v, Tryz.f3.params[j]? = some t → args[j]? = some v → Value.okWide Tryz.prog W .any base t v := hval0
  have hW' := hW
  obtain ⟨p, q, hA0, hV, rfl, hfz, hnd⟩ := hW
  have hA : DataW.TrodAll enc Tryz.prog W 0 (fun _ => true) true Tryz.f3.params.toList args.toList ds p := hA0
  rw [Tryz.params3] at hA hval hsz
  obtain ⟨v0, vs0, d0, ds0, p0, q0, hargs, rfl, rfl, h0, r0⟩ := trodAll_cons hA
  obtain ⟨v1, vs1, d1, ds1, p1, q1, rfl, rfl, rfl, h1, r1⟩ := trodAll_cons r0
  obtain ⟨rfl, rfl, rfl⟩ := trodAll_nil r1
  obtain rfl : args = #[v0, v1] := by rw [← Array.toList_inj]; exact hargs
  obtain ⟨rfl, rfl⟩ := trodVars_none hV
  have lt0 : ∀ x ∈ p0, x.block < W.heap.size := by obtain ⟨m, hm⟩ := h0; exact DataW.trod_lt m _ _ _ hm
  obtain ⟨a0, rfl⟩ := open_entry (hval 0 28 v0 rfl rfl) h0
  obtain ⟨a1, rfl, rfl, rfl, w1⟩ := open_string Tryz.underlying9 (hval 1 9 v1 rfl rfl) h1
  have z1 : a1.size ≤ 140737488351232 := by
    have := sized_string hsz (j := 1) (t := 9) (bytes := a1.data.toList) rfl rfl
    simpa [reachBytes] using this
  have hK := of_laid hL
  clear hA0 hval0 hsz0
  refine (indexBytes_walk W hK a0 a1 (by omega)).mono fun e W' ⟨he, bel⟩ => ?_
  subst he
  exact ⟨_, rfl, _, _, _, [], _, [], hW', trodAll_mk1 (shut_bool Tryz.underlying4 _), (trodAll_cons_mk (Below.trod laidOut (by kernel_rfl) (of_decide_eq_true (by kernel_rfl)) h0 bel lt0) (trodAll_cons_mk (shut_string Tryz.underlying9 w1) trodAll_mk0)), rfl, bel.frame _, fun h => by cases h⟩
theorem over : Rows.IndexBytesSaid :=
  OpenClaim.holds_of_wide 3 Tryz.f3 rfl rfl rfl rfl rfl rfl rfl ⟨rfl, rfl, rfl, rfl, rfl⟩ rfl rfl rfl rfl rfl (by kernel_rfl) Tryz.func3 (by kernel_rfl)
    (of_decide_eq_true (by kernel_rfl)) (by unfold Func.isWrapper; first | (rw [if_pos (by decide +kernel)]; kernel_rfl) | (rw [if_neg (by decide +kernel)]; exact ⟨rfl, rfl⟩))
    (fun os started H enc _ => lifted os started H enc)
end Go.Proofs.YtpffaaalncdjcaaGreatDoor.indexBytes
namespace Go.Proofs.YtpffaaalncdjcaaGreatDoor
open Go
theorem indexBytes_holds : Rows.IndexBytesCardSaid :=
  Claim7.holds_tied_plain_at .later [] [.data] true Rows.indexBytesCard.stood.harness false
    indexBytes.over (fun _ h => by cases h) (by kernel_rfl) (fun _ h => by cases h) indexBytes_row_tie rfl ⟨rfl, rfl⟩ (by kernel_rfl) rfl
    (fun f fn hf hfn => by
      obtain rfl : f = 3 := Option.some.inj ((show Tryz.prog.funcNamed "bedrock/bedrocklaw13.IndexBytes" = some 3 by kernel_rfl).symm.trans hf) |>.symm
      obtain rfl : fn = Tryz.f3 := (Option.some.inj (Tryz.func3.symm.trans hfn)).symm
      exact ⟨by kernel_rfl, fun j t ht => by
        rw [Tryz.params3] at ht
        have hm : t ∈ [28, 9] := by simpa using Array.mem_of_getElem? ht
        have hall : ([28, 9].all fun u => !Tryz.prog.wantsStandIn u) = true := by kernel_rfl
        exact (show Tryz.prog.wantsStandIn t = false by simpa using List.all_eq_true.1 hall t hm)⟩)
    (by kernel_rfl)
end Go.Proofs.YtpffaaalncdjcaaGreatDoor
