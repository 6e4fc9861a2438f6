/- The law bedrocklaw03.SipDigests returns true for every keys, every text, every four words and every number of parts: no condition. -/
import Derived.Test.YtpjpnkohagcegaaRows
import Derived.Test.YtpjpnkohagcegaaYi
import Derived.Test.YtpjpnkohagcegaaYv
namespace Go.Proofs.Ytpjpnkohagcegaa.sipDigests
open Go.ChangeShapes Go.WideShapes Go.ChangeAt Go.RowKit Go.Joins
open Go.ChangeMaps (open_string shut_string)
set_option linter.unusedVariables false
theorem own : ownKnob Try.prog.godebug = none := by kernel_rfl
theorem laidOut : laidOutB Try.prog = true := by kernel_rfl
theorem cellD : Try.prog.cellsOf 27 = 8 := by kernel_rfl
/-- The input that comes in. -/
theorem open_digest {H : Type} {enc : TypeId × Value → H} {W : World} {base : Nat} {v : Value} {d : DataW H} {p : List MemPlace} (hv : Value.okWide Try.prog W .any base 27 v) (h : DataW.Trod enc Try.prog W 0 (fun _ => true) true 27 v d p)
    (hsz : (DataW.weightsEach Try.prog [27] [d]).all (· ≤ reachBytes) = true) : ∃ (k0 k1 : UInt64) (s : ByteArray) (q : Q4) (n : Int), v = .agg (dA k0 k1 s q n) ∧ s.size ≤ 140737488351232 := by
  simp only [Value.okWide, Try.underlying27] at hv
  obtain ⟨cs, rfl, hcs, _⟩ := hv
  rw [cellD] at hcs
  obtain ⟨fuel, hf⟩ := h
  have hc1 : (Value.agg cs).cells.toList = cs.toList := by simp [Value.cells]
  rw [hc1] at hf
  obtain ⟨l⟩ := cs
  match l, hcs with
  | [x0, x1, x2, x3, x4, x5, x6, x7], _ =>
    obtain ⟨y0, y1, y2, y3, n, hy, _, h0, h1, h2, h3⟩ := trod_struct4 Try.underlying27 hf
    rw [cellK] at h0
    rw [cellT] at h1
    rw [cellQ] at h2
    rw [cellI] at h3
    obtain ⟨k0, k1, rfl, rfl⟩ := trod_keys h0
    obtain ⟨s, hs, hy1, hm⟩ := DataW.trod_string Try.underlying9 h1
    obtain ⟨q, rfl, rfl, rfl, rfl⟩ := trod_words h2
    obtain ⟨m, hm2, _, _⟩ := DataW.trod_int Try.underlying3 h3
    have hs' : x2 = .string s := by simpa using hs
    have hm' : x7 = .int .i64 m := by simpa using hm2
    subst hs' hm'
    refine ⟨k0, k1, s, q, m, rfl, ?_⟩
    simp only [Prod.mk.injEq] at hy
    rw [hy.1, hy1] at hsz
    simp only [DataW.weightsEach, DataW.weights, Try.underlying27, List.map_cons, List.append_nil, List.all_append, Bool.and_eq_true] at hsz
    have := hsz.2.1
    have h2 : s.data.toList.length ≤ reachBytes := of_decide_eq_true (List.all_eq_true.1 this s.data.toList.length (List.mem_singleton.2 rfl))
    have h3 : s.data.toList.length = s.size := by simp
    have h4 : reachBytes = 140737488351232 := rfl
    omega
set_option maxRecDepth 100000 in
theorem lifted (os : Os) (started : os.Started) (H : Type) (enc : TypeId × Value → H) :
    ReturnsInHanded {} Try.checked os 3 .any (Rows.sipDigestsSpec.pre6 enc Try.prog Try.f3 Rows.sipDigestsRow.domain false) (Rows.sipDigestsSpec.post enc Try.prog Try.f3 false true false false) := by
  refine returnsInHanded_of_change_sized (C := Try.checked) own started (by kernel_rfl) Try.func3
    (ChangeSpec.witness6 (enc := enc) (C := Try.checked) false ⟨#[], #[.agg (dA 0 0 ByteArray.empty qz 0)], []⟩ 8 (by kernel_rfl) (by kernel_rfl) (by kernel_rfl) (by kernel_rfl)) ?_
  intro W base args ds gs before hval0 hW hcnd hsz0 _
  have hsz : (DataW.weightsEach Try.prog (Try.f3.params.toList ++ Rows.sipDigestsSpec.plain.varTypes Try.prog) (ds ++ gs)).all (· ≤ reachBytes) = true := hsz0
  have hval : ∀ (j : Nat) t v, Try.f3.params[j]? = some t → args[j]? = some v → Value.okWide Try.prog W .any base t v := hval0
  have hW' := hW
  obtain ⟨p, q, hA0, hV, rfl, hfz, hnd⟩ := hW
  have hA : DataW.TrodAll enc Try.prog W 0 (fun _ => true) true Try.f3.params.toList args.toList ds p := hA0
  rw [Try.params3] at hA hval hsz
  obtain ⟨v0, vs0, d0, ds0, p0, q0, hargs, rfl, rfl, h0, r0⟩ := trodAll_cons hA
  obtain ⟨rfl, rfl, rfl⟩ := trodAll_nil r0
  obtain rfl : args = #[v0] := by cases args; simp_all
  obtain ⟨rfl, rfl⟩ := trodVars_none hV
  have lt0 : ∀ x ∈ p0, x.block < W.heap.size := by obtain ⟨m, hm⟩ := h0; exact DataW.trod_lt m _ _ _ hm
  obtain ⟨k0, k1, s, q4, n, rfl, hs⟩ := open_digest (hval 0 27 v0 rfl rfl) h0 hsz
  clear hA0 hval0
  refine (sipDigests_walk k0 k1 s (by omega) q4 n W).mono fun e W' ⟨he, bel⟩ => ?_
  subst he
  exact ⟨_, rfl, _, _, _, [], _, [], hW', trodAll_mk1 (shut_bool Try.underlying4 _), (trodAll_cons_mk (Below.trod laidOut (by kernel_rfl) (of_decide_eq_true (by kernel_rfl)) h0 bel lt0) trodAll_mk0), rfl, bel.frame _, fun h => by cases h⟩
theorem over : Rows.sipDigestsRow.holds Try.pinned (OpenSpec.ofChange Rows.sipDigestsSpec) :=
  OpenClaim.holds_of_wide 3 Try.f3 rfl rfl rfl rfl rfl rfl rfl ⟨rfl, rfl, rfl, rfl, rfl⟩ rfl rfl rfl rfl rfl (by kernel_rfl) Try.func3 (by kernel_rfl)
    (of_decide_eq_true (by kernel_rfl)) (by unfold Func.isWrapper; first | (rw [if_pos (by decide +kernel)]; kernel_rfl) | (rw [if_neg (by decide +kernel)]; exact ⟨rfl, rfl⟩))
    (fun os started H enc _ => lifted os started H enc)
end Go.Proofs.Ytpjpnkohagcegaa.sipDigests
namespace Go.Proofs.Ytpjpnkohagcegaa
theorem sipDigests_holds : Rows.SipDigestsSaid := sipDigests.over
end Go.Proofs.Ytpjpnkohagcegaa
