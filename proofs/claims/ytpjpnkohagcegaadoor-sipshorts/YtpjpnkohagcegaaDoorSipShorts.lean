/- The law bedrocklaw03.SipShorts returns true for every header, nonce, id, text and place: no condition but the table of rounds, which the card ties to the program's text. -/
import Derived.Test.YtpjpnkohagcegaaDoorRows
import Derived.Test.YtpjpnkohagcegaaDoorCards
import Derived.Test.YtpjpnkohagcegaaDoorTie
import Derived.Test.YtpjpnkohagcegaaDoorYr
import Derived.Test.YtpjpnkohagcegaaDoorV
namespace Go.Proofs.YtpjpnkohagcegaaDoor.sipShorts
open Go.ChangeShapes Go.WideShapes Go.ChangeAt Go.RowKit Go.Joins
open Go.ChangeMaps (open_string shut_string)
set_option linter.unusedVariables false
theorem cellS : Tryd.prog.cellsOf 26 = 36 := by kernel_rfl
theorem cellT : Tryd.prog.cellsOf 9 = 1 := by kernel_rfl
theorem cellU : Tryd.prog.cellsOf 22 = 1 := by kernel_rfl
theorem cellI : Tryd.prog.cellsOf 3 = 1 := by kernel_rfl
theorem cellB : Tryd.prog.cellsOf 5 = 1 := by kernel_rfl
theorem cellH : Tryd.prog.cellsOf 24 = 32 := by kernel_rfl
/-- Cells that read as an id are those of 32 bytes. -/
theorem hash_cells {H : Type} {enc : TypeId × Value → H} {W : World} {base : Nat} {sp : Nat → Bool} {held : Bool} {fuel : Nat} {cs : List Value} {x : DataW H × List MemPlace} (h : DataW.trod enc Tryd.prog W base sp held fuel 24 cs = some x) : cs = cellsL (cs.map byteOf) ∧ cs.length = 32 := by
  obtain ⟨xs, m, _, _, hlen, hxl, each⟩ := DataW.trod_array Tryd.underlying24 h
  rw [cellH] at hlen
  refine ⟨?_, hlen⟩
  apply List.ext_getElem
  · simp [cellsL]
  · intro i h1 h2
    have e := each i (by omega)
    rw [cellB, Nat.mul_one, List.drop_eq_getElem_cons h1, List.getElem?_eq_getElem (by omega)] at e
    simp only [List.take_succ_cons, List.take_zero] at e
    obtain ⟨a, ea, _, wa⟩ := DataW.trod_int Tryd.underlying5 e
    have hab : 0 ≤ a ∧ a ≤ 255 := by simpa [Lit.wf, IntKind.min, IntKind.max, IntKind.signed, IntKind.bits] using wa
    have ei : cs[i] = Value.int .u8 a := by simpa using ea
    simp only [cellsL, List.getElem_map]
    rw [ei]
    simp only [byteOf]
    rw [UInt8.toNat_ofNat']
    exact congrArg (Value.int .u8) (by omega)
theorem cut5 (l : List Value) (h : l.length = 36) : l = (l.drop 0).take 1 ++ (l.drop 1).take 1 ++ (l.drop 2).take 32 ++ ((l.drop 34).take 1 ++ (l.drop 35).take 1) := by
  have e4 : (l.drop 34).take 1 ++ (l.drop 35).take 1 = l.drop 34 := by
    have : (l.drop 35).take 1 = l.drop 35 := List.take_of_length_le (by rw [List.length_drop]; omega)
    rw [this, show l.drop 35 = (l.drop 34).drop 1 by rw [List.drop_drop], List.take_append_drop]
  have e3 : (l.drop 2).take 32 ++ l.drop 34 = l.drop 2 := by
    rw [show l.drop 34 = (l.drop 2).drop 32 by rw [List.drop_drop], List.take_append_drop]
  have e2 : (l.drop 1).take 1 ++ l.drop 2 = l.drop 1 := by
    rw [show l.drop 2 = (l.drop 1).drop 1 by rw [List.drop_drop], List.take_append_drop]
  rw [e4, List.append_assoc, e3, List.append_assoc, e2, List.drop_zero, List.take_append_drop]
/-- The input that comes in. -/
theorem open_shorts {H : Type} {enc : TypeId × Value → H} {W : World} {base : Nat} {v : Value} {d : DataW H} {p : List MemPlace} (hv : Value.okWide Tryd.prog W .any base 26 v) (h : DataW.Trod enc Tryd.prog W 0 (fun _ => true) true 26 v d p) :
    ∃ (hd : ByteArray) (n : Nat) (l : List UInt8) (s : ByteArray) (q : Int), v = .agg (sSA hd n l s q) ∧ l.length = 32 ∧ U64 n ∧ s.size ≤ 9223372036854775807 := by
  simp only [Value.okWide, Tryd.underlying26] at hv
  obtain ⟨cs, rfl, hcs, _⟩ := hv
  rw [cellS] at hcs
  obtain ⟨fuel, hf⟩ := h
  have hc1 : (Value.agg cs).cells.toList = cs.toList := by simp [Value.cells]
  rw [hc1] at hf
  obtain ⟨xs, m, _, _, _, hxl, each⟩ := DataW.trod_struct Tryd.underlying26 hf
  have hxl' : xs.length = 5 := hxl
  have h0 : DataW.trod enc Tryd.prog W 0 (fun _ => true) true m 9 ((cs.toList.drop 0).take (Tryd.prog.cellsOf 9)) = xs[0]? := each 0 _ rfl
  have h1 : DataW.trod enc Tryd.prog W 0 (fun _ => true) true m 22 ((cs.toList.drop 1).take (Tryd.prog.cellsOf 22)) = xs[1]? := each 1 _ rfl
  have h2 : DataW.trod enc Tryd.prog W 0 (fun _ => true) true m 24 ((cs.toList.drop 2).take (Tryd.prog.cellsOf 24)) = xs[2]? := each 2 _ rfl
  have h3 : DataW.trod enc Tryd.prog W 0 (fun _ => true) true m 9 ((cs.toList.drop 34).take (Tryd.prog.cellsOf 9)) = xs[3]? := each 3 _ rfl
  have h4 : DataW.trod enc Tryd.prog W 0 (fun _ => true) true m 3 ((cs.toList.drop 35).take (Tryd.prog.cellsOf 3)) = xs[4]? := each 4 _ rfl
  rw [List.getElem?_eq_getElem (by omega)] at h0 h1 h2 h3 h4
  rw [cellT] at h0 h3
  rw [cellU] at h1
  rw [cellH] at h2
  rw [cellI] at h4
  obtain ⟨hd, e0, _, _⟩ := DataW.trod_string Tryd.underlying9 h0
  obtain ⟨n, e1, _, wn⟩ := DataW.trod_int Tryd.underlying22 h1
  obtain ⟨e2, l32⟩ := hash_cells h2
  obtain ⟨s, e3, _, ws⟩ := DataW.trod_string Tryd.underlying9 h3
  obtain ⟨q, e4, _, _⟩ := DataW.trod_int Tryd.underlying3 h4
  have hb : 0 ≤ n ∧ n ≤ 18446744073709551615 := by simpa [Lit.wf, IntKind.min, IntKind.max, IntKind.signed, IntKind.bits] using wn
  obtain ⟨k, rfl⟩ := Int.eq_ofNat_of_zero_le hb.1
  refine ⟨hd, k, ((cs.toList.drop 2).take 32).map byteOf, s, q, ?_, by simpa using l32, by unfold U64; omega, by unfold maxLen at ws; omega⟩
  have hcut := cut5 cs.toList (by simpa using hcs)
  congr 1
  apply Array.ext'
  rw [sSA]
  refine hcut.trans ?_
  rw [e0, e1, e3, e4]
  rw [← e2]
  rfl
set_option maxRecDepth 100000 in
theorem lifted (os : Os) (started : os.Started) (H : Type) (enc : TypeId × Value → H) :
    ReturnsInHanded {} Tryd.checked os 3 .any (fun w args => (Rows.sipShortsSpec.pre enc Tryd.prog Tryd.f3 [] false w args ∧ laidMetH Tryd.prog laid1 w) ∧ sizedMet enc Tryd.prog Tryd.f3 (OpenSpec.ofChange Rows.sipShortsSpec) false w args)
      (Rows.sipShortsSpec.post enc Tryd.prog Tryd.f3 false true false false) := by
  refine returnsInHanded_of_change_and (C := Tryd.checked) (X := fun w _ => laidMetH Tryd.prog laid1 w) (fun _ _ _ hh h => h.of_heap hh) own started (by kernel_rfl) Tryd.func3
    (ChangeSpec.witness_shaped (enc := enc) (C := Tryd.checked) (os := os) (X := fun w _ => laidMetH Tryd.prog laid1 w) false (World.doorLaid Tryd.prog 400 os) #[.agg (sSA ByteArray.empty 0 zeros ByteArray.empty 0)] 8 rfl (World.shaped_of_RefB (by kernel_rfl) (by kernel_rfl)) (by kernel_rfl) (by kernel_rfl) (by kernel_rfl) (door_met os _)) ?_
  intro W base args ds gs before hval0 hW _ hsz0 hL _
  have hval : ∀ (j : Nat) t v, Tryd.f3.params[j]? = some t → args[j]? = some v → Value.okWide Tryd.prog W .any base t v := hval0
  have hW' := hW
  obtain ⟨p, q, hA0, hV, rfl, hfz, hnd⟩ := hW
  have hA : DataW.TrodAll enc Tryd.prog W 0 (fun _ => true) true Tryd.f3.params.toList args.toList ds p := hA0
  rw [Tryd.params3] at hA hval
  obtain ⟨v0, vs0, d0, ds0, p0, q0, hargs, rfl, rfl, h0, r0⟩ := trodAll_cons hA
  obtain ⟨rfl, rfl, rfl⟩ := trodAll_nil r0
  obtain rfl : args = #[v0] := by cases args; simp_all
  obtain ⟨rfl, rfl⟩ := trodVars_none hV
  have lt0 : ∀ x ∈ p0, x.block < W.heap.size := by obtain ⟨m, hm⟩ := h0; exact DataW.trod_lt m _ _ _ hm
  obtain ⟨hd, n, l, s, q, rfl, hl, hn, hs⟩ := open_shorts (hval 0 26 v0 rfl rfl) h0
  have hK := of_laid hL
  clear hA0 hval0 hsz0
  refine (sipShorts_walk hd n l s q hl hn hs W hK).mono fun e W' ⟨he, bel⟩ => ?_
  subst he
  exact ⟨_, rfl, _, _, _, [], _, [], hW', trodAll_mk1 (shut_bool Tryd.underlying4 _), (trodAll_cons_mk (Below.trod laidOut (by kernel_rfl) (of_decide_eq_true (by kernel_rfl)) h0 bel lt0) trodAll_mk0), rfl, bel.frame _, fun h => by cases h⟩
theorem over : Rows.SipShortsSaid :=
  OpenClaim.holds_of_wide 3 Tryd.f3 rfl rfl rfl rfl rfl rfl rfl ⟨rfl, rfl, rfl, rfl, rfl⟩ rfl rfl rfl rfl rfl (by kernel_rfl) Tryd.func3 (by kernel_rfl)
    (of_decide_eq_true (by kernel_rfl)) (by unfold Func.isWrapper; first | (rw [if_pos (by decide +kernel)]; kernel_rfl) | (rw [if_neg (by decide +kernel)]; exact ⟨rfl, rfl⟩))
    (fun os started H enc _ => lifted os started H enc)
end Go.Proofs.YtpjpnkohagcegaaDoor.sipShorts
namespace Go.Proofs.YtpjpnkohagcegaaDoor
open Go
theorem sipShorts_holds : Rows.SipShortsCardSaid :=
  Claim7.holds_tied_plain_at .later [] [.data] true Rows.sipShortsCard.stood.harness false
    sipShorts.over (fun _ h => by cases h) (by kernel_rfl) (fun _ h => by cases h) sipShorts_row_tie rfl ⟨rfl, rfl⟩ (by kernel_rfl) rfl
    (fun f fn hf hfn => by
      obtain rfl : f = 3 := Option.some.inj ((show Tryd.prog.funcNamed "bedrock/bedrocklaw03.SipShorts" = some 3 by kernel_rfl).symm.trans hf) |>.symm
      obtain rfl : fn = Tryd.f3 := (Option.some.inj (Tryd.func3.symm.trans hfn)).symm
      exact ⟨by kernel_rfl, fun j t ht => by
        rw [Tryd.params3] at ht
        have hm : t ∈ [26] := by simpa using Array.mem_of_getElem? ht
        have hall : ([26].all fun u => !Tryd.prog.wantsStandIn u) = true := by kernel_rfl
        exact (show Tryd.prog.wantsStandIn t = false by simpa using List.all_eq_true.1 hall t hm)⟩)
    (by kernel_rfl)
end Go.Proofs.YtpjpnkohagcegaaDoor
