/- The law bedrocklaw03.SipClashes returns true for every keys and every list of ids: no condition. -/
import Derived.Test.YtpjpnkohagcegaaRows
import Derived.Test.YtpjpnkohagcegaaYo
import Derived.Test.YtpjpnkohagcegaaYv
namespace Go.Proofs.Ytpjpnkohagcegaa.sipClashes
open Go.ChangeShapes Go.WideShapes Go.ChangeAt Go.RowKit Go.Joins Go.Deep
set_option linter.unusedVariables false
theorem own : ownKnob Try.prog.godebug = none := by kernel_rfl
def byteOf : Value → UInt8
  | .int _ n => UInt8.ofNat n.toNat
  | _ => 0
/-- Cells that read as an id are those of 32 bytes. -/
theorem hash_cells {H : Type} {enc : TypeId × Value → H} {W : World} {base : Nat} {sp : Nat → Bool} {held : Bool} {fuel : Nat} {cs : List Value} {x : DataW H × List MemPlace} (h : DataW.trod enc Try.prog W base sp held fuel 40 cs = some x) : cs = cellsL (cs.map byteOf) ∧ cs.length = 32 := by
  obtain ⟨xs, m, _, _, hlen, hxl, each⟩ := DataW.trod_array Try.underlying40 h
  rw [cellH] at hlen
  refine ⟨?_, hlen⟩
  apply List.ext_getElem
  · simp [cellsL]
  · intro i h1 h2
    have e := each i (by omega)
    rw [cellB, Nat.mul_one, List.drop_eq_getElem_cons h1, List.getElem?_eq_getElem (by omega)] at e
    simp only [List.take_succ_cons, List.take_zero] at e
    obtain ⟨a, ea, _, wa⟩ := DataW.trod_int Try.underlying5 e
    have hab : 0 ≤ a ∧ a ≤ 255 := by simpa [Lit.wf, IntKind.min, IntKind.max, IntKind.signed, IntKind.bits] using wa
    have ei : cs[i] = Value.int .u8 a := by simpa using ea
    simp only [cellsL, List.getElem_map]
    rw [ei]
    simp only [byteOf]
    rw [UInt8.toNat_ofNat']
    exact congrArg (Value.int .u8) (by omega)
theorem addr_add (g o j : Nat) : (⟨g, o, none⟩ : Addr).add j = ⟨g, o + j, none⟩ := by unfold Addr.add; split <;> simp_all
set_option maxRecDepth 100000 in
theorem ids_fun {H : Type} {enc : TypeId × Value → H} {w : World} {fuel : Nat} {ao : Option Addr} {len cap : Nat} {x : DataW H × List MemPlace}
    (h : DataW.trod enc Try.prog w 0 (fun _ => true) true fuel 36 [.slice ao len cap] = some x) : ∃ id, Ids w ao len id ∧ len ≤ cap ∧ cap ≤ maxLen := by
  rcases open_slice Try.underlying36 h with ⟨hcs, _⟩ | ⟨a, l, c, m, n, D, Pl, hcs, _, hl, hm, hmm, rfl, hx⟩
  · simp at hcs
    obtain ⟨rfl, rfl, rfl⟩ := hcs
    exact ⟨fun _ => default, fun i hi => absurd hi (by omega), Nat.le_refl _, Nat.zero_le _⟩
  · simp at hcs
    obtain ⟨rfl, rfl, rfl⟩ := hcs
    have each : ∀ i, i < len → ∃ q : List UInt8, q.length = 32 ∧ ∃ g off, some a = some (⟨g, off, none⟩ : Addr) ∧ g < w.heap.size ∧ w.rangeAt g (off + i * 32) (cellsL q) := by
      intro i hi
      obtain ⟨cs', h1, h2⟩ := hx i (by rw [hmm]; split <;> omega)
      rw [cellH] at h1
      obtain ⟨_, hlen, hcell⟩ := World.cells?_some h1
      obtain ⟨hcs, h32⟩ := hash_cells h2
      obtain ⟨g, off, spot⟩ := a
      have hspot : spot = none := by
        obtain ⟨cz, hz1, hz2⟩ := hx 0 (by rw [hmm]; split <;> omega)
        rw [cellH] at hz1
        obtain ⟨_, hzlen, hzcell⟩ := World.cells?_some hz1
        have cz0 := hzcell 0 (by omega)
        have h0 : cz[0]? = some (cz[0]'(by omega)) := List.getElem?_eq_getElem (by omega)
        rw [h0] at cz0
        simpa [Addr.add] using World.cell?_spot cz0
      subst hspot
      have hr : w.rangeAt g (off + i * 32) cs' := fun j v hv => by
        have hj : j < 32 := by
          rcases Nat.lt_or_ge j 32 with h' | h'
          · exact h'
          · rw [List.getElem?_eq_none (by omega)] at hv; cases hv
        have := hcell j (by omega)
        rw [addr_add, addr_add, hv] at this
        exact this
      have hg : g < w.heap.size := by
        have h0 : cs'[0]? = some (cs'[0]'(by omega)) := List.getElem?_eq_getElem (by omega)
        exact block_lt_of_cell (a := ⟨g, off + i * 32 + 0, none⟩) (hr 0 _ h0)
      exact ⟨cs'.map byteOf, by simpa using h32, g, off, rfl, hg, by rw [← hcs]; exact hr⟩
    obtain ⟨F, hF⟩ := choose_lt each
    exact ⟨F, hF, hl, hm⟩
set_option maxRecDepth 100000 in
theorem lifted (os : Os) (started : os.Started) (H : Type) (enc : TypeId × Value → H) :
    ReturnsInHanded {} Try.checked os 4 .any (Rows.sipClashesSpec.pre6 enc Try.prog Try.f4 Rows.sipClashesRow.domain false) (Rows.sipClashesSpec.post enc Try.prog Try.f4 false true false false) := by
  refine returnsInHanded_of_change (C := Try.checked) own started (by kernel_rfl) Try.func4
    (ChangeSpec.witness6 (enc := enc) (C := Try.checked) false ⟨#[], #[.agg (qc [0, 0]), .slice none 0 0], []⟩ 8 (by kernel_rfl) (by kernel_rfl) (by kernel_rfl) (by kernel_rfl)) ?_
  intro W base args ds gs before hval0 hW hcnd _
  have hval : ∀ (j : Nat) t v, Try.f4.params[j]? = some t → args[j]? = some v → Value.okWide Try.prog W .any base t v := hval0
  have hW' := hW
  obtain ⟨p, q, hA0, hV, rfl, hfz, hnd⟩ := hW
  have hA : DataW.TrodAll enc Try.prog W 0 (fun _ => true) true Try.f4.params.toList args.toList ds p := hA0
  rw [Try.params4] at hA hval
  obtain ⟨v0, vs0, d0, ds0, p0, q0, hargs, rfl, rfl, h0, r0⟩ := trodAll_cons hA
  obtain ⟨v1, vs1, d1, ds1, p1, q1, rfl, rfl, rfl, h1, r1⟩ := trodAll_cons r0
  obtain ⟨rfl, rfl, rfl⟩ := trodAll_nil r1
  obtain rfl : args = #[v0, v1] := by cases args; simp_all
  obtain ⟨rfl, rfl⟩ := trodVars_none hV
  have lt0 : ∀ x ∈ p0, x.block < W.heap.size := by obtain ⟨m, hm⟩ := h0; exact DataW.trod_lt m _ _ _ hm
  obtain ⟨a0, a1, rfl⟩ := open_keys (hval 0 24 v0 rfl rfl) h0
  obtain ⟨ao, len, cap, rfl⟩ := okWide_slice Try.underlying36 (hval 1 36 v1 rfl rfl)
  have k1 := h1
  have lt1 : ∀ x ∈ p1, x.block < W.heap.size := by obtain ⟨m, hm⟩ := k1; exact DataW.trod_lt m _ _ _ hm
  obtain ⟨fuel, hf⟩ := h1
  obtain ⟨id, hids, hlc, hcm⟩ := ids_fun (x := (d1, p1)) (by simpa [Value.cells] using hf)
  clear hA0 hval0
  refine (sipClashes_walk a0 a1 ao len cap id W hlc (by unfold maxLen at hcm; omega) hids).mono fun e W' ⟨he, bel⟩ => ?_
  subst he
  exact ⟨_, rfl, _, _, _, [], _, [], hW', trodAll_mk1 (shut_bool Try.underlying4 _), (trodAll_cons_mk (Below.trod laidOut6 (by kernel_rfl) (of_decide_eq_true (by kernel_rfl)) h0 bel lt0) (trodAll_cons_mk (Below.trod laidOut6 (by kernel_rfl) (of_decide_eq_true (by kernel_rfl)) k1 bel lt1) trodAll_mk0)), rfl, bel.frame _, fun h => by cases h⟩
theorem over : Rows.sipClashesRow.holds Try.pinned (OpenSpec.ofChange Rows.sipClashesSpec) :=
  OpenClaim.holds_of_wide 4 Try.f4 rfl rfl rfl rfl rfl rfl rfl ⟨rfl, rfl, rfl, rfl, rfl⟩ rfl rfl rfl rfl rfl (by kernel_rfl) Try.func4 (by kernel_rfl)
    (of_decide_eq_true (by kernel_rfl)) (by unfold Func.isWrapper; first | (rw [if_pos (by decide +kernel)]; kernel_rfl) | (rw [if_neg (by decide +kernel)]; exact ⟨rfl, rfl⟩))
    (fun os started H enc _ => lifted os started H enc)
end Go.Proofs.Ytpjpnkohagcegaa.sipClashes
namespace Go.Proofs.Ytpjpnkohagcegaa
theorem sipClashes_holds : Rows.SipClashesSaid := sipClashes.over
end Go.Proofs.Ytpjpnkohagcegaa
