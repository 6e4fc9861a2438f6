/- SipFeeds: however a text is cut into parts, its digest is the same, where what comes in is of bulk at most 1048576. -/
import Derived.Test.YtpjpnkohagcegaaRows
import Derived.Test.YtpjpnkohagcegaaYj
import Derived.Test.YtpjpnkohagcegaaYv
import Derived.JoinedCond
namespace Go.Proofs.Ytpjpnkohagcegaa.sipFeeds
open Go.ChangeShapes Go.WideShapes Go.ChangeAt Go.RowKit Go.Joins Go.Deep
open Go.ChangeMaps (open_string shut_string)
set_option linter.unusedVariables false
theorem own : ownKnob Try.prog.godebug = none := by kernel_rfl
theorem laidOut : laidOutB Try.prog = true := by kernel_rfl
theorem cells9 : Try.prog.cellsOf 9 = 1 := by kernel_rfl
theorem bulk_app {H : Type} (a b : List (DataW H)) : Rows.uptoBulkAll (a ++ b) = Rows.uptoBulkAll a + Rows.uptoBulkAll b := by
  induction a with
  | nil => simp [Rows.uptoBulkAll]
  | cons d r ih => simp [Rows.uptoBulkAll, ih]; omega
theorem bulk_range {H : Type} (D : Nat → DataW H) (k n : Nat) (h : k ≤ n) : Rows.uptoBulkAll ((List.range k).map D) ≤ Rows.uptoBulkAll ((List.range n).map D) := by
  induction n with
  | zero => have : k = 0 := by omega
            subst this; exact Nat.le_refl _
  | succ n ih =>
    rcases Nat.lt_or_ge k (n + 1) with hlt | hge
    · rw [List.range_succ, List.map_append, bulk_app]
      have := ih (by omega)
      omega
    · have : k = n + 1 := by omega
      subst this; exact Nat.le_refl _
theorem cat_le {H : Type} (D : Nat → DataW H) (F : Nat → ByteArray) (n : Nat) (h : ∀ i, i < n → Rows.uptoBulk (D i) = (F i).size + 1) : ∀ k, k ≤ n → (cat F k).length + k ≤ Rows.uptoBulkAll ((List.range k).map D) := by
  intro k
  induction k with
  | zero => intro _; simp [cat]
  | succ k ih =>
    intro hk
    have h1 := ih (by omega)
    have h3 := h k (by omega)
    rw [show cat F (k + 1) = cat F k ++ (F k).data.toList from rfl, List.length_append, List.range_succ, List.map_append, bulk_app]
    simp only [List.map_cons, List.map_nil, Rows.uptoBulkAll, h3]
    have : (F k).data.toList.length = (F k).size := by simp
    omega
theorem one_of {l : List Value} (h : l.length = 1) : ∃ v, l = [v] := by
  match l, h with
  | [v], _ => exact ⟨v, rfl⟩
set_option maxRecDepth 100000 in
theorem parts_fun {H : Type} {enc : TypeId × Value → H} {w : World} {fuel : Nat} {ao : Option Addr} {len cap : Nat} {x : DataW H × List MemPlace}
    (h : DataW.trod enc Try.prog w 0 (fun _ => true) true fuel 43 [.slice ao len cap] = some x) (hk : Rows.uptoBulk x.1 ≤ 1048576) : ∃ F, len ≤ 1048576 ∧ Parts w ao len F ∧ ∀ k, k ≤ len → (cat F k).length ≤ 1048576 := by
  rcases open_slice Try.underlying43 h with ⟨hcs, _⟩ | ⟨a, l, c, m, n, D, Pl, hcs, _, hl, hm, hmm, rfl, hx⟩
  · simp at hcs
    obtain ⟨rfl, rfl, rfl⟩ := hcs
    refine ⟨fun _ => default, Nat.zero_le _, fun i hi => absurd hi (by omega), fun k hk => ?_⟩
    have hk0 : k = 0 := by omega
    subst hk0
    simp [cat]
  · simp at hcs
    obtain ⟨rfl, rfl, rfl⟩ := hcs
    have each : ∀ i, i < len → ∃ q : ByteArray, (∃ g off, some a = some (⟨g, off, none⟩ : Addr) ∧ g < w.heap.size ∧ w.cell? ⟨g, off + i, none⟩ = some (.string q)) ∧ Rows.uptoBulk (D i) = q.size + 1 := by
      intro i hi
      obtain ⟨cs', h1, h2⟩ := hx i (by rw [hmm]; split <;> omega)
      rw [cells9] at h1
      obtain ⟨_, hlen, hcell⟩ := World.cells?_some h1
      obtain ⟨v0, rfl⟩ := one_of hlen
      obtain ⟨t, e3, hy, w3⟩ := DataW.trod_string Try.underlying9 h2
      simp only [List.cons.injEq, and_true] at e3
      subst e3
      have c0 := hcell 0 (by omega)
      rw [add_add] at c0
      obtain ⟨g, off, spot⟩ := a
      have hspot : spot = none := by
        obtain ⟨cz, hz1, hz2⟩ := hx 0 (by rw [hmm]; split <;> omega)
        rw [cells9] at hz1
        obtain ⟨_, hzlen, hzcell⟩ := World.cells?_some hz1
        obtain ⟨z0, rfl⟩ := one_of hzlen
        have cz0 := hzcell 0 (by omega)
        simpa [Addr.add] using World.cell?_spot cz0
      subst hspot
      have hadd : ∀ j, (⟨g, off, none⟩ : Addr).add j = ⟨g, off + j, none⟩ := by intro j; unfold Addr.add; split <;> simp_all
      rw [hadd] at c0
      refine ⟨t, ⟨g, off, rfl, block_lt_of_cell (a := ⟨g, off + (i * 1 + 0), none⟩) c0, by simpa using c0⟩, ?_⟩
      have hD := (Prod.mk.inj hy).1
      rw [hD]
      simp [Rows.uptoBulk]
    obtain ⟨F, hF⟩ := choose_lt each
    have hb : ∀ k, k ≤ len → Rows.uptoBulkAll ((List.range k).map D) ≤ 1048576 := by
      intro k hkl
      have h1 := bulk_range D k len hkl
      have h2 := hk
      simp only [Rows.uptoBulk] at h2
      omega
    have hw := cat_le D F len (fun i hi => (hF i hi).2)
    refine ⟨F, by have := hw len (Nat.le_refl _); have := hb len (Nat.le_refl _); omega, fun i hi => (hF i hi).1, fun k hkl => by have := hw k hkl; have := hb k hkl; omega⟩
theorem contract (H : Type) (enc : TypeId × Value → H) (W : World) (base : Nat) (args : Array Value) (ds gs : List (DataW H)) (before : List MemPlace)
    (hval : ∀ (j : Nat) t v, Try.f5.params[j]? = some t → args[j]? = some v → Value.okWide Try.prog W .any base t v)
    (hW : DataW.Whole enc Try.prog Try.f5.params.toList Rows.sipFeedsSpec.vars false W args.toList ds gs before) (hk : Rows.uptoSmall H (ds ++ gs) = true) :
    Calls Try.prog 5 args W fun e W' => ∃ v, e = .returned v ∧ Rows.sipFeedsSpec.post enc Try.prog Try.f5 false true false false W args v W' := by
  have hW' := hW
  obtain ⟨p, q, hA0, hV, rfl, hfz, hnd⟩ := hW
  have hA : DataW.TrodAll enc Try.prog W 0 (fun _ => true) true Try.f5.params.toList args.toList ds p := hA0
  rw [Try.params5] at hA hval
  obtain ⟨v0, vs0, d0, ds0, p0, q0, hargs, rfl, rfl, h0, r0⟩ := trodAll_cons hA
  obtain ⟨v1, vs1, d1, ds1, p1, q1, rfl, rfl, rfl, h1, r1⟩ := trodAll_cons r0
  obtain ⟨rfl, rfl, rfl⟩ := trodAll_nil r1
  obtain rfl : args = #[v0, v1] := by cases args; simp_all
  obtain ⟨rfl, rfl⟩ := trodVars_none hV
  have lt0 : ∀ x ∈ p0, x.block < W.heap.size := by obtain ⟨m, hm⟩ := h0; exact DataW.trod_lt m _ _ _ hm
  obtain ⟨a0, a1, rfl⟩ := open_keys (hval 0 24 v0 rfl rfl) h0
  obtain ⟨ao, len, cap, rfl⟩ := okWide_slice Try.underlying43 (hval 1 43 v1 rfl rfl)
  have k1 := h1
  have lt1 : ∀ x ∈ p1, x.block < W.heap.size := by obtain ⟨m, hm⟩ := k1; exact DataW.trod_lt m _ _ _ hm
  obtain ⟨fuel, hf⟩ := h1
  have hsmall : Rows.uptoBulk d1 ≤ 1048576 := by
    have hk' := of_decide_eq_true hk
    simp only [List.cons_append, List.nil_append, Rows.uptoBulkAll] at hk'
    omega
  obtain ⟨F, hlen, hparts, hsum⟩ := parts_fun (x := (d1, p1)) (by simpa [Value.cells] using hf) hsmall
  clear hA0
  refine (sipFeeds_walk a0 a1 ao len cap F W hlen hparts hsum).mono fun e W' ⟨he, bel⟩ => ?_
  subst he
  exact ⟨_, rfl, _, _, _, [], _, [], hW', trodAll_mk1 (shut_bool Try.underlying4 _), (trodAll_cons_mk (Below.trod laidOut (by kernel_rfl) (of_decide_eq_true (by kernel_rfl)) h0 bel lt0) (trodAll_cons_mk (Below.trod laidOut (by kernel_rfl) (of_decide_eq_true (by kernel_rfl)) k1 bel lt1) trodAll_mk0)), rfl, bel.frame _, fun h => by cases h⟩
set_option maxRecDepth 100000 in
theorem lifted (os : Os) (started : os.Started) (H : Type) (enc : TypeId × Value → H) (F : Stop.Interp) :
    ReturnsInHanded {} Try.checked os 5 .any ((Rows.OpenSpec.upto Rows.sipFeedsSpec).pre6 enc Try.prog Try.f5 Rows.sipFeedsUptoRow.domain false) (((Rows.OpenSpec.upto Rows.sipFeedsSpec).at F).post enc Try.prog Try.f5 false true false false) := by
  refine returnsInHanded_of_cond (C := Try.checked) (s := Rows.OpenSpec.upto Rows.sipFeedsSpec) (k := Rows.uptoSmall) rfl own started (by kernel_rfl) Try.func5
    (OpenSpec.witness (enc := enc) (C := Try.checked) (s := Rows.OpenSpec.upto Rows.sipFeedsSpec) (k := Rows.uptoSmall) rfl false ⟨#[], #[.agg (qc [0, 0]), .slice none 0 0], []⟩ 8 (by kernel_rfl) (by kernel_rfl) (by kernel_rfl)
      (x := ([.agg [.lit (.int .u64 0), .lit (.int .u64 0)], .nil], [], [])) (by kernel_rfl) rfl (by kernel_rfl)) ?_
  intro W base args ds gs before hval hW _ hk _
  exact contract H enc W base args ds gs before hval hW hk
theorem over : Rows.sipFeedsUptoRow.holds Try.pinned (Rows.OpenSpec.upto Rows.sipFeedsSpec) :=
  OpenClaim.holds_of_cond 5 Try.f5 rfl rfl rfl rfl rfl rfl rfl ⟨rfl, rfl, rfl, rfl, rfl⟩ rfl rfl rfl rfl rfl (by kernel_rfl) Try.func5 (by kernel_rfl)
    (of_decide_eq_true (by kernel_rfl)) (by unfold Func.isWrapper; first | (rw [if_pos (by decide +kernel)]; kernel_rfl) | (rw [if_neg (by decide +kernel)]; exact ⟨rfl, rfl⟩))
    (fun os started H enc _ F => lifted os started H enc F)
end Go.Proofs.Ytpjpnkohagcegaa.sipFeeds
namespace Go.Proofs.Ytpjpnkohagcegaa
theorem sipFeedsUpto_holds : Rows.SipFeedsUptoSaid := sipFeeds.over
end Go.Proofs.Ytpjpnkohagcegaa
