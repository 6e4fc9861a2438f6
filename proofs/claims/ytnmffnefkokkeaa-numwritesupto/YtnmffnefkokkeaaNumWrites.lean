/- The law bedrocklaw01.NumWrites returns true for every list of acts, where what comes in is of bulk at most 1048576. -/
import Derived.Test.YtnmffnefkokkeaaRows
import Derived.Test.YtnmffnefkokkeaaV
import Derived.Test.YtnmffnefkokkeaaX
import Derived.JoinedCond
namespace Go.Proofs.Ytnmffnefkokkeaa.numWrites
open Go.ChangeShapes Go.WideShapes Go.ChangeAt Go.RowKit Go.Joins Go.Deep
open Go.ChangeMaps (open_string shut_string)
set_option linter.unusedVariables false

theorem own : ownKnob Try.prog.godebug = none := by kernel_rfl
theorem laidOut : laidOutB Try.prog = true := by kernel_rfl
theorem putL_len (kind n : Int) (x : Nat) (s : ByteArray) : (putL kind n x s).length ≤ 41 + s.size := by
  have hc := countL_len x
  have hc2 := clong_le x
  have hd := countL_len s.size
  have hd2 := clong_le s.size
  have hs : s.data.toList.length = s.size := by simp
  unfold putL
  repeat' split
  all_goals try simp only [lowL_len, List.length_reverse, List.length_append, hashL_len]
  all_goals omega
theorem bulk_app {H : Type} (a b : List (DataW H)) : Rows.uptoBulkAll (a ++ b) = Rows.uptoBulkAll a + Rows.uptoBulkAll b := by
  induction a with
  | nil => simp [Rows.uptoBulkAll]
  | cons d r ih => simp [Rows.uptoBulkAll, ih]; omega
theorem bulk_range {H : Type} (D : Nat → DataW H) (k n : Nat) (h : k ≤ n) : Rows.uptoBulkAll ((List.range k).map D) ≤ Rows.uptoBulkAll ((List.range n).map D) := by
  induction n with
  | zero => have : k = 0 := by omega
            subst this; exact Nat.le_refl _
  | succ n ih =>
    rcases Nat.lt_or_ge k (n + 1) with hlt | hge
    · rw [List.range_succ, List.map_append, bulk_app]
      have := ih (by omega)
      omega
    · have : k = n + 1 := by omega
      subst this; exact Nat.le_refl _
theorem want_le {H : Type} (D : Nat → DataW H) (F : Nat → Int × Int × Nat × ByteArray) (n : Nat) (h : ∀ i, i < n → Rows.uptoBulk (D i) = (F i).2.2.2.size + 5) : ∀ k, k ≤ n → (wantL F k).length ≤ 9 * Rows.uptoBulkAll ((List.range k).map D) := by
  intro k
  induction k with
  | zero => intro _; simp [wantL]
  | succ k ih =>
    intro hk
    have h1 := ih (by omega)
    have h2 := putL_len (F k).1 (F k).2.1 (F k).2.2.1 (F k).2.2.2
    have h3 := h k (by omega)
    rw [wantL_succ, List.length_append, List.range_succ, List.map_append, bulk_app]
    simp only [List.map_cons, List.map_nil, Rows.uptoBulkAll, h3]
    unfold pc
    omega
set_option maxRecDepth 100000 in
theorem acts_fun {H : Type} {enc : TypeId × Value → H} {w : World} {fuel : Nat} {ao : Option Addr} {len cap : Nat} {x : DataW H × List MemPlace}
    (h : DataW.trod enc Try.prog w 0 (fun _ => true) true fuel 46 [.slice ao len cap] = some x) (hk : Rows.uptoBulk x.1 ≤ 1048576) : ∃ F, len ≤ maxLen ∧ Acts w ao len F ∧ ∀ k, k ≤ len → (wantL F k).length ≤ 35184372088832 := by
  rcases open_slice Try.underlying46 h with ⟨hcs, _⟩ | ⟨a, l, c, m, n, D, Pl, hcs, _, hl, hm, hmm, rfl, hx⟩
  · simp at hcs
    obtain ⟨rfl, rfl, rfl⟩ := hcs
    refine ⟨fun _ => default, Nat.zero_le _, fun i hi => absurd hi (by omega), fun k hk => ?_⟩
    have hk0 : k = 0 := by omega
    subst hk0
    simp [wantL]
  · simp at hcs
    obtain ⟨rfl, rfl, rfl⟩ := hcs
    have each : ∀ i, i < len → ∃ q : Int × Int × Nat × ByteArray, (∃ g off, some a = some (⟨g, off, none⟩ : Addr) ∧ g < w.heap.size ∧ q.2.1 ≤ 9223372036854775807 ∧ U64 q.2.2.1 ∧
        w.cell? ⟨g, off + i * 4, none⟩ = some (.int .i64 q.1) ∧ w.cell? ⟨g, off + i * 4 + 1, none⟩ = some (.int .i64 q.2.1) ∧ w.cell? ⟨g, off + i * 4 + 2, none⟩ = some (.int .u64 q.2.2.1) ∧ w.cell? ⟨g, off + i * 4 + 3, none⟩ = some (.string q.2.2.2)) ∧ Rows.uptoBulk (D i) = q.2.2.2.size + 5 := by
      intro i hi
      obtain ⟨cs', h1, h2⟩ := hx i (by rw [hmm]; split <;> omega)
      rw [cells54] at h1
      obtain ⟨_, hlen, hcell⟩ := World.cells?_some h1
      obtain ⟨v0, v1, v2, v3, rfl⟩ := four hlen
      obtain ⟨y0, y1, y2, y3, k, hy, _, g0, g1, g2, g3⟩ := trod_struct4 Try.underlying54 h2
      simp only [cells3', cells22', cells9', List.drop_zero, List.drop_succ_cons, List.take_succ_cons, List.take_zero] at g0 g1 g2 g3
      obtain ⟨a0, e0, rfl, w0⟩ := DataW.trod_int Try.underlying3 g0
      obtain ⟨a1, e1, rfl, w1⟩ := DataW.trod_int Try.underlying3 g1
      obtain ⟨a2, e2, rfl, w2⟩ := DataW.trod_int Try.underlying22 g2
      obtain ⟨t, e3, rfl, w3⟩ := DataW.trod_string Try.underlying9 g3
      simp only [List.cons.injEq, and_true] at e0 e1 e2 e3
      subst e0 e1 e2 e3
      obtain ⟨x, rfl, hx64⟩ := nat_of w2
      have c0 := hcell 0 (by omega)
      have c1 := hcell 1 (by omega)
      have c2 := hcell 2 (by omega)
      have c3 := hcell 3 (by omega)
      rw [add_add] at c0 c1 c2 c3
      obtain ⟨cz, hz1, hz2⟩ := hx 0 (by rw [hmm]; split <;> omega)
      rw [cells54] at hz1
      obtain ⟨_, hzlen, hzcell⟩ := World.cells?_some hz1
      obtain ⟨z0, z1, z2, z3, rfl⟩ := four hzlen
      have cz0 := hzcell 0 (by omega)
      obtain ⟨g, off, spot⟩ := a
      have hspot : spot = none := by simpa [Addr.add] using World.cell?_spot cz0
      subst hspot
      have hadd : ∀ j, (⟨g, off, none⟩ : Addr).add j = ⟨g, off + j, none⟩ := by intro j; unfold Addr.add; split <;> simp_all
      rw [hadd] at c0 c1 c2 c3
      refine ⟨(a0, a1, x, t), ⟨g, off, rfl, block_lt_of_cell (a := ⟨g, off + (i * 4 + 0), none⟩) c0, int_le w1, hx64, by simpa using c0, by simpa [Nat.add_assoc] using c1, by simpa [Nat.add_assoc] using c2, by simpa [Nat.add_assoc] using c3⟩, ?_⟩
      have hD := (Prod.mk.inj hy).1
      rw [hD]
      simp [Rows.uptoBulk, Rows.uptoBulkAll]
      omega
    obtain ⟨F, hF⟩ := choose_lt each
    have hb : ∀ k, k ≤ len → Rows.uptoBulkAll ((List.range k).map D) ≤ 1048576 := by
      intro k hkl
      have h1 := bulk_range D k len hkl
      have h2 := hk
      simp only [Rows.uptoBulk] at h2
      omega
    have hw := want_le D F len (fun i hi => (hF i hi).2)
    refine ⟨F, by omega, ?_, fun k hkl => by have := hw k hkl; have := hb k hkl; omega⟩
    intro i hi
    obtain ⟨⟨g, off, h1, h2, h3, h4, h5⟩, h6⟩ := hF i hi
    refine ⟨g, off, h1, h2, h3, h4, ?_, h5⟩
    have hbi := hb (i + 1) (by omega)
    rw [List.range_succ, List.map_append, bulk_app] at hbi
    simp only [List.map_cons, List.map_nil, Rows.uptoBulkAll, h6] at hbi
    omega
theorem contract (H : Type) (enc : TypeId × Value → H) (W : World) (base : Nat) (args : Array Value) (ds gs : List (DataW H)) (before : List MemPlace)
    (hval : ∀ (j : Nat) t v, Try.f6.params[j]? = some t → args[j]? = some v → Value.okWide Try.prog W .any base t v)
    (hW : DataW.Whole enc Try.prog Try.f6.params.toList Rows.numWritesSpec.vars false W args.toList ds gs before) (hk : Rows.uptoSmall H (ds ++ gs) = true) :
    Calls Try.prog 6 args W fun e W' => ∃ v, e = .returned v ∧ Rows.numWritesSpec.post enc Try.prog Try.f6 false true false false W args v W' := by
  have hW' := hW
  obtain ⟨p, q, hA0, hV, rfl, hfz, hnd⟩ := hW
  have hA : DataW.TrodAll enc Try.prog W 0 (fun _ => true) true Try.f6.params.toList args.toList ds p := hA0
  rw [Try.params6] at hA hval
  obtain ⟨v0, vs0, d0, ds0, p0, q0, hargs, rfl, rfl, h0, r0⟩ := trodAll_cons hA
  obtain ⟨rfl, rfl, rfl⟩ := trodAll_nil r0
  obtain rfl : args = #[v0] := by cases args; simp_all
  obtain ⟨rfl, rfl⟩ := trodVars_none hV
  obtain ⟨ao, len, cap, rfl⟩ := okWide_slice Try.underlying46 (hval 0 46 v0 rfl rfl)
  have k0 := h0
  have lt0 : ∀ x ∈ p0, x.block < W.heap.size := by obtain ⟨m, hm⟩ := k0; exact DataW.trod_lt m _ _ _ hm
  obtain ⟨fuel, hf⟩ := h0
  have hsmall : Rows.uptoBulk d0 ≤ 1048576 := by
    have hk' := of_decide_eq_true hk
    simp only [List.cons_append, List.nil_append, Rows.uptoBulkAll] at hk'
    omega
  obtain ⟨F, hlen, hacts, hsum⟩ := acts_fun (x := (d0, p0)) (by simpa [Value.cells] using hf) hsmall
  clear hA0
  refine (numWrites_walk ao len cap F W hlen hsum hacts).mono fun e W' ⟨he, bel⟩ => ?_
  subst he
  exact ⟨_, rfl, _, _, _, [], _, [], hW', trodAll_mk1 (shut_bool Try.underlying4 _), (trodAll_cons_mk (Below.trod laidOut (by kernel_rfl) (of_decide_eq_true (by kernel_rfl)) k0 bel lt0) trodAll_mk0), rfl, bel.frame _, fun h => by cases h⟩
set_option maxRecDepth 100000 in
theorem lifted (os : Os) (started : os.Started) (H : Type) (enc : TypeId × Value → H) (F : Stop.Interp) :
    ReturnsInHanded {} Try.checked os 6 .any ((Rows.OpenSpec.upto Rows.numWritesSpec).pre6 enc Try.prog Try.f6 Rows.numWritesUptoRow.domain false) (((Rows.OpenSpec.upto Rows.numWritesSpec).at F).post enc Try.prog Try.f6 false true false false) := by
  refine returnsInHanded_of_cond (C := Try.checked) (s := Rows.OpenSpec.upto Rows.numWritesSpec) (k := Rows.uptoSmall) rfl own started (by kernel_rfl) Try.func6
    (OpenSpec.witness (enc := enc) (C := Try.checked) (s := Rows.OpenSpec.upto Rows.numWritesSpec) (k := Rows.uptoSmall) rfl false ⟨#[], #[.slice none 0 0], []⟩ 8 (by kernel_rfl) (by kernel_rfl) (by kernel_rfl)
      (x := ([.nil], [], [])) (by kernel_rfl) rfl (by kernel_rfl)) ?_
  intro W base args ds gs before hval hW _ hk _
  exact contract H enc W base args ds gs before hval hW hk
theorem over : Rows.numWritesUptoRow.holds Try.pinned (Rows.OpenSpec.upto Rows.numWritesSpec) :=
  OpenClaim.holds_of_cond 6 Try.f6 rfl rfl rfl rfl rfl rfl rfl ⟨rfl, rfl, rfl, rfl, rfl⟩ rfl rfl rfl rfl rfl (by kernel_rfl) Try.func6 (by kernel_rfl)
    (of_decide_eq_true (by kernel_rfl)) (by unfold Func.isWrapper; first | (rw [if_pos (by decide +kernel)]; kernel_rfl) | (rw [if_neg (by decide +kernel)]; exact ⟨rfl, rfl⟩))
    (fun os started H enc _ F => lifted os started H enc F)
end Go.Proofs.Ytnmffnefkokkeaa.numWrites
namespace Go.Proofs.Ytnmffnefkokkeaa
theorem numWritesUpto_holds : Rows.NumWritesUptoSaid := numWrites.over
end Go.Proofs.Ytnmffnefkokkeaa
