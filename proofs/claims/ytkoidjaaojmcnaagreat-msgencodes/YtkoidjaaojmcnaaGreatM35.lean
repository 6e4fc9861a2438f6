/- What messages cost: sums modulo 2 to the 64. What messages cost: the document's Cost. -/
import Derived.Test.YtkoidjaaojmcnaaGreatM34
namespace Go.Proofs.YtkoidjaaojmcnaaGreat
open Go.RowKit
open Go.Deep
set_option linter.unusedVariables false
set_option linter.unusedSimpArgs false
theorem wr_l (a b : Int) : IntKind.i64.wrap (IntKind.i64.wrap a + b) = IntKind.i64.wrap (a + b) := by simp only [IntKind.wrap_i64]; omega
theorem wr_r (a b : Int) : IntKind.i64.wrap (a + IntKind.i64.wrap b) = IntKind.i64.wrap (a + b) := by simp only [IntKind.wrap_i64]; omega
theorem wr_m (b : Int) : IntKind.i64.wrap (40 * IntKind.i64.wrap b) = IntKind.i64.wrap (40 * b) := by simp only [IntKind.wrap_i64]; omega
/-- How many bytes texts have together. -/
def sizes : List ByteArray → Int
  | [] => 0
  | x :: r => (x.size : Int) + sizes r
theorem sizes_app (a b : List ByteArray) : sizes (a ++ b) = sizes a + sizes b := by
  induction a with
  | nil => simp [sizes]
  | cons x r ih => simp only [List.cons_append, sizes, ih]; omega
theorem sizes_snoc (L : List ByteArray) (k : Nat) (h : k < L.length) : sizes (L.take (k + 1)) = sizes (L.take k) + (L[k].size : Int) := by
  rw [← List.take_append_getElem h, sizes_app]
  simp [sizes]
section
set_option maxRecDepth 10000
set_option maxHeartbeats 8000000
theorem allLong_any (L : List ByteArray) (v : Value) (w : World) (hx : LX KS w v L) (hn : L.length < 4611686018427387904) : Calls Tryz.prog 29 #[v] w fun e w' => e = .returned (.int .i64 (IntKind.i64.wrap (sizes L))) ∧ w' = w := by
  obtain ⟨ao, cap, rfl⟩ := hx.form
  have HX := hide hx
  have HN := hide hn
  clear hx hn
  go_enter Tryz.func29, Tryz.ntmps29
  go_wp2
  go_loopw [3, 8] (fun t i wq => ∃ k : Nat, k ≤ L.length ∧ i = .int .i64 (k : Int) ∧ t = .int .i64 (IntKind.i64.wrap (sizes (L.take k))) ∧ wq = w) (fun _ i _ => (L.length - intOf i).toNat)
  case atStart => exact ⟨0, Nat.zero_le _, rfl, rfl, rfl⟩
  case round =>
    obtain ⟨k, hk, rfl, rfl, rfl⟩ := hrel
    by_cases hlt : k < L.length
    · have h1 : (k : Int) < (L.length : Int) := by omega
      have h2 : (0 : Int) ≤ (k : Int) := by omega
      have h5 := HN.out
      have e1 : IntKind.i64.wrap ((k : Int) + 1) = k + 1 := wrapI _ (by omega) (by omega)
      have KK := hide (And.intro (show k + 1 ≤ L.length by omega) (show ((L.length : Int) - ((k : Int) + 1)).toNat < ((L.length : Int) - (k : Int)).toNat by omega))
      obtain ⟨ga, oa, rfl⟩ := HX.out.base (by omega)
      have hr := HX.out.range k hlt
      have cc : wr.cell? ⟨ga, oa + k, none⟩ = some (.string L[k]) := by
        have := hr 0 _ rfl
        simpa [KS] using this
      have e2 : IntKind.i64.wrap (IntKind.i64.wrap (sizes (L.take k)) + (L[k].size : Int)) = IntKind.i64.wrap (sizes (L.take (k + 1))) := by rw [wr_l, sizes_snoc L k hlt]
      generalize hsn : IntKind.i64.wrap (sizes (L.take (k + 1))) = sn at e2
      have HS := hide hsn
      clear hsn
      generalize L[k] = x at *
      generalize IntKind.i64.wrap (sizes (L.take k)) = sk at *
      clear hr hlt hk h5
      go_wp2
      exact ⟨⟨k + 1, KK.out.1, by go_num, by rw [HS.out], trivial⟩, by simpa [intOf] using KK.out.2⟩
    · have h1 : ¬ (k : Int) < (L.length : Int) := by omega
      have e9 : L.take k = L := List.take_of_length_le (by omega)
      rw [e9]
      clear hlt hk e9
      go_wp2
      go_ret
      exact ⟨rfl, rfl⟩
end
end Go.Proofs.YtkoidjaaojmcnaaGreat
namespace Go.Proofs.YtkoidjaaojmcnaaGreat
open Go.RowKit
open Go.Deep
set_option linter.unusedVariables false
set_option linter.unusedSimpArgs false
/-- What a message costs but for its lists of texts. -/
def Mg.base (m : Mg) : Int := 64 + (m.agent.size : Int) + (m.head.size : Int) + (m.raw.size : Int) + 40 * ((m.addrs.length : Int) + (m.items.length : Int) + (m.hashes.length : Int) + (m.heads.length : Int) + (m.shorts.length : Int) + (m.filled.length : Int) + (m.places.length : Int) + (m.raws.length : Int))
def Mg.costZ (m : Mg) : Int := IntKind.i64.wrap (m.base + sizes m.heads + sizes (m.filled.map Fd.raw) + sizes m.raws)
section
set_option maxRecDepth 10000
set_option maxHeartbeats 8000000
theorem rcost_any (m : Mg) (s : Vs) (w : World) (hR : MR w s m) (hfit : m.fit) : Calls Tryz.prog 9 #[.agg (m.cells s).toArray] w fun e w' => e = .returned (.int .i64 m.costZ) ∧ Below w.heap.size w w' := by
  have b1 := (Below.refl w.heap.size w).alloc (Nat.le_refl _) (.cells (m.cells s).toArray 50)
  have B1 := hide b1
  have r1 := heap_alloc_last w (.cells (m.cells s).toArray 50)
  have MC := hide (Mc.of (m := m) (s := s) r1)
  have XX := hide (hR.below b1)
  have FT := hide hfit
  obtain ⟨oa, ka, ea⟩ := hR.a.form
  have ca := MC.out.f11
  rw [ea] at ca
  obtain ⟨oi, ki, ei⟩ := hR.i.form
  have ci := MC.out.f12
  rw [ei] at ci
  obtain ⟨oh, kh, eh⟩ := hR.h.form
  have ch := MC.out.f13
  rw [eh] at ch
  obtain ⟨ohd, khd, ehd⟩ := hR.hd.form
  have chd := MC.out.f16
  rw [ehd] at chd
  obtain ⟨osh, ksh, esh⟩ := hR.sh.form
  have csh := MC.out.f19
  rw [esh] at csh
  obtain ⟨of, kf, ef⟩ := hR.f.form
  have cf := MC.out.f20
  rw [ef] at cf
  obtain ⟨op, kp, ep⟩ := hR.p.form
  have cp := MC.out.f21
  rw [ep] at cp
  obtain ⟨or, kr, er⟩ := hR.r.form
  have cr := MC.out.f22
  rw [er] at cr
  have ct7 := MC.out.f7
  have ct17 := MC.out.f17
  have ct18 := MC.out.f18
  have XH := hide (ehd ▸ XX.out.hd)
  have XF := hide (ef ▸ XX.out.f)
  have XR := hide (er ▸ XX.out.r)
  obtain ⟨x10, hx10⟩ : ∃ x, IntKind.i64.wrap (64 + (m.agent.size : Int)) = x := ⟨_, rfl⟩
  obtain ⟨x14, hx14⟩ : ∃ x, IntKind.i64.wrap (x10 + (m.head.size : Int)) = x := ⟨_, rfl⟩
  obtain ⟨x18, hx18⟩ : ∃ x, IntKind.i64.wrap (x14 + (m.raw.size : Int)) = x := ⟨_, rfl⟩
  obtain ⟨x26, hx26⟩ : ∃ x, IntKind.i64.wrap ((m.addrs.length : Int) + (m.items.length : Int)) = x := ⟨_, rfl⟩
  obtain ⟨x30, hx30⟩ : ∃ x, IntKind.i64.wrap (x26 + (m.hashes.length : Int)) = x := ⟨_, rfl⟩
  obtain ⟨x34, hx34⟩ : ∃ x, IntKind.i64.wrap (x30 + (m.heads.length : Int)) = x := ⟨_, rfl⟩
  obtain ⟨x38, hx38⟩ : ∃ x, IntKind.i64.wrap (x34 + (m.shorts.length : Int)) = x := ⟨_, rfl⟩
  obtain ⟨x42, hx42⟩ : ∃ x, IntKind.i64.wrap (x38 + (m.filled.length : Int)) = x := ⟨_, rfl⟩
  obtain ⟨x46, hx46⟩ : ∃ x, IntKind.i64.wrap (x42 + (m.places.length : Int)) = x := ⟨_, rfl⟩
  obtain ⟨x50, hx50⟩ : ∃ x, IntKind.i64.wrap (x46 + (m.raws.length : Int)) = x := ⟨_, rfl⟩
  obtain ⟨x51, hx51⟩ : ∃ x, IntKind.i64.wrap (40 * x50) = x := ⟨_, rfl⟩
  obtain ⟨x52, hx52⟩ : ∃ x, IntKind.i64.wrap (x18 + x51) = x := ⟨_, rfl⟩
  have EB : Hid (x52 = IntKind.i64.wrap m.base) := by
    show _ = _
    rw [← hx52, ← hx51, ← hx50, ← hx46, ← hx42, ← hx38, ← hx34, ← hx30, ← hx26, ← hx18, ← hx14, ← hx10]
    simp only [wr_l, wr_r, wr_m]
    rfl
  clear b1 hR hfit r1 MC XX ea ei eh ehd esh ef ep er
  go_enter Tryz.func9, Tryz.ntmps9
  go_upto_region 3 with (with_reducible refine at_list ?_; refine wpList_boxA rfl _ rfl (m.cells s).toArray rfl ?_)
  clear hx10 hx14 hx18 hx26 hx30 hx34 hx38 hx42 hx46 hx50 hx51 hx52 ca ci ch csh cp ct7 ct17 ct18
  generalize w.alloc (.cells (m.cells s).toArray 50) = A at *
  rw [EB.out]
  clear EB
  go_wp2
  go_loopw [3, 4] (fun t i wq => ∃ k : Nat, k ≤ m.heads.length ∧ i = .int .i64 (k : Int) ∧ t = .int .i64 (IntKind.i64.wrap (m.base + sizes (m.heads.take k))) ∧ wq = A) (fun _ i _ => (m.heads.length - intOf i).toNat)
  case atStart => exact ⟨0, Nat.zero_le _, rfl, by simp [sizes], rfl⟩
  case round =>
    obtain ⟨k, hk, rfl, rfl, rfl⟩ := hrel
    by_cases hlt : k < m.heads.length
    · have h1 : (k : Int) < (m.heads.length : Int) := by omega
      have h2 : (0 : Int) ≤ (k : Int) := by omega
      have h5 := FT.out.hd
      have e1 : IntKind.i64.wrap ((k : Int) + 1) = k + 1 := wrapI _ (by omega) (by omega)
      have KK := hide (And.intro (show k + 1 ≤ m.heads.length by omega) (show ((m.heads.length : Int) - ((k : Int) + 1)).toNat < ((m.heads.length : Int) - (k : Int)).toNat by omega))
      obtain ⟨ga, oa, rfl⟩ := XH.out.base (by omega)
      have hr := XH.out.range k hlt
      have cc : wr.cell? ⟨ga, oa + k, none⟩ = some (.string m.heads[k]) := by
        have := hr 0 _ rfl
        simpa [KS] using this
      have e2 : IntKind.i64.wrap (IntKind.i64.wrap (m.base + sizes (m.heads.take k)) + (m.heads[k].size : Int)) = IntKind.i64.wrap (m.base + sizes (m.heads.take (k + 1))) := by rw [wr_l, sizes_snoc m.heads k hlt, Int.add_assoc]
      generalize hsn : IntKind.i64.wrap (m.base + sizes (m.heads.take (k + 1))) = sn at e2
      have HS := hide hsn
      clear hsn
      generalize m.heads[k] = x at *
      generalize IntKind.i64.wrap (m.base + sizes (m.heads.take k)) = sk at *
      clear hr hlt hk h5
      go_wp2
      exact ⟨⟨k + 1, KK.out.1, by go_num, by rw [HS.out], trivial⟩, by simpa [intOf] using KK.out.2⟩
    · have h1 : ¬ (k : Int) < (m.heads.length : Int) := by omega
      have e9 : m.heads.take k = m.heads := List.take_of_length_le (by omega)
      rw [e9]
      clear hlt hk e9
      go_upto_region 7 with fail
      clear h1
      go_wp2
      go_loopw [3, 5] (fun t i wq => ∃ k : Nat, k ≤ m.filled.length ∧ i = .int .i64 (k : Int) ∧ t = .int .i64 (IntKind.i64.wrap (m.base + sizes m.heads + sizes ((m.filled.map Fd.raw).take k))) ∧ wq = wr) (fun _ i _ => (m.filled.length - intOf i).toNat)
      case atStart => exact ⟨0, Nat.zero_le _, rfl, by simp [sizes], rfl⟩
      case round =>
        obtain ⟨k, hk, rfl, rfl, rfl⟩ := hrel
        by_cases hlt : k < m.filled.length
        · have h1 : (k : Int) < (m.filled.length : Int) := by omega
          have h2 : (0 : Int) ≤ (k : Int) := by omega
          have h5 := FT.out.f
          have e1 : IntKind.i64.wrap ((k : Int) + 1) = k + 1 := wrapI _ (by omega) (by omega)
          have KK := hide (And.intro (show k + 1 ≤ m.filled.length by omega) (show ((m.filled.length : Int) - ((k : Int) + 1)).toNat < ((m.filled.length : Int) - (k : Int)).toNat by omega))
          obtain ⟨ga, oa, rfl⟩ := XF.out.base (by omega)
          have hr := XF.out.range k hlt
          have cc : wr.cell? ⟨ga, oa + k * 2 + 1, none⟩ = some (.string m.filled[k].raw) := hr 1 _ rfl
          have e2 : IntKind.i64.wrap (IntKind.i64.wrap (m.base + sizes m.heads + sizes ((m.filled.map Fd.raw).take k)) + (m.filled[k].raw.size : Int)) = IntKind.i64.wrap (m.base + sizes m.heads + sizes ((m.filled.map Fd.raw).take (k + 1))) := by
            rw [wr_l, sizes_snoc (m.filled.map Fd.raw) k (by simpa using hlt), Int.add_assoc, List.getElem_map]
          generalize hsn : IntKind.i64.wrap (m.base + sizes m.heads + sizes ((m.filled.map Fd.raw).take (k + 1))) = sn at e2
          have HS := hide hsn
          clear hsn
          generalize m.filled[k].raw = x at *
          generalize IntKind.i64.wrap (m.base + sizes m.heads + sizes ((m.filled.map Fd.raw).take k)) = sk at *
          clear hr hlt hk h5
          go_wp2
          exact ⟨⟨k + 1, KK.out.1, by go_num, by rw [HS.out], trivial⟩, by simpa [intOf] using KK.out.2⟩
        · have h1 : ¬ (k : Int) < (m.filled.length : Int) := by omega
          have e9 : (m.filled.map Fd.raw).take k = (m.filled.map Fd.raw) := List.take_of_length_le (by simp; omega)
          rw [e9]
          clear hlt hk e9
          go_upto_region 11 with fail
          clear h1
          go_wp2
          go_loopw [3, 6] (fun t i wq => ∃ k : Nat, k ≤ m.raws.length ∧ i = .int .i64 (k : Int) ∧ t = .int .i64 (IntKind.i64.wrap (m.base + sizes m.heads + sizes (m.filled.map Fd.raw) + sizes (m.raws.take k))) ∧ wq = wr) (fun _ i _ => (m.raws.length - intOf i).toNat)
          case atStart => exact ⟨0, Nat.zero_le _, rfl, by simp [sizes], rfl⟩
          case round =>
            obtain ⟨k, hk, rfl, rfl, rfl⟩ := hrel
            by_cases hlt : k < m.raws.length
            · have h1 : (k : Int) < (m.raws.length : Int) := by omega
              have h2 : (0 : Int) ≤ (k : Int) := by omega
              have h5 := FT.out.r
              have e1 : IntKind.i64.wrap ((k : Int) + 1) = k + 1 := wrapI _ (by omega) (by omega)
              have KK := hide (And.intro (show k + 1 ≤ m.raws.length by omega) (show ((m.raws.length : Int) - ((k : Int) + 1)).toNat < ((m.raws.length : Int) - (k : Int)).toNat by omega))
              obtain ⟨ga, oa, rfl⟩ := XR.out.base (by omega)
              have hr := XR.out.range k hlt
              have cc : wr.cell? ⟨ga, oa + k, none⟩ = some (.string m.raws[k]) := by
                have := hr 0 _ rfl
                simpa [KS] using this
              have e2 : IntKind.i64.wrap (IntKind.i64.wrap (m.base + sizes m.heads + sizes (m.filled.map Fd.raw) + sizes (m.raws.take k)) + (m.raws[k].size : Int)) = IntKind.i64.wrap (m.base + sizes m.heads + sizes (m.filled.map Fd.raw) + sizes (m.raws.take (k + 1))) := by rw [wr_l, sizes_snoc m.raws k hlt, Int.add_assoc]
              generalize hsn : IntKind.i64.wrap (m.base + sizes m.heads + sizes (m.filled.map Fd.raw) + sizes (m.raws.take (k + 1))) = sn at e2
              have HS := hide hsn
              clear hsn
              generalize m.raws[k] = x at *
              generalize IntKind.i64.wrap (m.base + sizes m.heads + sizes (m.filled.map Fd.raw) + sizes (m.raws.take k)) = sk at *
              clear hr hlt hk h5
              go_wp2
              exact ⟨⟨k + 1, KK.out.1, by go_num, by rw [HS.out], trivial⟩, by simpa [intOf] using KK.out.2⟩
            · have h1 : ¬ (k : Int) < (m.raws.length : Int) := by omega
              have e9 : m.raws.take k = m.raws := List.take_of_length_le (by omega)
              rw [e9]
              clear hlt hk e9
              go_wp2
              go_ret
              exact ⟨rfl, B1.out⟩
end
end Go.Proofs.YtkoidjaaojmcnaaGreat
