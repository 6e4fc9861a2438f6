/- What messages cost: the program's Cost. Readers at bytes that stand there: what is left behind each part. -/
import Derived.Test.YtkoidjaaojmcnaaGreatM35
namespace Go.Proofs.YtkoidjaaojmcnaaGreat
open Go.RowKit
open Go.Deep
set_option linter.unusedVariables false
set_option linter.unusedSimpArgs false
section
set_option maxRecDepth 10000
set_option maxHeartbeats 8000000
theorem wr_w (a : Int) : IntKind.i64.wrap (IntKind.i64.wrap a) = IntKind.i64.wrap a := by simp only [IntKind.wrap_i64]; omega
theorem cost_any (m : Mg) (s : Vs) (w : World) (hR : ML w s m) (hfit : m.fit) : Calls Tryz.prog 8 #[.agg (m.cells s).toArray] w fun e w' => e = .returned (.int .i64 m.costZ) ∧ Below w.heap.size w w' := by
  have b1 := (Below.refl w.heap.size w).alloc (Nat.le_refl _) (.cells (m.cells s).toArray 38)
  have B1 := hide b1
  have RA := hide (heap_alloc_last w (.cells (m.cells s).toArray 38))
  have MC := hide (Mc.of (m := m) (s := s) RA.out)
  have XX := hide (hR.below b1)
  have FT := hide hfit
  obtain ⟨oa, ka, ea⟩ := hR.a.form
  have ca := MC.out.f11
  rw [ea] at ca
  obtain ⟨oi, ki, ei⟩ := hR.i.form
  have ci := MC.out.f12
  rw [ei] at ci
  obtain ⟨oh, kh, eh⟩ := hR.h.form
  have ch := MC.out.f13
  rw [eh] at ch
  obtain ⟨ohd, khd, ehd⟩ := hR.hd.form
  have chd := MC.out.f16
  rw [ehd] at chd
  obtain ⟨osh, ksh, esh⟩ := hR.sh.form
  have csh := MC.out.f19
  rw [esh] at csh
  obtain ⟨off, kf, ef⟩ := hR.f.form
  have cf := MC.out.f20
  rw [ef] at cf
  obtain ⟨op, kp, ep⟩ := hR.p.form
  have cp := MC.out.f21
  rw [ep] at cp
  obtain ⟨orr, kr, er⟩ := hR.r.form
  have cr := MC.out.f22
  rw [er] at cr
  have XH := hide (ehd ▸ XX.out.hd)
  have XF := hide (ef ▸ XX.out.f)
  have XR := hide (er ▸ XX.out.r)
  have CC : Hid (∀ W, Below (w.alloc (.cells (m.cells s).toArray 38)).heap.size (w.alloc (.cells (m.cells s).toArray 38)) W → W.cell? ⟨w.heap.size, 43, none⟩ = some (.string m.agent) ∧ W.cell? ⟨w.heap.size, 115, none⟩ = some (.string m.head) ∧ W.cell? ⟨w.heap.size, 116, none⟩ = some (.string m.raw) ∧ W.cell? ⟨w.heap.size, 114, none⟩ = some (.slice ohd m.heads.length khd) ∧ W.cell? ⟨w.heap.size, 120, none⟩ = some (.slice orr m.raws.length kr) ∧ W.cell? ⟨w.heap.size, 118, none⟩ = some (.slice off m.filled.length kf)) := fun W b => by
    have h1 := Mc.of (m := m) (s := s) ((b.block _ (lt_heap RA.out)).trans RA.out)
    have h2 := h1.f16
    have h3 := h1.f22
    have h4 := h1.f20
    rw [ehd] at h2
    rw [er] at h3
    rw [ef] at h4
    exact ⟨h1.f7, h1.f17, h1.f18, h2, h3, h4⟩
  obtain ⟨x13, hx13⟩ : ∃ x, IntKind.i64.wrap ((m.addrs.length : Int) + (m.items.length : Int)) = x := ⟨_, rfl⟩
  obtain ⟨x17, hx17⟩ : ∃ x, IntKind.i64.wrap (x13 + (m.hashes.length : Int)) = x := ⟨_, rfl⟩
  obtain ⟨x21, hx21⟩ : ∃ x, IntKind.i64.wrap (x17 + (m.heads.length : Int)) = x := ⟨_, rfl⟩
  obtain ⟨x25, hx25⟩ : ∃ x, IntKind.i64.wrap (x21 + (m.shorts.length : Int)) = x := ⟨_, rfl⟩
  obtain ⟨x29, hx29⟩ : ∃ x, IntKind.i64.wrap (x25 + (m.filled.length : Int)) = x := ⟨_, rfl⟩
  obtain ⟨x33, hx33⟩ : ∃ x, IntKind.i64.wrap (x29 + (m.places.length : Int)) = x := ⟨_, rfl⟩
  obtain ⟨x37, hx37⟩ : ∃ x, IntKind.i64.wrap (x33 + (m.raws.length : Int)) = x := ⟨_, rfl⟩
  obtain ⟨y1, hy1⟩ : ∃ x, IntKind.i64.wrap (sizes m.heads) = x := ⟨_, rfl⟩
  obtain ⟨y2, hy2⟩ : ∃ x, IntKind.i64.wrap (sizes m.raws) = x := ⟨_, rfl⟩
  obtain ⟨x44, hx44⟩ : ∃ x, IntKind.i64.wrap ((m.agent.size : Int) + (m.head.size : Int)) = x := ⟨_, rfl⟩
  obtain ⟨x48, hx48⟩ : ∃ x, IntKind.i64.wrap (x44 + (m.raw.size : Int)) = x := ⟨_, rfl⟩
  obtain ⟨x52, hx52⟩ : ∃ x, IntKind.i64.wrap (x48 + y1) = x := ⟨_, rfl⟩
  obtain ⟨x56, hx56⟩ : ∃ x, IntKind.i64.wrap (x52 + y2) = x := ⟨_, rfl⟩
  have EL : Hid (x37 = IntKind.i64.wrap ((m.addrs.length : Int) + (m.items.length : Int) + (m.hashes.length : Int) + (m.heads.length : Int) + (m.shorts.length : Int) + (m.filled.length : Int) + (m.places.length : Int) + (m.raws.length : Int))) := by
    show _ = _
    rw [← hx37, ← hx33, ← hx29, ← hx25, ← hx21, ← hx17, ← hx13]
    simp only [wr_l, wr_r, wr_m]
  have ET : Hid (x56 = IntKind.i64.wrap ((m.agent.size : Int) + (m.head.size : Int) + (m.raw.size : Int) + sizes m.heads + sizes m.raws)) := by
    show _ = _
    rw [← hx56, ← hx52, ← hx48, ← hx44, ← hy1, ← hy2]
    simp only [wr_l, wr_r, wr_m]
  have HA : Hid (∀ W, Below (w.alloc (.cells (m.cells s).toArray 38)).heap.size (w.alloc (.cells (m.cells s).toArray 38)) W → Calls Tryz.prog 29 #[.slice ohd m.heads.length khd] W fun e w' => e = .returned (.int .i64 y1) ∧ w' = W) := fun W b => by rw [← hy1]; exact allLong_any m.heads _ W (XH.out.below b) FT.out.hd
  have HB : Hid (∀ W, Below (w.alloc (.cells (m.cells s).toArray 38)).heap.size (w.alloc (.cells (m.cells s).toArray 38)) W → Calls Tryz.prog 29 #[.slice orr m.raws.length kr] W fun e w' => e = .returned (.int .i64 y2) ∧ w' = W) := fun W b => by rw [← hy2]; exact allLong_any m.raws _ W (XR.out.below b) FT.out.r
  clear b1 hR hfit MC XX ea ei eh ehd esh ef ep er hy1 hy2
  go_enter Tryz.func8, Tryz.ntmps8
  go_upto_region 2 with (with_reducible refine at_list ?_; refine wpList_boxA rfl _ rfl (m.cells s).toArray rfl ?_)
  clear hx13 hx17 hx21 hx25 hx29 hx33 hx37 ca ci ch csh cp chd cf cr
  generalize w.alloc (.cells (m.cells s).toArray 38) = A at *
  have BD := hide ((Below.refl A.heap.size A).drew)
  refine wp_region_held_drew (S := fun W => Below A.heap.size A W) (by kernel_rfl) BD.out (fun hH => ?_)
  generalize hWd : A.drew = W1 at *
  clear hWd
  refine wpAnyH_take (i := 0) (v := (.pointer (some ⟨w.heap.size, 43, none⟩))) rfl (by kernel_rfl) (by kernel_rfl) (by kernel_rfl) (fun _ _ _ h => h) (.inl ⟨by rfl, fun W _ => by go_simp⟩) hH ?_
  change wpAnyH _ _ _ _ _ _ _ (Act.put _ (some 38) _) _
  simp only [Act.put, List.setIfInBounds_toArray, List.set_cons_zero, List.set_cons_succ]
  refine wpAnyH_take (i := 1) (v := (.string m.agent)) rfl (by kernel_rfl) (by kernel_rfl) (by kernel_rfl) (fun _ _ _ h => h) (.inl ⟨by rfl, fun W hS => by have c4 := (CC.out W hS).1; go_simp⟩) hH ?_
  change wpAnyH _ _ _ _ _ _ _ (Act.put _ (some 39) _) _
  simp only [Act.put, List.setIfInBounds_toArray, List.set_cons_zero, List.set_cons_succ]
  refine wpAnyH_take (i := 2) (v := (.int .i64 (m.agent.size : Int))) rfl (by kernel_rfl) (by kernel_rfl) (by kernel_rfl) (fun _ _ _ h => h) (.inl ⟨by rfl, fun W _ => by go_simp⟩) hH ?_
  change wpAnyH _ _ _ _ _ _ _ (Act.put _ (some 40) _) _
  simp only [Act.put, List.setIfInBounds_toArray, List.set_cons_zero, List.set_cons_succ]
  refine wpAnyH_take (i := 3) (v := (.pointer (some ⟨w.heap.size, 115, none⟩))) rfl (by kernel_rfl) (by kernel_rfl) (by kernel_rfl) (fun _ _ _ h => h) (.inl ⟨by rfl, fun W _ => by go_simp⟩) hH ?_
  change wpAnyH _ _ _ _ _ _ _ (Act.put _ (some 41) _) _
  simp only [Act.put, List.setIfInBounds_toArray, List.set_cons_zero, List.set_cons_succ]
  refine wpAnyH_take (i := 4) (v := (.string m.head)) rfl (by kernel_rfl) (by kernel_rfl) (by kernel_rfl) (fun _ _ _ h => h) (.inl ⟨by rfl, fun W hS => by have c4 := (CC.out W hS).2.1; go_simp⟩) hH ?_
  change wpAnyH _ _ _ _ _ _ _ (Act.put _ (some 42) _) _
  simp only [Act.put, List.setIfInBounds_toArray, List.set_cons_zero, List.set_cons_succ]
  refine wpAnyH_take (i := 5) (v := (.int .i64 (m.head.size : Int))) rfl (by kernel_rfl) (by kernel_rfl) (by kernel_rfl) (fun _ _ _ h => h) (.inl ⟨by rfl, fun W _ => by go_simp⟩) hH ?_
  change wpAnyH _ _ _ _ _ _ _ (Act.put _ (some 43) _) _
  simp only [Act.put, List.setIfInBounds_toArray, List.set_cons_zero, List.set_cons_succ]
  refine wpAnyH_take (i := 6) (v := (.int .i64 x44)) rfl (by kernel_rfl) (by kernel_rfl) (by kernel_rfl) (fun _ _ _ h => h) (.inl ⟨by rfl, fun W _ => by go_simp⟩) hH ?_
  change wpAnyH _ _ _ _ _ _ _ (Act.put _ (some 44) _) _
  simp only [Act.put, List.setIfInBounds_toArray, List.set_cons_zero, List.set_cons_succ]
  refine wpAnyH_take (i := 7) (v := (.pointer (some ⟨w.heap.size, 116, none⟩))) rfl (by kernel_rfl) (by kernel_rfl) (by kernel_rfl) (fun _ _ _ h => h) (.inl ⟨by rfl, fun W _ => by go_simp⟩) hH ?_
  change wpAnyH _ _ _ _ _ _ _ (Act.put _ (some 45) _) _
  simp only [Act.put, List.setIfInBounds_toArray, List.set_cons_zero, List.set_cons_succ]
  refine wpAnyH_take (i := 8) (v := (.string m.raw)) rfl (by kernel_rfl) (by kernel_rfl) (by kernel_rfl) (fun _ _ _ h => h) (.inl ⟨by rfl, fun W hS => by have c4 := (CC.out W hS).2.2.1; go_simp⟩) hH ?_
  change wpAnyH _ _ _ _ _ _ _ (Act.put _ (some 46) _) _
  simp only [Act.put, List.setIfInBounds_toArray, List.set_cons_zero, List.set_cons_succ]
  refine wpAnyH_take (i := 9) (v := (.int .i64 (m.raw.size : Int))) rfl (by kernel_rfl) (by kernel_rfl) (by kernel_rfl) (fun _ _ _ h => h) (.inl ⟨by rfl, fun W _ => by go_simp⟩) hH ?_
  change wpAnyH _ _ _ _ _ _ _ (Act.put _ (some 47) _) _
  simp only [Act.put, List.setIfInBounds_toArray, List.set_cons_zero, List.set_cons_succ]
  refine wpAnyH_take (i := 10) (v := (.int .i64 x48)) rfl (by kernel_rfl) (by kernel_rfl) (by kernel_rfl) (fun _ _ _ h => h) (.inl ⟨by rfl, fun W _ => by go_simp⟩) hH ?_
  change wpAnyH _ _ _ _ _ _ _ (Act.put _ (some 48) _) _
  simp only [Act.put, List.setIfInBounds_toArray, List.set_cons_zero, List.set_cons_succ]
  refine wpAnyH_take (i := 11) (v := (.pointer (some ⟨w.heap.size, 114, none⟩))) rfl (by kernel_rfl) (by kernel_rfl) (by kernel_rfl) (fun _ _ _ h => h) (.inl ⟨by rfl, fun W _ => by go_simp⟩) hH ?_
  change wpAnyH _ _ _ _ _ _ _ (Act.put _ (some 49) _) _
  simp only [Act.put, List.setIfInBounds_toArray, List.set_cons_zero, List.set_cons_succ]
  refine wpAnyH_take (i := 12) (v := (.slice ohd m.heads.length khd)) rfl (by kernel_rfl) (by kernel_rfl) (by kernel_rfl) (fun _ _ _ h => h) (.inl ⟨by rfl, fun W hS => by have c4 := (CC.out W hS).2.2.2.1; go_simp⟩) hH ?_
  change wpAnyH _ _ _ _ _ _ _ (Act.put _ (some 50) _) _
  simp only [Act.put, List.setIfInBounds_toArray, List.set_cons_zero, List.set_cons_succ]
  refine wpAnyH_take (i := 15) (v := (.pointer (some ⟨w.heap.size, 120, none⟩))) rfl (by kernel_rfl) (by kernel_rfl) (by kernel_rfl) (fun _ _ _ h => h) (.inl ⟨by rfl, fun W _ => by go_simp⟩) hH ?_
  change wpAnyH _ _ _ _ _ _ _ (Act.put _ (some 53) _) _
  simp only [Act.put, List.setIfInBounds_toArray, List.set_cons_zero, List.set_cons_succ]
  refine wpAnyH_take (i := 16) (v := (.slice orr m.raws.length kr)) rfl (by kernel_rfl) (by kernel_rfl) (by kernel_rfl) (fun _ _ _ h => h) (.inl ⟨by rfl, fun W hS => by have c4 := (CC.out W hS).2.2.2.2.1; go_simp⟩) hH ?_
  change wpAnyH _ _ _ _ _ _ _ (Act.put _ (some 54) _) _
  simp only [Act.put, List.setIfInBounds_toArray, List.set_cons_zero, List.set_cons_succ]
  refine wpAnyH_ready (rs := [13]) (by kernel_rfl) (by simp) (AllReadyH.cons rfl (fun K1 hK1 => ?_) AllReadyH.nil)
  go_simp
  with_reducible refine (HA.out W1 BD.out).mono ?_
  rintro e W2 ⟨rfl, rfl⟩
  refine hK1.out _ _ BD.out (fun hH => ?_)
  clear hK1
  refine wpAnyH_take (i := 14) (v := (.int .i64 x52)) rfl (by kernel_rfl) (by kernel_rfl) (by kernel_rfl) (fun _ _ _ h => h) (.inl ⟨by rfl, fun W _ => by go_simp⟩) hH ?_
  change wpAnyH _ _ _ _ _ _ _ (Act.put _ (some 52) _) _
  simp only [Act.put, List.setIfInBounds_toArray, List.set_cons_zero, List.set_cons_succ]
  refine wpAnyH_ready (rs := [17]) (by kernel_rfl) (by simp) (AllReadyH.cons rfl (fun K1 hK1 => ?_) AllReadyH.nil)
  go_simp
  with_reducible refine (HB.out W2 BD.out).mono ?_
  rintro e W3 ⟨rfl, rfl⟩
  refine hK1.out _ _ BD.out (fun hH => ?_)
  clear hK1
  refine wpAnyH_take (i := 18) (v := (.int .i64 x56)) rfl (by kernel_rfl) (by kernel_rfl) (by kernel_rfl) (fun _ _ _ h => h) (.inl ⟨by rfl, fun W _ => by go_simp⟩) hH ?_
  change wpAnyH _ _ _ _ _ _ _ (Act.put _ (some 56) _) _
  simp only [Act.put, List.setIfInBounds_toArray, List.set_cons_zero, List.set_cons_succ]
  refine wpAnyH_ready (rs := [19]) (by kernel_rfl) (by simp) (AllReadyH.cons rfl (fun K1 hK1 => ?_) AllReadyH.nil)
  go_simp
  refine hK1.out _ _ BD.out (fun hH => ?_)
  clear hK1
  refine wpAnyH_done (by kernel_rfl) ?_ _
  clear hH HA HB hx44 hx48 hx52 hx56
  have cf := (CC.out _ BD.out).2.2.2.2.2
  go_wp2
  go_loopw [4, 60] (fun t i wq => ∃ k : Nat, k ≤ m.filled.length ∧ i = .int .i64 (k : Int) ∧ t = .int .i64 (IntKind.i64.wrap (x56 + sizes ((m.filled.map Fd.raw).take k))) ∧ Hid (Below A.heap.size A wq)) (fun _ i _ => (m.filled.length - intOf i).toNat)
  case atStart => exact ⟨0, Nat.zero_le _, rfl, by rw [ET.out]; simp only [List.take_zero, sizes, Int.add_zero, wr_w], BD⟩
  case round =>
    clear BD cf
    obtain ⟨k, hk, rfl, rfl, J⟩ := hrel
    by_cases hlt : k < m.filled.length
    · have h1 : (k : Int) < (m.filled.length : Int) := by omega
      have h2 : (0 : Int) ≤ (k : Int) := by omega
      have h5 := FT.out.f
      have e1 : IntKind.i64.wrap ((k : Int) + 1) = k + 1 := wrapI _ (by omega) (by omega)
      have KK := hide (And.intro (show k + 1 ≤ m.filled.length by omega) (show ((m.filled.length : Int) - ((k : Int) + 1)).toNat < ((m.filled.length : Int) - (k : Int)).toNat by omega))
      obtain ⟨ga, oa, rfl⟩ := XF.out.base (by omega)
      have hr := (XF.out.below J.out).range k hlt
      have e2 : IntKind.i64.wrap (IntKind.i64.wrap (x56 + sizes ((m.filled.map Fd.raw).take k)) + (m.filled[k].raw.size : Int)) = IntKind.i64.wrap (x56 + sizes ((m.filled.map Fd.raw).take (k + 1))) := by
        rw [wr_l, sizes_snoc (m.filled.map Fd.raw) k (by simpa using hlt), Int.add_assoc, List.getElem_map]
      generalize hsn : IntKind.i64.wrap (x56 + sizes ((m.filled.map Fd.raw).take (k + 1))) = sn at e2
      have HN := hide hsn
      clear hsn
      generalize m.filled[k] = x at *
      generalize IntKind.i64.wrap (x56 + sizes ((m.filled.map Fd.raw).take k)) = sk at *
      have RG : Hid (wr.rangeAt ga (oa + k * 2) x.cells) := hr
      have HS : Hid ((x.cells.toArray).size = 2) := rfl
      have HO : Hid ((x.cells.toArray).all (·.oneCell') = true) := x.all
      have b1 : Below wr.heap.size wr (wr.alloc (.cells x.cells.toArray 77)) := (Below.refl _ _).alloc (Nat.le_refl _) _
      have J1 := hide (below_next J.out b1)
      have R1 := heap_alloc_last wr (.cells x.cells.toArray 77)
      have c1 : (wr.alloc (.cells x.cells.toArray 77)).cell? ⟨wr.heap.size, 1, none⟩ = some (.string x.raw) := by rw [cell_of_row _ _ _ _ _ _ R1]; rfl
      clear hr hlt hk h5 b1 R1
      go_upto_region 6 with (with_reducible refine at_list ?_; first | refine wpLoadF _ rfl ga (oa + k * 2) rfl x RG.out rfl ?_ | refine wpList_allocA AFd rfl rfl ?_ | refine wpList_store_newA AFd rfl _ _ rfl _ rfl x.cells.toArray HS.out HO.out rfl rfl ?_)
      generalize wr.alloc (.cells x.cells.toArray 77) = W5 at *
      generalize wr.heap.size = g7 at *
      go_wp2
      exact ⟨⟨k + 1, KK.out.1, by go_num, by rw [HN.out], J1⟩, by simpa [intOf] using KK.out.2⟩
    · have h1 : ¬ (k : Int) < (m.filled.length : Int) := by omega
      have e9 : (m.filled.map Fd.raw).take k = m.filled.map Fd.raw := List.take_of_length_le (by simp; omega)
      rw [e9]
      obtain ⟨z1, hz1⟩ : ∃ x, IntKind.i64.wrap (40 * x37) = x := ⟨_, rfl⟩
      obtain ⟨z2, hz2⟩ : ∃ x, IntKind.i64.wrap (64 + z1) = x := ⟨_, rfl⟩
      obtain ⟨z3, hz3⟩ : ∃ x, IntKind.i64.wrap (x56 + sizes (m.filled.map Fd.raw)) = x := ⟨_, rfl⟩
      obtain ⟨z4, hz4⟩ : ∃ x, IntKind.i64.wrap (z2 + z3) = x := ⟨_, rfl⟩
      have EZ : Hid (z4 = m.costZ) := by
        show _ = _
        rw [← hz4, ← hz3, ← hz2, ← hz1, ET.out, EL.out]
        simp only [wr_l, wr_r, wr_m]
        unfold Mg.costZ Mg.base
        congr 1
        omega
      rw [hz3]
      clear hlt hk e9 ET EL hz3
      go_wp2
      go_ret
      exact ⟨by rw [← EZ.out]; rfl, below_next B1.out J.out⟩
end
end Go.Proofs.YtkoidjaaojmcnaaGreat
namespace Go.Proofs.YtkoidjaaojmcnaaGreat
open Go.RowKit
open Go.Deep
set_option linter.unusedVariables false
set_option linter.unusedSimpArgs false
/-- A reader with no error that has these bytes left. -/
def Gr (w : World) (b : Nat) (t : ByteArray) (R : List UInt8) : Prop := ∃ n : Nat, n ≤ t.size ∧ t.data.toList.drop n = R ∧ Rst w b t (n : Int) 0
theorem rtake_on (t : ByteArray) (n : Nat) (X Y : List UInt8) (hn : n ≤ t.size) (h : t.data.toList.drop n = X ++ Y) : rtake t (n : Int) 0 (X.length : Int) = (((n + X.length : Nat) : Int), 0, txt X) ∧ n + X.length ≤ t.size ∧ t.data.toList.drop (n + X.length) = Y := by
  have hl : t.data.toList.length = t.size := by simp
  have h1 : t.size - n = X.length + Y.length := by rw [← hl, ← List.length_drop, h, List.length_append]
  refine ⟨?_, by omega, by rw [← List.drop_drop, h, List.drop_left]⟩
  unfold rtake
  rw [if_neg (by decide), if_neg (by omega), if_neg (by omega)]
  have e1 : ((n : Int) + (X.length : Int)).toNat = n + X.length := by omega
  have e2 : t.extract n (n + X.length) = txt X := by
    apply ByteArray.ext
    apply Array.toList_inj.1
    rw [ByteArray.data_extract, Array.toList_extract]
    show (t.data.toList.drop n).take (n + X.length - n) = X
    rw [h, show n + X.length - n = X.length by omega, List.take_left]
  rw [Int.toNat_natCast, e1, e2]
  rfl
theorem leN_lowL (k n : Nat) (h : n < 256 ^ k) : leN (lowL n k) = n := by
  induction k generalizing n with
  | zero => simp [lowL, leN] at *; omega
  | succ k ih =>
    rw [lowL, leN, ih (n / 256) (by rw [Nat.pow_succ] at h; omega), UInt8.toNat_ofNat']
    omega
theorem takeC_on (t : ByteArray) (n c : Nat) (Y : List UInt8) (hn : n ≤ t.size) (hc : c ≤ 65535) (h : t.data.toList.drop n = countL c ++ Y) : takeC t (n : Int) = ((c : Int), ((n + (countL c).length : Nat) : Int), 0) ∧ n + (countL c).length ≤ t.size ∧ t.data.toList.drop (n + (countL c).length) = Y := by
  obtain ⟨_, h2, h3⟩ := rtake_on t n (countL c) Y hn h
  refine ⟨?_, h2, h3⟩
  have hat : ∀ x r, t.data.toList.drop n = x :: r → t.data.toList.getD n 0 = x := fun x r e => by
    have : (t.data.toList.drop n)[0]? = some x := by rw [e]; rfl
    rw [List.getElem?_drop, Nat.add_zero] at this
    rw [List.getD_eq_getElem?_getD, this]
    rfl
  unfold takeC
  by_cases h1 : c < 253
  · have e : countL c = [UInt8.ofNat (c % 256)] := by unfold countL; rw [if_pos h1]; rfl
    rw [e] at h h2 ⊢
    have hx := hat _ _ (by rw [h]; rfl)
    have hv : (UInt8.ofNat (c % 256)).toNat = c := by rw [UInt8.toNat_ofNat']; omega
    simp only [List.length_singleton] at h2 ⊢
    rw [Int.toNat_natCast, hx, hv, if_neg (by omega), if_neg (by omega), if_pos h1]
    rfl
  · have e : countL c = 253 :: lowL c 2 := by unfold countL; rw [if_neg h1, if_pos hc]
    rw [e] at h h2 ⊢
    have hx := hat _ _ (by rw [h]; rfl)
    have hv : (253 : UInt8).toNat = 253 := rfl
    have hd : t.data.toList.drop (n + 1) = lowL c 2 ++ Y := by rw [← List.drop_drop, h]; rfl
    have hl : leN ((t.data.toList.drop (n + 1)).take 2) = c := by
      rw [hd, List.take_append_of_le_length (by rw [lowL_len]; exact Nat.le_refl _), List.take_of_length_le (by rw [lowL_len]; exact Nat.le_refl _), leN_lowL 2 c (by omega)]
    have hcl : clong (c : Int) = 3 := by unfold clong; rw [if_neg (by omega), if_pos (by omega)]
    simp only [List.length_cons, lowL_len] at h2 ⊢
    rw [Int.toNat_natCast, hx, hv, if_neg (by omega), if_neg (by omega), if_neg (by omega)]
    simp only [if_true]
    rw [if_neg (by omega), hl, hcl, if_neg (by decide)]
    simp
    omega
section
variable {w : World} {b : Nat} {t : ByteArray} {Y : List UInt8}
set_option maxRecDepth 10000
set_option maxHeartbeats 4000000
theorem Gr.bytes (X : List UInt8) (h : Gr w b t (X ++ Y)) (hs : t.size ≤ maxLen) (hX : X.length ≤ 9223372036854775807) : Calls Tryz.prog 87 #[.pointer (some ⟨b, 0, none⟩), .int .i64 (X.length : Int)] w fun e w' => e = .returned (.string (txt X)) ∧ Gr w' b t Y ∧ Rfr b w w' := by
  obtain ⟨n, h1, h2, h3⟩ := h
  obtain ⟨e1, e2, e3⟩ := rtake_on t n X Y h1 h2
  refine (rBytes b t w n 0 X.length h3 hs (by omega) (by omega) (by omega)).mono ?_
  rintro e w' ⟨rfl, s1, f1⟩
  rw [e1] at s1 ⊢
  exact ⟨rfl, ⟨_, e2, e3, s1⟩, f1⟩
theorem Gr.u64 (v : Nat) (hv : v < 18446744073709551616) (h : Gr w b t (lowL v 8 ++ Y)) (hs : t.size ≤ maxLen) : Calls Tryz.prog 77 #[.pointer (some ⟨b, 0, none⟩)] w fun e w' => e = .returned (.int .u64 (v : Int)) ∧ Gr w' b t Y ∧ Rfr b w w' := by
  obtain ⟨n, h1, h2, h3⟩ := h
  obtain ⟨e1, e2, e3⟩ := rtake_on t n (lowL v 8) Y h1 h2
  rw [lowL_len] at e1 e2 e3
  refine (rU64 b t w n 0 h3 hs (by omega) (by omega)).mono ?_
  rintro e w' ⟨rfl, s1, f1⟩
  rw [show ((8 : Nat) : Int) = 8 from rfl] at e1
  rw [e1] at s1 ⊢
  exact ⟨by show Ending.returned (.int .u64 (leN (lowL v 8) : Int)) = _; rw [leN_lowL 8 v (by omega)], ⟨_, e2, e3, s1⟩, f1⟩
theorem Gr.u32 (v : Nat) (hv : v < 4294967296) (h : Gr w b t (lowL v 4 ++ Y)) (hs : t.size ≤ maxLen) : Calls Tryz.prog 82 #[.pointer (some ⟨b, 0, none⟩)] w fun e w' => e = .returned (.int .u32 (v : Int)) ∧ Gr w' b t Y ∧ Rfr b w w' := by
  obtain ⟨n, h1, h2, h3⟩ := h
  obtain ⟨e1, e2, e3⟩ := rtake_on t n (lowL v 4) Y h1 h2
  rw [lowL_len] at e1 e2 e3
  refine (rU32 b t w n 0 h3 hs (by omega) (by omega)).mono ?_
  rintro e w' ⟨rfl, s1, f1⟩
  rw [show ((4 : Nat) : Int) = 4 from rfl] at e1
  rw [e1] at s1 ⊢
  exact ⟨by show Ending.returned (.int .u32 (leN (lowL v 4) : Int)) = _; rw [leN_lowL 4 v (by omega)], ⟨_, e2, e3, s1⟩, f1⟩
theorem Gr.big (v : Nat) (hv : v < 65536) (h : Gr w b t ((lowL v 2).reverse ++ Y)) (hs : t.size ≤ maxLen) : Calls Tryz.prog 125 #[.pointer (some ⟨b, 0, none⟩)] w fun e w' => e = .returned (.int .u16 (v : Int)) ∧ Gr w' b t Y ∧ Rfr b w w' := by
  obtain ⟨n, h1, h2, h3⟩ := h
  obtain ⟨e1, e2, e3⟩ := rtake_on t n (lowL v 2).reverse Y h1 h2
  rw [List.length_reverse, lowL_len] at e1 e2 e3
  refine (rBig b t w n 0 h3 hs (by omega) (by omega)).mono ?_
  rintro e w' ⟨rfl, s1, f1⟩
  rw [show ((2 : Nat) : Int) = 2 from rfl] at e1
  rw [e1] at s1 ⊢
  have hw : swap (leN (lowL v 2).reverse) = v := by
    show swap (leN [UInt8.ofNat (v / 256 % 256), UInt8.ofNat (v % 256)]) = v
    have a1 : (UInt8.ofNat (v / 256 % 256)).toNat = v / 256 := by rw [UInt8.toNat_ofNat']; omega
    have a2 : (UInt8.ofNat (v % 256)).toNat = v % 256 := by rw [UInt8.toNat_ofNat']; omega
    simp only [leN, swap, a1, a2]
    have a3 : v / 256 < 256 := by omega
    have a4 : v = 256 * (v / 256) + v % 256 := by omega
    have a5 : v % 256 < 256 := by omega
    generalize v / 256 = q at *
    generalize v % 256 = r at *
    have a6 : (q + 256 * (r + 256 * 0)) % 256 = q := by omega
    have a7 : (q + 256 * (r + 256 * 0)) / 256 = r := by omega
    rw [a6, a7]
    omega
  exact ⟨by show Ending.returned (.int .u16 (swap (leN (lowL v 2).reverse) : Int)) = _; rw [hw], ⟨_, e2, e3, s1⟩, f1⟩
theorem Gr.hash (X : List UInt8) (hX : X.length = 32) (h : Gr w b t (X ++ Y)) (hs : t.size ≤ maxLen) : Calls Tryz.prog 84 #[.pointer (some ⟨b, 0, none⟩)] w fun e w' => e = .returned (.agg (hc X)) ∧ Gr w' b t Y ∧ Rfr b w w' := by
  obtain ⟨n, h1, h2, h3⟩ := h
  obtain ⟨e1, e2, e3⟩ := rtake_on t n X Y h1 h2
  rw [hX] at e1 e2 e3
  refine (rHash b t w n 0 h3 hs (by omega) (by omega)).mono ?_
  rintro e w' ⟨rfl, s1, f1⟩
  rw [show ((32 : Nat) : Int) = 32 from rfl] at e1
  rw [e1] at s1 ⊢
  exact ⟨rfl, ⟨_, e2, e3, s1⟩, f1⟩
theorem Gr.bool (v : Bool) (h : Gr w b t (flagL v ++ Y)) (hs : t.size ≤ maxLen) : Calls Tryz.prog 89 #[.pointer (some ⟨b, 0, none⟩)] w fun e w' => e = .returned (.bool v) ∧ Gr w' b t Y ∧ Rfr b w w' := by
  obtain ⟨n, h1, h2, h3⟩ := h
  obtain ⟨e1, e2, e3⟩ := rtake_on t n (flagL v) Y h1 h2
  have hl : (flagL v).length = 1 := by unfold flagL; rw [lowL_len]
  rw [hl] at e1 e2 e3
  refine (rBool b t w n 0 h3 hs (by omega) (by omega)).mono ?_
  rintro e w' ⟨rfl, s1, f1⟩
  rw [show ((1 : Nat) : Int) = 1 from rfl] at e1
  have er : rbool t n 0 = (((n + 1 : Nat) : Int), 0, v) := by
    unfold rbool
    rw [e1]
    cases v <;> rfl
  rw [er] at s1 ⊢
  exact ⟨rfl, ⟨_, e2, e3, s1⟩, f1⟩
theorem Gr.count (c most : Nat) (hc : c ≤ 65535) (hm : c ≤ most) (h : Gr w b t (countL c ++ Y)) (hs : t.size ≤ maxLen) : Calls Tryz.prog 115 #[.pointer (some ⟨b, 0, none⟩), .int .u64 (most : Int)] w fun e w' => e = .returned (.int .u64 (c : Int)) ∧ Gr w' b t Y ∧ Rfr b w w' := by
  obtain ⟨n, h1, h2, h3⟩ := h
  obtain ⟨e1, e2, e3⟩ := takeC_on t n c Y h1 hc h2
  refine (rCount b t w n 0 most h3 hs (by omega) (by omega) (by omega)).mono ?_
  rintro e w' ⟨rfl, s1, f1⟩
  have er : rcnt t n 0 most = (((n + (countL c).length : Nat) : Int), 0, (c : Int)) := by
    unfold rcnt
    rw [e1, if_neg (by decide), if_neg (by simp), if_neg (by simp; omega)]
  rw [er] at s1 ⊢
  exact ⟨rfl, ⟨_, e2, e3, s1⟩, f1⟩
end
end Go.Proofs.YtkoidjaaojmcnaaGreat
