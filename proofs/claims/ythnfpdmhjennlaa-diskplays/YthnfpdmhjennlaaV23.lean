/- The document's Do: files behind a change. -/
import Derived.Test.YthnfpdmhjennlaaV22
namespace Go.Proofs.Ythnfpdmhjennlaa
open Go.RowKit
open Go.Deep
open Go.Lib
set_option linter.unusedVariables false
theorem ARCh : Arr 53 5 zch := ⟨.inr ⟨_, Try.underlying53⟩, by kernel_rfl, fun w => by kernel_rfl, fun w => by kernel_rfl, rfl⟩
theorem ld_cr {W : World} {g off : Nat} {c : Ch} (hr : W.rangeAt g off (chv c).toList) : (Instr.loadAt 53 (.pointer (some ⟨g, off, none⟩))).run Try.prog W = .ok (.agg (chv c)) W :=
  run_loadAt_mid W g off 53 _ _ hr Try.underlying53 rfl (by rw [ARCh.info]; rfl)
theorem wpList_loadCr {w : World} {ops : Array Oper} {rest : List Oper} {o : Oper} {a : Act} {Q : Exit → Act → World → Prop} (hgd : o.guard = none) (x : Operand) (ho : o.op = .load 53 x) (g off : Nat) (hx : a.eval x = .pointer (some ⟨g, off, none⟩)) (c : Ch) (hr : w.rangeAt g off (chv c).toList)
    (h : wpList Try.prog ops Q rest (a.put o.dst (.agg (chv c))) w) : wpList Try.prog ops Q (o :: rest) a w := by
  refine wpList_plain hgd fun K hK => ?_
  unfold Oper.wp execOp
  simp only [ho, hx, Sem.run_bind, ld_cr hr, Result.andThen_ok, Sem.run_pure]
  exact hK _ _ h
theorem run_bldFi (nm s : ByteArray) (w : World) : (Instr.build 69 #[(0, .string nm), (1, .string s)]).run Try.prog w = .ok (.agg #[.string nm, .string s]) w := by kernel_rfl
theorem run_front (s : ByteArray) (k : Nat) (hk : k ≤ s.size) (W : World) : (Instr.sliceAt 9 (.string s) none (some (.int .i64 (k : Int))) none).run Try.prog W = .ok (.string (s.extract 0 k)) W := by
  simp [Instr.sliceAt, Instr.slice, run_underlying Try.underlying9, Instr.sliceBounds, Instr.sliceBound, asIntOf, hk, Result.andThen]
theorem ls_front (s : ByteArray) (k : Nat) : ls (s.extract 0 k) = (ls s).take k := by
  simp [ls, ByteArray.data_extract, List.extract_eq_take_drop]
theorem ls_back (s : ByteArray) (k : Nat) : ls (s.extract k s.size) = (ls s).drop k := by
  simp [ls, ByteArray.data_extract, List.extract_eq_take_drop]
  exact List.take_of_length_le (by simp)
theorem ls_app (a b : ByteArray) : ls (a ++ b) = ls a ++ ls b := by simp [ls]
theorem ls_len (s : ByteArray) : (ls s).length = s.size := by simp [ls]
theorem wr8_end {l : List UInt8} {k : Nat} {s : List UInt8} (h : l.length ≤ k + s.length) : wr8 l k s = l.take k ++ s := by
  unfold wr8
  rw [List.drop_of_length_le h, List.append_nil]
theorem run_catS (a b : ByteArray) (h : (a.size : Int) + (b.size : Int) ≤ 9223372036854775807) (W : World) : (binOp .add 9 (.string a) (.string b)).run Try.prog W = .ok (.string (a ++ b)) W := by
  have h1 : ¬ (9223372036854775807 : Int) < (a.size : Int) + (b.size : Int) := by omega
  go_simp
  omega
section
variable {w : World} {o : Oper} {a : Act}
theorem ex_sliceB (x y : Operand) {t : TypeId} (ho : o.op = .slice t x (some y) none none) {vx vy r : Value} (hx : a.eval x = vx) (hy : a.eval y = vy) (hr : (Instr.sliceAt t vx (some vy) none none).run Try.prog w = .ok r w) : (execOp a.eval o).run Try.prog w = .ok (.value r) w := by
  unfold execOp
  simp only [ho, hx, hy, Option.map_some, Option.map_none, hr, Sem.run_bind, Result.andThen_ok, Sem.run_pure]
theorem ex_cat (x y : Operand) {t t' : TypeId} (ho : o.op = .binOp .add t x y t') {vx vy r : Value} (hx : a.eval x = vx) (hy : a.eval y = vy) (hr : (binOp .add t vx vy).run Try.prog w = .ok r w) : (execOp a.eval o).run Try.prog w = .ok (.value r) w := by
  unfold execOp
  have hg : (eqGuard .add t x y vx vy).run Try.prog w = .ok () w := rfl
  simp only [ho, hx, hy, hg, hr, Sem.run_bind, Result.andThen_ok, Sem.run_pure]
end
section
variable {ops : Array Oper} {o : Oper} {a : Act} {S : World → Prop}
theorem yl_bin (hw : Region.wanted o (yielded ops a.tmps) = true) {op : BinOp} {t t' : TypeId} (x y : Operand) (ho : o.op = .binOp op t x y t') (v u r : Value) (hx : a.eval x = v) (hy : a.eval y = u) (hg : ∀ W, (eqGuard op t x y v u).run Try.prog W = .ok () W) (hr : ∀ W, (binOp op t v u).run Try.prog W = .ok r W) : YieldsIf Try.prog ops S o r a :=
  .inl ⟨hw, fun W hW => by
    unfold execOp
    simp only [ho, hx, hy, hg W, hr W, Sem.run_bind, Result.andThen_ok, Sem.run_pure]⟩
end
section
set_option maxRecDepth 10000
set_option maxHeartbeats 4000000
theorem rdo_any (K : Nat → Prop) (L : List Fi) (f : FS) (v : Value) (c : Ch) (w : World) (hv : LX KFi w v L) (hr : Rep L f) (ok : okD f c) (hK : ∀ g, K g → g < w.heap.size) : Calls Try.prog 43 #[v, .agg (chv c)] w fun e w' => ∃ v' L', e = .returned v' ∧ LXK KFi K w' v' L' ∧ Rep L' (doC f c) ∧ Below w.heap.size w w' := by
  obtain ⟨kd, nm, tn, k, s⟩ := c
  have hkd : kd ≤ 3 := ok.kind
  have hpos : kd ≤ 1 → k ≤ (f.at (ls nm)).length := ok.pos
  have hsz : s.size ≤ 16777216 := ok.len
  have hol : (f.at (ls nm)).length ≤ 16777216 := ok.bd.len _
  have hl : L.length ≤ 64 := by rw [← hr.n]; exact ok.bd.n
  unfold chv
  have hB : Below w.heap.size w (w.alloc (.cells #[.int .i64 (kd : Int), .string nm, .string tn, .int .i64 (k : Int), .string s] 53)) := (Below.refl _ _).alloc (Nat.le_refl _) _
  have HB := hide hB
  have r1 := heap_alloc_last w (.cells #[.int .i64 (kd : Int), .string nm, .string tn, .int .i64 (k : Int), .string s] 53)
  have R1 := hide r1
  have H1 := hide (hv.below hB)
  have HR := hide hr
  have HL := hide hl
  have HK : Hid (∀ g, K g → g < (w.alloc (.cells #[.int .i64 (kd : Int), .string nm, .string tn, .int .i64 (k : Int), .string s] 53)).heap.size) := fun g hg => Nat.lt_of_lt_of_le (hK g hg) hB.size
  have c0 : (w.alloc (.cells #[.int .i64 (kd : Int), .string nm, .string tn, .int .i64 (k : Int), .string s] 53)).cell? ⟨w.heap.size, 0, none⟩ = some (.int .i64 (kd : Int)) := by rw [cell_of_row _ _ _ _ _ _ r1]; rfl
  have c1 : (w.alloc (.cells #[.int .i64 (kd : Int), .string nm, .string tn, .int .i64 (k : Int), .string s] 53)).cell? ⟨w.heap.size, 1, none⟩ = some (.string nm) := by rw [cell_of_row _ _ _ _ _ _ r1]; rfl
  have c2 : (w.alloc (.cells #[.int .i64 (kd : Int), .string nm, .string tn, .int .i64 (k : Int), .string s] 53)).cell? ⟨w.heap.size, 2, none⟩ = some (.string tn) := by rw [cell_of_row _ _ _ _ _ _ r1]; rfl
  have c3 : (w.alloc (.cells #[.int .i64 (kd : Int), .string nm, .string tn, .int .i64 (k : Int), .string s] 53)).cell? ⟨w.heap.size, 3, none⟩ = some (.int .i64 (k : Int)) := by rw [cell_of_row _ _ _ _ _ _ r1]; rfl
  have c4 : (w.alloc (.cells #[.int .i64 (kd : Int), .string nm, .string tn, .int .i64 (k : Int), .string s] 53)).cell? ⟨w.heap.size, 4, none⟩ = some (.string s) := by rw [cell_of_row _ _ _ _ _ _ r1]; rfl
  obtain ⟨ao, cc, rfl⟩ := hv.form
  have HF := hide (hr.find nm)
  have HKD := hide (And.intro hkd (And.intro hpos (And.intro hsz hol)))
  clear hB hv hr hl hK r1 hkd hpos hsz hol ok
  go_enter Try.func43, Try.ntmps43
  go_upto_region 1 with fail
  generalize hgb : w.heap.size = gb at *
  generalize w.alloc (.cells #[.int .i64 (kd : Int), .string nm, .string tn, .int .i64 (k : Int), .string s] 53) = W1 at *
  go_upto_region 3 with (go_at_call 49; refine (rfind_any L _ nm _ H1.out (by have := HL.out; omega)).mono ?_; rintro e W2 ⟨rfl, hw2⟩; subst W2)
  have HO : Hid (∃ old : ByteArray, ls old = f.at (ls nm)) := ⟨⟨(f.at (ls nm)).toArray⟩, by simp [ls]⟩
  rcases HF.out with ⟨g0, e0⟩ | ⟨i, hi, e0, g0⟩
  case' inl =>
    rw [e0]
    have q1 : ¬ (0 : Int) ≤ -1 := by omega
    go_upto_region 5 with fail
    obtain ⟨old, hold⟩ : ∃ old : ByteArray, old = ⟨#[]⟩ := ⟨_, rfl⟩
    rw [← hold]
    have OLD : Hid (ls old = f.at (ls nm)) := by
      show _ = _
      rw [hold]
      unfold FS.at
      rw [g0]
      rfl
    clear hold q1 HO HF e0 g0
    generalize Value.slice ao L.length cc = v1 at *
  case' inr =>
    rw [e0]
    obtain ⟨g, off, rfl⟩ := H1.out.base (by omega)
    have hrr := H1.out.range i hi
    have d1 : W1.cell? ⟨g, off + i * 2 + 1, none⟩ = some (.string L[i].s) := hrr 1 _ rfl
    have q1 : (0 : Int) ≤ (i : Int) := by omega
    have q2 : (i : Int) < L.length := by omega
    go_upto_region 5 with fail
    have OLD : Hid (ls L[i].s = f.at (ls nm)) := by
      show _ = _
      unfold FS.at
      rw [g0]
      rfl
    clear hrr d1 q1 q2 HO HF e0 g0
    generalize L[i].s = old at *
    clear hi
    generalize Value.slice (some ⟨g, off, none⟩) L.length cc = v1 at *
  all_goals
    have FINB : Hid (∀ W, Below W1.heap.size W1 W → Below w.heap.size w W) := fun W b => by
      have h1 := HB.out
      rw [← hgb] at h1
      exact below_next h1 b
    have hkd := HKD.out.1
    have KOLD : Hid (kd ≤ 1 → k ≤ old.size) := fun h => by
      have := HKD.out.2.1 h
      rw [← OLD.out, ls_len] at this
      exact this
    have OSZ : Hid (old.size ≤ 16777216) := by
      have := HKD.out.2.2.2
      rw [← OLD.out, ls_len] at this
      exact this
    have HLn := hide (show L.length ≤ 1000 by have := HL.out; omega)
    have hcs : kd = 0 ∨ kd = 1 ∨ kd = 2 ∨ kd = 3 := by omega
    clear hkd HL hgb
    rcases hcs with rfl | rfl | rfl | rfl
    · -- a write
      have KS : Hid (k ≤ old.size) := KOLD.out (by omega)
      have FE := ls_front old k
      have KF : Hid ((old.extract 0 k).size = k) := by
        show _ = _
        rw [← ls_len, ls_front, List.length_take, ls_len]
        have := KS.out
        omega
      clear FE
      have KS2 : Hid (((old.extract 0 k).size : Int) + (s.size : Int) ≤ 9223372036854775807) := by
        show _ ≤ _
        rw [KF.out]
        have := KS.out
        have := HKD.out.2.2.1
        have := OSZ.out
        omega
      have KS3 : Hid ((old.extract 0 k ++ s).size = k + s.size) := by
        show _ = _
        rw [← ls_len, ls_app, List.length_append, ls_len, ls_len, KF.out]
      have CC : Hid (∀ W : World, W.heap[gb]? = some (.cells #[.int .i64 0, .string nm, .string tn, .int .i64 (k : Int), .string s] 53 (0, 0)) → W.cell? ⟨gb, 1, none⟩ = some (.string nm) ∧ W.cell? ⟨gb, 3, none⟩ = some (.int .i64 (k : Int)) ∧ W.cell? ⟨gb, 4, none⟩ = some (.string s)) := fun W hW => by
        refine ⟨?_, ?_, ?_⟩ <;> (rw [cell_of_row _ _ _ _ _ _ hW]; rfl)
      have e1 : IntKind.i64.wrap ((k : Int) + (s.size : Int)) = (k : Int) + s.size := wrapI _ (by omega) (by have := HKD.out.2.2.1; have := OSZ.out; have := KS.out; omega)
      have q0 : (0 : Int) ≤ (k : Int) + s.size := by omega
      have c0 : W1.cell? ⟨gb, 0, none⟩ = some (.int .i64 0) := c0
      go_upto_region 8 with fail
      refine wp_region_held_drew (S := fun W => W.heap[gb]? = some (.cells #[.int .i64 0, .string nm, .string tn, .int .i64 (k : Int), .string s] 53 (0, 0))) (by kernel_rfl) R1.out (fun hH => ?_)
      refine wpAnyH_take (i := 0) (v := .string old) rfl (by kernel_rfl) (by kernel_rfl) (by kernel_rfl) (fun _ _ _ h => h) (yl_move (by rfl) _ (by rfl) _ (by rfl)) hH ?_
      change wpAnyH _ _ _ _ _ _ _ (Act.put _ (some 30) _) _
      simp only [Act.put, List.setIfInBounds_toArray, List.set_cons_zero, List.set_cons_succ]
      refine wpAnyH_take (i := 1) (v := .pointer (some ⟨gb, 3, none⟩)) rfl (by kernel_rfl) (by kernel_rfl) (by kernel_rfl) (fun _ _ _ h => h) (.inl ⟨by rfl, fun W _ => by go_simp⟩) hH ?_
      change wpAnyH _ _ _ _ _ _ _ (Act.put _ (some 31) _) _
      simp only [Act.put, List.setIfInBounds_toArray, List.set_cons_zero, List.set_cons_succ]
      refine wpAnyH_take (i := 2) (v := .int .i64 (k : Int)) rfl (by kernel_rfl) (by kernel_rfl) (by kernel_rfl) (fun _ _ _ h => h) (.inl ⟨by rfl, fun W hS => by have c4 := (CC.out W hS).2.1; go_simp⟩) hH ?_
      change wpAnyH _ _ _ _ _ _ _ (Act.put _ (some 32) _) _
      simp only [Act.put, List.setIfInBounds_toArray, List.set_cons_zero, List.set_cons_succ]
      refine wpAnyH_take (i := 3) (v := .string (old.extract 0 k)) rfl (by kernel_rfl) (by kernel_rfl) (by kernel_rfl) (fun _ _ _ h => h) (yl_slice (by rfl) _ _ _ (by rfl) _ _ (by rfl) _ _ (by rfl) (by rfl) (fun W => run_front old k KS.out W)) hH ?_
      change wpAnyH _ _ _ _ _ _ _ (Act.put _ (some 33) _) _
      simp only [Act.put, List.setIfInBounds_toArray, List.set_cons_zero, List.set_cons_succ]
      refine wpAnyH_take (i := 4) (v := .pointer (some ⟨gb, 4, none⟩)) rfl (by kernel_rfl) (by kernel_rfl) (by kernel_rfl) (fun _ _ _ h => h) (.inl ⟨by rfl, fun W _ => by go_simp⟩) hH ?_
      change wpAnyH _ _ _ _ _ _ _ (Act.put _ (some 34) _) _
      simp only [Act.put, List.setIfInBounds_toArray, List.set_cons_zero, List.set_cons_succ]
      refine wpAnyH_take (i := 5) (v := .string s) rfl (by kernel_rfl) (by kernel_rfl) (by kernel_rfl) (fun _ _ _ h => h) (.inl ⟨by rfl, fun W hS => by have c4 := (CC.out W hS).2.2; go_simp⟩) hH ?_
      change wpAnyH _ _ _ _ _ _ _ (Act.put _ (some 35) _) _
      simp only [Act.put, List.setIfInBounds_toArray, List.set_cons_zero, List.set_cons_succ]
      refine wpAnyH_take (i := 6) (v := .string (old.extract 0 k ++ s)) rfl (by kernel_rfl) (by kernel_rfl) (by kernel_rfl) (fun _ _ _ h => h) (yl_bin (by rfl) _ _ (by rfl) _ _ _ (by rfl) (by rfl) (fun W => rfl) (fun W => run_catS _ _ KS2.out W)) hH ?_
      change wpAnyH _ _ _ _ _ _ _ (Act.put _ (some 36) _) _
      simp only [Act.put, List.setIfInBounds_toArray, List.set_cons_zero, List.set_cons_succ]
      refine wpAnyH_take (i := 7) (v := .string (old.extract 0 k ++ s)) rfl (by kernel_rfl) (by kernel_rfl) (by kernel_rfl) (fun _ _ _ h => h) (.inl ⟨by rfl, fun W _ => by go_simp⟩) hH ?_
      change wpAnyH _ _ _ _ _ _ _ (Act.put _ (some 8) _) _
      simp only [Act.put, List.setIfInBounds_toArray, List.set_cons_zero, List.set_cons_succ]
      refine wpAnyH_done (by kernel_rfl) ?_ _
      clear e1 c0 c2 c3 c4
      have H2 := hide (H1.out.below ((Below.refl W1.heap.size W1).drew))
      have c1 : W1.drew.cell? ⟨gb, 1, none⟩ = some (.string nm) := c1
      have FINC : Hid (∀ W, Below W1.drew.heap.size W1.drew W → Below w.heap.size w W) := fun W b => FINB.out W (below_next (Below.refl W1.heap.size W1).drew b)
      have HK2 : Hid (∀ g, K g → g < W1.drew.heap.size) := HK.out
      generalize W1.drew = W2 at *
      by_cases hend : k + s.size < old.size
      · have q1 : (k : Int) + s.size < old.size := by omega
        have HE : Hid (ls (old.extract 0 k ++ s ++ old.extract (k + s.size) old.size) = wr8 (f.at (ls nm)) k (ls s)) := by
          show _ = _
          rw [ls_app, ls_app, ls_front, ls_back, OLD.out, ← ls_len s]
          rfl
        have rb : Hid (∀ W, (Instr.sliceAt 9 (.string old) (some (.int .i64 ((k : Int) + (s.size : Int)))) none none).run Try.prog W = .ok (.string (old.extract (k + s.size) old.size)) W) := fun W => by
          rw [← Int.natCast_add]
          exact run_from old (k + s.size) (by omega) W
        have ZB : Hid (((old.extract 0 k ++ s).size : Int) + ((old.extract (k + s.size) old.size).size : Int) ≤ 9223372036854775807) := by
          show _ ≤ _
          rw [KS3.out]
          have h1 : (old.extract (k + s.size) old.size).size ≤ old.size := by rw [← ls_len, ls_back, List.length_drop, ls_len]; omega
          have := KS.out
          have := HKD.out.2.2.1
          have := OSZ.out
          omega
        generalize old.extract 0 k ++ s = A at *
        clear OLD KOLD hend HKD OSZ KF KS2 KS3
        go_upto_region 10 with fail
        refine wp_region_lit ?_
        refine list_run (v := .string A) (w1 := W2) rfl rfl ?_
        refine list_run (v := .string old) (w1 := W2) rfl rfl ?_
        refine list_run (v := .int .i64 ((k : Int) + (s.size : Int))) (w1 := W2) rfl rfl ?_
        refine list_run rfl (ex_sliceB _ _ (by rfl) (by rfl) (by rfl) (rb.out _)) ?_
        refine list_run rfl (ex_cat _ _ (by rfl) (by rfl) (by rfl) (run_catS A _ ZB.out _)) ?_
        go_wp2_with (go_at_call 56; refine (rwith_any K L f _ nm _ _ H2.out HR.out HLn.out HK2.out).mono ?_; rintro e W3 ⟨v3, L3, rfl, k3, r3, b3⟩; have K3 := hide k3; have Q3 := hide r3; have B3 := hide b3; clear k3 r3 b3)
        go_ret
        exact ⟨_, L3, rfl, K3.out, by rw [HE.out] at Q3; exact Q3.out, FINC.out _ B3.out⟩
      · have q1 : ¬ (k : Int) + s.size < old.size := by omega
        have HE : Hid (ls (old.extract 0 k ++ s) = wr8 (f.at (ls nm)) k (ls s)) := by
          show _ = _
          rw [wr8_end (by rw [← OLD.out, ls_len, ls_len]; omega), ls_app, ls_front, OLD.out]
        clear OLD KOLD hend HKD OSZ KF KS2 KS3
        go_wp2_with (go_at_call 56; refine (rwith_any K L f _ nm _ _ H2.out HR.out HLn.out HK2.out).mono ?_; rintro e W3 ⟨v3, L3, rfl, k3, r3, b3⟩; have K3 := hide k3; have Q3 := hide r3; have B3 := hide b3; clear k3 r3 b3)
        go_ret
        exact ⟨_, L3, rfl, K3.out, by rw [HE.out] at Q3; exact Q3.out, FINC.out _ B3.out⟩
    · -- a cut
      have KS : Hid (k ≤ old.size) := KOLD.out (by omega)
      have FE : Hid (ls (old.extract 0 k) = (f.at (ls nm)).take k) := by
        show _ = _
        rw [ls_front, OLD.out]
      have CC : Hid (∀ W : World, W.heap[gb]? = some (.cells #[.int .i64 1, .string nm, .string tn, .int .i64 (k : Int), .string s] 53 (0, 0)) → W.cell? ⟨gb, 1, none⟩ = some (.string nm) ∧ W.cell? ⟨gb, 3, none⟩ = some (.int .i64 (k : Int)) ∧ W.cell? ⟨gb, 2, none⟩ = some (.string tn)) := fun W hW => by
        refine ⟨?_, ?_, ?_⟩ <;> (rw [cell_of_row _ _ _ _ _ _ hW]; rfl)
      have c0 : W1.cell? ⟨gb, 0, none⟩ = some (.int .i64 1) := c0
      go_upto_region 13 with fail
      clear c1 c2 c3 c4 c0
      refine wp_region_held_drew (S := fun W => W.heap[gb]? = some (.cells #[.int .i64 1, .string nm, .string tn, .int .i64 (k : Int), .string s] 53 (0, 0))) (by kernel_rfl) R1.out (fun hH => ?_)
      refine wpAnyH_take (i := 0) (v := v1) rfl (by kernel_rfl) (by kernel_rfl) (by kernel_rfl) (fun _ _ _ h => h) (yl_move (by rfl) _ (by rfl) _ (by rfl)) hH ?_
      change wpAnyH _ _ _ _ _ _ _ (Act.put _ (some 54) _) _
      simp only [Act.put, List.setIfInBounds_toArray, List.set_cons_zero, List.set_cons_succ]
      refine wpAnyH_take (i := 1) (v := .pointer (some ⟨gb, 1, none⟩)) rfl (by kernel_rfl) (by kernel_rfl) (by kernel_rfl) (fun _ _ _ h => h) (.inl ⟨by rfl, fun W _ => by go_simp⟩) hH ?_
      change wpAnyH _ _ _ _ _ _ _ (Act.put _ (some 55) _) _
      simp only [Act.put, List.setIfInBounds_toArray, List.set_cons_zero, List.set_cons_succ]
      refine wpAnyH_take (i := 2) (v := .string nm) rfl (by kernel_rfl) (by kernel_rfl) (by kernel_rfl) (fun _ _ _ h => h) (.inl ⟨by rfl, fun W hS => by have c4 := (CC.out W hS).1; go_simp⟩) hH ?_
      change wpAnyH _ _ _ _ _ _ _ (Act.put _ (some 56) _) _
      simp only [Act.put, List.setIfInBounds_toArray, List.set_cons_zero, List.set_cons_succ]
      refine wpAnyH_take (i := 3) (v := .string old) rfl (by kernel_rfl) (by kernel_rfl) (by kernel_rfl) (fun _ _ _ h => h) (yl_move (by rfl) _ (by rfl) _ (by rfl)) hH ?_
      change wpAnyH _ _ _ _ _ _ _ (Act.put _ (some 57) _) _
      simp only [Act.put, List.setIfInBounds_toArray, List.set_cons_zero, List.set_cons_succ]
      refine wpAnyH_take (i := 4) (v := .pointer (some ⟨gb, 3, none⟩)) rfl (by kernel_rfl) (by kernel_rfl) (by kernel_rfl) (fun _ _ _ h => h) (.inl ⟨by rfl, fun W _ => by go_simp⟩) hH ?_
      change wpAnyH _ _ _ _ _ _ _ (Act.put _ (some 58) _) _
      simp only [Act.put, List.setIfInBounds_toArray, List.set_cons_zero, List.set_cons_succ]
      refine wpAnyH_take (i := 5) (v := .int .i64 (k : Int)) rfl (by kernel_rfl) (by kernel_rfl) (by kernel_rfl) (fun _ _ _ h => h) (.inl ⟨by rfl, fun W hS => by have c4 := (CC.out W hS).2.1; go_simp⟩) hH ?_
      change wpAnyH _ _ _ _ _ _ _ (Act.put _ (some 59) _) _
      simp only [Act.put, List.setIfInBounds_toArray, List.set_cons_zero, List.set_cons_succ]
      refine wpAnyH_take (i := 6) (v := .string (old.extract 0 k)) rfl (by kernel_rfl) (by kernel_rfl) (by kernel_rfl) (fun _ _ _ h => h) (yl_slice (by rfl) _ _ _ (by rfl) _ _ (by rfl) _ _ (by rfl) (by rfl) (fun W => run_front old k KS.out W)) hH ?_
      change wpAnyH _ _ _ _ _ _ _ (Act.put _ (some 60) _) _
      simp only [Act.put, List.setIfInBounds_toArray, List.set_cons_zero, List.set_cons_succ]
      refine wpAnyH_take (i := 7) (v := .agg #[.string nm, .string (old.extract 0 k)]) rfl (by kernel_rfl) (by kernel_rfl) (by kernel_rfl) (fun _ _ _ h => h) (yl_build (by rfl) _ (by rfl) _ _ (by simp only [List.map_toArray, List.map_cons, List.map_nil]; rfl) (fun W => run_bldFi _ _ W)) hH ?_
      change wpAnyH _ _ _ _ _ _ _ (Act.put _ (some 61) _) _
      simp only [Act.put, List.setIfInBounds_toArray, List.set_cons_zero, List.set_cons_succ]
      have H2 := hide (H1.out.below ((Below.refl W1.heap.size W1).drew))
      have FINC : Hid (∀ W, Below W1.drew.heap.size W1.drew W → Below w.heap.size w W) := fun W b => FINB.out W (below_next (Below.refl W1.heap.size W1).drew b)
      have HK2 : Hid (∀ g, K g → g < W1.drew.heap.size) := HK.out
      have R2 : Hid (W1.drew.heap[gb]? = some (.cells #[.int .i64 1, .string nm, .string tn, .int .i64 (k : Int), .string s] 53 (0, 0))) := R1.out
      generalize W1.drew = W2 at *
      refine wpAnyH_ready (rs := [8]) (by kernel_rfl) (by simp) (AllReadyH.cons rfl (fun K1 hK1 => ?_) AllReadyH.nil)
      go_simp
      refine (rwith_any K L f v1 nm _ _ H2.out HR.out HLn.out HK2.out).mono ?_
      rintro e W3 ⟨v3, L3, rfl, k3, r3, b3⟩
      refine hK1.out _ _ ((b3.block _ (lt_heap R2.out)).trans R2.out) (fun hH => ?_)
      clear hK1
      refine wpAnyH_take (i := 9) (v := v3) rfl (by kernel_rfl) (by kernel_rfl) (by kernel_rfl) (fun _ _ _ h => h) (.inl ⟨by rfl, fun W _ => by go_simp⟩) hH ?_
      change wpAnyH _ _ _ _ _ _ _ (Act.put _ (some 4) _) _
      simp only [Act.put, List.setIfInBounds_toArray, List.set_cons_zero, List.set_cons_succ]
      refine wpAnyH_done (by kernel_rfl) ?_ _
      have K3 := hide k3
      have Q3 := hide r3
      have B3 := hide b3
      clear k3 r3 b3
      go_wp2
      go_ret
      exact ⟨_, L3, rfl, K3.out, by rw [FE.out] at Q3; exact Q3.out, FINC.out _ B3.out⟩
    · -- a move
      have CC : Hid (∀ W : World, W.heap[gb]? = some (.cells #[.int .i64 2, .string nm, .string tn, .int .i64 (k : Int), .string s] 53 (0, 0)) → W.cell? ⟨gb, 1, none⟩ = some (.string nm) ∧ W.cell? ⟨gb, 3, none⟩ = some (.int .i64 (k : Int)) ∧ W.cell? ⟨gb, 2, none⟩ = some (.string tn)) := fun W hW => by
        refine ⟨?_, ?_, ?_⟩ <;> (rw [cell_of_row _ _ _ _ _ _ hW]; rfl)
      have c0 : W1.cell? ⟨gb, 0, none⟩ = some (.int .i64 2) := c0
      go_upto_region 15 with fail
      clear c1 c2 c3 c4 c0
      refine wp_region_held_drew (S := fun W => W.heap[gb]? = some (.cells #[.int .i64 2, .string nm, .string tn, .int .i64 (k : Int), .string s] 53 (0, 0))) (by kernel_rfl) R1.out (fun hH => ?_)
      refine wpAnyH_take (i := 0) (v := v1) rfl (by kernel_rfl) (by kernel_rfl) (by kernel_rfl) (fun _ _ _ h => h) (yl_move (by rfl) _ (by rfl) _ (by rfl)) hH ?_
      change wpAnyH _ _ _ _ _ _ _ (Act.put _ (some 65) _) _
      simp only [Act.put, List.setIfInBounds_toArray, List.set_cons_zero, List.set_cons_succ]
      refine wpAnyH_take (i := 1) (v := .pointer (some ⟨gb, 1, none⟩)) rfl (by kernel_rfl) (by kernel_rfl) (by kernel_rfl) (fun _ _ _ h => h) (.inl ⟨by rfl, fun W _ => by go_simp⟩) hH ?_
      change wpAnyH _ _ _ _ _ _ _ (Act.put _ (some 66) _) _
      simp only [Act.put, List.setIfInBounds_toArray, List.set_cons_zero, List.set_cons_succ]
      refine wpAnyH_take (i := 2) (v := .string nm) rfl (by kernel_rfl) (by kernel_rfl) (by kernel_rfl) (fun _ _ _ h => h) (.inl ⟨by rfl, fun W hS => by have c4 := (CC.out W hS).1; go_simp⟩) hH ?_
      change wpAnyH _ _ _ _ _ _ _ (Act.put _ (some 67) _) _
      simp only [Act.put, List.setIfInBounds_toArray, List.set_cons_zero, List.set_cons_succ]
      refine wpAnyH_take (i := 4) (v := .pointer (some ⟨gb, 2, none⟩)) rfl (by kernel_rfl) (by kernel_rfl) (by kernel_rfl) (fun _ _ _ h => h) (.inl ⟨by rfl, fun W _ => by go_simp⟩) hH ?_
      change wpAnyH _ _ _ _ _ _ _ (Act.put _ (some 69) _) _
      simp only [Act.put, List.setIfInBounds_toArray, List.set_cons_zero, List.set_cons_succ]
      refine wpAnyH_take (i := 5) (v := .string tn) rfl (by kernel_rfl) (by kernel_rfl) (by kernel_rfl) (fun _ _ _ h => h) (.inl ⟨by rfl, fun W hS => by have c4 := (CC.out W hS).2.2; go_simp⟩) hH ?_
      change wpAnyH _ _ _ _ _ _ _ (Act.put _ (some 70) _) _
      simp only [Act.put, List.setIfInBounds_toArray, List.set_cons_zero, List.set_cons_succ]
      refine wpAnyH_take (i := 6) (v := .string old) rfl (by kernel_rfl) (by kernel_rfl) (by kernel_rfl) (fun _ _ _ h => h) (yl_move (by rfl) _ (by rfl) _ (by rfl)) hH ?_
      change wpAnyH _ _ _ _ _ _ _ (Act.put _ (some 71) _) _
      simp only [Act.put, List.setIfInBounds_toArray, List.set_cons_zero, List.set_cons_succ]
      refine wpAnyH_take (i := 7) (v := .agg #[.string tn, .string old]) rfl (by kernel_rfl) (by kernel_rfl) (by kernel_rfl) (fun _ _ _ h => h) (yl_build (by rfl) _ (by rfl) _ _ (by simp only [List.map_toArray, List.map_cons, List.map_nil]; rfl) (fun W => run_bldFi _ _ W)) hH ?_
      change wpAnyH _ _ _ _ _ _ _ (Act.put _ (some 72) _) _
      simp only [Act.put, List.setIfInBounds_toArray, List.set_cons_zero, List.set_cons_succ]
      have H2 := hide (H1.out.below ((Below.refl W1.heap.size W1).drew))
      have FINC : Hid (∀ W, Below W1.drew.heap.size W1.drew W → Below w.heap.size w W) := fun W b => FINB.out W (below_next (Below.refl W1.heap.size W1).drew b)
      have HK2 : Hid (∀ g, K g → g < W1.drew.heap.size) := HK.out
      have R2 : Hid (W1.drew.heap[gb]? = some (.cells #[.int .i64 2, .string nm, .string tn, .int .i64 (k : Int), .string s] 53 (0, 0))) := R1.out
      generalize W1.drew = W2 at *
      refine wpAnyH_ready (rs := [3]) (by kernel_rfl) (by simp) (AllReadyH.cons rfl (fun K1 hK1 => ?_) AllReadyH.nil)
      go_simp
      refine (rwithout_any L v1 nm _ H2.out (by have := HLn.out; omega)).mono ?_
      rintro e W3 ⟨v3, rfl, o3, f3, b3⟩
      have R3 := hide ((b3.block _ (lt_heap R2.out)).trans R2.out)
      refine hK1.out _ _ R3.out (fun hH => ?_)
      clear hK1
      refine wpAnyH_ready (rs := [8]) (by kernel_rfl) (by simp) (AllReadyH.cons rfl (fun K1 hK1 => ?_) AllReadyH.nil)
      go_simp
      refine (rwith_any K (woL L nm) (f.del (ls nm)) v3 tn old _ o3.read (HR.out.wo nm) (by have := HLn.out; have := wo_le L nm; omega) (fun g hg => Nat.lt_of_lt_of_le (HK2.out g hg) b3.size)).mono ?_
      rintro e W4 ⟨v4, L4, rfl, k4, r4, b4⟩
      refine hK1.out _ _ ((b4.block _ (lt_heap R3.out)).trans R3.out) (fun hH => ?_)
      clear hK1
      refine wpAnyH_take (i := 9) (v := v4) rfl (by kernel_rfl) (by kernel_rfl) (by kernel_rfl) (fun _ _ _ h => h) (.inl ⟨by rfl, fun W _ => by go_simp⟩) hH ?_
      change wpAnyH _ _ _ _ _ _ _ (Act.put _ (some 4) _) _
      simp only [Act.put, List.setIfInBounds_toArray, List.set_cons_zero, List.set_cons_succ]
      refine wpAnyH_done (by kernel_rfl) ?_ _
      have K4 := hide k4
      have Q4 := hide r4
      have B4 := hide (below_next b3 b4)
      clear k4 r4 b3 b4 o3 f3
      go_wp2
      go_ret
      exact ⟨_, L4, rfl, K4.out, by rw [OLD.out] at Q4; exact Q4.out, FINC.out _ B4.out⟩
    · -- a removal
      have c0 : W1.cell? ⟨gb, 0, none⟩ = some (.int .i64 3) := c0
      go_wp2_with (go_at_call 57; refine (rwithout_any L v1 nm _ H1.out (by have := HLn.out; omega)).mono ?_; rintro e W3 ⟨v3, rfl, o3, f3, b3⟩; have J3 : Hid (Lw KFi W1 W3 v3 (woL L nm)) := ⟨o3, f3, b3⟩; clear o3 f3 b3)
      go_ret
      exact ⟨_, _, rfl, J3.out.lxk HK.out, HR.out.wo nm, FINB.out _ J3.out.bel⟩
end
end Go.Proofs.Ythnfpdmhjennlaa
