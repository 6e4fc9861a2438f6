/- Which of two points stands ahead: tx.Less, the law's less: their contracts. -/
import Derived.Test.YtfldpejdpinppaaKxa
import Derived.Lib.BytesEntry
namespace Go.Proofs.Ytfldpejdpinppaa
open Go.RowKit
open Go.Deep
set_option linter.unusedVariables false
theorem load_bytes (w : World) (g off : Nat) (l : List UInt8) (h : w.rangeAt g off (cellsL l)) : (Extern.Bytes.loadBytes ⟨g, off, none⟩ l.length .empty).run Try.prog w = .ok (txt l) w := by
  have hl := Lib.run_loadBytesX (P := Try.prog) w (l.map fun b => (b.toNat : Int)) ⟨g, off, none⟩ .empty (fun j x hj => by
    have e : (⟨g, off, none⟩ : Addr).add j = ⟨g, off + j, none⟩ := by unfold Addr.add; split <;> simp_all
    rw [e]
    refine h j _ ?_
    rw [List.getElem?_map] at hj
    cases hq : l[j]? with
    | none => rw [hq] at hj; cases hj
    | some b =>
      rw [hq] at hj
      simp only [Option.map_some, Option.some.injEq] at hj
      simp only [cellsL, List.getElem?_map, hq, Option.map_some, ← hj])
  rw [List.length_map] at hl
  rw [hl]
  congr 1
  apply ByteArray.ext
  show (#[] : Array UInt8) ++ _ = l.toArray
  simp only [Lib.bytesOf, List.map_map, Array.empty_append]
  congr 1
  exact (List.map_congr_left (g := id) (fun b _ => by simp)).trans (List.map_id l)
theorem compare_run (w : World) (g h oa ob : Nat) (x y : List UInt8) (hx : w.rangeAt g oa (cellsL x)) (hy : w.rangeAt h ob (cellsL y)) (n m : Nat) (hn : n = x.length) (hm : m = y.length) (c d : Nat) : (callFunc 55 #[.slice (some ⟨g, oa, none⟩) n c, .slice (some ⟨h, ob, none⟩) m d]).run Try.prog w = .ok (.value (.int .i64 (Lib.compareBytes x y))) w := by
  subst hn hm
  have e : (Extern.BytealgCompare.compare #[.slice (some ⟨g, oa, none⟩) x.length c, .slice (some ⟨h, ob, none⟩) y.length d]).run Try.prog w = .ok (.int .i64 (Lib.compareBytes x y)) w := by
    change Sem.run Try.prog (do pure (goInt (Extern.BytealgCompare.cmp (← Extern.Bytes.loadBytes ⟨g, oa, none⟩ x.length .empty) (← Extern.Bytes.loadBytes ⟨h, ob, none⟩ y.length .empty)))) w = _
    simp only [Sem.run_bind, load_bytes w g oa x hx, load_bytes w h ob y hy, Sem.run_pure, Result.andThen]
    rw [Lib.cmp_eq, show (txt x).data.toList = x by simp [txt], show (txt y).data.toList = y by simp [txt]]
    rfl
  rw [run_callFunc_extern Try.func55 (by kernel_rfl) (by kernel_rfl) (by kernel_rfl) (e := Extern.BytealgCompare.compare) (by kernel_rfl), e]
  rfl
theorem bless (a b : List UInt8) : Op.bytesLess a b = decide (Lib.compareBytes a b < 0) := by
  induction a generalizing b with
  | nil => cases b <;> simp [Op.bytesLess, Lib.compareBytes]
  | cons x r ih =>
    cases b with
    | nil => simp [Op.bytesLess, Lib.compareBytes]
    | cons y t =>
      rw [Op.bytesLess, Lib.compareBytes]
      by_cases h1 : x < y
      · simp [h1]
      · by_cases h2 : y < x
        · simp [h1, h2]
          rintro rfl
          exact absurd h2 h1
        · simp [h1, h2, ih t]
          intro _
          have e1 : ¬ x.toNat < y.toNat := fun h => h1 (UInt8.lt_iff_toNat_lt.2 h)
          have e2 : ¬ y.toNat < x.toNat := fun h => h2 (UInt8.lt_iff_toNat_lt.2 h)
          exact UInt8.toNat_inj.1 (by omega)
section
set_option maxRecDepth 10000
set_option maxHeartbeats 4000000
theorem bcompare_any (w : World) (g h oa ob : Nat) (x y : List UInt8) (hx : w.rangeAt g oa (cellsL x)) (hy : w.rangeAt h ob (cellsL y)) (n m : Nat) (hn : n = x.length) (hm : m = y.length) (c d : Nat) : Calls Try.prog 39 #[.slice (some ⟨g, oa, none⟩) n c, .slice (some ⟨h, ob, none⟩) m d] w fun e w' => e = .returned (.int .i64 (Lib.compareBytes x y)) ∧ w' = w := by
  have hr := compare_run w g h oa ob x y hx hy n m hn hm c d
  clear hx hy hn hm
  generalize Lib.compareBytes x y = r at *
  go_enter Try.func39, Try.ntmps39
  go_wp2
  go_ret
  exact ⟨rfl, rfl⟩
/-- Does a point stand ahead of another? -/
def lessB (p q : Tp) : Bool := if p.hash = q.hash then decide ((p.idx.toNat : Int) < (q.idx.toNat : Int)) else decide (Lib.compareBytes p.hash q.hash < 0)
theorem less_any (p q : Tp) (w : World) : Calls Try.prog 22 #[.agg p.cells.toArray, .agg q.cells.toArray] w fun e w' => e = .returned (.bool (lessB p q)) ∧ Below w.heap.size w w' := by
  have e1 := heap_alloc_last w (.cells p.cells.toArray 58)
  have r1 := (Below.heap_alloc _ (.cells q.cells.toArray 58) _ (lt_heap e1)).trans e1
  have r2 := heap_alloc_last (w.alloc (.cells p.cells.toArray 58)) (.cells q.cells.toArray 58)
  have hsz : (w.alloc (.cells p.cells.toArray 58)).heap.size = w.heap.size + 1 := by simp
  rw [hsz] at r2
  have B0 : Hid (Below w.heap.size w ((w.alloc (.cells p.cells.toArray 58)).alloc (.cells q.cells.toArray 58))) := ((Below.refl _ _).alloc (Nat.le_refl _) _).alloc (by simp) _
  have RA : Hid (∀ W : World, W.heap[w.heap.size]? = some (.cells p.cells.toArray 58 (0, 0)) → W.rangeAt w.heap.size 0 (cellsL p.hash)) := fun W h => fun j v hv => (rowAt _ h) j v (by rw [Tp.cells, List.getElem?_append_left (List.getElem?_eq_some_iff.1 hv).1]; exact hv)
  have RB : Hid (∀ W : World, W.heap[w.heap.size + 1]? = some (.cells q.cells.toArray 58 (0, 0)) → W.rangeAt (w.heap.size + 1) 0 (cellsL q.hash)) := fun W h => fun j v hv => (rowAt _ h) j v (by rw [Tp.cells, List.getElem?_append_left (List.getElem?_eq_some_iff.1 hv).1]; exact hv)
  have R1 := hide r1
  have R2 := hide r2
  have c1 := cell_of_row _ _ 32 _ _ _ r1
  have c2 := cell_of_row _ _ 32 _ _ _ r2
  rw [p.idx_at] at c1
  rw [q.idx_at] at c2
  have EQ := hide (fun W => eqC_bytes p.hash q.hash 32 p.hh q.hh 52 Try.underlying52 9998 W)
  obtain ⟨res, hres⟩ : ∃ r : Bool, r = lessB p q := ⟨_, rfl⟩
  rw [← hres]
  unfold lessB at hres
  clear e1 r1 r2
  have PH := hide p.hh
  have QH := hide q.hh
  generalize hP : p.cells.toArray = CP at *
  generalize hQ : q.cells.toArray = CQ at *
  clear hP hQ
  go_enter Try.func22, Try.ntmps22
  go_upto_region 1 with ((with_reducible refine at_list ?_); first | refine wpList_boxA rfl _ rfl CP rfl ?_ | refine wpList_boxA rfl _ rfl CQ rfl ?_)
  try rw [hsz]
  clear hsz
  generalize (w.alloc (.cells CP 58)).alloc (.cells CQ 58) = W0 at *
  have GA := hide (RA.out _ R1.out)
  have GB := hide (RB.out _ R2.out)
  have HLA := hide (ld_hash p.hash p.hh GA.out)
  have HCM : Hid (∀ W, W.rangeAt w.heap.size 0 (cellsL p.hash) → W.rangeAt (w.heap.size + 1) 0 (cellsL q.hash) → Calls Try.prog 39 #[.slice (some ⟨w.heap.size, 0, none⟩) 32 32, .slice (some ⟨w.heap.size + 1, 0, none⟩) 32 32] W fun e w' => e = .returned (.int .i64 (Lib.compareBytes p.hash q.hash)) ∧ w' = W) := fun W h1 h2 => bcompare_any W _ _ 0 0 p.hash q.hash h1 h2 32 32 PH.out.symm QH.out.symm 32 32
  have HG : Try.prog.eqGuardType Try.prog.depth 52 = false := by kernel_rfl
  by_cases hh : p.hash = q.hash
  · rw [if_pos hh] at hres
    have EQ2 : Hid (∀ W, (Op.equalIn 10000 52 (.agg (hc p.hash)) (.agg (hc q.hash))).run Try.prog W = .ok true W) := fun W => by
      have := EQ.out W
      rw [show (p.hash == q.hash) = true by simp [hh]] at this
      exact this
    clear hh EQ HCM
    generalize (p.idx.toNat : Int) = i1 at *
    generalize (q.idx.toNat : Int) = i2 at *
    subst hres
    go_wp2_with ((with_reducible refine at_list ?_); first | refine wpLoadHash _ rfl w.heap.size 0 rfl p.hash PH.out GA.out (by rfl) ?_ | refine wpLoadHash _ rfl (w.heap.size + 1) 0 rfl q.hash QH.out GB.out (by rfl) ?_ | refine wpList_neq 52 _ _ _ rfl (hc p.hash) (hc q.hash) rfl rfl (by rfl) HG true EQ2.out ?_)
    go_ret
    exact ⟨rfl, B0.out⟩
  · rw [if_neg hh] at hres
    have EQ2 : Hid (∀ W, (Op.equalIn 10000 52 (.agg (hc p.hash)) (.agg (hc q.hash))).run Try.prog W = .ok false W) := fun W => by
      have := EQ.out W
      rw [show (p.hash == q.hash) = false by simp [hh]] at this
      exact this
    clear hh EQ
    generalize Lib.compareBytes p.hash q.hash = cb at *
    subst hres
    go_upto_region 2 with ((with_reducible refine at_list ?_); first | refine wpLoadHash _ rfl w.heap.size 0 rfl p.hash PH.out GA.out (by rfl) ?_ | refine wpLoadHash _ rfl (w.heap.size + 1) 0 rfl q.hash QH.out GB.out (by rfl) ?_ | refine wpList_neq 52 _ _ _ rfl (hc p.hash) (hc q.hash) rfl rfl (by rfl) HG false EQ2.out ?_)
    have GD : Hid (∀ n, (W0.drewN n).rangeAt w.heap.size 0 (cellsL p.hash) ∧ (W0.drewN n).rangeAt (w.heap.size + 1) 0 (cellsL q.hash)) := fun n => ⟨GA.out, GB.out⟩
    go_quiet (first | (go_at_call 39; exact Calls.quiet_of_same (HCM.out _ (by first | exact GA.out | exact (GD.out _).1) (by first | exact GB.out | exact (GD.out _).2))))
    have BF := hide (below_drewN B0.out nq)
    go_wp2
    go_ret
    exact ⟨rfl, BF.out⟩
theorem lless_any (p q : Tp) (w : World) : Calls Try.prog 23 #[.agg p.cells.toArray, .agg q.cells.toArray] w fun e w' => e = .returned (.bool (lessB p q)) ∧ Below w.heap.size w w' := by
  have e1 := heap_alloc_last w (.cells p.cells.toArray 58)
  have r1 := (Below.heap_alloc _ (.cells q.cells.toArray 58) _ (lt_heap e1)).trans e1
  have r2 := heap_alloc_last (w.alloc (.cells p.cells.toArray 58)) (.cells q.cells.toArray 58)
  have hsz : (w.alloc (.cells p.cells.toArray 58)).heap.size = w.heap.size + 1 := by simp
  rw [hsz] at r2
  have B0 : Hid (Below w.heap.size w ((w.alloc (.cells p.cells.toArray 58)).alloc (.cells q.cells.toArray 58))) := ((Below.refl _ _).alloc (Nat.le_refl _) _).alloc (by simp) _
  have GA : Hid (((w.alloc (.cells p.cells.toArray 58)).alloc (.cells q.cells.toArray 58)).rangeAt w.heap.size 0 (cellsL p.hash)) := fun j v hv => (rowAt _ r1) j v (by rw [Tp.cells, List.getElem?_append_left (List.getElem?_eq_some_iff.1 hv).1]; exact hv)
  have GB : Hid (((w.alloc (.cells p.cells.toArray 58)).alloc (.cells q.cells.toArray 58)).rangeAt (w.heap.size + 1) 0 (cellsL q.hash)) := fun j v hv => (rowAt _ r2) j v (by rw [Tp.cells, List.getElem?_append_left (List.getElem?_eq_some_iff.1 hv).1]; exact hv)
  have c1 := cell_of_row _ _ 32 _ _ _ r1
  have c2 := cell_of_row _ _ 32 _ _ _ r2
  rw [p.idx_at] at c1
  rw [q.idx_at] at c2
  obtain ⟨res, hres⟩ : ∃ r : Bool, r = lessB p q := ⟨_, rfl⟩
  rw [← hres]
  unfold lessB at hres
  clear e1 r1 r2
  have PH := hide p.hh
  have QH := hide q.hh
  generalize hP : p.cells.toArray = CP at *
  generalize hQ : q.cells.toArray = CQ at *
  clear hP hQ
  go_enter Try.func23, Try.ntmps23
  go_upto_region 1 with ((with_reducible refine at_list ?_); first | refine wpList_boxA rfl _ rfl CP rfl ?_ | refine wpList_boxA rfl _ rfl CQ rfl ?_)
  try rw [hsz]
  clear hsz
  generalize (w.alloc (.cells CP 58)).alloc (.cells CQ 58) = W0 at *
  have CV1 := conv_mid W0 w.heap.size 0 p.hash GA.out 32 PH.out.symm
  have CV2 := conv_mid W0 (w.heap.size + 1) 0 q.hash GB.out 32 QH.out.symm
  have CW1 : ∀ n, (convert 91 9 (.slice (some ⟨w.heap.size, 0, none⟩) 32 32)).run Try.prog (W0.drewN n) = .ok (.string ⟨p.hash.toArray⟩) (W0.drewN n) := fun n => conv_mid (W0.drewN n) w.heap.size 0 p.hash GA.out 32 PH.out.symm
  have CW2 : ∀ n, (convert 91 9 (.slice (some ⟨w.heap.size + 1, 0, none⟩) 32 32)).run Try.prog (W0.drewN n) = .ok (.string ⟨q.hash.toArray⟩) (W0.drewN n) := fun n => conv_mid (W0.drewN n) (w.heap.size + 1) 0 q.hash GB.out 32 QH.out.symm
  go_quiet (fail)
  have BF := hide (below_drewN B0.out nq)
  have d1 : (W0.drewN nq).cell? ⟨w.heap.size, 32, none⟩ = some (.int .u32 (p.idx.toNat : Int)) := c1
  have d2 : (W0.drewN nq).cell? ⟨w.heap.size + 1, 32, none⟩ = some (.int .u32 (q.idx.toNat : Int)) := c2
  have GA1 : Hid ((W0.drewN nq).rangeAt w.heap.size 0 (cellsL p.hash)) := GA.out
  have GB1 : Hid ((W0.drewN nq).rangeAt (w.heap.size + 1) 0 (cellsL q.hash)) := GB.out
  clear CV1 CV2 CW1 CW2 c1 c2 GA GB B0
  generalize W0.drewN nq = W1 at *
  by_cases hh : p.hash = q.hash
  · rw [if_pos hh] at hres
    have hb : (p.hash == q.hash) = true := by simp [hh]
    clear hh
    generalize (p.idx.toNat : Int) = i1 at *
    generalize (q.idx.toNat : Int) = i2 at *
    generalize (p.hash == q.hash) = bb at *
    subst hb
    subst hres
    go_wp2
    go_ret
    exact ⟨rfl, BF.out⟩
  · rw [if_neg hh] at hres
    have hb : (p.hash == q.hash) = false := by simp [hh]
    clear hh d1 d2
    have HR := hide hres
    clear hres
    generalize (p.hash == q.hash) = bb at *
    subst hb
    go_upto_region 2 with fail
    have CV1 := conv_mid W1 w.heap.size 0 p.hash GA1.out 32 PH.out.symm
    have CV2 := conv_mid W1 (w.heap.size + 1) 0 q.hash GB1.out 32 QH.out.symm
    have CW1 : ∀ n, (convert 91 9 (.slice (some ⟨w.heap.size, 0, none⟩) 32 32)).run Try.prog (W1.drewN n) = .ok (.string ⟨p.hash.toArray⟩) (W1.drewN n) := fun n => conv_mid (W1.drewN n) w.heap.size 0 p.hash GA1.out 32 PH.out.symm
    have CW2 : ∀ n, (convert 91 9 (.slice (some ⟨w.heap.size + 1, 0, none⟩) 32 32)).run Try.prog (W1.drewN n) = .ok (.string ⟨q.hash.toArray⟩) (W1.drewN n) := fun n => conv_mid (W1.drewN n) (w.heap.size + 1) 0 q.hash GB1.out 32 QH.out.symm
    go_quiet (fail)
    have BF2 := hide (below_drewN BF.out nq)
    rw [← bless] at HR
    go_wp2
    go_ret
    exact ⟨by rw [HR.out]; rfl, BF2.out⟩
end
end Go.Proofs.Ytfldpejdpinppaa
