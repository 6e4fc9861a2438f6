/- The contracts of Pair and of the document's Pair. -/
import Derived.Test.YtlfgeaechckalaaDoorMa
namespace Go.Proofs.YtlfgeaechckalaaDoor
open Go.RowKit
open Go.Deep
/-- The digest of two ids' bytes. -/
def pr (a b : List UInt8) : List UInt8 := digest (digest (a ++ b))
theorem pr_len (a b : List UInt8) : (pr a b).length = 32 := digest_len _
theorem bs_size (a : List UInt8) : (⟨a.toArray⟩ : ByteArray).size = a.length := by
  show a.toArray.size = _
  simp
theorem bs_app (a b : List UInt8) : (⟨a.toArray⟩ : ByteArray) ++ ⟨b.toArray⟩ = ⟨(a ++ b).toArray⟩ := by
  apply ByteArray.ext
  rw [ByteArray.data_append]
  simp
theorem Kg.drew {w : World} (h : Kg w) : Kg w.drew := h
/-- Two ids, and an answer's place. -/
structure Pj (w W : World) (t : TypeId) (a b : List UInt8) : Prop where
  a : W.heap[w.heap.size]? = some (.cells (hc a) t (0, 0))
  b : W.heap[w.heap.size + 1]? = some (.cells (hc b) t (0, 0))
  r : W.heap[w.heap.size + 1 + 1]? = some (.cells (hc zeros) t (0, 0))
  bel : Below w.heap.size w W
theorem Pj.start (w : World) (t : TypeId) (a b : List UInt8) : Pj w (((w.alloc (.cells (hc a) t)).alloc (.cells (hc b) t)).alloc (.cells (hc zeros) t)) t a b := by
  obtain ⟨e1, e2, e3⟩ := blk3 w (.cells (hc a) t) (.cells (hc b) t) (.cells (hc zeros) t)
  exact ⟨e1, e2, e3, below3 w _ _ _⟩
theorem Pj.next {w W W' : World} {t : TypeId} {a b : List UInt8} (j : Pj w W t a b) (h : Below W.heap.size W W') : Pj w W' t a b :=
  ⟨(h.block _ (lt_heap j.a)).trans j.a, (h.block _ (lt_heap j.b)).trans j.b, (h.block _ (lt_heap j.r)).trans j.r, below_next j.bel h⟩
theorem Pj.drew {w W : World} {t : TypeId} {a b : List UInt8} (j : Pj w W t a b) : Pj w W.drew t a b := ⟨j.a, j.b, j.r, j.bel.drew⟩
def svh (x y : Value) : Sem Unit := Instr.storeAt 25 x y
theorem svh_eq (x y : Value) : Instr.storeAt 25 x y = svh x y := rfl
def svg (x y : Value) : Sem Unit := Instr.storeAt 24 x y
theorem svg_eq (x y : Value) : Instr.storeAt 24 x y = svg x y := rfl
theorem svh_row {w : World} {g : Nat} {t : TypeId} {c d : List UInt8} (hg : w.heap[g]? = some (.cells (hc c) t (0, 0))) (hl : c.length = 32) (hd : d.length = 32) : (svh (.pointer (some ⟨g, 0, none⟩)) (.agg (hc d))).run Tryd.prog w = .ok () (w.setRow g (hc d)) := by
  unfold svh
  simp only [Instr.storeAt, Instr.sureAddr, Sem.run_bind, Sem.run_pure, Result.andThen_ok]
  rw [run_storeVar_row w g t 25 (hc c) (hc d) hg (by rw [A25.info, hc_size, hd]) (by rw [hc_size, hc_size, hl, hd]) (hc_one _)]
theorem svg_row {w : World} {g : Nat} {t : TypeId} {c d : List UInt8} (hg : w.heap[g]? = some (.cells (hc c) t (0, 0))) (hl : c.length = 32) (hd : d.length = 32) : (svg (.pointer (some ⟨g, 0, none⟩)) (.agg (hc d))).run Tryd.prog w = .ok () (w.setRow g (hc d)) := by
  unfold svg
  simp only [Instr.storeAt, Instr.sureAddr, Sem.run_bind, Sem.run_pure, Result.andThen_ok]
  rw [run_storeVar_row w g t 24 (hc c) (hc d) hg (by rw [A24.info, hc_size, hd]) (by rw [hc_size, hc_size, hl, hd]) (hc_one _)]
attribute [local go_sem ↓] svh_eq svg_eq
section
set_option maxRecDepth 10000
set_option maxHeartbeats 2000000
theorem pair_any (a b : List UInt8) (ha : a.length = 32) (hb : b.length = 32) (w : World) (hK : Kg w) : Calls Tryd.prog 18 #[.agg (hc a), .agg (hc b)] w fun e w' => e = .returned (.agg (hc (pr a b))) ∧ Below w.heap.size w w' := by
  have J0 := hide (Pj.start w 25 a b)
  have HT : Hid (∀ W, Kg W → Calls Tryd.prog 35 #[.string ⟨(a ++ b).toArray⟩] W fun e w' => e = .returned (.agg (hc (pr a b))) ∧ Below W.heap.size W w') := fun W hW => twice_any ⟨(a ++ b).toArray⟩ (by rw [bs_size, List.length_append]; omega) W hW
  have hpl := pr_len a b
  have HK := hide (hK.next J0.out.bel)
  have app := bs_app a b
  have sz : ¬ 9223372036854775807 < (⟨a.toArray⟩ : ByteArray).size + (⟨b.toArray⟩ : ByteArray).size := by rw [bs_size, bs_size]; omega
  have HL := hide (And.intro ha (And.intro hb hpl))
  generalize (⟨(a ++ b).toArray⟩ : ByteArray) = S at *
  generalize hp : pr a b = p at *
  clear hp hK
  go_enter Tryd.func18, Tryd.ntmps18
  go_upto_region 1 with (first | refine wpList_boxA rfl _ rfl (hc a) rfl ?_ | refine wpList_boxA rfl _ rfl (hc b) rfl ?_ | refine wpList_allocA A25 rfl rfl ?_)
  generalize ((w.alloc (.cells (hc a) 25)).alloc (.cells (hc b) 25)).alloc (.cells (hc zeros) 25) = W0 at *
  have c1 := conv_row W0.drew w.heap.size a ha 25 J0.out.a
  have c2 := conv_row W0.drew (w.heap.size + 1) b hb 25 J0.out.b
  generalize hA : (⟨a.toArray⟩ : ByteArray) = A at *
  generalize hB : (⟨b.toArray⟩ : ByteArray) = B at *
  clear ha hb hpl hA hB
  go_region_with (go_at_call 35; refine (HT.out _ (Kg.drew HK.out)).mono ?_; rintro e w1 ⟨rfl, be⟩; have J1 := hide (J0.out.drew.next be); have s1 := svh_row J1.out.r zeros_len HL.out.2.2; clear be)
  all_goals
    go_wp2
    exact bodyPost_ret (v := .agg (hc p)) (resA A25 Tryd.results18 _ _ (w.heap.size + 1 + 1) 25 _ (by rw [hc_size, HL.out.2.2]) rfl (setRow_heap _ _ _ _ _ _ J1.out.r)) rfl ⟨rfl, below_setRow J1.out.bel (by omega) _⟩
theorem rpair_any (a b : List UInt8) (ha : a.length = 32) (hb : b.length = 32) (w : World) : Calls Tryd.prog 19 #[.agg (hc a), .agg (hc b)] w fun e w' => e = .returned (.agg (hc (pr a b))) ∧ Below w.heap.size w w' := by
  have J0 := hide (Pj.start w 24 a b)
  have HT : Hid (∀ W, Calls Tryd.prog 36 #[.string ⟨(a ++ b).toArray⟩] W fun e w' => e = .returned (.agg (hc (pr a b))) ∧ Below W.heap.size W w') := fun W => rtwice_any ⟨(a ++ b).toArray⟩ (by rw [bs_size, List.length_append]; omega) W
  have hpl := pr_len a b
  have app := bs_app a b
  have sz : ¬ 9223372036854775807 < (⟨a.toArray⟩ : ByteArray).size + (⟨b.toArray⟩ : ByteArray).size := by rw [bs_size, bs_size]; omega
  have HL := hide (And.intro ha (And.intro hb hpl))
  generalize (⟨(a ++ b).toArray⟩ : ByteArray) = S at *
  generalize hp : pr a b = p at *
  clear hp
  go_enter Tryd.func19, Tryd.ntmps19
  go_upto_region 1 with (first | refine wpList_boxA rfl _ rfl (hc a) rfl ?_ | refine wpList_boxA rfl _ rfl (hc b) rfl ?_ | refine wpList_allocA A24 rfl rfl ?_)
  generalize ((w.alloc (.cells (hc a) 24)).alloc (.cells (hc b) 24)).alloc (.cells (hc zeros) 24) = W0 at *
  have c1 := conv_row W0.drew w.heap.size a ha 24 J0.out.a
  have c2 := conv_row W0.drew (w.heap.size + 1) b hb 24 J0.out.b
  generalize hA : (⟨a.toArray⟩ : ByteArray) = A at *
  generalize hB : (⟨b.toArray⟩ : ByteArray) = B at *
  clear ha hb hpl hA hB
  go_region_with (go_at_call 36; refine (HT.out _).mono ?_; rintro e w1 ⟨rfl, be⟩; have J1 := hide (J0.out.drew.next be); have s1 := svg_row J1.out.r zeros_len HL.out.2.2; clear be)
  all_goals
    go_wp2
    exact bodyPost_ret (v := .agg (hc p)) (resA A24 Tryd.results19 _ _ (w.heap.size + 1 + 1) 24 _ (by rw [hc_size, HL.out.2.2]) rfl (setRow_heap _ _ _ _ _ _ J1.out.r)) rfl ⟨rfl, below_setRow J1.out.bel (by omega) _⟩
end
end Go.Proofs.YtlfgeaechckalaaDoor
