/- The sum by a key: the contracts of Key and of the document's Key. -/
import Derived.Test.YtempdhoccilhdaaDoorQ
namespace Go.Proofs.YtempdhoccilhdaaDoor
open Go.RowKit
open Go.Deep
def kin (k : List UInt8) : List UInt8 := maskL (pad64 (keyS k)) 54
def kout (k : List UInt8) : List UInt8 := maskL (pad64 (keyS k)) 92
theorem kin_len (k : List UInt8) : (kin k).length = 64 := by rw [kin, maskL_len, pad64_len _ (keyS_len k)]
theorem kout_len (k : List UInt8) : (kout k).length = 64 := by rw [kout, maskL_len, pad64_len _ (keyS_len k)]
/-- The sum by a key. -/
def hmac (k s : List UInt8) : List UInt8 := digest (kout k ++ digest (kin k ++ s))
theorem hmac_len (k s : List UInt8) : (hmac k s).length = 32 := digest_len _
def sv25 (x y : Value) : Sem Unit := Instr.storeAt 25 x y
theorem sv25_eq (x y : Value) : Instr.storeAt 25 x y = sv25 x y := rfl
theorem sv25_row {w : World} {g : Nat} {c0 : Array Value} {t : TypeId} (hn : c0.size = 32) (hg : w.heap[g]? = some (.cells c0 t (0, 0))) (l : List UInt8) (hl : l.length = 32) : (sv25 (.pointer (some ⟨g, 0, none⟩)) (.agg (hc l))).run Tryd.prog w = .ok () (w.setRow g (hc l)) := by
  unfold sv25
  simp only [Instr.storeAt, Instr.sureAddr, Sem.run_bind, Sem.run_pure, Result.andThen_ok]
  rw [run_storeVar_row w g t 25 c0 (hc l) hg (by rw [A25.info, hc_size, hl]) (by rw [hn, hc_size, hl]) (hc_one _)]
theorem tri_mid {w w1 w2 : World} {A B C : Obj} {g1 g2 : Nat} (n0 : w1.heap[w.heap.size]? = some A) (n1 : w1.heap[g1]? = some B) (n2 : w1.heap[g2]? = some C) (BB : Below w.heap.size w w1) (b : Below w1.heap.size w1 w2) :
    Hid (w2.heap[w.heap.size]? = some A) ∧ Hid (w2.heap[g1]? = some B) ∧ Hid (w2.heap[g2]? = some C) ∧ Hid (Below w.heap.size w w2) :=
  ⟨(b.block _ (lt_heap n0)).trans n0, (b.block _ (lt_heap n1)).trans n1, (b.block _ (lt_heap n2)).trans n2, BB.trans (b.mono BB.size)⟩
attribute [local go_sem ↓] ld35_eq sv25_eq
section
set_option maxRecDepth 10000
set_option maxHeartbeats 1000000
theorem key_any (k s : ByteArray) (hk : k.size < 2305843009213692000) (hs : s.size < 2305843009213692000) (w : World) (hK : Kg w) : Calls Tryd.prog 33 #[.string k, .string s] w fun e w' => e = .returned (.agg (hc (hmac k.data.toList s.data.toList))) ∧ Below w.heap.size w w' := by
  have HB := hide fun W hW => keyBlock_any k (by omega) W hW
  have hbl := pad64_len _ (keyS_len k.data.toList)
  have H54 := hide fun W => masked_any _ hbl 54 54 rfl W
  have H92 := hide fun W => masked_any _ hbl 92 92 rfl W
  rw [show maskL (pad64 (keyS k.data.toList)) 54 = kin k.data.toList from rfl] at H54
  rw [show maskL (pad64 (keyS k.data.toList)) 92 = kout k.data.toList from rfl] at H92
  have hi : (⟨(kin k.data.toList).toArray⟩ : ByteArray).size = 64 := by show (kin k.data.toList).toArray.size = 64; rw [List.size_toArray, kin_len]
  have ho : (⟨(kout k.data.toList).toArray⟩ : ByteArray).size = 64 := by show (kout k.data.toList).toArray.size = 64; rw [List.size_toArray, kout_len]
  have H1 := hide fun W hW => behind_any ⟨(kin k.data.toList).toArray⟩ s (by omega) W hW
  rw [show (⟨(kin k.data.toList).toArray⟩ : ByteArray).data.toList = kin k.data.toList from rfl] at H1
  have hdl := digest_len (kin k.data.toList ++ s.data.toList)
  have hml := hmac_len k.data.toList s.data.toList
  have hmd : hmac k.data.toList s.data.toList = digest (kout k.data.toList ++ digest (kin k.data.toList ++ s.data.toList)) := rfl
  rw [hmd] at hml ⊢
  generalize digest (kin k.data.toList ++ s.data.toList) = D at *
  have hDz : (⟨D.toArray⟩ : ByteArray).size = 32 := by show D.toArray.size = 32; rw [List.size_toArray, hdl]
  have H2 := hide fun W hW => behind_any ⟨(kout k.data.toList).toArray⟩ ⟨D.toArray⟩ (by omega) W hW
  rw [show (⟨(kout k.data.toList).toArray⟩ : ByteArray).data.toList = kout k.data.toList from rfl, show (⟨D.toArray⟩ : ByteArray).data.toList = D from rfl] at H2
  generalize digest (kout k.data.toList ++ D) = M at *
  generalize (⟨(kin k.data.toList).toArray⟩ : ByteArray) = KI at *
  generalize (⟨(kout k.data.toList).toArray⟩ : ByteArray) = KO at *
  generalize pad64 (keyS k.data.toList) = Bk at *
  have B0 := hide ((Below.refl w.heap.size w).alloc (Nat.le_refl _) (.cells (hc zeros) 25))
  have HK := hide hK
  clear hK hi ho hDz hmd
  go_enter Tryd.func33, Tryd.ntmps33
  go_upto_region 2 with (first | refine wpList_allocA A25 rfl rfl ?_ | (go_at_call 45; refine (HB.out _ (HK.out.next B0.out)).mono ?_; rintro e w1 ⟨rfl, b1⟩; obtain ⟨n1, B1, _⟩ := sb_mid b1 (Nat.le_refl _); clear b1) | refine wpList_allocA A35 rfl rfl ?_ | refine wpList_store_newA A35 rfl _ _ rfl _ rfl (hc Bk) (by rw [hc_size, hbl]) (hc_one _) rfl rfl ?_)
  have m0 := hide ((Below.heap_alloc _ (.cells (hc Bk) 35) _ (lt_heap n1.out)).trans n1.out)
  have m1 := hide (heap_alloc_last w1 (.cells (hc Bk) 35))
  have mb := hide (B1.out.alloc B1.out.size (.cells (hc Bk) 35))
  have hg : w.heap.size < w1.heap.size := lt_heap n1.out
  clear n1 B1 B0
  generalize w1.alloc (.cells (hc Bk) 35) = W2 at *
  generalize w1.heap.size = g1 at *
  have l0 : (ld35 (.pointer (some ⟨g1, 0, none⟩))).run Tryd.prog W2 = .ok (.agg (hc Bk)) W2 := ld_row A35 (by rw [hc_size, hbl]) m1.out
  go_upto_region 3 with (first | (go_at_call 46; refine (H54.out _).mono ?_; rintro e w3 ⟨rfl, b3⟩; obtain ⟨n0, n1, _, nb⟩ := tri_mid m0.out m1.out m1.out mb.out b3; clear b3) | (go_at_call 35; refine (H1.out _ (HK.out.next nb.out)).mono ?_; rintro e w4 ⟨rfl, b4⟩; obtain ⟨o0, o1, _, ob⟩ := tri_mid n0.out n1.out n1.out nb.out b4; clear b4) | refine wpList_allocA A25 rfl rfl ?_ | refine wpList_store_newA A25 rfl _ _ rfl _ rfl (hc D) (by rw [hc_size, hdl]) (hc_one _) rfl rfl ?_)
  have p0 := hide ((Below.heap_alloc _ (.cells (hc D) 25) _ (lt_heap o0.out)).trans o0.out)
  have p1 := hide ((Below.heap_alloc _ (.cells (hc D) 25) _ (lt_heap o1.out)).trans o1.out)
  have p2 := hide (heap_alloc_last w4 (.cells (hc D) 25))
  have pb := hide (ob.out.alloc ob.out.size (.cells (hc D) 25))
  clear m0 m1 mb n0 n1 nb o0 o1 ob l0
  generalize w4.alloc (.cells (hc D) 25) = W4 at *
  generalize w4.heap.size = g4 at *
  have l4 : (ld35 (.pointer (some ⟨g1, 0, none⟩))).run Tryd.prog W4.drew = .ok (.agg (hc Bk)) W4.drew := ld_row A35 (by rw [hc_size, hbl]) (W := W4.drew) p1.out
  have hcv := conv_row W4.drew g4 D hdl 25 p2.out
  have P0 : Hid (W4.drew.heap[w.heap.size]? = some (.cells (hc zeros) 25 (0, 0))) := p0.out
  have P1 : Hid (W4.drew.heap[g1]? = some (.cells (hc Bk) 35 (0, 0))) := p1.out
  have P2 : Hid (W4.drew.heap[g4]? = some (.cells (hc D) 25 (0, 0))) := p2.out
  have PB := hide pb.out.drew
  clear p0 p1 p2 pb
  go_region_with (first | (go_at_call 46; refine (H92.out _).mono ?_; rintro e w5 ⟨rfl, b5⟩; obtain ⟨q0, q1, q2, qb⟩ := tri_mid P0.out P1.out P2.out PB.out b5; clear b5; have hcv5 := conv_row w5 g4 D hdl 25 q2.out) | (go_at_call 35; refine (H2.out _ (HK.out.next qb.out)).mono ?_; rintro e w6 ⟨rfl, b6⟩; obtain ⟨s0, _, _, sbb⟩ := tri_mid q0.out q1.out q2.out qb.out b6; clear b6; have hsv := sv25_row (c0 := hc zeros) (by rw [hc_size, zeros_len]) s0.out M hml))
  all_goals go_wp2
  all_goals exact bodyPost_ret (v := .agg (hc M)) (resA A25 Tryd.results33 _ _ w.heap.size 25 _ (by rw [hc_size, hml]) rfl (setRow_heap _ _ _ _ _ _ s0.out)) rfl ⟨rfl, below_setRow sbb.out (Nat.le_refl _) _⟩
end
end Go.Proofs.YtempdhoccilhdaaDoor
