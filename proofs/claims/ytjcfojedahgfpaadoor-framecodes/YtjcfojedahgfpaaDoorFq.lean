/- FrameCodes' walk. -/
import Derived.Test.YtjcfojedahgfpaaDoorFp
import Derived.BigQuiet
namespace Go.Proofs.YtjcfojedahgfpaaDoor
open Go.RowKit
open Go.Deep
/-- What FrameCodes holds: a frame and a text with a place. -/
structure Jf (w W : World) (c p t : ByteArray) (k : Int) : Prop where
  a : W.heap[w.heap.size]? = some (.cells #[.string c, .string p] 24 (0, 0))
  b : W.heap[w.heap.size + 1]? = some (.cells #[.string t, .int .i64 k] 26 (0, 0))
  bel : Below w.heap.size w W
  kg : Kg W
section
variable {w W W' : World} {c p t : ByteArray} {k : Int}
theorem Jf.next (h : Jf w W c p t k) (hb : Below W.heap.size W W') : Jf w W' c p t k :=
  ⟨(hb.block _ (lt_heap h.a)).trans h.a, (hb.block _ (lt_heap h.b)).trans h.b, below_next h.bel hb, h.kg.next hb⟩
theorem Jf.c0 (h : Jf w W c p t k) : W.cell? ⟨w.heap.size, 0, none⟩ = some (.string c) := by rw [cell_of_row W _ 0 _ _ _ h.a]; rfl
theorem Jf.c1 (h : Jf w W c p t k) : W.cell? ⟨w.heap.size, 1, none⟩ = some (.string p) := by rw [cell_of_row W _ 1 _ _ _ h.a]; rfl
theorem Jf.d0 (h : Jf w W c p t k) : W.cell? ⟨w.heap.size + 1, 0, none⟩ = some (.string t) := by rw [cell_of_row W _ 0 _ _ _ h.b]; rfl
theorem Jf.d1 (h : Jf w W c p t k) : W.cell? ⟨w.heap.size + 1, 1, none⟩ = some (.int .i64 k) := by rw [cell_of_row W _ 1 _ _ _ h.b]; rfl
theorem Jf.start (w : World) (hK : Kg w) (c p t : ByteArray) (k : Int) : Jf w ((w.alloc (.cells #[.string c, .string p] 24)).alloc (.cells #[.string t, .int .i64 k] 26)) c p t k :=
  ⟨(blk2 w _ _).1, (blk2 w _ _).2, two_below w _ _, hK.next (two_below w _ _)⟩
end
section
set_option maxRecDepth 10000
set_option maxHeartbeats 4000000
theorem frameCodes_walk (m : Nat) (hm : m < 4294967296) (c p : ByteArray) (hc : c.size ≤ 140737488351232) (hp : p.size ≤ 140737488351232) (t : ByteArray) (ht : t.size ≤ 140737488351232) (k : Int) (w : World) (hK : Kg w) : Calls Tryd.prog 3 #[.int .u32 (m : Int), .agg #[.string c, .string p], .agg #[.string t, .int .i64 k]] w fun e w' => e = .returned (.bool true) ∧ Below w.heap.size w w' := by
  have hc2 : c.size ≤ maxLen := by unfold maxLen; omega
  have hp2 : p.size ≤ maxLen := by unfold maxLen; omega
  have HE := hide fun W hW => encode_any m hm c p hc2 hp2 W hW
  have HRE := hide fun W => rencode_any m hm c p hc2 hp2 W
  have HC := hide fun W => command_any c W hc2
  have HRC := hide fun W => rcommand_any c W hc2
  have HS := hide fun W hW => fsum_any p (by omega) W hW
  have HRS := hide fun W => rsum8_any p (by omega) W
  have HD := hide fun W hW => decode_any m hm t (by omega) k W hW
  have HRD := hide fun W => rdecode_any m hm t (by omega) k W
  have HA := hide fun W hW => awake8_any W hW
  have J := hide (Jf.start w hK c p t k)
  generalize encT m c.data.toList p.data.toList = T at *
  generalize encE c.data.toList p.data.toList = E at *
  generalize okCmd c.data.toList = O at *
  generalize sumN p.data.toList = S at *
  generalize decM m t.data.toList k = D at *
  obtain ⟨de, dc, dp, dl⟩ := D
  unfold Dc.valp at HD
  unfold Dc.vals at HRD
  clear hK hc2 hp2
  go_enter Tryd.func3, Tryd.ntmps3
  go_upto_region 1 with (first | refine wpList_boxA rfl _ rfl #[.string c, .string p] rfl ?_ | refine wpList_boxA rfl _ rfl #[.string t, .int .i64 k] rfl ?_)
  generalize (w.alloc (.cells #[.string c, .string p] 24)).alloc (.cells #[.string t, .int .i64 k] 26) = W1 at *
  go_upto_region 2 with (first | refine wpList_loadA AF rfl _ rfl w.heap.size rfl #[.string c, .string p] rfl 24 J.out.a ?_ | (go_at_call 6; refine (HE.out _ J.out.kg).mono ?_; rintro e w2 ⟨rfl, b2⟩; have J2 := hide (J.out.next b2); clear b2))
  clear J
  have x0 := J2.out.c0
  have x1 := J2.out.c1
  go_upto_region 3 with (go_at_call 7; refine (HRE.out _).mono ?_; rintro e w3 ⟨rfl, b3⟩; have J3 := hide (J2.out.next b3); clear b3)
  clear J2 x0 x1 HE HRE
  obtain ⟨I, hne, F, i0, h0, hJ, hcl⟩ : ∃ (I : Type) (_ : Nonempty I) (F : I → World) (i0 : I), w3.drew = F i0 ∧ Hid (∀ i, Jf w (F i) c p t k) ∧ Hid (∀ i W', Below (F i).heap.size (F i) W' → ∃ j, W' = F j) :=
    ⟨{W : World // Jf w W c p t k}, ⟨⟨_, J3.out⟩⟩, Subtype.val, ⟨_, J3.out.next (below_drew (Below.refl _ _))⟩, rfl, fun i => i.2, fun i W' b => ⟨⟨W', i.2.next b⟩, rfl⟩⟩
  have l0 : ∀ i, (F i).cell? ⟨w.heap.size, 0, none⟩ = some (.string c) := fun i => (hJ.out i).c0
  have l1 : ∀ i, (F i).cell? ⟨w.heap.size, 1, none⟩ = some (.string p) := fun i => (hJ.out i).c1
  refine wp_region_class_lit (by kernel_rfl) (by kernel_rfl) i0 h0 ?_
  repeat (go_big_quiet_step (first | (go_at_call 8; exact class_of hcl.out (HA.out _ (hJ.out _).kg)) | (go_at_call 9; exact class_of_same (HC.out _)) | (go_at_call 10; exact class_of_same (HRC.out _)) | (go_at_call 11; exact class_of hcl.out (HS.out _ (hJ.out _).kg)) | (go_at_call 12; exact class_of hcl.out (HRS.out _))))
  refine wpQuiet_nil ?_
  rintro _ ⟨iq, rfl⟩
  have J4 := hide (hJ.out iq)
  clear hJ hcl h0 l0 l1 J3 HA HC HRC HS HRS
  generalize F iq = W4 at *
  have y0 := J4.out.d0
  have y1 := J4.out.d1
  go_upto_region 6 with (first | (go_at_call 13; refine (HD.out _ J4.out.kg).mono ?_; rintro e w5 ⟨rfl, b5⟩; have J5 := hide (J4.out.next b5); clear b5) | refine wpList_allocA AF rfl rfl ?_ | refine wpList_store_newA AF rfl _ _ rfl _ rfl (fr2 dc dp) rfl (fr2_one _ _) rfl rfl ?_)
  clear y0 y1 J4
  have b6 : Below w5.heap.size w5 (w5.alloc (.cells (fr2 dc dp) 24)) := (Below.refl _ _).alloc (Nat.le_refl _) _
  have J6 := hide (J5.out.next b6)
  have R6 := hide (heap_alloc_last w5 (.cells (fr2 dc dp) 24))
  clear b6 J5
  generalize w5.alloc (.cells (fr2 dc dp) 24) = W6 at *
  generalize w5.heap.size = gy at *
  have y0 := J6.out.d0
  have y1 := J6.out.d1
  go_upto_region 7 with (go_at_call 14; refine (HRD.out _).mono ?_; rintro e w7 ⟨rfl, b7⟩; have R7 := hide ((b7.block _ (lt_heap R6.out)).trans R6.out); have B7 := hide (below_next J6.out.bel b7); clear b7)
  clear y0 y1 J6
  have z0 : w7.cell? ⟨gy, 0, none⟩ = some (.string (txt dc)) := by rw [cell_of_row w7 gy 0 _ _ _ R7.out]; rfl
  have z1 : w7.cell? ⟨gy, 1, none⟩ = some (.string (txt dp)) := by rw [cell_of_row w7 gy 1 _ _ _ R7.out]; rfl
  go_wp2
  go_ret
  exact ⟨rfl, B7.out⟩
end
end Go.Proofs.YtjcfojedahgfpaaDoor
