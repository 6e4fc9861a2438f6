/- The contracts of Short and the document's Short. -/
import Derived.Test.YtpjpnkohagcegaaDoorYh
namespace Go.Proofs.YtpjpnkohagcegaaDoor
open Go.RowKit
open Go.Deep
/-- The short id of 32 bytes. -/
def shN (k0 k1 : UInt64) (l : List UInt8) : Nat := (refM k0 k1 l).toNat % 281474976710656
theorem shN_lt (k0 k1 : UInt64) (l : List UInt8) : shN k0 k1 l < 281474976710656 := Nat.mod_lt _ (by decide)
theorem and48 (x : UInt64) : bits .and .u64 (x.toNat : Int) 281474976710655 = ((x.toNat % 281474976710656 : Nat) : Int) := by
  have hx := x.toNat_lt
  have := bits_mask .u64 64 (by decide) (fun x h0 h1 => wrapu x h0 (by simpa using h1)) 48 (by decide) (x.toNat : Int) (by omega) (by omega)
  rw [show (281474976710655 : Int) = 2 ^ 48 - 1 from by decide, this]
  omega
/-- What is known of the world in Short: the keys, and the id. -/
structure Js2 (w W : World) (k0 k1 : UInt64) (l : List UInt8) (t : TypeId) : Prop where
  ka : W.heap[w.heap.size]? = some (.cells (qc [k0, k1]) 28 (0, 0))
  ib : W.heap[w.heap.size + 1]? = some (.cells (hc l) t (0, 0))
  below : Below w.heap.size w W
theorem Js2.next {w W W' : World} {k0 k1 : UInt64} {l : List UInt8} {t : TypeId} (j : Js2 w W k0 k1 l t) (h : Below W.heap.size W W') : Js2 w W' k0 k1 l t :=
  ⟨(h.block _ (lt_heap j.ka)).trans j.ka, (h.block _ (lt_heap j.ib)).trans j.ib, j.below.trans (h.mono j.below.size)⟩
section
set_option maxRecDepth 10000
set_option maxHeartbeats 1000000
theorem short_any (k0 k1 : UInt64) (l : List UInt8) (hl : l.length = 32) (w : World) : Calls Tryd.prog 7 #[.agg (qc [k0, k1]), .agg (hc l)] w fun e w' => e = .returned (.int .u64 (shN k0 k1 l : Int)) ∧ Below w.heap.size w w' := by
  have HH := hide fun W => hash_any k0 k1 ⟨l.toArray⟩ (by show l.toArray.size < _; rw [List.size_toArray]; omega) W
  rw [show (⟨l.toArray⟩ : ByteArray).data.toList = l from rfl, sip_ref] at HH
  have ha := hide (and48 (refM k0 k1 l))
  rw [show (refM k0 k1 l).toNat % 281474976710656 = shN k0 k1 l from rfl] at ha
  generalize refM k0 k1 l = R at *
  generalize shN k0 k1 l = S at *
  have J : Hid (Js2 w ((w.alloc (.cells (qc [k0, k1]) 28)).alloc (.cells (hc l) 24)).drew k0 k1 l 24) := ⟨(blk2q w _ _).1, (blk2q w _ _).2, (below2q w _ _).drew⟩
  go_enter Tryd.func7, Tryd.ntmps7
  go_upto_region 1 with (first | refine wpList_boxA rfl _ rfl (qc [k0, k1]) rfl ?_ | refine wpList_boxA rfl _ rfl (hc l) rfl ?_)
  obtain ⟨I, hne, F, i0, h0, hJ, hcl⟩ : ∃ (I : Type) (_ : Nonempty I) (F : I → World) (i0 : I), ((w.alloc (.cells (qc [k0, k1]) 28)).alloc (.cells (hc l) 24)).drew = F i0 ∧ Hid (∀ i, Js2 w (F i) k0 k1 l 24) ∧ Hid (∀ i W', Below (F i).heap.size (F i) W' → ∃ j, W' = F j) :=
    ⟨{W : World // Js2 w W k0 k1 l 24}, ⟨⟨_, J.out⟩⟩, Subtype.val, ⟨_, J.out⟩, rfl, fun i => i.2, fun i W' b => ⟨⟨W', i.2.next b⟩, rfl⟩⟩
  have c0 : ∀ i, (F i).cell? ⟨w.heap.size, 0, none⟩ = some (.int .u64 (k0.toNat : Int)) := fun i => cell_of_row _ _ 0 _ _ _ (hJ.out i).ka
  have c1 : ∀ i, (F i).cell? ⟨w.heap.size, 1, none⟩ = some (.int .u64 (k1.toNat : Int)) := fun i => cell_of_row _ _ 1 _ _ _ (hJ.out i).ka
  have cv : ∀ i, (convert 52 9 (.slice (some ⟨w.heap.size + 1, 0, none⟩) 32 32)).run Tryd.prog (F i) = .ok (.string ⟨l.toArray⟩) (F i) := fun i => conv_row (F i) _ l hl _ (hJ.out i).ib
  clear J
  refine wp_region_class_lit (by kernel_rfl) (by kernel_rfl) i0 h0 ?_
  repeat (go_big_quiet_step (first | (go_at_call 20; exact class_of hcl.out (HH.out _))))
  refine wpQuiet_nil ?_
  rintro _ ⟨iq, rfl⟩
  go_wp2
  go_ret
  exact ⟨ret_int ha.out, (hJ.out iq).below⟩
theorem rshort_any (k0 k1 : UInt64) (l : List UInt8) (hl : l.length = 32) (w : World) : Calls Tryd.prog 10 #[.int .u64 (k0.toNat : Int), .int .u64 (k1.toNat : Int), .agg (hc l)] w fun e w' => e = .returned (.int .u64 (shN k0 k1 l : Int)) ∧ Below w.heap.size w w' := by
  have HH := hide fun W => rhash_any k0 k1 ⟨l.toArray⟩ (by show l.toArray.size < _; rw [List.size_toArray]; omega) W
  rw [show (⟨l.toArray⟩ : ByteArray).data.toList = l from rfl] at HH
  have ha : Hid (((refM k0 k1 l).toNat : Int) % 281474976710656 = (shN k0 k1 l : Int)) := by
    show _ = (((refM k0 k1 l).toNat % 281474976710656 : Nat) : Int)
    simp
  generalize refM k0 k1 l = R at *
  generalize shN k0 k1 l = S at *
  have cv := conv_row (w.alloc (.cells (hc l) 23)) w.heap.size l hl 23 (heap_alloc_last _ _)
  have BB := hide ((Below.refl w.heap.size w).alloc (Nat.le_refl _) (.cells (hc l) 23))
  go_enter Tryd.func10, Tryd.ntmps10
  go_wp2_with (first | refine wpList_boxA rfl _ rfl (hc l) rfl ?_ | (go_at_call 25; refine (HH.out _).mono ?_; rintro e w1 ⟨rfl, b1⟩; have B1 := hide (BB.out.trans (b1.mono BB.out.size)); clear b1))
  go_ret
  exact ⟨ret_int ha.out, B1.out⟩
end
end Go.Proofs.YtpjpnkohagcegaaDoor
