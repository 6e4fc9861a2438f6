/- The law SipFeeds: its walk. -/
import Derived.Test.YtpjpnkohagcegaaYh
namespace Go.Proofs.Ytpjpnkohagcegaa
open Go.RowKit
open Go.Deep
/-- The first k parts, one behind the other. -/
def cat (F : Nat → ByteArray) : Nat → List UInt8
  | 0 => []
  | k + 1 => cat F k ++ (F k).data.toList
/-- Where the parts lie. -/
def Parts (w : World) (ao : Option Addr) (n : Nat) (F : Nat → ByteArray) : Prop := ∀ i, i < n → ∃ g off, ao = some ⟨g, off, none⟩ ∧ g < w.heap.size ∧ w.cell? ⟨g, off + i, none⟩ = some (.string (F i))
/-- What is known of the world in SipFeeds: the keys, and the digest at block b. -/
structure Jf (w W : World) (b : Nat) (k0 k1 : UInt64) (s : Sm) : Prop where
  ka : W.heap[w.heap.size]? = some (.cells (qc [k0, k1]) 24 (0, 0))
  h : Sat W b s
  below : Below w.heap.size w W
theorem Jf.next {w W W' : World} {b : Nat} {k0 k1 : UInt64} {s : Sm} (j : Jf w W b k0 k1 s) (h : Below W.heap.size W W') : Jf w W' b k0 k1 s :=
  ⟨(h.block _ (lt_heap j.ka)).trans j.ka, Sst.below j.h h, j.below.trans (h.mono j.below.size)⟩
/-- Another digest is written. -/
theorem Jf.other {w W W' : World} {b c : Nat} {k0 k1 : UInt64} {s : Sm} (j : Jf w W b k0 k1 s) (hb : b ≠ c) (hc : w.heap.size < c) (r : Rfr c W W') : Jf w W' b k0 k1 s :=
  ⟨(r.block _ (lt_heap j.ka) (by omega)).trans j.ka, Sat.rfr j.h hb r, j.below.trans (r.to_below (by omega) j.below.size)⟩
/-- The digest itself is written. -/
theorem Jf.own {w W W' : World} {b : Nat} {k0 k1 : UInt64} {s s2 : Sm} (j : Jf w W b k0 k1 s) (hb : w.heap.size < b) (h2 : Sat W' b s2) (r : Rfr b W W') : Jf w W' b k0 k1 s2 :=
  ⟨(r.block _ (lt_heap j.ka) (by omega)).trans j.ka, h2, j.below.trans (r.to_below (by omega) j.below.size)⟩
theorem Jf.c0 {w W : World} {b : Nat} {k0 k1 : UInt64} {s : Sm} (j : Jf w W b k0 k1 s) : W.cell? ⟨w.heap.size, 0, none⟩ = some (.int .u64 (k0.toNat : Int)) := cell_of_row _ _ 0 _ _ _ j.ka
theorem Jf.c1 {w W : World} {b : Nat} {k0 k1 : UInt64} {s : Sm} (j : Jf w W b k0 k1 s) : W.cell? ⟨w.heap.size, 1, none⟩ = some (.int .u64 (k1.toNat : Int)) := cell_of_row _ _ 1 _ _ _ j.ka
section
set_option maxRecDepth 10000
set_option maxHeartbeats 4000000
theorem sipFeeds_walk (k0 k1 : UInt64) (ao : Option Addr) (n cap : Nat) (F : Nat → ByteArray) (w : World) (hn : n ≤ 1048576) (hp : Parts w ao n F) (hsum : ∀ k, k ≤ n → (cat F k).length ≤ 1048576) : Calls Try.prog 5 #[.agg (qc [k0, k1]), .slice ao n cap] w fun e w' => e = .returned (.bool true) ∧ Below w.heap.size w w' := by
  have HA := hide fun W => awake_any6 W
  have HN := hide fun W => new_any6 k0 k1 W
  have HP := hide hp
  have HSM := hide hsum
  have HKA := hide (heap_alloc_last w (.cells (qc [k0, k1]) 24))
  have BB := hide ((Below.refl w.heap.size w).alloc (Nat.le_refl _) (.cells (qc [k0, k1]) 24))
  clear hp hsum
  go_enter Try.func5, Try.ntmps5
  go_wp2_with (first | refine wpList_boxA rfl _ rfl (qc [k0, k1]) rfl ?_ | refine wpList_loadA AK rfl _ rfl _ rfl (qc [k0, k1]) rfl 24 HKA.out ?_ | (go_at_call 14; refine (HN.out _).mono ?_; rintro e w1 ⟨b, rfl, h1, b1, hb⟩; have J1 : Hid (Jf w w1 b k0 k1 ⟨begin4 k0 k1, 0, 0⟩) := ⟨(b1.block _ (by simp)).trans HKA.out, h1, BB.out.trans (b1.mono BB.out.size)⟩; have hb0 : w.heap.size < b := (by simp at hb; omega); clear h1 b1 hb) | (go_at_call 7; refine (HA.out _).mono ?_; rintro e w2 ⟨rfl, b2⟩; have J2 := hide (J1.out.next b2); clear b2))
  go_loopw [6, 7, 8] (fun v6 v7 _ wr => ∃ (k : Nat) (X : ByteArray), k ≤ n ∧ v7 = .int .i64 k ∧ v6 = .string X ∧ Hid (X.data.toList = cat F k) ∧ Hid (Jf w wr b k0 k1 (Sm.puts ⟨begin4 k0 k1, 0, 0⟩ (cat F k)))) (fun _ v7 _ _ => (n - intOf v7).toNat)
  case atStart => exact ⟨0, ⟨#[]⟩, by omega, rfl, rfl, rfl, J2⟩
  case round =>
    clear J1 J2
    obtain ⟨k, X, hk, rfl, rfl, hX, J⟩ := hrel
    have s0 := HSM.out k hk
    have hXs : X.size = (cat F k).length := by rw [← hX.out]; simp
    have hn1 := puts_n (cat F k) ⟨begin4 k0 k1, 0, 0⟩
    simp only [Nat.zero_add] at hn1
    by_cases hlt : k < n
    · obtain ⟨g, off, rfl, hg, hc⟩ := HP.out k hlt
      have s1 := HSM.out (k + 1) hlt
      have hcs : (cat F (k + 1)).length = (cat F k).length + (F k).size := by simp [cat]
      have k0' : (0 : Int) ≤ k := by omega
      have k1' : (k : Int) < n := by omega
      have hP2 : Sm.puts ⟨begin4 k0 k1, 0, 0⟩ (cat F (k + 1)) = (Sm.puts ⟨begin4 k0 k1, 0, 0⟩ (cat F k)).puts (F k).data.toList := puts_app _ _ _
      have hX2 : Hid ((X ++ F k).data.toList = cat F (k + 1)) := by
        show (X ++ F k).data.toList = cat F (k + 1)
        rw [show cat F (k + 1) = cat F k ++ (F k).data.toList from rfl, ← hX.out]; simp
      have hX2s : (X ++ F k).size = (cat F (k + 1)).length := by rw [ByteArray.size_append, hcs, hXs]
      have hsp : Hid ((Sm.puts ⟨begin4 k0 k1, 0, 0⟩ (cat F (k + 1))).sum = refM k0 k1 (cat F (k + 1))) := sip_ref k0 k1 _
      have hn2 := puts_n (cat F (k + 1)) ⟨begin4 k0 k1, 0, 0⟩
      simp only [Nat.zero_add] at hn2
      have HW := hide fun W hW => write_any6 b (Sm.puts ⟨begin4 k0 k1, 0, 0⟩ (cat F k)) (F k) W (by rw [hn1]; omega) hW
      rw [← hP2] at HW
      have hot : (⟨#[111, 116, 104, 101, 114]⟩ : ByteArray).size = 5 := rfl
      have HO := hide fun c W hW => write_any6 c (Sm.puts ⟨begin4 k0 k1, 0, 0⟩ (cat F k)) ⟨#[111, 116, 104, 101, 114]⟩ W (by rw [hn1, hot]; omega) hW
      have HC := hide fun W hW => clone_any6 b (Sm.puts ⟨begin4 k0 k1, 0, 0⟩ (cat F k)) W hW
      have HR := hide fun W => rhash_any k0 k1 (X ++ F k) (by rw [hX2s]; omega) W
      rw [hX2.out] at HR
      have HS := hide fun W hW => sum_any6 b (Sm.puts ⟨begin4 k0 k1, 0, 0⟩ (cat F (k + 1))) W (by rw [hn2]; omega) hW
      rw [hsp.out] at HS
      have HL := hide fun W hW => len_any6 b (Sm.puts ⟨begin4 k0 k1, 0, 0⟩ (cat F (k + 1))) W hW
      rw [hn2, ← hX2s] at HL
      generalize refM k0 k1 (cat F (k + 1)) = R at *
      clear hP2 hn1 hn2 hsp hcs
      generalize Sm.puts ⟨begin4 k0 k1, 0, 0⟩ (cat F k) = S1 at *
      generalize hS2 : Sm.puts ⟨begin4 k0 k1, 0, 0⟩ (cat F (k + 1)) = S2 at *
      have HS2 := hide hS2
      clear hS2
      have hPk : X.size + (F k).size ≤ 1048576 := by rw [ByteArray.size_append] at hX2s; omega
      generalize hPP : F k = P at *
      clear hPP
      go_upto_region 12 with (first | (go_at_call 15; refine (HC.out _ J.out.h).mono ?_; rintro e w3 ⟨c, rfl, h3, b3, hcb⟩; have H3 := hide h3; have J3 := hide (J.out.next b3); have hbc : b ≠ c := (by have := Sst.lt J.out.h; omega); have hwc : w.heap.size < c := (by have := lt_heap J.out.ka; omega); clear h3 b3 hcb) | (go_at_call 16; refine (HO.out c _ H3.out).mono ?_; rintro e w4 ⟨rfl, _, r4⟩; have J4 := hide (J3.out.other hbc hwc r4); clear r4))
      have hcell : w4.cell? ⟨g, off + k, none⟩ = some (.string P) := (J4.out.below.cell (p := ⟨g, off + k, none⟩) hg).trans hc
      clear J J3 H3 hc
      go_upto_region 13 with (go_at_call 16; refine (HW.out _ J4.out.h).mono ?_; rintro e w5 ⟨rfl, h5, r5⟩; have J5 := hide (J4.out.own hb0 h5 r5); have hcell5 : w5.cell? ⟨g, off + k, none⟩ = some (.string P) := (World.cell?_of_block (a := ⟨g, off + k, none⟩) (r5.block g (by have := J4.out.below.size; omega) (by omega))).trans hcell; clear h5 r5)
      clear hcell J4
      go_upto_region 14 with fail
      obtain ⟨I, hne, Fw, i0, h0, hJ, hcl⟩ : ∃ (I : Type) (_ : Nonempty I) (Fw : I → World) (i0 : I), w5.drew = Fw i0 ∧ Hid (∀ i, Jf w (Fw i) b k0 k1 S2) ∧ Hid (∀ i W', Below (Fw i).heap.size (Fw i) W' → ∃ j, W' = Fw j) :=
        ⟨{W : World // Jf w W b k0 k1 S2}, ⟨⟨_, J5.out⟩⟩, Subtype.val, ⟨w5.drew, J5.out.ka, J5.out.h, J5.out.below.drew⟩, rfl, fun i => i.2, fun i W' b => ⟨⟨W', i.2.next b⟩, rfl⟩⟩
      have c0 : ∀ i, (Fw i).cell? ⟨w.heap.size, 0, none⟩ = some (.int .u64 (k0.toNat : Int)) := fun i => (hJ.out i).c0
      have c1 : ∀ i, (Fw i).cell? ⟨w.heap.size, 1, none⟩ = some (.int .u64 (k1.toNat : Int)) := fun i => (hJ.out i).c1
      generalize hXX : X ++ P = X2 at *
      clear hXX
      refine wp_region_class_lit (by kernel_rfl) (by kernel_rfl) i0 h0 ?_
      repeat (go_big_quiet_step (first | (go_at_call 17; exact class_of_same (HL.out _ (hJ.out _).h)) | (go_at_call 18; exact class_of hcl.out (HS.out _ (hJ.out _).h)) | (go_at_call 9; exact class_of hcl.out (HR.out _))))
      refine wpQuiet_nil ?_
      rintro _ ⟨iq, rfl⟩
      have JQ := hide (hJ.out iq)
      clear c0 c1 h0 hJ hcl
      generalize Fw iq = W6 at *
      go_wp2
      exact ⟨⟨k + 1, X2, hlt, by go_num, rfl, hX2, by rw [HS2.out]; exact JQ⟩, by simp [intOf]; omega⟩
    · have hke : k = n := by omega
      subst hke
      have HR := hide fun W => hash_any k0 k1 X (by omega) W
      rw [hX.out] at HR
      have HS := hide fun W hW => sum_any6 b (Sm.puts ⟨begin4 k0 k1, 0, 0⟩ (cat F k)) W (by rw [hn1]; omega) hW
      rw [show (Sm.puts ⟨begin4 k0 k1, 0, 0⟩ (cat F k)).sum = sipM k0 k1 (cat F k) from rfl] at HS
      generalize sipM k0 k1 (cat F k) = R at *
      clear hn1
      generalize Sm.puts ⟨begin4 k0 k1, 0, 0⟩ (cat F k) = S1 at *
      go_upto_region 18 with (go_at_call 16; refine (write_nil6 _ _).mono ?_; rintro e w4 ⟨rfl, hw4⟩; subst w4)
      obtain ⟨I, hne, Fw, i0, h0, hJ, hcl⟩ : ∃ (I : Type) (_ : Nonempty I) (Fw : I → World) (i0 : I), wr.drew = Fw i0 ∧ Hid (∀ i, Jf w (Fw i) b k0 k1 S1) ∧ Hid (∀ i W', Below (Fw i).heap.size (Fw i) W' → ∃ j, W' = Fw j) :=
        ⟨{W : World // Jf w W b k0 k1 S1}, ⟨⟨_, J.out⟩⟩, Subtype.val, ⟨wr.drew, J.out.ka, J.out.h, J.out.below.drew⟩, rfl, fun i => i.2, fun i W' b => ⟨⟨W', i.2.next b⟩, rfl⟩⟩
      have c0 : ∀ i, (Fw i).cell? ⟨w.heap.size, 0, none⟩ = some (.int .u64 (k0.toNat : Int)) := fun i => (hJ.out i).c0
      have c1 : ∀ i, (Fw i).cell? ⟨w.heap.size, 1, none⟩ = some (.int .u64 (k1.toNat : Int)) := fun i => (hJ.out i).c1
      refine wp_region_class_lit (by kernel_rfl) (by kernel_rfl) i0 h0 ?_
      repeat (go_big_quiet_step (first | (go_at_call_of 18 (Value.pointer (some ⟨b, 0, none⟩)); exact class_of hcl.out (HS.out _ (hJ.out _).h)) | (go_at_call 8; exact class_of hcl.out (HR.out _)) | (go_at_call_of 18 (Value.pointer none); exact class_of_same (sum_nil6 _)) | (go_at_call 17; exact class_of_same (len_nil6 _)) | (go_at_call 15; exact class_of_same (clone_nil6 _))))
      refine wpQuiet_nil ?_
      rintro _ ⟨iq, rfl⟩
      go_wp2
      go_ret
      exact ⟨rfl, (hJ.out iq).below⟩
end
end Go.Proofs.Ytpjpnkohagcegaa
