/- The digest: the contracts of Twice and of the document's Twice. -/
import Derived.Test.YtfldpejdpinppaaDoorM
namespace Go.Proofs.YtfldpejdpinppaaDoor
open Go.RowKit
open Go.Deep
section
set_option maxRecDepth 10000
set_option maxHeartbeats 1000000
theorem twice_any (s : ByteArray) (hs : s.size < 2305843009213693000) (w : World) (hK : Kg w) : Calls Tryd.prog 27 #[.string s] w fun e w' => e = .returned (.agg (hc (digest (digest s.data.toList)))) ∧ Below w.heap.size w w' := by
  have HS := hide fun W hW => sum_any s hs W hW
  have hdl := digest_len s.data.toList
  generalize digest s.data.toList = D at *
  have hDz : (⟨D.toArray⟩ : ByteArray).size = 32 := by show D.toArray.size = 32; rw [List.size_toArray, hdl]
  have HT := hide fun W hW => sum_any ⟨D.toArray⟩ (by rw [hDz]; omega) W hW
  rw [show (⟨D.toArray⟩ : ByteArray).data.toList = D from rfl] at HT
  have hel := digest_len D
  generalize digest D = E at *
  have HK := hide hK
  have K2 := hide (hK.next ((Below.refl w.heap.size w).alloc (Nat.le_refl _) (.cells (hc zeros) 31)))
  clear hK hDz
  go_enter Tryd.func27, Tryd.ntmps27
  go_wp2_with (first | refine wpList_allocA A25 rfl rfl ?_ | (go_at_call_of 38 (Value.string s); refine (HS.out _ K2.out).mono ?_; rintro e w1 ⟨rfl, b1⟩; obtain ⟨n1, B1, hlt⟩ := sb_mid b1 (Nat.le_refl _); clear b1 hlt; have hcv := conv_row (w1.alloc (.cells (hc D) 31)) w1.heap.size D hdl 31 (heap_alloc_last _ _); obtain ⟨n2, B2⟩ := sb_last n1.out B1.out ((Below.refl w1.heap.size w1).alloc (Nat.le_refl _) (.cells (hc D) 31)); clear n1 B1) | refine wpList_store_newA A25 rfl _ _ rfl _ rfl (hc D) (by rw [hc_size, hdl]) (hc_one _) rfl rfl ?_ | (go_at_call_of 38 (Value.string ⟨D.toArray⟩); refine (HT.out _ (HK.out.next B2.out)).mono ?_; rintro e w3 ⟨rfl, b3⟩; obtain ⟨n3, B3⟩ := sb_last n2.out B2.out b3; clear b3) | refine wpList_storeA A25 rfl _ _ rfl _ (hc E) (by rw [hc_size, hel]) (hc_one _) rfl rfl (hc zeros) (by rw [hc_size, zeros_len]) 31 n3.out ?_)
  exact bodyPost_ret (v := .agg (hc E)) (resA A25 Tryd.results27 _ _ w.heap.size 31 _ (by rw [hc_size, hel]) rfl (setRow_heap _ _ _ _ _ _ n3.out)) rfl ⟨rfl, below_setRow B3.out (Nat.le_refl _) _⟩
theorem rtwice_any (s : ByteArray) (hs : s.size < 2305843009213693000) (w : World) : Calls Tryd.prog 18 #[.string s] w fun e w' => e = .returned (.agg (hc (digest (digest s.data.toList)))) ∧ Below w.heap.size w w' := by
  have HS := hide fun W => rsum_any s hs W
  have hdl := digest_len s.data.toList
  generalize digest s.data.toList = D at *
  have hDz : (⟨D.toArray⟩ : ByteArray).size = 32 := by show D.toArray.size = 32; rw [List.size_toArray, hdl]
  have HT := hide fun W => rsum_any ⟨D.toArray⟩ (by rw [hDz]; omega) W
  rw [show (⟨D.toArray⟩ : ByteArray).data.toList = D from rfl] at HT
  have hel := digest_len D
  generalize digest D = E at *
  clear hDz
  go_enter Tryd.func18, Tryd.ntmps18
  go_wp2_with (first | refine wpList_allocA A24 rfl rfl ?_ | (go_at_call_of 34 (Value.string s); refine (HS.out _).mono ?_; rintro e w1 ⟨rfl, b1⟩; obtain ⟨n1, B1, hlt⟩ := sb_mid b1 (Nat.le_refl _); clear b1 hlt; have hcv := conv_row (w1.alloc (.cells (hc D) 30)) w1.heap.size D hdl 30 (heap_alloc_last _ _); obtain ⟨n2, B2⟩ := sb_last n1.out B1.out ((Below.refl w1.heap.size w1).alloc (Nat.le_refl _) (.cells (hc D) 30)); clear n1 B1) | refine wpList_store_newA A24 rfl _ _ rfl _ rfl (hc D) (by rw [hc_size, hdl]) (hc_one _) rfl rfl ?_ | (go_at_call_of 34 (Value.string ⟨D.toArray⟩); refine (HT.out _).mono ?_; rintro e w3 ⟨rfl, b3⟩; obtain ⟨n3, B3⟩ := sb_last n2.out B2.out b3; clear b3) | refine wpList_storeA A24 rfl _ _ rfl _ (hc E) (by rw [hc_size, hel]) (hc_one _) rfl rfl (hc zeros) (by rw [hc_size, zeros_len]) 30 n3.out ?_)
  exact bodyPost_ret (v := .agg (hc E)) (resA A24 Tryd.results18 _ _ w.heap.size 30 _ (by rw [hc_size, hel]) rfl (setRow_heap _ _ _ _ _ _ n3.out)) rfl ⟨rfl, below_setRow B3.out (Nat.le_refl _) _⟩
end
end Go.Proofs.YtfldpejdpinppaaDoor
