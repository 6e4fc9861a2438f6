/- The contracts of Sum of a nil hasher, sumBehind and Sum. -/
import Derived.Test.YtfldpejdpinppaaDoorK
namespace Go.Proofs.YtfldpejdpinppaaDoor
open Go.RowKit
open Go.Deep
theorem Hat.rfr {w w' : World} {b c : Nat} {t : List UInt8} (h : Hat w b t) (hb : b ≠ c) (r : Rfr c w w') : Hat w' b t := h.of_block (r.block b h.lt hb)
/-- A hash, turned into a string. -/
theorem conv_row (w : World) (g : Nat) (l : List UInt8) (hl : l.length = 32) (t : TypeId) (hg : w.heap[g]? = some (.cells (hc l) t (0, 0))) :
    (convert 53 9 (.slice (some ⟨g, 0, none⟩) 32 32)).run Tryd.prog w = .ok (.string ⟨l.toArray⟩) w := by
  have := run_convert_bytes_back (P := Tryd.prog) w 53 9 5 ⟨g, 0, none⟩ 32 l Tryd.underlying53 Tryd.underlying5 Tryd.underlying9 (fun j hj => by
    have hadd : (⟨g, 0, none⟩ : Addr).add j = ⟨g, j, none⟩ := by unfold Addr.add; split <;> simp_all
    rw [hadd, cell_of_row w g j _ t (0, 0) hg]
    simp [hc, cellsL, hj])
  rwa [hl] at this
theorem sb_mid {w w1 : World} {A : Obj} {b : Nat} (b1 : Below (w.alloc A).heap.size (w.alloc A) w1) (hb : (w.alloc A).heap.size ≤ b) : Hid (w1.heap[w.heap.size]? = some A) ∧ Hid (Below w.heap.size w w1) ∧ Hid (w.heap.size < b) := by
  have hN : (w.alloc A).heap.size = w.heap.size + 1 := by simp
  rw [hN] at b1 hb
  exact ⟨(b1.block _ (by omega)).trans (heap_alloc_last _ _), ((Below.refl _ _).alloc (Nat.le_refl _) _).trans (b1.mono (by omega)), Nat.lt_of_succ_le hb⟩
theorem sb_next {w w1 w2 : World} {A : Obj} {b : Nat} (n1 : w1.heap[w.heap.size]? = some A) (B1 : Below w.heap.size w w1) (hb : w.heap.size < b) (r : Rfr b w1 w2) : Hid (w2.heap[w.heap.size]? = some A) ∧ Hid (Below w.heap.size w w2) :=
  ⟨(r.block _ (lt_heap n1) (by omega)).trans n1, B1.trans (r.to_below (by omega) B1.size)⟩
theorem sb_last {w w1 w2 : World} {A : Obj} (n1 : w1.heap[w.heap.size]? = some A) (B1 : Below w.heap.size w w1) (r : Below w1.heap.size w1 w2) : Hid (w2.heap[w.heap.size]? = some A) ∧ Hid (Below w.heap.size w w2) :=
  ⟨(r.block _ (lt_heap n1)).trans n1, B1.trans (r.mono B1.size)⟩
section
set_option maxRecDepth 10000
set_option maxHeartbeats 1000000
theorem hsum_nil (w : World) (hK : Kg w) : Calls Tryd.prog 55 #[.pointer none] w fun e w' => e = .returned (.agg (hc (digest []))) ∧ Below w.heap.size w w' := by
  have HK := hide hK
  have HN := hide fun W => new_any W
  have hdl := digest_len []
  generalize hD : digest [] = D at *
  have HD := hide hD
  clear hK hD
  go_enter Tryd.func55, Tryd.ntmps55
  go_wp2_with (first | refine wpList_allocA A25 rfl rfl ?_ | (go_at_call 53; refine (HN.out _).mono ?_; rintro e w1 ⟨b, rfl, h1, b1, hb⟩; obtain ⟨n1, B1, hlt⟩ := sb_mid b1 hb; have H1 := hide h1; clear h1 b1 hb))
  refine (hsum_any b [] w1 (HK.out.next B1.out) (by simp) H1.out).mono ?_
  rintro e w2 ⟨rfl, b2⟩
  obtain ⟨n2, B2⟩ := sb_last n1.out B1.out b2
  clear b2
  rw [HD.out]
  go_wp2_with (refine wpList_storeA A25 rfl _ _ rfl _ (hc D) (by rw [hc_size, hdl]) (hc_one _) rfl rfl (hc zeros) (by rw [hc_size, zeros_len]) 31 n2.out ?_)
  exact bodyPost_ret (v := .agg (hc D)) (resA A25 Tryd.results55 _ _ w.heap.size 31 _ (by rw [hc_size, hdl]) rfl (setRow_heap _ _ _ _ _ _ n2.out)) rfl ⟨rfl, below_setRow B2.out (Nat.le_refl _) _⟩
theorem behind_any (a s : ByteArray) (hs : a.size + s.size < 2305843009213693000) (w : World) (hK : Kg w) : Calls Tryd.prog 46 #[.string a, .string s] w fun e w' => e = .returned (.agg (hc (digest (a.data.toList ++ s.data.toList)))) ∧ Below w.heap.size w w' := by
  have HK := hide hK
  have HN := hide fun W => new_any W
  have hdl := digest_len (a.data.toList ++ s.data.toList)
  have ha : a.data.toList.length = a.size := by simp
  have hsl : s.data.toList.length = s.size := by simp
  generalize hD : digest (a.data.toList ++ s.data.toList) = D at *
  have HD := hide hD
  clear hK hD
  go_enter Tryd.func46, Tryd.ntmps46
  go_wp2_with (first | refine wpList_allocA A25 rfl rfl ?_ | (go_at_call 53; refine (HN.out _).mono ?_; rintro e w1 ⟨b, rfl, h1, b1, hb⟩; obtain ⟨n1, B1, hlt⟩ := sb_mid b1 hb; have H1 := hide h1; clear h1 b1 hb))
  refine (write_any b [] a w1 (HK.out.next B1.out) (by have := hlt.out; have := HK.out.lt; omega) (by simp; omega) H1.out).mono ?_
  rintro e w2 ⟨rfl, h2, r2⟩
  obtain ⟨n2, B2⟩ := sb_next n1.out B1.out hlt.out r2
  have H2 := hide h2
  clear h2 r2 H1 n1 B1
  go_wp2_with fail
  refine (write_any b ([] ++ a.data.toList) s w2 (HK.out.next B2.out) (by have := hlt.out; have := HK.out.lt; omega) (by simp; omega) H2.out).mono ?_
  rintro e w3 ⟨rfl, h3, r3⟩
  obtain ⟨n3, B3⟩ := sb_next n2.out B2.out hlt.out r3
  have H3 := hide h3
  clear h3 r3 H2 n2 B2
  go_wp2_with fail
  refine (hsum_any b ([] ++ a.data.toList ++ s.data.toList) w3 (HK.out.next B3.out) (by simp; omega) H3.out).mono ?_
  rintro e w4 ⟨rfl, b4⟩
  obtain ⟨n4, B4⟩ := sb_last n3.out B3.out b4
  clear b4 H3 n3 B3
  rw [List.nil_append, HD.out]
  go_wp2_with (refine wpList_storeA A25 rfl _ _ rfl _ (hc D) (by rw [hc_size, hdl]) (hc_one _) rfl rfl (hc zeros) (by rw [hc_size, zeros_len]) 31 n4.out ?_)
  exact bodyPost_ret (v := .agg (hc D)) (resA A25 Tryd.results46 _ _ w.heap.size 31 _ (by rw [hc_size, hdl]) rfl (setRow_heap _ _ _ _ _ _ n4.out)) rfl ⟨rfl, below_setRow B4.out (Nat.le_refl _) _⟩
theorem sum_any (s : ByteArray) (hs : s.size < 2305843009213693000) (w : World) (hK : Kg w) : Calls Tryd.prog 38 #[.string s] w fun e w' => e = .returned (.agg (hc (digest s.data.toList))) ∧ Below w.heap.size w w' := by
  have HB := hide fun W hW => behind_any ⟨#[]⟩ s (by show 0 + s.size < _; omega) W hW
  have hdl := digest_len s.data.toList
  rw [show (⟨#[]⟩ : ByteArray).data.toList ++ s.data.toList = s.data.toList from rfl] at HB
  have K2 := hide (hK.next ((Below.refl w.heap.size w).alloc (Nat.le_refl _) (.cells (hc zeros) 31)))
  generalize digest s.data.toList = D at *
  clear hK
  go_enter Tryd.func38, Tryd.ntmps38
  go_wp2_with (first | refine wpList_allocA A25 rfl rfl ?_ | (go_at_call 46; refine (HB.out _ K2.out).mono ?_; rintro e w1 ⟨rfl, b1⟩; obtain ⟨n1, B1, hlt⟩ := sb_mid b1 (Nat.le_refl _); clear b1 hlt) | refine wpList_storeA A25 rfl _ _ rfl _ (hc D) (by rw [hc_size, hdl]) (hc_one _) rfl rfl (hc zeros) (by rw [hc_size, zeros_len]) 31 n1.out ?_)
  exact bodyPost_ret (v := .agg (hc D)) (resA A25 Tryd.results38 _ _ w.heap.size 31 _ (by rw [hc_size, hdl]) rfl (setRow_heap _ _ _ _ _ _ n1.out)) rfl ⟨rfl, below_setRow B1.out (Nat.le_refl _) _⟩
end
end Go.Proofs.YtfldpejdpinppaaDoor
