/- The digest: the contracts of Twice and of the document's Twice. Journals: the bytes of records and of fronts; the document's lay, sum, Head and Record. Journals: the contracts of eight, Head and Record, of the program and of the document. -/
import Derived.Test.YtgncphoaknffnaaDoorX08
import Derived.Test.YtgncphoaknffnaaDoorX09
namespace Go.Proofs.YtgncphoaknffnaaDoor
open Go.RowKit
open Go.Deep
section
set_option maxRecDepth 10000
set_option maxHeartbeats 1000000
theorem twice_any (s : ByteArray) (hs : s.size < 2305843009213693000) (w : World) (hK : Kg w) : Calls Tryd.prog 54 #[.string s] w fun e w' => e = .returned (.agg (hc (digest (digest s.data.toList)))) ∧ Below w.heap.size w w' := by
  have HS := hide fun W hW => sum_any s hs W hW
  have hdl := digest_len s.data.toList
  generalize digest s.data.toList = D at *
  have hDz : (⟨D.toArray⟩ : ByteArray).size = 32 := by show D.toArray.size = 32; rw [List.size_toArray, hdl]
  have HT := hide fun W hW => sum_any ⟨D.toArray⟩ (by rw [hDz]; omega) W hW
  rw [show (⟨D.toArray⟩ : ByteArray).data.toList = D from rfl] at HT
  have hel := digest_len D
  generalize digest D = E at *
  have HK := hide hK
  have K2 := hide (hK.next ((Below.refl w.heap.size w).alloc (Nat.le_refl _) (.cells (hc zeros) 90)))
  clear hK hDz
  go_enter Tryd.func54, Tryd.ntmps54
  go_wp2_with (first | refine wpList_allocA A25 rfl rfl ?_ | (go_at_call_of 79 (Value.string s); refine (HS.out _ K2.out).mono ?_; rintro e w1 ⟨rfl, b1⟩; obtain ⟨n1, B1, hlt⟩ := sb_mid b1 (Nat.le_refl _); clear b1 hlt; have hcv := conv_row (w1.alloc (.cells (hc D) 90)) w1.heap.size D hdl 90 (heap_alloc_last _ _); obtain ⟨n2, B2⟩ := sb_last n1.out B1.out ((Below.refl w1.heap.size w1).alloc (Nat.le_refl _) (.cells (hc D) 90)); clear n1 B1) | refine wpList_store_newA A25 rfl _ _ rfl _ rfl (hc D) (by rw [hc_size, hdl]) (hc_one _) rfl rfl ?_ | (go_at_call_of 79 (Value.string ⟨D.toArray⟩); refine (HT.out _ (HK.out.next B2.out)).mono ?_; rintro e w3 ⟨rfl, b3⟩; obtain ⟨n3, B3⟩ := sb_last n2.out B2.out b3; clear b3) | refine wpList_storeA A25 rfl _ _ rfl _ (hc E) (by rw [hc_size, hel]) (hc_one _) rfl rfl (hc zeros) (by rw [hc_size, zeros_len]) 90 n3.out ?_)
  exact bodyPost_ret (v := .agg (hc E)) (resA A25 Tryd.results54 _ _ w.heap.size 90 _ (by rw [hc_size, hel]) rfl (setRow_heap _ _ _ _ _ _ n3.out)) rfl ⟨rfl, below_setRow B3.out (Nat.le_refl _) _⟩
theorem rtwice_any (s : ByteArray) (hs : s.size < 2305843009213693000) (w : World) : Calls Tryd.prog 55 #[.string s] w fun e w' => e = .returned (.agg (hc (digest (digest s.data.toList)))) ∧ Below w.heap.size w w' := by
  have HS := hide fun W => rsum_any s hs W
  have hdl := digest_len s.data.toList
  generalize digest s.data.toList = D at *
  have hDz : (⟨D.toArray⟩ : ByteArray).size = 32 := by show D.toArray.size = 32; rw [List.size_toArray, hdl]
  have HT := hide fun W => rsum_any ⟨D.toArray⟩ (by rw [hDz]; omega) W
  rw [show (⟨D.toArray⟩ : ByteArray).data.toList = D from rfl] at HT
  have hel := digest_len D
  generalize digest D = E at *
  clear hDz
  go_enter Tryd.func55, Tryd.ntmps55
  go_wp2_with (first | refine wpList_allocA A24 rfl rfl ?_ | (go_at_call_of 80 (Value.string s); refine (HS.out _).mono ?_; rintro e w1 ⟨rfl, b1⟩; obtain ⟨n1, B1, hlt⟩ := sb_mid b1 (Nat.le_refl _); clear b1 hlt; have hcv := conv_row (w1.alloc (.cells (hc D) 89)) w1.heap.size D hdl 89 (heap_alloc_last _ _); obtain ⟨n2, B2⟩ := sb_last n1.out B1.out ((Below.refl w1.heap.size w1).alloc (Nat.le_refl _) (.cells (hc D) 89)); clear n1 B1) | refine wpList_store_newA A24 rfl _ _ rfl _ rfl (hc D) (by rw [hc_size, hdl]) (hc_one _) rfl rfl ?_ | (go_at_call_of 80 (Value.string ⟨D.toArray⟩); refine (HT.out _).mono ?_; rintro e w3 ⟨rfl, b3⟩; obtain ⟨n3, B3⟩ := sb_last n2.out B2.out b3; clear b3) | refine wpList_storeA A24 rfl _ _ rfl _ (hc E) (by rw [hc_size, hel]) (hc_one _) rfl rfl (hc zeros) (by rw [hc_size, zeros_len]) 89 n3.out ?_)
  exact bodyPost_ret (v := .agg (hc E)) (resA A24 Tryd.results55 _ _ w.heap.size 89 _ (by rw [hc_size, hel]) rfl (setRow_heap _ _ _ _ _ _ n3.out)) rfl ⟨rfl, below_setRow B3.out (Nat.le_refl _) _⟩
end
end Go.Proofs.YtgncphoaknffnaaDoor
namespace Go.Proofs.YtgncphoaknffnaaDoor
open Go.RowKit
open Go.Deep
set_option linter.unusedVariables false
/-- The digest of a digest, and its first four bytes. -/
def digJ (p : List UInt8) : List UInt8 := digest (digest p)
def sm4 (p : List UInt8) : List UInt8 := (digJ p).take 4
theorem digJ_len (p : List UInt8) : (digJ p).length = 32 := digest_len _
theorem sm4_len (p : List UInt8) : (sm4 p).length = 4 := by unfold sm4; rw [List.length_take, digJ_len]; rfl
/-- The word with which a file begins. -/
def markL : List UInt8 := [98, 101, 100, 114, 111, 99, 107, 106]
def headL (ep : Nat) : List UInt8 := (markL ++ lowL ep 8) ++ sm4 (markL ++ lowL ep 8)
def bodyL (no : Nat) (s : List UInt8) : List UInt8 := lowL s.length 4 ++ lowL no 8 ++ s
def recL (ep no : Nat) (s : List UInt8) : List UInt8 := bodyL no s ++ sm4 (lowL ep 8 ++ bodyL no s)
theorem headL_len (ep : Nat) : (headL ep).length = 20 := by
  unfold headL
  rw [List.length_append, sm4_len, List.length_append, lowL_len]
  rfl
theorem bodyL_len (no : Nat) (s : List UInt8) : (bodyL no s).length = 12 + s.length := by
  unfold bodyL
  rw [List.length_append, List.length_append, lowL_len, lowL_len]
theorem recL_len (ep no : Nat) (s : List UInt8) : (recL ep no s).length = 16 + s.length := by
  unfold recL
  rw [List.length_append, sm4_len, bodyL_len]
  omega
theorem txtJ_list (l : List UInt8) : (txt l).data.toList = l := rfl
theorem txtJ_size (l : List UInt8) : (txt l).size = l.length := by show l.toArray.size = _; simp
theorem txtJ_app (a b : List UInt8) : txt a ++ txt b = txt (a ++ b) := by apply ByteArray.ext; simp [txt]
theorem txtJ_of (s : ByteArray) : txt s.data.toList = s := by apply ByteArray.ext; simp [txt]
theorem txtJ_inj {a b : List UInt8} (h : txt a = txt b) : a = b := by
  have := congrArg (fun s : ByteArray => s.data.toList) h
  exact this
/-- A writer at block b that holds l, all made behind B. -/
structure Wb (B w : World) (b : Nat) (l : List UInt8) : Prop where
  st : Wst w (.pointer (some ⟨b, 0, none⟩)) l
  bel : Below B.heap.size B w
  far : B.heap.size ≤ b
  row : ∀ k, rowOf w (.pointer (some ⟨b, 0, none⟩)) = some k → B.heap.size ≤ k
theorem Wb.new (w : World) : Wb w (w.alloc (.cells #[.slice none 0 0] 87)) w.heap.size [] := by
  refine ⟨Wst.new w, (Below.refl _ _).alloc (Nat.le_refl _) _, Nat.le_refl _, fun k hk => ?_⟩
  have hc : (w.alloc (.cells #[.slice none 0 0] 87)).cell? ⟨w.heap.size, 0, none⟩ = some (.slice none 0 0) := by
    rw [cell_of_row _ _ 0 _ _ _ (heap_alloc_new w _)]; rfl
  simp [rowOf, hc, Value.ownBlock] at hk
theorem Wb.step {B w w' : World} {b : Nat} {l l' : List UInt8} (h : Wb B w b l) (s : Wst w' (.pointer (some ⟨b, 0, none⟩)) l') (f : Wfr w w' (.pointer (some ⟨b, 0, none⟩))) : Wb B w' b l' := by
  have hs := h.bel.size
  refine ⟨s, h.bel.trans ⟨f.os, f.tape, f.output, f.size, fun k hk => f.block k (by omega) ?_ ?_⟩, h.far, fun k hk => ?_⟩
  · have := h.far
    simp [blkOf]
    omega
  · intro e
    have := h.row k e
    omega
  · rcases f.lies with e | ⟨g, e, hg⟩
    · exact h.row k (by rw [← e]; exact hk)
    · rw [e] at hk
      cases hk
      omega
theorem Wb.next {B w w' : World} {b : Nat} {l : List UInt8} (h : Wb B w b l) (k : Below w.heap.size w w') : Wb B w' b l := h.step (h.st.below k) (Wfr.of_below h.st k)
/-- The first four of an array's bytes as a text. -/
theorem convJ_four (w : World) (g : Nat) (l : List UInt8) (hl : l.length = 32) (t : TypeId) (hg : w.heap[g]? = some (.cells (hc l) t (0, 0))) :
    (convert 85 9 (.slice (some ⟨g, 0, none⟩) 4 32)).run Tryd.prog w = .ok (.string (txt (l.take 4))) w := by
  have := run_convert_bytes_back (P := Tryd.prog) w 85 9 5 ⟨g, 0, none⟩ 32 (l.take 4) Tryd.underlying85 Tryd.underlying5 Tryd.underlying9 (fun j hj => by
    have hadd : (⟨g, 0, none⟩ : Addr).add j = ⟨g, j, none⟩ := by unfold Addr.add; split <;> simp_all
    rw [List.length_take, hl] at hj
    rw [hadd, cell_of_row w g j _ t (0, 0) hg]
    simp [hc, cellsL]
    exact ⟨l[j], List.getElem?_eq_getElem (by omega), rfl⟩)
  rwa [List.length_take, hl] at this
theorem bs0J (w : World) : (Instr.buildSlice 85 0 #[]).run Tryd.prog w = .ok (.slice (some ⟨w.heap.size, 0, none⟩) 0 0) (w.alloc (.cells #[] 5)) := by kernel_rfl
section
set_option maxRecDepth 10000
set_option maxHeartbeats 4000000
theorem rlayJ_any (n k : Nat) (K : Int) (hK : K = k) (hn : U64 n) (w : World) (hk : k ≤ 8) : Calls Tryd.prog 35 #[.int .u64 n, .int .i64 K] w fun e w' => e = .returned (.string (txt (lowL n k))) ∧ Below w.heap.size w w' := by
  subst hK
  have h5 := bs0J w
  have O0 : Own (w.alloc (.cells #[] 5)) (.slice (some ⟨w.heap.size, 0, none⟩) 0 0) [] := World.ownsRow_made w #[] 0 (Nat.zero_le _) (Nat.zero_le _) rfl
  have B0 : Below w.heap.size w (w.alloc (.cells #[] 5)) := (Below.refl _ _).alloc (Nat.le_refl _) _
  have J0 := hide (And.intro O0 B0)
  clear O0 B0
  go_enter Tryd.func35, Tryd.ntmps35
  go_upto_region 3 with fail
  clear h5
  generalize hW : w.alloc (.cells #[] 5) = W0 at *
  go_loopw [0, 5, 6] (fun m v i wr => ∃ (j x : Nat) (l : List UInt8), j ≤ k ∧ i = .int .i64 (j : Int) ∧ m = .int .u64 (x : Nat) ∧ U64 x ∧ Own wr v l ∧ Hid (l ++ lowL x (k - j) = lowL n k) ∧ Hid (Below w.heap.size w wr) ∧ Hid (∀ g, v.ownBlock = some g → w.heap.size ≤ g)) (fun _ _ i _ => (k - intOf i).toNat)
  case atStart => exact ⟨0, n, [], Nat.zero_le _, rfl, rfl, hn, J0.out.1, by simp [Hid], J0.out.2, fun g hg => by cases hg; exact Nat.le_refl _⟩
  case round =>
    clear J0
    obtain ⟨j, x, l, hj, rfl, rfl, hx, ho, hl, hg, hfar⟩ := hrel
    obtain ⟨ao, nn, cc, rfl, hnn⟩ := ho.form
    by_cases hlt : j < k
    · have hll : l.length ≤ 8 := by
        have := congrArg List.length hl.out
        simp only [List.length_append, lowL_len] at this
        omega
      have HO := hide ho
      clear ho
      go_wp2_with (at_builtin; refine wpList_app rfl _ _ rfl (.slice ao nn cc) l rfl (HO.out.alloc _) ⟨_, 0, none⟩ 1 1 [UInt8.ofNat (x % 256)] rfl rfl (one_new _ _ _ (byte_of x)) (by omega) ?_; intro v' W3 ho3 on3)
      refine ⟨⟨j + 1, x / 256, l ++ [UInt8.ofNat (x % 256)], by omega, by go_num, ?_, hx.div, ho3, ?_, ?_, ?_⟩, by simp [intOf]; omega⟩
      · have := hx.lt
        rw [wrapu _ (by omega) (by omega)]
        rfl
      · have := hl.out
        rw [show k - j = (k - (j + 1)) + 1 by omega] at this
        simpa [Hid, lowL] using this
      · have g := on3.grown
        have b1 := hg.out.size
        have ba : Below wr.heap.size wr (wr.alloc (.cells #[.int .u8 ((x : Int) % 256)] 5)) := (Below.refl _ _).alloc (Nat.le_refl _) _
        have b2 := ba.size
        refine ⟨(g.os.trans ba.os).trans hg.out.os, (g.tape.trans ba.tape).trans hg.out.tape, (g.output.trans ba.output).trans hg.out.output, by have := g.size; omega, fun q hq => ((g.block q (by omega) (fun e => by have := hfar.out q e.symm; omega)).trans (ba.block q (by omega))).trans (hg.out.block q hq)⟩
      · intro q hq
        have b1 := hg.out.size
        rcases on3.lies with r | ⟨c, r, hc⟩
        · exact hfar.out q (by rw [← r]; exact hq)
        · rw [r] at hq
          cases hq
          have : wr.heap.size ≤ (wr.alloc (.cells #[.int .u8 ((x : Int) % 256)] 5)).heap.size := by simp
          omega
    · have he : l = lowL n k := by
        have := hl.out
        rw [show k - j = 0 by omega] at this
        simpa [lowL] using this
      subst he
      have hcv := conv_own ho
      go_wp2
      go_ret
      exact ⟨rfl, hg.out⟩

/-- The document's sum. -/
theorem rsumJ_any (s : ByteArray) (hs : s.size < 2305843009213693000) (w : World) : Calls Tryd.prog 36 #[.string s] w fun e w' => e = .returned (.string (txt (sm4 s.data.toList))) ∧ Below w.heap.size w w' := by
  have HT := hide fun W => rtwice_any s hs W
  have hdl := digJ_len s.data.toList
  rw [show digest (digest s.data.toList) = digJ s.data.toList from rfl] at HT
  unfold sm4
  generalize digJ s.data.toList = D at *
  go_enter Tryd.func36, Tryd.ntmps36
  go_wp2_with (first | (go_at_call 55; refine (HT.out _).mono ?_; rintro e w1 ⟨rfl, b1⟩; have hcv := convJ_four (w1.alloc (.cells (hc D) 89)) w1.heap.size D hdl 89 (heap_alloc_last _ _)) | refine wpList_allocA A24 rfl rfl ?_ | refine wpList_store_newA A24 rfl _ _ rfl _ rfl (hc D) (by rw [hc_size, hdl]) (hc_one _) rfl rfl ?_)
  go_ret
  exact ⟨rfl, b1.alloc b1.size _⟩
/-- The program's. -/
theorem sumJ_any (s : ByteArray) (hs : s.size < 2305843009213693000) (w : World) (hK : Kg w) : Calls Tryd.prog 33 #[.string s] w fun e w' => e = .returned (.string (txt (sm4 s.data.toList))) ∧ Below w.heap.size w w' := by
  have HT := hide fun W hW => twice_any s hs W hW
  have hdl := digJ_len s.data.toList
  rw [show digest (digest s.data.toList) = digJ s.data.toList from rfl] at HT
  unfold sm4
  generalize digJ s.data.toList = D at *
  have KW := hide hK
  clear hK
  go_enter Tryd.func33, Tryd.ntmps33
  go_wp2_with (first | (go_at_call 54; refine (HT.out _ KW.out).mono ?_; rintro e w1 ⟨rfl, b1⟩; have hcv := convJ_four (w1.alloc (.cells (hc D) 90)) w1.heap.size D hdl 90 (heap_alloc_last _ _)) | refine wpList_allocA A25 rfl rfl ?_ | refine wpList_store_newA A25 rfl _ _ rfl _ rfl (hc D) (by rw [hc_size, hdl]) (hc_one _) rfl rfl ?_)
  go_ret
  exact ⟨rfl, b1.alloc b1.size _⟩
end
end Go.Proofs.YtgncphoaknffnaaDoor
namespace Go.Proofs.YtgncphoaknffnaaDoor
open Go.RowKit
open Go.Deep
set_option linter.unusedVariables false
section
set_option maxRecDepth 10000
set_option maxHeartbeats 4000000
theorem eightJ_any (m : Nat) (hm : U64 m) (w : World) : Calls Tryd.prog 34 #[.int .u64 m] w fun e w' => e = .returned (.string (txt (lowL m 8))) ∧ Below w.heap.size w w' := by
  go_enter Tryd.func34, Tryd.ntmps34
  go_wp2_with (first | (go_at_call 28; refine (newWriter_any _).mono ?_; rintro e w1 ⟨rfl, rfl⟩; have J := hide (Wb.new w)) | (go_at_call 30; refine (wU64 _ _ m hm _ (by simp) J.out.st).mono ?_; rintro e w2 ⟨rfl, s2, f2⟩; have J2 := hide (J.out.step s2 f2); rw [List.nil_append] at J2; clear s2 f2) | (go_at_call 32; refine (wText _ _ _ J2.out.st).mono ?_; rintro e w3 ⟨rfl, rfl⟩))
  go_ret
  exact ⟨rfl, J2.out.bel⟩
theorem headJ_any (ep : Nat) (hn : U64 ep) (w : World) (hK : Kg w) : Calls Tryd.prog 8 #[.int .u64 ep] w fun e w' => e = .returned (.string (txt (headL ep))) ∧ Below w.heap.size w w' := by
  have HE := hide fun W => eightJ_any ep hn W
  have h8 : (txt (lowL ep 8)).size = 8 := by rw [txtJ_size, lowL_len]
  have q1 : (⟨#[98, 101, 100, 114, 111, 99, 107, 106]⟩ : ByteArray) ++ txt (lowL ep 8) = txt (markL ++ lowL ep 8) := by rw [← txtJ_app]; rfl
  have z1 : (txt (markL ++ lowL ep 8)).size = 16 := by rw [txtJ_size, List.length_append, lowL_len]; rfl
  have HS := hide fun W hW => sumJ_any (txt (markL ++ lowL ep 8)) (by rw [z1]; decide) W hW
  rw [txtJ_list] at HS
  have q2 : txt (markL ++ lowL ep 8) ++ txt (sm4 (markL ++ lowL ep 8)) = txt (headL ep) := by rw [txtJ_app]; rfl
  have z2 : (txt (sm4 (markL ++ lowL ep 8))).size = 4 := by rw [txtJ_size, sm4_len]
  have KW := hide hK
  clear hK
  generalize txt (sm4 (markL ++ lowL ep 8)) = t3 at *
  generalize txt (markL ++ lowL ep 8) = t2 at *
  generalize txt (lowL ep 8) = t1 at *
  generalize txt (headL ep) = t4 at *
  go_enter Tryd.func8, Tryd.ntmps8
  go_upto_region 2 with (go_at_call 34; refine (HE.out _).mono ?_; rintro e w1 ⟨rfl, b1⟩)
  go_wp2_with (go_at_call 33; refine (HS.out _ (KW.out.next b1)).mono ?_; rintro e w2 ⟨rfl, b2⟩)
  go_ret
  exact ⟨rfl, b1.trans (b2.mono b1.size)⟩
theorem rheadJ_any (ep : Nat) (hn : U64 ep) (w : World) : Calls Tryd.prog 9 #[.int .u64 ep] w fun e w' => e = .returned (.string (txt (headL ep))) ∧ Below w.heap.size w w' := by
  have HE := hide fun W => rlayJ_any ep 8 8 rfl hn W (by omega)
  have h8 : (txt (lowL ep 8)).size = 8 := by rw [txtJ_size, lowL_len]
  have q1 : (⟨#[98, 101, 100, 114, 111, 99, 107, 106]⟩ : ByteArray) ++ txt (lowL ep 8) = txt (markL ++ lowL ep 8) := by rw [← txtJ_app]; rfl
  have z1 : (txt (markL ++ lowL ep 8)).size = 16 := by rw [txtJ_size, List.length_append, lowL_len]; rfl
  have HS := hide fun W => rsumJ_any (txt (markL ++ lowL ep 8)) (by rw [z1]; decide) W
  rw [txtJ_list] at HS
  have q2 : txt (markL ++ lowL ep 8) ++ txt (sm4 (markL ++ lowL ep 8)) = txt (headL ep) := by rw [txtJ_app]; rfl
  have z2 : (txt (sm4 (markL ++ lowL ep 8))).size = 4 := by rw [txtJ_size, sm4_len]
  generalize txt (sm4 (markL ++ lowL ep 8)) = t3 at *
  generalize txt (markL ++ lowL ep 8) = t2 at *
  generalize txt (lowL ep 8) = t1 at *
  generalize txt (headL ep) = t4 at *
  go_enter Tryd.func9, Tryd.ntmps9
  go_upto_region 2 with (go_at_call 35; refine (HE.out _).mono ?_; rintro e w1 ⟨rfl, b1⟩)
  go_wp2_with (go_at_call 36; refine (HS.out _ ).mono ?_; rintro e w2 ⟨rfl, b2⟩)
  go_ret
  exact ⟨rfl, b1.trans (b2.mono b1.size)⟩
/-- The program's Record: of a text that is too long. -/
theorem recJ_long (ep no : Nat) (s : ByteArray) (hl : 65536 < s.size) (hm : s.size ≤ maxLen) (w : World) : Calls Tryd.prog 6 #[.int .u64 ep, .int .u64 no, .string s] w fun e w' => e = .returned (.tuple #[.string ⟨#[]⟩, .int .i64 121]) ∧ w' = w := by
  unfold maxLen at hm
  have h1 : (65536 : Int) < s.size := by omega
  go_enter Tryd.func6, Tryd.ntmps6
  go_wp2
  go_ret2
  exact ⟨rfl, rfl⟩
theorem recJ_any (ep no : Nat) (he : U64 ep) (hn : U64 no) (s : ByteArray) (hl : s.size ≤ 65536) (w : World) (hK : Kg w) : Calls Tryd.prog 6 #[.int .u64 ep, .int .u64 no, .string s] w fun e w' => e = .returned (.tuple #[.string (txt (recL ep no s.data.toList)), .int .i64 0]) ∧ Below w.heap.size w w' := by
  have h0 : ¬ (65536 : Int) < s.size := by omega
  have h1 : (s.size : Int) % 4294967296 = s.size := by omega
  have hsl : s.data.toList.length = s.size := by simp
  have HU := hide fun W p l h1 h2 => wU32 p l s.size (by omega) W h1 h2
  have HE := hide fun W => eightJ_any ep he W
  have zb : (txt (bodyL no s.data.toList)).size = 12 + s.size := by rw [txtJ_size, bodyL_len, hsl]
  have h8 : (txt (lowL ep 8)).size = 8 := by rw [txtJ_size, lowL_len]
  have HS := hide fun W hW => sumJ_any (txt (lowL ep 8 ++ bodyL no s.data.toList)) (by rw [txtJ_size, List.length_append, lowL_len, bodyL_len]; omega) W hW
  rw [txtJ_list] at HS
  have q1 := txtJ_app (lowL ep 8) (bodyL no s.data.toList)
  have q2 : txt (bodyL no s.data.toList) ++ txt (sm4 (lowL ep 8 ++ bodyL no s.data.toList)) = txt (recL ep no s.data.toList) := by rw [txtJ_app]; rfl
  have z2 : (txt (sm4 (lowL ep 8 ++ bodyL no s.data.toList))).size = 4 := by rw [txtJ_size, sm4_len]
  have KW := hide hK
  have HB : Hid (([] ++ lowL s.size 4) ++ lowL no 8 ++ s.data.toList = bodyL no s.data.toList) := by show _ = _; unfold bodyL; rw [hsl]; rfl
  have HSl := hide hsl
  clear hK hsl
  go_enter Tryd.func6, Tryd.ntmps6
  go_upto_region 8 with (first | (go_at_call 28; refine (newWriter_any _).mono ?_; rintro e w1 ⟨rfl, rfl⟩; have J := hide (Wb.new w)) | (go_at_call 29; refine (HU.out _ _ [] (by simp) J.out.st).mono ?_; rintro e w2 ⟨rfl, s2, f2⟩; have J2 := hide (J.out.step s2 f2); clear s2 f2) | (go_at_call 30; refine (wU64 _ _ no hn _ (by simp [lowL_len]) J2.out.st).mono ?_; rintro e w3 ⟨rfl, s3, f3⟩; have J3 := hide (J2.out.step s3 f3); clear s3 f3) | (go_at_call 31; refine (wBytes _ _ s (.inr (by omega)) _ (by simp [lowL_len]) J3.out.st).mono ?_; rintro e w4 ⟨rfl, s4, f4⟩; have J4 := hide (J3.out.step s4 f4); rw [HB.out] at J4; clear s4 f4) | (go_at_call 32; refine (wText _ _ _ J4.out.st).mono ?_; rintro e w5 ⟨rfl, rfl⟩))
  clear J J2 J3 HU HB
  have B4 := hide J4.out.bel
  clear J4
  generalize txt (sm4 (lowL ep 8 ++ bodyL no s.data.toList)) = t3 at *
  generalize txt (lowL ep 8 ++ bodyL no s.data.toList) = t2 at *
  generalize txt (lowL ep 8) = t1 at *
  generalize txt (bodyL no s.data.toList) = t5 at *
  go_wp2_with (first | (go_at_call 34; refine (HE.out _).mono ?_; rintro e w6 ⟨rfl, b6⟩) | (go_at_call 33; refine (HS.out _ (KW.out.next (B4.out.trans (b6.mono B4.out.size)))).mono ?_; rintro e w7 ⟨rfl, b7⟩))
  go_ret2
  have bb := B4.out.trans (b6.mono B4.out.size)
  exact ⟨rfl, bb.trans (b7.mono bb.size)⟩
theorem rrecJ_any (ep no : Nat) (he : U64 ep) (hn : U64 no) (s : ByteArray) (hl : s.size ≤ 65536) (w : World) : Calls Tryd.prog 10 #[.int .u64 ep, .int .u64 no, .string s] w fun e w' => e = .returned (.string (txt (recL ep no s.data.toList))) ∧ Below w.heap.size w w' := by
  have h1 : (s.size : Int) % 18446744073709551616 = s.size := by omega
  have hsl : s.data.toList.length = s.size := by simp
  have HL4 := hide fun W => rlayJ_any s.size 4 4 rfl (by unfold U64; omega) W (by omega)
  have HL8 := hide fun W => rlayJ_any no 8 8 rfl hn W (by omega)
  have HLe := hide fun W => rlayJ_any ep 8 8 rfl he W (by omega)
  have z4 : (txt (lowL s.size 4)).size = 4 := by rw [txtJ_size, lowL_len]
  have z8 : (txt (lowL no 8)).size = 8 := by rw [txtJ_size, lowL_len]
  have ze : (txt (lowL ep 8)).size = 8 := by rw [txtJ_size, lowL_len]
  have zb : (txt (bodyL no s.data.toList)).size = 12 + s.size := by rw [txtJ_size, bodyL_len, hsl]
  have HS := hide fun W => rsumJ_any (txt (lowL ep 8 ++ bodyL no s.data.toList)) (by rw [txtJ_size, List.length_append, lowL_len, bodyL_len]; omega) W
  rw [txtJ_list] at HS
  have q0 : txt (lowL s.size 4) ++ txt (lowL no 8) ++ s = txt (bodyL no s.data.toList) := by
    rw [show txt (lowL s.size 4) ++ txt (lowL no 8) ++ s = txt (lowL s.size 4) ++ txt (lowL no 8) ++ txt s.data.toList by rw [txtJ_of], txtJ_app, txtJ_app]
    unfold bodyL
    rw [hsl]
  have q1 := txtJ_app (lowL ep 8) (bodyL no s.data.toList)
  have q2 : txt (bodyL no s.data.toList) ++ txt (sm4 (lowL ep 8 ++ bodyL no s.data.toList)) = txt (recL ep no s.data.toList) := by rw [txtJ_app]; rfl
  have z2 : (txt (sm4 (lowL ep 8 ++ bodyL no s.data.toList))).size = 4 := by rw [txtJ_size, sm4_len]
  clear hsl
  generalize txt (sm4 (lowL ep 8 ++ bodyL no s.data.toList)) = t3 at *
  generalize txt (lowL ep 8 ++ bodyL no s.data.toList) = t2 at *
  generalize txt (lowL ep 8) = t1 at *
  generalize txt (recL ep no s.data.toList) = t4 at *
  generalize txt (bodyL no s.data.toList) = t5 at *
  generalize txt (lowL s.size 4) = t6 at *
  generalize txt (lowL no 8) = t7 at *
  go_enter Tryd.func10, Tryd.ntmps10
  go_upto_region 2 with (first | (go_at_call 35; with_reducible refine (HL4.out _).mono ?_; rintro e w1 ⟨rfl, b1⟩) | (go_at_call 35; with_reducible refine (HL8.out _).mono ?_; rintro e w2 ⟨rfl, b2⟩))
  have bb := b1.trans (b2.mono b1.size)
  go_wp2_with (first | (go_at_call 35; refine (HLe.out _).mono ?_; rintro e w3 ⟨rfl, b3⟩) | (go_at_call 36; refine (HS.out _).mono ?_; rintro e w4 ⟨rfl, b4⟩))
  go_ret
  have bc := bb.trans (b3.mono bb.size)
  exact ⟨rfl, bc.trans (b4.mono bc.size)⟩
end
end Go.Proofs.YtgncphoaknffnaaDoor
