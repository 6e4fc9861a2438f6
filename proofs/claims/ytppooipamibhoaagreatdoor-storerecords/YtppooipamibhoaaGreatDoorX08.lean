/- Journals: the bytes of records and of fronts; the document's lay, sum, Head and Record. The store: the bytes of a record; the contract of Record, of the program and of the document. The store: what is read of bytes: HasPrefix, takeRecord. -/
import Derived.Test.YtppooipamibhoaaGreatDoorX07
namespace Go.Proofs.YtppooipamibhoaaGreatDoor
open Go.RowKit
open Go.Deep
set_option linter.unusedVariables false
/-- The digest of a digest, and its first four bytes. -/
def digJ (p : List UInt8) : List UInt8 := digest (digest p)
def sm4 (p : List UInt8) : List UInt8 := (digJ p).take 4
theorem digJ_len (p : List UInt8) : (digJ p).length = 32 := digest_len _
theorem sm4_len (p : List UInt8) : (sm4 p).length = 4 := by unfold sm4; rw [List.length_take, digJ_len]; rfl
/-- The word with which a file begins. -/
def markL : List UInt8 := [98, 101, 100, 114, 111, 99, 107, 106]
def headL (ep : Nat) : List UInt8 := (markL ++ lowL ep 8) ++ sm4 (markL ++ lowL ep 8)
def bodyL (no : Nat) (s : List UInt8) : List UInt8 := lowL s.length 4 ++ lowL no 8 ++ s
def recL (ep no : Nat) (s : List UInt8) : List UInt8 := bodyL no s ++ sm4 (lowL ep 8 ++ bodyL no s)
theorem headL_len (ep : Nat) : (headL ep).length = 20 := by
  unfold headL
  rw [List.length_append, sm4_len, List.length_append, lowL_len]
  rfl
theorem bodyL_len (no : Nat) (s : List UInt8) : (bodyL no s).length = 12 + s.length := by
  unfold bodyL
  rw [List.length_append, List.length_append, lowL_len, lowL_len]
theorem recL_len (ep no : Nat) (s : List UInt8) : (recL ep no s).length = 16 + s.length := by
  unfold recL
  rw [List.length_append, sm4_len, bodyL_len]
  omega
theorem txtJ_list (l : List UInt8) : (txt l).data.toList = l := rfl
theorem txtJ_size (l : List UInt8) : (txt l).size = l.length := by show l.toArray.size = _; simp
theorem txtJ_app (a b : List UInt8) : txt a ++ txt b = txt (a ++ b) := by apply ByteArray.ext; simp [txt]
theorem txtJ_of (s : ByteArray) : txt s.data.toList = s := by apply ByteArray.ext; simp [txt]
theorem txtJ_inj {a b : List UInt8} (h : txt a = txt b) : a = b := by
  have := congrArg (fun s : ByteArray => s.data.toList) h
  exact this
/-- A writer at block b that holds l, all made behind B. -/
structure WbJ (B w : World) (b : Nat) (l : List UInt8) : Prop where
  st : Wst w (.pointer (some ⟨b, 0, none⟩)) l
  bel : Below B.heap.size B w
  far : B.heap.size ≤ b
  row : ∀ k, rowOf w (.pointer (some ⟨b, 0, none⟩)) = some k → B.heap.size ≤ k
theorem WbJ.new (w : World) : WbJ w (w.alloc (.cells #[.slice none 0 0] 340)) w.heap.size [] := by
  refine ⟨Wst.new w, (Below.refl _ _).alloc (Nat.le_refl _) _, Nat.le_refl _, fun k hk => ?_⟩
  have hc : (w.alloc (.cells #[.slice none 0 0] 340)).cell? ⟨w.heap.size, 0, none⟩ = some (.slice none 0 0) := by
    rw [cell_of_row _ _ 0 _ _ _ (heap_alloc_new w _)]; rfl
  simp [rowOf, hc, Value.ownBlock] at hk
theorem WbJ.step {B w w' : World} {b : Nat} {l l' : List UInt8} (h : WbJ B w b l) (s : Wst w' (.pointer (some ⟨b, 0, none⟩)) l') (f : Wfr w w' (.pointer (some ⟨b, 0, none⟩))) : WbJ B w' b l' := by
  have hs := h.bel.size
  refine ⟨s, h.bel.trans ⟨f.os, f.tape, f.output, f.size, fun k hk => f.block k (by omega) ?_ ?_⟩, h.far, fun k hk => ?_⟩
  · have := h.far
    simp [blkOf]
    omega
  · intro e
    have := h.row k e
    omega
  · rcases f.lies with e | ⟨g, e, hg⟩
    · exact h.row k (by rw [← e]; exact hk)
    · rw [e] at hk
      cases hk
      omega
theorem WbJ.next {B w w' : World} {b : Nat} {l : List UInt8} (h : WbJ B w b l) (k : Below w.heap.size w w') : WbJ B w' b l := h.step (h.st.below k) (Wfr.of_below h.st k)
/-- The first four of an array's bytes as a text. -/
theorem convJ_four (w : World) (g : Nat) (l : List UInt8) (hl : l.length = 32) (t : TypeId) (hg : w.heap[g]? = some (.cells (hc l) t (0, 0))) :
    (convert 258 9 (.slice (some ⟨g, 0, none⟩) 4 32)).run Tryz.prog w = .ok (.string (txt (l.take 4))) w := by
  have := run_convert_bytes_back (P := Tryz.prog) w 258 9 5 ⟨g, 0, none⟩ 32 (l.take 4) Tryz.underlying258 Tryz.underlying5 Tryz.underlying9 (fun j hj => by
    have hadd : (⟨g, 0, none⟩ : Addr).add j = ⟨g, j, none⟩ := by unfold Addr.add; split <;> simp_all
    rw [List.length_take, hl] at hj
    rw [hadd, cell_of_row w g j _ t (0, 0) hg]
    simp [hc, cellsL]
    exact ⟨l[j], List.getElem?_eq_getElem (by omega), rfl⟩)
  rwa [List.length_take, hl] at this
theorem bs0J (w : World) : (Instr.buildSlice 258 0 #[]).run Tryz.prog w = .ok (.slice (some ⟨w.heap.size, 0, none⟩) 0 0) (w.alloc (.cells #[] 5)) := by kernel_rfl
section
set_option maxRecDepth 10000
set_option maxHeartbeats 4000000
end
end Go.Proofs.YtppooipamibhoaaGreatDoor
namespace Go.Proofs.YtppooipamibhoaaGreatDoor
open Go.RowKit
open Go.Deep
set_option linter.unusedVariables false
/-- The word with which a record begins. -/
def markO : List UInt8 := [98, 111, 100, 121]
def frontO (s : List UInt8) : List UInt8 := (markO ++ lowL s.length 4) ++ sm4 (lowL s.length 4 ++ s)
def recO (s : List UInt8) : List UInt8 := frontO s ++ s
theorem frontO_len (s : List UInt8) : (frontO s).length = 12 := by
  unfold frontO
  rw [List.length_append, sm4_len, List.length_append, lowL_len]
  rfl
theorem recO_len (s : List UInt8) : (recO s).length = 12 + s.length := by
  unfold recO
  rw [List.length_append, frontO_len]
theorem lowL4O (n : Nat) : lowL n 4 = [UInt8.ofNat (n % 256), UInt8.ofNat (n / 256 % 256), UInt8.ofNat (n / 65536 % 256), UInt8.ofNat (n / 16777216 % 256)] := by
  simp only [lowL, Nat.div_div_eq_div_mul]
theorem conv4O (W : World) (n : Nat) (hn : n < 4294967296) : (convert 258 9 (.slice (some ⟨W.heap.size, 0, none⟩) 4 4)).run Tryz.prog (W.alloc (.cells #[.int .u8 ((n : Int) % 256), .int .u8 ((n : Int) / 256 % 256), .int .u8 ((n : Int) / 65536 % 256), .int .u8 ((n : Int) / 16777216)] 5)) = .ok (.string (txt (lowL n 4))) (W.alloc (.cells #[.int .u8 ((n : Int) % 256), .int .u8 ((n : Int) / 256 % 256), .int .u8 ((n : Int) / 65536 % 256), .int .u8 ((n : Int) / 16777216)] 5)) := by
  have hg : (W.alloc (.cells #[.int .u8 ((n : Int) % 256), .int .u8 ((n : Int) / 256 % 256), .int .u8 ((n : Int) / 65536 % 256), .int .u8 ((n : Int) / 16777216)] 5)).heap[W.heap.size]? = some (.cells (hc (lowL n 4)) 5 (0, 0)) := by
    rw [heap_alloc_last, lowL4O]
    simp only [hc, cellsL, List.map_cons, List.map_nil, UInt8.toNat_ofNat']
    congr 2
    simp
    omega
  generalize W.alloc (.cells #[.int .u8 ((n : Int) % 256), .int .u8 ((n : Int) / 256 % 256), .int .u8 ((n : Int) / 65536 % 256), .int .u8 ((n : Int) / 16777216)] 5) = W1 at *
  have := run_convert_bytes_back (P := Tryz.prog) W1 258 9 5 ⟨W.heap.size, 0, none⟩ 4 (lowL n 4) Tryz.underlying258 Tryz.underlying5 Tryz.underlying9 (fun j hj => by
    have hadd : (⟨W.heap.size, 0, none⟩ : Addr).add j = ⟨W.heap.size, j, none⟩ := by unfold Addr.add; split <;> simp_all
    rw [hadd, cell_of_row W1 _ j _ _ (0, 0) hg]
    simp [hc, cellsL, hj])
  rwa [lowL_len] at this
section
set_option maxRecDepth 10000
set_option maxHeartbeats 4000000
/-- The program's Record of what is no body. -/
theorem recO_no (s : ByteArray) (hl : s.size < 1 ∨ 8192 < s.size) (hm : s.size ≤ maxLen) (w : World) : Calls Tryz.prog 46 #[.string s] w fun e w' => e = .returned (.tuple #[.string ⟨#[]⟩, .int .i64 180]) ∧ w' = w := by
  unfold maxLen at hm
  rcases hl with hl | hl
  · have h1 : (s.size : Int) < 1 := by omega
    go_enter Tryz.func46, Tryz.ntmps46
    go_wp2
    go_ret2
    exact ⟨rfl, rfl⟩
  · have h1 : (8192 : Int) < s.size := by omega
    have h2 : ¬ (s.size : Int) < 1 := by omega
    go_enter Tryz.func46, Tryz.ntmps46
    go_wp2
    go_ret2
    exact ⟨rfl, rfl⟩
theorem recO_yes (s : ByteArray) (h1 : 1 ≤ s.size) (hl : s.size ≤ 8192) (w : World) (hK : Kg w) : Calls Tryz.prog 46 #[.string s] w fun e w' => e = .returned (.tuple #[.string (txt (recO s.data.toList)), .int .i64 0]) ∧ Below w.heap.size w w' := by
  have h0 : ¬ (8192 : Int) < s.size := by omega
  have h2 : ¬ (s.size : Int) < 1 := by omega
  have h3 : (s.size : Int) % 4294967296 = s.size := by omega
  have hsl : s.data.toList.length = s.size := by simp
  have HU := hide fun W p l h1 h2 => wU32 p l s.size (by omega) W h1 h2
  have z8 : (txt (lowL s.size 4)).size = 4 := by rw [txtJ_size, lowL_len]
  have q1 : txt (lowL s.size 4) ++ s = txt (lowL s.size 4 ++ s.data.toList) := by rw [← txtJ_app, txtJ_of]
  have HT := hide fun W hW => twice_any (txt (lowL s.size 4 ++ s.data.toList)) (by rw [txtJ_size, List.length_append, lowL_len, hsl]; omega) W hW
  rw [txtJ_list] at HT
  have hdl := digJ_len (lowL s.size 4 ++ s.data.toList)
  rw [show digest (digest (lowL s.size 4 ++ s.data.toList)) = digJ (lowL s.size 4 ++ s.data.toList) from rfl] at HT
  have q2 : (⟨#[98, 111, 100, 121]⟩ : ByteArray) ++ txt (lowL s.size 4) ++ txt ((digJ (lowL s.size 4 ++ s.data.toList)).take 4) ++ s = txt (recO s.data.toList) := by
    rw [show (⟨#[98, 111, 100, 121]⟩ : ByteArray) = txt markO from rfl, txtJ_app, txtJ_app]
    rw [show txt (markO ++ lowL s.size 4 ++ (digJ (lowL s.size 4 ++ s.data.toList)).take 4) ++ s = txt (markO ++ lowL s.size 4 ++ (digJ (lowL s.size 4 ++ s.data.toList)).take 4) ++ txt s.data.toList by rw [txtJ_of s], txtJ_app]
    unfold recO frontO sm4
    rw [hsl]
  have z3 : (txt ((digJ (lowL s.size 4 ++ s.data.toList)).take 4)).size = 4 := by rw [txtJ_size, List.length_take, hdl]; rfl
  have zs : (lowL s.size 4 ++ s.data.toList).length = 4 + s.size := by rw [List.length_append, lowL_len, hsl]
  have zt : (txt (lowL s.size 4 ++ s.data.toList)).size = 4 + s.size := by rw [txtJ_size, zs]
  generalize digJ (lowL s.size 4 ++ s.data.toList) = D at *
  generalize txt (recO s.data.toList) = rt at *
  have KW := hide hK
  clear hK hsl
  go_enter Tryz.func46, Tryz.ntmps46
  go_wp2_with (first | (go_at_call 126; refine (newWriter_any _).mono ?_; rintro e w1 ⟨rfl, rfl⟩; have J := hide (WbJ.new w)) | (go_at_call 127; refine (HU.out _ _ [] (by simp) J.out.st).mono ?_; rintro e w2 ⟨rfl, s2, f2⟩; have J2 := hide (J.out.step s2 f2); rw [List.nil_append] at J2; clear s2 f2) | (go_at_call 128; refine (wText _ _ _ J2.out.st).mono ?_; rintro e w5 ⟨rfl, rfl⟩; have B4 := hide J2.out.bel; clear J J2) | (go_at_call 99; refine (HT.out _ (KW.out.next B4.out)).mono ?_; rintro e w6 ⟨rfl, b6⟩; have hcv := convJ_four (w6.alloc (.cells (hc D) 46)) w6.heap.size D hdl 46 (heap_alloc_last _ _)) | refine wpList_allocA A25 rfl rfl ?_ | refine wpList_store_newA A25 rfl _ _ rfl _ rfl (hc D) (by rw [hc_size, hdl]) (hc_one _) rfl rfl ?_)
  go_ret2
  have bb := B4.out.trans (b6.mono B4.out.size)
  exact ⟨rfl, bb.alloc bb.size _⟩
/-- The document's lay of a length. -/
theorem rlayO_any (n : Nat) (hn : n < 4294967296) (w : World) : Calls Tryz.prog 130 #[.int .i64 (n : Int)] w fun e w' => e = .returned (.string (txt (lowL n 4))) ∧ Below w.heap.size w w' := by
  have hcv := conv4O w n hn
  go_enter Tryz.func130, Tryz.ntmps130
  go_wp2
  go_ret
  exact ⟨rfl, (Below.refl _ _).alloc (Nat.le_refl _) _⟩
/-- The document's Record. -/
theorem rrecO_any (s : ByteArray) (hl : s.size ≤ 8192) (w : World) : Calls Tryz.prog 47 #[.string s] w fun e w' => e = .returned (.string (txt (recO s.data.toList))) ∧ Below w.heap.size w w' := by
  have hsl : s.data.toList.length = s.size := by simp
  have HL := hide fun W => rlayO_any s.size (by omega) W
  have z8 : (txt (lowL s.size 4)).size = 4 := by rw [txtJ_size, lowL_len]
  have q1 : txt (lowL s.size 4) ++ s = txt (lowL s.size 4 ++ s.data.toList) := by rw [← txtJ_app, txtJ_of]
  have HT := hide fun W => rtwice_any (txt (lowL s.size 4 ++ s.data.toList)) (by rw [txtJ_size, List.length_append, lowL_len, hsl]; omega) W
  rw [txtJ_list] at HT
  have hdl := digJ_len (lowL s.size 4 ++ s.data.toList)
  rw [show digest (digest (lowL s.size 4 ++ s.data.toList)) = digJ (lowL s.size 4 ++ s.data.toList) from rfl] at HT
  have q2 : (⟨#[98, 111, 100, 121]⟩ : ByteArray) ++ txt (lowL s.size 4) ++ txt ((digJ (lowL s.size 4 ++ s.data.toList)).take 4) ++ s = txt (recO s.data.toList) := by
    rw [show (⟨#[98, 111, 100, 121]⟩ : ByteArray) = txt markO from rfl, txtJ_app, txtJ_app]
    rw [show txt (markO ++ lowL s.size 4 ++ (digJ (lowL s.size 4 ++ s.data.toList)).take 4) ++ s = txt (markO ++ lowL s.size 4 ++ (digJ (lowL s.size 4 ++ s.data.toList)).take 4) ++ txt s.data.toList by rw [txtJ_of s], txtJ_app]
    unfold recO frontO sm4
    rw [hsl]
  have zt : (txt (lowL s.size 4 ++ s.data.toList)).size = 4 + s.size := by rw [txtJ_size, List.length_append, lowL_len, hsl]
  have z3 : (txt ((digJ (lowL s.size 4 ++ s.data.toList)).take 4)).size = 4 := by rw [txtJ_size, List.length_take, hdl]; rfl
  generalize digJ (lowL s.size 4 ++ s.data.toList) = D at *
  generalize txt (recO s.data.toList) = rt at *
  have gz : ¬ 9223372036854775807 < 12 + s.size := by omega
  clear hsl
  go_enter Tryz.func47, Tryz.ntmps47
  go_upto_region 2 with (first | (go_at_call 130; refine (HL.out _).mono ?_; rintro e w1 ⟨rfl, b1⟩; have B1 := hide b1; clear b1) | (go_at_call 129; refine (HT.out _).mono ?_; rintro e w2 ⟨rfl, b2⟩; have B2 := hide (below_next B1.out b2); clear b2) | refine wpList_allocA A24 rfl rfl ?_ | refine wpList_store_newA A24 rfl _ _ rfl _ rfl (hc D) (by rw [hc_size, hdl]) (hc_one _) rfl rfl ?_)
  have b3 := B2.out.alloc B2.out.size (.cells (hc D) 45)
  have g3 := heap_alloc_last w2 (.cells (hc D) 45)
  have l3 : w2.heap.size < (w2.alloc (.cells (hc D) 45)).heap.size := lt_heap g3
  have B3 := hide b3
  have HC : Hid (∀ W, Below (w2.alloc (.cells (hc D) 45)).heap.size (w2.alloc (.cells (hc D) 45)) W → (convert 258 9 (.slice (some ⟨w2.heap.size, 0, none⟩) 4 32)).run Tryz.prog W = .ok (.string (txt (D.take 4))) W) := fun W b => convJ_four W w2.heap.size D hdl 45 ((b.block _ l3).trans g3)
  clear b3 g3 l3 B1 B2 HT
  generalize w2.alloc (.cells (hc D) 45) = W3 at *
  generalize w2.heap.size = g at *
  go_region_held3 (fun W => Below W3.heap.size W3 W ∧ (convert 258 9 (.slice (some ⟨g, 0, none⟩) 4 32)).run Tryz.prog W = .ok (.string (txt (D.take 4))) W) (first | assumption | exact (fun hb => ⟨hb, HC.out _ hb⟩) ((Below.refl _ _).drew) | exact (fun hb => ⟨hb, HC.out _ hb⟩) (below_next (And.left (by assumption)) be)) (first | (go_at_call 130; refine (HL.out _).mono ?_; rintro e w4 ⟨rfl, be⟩))
  go_wp2
  go_ret
  exact ⟨rfl, below_next B3.out (And.left (by assumption))⟩
end
end Go.Proofs.YtppooipamibhoaaGreatDoor
namespace Go.Proofs.YtppooipamibhoaaGreatDoor
open Go.RowKit
open Go.Deep
open Go.Lib
set_option linter.unusedVariables false
/-- Does s begin with p? -/
def pfx (s p : ByteArray) : Bool := decide (p.size ≤ s.size) && ((s.extract 0 p.size).toList == p.toList)
theorem exJ (s : ByteArray) (i j : Nat) : (s.extract i j).data.toList = (s.data.toList.drop i).take (j - i) := by simp [List.take_drop]
theorem pfx_iff (s p : ByteArray) : pfx s p = true ↔ p.size ≤ s.size ∧ s.data.toList.take p.size = p.data.toList := by
  unfold pfx
  rw [Bool.and_eq_true, decide_eq_true_iff, beq_iff_eq, Lib.toList_data, Lib.toList_data, exJ]
  simp
/-- What a reader finds. -/
def ta1 (s : ByteArray) : Int × Int × ByteArray := rtake s 0 0 4
def ta2 (s : ByteArray) : Int × Int × ByteArray := rtake s (ta1 s).1 (ta1 s).2.1 4
def taN (s : ByteArray) : Nat := leN (ta2 s).2.2.data.toList
def ta3 (s : ByteArray) : Int × Int × ByteArray := rtake s (ta2 s).1 (ta2 s).2.1 4
def taB (s : ByteArray) : ByteArray := (rtake s (ta3 s).1 (ta3 s).2.1 (taN s)).2.2
def taK (s : ByteArray) : Bool := decide (1 ≤ (taB s).size ∧ (taB s).size ≤ 8192) && pfx s (txt (recO (taB s).data.toList))
/-- The body of the record with which s begins. -/
def rdO (s : List UInt8) : Option (List UInt8) :=
  if 12 + leN ((s.drop 4).take 4) ≤ s.length ∧ 1 ≤ leN ((s.drop 4).take 4) ∧ leN ((s.drop 4).take 4) ≤ 8192 ∧ s.take (12 + leN ((s.drop 4).take 4)) = recO ((s.drop 12).take (leN ((s.drop 4).take 4))) then some ((s.drop 12).take (leN ((s.drop 4).take 4))) else none
theorem rdO_len {s b : List UInt8} (h : rdO s = some b) : 1 ≤ b.length ∧ b.length ≤ 8192 ∧ s.take (12 + b.length) = recO b ∧ 12 + b.length ≤ s.length := by
  unfold rdO at h
  generalize leN ((s.drop 4).take 4) = n at *
  split at h
  · rename_i c
    cases h
    have e : ((s.drop 12).take n).length = n := by rw [List.length_take, List.length_drop]; omega
    rw [e]
    exact ⟨c.2.1, c.2.2.1, c.2.2.2, c.1⟩
  · cases h
theorem leN_low4 (n : Nat) (h : n < 4294967296) : leN (lowL n 4) = n := by
  have e : ∀ k m, leN (lowL m k) = m % 256 ^ k := by
    intro k
    induction k with
    | zero => intro m; simp [lowL, leN, Nat.mod_one]
    | succ k ih =>
      intro m
      rw [lowL, leN, ih, Nat.pow_succ, Nat.mul_comm (256 ^ k) 256, Nat.mod_mul]
      simp
  rw [e, Nat.mod_eq_of_lt (by simpa using h)]
/-- A record ahead of anything is read. -/
theorem rdO_rec (b t : List UInt8) (h1 : 1 ≤ b.length) (h2 : b.length ≤ 8192) : rdO (recO b ++ t) = some b := by
  have e4 : ((recO b ++ t).drop 4).take 4 = lowL b.length 4 := by
    unfold recO frontO
    rw [List.append_assoc, List.append_assoc, List.append_assoc, List.drop_append_of_le_length (by decide), show markO.drop 4 = [] from rfl, List.nil_append, List.take_append_of_le_length (by rw [lowL_len]; omega), List.take_of_length_le (by rw [lowL_len]; omega)]
  have e12 : ((recO b ++ t).drop 12).take b.length = b := by
    unfold recO
    rw [List.append_assoc, List.drop_append_of_le_length (by rw [frontO_len]; omega), List.drop_of_length_le (by rw [frontO_len]; omega), List.nil_append, List.take_append_of_le_length (Nat.le_refl _), List.take_of_length_le (Nat.le_refl _)]
  unfold rdO
  rw [e4, leN_low4 _ (by omega), e12, if_pos]
  refine ⟨by rw [List.length_append, recO_len]; omega, h1, h2, ?_⟩
  rw [List.take_append_of_le_length (by rw [recO_len]; omega), List.take_of_length_le (by rw [recO_len]; omega)]
theorem rdO_iff (s b : List UInt8) : rdO s = some b ↔ 1 ≤ b.length ∧ b.length ≤ 8192 ∧ recO b <+: s := by
  constructor
  · intro h
    obtain ⟨h1, h2, h3, _⟩ := rdO_len h
    exact ⟨h1, h2, by rw [← h3]; exact List.take_prefix _ _⟩
  · rintro ⟨h1, h2, t, rfl⟩
    exact rdO_rec b t h1 h2
theorem ta_spec (s : ByteArray) : taK s = (rdO s.data.toList).isSome ∧ ∀ y, rdO s.data.toList = some y → taB s = txt y := by
  have hsl : s.data.toList.length = s.size := by simp
  have key : ∀ y, taK s = true → taB s = y → rdO s.data.toList = some y.data.toList := fun y h e => by
    subst e
    unfold taK at h
    rw [Bool.and_eq_true, decide_eq_true_iff] at h
    obtain ⟨⟨h1, h2⟩, h3⟩ := h
    obtain ⟨h4, h5⟩ := (pfx_iff _ _).1 h3
    have e : (taB s).data.toList.length = (taB s).size := by simp
    exact (rdO_iff _ _).2 ⟨by omega, by omega, by rw [← txtJ_list (recO _), ← h5]; exact List.take_prefix _ _⟩
  cases hr : rdO s.data.toList with
  | none =>
    refine ⟨?_, fun y h => by cases h⟩
    cases hk : taK s with
    | false => rfl
    | true =>
      have := key _ hk rfl
      rw [hr] at this
      cases this
  | some b =>
    obtain ⟨h1, h2, h3, h4⟩ := rdO_len hr
    obtain ⟨t, ht⟩ : recO b <+: s.data.toList := by rw [← h3]; exact List.take_prefix _ _
    rw [hsl] at h4
    have e1 : ta1 s = (4, 0, s.extract 0 4) := by
      unfold ta1 rtake
      rw [if_neg (by simp), if_neg (by omega), if_neg (by omega)]
      rfl
    have e2 : ta2 s = (8, 0, s.extract 4 8) := by
      unfold ta2
      rw [e1]
      show rtake s 4 0 4 = _
      unfold rtake
      rw [if_neg (by simp), if_neg (by omega), if_neg (by omega)]
      rfl
    have eN : taN s = b.length := by
      unfold taN
      rw [e2]
      show leN (s.extract 4 8).data.toList = _
      rw [exJ, ← ht]
      have e4 : ((recO b ++ t).drop 4).take (8 - 4) = lowL b.length 4 := by
        unfold recO frontO
        rw [List.append_assoc, List.append_assoc, List.append_assoc, List.drop_append_of_le_length (by decide), show markO.drop 4 = [] from rfl, List.nil_append, List.take_append_of_le_length (by rw [lowL_len]; omega), List.take_of_length_le (by rw [lowL_len]; omega)]
      rw [e4, leN_low4 _ (by omega)]
    have e3 : ((ta3 s).1, (ta3 s).2.1) = (12, 0) := by
      unfold ta3
      rw [e2]
      show ((rtake s 8 0 4).1, (rtake s 8 0 4).2.1) = _
      unfold rtake
      rw [if_neg (by simp), if_neg (by omega), if_neg (by omega)]
      rfl
    have eB : taB s = txt b := by
      unfold taB
      rw [show (ta3 s).1 = 12 from congrArg Prod.fst e3, show (ta3 s).2.1 = 0 from congrArg Prod.snd e3, eN]
      unfold rtake
      rw [if_neg (by simp), if_neg (by omega), if_neg (by omega)]
      show s.extract 12 (12 + (b.length : Int)).toNat = _
      rw [← txtJ_of (s.extract _ _), exJ, show (12 + (b.length : Int)).toNat - 12 = b.length by omega, ← ht]
      unfold recO
      rw [List.append_assoc, List.drop_append_of_le_length (by rw [frontO_len]; omega), List.drop_of_length_le (by rw [frontO_len]; omega), List.nil_append, List.take_append_of_le_length (Nat.le_refl _), List.take_of_length_le (Nat.le_refl _)]
    refine ⟨?_, fun y h => by cases h; exact eB⟩
    show taK s = true
    unfold taK
    rw [eB, txtJ_size, txtJ_list, decide_eq_true ⟨h1, h2⟩, Bool.true_and, pfx_iff, txtJ_size, recO_len, txtJ_list]
    exact ⟨h4, h3⟩
section
set_option maxRecDepth 10000
set_option maxHeartbeats 1000000
theorem slitePfx_any (s p : ByteArray) (hs : s.size ≤ maxLen) (hp : p.size ≤ maxLen) (w : World) : Calls Tryz.prog 276 #[.string s, .string p] w fun e w' => e = .returned (.bool (pfx s p)) ∧ w' = w := by
  unfold maxLen at hs hp
  unfold pfx
  by_cases h : p.size ≤ s.size
  · have h1 : (p.size : Int) ≤ s.size := by omega
    have h2 : (0 : Int) ≤ p.size := by omega
    rw [decide_eq_true h, Bool.true_and]
    go_enter Tryz.func276, Tryz.ntmps276
    go_wp2
    go_ret
    exact ⟨rfl, rfl⟩
  · have h1 : ¬ (p.size : Int) ≤ s.size := by omega
    rw [decide_eq_false h, Bool.false_and]
    go_enter Tryz.func276, Tryz.ntmps276
    go_wp2
    go_ret
    exact ⟨rfl, rfl⟩
theorem hasPfx_any (s p : ByteArray) (hs : s.size ≤ maxLen) (hp : p.size ≤ maxLen) (w : World) : Calls Tryz.prog 204 #[.string s, .string p] w fun e w' => e = .returned (.bool (pfx s p)) ∧ w' = w := by
  have H := hide (slitePfx_any s p hs hp w)
  go_enter Tryz.func204, Tryz.ntmps204
  go_wp2_with (go_at_call 276; refine H.out.mono ?_; rintro e w1 ⟨rfl, hw⟩; subst w1)
  go_ret
  exact ⟨rfl, rfl⟩
theorem rBytesJ (b : Nat) (s : ByteArray) (w : World) (p err n : Int) (h : Rst w b s p err) (hs : s.size ≤ maxLen) (h0 : 0 ≤ p) (h1 : p ≤ s.size) (hn : 0 ≤ n) (hn2 : n ≤ 9223372036854775807) : Calls Tryz.prog 202 #[.pointer (some ⟨b, 0, none⟩), .int .i64 n] w fun e w' => e = .returned (.string (rtake s p err n).2.2) ∧ Rst w' b s (rtake s p err n).1 (rtake s p err n).2.1 ∧ Rfr b w w' := by
  have HT := hide (rTake b s w p err n h hs h0 h1 hn hn2)
  clear h hs h0 h1
  generalize rtake s p err n = R at *
  go_enter Tryz.func202, Tryz.ntmps202
  go_wp2_with (go_at_call 274; refine HT.out.mono ?_; rintro e w1 ⟨rfl, r1, f1⟩)
  go_ret
  exact ⟨rfl, r1, f1⟩
theorem rst_new (w : World) (s : ByteArray) : Rst (w.alloc (.cells #[.string s, .int .i64 0, .int .i64 0] 404)) w.heap.size s 0 0 := heap_alloc_last w _
theorem takeO_any (s : ByteArray) (hs : s.size ≤ maxLen) (w : World) (hK : Kg w) : Calls Tryz.prog 122 #[.string s] w fun e w' => e = .returned (.tuple #[.string (taB s), .bool (taK s)]) ∧ Below w.heap.size w w' := by
  have b0 : Below w.heap.size w (w.alloc (.cells #[.string s, .int .i64 0, .int .i64 0] 404)) := (Below.refl _ _).alloc (Nat.le_refl _) _
  have R0 := hide (rst_new w s)
  have i1 := rtake_inv s 0 0 4 (by omega) (by omega)
  have i2 := rtake_inv s (ta1 s).1 (ta1 s).2.1 4 i1.1 i1.2
  have z2 := rtake_size s (ta1 s).1 (ta1 s).2.1 4 4 rfl i1.1
  have i3 := rtake_inv s (ta2 s).1 (ta2 s).2.1 4 i2.1 i2.2
  have hN : taN s < 4294967296 := by
    unfold taN
    exact leN_lt' _ 4 _ (by have z3 : (ta2 s).2.2.size ≤ 4 := z2; simpa using z3) (by decide)
  have zt : (taB s).size ≤ maxLen := by
    have := rtake_size s (ta3 s).1 (ta3 s).2.1 (taN s) (taN s) rfl i3.1
    show (rtake s (ta3 s).1 (ta3 s).2.1 (taN s)).2.2.size ≤ _
    unfold maxLen
    omega
  have HB1 := hide fun W h => rBytesJ w.heap.size s W 0 0 4 h hs (by omega) (by omega) (by omega) (by omega)
  rw [show rtake s 0 0 4 = ta1 s from rfl] at HB1
  have HU4 := hide fun W h => rU32 w.heap.size s W (ta1 s).1 (ta1 s).2.1 h hs i1.1 i1.2
  rw [show rtake s (ta1 s).1 (ta1 s).2.1 4 = ta2 s from rfl, show leN (ta2 s).2.2.data.toList = taN s from rfl] at HU4
  have HB3 := hide fun W h => rBytesJ w.heap.size s W (ta2 s).1 (ta2 s).2.1 4 h hs i2.1 i2.2 (by omega) (by omega)
  rw [show rtake s (ta2 s).1 (ta2 s).2.1 4 = ta3 s from rfl] at HB3
  have HB := hide fun W h => rBytesJ w.heap.size s W (ta3 s).1 (ta3 s).2.1 (taN s) h hs i3.1 i3.2 (by omega) (by omega)
  rw [show (rtake s (ta3 s).1 (ta3 s).2.1 (taN s)).2.2 = taB s from rfl] at HB
  have e1 : IntKind.i64.wrap (taN s : Int) = taN s := wrapI _ (by omega) (by omega)
  unfold taK
  by_cases hl : 1 ≤ (taB s).size ∧ (taB s).size ≤ 8192
  · have HR := hide fun W (b : Below w.heap.size w W) => recO_yes (taB s) hl.1 hl.2 W (hK.next b)
    have HP := hide fun W => hasPfx_any s (txt (recO (taB s).data.toList)) hs (by have h3 : (taB s).data.toList.length = (taB s).size := (by simp); rw [txtJ_size, recO_len, h3]; unfold maxLen; omega) W
    rw [decide_eq_true hl, Bool.true_and]
    generalize txt (recO (taB s).data.toList) = rt at *
    generalize pfx s rt = pb at *
    generalize taB s = tx at *
    generalize rtake s (ta3 s).1 (ta3 s).2.1 (taN s) = R4 at *
    generalize ta3 s = R3 at *
    generalize taN s = N at *
    generalize ta2 s = R2 at *
    generalize ta1 s = R1 at *
    clear i1 i2 z2 i3 zt hK hs hl
    go_enter Tryz.func122, Tryz.ntmps122
    go_wp2_with (first | (go_at_call 201; refine (newReader_any _ _).mono ?_; rintro e w1 ⟨rfl, rfl⟩) | (go_at_call 202; refine (HB1.out _ R0.out).mono ?_; rintro e w2 ⟨rfl, r2, f2⟩; have Q2 := hide r2; have F2 := hide (b0.trans (f2.to_below (Nat.le_refl _) b0.size)); clear r2 f2 R0) | (go_at_call 203; refine (HU4.out _ Q2.out).mono ?_; rintro e w3 ⟨rfl, r3, f3⟩; have Q3 := hide r3; have F3 := hide (F2.out.trans (f3.to_below (Nat.le_refl _) F2.out.size)); clear r3 f3 Q2) | (go_at_call 202; refine (HB3.out _ Q3.out).mono ?_; rintro e w4 ⟨rfl, r4, f4⟩; have Q4 := hide r4; have F4 := hide (F3.out.trans (f4.to_below (Nat.le_refl _) F3.out.size)); clear r4 f4 Q3) | (go_at_call 202; refine (HB.out _ Q4.out).mono ?_; rintro e w4 ⟨rfl, r4, f4⟩; have F5 := hide (F4.out.trans (f4.to_below (Nat.le_refl _) F4.out.size)); clear r4 f4) | (go_at_call 46; refine (HR.out _ F5.out).mono ?_; rintro e w5 ⟨rfl, b5⟩; have F6 := hide (below_next F5.out b5); clear b5) | (go_at_call 204; refine (HP.out _).mono ?_; rintro e w6 ⟨rfl, hw⟩; subst w6))
    go_ret2
    exact ⟨rfl, F6.out⟩
  · have HR := hide fun W => recO_no (taB s) (by omega) zt W
    rw [decide_eq_false hl, Bool.false_and]
    generalize taB s = tx at *
    generalize rtake s (ta3 s).1 (ta3 s).2.1 (taN s) = R4 at *
    generalize ta3 s = R3 at *
    generalize taN s = N at *
    generalize ta2 s = R2 at *
    generalize ta1 s = R1 at *
    clear i1 i2 z2 i3 zt hK hs hl
    go_enter Tryz.func122, Tryz.ntmps122
    go_wp2_with (first | (go_at_call 201; refine (newReader_any _ _).mono ?_; rintro e w1 ⟨rfl, rfl⟩) | (go_at_call 202; refine (HB1.out _ R0.out).mono ?_; rintro e w2 ⟨rfl, r2, f2⟩; have Q2 := hide r2; have F2 := hide (b0.trans (f2.to_below (Nat.le_refl _) b0.size)); clear r2 f2 R0) | (go_at_call 203; refine (HU4.out _ Q2.out).mono ?_; rintro e w3 ⟨rfl, r3, f3⟩; have Q3 := hide r3; have F3 := hide (F2.out.trans (f3.to_below (Nat.le_refl _) F2.out.size)); clear r3 f3 Q2) | (go_at_call 202; refine (HB3.out _ Q3.out).mono ?_; rintro e w4 ⟨rfl, r4, f4⟩; have Q4 := hide r4; have F4 := hide (F3.out.trans (f4.to_below (Nat.le_refl _) F3.out.size)); clear r4 f4 Q3) | (go_at_call 202; refine (HB.out _ Q4.out).mono ?_; rintro e w4 ⟨rfl, r4, f4⟩; have F5 := hide (F4.out.trans (f4.to_below (Nat.le_refl _) F4.out.size)); clear r4 f4) | (go_at_call 46; refine (HR.out _).mono ?_; rintro e w5 ⟨rfl, hw⟩; subst w5))
    go_ret2
    exact ⟨rfl, F5.out⟩
end
end Go.Proofs.YtppooipamibhoaaGreatDoor
