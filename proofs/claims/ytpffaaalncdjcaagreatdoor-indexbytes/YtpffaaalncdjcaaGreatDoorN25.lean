/- Points as keys of a map. Journals: the bytes of records and of fronts; the document's lay, sum, Head and Record. Journals: the contracts of eight, Head and Record, of the program and of the document. Maps of names to slices: what a block holds, as a function of the name. Files in a map: names, their bytes, and the memory that they have for their own. -/
import Derived.Test.YtpffaaalncdjcaaGreatDoorN19
import Derived.Maps.OwnSet
import Derived.Maps.OwnOps
import Derived.DeepKeys4
import Derived.Test.YtpffaaalncdjcaaGreatDoorN06
import Derived.Test.YtpffaaalncdjcaaGreatDoorN15
import Derived.Test.YtpffaaalncdjcaaGreatDoorN05
import Derived.Maps.Range
import Derived.Maps.RangeWalk
import Derived.Lib.BufferWrite
namespace Go.Proofs.YtpffaaalncdjcaaGreatDoor
open Go.RowKit
open Go.Deep
open Go.Maps
theorem laidOutP : laidOutB Tryz.prog = true := by kernel_rfl
theorem cellsP8 : Tryz.prog.cellsOf 5 = 1 := by kernel_rfl
theorem cellsP32 : Tryz.prog.cellsOf 22 = 1 := by kernel_rfl
theorem cellsPH : Tryz.prog.cellsOf 24 = 32 := by kernel_rfl
theorem cellsPP : Tryz.prog.cellsOf 176 = 33 := by kernel_rfl
theorem keyTP : Tryz.prog.keyType 176 = true := by kernel_rfl
theorem lawP : Keyed Tryz.prog 176 := Keyed.of_law (deep_law_laid laidOutP (m := 3) (by omega) (of_decide_eq_true (by kernel_rfl)) (by kernel_rfl) (by kernel_rfl))
theorem mapM_someP {α β : Type} (f : α → Option β) (g : α → β) (r : List α) (h : ∀ i ∈ r, f i = some (g i)) : r.mapM f = some (r.map g) := by
  induction r with
  | nil => rfl
  | cons a r ih =>
    rw [List.mapM_cons, h a (by simp), ih (fun i hi => h i (by simp [hi]))]
    rfl
theorem lits_atP (d : Nat) (l : List UInt8) (i : Nat) (hi : i < l.length) : Tryz.prog.keyLits (d + 1) 5 (((cellsL l).drop (i * 1)).take 1) = some [.int .u8 ((l.getD i 0).toNat : Int)] := by
  have hc : (cellsL l).length = l.length := cellsL_len l
  have hb := (l.getD i 0).toNat_lt
  have e : ((cellsL l).drop (i * 1)).take 1 = [.int .u8 ((l.getD i 0).toNat : Int)] := by
    rw [Nat.mul_one, List.drop_eq_getElem_cons (by omega)]
    simp [cellsL, hi]
  rw [e]
  generalize l.getD i 0 = b at *
  unfold Program.keyLits
  simp only [Tryz.underlying5]
  rw [if_pos]
  exact ⟨trivial, by simp [Lit.wf, IntKind.min, IntKind.max, IntKind.signed, IntKind.bits]; omega⟩
theorem range_getDP (l : List UInt8) : (List.range l.length).map (fun i => l.getD i 0) = l := by
  apply List.ext_getElem
  · simp
  · intro i h1 h2
    simp [h2]
theorem bytes_oneP (b : UInt8) : Lit.keyBytes (.int .u8 (b.toNat : Int)) = [b] := by
  have := b.toNat_lt
  have e : ((b.toNat : Int) % 2 ^ IntKind.u8.bits).toNat = b.toNat := by
    simp only [IntKind.bits]
    omega
  simp only [Lit.keyBytes]
  rw [e]
  simp only [IntKind.bits, bytesBE, bytesLE]
  simp
theorem litsHP (d : Nat) (l : List UInt8) (hl : l.length = 32) : Tryz.prog.keyLits (d + 2) 24 (cellsL l) = some (l.map fun b => Lit.int .u8 (b.toNat : Int)) := by
  unfold Program.keyLits
  simp only [Tryz.underlying24]
  rw [if_pos (by rw [cellsL_len, hl, cellsPH]), cellsP8, mapM_someP _ (fun i => [Lit.int .u8 ((l.getD i 0).toNat : Int)]) _ (fun i hi => lits_atP d l i (by rw [hl]; simpa using hi))]
  simp only [Option.map_some]
  congr 1
  rw [← hl]
  conv => rhs; rw [← range_getDP l]
  generalize List.range l.length = r
  induction r with
  | nil => rfl
  | cons a r ih =>
    simp only [List.map_cons, List.flatten_cons]
    rw [ih]
    rfl
theorem lits32P (d : Nat) (n : UInt32) : Tryz.prog.keyLits (d + 1) 22 [.int .u32 (n.toNat : Int)] = some [.int .u32 (n.toNat : Int)] := by
  have := n.toNat_lt
  unfold Program.keyLits
  simp only [Tryz.underlying22]
  rw [if_pos]
  exact ⟨trivial, by simp [Lit.wf, IntKind.min, IntKind.max, IntKind.signed, IntKind.bits]; omega⟩
/-- A point's key. -/
def Tp.keyB (p : Tp) : List UInt8 := p.hash ++ Lit.keyBytes (.int .u32 (p.idx.toNat : Int))
theorem keyHB (l : List UInt8) : (l.map fun b => Lit.int .u8 (b.toNat : Int)).flatMap Lit.keyBytes = l := by
  induction l with
  | nil => rfl
  | cons b r ih => rw [List.map_cons, List.flatMap_cons, bytes_oneP, ih]; rfl
theorem litsPP (d : Nat) (p : Tp) : Tryz.prog.keyLits (d + 3) 176 p.cells = some ((p.hash.map fun b => Lit.int .u8 (b.toNat : Int)) ++ [.int .u32 (p.idx.toNat : Int)]) := by
  have hh : (cellsL p.hash).length = 32 := by rw [cellsL_len, p.hh]
  have e0 : (p.cells.drop 0).take 32 = cellsL p.hash := by rw [Tp.cells, List.drop_zero, List.take_append_of_le_length (by omega), List.take_of_length_le (by omega)]
  have e1 : (p.cells.drop 32).take 1 = [.int .u32 (p.idx.toNat : Int)] := by rw [Tp.cells, List.drop_append_of_le_length (by omega), List.drop_of_length_le (by omega)]; rfl
  unfold Program.keyLits
  simp only [Tryz.underlying176]
  rw [if_pos (by rw [p.len, cellsPP]; exact ⟨rfl, by simp⟩)]
  simp only [List.mapM_cons, List.mapM_nil, cellsPH, cellsP32, e0, e1, litsHP d p.hash p.hh, lits32P (d + 1) p.idx]
  rfl
theorem keyP (p : Tp) : keyOf Tryz.prog 176 (.agg p.cells.toArray) = some (.string p.keyB) := by
  obtain ⟨d, hd⟩ : ∃ d, Tryz.prog.types.size = d + 2 := ⟨Tryz.prog.types.size - 2, by have : 1 < Tryz.prog.types.size := of_decide_eq_true (by kernel_rfl); omega⟩
  unfold keyOf
  simp only [Tryz.underlying176]
  rw [if_pos (by simp [keyTP, Value.formed, Tryz.underlying176, cellsPP, p.len]), hd]
  simp only [Value.cells]
  rw [litsPP d p]
  simp only [Option.map_some, keyBytes, List.flatMap_append, keyHB, Tp.keyB, List.flatMap_cons, List.flatMap_nil, List.append_nil]
theorem be_inj (a b : UInt32) (h : Lit.keyBytes (.int .u32 (a.toNat : Int)) = Lit.keyBytes (.int .u32 (b.toNat : Int))) : a = b := by
  have ha := a.toNat_lt
  have hb := b.toNat_lt
  have ea : ((a.toNat : Int) % 2 ^ IntKind.u32.bits).toNat = a.toNat := by
    simp only [IntKind.bits]
    omega
  have eb : ((b.toNat : Int) % 2 ^ IntKind.u32.bits).toNat = b.toNat := by
    simp only [IntKind.bits]
    omega
  apply UInt32.toNat_inj.1
  simp only [Lit.keyBytes] at h
  rw [ea, eb] at h
  clear ea eb
  generalize a.toNat = x at *
  generalize b.toNat = y at *
  simp only [IntKind.bits, bytesBE, bytesLE] at h
  simp at h
  obtain ⟨h3, h2, h1, h0⟩ := h
  have g3 := congrArg UInt8.toNat h3
  have g2 := congrArg UInt8.toNat h2
  have g1 := congrArg UInt8.toNat h1
  have g0 := congrArg UInt8.toNat h0
  simp only [UInt8.toNat_ofNat'] at g3 g2 g1 g0
  omega
theorem Tp.keyB_inj (p q : Tp) (h : p.keyB = q.keyB) : p = q := by
  obtain ⟨a, b, ha⟩ := p
  obtain ⟨c, d, hc⟩ := q
  simp only [Tp.keyB] at h
  obtain ⟨h1, h2⟩ := List.append_inj h (by rw [ha, hc])
  have h3 := be_inj _ _ h2
  subst h1 h3
  rfl
end Go.Proofs.YtpffaaalncdjcaaGreatDoor
namespace Go.Proofs.YtpffaaalncdjcaaGreatDoor
open Go.RowKit
open Go.Deep
set_option linter.unusedVariables false
/-- The digest of a digest, and its first four bytes. -/
def digJ (p : List UInt8) : List UInt8 := digest (digest p)
def sm4 (p : List UInt8) : List UInt8 := (digJ p).take 4
theorem digJ_len (p : List UInt8) : (digJ p).length = 32 := digest_len _
theorem sm4_len (p : List UInt8) : (sm4 p).length = 4 := by unfold sm4; rw [List.length_take, digJ_len]; rfl
/-- The word with which a file begins. -/
def markL : List UInt8 := [98, 101, 100, 114, 111, 99, 107, 106]
def headL (ep : Nat) : List UInt8 := (markL ++ lowL ep 8) ++ sm4 (markL ++ lowL ep 8)
def bodyL (no : Nat) (s : List UInt8) : List UInt8 := lowL s.length 4 ++ lowL no 8 ++ s
def recL (ep no : Nat) (s : List UInt8) : List UInt8 := bodyL no s ++ sm4 (lowL ep 8 ++ bodyL no s)
theorem headL_len (ep : Nat) : (headL ep).length = 20 := by
  unfold headL
  rw [List.length_append, sm4_len, List.length_append, lowL_len]
  rfl
theorem bodyL_len (no : Nat) (s : List UInt8) : (bodyL no s).length = 12 + s.length := by
  unfold bodyL
  rw [List.length_append, List.length_append, lowL_len, lowL_len]
theorem recL_len (ep no : Nat) (s : List UInt8) : (recL ep no s).length = 16 + s.length := by
  unfold recL
  rw [List.length_append, sm4_len, bodyL_len]
  omega
theorem txtJ_list (l : List UInt8) : (txt l).data.toList = l := rfl
theorem txtJ_size (l : List UInt8) : (txt l).size = l.length := by show l.toArray.size = _; simp
theorem txtJ_app (a b : List UInt8) : txt a ++ txt b = txt (a ++ b) := by apply ByteArray.ext; simp [txt]
theorem txtJ_of (s : ByteArray) : txt s.data.toList = s := by apply ByteArray.ext; simp [txt]
theorem txtJ_inj {a b : List UInt8} (h : txt a = txt b) : a = b := by
  have := congrArg (fun s : ByteArray => s.data.toList) h
  exact this
/-- A writer at block b that holds l, all made behind B. -/
structure WbJ (B w : World) (b : Nat) (l : List UInt8) : Prop where
  st : Wst w (.pointer (some ⟨b, 0, none⟩)) l
  bel : Below B.heap.size B w
  far : B.heap.size ≤ b
  row : ∀ k, rowOf w (.pointer (some ⟨b, 0, none⟩)) = some k → B.heap.size ≤ k
theorem WbJ.new (w : World) : WbJ w (w.alloc (.cells #[.slice none 0 0] 171)) w.heap.size [] := by
  refine ⟨Wst.new w, (Below.refl _ _).alloc (Nat.le_refl _) _, Nat.le_refl _, fun k hk => ?_⟩
  have hc : (w.alloc (.cells #[.slice none 0 0] 171)).cell? ⟨w.heap.size, 0, none⟩ = some (.slice none 0 0) := by
    rw [cell_of_row _ _ 0 _ _ _ (heap_alloc_new w _)]; rfl
  simp [rowOf, hc, Value.ownBlock] at hk
theorem WbJ.step {B w w' : World} {b : Nat} {l l' : List UInt8} (h : WbJ B w b l) (s : Wst w' (.pointer (some ⟨b, 0, none⟩)) l') (f : Wfr w w' (.pointer (some ⟨b, 0, none⟩))) : WbJ B w' b l' := by
  have hs := h.bel.size
  refine ⟨s, h.bel.trans ⟨f.os, f.tape, f.output, f.size, fun k hk => f.block k (by omega) ?_ ?_⟩, h.far, fun k hk => ?_⟩
  · have := h.far
    simp [blkOf]
    omega
  · intro e
    have := h.row k e
    omega
  · rcases f.lies with e | ⟨g, e, hg⟩
    · exact h.row k (by rw [← e]; exact hk)
    · rw [e] at hk
      cases hk
      omega
theorem WbJ.next {B w w' : World} {b : Nat} {l : List UInt8} (h : WbJ B w b l) (k : Below w.heap.size w w') : WbJ B w' b l := h.step (h.st.below k) (Wfr.of_below h.st k)
/-- The first four of an array's bytes as a text. -/
theorem convJ_four (w : World) (g : Nat) (l : List UInt8) (hl : l.length = 32) (t : TypeId) (hg : w.heap[g]? = some (.cells (hc l) t (0, 0))) :
    (convert 80 9 (.slice (some ⟨g, 0, none⟩) 4 32)).run Tryz.prog w = .ok (.string (txt (l.take 4))) w := by
  have := run_convert_bytes_back (P := Tryz.prog) w 80 9 5 ⟨g, 0, none⟩ 32 (l.take 4) Tryz.underlying80 Tryz.underlying5 Tryz.underlying9 (fun j hj => by
    have hadd : (⟨g, 0, none⟩ : Addr).add j = ⟨g, j, none⟩ := by unfold Addr.add; split <;> simp_all
    rw [List.length_take, hl] at hj
    rw [hadd, cell_of_row w g j _ t (0, 0) hg]
    simp [hc, cellsL]
    exact ⟨l[j], List.getElem?_eq_getElem (by omega), rfl⟩)
  rwa [List.length_take, hl] at this
theorem bs0J (w : World) : (Instr.buildSlice 80 0 #[]).run Tryz.prog w = .ok (.slice (some ⟨w.heap.size, 0, none⟩) 0 0) (w.alloc (.cells #[] 5)) := by kernel_rfl
section
set_option maxRecDepth 10000
set_option maxHeartbeats 4000000
/-- The program's. -/
theorem sumJ_any (s : ByteArray) (hs : s.size < 2305843009213693000) (w : World) (hK : Kg w) : Calls Tryz.prog 99 #[.string s] w fun e w' => e = .returned (.string (txt (sm4 s.data.toList))) ∧ Below w.heap.size w w' := by
  have HT := hide fun W hW => twice_any s hs W hW
  have hdl := digJ_len s.data.toList
  rw [show digest (digest s.data.toList) = digJ s.data.toList from rfl] at HT
  unfold sm4
  generalize digJ s.data.toList = D at *
  have KW := hide hK
  clear hK
  go_enter Tryz.func99, Tryz.ntmps99
  go_wp2_with (first | (go_at_call 80; refine (HT.out _ KW.out).mono ?_; rintro e w1 ⟨rfl, b1⟩; have hcv := convJ_four (w1.alloc (.cells (hc D) 24)) w1.heap.size D hdl 24 (heap_alloc_last _ _)) | refine wpList_allocA A25 rfl rfl ?_ | refine wpList_store_newA A25 rfl _ _ rfl _ rfl (hc D) (by rw [hc_size, hdl]) (hc_one _) rfl rfl ?_)
  go_ret
  exact ⟨rfl, b1.alloc b1.size _⟩
end
end Go.Proofs.YtpffaaalncdjcaaGreatDoor
namespace Go.Proofs.YtpffaaalncdjcaaGreatDoor
open Go.RowKit
open Go.Deep
set_option linter.unusedVariables false
section
set_option maxRecDepth 10000
set_option maxHeartbeats 4000000
theorem eightJ_any (m : Nat) (hm : U64 m) (w : World) : Calls Tryz.prog 100 #[.int .u64 m] w fun e w' => e = .returned (.string (txt (lowL m 8))) ∧ Below w.heap.size w w' := by
  go_enter Tryz.func100, Tryz.ntmps100
  go_wp2_with (first | (go_at_call 69; refine (newWriter_any _).mono ?_; rintro e w1 ⟨rfl, rfl⟩; have J := hide (WbJ.new w)) | (go_at_call 97; refine (wU64 _ _ m hm _ (by simp) J.out.st).mono ?_; rintro e w2 ⟨rfl, s2, f2⟩; have J2 := hide (J.out.step s2 f2); rw [List.nil_append] at J2; clear s2 f2) | (go_at_call 72; refine (wText _ _ _ J2.out.st).mono ?_; rintro e w3 ⟨rfl, rfl⟩))
  go_ret
  exact ⟨rfl, J2.out.bel⟩
theorem headJ_any (ep : Nat) (hn : U64 ep) (w : World) (hK : Kg w) : Calls Tryz.prog 93 #[.int .u64 ep] w fun e w' => e = .returned (.string (txt (headL ep))) ∧ Below w.heap.size w w' := by
  have HE := hide fun W => eightJ_any ep hn W
  have h8 : (txt (lowL ep 8)).size = 8 := by rw [txtJ_size, lowL_len]
  have q1 : (⟨#[98, 101, 100, 114, 111, 99, 107, 106]⟩ : ByteArray) ++ txt (lowL ep 8) = txt (markL ++ lowL ep 8) := by rw [← txtJ_app]; rfl
  have z1 : (txt (markL ++ lowL ep 8)).size = 16 := by rw [txtJ_size, List.length_append, lowL_len]; rfl
  have HS := hide fun W hW => sumJ_any (txt (markL ++ lowL ep 8)) (by rw [z1]; decide) W hW
  rw [txtJ_list] at HS
  have q2 : txt (markL ++ lowL ep 8) ++ txt (sm4 (markL ++ lowL ep 8)) = txt (headL ep) := by rw [txtJ_app]; rfl
  have z2 : (txt (sm4 (markL ++ lowL ep 8))).size = 4 := by rw [txtJ_size, sm4_len]
  have KW := hide hK
  clear hK
  generalize txt (sm4 (markL ++ lowL ep 8)) = t3 at *
  generalize txt (markL ++ lowL ep 8) = t2 at *
  generalize txt (lowL ep 8) = t1 at *
  generalize txt (headL ep) = t4 at *
  go_enter Tryz.func93, Tryz.ntmps93
  go_upto_region 2 with (go_at_call 100; refine (HE.out _).mono ?_; rintro e w1 ⟨rfl, b1⟩)
  go_wp2_with (go_at_call 99; refine (HS.out _ (KW.out.next b1)).mono ?_; rintro e w2 ⟨rfl, b2⟩)
  go_ret
  exact ⟨rfl, b1.trans (b2.mono b1.size)⟩
/-- The program's Record: of a text that is too long. -/
theorem recJ_long (ep no : Nat) (s : ByteArray) (hl : 65536 < s.size) (hm : s.size ≤ maxLen) (w : World) : Calls Tryz.prog 60 #[.int .u64 ep, .int .u64 no, .string s] w fun e w' => e = .returned (.tuple #[.string ⟨#[]⟩, .int .i64 121]) ∧ w' = w := by
  unfold maxLen at hm
  have h1 : (65536 : Int) < s.size := by omega
  go_enter Tryz.func60, Tryz.ntmps60
  go_wp2
  go_ret2
  exact ⟨rfl, rfl⟩
theorem recJ_any (ep no : Nat) (he : U64 ep) (hn : U64 no) (s : ByteArray) (hl : s.size ≤ 65536) (w : World) (hK : Kg w) : Calls Tryz.prog 60 #[.int .u64 ep, .int .u64 no, .string s] w fun e w' => e = .returned (.tuple #[.string (txt (recL ep no s.data.toList)), .int .i64 0]) ∧ Below w.heap.size w w' := by
  have h0 : ¬ (65536 : Int) < s.size := by omega
  have h1 : (s.size : Int) % 4294967296 = s.size := by omega
  have hsl : s.data.toList.length = s.size := by simp
  have HU := hide fun W p l h1 h2 => wU32 p l s.size (by omega) W h1 h2
  have HE := hide fun W => eightJ_any ep he W
  have zb : (txt (bodyL no s.data.toList)).size = 12 + s.size := by rw [txtJ_size, bodyL_len, hsl]
  have h8 : (txt (lowL ep 8)).size = 8 := by rw [txtJ_size, lowL_len]
  have HS := hide fun W hW => sumJ_any (txt (lowL ep 8 ++ bodyL no s.data.toList)) (by rw [txtJ_size, List.length_append, lowL_len, bodyL_len]; omega) W hW
  rw [txtJ_list] at HS
  have q1 := txtJ_app (lowL ep 8) (bodyL no s.data.toList)
  have q2 : txt (bodyL no s.data.toList) ++ txt (sm4 (lowL ep 8 ++ bodyL no s.data.toList)) = txt (recL ep no s.data.toList) := by rw [txtJ_app]; rfl
  have z2 : (txt (sm4 (lowL ep 8 ++ bodyL no s.data.toList))).size = 4 := by rw [txtJ_size, sm4_len]
  have KW := hide hK
  have HB : Hid (([] ++ lowL s.size 4) ++ lowL no 8 ++ s.data.toList = bodyL no s.data.toList) := by show _ = _; unfold bodyL; rw [hsl]; rfl
  have HSl := hide hsl
  clear hK hsl
  go_enter Tryz.func60, Tryz.ntmps60
  go_upto_region 8 with (first | (go_at_call 69; refine (newWriter_any _).mono ?_; rintro e w1 ⟨rfl, rfl⟩; have J := hide (WbJ.new w)) | (go_at_call 70; refine (HU.out _ _ [] (by simp) J.out.st).mono ?_; rintro e w2 ⟨rfl, s2, f2⟩; have J2 := hide (J.out.step s2 f2); clear s2 f2) | (go_at_call 97; refine (wU64 _ _ no hn _ (by simp [lowL_len]) J2.out.st).mono ?_; rintro e w3 ⟨rfl, s3, f3⟩; have J3 := hide (J2.out.step s3 f3); clear s3 f3) | (go_at_call 98; refine (wBytes _ _ s (.inr (by omega)) _ (by simp [lowL_len]) J3.out.st).mono ?_; rintro e w4 ⟨rfl, s4, f4⟩; have J4 := hide (J3.out.step s4 f4); rw [HB.out] at J4; clear s4 f4) | (go_at_call 72; refine (wText _ _ _ J4.out.st).mono ?_; rintro e w5 ⟨rfl, rfl⟩))
  clear J J2 J3 HU HB
  have B4 := hide J4.out.bel
  clear J4
  generalize txt (sm4 (lowL ep 8 ++ bodyL no s.data.toList)) = t3 at *
  generalize txt (lowL ep 8 ++ bodyL no s.data.toList) = t2 at *
  generalize txt (lowL ep 8) = t1 at *
  generalize txt (bodyL no s.data.toList) = t5 at *
  go_wp2_with (first | (go_at_call 100; refine (HE.out _).mono ?_; rintro e w6 ⟨rfl, b6⟩) | (go_at_call 99; refine (HS.out _ (KW.out.next (B4.out.trans (b6.mono B4.out.size)))).mono ?_; rintro e w7 ⟨rfl, b7⟩))
  go_ret2
  have bb := B4.out.trans (b6.mono B4.out.size)
  exact ⟨rfl, bb.trans (b7.mono bb.size)⟩
end
end Go.Proofs.YtpffaaalncdjcaaGreatDoor
namespace Go.Proofs.YtpffaaalncdjcaaGreatDoor
open Go.RowKit
open Go.Deep
open Go.Maps
theorem hide' {q : Prop} (h : q) : Hid q := h
/-! ### A slice as a datum: its block, length and room -/
/-- How a slice of a map reads: no cell is looked at. -/
def slE : Value → Option (DataW Unit × List MemPlace)
  | .slice none 0 0 => some (.agg [], [])
  | .slice (some ⟨g, 0, none⟩) n c => some (.agg [.lit (.int .i64 (g : Int)), .lit (.int .i64 (n : Int)), .lit (.int .i64 (c : Int))], [])
  | _ => none
theorem slE_nil : slE (.slice none 0 0) = some (.agg [], []) := rfl
theorem slE_some (g n c : Nat) : slE (.slice (some ⟨g, 0, none⟩) n c) = some (.agg [.lit (.int .i64 (g : Int)), .lit (.int .i64 (n : Int)), .lit (.int .i64 (c : Int))], []) := rfl
/-- The form of what reads. -/
theorem slE_form {v : Value} {y : DataW Unit × List MemPlace} (h : slE v = some y) : v = .slice none 0 0 ∨ ∃ g n c, v = .slice (some ⟨g, 0, none⟩) n c := by
  unfold slE at h
  split at h
  · exact .inl rfl
  · exact .inr ⟨_, _, _, rfl⟩
  · cases h
theorem slE_inj {v v' : Value} {y : DataW Unit} {p p' : List MemPlace} (h : slE v = some (y, p)) (h' : slE v' = some (y, p')) : v = v' := by
  rcases slE_form h with rfl | ⟨g, n, c, rfl⟩ <;> rcases slE_form h' with rfl | ⟨g', n', c', rfl⟩
  · rfl
  · rw [slE_nil] at h
    rw [slE_some] at h'
    cases h
    cases h'
  · rw [slE_nil] at h'
    rw [slE_some] at h
    cases h'
    cases h
  · rw [slE_some] at h h'
    simp only [Option.some.injEq, Prod.mk.injEq] at h h'
    obtain ⟨rfl, _⟩ := h
    obtain ⟨e, _⟩ := h'
    simp at e
    obtain ⟨e1, e2, e3⟩ := e
    have h1 : g' = g := by omega
    have h2 : n' = n := by omega
    have h3 : c' = c := by omega
    subst h1 h2 h3
    rfl
theorem Own.slE {w : World} {v : Value} {l : List UInt8} (h : Own w v l) : ∃ y, slE v = some (y, []) := by
  rcases h.2 with ⟨rfl, _⟩ | ⟨g, cap, cur, rfl, _⟩
  · exact ⟨_, rfl⟩
  · exact ⟨_, rfl⟩
theorem lawS : Keyed Tryz.prog 9 := string_keyed Tryz.underlying9
theorem zeroSl (w : World) : (zeroValue 80).run Tryz.prog w = .ok (.slice none 0 0) w := by kernel_rfl
/-- A name as a key. -/
theorem keyS (s : ByteArray) (hs : s.size ≤ maxLen) : keyOf Tryz.prog 9 (.string s) = some (.string s.data.toList) := by
  simp [keyOf, Tryz.underlying9, mapKey, hs]
theorem keyS_inv {key : Value} {kl : Lit} (h : keyOf Tryz.prog 9 key = some kl) : ∃ s : ByteArray, key = .string s ∧ kl = .string s.data.toList ∧ s.size ≤ maxLen := by
  cases key <;> simp [keyOf, Tryz.underlying9, mapKey] at h
  exact ⟨_, rfl, h.2.symm, h.1⟩
/-! ### A map of slices -/
/-- Block b is a map that holds, of each name, what F says; n names in all. -/
structure Mp (w : World) (b : Nat) (F : List UInt8 → Option Value) (n : Nat) : Prop where
  ex : ∃ D : DataW Unit, w.ownsMap Tryz.prog 9 slE b n D ∧ (∀ k, Maps.has D (.string k) = (F k).isSome) ∧ (∀ k v, F k = some v → ∃ y, slE v = some (y, []) ∧ ∀ zd, D.atKey (.string k) zd = y) ∧ Maps.size D = n
/-- A name gets a value. -/
def upd (F : List UInt8 → Option Value) (k : List UInt8) (v : Option Value) : List UInt8 → Option Value := fun x => if x = k then v else F x
section
variable {w w' : World} {b n : Nat} {F : List UInt8 → Option Value}
theorem tight {D : DataW Unit} {m : Nat} (h : w.ownsMap Tryz.prog 9 slE b m D) : w.ownsMap Tryz.prog 9 slE b (Maps.size D) D := by
  obtain ⟨es, clock, hb, F, hs, rfl⟩ := h
  exact ⟨es, clock, hb, F, by simp [Maps.size, length_sorted], rfl⟩
theorem Mp.made (w : World) : Mp (w.alloc (.map #[] 0)) w.heap.size (fun _ => none) 0 :=
  ⟨⟨.map [], World.ownsMap_made w _ _ _, fun _ => rfl, fun k v h => (by cases h), rfl⟩⟩
theorem Mp.lt (h : Mp w b F n) : b < w.heap.size := h.ex.choose_spec.1.lt
theorem Mp.block (h : Mp w b F n) : ∃ es cl, w.heap[b]? = some (.map es cl) := by
  obtain ⟨D, ⟨es, cl, hb, _⟩, _⟩ := h.ex
  exact ⟨es, cl, hb⟩
theorem Mp.of_block (h : Mp w b F n) (e : w'.heap[b]? = w.heap[b]?) : Mp w' b F n := by
  obtain ⟨D, ⟨es, cl, hb, r⟩, r2⟩ := h.ex
  exact ⟨⟨D, ⟨es, cl, e.trans hb, r⟩, r2⟩⟩
/-- v, ok := m[k]: there. -/
theorem Mp.look_ok (h : Mp w b F n) {s : ByteArray} (hs : s.size ≤ maxLen) {v : Value} (hv : F s.data.toList = some v) : (Instr.lookup 100 (.map (some b)) (.string s) true).run Tryz.prog w = .ok (.tuple #[v, .bool true]) w := by
  obtain ⟨D, ho, hh, ha, _⟩ := h.ex
  obtain ⟨v', ps, hr, hv'⟩ := ho.look_ok lawS Tryz.underlying100 (zeroSl w) slE_nil (keyS s hs)
  obtain ⟨y, hy, hat⟩ := ha _ _ hv
  rw [hat] at hv'
  rw [hh, hv, slE_inj hv' hy] at hr
  exact hr
/-- .. not there. -/
theorem Mp.look_no (h : Mp w b F n) {s : ByteArray} (hs : s.size ≤ maxLen) (hv : F s.data.toList = none) : (Instr.lookup 100 (.map (some b)) (.string s) true).run Tryz.prog w = .ok (.tuple #[.slice none 0 0, .bool false]) w := by
  obtain ⟨D, ho, hh, ha, _⟩ := h.ex
  obtain ⟨v', ps, hr, hv'⟩ := ho.look_ok lawS Tryz.underlying100 (zeroSl w) slE_nil (keyS s hs)
  have hhas : Maps.has D (.string s.data.toList) = false := by rw [hh, hv]; rfl
  rw [Maps.atKey_of_not_has hhas] at hv'
  rw [hhas, slE_inj hv' slE_nil] at hr
  exact hr
/-- m[k]. -/
theorem Mp.look (h : Mp w b F n) {s : ByteArray} (hs : s.size ≤ maxLen) : (Instr.lookup 100 (.map (some b)) (.string s) false).run Tryz.prog w = .ok ((F s.data.toList).getD (.slice none 0 0)) w := by
  obtain ⟨D, ho, hh, ha, _⟩ := h.ex
  obtain ⟨v', ps, hr, hv'⟩ := ho.lookup lawS Tryz.underlying100 (zeroSl w) slE_nil (keyS s hs)
  cases hF : F s.data.toList with
  | none =>
    have hhas : Maps.has D (.string s.data.toList) = false := by rw [hh, hF]; rfl
    rw [Maps.atKey_of_not_has hhas] at hv'
    rw [slE_inj hv' slE_nil] at hr
    exact hr
  | some v =>
    obtain ⟨y, hy, hat⟩ := ha _ _ hF
    rw [hat] at hv'
    rw [slE_inj hv' hy] at hr
    exact hr
/-- len(m). -/
theorem Mp.len (h : Mp w b F n) (ty : TypeId) : (Builtin.len_ #[100] ty #[.map (some b)]).run Tryz.prog w = .ok (.int .i64 (n : Int)) w := by
  obtain ⟨D, ho, _, _, hn⟩ := h.ex
  rw [← hn]
  exact ho.len Tryz.underlying100 ty
theorem str_ne {a b : List UInt8} (h : a ≠ b) : (Lit.string a) ≠ .string b := fun e => h (by cases e; rfl)
/-- m[k] = v. -/
theorem Mp.put (h : Mp w b F n) (hn : n < maxLen) {s : ByteArray} (hs : s.size ≤ maxLen) {v : Value} {y : DataW Unit} (hv : slE v = some (y, [])) : ∃ w', (Instr.mapUpdate 100 (.map (some b)) (.string s) v).run Tryz.prog w = .ok () w' ∧ Mp w' b (upd F s.data.toList (some v)) (if (F s.data.toList).isSome then n else n + 1) ∧ w.mapTurned w' b := by
  obtain ⟨D, ho, hh, ha, hsz⟩ := h.ex
  obtain ⟨w', hr, ho', ht⟩ := ho.store lawS Tryz.underlying100 hn (keyS s hs) hv
  have hm := ho.isMap
  have hkl : WideAt.IsKeyLit (.string s.data.toList) := lawS.key (keyS s hs)
  have hsz' : Maps.size (D.put (.string s.data.toList) y) = if (F s.data.toList).isSome then n else n + 1 := by
    rw [Maps.size_put (ho.tidy lawS), hh, hsz]
  refine ⟨w', hr, ⟨⟨_, by rw [← hsz']; exact tight ho', fun k => ?_, fun k v' hk => ?_, hsz'⟩⟩, ht⟩
  · unfold upd
    by_cases hk : k = s.data.toList
    · rw [if_pos hk, hk, Maps.has_put_same hm hkl]
      rfl
    · rw [if_neg hk, Maps.has_put_other (str_ne hk), hh]
  · unfold upd at hk
    by_cases e : k = s.data.toList
    · rw [if_pos e] at hk
      cases hk
      exact ⟨y, hv, fun zd => by rw [e, Maps.atKey_put_same hm hkl]⟩
    · rw [if_neg e] at hk
      obtain ⟨y', hy', hat⟩ := ha k v' hk
      exact ⟨y', hy', fun zd => by rw [Maps.atKey_put_other (str_ne e), hat]⟩
/-- delete(m, k). -/
theorem Mp.del (h : Mp w b F n) {s : ByteArray} (hs : s.size ≤ maxLen) (ty : TypeId) : ∃ w', (Builtin.delete_ #[100, 9] ty #[.map (some b), .string s]).run Tryz.prog w = .ok (.tuple #[]) w' ∧ Mp w' b (upd F s.data.toList none) (if (F s.data.toList).isSome then n - 1 else n) ∧ w.mapTurned w' b := by
  obtain ⟨D, ho, hh, ha, hsz⟩ := h.ex
  obtain ⟨w', hr, ho', ht⟩ := ho.drop lawS Tryz.underlying100 (keyS s hs) ty
  have hsz' : Maps.size (D.del (.string s.data.toList)) = if (F s.data.toList).isSome then n - 1 else n := by
    have e := Maps.size_del (k := .string s.data.toList) (ho.tidy lawS)
    rw [hh, hsz] at e
    split <;> rename_i hF <;> simp [hF] at e <;> omega
  refine ⟨w', hr, ⟨⟨_, by rw [← hsz']; exact tight ho', fun k => ?_, fun k v' hk => ?_, hsz'⟩⟩, ht⟩
  · unfold upd
    by_cases hk : k = s.data.toList
    · rw [if_pos hk, hk, Maps.has_del_same]
      rfl
    · rw [if_neg hk, Maps.has_del_other (str_ne hk), hh]
  · unfold upd at hk
    by_cases e : k = s.data.toList
    · rw [if_pos e] at hk
      cases hk
    · rw [if_neg e] at hk
      obtain ⟨y', hy', hat⟩ := ha k v' hk
      exact ⟨y', hy', fun zd => by rw [Maps.atKey_del_other (str_ne e), hat]⟩
/-- What reads has a form. -/
theorem Mp.form (h : Mp w b F n) {k : List UInt8} {v : Value} (hv : F k = some v) : ∃ ao m c, v = .slice ao m c := by
  obtain ⟨D, _, _, ha, _⟩ := h.ex
  obtain ⟨y, hy, _⟩ := ha k v hv
  rcases slE_form hy with rfl | ⟨g, m, c, rfl⟩
  · exact ⟨_, _, _, rfl⟩
  · exact ⟨_, _, _, rfl⟩
end
end Go.Proofs.YtpffaaalncdjcaaGreatDoor
namespace Go.Proofs.YtpffaaalncdjcaaGreatDoor
open Go.RowKit
open Go.Deep
open Go.Maps
open Go.MapKept Go.ChangeMaps
/-- Files: what stands under each name, and how many there are. -/
structure FS where
  get : List UInt8 → Option (List UInt8)
  n : Nat
def FS.none : FS := ⟨fun _ => Option.none, 0⟩
def FS.put (f : FS) (k l : List UInt8) : FS := ⟨fun x => if x = k then some l else f.get x, if (f.get k).isSome then f.n else f.n + 1⟩
def FS.del (f : FS) (k : List UInt8) : FS := ⟨fun x => if x = k then Option.none else f.get x, if (f.get k).isSome then f.n - 1 else f.n⟩
def FS.at (f : FS) (k : List UInt8) : List UInt8 := (f.get k).getD []
/-- w' is w but for blocks of S and new ones. -/
structure Fr (S : Nat → Prop) (w w' : World) : Prop where
  os : w'.os = w.os
  tape : w'.tape = w.tape
  output : w'.output = w.output
  size : w.heap.size ≤ w'.heap.size
  block : ∀ k, k < w.heap.size → ¬ S k → w'.heap[k]? = w.heap[k]?
/-- S, and what is new. -/
def grow (S : Nat → Prop) (w w' : World) : Nat → Prop := fun g => S g ∨ (w.heap.size ≤ g ∧ g < w'.heap.size)
section
variable {S S' : Nat → Prop} {w w1 w2 w' : World} {b n : Nat} {F : List UInt8 → Option Value} {f : FS}
theorem Fr.refl (S : Nat → Prop) (w : World) : Fr S w w := ⟨rfl, rfl, rfl, Nat.le_refl _, fun _ _ _ => rfl⟩
theorem Fr.mono (h : Fr S w w') (hs : ∀ g, S g → S' g) : Fr S' w w' := ⟨h.os, h.tape, h.output, h.size, fun k hk hn => h.block k hk fun e => hn (hs k e)⟩
theorem Fr.trans (h : Fr S w w1) (k : Fr (grow S w w1) w1 w2) : Fr S w w2 :=
  ⟨k.os.trans h.os, k.tape.trans h.tape, k.output.trans h.output, Nat.le_trans h.size k.size, fun i hi hn => (k.block i (Nat.lt_of_lt_of_le hi h.size) (fun e => by
    rcases e with e | ⟨e, _⟩
    · exact hn e
    · omega)).trans (h.block i hi hn)⟩
theorem Fr.trans' (h : Fr S w w1) (k : Fr S w1 w2) : Fr S w w2 := h.trans (k.mono fun _ e => .inl e)
theorem Fr.of_below (h : Below w.heap.size w w') : Fr S w w' := ⟨h.os, h.tape, h.output, h.size, fun k hk _ => h.block k hk⟩
theorem Fr.below (h : Fr S w w') {B : Nat} (hB : B ≤ w.heap.size) (hS : ∀ g, S g → B ≤ g) : Below B w w' :=
  ⟨h.os, h.tape, h.output, h.size, fun k hk => h.block k (by omega) fun e => by have := hS k e; omega⟩
theorem Fr.of_grown {row : Option Nat} (h : w.grownBy w' row) (hr : ∀ g, row = some g → S g) : Fr S w w' :=
  ⟨h.os, h.tape, h.output, h.size, fun k hk hn => h.block k hk fun e => hn (hr k e.symm)⟩
theorem Fr.setCell (w : World) {p : Addr} (hp : S p.block) (v : Value) : Fr S w (w.setCell p v) :=
  ⟨rfl, rfl, rfl, by simp [World.setCell], fun k _ hn => Below.heap_setCell _ _ _ _ (fun e => hn (by rw [e]; exact hp))⟩
theorem Fr.row (h : Fr S w w') {g n : Nat} {t : TypeId} {c : Nat → Value} (hr : w.rowIs g t n c) (hg : ¬ S g) : w'.rowIs g t n c :=
  World.rowIs.of_block hr (h.block g (World.rowIs.lt hr) hg)
theorem grow_grow (h1 : w.heap.size ≤ w1.heap.size) (h2 : w1.heap.size ≤ w2.heap.size) : grow (grow S w w1) w1 w2 = grow S w w2 := by
  funext g
  apply propext
  unfold grow
  constructor
  · rintro ((h | ⟨h, k⟩) | ⟨h, k⟩)
    · exact .inl h
    · exact .inr ⟨h, by omega⟩
    · exact .inr ⟨by omega, k⟩
  · rintro (h | ⟨h, k⟩)
    · exact .inl (.inl h)
    · by_cases c : g < w1.heap.size
      · exact .inl (.inr ⟨h, c⟩)
      · exact .inr ⟨by omega, k⟩
theorem grow_lt (h : ∀ g, S g → g < w.heap.size) (hs : w.heap.size ≤ w'.heap.size) : ∀ g, grow S w w' g → g < w'.heap.size := fun g hg => by
  rcases hg with hg | ⟨_, hg⟩
  · have := h g hg
    omega
  · exact hg
theorem grow_self (S : Nat → Prop) (w : World) : grow S w w = S := by
  funext g
  apply propext
  unfold grow
  constructor
  · rintro (h | ⟨h, k⟩)
    · exact h
    · omega
  · exact .inl
/-- Files that stand in the map at block b, but for those named by X. -/
structure Fq (X : List UInt8 → Prop) (w : World) (b : Nat) (F : List UInt8 → Option Value) (f : FS) (S : Nat → Prop) : Prop where
  mp : Mp w b F f.n
  dom : ∀ k, (F k).isSome = (f.get k).isSome
  own : ∀ k v l, ¬ X k → F k = some v → f.get k = some l → Own w v l
  ins : ∀ k v g, ¬ X k → F k = some v → v.ownBlock = some g → S g
  one : ∀ k k' v v' g, ¬ X k → ¬ X k' → F k = some v → F k' = some v' → v.ownBlock = some g → v'.ownBlock = some g → k = k'
  self : S b
  lt : ∀ g, S g → g < w.heap.size
/-- Files that stand in the map at block b. -/
abbrev Fs (w : World) (b : Nat) (F : List UInt8 → Option Value) (f : FS) (S : Nat → Prop) : Prop := Fq (fun _ => False) w b F f S
theorem Own.of_block {v : Value} {l : List UInt8} (h : Own w v l) (e : ∀ g, v.ownBlock = some g → w'.heap[g]? = w.heap[g]?) : Own w' v l := by
  refine ⟨h.1, ?_⟩
  rcases h.2 with hn | ⟨g, cap, cur, rfl, hb, hg, r⟩
  · exact .inl hn
  · exact .inr ⟨g, cap, cur, rfl, hb, (e g rfl).trans hg, r⟩
theorem Own.blk {v : Value} {l : List UInt8} {g : Nat} (h : Own w v l) (e : v.ownBlock = some g) : ∃ cur, w.heap[g]? = some (.cells cur 5 (0, 0)) := by
  rcases h.2 with ⟨rfl, _⟩ | ⟨g1, cap, cur, rfl, hb, hg, r⟩
  · cases e
  · cases e
    exact ⟨cur, hg⟩
theorem Own.ltb {v : Value} {l : List UInt8} {g : Nat} (h : Own w v l) (e : v.ownBlock = some g) : g < w.heap.size := by
  obtain ⟨cur, hg⟩ := h.blk e
  exact lt_heap hg
theorem Fq.frame {X : List UInt8 → Prop} (h : Fq X w b F f S) (hs : w.heap.size ≤ w'.heap.size) (e : ∀ g, S g → w'.heap[g]? = w.heap[g]?) : Fq X w' b F f S :=
  ⟨h.mp.of_block (e b h.self), h.dom, fun k v l hx hv hl => (h.own k v l hx hv hl).of_block fun g hg => e g (h.ins k v g hx hv hg), h.ins, h.one, h.self, fun g hg => Nat.lt_of_lt_of_le (h.lt g hg) hs⟩
theorem Fq.below {X : List UInt8 → Prop} (h : Fq X w b F f S) (hb : Below w.heap.size w w') : Fq X w' b F f S :=
  h.frame hb.size fun g hg => hb.block g (h.lt g hg)
theorem Fq.wide {X : List UInt8 → Prop} (h : Fq X w b F f S) (hs : ∀ g, S g → S' g) (hl : ∀ g, S' g → g < w.heap.size) : Fq X w b F f S' :=
  ⟨h.mp, h.dom, h.own, fun k v g hx hv hg => hs g (h.ins k v g hx hv hg), h.one, hs b h.self, hl⟩
/-- Another's frame: what it may write is apart. -/
theorem Fq.apart {X : List UInt8 → Prop} (h : Fq X w b F f S) (hr : Fr S' w w') (ha : ∀ g, S g → ¬ S' g) : Fq X w' b F f S :=
  h.frame hr.size fun g hg => hr.block g (h.lt g hg) (ha g hg)
/-- The map's block is no row of bytes. -/
theorem Fq.ne {X : List UInt8 → Prop} (h : Fq X w b F f S) {v : Value} {l : List UInt8} {g : Nat} (o : Own w v l) (e : v.ownBlock = some g) : g ≠ b := fun c => by
  obtain ⟨es, cl, hb⟩ := h.mp.block
  obtain ⟨cur, hg⟩ := o.blk e
  rw [c, hb] at hg
  cases hg
/-- What stands under a name, as a value. -/
def vl (F : List UInt8 → Option Value) (k : List UInt8) : Value := (F k).getD (.slice none 0 0)
theorem Fq.ownv (h : Fs w b F f S) (k : List UInt8) : Own w (vl F k) (f.at k) := by
  unfold vl FS.at
  have hd := h.dom k
  cases hF : F k with
  | none =>
    rw [hF] at hd
    cases hf : f.get k with
    | none => exact Own.nil w
    | some l => rw [hf] at hd; cases hd
  | some v =>
    rw [hF] at hd
    cases hf : f.get k with
    | none => rw [hf] at hd; cases hd
    | some l => exact h.own k v l (fun e => e) hF hf
theorem val_some {v : Value} {k : List UInt8} {g : Nat} (hv : vl F k = v) (hg : v.ownBlock = some g) : F k = some v := by
  unfold vl at hv
  cases hF : F k with
  | none => rw [hF] at hv; subst hv; cases hg
  | some u => rw [hF] at hv; exact congrArg some hv
/-- A file's memory is turned, or it is laid anew. -/
theorem Fq.onto (h : Fs w b F f S) {k : List UInt8} {v v2 : Value} (hv : vl F k = v) (on : Onto w w2 v v2) : Fq (fun x => x = k) w2 b F f (grow S w w2) := by
  have hs := on.grown.size
  have ov := h.ownv k
  rw [hv] at ov
  have keep : ∀ g, S g → v.ownBlock ≠ some g → w2.heap[g]? = w.heap[g]? := fun g hg hne => on.grown.block g (h.lt g hg) (fun e => hne e.symm)
  refine ⟨h.mp.of_block (keep b h.self fun e => h.ne ov e rfl), h.dom, fun k' v' l hx hv' hl => ?_, fun k' v' g hx hv' hg => .inl (h.ins k' v' g (fun e => e) hv' hg), fun k1 k2 v1 v2 g _ _ => h.one k1 k2 v1 v2 g (fun e => e) (fun e => e), .inl h.self, grow_lt h.lt hs⟩
  refine (h.own k' v' l (fun e => e) hv' hl).of_block fun g hg => keep g (h.ins k' v' g (fun e => e) hv' hg) fun e => ?_
  exact hx (h.one k' k v' v g (fun e => e) (fun e => e) hv' (val_some hv e) hg e)
/-- What lies beside all other files. -/
theorem Fq.beside (h : Fs w b F f S) {k : List UInt8} {v v2 : Value} (hv : vl F k = v) (on : Onto w w2 v v2) : ∀ k' v' g, k' ≠ k → F k' = some v' → v'.ownBlock = some g → v2.ownBlock ≠ some g := fun k' v' g hk hF hg e => by
  rcases on.lies with hl | ⟨g2, hl, hge⟩
  · rw [hl] at e
    exact hk (h.one k' k v' v g (fun e => e) (fun e => e) hF (val_some hv e) hg e)
  · rw [hl] at e
    cases e
    have := h.lt g (h.ins k' v' g (fun e => e) hF hg)
    omega
theorem FS.put_get (f : FS) (k l x : List UInt8) : (f.put k l).get x = if x = k then some l else f.get x := rfl
theorem FS.del_get (f : FS) (k x : List UInt8) : (f.del k).get x = if x = k then Option.none else f.get x := rfl
/-- m[k] = v, where all files but that of k stand. -/
theorem Fq.put {k : List UInt8} (h : Fq (fun x => x = k) w b F f S) {s : ByteArray} (hk : s.data.toList = k) (hn : f.n < maxLen) (hs : s.size ≤ maxLen) {v : Value} {l : List UInt8} (o : Own w v l) (hS : ∀ g, v.ownBlock = some g → S g)
    (hne : ∀ k' v' g, k' ≠ k → F k' = some v' → v'.ownBlock = some g → v.ownBlock ≠ some g) : ∃ w3, (Instr.mapUpdate 100 (.map (some b)) (.string s) v).run Tryz.prog w = .ok () w3 ∧ Fs w3 b (upd F k (some v)) (f.put k l) S ∧ w.grownBy w3 (some b) ∧ w3.heap.size = w.heap.size := by
  obtain ⟨y, hy⟩ := o.slE
  obtain ⟨w3, hr, hm, ht⟩ := h.mp.put hn hs hy
  have hg := ht.grown
  have hsz : w3.heap.size = w.heap.size := by
    obtain ⟨es, clock, es', clock', hb, rfl⟩ := ht
    simp [setBlock]
  have keep : ∀ {v' : Value} {l' : List UInt8}, Own w v' l' → Own w3 v' l' := fun {v' l'} o' => o'.of_block fun g e => hg.block g (o'.ltb e) fun c => h.ne o' e (by cases c; rfl)
  rw [hk] at hm
  refine ⟨w3, hr, ⟨?_, fun x => ?_, fun x v' l' _ hv' hl' => ?_, fun x v' g _ hv' hg' => ?_, fun x x' v1 v2 g _ _ h1 h2 e1 e2 => ?_, h.self, fun g hg' => by rw [hsz]; exact h.lt g hg'⟩, hg, hsz⟩
  · have e : (f.put k l).n = if (F k).isSome then f.n else f.n + 1 := by
      rw [h.dom]
      rfl
    rw [e]
    exact hm
  · rw [FS.put_get]
    unfold upd
    split
    · rfl
    · exact h.dom x
  · rw [FS.put_get] at hl'
    unfold upd at hv'
    split at hv' <;> rename_i hx
    · rw [if_pos hx] at hl'
      cases hv'
      cases hl'
      exact keep o
    · rw [if_neg hx] at hl'
      exact keep (h.own x v' l' hx hv' hl')
  · unfold upd at hv'
    split at hv' <;> rename_i hx
    · cases hv'
      exact hS g hg'
    · exact h.ins x v' g hx hv' hg'
  · unfold upd at h1 h2
    split at h1 <;> rename_i hx <;> split at h2 <;> rename_i hx'
    · rw [hx, hx']
    · cases h1
      exact absurd e1 (hne x' v2 g hx' h2 e2)
    · cases h2
      exact absurd e2 (hne x v1 g hx h1 e1)
    · exact h.one x x' v1 v2 g hx hx' h1 h2 e1 e2
/-- delete(m, k). -/
theorem Fq.del (h : Fs w b F f S) {s : ByteArray} {k : List UInt8} (hk : s.data.toList = k) (hs : s.size ≤ maxLen) (ty : TypeId) : ∃ w3, (Builtin.delete_ #[100, 9] ty #[.map (some b), .string s]).run Tryz.prog w = .ok (.tuple #[]) w3 ∧ Fs w3 b (upd F k none) (f.del k) S ∧ w.grownBy w3 (some b) ∧ w3.heap.size = w.heap.size := by
  obtain ⟨w3, hr, hm, ht⟩ := h.mp.del hs ty
  have hg := ht.grown
  have hsz : w3.heap.size = w.heap.size := by
    obtain ⟨es, clock, es', clock', hb, rfl⟩ := ht
    simp [setBlock]
  have keep : ∀ {v' : Value} {l' : List UInt8}, Own w v' l' → Own w3 v' l' := fun {v' l'} o' => o'.of_block fun g e => hg.block g (o'.ltb e) fun c => h.ne o' e (by cases c; rfl)
  rw [hk] at hm
  refine ⟨w3, hr, ⟨?_, fun x => ?_, fun x v' l' _ hv' hl' => ?_, fun x v' g _ hv' hg' => ?_, fun x x' v1 v2 g _ _ h1 h2 e1 e2 => ?_, h.self, fun g hg' => by rw [hsz]; exact h.lt g hg'⟩, hg, hsz⟩
  · have e : (f.del k).n = if (F k).isSome then f.n - 1 else f.n := by
      rw [h.dom]
      rfl
    rw [e]
    exact hm
  · rw [FS.del_get]
    unfold upd
    split
    · rfl
    · exact h.dom x
  · rw [FS.del_get] at hl'
    unfold upd at hv'
    split at hv' <;> rename_i hx
    · cases hv'
    · rw [if_neg hx] at hl'
      exact keep (h.own x v' l' (fun e => e) hv' hl')
  · unfold upd at hv'
    split at hv'
    · cases hv'
    · exact h.ins x v' g (fun e => e) hv' hg'
  · unfold upd at h1 h2
    split at h1
    · cases h1
    · split at h2
      · cases h2
      · exact h.one x x' v1 v2 g (fun e => e) (fun e => e) h1 h2 e1 e2
end
end Go.Proofs.YtpffaaalncdjcaaGreatDoor
