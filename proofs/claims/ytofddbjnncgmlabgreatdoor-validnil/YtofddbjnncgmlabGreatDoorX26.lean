/- Lists of transactions; the contract of block.Root. Blocks in memory; the contract of block.Encode where nothing is wrong. block.Long: its contract. -/
import Derived.Test.YtofddbjnncgmlabGreatDoorX20
import Derived.Test.YtofddbjnncgmlabGreatDoorX23
import Derived.Test.YtofddbjnncgmlabGreatDoorX25
import Derived.Test.YtofddbjnncgmlabGreatDoorX21
namespace Go.Proofs.YtofddbjnncgmlabGreatDoor
open Go.RowKit
open Go.Deep
set_option linter.unusedVariables false
/-- A transaction and where its lists lie. -/
structure Tq where
  m : Tm
  ai : Option Addr
  ci : Nat
  ao : Option Addr
  co : Nat
def Tq.cells (x : Tq) : List Value := [.int .u32 (x.m.ver.toNat : Int), .slice x.ai x.m.ins.length x.ci, .slice x.ao x.m.outs.length x.co, .int .u32 (x.m.time.toNat : Int)]
def Tq.arr (x : Tq) : Array Value := x.m.cells x.ai x.ci x.ao x.co
theorem Tq.arr_eq (x : Tq) : x.cells.toArray = x.arr := rfl
theorem Tq.one (x : Tq) : ∀ v ∈ x.cells, v.oneCell' = true := by
  intro v hv
  simp only [Tq.cells, List.mem_cons, List.not_mem_nil, or_false] at hv
  rcases hv with rfl | rfl | rfl | rfl <;> rfl
def KT : Ek Tq := ⟨28, 90, 4, 64, Tq.cells, by decide, by decide, Tryz.underlying28, by kernel_rfl, fun _ => rfl, Tq.one⟩
def Tq.can (w : World) (x : Tq) : Prop := LT w x.m x.ai x.ci x.ao x.co ∧ x.m.fit
theorem Tq.can.below {w W : World} {x : Tq} (h : x.can w) (b : Below w.heap.size w W) : x.can W := ⟨h.1.below b, h.2⟩
/-- A slice of transactions that can be read. -/
structure LQ (w : World) (v : Value) (L : List Tq) : Prop where
  l : LX KT w v L
  t : ∀ x ∈ L, x.can w
theorem LQ.below {w W : World} {v : Value} {L : List Tq} (h : LQ w v L) (b : Below w.heap.size w W) : LQ W v L := ⟨h.l.below b, fun x hx => (h.t x hx).below b⟩
theorem LQ.at {w : World} {v : Value} {L : List Tq} (h : LQ w v L) (k : Nat) (hk : k < L.length) : L[k].can w := h.t _ (List.getElem_mem hk)
/-- The ids of transactions. -/
def idsL (L : List Tq) : List (List UInt8) := L.map (fun x => x.m.idT)
theorem idsL_len (L : List Tq) : (idsL L).length = L.length := by simp [idsL]
theorem idsL_32 (L : List Tq) : H32 (idsL L) := by
  intro l hl
  simp only [idsL, List.mem_map] at hl
  obtain ⟨x, _, rfl⟩ := hl
  exact x.m.idT_len
theorem idsL_next (L : List Tq) (k : Nat) (hk : k < L.length) : (idsL L).take k ++ [L[k].m.idT] = (idsL L).take (k + 1) := by
  rw [← List.take_append_getElem (show k < (idsL L).length by rw [idsL_len]; exact hk)]
  simp [idsL]
theorem wpLoadT {w : World} {ops : Array Oper} {rest : List Oper} {o : Oper} {a : Act} {Q : Exit → Act → World → Prop} (x : Operand) (ho : o.op = .load 90 x) (g off : Nat) (hx : a.eval x = .pointer (some ⟨g, off, none⟩)) (y : Tq) (hr : w.rangeAt g off y.cells) (hw : Region.wanted o (yielded ops a.tmps) = true)
    (h : wpList Tryz.prog ops Q rest (a.put o.dst (.agg y.arr)) w) : wpList Tryz.prog ops Q (o :: rest) a w := wpLoadX KT Tryz.underlying90 rfl x ho g off hx y hr hw h
section
set_option maxRecDepth 10000
set_option maxHeartbeats 4000000
theorem broot_any (v : Value) (L : List Tq) (w : World) (hL : LQ w v L) (hn : L.length < 4398046511104) (hK : Kg w) : Calls Tryz.prog 29 #[v] w fun e w' => e = .returned (.tuple #[.agg (hc (rtL (idsL L))), .bool (muL (idsL L))]) ∧ Below w.heap.size w w' := by
  obtain ⟨ao, cap, rfl⟩ := hL.l.form
  obtain ⟨i0, z, hi, hz, hzs, hs, hby⟩ := EH.parts
  have b1 := (Below.refl w.heap.size w).alloc (Nat.le_refl _) (.cells (hc zeros) 25)
  have R1 := hide (heap_alloc_last w (.cells (hc zeros) 25))
  have B1 := hide b1
  have HL := hide (hL.below b1)
  have KS := hide (hK.next b1)
  have HN := hide hn
  have IDL := hide (idsL_len L)
  have HR : Hid (∀ v W, LH W v (idsL L) → Kg W → Calls Tryz.prog 66 #[v] W fun e w' => e = .returned (.tuple #[.agg (hc (rtL (idsL L))), .bool (muL (idsL L))]) ∧ Below W.heap.size W w') := fun v W l k => by
    by_cases h0 : L = []
    · subst h0
      exact root_none v W l
    · exact root_some v (idsL L) W l (by rw [idsL_len]; exact List.length_pos_iff.2 h0) (by rw [idsL_len]; exact hn) k
  have RL := hide (rtL_len (idsL_32 L))
  have HID : Hid (∀ (x : Tq) W, x.can W → Kg W → Calls Tryz.prog 40 #[.agg x.arr] W fun e w' => e = .returned (.tuple #[.agg (hc x.m.idT), .int .i64 x.m.toldE]) ∧ Below W.heap.size W w') := fun x W c k => id_any x.m x.ai x.ci x.ao x.co W k c.1 c.2
  clear hL hK b1
  go_enter Tryz.func29, Tryz.ntmps29
  go_upto_region 1 with ((with_reducible refine at_list ?_); refine wpList_allocA A25 rfl rfl ?_)
  generalize w.alloc (.cells (hc zeros) 25) = W0 at *
  go_upto_region 2 with (at_make; refine wpList_make_own _ rfl _ _ 161 rfl 0 25 i0 z 32 Tryz.underlying161 hi hz hs _ _ _ L.length rfl rfl (by omega) (by rw [hby]; omega) (by unfold maxLen; omega) (Nat.zero_le _) ?_; intro w2 hown1 hgrow1)
  have J0 : Hid (Oj 25 W0 w2 (.slice (some ⟨W0.heap.size, 0, none⟩) 0 L.length) ((idsL L).take 0)) := ⟨⟨H32.nil, hown1⟩, (Below.refl _ _).grown hgrow1 (Nat.le_refl _) (by intro k hk; cases hk), fun g hg => by cases hg; exact Nat.le_refl _⟩
  clear hown1 hgrow1 hi hz hzs hs hby hn
  go_upto_region 3 with fail
  go_loopw [4, 14] (fun v d wr => ∃ k : Nat, k ≤ L.length ∧ d = .int .i64 (k : Int) ∧ Hid (Oj 25 W0 wr v ((idsL L).take k))) (fun _ d _ => (L.length - intOf d).toNat)
  case atStart => exact ⟨0, Nat.zero_le _, rfl, J0⟩
  case round =>
    clear J0
    obtain ⟨k, hk, rfl, J⟩ := hrel
    by_cases hlt : k < L.length
    · have h1 : (k : Int) < (L.length : Int) := by omega
      have h2 : (0 : Int) ≤ (k : Int) := by omega
      have hn := HN.out
      have e1 : IntKind.i64.wrap ((k : Int) + 1) = k + 1 := wrapI _ (by omega) (by omega)
      have KK := hide (And.intro (show k + 1 ≤ L.length by omega) (show ((L.length : Int) - ((k : Int) + 1)).toNat < ((L.length : Int) - (k : Int)).toNat by omega))
      obtain ⟨ga, oa, rfl⟩ := HL.out.l.base (by omega)
      have RG : Hid (wr.rangeAt ga (oa + k * 4) L[k].cells) := (HL.out.below J.out.bel).l.range k hlt
      have CN := hide (fun W (b : Below W0.heap.size W0 W) => (HL.out.at k hlt).below b)
      have SN := hide (idsL_next L k hlt)
      have SZ := hide (show ((idsL L).take k).length + 1 ≤ 4398046511104 by rw [List.length_take, IDL.out]; omega)
      generalize L[k] = x at *
      clear hk hlt hn
      go_upto_region 5 with ((with_reducible refine at_list ?_); first | refine wpLoadT _ rfl ga (oa + k * 4) rfl x RG.out (by rfl) ?_ | refine wpList_allocA AT rfl rfl ?_ | refine wpList_store_newA AT rfl _ _ rfl _ rfl x.arr rfl (x.m.one _ _ _ _) rfl rfl ?_)
      have J1 := hide (J.out.next ((Below.refl wr.heap.size wr).alloc (Nat.le_refl _) (.cells x.arr 90)))
      have RX := hide (heap_alloc_last wr (.cells x.arr 90))
      have IL := hide x.m.idT_len
      have HIx := hide (fun W c k => HID.out x W c k)
      have XZ : Hid (x.arr.size = 4) := rfl
      clear J RG
      generalize wr.alloc (.cells x.arr 90) = W1 at *
      generalize wr.heap.size = g6 at *
      generalize x.arr = C at *
      generalize x.m.idT = D at *
      generalize x.m.toldE = E at *
      go_upto_region 6 with (first | (go_at_call 40; refine (HIx.out _ (CN.out _ J1.out.bel) (KS.out.next J1.out.bel)).mono ?_; rintro r W2 ⟨rfl, be⟩; have J2 := hide (J1.out.next be); clear be) | ((with_reducible refine at_list ?_); first | refine wpList_loadS AT _ rfl g6 rfl C XZ.out 90 RX.out (by rfl) ?_ | refine wpList_allocA A25 rfl rfl ?_ | refine wpList_store_newA A25 rfl _ _ rfl _ rfl (hc D) (by rw [hc_size, IL.out]) (hc_one _) rfl rfl ?_))
      have J3 := hide (J2.out.next ((Below.refl W2.heap.size W2).alloc (Nat.le_refl _) (.cells (hc D) 25)))
      have RD := hide (heap_alloc_last W2 (.cells (hc D) 25))
      have DZ : Hid ((hc D).size = 32) := by show _ = _; rw [hc_size, IL.out]
      clear J1 J2 RX
      generalize W2.alloc (.cells (hc D) 25) = W3 at *
      generalize W2.heap.size = g7 at *
      have J4 := hide (J3.out.next ((Below.refl W3.heap.size W3).alloc (Nat.le_refl _) (.cells (hc D) 25)))
      go_wp2_with ((with_reducible refine at_list ?_); first | refine wpList_loadS A25 _ rfl g7 rfl (hc D) DZ.out 25 RD.out (by rfl) ?_ | refine ET.wpBs1 EH rfl _ rfl D IL.out rfl ?_ | (refine ET.wpApp EH rfl _ _ rfl _ _ rfl J4.out.own ⟨_, 0, none⟩ D IL.out rfl (one_newH _ _) SZ.out ?_; intro v' W5 hown' hon5; have J5 := hide (J4.out.onto hon5 hown'); clear hown' hon5))
      exact ⟨⟨k + 1, KK.out.1, by go_num, by rw [← SN.out]; exact J5⟩, by simpa [intOf] using KK.out.2⟩
    · have h1 : ¬ (k : Int) < (L.length : Int) := by omega
      have JR := J.out
      rw [List.take_of_length_le (by rw [IDL.out]; omega)] at JR
      have J2 := hide JR
      have R2 := hide ((JR.bel.block _ (lt_heap R1.out)).trans R1.out)
      clear hk hlt J JR
      generalize hrt : rtL (idsL L) = D at *
      generalize hmu : muL (idsL L) = V at *
      have HRT := hide hrt
      have HMU := hide hmu
      clear hrt hmu
      go_wp2_with (first | (go_at_call 66; refine (HR.out _ _ J2.out.own.read (KS.out.next J2.out.bel)).mono ?_; rintro r W2 ⟨rfl, be⟩; have D2 := hide (below_next J2.out.bel be); have R3 := hide ((be.block _ (lt_heap R2.out)).trans R2.out); clear be) | ((with_reducible refine at_list ?_); refine wpList_storeA A25 rfl _ _ rfl w.heap.size (hc D) (by rw [hc_size, RL.out]) (hc_one _) rfl rfl (hc zeros) (by rw [hc_size, zeros_len]) 25 R3.out ?_))
      exact bodyPost_ret (v := .tuple #[.agg (hc D), .bool V]) (resA2K A25 Tryz.results29 _ _ w.heap.size 25 _ (by rw [hc_size, RL.out]) rfl (setRow_heap _ _ _ _ _ _ R3.out) _ rfl) rfl ⟨by rw [HRT.out, HMU.out], below_setRow (below_next B1.out D2.out) (Nat.le_refl _) _⟩
end
end Go.Proofs.YtofddbjnncgmlabGreatDoor
namespace Go.Proofs.YtofddbjnncgmlabGreatDoor
open Go.RowKit
open Go.Deep
set_option linter.unusedVariables false
/-- A block's cells. -/
def bkA (h : Hd) (v : Value) : Array Value := (h.cells ++ [v]).toArray
theorem bkA_size (h : Hd) (v : Value) : (bkA h v).size = 69 := by rw [bkA, List.size_toArray, List.length_append, h.len]; rfl
theorem bkA_all (h : Hd) (ao : Option Addr) (n c : Nat) : (bkA h (.slice ao n c)).all (·.oneCell') = true := by
  rw [Array.all_eq_true_iff_forall_mem]
  intro v hv
  simp only [bkA, List.mem_toArray, List.mem_append, List.mem_singleton] at hv
  rcases hv with hv | rfl
  · exact h.one v hv
  · rfl
theorem ABk : Arr 30 69 (bkA zHd (.slice none 0 0)) := ⟨.inr ⟨_, Tryz.underlying30⟩, by kernel_rfl, fun w => by kernel_rfl, fun w => by kernel_rfl, bkA_size _ _⟩
theorem bkA_head {W : World} {g : Nat} {h : Hd} {v : Value} {t : TypeId} (e : W.heap[g]? = some (.cells (bkA h v) t (0, 0))) : W.rangeAt g 0 h.cells := fun j u hu => by
  rw [cell_of_row _ _ _ _ _ _ e, bkA, List.getElem?_toArray, Nat.zero_add, List.getElem?_append_left (List.getElem?_eq_some_iff.1 hu).1]
  exact hu
theorem bkA_txs {W : World} {g : Nat} {h : Hd} {v : Value} {t : TypeId} (e : W.heap[g]? = some (.cells (bkA h v) t (0, 0))) : W.cell? ⟨g, 68, none⟩ = some v := by
  rw [cell_of_row _ _ _ _ _ _ e, bkA, List.getElem?_toArray, List.getElem?_append_right (by rw [h.len]; omega), h.len]
  rfl
/-- The bytes of transactions, one behind the other. -/
def txsB (L : List Tq) : List UInt8 := (L.map (fun x => x.m.bytes)).flatten
theorem txsB_next (L : List Tq) (k : Nat) (hk : k < L.length) : txsB (L.take k) ++ L[k].m.bytes = txsB (L.take (k + 1)) := by
  rw [txsB, txsB, ← List.take_append_getElem hk, List.map_append, List.flatten_append]
  simp only [List.map_cons, List.map_nil, List.flatten_cons, List.flatten_nil, List.append_nil]
theorem txsB_le (L : List Tq) (k : Nat) : (txsB (L.take k)).length ≤ (txsB L).length := by
  have : txsB L = txsB (L.take k) ++ txsB (L.drop k) := by rw [txsB, txsB, txsB, ← List.flatten_append, ← List.map_append, List.take_append_drop]
  rw [this, List.length_append]
  omega
/-- A block's bytes. -/
def bkB (h : Hd) (L : List Tq) : List UInt8 := h.bytes ++ countL L.length ++ txsB L
section
set_option maxRecDepth 10000
set_option maxHeartbeats 4000000
theorem benc_yes (h : Hd) (v : Value) (L : List Tq) (w : World) (hL : LQ w v L) (ht : ∀ x ∈ L, x.m.toldE = 0) (hz : (bkB h L).length ≤ 8192) (hn : L.length < 4398046511104) : Calls Tryz.prog 101 #[.agg (bkA h v)] w fun e w' => e = .returned (.tuple #[.string (txt (bkB h L)), .int .i64 0]) ∧ Below w.heap.size w w' := by
  obtain ⟨ao, cap, rfl⟩ := hL.l.form
  have b1 := (Below.refl w.heap.size w).alloc (Nat.le_refl _) (.cells (bkA h (.slice ao L.length cap)) 30)
  have R1 := hide (heap_alloc_last w (.cells (bkA h (.slice ao L.length cap)) 30))
  have B1 := hide b1
  have HL := hide (hL.below b1)
  have HT := hide ht
  have HZ := hide hz
  have HN := hide hn
  have RH : Hid (∀ W : World, W.heap[w.heap.size]? = some (.cells (bkA h (.slice ao L.length cap)) 30 (0, 0)) → W.rangeAt w.heap.size 0 h.cells ∧ W.cell? ⟨w.heap.size, 68, none⟩ = some (.slice ao L.length cap)) := fun W e => ⟨bkA_head e, bkA_txs e⟩
  have HH := hide (fun W => head_any h W)
  have BL := hide h.bytes_len
  have CL := hide (clong_le (L.length : Int))
  clear b1 hL ht hz hn
  generalize bkA h (.slice ao L.length cap) = C at *
  go_enter Tryz.func101, Tryz.ntmps101
  go_upto_region 1 with ((with_reducible refine at_list ?_); refine wpList_boxA rfl _ rfl C rfl ?_)
  generalize w.alloc (.cells C 30) = W0 at *
  go_upto_region 2 with (go_at_call 55; refine (newWriter_any _).mono ?_; rintro e W2 ⟨rfl, rfl⟩)
  have J0 := hide (Wb.new W0)
  generalize W0.alloc (.cells #[.slice none 0 0] 193) = W1 at *
  generalize hb : W0.heap.size = b at *
  have CC : Hid (∀ W l, Wb W0 W b l → W.rangeAt w.heap.size 0 h.cells ∧ W.cell? ⟨w.heap.size, 68, none⟩ = some (.slice ao L.length cap)) := fun W l j => RH.out W ((j.bel.block _ (by rw [hb]; have := lt_heap R1.out; omega)).trans R1.out)
  have HB : Hid (∀ s : ByteArray, s.size ≤ 10000 → ∀ l W, Wb W0 W b l → l.length ≤ 35184372088832 → Calls Tryz.prog 64 #[pb b, .string s] W fun e w' => e = .returned (.tuple #[]) ∧ Wb W0 w' b (l ++ s.data.toList)) := fun s hs l W j hl => (wBytes (pb b) l s (.inr (by omega)) W (by omega) j.st).mono fun e w' ⟨h1, h2, h3⟩ => ⟨h1, j.step h2 h3⟩
  have HK : Hid (∀ n : Nat, U64 n → ∀ l W, Wb W0 W b l → l.length ≤ 35184372088832 → Calls Tryz.prog 58 #[pb b, .int .u64 (n : Int)] W fun e w' => e = .returned (.tuple #[]) ∧ Wb W0 w' b (l ++ countL n)) := fun n hn l W j hl => (wCount (pb b) l n hn W hl j.st).mono fun e w' ⟨h1, h2, h3⟩ => ⟨h1, j.step h2 h3⟩
  have HW : Hid (∀ l W, Wb W0 W b l → Calls Tryz.prog 60 #[pb b] W fun e w' => e = .returned (.string (txt l)) ∧ w' = W) := fun l W j => wText b l W j.st
  have HLn : Hid (∀ l W, Wb W0 W b l → Calls Tryz.prog 129 #[pb b] W fun e w' => e = .returned (.int .i64 l.length) ∧ w' = W) := fun l W j => wLen b l W j.st
  have rh := hide (CC.out _ _ J0.out).1
  have TZ : Hid ((txt h.bytes).size ≤ 10000 ∧ (txt h.bytes).data.toList = h.bytes) := ⟨by rw [txt_sz, BL.out]; omega, rfl⟩
  go_upto_region 3 with (first | (go_at_call 62; refine (HH.out _).mono ?_; rintro e W2 ⟨rfl, be⟩; have J1 := hide (J0.out.next be); clear be) | (go_at_call 64; refine (HB.out _ TZ.out.1 _ _ J1.out (by simp)).mono ?_; rintro e W3 ⟨rfl, j2⟩; have J2 := hide j2; clear j2) | ((with_reducible refine at_list ?_); refine wpLoadHd _ rfl w.heap.size 0 rfl h rh.out (by rfl) ?_))
  rw [TZ.out.2, List.nil_append] at J2
  have c3 := (CC.out _ _ J2.out).2
  clear rh J0 J1 TZ HH
  have U1 := hide (show U64 L.length by have := HN.out; unfold U64; omega)
  have eU : IntKind.u64.wrap (L.length : Int) = (L.length : Int) := wrapu _ (by omega) (by have := HN.out; omega)
  go_upto_region 4 with (go_at_call 58; refine (HK.out _ U1.out _ _ J2.out (by rw [BL.out]; omega)).mono ?_; rintro e W4 ⟨rfl, j3⟩; have J3 := hide j3; clear j3)
  have c4 := (CC.out _ _ J3.out).2
  clear c3 J2 eU
  go_upto_region 5 with fail
  clear c4
  have ZL : Hid (∀ k, (h.bytes ++ countL L.length ++ txsB (L.take k)).length ≤ 8192) := fun k => by
    have h1 := HZ.out
    have h2 := txsB_le L k
    rw [bkB, List.length_append] at h1
    rw [List.length_append]
    omega
  go_loopw [24] (fun i wr => ∃ k : Nat, k ≤ L.length ∧ i = .int .i64 (k : Int) ∧ Hid (Wb W0 wr b (h.bytes ++ countL L.length ++ txsB (L.take k)))) (fun i _ => (L.length - intOf i).toNat)
  case atStart => exact ⟨0, Nat.zero_le _, rfl, by rw [List.take_zero, show txsB [] = [] from rfl, List.append_nil]; exact J3⟩
  case round =>
    clear J3
    obtain ⟨k, hk, rfl, J⟩ := hrel
    by_cases hlt : k < L.length
    · have h1 : (k : Int) < (L.length : Int) := by omega
      have h2 : (0 : Int) ≤ (k : Int) := by omega
      have hn := HN.out
      have e1 : IntKind.i64.wrap ((k : Int) + 1) = k + 1 := wrapI _ (by omega) (by omega)
      have KK := hide (And.intro (show k + 1 ≤ L.length by omega) (show ((L.length : Int) - ((k : Int) + 1)).toNat < ((L.length : Int) - (k : Int)).toNat by omega))
      obtain ⟨ga, oa, rfl⟩ := HL.out.l.base (by omega)
      have RG : Hid (wr.rangeAt ga (oa + k * 4) L[k].cells) := (HL.out.below J.out.bel).l.range k hlt
      have CN := hide (fun W (b : Below W0.heap.size W0 W) => (HL.out.at k hlt).below b)
      have SN := hide (txsB_next L k hlt)
      have T0 := HT.out L[k] (List.getElem_mem hlt)
      have ZK := hide (ZL.out k)
      have ZK2 := hide (ZL.out (k + 1))
      generalize L[k] = x at *
      clear hk hlt hn
      have HE : Hid (∀ W, x.can W → Calls Tryz.prog 77 #[.agg x.arr] W fun e w' => e = .returned (.tuple #[.string (txt x.m.bytes), .int .i64 0]) ∧ Below W.heap.size W w') := fun W c => by
        have := encode_any x.m x.ai x.ci x.ao x.co W c.1 c.2
        rw [Tm.encT, if_pos T0, T0] at this
        exact this
      have XB : Hid ((txt x.m.bytes).size ≤ 10000 ∧ (txt x.m.bytes).data.toList = x.m.bytes) := ⟨by
        have := ZK2.out
        rw [← SN.out, List.length_append, List.length_append, List.length_append] at this
        rw [txt_sz]
        omega, rfl⟩
      clear T0
      go_upto_region 7 with ((with_reducible refine at_list ?_); first | refine wpLoadT _ rfl ga (oa + k * 4) rfl x RG.out (by rfl) ?_ | refine wpList_allocA AT rfl rfl ?_ | refine wpList_store_newA AT rfl _ _ rfl _ rfl x.arr rfl (x.m.one _ _ _ _) rfl rfl ?_)
      have J1 := hide (J.out.next ((Below.refl wr.heap.size wr).alloc (Nat.le_refl _) (.cells x.arr 90)))
      have RX := hide (heap_alloc_last wr (.cells x.arr 90))
      have XZ : Hid (x.arr.size = 4) := rfl
      clear J RG
      generalize wr.alloc (.cells x.arr 90) = W5 at *
      generalize wr.heap.size = g6 at *
      generalize x.arr = CX at *
      generalize hT : txt x.m.bytes = T at *
      clear hT
      generalize x.m.bytes = TB at *
      go_wp2_with (first | (go_at_call 77; refine (HE.out _ (CN.out _ J1.out.bel)).mono ?_; rintro r W6 ⟨rfl, be⟩; have J2 := hide (J1.out.next be); clear be) | (go_at_call 64; refine (HB.out _ XB.out.1 _ _ J2.out (by have := ZK.out; omega)).mono ?_; rintro e W7 ⟨rfl, j3⟩; have J3 := hide j3; clear j3) | ((with_reducible refine at_list ?_); refine wpList_loadS AT _ rfl g6 rfl CX XZ.out 90 RX.out (by rfl) ?_))
      exact ⟨⟨k + 1, KK.out.1, by go_num, by rw [← SN.out, ← List.append_assoc, ← XB.out.2]; exact J3⟩, by simpa [intOf] using KK.out.2⟩
    · have h1 : ¬ (k : Int) < (L.length : Int) := by omega
      have JR := J.out
      rw [List.take_of_length_le (by omega)] at JR
      have J2 : Hid (Wb W0 wr b (bkB h L)) := JR
      have ZZ : ¬ ((bkB h L).length : Int) > 8192 := by have := HZ.out; omega
      clear hk hlt J JR
      generalize hBB : bkB h L = BB at *
      have HBB := hide hBB
      clear hBB
      go_wp2_with (first | (go_at_call 129; refine (HLn.out _ _ J2.out).mono ?_; rintro r W7 ⟨rfl, h9⟩; subst W7) | (go_at_call 60; refine (HW.out _ _ J2.out).mono ?_; rintro r W7 ⟨rfl, h9⟩; subst W7))
      go_ret2
      exact ⟨by rw [HBB.out]; rfl, below_next B1.out J2.out.bel⟩
end
end Go.Proofs.YtofddbjnncgmlabGreatDoor
namespace Go.Proofs.YtofddbjnncgmlabGreatDoor
open Go.RowKit
open Go.Deep
set_option linter.unusedVariables false
theorem bkB_len (h : Hd) (L : List Tq) : ((bkB h L).length : Int) = 80 + clong L.length + ((txsB L).length : Int) := by
  have h1 := countL_len L.length
  rw [bkB, List.length_append, List.length_append, h.bytes_len]
  omega
section
set_option maxRecDepth 10000
set_option maxHeartbeats 4000000
theorem long_any (h : Hd) (v : Value) (L : List Tq) (w : World) (hL : LQ w v L) (hz : (bkB h L).length ≤ 4611686018427387904) (hn : L.length < 4398046511104) : Calls Tryz.prog 34 #[.agg (bkA h v)] w fun e w' => e = .returned (.int .i64 ((bkB h L).length : Int)) ∧ Below w.heap.size w w' := by
  obtain ⟨ao, cap, rfl⟩ := hL.l.form
  have b1 := (Below.refl w.heap.size w).alloc (Nat.le_refl _) (.cells (bkA h (.slice ao L.length cap)) 30)
  have R1 := hide (heap_alloc_last w (.cells (bkA h (.slice ao L.length cap)) 30))
  have B1 := hide b1
  have HL := hide (hL.below b1)
  have HN := hide hn
  have BL := hide (bkB_len h L)
  have HZ := hide hz
  have CC := hide (And.intro (clong_pos (L.length : Int)) (clong_le (L.length : Int)))
  have HC : Hid (∀ W, Calls Tryz.prog 69 #[.int .u64 (L.length : Int)] W fun e w' => e = .returned (.int .i64 (clong L.length)) ∧ w' = W) := fun W => countLong_any _ W
  have eU : IntKind.u64.wrap (L.length : Int) = (L.length : Int) := wrapu _ (by omega) (by omega)
  have c1 : (w.alloc (.cells (bkA h (.slice ao L.length cap)) 30)).cell? ⟨w.heap.size, 68, none⟩ = some (.slice ao L.length cap) := bkA_txs R1.out
  have e0 : IntKind.i64.wrap (80 + clong L.length) = 80 + clong L.length := wrapI _ (by have := CC.out; omega) (by have := CC.out; omega)
  clear b1 hL hz hn
  generalize bkA h (.slice ao L.length cap) = C at *
  go_enter Tryz.func34, Tryz.ntmps34
  go_upto_region 1 with ((with_reducible refine at_list ?_); refine wpList_boxA rfl _ rfl C rfl ?_)
  generalize w.alloc (.cells C 30) = W0 at *
  go_upto_region 3 with (go_at_call 69; refine (HC.out _).mono ?_; rintro e W2 ⟨rfl, h9⟩; subst W2)
  clear c1 eU e0 HC
  go_loopw [3, 15] (fun s i wr => ∃ k : Nat, k ≤ L.length ∧ i = .int .i64 (k : Int) ∧ s = .int .i64 (80 + clong L.length + ((txsB (L.take k)).length : Int)) ∧ Hid (Below W0.heap.size W0 wr)) (fun _ i _ => (L.length - intOf i).toNat)
  case atStart => exact ⟨0, Nat.zero_le _, rfl, by simp [txsB], Below.refl _ _⟩
  case round =>
    obtain ⟨k, hk, rfl, rfl, J⟩ := hrel
    by_cases hlt : k < L.length
    · have h1 : (k : Int) < (L.length : Int) := by omega
      have h2 : (0 : Int) ≤ (k : Int) := by omega
      have hn := HN.out
      have e1 : IntKind.i64.wrap ((k : Int) + 1) = k + 1 := wrapI _ (by omega) (by omega)
      have KK := hide (And.intro (show k + 1 ≤ L.length by omega) (show ((L.length : Int) - ((k : Int) + 1)).toNat < ((L.length : Int) - (k : Int)).toNat by omega))
      obtain ⟨ga, oa, rfl⟩ := HL.out.l.base (by omega)
      have RG : Hid (wr.rangeAt ga (oa + k * 4) L[k].cells) := (HL.out.below J.out).l.range k hlt
      have CN := hide (fun W (b : Below W0.heap.size W0 W) => (HL.out.at k hlt).below b)
      have SN := congrArg List.length (txsB_next L k hlt)
      have SL := txsB_le L (k + 1)
      rw [List.length_append] at SN
      have bl := BL.out
      have hz := HZ.out
      have cc := CC.out
      generalize L[k] = x at *
      have e2 : IntKind.i64.wrap (80 + clong L.length + ((txsB (L.take k)).length : Int) + (x.m.bytes.length : Int)) = 80 + clong L.length + ((txsB (L.take (k + 1))).length : Int) := by rw [wrapI _ (by omega) (by omega)]; omega
      have HE : Hid (∀ W, x.can W → Calls Tryz.prog 70 #[.agg x.arr] W fun e w' => e = .returned (.int .i64 (x.m.bytes.length : Int)) ∧ Below W.heap.size W w') := fun W c => size_any x.m x.ai x.ci x.ao x.co W c.1 c.2 (by omega)
      clear hk hlt hn SN SL bl hz cc
      go_upto_region 5 with ((with_reducible refine at_list ?_); first | refine wpLoadT _ rfl ga (oa + k * 4) rfl x RG.out (by rfl) ?_ | refine wpList_allocA AT rfl rfl ?_ | refine wpList_store_newA AT rfl _ _ rfl _ rfl x.arr rfl (x.m.one _ _ _ _) rfl rfl ?_)
      have J1 : Hid (Below W0.heap.size W0 (wr.alloc (.cells x.arr 90))) := J.out.alloc J.out.size _
      have RX := hide (heap_alloc_last wr (.cells x.arr 90))
      have XZ : Hid (x.arr.size = 4) := rfl
      clear J RG
      generalize wr.alloc (.cells x.arr 90) = W5 at *
      generalize wr.heap.size = g6 at *
      generalize x.arr = CX at *
      go_wp2_with (first | (go_at_call 70; refine (HE.out _ (CN.out _ J1.out)).mono ?_; rintro r W6 ⟨rfl, be⟩; have J2 := hide (below_next J1.out be); clear be) | ((with_reducible refine at_list ?_); refine wpList_loadS AT _ rfl g6 rfl CX XZ.out 90 RX.out (by rfl) ?_))
      exact ⟨⟨k + 1, KK.out.1, by go_num, by first | rfl | (rw [e2]), J2⟩, by simpa [intOf] using KK.out.2⟩
    · have h1 : ¬ (k : Int) < (L.length : Int) := by omega
      rw [List.take_of_length_le (by omega)]
      clear hk hlt
      go_wp2
      go_ret
      exact ⟨by rw [BL.out]; rfl, below_next B1.out J.out⟩
end
end Go.Proofs.YtofddbjnncgmlabGreatDoor
