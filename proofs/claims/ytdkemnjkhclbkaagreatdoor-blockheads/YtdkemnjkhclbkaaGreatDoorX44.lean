/- The walk of BlockHeads. -/
import Derived.Test.YtdkemnjkhclbkaaGreatDoorX43
namespace Go.Proofs.YtdkemnjkhclbkaaGreatDoor
open Go.RowKit
open Go.Deep
set_option linter.unusedVariables false
theorem leN_lowC (k n : Nat) (h : n < 256 ^ k) : leN (lowL n k) = n := by
  induction k generalizing n with
  | zero => simp [lowL, leN] at *; omega
  | succ k ih =>
    rw [lowL, leN, ih (n / 256) (by rw [Nat.pow_succ] at h; omega), UInt8.toNat_ofNat']
    omega
theorem u32_low (n : UInt32) : u32B (lowL n.toNat 4) = n := by
  rw [u32B, leN_lowC 4 n.toNat (by have := n.toNat_lt; omega), UInt32.ofNat_toNat]
theorem hdOf_bytes (h : Hd) (hl : 80 ≤ h.bytes.length) : hdOf h.bytes hl = h := by
  obtain ⟨v, p, r, t, b, o, hp, hr⟩ := h
  have e : (⟨v, p, r, t, b, o, hp, hr⟩ : Hd).bytes = lowL v.toNat 4 ++ (p ++ (r ++ (lowL t.toNat 4 ++ (lowL b.toNat 4 ++ lowL o.toNat 4)))) := by simp [Hd.bytes, Hd.front, List.append_assoc]
  generalize (⟨v, p, r, t, b, o, hp, hr⟩ : Hd).bytes = l at *
  have d4 : l.drop 4 = p ++ (r ++ (lowL t.toNat 4 ++ (lowL b.toNat 4 ++ lowL o.toNat 4))) := by rw [e]; exact List.drop_left' (lowL_len _ _)
  have d36 : l.drop 36 = r ++ (lowL t.toNat 4 ++ (lowL b.toNat 4 ++ lowL o.toNat 4)) := by rw [show 36 = 4 + 32 from rfl, ← List.drop_drop, d4]; exact List.drop_left' hp
  have d68 : l.drop 68 = lowL t.toNat 4 ++ (lowL b.toNat 4 ++ lowL o.toNat 4) := by rw [show 68 = 36 + 32 from rfl, ← List.drop_drop, d36]; exact List.drop_left' hr
  have d72 : l.drop 72 = lowL b.toNat 4 ++ lowL o.toNat 4 := by rw [show 72 = 68 + 4 from rfl, ← List.drop_drop, d68]; exact List.drop_left' (lowL_len _ _)
  have d76 : l.drop 76 = lowL o.toNat 4 := by rw [show 76 = 72 + 4 from rfl, ← List.drop_drop, d72]; exact List.drop_left' (lowL_len _ _)
  have t0 : l.take 4 = lowL v.toNat 4 := by rw [e]; exact List.take_left' (lowL_len _ _)
  have t4 : (l.drop 4).take 32 = p := by rw [d4]; exact List.take_left' hp
  have t36 : (l.drop 36).take 32 = r := by rw [d36]; exact List.take_left' hr
  have t68 : (l.drop 68).take 4 = lowL t.toNat 4 := by rw [d68]; exact List.take_left' (lowL_len _ _)
  have t72 : (l.drop 72).take 4 = lowL b.toNat 4 := by rw [d72]; exact List.take_left' (lowL_len _ _)
  have t76 : (l.drop 76).take 4 = lowL o.toNat 4 := by rw [d76]; exact List.take_of_length_le (by rw [lowL_len]; omega)
  simp only [hdOf, t0, t4, t36, t68, t72, t76, u32_low]
theorem tkA_back (h : Hd) (s : ByteArray) (hs : s.data.toList = 120 :: h.bytes) : tkA s 1 = (h, 0) := by
  have hz : s.size = 81 := by
    have h1 : s.data.toList.length = s.size := by simp
    rw [← h1, hs, List.length_cons, h.bytes_len]
  have e : s.data.toList.drop (1 : Int).toNat = h.bytes := by rw [hs]; rfl
  rw [tkA, if_neg (by omega), e, tkH, dif_pos (by rw [h.bytes_len]; omega), hdOf_bytes]
/-- A type's fields are those of a header. -/
structure FHd (t : TypeId) : Prop where
  ex : ∃ f0 f1 f2 f3 f4 f5, Tryz.prog.underlying t = some (.struct #[f0, f1, f2, f3, f4, f5]) ∧ (f0.name ≠ "_" ∧ f1.name ≠ "_" ∧ f2.name ≠ "_" ∧ f3.name ≠ "_" ∧ f4.name ≠ "_" ∧ f5.name ≠ "_") ∧ (f0.offset = 0 ∧ f1.offset = 1 ∧ f2.offset = 33 ∧ f3.offset = 65 ∧ f4.offset = 66 ∧ f5.offset = 67) ∧
    (Tryz.prog.underlying f0.type = some (.int .u32) ∧ Tryz.prog.underlying f3.type = some (.int .u32) ∧ Tryz.prog.underlying f4.type = some (.int .u32) ∧ Tryz.prog.underlying f5.type = some (.int .u32)) ∧ Tryz.prog.underlying f1.type = some (.array 32 5) ∧ Tryz.prog.underlying f2.type = some (.array 32 5) ∧ (∀ W, (sizeOf f1.type).run Tryz.prog W = .ok 32 W) ∧ (∀ W, (sizeOf f2.type).run Tryz.prog W = .ok 32 W)
  st : Tryz.prog.stoodInHeld t = false
theorem fh_api : FHd 26 := ⟨⟨_, _, _, _, _, _, Tryz.underlying26, ⟨by decide, by decide, by decide, by decide, by decide, by decide⟩, ⟨rfl, rfl, rfl, rfl, rfl, rfl⟩, ⟨Tryz.underlying22, Tryz.underlying22, Tryz.underlying22, Tryz.underlying22⟩, Tryz.underlying24, Tryz.underlying24, fun W => by kernel_rfl, fun W => by kernel_rfl⟩, by kernel_rfl⟩
theorem fh_ref : FHd 32 := ⟨⟨_, _, _, _, _, _, Tryz.underlying32, ⟨by decide, by decide, by decide, by decide, by decide, by decide⟩, ⟨rfl, rfl, rfl, rfl, rfl, rfl⟩, ⟨Tryz.underlying22, Tryz.underlying22, Tryz.underlying22, Tryz.underlying22⟩, Tryz.underlying23, Tryz.underlying23, fun W => by kernel_rfl, fun W => by kernel_rfl⟩, by kernel_rfl⟩
theorem Hd.prev_at (h : Hd) : h.cells.toArray.extract 1 (1 + 32) = (cellsL h.prev).toArray := by
  have hl : (cellsL h.prev).length = 32 := by rw [cellsL_len, h.hp]
  simp only [Hd.cells, List.extract_toArray, List.extract]
  simp [hl]
theorem Hd.root_at (h : Hd) : h.cells.toArray.extract 33 (33 + 32) = (cellsL h.root).toArray := by
  have hl : (cellsL h.prev).length = 32 := by rw [cellsL_len, h.hp]
  have hm : (cellsL h.root).length = 32 := by rw [cellsL_len, h.hr]
  simp only [Hd.cells, List.extract_toArray, List.extract]
  rw [show 33 = 32 + 1 from rfl, List.drop_succ_cons, ← hl, List.drop_left, show (cellsL h.prev).length + 1 + (cellsL h.prev).length - ((cellsL h.prev).length + 1) = (cellsL h.root).length by omega, List.take_left]
theorem eqHd {t : TypeId} (F : FHd t) (h : Hd) (W : World) : (Op.equalIn 10000 t (.agg h.cells.toArray) (.agg h.cells.toArray)).run Tryz.prog W = .ok true W := by
  obtain ⟨⟨f0, f1, f2, f3, f4, f5, hu, ⟨n0, n1, n2, n3, n4, n5⟩, ⟨o0, o1, o2, o3, o4, o5⟩, ⟨u0, u3, u4, u5⟩, u1, u2, s1, s2⟩, st⟩ := F
  have hf : Tryz.prog.fieldsOf t = #[f0, f1, f2, f3, f4, f5] := by simp [Program.fieldsOf, hu]
  refine (run_equalIn_struct W 9999 t _ _ (by rw [hf]; exact hu) st).trans ?_
  rw [hf]
  have c0 : h.cells.toArray[0]? = some (.int .u32 (h.ver.toNat : Int)) := by rw [List.getElem?_toArray]; exact h.get0
  have c3 : h.cells.toArray[65]? = some (.int .u32 (h.time.toNat : Int)) := by rw [List.getElem?_toArray]; exact h.getL 0
  have c4 : h.cells.toArray[66]? = some (.int .u32 (h.bits.toNat : Int)) := by rw [List.getElem?_toArray]; exact h.getL 1
  have c5 : h.cells.toArray[67]? = some (.int .u32 (h.nonce.toNat : Int)) := by rw [List.getElem?_toArray]; exact h.getL 2
  have e5 := eqF_cons (W := W) (d := 9999) (xs := h.cells.toArray) (ys := h.cells.toArray) n5 (part_cell u5 rfl (by rw [o5]; exact c5)) (part_cell u5 rfl (by rw [o5]; exact c5)) (run_equalIn_int W 9998 f5.type .u32 .u32 _ _ u5) (fs := []) (r2 := true) rfl
  have e4 := eqF_cons (W := W) (d := 9999) (xs := h.cells.toArray) (ys := h.cells.toArray) n4 (part_cell u4 rfl (by rw [o4]; exact c4)) (part_cell u4 rfl (by rw [o4]; exact c4)) (run_equalIn_int W 9998 f4.type .u32 .u32 _ _ u4) e5
  have e3 := eqF_cons (W := W) (d := 9999) (xs := h.cells.toArray) (ys := h.cells.toArray) n3 (part_cell u3 rfl (by rw [o3]; exact c3)) (part_cell u3 rfl (by rw [o3]; exact c3)) (run_equalIn_int W 9998 f3.type .u32 .u32 _ _ u3) e4
  have e2 := eqF_cons (W := W) (d := 9999) (xs := h.cells.toArray) (ys := h.cells.toArray) n2 (part_row u2 rfl (s2 W) (by rw [o2]; exact h.root_at)) (part_row u2 rfl (s2 W) (by rw [o2]; exact h.root_at)) (eqC_bytes h.root h.root 32 h.hr h.hr f2.type u2 9997 W) e3
  have e1 := eqF_cons (W := W) (d := 9999) (xs := h.cells.toArray) (ys := h.cells.toArray) n1 (part_row u1 rfl (s1 W) (by rw [o1]; exact h.prev_at)) (part_row u1 rfl (s1 W) (by rw [o1]; exact h.prev_at)) (eqC_bytes h.prev h.prev 32 h.hp h.hp f1.type u1 9997 W) e2
  have e0 := eqF_cons (W := W) (d := 9999) (xs := h.cells.toArray) (ys := h.cells.toArray) n0 (part_cell u0 rfl (by rw [o0]; exact c0)) (part_cell u0 rfl (by rw [o0]; exact c0)) (run_equalIn_int W 9998 f0.type .u32 .u32 _ _ u0) e1
  simpa using e0
section
variable {S : World → Prop} {ops : Array Oper} {o : Oper} {a : Act}
theorem yl_eqlB (hw : Region.wanted o (yielded ops a.tmps) = true) (t : TypeId) (x y : Operand) (t2 : TypeId) (ho : o.op = .binOp .eql t x y t2) (c d : Array Value) (hx : a.eval x = .agg c) (hy : a.eval y = .agg d) (hg : Tryz.prog.eqGuardType Tryz.prog.depth t = false)
    (v : Bool) (hr : ∀ W, (Op.equalIn 10000 t (.agg c) (.agg d)).run Tryz.prog W = .ok v W) : YieldsIf Tryz.prog ops S o (.bool v) a :=
  .inl ⟨hw, fun W _ => by
    unfold execOp
    simp only [ho, hx, hy, Sem.run_bind, run_eqGuard_agg (P := Tryz.prog) W .eql t x y c d hg, run_eql_struct, hr W, Result.andThen_ok, Sem.run_pure]⟩
end
section
set_option maxRecDepth 10000
set_option maxHeartbeats 8000000
theorem blockHeads_walk (w : World) (hK : Kg w) (h : Hd) (s : ByteArray) (hs : s.size ≤ 140737488351232) (a : Int) : Calls Tryz.prog 3 #[.agg h.cells.toArray, .string s, .int .i64 a] w fun r w' => r = .returned (.bool true) ∧ Below w.heap.size w w' := by
  have hm : s.size ≤ maxLen := by unfold maxLen; omega
  have b1 := (Below.refl w.heap.size w).alloc (Nat.le_refl _) (.cells h.cells.toArray 26)
  have R1 := hide (heap_alloc_last w (.cells h.cells.toArray 26))
  have B1 := hide b1
  have KS := hide (hK.next b1)
  have HH := hide (fun W => head_any h W)
  have HRH := hide (fun W => rhead_any h W)
  have HLH := hide (fun W => lhead_any h W)
  have HLK := hide (fun W => lhead_any (tkA s a).1 W)
  have HT := hide (fun W => takeHead_any s hm a W)
  have HRT := hide (fun W => rtakeHead_any s hm a W)
  have TX : Hid ((⟨#[120]⟩ : ByteArray) ++ txt h.bytes = txt (120 :: h.bytes)) := by
    show _ = _
    rw [show (⟨#[120]⟩ : ByteArray) = txt [120] from rfl, txt_app]
    rfl
  have XZ : (txt (120 :: h.bytes)).size = 81 := by rw [txt_sz, List.length_cons, h.bytes_len]
  have HTB : Hid (∀ W, Calls Tryz.prog 7 #[.string (txt (120 :: h.bytes)), .int .i64 1] W fun e w' => e = .returned (.tuple #[.agg h.cells.toArray, .int .i64 0]) ∧ Below W.heap.size W w') := fun W => by
    have := takeHead_any (txt (120 :: h.bytes)) (by rw [XZ]; unfold maxLen; omega) 1 W
    rw [tkA_back h _ rfl] at this
    exact this
  have HI : Hid (∀ W, Kg W → Calls Tryz.prog 9 #[.agg h.cells.toArray] W fun e w' => e = .returned (.agg (hc h.id)) ∧ Below W.heap.size W w') := fun W k => hid_any h W k
  have HRI := hide (fun W => rhid_any h W)
  have HM : Hid (∀ W, Kg W → Calls Tryz.prog 14 #[.agg h.cells.toArray] W fun e w' => e = .returned (.bool h.meets) ∧ Below W.heap.size W w') := fun W k => hmeets_any h W k
  have HRM := hide (fun W => rhmeets_any h W)
  have CZ := hide h.size
  have CA := hide h.all
  have KZ := hide (tkA s a).1.size
  have KA2 := hide (tkA s a).1.all
  have IL := hide h.id_len
  have EA := hide (fun W => eqHd fh_api h W)
  have ER2 := hide (fun W => eqHd fh_ref (tkA s a).1 W)
  have EI : Hid (∀ W, (Op.equalIn 10000 24 (.agg (hc h.id)) (.agg (hc h.id))).run Tryz.prog W = .ok true W) := fun W => by
    have := eqC_bytes h.id h.id 32 h.id_len h.id_len 24 Tryz.underlying24 9998 W
    rw [beq_self_eq_true] at this
    exact this
  have GA : Tryz.prog.eqGuardType Tryz.prog.depth 26 = false := by kernel_rfl
  have GR : Tryz.prog.eqGuardType Tryz.prog.depth 32 = false := by kernel_rfl
  have GH : Tryz.prog.eqGuardType Tryz.prog.depth 24 = false := by kernel_rfl
  have tz : (txt h.bytes).size = 80 := by rw [txt_sz, h.bytes_len]
  clear hK hm b1 XZ
  generalize hC : h.cells.toArray = C at *
  clear hC
  generalize (tkA s a).1.cells.toArray = CK at *
  generalize (tkA s a).2 = E at *
  generalize h.id = D at *
  generalize h.meets = MT at *
  generalize txt (120 :: h.bytes) = XT at *
  generalize txt h.bytes = T at *
  go_enter Tryz.func3, Tryz.ntmps3
  go_upto_region 1 with ((with_reducible refine at_list ?_); refine wpList_boxA rfl _ rfl C rfl ?_)
  generalize w.alloc (.cells C 26) = W0 at *
  go_upto_region 2 with (first | (go_at_call 6; refine (HH.out _).mono ?_; rintro r W1 ⟨rfl, be⟩; have D1 := hide be; clear be) | ((with_reducible refine at_list ?_); refine wpList_loadS AHd _ rfl w.heap.size rfl C CZ.out 26 R1.out (by rfl) ?_))
  go_upto_region 3 with (first | (go_at_call 7; refine (HT.out _).mono ?_; rintro r W2 ⟨rfl, be⟩; have D2 := hide (below_next D1.out be); clear be) | ((with_reducible refine at_list ?_); first | refine wpList_allocA AHd rfl rfl ?_ | refine wpList_store_newA AHd rfl _ _ rfl _ rfl CK KZ.out KA2.out rfl rfl ?_))
  have b3 := (Below.refl W2.heap.size W2).alloc (Nat.le_refl _) (.cells CK 26)
  have D3 := hide (below_next D2.out b3)
  have R8 := hide (heap_alloc_last W2 (.cells CK 26))
  clear b3 D1 D2
  generalize W2.alloc (.cells CK 26) = W3 at *
  generalize W2.heap.size = g8 at *
  go_upto_region 4 with (first | (go_at_call 8; refine (HRT.out _).mono ?_; rintro r W4 ⟨rfl, be⟩; have D4 := hide (below_next D3.out be); have R8b := hide ((be.block _ (lt_heap R8.out)).trans R8.out); clear be) | ((with_reducible refine at_list ?_); first | refine wpList_allocA AHr rfl rfl ?_ | refine wpList_store_newA AHr rfl _ _ rfl _ rfl CK KZ.out KA2.out rfl rfl ?_))
  have b5 := (Below.refl W4.heap.size W4).alloc (Nat.le_refl _) (.cells CK 32)
  have D5 := hide (below_next D4.out b5)
  have R10 := hide (heap_alloc_last W4 (.cells CK 32))
  have R8c := hide ((b5.block _ (lt_heap R8b.out)).trans R8b.out)
  clear b5 D3 D4 R8 R8b
  generalize W4.alloc (.cells CK 32) = W5 at *
  generalize W4.heap.size = g10 at *
  have htx := TX.out
  go_upto_region 5 with (first | (go_at_call 7; refine (HTB.out _).mono ?_; rintro r W6 ⟨rfl, be⟩; have D6 := hide (below_next D5.out be); have B56 := hide be; clear be) | ((with_reducible refine at_list ?_); first | refine wpList_allocA AHd rfl rfl ?_ | refine wpList_store_newA AHd rfl _ _ rfl _ rfl C CZ.out CA.out rfl rfl ?_))
  clear htx
  have b7 := (Below.refl W6.heap.size W6).alloc (Nat.le_refl _) (.cells C 26)
  have D7 := hide (below_next D6.out b7)
  have R12 := hide (heap_alloc_last W6 (.cells C 26))
  have B57 := hide (below_next B56.out b7)
  have R10b := hide ((B57.out.block _ (lt_heap R10.out)).trans R10.out)
  have R8d := hide ((B57.out.block _ (lt_heap R8c.out)).trans R8c.out)
  clear b7 D6 B56 B57 R10 R8c D5
  generalize W6.alloc (.cells C 26) = W7 at *
  generalize W6.heap.size = g12 at *
  have R1b := hide ((D7.out.block _ (lt_heap R1.out)).trans R1.out)
  go_upto_region 6 with (first | (go_at_call 9; refine (HI.out _ (KS.out.next D7.out)).mono ?_; rintro r W8 ⟨rfl, be⟩; have B78 := hide be; clear be) | ((with_reducible refine at_list ?_); first | refine wpList_loadS AHd _ rfl w.heap.size rfl C CZ.out 26 R1b.out (by rfl) ?_ | refine wpList_allocA A25 rfl rfl ?_ | refine wpList_store_newA A25 rfl _ _ rfl _ rfl (hc D) (by rw [hc_size, IL.out]) (hc_one _) rfl rfl ?_))
  have b9 := (Below.refl W8.heap.size W8).alloc (Nat.le_refl _) (.cells (hc D) 24)
  have B79 := hide (below_next B78.out b9)
  have R14 := hide (heap_alloc_last W8 (.cells (hc D) 24))
  have R12b := hide ((B79.out.block _ (lt_heap R12.out)).trans R12.out)
  have R10c := hide ((B79.out.block _ (lt_heap R10b.out)).trans R10b.out)
  have R8e := hide ((B79.out.block _ (lt_heap R8d.out)).trans R8d.out)
  have R1c := hide ((B79.out.block _ (lt_heap R1b.out)).trans R1b.out)
  have BW := hide (below_next B1.out (below_next D7.out B79.out))
  have KW := hide (KS.out.next (below_next D7.out B79.out))
  clear b9 B78 B79 D7 R12 R10b R8d R1b R1 B1 KS HT HRT HTB HI
  generalize W8.alloc (.cells (hc D) 24) = W9 at *
  generalize W8.heap.size = g14 at *
  have DZ : Hid ((hc D).size = 32) := by show _ = _; rw [hc_size, IL.out]
  have X1 : Hid (∀ W, Below W9.heap.size W9 W → W.heap[w.heap.size]? = some (.cells C 26 (0, 0))) := fun W b => (b.block _ (lt_heap R1c.out)).trans R1c.out
  have X8 : Hid (∀ W, Below W9.heap.size W9 W → W.heap[g8]? = some (.cells CK 26 (0, 0))) := fun W b => (b.block _ (lt_heap R8e.out)).trans R8e.out
  have X10 : Hid (∀ W, Below W9.heap.size W9 W → W.heap[g10]? = some (.cells CK 32 (0, 0))) := fun W b => (b.block _ (lt_heap R10c.out)).trans R10c.out
  have X12 : Hid (∀ W, Below W9.heap.size W9 W → W.heap[g12]? = some (.cells C 26 (0, 0))) := fun W b => (b.block _ (lt_heap R12b.out)).trans R12b.out
  have X14 : Hid (∀ W, Below W9.heap.size W9 W → W.heap[g14]? = some (.cells (hc D) 24 (0, 0))) := fun W b => (b.block _ (lt_heap R14.out)).trans R14.out
  have DV1 := hide ((Below.refl W9.heap.size W9).drew)
  refine wp_region_held_drew (S := fun W => Below W9.heap.size W9 W) (by kernel_rfl) DV1.out (fun hH => ?_)
  generalize hWd : W9.drew = V1 at *
  clear hWd
  have ht1 : (T.toList == T.toList) = true := by simp
  have ht2 : (E == E) = true := by simp
  have ht3 : (MT == MT) = true := by simp
  refine wpAnyH_ready (rs := [0]) (by kernel_rfl) (by simp) (AllReadyH.cons rfl (fun K1 hK1 => ?_) AllReadyH.nil)
  go_simp
  refine (awake11 V1 (KW.out.next DV1.out)).mono ?_
  rintro r V2 ⟨rfl, be⟩
  have DV2 := hide (below_next DV1.out be)
  clear be
  refine hK1.out _ _ DV2.out (fun hH => ?_)
  clear hK1
  refine wpAnyH_take (i := 1) (v := (.bool true)) rfl (by kernel_rfl) (by kernel_rfl) (by kernel_rfl) (fun _ _ _ h => h) (yl_move (by rfl) _ (by rfl) _ (by rfl)) hH ?_
  change wpAnyH _ _ _ _ _ _ _ (Act.put _ (some 38) _) _
  simp only [Act.put, List.setIfInBounds_toArray, List.set_cons_zero, List.set_cons_succ]
  refine wpAnyH_take (i := 2) (v := (.string T)) rfl (by kernel_rfl) (by kernel_rfl) (by kernel_rfl) (fun _ _ _ h => h) (yl_move (by rfl) _ (by rfl) _ (by rfl)) hH ?_
  change wpAnyH _ _ _ _ _ _ _ (Act.put _ (some 39) _) _
  simp only [Act.put, List.setIfInBounds_toArray, List.set_cons_zero, List.set_cons_succ]
  refine wpAnyH_take (i := 3) (v := (.agg C)) rfl (by kernel_rfl) (by kernel_rfl) (by kernel_rfl) (fun _ _ _ h => h) (yl_load (by rfl) _ (by rfl) _ C (by rfl) (fun W hS => ld_row AHd CZ.out (X1.out W hS))) hH ?_
  change wpAnyH _ _ _ _ _ _ _ (Act.put _ (some 40) _) _
  simp only [Act.put, List.setIfInBounds_toArray, List.set_cons_zero, List.set_cons_succ]
  refine wpAnyH_ready (rs := [4]) (by kernel_rfl) (by simp) (AllReadyH.cons rfl (fun K1 hK1 => ?_) AllReadyH.nil)
  go_simp
  refine (HLH.out V2).mono ?_
  rintro r V3 ⟨rfl, be⟩
  have DV3 := hide (below_next DV2.out be)
  clear be
  refine hK1.out _ _ DV3.out (fun hH => ?_)
  clear hK1
  refine wpAnyH_ready (rs := [5]) (by kernel_rfl) (by simp) (AllReadyH.cons rfl (fun K1 hK1 => ?_) AllReadyH.nil)
  go_simp
  refine (HRH.out V3).mono ?_
  rintro r V4 ⟨rfl, be⟩
  have DV4 := hide (below_next DV3.out be)
  clear be
  refine hK1.out _ _ DV4.out (fun hH => ?_)
  clear hK1
  refine wpAnyH_take (i := 6) (v := (.bool true)) rfl (by kernel_rfl) (by kernel_rfl) (by kernel_rfl) (fun _ _ _ h => h) (.inl ⟨by rfl, fun W _ => by go_simp⟩) hH ?_
  change wpAnyH _ _ _ _ _ _ _ (Act.put _ (some 43) _) _
  simp only [Act.put, List.setIfInBounds_toArray, List.set_cons_zero, List.set_cons_succ]
  refine wpAnyH_take (i := 7) (v := (.bool true)) rfl (by kernel_rfl) (by kernel_rfl) (by kernel_rfl) (fun _ _ _ h => h) (.inl ⟨by rfl, fun W _ => by go_simp⟩) hH ?_
  change wpAnyH _ _ _ _ _ _ _ (Act.put _ (some 44) _) _
  simp only [Act.put, List.setIfInBounds_toArray, List.set_cons_zero, List.set_cons_succ]
  refine wpAnyH_take (i := 8) (v := (.bool true)) rfl (by kernel_rfl) (by kernel_rfl) (by kernel_rfl) (fun _ _ _ h => h) (yl_move (by rfl) _ (by rfl) _ (by rfl)) hH ?_
  change wpAnyH _ _ _ _ _ _ _ (Act.put _ (some 45) _) _
  simp only [Act.put, List.setIfInBounds_toArray, List.set_cons_zero, List.set_cons_succ]
  refine wpAnyH_take (i := 9) (v := (.agg CK)) rfl (by kernel_rfl) (by kernel_rfl) (by kernel_rfl) (fun _ _ _ h => h) (yl_load (by rfl) _ (by rfl) _ CK (by rfl) (fun W hS => ld_row AHd KZ.out (X8.out W hS))) hH ?_
  change wpAnyH _ _ _ _ _ _ _ (Act.put _ (some 46) _) _
  simp only [Act.put, List.setIfInBounds_toArray, List.set_cons_zero, List.set_cons_succ]
  refine wpAnyH_take (i := 11) (v := (.agg CK)) rfl (by kernel_rfl) (by kernel_rfl) (by kernel_rfl) (fun _ _ _ h => h) (yl_load (by rfl) _ (by rfl) _ CK (by rfl) (fun W hS => ld_row AHr KZ.out (X10.out W hS))) hH ?_
  change wpAnyH _ _ _ _ _ _ _ (Act.put _ (some 48) _) _
  simp only [Act.put, List.setIfInBounds_toArray, List.set_cons_zero, List.set_cons_succ]
  refine wpAnyH_ready (rs := [10]) (by kernel_rfl) (by simp) (AllReadyH.cons rfl (fun K1 hK1 => ?_) AllReadyH.nil)
  go_simp
  refine (HLK.out V4).mono ?_
  rintro r V5 ⟨rfl, be⟩
  have DV5 := hide (below_next DV4.out be)
  clear be
  refine hK1.out _ _ DV5.out (fun hH => ?_)
  clear hK1
  refine wpAnyH_take (i := 12) (v := (.bool true)) rfl (by kernel_rfl) (by kernel_rfl) (by kernel_rfl) (fun _ _ _ h => h) (yl_eqlB (by rfl) 32 _ _ _ (by rfl) CK CK (by rfl) (by rfl) GR true ER2.out) hH ?_
  change wpAnyH _ _ _ _ _ _ _ (Act.put _ (some 49) _) _
  simp only [Act.put, List.setIfInBounds_toArray, List.set_cons_zero, List.set_cons_succ]
  refine wpAnyH_take (i := 13) (v := (.bool true)) rfl (by kernel_rfl) (by kernel_rfl) (by kernel_rfl) (fun _ _ _ h => h) (.inl ⟨by rfl, fun W _ => by go_simp⟩) hH ?_
  change wpAnyH _ _ _ _ _ _ _ (Act.put _ (some 50) _) _
  simp only [Act.put, List.setIfInBounds_toArray, List.set_cons_zero, List.set_cons_succ]
  refine wpAnyH_take (i := 14) (v := (.bool true)) rfl (by kernel_rfl) (by kernel_rfl) (by kernel_rfl) (fun _ _ _ h => h) (yl_move (by rfl) _ (by rfl) _ (by rfl)) hH ?_
  change wpAnyH _ _ _ _ _ _ _ (Act.put _ (some 51) _) _
  simp only [Act.put, List.setIfInBounds_toArray, List.set_cons_zero, List.set_cons_succ]
  refine wpAnyH_take (i := 15) (v := (.int .i64 E)) rfl (by kernel_rfl) (by kernel_rfl) (by kernel_rfl) (fun _ _ _ h => h) (yl_move (by rfl) _ (by rfl) _ (by rfl)) hH ?_
  change wpAnyH _ _ _ _ _ _ _ (Act.put _ (some 52) _) _
  simp only [Act.put, List.setIfInBounds_toArray, List.set_cons_zero, List.set_cons_succ]
  refine wpAnyH_take (i := 16) (v := (.int .i64 E)) rfl (by kernel_rfl) (by kernel_rfl) (by kernel_rfl) (fun _ _ _ h => h) (yl_move (by rfl) _ (by rfl) _ (by rfl)) hH ?_
  change wpAnyH _ _ _ _ _ _ _ (Act.put _ (some 53) _) _
  simp only [Act.put, List.setIfInBounds_toArray, List.set_cons_zero, List.set_cons_succ]
  refine wpAnyH_take (i := 17) (v := (.bool true)) rfl (by kernel_rfl) (by kernel_rfl) (by kernel_rfl) (fun _ _ _ h => h) (.inl ⟨by rfl, fun W _ => by go_simp⟩) hH ?_
  change wpAnyH _ _ _ _ _ _ _ (Act.put _ (some 54) _) _
  simp only [Act.put, List.setIfInBounds_toArray, List.set_cons_zero, List.set_cons_succ]
  refine wpAnyH_take (i := 18) (v := (.bool true)) rfl (by kernel_rfl) (by kernel_rfl) (by kernel_rfl) (fun _ _ _ h => h) (.inl ⟨by rfl, fun W _ => by go_simp⟩) hH ?_
  change wpAnyH _ _ _ _ _ _ _ (Act.put _ (some 55) _) _
  simp only [Act.put, List.setIfInBounds_toArray, List.set_cons_zero, List.set_cons_succ]
  refine wpAnyH_take (i := 19) (v := (.bool true)) rfl (by kernel_rfl) (by kernel_rfl) (by kernel_rfl) (fun _ _ _ h => h) (yl_move (by rfl) _ (by rfl) _ (by rfl)) hH ?_
  change wpAnyH _ _ _ _ _ _ _ (Act.put _ (some 56) _) _
  simp only [Act.put, List.setIfInBounds_toArray, List.set_cons_zero, List.set_cons_succ]
  refine wpAnyH_take (i := 20) (v := (.agg C)) rfl (by kernel_rfl) (by kernel_rfl) (by kernel_rfl) (fun _ _ _ h => h) (yl_load (by rfl) _ (by rfl) _ C (by rfl) (fun W hS => ld_row AHd CZ.out (X12.out W hS))) hH ?_
  change wpAnyH _ _ _ _ _ _ _ (Act.put _ (some 57) _) _
  simp only [Act.put, List.setIfInBounds_toArray, List.set_cons_zero, List.set_cons_succ]
  refine wpAnyH_take (i := 21) (v := (.agg C)) rfl (by kernel_rfl) (by kernel_rfl) (by kernel_rfl) (fun _ _ _ h => h) (yl_load (by rfl) _ (by rfl) _ C (by rfl) (fun W hS => ld_row AHd CZ.out (X1.out W hS))) hH ?_
  change wpAnyH _ _ _ _ _ _ _ (Act.put _ (some 58) _) _
  simp only [Act.put, List.setIfInBounds_toArray, List.set_cons_zero, List.set_cons_succ]
  refine wpAnyH_take (i := 22) (v := (.bool true)) rfl (by kernel_rfl) (by kernel_rfl) (by kernel_rfl) (fun _ _ _ h => h) (yl_eqlB (by rfl) 26 _ _ _ (by rfl) C C (by rfl) (by rfl) GA true EA.out) hH ?_
  change wpAnyH _ _ _ _ _ _ _ (Act.put _ (some 59) _) _
  simp only [Act.put, List.setIfInBounds_toArray, List.set_cons_zero, List.set_cons_succ]
  refine wpAnyH_take (i := 23) (v := (.bool true)) rfl (by kernel_rfl) (by kernel_rfl) (by kernel_rfl) (fun _ _ _ h => h) (.inl ⟨by rfl, fun W _ => by go_simp⟩) hH ?_
  change wpAnyH _ _ _ _ _ _ _ (Act.put _ (some 60) _) _
  simp only [Act.put, List.setIfInBounds_toArray, List.set_cons_zero, List.set_cons_succ]
  refine wpAnyH_take (i := 24) (v := (.bool true)) rfl (by kernel_rfl) (by kernel_rfl) (by kernel_rfl) (fun _ _ _ h => h) (yl_move (by rfl) _ (by rfl) _ (by rfl)) hH ?_
  change wpAnyH _ _ _ _ _ _ _ (Act.put _ (some 61) _) _
  simp only [Act.put, List.setIfInBounds_toArray, List.set_cons_zero, List.set_cons_succ]
  refine wpAnyH_take (i := 25) (v := (.int .i64 0)) rfl (by kernel_rfl) (by kernel_rfl) (by kernel_rfl) (fun _ _ _ h => h) (yl_move (by rfl) _ (by rfl) _ (by rfl)) hH ?_
  change wpAnyH _ _ _ _ _ _ _ (Act.put _ (some 62) _) _
  simp only [Act.put, List.setIfInBounds_toArray, List.set_cons_zero, List.set_cons_succ]
  refine wpAnyH_take (i := 26) (v := (.bool true)) rfl (by kernel_rfl) (by kernel_rfl) (by kernel_rfl) (fun _ _ _ h => h) (.inl ⟨by rfl, fun W _ => by go_simp⟩) hH ?_
  change wpAnyH _ _ _ _ _ _ _ (Act.put _ (some 63) _) _
  simp only [Act.put, List.setIfInBounds_toArray, List.set_cons_zero, List.set_cons_succ]
  refine wpAnyH_take (i := 27) (v := (.bool true)) rfl (by kernel_rfl) (by kernel_rfl) (by kernel_rfl) (fun _ _ _ h => h) (.inl ⟨by rfl, fun W _ => by go_simp⟩) hH ?_
  change wpAnyH _ _ _ _ _ _ _ (Act.put _ (some 64) _) _
  simp only [Act.put, List.setIfInBounds_toArray, List.set_cons_zero, List.set_cons_succ]
  refine wpAnyH_take (i := 28) (v := (.bool true)) rfl (by kernel_rfl) (by kernel_rfl) (by kernel_rfl) (fun _ _ _ h => h) (yl_move (by rfl) _ (by rfl) _ (by rfl)) hH ?_
  change wpAnyH _ _ _ _ _ _ _ (Act.put _ (some 65) _) _
  simp only [Act.put, List.setIfInBounds_toArray, List.set_cons_zero, List.set_cons_succ]
  refine wpAnyH_take (i := 29) (v := (.agg (hc D))) rfl (by kernel_rfl) (by kernel_rfl) (by kernel_rfl) (fun _ _ _ h => h) (yl_load (by rfl) _ (by rfl) _ (hc D) (by rfl) (fun W hS => ld_row A25 DZ.out (X14.out W hS))) hH ?_
  change wpAnyH _ _ _ _ _ _ _ (Act.put _ (some 66) _) _
  simp only [Act.put, List.setIfInBounds_toArray, List.set_cons_zero, List.set_cons_succ]
  refine wpAnyH_take (i := 30) (v := (.agg C)) rfl (by kernel_rfl) (by kernel_rfl) (by kernel_rfl) (fun _ _ _ h => h) (yl_load (by rfl) _ (by rfl) _ C (by rfl) (fun W hS => ld_row AHd CZ.out (X1.out W hS))) hH ?_
  change wpAnyH _ _ _ _ _ _ _ (Act.put _ (some 67) _) _
  simp only [Act.put, List.setIfInBounds_toArray, List.set_cons_zero, List.set_cons_succ]
  refine wpAnyH_ready (rs := [31]) (by kernel_rfl) (by simp) (AllReadyH.cons rfl (fun K1 hK1 => ?_) AllReadyH.nil)
  go_simp
  refine (HLH.out V5).mono ?_
  rintro r V6 ⟨rfl, be⟩
  have DV6 := hide (below_next DV5.out be)
  clear be
  refine hK1.out _ _ DV6.out (fun hH => ?_)
  clear hK1
  refine wpAnyH_ready (rs := [32]) (by kernel_rfl) (by simp) (AllReadyH.cons rfl (fun K1 hK1 => ?_) AllReadyH.nil)
  go_simp
  refine (HRI.out V6).mono ?_
  rintro r V7 ⟨rfl, be⟩
  have DV7 := hide (below_next DV6.out be)
  clear be
  refine hK1.out _ _ DV7.out (fun hH => ?_)
  clear hK1
  refine wpAnyH_take (i := 33) (v := (.bool true)) rfl (by kernel_rfl) (by kernel_rfl) (by kernel_rfl) (fun _ _ _ h => h) (yl_eqlB (by rfl) 24 _ _ _ (by rfl) (hc D) (hc D) (by rfl) (by rfl) GH true EI.out) hH ?_
  change wpAnyH _ _ _ _ _ _ _ (Act.put _ (some 70) _) _
  simp only [Act.put, List.setIfInBounds_toArray, List.set_cons_zero, List.set_cons_succ]
  refine wpAnyH_take (i := 34) (v := (.bool true)) rfl (by kernel_rfl) (by kernel_rfl) (by kernel_rfl) (fun _ _ _ h => h) (.inl ⟨by rfl, fun W _ => by go_simp⟩) hH ?_
  change wpAnyH _ _ _ _ _ _ _ (Act.put _ (some 71) _) _
  simp only [Act.put, List.setIfInBounds_toArray, List.set_cons_zero, List.set_cons_succ]
  refine wpAnyH_take (i := 35) (v := (.bool true)) rfl (by kernel_rfl) (by kernel_rfl) (by kernel_rfl) (fun _ _ _ h => h) (yl_move (by rfl) _ (by rfl) _ (by rfl)) hH ?_
  change wpAnyH _ _ _ _ _ _ _ (Act.put _ (some 72) _) _
  simp only [Act.put, List.setIfInBounds_toArray, List.set_cons_zero, List.set_cons_succ]
  refine wpAnyH_take (i := 36) (v := (.agg C)) rfl (by kernel_rfl) (by kernel_rfl) (by kernel_rfl) (fun _ _ _ h => h) (yl_load (by rfl) _ (by rfl) _ C (by rfl) (fun W hS => ld_row AHd CZ.out (X1.out W hS))) hH ?_
  change wpAnyH _ _ _ _ _ _ _ (Act.put _ (some 73) _) _
  simp only [Act.put, List.setIfInBounds_toArray, List.set_cons_zero, List.set_cons_succ]
  refine wpAnyH_take (i := 38) (v := (.agg C)) rfl (by kernel_rfl) (by kernel_rfl) (by kernel_rfl) (fun _ _ _ h => h) (yl_load (by rfl) _ (by rfl) _ C (by rfl) (fun W hS => ld_row AHd CZ.out (X1.out W hS))) hH ?_
  change wpAnyH _ _ _ _ _ _ _ (Act.put _ (some 75) _) _
  simp only [Act.put, List.setIfInBounds_toArray, List.set_cons_zero, List.set_cons_succ]
  refine wpAnyH_ready (rs := [37]) (by kernel_rfl) (by simp) (AllReadyH.cons rfl (fun K1 hK1 => ?_) AllReadyH.nil)
  go_simp
  refine (HM.out V7 (KW.out.next DV7.out)).mono ?_
  rintro r V8 ⟨rfl, be⟩
  have DV8 := hide (below_next DV7.out be)
  clear be
  refine hK1.out _ _ DV8.out (fun hH => ?_)
  clear hK1
  refine wpAnyH_ready (rs := [39]) (by kernel_rfl) (by simp) (AllReadyH.cons rfl (fun K1 hK1 => ?_) AllReadyH.nil)
  go_simp
  refine (HLH.out V8).mono ?_
  rintro r V9 ⟨rfl, be⟩
  have DV9 := hide (below_next DV8.out be)
  clear be
  refine hK1.out _ _ DV9.out (fun hH => ?_)
  clear hK1
  refine wpAnyH_ready (rs := [40]) (by kernel_rfl) (by simp) (AllReadyH.cons rfl (fun K1 hK1 => ?_) AllReadyH.nil)
  go_simp
  refine (HRM.out V9).mono ?_
  rintro r V10 ⟨rfl, be⟩
  have DV10 := hide (below_next DV9.out be)
  clear be
  refine hK1.out _ _ DV10.out (fun hH => ?_)
  clear hK1
  refine wpAnyH_take (i := 41) (v := (.bool true)) rfl (by kernel_rfl) (by kernel_rfl) (by kernel_rfl) (fun _ _ _ h => h) (.inl ⟨by rfl, fun W _ => by go_simp⟩) hH ?_
  change wpAnyH _ _ _ _ _ _ _ (Act.put _ (some 78) _) _
  simp only [Act.put, List.setIfInBounds_toArray, List.set_cons_zero, List.set_cons_succ]
  refine wpAnyH_take (i := 42) (v := (.bool true)) rfl (by kernel_rfl) (by kernel_rfl) (by kernel_rfl) (fun _ _ _ h => h) (.inl ⟨by rfl, fun W _ => by go_simp⟩) hH ?_
  change wpAnyH _ _ _ _ _ _ _ (Act.put _ (some 79) _) _
  simp only [Act.put, List.setIfInBounds_toArray, List.set_cons_zero, List.set_cons_succ]
  refine wpAnyH_take (i := 43) (v := (.bool true)) rfl (by kernel_rfl) (by kernel_rfl) (by kernel_rfl) (fun _ _ _ h => h) (.inl ⟨by rfl, fun W _ => by go_simp⟩) hH ?_
  change wpAnyH _ _ _ _ _ _ _ (Act.put _ (some 6) _) _
  simp only [Act.put, List.setIfInBounds_toArray, List.set_cons_zero, List.set_cons_succ]
  refine wpAnyH_done (by kernel_rfl) ?_ _
  clear hH
  go_wp2
  go_ret
  exact ⟨rfl, below_next BW.out DV10.out⟩
end
end Go.Proofs.YtdkemnjkhclbkaaGreatDoor
