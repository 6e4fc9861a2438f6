/- Entries held against one another; what is told is taken back; the law's ref, both Takes: their contracts. -/
import Derived.Test.YtpffaaalncdjcaaGreatDoorIf
namespace Go.Proofs.YtpffaaalncdjcaaGreatDoor
open Go.RowKit
open Go.Deep
set_option linter.unusedVariables false
theorem eqHd9 {t : TypeId} (F : FHd t) (h : Hd) (W : World) : (Op.equalIn 9999 t (.agg h.cells.toArray) (.agg h.cells.toArray)).run Tryz.prog W = .ok true W := by
  obtain ⟨⟨f0, f1, f2, f3, f4, f5, hu, ⟨n0, n1, n2, n3, n4, n5⟩, ⟨o0, o1, o2, o3, o4, o5⟩, ⟨u0, u3, u4, u5⟩, u1, u2, s1, s2⟩, st⟩ := F
  have hf : Tryz.prog.fieldsOf t = #[f0, f1, f2, f3, f4, f5] := by simp [Program.fieldsOf, hu]
  refine (run_equalIn_struct W 9998 t _ _ (by rw [hf]; exact hu) st).trans ?_
  rw [hf]
  have c0 : h.cells.toArray[0]? = some (.int .u32 (h.ver.toNat : Int)) := by rw [List.getElem?_toArray]; exact h.get0
  have c3 : h.cells.toArray[65]? = some (.int .u32 (h.time.toNat : Int)) := by rw [List.getElem?_toArray]; exact h.getL 0
  have c4 : h.cells.toArray[66]? = some (.int .u32 (h.bits.toNat : Int)) := by rw [List.getElem?_toArray]; exact h.getL 1
  have c5 : h.cells.toArray[67]? = some (.int .u32 (h.nonce.toNat : Int)) := by rw [List.getElem?_toArray]; exact h.getL 2
  have e5 := eqF_cons (W := W) (d := 9998) (xs := h.cells.toArray) (ys := h.cells.toArray) n5 (part_cell u5 rfl (by rw [o5]; exact c5)) (part_cell u5 rfl (by rw [o5]; exact c5)) (run_equalIn_int W 9997 f5.type .u32 .u32 _ _ u5) (fs := []) (r2 := true) rfl
  have e4 := eqF_cons (W := W) (d := 9998) (xs := h.cells.toArray) (ys := h.cells.toArray) n4 (part_cell u4 rfl (by rw [o4]; exact c4)) (part_cell u4 rfl (by rw [o4]; exact c4)) (run_equalIn_int W 9997 f4.type .u32 .u32 _ _ u4) e5
  have e3 := eqF_cons (W := W) (d := 9998) (xs := h.cells.toArray) (ys := h.cells.toArray) n3 (part_cell u3 rfl (by rw [o3]; exact c3)) (part_cell u3 rfl (by rw [o3]; exact c3)) (run_equalIn_int W 9997 f3.type .u32 .u32 _ _ u3) e4
  have e2 := eqF_cons (W := W) (d := 9998) (xs := h.cells.toArray) (ys := h.cells.toArray) n2 (part_row u2 rfl (s2 W) (by rw [o2]; exact h.root_at)) (part_row u2 rfl (s2 W) (by rw [o2]; exact h.root_at)) (eqC_bytes h.root h.root 32 h.hr h.hr f2.type u2 9996 W) e3
  have e1 := eqF_cons (W := W) (d := 9998) (xs := h.cells.toArray) (ys := h.cells.toArray) n1 (part_row u1 rfl (s1 W) (by rw [o1]; exact h.prev_at)) (part_row u1 rfl (s1 W) (by rw [o1]; exact h.prev_at)) (eqC_bytes h.prev h.prev 32 h.hp h.hp f1.type u1 9996 W) e2
  have e0 := eqF_cons (W := W) (d := 9998) (xs := h.cells.toArray) (ys := h.cells.toArray) n0 (part_cell u0 rfl (by rw [o0]; exact c0)) (part_cell u0 rfl (by rw [o0]; exact c0)) (run_equalIn_int W 9997 f0.type .u32 .u32 _ _ u0) e1
  simpa using e0
theorem En.h_at (x : En) : x.cells.toArray.extract 0 (0 + 68) = x.h.cells.toArray := by
  simp only [En.cells, List.extract_toArray, List.extract]
  rw [List.drop_zero, show 0 + 68 - 0 = x.h.cells.length from x.h.len.symm, List.take_left]
theorem En.atT (x : En) (j : Nat) : x.cells.toArray[68 + j]? = x.tail[j]? := by rw [List.getElem?_toArray]; exact x.getT j
/-- A type's fields are those of an entry. -/
structure FEn (t : TypeId) : Prop where
  ex : ∃ f0 f1 f2 f3 f4 f5, Tryz.prog.underlying t = some (.struct #[f0, f1, f2, f3, f4, f5]) ∧ (f0.name ≠ "_" ∧ f1.name ≠ "_" ∧ f2.name ≠ "_" ∧ f3.name ≠ "_" ∧ f4.name ≠ "_" ∧ f5.name ≠ "_") ∧ (f0.offset = 0 ∧ f1.offset = 68 ∧ f2.offset = 69 ∧ f3.offset = 70 ∧ f4.offset = 71 ∧ f5.offset = 72) ∧
    (Tryz.prog.underlying f1.type = some (.int .i64) ∧ Tryz.prog.underlying f2.type = some (.int .i64) ∧ Tryz.prog.underlying f3.type = some (.int .i64) ∧ Tryz.prog.underlying f4.type = some (.int .i64) ∧ Tryz.prog.underlying f5.type = some (.int .i64)) ∧ FHd f0.type ∧ (∃ fs, Tryz.prog.underlying f0.type = some (.struct fs)) ∧ (∀ W, (sizeOf f0.type).run Tryz.prog W = .ok 68 W)
  st : Tryz.prog.stoodInHeld t = false
theorem fe_api : FEn 28 := ⟨⟨_, _, _, _, _, _, Tryz.underlying28, ⟨by decide, by decide, by decide, by decide, by decide, by decide⟩, ⟨rfl, rfl, rfl, rfl, rfl, rfl⟩, ⟨Tryz.underlying3, Tryz.underlying3, Tryz.underlying3, Tryz.underlying3, Tryz.underlying3⟩, fh_api, ⟨_, Tryz.underlying26⟩, fun W => by kernel_rfl⟩, by kernel_rfl⟩
theorem fe_ref : FEn 37 := ⟨⟨_, _, _, _, _, _, Tryz.underlying37, ⟨by decide, by decide, by decide, by decide, by decide, by decide⟩, ⟨rfl, rfl, rfl, rfl, rfl, rfl⟩, ⟨Tryz.underlying3, Tryz.underlying3, Tryz.underlying3, Tryz.underlying3, Tryz.underlying3⟩, fh_ref, ⟨_, Tryz.underlying35⟩, fun W => by kernel_rfl⟩, by kernel_rfl⟩
theorem eqEn {t : TypeId} (F : FEn t) (x : En) (W : World) : (Op.equalIn 10000 t (.agg x.cells.toArray) (.agg x.cells.toArray)).run Tryz.prog W = .ok true W := by
  obtain ⟨⟨f0, f1, f2, f3, f4, f5, hu, ⟨n0, n1, n2, n3, n4, n5⟩, ⟨o0, o1, o2, o3, o4, o5⟩, ⟨u1, u2, u3, u4, u5⟩, FH, ⟨fs, u0⟩, s0⟩, st⟩ := F
  have hf : Tryz.prog.fieldsOf t = #[f0, f1, f2, f3, f4, f5] := by simp [Program.fieldsOf, hu]
  refine (run_equalIn_struct W 9999 t _ _ (by rw [hf]; exact hu) st).trans ?_
  rw [hf]
  have e5 := eqF_cons (W := W) (d := 9999) (xs := x.cells.toArray) (ys := x.cells.toArray) n5 (part_cell u5 rfl (by rw [o5]; exact x.atT 4)) (part_cell u5 rfl (by rw [o5]; exact x.atT 4)) (run_equalIn_int W 9998 f5.type .i64 .i64 _ _ u5) (fs := []) (r2 := true) rfl
  have e4 := eqF_cons (W := W) (d := 9999) (xs := x.cells.toArray) (ys := x.cells.toArray) n4 (part_cell u4 rfl (by rw [o4]; exact x.atT 3)) (part_cell u4 rfl (by rw [o4]; exact x.atT 3)) (run_equalIn_int W 9998 f4.type .i64 .i64 _ _ u4) e5
  have e3 := eqF_cons (W := W) (d := 9999) (xs := x.cells.toArray) (ys := x.cells.toArray) n3 (part_cell u3 rfl (by rw [o3]; exact x.atT 2)) (part_cell u3 rfl (by rw [o3]; exact x.atT 2)) (run_equalIn_int W 9998 f3.type .i64 .i64 _ _ u3) e4
  have e2 := eqF_cons (W := W) (d := 9999) (xs := x.cells.toArray) (ys := x.cells.toArray) n2 (part_cell u2 rfl (by rw [o2]; exact x.atT 1)) (part_cell u2 rfl (by rw [o2]; exact x.atT 1)) (run_equalIn_int W 9998 f2.type .i64 .i64 _ _ u2) e3
  have e1 := eqF_cons (W := W) (d := 9999) (xs := x.cells.toArray) (ys := x.cells.toArray) n1 (part_cell u1 rfl (by rw [o1]; exact x.atT 0)) (part_cell u1 rfl (by rw [o1]; exact x.atT 0)) (run_equalIn_int W 9998 f1.type .i64 .i64 _ _ u1) e2
  have e0 := eqF_cons (W := W) (d := 9999) (xs := x.cells.toArray) (ys := x.cells.toArray) n0 (part_row (c := x.h.cells.toArray) u0 rfl (s0 W) (by rw [o0]; exact x.h_at)) (part_row (c := x.h.cells.toArray) u0 rfl (s0 W) (by rw [o0]; exact x.h_at)) (eqHd9 FH x.h W) e1
  simpa using e0
theorem hdOf_front (h : Hd) (R : List UInt8) (hl : 80 ≤ (h.bytes ++ R).length) : hdOf (h.bytes ++ R) hl = h := by
  obtain ⟨v, p, r, t, b, o, hp, hr⟩ := h
  have e : (⟨v, p, r, t, b, o, hp, hr⟩ : Hd).bytes ++ R = lowL v.toNat 4 ++ (p ++ (r ++ (lowL t.toNat 4 ++ (lowL b.toNat 4 ++ (lowL o.toNat 4 ++ R))))) := by simp [Hd.bytes, Hd.front, List.append_assoc]
  generalize (⟨v, p, r, t, b, o, hp, hr⟩ : Hd).bytes ++ R = l at *
  have d4 : l.drop 4 = p ++ (r ++ (lowL t.toNat 4 ++ (lowL b.toNat 4 ++ (lowL o.toNat 4 ++ R)))) := by rw [e]; exact List.drop_left' (lowL_len _ _)
  have d36 : l.drop 36 = r ++ (lowL t.toNat 4 ++ (lowL b.toNat 4 ++ (lowL o.toNat 4 ++ R))) := by rw [show 36 = 4 + 32 from rfl, ← List.drop_drop, d4]; exact List.drop_left' hp
  have d68 : l.drop 68 = lowL t.toNat 4 ++ (lowL b.toNat 4 ++ (lowL o.toNat 4 ++ R)) := by rw [show 68 = 36 + 32 from rfl, ← List.drop_drop, d36]; exact List.drop_left' hr
  have d72 : l.drop 72 = lowL b.toNat 4 ++ (lowL o.toNat 4 ++ R) := by rw [show 72 = 68 + 4 from rfl, ← List.drop_drop, d68]; exact List.drop_left' (lowL_len _ _)
  have d76 : l.drop 76 = lowL o.toNat 4 ++ R := by rw [show 76 = 72 + 4 from rfl, ← List.drop_drop, d72]; exact List.drop_left' (lowL_len _ _)
  have t0 : l.take 4 = lowL v.toNat 4 := by rw [e]; exact List.take_left' (lowL_len _ _)
  have t4 : (l.drop 4).take 32 = p := by rw [d4]; exact List.take_left' hp
  have t36 : (l.drop 36).take 32 = r := by rw [d36]; exact List.take_left' hr
  have t68 : (l.drop 68).take 4 = lowL t.toNat 4 := by rw [d68]; exact List.take_left' (lowL_len _ _)
  have t72 : (l.drop 72).take 4 = lowL b.toNat 4 := by rw [d72]; exact List.take_left' (lowL_len _ _)
  have t76 : (l.drop 76).take 4 = lowL o.toNat 4 := by rw [d76]; exact List.take_left' (lowL_len _ _)
  simp only [hdOf, t0, t4, t36, t68, t72, t76, u32_low]
theorem tkE_back (x : En) (hm : x.may = true) : tkE x.bytes = (x, 0) := by
  obtain ⟨⟨a0, a1⟩, ⟨b0, b1⟩, ⟨c0, c1⟩, ⟨d0, d1⟩, ⟨f0, f1⟩⟩ := x.may_iff.1 hm
  have hl := x.bytes_len
  have e : x.bytes = x.h.bytes ++ (lowL x.ht.toNat 4 ++ ([UInt8.ofNat x.st.toNat] ++ (lowL x.fl.toNat 4 ++ (lowL x.pl.toNat 4 ++ lowL x.lg.toNat 4)))) := by simp [En.bytes, List.append_assoc]
  have eh : hdOf x.bytes (by omega) = x.h := by
    have := hdOf_front x.h (lowL x.ht.toNat 4 ++ ([UInt8.ofNat x.st.toNat] ++ (lowL x.fl.toNat 4 ++ (lowL x.pl.toNat 4 ++ lowL x.lg.toNat 4)))) (by rw [← e]; omega)
    simp only [← e] at this
    exact this
  have d80 : x.bytes.drop 80 = lowL x.ht.toNat 4 ++ ([UInt8.ofNat x.st.toNat] ++ (lowL x.fl.toNat 4 ++ (lowL x.pl.toNat 4 ++ lowL x.lg.toNat 4))) := by rw [e]; exact List.drop_left' x.h.bytes_len
  have d84 : x.bytes.drop 84 = [UInt8.ofNat x.st.toNat] ++ (lowL x.fl.toNat 4 ++ (lowL x.pl.toNat 4 ++ lowL x.lg.toNat 4)) := by rw [show 84 = 80 + 4 from rfl, ← List.drop_drop, d80]; exact List.drop_left' (lowL_len _ _)
  have d85 : x.bytes.drop 85 = lowL x.fl.toNat 4 ++ (lowL x.pl.toNat 4 ++ lowL x.lg.toNat 4) := by rw [show 85 = 84 + 1 from rfl, ← List.drop_drop, d84]; exact List.drop_left' rfl
  have d89 : x.bytes.drop 89 = lowL x.pl.toNat 4 ++ lowL x.lg.toNat 4 := by rw [show 89 = 85 + 4 from rfl, ← List.drop_drop, d85]; exact List.drop_left' (lowL_len _ _)
  have d93 : x.bytes.drop 93 = lowL x.lg.toNat 4 := by rw [show 93 = 89 + 4 from rfl, ← List.drop_drop, d89]; exact List.drop_left' (lowL_len _ _)
  have g84 : x.bytes.getD 84 0 = UInt8.ofNat x.st.toNat := by
    have q : x.bytes[84]? = some (UInt8.ofNat x.st.toNat) := by
      have := congrArg (·[0]?) d84
      simpa using this
    rw [List.getD_eq_getElem?_getD, q]
    rfl
  have p4 : (256 : Nat) ^ 4 = 4294967296 := by decide
  have z0 : leN ((x.bytes.drop 80).take 4) = x.ht.toNat := by rw [d80, List.take_left' (lowL_len _ _)]; exact leN_lowC 4 _ (by rw [p4]; omega)
  have z2 : leN ((x.bytes.drop 85).take 4) = x.fl.toNat := by rw [d85, List.take_left' (lowL_len _ _)]; exact leN_lowC 4 _ (by rw [p4]; omega)
  have z3 : leN ((x.bytes.drop 89).take 4) = x.pl.toNat := by rw [d89, List.take_left' (lowL_len _ _)]; exact leN_lowC 4 _ (by rw [p4]; omega)
  have z4 : leN ((x.bytes.drop 93).take 4) = x.lg.toNat := by rw [d93, List.take_of_length_le (by rw [lowL_len]; omega)]; exact leN_lowC 4 _ (by rw [p4]; omega)
  have z1 : (UInt8.ofNat x.st.toNat).toNat = x.st.toNat := by rw [UInt8.toNat_ofNat']; omega
  have ee : enOf x.bytes hl = x := by
    rw [enOf, eh, z0, z2, z3, z4, g84, z1]
    obtain ⟨h, n0, n1, n2, n3, n4⟩ := x
    simp only [En.mk.injEq, true_and]
    simp only at a0 b0 c0 d0 f0
    omega
  rw [tkE, dif_pos hl, ee, if_pos hm]
section
set_option maxRecDepth 10000
set_option maxHeartbeats 4000000
theorem takeE_any (s : ByteArray) (hs : s.size ≤ maxLen) (w : World) : Calls Tryz.prog 8 #[.string s] w fun e w' => e = .returned (.tuple #[.agg (tkE s.data.toList).1.cells.toArray, .int .i64 (tkE s.data.toList).2]) ∧ Below w.heap.size w w' := by
  by_cases hn : s.size = 97
  · exact take_97 s hs _ rfl (by rw [← hn]; simp) w
  · exact take_len s hs hn w
theorem rtakeE_any (s : ByteArray) (hs : s.size ≤ maxLen) (w : World) : Calls Tryz.prog 9 #[.string s] w fun e w' => e = .returned (.tuple #[.agg (tkE s.data.toList).1.cells.toArray, .int .i64 (tkE s.data.toList).2]) ∧ Below w.heap.size w w' := by
  by_cases hn : s.size = 97
  · exact rtakeE_97 s hs _ rfl (by rw [← hn]; simp) w
  · exact rtake_len s hs hn w
theorem lref_any (x : En) (w : World) : Calls Tryz.prog 11 #[.agg x.cells.toArray] w fun e w' => e = .returned (.agg x.cells.toArray) ∧ Below w.heap.size w w' := by
  have s1 : (w.alloc (.cells x.cells.toArray 28)).heap.size = w.heap.size + 1 := by simp
  have R1 := hide ((Below.heap_alloc _ (.cells zEn.cells.toArray 37) _ (lt_heap (heap_alloc_last w (.cells x.cells.toArray 28)))).trans (heap_alloc_last w (.cells x.cells.toArray 28)))
  have R2 := hide (heap_alloc_last (w.alloc (.cells x.cells.toArray 28)) (.cells zEn.cells.toArray 37))
  have B1 := hide (((Below.refl w.heap.size w).alloc (Nat.le_refl _) (.cells x.cells.toArray 28)).alloc (by rw [s1]; omega) (.cells zEn.cells.toArray 37))
  have RX : Hid (∀ (W : World) g, W.heap[g]? = some (.cells x.cells.toArray 28 (0, 0)) → W.rangeAt g 0 x.h.cells ∧ W.cell? ⟨g, 68, none⟩ = some (.int .i64 x.ht) ∧ W.cell? ⟨g, 69, none⟩ = some (.int .i64 x.st) ∧ W.cell? ⟨g, 70, none⟩ = some (.int .i64 x.fl) ∧ W.cell? ⟨g, 71, none⟩ = some (.int .i64 x.pl) ∧ W.cell? ⟨g, 72, none⟩ = some (.int .i64 x.lg)) := fun W g e => x.row e
  have BH := hide (bld_rHd x.h)
  have BE := hide (bld_rEn x)
  have EZ := hide (And.intro x.size x.all)
  have HZ := hide (And.intro x.h.size x.h.all)
  have HP := hide x.h.hp
  have HR := hide x.h.hr
  rw [s1] at R2
  generalize x.cells.toArray = C at *
  generalize x.h = h at *
  generalize x.ht = k1 at *
  generalize x.st = k2 at *
  generalize x.fl = k3 at *
  generalize x.pl = k4 at *
  generalize x.lg = k5 at *
  go_enter Tryz.func11, Tryz.ntmps11
  go_upto_region 1 with ((with_reducible refine at_list ?_); first | refine wpList_boxA rfl _ rfl C rfl ?_ | refine wpList_allocA AEr rfl rfl ?_)
  try rw [s1]
  clear s1
  generalize (w.alloc (.cells C 28)).alloc (.cells zEn.cells.toArray 37) = W0 at *
  have rx := hide (RX.out _ _ R1.out).1
  go_upto_region 2 with ((with_reducible refine at_list ?_); first | refine wpLoadHd _ rfl w.heap.size 0 rfl h rx.out (by rfl) ?_ | refine wpList_allocA AHd rfl rfl ?_ | refine wpList_store_newA AHd rfl _ _ rfl _ rfl h.cells.toArray HZ.out.1 HZ.out.2 rfl rfl ?_)
  have b3 := (Below.refl W0.heap.size W0).alloc (Nat.le_refl _) (.cells h.cells.toArray 26)
  have R3 := hide (heap_alloc_last W0 (.cells h.cells.toArray 26))
  have R1b := hide ((b3.block _ (lt_heap R1.out)).trans R1.out)
  have R2b := hide ((b3.block _ (lt_heap R2.out)).trans R2.out)
  have B3 := hide (below_next B1.out b3)
  clear b3 R1 R2 B1 rx
  generalize W0.alloc (.cells h.cells.toArray 26) = W1 at *
  generalize W0.heap.size = g3 at *
  have q1 := (RX.out _ _ R1b.out).2.1
  have q2 := (RX.out _ _ R1b.out).2.2.1
  have q3 := (RX.out _ _ R1b.out).2.2.2.1
  have q4 := (RX.out _ _ R1b.out).2.2.2.2.1
  have q5 := (RX.out _ _ R1b.out).2.2.2.2.2
  have rr := rowAt h.cells R3.out
  have c0 := h.ver0 rr
  have c3 := h.time0 rr
  have c4 := h.bits0 rr
  have c5 := h.nonce0 rr
  have rp := hide (h.prevR rr)
  have rq := hide (h.rootR rr)
  rw [Nat.zero_add] at c3 c4 c5 rp rq
  clear rr RX R3
  generalize h.cells.toArray = CH at *
  generalize (h.ver.toNat : Int) = v0 at *
  generalize (h.time.toNat : Int) = v3 at *
  generalize (h.bits.toNat : Int) = v4 at *
  generalize (h.nonce.toNat : Int) = v5 at *
  generalize h.prev = P at *
  generalize h.root = Q at *
  go_wp2_with ((with_reducible refine at_list ?_); first | refine wpLoadH25 _ rfl g3 1 rfl P HP.out rp.out (by rfl) ?_ | refine wpLoadH25 _ rfl g3 33 rfl Q HR.out rq.out (by rfl) ?_ | refine wpList_bldX rfl _ rfl #[(0, .int .u32 v0), (1, .agg (hc P)), (2, .agg (hc Q)), (3, .int .u32 v3), (4, .int .u32 v4), (5, .int .u32 v5)] CH (by simp only [List.map_toArray, List.map_cons, List.map_nil]; rfl) BH.out ?_ | refine wpList_bldX rfl _ rfl #[(0, .agg CH), (1, .int .i64 k1), (2, .int .i64 k2), (3, .int .i64 k3), (4, .int .i64 k4), (5, .int .i64 k5)] C (by simp only [List.map_toArray, List.map_cons, List.map_nil]; rfl) BE.out ?_ | refine wpList_storeA AEr rfl _ _ rfl (w.heap.size + 1) C EZ.out.1 EZ.out.2 rfl rfl zEn.cells.toArray zEn.size 37 R2b.out ?_)
  exact bodyPost_ret (v := .agg C) (resA AEr Tryz.results11 _ _ (w.heap.size + 1) 37 _ EZ.out.1 rfl (setRow_heap _ _ _ _ _ _ R2b.out)) rfl ⟨rfl, below_setRow B3.out (by omega) _⟩
end
end Go.Proofs.YtpffaaalncdjcaaGreatDoor
