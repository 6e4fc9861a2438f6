/- A ping read: NewReader, End, message, Decode; the law's awake. What a message's parts are read by: raw, short. -/
import Derived.Test.YtkoidjaaojmcnaaGreatM37
namespace Go.Proofs.YtkoidjaaojmcnaaGreat
open Go.RowKit
open Go.Deep
/-- What message makes: two messages at blocks of their own, a copy of the parts; the reader at block b goes on. -/
theorem rtake8 (s : ByteArray) (hs : s.size = 8) : rtake s 0 0 8 = (8, 0, s) := by
  unfold rtake
  rw [if_neg (by simp), if_neg (by omega), if_neg (by omega)]
  simp only [Int.zero_add, Int.toNat_zero]
  rw [show Int.toNat 8 = s.size by rw [hs]; rfl]
  simp
theorem APa : Arr 85 2 #[.pointer none, .string ⟨#[]⟩] := ⟨.inr ⟨_, Tryz.underlying85⟩, by kernel_rfl, fun w => by kernel_rfl, fun w => by kernel_rfl, rfl⟩
section
set_option maxRecDepth 10000
set_option maxHeartbeats 4000000
theorem rEnd_ok {w : World} {b : Nat} {s : ByteArray} (h : Rst w b s s.size 0) (hs : s.size ≤ maxLen) : Calls Tryz.prog 33 #[.pointer (some ⟨b, 0, none⟩)] w fun e w' => e = .returned (.int .i64 0) ∧ ∃ n, w' = w.drewN n := by
  have HL := hide (rLeft _ _ _ (s.size : Int) 0 h hs (by omega) (Int.le_refl _))
  rw [Int.sub_self] at HL
  go_enter Tryz.func33, Tryz.ntmps33
  go_wp2_with (first | (go_at_call 88; refine HL.out.mono ?_; rintro e w1 ⟨rfl, nn, rfl⟩; have HE := hide (rErr _ _ _ (s.size : Int) 0 (h.drewN nn))) | (go_at_call 96; refine HE.out.mono ?_; rintro e w2 ⟨rfl, rfl⟩))
  go_ret
  exact ⟨rfl, _, rfl⟩
end
/-- A message's number, set. -/
theorem mcf_nonce (m : Mg) (s : Vs) (n : UInt64) : ∀ j, j < 121 → (if j = 3 then .int .u64 (n.toNat : Int) else mcf m s j) = mcf { m with nonce := n } s j := fun j hj => by
  unfold mcf
  rw [show ({ m with nonce := n } : Mg).cells s = (m.cells s).set 3 (.int .u64 (n.toNat : Int)) from rfl]
  by_cases h : j = 3
  · subst h
    rfl
  · rw [if_neg h, List.getElem?_set_ne (Ne.symm h)]
/-- While message reads: its parts at g2, its answer's place at g4, its message at g5, the reader at b. -/
structure Ms (w W : World) (b : Nat) (s : ByteArray) (p err : Int) (g5 : Nat) (m : Mg) (v : Vs) : Prop where
  fr : Rfr b w W
  rd : Rst W b s p err
  r2 : W.heap[w.heap.size]? = some (.cells #[.pointer (some ⟨b, 0, none⟩), .string s] 85 (0, 0))
  r4 : W.heap[w.heap.size + 1]? = some (.cells (zM.cells nil8).toArray 38 (0, 0))
  r5 : W.rowIs g5 38 121 (mcf m v)
  lb : b < w.heap.size
  l5 : w.heap.size + 1 < g5
section
variable {w W W' : World} {b : Nat} {s : ByteArray} {p err p' err' : Int} {g5 : Nat} {m m' : Mg} {v v' : Vs}
theorem Ms.next (h : Ms w W b s p err g5 m v) (k : Below W.heap.size W W') : Ms w W' b s p err g5 m v := ⟨h.fr.trans (Rfr.below k), h.rd.below k, (k.block _ (lt_heap h.r2)).trans h.r2, (k.block _ (lt_heap h.r4)).trans h.r4, h.r5.of_block (k.block _ h.r5.lt), h.lb, h.l5⟩
theorem Ms.read (h : Ms w W b s p err g5 m v) (r : Rst W' b s p' err') (k : Rfr b W W') : Ms w W' b s p' err' g5 m v := ⟨h.fr.trans k, r, (k.block _ (lt_heap h.r2) (by have := h.lb; omega)).trans h.r2, (k.block _ (lt_heap h.r4) (by have := h.lb; omega)).trans h.r4, h.r5.of_block (k.block _ h.r5.lt (by have := h.lb; have := h.l5; omega)), h.lb, h.l5⟩
theorem Ms.set (h : Ms w W b s p err g5 m v) (k : Nat) (x : Value) (e : ∀ j, j < 121 → (if j = k then x else mcf m v j) = mcf m' v' j) : Ms w (W.setCell ⟨g5, k, none⟩ x) b s p err g5 m' v' := by
  have hl := h.lb
  have h5 := h.l5
  have hb : ∀ i, i < w.heap.size + 2 → (W.setCell ⟨g5, k, none⟩ x).heap[i]? = W.heap[i]? := fun i hi => blk_setCell_other _ _ _ _ (fun e => by have e' : i = g5 := e; omega)
  exact ⟨⟨h.fr.os, h.fr.tape, h.fr.output, by simpa [World.setCell] using h.fr.size, fun i hi hn => (hb i (by omega)).trans (h.fr.block i hi hn)⟩, (hb b (by omega)).trans h.rd, (hb _ (by omega)).trans h.r2, (hb _ (by omega)).trans h.r4, (h.r5.set k x).congr e, h.lb, h.l5⟩
theorem Ms.fin (h : Ms w W b s p err g5 m v) : Rst (W.setRow (w.heap.size + 1) (m.cells v).toArray) b s p err ∧ Rfr b w (W.setRow (w.heap.size + 1) (m.cells v).toArray) ∧ (W.setRow (w.heap.size + 1) (m.cells v).toArray).heap[w.heap.size + 1]? = some (.cells (m.cells v).toArray 38 (0, 0)) := by
  have hl := h.lb
  have hb : ∀ i, i < w.heap.size → (W.setRow (w.heap.size + 1) (m.cells v).toArray).heap[i]? = W.heap[i]? := fun i hi => setRow_other _ _ _ _ (by omega)
  exact ⟨(hb b hl).trans h.rd, ⟨h.fr.os, h.fr.tape, h.fr.output, by simpa using h.fr.size, fun i hi hn => (hb i hi).trans (h.fr.block i hi hn)⟩, setRow_heap _ _ _ _ _ _ h.r4⟩
end
section
set_option maxRecDepth 10000
set_option maxHeartbeats 4000000
theorem message_5 {w : World} {b : Nat} {s : ByteArray} (h : Rst w b s 0 0) (hs : s.size = 8) : Calls Tryz.prog 32 #[.agg #[.pointer (some ⟨b, 0, none⟩), .string s], .int .i64 5] w fun e w' => e = .returned (.agg ((bareM 5 (UInt64.ofNat (leN s.data.toList))).cells nil8).toArray) ∧ Rst w' b s s.size 0 ∧ Rfr b w w' := by
  have HB := hide (fun W => bare_any 5 W)
  have HU : Hid (∀ W, Rst W b s 0 0 → Calls Tryz.prog 77 #[.pointer (some ⟨b, 0, none⟩)] W fun e w' => e = .returned (.int .u64 ((UInt64.ofNat (leN s.data.toList)).toNat : Int)) ∧ Rst w' b s s.size 0 ∧ Rfr b W w') := fun W r => by
    have := rU64 _ _ _ 0 0 r (by rw [hs]; decide) (Int.le_refl _) (by omega)
    rw [rtake8 s hs] at this
    have e2 : (UInt64.ofNat (leN s.data.toList)).toNat = leN s.data.toList := by
      have hl : leN s.data.toList < 18446744073709551616 := leN_lt' s.data.toList 8 18446744073709551616 (by simp; omega) (by decide)
      rw [UInt64.toNat_ofNat']
      exact Nat.mod_eq_of_lt hl
    rw [e2]
    rw [show (8 : Int) = (s.size : Int) by rw [hs]; rfl] at this
    exact this
  generalize UInt64.ofNat (leN s.data.toList) = n at *
  have HO := hide ((bareM 5 0).one nil8 nil8_ok)
  have HZ := hide ((bareM 5 0).size nil8)
  have HO1 := hide ((bareM 5 n).one nil8 nil8_ok)
  have HZ1 := hide ((bareM 5 n).size nil8)
  have e1 := heap_alloc_last w (.cells #[.pointer (some ⟨b, 0, none⟩), .string s] 85)
  have r2 := (Below.heap_alloc _ (.cells (zM.cells nil8).toArray 38) _ (lt_heap e1)).trans e1
  have r4 := heap_alloc_last (w.alloc (.cells #[.pointer (some ⟨b, 0, none⟩), .string s] 85)) (.cells (zM.cells nil8).toArray 38)
  have hsz : (w.alloc (.cells #[.pointer (some ⟨b, 0, none⟩), .string s] 85)).heap.size = w.heap.size + 1 := by simp
  rw [hsz] at r4
  have b1 : Below w.heap.size w ((w.alloc (.cells #[.pointer (some ⟨b, 0, none⟩), .string s] 85)).alloc (.cells (zM.cells nil8).toArray 38)) := ((Below.refl _ _).alloc (Nat.le_refl _) _).alloc (by simp) _
  have hl := h.lt
  have F0 := hide (And.intro (And.intro r2 r4) (And.intro b1 h))
  have HL := hide hl
  clear r2 r4 e1 b1 h hl hs
  go_enter Tryz.func32, Tryz.ntmps32
  go_upto_region 1 with (with_reducible refine at_list ?_; first | refine wpList_boxA rfl _ rfl #[.pointer (some ⟨b, 0, none⟩), .string s] rfl ?_ | refine wpList_allocA AM rfl rfl ?_)
  rw [hsz]
  generalize (w.alloc (.cells #[.pointer (some ⟨b, 0, none⟩), .string s] 85)).alloc (.cells (zM.cells nil8).toArray 38) = W0 at *
  go_upto_region 2 with (first | (go_at_call 17; refine (HB.out _).mono ?_; rintro e W1 ⟨rfl, be⟩; have B1 := hide be; clear be) | (with_reducible refine at_list ?_; first | refine wpList_allocA AM rfl rfl ?_ | refine wpList_store_newA AM rfl _ _ rfl _ rfl ((bareM 5 0).cells nil8).toArray HZ.out HO.out rfl rfl ?_))
  have J : Hid (Ms w (W1.alloc (.cells ((bareM 5 0).cells nil8).toArray 38)) b s 0 0 W1.heap.size (bareM 5 0) nil8) := by
    obtain ⟨⟨r2, r4⟩, b1, h⟩ := F0.out
    have b2 : Below W0.heap.size W0 (W1.alloc (.cells ((bareM 5 0).cells nil8).toArray 38)) := below_next B1.out ((Below.refl _ _).alloc (Nat.le_refl _) _)
    have b3 := below_next b1 b2
    exact ⟨Rfr.below b3, h.below b3, (b2.block _ (lt_heap r2)).trans r2, (b2.block _ (lt_heap r4)).trans r4, mcf_of _ _ (heap_alloc_last _ _), HL.out, by have := lt_heap r4; have := B1.out.size; omega⟩
  clear F0 B1 HB HO HZ HL
  generalize W1.heap.size = g5 at *
  generalize W1.alloc (.cells ((bareM 5 0).cells nil8).toArray 38) = W2 at *
  have cp : W2.cell? ⟨w.heap.size, 0, none⟩ = some (.pointer (some ⟨b, 0, none⟩)) := by rw [cell_of_row _ _ 0 _ _ _ J.out.r2]; rfl
  go_upto_region 35 with (go_at_call 77; refine (HU.out _ J.out.rd).mono ?_; rintro e W3 ⟨rfl, rr, fr⟩; have J3 := hide (J.out.read rr fr); have f3 := World.rowIs.frozen J3.out.r5 3; have c3 := World.rowIs.cell J3.out.r5 (i := 3) (by decide); have J4 := hide (J3.out.set (m' := bareM 5 n) (v' := nil8) 3 _ (mcf_nonce (bareM 5 0) nil8 n)); clear rr fr)
  generalize W3.setCell ⟨g5, 3, none⟩ (.int .u64 (n.toNat : Int)) = W4 at *
  have R5 := hide (mcf_row _ _ J4.out.r5)
  have R4 := hide J4.out.r4
  have FF := hide J4.out.fin
  clear J J3 J4 c3 f3 cp HU
  have HZm := hide (zM.size nil8)
  have A0 := AM
  generalize hD : ((bareM 5 n).cells nil8).toArray = D at *
  generalize (zM.cells nil8).toArray = Z at *
  go_wp2_with ((with_reducible refine at_list ?_); first | refine wpList_loadS A0 _ rfl g5 rfl D HZ1.out 38 R5.out rfl ?_ | refine wpList_storeA A0 rfl _ _ rfl (w.heap.size + 1) D HZ1.out HO1.out rfl rfl Z HZm.out 38 R4.out ?_)
  refine bodyPost_ret (resA A0 rfl _ _ _ _ D HZ1.out rfl FF.out.2.2) rfl ?_
  exact ⟨by rw [hD], FF.out.1, FF.out.2.1⟩
theorem decode_ping (s : ByteArray) (hs : s.size = 8) (w : World) : Calls Tryz.prog 11 #[.int .i64 5, .string s] w fun e w' => e = .returned (.tuple #[.agg ((bareM 5 (UInt64.ofNat (leN s.data.toList))).cells nil8).toArray, .int .i64 0, .int .i64 0]) ∧ Below w.heap.size w w' := by
  have HM : Hid (∀ W b, Rst W b s 0 0 → Calls Tryz.prog 32 #[.agg #[.pointer (some ⟨b, 0, none⟩), .string s], .int .i64 5] W fun e w' => e = .returned (.agg ((bareM 5 (UInt64.ofNat (leN s.data.toList))).cells nil8).toArray) ∧ Rst w' b s s.size 0 ∧ Rfr b W w') := fun W b h => message_5 h hs
  have HE : Hid (∀ W b, Rst W b s s.size 0 → Calls Tryz.prog 33 #[.pointer (some ⟨b, 0, none⟩)] W fun e w' => e = .returned (.int .i64 0) ∧ ∃ n, w' = W.drewN n) := fun W b h => rEnd_ok h (by rw [hs]; decide)
  have HO := hide ((bareM 5 (UInt64.ofNat (leN s.data.toList))).one nil8 nil8_ok)
  have HZ := hide ((bareM 5 (UInt64.ofNat (leN s.data.toList))).size nil8)
  have HC := hide (fun W => command_any 5 W)
  rw [cmd5] at HC
  have hp : (cmdN 5).toList.isEmpty = false := by decide +kernel
  have hl : (s.size : Int) = 8 := by omega
  have HZm := hide (zM.size nil8)
  have A0 := AM
  have e4 := heap_alloc_last w (.cells (zM.cells nil8).toArray 38)
  have B4 := hide ((Below.refl w.heap.size w).alloc (Nat.le_refl _) (.cells (zM.cells nil8).toArray 38))
  have R4 := hide e4
  clear e4
  generalize hD : ((bareM 5 (UInt64.ofNat (leN s.data.toList))).cells nil8).toArray = D at *
  generalize hZ : (zM.cells nil8).toArray = Z at *
  generalize cmdN 5 = cm at *
  go_enter Tryz.func11, Tryz.ntmps11
  go_upto_region 5 with (first | (go_at_call 13; refine (HC.out _).mono ?_; rintro e w1 ⟨rfl, rfl⟩) | (with_reducible refine at_list ?_; refine wpList_allocA A0 rfl rfl ?_))
  clear HC hp
  generalize w.alloc (.cells Z 38) = W0 at *
  have e5 := heap_alloc_last W0 (.cells #[.string s, .int .i64 0, .int .i64 0] 125)
  have e7 := heap_alloc_last (W0.alloc (.cells #[.string s, .int .i64 0, .int .i64 0] 125)) (.cells #[.pointer (some ⟨W0.heap.size, 0, none⟩), .string s] 85)
  have hsz : (W0.alloc (.cells #[.string s, .int .i64 0, .int .i64 0] 125)).heap.size = W0.heap.size + 1 := by simp
  rw [hsz] at e7
  have R5 : Hid (Rst ((W0.alloc (.cells #[.string s, .int .i64 0, .int .i64 0] 125)).alloc (.cells #[.pointer (some ⟨W0.heap.size, 0, none⟩), .string s] 85)) W0.heap.size s 0 0) := (Below.heap_alloc _ _ _ (lt_heap e5)).trans e5
  have b7 : Below W0.heap.size W0 ((W0.alloc (.cells #[.string s, .int .i64 0, .int .i64 0] 125)).alloc (.cells #[.pointer (some ⟨W0.heap.size, 0, none⟩), .string s] 85)) := ((Below.refl _ _).alloc (Nat.le_refl _) _).alloc (by simp) _
  have B7 := hide b7
  have R7 := hide e7
  clear e5 e7 b7
  go_upto_region 6 with (first | (go_at_call 31; refine (newReader_any s _).mono ?_; rintro e w1 ⟨rfl, rfl⟩) | (with_reducible refine at_list ?_; first | refine wpList_allocA APa rfl rfl ?_ | refine wpList_store_newA APa rfl _ _ rfl _ rfl #[.pointer (some ⟨W0.heap.size, 0, none⟩), .string s] rfl rfl rfl rfl ?_))
  try rw [hsz]
  clear hsz
  generalize (W0.alloc (.cells #[.string s, .int .i64 0, .int .i64 0] 125)).alloc (.cells #[.pointer (some ⟨W0.heap.size, 0, none⟩), .string s] 85) = W1 at *
  go_upto_region 7 with (first | (go_at_call 32; refine (HM.out _ _ R5.out).mono ?_; rintro e W2 ⟨rfl, r2, f2⟩; have R2 := hide r2; have F2 := hide f2; clear r2 f2) | (with_reducible refine at_list ?_; first | refine wpList_loadS APa _ rfl (W0.heap.size + 1) rfl #[.pointer (some ⟨W0.heap.size, 0, none⟩), .string s] rfl 85 R7.out rfl ?_ | refine wpList_allocA A0 rfl rfl ?_ | refine wpList_store_newA A0 rfl _ _ rfl _ rfl D HZ.out HO.out rfl rfl ?_))
  have r8 := heap_alloc_last W2 (.cells D 38)
  have R8 := hide r8
  have b8 : Below W2.heap.size W2 (W2.alloc (.cells D 38)) := (Below.refl _ _).alloc (Nat.le_refl _) _
  have R9 := hide (R2.out.below b8)
  have q7 : (W2.alloc (.cells D 38)).heap[W0.heap.size + 1]? = some (.cells #[.pointer (some ⟨W0.heap.size, 0, none⟩), .string s] 85 (0, 0)) := by
    have h2 := (F2.out.block _ (lt_heap R7.out) (by omega)).trans R7.out
    exact (b8.block _ (lt_heap h2)).trans h2
  have cp : (W2.alloc (.cells D 38)).cell? ⟨W0.heap.size + 1, 0, none⟩ = some (.pointer (some ⟨W0.heap.size, 0, none⟩)) := by rw [cell_of_row _ _ 0 _ _ _ q7]; rfl
  have Q4 : Hid ((W2.alloc (.cells D 38)).heap[w.heap.size]? = some (.cells Z 38 (0, 0))) := by
    have h1 := (B7.out.block _ (lt_heap R4.out)).trans R4.out
    have h2 := (F2.out.block _ (lt_heap h1) (by have := lt_heap R4.out; omega)).trans h1
    exact (b8.block _ (lt_heap h2)).trans h2
  have Q0 : Hid (Below w.heap.size w (W2.alloc (.cells D 38))) := by
    have h1 := below_next B4.out B7.out
    exact below_next (h1.trans (F2.out.to_below B4.out.size (Nat.le_trans B4.out.size B7.out.size))) b8
  clear q7 b8 r8 R2 F2 R5 R4 B4 B7 R7 HM HO
  generalize W2.heap.size = g8 at *
  generalize W2.alloc (.cells D 38) = W3 at *
  go_upto_region 10 with (go_at_call 33; refine (HE.out _ _ R9.out).mono ?_; rintro e W4 ⟨rfl, nn, rfl⟩; have S8 : Hid ((W3.drewN nn).heap[g8]? = some (.cells D 38 (0, 0))) := R8.out; have S4 : Hid ((W3.drewN nn).heap[w.heap.size]? = some (.cells Z 38 (0, 0))) := Q4.out; have S0 := hide (below_drewN Q0.out nn))
  generalize W3.drewN nn = W4 at *
  have FF := hide (setRow_heap W4 w.heap.size _ D _ _ S4.out)
  have BF := hide (below_setRow S0.out (Nat.le_refl _) D)
  have HO := hide ((bareM 5 (UInt64.ofNat (leN s.data.toList))).one nil8 nil8_ok)
  rw [hD] at HO
  go_wp2_with ((with_reducible refine at_list ?_); first | refine wpList_loadS A0 _ rfl g8 rfl D HZ.out 38 S8.out rfl ?_ | refine wpList_storeA A0 rfl _ _ rfl w.heap.size D HZ.out HO.out rfl rfl Z HZm.out 38 S4.out ?_)
  refine bodyPost_ret (resA3 A0 rfl _ _ _ _ D HZ.out rfl FF.out _ rfl _ rfl) rfl ?_
  exact ⟨rfl, BF.out⟩
end
end Go.Proofs.YtkoidjaaojmcnaaGreat
namespace Go.Proofs.YtkoidjaaojmcnaaGreat
open Go.RowKit
open Go.Deep
set_option linter.unusedVariables false
set_option linter.unusedSimpArgs false
theorem low68 (v : Nat) (hv : v < 281474976710656) : lowL v 6 ++ [0, 0] = lowL v 8 := by
  have h : v / 256 / 256 / 256 / 256 / 256 / 256 = 0 := by omega
  simp only [lowL, h]
  rfl
section
variable {w : World} {b : Nat} {t : ByteArray} {Y : List UInt8}
set_option maxRecDepth 10000
set_option maxHeartbeats 4000000
theorem raw_on (x : ByteArray) (hx : x.size ≤ 4096) (h : Gr w b t (rawL x ++ Y)) (hs : t.size ≤ maxLen) : Calls Tryz.prog 94 #[pv b t] w fun e w' => e = .returned (.string x) ∧ Gr w' b t Y ∧ Rfr b w w' := by
  have R1 := hide (heap_alloc_last w (.cells #[.pointer (some ⟨b, 0, none⟩), .string t] 85))
  have b1 := (Below.refl w.heap.size w).alloc (Nat.le_refl _) (.cells #[.pointer (some ⟨b, 0, none⟩), .string t] 85)
  have F1 := hide (Rfr.below (b := b) b1)
  have HT : Hid (Calls Tryz.prog 112 #[.agg #[.pointer (some ⟨b, 0, none⟩), .string t], .int .u64 4096] (w.alloc (.cells #[.pointer (some ⟨b, 0, none⟩), .string t] 85)) fun e w' => e = .returned (.string x) ∧ Gr w' b t Y ∧ Rfr b (w.alloc (.cells #[.pointer (some ⟨b, 0, none⟩), .string t] 85)) w') := text_on x 4096 hx hx (h.below b1) hs
  clear hx h hs b1
  unfold pv at *
  go_enter Tryz.func94, Tryz.ntmps94
  go_wp2_with (first | (go_at_call 112; with_reducible refine HT.out.mono ?_; rintro e W1 ⟨rfl, g1, f1⟩; have G1 := hide g1; have F2 := hide (F1.out.trans f1); clear g1 f1) | (with_reducible refine at_list ?_; refine wpList_loadS APa _ rfl w.heap.size rfl #[.pointer (some ⟨b, 0, none⟩), .string t] rfl 85 R1.out rfl ?_))
  go_ret
  exact ⟨rfl, G1.out, F2.out⟩
theorem short_on (v : Nat) (hv : v < 281474976710656) (h : Gr w b t (lowL v 6 ++ Y)) (hs : t.size ≤ maxLen) : Calls Tryz.prog 119 #[pv b t] w fun e w' => e = .returned (.int .u64 (v : Int)) ∧ Gr w' b t Y ∧ Rfr b w w' := by
  have r1 := heap_alloc_last w (.cells #[.pointer (some ⟨b, 0, none⟩), .string t] 85)
  have b1 := (Below.refl w.heap.size w).alloc (Nat.le_refl _) (.cells #[.pointer (some ⟨b, 0, none⟩), .string t] 85)
  have F1 := hide (Rfr.below (b := b) b1)
  have c0 : (w.alloc (.cells #[.pointer (some ⟨b, 0, none⟩), .string t] 85)).cell? ⟨w.heap.size, 0, none⟩ = some (.pointer (some ⟨b, 0, none⟩)) := by rw [cell_of_row _ _ _ _ _ _ r1]; rfl
  have HB : Hid (Calls Tryz.prog 87 #[.pointer (some ⟨b, 0, none⟩), .int .i64 6] (w.alloc (.cells #[.pointer (some ⟨b, 0, none⟩), .string t] 85)) fun e w' => e = .returned (.string (txt (lowL v 6))) ∧ Gr w' b t Y ∧ Rfr b (w.alloc (.cells #[.pointer (some ⟨b, 0, none⟩), .string t] 85)) w') := by
    have := (h.below b1).bytes (lowL v 6) hs (by rw [lowL_len]; decide)
    rw [lowL_len] at this
    exact this
  have EQ : Hid (txt (lowL v 6) ++ ⟨#[0, 0]⟩ = txt (lowL v 8)) := by
    show _ = _
    rw [← low68 v hv, ← txt_app]
    rfl
  have HL : (txt (lowL v 6)).size = 6 := by rw [txt_sz, lowL_len]
  have HN := hide (fun W => newReader_any (txt (lowL v 8)) W)
  have HU : Hid (∀ W, Calls Tryz.prog 77 #[.pointer (some ⟨W.heap.size, 0, none⟩)] (W.alloc (.cells #[.string (txt (lowL v 8)), .int .i64 0, .int .i64 0] 125)) fun e w' => e = .returned (.int .u64 (v : Int)) ∧ Below W.heap.size W w') := fun W => by
    have hst : Gr (W.alloc (.cells #[.string (txt (lowL v 8)), .int .i64 0, .int .i64 0] 125)) W.heap.size (txt (lowL v 8)) (lowL v 8 ++ []) := ⟨0, Nat.zero_le _, by simp [txt], heap_alloc_last W _⟩
    refine (hst.u64 v (by omega) (by rw [txt_sz, lowL_len]; decide)).mono ?_
    rintro e w' ⟨rfl, _, f⟩
    exact ⟨rfl, ((Below.refl W.heap.size W).alloc (Nat.le_refl _) _).trans (f.to_below (Nat.le_refl _) (by simp))⟩
  generalize txt (lowL v 6) = t6 at *
  generalize txt (lowL v 8) = t8 at *
  clear h hs b1 hv r1
  unfold pv
  go_enter Tryz.func119, Tryz.ntmps119
  go_wp2_with (first | (go_at_call 87; with_reducible refine HB.out.mono ?_; rintro e W1 ⟨rfl, g1, f1⟩; have G1 := hide g1; have F2 := hide (F1.out.trans f1); clear g1 f1) | (go_at_call 31; rw [EQ.out]; with_reducible refine (HN.out _).mono ?_; rintro e W2 ⟨rfl, rfl⟩) | (go_at_call 77; with_reducible refine (HU.out _).mono ?_; rintro e W3 ⟨rfl, be⟩; have G3 := hide (G1.out.below be); have F3 := hide (F2.out.trans (Rfr.below be)); clear be))
  go_ret
  exact ⟨rfl, G3.out, F3.out⟩
end
end Go.Proofs.YtkoidjaaojmcnaaGreat
