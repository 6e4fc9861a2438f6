/- The contracts of the document's Get and Hash. -/
import Derived.Test.YtpjpnkohagcegaaDoorYg
import Derived.Test.YtpjpnkohagcegaaDoorYbb
namespace Go.Proofs.YtpjpnkohagcegaaDoor
open Go.RowKit
open Go.Deep
theorem leN_drop (q : ByteArray) (j : Nat) (h : j < q.size) : leN (q.data.toList.drop j) = q[j].toNat + 256 * leN (q.data.toList.drop (j + 1)) := by
  rw [List.drop_eq_getElem_cons (by simpa using h), leN]
  rfl
theorem pow8 (k : Nat) (h : k ≤ 8) : 256 ^ k ≤ 18446744073709551616 := by
  have : (256 : Nat) ^ k ≤ 256 ^ 8 := Nat.pow_le_pow_right (by decide) h
  simpa using this
section
set_option maxRecDepth 10000
set_option maxHeartbeats 1000000
theorem get_any (q : ByteArray) (hq : q.size ≤ 8) (w : World) : Calls Tryd.prog 12 #[.string q] w fun e w' => e = .returned (.int .u64 (leN q.data.toList : Int)) ∧ w' = w := by
  go_enter Tryd.func12, Tryd.ntmps12
  go_wp2
  go_loopw [3, 4] (fun c d wr => ∃ j : Nat, j ≤ q.size ∧ c = .int .u64 (leN (q.data.toList.drop j) : Int) ∧ d = .int .i64 ((j : Int) - 1) ∧ wr = w) (fun _ d _ => (1 + intOf d).toNat)
  case atStart =>
    refine ⟨q.size, Nat.le_refl _, ?_, rfl, rfl⟩
    rw [List.drop_of_length_le (by simp)]
    rfl
  case round =>
    obtain ⟨j, hj, rfl, rfl, rfl⟩ := hrel
    rcases j with _ | j
    · have h0 : ¬ (0 : Int) ≤ ((0 : Nat) : Int) - 1 := by omega
      go_wp2
      go_ret
      exact ⟨rfl, rfl⟩
    · have e := leN_drop q j (by omega)
      have hl := leN_lt (q.data.toList.drop (j + 1))
      have hl2 := leN_lt (q.data.toList.drop j)
      have hp := pow8 (q.data.toList.drop j).length (by simp; omega)
      have e1 : ((j + 1 : Nat) : Int) - 1 = j := by omega
      have b0 : (0 : Int) ≤ j := by omega
      have b1 : (j : Int) < q.size := by omega
      have b2 := q[j].toNat_lt
      rw [e1]
      generalize leN (q.data.toList.drop (j + 1)) = x at *
      generalize hy : leN (q.data.toList.drop j) = y at *
      have HY := hide hy
      clear hy
      have w1 : IntKind.u64.wrap ((x : Int) * 256) = (x : Int) * 256 := wrapu _ (by omega) (by omega)
      have w2 : IntKind.u64.wrap ((x : Int) * 256 + (q[j].toNat : Int)) = (y : Int) := by rw [wrapu _ (by omega) (by omega)]; omega
      have w3 : IntKind.u64.wrap (q[j].toNat : Int) = (q[j].toNat : Int) := wrapu _ (by omega) (by omega)
      go_wp2
      exact ⟨⟨j, by omega, by rw [HY.out]; congr 1; omega, rfl, trivial⟩, by simp [intOf]; omega⟩
/-- A text with zeros behind it. -/
def withZ (q : ByteArray) (z : Nat) : ByteArray := ⟨(q.data.toList ++ List.replicate z 0).toArray⟩
theorem withZ_size (q : ByteArray) (z : Nat) : (withZ q z).size = q.size + z := by
  show (q.data.toList ++ List.replicate z 0).toArray.size = _
  simp
theorem bytes_ext {a b : ByteArray} (h : a.data.toList = b.data.toList) : a = b := by
  obtain ⟨a⟩ := a
  obtain ⟨b⟩ := b
  simp only at h
  congr 1
  exact Array.ext' h
theorem withZ_next (q : ByteArray) (z : Nat) : withZ q z ++ (⟨#[0]⟩ : ByteArray) = withZ q (z + 1) := by
  apply bytes_ext
  simp [withZ, List.replicate_succ']
theorem withZ_zero (q : ByteArray) : withZ q 0 = q := by
  apply bytes_ext
  simp [withZ]
theorem withZ_pad (q : ByteArray) (b : UInt8) (hb : b = UInt8.ofNat q.size) : (withZ q (7 - q.size % 8) ++ (⟨#[b]⟩ : ByteArray)).data.toList = padS q.data.toList := by
  subst hb
  simp [withZ, padS]
theorem conv_one (W : World) (x : Int) (b : UInt8) (hx : x = b.toNat) : (convert 52 9 (.slice (some ⟨W.heap.size, 0, none⟩) 1 1)).run Tryd.prog (W.alloc (.cells #[.int .u8 x] 5)) = .ok (.string ⟨#[b]⟩) (W.alloc (.cells #[.int .u8 x] 5)) := by
  subst hx
  exact run_convert_bytes_back (P := Tryd.prog) _ 52 9 5 ⟨W.heap.size, 0, none⟩ 1 [b] Tryd.underlying52 Tryd.underlying5 Tryd.underlying9 (fun j hj => by
    have : j = 0 := by simpa using hj
    subst this
    have := cell_of_row (W.alloc (.cells #[.int .u8 (b.toNat : Int)] 5)) W.heap.size 0 _ _ _ (heap_alloc_last _ _)
    simp [Addr.add])
theorem ext_chunk (X : ByteArray) (k : Nat) : (X.extract (8 * k) (8 * k + 8)).data.toList = chunk X.data.toList k := by
  rw [ByteArray.data_extract, Array.toList_extract]
  simp [List.extract, chunk]
/-- Four words at block g, over a world. -/
structure Rh (w W : World) (g : Nat) (v : Q4) : Prop where
  q : Qd W g v.a v.b v.c v.d
  b : Below g w W
theorem Rh.next {w W W' : World} {g : Nat} {v : Q4} (j : Rh w W g v) (h : Below W.heap.size W W') : Rh w W' g v :=
  ⟨j.q.of_block (h.block _ j.q.lt), j.b.trans (h.mono (Nat.le_of_lt j.q.lt))⟩
theorem Rh.row {w W : World} {g : Nat} {v : Q4} (j : Rh w W g v) (u : Q4) : Rh w (W.setRow g (qc u.list)) g u :=
  ⟨Qd.of_heap (setRow_heap _ _ _ _ _ _ j.q.heap), below_setRow j.b (Nat.le_refl _) _⟩
theorem Rh.s0 {w W : World} {g : Nat} {v : Q4} (j : Rh w W g v) (x : UInt64) : Rh w (W.setCell ⟨g, 0, none⟩ (.int .u64 (x.toNat : Int))) g ⟨x, v.b, v.c, v.d⟩ :=
  ⟨j.q.s0 x, j.b.setCell (Nat.le_refl _) _⟩
theorem Rh.s2 {w W : World} {g : Nat} {v : Q4} (j : Rh w W g v) (x : UInt64) : Rh w (W.setCell ⟨g, 2, none⟩ (.int .u64 (x.toNat : Int))) g ⟨v.a, v.b, x, v.d⟩ :=
  ⟨j.q.s2 x, j.b.setCell (Nat.le_refl _) _⟩
theorem Rh.s3 {w W : World} {g : Nat} {v : Q4} (j : Rh w W g v) (x : UInt64) : Rh w (W.setCell ⟨g, 3, none⟩ (.int .u64 (x.toNat : Int))) g ⟨v.a, v.b, v.c, x⟩ :=
  ⟨j.q.s3 x, j.b.setCell (Nat.le_refl _) _⟩
theorem rhash_any (k0 k1 : UInt64) (q : ByteArray) (hq : q.size < 9223372036854775000) (w : World) : Calls Tryd.prog 25 #[.int .u64 (k0.toNat : Int), .int .u64 (k1.toNat : Int), .string q] w fun e w' => e = .returned (.int .u64 ((refM k0 k1 q.data.toList).toNat : Int)) ∧ Below w.heap.size w w' := by
  have HA := hide (heap_alloc_last w (.cells (qc (begin4 k0 k1).list) 78))
  have HB := hide ((Below.refl w.heap.size w).alloc (Nat.le_refl _) (.cells (qc (begin4 k0 k1).list) 78))
  go_enter Tryd.func25, Tryd.ntmps25
  go_wp2_with (first | refine wpList_build4 rfl _ _ _ _ rfl (begin4 k0 k1).a (begin4 k0 k1).b (begin4 k0 k1).c (begin4 k0 k1).d _ _ _ _ rfl rfl rfl rfl (kc0 k0) (kc1 k1) (kc2 k0) (kc3 k1) ?_ | refine wpList_allocA A4 rfl rfl ?_ | refine wpList_store_newA A4 rfl _ _ rfl _ rfl (qc (begin4 k0 k1).list) rfl (qc_one _) rfl rfl ?_)
  generalize w.alloc (.cells (qc (begin4 k0 k1).list) 78) = W0 at *
  go_loopw [8] (fun c wr => ∃ z : Nat, z ≤ 7 - q.size % 8 ∧ c = .string (withZ q z) ∧ wr = W0) (fun c _ => (q.size + 7 - q.size % 8) - lenS c)
  case atStart => exact ⟨0, by omega, by rw [withZ_zero], rfl⟩
  case round =>
    obtain ⟨z, hz, rfl, rfl⟩ := hrel
    have hsz := withZ_size q z
    by_cases hlt : z < 7 - q.size % 8
    · have t1 : (((q.size : Int) + (z : Int)) % 8 != 7) = true := by simp; omega
      have hnx := hide (withZ_next q z)
      go_wp2
      refine ⟨⟨z + 1, by omega, by rw [hnx.out], trivial⟩, ?_⟩
      simp only [lenS, hnx.out, withZ_size]
      omega
    · have hz' : z = 7 - q.size % 8 := by omega
      subst hz'
      have t1 : (((q.size : Int) + ((7 - q.size % 8 : Nat) : Int)) % 8 != 7) = false := by simp; omega
      have hcv := conv_one wr ((q.size : Int) % 256) (UInt8.ofNat q.size) (by rw [UInt8.toNat_ofNat']; simp)
      have HP := hide (withZ_pad q (UInt8.ofNat q.size) rfl)
      have J0 : Hid (Rh w (wr.alloc (.cells #[.int .u8 ((q.size : Int) % 256)] 5)) w.heap.size (begin4 k0 k1)) := Rh.next (W := wr) ⟨Qd.of_heap HA.out, HB.out⟩ ((Below.refl _ _).alloc (Nat.le_refl _) _)
      generalize hX : withZ q (7 - q.size % 8) ++ (⟨#[UInt8.ofNat q.size]⟩ : ByteArray) = X at *
      have hXl : X.size = 8 * (q.size / 8 + 1) := by
        have e1 := congrArg List.length HP.out
        rw [padS_len] at e1
        simpa using e1
      have HX := hide hX
      clear HA HB hX
      go_wp2
      rw [HX.out]
      clear HX hcv t1
      generalize wr.alloc (.cells #[.int .u8 ((q.size : Int) % 256)] 5) = W1 at *
      generalize hV : begin4 k0 k1 = v0 at *
      have HV := hide hV
      clear hV
      go_loopw [9, 10] (fun c _ wr => ∃ k : Nat, k ≤ q.size / 8 + 1 ∧ c = .int .i64 (8 * (k : Int)) ∧ Hid (Rh w wr w.heap.size (vN v0 X.data.toList k))) (fun c _ _ => (X.size - intOf c).toNat)
      case atStart => exact ⟨0, by omega, rfl, J0⟩
      case round =>
        clear J0
        obtain ⟨k, hk, rfl, J⟩ := hrel
        by_cases hlt : k < q.size / 8 + 1
        · have hlt' : 8 * (k : Int) < X.size := by omega
          have b0 : (0 : Int) ≤ 8 * (k : Int) := by omega
          have b1 : 8 * (k : Int) + 8 ≤ X.size := by omega
          have b2 : 8 * (k : Int) ≤ 8 * (k : Int) + 8 := by omega
          have e1 : (8 * (k : Int)).toNat = 8 * k := by omega
          have e2 : (8 * (k : Int) + 8).toNat = 8 * k + 8 := by omega
          have q8 : IntKind.i64.wrap (8 * (k : Int) + 8) = 8 * (k : Int) + 8 := wrapI _ (by omega) (by omega)
          have hcz : (X.extract (8 * k) (8 * k + 8)).size ≤ 8 := by rw [ByteArray.size_extract]; omega
          have HG := hide fun W => get_any (X.extract (8 * k) (8 * k + 8)) hcz W
          rw [ext_chunk] at HG
          have hle := leN_lt (chunk X.data.toList k)
          have hcl : (chunk X.data.toList k).length ≤ 8 := by unfold chunk; rw [List.length_take]; omega
          have hp := pow8 _ hcl
          have hm : (leN (chunk X.data.toList k) : Int) = ((UInt64.ofNat (leN (chunk X.data.toList k))).toNat : Int) := by
            rw [UInt64.toNat_ofNat', Nat.mod_eq_of_lt (by omega)]
          rw [hm] at HG
          have HE : Hid (vN v0 X.data.toList (k + 1) = (vN v0 X.data.toList k).mix (UInt64.ofNat (leN (chunk X.data.toList k)))) := rfl
          clear hm hle hcl hp
          generalize UInt64.ofNat (leN (chunk X.data.toList k)) = m at *
          generalize vN v0 X.data.toList k = v at *
          have c3 := J.out.q.c3
          have f3 := J.out.q.fz 3
          go_upto_region 11 with (go_at_call 12; refine (HG.out _).mono ?_; rintro e w3 ⟨rfl, hw3⟩; subst w3)
          simp only [xorQ]
          have J1 := hide (J.out.s3 (v.d ^^^ m))
          generalize wr.setCell ⟨w.heap.size, 3, none⟩ (.int .u64 ((v.d ^^^ m).toNat : Int)) = W2 at *
          clear c3 f3 J HG
          have H1 := hide fun u W => rround_any u W
          have HU : Hid (v.mix m = ⟨(Q4.round (Q4.round ⟨v.a, v.b, v.c, v.d ^^^ m⟩)).a ^^^ m, (Q4.round (Q4.round ⟨v.a, v.b, v.c, v.d ^^^ m⟩)).b, (Q4.round (Q4.round ⟨v.a, v.b, v.c, v.d ^^^ m⟩)).c, (Q4.round (Q4.round ⟨v.a, v.b, v.c, v.d ^^^ m⟩)).d⟩) := rfl
          generalize (⟨v.a, v.b, v.c, v.d ^^^ m⟩ : Q4) = u0 at *
          have HQ := hide J1.out.q.heap
          have Ha := hide fun W => rround_any u0 W
          have Hb := hide fun W => rround_any u0.round W
          generalize u0.round = u1 at *
          generalize u1.round = u2 at *
          go_upto_region 12 with (first | refine wpList_loadA A4 rfl _ rfl _ rfl (qc u0.list) rfl 78 HQ.out ?_ | (go_at_call_of 37 (Value.agg (qc u0.list)); refine (Ha.out _).mono ?_; rintro e w5 ⟨rfl, b5⟩; have J2 := hide (J1.out.next b5); clear b5) | (go_at_call_of 37 (Value.agg (qc u1.list)); refine (Hb.out _).mono ?_; rintro e w6 ⟨rfl, b6⟩; have J3 := hide (J2.out.next b6); have HQ3 := hide J3.out.q.heap; clear b6) | refine wpList_storeA A4 rfl _ _ rfl _ (qc u2.list) rfl (qc_one _) rfl rfl (qc u0.list) rfl 78 HQ3.out ?_)
          have J4 := hide (J3.out.row u2)
          generalize w6.setRow w.heap.size (qc u2.list) = W4 at *
          clear J1 J2 J3 HQ HQ3 Ha Hb
          have c0 := J4.out.q.c0
          have f0 := J4.out.q.fz 0
          have hx := hide (xorQ u2.a m)
          go_wp2
          rw [hx.out]
          exact ⟨⟨k + 1, by omega, by congr 1, by rw [HE.out, HU.out]; exact hide (J4.out.s0 (u2.a ^^^ m))⟩, by simp [intOf]; omega⟩
        · have hk' : k = q.size / 8 + 1 := by omega
          subst hk'
          have hlt' : ¬ 8 * ((q.size / 8 + 1 : Nat) : Int) < X.size := by omega
          have HR : Hid (refM k0 k1 q.data.toList = (vN v0 X.data.toList (q.size / 8 + 1)).fin) := by
            unfold Hid refM
            rw [HV.out, HP.out]
            simp
          generalize vN v0 X.data.toList (q.size / 8 + 1) = v at *
          have c2 := J.out.q.c2
          have f2 := J.out.q.fz 2
          go_upto_region 14 with fail
          have hx := xor_c v.c 255 (by decide)
          rw [show ((255 : Nat) : Int) = 255 from rfl] at hx
          rw [hx]
          have J1 := hide (J.out.s2 (v.c ^^^ UInt64.ofNat 255))
          generalize wr.setCell ⟨w.heap.size, 2, none⟩ (.int .u64 ((v.c ^^^ UInt64.ofNat 255).toNat : Int)) = W2 at *
          have HF : Hid (v.fin = (Q4.round (Q4.round (Q4.round (Q4.round ⟨v.a, v.b, v.c ^^^ UInt64.ofNat 255, v.d⟩)))).a ^^^ (Q4.round (Q4.round (Q4.round (Q4.round ⟨v.a, v.b, v.c ^^^ UInt64.ofNat 255, v.d⟩)))).b ^^^ (Q4.round (Q4.round (Q4.round (Q4.round ⟨v.a, v.b, v.c ^^^ UInt64.ofNat 255, v.d⟩)))).c ^^^ (Q4.round (Q4.round (Q4.round (Q4.round ⟨v.a, v.b, v.c ^^^ UInt64.ofNat 255, v.d⟩)))).d) := rfl
          generalize (⟨v.a, v.b, v.c ^^^ UInt64.ofNat 255, v.d⟩ : Q4) = u0 at *
          clear c2 f2 J hx hlt'
          have HQ := hide J1.out.q.heap
          have Ha := hide fun W => rround_any u0 W
          have Hb := hide fun W => rround_any u0.round W
          have Hc := hide fun W => rround_any u0.round.round W
          have Hd := hide fun W => rround_any u0.round.round.round W
          generalize u0.round = u1 at *
          generalize u1.round = u2 at *
          generalize u2.round = u3 at *
          generalize u3.round = u4 at *
          go_upto_region 15 with (first | refine wpList_loadA A4 rfl _ rfl _ rfl (qc u0.list) rfl 78 HQ.out ?_ | (go_at_call_of 37 (Value.agg (qc u0.list)); refine (Ha.out _).mono ?_; rintro e w5 ⟨rfl, b5⟩; have J2 := hide (J1.out.next b5); clear b5) | (go_at_call_of 37 (Value.agg (qc u1.list)); refine (Hb.out _).mono ?_; rintro e w6 ⟨rfl, b6⟩; have J3 := hide (J2.out.next b6); clear b6) | (go_at_call_of 37 (Value.agg (qc u2.list)); refine (Hc.out _).mono ?_; rintro e w7 ⟨rfl, b7⟩; have J4 := hide (J3.out.next b7); clear b7) | (go_at_call_of 37 (Value.agg (qc u3.list)); refine (Hd.out _).mono ?_; rintro e w8 ⟨rfl, b8⟩; have J5 := hide (J4.out.next b8); have HQ5 := hide J5.out.q.heap; clear b8) | refine wpList_storeA A4 rfl _ _ rfl _ (qc u4.list) rfl (qc_one _) rfl rfl (qc u0.list) rfl 78 HQ5.out ?_)
          have J6 := hide (J5.out.row u4)
          generalize w8.setRow w.heap.size (qc u4.list) = W4 at *
          clear J1 J2 J3 J4 J5 HQ HQ5 Ha Hb Hc Hd
          have c0 := J6.out.q.c0
          have c1 := J6.out.q.c1
          have c2 := J6.out.q.c2
          have c3 := J6.out.q.c3
          go_wp2
          go_ret
          refine ⟨?_, J6.out.b⟩
          simp only [xorQ]
          rw [HR.out, HF.out]
          rfl
end
end Go.Proofs.YtpjpnkohagcegaaDoor
