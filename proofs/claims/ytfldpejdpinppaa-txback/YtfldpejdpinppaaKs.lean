/- The walk of TxBack. -/
import Derived.Test.YtfldpejdpinppaaKr
import Derived.Test.YtfldpejdpinppaaKq
namespace Go.Proofs.Ytfldpejdpinppaa
open Go.RowKit
open Go.Deep
set_option linter.unusedVariables false
theorem Tm.ok_fit {m : Tm} (h : m.ok) : m.fit := ⟨by have := h.1.1; omega, by have := h.2.1; omega⟩
theorem Tm.ok_told {m : Tm} (h : m.ok) (hl : m.bytes.length ≤ 4096) : m.toldE = 0 := by
  have h1 : m.ins.any longI = false := by
    rw [List.any_eq_false]
    intro x hx
    have : x.key.size ≤ 520 := h.1.2 x hx
    simp only [longI, decide_eq_true_eq]
    omega
  have h2 : m.outs.any longO = false := by
    rw [List.any_eq_false]
    intro x hx
    have : x.lock.size ≤ 520 := h.2.2 x hx
    simp only [longO, decide_eq_true_eq]
    omega
  rw [Tm.toldE, h1, h2, if_neg (by decide), if_neg (by decide), if_neg (by omega)]
theorem insL_ge (L : List Ti) : L.length ≤ (insL L).length := by
  induction L with
  | nil => simp
  | cons x r ih =>
    have h2 := x.bytes_len
    have h3 := clong_pos x.key.size
    have h5 : insL (x :: r) = x.bytes ++ insL r := by simp [insL]
    rw [h5, List.length_append, List.length_cons]
    omega
theorem outsL_ge (L : List Tu) : L.length ≤ (outsL L).length := by
  induction L with
  | nil => simp
  | cons x r ih =>
    have h2 := x.bytes_len
    have h3 := clong_pos x.lock.size
    have h5 : outsL (x :: r) = x.bytes ++ outsL r := by simp [outsL]
    rw [h5, List.length_append, List.length_cons]
    omega
theorem Tm.told_ok {m : Tm} (h : m.toldE = 0) : m.ok := by
  obtain ⟨h1, h2, h3⟩ := m.told0 h
  have h4 := m.bytes_len
  have h5 := insL_ge m.ins
  have h6 := outsL_ge m.outs
  have h7 := clong_pos m.ins.length
  have h8 := clong_pos m.outs.length
  refine ⟨⟨by omega, fun x hx => ?_⟩, ⟨by omega, fun x hx => ?_⟩⟩
  · rw [List.any_eq_false] at h1
    have := h1 x hx
    simp only [longI, decide_eq_true_eq] at this
    show x.key.size ≤ 520
    omega
  · rw [List.any_eq_false] at h2
    have := h2 x hx
    simp only [longO, decide_eq_true_eq] at this
    show x.lock.size ≤ 520
    omega
section
set_option maxRecDepth 10000
set_option maxHeartbeats 4000000
theorem take_told (m : Tm) (ht : m.toldE = 0) (x s : ByteArray) (hx : x.size ≤ 140737488351232) (hs : s.size ≤ 140737488351232) (W : World) : Calls Try.prog 7 #[.string (x ++ txt m.bytes ++ s), .int .i64 (x.size : Int)] W fun r w' => ∃ (ai : Option Addr) (ci : Nat) (ao : Option Addr) (co : Nat), r = .returned (.tuple #[.agg (m.cells ai ci ao co), .int .i64 ((x.size + (txt m.bytes).size : Nat) : Int), .int .i64 0]) ∧ LO W w' m ai ci ao co ∧ Below W.heap.size W w' := by
  obtain ⟨_, _, h4⟩ := m.told0 ht
  have hz : (x ++ txt m.bytes ++ s).size = x.size + m.bytes.length + s.size := by simp [txt_sz, Nat.add_assoc]
  have hd : ((x ++ txt m.bytes ++ s).extract x.size (x ++ txt m.bytes ++ s).size).data.toList = m.bytes ++ s.data.toList := by
    rw [ext_list]
    simp [txt]
  refine (take_any (x ++ txt m.bytes ++ s) x.size W (by rw [hz]; unfold maxLen; omega) (by omega)).mono ?_
  rintro r w' ⟨y, ai, ci, ao, co, n', e', h1, h2, h3⟩
  obtain ⟨q1, rfl, q3⟩ := h2.full m s.data.toList rfl (Tm.told_ok ht) (by rw [List.drop_zero, hd]) (by omega)
  rcases h3 with ⟨_, rfl, h5, _⟩ | ⟨h5, _⟩
  · exact ⟨ai, ci, ao, co, by rw [q3, txt_sz, Nat.zero_add], h5, h1⟩
  · exact absurd q1 h5
theorem decode_told (s : ByteArray) (hs : s.size ≤ 140737488351232) (W : World) : Calls Try.prog 12 #[.string s] W fun r w' => ∃ (C : Array Value) (e2 : Int), r = .returned (.tuple #[.agg C, .int .i64 e2]) ∧ (C.size = 4 ∧ C.all (·.oneCell') = true) ∧ Below W.heap.size W w' ∧ (e2 = 0 → ∃ (y : Tm) (ai : Option Addr) (ci : Nat) (ao : Option Addr) (co : Nat), C = y.cells ai ci ao co ∧ LO W w' y ai ci ao co ∧ y.fit ∧ y.toldE = 0 ∧ txt y.bytes = s ∧ ∀ m : Tm, m.toldE = 0 → txt m.bytes = s → m = y) := by
  have hl : s.data.toList.length = s.size := by simp
  refine (decode_any s W (by unfold maxLen; omega)).mono ?_
  rintro r w' ⟨y, ai, ci, ao, co, n', e', h1, h2, ⟨rfl, rfl, rfl, h4, h5⟩ | ⟨h3, e2, h4, rfl⟩⟩
  · refine ⟨_, _, rfl, ⟨rfl, y.one _ _ _ _⟩, h1, fun _ => ?_⟩
    obtain ⟨_, g2, _, g4⟩ := h2.sound rfl
    rw [List.drop_zero, List.drop_of_length_le (by omega), List.append_nil] at g2
    have g5 : txt y.bytes = s := by rw [← g2]; rfl
    refine ⟨y, ai, ci, ao, co, rfl, h4, Tm.ok_fit h5, Tm.ok_told h5 (by rw [← g2]; omega), g5, fun m hm hb => ?_⟩
    have hb2 : m.bytes = s.data.toList := by rw [← hb, txt_list]
    obtain ⟨_, q2, _⟩ := h2.full m [] rfl (Tm.told_ok hm) (by rw [List.drop_zero, hb2, List.append_nil]) (by have := (m.told0 hm).2.2; omega)
    exact q2.symm
  · exact ⟨_, _, rfl, ⟨rfl, zT.one _ _ _ _⟩, h1, fun q => absurd q h4⟩
theorem txBack_walk (w : World) (m : Tm) (ai : Option Addr) (ci : Nat) (ao : Option Addr) (co : Nat) (hm : LT w m ai ci ao co) (hf : m.fit) (x : ByteArray) (hx : x.size ≤ 140737488351232) (s : ByteArray) (hs : s.size ≤ 140737488351232) : Calls Try.prog 6 #[.agg (m.cells ai ci ao co), .string x, .string s] w fun r w' => r = .returned (.bool true) ∧ Below w.heap.size w w' := by
  have r1 := heap_alloc_last w (.cells (m.cells ai ci ao co) 26)
  have b1 : Below w.heap.size w (w.alloc (.cells (m.cells ai ci ao co) 26)) := (Below.refl _ _).alloc (Nat.le_refl _) _
  have L1 := hide (hm.below b1)
  have B1 := hide b1
  have R1 := hide r1
  have HF := hide hf
  have XS := hide (And.intro hx hs)
  have HD := hide (fun W => decode_told s hs W)
  have HCs : Hid ((m.cells ai ci ao co).size = 4) := rfl
  have HS : Hid (∀ W, LT W m ai ci ao co → Calls Try.prog 24 #[.agg (m.cells ai ci ao co)] W fun r w' => r = .returned (.tuple #[.string m.encT, .int .i64 m.toldE]) ∧ Below W.heap.size W w') := fun W h => encode_any m ai ci ao co W h hf
  have HY : Hid (∀ W (y : Tm) (bi : Option Addr) (di : Nat) (bo : Option Addr) (d0 : Nat), y.fit → LT W y bi di bo d0 → LT W m ai ci ao co → Calls Try.prog 21 #[.agg (y.cells bi di bo d0), .agg (m.cells ai ci ao co)] W fun r w' => r = .returned (.bool (decide (y = m))) ∧ Below W.heap.size W w') := fun W y bi di bo d0 h1 h2 h3 => same_any y m bi di bo d0 ai ci ao co W h2 h3 h1
  clear r1 b1 hm hf hx hs
  generalize m.cells ai ci ao co = CM at *
  go_enter Try.func6, Try.ntmps6
  go_upto_region 1 with ((with_reducible refine at_list ?_); refine wpList_boxA rfl _ rfl CM rfl ?_)
  generalize w.alloc (.cells CM 26) = W0 at *
  go_upto_region 3 with (go_at_call 9; refine (awake10 _).mono ?_; rintro r W1 ⟨rfl, b1⟩; have B2 := hide b1; clear b1)
  have L2 := hide (L1.out.below B2.out)
  have R2 := hide ((B2.out.block _ (lt_heap R1.out)).trans R1.out)
  have B3 := hide (below_next B1.out B2.out)
  clear L1 R1 B1 B2
  go_upto_region 4 with (first | (go_at_call 24; refine (HS.out _ L2.out).mono ?_; rintro r W2 ⟨rfl, b1⟩; have B4 := hide b1; clear b1) | ((with_reducible refine at_list ?_); refine wpList_loadS AT _ rfl w.heap.size rfl CM HCs.out 26 R2.out (by rfl) ?_))
  have L3 := hide (L2.out.below B4.out)
  have R3 := hide ((B4.out.block _ (lt_heap R2.out)).trans R2.out)
  have B5 := hide (below_next B3.out B4.out)
  clear L2 R2 B3 B4 HS
  by_cases h0 : m.toldE = 0
  · have HT := hide (fun W => take_told m h0 x s XS.out.1 XS.out.2 W)
    have ET : m.encT = txt m.bytes := by rw [Tm.encT, if_pos h0]
    have T0 := hide h0
    have e9 : IntKind.i64.wrap ((x.size : Int) + ((txt m.bytes).size : Int)) = ((x.size + (txt m.bytes).size : Nat) : Int) := by
      have h1 := (m.told0 h0).2.2
      have h2 := XS.out.1
      rw [txt_sz, wrapI _ (by omega) (by omega)]
      omega
    have z1 : ¬ 9223372036854775807 < x.size + (txt m.bytes).size := by
      have h1 := (m.told0 h0).2.2
      have h2 := XS.out.1
      rw [txt_sz]
      omega
    have z2 : ¬ 9223372036854775807 < x.size + (txt m.bytes).size + s.size := by
      have h1 := (m.told0 h0).2.2
      have h2 := XS.out
      rw [txt_sz]
      omega
    rw [ET, h0]
    have TB := hide (rfl : txt m.bytes = txt m.bytes)
    clear ET h0
    obtain ⟨tb, htb⟩ : ∃ t, t = txt m.bytes := ⟨_, rfl⟩
    have TBE := hide htb
    rw [← htb] at HT e9 z1 z2 ⊢
    clear htb TB
    go_upto_region 6 with (first | (go_at_call 7; refine (HT.out _).mono ?_; rintro r W3 ⟨bi, di, bo, d0, rfl, lo, b1⟩; have B6 := hide b1; have L6 := hide lo; clear b1 lo) | ((with_reducible refine at_list ?_); first | refine wpList_allocA AT rfl rfl ?_ | refine wpList_store_newA AT rfl _ _ rfl _ rfl (m.cells bi di bo d0) rfl (m.one _ _ _ _) rfl rfl ?_))
    have ba := (Below.refl W3.heap.size W3).alloc (Nat.le_refl _) (.cells (m.cells bi di bo d0) 26)
    have G6 := hide (heap_alloc_last W3 (.cells (m.cells bi di bo d0) 26))
    have R6 := hide ((ba.block _ (Nat.lt_of_lt_of_le (lt_heap R3.out) B6.out.size)).trans ((B6.out.block _ (lt_heap R3.out)).trans R3.out))
    have B7a := hide (below_next B5.out (below_next B6.out ba))
    have LA := hide (L6.out.lt.below ba)
    have LB := hide (L3.out.below (below_next B6.out ba))
    clear ba L6 L3 R3 B5 B6 z1 z2
    generalize W3.alloc (.cells (m.cells bi di bo d0) 26) = W4 at *
    generalize W3.heap.size = g9 at *
    have HQ1 : Hid (Calls Try.prog 21 #[.agg (m.cells bi di bo d0), .agg CM] W4 fun r w' => r = .returned (.bool true) ∧ Below W4.heap.size W4 w') := by
      have h := HY.out W4 m bi di bo d0 HF.out LA.out LB.out
      rw [decide_eq_true rfl] at h
      exact h
    have HCm : Hid ((m.cells bi di bo d0).size = 4) := rfl
    generalize m.cells bi di bo d0 = CX at *
    go_upto_region 8 with (first | (go_at_call 21; refine HQ1.out.mono ?_; rintro r W5 ⟨rfl, b1⟩; have B7b := hide b1; clear b1) | ((with_reducible refine at_list ?_); first | refine wpList_loadS AT _ rfl g9 rfl CX HCm.out 26 G6.out (by rfl) ?_ | refine wpList_loadS AT _ rfl w.heap.size rfl CM HCs.out 26 R6.out (by rfl) ?_))
    have R7 := hide ((B7b.out.block _ (lt_heap R6.out)).trans R6.out)
    have L7 := hide (LB.out.below B7b.out)
    have B7 := hide (below_next B7a.out B7b.out)
    clear R6 LB LA G6 B7a B7b HQ1 e9 HT HCm
    go_upto_region 9 with (first | (go_at_call 12; refine (HD.out _).mono ?_; rintro r W6 ⟨C, e2, rfl, ⟨hC, hC1⟩, b1, hx⟩; have CZ := hide hC; have C1 := hide hC1; have B8 := hide b1; have HX := hide hx; clear hC hC1 b1 hx) | ((with_reducible refine at_list ?_); first | refine wpList_allocA AT rfl rfl ?_ | refine wpList_store_newA AT rfl _ _ rfl _ rfl C CZ.out C1.out rfl rfl ?_))
    have ba2 := (Below.refl W6.heap.size W6).alloc (Nat.le_refl _) (.cells C 26)
    have G8 := hide (heap_alloc_last W6 (.cells C 26))
    have R8 := hide ((ba2.block _ (Nat.lt_of_lt_of_le (lt_heap R7.out) B8.out.size)).trans ((B8.out.block _ (lt_heap R7.out)).trans R7.out))
    have B9 := hide (below_next B7.out (below_next B8.out ba2))
    have L8 := hide (L7.out.below (below_next B8.out ba2))
    have HX2 : Hid (e2 = 0 → ∃ (y : Tm) (bi : Option Addr) (di : Nat) (bo : Option Addr) (d0 : Nat), C = y.cells bi di bo d0 ∧ LT (W6.alloc (.cells C 26)) y bi di bo d0 ∧ y.fit ∧ y.toldE = 0 ∧ txt y.bytes = s ∧ ∀ m : Tm, m.toldE = 0 → txt m.bytes = s → m = y) := fun q => by
      obtain ⟨y, bi, di, bo, d0, h1, h2, h3⟩ := HX.out q
      exact ⟨y, bi, di, bo, d0, h1, h2.lt.below ba2, h3⟩
    clear ba2 HX HD R7 B7 L7 B8
    generalize W6.alloc (.cells C 26) = W7 at *
    generalize W6.heap.size = g12 at *
    by_cases he : e2 = 0
    · subst he
      obtain ⟨y, bi, di, bo, d0, rfl, ly, fy, ty, sy, iy⟩ := HX2.out rfl
      have HE2 : Hid (Calls Try.prog 24 #[.agg (y.cells bi di bo d0)] W7 fun r w' => r = .returned (.tuple #[.string s, .int .i64 0]) ∧ Below W7.heap.size W7 w') := by
        have := encode_any y bi di bo d0 W7 ly fy
        rw [Tm.encT, if_pos ty, ty, sy] at this
        exact this
      have FY := hide fy
      have LY := hide ly
      have IY := hide (And.intro sy iy)
      have hss : (s.toList == s.toList) = true := by simp
      have HCy : Hid ((y.cells bi di bo d0).size = 4) := rfl
      clear HX2 ly fy ty sy iy
      have HY2 := hide (fun W h1 h2 => HY.out W y bi di bo d0 FY.out h1 h2)
      generalize y.cells bi di bo d0 = CY at *
      go_upto_region 12 with (first | (go_at_call 24; refine HE2.out.mono ?_; rintro r W8 ⟨rfl, b1⟩; have B10 := hide b1; clear b1) | ((with_reducible refine at_list ?_); refine wpList_loadS AT _ rfl g12 rfl CY HCy.out 26 G8.out (by rfl) ?_))
      have R9 := hide ((B10.out.block _ (lt_heap R8.out)).trans R8.out)
      have G9 := hide ((B10.out.block _ (lt_heap G8.out)).trans G8.out)
      have B11 := hide (below_next B9.out B10.out)
      have LY2 := hide (LY.out.below B10.out)
      have LM2 := hide (L8.out.below B10.out)
      clear R8 G8 B9 LY L8 B10 HE2
      have HQ : Hid (Calls Try.prog 21 #[.agg CY, .agg CM] W8 fun r w' => r = .returned (.bool (tb.toList == s.toList)) ∧ Below W8.heap.size W8 w') := by
        have h := HY2.out W8 LY2.out LM2.out
        have hq : decide (y = m) = (tb.toList == s.toList) := by
          rw [bytes_same, TBE.out, decide_eq_decide]
          exact ⟨fun q => by rw [← q]; exact IY.out.1, fun q => (IY.out.2 m T0.out q).symm⟩
        rw [hq] at h
        exact h
      clear HY HY2 IY
      generalize hqq : (tb.toList == s.toList) = qq at *
      go_wp2_with (first | (go_at_call 21; refine HQ.out.mono ?_; rintro r W9 ⟨rfl, b1⟩; have B12 := hide (below_next B11.out b1); clear b1) | ((with_reducible refine at_list ?_); first | refine wpList_loadS AT _ rfl g12 rfl CY HCy.out 26 G9.out (by rfl) ?_ | refine wpList_loadS AT _ rfl w.heap.size rfl CM HCs.out 26 R9.out (by rfl) ?_))
      go_ret
      exact ⟨by cases qq <;> rfl, B12.out⟩
    · have hne : (e2 != 0) = true := by simp [he]
      clear he HX2
      go_wp2
      go_ret
      exact ⟨rfl, B9.out⟩
  · have te1 : (m.toldE == 0) = false := by simp [h0]
    have te2 : (m.toldE != 0) = true := by simp [h0]
    generalize m.toldE = te at *
    generalize m.encT = tb at *
    go_upto_region 8 with fail
    have R7 := R3
    have L7 := L3
    have B7 := B5
    clear R3 L3 B5 te1 h0
    go_upto_region 9 with (first | (go_at_call 12; refine (HD.out _).mono ?_; rintro r W6 ⟨C, e2, rfl, ⟨hC, hC1⟩, b1, hx⟩; have CZ := hide hC; have C1 := hide hC1; have B8 := hide b1; have HX := hide hx; clear hC hC1 b1 hx) | ((with_reducible refine at_list ?_); first | refine wpList_allocA AT rfl rfl ?_ | refine wpList_store_newA AT rfl _ _ rfl _ rfl C CZ.out C1.out rfl rfl ?_))
    have ba2 := (Below.refl W6.heap.size W6).alloc (Nat.le_refl _) (.cells C 26)
    have G8 := hide (heap_alloc_last W6 (.cells C 26))
    have R8 := hide ((ba2.block _ (Nat.lt_of_lt_of_le (lt_heap R7.out) B8.out.size)).trans ((B8.out.block _ (lt_heap R7.out)).trans R7.out))
    have B9 := hide (below_next B7.out (below_next B8.out ba2))
    have L8 := hide (L7.out.below (below_next B8.out ba2))
    have HX2 : Hid (e2 = 0 → ∃ (y : Tm) (bi : Option Addr) (di : Nat) (bo : Option Addr) (d0 : Nat), C = y.cells bi di bo d0 ∧ LT (W6.alloc (.cells C 26)) y bi di bo d0 ∧ y.fit ∧ y.toldE = 0 ∧ txt y.bytes = s ∧ ∀ m : Tm, m.toldE = 0 → txt m.bytes = s → m = y) := fun q => by
      obtain ⟨y, bi, di, bo, d0, h1, h2, h3⟩ := HX.out q
      exact ⟨y, bi, di, bo, d0, h1, h2.lt.below ba2, h3⟩
    clear ba2 HX HD R7 B7 L7 B8
    generalize W6.alloc (.cells C 26) = W7 at *
    generalize W6.heap.size = g12 at *
    by_cases he : e2 = 0
    · subst he
      obtain ⟨y, bi, di, bo, d0, rfl, ly, fy, ty, sy, iy⟩ := HX2.out rfl
      have HE2 : Hid (Calls Try.prog 24 #[.agg (y.cells bi di bo d0)] W7 fun r w' => r = .returned (.tuple #[.string s, .int .i64 0]) ∧ Below W7.heap.size W7 w') := by
        have := encode_any y bi di bo d0 W7 ly fy
        rw [Tm.encT, if_pos ty, ty, sy] at this
        exact this
      have FY := hide fy
      have LY := hide ly
      have IY := hide (And.intro sy iy)
      have hss : (s.toList == s.toList) = true := by simp
      have HCy : Hid ((y.cells bi di bo d0).size = 4) := rfl
      clear HX2 ly fy ty sy iy
      have HY2 := hide (fun W h1 h2 => HY.out W y bi di bo d0 FY.out h1 h2)
      generalize y.cells bi di bo d0 = CY at *
      go_upto_region 12 with (first | (go_at_call 24; refine HE2.out.mono ?_; rintro r W8 ⟨rfl, b1⟩; have B10 := hide b1; clear b1) | ((with_reducible refine at_list ?_); refine wpList_loadS AT _ rfl g12 rfl CY HCy.out 26 G8.out (by rfl) ?_))
      have R9 := hide ((B10.out.block _ (lt_heap R8.out)).trans R8.out)
      have G9 := hide ((B10.out.block _ (lt_heap G8.out)).trans G8.out)
      have B11 := hide (below_next B9.out B10.out)
      have LY2 := hide (LY.out.below B10.out)
      have LM2 := hide (L8.out.below B10.out)
      clear R8 G8 B9 LY L8 B10 HE2
      clear HY HY2 IY
      go_wp2
      go_ret
      exact ⟨rfl, B11.out⟩
    · have hne : (e2 != 0) = true := by simp [he]
      clear he HX2
      go_wp2
      go_ret
      exact ⟨rfl, B9.out⟩
end
end Go.Proofs.Ytfldpejdpinppaa
