/- What Encode asks of a message: hasMore, wellFormed, unnamed. -/
import Derived.Test.YtkoidjaaojmcnaaGreatM16
namespace Go.Proofs.YtkoidjaaojmcnaaGreat
open Go.RowKit
open Go.Deep
/-- Is there more than there may be? -/
def Mg.more (m : Mg) : Bool :=
  if m.kind = 1 then decide (64 < m.agent.size)
  else if m.kind = 7 then decide (100 < m.addrs.length)
  else if m.kind = 8 ∨ m.kind = 9 ∨ m.kind = 10 then decide (500 < m.items.length)
  else if m.kind = 11 then decide (64 < m.hashes.length)
  else if m.kind = 12 then decide (100 < m.heads.length)
  else if m.kind = 16 then decide (500 < m.shorts.length) || decide (500 < m.filled.length) || m.filled.any (fun x : Fd => decide (4096 < x.raw.size))
  else if m.kind = 17 then decide (500 < m.places.length)
  else if m.kind = 18 then decide (500 < m.raws.length) || m.raws.any (fun x : ByteArray => decide (4096 < x.size))
  else false
/-- Can what is there stand in bytes? -/
def Mg.form (m : Mg) : Bool :=
  if m.kind = 12 then !(m.heads.any (fun x : ByteArray => decide (x.size ≠ 80)))
  else if m.kind = 16 then decide (m.head.size = 80) && !(m.shorts.any (fun x : UInt64 => decide (281474976710655 < x.toNat))) && riseB (-1) (m.filled.map Fd.place)
  else if m.kind = 17 then riseB (-1) m.places
  else true
/-- A message without what its kind names. -/
def Mg.bareK (m : Mg) : Mg :=
  if m.kind = 1 then { m with vers := 0, serv := 0, time := 0, nonce := 0, dst := { zN with time := m.dst.time }, src := { zN with time := m.src.time }, agent := ByteArray.empty, height := 0, relay := false }
  else if m.kind = 5 ∨ m.kind = 6 then { m with nonce := 0 }
  else if m.kind = 7 then { m with addrs := [] }
  else if m.kind = 8 ∨ m.kind = 9 ∨ m.kind = 10 then { m with items := [] }
  else if m.kind = 11 then { m with vers := 0, hashes := [], stop := zI }
  else if m.kind = 12 then { m with heads := [] }
  else if m.kind = 13 ∨ m.kind = 14 then { m with raw := ByteArray.empty }
  else if m.kind = 15 then { m with high := false, nonce := 0 }
  else if m.kind = 16 then { m with head := ByteArray.empty, nonce := 0, shorts := [], filled := [] }
  else if m.kind = 17 then { m with hash := zI, places := [] }
  else if m.kind = 18 then { m with hash := zI, raws := [] }
  else m
section
set_option maxRecDepth 10000
set_option maxHeartbeats 4000000
theorem more_1 (m : Mg) (s : Vs) (w : World) (hk : m.kind = 1) : Calls Tryz.prog 14 #[.agg (m.cells s).toArray] w fun e w' => e = .returned (.bool (decide (64 < m.agent.size))) ∧ Below w.heap.size w w' := by
  have B1 := hide ((Below.refl w.heap.size w).alloc (Nat.le_refl _) (.cells (m.cells s).toArray 38))
  have MC := hide (Mc.of (m := m) (s := s) (heap_alloc_last w (.cells (m.cells s).toArray 38)))
  have c0 := MC.out.f0
  rw [hk] at c0
  have c1 := MC.out.f7
  clear hk MC
  by_cases h : 64 < m.agent.size
  · have h1 : (m.agent.size : Int) > 64 := by omega
    rw [decide_eq_true h]
    clear h
    go_enter Tryz.func14, Tryz.ntmps14
    go_wp2_with (with_reducible refine at_list ?_; refine wpList_boxA rfl _ rfl (m.cells s).toArray rfl ?_)
    go_ret
    exact ⟨rfl, B1.out⟩
  · have h1 : ¬ (m.agent.size : Int) > 64 := by omega
    rw [decide_eq_false h]
    clear h
    go_enter Tryz.func14, Tryz.ntmps14
    go_wp2_with (with_reducible refine at_list ?_; refine wpList_boxA rfl _ rfl (m.cells s).toArray rfl ?_)
    go_ret
    exact ⟨rfl, B1.out⟩
theorem more_7 (m : Mg) (s : Vs) (w : World) (hk : m.kind = 7) (hML : ML w s m) : Calls Tryz.prog 14 #[.agg (m.cells s).toArray] w fun e w' => e = .returned (.bool (decide (100 < m.addrs.length))) ∧ Below w.heap.size w w' := by
  have B1 := hide ((Below.refl w.heap.size w).alloc (Nat.le_refl _) (.cells (m.cells s).toArray 38))
  have MC := hide (Mc.of (m := m) (s := s) (heap_alloc_last w (.cells (m.cells s).toArray 38)))
  have c0 := MC.out.f0
  rw [hk] at c0
  obtain ⟨ao, ca, ea⟩ := hML.a.form
  have c1 := MC.out.f11
  rw [ea] at c1
  clear hk MC hML ea
  by_cases h : 100 < m.addrs.length
  · have h1 : (m.addrs.length : Int) > 100 := by omega
    rw [decide_eq_true h]
    clear h
    go_enter Tryz.func14, Tryz.ntmps14
    go_wp2_with (with_reducible refine at_list ?_; refine wpList_boxA rfl _ rfl (m.cells s).toArray rfl ?_)
    go_ret
    exact ⟨rfl, B1.out⟩
  · have h1 : ¬ (m.addrs.length : Int) > 100 := by omega
    rw [decide_eq_false h]
    clear h
    go_enter Tryz.func14, Tryz.ntmps14
    go_wp2_with (with_reducible refine at_list ?_; refine wpList_boxA rfl _ rfl (m.cells s).toArray rfl ?_)
    go_ret
    exact ⟨rfl, B1.out⟩
theorem more_8 (m : Mg) (s : Vs) (w : World) (hk : m.kind = 8) (hML : ML w s m) : Calls Tryz.prog 14 #[.agg (m.cells s).toArray] w fun e w' => e = .returned (.bool (decide (500 < m.items.length))) ∧ Below w.heap.size w w' := by
  have B1 := hide ((Below.refl w.heap.size w).alloc (Nat.le_refl _) (.cells (m.cells s).toArray 38))
  have MC := hide (Mc.of (m := m) (s := s) (heap_alloc_last w (.cells (m.cells s).toArray 38)))
  have c0 := MC.out.f0
  rw [hk] at c0
  obtain ⟨ao, ca, ea⟩ := hML.i.form
  have c1 := MC.out.f12
  rw [ea] at c1
  clear hk MC hML ea
  by_cases h : 500 < m.items.length
  · have h1 : (m.items.length : Int) > 500 := by omega
    rw [decide_eq_true h]
    clear h
    go_enter Tryz.func14, Tryz.ntmps14
    go_wp2_with (with_reducible refine at_list ?_; refine wpList_boxA rfl _ rfl (m.cells s).toArray rfl ?_)
    go_ret
    exact ⟨rfl, B1.out⟩
  · have h1 : ¬ (m.items.length : Int) > 500 := by omega
    rw [decide_eq_false h]
    clear h
    go_enter Tryz.func14, Tryz.ntmps14
    go_wp2_with (with_reducible refine at_list ?_; refine wpList_boxA rfl _ rfl (m.cells s).toArray rfl ?_)
    go_ret
    exact ⟨rfl, B1.out⟩
theorem more_9 (m : Mg) (s : Vs) (w : World) (hk : m.kind = 9) (hML : ML w s m) : Calls Tryz.prog 14 #[.agg (m.cells s).toArray] w fun e w' => e = .returned (.bool (decide (500 < m.items.length))) ∧ Below w.heap.size w w' := by
  have B1 := hide ((Below.refl w.heap.size w).alloc (Nat.le_refl _) (.cells (m.cells s).toArray 38))
  have MC := hide (Mc.of (m := m) (s := s) (heap_alloc_last w (.cells (m.cells s).toArray 38)))
  have c0 := MC.out.f0
  rw [hk] at c0
  obtain ⟨ao, ca, ea⟩ := hML.i.form
  have c1 := MC.out.f12
  rw [ea] at c1
  clear hk MC hML ea
  by_cases h : 500 < m.items.length
  · have h1 : (m.items.length : Int) > 500 := by omega
    rw [decide_eq_true h]
    clear h
    go_enter Tryz.func14, Tryz.ntmps14
    go_wp2_with (with_reducible refine at_list ?_; refine wpList_boxA rfl _ rfl (m.cells s).toArray rfl ?_)
    go_ret
    exact ⟨rfl, B1.out⟩
  · have h1 : ¬ (m.items.length : Int) > 500 := by omega
    rw [decide_eq_false h]
    clear h
    go_enter Tryz.func14, Tryz.ntmps14
    go_wp2_with (with_reducible refine at_list ?_; refine wpList_boxA rfl _ rfl (m.cells s).toArray rfl ?_)
    go_ret
    exact ⟨rfl, B1.out⟩
theorem more_10 (m : Mg) (s : Vs) (w : World) (hk : m.kind = 10) (hML : ML w s m) : Calls Tryz.prog 14 #[.agg (m.cells s).toArray] w fun e w' => e = .returned (.bool (decide (500 < m.items.length))) ∧ Below w.heap.size w w' := by
  have B1 := hide ((Below.refl w.heap.size w).alloc (Nat.le_refl _) (.cells (m.cells s).toArray 38))
  have MC := hide (Mc.of (m := m) (s := s) (heap_alloc_last w (.cells (m.cells s).toArray 38)))
  have c0 := MC.out.f0
  rw [hk] at c0
  obtain ⟨ao, ca, ea⟩ := hML.i.form
  have c1 := MC.out.f12
  rw [ea] at c1
  clear hk MC hML ea
  by_cases h : 500 < m.items.length
  · have h1 : (m.items.length : Int) > 500 := by omega
    rw [decide_eq_true h]
    clear h
    go_enter Tryz.func14, Tryz.ntmps14
    go_wp2_with (with_reducible refine at_list ?_; refine wpList_boxA rfl _ rfl (m.cells s).toArray rfl ?_)
    go_ret
    exact ⟨rfl, B1.out⟩
  · have h1 : ¬ (m.items.length : Int) > 500 := by omega
    rw [decide_eq_false h]
    clear h
    go_enter Tryz.func14, Tryz.ntmps14
    go_wp2_with (with_reducible refine at_list ?_; refine wpList_boxA rfl _ rfl (m.cells s).toArray rfl ?_)
    go_ret
    exact ⟨rfl, B1.out⟩
theorem more_11 (m : Mg) (s : Vs) (w : World) (hk : m.kind = 11) (hML : ML w s m) : Calls Tryz.prog 14 #[.agg (m.cells s).toArray] w fun e w' => e = .returned (.bool (decide (64 < m.hashes.length))) ∧ Below w.heap.size w w' := by
  have B1 := hide ((Below.refl w.heap.size w).alloc (Nat.le_refl _) (.cells (m.cells s).toArray 38))
  have MC := hide (Mc.of (m := m) (s := s) (heap_alloc_last w (.cells (m.cells s).toArray 38)))
  have c0 := MC.out.f0
  rw [hk] at c0
  obtain ⟨ao, ca, ea⟩ := hML.h.form
  have c1 := MC.out.f13
  rw [ea] at c1
  clear hk MC hML ea
  by_cases h : 64 < m.hashes.length
  · have h1 : (m.hashes.length : Int) > 64 := by omega
    rw [decide_eq_true h]
    clear h
    go_enter Tryz.func14, Tryz.ntmps14
    go_wp2_with (with_reducible refine at_list ?_; refine wpList_boxA rfl _ rfl (m.cells s).toArray rfl ?_)
    go_ret
    exact ⟨rfl, B1.out⟩
  · have h1 : ¬ (m.hashes.length : Int) > 64 := by omega
    rw [decide_eq_false h]
    clear h
    go_enter Tryz.func14, Tryz.ntmps14
    go_wp2_with (with_reducible refine at_list ?_; refine wpList_boxA rfl _ rfl (m.cells s).toArray rfl ?_)
    go_ret
    exact ⟨rfl, B1.out⟩
theorem more_12 (m : Mg) (s : Vs) (w : World) (hk : m.kind = 12) (hML : ML w s m) : Calls Tryz.prog 14 #[.agg (m.cells s).toArray] w fun e w' => e = .returned (.bool (decide (100 < m.heads.length))) ∧ Below w.heap.size w w' := by
  have B1 := hide ((Below.refl w.heap.size w).alloc (Nat.le_refl _) (.cells (m.cells s).toArray 38))
  have MC := hide (Mc.of (m := m) (s := s) (heap_alloc_last w (.cells (m.cells s).toArray 38)))
  have c0 := MC.out.f0
  rw [hk] at c0
  obtain ⟨ao, ca, ea⟩ := hML.hd.form
  have c1 := MC.out.f16
  rw [ea] at c1
  clear hk MC hML ea
  by_cases h : 100 < m.heads.length
  · have h1 : (m.heads.length : Int) > 100 := by omega
    rw [decide_eq_true h]
    clear h
    go_enter Tryz.func14, Tryz.ntmps14
    go_wp2_with (with_reducible refine at_list ?_; refine wpList_boxA rfl _ rfl (m.cells s).toArray rfl ?_)
    go_ret
    exact ⟨rfl, B1.out⟩
  · have h1 : ¬ (m.heads.length : Int) > 100 := by omega
    rw [decide_eq_false h]
    clear h
    go_enter Tryz.func14, Tryz.ntmps14
    go_wp2_with (with_reducible refine at_list ?_; refine wpList_boxA rfl _ rfl (m.cells s).toArray rfl ?_)
    go_ret
    exact ⟨rfl, B1.out⟩
theorem more_17 (m : Mg) (s : Vs) (w : World) (hk : m.kind = 17) (hML : ML w s m) : Calls Tryz.prog 14 #[.agg (m.cells s).toArray] w fun e w' => e = .returned (.bool (decide (500 < m.places.length))) ∧ Below w.heap.size w w' := by
  have B1 := hide ((Below.refl w.heap.size w).alloc (Nat.le_refl _) (.cells (m.cells s).toArray 38))
  have MC := hide (Mc.of (m := m) (s := s) (heap_alloc_last w (.cells (m.cells s).toArray 38)))
  have c0 := MC.out.f0
  rw [hk] at c0
  obtain ⟨ao, ca, ea⟩ := hML.p.form
  have c1 := MC.out.f21
  rw [ea] at c1
  clear hk MC hML ea
  by_cases h : 500 < m.places.length
  · have h1 : (m.places.length : Int) > 500 := by omega
    rw [decide_eq_true h]
    clear h
    go_enter Tryz.func14, Tryz.ntmps14
    go_wp2_with (with_reducible refine at_list ?_; refine wpList_boxA rfl _ rfl (m.cells s).toArray rfl ?_)
    go_ret
    exact ⟨rfl, B1.out⟩
  · have h1 : ¬ (m.places.length : Int) > 500 := by omega
    rw [decide_eq_false h]
    clear h
    go_enter Tryz.func14, Tryz.ntmps14
    go_wp2_with (with_reducible refine at_list ?_; refine wpList_boxA rfl _ rfl (m.cells s).toArray rfl ?_)
    go_ret
    exact ⟨rfl, B1.out⟩
theorem more_18 (m : Mg) (s : Vs) (w : World) (hk : m.kind = 18) (hML : ML w s m) (hf : m.fit) : Calls Tryz.prog 14 #[.agg (m.cells s).toArray] w fun e w' => e = .returned (.bool (decide (500 < m.raws.length) || m.raws.any (fun x : ByteArray => decide (4096 < x.size)))) ∧ Below w.heap.size w w' := by
  have B1 := hide ((Below.refl w.heap.size w).alloc (Nat.le_refl _) (.cells (m.cells s).toArray 38))
  have MC := hide (Mc.of (m := m) (s := s) (heap_alloc_last w (.cells (m.cells s).toArray 38)))
  have c0 := MC.out.f0
  rw [hk] at c0
  obtain ⟨ao, ca, ea⟩ := hML.r.form
  have c1 := MC.out.f22
  rw [ea] at c1
  have HC := hide (has_rawlong m.raws _ _ ((ea ▸ hML.r).below B1.out) hf.r)
  clear hk MC hML ea hf
  by_cases h : 500 < m.raws.length
  · have h1 : (m.raws.length : Int) > 500 := by omega
    rw [decide_eq_true h, Bool.true_or]
    clear h HC
    go_enter Tryz.func14, Tryz.ntmps14
    go_wp2_with (with_reducible refine at_list ?_; refine wpList_boxA rfl _ rfl (m.cells s).toArray rfl ?_)
    go_ret
    exact ⟨rfl, B1.out⟩
  · have h1 : ¬ (m.raws.length : Int) > 500 := by omega
    rw [decide_eq_false h, Bool.false_or]
    clear h
    generalize m.raws.any (fun x : ByteArray => decide (4096 < x.size)) = q at *
    go_enter Tryz.func14, Tryz.ntmps14
    go_wp2_with (first | (go_at_call 37; with_reducible refine HC.out.mono ?_; rintro e W1 ⟨rfl, be⟩; have B2 := hide (below_next B1.out be); clear be) | (with_reducible refine at_list ?_; refine wpList_boxA rfl _ rfl (m.cells s).toArray rfl ?_))
    go_ret
    exact ⟨rfl, B2.out⟩
theorem more_16 (m : Mg) (s : Vs) (w : World) (hk : m.kind = 16) (hML : ML w s m) (hf : m.fit) : Calls Tryz.prog 14 #[.agg (m.cells s).toArray] w fun e w' => e = .returned (.bool (decide (500 < m.shorts.length) || decide (500 < m.filled.length) || m.filled.any (fun x : Fd => decide (4096 < x.raw.size)))) ∧ Below w.heap.size w w' := by
  have B1 := hide ((Below.refl w.heap.size w).alloc (Nat.le_refl _) (.cells (m.cells s).toArray 38))
  have MC := hide (Mc.of (m := m) (s := s) (heap_alloc_last w (.cells (m.cells s).toArray 38)))
  have c0 := MC.out.f0
  rw [hk] at c0
  obtain ⟨ao, ca, ea⟩ := hML.sh.form
  have c1 := MC.out.f19
  rw [ea] at c1
  obtain ⟨ao2, ca2, ea2⟩ := hML.f.form
  have c2 := MC.out.f20
  rw [ea2] at c2
  have HC := hide (has_filllong m.filled _ _ ((ea2 ▸ hML.f).below B1.out) hf.f)
  clear hk MC hML ea ea2 hf
  by_cases h : 500 < m.shorts.length
  · have h1 : (m.shorts.length : Int) > 500 := by omega
    rw [decide_eq_true h, Bool.true_or, Bool.true_or]
    clear h HC
    go_enter Tryz.func14, Tryz.ntmps14
    go_wp2_with (with_reducible refine at_list ?_; refine wpList_boxA rfl _ rfl (m.cells s).toArray rfl ?_)
    go_ret
    exact ⟨rfl, B1.out⟩
  · have h1 : ¬ (m.shorts.length : Int) > 500 := by omega
    rw [decide_eq_false h, Bool.false_or]
    clear h
    by_cases h : 500 < m.filled.length
    · have h2 : (m.filled.length : Int) > 500 := by omega
      rw [decide_eq_true h, Bool.true_or]
      clear h HC
      go_enter Tryz.func14, Tryz.ntmps14
      go_wp2_with (with_reducible refine at_list ?_; refine wpList_boxA rfl _ rfl (m.cells s).toArray rfl ?_)
      go_ret
      exact ⟨rfl, B1.out⟩
    · have h2 : ¬ (m.filled.length : Int) > 500 := by omega
      rw [decide_eq_false h, Bool.false_or]
      clear h
      generalize m.filled.any (fun x : Fd => decide (4096 < x.raw.size)) = q at *
      go_enter Tryz.func14, Tryz.ntmps14
      go_wp2_with (first | (go_at_call 35; with_reducible refine HC.out.mono ?_; rintro e W1 ⟨rfl, be⟩; have B2 := hide (below_next B1.out be); clear be) | (with_reducible refine at_list ?_; refine wpList_boxA rfl _ rfl (m.cells s).toArray rfl ?_))
      go_ret
      exact ⟨rfl, B2.out⟩
theorem more_no (m : Mg) (s : Vs) (w : World) (hk : m.kind ∉ ([1, 7, 8, 9, 10, 11, 12, 16, 17, 18] : List Int)) : Calls Tryz.prog 14 #[.agg (m.cells s).toArray] w fun e w' => e = .returned (.bool false) ∧ Below w.heap.size w w' := by
  have B1 := hide ((Below.refl w.heap.size w).alloc (Nat.le_refl _) (.cells (m.cells s).toArray 38))
  have c0 := (Mc.of (m := m) (s := s) (heap_alloc_last w (.cells (m.cells s).toArray 38))).f0
  simp only [List.mem_cons, List.not_mem_nil, or_false, not_or] at hk
  generalize m.kind = k at *
  have h1 : (k == 1) = false := by rw [beq_eq_false_iff_ne]; omega
  have h7 : (k == 7) = false := by rw [beq_eq_false_iff_ne]; omega
  have h8 : (k == 8) = false := by rw [beq_eq_false_iff_ne]; omega
  have h9 : (k == 9) = false := by rw [beq_eq_false_iff_ne]; omega
  have h10 : (k == 10) = false := by rw [beq_eq_false_iff_ne]; omega
  have h11 : (k == 11) = false := by rw [beq_eq_false_iff_ne]; omega
  have h12 : (k == 12) = false := by rw [beq_eq_false_iff_ne]; omega
  have h16 : (k == 16) = false := by rw [beq_eq_false_iff_ne]; omega
  have h17 : (k == 17) = false := by rw [beq_eq_false_iff_ne]; omega
  have h18 : (k == 18) = false := by rw [beq_eq_false_iff_ne]; omega
  clear hk
  go_enter Tryz.func14, Tryz.ntmps14
  go_wp2_with (with_reducible refine at_list ?_; refine wpList_boxA rfl _ rfl (m.cells s).toArray rfl ?_)
  go_ret
  exact ⟨rfl, B1.out⟩
theorem hasMore_any (m : Mg) (s : Vs) (w : World) (hML : ML w s m) (hf : m.fit) : Calls Tryz.prog 14 #[.agg (m.cells s).toArray] w fun e w' => e = .returned (.bool m.more) ∧ Below w.heap.size w w' := by
  by_cases h1 : m.kind = 1
  · rw [show m.more = decide (64 < m.agent.size) by simp [Mg.more, h1]]; exact more_1 m s w h1
  by_cases h7 : m.kind = 7
  · rw [show m.more = decide (100 < m.addrs.length) by simp [Mg.more, h7]]; exact more_7 m s w h7 hML
  by_cases h8 : m.kind = 8
  · rw [show m.more = decide (500 < m.items.length) by simp [Mg.more, h8]]; exact more_8 m s w h8 hML
  by_cases h9 : m.kind = 9
  · rw [show m.more = decide (500 < m.items.length) by simp [Mg.more, h9]]; exact more_9 m s w h9 hML
  by_cases h10 : m.kind = 10
  · rw [show m.more = decide (500 < m.items.length) by simp [Mg.more, h10]]; exact more_10 m s w h10 hML
  by_cases h11 : m.kind = 11
  · rw [show m.more = decide (64 < m.hashes.length) by simp [Mg.more, h11]]; exact more_11 m s w h11 hML
  by_cases h12 : m.kind = 12
  · rw [show m.more = decide (100 < m.heads.length) by simp [Mg.more, h12]]; exact more_12 m s w h12 hML
  by_cases h16 : m.kind = 16
  · rw [show m.more = (decide (500 < m.shorts.length) || decide (500 < m.filled.length) || m.filled.any (fun x : Fd => decide (4096 < x.raw.size))) by unfold Mg.more; rw [if_neg (by omega), if_neg (by omega), if_neg (by omega), if_neg (by omega), if_neg (by omega), if_pos h16]]; exact more_16 m s w h16 hML hf
  by_cases h17 : m.kind = 17
  · rw [show m.more = decide (500 < m.places.length) by simp [Mg.more, h17]]; exact more_17 m s w h17 hML
  by_cases h18 : m.kind = 18
  · rw [show m.more = (decide (500 < m.raws.length) || m.raws.any (fun x : ByteArray => decide (4096 < x.size))) by unfold Mg.more; rw [if_neg (by omega), if_neg (by omega), if_neg (by omega), if_neg (by omega), if_neg (by omega), if_neg (by omega), if_neg (by omega), if_pos h18]]; exact more_18 m s w h18 hML hf
  rw [show m.more = false by unfold Mg.more; rw [if_neg (by omega), if_neg (by omega), if_neg (by omega), if_neg (by omega), if_neg (by omega), if_neg (by omega), if_neg (by omega), if_neg (by omega)]]
  exact more_no m s w (by simp only [List.mem_cons, List.not_mem_nil, or_false, not_or]; exact ⟨h1, h7, h8, h9, h10, h11, h12, h16, h17, h18⟩)
theorem form_12 (m : Mg) (s : Vs) (w : World) (hk : m.kind = 12) (hML : ML w s m) (hf : m.fit) : Calls Tryz.prog 15 #[.agg (m.cells s).toArray] w fun e w' => e = .returned (.bool (!(m.heads.any (fun x : ByteArray => decide (x.size ≠ 80))))) ∧ Below w.heap.size w w' := by
  have B1 := hide ((Below.refl w.heap.size w).alloc (Nat.le_refl _) (.cells (m.cells s).toArray 38))
  have MC := hide (Mc.of (m := m) (s := s) (heap_alloc_last w (.cells (m.cells s).toArray 38)))
  have c0 := MC.out.f0
  rw [hk] at c0
  obtain ⟨ao, ca, ea⟩ := hML.hd.form
  have c1 := MC.out.f16
  rw [ea] at c1
  have HC := hide (has_not80 m.heads _ _ ((ea ▸ hML.hd).below B1.out) hf.hd)
  clear hk MC hML ea hf
  generalize m.heads.any (fun x : ByteArray => decide (x.size ≠ 80)) = q at *
  go_enter Tryz.func15, Tryz.ntmps15
  go_wp2_with (first | (go_at_call 37; with_reducible refine HC.out.mono ?_; rintro e W1 ⟨rfl, be⟩; have B2 := hide (below_next B1.out be); clear be) | (with_reducible refine at_list ?_; refine wpList_boxA rfl _ rfl (m.cells s).toArray rfl ?_))
  go_ret
  exact ⟨rfl, B2.out⟩
theorem form_17 (m : Mg) (s : Vs) (w : World) (hk : m.kind = 17) (hML : ML w s m) (hf : m.fit) : Calls Tryz.prog 15 #[.agg (m.cells s).toArray] w fun e w' => e = .returned (.bool (riseB (-1) m.places)) ∧ Below w.heap.size w w' := by
  have B1 := hide ((Below.refl w.heap.size w).alloc (Nat.le_refl _) (.cells (m.cells s).toArray 38))
  have MC := hide (Mc.of (m := m) (s := s) (heap_alloc_last w (.cells (m.cells s).toArray 38)))
  have c0 := MC.out.f0
  rw [hk] at c0
  obtain ⟨ao, ca, ea⟩ := hML.p.form
  have c1 := MC.out.f21
  rw [ea] at c1
  have HC := hide (rise_any m.places _ _ ((ea ▸ hML.p).below B1.out) hf.p)
  clear hk MC hML ea hf
  generalize riseB (-1) m.places = q at *
  go_enter Tryz.func15, Tryz.ntmps15
  go_wp2_with (first | (go_at_call 42; with_reducible refine HC.out.mono ?_; rintro e W1 ⟨rfl, be⟩; have B2 := hide (below_next B1.out be); clear be) | (with_reducible refine at_list ?_; refine wpList_boxA rfl _ rfl (m.cells s).toArray rfl ?_))
  go_ret
  exact ⟨rfl, B2.out⟩
theorem form_16 (m : Mg) (s : Vs) (w : World) (hk : m.kind = 16) (hML : ML w s m) (hf : m.fit) (hn : m.filled.length ≤ 500) : Calls Tryz.prog 15 #[.agg (m.cells s).toArray] w fun e w' => e = .returned (.bool (decide (m.head.size = 80) && !(m.shorts.any (fun x : UInt64 => decide (281474976710655 < x.toNat))) && riseB (-1) (m.filled.map Fd.place))) ∧ Below w.heap.size w w' := by
  have B1 := hide ((Below.refl w.heap.size w).alloc (Nat.le_refl _) (.cells (m.cells s).toArray 38))
  have MC := hide (Mc.of (m := m) (s := s) (heap_alloc_last w (.cells (m.cells s).toArray 38)))
  have c0 := MC.out.f0
  rw [hk] at c0
  obtain ⟨ao, ca, ea⟩ := hML.sh.form
  have c1 := MC.out.f19
  rw [ea] at c1
  obtain ⟨ao2, ca2, ea2⟩ := hML.f.form
  have c2 := MC.out.f20
  rw [ea2] at c2
  have c3 := MC.out.f17
  have HC := hide (has_shortbig m.shorts _ _ ((ea ▸ hML.sh).below B1.out) hf.sh)
  have HF := hide (ea2 ▸ hML.f)
  have RA := hide (heap_alloc_last w (.cells (m.cells s).toArray 38))
  have HP : Hid (∀ W, Below w.heap.size w W → Calls Tryz.prog 43 #[.slice ao2 m.filled.length ca2] W fun e w' => ∃ v', e = .returned v' ∧ LX KP w' v' (m.filled.map Fd.place) ∧ Below W.heap.size W w') := fun W hb => placesOf_any m.filled _ W (HF.out.below hb) hn
  have HR : Hid (∀ W v', LX KP W v' (m.filled.map Fd.place) → Calls Tryz.prog 42 #[v'] W fun e w' => e = .returned (.bool (riseB (-1) (m.filled.map Fd.place))) ∧ Below W.heap.size W w') := fun W v' h => rise_any _ v' W h (by rw [List.length_map]; omega)
  have EA2 := hide ea2
  clear hk hML ea ea2 hf hn
  by_cases h : m.head.size = 80
  case neg =>
    have h1 : ((m.head.size : Int) == 80) = false := by rw [beq_eq_false_iff_ne]; omega
    rw [decide_eq_false h, Bool.false_and, Bool.false_and]
    clear h HC HP HR
    go_enter Tryz.func15, Tryz.ntmps15
    go_wp2_with (with_reducible refine at_list ?_; refine wpList_boxA rfl _ rfl (m.cells s).toArray rfl ?_)
    go_ret
    exact ⟨rfl, B1.out⟩
  have h1 : (m.head.size : Int) = 80 := by omega
  rw [decide_eq_true h, Bool.true_and]
  clear h
  generalize m.shorts.any (fun x : UInt64 => decide (281474976710655 < x.toNat)) = q at *
  generalize riseB (-1) (m.filled.map Fd.place) = r at *
  cases q
  · go_enter Tryz.func15, Tryz.ntmps15
    go_wp2_with (first | (go_at_call 40; with_reducible refine HC.out.mono ?_; rintro e W1 ⟨rfl, be⟩; have B2 := hide (below_next B1.out be); have c5 : W1.cell? ⟨w.heap.size, 118, none⟩ = some (.slice ao2 m.filled.length ca2) := (by have := (Mc.of (m := m) (s := s) ((be.block _ (lt_heap RA.out)).trans RA.out)).f20; rwa [EA2.out] at this); clear be c1 c2 c3 c0) | (go_at_call 43; with_reducible refine (HP.out _ B2.out).mono ?_; rintro e W2 ⟨v', rfl, lx, be⟩; have B3 := hide (below_next B2.out be); have LX2 := hide lx; clear be lx) | (go_at_call 42; with_reducible refine (HR.out _ _ LX2.out).mono ?_; rintro e W3 ⟨rfl, be⟩; have B4 := hide (below_next B3.out be); clear be) | (with_reducible refine at_list ?_; refine wpList_boxA rfl _ rfl (m.cells s).toArray rfl ?_))
    go_ret
    exact ⟨by simp, B4.out⟩
  · go_enter Tryz.func15, Tryz.ntmps15
    go_wp2_with (first | (go_at_call 40; with_reducible refine HC.out.mono ?_; rintro e W1 ⟨rfl, be⟩; have B2 := hide (below_next B1.out be); clear be) | (with_reducible refine at_list ?_; refine wpList_boxA rfl _ rfl (m.cells s).toArray rfl ?_))
    go_ret
    exact ⟨rfl, B2.out⟩
theorem form_no (m : Mg) (s : Vs) (w : World) (hk : m.kind ∉ ([12, 16, 17] : List Int)) : Calls Tryz.prog 15 #[.agg (m.cells s).toArray] w fun e w' => e = .returned (.bool true) ∧ Below w.heap.size w w' := by
  have B1 := hide ((Below.refl w.heap.size w).alloc (Nat.le_refl _) (.cells (m.cells s).toArray 38))
  have c0 := (Mc.of (m := m) (s := s) (heap_alloc_last w (.cells (m.cells s).toArray 38))).f0
  simp only [List.mem_cons, List.not_mem_nil, or_false, not_or] at hk
  generalize m.kind = k at *
  have h12 : (k == 12) = false := by rw [beq_eq_false_iff_ne]; omega
  have h16 : (k == 16) = false := by rw [beq_eq_false_iff_ne]; omega
  have h17 : (k == 17) = false := by rw [beq_eq_false_iff_ne]; omega
  clear hk
  go_enter Tryz.func15, Tryz.ntmps15
  go_wp2_with (with_reducible refine at_list ?_; refine wpList_boxA rfl _ rfl (m.cells s).toArray rfl ?_)
  go_ret
  exact ⟨rfl, B1.out⟩
theorem wellFormed_any (m : Mg) (s : Vs) (w : World) (hML : ML w s m) (hf : m.fit) (hn : m.more = false) : Calls Tryz.prog 15 #[.agg (m.cells s).toArray] w fun e w' => e = .returned (.bool m.form) ∧ Below w.heap.size w w' := by
  by_cases h12 : m.kind = 12
  · rw [show m.form = !(m.heads.any (fun x : ByteArray => decide (x.size ≠ 80))) by unfold Mg.form; rw [if_pos h12]]; exact form_12 m s w h12 hML hf
  by_cases h16 : m.kind = 16
  · rw [show m.form = (decide (m.head.size = 80) && !(m.shorts.any (fun x : UInt64 => decide (281474976710655 < x.toNat))) && riseB (-1) (m.filled.map Fd.place)) by unfold Mg.form; rw [if_neg h12, if_pos h16]]
    refine form_16 m s w h16 hML hf ?_
    unfold Mg.more at hn
    rw [if_neg (by omega), if_neg (by omega), if_neg (by omega), if_neg (by omega), if_neg h12, if_pos h16] at hn
    simp only [Bool.or_eq_false_iff, decide_eq_false_iff_not] at hn
    omega
  by_cases h17 : m.kind = 17
  · rw [show m.form = riseB (-1) m.places by unfold Mg.form; rw [if_neg h12, if_neg h16, if_pos h17]]; exact form_17 m s w h17 hML hf
  rw [show m.form = true by unfold Mg.form; rw [if_neg h12, if_neg h16, if_neg h17]]
  exact form_no m s w (by simp only [List.mem_cons, List.not_mem_nil, or_false, not_or]; exact ⟨h12, h16, h17⟩)
end
end Go.Proofs.YtkoidjaaojmcnaaGreat
