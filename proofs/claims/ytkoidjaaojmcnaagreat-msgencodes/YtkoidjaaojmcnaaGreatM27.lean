/- What a kind names of a message, all else zero: the document's named. -/
import Derived.Test.YtkoidjaaojmcnaaGreatM26
namespace Go.Proofs.YtkoidjaaojmcnaaGreat
open Go.RowKit
open Go.Deep
set_option linter.unusedVariables false
set_option linter.unusedSimpArgs false
/-- What a kind names of a message. -/
def Mg.namedK (m : Mg) : Mg :=
  if m.kind = 1 then { zM with kind := m.kind, vers := m.vers, serv := m.serv, time := m.time, dst := { m.dst with time := 0 }, src := { m.src with time := 0 }, nonce := m.nonce, agent := m.agent, height := m.height, relay := m.relay }
  else if m.kind = 5 ∨ m.kind = 6 then { zM with kind := m.kind, nonce := m.nonce }
  else if m.kind = 7 then { zM with kind := m.kind, addrs := m.addrs }
  else if m.kind = 8 ∨ m.kind = 9 ∨ m.kind = 10 then { zM with kind := m.kind, items := m.items }
  else if m.kind = 11 then { zM with kind := m.kind, vers := m.vers, hashes := m.hashes, stop := m.stop }
  else if m.kind = 12 then { zM with kind := m.kind, heads := m.heads }
  else if m.kind = 13 ∨ m.kind = 14 then { zM with kind := m.kind, raw := m.raw }
  else if m.kind = 15 then { zM with kind := m.kind, high := m.high, nonce := m.nonce }
  else if m.kind = 16 then { zM with kind := m.kind, head := m.head, nonce := m.nonce, shorts := m.shorts, filled := m.filled }
  else if m.kind = 17 then { zM with kind := m.kind, hash := m.hash, places := m.places }
  else if m.kind = 18 then { zM with kind := m.kind, hash := m.hash, raws := m.raws }
  else { zM with kind := m.kind }
theorem Nt.ext' {x y : Nt} (h1 : x.time = y.time) (h2 : x.serv = y.serv) (h3 : x.ip = y.ip) (h4 : x.port = y.port) : x = y := by
  cases x; cases y; simp only at h1 h2 h3 h4; subst h1 h2 h3 h4; rfl
theorem Nt.timed (x : Nt) : x = { x with time := 0 } ↔ ({ zN with time := x.time } : Nt) = zN := by
  constructor
  · intro h
    have : x.time = 0 := congrArg Nt.time h
    exact Nt.ext' this rfl rfl rfl
  · intro h
    have : x.time = 0 := congrArg Nt.time h
    exact Nt.ext' this rfl rfl rfl
/-- A message is what its kind names just where nothing is left without it. -/
theorem Mg.named_iff (m : Mg) : m = m.namedK ↔ m.bareK = bareM m.kind 0 := by
  unfold Mg.namedK Mg.bareK bareM
  by_cases h0 : m.kind = 1
  · rw [if_pos h0, if_pos h0]
    clear h0
    have hd := m.dst.timed
    have hs := m.src.timed
    cases m
    simp only at hd hs
    simp only [Mg.mk.injEq, zM, hd, hs]
    try simp only [true_and, and_true]
  rw [if_neg h0, if_neg h0]
  by_cases h1 : m.kind = 5 ∨ m.kind = 6
  · rw [if_pos h1, if_pos h1]
    clear h1
    cases m
    simp only [Mg.mk.injEq, zM]
  rw [if_neg h1, if_neg h1]
  by_cases h2 : m.kind = 7
  · rw [if_pos h2, if_pos h2]
    clear h2
    cases m
    simp only [Mg.mk.injEq, zM]
  rw [if_neg h2, if_neg h2]
  by_cases h3 : m.kind = 8 ∨ m.kind = 9 ∨ m.kind = 10
  · rw [if_pos h3, if_pos h3]
    clear h3
    cases m
    simp only [Mg.mk.injEq, zM]
  rw [if_neg h3, if_neg h3]
  by_cases h4 : m.kind = 11
  · rw [if_pos h4, if_pos h4]
    clear h4
    cases m
    simp only [Mg.mk.injEq, zM]
  rw [if_neg h4, if_neg h4]
  by_cases h5 : m.kind = 12
  · rw [if_pos h5, if_pos h5]
    clear h5
    cases m
    simp only [Mg.mk.injEq, zM]
  rw [if_neg h5, if_neg h5]
  by_cases h6 : m.kind = 13 ∨ m.kind = 14
  · rw [if_pos h6, if_pos h6]
    clear h6
    cases m
    simp only [Mg.mk.injEq, zM]
  rw [if_neg h6, if_neg h6]
  by_cases h7 : m.kind = 15
  · rw [if_pos h7, if_pos h7]
    clear h7
    cases m
    simp only [Mg.mk.injEq, zM]
  rw [if_neg h7, if_neg h7]
  by_cases h8 : m.kind = 16
  · rw [if_pos h8, if_pos h8]
    clear h8
    cases m
    simp only [Mg.mk.injEq, zM]
  rw [if_neg h8, if_neg h8]
  by_cases h9 : m.kind = 17
  · rw [if_pos h9, if_pos h9]
    clear h9
    cases m
    simp only [Mg.mk.injEq, zM]
  rw [if_neg h9, if_neg h9]
  by_cases h10 : m.kind = 18
  · rw [if_pos h10, if_pos h10]
    clear h10
    cases m
    simp only [Mg.mk.injEq, zM]
  rw [if_neg h10, if_neg h10]
  cases m
  simp only [Mg.mk.injEq, zM]
/-- What named holds: the message, its answer's place, what is made so far. -/
structure Nm (w W : World) (m : Mg) (s : Vs) (m' : Mg) (s' : Vs) : Prop where
  r1 : W.heap[w.heap.size]? = some (.cells (m.cells s).toArray 50 (0, 0))
  r2 : W.heap[w.heap.size + 1]? = some (.cells (zM.cells nil8).toArray 50 (0, 0))
  r3 : W.rowIs (w.heap.size + 2) 50 121 (mcf m' s')
  bel : Below w.heap.size w W
section
variable {w W : World} {m m1 m2 : Mg} {s s1 s2 : Vs}
theorem Nm.start (w : World) (m : Mg) (s : Vs) : Nm w (((w.alloc (.cells (m.cells s).toArray 50)).alloc (.cells (zM.cells nil8).toArray 50)).alloc (.cells ((bareM m.kind 0).cells nil8).toArray 50)) m s (bareM m.kind 0) nil8 := by
  obtain ⟨e1, e2, e3⟩ := blk3 w (.cells (m.cells s).toArray 50) (.cells (zM.cells nil8).toArray 50) (.cells ((bareM m.kind 0).cells nil8).toArray 50)
  exact ⟨e1, e2, mcf_of _ _ e3, below3 w _ _ _⟩
theorem Nm.set (h : Nm w W m s m1 s1) (k : Nat) (v : Value) (e : (m1.cells s1).set k v = m2.cells s2) : Nm w (W.setCell ⟨w.heap.size + 2, k, none⟩ v) m s m2 s2 := by
  have hb : ∀ i, i < w.heap.size + 2 → (W.setCell ⟨w.heap.size + 2, k, none⟩ v).heap[i]? = W.heap[i]? := fun i hi => blk_setCell_other _ _ _ _ (fun e => by have e' : i = w.heap.size + 2 := e; omega)
  exact ⟨(hb _ (by omega)).trans h.r1, (hb _ (by omega)).trans h.r2, (h.r3.set k v).congr (mcf_set' e), h.bel.trans ((Rfr.setCell (w.heap.size + 2) W k v).to_below (by omega) h.bel.size)⟩
theorem Nm.setL (h : Nm w W m s m1 s1) (A X Y R : List Value) (hl : X.length = Y.length) (e1 : m1.cells s1 = A ++ (X ++ R)) (e2 : m2.cells s2 = A ++ (Y ++ R)) (o : Nat) (ho : o = A.length) : Nm w (W.setCells (w.heap.size + 2) o Y) m s m2 s2 := by
  have f := Rfr.setCells (w.heap.size + 2) Y o W
  refine ⟨(f.block _ (lt_heap h.r1) (by omega)).trans h.r1, (f.block _ (lt_heap h.r2) (by omega)).trans h.r2, (rowIs_setCells Y o W _ h.r3).congr fun j hj => ?_, h.bel.trans (f.to_below (by omega) h.bel.size)⟩
  unfold mcf
  rw [e1, e2, ho]
  exact seg_set hl j
theorem Nm.drew (h : Nm w W m s m1 s1) : Nm w W.drew m s m1 s1 := ⟨h.r1, h.r2, h.r3.drew, h.bel.drew⟩
theorem Nm.fz (h : Nm w W m s m1 s1) (i : Nat) : W.frozen? ⟨w.heap.size + 2, i, none⟩ = false := World.rowIs.frozen h.r3 i
theorem Nm.mc (h : Nm w W m s m1 s1) : Mc W (w.heap.size + 2) m1 s1 := Mc.of (mcf_row m1 s1 h.r3)
theorem Nm.there (h : Nm w W m s m1 s1) (o n : Nat) (hn : o + n ≤ 121) : W.there (w.heap.size + 2) o n := fun j hj => by
  refine ⟨?_, h.fz _⟩
  have := World.rowIs.cell h.r3 (i := o + j) (by omega)
  rw [this]
  rfl
theorem Nm.fin (h : Nm w W m s m1 s1) : W.heap[w.heap.size + 2]? = some (.cells (m1.cells s1).toArray 50 (0, 0)) ∧ (W.setRow (w.heap.size + 1) (m1.cells s1).toArray).heap[w.heap.size + 1]? = some (.cells (m1.cells s1).toArray 50 (0, 0)) ∧ Below w.heap.size w (W.setRow (w.heap.size + 1) (m1.cells s1).toArray) := ⟨mcf_row _ _ h.r3, setRow_heap _ _ _ _ _ _ h.r2, below_setRow h.bel (by omega) _⟩
end
section
set_option maxRecDepth 10000
set_option maxHeartbeats 4000000
theorem stepStoreMid {w : World} {ops : Array Oper} {o : Oper} {a : Act} {K : Act → World → Prop} {Q : Exit → Act → World → Prop} {E0 : Prop} (hgd : o.guard = none) (ty : TypeId) (x y : Operand) (ho : o.op = .store ty x y) (b f : Nat) (cells : Array Value) (hx : a.eval x = .pointer (some ⟨b, f, none⟩)) (hy : a.eval y = .agg cells)
    (ht : w.there b f cells.size) (hi : (Tryz.prog.info? ty).map (·.size) = some cells.size) (h1 : cells.all (·.oneCell') = true) (h : K (a.put o.dst undef) (w.setCells b f cells.toList)) : if Region.wanted o (yielded ops a.tmps) = true then Oper.wp Tryz.prog o a w K Q else E0 := by
  have hw : Region.wanted o (yielded ops a.tmps) = true := by simp [Region.wanted, hgd]
  rw [if_pos hw]
  exact wp_store_mid ty x y ho b f cells hx hy ht hi h1 h
def bdR (x : Array (Nat × Value)) : Sem Value := Instr.build 50 x
theorem bdR_eq (x : Array (Nat × Value)) : Instr.build 50 x = bdR x := rfl
attribute [local go_sem ↓] bdR_eq
theorem run_bldR0 (k : Int) (w : World) : (bdR #[(0, .int .i64 k)]).run Tryz.prog w = .ok (.agg ((bareM k 0).cells nil8).toArray) w := by
  unfold bdR
  kernel_rfl
theorem hcI (x : Id32) : (cellsL x.1).toArray.size = 32 := by rw [List.size_toArray, cellsL_len, x.2]
theorem named_k5 (m : Mg) (s : Vs) (w : World) (hR : MR w s m) (hk : m.kind = 5) : Calls Tryz.prog 24 #[.agg (m.cells s).toArray] w fun e w' => ∃ s', e = .returned (.agg (m.namedK.cells s').toArray) ∧ s'.ok ∧ (∀ W, MR W s m → MR W s' m.namedK) ∧ Below w.heap.size w w' := by
  have N0 := hide (Nm.start w m s)
  have HK := hide hk
  have N0' : Hid (Nm w (((w.alloc (.cells (m.cells s).toArray 50)).alloc (.cells (zM.cells nil8).toArray 50)).alloc (.cells ((bareM m.kind 0).cells nil8).toArray 50)) m s ({ zM with kind := m.kind } : Mg) nil8) := N0.out
  have q1 := N0'.out.mc.f3
  have f1 := N0'.out.fz 3
  have N1 : Hid (Nm w ((((w.alloc (.cells (m.cells s).toArray 50)).alloc (.cells (zM.cells nil8).toArray 50)).alloc (.cells ((bareM m.kind 0).cells nil8).toArray 50)).setCell ⟨w.heap.size + 2, 3, none⟩ (.int .u64 (m.nonce.toNat : Int))) m s ({ zM with kind := m.kind, nonce := m.nonce } : Mg) nil8) := N0'.out.set 3 _ (rfl)
  have BK : Hid (m.namedK = ({ zM with kind := m.kind, nonce := m.nonce } : Mg)) := by show _ = _; unfold Mg.namedK; simp [hk]
  have ML1 : Hid (∀ W, MR W s m → MR W nil8 ({ zM with kind := m.kind, nonce := m.nonce } : Mg)) := fun W h => ⟨LX.nil W, LX.nil W, LX.nil W, LX.nil W, LX.nil W, LX.nil W, LX.nil W, LX.nil W⟩
  have OK : Hid (nil8).ok := ⟨⟨_, _, _, rfl⟩, ⟨_, _, _, rfl⟩, ⟨_, _, _, rfl⟩, ⟨_, _, _, rfl⟩, ⟨_, _, _, rfl⟩, ⟨_, _, _, rfl⟩, ⟨_, _, _, rfl⟩, ⟨_, _, _, rfl⟩⟩
  have EN := hide N1.out.fin
  have R2 := hide N1.out.r2
  have HO := hide (({ zM with kind := m.kind, nonce := m.nonce } : Mg).one nil8 OK.out)
  have HZ := hide (({ zM with kind := m.kind, nonce := m.nonce } : Mg).size nil8)
  have HZm := hide (zM.size nil8)
  have A0 := AMr
  have cm := (Mc.of N0.out.r1).f3
  have ck : (w.alloc (.cells (m.cells s).toArray 50) |>.alloc (.cells (zM.cells nil8).toArray 50)).cell? ⟨w.heap.size, 0, none⟩ = some (.int .i64 m.kind) := by
    have e1 := heap_alloc_last w (.cells (m.cells s).toArray 50)
    exact (Mc.of ((Below.heap_alloc _ (.cells (zM.cells nil8).toArray 50) _ (lt_heap e1)).trans e1)).f0
  have ck2 := (Mc.of N0.out.r1).f0
  have hb := run_bldR0 m.kind
  have HOb := hide ((bareM m.kind 0).one nil8 nil8_ok)
  have HZb := hide ((bareM m.kind 0).size nil8)
  have hsz : (w.alloc (.cells (m.cells s).toArray 50)).heap.size = w.heap.size + 1 := by simp
  have hsz2 : ((w.alloc (.cells (m.cells s).toArray 50)).alloc (.cells (zM.cells nil8).toArray 50)).heap.size = w.heap.size + 2 := by simp
  clear N0 N0' N1 hR hk 
  generalize hnm : ({ zM with kind := m.kind, nonce := m.nonce } : Mg) = m' at *
  clear hnm
  go_enter Tryz.func24, Tryz.ntmps24
  go_upto_region 1 with (with_reducible refine at_list ?_; first | refine wpList_boxA rfl _ rfl (m.cells s).toArray rfl ?_ | refine wpList_allocA AMr rfl rfl ?_)
  rw [hsz]
  clear hsz
  go_upto_region 2 with (with_reducible refine at_list ?_; first | refine wpList_allocA AMr rfl rfl ?_ | refine wpList_store_newA AMr rfl _ _ rfl _ rfl ((bareM m.kind 0).cells nil8).toArray HZb.out HOb.out rfl rfl ?_)
  try rw [hsz2]
  clear hsz2 ck hb HOb HZb
  generalize ((w.alloc (.cells (m.cells s).toArray 50)).alloc (.cells (zM.cells nil8).toArray 50)).alloc (.cells ((bareM m.kind 0).cells nil8).toArray 50) = A at *
  rw [HK.out] at ck2
  go_upto_region 30 with fail
  generalize (A.setCell ⟨w.heap.size + 2, 3, none⟩ (.int .u64 (m.nonce.toNat : Int))) = W1 at *
  generalize (zM.cells nil8).toArray = Z at *
  go_wp2_with ((with_reducible refine at_list ?_); first | refine wpList_loadS A0 _ rfl (w.heap.size + 2) rfl (m'.cells nil8).toArray HZ.out 50 EN.out.1 rfl ?_ | refine wpList_storeA A0 rfl _ _ rfl (w.heap.size + 1) (m'.cells nil8).toArray HZ.out HO.out rfl rfl Z HZm.out 50 R2.out ?_)
  refine bodyPost_ret (resA A0 rfl _ _ _ _ (m'.cells nil8).toArray HZ.out rfl EN.out.2.1) rfl ?_
  exact ⟨nil8, by rw [BK.out], OK.out, by rw [BK.out]; exact ML1.out, EN.out.2.2⟩
theorem named_k6 (m : Mg) (s : Vs) (w : World) (hR : MR w s m) (hk : m.kind = 6) : Calls Tryz.prog 24 #[.agg (m.cells s).toArray] w fun e w' => ∃ s', e = .returned (.agg (m.namedK.cells s').toArray) ∧ s'.ok ∧ (∀ W, MR W s m → MR W s' m.namedK) ∧ Below w.heap.size w w' := by
  have N0 := hide (Nm.start w m s)
  have HK := hide hk
  have N0' : Hid (Nm w (((w.alloc (.cells (m.cells s).toArray 50)).alloc (.cells (zM.cells nil8).toArray 50)).alloc (.cells ((bareM m.kind 0).cells nil8).toArray 50)) m s ({ zM with kind := m.kind } : Mg) nil8) := N0.out
  have q1 := N0'.out.mc.f3
  have f1 := N0'.out.fz 3
  have N1 : Hid (Nm w ((((w.alloc (.cells (m.cells s).toArray 50)).alloc (.cells (zM.cells nil8).toArray 50)).alloc (.cells ((bareM m.kind 0).cells nil8).toArray 50)).setCell ⟨w.heap.size + 2, 3, none⟩ (.int .u64 (m.nonce.toNat : Int))) m s ({ zM with kind := m.kind, nonce := m.nonce } : Mg) nil8) := N0'.out.set 3 _ (rfl)
  have BK : Hid (m.namedK = ({ zM with kind := m.kind, nonce := m.nonce } : Mg)) := by show _ = _; unfold Mg.namedK; simp [hk]
  have ML1 : Hid (∀ W, MR W s m → MR W nil8 ({ zM with kind := m.kind, nonce := m.nonce } : Mg)) := fun W h => ⟨LX.nil W, LX.nil W, LX.nil W, LX.nil W, LX.nil W, LX.nil W, LX.nil W, LX.nil W⟩
  have OK : Hid (nil8).ok := ⟨⟨_, _, _, rfl⟩, ⟨_, _, _, rfl⟩, ⟨_, _, _, rfl⟩, ⟨_, _, _, rfl⟩, ⟨_, _, _, rfl⟩, ⟨_, _, _, rfl⟩, ⟨_, _, _, rfl⟩, ⟨_, _, _, rfl⟩⟩
  have EN := hide N1.out.fin
  have R2 := hide N1.out.r2
  have HO := hide (({ zM with kind := m.kind, nonce := m.nonce } : Mg).one nil8 OK.out)
  have HZ := hide (({ zM with kind := m.kind, nonce := m.nonce } : Mg).size nil8)
  have HZm := hide (zM.size nil8)
  have A0 := AMr
  have cm := (Mc.of N0.out.r1).f3
  have ck : (w.alloc (.cells (m.cells s).toArray 50) |>.alloc (.cells (zM.cells nil8).toArray 50)).cell? ⟨w.heap.size, 0, none⟩ = some (.int .i64 m.kind) := by
    have e1 := heap_alloc_last w (.cells (m.cells s).toArray 50)
    exact (Mc.of ((Below.heap_alloc _ (.cells (zM.cells nil8).toArray 50) _ (lt_heap e1)).trans e1)).f0
  have ck2 := (Mc.of N0.out.r1).f0
  have hb := run_bldR0 m.kind
  have HOb := hide ((bareM m.kind 0).one nil8 nil8_ok)
  have HZb := hide ((bareM m.kind 0).size nil8)
  have hsz : (w.alloc (.cells (m.cells s).toArray 50)).heap.size = w.heap.size + 1 := by simp
  have hsz2 : ((w.alloc (.cells (m.cells s).toArray 50)).alloc (.cells (zM.cells nil8).toArray 50)).heap.size = w.heap.size + 2 := by simp
  clear N0 N0' N1 hR hk 
  generalize hnm : ({ zM with kind := m.kind, nonce := m.nonce } : Mg) = m' at *
  clear hnm
  go_enter Tryz.func24, Tryz.ntmps24
  go_upto_region 1 with (with_reducible refine at_list ?_; first | refine wpList_boxA rfl _ rfl (m.cells s).toArray rfl ?_ | refine wpList_allocA AMr rfl rfl ?_)
  rw [hsz]
  clear hsz
  go_upto_region 2 with (with_reducible refine at_list ?_; first | refine wpList_allocA AMr rfl rfl ?_ | refine wpList_store_newA AMr rfl _ _ rfl _ rfl ((bareM m.kind 0).cells nil8).toArray HZb.out HOb.out rfl rfl ?_)
  try rw [hsz2]
  clear hsz2 ck hb HOb HZb
  generalize ((w.alloc (.cells (m.cells s).toArray 50)).alloc (.cells (zM.cells nil8).toArray 50)).alloc (.cells ((bareM m.kind 0).cells nil8).toArray 50) = A at *
  rw [HK.out] at ck2
  go_upto_region 30 with fail
  generalize (A.setCell ⟨w.heap.size + 2, 3, none⟩ (.int .u64 (m.nonce.toNat : Int))) = W1 at *
  generalize (zM.cells nil8).toArray = Z at *
  go_wp2_with ((with_reducible refine at_list ?_); first | refine wpList_loadS A0 _ rfl (w.heap.size + 2) rfl (m'.cells nil8).toArray HZ.out 50 EN.out.1 rfl ?_ | refine wpList_storeA A0 rfl _ _ rfl (w.heap.size + 1) (m'.cells nil8).toArray HZ.out HO.out rfl rfl Z HZm.out 50 R2.out ?_)
  refine bodyPost_ret (resA A0 rfl _ _ _ _ (m'.cells nil8).toArray HZ.out rfl EN.out.2.1) rfl ?_
  exact ⟨nil8, by rw [BK.out], OK.out, by rw [BK.out]; exact ML1.out, EN.out.2.2⟩
theorem named_k7 (m : Mg) (s : Vs) (w : World) (hR : MR w s m) (hk : m.kind = 7) : Calls Tryz.prog 24 #[.agg (m.cells s).toArray] w fun e w' => ∃ s', e = .returned (.agg (m.namedK.cells s').toArray) ∧ s'.ok ∧ (∀ W, MR W s m → MR W s' m.namedK) ∧ Below w.heap.size w w' := by
  have N0 := hide (Nm.start w m s)
  have HK := hide hk
  obtain ⟨ao47, ca47, ea47⟩ := hR.a.form
  have EA47 := hide ea47
  have N0' : Hid (Nm w (((w.alloc (.cells (m.cells s).toArray 50)).alloc (.cells (zM.cells nil8).toArray 50)).alloc (.cells ((bareM m.kind 0).cells nil8).toArray 50)) m s ({ zM with kind := m.kind } : Mg) nil8) := N0.out
  have q1 := N0'.out.mc.f11
  have f1 := N0'.out.fz 47
  have N1 : Hid (Nm w ((((w.alloc (.cells (m.cells s).toArray 50)).alloc (.cells (zM.cells nil8).toArray 50)).alloc (.cells ((bareM m.kind 0).cells nil8).toArray 50)).setCell ⟨w.heap.size + 2, 47, none⟩ (.slice ao47 m.addrs.length ca47)) m s ({ zM with kind := m.kind, addrs := m.addrs } : Mg) ({ nil8 with a := .slice ao47 m.addrs.length ca47 } : Vs)) := N0'.out.set 47 _ (by rw [show 47 = 43 + 4 from rfl, Mg.set1 _ _ 4 _ (by decide)]; rfl)
  have BK : Hid (m.namedK = ({ zM with kind := m.kind, addrs := m.addrs } : Mg)) := by show _ = _; unfold Mg.namedK; simp [hk]
  have ML1 : Hid (∀ W, MR W s m → MR W ({ nil8 with a := .slice ao47 m.addrs.length ca47 } : Vs) ({ zM with kind := m.kind, addrs := m.addrs } : Mg)) := fun W h => ⟨EA47.out ▸ h.a, LX.nil W, LX.nil W, LX.nil W, LX.nil W, LX.nil W, LX.nil W, LX.nil W⟩
  have OK : Hid (({ nil8 with a := .slice ao47 m.addrs.length ca47 } : Vs)).ok := ⟨⟨_, _, _, rfl⟩, ⟨_, _, _, rfl⟩, ⟨_, _, _, rfl⟩, ⟨_, _, _, rfl⟩, ⟨_, _, _, rfl⟩, ⟨_, _, _, rfl⟩, ⟨_, _, _, rfl⟩, ⟨_, _, _, rfl⟩⟩
  have EN := hide N1.out.fin
  have R2 := hide N1.out.r2
  have HO := hide (({ zM with kind := m.kind, addrs := m.addrs } : Mg).one ({ nil8 with a := .slice ao47 m.addrs.length ca47 } : Vs) OK.out)
  have HZ := hide (({ zM with kind := m.kind, addrs := m.addrs } : Mg).size ({ nil8 with a := .slice ao47 m.addrs.length ca47 } : Vs))
  have HZm := hide (zM.size nil8)
  have A0 := AMr
  have cm := (Mc.of N0.out.r1).f11
  rw [EA47.out] at cm
  have ck : (w.alloc (.cells (m.cells s).toArray 50) |>.alloc (.cells (zM.cells nil8).toArray 50)).cell? ⟨w.heap.size, 0, none⟩ = some (.int .i64 m.kind) := by
    have e1 := heap_alloc_last w (.cells (m.cells s).toArray 50)
    exact (Mc.of ((Below.heap_alloc _ (.cells (zM.cells nil8).toArray 50) _ (lt_heap e1)).trans e1)).f0
  have ck2 := (Mc.of N0.out.r1).f0
  have hb := run_bldR0 m.kind
  have HOb := hide ((bareM m.kind 0).one nil8 nil8_ok)
  have HZb := hide ((bareM m.kind 0).size nil8)
  have hsz : (w.alloc (.cells (m.cells s).toArray 50)).heap.size = w.heap.size + 1 := by simp
  have hsz2 : ((w.alloc (.cells (m.cells s).toArray 50)).alloc (.cells (zM.cells nil8).toArray 50)).heap.size = w.heap.size + 2 := by simp
  clear N0 N0' N1 hR hk ea47
  generalize hnm : ({ zM with kind := m.kind, addrs := m.addrs } : Mg) = m' at *
  clear hnm
  generalize hns : ({ nil8 with a := .slice ao47 m.addrs.length ca47 } : Vs) = s' at *
  clear hns
  go_enter Tryz.func24, Tryz.ntmps24
  go_upto_region 1 with (with_reducible refine at_list ?_; first | refine wpList_boxA rfl _ rfl (m.cells s).toArray rfl ?_ | refine wpList_allocA AMr rfl rfl ?_)
  rw [hsz]
  clear hsz
  go_upto_region 2 with (with_reducible refine at_list ?_; first | refine wpList_allocA AMr rfl rfl ?_ | refine wpList_store_newA AMr rfl _ _ rfl _ rfl ((bareM m.kind 0).cells nil8).toArray HZb.out HOb.out rfl rfl ?_)
  try rw [hsz2]
  clear hsz2 ck hb HOb HZb
  generalize ((w.alloc (.cells (m.cells s).toArray 50)).alloc (.cells (zM.cells nil8).toArray 50)).alloc (.cells ((bareM m.kind 0).cells nil8).toArray 50) = A at *
  rw [HK.out] at ck2
  go_upto_region 30 with fail
  generalize (A.setCell ⟨w.heap.size + 2, 47, none⟩ (.slice ao47 m.addrs.length ca47)) = W1 at *
  generalize (zM.cells nil8).toArray = Z at *
  go_wp2_with ((with_reducible refine at_list ?_); first | refine wpList_loadS A0 _ rfl (w.heap.size + 2) rfl (m'.cells s').toArray HZ.out 50 EN.out.1 rfl ?_ | refine wpList_storeA A0 rfl _ _ rfl (w.heap.size + 1) (m'.cells s').toArray HZ.out HO.out rfl rfl Z HZm.out 50 R2.out ?_)
  refine bodyPost_ret (resA A0 rfl _ _ _ _ (m'.cells s').toArray HZ.out rfl EN.out.2.1) rfl ?_
  exact ⟨s', by rw [BK.out], OK.out, by rw [BK.out]; exact ML1.out, EN.out.2.2⟩
theorem named_k8 (m : Mg) (s : Vs) (w : World) (hR : MR w s m) (hk : m.kind = 8) : Calls Tryz.prog 24 #[.agg (m.cells s).toArray] w fun e w' => ∃ s', e = .returned (.agg (m.namedK.cells s').toArray) ∧ s'.ok ∧ (∀ W, MR W s m → MR W s' m.namedK) ∧ Below w.heap.size w w' := by
  have N0 := hide (Nm.start w m s)
  have HK := hide hk
  obtain ⟨ao48, ca48, ea48⟩ := hR.i.form
  have EA48 := hide ea48
  have N0' : Hid (Nm w (((w.alloc (.cells (m.cells s).toArray 50)).alloc (.cells (zM.cells nil8).toArray 50)).alloc (.cells ((bareM m.kind 0).cells nil8).toArray 50)) m s ({ zM with kind := m.kind } : Mg) nil8) := N0.out
  have q1 := N0'.out.mc.f12
  have f1 := N0'.out.fz 48
  have N1 : Hid (Nm w ((((w.alloc (.cells (m.cells s).toArray 50)).alloc (.cells (zM.cells nil8).toArray 50)).alloc (.cells ((bareM m.kind 0).cells nil8).toArray 50)).setCell ⟨w.heap.size + 2, 48, none⟩ (.slice ao48 m.items.length ca48)) m s ({ zM with kind := m.kind, items := m.items } : Mg) ({ nil8 with i := .slice ao48 m.items.length ca48 } : Vs)) := N0'.out.set 48 _ (by rw [show 48 = 43 + 5 from rfl, Mg.set1 _ _ 5 _ (by decide)]; rfl)
  have BK : Hid (m.namedK = ({ zM with kind := m.kind, items := m.items } : Mg)) := by show _ = _; unfold Mg.namedK; simp [hk]
  have ML1 : Hid (∀ W, MR W s m → MR W ({ nil8 with i := .slice ao48 m.items.length ca48 } : Vs) ({ zM with kind := m.kind, items := m.items } : Mg)) := fun W h => ⟨LX.nil W, EA48.out ▸ h.i, LX.nil W, LX.nil W, LX.nil W, LX.nil W, LX.nil W, LX.nil W⟩
  have OK : Hid (({ nil8 with i := .slice ao48 m.items.length ca48 } : Vs)).ok := ⟨⟨_, _, _, rfl⟩, ⟨_, _, _, rfl⟩, ⟨_, _, _, rfl⟩, ⟨_, _, _, rfl⟩, ⟨_, _, _, rfl⟩, ⟨_, _, _, rfl⟩, ⟨_, _, _, rfl⟩, ⟨_, _, _, rfl⟩⟩
  have EN := hide N1.out.fin
  have R2 := hide N1.out.r2
  have HO := hide (({ zM with kind := m.kind, items := m.items } : Mg).one ({ nil8 with i := .slice ao48 m.items.length ca48 } : Vs) OK.out)
  have HZ := hide (({ zM with kind := m.kind, items := m.items } : Mg).size ({ nil8 with i := .slice ao48 m.items.length ca48 } : Vs))
  have HZm := hide (zM.size nil8)
  have A0 := AMr
  have cm := (Mc.of N0.out.r1).f12
  rw [EA48.out] at cm
  have ck : (w.alloc (.cells (m.cells s).toArray 50) |>.alloc (.cells (zM.cells nil8).toArray 50)).cell? ⟨w.heap.size, 0, none⟩ = some (.int .i64 m.kind) := by
    have e1 := heap_alloc_last w (.cells (m.cells s).toArray 50)
    exact (Mc.of ((Below.heap_alloc _ (.cells (zM.cells nil8).toArray 50) _ (lt_heap e1)).trans e1)).f0
  have ck2 := (Mc.of N0.out.r1).f0
  have hb := run_bldR0 m.kind
  have HOb := hide ((bareM m.kind 0).one nil8 nil8_ok)
  have HZb := hide ((bareM m.kind 0).size nil8)
  have hsz : (w.alloc (.cells (m.cells s).toArray 50)).heap.size = w.heap.size + 1 := by simp
  have hsz2 : ((w.alloc (.cells (m.cells s).toArray 50)).alloc (.cells (zM.cells nil8).toArray 50)).heap.size = w.heap.size + 2 := by simp
  clear N0 N0' N1 hR hk ea48
  generalize hnm : ({ zM with kind := m.kind, items := m.items } : Mg) = m' at *
  clear hnm
  generalize hns : ({ nil8 with i := .slice ao48 m.items.length ca48 } : Vs) = s' at *
  clear hns
  go_enter Tryz.func24, Tryz.ntmps24
  go_upto_region 1 with (with_reducible refine at_list ?_; first | refine wpList_boxA rfl _ rfl (m.cells s).toArray rfl ?_ | refine wpList_allocA AMr rfl rfl ?_)
  rw [hsz]
  clear hsz
  go_upto_region 2 with (with_reducible refine at_list ?_; first | refine wpList_allocA AMr rfl rfl ?_ | refine wpList_store_newA AMr rfl _ _ rfl _ rfl ((bareM m.kind 0).cells nil8).toArray HZb.out HOb.out rfl rfl ?_)
  try rw [hsz2]
  clear hsz2 ck hb HOb HZb
  generalize ((w.alloc (.cells (m.cells s).toArray 50)).alloc (.cells (zM.cells nil8).toArray 50)).alloc (.cells ((bareM m.kind 0).cells nil8).toArray 50) = A at *
  rw [HK.out] at ck2
  go_upto_region 30 with fail
  generalize (A.setCell ⟨w.heap.size + 2, 48, none⟩ (.slice ao48 m.items.length ca48)) = W1 at *
  generalize (zM.cells nil8).toArray = Z at *
  go_wp2_with ((with_reducible refine at_list ?_); first | refine wpList_loadS A0 _ rfl (w.heap.size + 2) rfl (m'.cells s').toArray HZ.out 50 EN.out.1 rfl ?_ | refine wpList_storeA A0 rfl _ _ rfl (w.heap.size + 1) (m'.cells s').toArray HZ.out HO.out rfl rfl Z HZm.out 50 R2.out ?_)
  refine bodyPost_ret (resA A0 rfl _ _ _ _ (m'.cells s').toArray HZ.out rfl EN.out.2.1) rfl ?_
  exact ⟨s', by rw [BK.out], OK.out, by rw [BK.out]; exact ML1.out, EN.out.2.2⟩
theorem named_k9 (m : Mg) (s : Vs) (w : World) (hR : MR w s m) (hk : m.kind = 9) : Calls Tryz.prog 24 #[.agg (m.cells s).toArray] w fun e w' => ∃ s', e = .returned (.agg (m.namedK.cells s').toArray) ∧ s'.ok ∧ (∀ W, MR W s m → MR W s' m.namedK) ∧ Below w.heap.size w w' := by
  have N0 := hide (Nm.start w m s)
  have HK := hide hk
  obtain ⟨ao48, ca48, ea48⟩ := hR.i.form
  have EA48 := hide ea48
  have N0' : Hid (Nm w (((w.alloc (.cells (m.cells s).toArray 50)).alloc (.cells (zM.cells nil8).toArray 50)).alloc (.cells ((bareM m.kind 0).cells nil8).toArray 50)) m s ({ zM with kind := m.kind } : Mg) nil8) := N0.out
  have q1 := N0'.out.mc.f12
  have f1 := N0'.out.fz 48
  have N1 : Hid (Nm w ((((w.alloc (.cells (m.cells s).toArray 50)).alloc (.cells (zM.cells nil8).toArray 50)).alloc (.cells ((bareM m.kind 0).cells nil8).toArray 50)).setCell ⟨w.heap.size + 2, 48, none⟩ (.slice ao48 m.items.length ca48)) m s ({ zM with kind := m.kind, items := m.items } : Mg) ({ nil8 with i := .slice ao48 m.items.length ca48 } : Vs)) := N0'.out.set 48 _ (by rw [show 48 = 43 + 5 from rfl, Mg.set1 _ _ 5 _ (by decide)]; rfl)
  have BK : Hid (m.namedK = ({ zM with kind := m.kind, items := m.items } : Mg)) := by show _ = _; unfold Mg.namedK; simp [hk]
  have ML1 : Hid (∀ W, MR W s m → MR W ({ nil8 with i := .slice ao48 m.items.length ca48 } : Vs) ({ zM with kind := m.kind, items := m.items } : Mg)) := fun W h => ⟨LX.nil W, EA48.out ▸ h.i, LX.nil W, LX.nil W, LX.nil W, LX.nil W, LX.nil W, LX.nil W⟩
  have OK : Hid (({ nil8 with i := .slice ao48 m.items.length ca48 } : Vs)).ok := ⟨⟨_, _, _, rfl⟩, ⟨_, _, _, rfl⟩, ⟨_, _, _, rfl⟩, ⟨_, _, _, rfl⟩, ⟨_, _, _, rfl⟩, ⟨_, _, _, rfl⟩, ⟨_, _, _, rfl⟩, ⟨_, _, _, rfl⟩⟩
  have EN := hide N1.out.fin
  have R2 := hide N1.out.r2
  have HO := hide (({ zM with kind := m.kind, items := m.items } : Mg).one ({ nil8 with i := .slice ao48 m.items.length ca48 } : Vs) OK.out)
  have HZ := hide (({ zM with kind := m.kind, items := m.items } : Mg).size ({ nil8 with i := .slice ao48 m.items.length ca48 } : Vs))
  have HZm := hide (zM.size nil8)
  have A0 := AMr
  have cm := (Mc.of N0.out.r1).f12
  rw [EA48.out] at cm
  have ck : (w.alloc (.cells (m.cells s).toArray 50) |>.alloc (.cells (zM.cells nil8).toArray 50)).cell? ⟨w.heap.size, 0, none⟩ = some (.int .i64 m.kind) := by
    have e1 := heap_alloc_last w (.cells (m.cells s).toArray 50)
    exact (Mc.of ((Below.heap_alloc _ (.cells (zM.cells nil8).toArray 50) _ (lt_heap e1)).trans e1)).f0
  have ck2 := (Mc.of N0.out.r1).f0
  have hb := run_bldR0 m.kind
  have HOb := hide ((bareM m.kind 0).one nil8 nil8_ok)
  have HZb := hide ((bareM m.kind 0).size nil8)
  have hsz : (w.alloc (.cells (m.cells s).toArray 50)).heap.size = w.heap.size + 1 := by simp
  have hsz2 : ((w.alloc (.cells (m.cells s).toArray 50)).alloc (.cells (zM.cells nil8).toArray 50)).heap.size = w.heap.size + 2 := by simp
  clear N0 N0' N1 hR hk ea48
  generalize hnm : ({ zM with kind := m.kind, items := m.items } : Mg) = m' at *
  clear hnm
  generalize hns : ({ nil8 with i := .slice ao48 m.items.length ca48 } : Vs) = s' at *
  clear hns
  go_enter Tryz.func24, Tryz.ntmps24
  go_upto_region 1 with (with_reducible refine at_list ?_; first | refine wpList_boxA rfl _ rfl (m.cells s).toArray rfl ?_ | refine wpList_allocA AMr rfl rfl ?_)
  rw [hsz]
  clear hsz
  go_upto_region 2 with (with_reducible refine at_list ?_; first | refine wpList_allocA AMr rfl rfl ?_ | refine wpList_store_newA AMr rfl _ _ rfl _ rfl ((bareM m.kind 0).cells nil8).toArray HZb.out HOb.out rfl rfl ?_)
  try rw [hsz2]
  clear hsz2 ck hb HOb HZb
  generalize ((w.alloc (.cells (m.cells s).toArray 50)).alloc (.cells (zM.cells nil8).toArray 50)).alloc (.cells ((bareM m.kind 0).cells nil8).toArray 50) = A at *
  rw [HK.out] at ck2
  go_upto_region 30 with fail
  generalize (A.setCell ⟨w.heap.size + 2, 48, none⟩ (.slice ao48 m.items.length ca48)) = W1 at *
  generalize (zM.cells nil8).toArray = Z at *
  go_wp2_with ((with_reducible refine at_list ?_); first | refine wpList_loadS A0 _ rfl (w.heap.size + 2) rfl (m'.cells s').toArray HZ.out 50 EN.out.1 rfl ?_ | refine wpList_storeA A0 rfl _ _ rfl (w.heap.size + 1) (m'.cells s').toArray HZ.out HO.out rfl rfl Z HZm.out 50 R2.out ?_)
  refine bodyPost_ret (resA A0 rfl _ _ _ _ (m'.cells s').toArray HZ.out rfl EN.out.2.1) rfl ?_
  exact ⟨s', by rw [BK.out], OK.out, by rw [BK.out]; exact ML1.out, EN.out.2.2⟩
theorem named_k10 (m : Mg) (s : Vs) (w : World) (hR : MR w s m) (hk : m.kind = 10) : Calls Tryz.prog 24 #[.agg (m.cells s).toArray] w fun e w' => ∃ s', e = .returned (.agg (m.namedK.cells s').toArray) ∧ s'.ok ∧ (∀ W, MR W s m → MR W s' m.namedK) ∧ Below w.heap.size w w' := by
  have N0 := hide (Nm.start w m s)
  have HK := hide hk
  obtain ⟨ao48, ca48, ea48⟩ := hR.i.form
  have EA48 := hide ea48
  have N0' : Hid (Nm w (((w.alloc (.cells (m.cells s).toArray 50)).alloc (.cells (zM.cells nil8).toArray 50)).alloc (.cells ((bareM m.kind 0).cells nil8).toArray 50)) m s ({ zM with kind := m.kind } : Mg) nil8) := N0.out
  have q1 := N0'.out.mc.f12
  have f1 := N0'.out.fz 48
  have N1 : Hid (Nm w ((((w.alloc (.cells (m.cells s).toArray 50)).alloc (.cells (zM.cells nil8).toArray 50)).alloc (.cells ((bareM m.kind 0).cells nil8).toArray 50)).setCell ⟨w.heap.size + 2, 48, none⟩ (.slice ao48 m.items.length ca48)) m s ({ zM with kind := m.kind, items := m.items } : Mg) ({ nil8 with i := .slice ao48 m.items.length ca48 } : Vs)) := N0'.out.set 48 _ (by rw [show 48 = 43 + 5 from rfl, Mg.set1 _ _ 5 _ (by decide)]; rfl)
  have BK : Hid (m.namedK = ({ zM with kind := m.kind, items := m.items } : Mg)) := by show _ = _; unfold Mg.namedK; simp [hk]
  have ML1 : Hid (∀ W, MR W s m → MR W ({ nil8 with i := .slice ao48 m.items.length ca48 } : Vs) ({ zM with kind := m.kind, items := m.items } : Mg)) := fun W h => ⟨LX.nil W, EA48.out ▸ h.i, LX.nil W, LX.nil W, LX.nil W, LX.nil W, LX.nil W, LX.nil W⟩
  have OK : Hid (({ nil8 with i := .slice ao48 m.items.length ca48 } : Vs)).ok := ⟨⟨_, _, _, rfl⟩, ⟨_, _, _, rfl⟩, ⟨_, _, _, rfl⟩, ⟨_, _, _, rfl⟩, ⟨_, _, _, rfl⟩, ⟨_, _, _, rfl⟩, ⟨_, _, _, rfl⟩, ⟨_, _, _, rfl⟩⟩
  have EN := hide N1.out.fin
  have R2 := hide N1.out.r2
  have HO := hide (({ zM with kind := m.kind, items := m.items } : Mg).one ({ nil8 with i := .slice ao48 m.items.length ca48 } : Vs) OK.out)
  have HZ := hide (({ zM with kind := m.kind, items := m.items } : Mg).size ({ nil8 with i := .slice ao48 m.items.length ca48 } : Vs))
  have HZm := hide (zM.size nil8)
  have A0 := AMr
  have cm := (Mc.of N0.out.r1).f12
  rw [EA48.out] at cm
  have ck : (w.alloc (.cells (m.cells s).toArray 50) |>.alloc (.cells (zM.cells nil8).toArray 50)).cell? ⟨w.heap.size, 0, none⟩ = some (.int .i64 m.kind) := by
    have e1 := heap_alloc_last w (.cells (m.cells s).toArray 50)
    exact (Mc.of ((Below.heap_alloc _ (.cells (zM.cells nil8).toArray 50) _ (lt_heap e1)).trans e1)).f0
  have ck2 := (Mc.of N0.out.r1).f0
  have hb := run_bldR0 m.kind
  have HOb := hide ((bareM m.kind 0).one nil8 nil8_ok)
  have HZb := hide ((bareM m.kind 0).size nil8)
  have hsz : (w.alloc (.cells (m.cells s).toArray 50)).heap.size = w.heap.size + 1 := by simp
  have hsz2 : ((w.alloc (.cells (m.cells s).toArray 50)).alloc (.cells (zM.cells nil8).toArray 50)).heap.size = w.heap.size + 2 := by simp
  clear N0 N0' N1 hR hk ea48
  generalize hnm : ({ zM with kind := m.kind, items := m.items } : Mg) = m' at *
  clear hnm
  generalize hns : ({ nil8 with i := .slice ao48 m.items.length ca48 } : Vs) = s' at *
  clear hns
  go_enter Tryz.func24, Tryz.ntmps24
  go_upto_region 1 with (with_reducible refine at_list ?_; first | refine wpList_boxA rfl _ rfl (m.cells s).toArray rfl ?_ | refine wpList_allocA AMr rfl rfl ?_)
  rw [hsz]
  clear hsz
  go_upto_region 2 with (with_reducible refine at_list ?_; first | refine wpList_allocA AMr rfl rfl ?_ | refine wpList_store_newA AMr rfl _ _ rfl _ rfl ((bareM m.kind 0).cells nil8).toArray HZb.out HOb.out rfl rfl ?_)
  try rw [hsz2]
  clear hsz2 ck hb HOb HZb
  generalize ((w.alloc (.cells (m.cells s).toArray 50)).alloc (.cells (zM.cells nil8).toArray 50)).alloc (.cells ((bareM m.kind 0).cells nil8).toArray 50) = A at *
  rw [HK.out] at ck2
  go_upto_region 30 with fail
  generalize (A.setCell ⟨w.heap.size + 2, 48, none⟩ (.slice ao48 m.items.length ca48)) = W1 at *
  generalize (zM.cells nil8).toArray = Z at *
  go_wp2_with ((with_reducible refine at_list ?_); first | refine wpList_loadS A0 _ rfl (w.heap.size + 2) rfl (m'.cells s').toArray HZ.out 50 EN.out.1 rfl ?_ | refine wpList_storeA A0 rfl _ _ rfl (w.heap.size + 1) (m'.cells s').toArray HZ.out HO.out rfl rfl Z HZm.out 50 R2.out ?_)
  refine bodyPost_ret (resA A0 rfl _ _ _ _ (m'.cells s').toArray HZ.out rfl EN.out.2.1) rfl ?_
  exact ⟨s', by rw [BK.out], OK.out, by rw [BK.out]; exact ML1.out, EN.out.2.2⟩
theorem named_k11 (m : Mg) (s : Vs) (w : World) (hR : MR w s m) (hk : m.kind = 11) : Calls Tryz.prog 24 #[.agg (m.cells s).toArray] w fun e w' => ∃ s', e = .returned (.agg (m.namedK.cells s').toArray) ∧ s'.ok ∧ (∀ W, MR W s m → MR W s' m.namedK) ∧ Below w.heap.size w w' := by
  have N0 := hide (Nm.start w m s)
  have HK := hide hk
  obtain ⟨ao49, ca49, ea49⟩ := hR.h.form
  have EA49 := hide ea49
  have N0' : Hid (Nm w (((w.alloc (.cells (m.cells s).toArray 50)).alloc (.cells (zM.cells nil8).toArray 50)).alloc (.cells ((bareM m.kind 0).cells nil8).toArray 50)) m s ({ zM with kind := m.kind } : Mg) nil8) := N0.out
  have q1 := N0'.out.mc.f1
  have f1 := N0'.out.fz 1
  have N1 : Hid (Nm w ((((w.alloc (.cells (m.cells s).toArray 50)).alloc (.cells (zM.cells nil8).toArray 50)).alloc (.cells ((bareM m.kind 0).cells nil8).toArray 50)).setCell ⟨w.heap.size + 2, 1, none⟩ (.int .u32 (m.vers.toNat : Int))) m s ({ zM with kind := m.kind, vers := m.vers } : Mg) nil8) := N0'.out.set 1 _ (rfl)
  have q2 := N1.out.mc.f13
  have f2 := N1.out.fz 49
  have N2 : Hid (Nm w (((((w.alloc (.cells (m.cells s).toArray 50)).alloc (.cells (zM.cells nil8).toArray 50)).alloc (.cells ((bareM m.kind 0).cells nil8).toArray 50)).setCell ⟨w.heap.size + 2, 1, none⟩ (.int .u32 (m.vers.toNat : Int))).setCell ⟨w.heap.size + 2, 49, none⟩ (.slice ao49 m.hashes.length ca49)) m s ({ zM with kind := m.kind, vers := m.vers, hashes := m.hashes } : Mg) ({ nil8 with h := .slice ao49 m.hashes.length ca49 } : Vs)) := N1.out.set 49 _ (by rw [show 49 = 43 + 6 from rfl, Mg.set1 _ _ 6 _ (by decide)]; rfl)
  have ND : Hid (Nm w (((((w.alloc (.cells (m.cells s).toArray 50)).alloc (.cells (zM.cells nil8).toArray 50)).alloc (.cells ((bareM m.kind 0).cells nil8).toArray 50)).setCell ⟨w.heap.size + 2, 1, none⟩ (.int .u32 (m.vers.toNat : Int))).setCell ⟨w.heap.size + 2, 49, none⟩ (.slice ao49 m.hashes.length ca49)).drew m s ({ zM with kind := m.kind, vers := m.vers, hashes := m.hashes } : Mg) ({ nil8 with h := .slice ao49 m.hashes.length ca49 } : Vs)) := N2.out.drew
  have T3 : Hid (((((((w.alloc (.cells (m.cells s).toArray 50)).alloc (.cells (zM.cells nil8).toArray 50)).alloc (.cells ((bareM m.kind 0).cells nil8).toArray 50)).setCell ⟨w.heap.size + 2, 1, none⟩ (.int .u32 (m.vers.toNat : Int))).setCell ⟨w.heap.size + 2, 49, none⟩ (.slice ao49 m.hashes.length ca49)).drew).there (w.heap.size + 2) 50 (cellsL m.stop.1).toArray.size) := by show World.there _ _ _ _; rw [hcI]; exact ND.out.there 50 32 (by decide)
  have N3 : Hid (Nm w (((((((w.alloc (.cells (m.cells s).toArray 50)).alloc (.cells (zM.cells nil8).toArray 50)).alloc (.cells ((bareM m.kind 0).cells nil8).toArray 50)).setCell ⟨w.heap.size + 2, 1, none⟩ (.int .u32 (m.vers.toNat : Int))).setCell ⟨w.heap.size + 2, 49, none⟩ (.slice ao49 m.hashes.length ca49)).drew).setCells (w.heap.size + 2) 50 (cellsL m.stop.1)) m s ({ zM with kind := m.kind, vers := m.vers, hashes := m.hashes, stop := m.stop } : Mg) ({ nil8 with h := .slice ao49 m.hashes.length ca49 } : Vs)) := ND.out.setL _ _ (cellsL m.stop.1) _ (by rw [cellsL_len, cellsL_len]; exact zI.2.trans m.stop.2.symm) (({ zM with kind := m.kind, vers := m.vers, hashes := m.hashes } : Mg).spT ({ nil8 with h := .slice ao49 m.hashes.length ca49 } : Vs)) (({ zM with kind := m.kind, vers := m.vers, hashes := m.hashes, stop := m.stop } : Mg).spT ({ nil8 with h := .slice ao49 m.hashes.length ca49 } : Vs)) 50 (({ zM with kind := m.kind, vers := m.vers, hashes := m.hashes } : Mg).lT ({ nil8 with h := .slice ao49 m.hashes.length ca49 } : Vs))
  have BK : Hid (m.namedK = ({ zM with kind := m.kind, vers := m.vers, hashes := m.hashes, stop := m.stop } : Mg)) := by show _ = _; unfold Mg.namedK; simp [hk]
  have ML1 : Hid (∀ W, MR W s m → MR W ({ nil8 with h := .slice ao49 m.hashes.length ca49 } : Vs) ({ zM with kind := m.kind, vers := m.vers, hashes := m.hashes, stop := m.stop } : Mg)) := fun W h => ⟨LX.nil W, LX.nil W, EA49.out ▸ h.h, LX.nil W, LX.nil W, LX.nil W, LX.nil W, LX.nil W⟩
  have OK : Hid (({ nil8 with h := .slice ao49 m.hashes.length ca49 } : Vs)).ok := ⟨⟨_, _, _, rfl⟩, ⟨_, _, _, rfl⟩, ⟨_, _, _, rfl⟩, ⟨_, _, _, rfl⟩, ⟨_, _, _, rfl⟩, ⟨_, _, _, rfl⟩, ⟨_, _, _, rfl⟩, ⟨_, _, _, rfl⟩⟩
  have EN := hide N3.out.fin
  have R2 := hide N3.out.r2
  have HO := hide (({ zM with kind := m.kind, vers := m.vers, hashes := m.hashes, stop := m.stop } : Mg).one ({ nil8 with h := .slice ao49 m.hashes.length ca49 } : Vs) OK.out)
  have HZ := hide (({ zM with kind := m.kind, vers := m.vers, hashes := m.hashes, stop := m.stop } : Mg).size ({ nil8 with h := .slice ao49 m.hashes.length ca49 } : Vs))
  have HZm := hide (zM.size nil8)
  have A0 := AMr
  have R1 : Hid (∀ W : World, W.heap[w.heap.size]? = some (.cells (m.cells s).toArray 50 (0, 0)) → Mc W w.heap.size m s) := fun W h => Mc.of h
  have S1 := hide N1.out.r1
  have S2 := hide N2.out.r1
  have S3 := hide N3.out.r1
  have S0 := hide N0.out.r1
  have I3 : Hid ((Tryz.prog.info? 31).map (·.size) = some (cellsL m.stop.1).toArray.size) := by show _ = _; rw [hcI]; kernel_rfl
  have O3 : Hid (∀ v ∈ (cellsL m.stop.1), v.oneCell' = true) := cellsL_one _
  have ck : (w.alloc (.cells (m.cells s).toArray 50) |>.alloc (.cells (zM.cells nil8).toArray 50)).cell? ⟨w.heap.size, 0, none⟩ = some (.int .i64 m.kind) := by
    have e1 := heap_alloc_last w (.cells (m.cells s).toArray 50)
    exact (Mc.of ((Below.heap_alloc _ (.cells (zM.cells nil8).toArray 50) _ (lt_heap e1)).trans e1)).f0
  have ck2 := (Mc.of N0.out.r1).f0
  have hb := run_bldR0 m.kind
  have HOb := hide ((bareM m.kind 0).one nil8 nil8_ok)
  have HZb := hide ((bareM m.kind 0).size nil8)
  have hsz : (w.alloc (.cells (m.cells s).toArray 50)).heap.size = w.heap.size + 1 := by simp
  have hsz2 : ((w.alloc (.cells (m.cells s).toArray 50)).alloc (.cells (zM.cells nil8).toArray 50)).heap.size = w.heap.size + 2 := by simp
  clear N0 N0' N1 N2 N3 ND hR hk ea49
  generalize hnm : ({ zM with kind := m.kind, vers := m.vers, hashes := m.hashes, stop := m.stop } : Mg) = m' at *
  clear hnm
  generalize hns : ({ nil8 with h := .slice ao49 m.hashes.length ca49 } : Vs) = s' at *
  clear hns
  go_enter Tryz.func24, Tryz.ntmps24
  go_upto_region 1 with (with_reducible refine at_list ?_; first | refine wpList_boxA rfl _ rfl (m.cells s).toArray rfl ?_ | refine wpList_allocA AMr rfl rfl ?_)
  rw [hsz]
  clear hsz
  go_upto_region 2 with (with_reducible refine at_list ?_; first | refine wpList_allocA AMr rfl rfl ?_ | refine wpList_store_newA AMr rfl _ _ rfl _ rfl ((bareM m.kind 0).cells nil8).toArray HZb.out HOb.out rfl rfl ?_)
  try rw [hsz2]
  clear hsz2 ck hb HOb HZb
  generalize ((w.alloc (.cells (m.cells s).toArray 50)).alloc (.cells (zM.cells nil8).toArray 50)).alloc (.cells ((bareM m.kind 0).cells nil8).toArray 50) = A at *
  rw [HK.out] at ck2
  go_upto_region 16 with fail
  refine wp_region_held_drew (S := fun W => W.heap[w.heap.size]? = some (.cells (m.cells s).toArray 50 (0, 0))) (by kernel_rfl) S0.out (fun hH => ?_)
  refine wpAnyH_take (i := 0) (v := (.pointer (some ⟨w.heap.size, 1, none⟩))) rfl (by kernel_rfl) (by kernel_rfl) (by kernel_rfl) (fun _ _ _ h => h) (.inl ⟨by rfl, fun W _ => by go_simp⟩) hH ?_
  change wpAnyH _ _ _ _ _ _ _ (Act.put _ (some 62) _) _
  simp only [Act.put, List.setIfInBounds_toArray, List.set_cons_zero, List.set_cons_succ]
  refine wpAnyH_take (i := 1) (v := (.int .u32 (m.vers.toNat : Int))) rfl (by kernel_rfl) (by kernel_rfl) (by kernel_rfl) (fun _ _ _ h => h) (.inl ⟨by rfl, fun W hS => by have c4 := (R1.out W hS).f1; go_simp⟩) hH ?_
  change wpAnyH _ _ _ _ _ _ _ (Act.put _ (some 63) _) _
  simp only [Act.put, List.setIfInBounds_toArray, List.set_cons_zero, List.set_cons_succ]
  refine wpAnyH_take (i := 2) (v := (.pointer (some ⟨w.heap.size, 49, none⟩))) rfl (by kernel_rfl) (by kernel_rfl) (by kernel_rfl) (fun _ _ _ h => h) (.inl ⟨by rfl, fun W _ => by go_simp⟩) hH ?_
  change wpAnyH _ _ _ _ _ _ _ (Act.put _ (some 64) _) _
  simp only [Act.put, List.setIfInBounds_toArray, List.set_cons_zero, List.set_cons_succ]
  refine wpAnyH_take (i := 3) (v := (.slice ao49 m.hashes.length ca49)) rfl (by kernel_rfl) (by kernel_rfl) (by kernel_rfl) (fun _ _ _ h => h) (.inl ⟨by rfl, fun W hS => by have c4 := (R1.out W hS).f13; rw [EA49.out] at c4; go_simp⟩) hH ?_
  change wpAnyH _ _ _ _ _ _ _ (Act.put _ (some 65) _) _
  simp only [Act.put, List.setIfInBounds_toArray, List.set_cons_zero, List.set_cons_succ]
  refine wpAnyH_take (i := 4) (v := (.pointer (some ⟨w.heap.size, 50, none⟩))) rfl (by kernel_rfl) (by kernel_rfl) (by kernel_rfl) (fun _ _ _ h => h) (.inl ⟨by rfl, fun W _ => by go_simp⟩) hH ?_
  change wpAnyH _ _ _ _ _ _ _ (Act.put _ (some 66) _) _
  simp only [Act.put, List.setIfInBounds_toArray, List.set_cons_zero, List.set_cons_succ]
  refine wpAnyH_take (i := 5) (v := (.agg (cellsL m.stop.1).toArray)) rfl (by kernel_rfl) (by kernel_rfl) (by kernel_rfl) (fun _ _ _ h => h) (yl_load (by rfl) _ (by rfl) _ (cellsL m.stop.1).toArray (by rfl) (fun W hS => KHr.load m.stop Tryz.underlying31 rfl (R1.out W hS).stop)) hH ?_
  change wpAnyH _ _ _ _ _ _ _ (Act.put _ (some 67) _) _
  simp only [Act.put, List.setIfInBounds_toArray, List.set_cons_zero, List.set_cons_succ]
  skip
  refine wpAnyH_take (i := 6) (v := (.pointer (some ⟨w.heap.size + 2, 1, none⟩))) rfl (by kernel_rfl) (by kernel_rfl) (by kernel_rfl) (fun _ _ _ h => h) (.inl ⟨by rfl, fun W _ => by go_simp⟩) hH ?_
  change wpAnyH _ _ _ _ _ _ _ (Act.put _ (some 68) _) _
  simp only [Act.put, List.setIfInBounds_toArray, List.set_cons_zero, List.set_cons_succ]
  refine wpAnyH_ready (rs := [7]) (by kernel_rfl) (by simp) (AllReadyH.cons rfl (fun K1 hK1 => ?_) AllReadyH.nil)
  go_simp
  refine hK1.out _ _ S1.out (fun hH => ?_)
  clear hK1
  refine wpAnyH_take (i := 8) (v := (.pointer (some ⟨w.heap.size + 2, 49, none⟩))) rfl (by kernel_rfl) (by kernel_rfl) (by kernel_rfl) (fun _ _ _ h => h) (.inl ⟨by rfl, fun W _ => by go_simp⟩) hH ?_
  change wpAnyH _ _ _ _ _ _ _ (Act.put _ (some 69) _) _
  simp only [Act.put, List.setIfInBounds_toArray, List.set_cons_zero, List.set_cons_succ]
  refine wpAnyH_ready (rs := [9]) (by kernel_rfl) (by simp) (AllReadyH.cons rfl (fun K1 hK1 => ?_) AllReadyH.nil)
  go_simp
  refine hK1.out _ _ S2.out (fun hH => ?_)
  clear hK1
  refine wpAnyH_take (i := 10) (v := (.pointer (some ⟨w.heap.size + 2, 50, none⟩))) rfl (by kernel_rfl) (by kernel_rfl) (by kernel_rfl) (fun _ _ _ h => h) (.inl ⟨by rfl, fun W _ => by go_simp⟩) hH ?_
  change wpAnyH _ _ _ _ _ _ _ (Act.put _ (some 70) _) _
  simp only [Act.put, List.setIfInBounds_toArray, List.set_cons_zero, List.set_cons_succ]
  refine wpAnyH_ready (rs := [11]) (by kernel_rfl) (by simp) (AllReadyH.cons rfl (fun K1 hK1 => ?_) AllReadyH.nil)
  refine stepStoreMid rfl 31 _ _ rfl (w.heap.size + 2) 50 (cellsL m.stop.1).toArray rfl rfl T3.out I3.out (all_oneCell_toArray O3.out) ?_
  refine hK1.out _ _ S3.out (fun hH => ?_)
  clear hK1
  refine wpAnyH_done (by kernel_rfl) ?_ _
  go_upto_region 30 with fail
  generalize ((((A.setCell ⟨w.heap.size + 2, 1, none⟩ (.int .u32 (m.vers.toNat : Int))).setCell ⟨w.heap.size + 2, 49, none⟩ (.slice ao49 m.hashes.length ca49)).drew).setCells (w.heap.size + 2) 50 (cellsL m.stop.1)) = W1 at *
  generalize (zM.cells nil8).toArray = Z at *
  go_wp2_with ((with_reducible refine at_list ?_); first | refine wpList_loadS A0 _ rfl (w.heap.size + 2) rfl (m'.cells s').toArray HZ.out 50 EN.out.1 rfl ?_ | refine wpList_storeA A0 rfl _ _ rfl (w.heap.size + 1) (m'.cells s').toArray HZ.out HO.out rfl rfl Z HZm.out 50 R2.out ?_)
  refine bodyPost_ret (resA A0 rfl _ _ _ _ (m'.cells s').toArray HZ.out rfl EN.out.2.1) rfl ?_
  exact ⟨s', by rw [BK.out], OK.out, by rw [BK.out]; exact ML1.out, EN.out.2.2⟩
theorem named_k12 (m : Mg) (s : Vs) (w : World) (hR : MR w s m) (hk : m.kind = 12) : Calls Tryz.prog 24 #[.agg (m.cells s).toArray] w fun e w' => ∃ s', e = .returned (.agg (m.namedK.cells s').toArray) ∧ s'.ok ∧ (∀ W, MR W s m → MR W s' m.namedK) ∧ Below w.heap.size w w' := by
  have N0 := hide (Nm.start w m s)
  have HK := hide hk
  obtain ⟨ao114, ca114, ea114⟩ := hR.hd.form
  have EA114 := hide ea114
  have N0' : Hid (Nm w (((w.alloc (.cells (m.cells s).toArray 50)).alloc (.cells (zM.cells nil8).toArray 50)).alloc (.cells ((bareM m.kind 0).cells nil8).toArray 50)) m s ({ zM with kind := m.kind } : Mg) nil8) := N0.out
  have q1 := N0'.out.mc.f16
  have f1 := N0'.out.fz 114
  have N1 : Hid (Nm w ((((w.alloc (.cells (m.cells s).toArray 50)).alloc (.cells (zM.cells nil8).toArray 50)).alloc (.cells ((bareM m.kind 0).cells nil8).toArray 50)).setCell ⟨w.heap.size + 2, 114, none⟩ (.slice ao114 m.heads.length ca114)) m s ({ zM with kind := m.kind, heads := m.heads } : Mg) ({ nil8 with hd := .slice ao114 m.heads.length ca114 } : Vs)) := N0'.out.set 114 _ (by rw [show 114 = 114 + 0 from rfl, Mg.set2 _ _ 0 _]; rfl)
  have BK : Hid (m.namedK = ({ zM with kind := m.kind, heads := m.heads } : Mg)) := by show _ = _; unfold Mg.namedK; simp [hk]
  have ML1 : Hid (∀ W, MR W s m → MR W ({ nil8 with hd := .slice ao114 m.heads.length ca114 } : Vs) ({ zM with kind := m.kind, heads := m.heads } : Mg)) := fun W h => ⟨LX.nil W, LX.nil W, LX.nil W, EA114.out ▸ h.hd, LX.nil W, LX.nil W, LX.nil W, LX.nil W⟩
  have OK : Hid (({ nil8 with hd := .slice ao114 m.heads.length ca114 } : Vs)).ok := ⟨⟨_, _, _, rfl⟩, ⟨_, _, _, rfl⟩, ⟨_, _, _, rfl⟩, ⟨_, _, _, rfl⟩, ⟨_, _, _, rfl⟩, ⟨_, _, _, rfl⟩, ⟨_, _, _, rfl⟩, ⟨_, _, _, rfl⟩⟩
  have EN := hide N1.out.fin
  have R2 := hide N1.out.r2
  have HO := hide (({ zM with kind := m.kind, heads := m.heads } : Mg).one ({ nil8 with hd := .slice ao114 m.heads.length ca114 } : Vs) OK.out)
  have HZ := hide (({ zM with kind := m.kind, heads := m.heads } : Mg).size ({ nil8 with hd := .slice ao114 m.heads.length ca114 } : Vs))
  have HZm := hide (zM.size nil8)
  have A0 := AMr
  have cm := (Mc.of N0.out.r1).f16
  rw [EA114.out] at cm
  have ck : (w.alloc (.cells (m.cells s).toArray 50) |>.alloc (.cells (zM.cells nil8).toArray 50)).cell? ⟨w.heap.size, 0, none⟩ = some (.int .i64 m.kind) := by
    have e1 := heap_alloc_last w (.cells (m.cells s).toArray 50)
    exact (Mc.of ((Below.heap_alloc _ (.cells (zM.cells nil8).toArray 50) _ (lt_heap e1)).trans e1)).f0
  have ck2 := (Mc.of N0.out.r1).f0
  have hb := run_bldR0 m.kind
  have HOb := hide ((bareM m.kind 0).one nil8 nil8_ok)
  have HZb := hide ((bareM m.kind 0).size nil8)
  have hsz : (w.alloc (.cells (m.cells s).toArray 50)).heap.size = w.heap.size + 1 := by simp
  have hsz2 : ((w.alloc (.cells (m.cells s).toArray 50)).alloc (.cells (zM.cells nil8).toArray 50)).heap.size = w.heap.size + 2 := by simp
  clear N0 N0' N1 hR hk ea114
  generalize hnm : ({ zM with kind := m.kind, heads := m.heads } : Mg) = m' at *
  clear hnm
  generalize hns : ({ nil8 with hd := .slice ao114 m.heads.length ca114 } : Vs) = s' at *
  clear hns
  go_enter Tryz.func24, Tryz.ntmps24
  go_upto_region 1 with (with_reducible refine at_list ?_; first | refine wpList_boxA rfl _ rfl (m.cells s).toArray rfl ?_ | refine wpList_allocA AMr rfl rfl ?_)
  rw [hsz]
  clear hsz
  go_upto_region 2 with (with_reducible refine at_list ?_; first | refine wpList_allocA AMr rfl rfl ?_ | refine wpList_store_newA AMr rfl _ _ rfl _ rfl ((bareM m.kind 0).cells nil8).toArray HZb.out HOb.out rfl rfl ?_)
  try rw [hsz2]
  clear hsz2 ck hb HOb HZb
  generalize ((w.alloc (.cells (m.cells s).toArray 50)).alloc (.cells (zM.cells nil8).toArray 50)).alloc (.cells ((bareM m.kind 0).cells nil8).toArray 50) = A at *
  rw [HK.out] at ck2
  go_upto_region 30 with fail
  generalize (A.setCell ⟨w.heap.size + 2, 114, none⟩ (.slice ao114 m.heads.length ca114)) = W1 at *
  generalize (zM.cells nil8).toArray = Z at *
  go_wp2_with ((with_reducible refine at_list ?_); first | refine wpList_loadS A0 _ rfl (w.heap.size + 2) rfl (m'.cells s').toArray HZ.out 50 EN.out.1 rfl ?_ | refine wpList_storeA A0 rfl _ _ rfl (w.heap.size + 1) (m'.cells s').toArray HZ.out HO.out rfl rfl Z HZm.out 50 R2.out ?_)
  refine bodyPost_ret (resA A0 rfl _ _ _ _ (m'.cells s').toArray HZ.out rfl EN.out.2.1) rfl ?_
  exact ⟨s', by rw [BK.out], OK.out, by rw [BK.out]; exact ML1.out, EN.out.2.2⟩
theorem named_k13 (m : Mg) (s : Vs) (w : World) (hR : MR w s m) (hk : m.kind = 13) : Calls Tryz.prog 24 #[.agg (m.cells s).toArray] w fun e w' => ∃ s', e = .returned (.agg (m.namedK.cells s').toArray) ∧ s'.ok ∧ (∀ W, MR W s m → MR W s' m.namedK) ∧ Below w.heap.size w w' := by
  have N0 := hide (Nm.start w m s)
  have HK := hide hk
  have N0' : Hid (Nm w (((w.alloc (.cells (m.cells s).toArray 50)).alloc (.cells (zM.cells nil8).toArray 50)).alloc (.cells ((bareM m.kind 0).cells nil8).toArray 50)) m s ({ zM with kind := m.kind } : Mg) nil8) := N0.out
  have q1 := N0'.out.mc.f18
  have f1 := N0'.out.fz 116
  have N1 : Hid (Nm w ((((w.alloc (.cells (m.cells s).toArray 50)).alloc (.cells (zM.cells nil8).toArray 50)).alloc (.cells ((bareM m.kind 0).cells nil8).toArray 50)).setCell ⟨w.heap.size + 2, 116, none⟩ (.string m.raw)) m s ({ zM with kind := m.kind, raw := m.raw } : Mg) nil8) := N0'.out.set 116 _ (by rw [show 116 = 114 + 2 from rfl, Mg.set2 _ _ 2 _]; rfl)
  have BK : Hid (m.namedK = ({ zM with kind := m.kind, raw := m.raw } : Mg)) := by show _ = _; unfold Mg.namedK; simp [hk]
  have ML1 : Hid (∀ W, MR W s m → MR W nil8 ({ zM with kind := m.kind, raw := m.raw } : Mg)) := fun W h => ⟨LX.nil W, LX.nil W, LX.nil W, LX.nil W, LX.nil W, LX.nil W, LX.nil W, LX.nil W⟩
  have OK : Hid (nil8).ok := ⟨⟨_, _, _, rfl⟩, ⟨_, _, _, rfl⟩, ⟨_, _, _, rfl⟩, ⟨_, _, _, rfl⟩, ⟨_, _, _, rfl⟩, ⟨_, _, _, rfl⟩, ⟨_, _, _, rfl⟩, ⟨_, _, _, rfl⟩⟩
  have EN := hide N1.out.fin
  have R2 := hide N1.out.r2
  have HO := hide (({ zM with kind := m.kind, raw := m.raw } : Mg).one nil8 OK.out)
  have HZ := hide (({ zM with kind := m.kind, raw := m.raw } : Mg).size nil8)
  have HZm := hide (zM.size nil8)
  have A0 := AMr
  have cm := (Mc.of N0.out.r1).f18
  have ck : (w.alloc (.cells (m.cells s).toArray 50) |>.alloc (.cells (zM.cells nil8).toArray 50)).cell? ⟨w.heap.size, 0, none⟩ = some (.int .i64 m.kind) := by
    have e1 := heap_alloc_last w (.cells (m.cells s).toArray 50)
    exact (Mc.of ((Below.heap_alloc _ (.cells (zM.cells nil8).toArray 50) _ (lt_heap e1)).trans e1)).f0
  have ck2 := (Mc.of N0.out.r1).f0
  have hb := run_bldR0 m.kind
  have HOb := hide ((bareM m.kind 0).one nil8 nil8_ok)
  have HZb := hide ((bareM m.kind 0).size nil8)
  have hsz : (w.alloc (.cells (m.cells s).toArray 50)).heap.size = w.heap.size + 1 := by simp
  have hsz2 : ((w.alloc (.cells (m.cells s).toArray 50)).alloc (.cells (zM.cells nil8).toArray 50)).heap.size = w.heap.size + 2 := by simp
  clear N0 N0' N1 hR hk 
  generalize hnm : ({ zM with kind := m.kind, raw := m.raw } : Mg) = m' at *
  clear hnm
  go_enter Tryz.func24, Tryz.ntmps24
  go_upto_region 1 with (with_reducible refine at_list ?_; first | refine wpList_boxA rfl _ rfl (m.cells s).toArray rfl ?_ | refine wpList_allocA AMr rfl rfl ?_)
  rw [hsz]
  clear hsz
  go_upto_region 2 with (with_reducible refine at_list ?_; first | refine wpList_allocA AMr rfl rfl ?_ | refine wpList_store_newA AMr rfl _ _ rfl _ rfl ((bareM m.kind 0).cells nil8).toArray HZb.out HOb.out rfl rfl ?_)
  try rw [hsz2]
  clear hsz2 ck hb HOb HZb
  generalize ((w.alloc (.cells (m.cells s).toArray 50)).alloc (.cells (zM.cells nil8).toArray 50)).alloc (.cells ((bareM m.kind 0).cells nil8).toArray 50) = A at *
  rw [HK.out] at ck2
  go_upto_region 30 with fail
  generalize (A.setCell ⟨w.heap.size + 2, 116, none⟩ (.string m.raw)) = W1 at *
  generalize (zM.cells nil8).toArray = Z at *
  go_wp2_with ((with_reducible refine at_list ?_); first | refine wpList_loadS A0 _ rfl (w.heap.size + 2) rfl (m'.cells nil8).toArray HZ.out 50 EN.out.1 rfl ?_ | refine wpList_storeA A0 rfl _ _ rfl (w.heap.size + 1) (m'.cells nil8).toArray HZ.out HO.out rfl rfl Z HZm.out 50 R2.out ?_)
  refine bodyPost_ret (resA A0 rfl _ _ _ _ (m'.cells nil8).toArray HZ.out rfl EN.out.2.1) rfl ?_
  exact ⟨nil8, by rw [BK.out], OK.out, by rw [BK.out]; exact ML1.out, EN.out.2.2⟩
theorem named_k14 (m : Mg) (s : Vs) (w : World) (hR : MR w s m) (hk : m.kind = 14) : Calls Tryz.prog 24 #[.agg (m.cells s).toArray] w fun e w' => ∃ s', e = .returned (.agg (m.namedK.cells s').toArray) ∧ s'.ok ∧ (∀ W, MR W s m → MR W s' m.namedK) ∧ Below w.heap.size w w' := by
  have N0 := hide (Nm.start w m s)
  have HK := hide hk
  have N0' : Hid (Nm w (((w.alloc (.cells (m.cells s).toArray 50)).alloc (.cells (zM.cells nil8).toArray 50)).alloc (.cells ((bareM m.kind 0).cells nil8).toArray 50)) m s ({ zM with kind := m.kind } : Mg) nil8) := N0.out
  have q1 := N0'.out.mc.f18
  have f1 := N0'.out.fz 116
  have N1 : Hid (Nm w ((((w.alloc (.cells (m.cells s).toArray 50)).alloc (.cells (zM.cells nil8).toArray 50)).alloc (.cells ((bareM m.kind 0).cells nil8).toArray 50)).setCell ⟨w.heap.size + 2, 116, none⟩ (.string m.raw)) m s ({ zM with kind := m.kind, raw := m.raw } : Mg) nil8) := N0'.out.set 116 _ (by rw [show 116 = 114 + 2 from rfl, Mg.set2 _ _ 2 _]; rfl)
  have BK : Hid (m.namedK = ({ zM with kind := m.kind, raw := m.raw } : Mg)) := by show _ = _; unfold Mg.namedK; simp [hk]
  have ML1 : Hid (∀ W, MR W s m → MR W nil8 ({ zM with kind := m.kind, raw := m.raw } : Mg)) := fun W h => ⟨LX.nil W, LX.nil W, LX.nil W, LX.nil W, LX.nil W, LX.nil W, LX.nil W, LX.nil W⟩
  have OK : Hid (nil8).ok := ⟨⟨_, _, _, rfl⟩, ⟨_, _, _, rfl⟩, ⟨_, _, _, rfl⟩, ⟨_, _, _, rfl⟩, ⟨_, _, _, rfl⟩, ⟨_, _, _, rfl⟩, ⟨_, _, _, rfl⟩, ⟨_, _, _, rfl⟩⟩
  have EN := hide N1.out.fin
  have R2 := hide N1.out.r2
  have HO := hide (({ zM with kind := m.kind, raw := m.raw } : Mg).one nil8 OK.out)
  have HZ := hide (({ zM with kind := m.kind, raw := m.raw } : Mg).size nil8)
  have HZm := hide (zM.size nil8)
  have A0 := AMr
  have cm := (Mc.of N0.out.r1).f18
  have ck : (w.alloc (.cells (m.cells s).toArray 50) |>.alloc (.cells (zM.cells nil8).toArray 50)).cell? ⟨w.heap.size, 0, none⟩ = some (.int .i64 m.kind) := by
    have e1 := heap_alloc_last w (.cells (m.cells s).toArray 50)
    exact (Mc.of ((Below.heap_alloc _ (.cells (zM.cells nil8).toArray 50) _ (lt_heap e1)).trans e1)).f0
  have ck2 := (Mc.of N0.out.r1).f0
  have hb := run_bldR0 m.kind
  have HOb := hide ((bareM m.kind 0).one nil8 nil8_ok)
  have HZb := hide ((bareM m.kind 0).size nil8)
  have hsz : (w.alloc (.cells (m.cells s).toArray 50)).heap.size = w.heap.size + 1 := by simp
  have hsz2 : ((w.alloc (.cells (m.cells s).toArray 50)).alloc (.cells (zM.cells nil8).toArray 50)).heap.size = w.heap.size + 2 := by simp
  clear N0 N0' N1 hR hk 
  generalize hnm : ({ zM with kind := m.kind, raw := m.raw } : Mg) = m' at *
  clear hnm
  go_enter Tryz.func24, Tryz.ntmps24
  go_upto_region 1 with (with_reducible refine at_list ?_; first | refine wpList_boxA rfl _ rfl (m.cells s).toArray rfl ?_ | refine wpList_allocA AMr rfl rfl ?_)
  rw [hsz]
  clear hsz
  go_upto_region 2 with (with_reducible refine at_list ?_; first | refine wpList_allocA AMr rfl rfl ?_ | refine wpList_store_newA AMr rfl _ _ rfl _ rfl ((bareM m.kind 0).cells nil8).toArray HZb.out HOb.out rfl rfl ?_)
  try rw [hsz2]
  clear hsz2 ck hb HOb HZb
  generalize ((w.alloc (.cells (m.cells s).toArray 50)).alloc (.cells (zM.cells nil8).toArray 50)).alloc (.cells ((bareM m.kind 0).cells nil8).toArray 50) = A at *
  rw [HK.out] at ck2
  go_upto_region 30 with fail
  generalize (A.setCell ⟨w.heap.size + 2, 116, none⟩ (.string m.raw)) = W1 at *
  generalize (zM.cells nil8).toArray = Z at *
  go_wp2_with ((with_reducible refine at_list ?_); first | refine wpList_loadS A0 _ rfl (w.heap.size + 2) rfl (m'.cells nil8).toArray HZ.out 50 EN.out.1 rfl ?_ | refine wpList_storeA A0 rfl _ _ rfl (w.heap.size + 1) (m'.cells nil8).toArray HZ.out HO.out rfl rfl Z HZm.out 50 R2.out ?_)
  refine bodyPost_ret (resA A0 rfl _ _ _ _ (m'.cells nil8).toArray HZ.out rfl EN.out.2.1) rfl ?_
  exact ⟨nil8, by rw [BK.out], OK.out, by rw [BK.out]; exact ML1.out, EN.out.2.2⟩
theorem named_k15 (m : Mg) (s : Vs) (w : World) (hR : MR w s m) (hk : m.kind = 15) : Calls Tryz.prog 24 #[.agg (m.cells s).toArray] w fun e w' => ∃ s', e = .returned (.agg (m.namedK.cells s').toArray) ∧ s'.ok ∧ (∀ W, MR W s m → MR W s' m.namedK) ∧ Below w.heap.size w w' := by
  have N0 := hide (Nm.start w m s)
  have HK := hide hk
  have N0' : Hid (Nm w (((w.alloc (.cells (m.cells s).toArray 50)).alloc (.cells (zM.cells nil8).toArray 50)).alloc (.cells ((bareM m.kind 0).cells nil8).toArray 50)) m s ({ zM with kind := m.kind } : Mg) nil8) := N0.out
  have q1 := N0'.out.mc.f10
  have f1 := N0'.out.fz 46
  have N1 : Hid (Nm w ((((w.alloc (.cells (m.cells s).toArray 50)).alloc (.cells (zM.cells nil8).toArray 50)).alloc (.cells ((bareM m.kind 0).cells nil8).toArray 50)).setCell ⟨w.heap.size + 2, 46, none⟩ (.bool m.high)) m s ({ zM with kind := m.kind, high := m.high } : Mg) nil8) := N0'.out.set 46 _ (by rw [show 46 = 43 + 3 from rfl, Mg.set1 _ _ 3 _ (by decide)]; rfl)
  have q2 := N1.out.mc.f3
  have f2 := N1.out.fz 3
  have N2 : Hid (Nm w (((((w.alloc (.cells (m.cells s).toArray 50)).alloc (.cells (zM.cells nil8).toArray 50)).alloc (.cells ((bareM m.kind 0).cells nil8).toArray 50)).setCell ⟨w.heap.size + 2, 46, none⟩ (.bool m.high)).setCell ⟨w.heap.size + 2, 3, none⟩ (.int .u64 (m.nonce.toNat : Int))) m s ({ zM with kind := m.kind, high := m.high, nonce := m.nonce } : Mg) nil8) := N1.out.set 3 _ (rfl)
  have BK : Hid (m.namedK = ({ zM with kind := m.kind, high := m.high, nonce := m.nonce } : Mg)) := by show _ = _; unfold Mg.namedK; simp [hk]
  have ML1 : Hid (∀ W, MR W s m → MR W nil8 ({ zM with kind := m.kind, high := m.high, nonce := m.nonce } : Mg)) := fun W h => ⟨LX.nil W, LX.nil W, LX.nil W, LX.nil W, LX.nil W, LX.nil W, LX.nil W, LX.nil W⟩
  have OK : Hid (nil8).ok := ⟨⟨_, _, _, rfl⟩, ⟨_, _, _, rfl⟩, ⟨_, _, _, rfl⟩, ⟨_, _, _, rfl⟩, ⟨_, _, _, rfl⟩, ⟨_, _, _, rfl⟩, ⟨_, _, _, rfl⟩, ⟨_, _, _, rfl⟩⟩
  have EN := hide N2.out.fin
  have R2 := hide N2.out.r2
  have HO := hide (({ zM with kind := m.kind, high := m.high, nonce := m.nonce } : Mg).one nil8 OK.out)
  have HZ := hide (({ zM with kind := m.kind, high := m.high, nonce := m.nonce } : Mg).size nil8)
  have HZm := hide (zM.size nil8)
  have A0 := AMr
  have R1 : Hid (∀ W : World, W.heap[w.heap.size]? = some (.cells (m.cells s).toArray 50 (0, 0)) → Mc W w.heap.size m s) := fun W h => Mc.of h
  have S1 := hide N1.out.r1
  have S2 := hide N2.out.r1
  have S0 := hide N0.out.r1
  have ck : (w.alloc (.cells (m.cells s).toArray 50) |>.alloc (.cells (zM.cells nil8).toArray 50)).cell? ⟨w.heap.size, 0, none⟩ = some (.int .i64 m.kind) := by
    have e1 := heap_alloc_last w (.cells (m.cells s).toArray 50)
    exact (Mc.of ((Below.heap_alloc _ (.cells (zM.cells nil8).toArray 50) _ (lt_heap e1)).trans e1)).f0
  have ck2 := (Mc.of N0.out.r1).f0
  have hb := run_bldR0 m.kind
  have HOb := hide ((bareM m.kind 0).one nil8 nil8_ok)
  have HZb := hide ((bareM m.kind 0).size nil8)
  have hsz : (w.alloc (.cells (m.cells s).toArray 50)).heap.size = w.heap.size + 1 := by simp
  have hsz2 : ((w.alloc (.cells (m.cells s).toArray 50)).alloc (.cells (zM.cells nil8).toArray 50)).heap.size = w.heap.size + 2 := by simp
  clear N0 N0' N1 N2 hR hk 
  generalize hnm : ({ zM with kind := m.kind, high := m.high, nonce := m.nonce } : Mg) = m' at *
  clear hnm
  go_enter Tryz.func24, Tryz.ntmps24
  go_upto_region 1 with (with_reducible refine at_list ?_; first | refine wpList_boxA rfl _ rfl (m.cells s).toArray rfl ?_ | refine wpList_allocA AMr rfl rfl ?_)
  rw [hsz]
  clear hsz
  go_upto_region 2 with (with_reducible refine at_list ?_; first | refine wpList_allocA AMr rfl rfl ?_ | refine wpList_store_newA AMr rfl _ _ rfl _ rfl ((bareM m.kind 0).cells nil8).toArray HZb.out HOb.out rfl rfl ?_)
  try rw [hsz2]
  clear hsz2 ck hb HOb HZb
  generalize ((w.alloc (.cells (m.cells s).toArray 50)).alloc (.cells (zM.cells nil8).toArray 50)).alloc (.cells ((bareM m.kind 0).cells nil8).toArray 50) = A at *
  rw [HK.out] at ck2
  go_upto_region 23 with fail
  refine wp_region_held_drew (S := fun W => W.heap[w.heap.size]? = some (.cells (m.cells s).toArray 50 (0, 0))) (by kernel_rfl) S0.out (fun hH => ?_)
  refine wpAnyH_take (i := 0) (v := (.pointer (some ⟨w.heap.size, 46, none⟩))) rfl (by kernel_rfl) (by kernel_rfl) (by kernel_rfl) (fun _ _ _ h => h) (.inl ⟨by rfl, fun W _ => by go_simp⟩) hH ?_
  change wpAnyH _ _ _ _ _ _ _ (Act.put _ (some 84) _) _
  simp only [Act.put, List.setIfInBounds_toArray, List.set_cons_zero, List.set_cons_succ]
  refine wpAnyH_take (i := 1) (v := (.bool m.high)) rfl (by kernel_rfl) (by kernel_rfl) (by kernel_rfl) (fun _ _ _ h => h) (.inl ⟨by rfl, fun W hS => by have c4 := (R1.out W hS).f10; go_simp⟩) hH ?_
  change wpAnyH _ _ _ _ _ _ _ (Act.put _ (some 85) _) _
  simp only [Act.put, List.setIfInBounds_toArray, List.set_cons_zero, List.set_cons_succ]
  refine wpAnyH_take (i := 2) (v := (.pointer (some ⟨w.heap.size, 3, none⟩))) rfl (by kernel_rfl) (by kernel_rfl) (by kernel_rfl) (fun _ _ _ h => h) (.inl ⟨by rfl, fun W _ => by go_simp⟩) hH ?_
  change wpAnyH _ _ _ _ _ _ _ (Act.put _ (some 86) _) _
  simp only [Act.put, List.setIfInBounds_toArray, List.set_cons_zero, List.set_cons_succ]
  refine wpAnyH_take (i := 3) (v := (.int .u64 (m.nonce.toNat : Int))) rfl (by kernel_rfl) (by kernel_rfl) (by kernel_rfl) (fun _ _ _ h => h) (.inl ⟨by rfl, fun W hS => by have c4 := (R1.out W hS).f3; go_simp⟩) hH ?_
  change wpAnyH _ _ _ _ _ _ _ (Act.put _ (some 87) _) _
  simp only [Act.put, List.setIfInBounds_toArray, List.set_cons_zero, List.set_cons_succ]
  skip
  refine wpAnyH_take (i := 4) (v := (.pointer (some ⟨w.heap.size + 2, 46, none⟩))) rfl (by kernel_rfl) (by kernel_rfl) (by kernel_rfl) (fun _ _ _ h => h) (.inl ⟨by rfl, fun W _ => by go_simp⟩) hH ?_
  change wpAnyH _ _ _ _ _ _ _ (Act.put _ (some 88) _) _
  simp only [Act.put, List.setIfInBounds_toArray, List.set_cons_zero, List.set_cons_succ]
  refine wpAnyH_ready (rs := [5]) (by kernel_rfl) (by simp) (AllReadyH.cons rfl (fun K1 hK1 => ?_) AllReadyH.nil)
  go_simp
  refine hK1.out _ _ S1.out (fun hH => ?_)
  clear hK1
  refine wpAnyH_take (i := 6) (v := (.pointer (some ⟨w.heap.size + 2, 3, none⟩))) rfl (by kernel_rfl) (by kernel_rfl) (by kernel_rfl) (fun _ _ _ h => h) (.inl ⟨by rfl, fun W _ => by go_simp⟩) hH ?_
  change wpAnyH _ _ _ _ _ _ _ (Act.put _ (some 89) _) _
  simp only [Act.put, List.setIfInBounds_toArray, List.set_cons_zero, List.set_cons_succ]
  refine wpAnyH_ready (rs := [7]) (by kernel_rfl) (by simp) (AllReadyH.cons rfl (fun K1 hK1 => ?_) AllReadyH.nil)
  go_simp
  refine hK1.out _ _ S2.out (fun hH => ?_)
  clear hK1
  refine wpAnyH_done (by kernel_rfl) ?_ _
  go_upto_region 30 with fail
  generalize ((A.setCell ⟨w.heap.size + 2, 46, none⟩ (.bool m.high)).setCell ⟨w.heap.size + 2, 3, none⟩ (.int .u64 (m.nonce.toNat : Int))) = W1 at *
  generalize (zM.cells nil8).toArray = Z at *
  go_wp2_with ((with_reducible refine at_list ?_); first | refine wpList_loadS A0 _ rfl (w.heap.size + 2) rfl (m'.cells nil8).toArray HZ.out 50 EN.out.1 rfl ?_ | refine wpList_storeA A0 rfl _ _ rfl (w.heap.size + 1) (m'.cells nil8).toArray HZ.out HO.out rfl rfl Z HZm.out 50 R2.out ?_)
  refine bodyPost_ret (resA A0 rfl _ _ _ _ (m'.cells nil8).toArray HZ.out rfl EN.out.2.1) rfl ?_
  exact ⟨nil8, by rw [BK.out], OK.out, by rw [BK.out]; exact ML1.out, EN.out.2.2.drew⟩
theorem named_k16 (m : Mg) (s : Vs) (w : World) (hR : MR w s m) (hk : m.kind = 16) : Calls Tryz.prog 24 #[.agg (m.cells s).toArray] w fun e w' => ∃ s', e = .returned (.agg (m.namedK.cells s').toArray) ∧ s'.ok ∧ (∀ W, MR W s m → MR W s' m.namedK) ∧ Below w.heap.size w w' := by
  have N0 := hide (Nm.start w m s)
  have HK := hide hk
  obtain ⟨ao117, ca117, ea117⟩ := hR.sh.form
  have EA117 := hide ea117
  obtain ⟨ao118, ca118, ea118⟩ := hR.f.form
  have EA118 := hide ea118
  have N0' : Hid (Nm w (((w.alloc (.cells (m.cells s).toArray 50)).alloc (.cells (zM.cells nil8).toArray 50)).alloc (.cells ((bareM m.kind 0).cells nil8).toArray 50)) m s ({ zM with kind := m.kind } : Mg) nil8) := N0.out
  have q1 := N0'.out.mc.f17
  have f1 := N0'.out.fz 115
  have N1 : Hid (Nm w ((((w.alloc (.cells (m.cells s).toArray 50)).alloc (.cells (zM.cells nil8).toArray 50)).alloc (.cells ((bareM m.kind 0).cells nil8).toArray 50)).setCell ⟨w.heap.size + 2, 115, none⟩ (.string m.head)) m s ({ zM with kind := m.kind, head := m.head } : Mg) nil8) := N0'.out.set 115 _ (by rw [show 115 = 114 + 1 from rfl, Mg.set2 _ _ 1 _]; rfl)
  have q2 := N1.out.mc.f3
  have f2 := N1.out.fz 3
  have N2 : Hid (Nm w (((((w.alloc (.cells (m.cells s).toArray 50)).alloc (.cells (zM.cells nil8).toArray 50)).alloc (.cells ((bareM m.kind 0).cells nil8).toArray 50)).setCell ⟨w.heap.size + 2, 115, none⟩ (.string m.head)).setCell ⟨w.heap.size + 2, 3, none⟩ (.int .u64 (m.nonce.toNat : Int))) m s ({ zM with kind := m.kind, head := m.head, nonce := m.nonce } : Mg) nil8) := N1.out.set 3 _ (rfl)
  have q3 := N2.out.mc.f19
  have f3 := N2.out.fz 117
  have N3 : Hid (Nm w ((((((w.alloc (.cells (m.cells s).toArray 50)).alloc (.cells (zM.cells nil8).toArray 50)).alloc (.cells ((bareM m.kind 0).cells nil8).toArray 50)).setCell ⟨w.heap.size + 2, 115, none⟩ (.string m.head)).setCell ⟨w.heap.size + 2, 3, none⟩ (.int .u64 (m.nonce.toNat : Int))).setCell ⟨w.heap.size + 2, 117, none⟩ (.slice ao117 m.shorts.length ca117)) m s ({ zM with kind := m.kind, head := m.head, nonce := m.nonce, shorts := m.shorts } : Mg) ({ nil8 with sh := .slice ao117 m.shorts.length ca117 } : Vs)) := N2.out.set 117 _ (by rw [show 117 = 114 + 3 from rfl, Mg.set2 _ _ 3 _]; rfl)
  have q4 := N3.out.mc.f20
  have f4 := N3.out.fz 118
  have N4 : Hid (Nm w (((((((w.alloc (.cells (m.cells s).toArray 50)).alloc (.cells (zM.cells nil8).toArray 50)).alloc (.cells ((bareM m.kind 0).cells nil8).toArray 50)).setCell ⟨w.heap.size + 2, 115, none⟩ (.string m.head)).setCell ⟨w.heap.size + 2, 3, none⟩ (.int .u64 (m.nonce.toNat : Int))).setCell ⟨w.heap.size + 2, 117, none⟩ (.slice ao117 m.shorts.length ca117)).setCell ⟨w.heap.size + 2, 118, none⟩ (.slice ao118 m.filled.length ca118)) m s ({ zM with kind := m.kind, head := m.head, nonce := m.nonce, shorts := m.shorts, filled := m.filled } : Mg) ({ nil8 with sh := .slice ao117 m.shorts.length ca117, f := .slice ao118 m.filled.length ca118 } : Vs)) := N3.out.set 118 _ (by rw [show 118 = 114 + 4 from rfl, Mg.set2 _ _ 4 _]; rfl)
  have BK : Hid (m.namedK = ({ zM with kind := m.kind, head := m.head, nonce := m.nonce, shorts := m.shorts, filled := m.filled } : Mg)) := by show _ = _; unfold Mg.namedK; simp [hk]
  have ML1 : Hid (∀ W, MR W s m → MR W ({ nil8 with sh := .slice ao117 m.shorts.length ca117, f := .slice ao118 m.filled.length ca118 } : Vs) ({ zM with kind := m.kind, head := m.head, nonce := m.nonce, shorts := m.shorts, filled := m.filled } : Mg)) := fun W h => ⟨LX.nil W, LX.nil W, LX.nil W, LX.nil W, EA117.out ▸ h.sh, EA118.out ▸ h.f, LX.nil W, LX.nil W⟩
  have OK : Hid (({ nil8 with sh := .slice ao117 m.shorts.length ca117, f := .slice ao118 m.filled.length ca118 } : Vs)).ok := ⟨⟨_, _, _, rfl⟩, ⟨_, _, _, rfl⟩, ⟨_, _, _, rfl⟩, ⟨_, _, _, rfl⟩, ⟨_, _, _, rfl⟩, ⟨_, _, _, rfl⟩, ⟨_, _, _, rfl⟩, ⟨_, _, _, rfl⟩⟩
  have EN := hide N4.out.fin
  have R2 := hide N4.out.r2
  have HO := hide (({ zM with kind := m.kind, head := m.head, nonce := m.nonce, shorts := m.shorts, filled := m.filled } : Mg).one ({ nil8 with sh := .slice ao117 m.shorts.length ca117, f := .slice ao118 m.filled.length ca118 } : Vs) OK.out)
  have HZ := hide (({ zM with kind := m.kind, head := m.head, nonce := m.nonce, shorts := m.shorts, filled := m.filled } : Mg).size ({ nil8 with sh := .slice ao117 m.shorts.length ca117, f := .slice ao118 m.filled.length ca118 } : Vs))
  have HZm := hide (zM.size nil8)
  have A0 := AMr
  have R1 : Hid (∀ W : World, W.heap[w.heap.size]? = some (.cells (m.cells s).toArray 50 (0, 0)) → Mc W w.heap.size m s) := fun W h => Mc.of h
  have S1 := hide N1.out.r1
  have S2 := hide N2.out.r1
  have S3 := hide N3.out.r1
  have S4 := hide N4.out.r1
  have S0 := hide N0.out.r1
  have ck : (w.alloc (.cells (m.cells s).toArray 50) |>.alloc (.cells (zM.cells nil8).toArray 50)).cell? ⟨w.heap.size, 0, none⟩ = some (.int .i64 m.kind) := by
    have e1 := heap_alloc_last w (.cells (m.cells s).toArray 50)
    exact (Mc.of ((Below.heap_alloc _ (.cells (zM.cells nil8).toArray 50) _ (lt_heap e1)).trans e1)).f0
  have ck2 := (Mc.of N0.out.r1).f0
  have hb := run_bldR0 m.kind
  have HOb := hide ((bareM m.kind 0).one nil8 nil8_ok)
  have HZb := hide ((bareM m.kind 0).size nil8)
  have hsz : (w.alloc (.cells (m.cells s).toArray 50)).heap.size = w.heap.size + 1 := by simp
  have hsz2 : ((w.alloc (.cells (m.cells s).toArray 50)).alloc (.cells (zM.cells nil8).toArray 50)).heap.size = w.heap.size + 2 := by simp
  clear N0 N0' N1 N2 N3 N4 hR hk ea117 ea118
  generalize hnm : ({ zM with kind := m.kind, head := m.head, nonce := m.nonce, shorts := m.shorts, filled := m.filled } : Mg) = m' at *
  clear hnm
  generalize hns : ({ nil8 with sh := .slice ao117 m.shorts.length ca117, f := .slice ao118 m.filled.length ca118 } : Vs) = s' at *
  clear hns
  go_enter Tryz.func24, Tryz.ntmps24
  go_upto_region 1 with (with_reducible refine at_list ?_; first | refine wpList_boxA rfl _ rfl (m.cells s).toArray rfl ?_ | refine wpList_allocA AMr rfl rfl ?_)
  rw [hsz]
  clear hsz
  go_upto_region 2 with (with_reducible refine at_list ?_; first | refine wpList_allocA AMr rfl rfl ?_ | refine wpList_store_newA AMr rfl _ _ rfl _ rfl ((bareM m.kind 0).cells nil8).toArray HZb.out HOb.out rfl rfl ?_)
  try rw [hsz2]
  clear hsz2 ck hb HOb HZb
  generalize ((w.alloc (.cells (m.cells s).toArray 50)).alloc (.cells (zM.cells nil8).toArray 50)).alloc (.cells ((bareM m.kind 0).cells nil8).toArray 50) = A at *
  rw [HK.out] at ck2
  go_upto_region 25 with fail
  refine wp_region_held_drew (S := fun W => W.heap[w.heap.size]? = some (.cells (m.cells s).toArray 50 (0, 0))) (by kernel_rfl) S0.out (fun hH => ?_)
  refine wpAnyH_take (i := 0) (v := (.pointer (some ⟨w.heap.size, 115, none⟩))) rfl (by kernel_rfl) (by kernel_rfl) (by kernel_rfl) (fun _ _ _ h => h) (.inl ⟨by rfl, fun W _ => by go_simp⟩) hH ?_
  change wpAnyH _ _ _ _ _ _ _ (Act.put _ (some 92) _) _
  simp only [Act.put, List.setIfInBounds_toArray, List.set_cons_zero, List.set_cons_succ]
  refine wpAnyH_take (i := 1) (v := (.string m.head)) rfl (by kernel_rfl) (by kernel_rfl) (by kernel_rfl) (fun _ _ _ h => h) (.inl ⟨by rfl, fun W hS => by have c4 := (R1.out W hS).f17; go_simp⟩) hH ?_
  change wpAnyH _ _ _ _ _ _ _ (Act.put _ (some 93) _) _
  simp only [Act.put, List.setIfInBounds_toArray, List.set_cons_zero, List.set_cons_succ]
  refine wpAnyH_take (i := 2) (v := (.pointer (some ⟨w.heap.size, 3, none⟩))) rfl (by kernel_rfl) (by kernel_rfl) (by kernel_rfl) (fun _ _ _ h => h) (.inl ⟨by rfl, fun W _ => by go_simp⟩) hH ?_
  change wpAnyH _ _ _ _ _ _ _ (Act.put _ (some 94) _) _
  simp only [Act.put, List.setIfInBounds_toArray, List.set_cons_zero, List.set_cons_succ]
  refine wpAnyH_take (i := 3) (v := (.int .u64 (m.nonce.toNat : Int))) rfl (by kernel_rfl) (by kernel_rfl) (by kernel_rfl) (fun _ _ _ h => h) (.inl ⟨by rfl, fun W hS => by have c4 := (R1.out W hS).f3; go_simp⟩) hH ?_
  change wpAnyH _ _ _ _ _ _ _ (Act.put _ (some 95) _) _
  simp only [Act.put, List.setIfInBounds_toArray, List.set_cons_zero, List.set_cons_succ]
  refine wpAnyH_take (i := 4) (v := (.pointer (some ⟨w.heap.size, 117, none⟩))) rfl (by kernel_rfl) (by kernel_rfl) (by kernel_rfl) (fun _ _ _ h => h) (.inl ⟨by rfl, fun W _ => by go_simp⟩) hH ?_
  change wpAnyH _ _ _ _ _ _ _ (Act.put _ (some 96) _) _
  simp only [Act.put, List.setIfInBounds_toArray, List.set_cons_zero, List.set_cons_succ]
  refine wpAnyH_take (i := 5) (v := (.slice ao117 m.shorts.length ca117)) rfl (by kernel_rfl) (by kernel_rfl) (by kernel_rfl) (fun _ _ _ h => h) (.inl ⟨by rfl, fun W hS => by have c4 := (R1.out W hS).f19; rw [EA117.out] at c4; go_simp⟩) hH ?_
  change wpAnyH _ _ _ _ _ _ _ (Act.put _ (some 97) _) _
  simp only [Act.put, List.setIfInBounds_toArray, List.set_cons_zero, List.set_cons_succ]
  refine wpAnyH_take (i := 6) (v := (.pointer (some ⟨w.heap.size, 118, none⟩))) rfl (by kernel_rfl) (by kernel_rfl) (by kernel_rfl) (fun _ _ _ h => h) (.inl ⟨by rfl, fun W _ => by go_simp⟩) hH ?_
  change wpAnyH _ _ _ _ _ _ _ (Act.put _ (some 98) _) _
  simp only [Act.put, List.setIfInBounds_toArray, List.set_cons_zero, List.set_cons_succ]
  refine wpAnyH_take (i := 7) (v := (.slice ao118 m.filled.length ca118)) rfl (by kernel_rfl) (by kernel_rfl) (by kernel_rfl) (fun _ _ _ h => h) (.inl ⟨by rfl, fun W hS => by have c4 := (R1.out W hS).f20; rw [EA118.out] at c4; go_simp⟩) hH ?_
  change wpAnyH _ _ _ _ _ _ _ (Act.put _ (some 99) _) _
  simp only [Act.put, List.setIfInBounds_toArray, List.set_cons_zero, List.set_cons_succ]
  skip
  refine wpAnyH_take (i := 8) (v := (.pointer (some ⟨w.heap.size + 2, 115, none⟩))) rfl (by kernel_rfl) (by kernel_rfl) (by kernel_rfl) (fun _ _ _ h => h) (.inl ⟨by rfl, fun W _ => by go_simp⟩) hH ?_
  change wpAnyH _ _ _ _ _ _ _ (Act.put _ (some 100) _) _
  simp only [Act.put, List.setIfInBounds_toArray, List.set_cons_zero, List.set_cons_succ]
  refine wpAnyH_ready (rs := [9]) (by kernel_rfl) (by simp) (AllReadyH.cons rfl (fun K1 hK1 => ?_) AllReadyH.nil)
  go_simp
  refine hK1.out _ _ S1.out (fun hH => ?_)
  clear hK1
  refine wpAnyH_take (i := 10) (v := (.pointer (some ⟨w.heap.size + 2, 3, none⟩))) rfl (by kernel_rfl) (by kernel_rfl) (by kernel_rfl) (fun _ _ _ h => h) (.inl ⟨by rfl, fun W _ => by go_simp⟩) hH ?_
  change wpAnyH _ _ _ _ _ _ _ (Act.put _ (some 101) _) _
  simp only [Act.put, List.setIfInBounds_toArray, List.set_cons_zero, List.set_cons_succ]
  refine wpAnyH_ready (rs := [11]) (by kernel_rfl) (by simp) (AllReadyH.cons rfl (fun K1 hK1 => ?_) AllReadyH.nil)
  go_simp
  refine hK1.out _ _ S2.out (fun hH => ?_)
  clear hK1
  refine wpAnyH_take (i := 12) (v := (.pointer (some ⟨w.heap.size + 2, 117, none⟩))) rfl (by kernel_rfl) (by kernel_rfl) (by kernel_rfl) (fun _ _ _ h => h) (.inl ⟨by rfl, fun W _ => by go_simp⟩) hH ?_
  change wpAnyH _ _ _ _ _ _ _ (Act.put _ (some 102) _) _
  simp only [Act.put, List.setIfInBounds_toArray, List.set_cons_zero, List.set_cons_succ]
  refine wpAnyH_ready (rs := [13]) (by kernel_rfl) (by simp) (AllReadyH.cons rfl (fun K1 hK1 => ?_) AllReadyH.nil)
  go_simp
  refine hK1.out _ _ S3.out (fun hH => ?_)
  clear hK1
  refine wpAnyH_take (i := 14) (v := (.pointer (some ⟨w.heap.size + 2, 118, none⟩))) rfl (by kernel_rfl) (by kernel_rfl) (by kernel_rfl) (fun _ _ _ h => h) (.inl ⟨by rfl, fun W _ => by go_simp⟩) hH ?_
  change wpAnyH _ _ _ _ _ _ _ (Act.put _ (some 103) _) _
  simp only [Act.put, List.setIfInBounds_toArray, List.set_cons_zero, List.set_cons_succ]
  refine wpAnyH_ready (rs := [15]) (by kernel_rfl) (by simp) (AllReadyH.cons rfl (fun K1 hK1 => ?_) AllReadyH.nil)
  go_simp
  refine hK1.out _ _ S4.out (fun hH => ?_)
  clear hK1
  refine wpAnyH_done (by kernel_rfl) ?_ _
  go_upto_region 30 with fail
  generalize ((((A.setCell ⟨w.heap.size + 2, 115, none⟩ (.string m.head)).setCell ⟨w.heap.size + 2, 3, none⟩ (.int .u64 (m.nonce.toNat : Int))).setCell ⟨w.heap.size + 2, 117, none⟩ (.slice ao117 m.shorts.length ca117)).setCell ⟨w.heap.size + 2, 118, none⟩ (.slice ao118 m.filled.length ca118)) = W1 at *
  generalize (zM.cells nil8).toArray = Z at *
  go_wp2_with ((with_reducible refine at_list ?_); first | refine wpList_loadS A0 _ rfl (w.heap.size + 2) rfl (m'.cells s').toArray HZ.out 50 EN.out.1 rfl ?_ | refine wpList_storeA A0 rfl _ _ rfl (w.heap.size + 1) (m'.cells s').toArray HZ.out HO.out rfl rfl Z HZm.out 50 R2.out ?_)
  refine bodyPost_ret (resA A0 rfl _ _ _ _ (m'.cells s').toArray HZ.out rfl EN.out.2.1) rfl ?_
  exact ⟨s', by rw [BK.out], OK.out, by rw [BK.out]; exact ML1.out, EN.out.2.2.drew⟩
theorem named_k17 (m : Mg) (s : Vs) (w : World) (hR : MR w s m) (hk : m.kind = 17) : Calls Tryz.prog 24 #[.agg (m.cells s).toArray] w fun e w' => ∃ s', e = .returned (.agg (m.namedK.cells s').toArray) ∧ s'.ok ∧ (∀ W, MR W s m → MR W s' m.namedK) ∧ Below w.heap.size w w' := by
  have N0 := hide (Nm.start w m s)
  have HK := hide hk
  obtain ⟨ao119, ca119, ea119⟩ := hR.p.form
  have EA119 := hide ea119
  have N0' : Hid (Nm w (((w.alloc (.cells (m.cells s).toArray 50)).alloc (.cells (zM.cells nil8).toArray 50)).alloc (.cells ((bareM m.kind 0).cells nil8).toArray 50)) m s ({ zM with kind := m.kind } : Mg) nil8) := N0.out
  have ND : Hid (Nm w (((w.alloc (.cells (m.cells s).toArray 50)).alloc (.cells (zM.cells nil8).toArray 50)).alloc (.cells ((bareM m.kind 0).cells nil8).toArray 50)).drew m s ({ zM with kind := m.kind } : Mg) nil8) := N0'.out.drew
  have T1 : Hid (((((w.alloc (.cells (m.cells s).toArray 50)).alloc (.cells (zM.cells nil8).toArray 50)).alloc (.cells ((bareM m.kind 0).cells nil8).toArray 50)).drew).there (w.heap.size + 2) 82 (cellsL m.hash.1).toArray.size) := by show World.there _ _ _ _; rw [hcI]; exact ND.out.there 82 32 (by decide)
  have N1 : Hid (Nm w (((((w.alloc (.cells (m.cells s).toArray 50)).alloc (.cells (zM.cells nil8).toArray 50)).alloc (.cells ((bareM m.kind 0).cells nil8).toArray 50)).drew).setCells (w.heap.size + 2) 82 (cellsL m.hash.1)) m s ({ zM with kind := m.kind, hash := m.hash } : Mg) nil8) := ND.out.setL _ _ (cellsL m.hash.1) _ (by rw [cellsL_len, cellsL_len]; exact zI.2.trans m.hash.2.symm) (({ zM with kind := m.kind } : Mg).spH nil8) (({ zM with kind := m.kind, hash := m.hash } : Mg).spH nil8) 82 (({ zM with kind := m.kind } : Mg).lH nil8)
  have q2 := N1.out.mc.f21
  have f2 := N1.out.fz 119
  have N2 : Hid (Nm w ((((((w.alloc (.cells (m.cells s).toArray 50)).alloc (.cells (zM.cells nil8).toArray 50)).alloc (.cells ((bareM m.kind 0).cells nil8).toArray 50)).drew).setCells (w.heap.size + 2) 82 (cellsL m.hash.1)).setCell ⟨w.heap.size + 2, 119, none⟩ (.slice ao119 m.places.length ca119)) m s ({ zM with kind := m.kind, hash := m.hash, places := m.places } : Mg) ({ nil8 with p := .slice ao119 m.places.length ca119 } : Vs)) := N1.out.set 119 _ (by rw [show 119 = 114 + 5 from rfl, Mg.set2 _ _ 5 _]; rfl)
  have BK : Hid (m.namedK = ({ zM with kind := m.kind, hash := m.hash, places := m.places } : Mg)) := by show _ = _; unfold Mg.namedK; simp [hk]
  have ML1 : Hid (∀ W, MR W s m → MR W ({ nil8 with p := .slice ao119 m.places.length ca119 } : Vs) ({ zM with kind := m.kind, hash := m.hash, places := m.places } : Mg)) := fun W h => ⟨LX.nil W, LX.nil W, LX.nil W, LX.nil W, LX.nil W, LX.nil W, EA119.out ▸ h.p, LX.nil W⟩
  have OK : Hid (({ nil8 with p := .slice ao119 m.places.length ca119 } : Vs)).ok := ⟨⟨_, _, _, rfl⟩, ⟨_, _, _, rfl⟩, ⟨_, _, _, rfl⟩, ⟨_, _, _, rfl⟩, ⟨_, _, _, rfl⟩, ⟨_, _, _, rfl⟩, ⟨_, _, _, rfl⟩, ⟨_, _, _, rfl⟩⟩
  have EN := hide N2.out.fin
  have R2 := hide N2.out.r2
  have HO := hide (({ zM with kind := m.kind, hash := m.hash, places := m.places } : Mg).one ({ nil8 with p := .slice ao119 m.places.length ca119 } : Vs) OK.out)
  have HZ := hide (({ zM with kind := m.kind, hash := m.hash, places := m.places } : Mg).size ({ nil8 with p := .slice ao119 m.places.length ca119 } : Vs))
  have HZm := hide (zM.size nil8)
  have A0 := AMr
  have R1 : Hid (∀ W : World, W.heap[w.heap.size]? = some (.cells (m.cells s).toArray 50 (0, 0)) → Mc W w.heap.size m s) := fun W h => Mc.of h
  have S1 := hide N1.out.r1
  have S2 := hide N2.out.r1
  have S0 := hide N0.out.r1
  have I1 : Hid ((Tryz.prog.info? 31).map (·.size) = some (cellsL m.hash.1).toArray.size) := by show _ = _; rw [hcI]; kernel_rfl
  have O1 : Hid (∀ v ∈ (cellsL m.hash.1), v.oneCell' = true) := cellsL_one _
  have ck : (w.alloc (.cells (m.cells s).toArray 50) |>.alloc (.cells (zM.cells nil8).toArray 50)).cell? ⟨w.heap.size, 0, none⟩ = some (.int .i64 m.kind) := by
    have e1 := heap_alloc_last w (.cells (m.cells s).toArray 50)
    exact (Mc.of ((Below.heap_alloc _ (.cells (zM.cells nil8).toArray 50) _ (lt_heap e1)).trans e1)).f0
  have ck2 := (Mc.of N0.out.r1).f0
  have hb := run_bldR0 m.kind
  have HOb := hide ((bareM m.kind 0).one nil8 nil8_ok)
  have HZb := hide ((bareM m.kind 0).size nil8)
  have hsz : (w.alloc (.cells (m.cells s).toArray 50)).heap.size = w.heap.size + 1 := by simp
  have hsz2 : ((w.alloc (.cells (m.cells s).toArray 50)).alloc (.cells (zM.cells nil8).toArray 50)).heap.size = w.heap.size + 2 := by simp
  clear N0 N0' N1 N2 ND hR hk ea119
  generalize hnm : ({ zM with kind := m.kind, hash := m.hash, places := m.places } : Mg) = m' at *
  clear hnm
  generalize hns : ({ nil8 with p := .slice ao119 m.places.length ca119 } : Vs) = s' at *
  clear hns
  go_enter Tryz.func24, Tryz.ntmps24
  go_upto_region 1 with (with_reducible refine at_list ?_; first | refine wpList_boxA rfl _ rfl (m.cells s).toArray rfl ?_ | refine wpList_allocA AMr rfl rfl ?_)
  rw [hsz]
  clear hsz
  go_upto_region 2 with (with_reducible refine at_list ?_; first | refine wpList_allocA AMr rfl rfl ?_ | refine wpList_store_newA AMr rfl _ _ rfl _ rfl ((bareM m.kind 0).cells nil8).toArray HZb.out HOb.out rfl rfl ?_)
  try rw [hsz2]
  clear hsz2 ck hb HOb HZb
  generalize ((w.alloc (.cells (m.cells s).toArray 50)).alloc (.cells (zM.cells nil8).toArray 50)).alloc (.cells ((bareM m.kind 0).cells nil8).toArray 50) = A at *
  rw [HK.out] at ck2
  go_upto_region 27 with fail
  refine wp_region_held_drew (S := fun W => W.heap[w.heap.size]? = some (.cells (m.cells s).toArray 50 (0, 0))) (by kernel_rfl) S0.out (fun hH => ?_)
  refine wpAnyH_take (i := 0) (v := (.pointer (some ⟨w.heap.size, 82, none⟩))) rfl (by kernel_rfl) (by kernel_rfl) (by kernel_rfl) (fun _ _ _ h => h) (.inl ⟨by rfl, fun W _ => by go_simp⟩) hH ?_
  change wpAnyH _ _ _ _ _ _ _ (Act.put _ (some 106) _) _
  simp only [Act.put, List.setIfInBounds_toArray, List.set_cons_zero, List.set_cons_succ]
  refine wpAnyH_take (i := 1) (v := (.agg (cellsL m.hash.1).toArray)) rfl (by kernel_rfl) (by kernel_rfl) (by kernel_rfl) (fun _ _ _ h => h) (yl_load (by rfl) _ (by rfl) _ (cellsL m.hash.1).toArray (by rfl) (fun W hS => KHr.load m.hash Tryz.underlying31 rfl (R1.out W hS).hash)) hH ?_
  change wpAnyH _ _ _ _ _ _ _ (Act.put _ (some 107) _) _
  simp only [Act.put, List.setIfInBounds_toArray, List.set_cons_zero, List.set_cons_succ]
  refine wpAnyH_take (i := 2) (v := (.pointer (some ⟨w.heap.size, 119, none⟩))) rfl (by kernel_rfl) (by kernel_rfl) (by kernel_rfl) (fun _ _ _ h => h) (.inl ⟨by rfl, fun W _ => by go_simp⟩) hH ?_
  change wpAnyH _ _ _ _ _ _ _ (Act.put _ (some 108) _) _
  simp only [Act.put, List.setIfInBounds_toArray, List.set_cons_zero, List.set_cons_succ]
  refine wpAnyH_take (i := 3) (v := (.slice ao119 m.places.length ca119)) rfl (by kernel_rfl) (by kernel_rfl) (by kernel_rfl) (fun _ _ _ h => h) (.inl ⟨by rfl, fun W hS => by have c4 := (R1.out W hS).f21; rw [EA119.out] at c4; go_simp⟩) hH ?_
  change wpAnyH _ _ _ _ _ _ _ (Act.put _ (some 109) _) _
  simp only [Act.put, List.setIfInBounds_toArray, List.set_cons_zero, List.set_cons_succ]
  skip
  refine wpAnyH_take (i := 4) (v := (.pointer (some ⟨w.heap.size + 2, 82, none⟩))) rfl (by kernel_rfl) (by kernel_rfl) (by kernel_rfl) (fun _ _ _ h => h) (.inl ⟨by rfl, fun W _ => by go_simp⟩) hH ?_
  change wpAnyH _ _ _ _ _ _ _ (Act.put _ (some 110) _) _
  simp only [Act.put, List.setIfInBounds_toArray, List.set_cons_zero, List.set_cons_succ]
  refine wpAnyH_ready (rs := [5]) (by kernel_rfl) (by simp) (AllReadyH.cons rfl (fun K1 hK1 => ?_) AllReadyH.nil)
  refine stepStoreMid rfl 31 _ _ rfl (w.heap.size + 2) 82 (cellsL m.hash.1).toArray rfl rfl T1.out I1.out (all_oneCell_toArray O1.out) ?_
  refine hK1.out _ _ S1.out (fun hH => ?_)
  clear hK1
  refine wpAnyH_take (i := 6) (v := (.pointer (some ⟨w.heap.size + 2, 119, none⟩))) rfl (by kernel_rfl) (by kernel_rfl) (by kernel_rfl) (fun _ _ _ h => h) (.inl ⟨by rfl, fun W _ => by go_simp⟩) hH ?_
  change wpAnyH _ _ _ _ _ _ _ (Act.put _ (some 111) _) _
  simp only [Act.put, List.setIfInBounds_toArray, List.set_cons_zero, List.set_cons_succ]
  refine wpAnyH_ready (rs := [7]) (by kernel_rfl) (by simp) (AllReadyH.cons rfl (fun K1 hK1 => ?_) AllReadyH.nil)
  go_simp
  refine hK1.out _ _ S2.out (fun hH => ?_)
  clear hK1
  refine wpAnyH_done (by kernel_rfl) ?_ _
  go_upto_region 30 with fail
  generalize (((A.drew).setCells (w.heap.size + 2) 82 (cellsL m.hash.1)).setCell ⟨w.heap.size + 2, 119, none⟩ (.slice ao119 m.places.length ca119)) = W1 at *
  generalize (zM.cells nil8).toArray = Z at *
  go_wp2_with ((with_reducible refine at_list ?_); first | refine wpList_loadS A0 _ rfl (w.heap.size + 2) rfl (m'.cells s').toArray HZ.out 50 EN.out.1 rfl ?_ | refine wpList_storeA A0 rfl _ _ rfl (w.heap.size + 1) (m'.cells s').toArray HZ.out HO.out rfl rfl Z HZm.out 50 R2.out ?_)
  refine bodyPost_ret (resA A0 rfl _ _ _ _ (m'.cells s').toArray HZ.out rfl EN.out.2.1) rfl ?_
  exact ⟨s', by rw [BK.out], OK.out, by rw [BK.out]; exact ML1.out, EN.out.2.2⟩
theorem named_k18 (m : Mg) (s : Vs) (w : World) (hR : MR w s m) (hk : m.kind = 18) : Calls Tryz.prog 24 #[.agg (m.cells s).toArray] w fun e w' => ∃ s', e = .returned (.agg (m.namedK.cells s').toArray) ∧ s'.ok ∧ (∀ W, MR W s m → MR W s' m.namedK) ∧ Below w.heap.size w w' := by
  have N0 := hide (Nm.start w m s)
  have HK := hide hk
  obtain ⟨ao120, ca120, ea120⟩ := hR.r.form
  have EA120 := hide ea120
  have N0' : Hid (Nm w (((w.alloc (.cells (m.cells s).toArray 50)).alloc (.cells (zM.cells nil8).toArray 50)).alloc (.cells ((bareM m.kind 0).cells nil8).toArray 50)) m s ({ zM with kind := m.kind } : Mg) nil8) := N0.out
  have ND : Hid (Nm w (((w.alloc (.cells (m.cells s).toArray 50)).alloc (.cells (zM.cells nil8).toArray 50)).alloc (.cells ((bareM m.kind 0).cells nil8).toArray 50)).drew m s ({ zM with kind := m.kind } : Mg) nil8) := N0'.out.drew
  have T1 : Hid (((((w.alloc (.cells (m.cells s).toArray 50)).alloc (.cells (zM.cells nil8).toArray 50)).alloc (.cells ((bareM m.kind 0).cells nil8).toArray 50)).drew).there (w.heap.size + 2) 82 (cellsL m.hash.1).toArray.size) := by show World.there _ _ _ _; rw [hcI]; exact ND.out.there 82 32 (by decide)
  have N1 : Hid (Nm w (((((w.alloc (.cells (m.cells s).toArray 50)).alloc (.cells (zM.cells nil8).toArray 50)).alloc (.cells ((bareM m.kind 0).cells nil8).toArray 50)).drew).setCells (w.heap.size + 2) 82 (cellsL m.hash.1)) m s ({ zM with kind := m.kind, hash := m.hash } : Mg) nil8) := ND.out.setL _ _ (cellsL m.hash.1) _ (by rw [cellsL_len, cellsL_len]; exact zI.2.trans m.hash.2.symm) (({ zM with kind := m.kind } : Mg).spH nil8) (({ zM with kind := m.kind, hash := m.hash } : Mg).spH nil8) 82 (({ zM with kind := m.kind } : Mg).lH nil8)
  have q2 := N1.out.mc.f22
  have f2 := N1.out.fz 120
  have N2 : Hid (Nm w ((((((w.alloc (.cells (m.cells s).toArray 50)).alloc (.cells (zM.cells nil8).toArray 50)).alloc (.cells ((bareM m.kind 0).cells nil8).toArray 50)).drew).setCells (w.heap.size + 2) 82 (cellsL m.hash.1)).setCell ⟨w.heap.size + 2, 120, none⟩ (.slice ao120 m.raws.length ca120)) m s ({ zM with kind := m.kind, hash := m.hash, raws := m.raws } : Mg) ({ nil8 with r := .slice ao120 m.raws.length ca120 } : Vs)) := N1.out.set 120 _ (by rw [show 120 = 114 + 6 from rfl, Mg.set2 _ _ 6 _]; rfl)
  have BK : Hid (m.namedK = ({ zM with kind := m.kind, hash := m.hash, raws := m.raws } : Mg)) := by show _ = _; unfold Mg.namedK; simp [hk]
  have ML1 : Hid (∀ W, MR W s m → MR W ({ nil8 with r := .slice ao120 m.raws.length ca120 } : Vs) ({ zM with kind := m.kind, hash := m.hash, raws := m.raws } : Mg)) := fun W h => ⟨LX.nil W, LX.nil W, LX.nil W, LX.nil W, LX.nil W, LX.nil W, LX.nil W, EA120.out ▸ h.r⟩
  have OK : Hid (({ nil8 with r := .slice ao120 m.raws.length ca120 } : Vs)).ok := ⟨⟨_, _, _, rfl⟩, ⟨_, _, _, rfl⟩, ⟨_, _, _, rfl⟩, ⟨_, _, _, rfl⟩, ⟨_, _, _, rfl⟩, ⟨_, _, _, rfl⟩, ⟨_, _, _, rfl⟩, ⟨_, _, _, rfl⟩⟩
  have EN := hide N2.out.fin
  have R2 := hide N2.out.r2
  have HO := hide (({ zM with kind := m.kind, hash := m.hash, raws := m.raws } : Mg).one ({ nil8 with r := .slice ao120 m.raws.length ca120 } : Vs) OK.out)
  have HZ := hide (({ zM with kind := m.kind, hash := m.hash, raws := m.raws } : Mg).size ({ nil8 with r := .slice ao120 m.raws.length ca120 } : Vs))
  have HZm := hide (zM.size nil8)
  have A0 := AMr
  have R1 : Hid (∀ W : World, W.heap[w.heap.size]? = some (.cells (m.cells s).toArray 50 (0, 0)) → Mc W w.heap.size m s) := fun W h => Mc.of h
  have S1 := hide N1.out.r1
  have S2 := hide N2.out.r1
  have S0 := hide N0.out.r1
  have I1 : Hid ((Tryz.prog.info? 31).map (·.size) = some (cellsL m.hash.1).toArray.size) := by show _ = _; rw [hcI]; kernel_rfl
  have O1 : Hid (∀ v ∈ (cellsL m.hash.1), v.oneCell' = true) := cellsL_one _
  have ck : (w.alloc (.cells (m.cells s).toArray 50) |>.alloc (.cells (zM.cells nil8).toArray 50)).cell? ⟨w.heap.size, 0, none⟩ = some (.int .i64 m.kind) := by
    have e1 := heap_alloc_last w (.cells (m.cells s).toArray 50)
    exact (Mc.of ((Below.heap_alloc _ (.cells (zM.cells nil8).toArray 50) _ (lt_heap e1)).trans e1)).f0
  have ck2 := (Mc.of N0.out.r1).f0
  have hb := run_bldR0 m.kind
  have HOb := hide ((bareM m.kind 0).one nil8 nil8_ok)
  have HZb := hide ((bareM m.kind 0).size nil8)
  have hsz : (w.alloc (.cells (m.cells s).toArray 50)).heap.size = w.heap.size + 1 := by simp
  have hsz2 : ((w.alloc (.cells (m.cells s).toArray 50)).alloc (.cells (zM.cells nil8).toArray 50)).heap.size = w.heap.size + 2 := by simp
  clear N0 N0' N1 N2 ND hR hk ea120
  generalize hnm : ({ zM with kind := m.kind, hash := m.hash, raws := m.raws } : Mg) = m' at *
  clear hnm
  generalize hns : ({ nil8 with r := .slice ao120 m.raws.length ca120 } : Vs) = s' at *
  clear hns
  go_enter Tryz.func24, Tryz.ntmps24
  go_upto_region 1 with (with_reducible refine at_list ?_; first | refine wpList_boxA rfl _ rfl (m.cells s).toArray rfl ?_ | refine wpList_allocA AMr rfl rfl ?_)
  rw [hsz]
  clear hsz
  go_upto_region 2 with (with_reducible refine at_list ?_; first | refine wpList_allocA AMr rfl rfl ?_ | refine wpList_store_newA AMr rfl _ _ rfl _ rfl ((bareM m.kind 0).cells nil8).toArray HZb.out HOb.out rfl rfl ?_)
  try rw [hsz2]
  clear hsz2 ck hb HOb HZb
  generalize ((w.alloc (.cells (m.cells s).toArray 50)).alloc (.cells (zM.cells nil8).toArray 50)).alloc (.cells ((bareM m.kind 0).cells nil8).toArray 50) = A at *
  rw [HK.out] at ck2
  go_upto_region 29 with fail
  refine wp_region_held_drew (S := fun W => W.heap[w.heap.size]? = some (.cells (m.cells s).toArray 50 (0, 0))) (by kernel_rfl) S0.out (fun hH => ?_)
  refine wpAnyH_take (i := 0) (v := (.pointer (some ⟨w.heap.size, 82, none⟩))) rfl (by kernel_rfl) (by kernel_rfl) (by kernel_rfl) (fun _ _ _ h => h) (.inl ⟨by rfl, fun W _ => by go_simp⟩) hH ?_
  change wpAnyH _ _ _ _ _ _ _ (Act.put _ (some 114) _) _
  simp only [Act.put, List.setIfInBounds_toArray, List.set_cons_zero, List.set_cons_succ]
  refine wpAnyH_take (i := 1) (v := (.agg (cellsL m.hash.1).toArray)) rfl (by kernel_rfl) (by kernel_rfl) (by kernel_rfl) (fun _ _ _ h => h) (yl_load (by rfl) _ (by rfl) _ (cellsL m.hash.1).toArray (by rfl) (fun W hS => KHr.load m.hash Tryz.underlying31 rfl (R1.out W hS).hash)) hH ?_
  change wpAnyH _ _ _ _ _ _ _ (Act.put _ (some 115) _) _
  simp only [Act.put, List.setIfInBounds_toArray, List.set_cons_zero, List.set_cons_succ]
  refine wpAnyH_take (i := 2) (v := (.pointer (some ⟨w.heap.size, 120, none⟩))) rfl (by kernel_rfl) (by kernel_rfl) (by kernel_rfl) (fun _ _ _ h => h) (.inl ⟨by rfl, fun W _ => by go_simp⟩) hH ?_
  change wpAnyH _ _ _ _ _ _ _ (Act.put _ (some 116) _) _
  simp only [Act.put, List.setIfInBounds_toArray, List.set_cons_zero, List.set_cons_succ]
  refine wpAnyH_take (i := 3) (v := (.slice ao120 m.raws.length ca120)) rfl (by kernel_rfl) (by kernel_rfl) (by kernel_rfl) (fun _ _ _ h => h) (.inl ⟨by rfl, fun W hS => by have c4 := (R1.out W hS).f22; rw [EA120.out] at c4; go_simp⟩) hH ?_
  change wpAnyH _ _ _ _ _ _ _ (Act.put _ (some 117) _) _
  simp only [Act.put, List.setIfInBounds_toArray, List.set_cons_zero, List.set_cons_succ]
  skip
  refine wpAnyH_take (i := 4) (v := (.pointer (some ⟨w.heap.size + 2, 82, none⟩))) rfl (by kernel_rfl) (by kernel_rfl) (by kernel_rfl) (fun _ _ _ h => h) (.inl ⟨by rfl, fun W _ => by go_simp⟩) hH ?_
  change wpAnyH _ _ _ _ _ _ _ (Act.put _ (some 118) _) _
  simp only [Act.put, List.setIfInBounds_toArray, List.set_cons_zero, List.set_cons_succ]
  refine wpAnyH_ready (rs := [5]) (by kernel_rfl) (by simp) (AllReadyH.cons rfl (fun K1 hK1 => ?_) AllReadyH.nil)
  refine stepStoreMid rfl 31 _ _ rfl (w.heap.size + 2) 82 (cellsL m.hash.1).toArray rfl rfl T1.out I1.out (all_oneCell_toArray O1.out) ?_
  refine hK1.out _ _ S1.out (fun hH => ?_)
  clear hK1
  refine wpAnyH_take (i := 6) (v := (.pointer (some ⟨w.heap.size + 2, 120, none⟩))) rfl (by kernel_rfl) (by kernel_rfl) (by kernel_rfl) (fun _ _ _ h => h) (.inl ⟨by rfl, fun W _ => by go_simp⟩) hH ?_
  change wpAnyH _ _ _ _ _ _ _ (Act.put _ (some 119) _) _
  simp only [Act.put, List.setIfInBounds_toArray, List.set_cons_zero, List.set_cons_succ]
  refine wpAnyH_ready (rs := [7]) (by kernel_rfl) (by simp) (AllReadyH.cons rfl (fun K1 hK1 => ?_) AllReadyH.nil)
  go_simp
  refine hK1.out _ _ S2.out (fun hH => ?_)
  clear hK1
  refine wpAnyH_done (by kernel_rfl) ?_ _
  go_upto_region 30 with fail
  generalize (((A.drew).setCells (w.heap.size + 2) 82 (cellsL m.hash.1)).setCell ⟨w.heap.size + 2, 120, none⟩ (.slice ao120 m.raws.length ca120)) = W1 at *
  generalize (zM.cells nil8).toArray = Z at *
  go_wp2_with ((with_reducible refine at_list ?_); first | refine wpList_loadS A0 _ rfl (w.heap.size + 2) rfl (m'.cells s').toArray HZ.out 50 EN.out.1 rfl ?_ | refine wpList_storeA A0 rfl _ _ rfl (w.heap.size + 1) (m'.cells s').toArray HZ.out HO.out rfl rfl Z HZm.out 50 R2.out ?_)
  refine bodyPost_ret (resA A0 rfl _ _ _ _ (m'.cells s').toArray HZ.out rfl EN.out.2.1) rfl ?_
  exact ⟨s', by rw [BK.out], OK.out, by rw [BK.out]; exact ML1.out, EN.out.2.2⟩
theorem named_k1 (m : Mg) (s : Vs) (w : World) (hR : MR w s m) (hk : m.kind = 1) : Calls Tryz.prog 24 #[.agg (m.cells s).toArray] w fun e w' => ∃ s', e = .returned (.agg (m.namedK.cells s').toArray) ∧ s'.ok ∧ (∀ W, MR W s m → MR W s' m.namedK) ∧ Below w.heap.size w w' := by
  have N0 := hide (Nm.start w m s)
  have HK := hide hk
  have N0' : Hid (Nm w (((w.alloc (.cells (m.cells s).toArray 50)).alloc (.cells (zM.cells nil8).toArray 50)).alloc (.cells ((bareM m.kind 0).cells nil8).toArray 50)) m s ({ zM with kind := m.kind } : Mg) nil8) := N0.out
  have q1 := N0'.out.mc.f1
  have f1 := N0'.out.fz 1
  have N1 : Hid (Nm w ((((w.alloc (.cells (m.cells s).toArray 50)).alloc (.cells (zM.cells nil8).toArray 50)).alloc (.cells ((bareM m.kind 0).cells nil8).toArray 50)).setCell ⟨w.heap.size + 2, 1, none⟩ (.int .u32 (m.vers.toNat : Int))) m s ({ zM with kind := m.kind, vers := m.vers } : Mg) nil8) := N0'.out.set 1 _ (rfl)
  have q2 := N1.out.mc.f2
  have f2 := N1.out.fz 2
  have N2 : Hid (Nm w (((((w.alloc (.cells (m.cells s).toArray 50)).alloc (.cells (zM.cells nil8).toArray 50)).alloc (.cells ((bareM m.kind 0).cells nil8).toArray 50)).setCell ⟨w.heap.size + 2, 1, none⟩ (.int .u32 (m.vers.toNat : Int))).setCell ⟨w.heap.size + 2, 2, none⟩ (.int .u64 (m.serv.toNat : Int))) m s ({ zM with kind := m.kind, vers := m.vers, serv := m.serv } : Mg) nil8) := N1.out.set 2 _ (rfl)
  have q3 := N2.out.mc.f4
  have f3 := N2.out.fz 4
  have N3 : Hid (Nm w ((((((w.alloc (.cells (m.cells s).toArray 50)).alloc (.cells (zM.cells nil8).toArray 50)).alloc (.cells ((bareM m.kind 0).cells nil8).toArray 50)).setCell ⟨w.heap.size + 2, 1, none⟩ (.int .u32 (m.vers.toNat : Int))).setCell ⟨w.heap.size + 2, 2, none⟩ (.int .u64 (m.serv.toNat : Int))).setCell ⟨w.heap.size + 2, 4, none⟩ (.int .i64 m.time)) m s ({ zM with kind := m.kind, vers := m.vers, serv := m.serv, time := m.time } : Mg) nil8) := N2.out.set 4 _ (rfl)
  have ND : Hid (Nm w ((((((w.alloc (.cells (m.cells s).toArray 50)).alloc (.cells (zM.cells nil8).toArray 50)).alloc (.cells ((bareM m.kind 0).cells nil8).toArray 50)).setCell ⟨w.heap.size + 2, 1, none⟩ (.int .u32 (m.vers.toNat : Int))).setCell ⟨w.heap.size + 2, 2, none⟩ (.int .u64 (m.serv.toNat : Int))).setCell ⟨w.heap.size + 2, 4, none⟩ (.int .i64 m.time)).drew m s ({ zM with kind := m.kind, vers := m.vers, serv := m.serv, time := m.time } : Mg) nil8) := N3.out.drew
  have T4 : Hid ((((((((w.alloc (.cells (m.cells s).toArray 50)).alloc (.cells (zM.cells nil8).toArray 50)).alloc (.cells ((bareM m.kind 0).cells nil8).toArray 50)).setCell ⟨w.heap.size + 2, 1, none⟩ (.int .u32 (m.vers.toNat : Int))).setCell ⟨w.heap.size + 2, 2, none⟩ (.int .u64 (m.serv.toNat : Int))).setCell ⟨w.heap.size + 2, 4, none⟩ (.int .i64 m.time)).drew).there (w.heap.size + 2) 5 m.dst.cells.toArray.size) := by show World.there _ _ _ _; rw [n19]; exact ND.out.there 5 19 (by decide)
  have N4 : Hid (Nm w ((((((((w.alloc (.cells (m.cells s).toArray 50)).alloc (.cells (zM.cells nil8).toArray 50)).alloc (.cells ((bareM m.kind 0).cells nil8).toArray 50)).setCell ⟨w.heap.size + 2, 1, none⟩ (.int .u32 (m.vers.toNat : Int))).setCell ⟨w.heap.size + 2, 2, none⟩ (.int .u64 (m.serv.toNat : Int))).setCell ⟨w.heap.size + 2, 4, none⟩ (.int .i64 m.time)).drew).setCells (w.heap.size + 2) 5 m.dst.cells) m s ({ zM with kind := m.kind, vers := m.vers, serv := m.serv, time := m.time, dst := m.dst } : Mg) nil8) := ND.out.setL _ _ m.dst.cells _ (by rw [Nt.len, Nt.len]) (({ zM with kind := m.kind, vers := m.vers, serv := m.serv, time := m.time } : Mg).spD nil8) (({ zM with kind := m.kind, vers := m.vers, serv := m.serv, time := m.time, dst := m.dst } : Mg).spD nil8) 5 ({ zM with kind := m.kind, vers := m.vers, serv := m.serv, time := m.time } : Mg).lD
  have T5 : Hid (((((((((w.alloc (.cells (m.cells s).toArray 50)).alloc (.cells (zM.cells nil8).toArray 50)).alloc (.cells ((bareM m.kind 0).cells nil8).toArray 50)).setCell ⟨w.heap.size + 2, 1, none⟩ (.int .u32 (m.vers.toNat : Int))).setCell ⟨w.heap.size + 2, 2, none⟩ (.int .u64 (m.serv.toNat : Int))).setCell ⟨w.heap.size + 2, 4, none⟩ (.int .i64 m.time)).drew).setCells (w.heap.size + 2) 5 m.dst.cells).there (w.heap.size + 2) 24 m.src.cells.toArray.size) := by show World.there _ _ _ _; rw [n19]; exact N4.out.there 24 19 (by decide)
  have N5 : Hid (Nm w (((((((((w.alloc (.cells (m.cells s).toArray 50)).alloc (.cells (zM.cells nil8).toArray 50)).alloc (.cells ((bareM m.kind 0).cells nil8).toArray 50)).setCell ⟨w.heap.size + 2, 1, none⟩ (.int .u32 (m.vers.toNat : Int))).setCell ⟨w.heap.size + 2, 2, none⟩ (.int .u64 (m.serv.toNat : Int))).setCell ⟨w.heap.size + 2, 4, none⟩ (.int .i64 m.time)).drew).setCells (w.heap.size + 2) 5 m.dst.cells).setCells (w.heap.size + 2) 24 m.src.cells) m s ({ zM with kind := m.kind, vers := m.vers, serv := m.serv, time := m.time, dst := m.dst, src := m.src } : Mg) nil8) := N4.out.setL _ _ m.src.cells _ (by rw [Nt.len, Nt.len]) (({ zM with kind := m.kind, vers := m.vers, serv := m.serv, time := m.time, dst := m.dst } : Mg).spS nil8) (({ zM with kind := m.kind, vers := m.vers, serv := m.serv, time := m.time, dst := m.dst, src := m.src } : Mg).spS nil8) 24 ({ zM with kind := m.kind, vers := m.vers, serv := m.serv, time := m.time, dst := m.dst } : Mg).lS
  have q6 := N5.out.mc.f3
  have f6 := N5.out.fz 3
  have N6 : Hid (Nm w ((((((((((w.alloc (.cells (m.cells s).toArray 50)).alloc (.cells (zM.cells nil8).toArray 50)).alloc (.cells ((bareM m.kind 0).cells nil8).toArray 50)).setCell ⟨w.heap.size + 2, 1, none⟩ (.int .u32 (m.vers.toNat : Int))).setCell ⟨w.heap.size + 2, 2, none⟩ (.int .u64 (m.serv.toNat : Int))).setCell ⟨w.heap.size + 2, 4, none⟩ (.int .i64 m.time)).drew).setCells (w.heap.size + 2) 5 m.dst.cells).setCells (w.heap.size + 2) 24 m.src.cells).setCell ⟨w.heap.size + 2, 3, none⟩ (.int .u64 (m.nonce.toNat : Int))) m s ({ zM with kind := m.kind, vers := m.vers, serv := m.serv, time := m.time, dst := m.dst, src := m.src, nonce := m.nonce } : Mg) nil8) := N5.out.set 3 _ (rfl)
  have q7 := N6.out.mc.f7
  have f7 := N6.out.fz 43
  have N7 : Hid (Nm w (((((((((((w.alloc (.cells (m.cells s).toArray 50)).alloc (.cells (zM.cells nil8).toArray 50)).alloc (.cells ((bareM m.kind 0).cells nil8).toArray 50)).setCell ⟨w.heap.size + 2, 1, none⟩ (.int .u32 (m.vers.toNat : Int))).setCell ⟨w.heap.size + 2, 2, none⟩ (.int .u64 (m.serv.toNat : Int))).setCell ⟨w.heap.size + 2, 4, none⟩ (.int .i64 m.time)).drew).setCells (w.heap.size + 2) 5 m.dst.cells).setCells (w.heap.size + 2) 24 m.src.cells).setCell ⟨w.heap.size + 2, 3, none⟩ (.int .u64 (m.nonce.toNat : Int))).setCell ⟨w.heap.size + 2, 43, none⟩ (.string m.agent)) m s ({ zM with kind := m.kind, vers := m.vers, serv := m.serv, time := m.time, dst := m.dst, src := m.src, nonce := m.nonce, agent := m.agent } : Mg) nil8) := N6.out.set 43 _ (by rw [show 43 = 43 + 0 from rfl, Mg.set1 _ _ 0 _ (by decide)]; rfl)
  have q8 := N7.out.mc.f8
  have f8 := N7.out.fz 44
  have N8 : Hid (Nm w ((((((((((((w.alloc (.cells (m.cells s).toArray 50)).alloc (.cells (zM.cells nil8).toArray 50)).alloc (.cells ((bareM m.kind 0).cells nil8).toArray 50)).setCell ⟨w.heap.size + 2, 1, none⟩ (.int .u32 (m.vers.toNat : Int))).setCell ⟨w.heap.size + 2, 2, none⟩ (.int .u64 (m.serv.toNat : Int))).setCell ⟨w.heap.size + 2, 4, none⟩ (.int .i64 m.time)).drew).setCells (w.heap.size + 2) 5 m.dst.cells).setCells (w.heap.size + 2) 24 m.src.cells).setCell ⟨w.heap.size + 2, 3, none⟩ (.int .u64 (m.nonce.toNat : Int))).setCell ⟨w.heap.size + 2, 43, none⟩ (.string m.agent)).setCell ⟨w.heap.size + 2, 44, none⟩ (.int .u32 (m.height.toNat : Int))) m s ({ zM with kind := m.kind, vers := m.vers, serv := m.serv, time := m.time, dst := m.dst, src := m.src, nonce := m.nonce, agent := m.agent, height := m.height } : Mg) nil8) := N7.out.set 44 _ (by rw [show 44 = 43 + 1 from rfl, Mg.set1 _ _ 1 _ (by decide)]; rfl)
  have q9 := N8.out.mc.f9
  have f9 := N8.out.fz 45
  have N9 : Hid (Nm w (((((((((((((w.alloc (.cells (m.cells s).toArray 50)).alloc (.cells (zM.cells nil8).toArray 50)).alloc (.cells ((bareM m.kind 0).cells nil8).toArray 50)).setCell ⟨w.heap.size + 2, 1, none⟩ (.int .u32 (m.vers.toNat : Int))).setCell ⟨w.heap.size + 2, 2, none⟩ (.int .u64 (m.serv.toNat : Int))).setCell ⟨w.heap.size + 2, 4, none⟩ (.int .i64 m.time)).drew).setCells (w.heap.size + 2) 5 m.dst.cells).setCells (w.heap.size + 2) 24 m.src.cells).setCell ⟨w.heap.size + 2, 3, none⟩ (.int .u64 (m.nonce.toNat : Int))).setCell ⟨w.heap.size + 2, 43, none⟩ (.string m.agent)).setCell ⟨w.heap.size + 2, 44, none⟩ (.int .u32 (m.height.toNat : Int))).setCell ⟨w.heap.size + 2, 45, none⟩ (.bool m.relay)) m s ({ zM with kind := m.kind, vers := m.vers, serv := m.serv, time := m.time, dst := m.dst, src := m.src, nonce := m.nonce, agent := m.agent, height := m.height, relay := m.relay } : Mg) nil8) := N8.out.set 45 _ (by rw [show 45 = 43 + 2 from rfl, Mg.set1 _ _ 2 _ (by decide)]; rfl)
  have q10 : (((((((((((((w.alloc (.cells (m.cells s).toArray 50)).alloc (.cells (zM.cells nil8).toArray 50)).alloc (.cells ((bareM m.kind 0).cells nil8).toArray 50)).setCell ⟨w.heap.size + 2, 1, none⟩ (.int .u32 (m.vers.toNat : Int))).setCell ⟨w.heap.size + 2, 2, none⟩ (.int .u64 (m.serv.toNat : Int))).setCell ⟨w.heap.size + 2, 4, none⟩ (.int .i64 m.time)).drew).setCells (w.heap.size + 2) 5 m.dst.cells).setCells (w.heap.size + 2) 24 m.src.cells).setCell ⟨w.heap.size + 2, 3, none⟩ (.int .u64 (m.nonce.toNat : Int))).setCell ⟨w.heap.size + 2, 43, none⟩ (.string m.agent)).setCell ⟨w.heap.size + 2, 44, none⟩ (.int .u32 (m.height.toNat : Int))).setCell ⟨w.heap.size + 2, 45, none⟩ (.bool m.relay)).cell? ⟨w.heap.size + 2, 5, none⟩ = some (.int .u32 (m.dst.time.toNat : Int)) := N9.out.mc.dst 0 _ rfl
  have f10 := N9.out.fz 5
  have N10 : Hid (Nm w ((((((((((((((w.alloc (.cells (m.cells s).toArray 50)).alloc (.cells (zM.cells nil8).toArray 50)).alloc (.cells ((bareM m.kind 0).cells nil8).toArray 50)).setCell ⟨w.heap.size + 2, 1, none⟩ (.int .u32 (m.vers.toNat : Int))).setCell ⟨w.heap.size + 2, 2, none⟩ (.int .u64 (m.serv.toNat : Int))).setCell ⟨w.heap.size + 2, 4, none⟩ (.int .i64 m.time)).drew).setCells (w.heap.size + 2) 5 m.dst.cells).setCells (w.heap.size + 2) 24 m.src.cells).setCell ⟨w.heap.size + 2, 3, none⟩ (.int .u64 (m.nonce.toNat : Int))).setCell ⟨w.heap.size + 2, 43, none⟩ (.string m.agent)).setCell ⟨w.heap.size + 2, 44, none⟩ (.int .u32 (m.height.toNat : Int))).setCell ⟨w.heap.size + 2, 45, none⟩ (.bool m.relay)).setCell ⟨w.heap.size + 2, 5, none⟩ (.int .u32 0)) m s ({ zM with kind := m.kind, vers := m.vers, serv := m.serv, time := m.time, dst := { m.dst with time := 0 }, src := m.src, nonce := m.nonce, agent := m.agent, height := m.height, relay := m.relay } : Mg) nil8) := N9.out.set 5 _ (by rw [({ zM with kind := m.kind, vers := m.vers, serv := m.serv, time := m.time, dst := m.dst, src := m.src, nonce := m.nonce, agent := m.agent, height := m.height, relay := m.relay } : Mg).spD, ({ zM with kind := m.kind, vers := m.vers, serv := m.serv, time := m.time, dst := { m.dst with time := 0 }, src := m.src, nonce := m.nonce, agent := m.agent, height := m.height, relay := m.relay } : Mg).spD, List.set_append_right _ _ (by show 5 ≤ 5; decide)]; rfl)
  have q11 : ((((((((((((((w.alloc (.cells (m.cells s).toArray 50)).alloc (.cells (zM.cells nil8).toArray 50)).alloc (.cells ((bareM m.kind 0).cells nil8).toArray 50)).setCell ⟨w.heap.size + 2, 1, none⟩ (.int .u32 (m.vers.toNat : Int))).setCell ⟨w.heap.size + 2, 2, none⟩ (.int .u64 (m.serv.toNat : Int))).setCell ⟨w.heap.size + 2, 4, none⟩ (.int .i64 m.time)).drew).setCells (w.heap.size + 2) 5 m.dst.cells).setCells (w.heap.size + 2) 24 m.src.cells).setCell ⟨w.heap.size + 2, 3, none⟩ (.int .u64 (m.nonce.toNat : Int))).setCell ⟨w.heap.size + 2, 43, none⟩ (.string m.agent)).setCell ⟨w.heap.size + 2, 44, none⟩ (.int .u32 (m.height.toNat : Int))).setCell ⟨w.heap.size + 2, 45, none⟩ (.bool m.relay)).setCell ⟨w.heap.size + 2, 5, none⟩ (.int .u32 0)).cell? ⟨w.heap.size + 2, 24, none⟩ = some (.int .u32 (m.src.time.toNat : Int)) := N10.out.mc.src 0 _ rfl
  have f11 := N10.out.fz 24
  have N11 : Hid (Nm w (((((((((((((((w.alloc (.cells (m.cells s).toArray 50)).alloc (.cells (zM.cells nil8).toArray 50)).alloc (.cells ((bareM m.kind 0).cells nil8).toArray 50)).setCell ⟨w.heap.size + 2, 1, none⟩ (.int .u32 (m.vers.toNat : Int))).setCell ⟨w.heap.size + 2, 2, none⟩ (.int .u64 (m.serv.toNat : Int))).setCell ⟨w.heap.size + 2, 4, none⟩ (.int .i64 m.time)).drew).setCells (w.heap.size + 2) 5 m.dst.cells).setCells (w.heap.size + 2) 24 m.src.cells).setCell ⟨w.heap.size + 2, 3, none⟩ (.int .u64 (m.nonce.toNat : Int))).setCell ⟨w.heap.size + 2, 43, none⟩ (.string m.agent)).setCell ⟨w.heap.size + 2, 44, none⟩ (.int .u32 (m.height.toNat : Int))).setCell ⟨w.heap.size + 2, 45, none⟩ (.bool m.relay)).setCell ⟨w.heap.size + 2, 5, none⟩ (.int .u32 0)).setCell ⟨w.heap.size + 2, 24, none⟩ (.int .u32 0)) m s ({ zM with kind := m.kind, vers := m.vers, serv := m.serv, time := m.time, dst := { m.dst with time := 0 }, src := { m.src with time := 0 }, nonce := m.nonce, agent := m.agent, height := m.height, relay := m.relay } : Mg) nil8) := N10.out.set 24 _ (by rw [({ zM with kind := m.kind, vers := m.vers, serv := m.serv, time := m.time, dst := { m.dst with time := 0 }, src := m.src, nonce := m.nonce, agent := m.agent, height := m.height, relay := m.relay } : Mg).spS, ({ zM with kind := m.kind, vers := m.vers, serv := m.serv, time := m.time, dst := { m.dst with time := 0 }, src := { m.src with time := 0 }, nonce := m.nonce, agent := m.agent, height := m.height, relay := m.relay } : Mg).spS, List.set_append_right _ _ (by rw [← ({ zM with kind := m.kind, vers := m.vers, serv := m.serv, time := m.time, dst := { m.dst with time := 0 }, src := m.src, nonce := m.nonce, agent := m.agent, height := m.height, relay := m.relay } : Mg).lS]; exact Nat.le_refl _), ← ({ zM with kind := m.kind, vers := m.vers, serv := m.serv, time := m.time, dst := { m.dst with time := 0 }, src := m.src, nonce := m.nonce, agent := m.agent, height := m.height, relay := m.relay } : Mg).lS]; rfl)
  have BK : Hid (m.namedK = ({ zM with kind := m.kind, vers := m.vers, serv := m.serv, time := m.time, dst := { m.dst with time := 0 }, src := { m.src with time := 0 }, nonce := m.nonce, agent := m.agent, height := m.height, relay := m.relay } : Mg)) := by show _ = _; unfold Mg.namedK; simp [hk]
  have ML1 : Hid (∀ W, MR W s m → MR W nil8 ({ zM with kind := m.kind, vers := m.vers, serv := m.serv, time := m.time, dst := { m.dst with time := 0 }, src := { m.src with time := 0 }, nonce := m.nonce, agent := m.agent, height := m.height, relay := m.relay } : Mg)) := fun W h => ⟨LX.nil W, LX.nil W, LX.nil W, LX.nil W, LX.nil W, LX.nil W, LX.nil W, LX.nil W⟩
  have OK : Hid (nil8).ok := ⟨⟨_, _, _, rfl⟩, ⟨_, _, _, rfl⟩, ⟨_, _, _, rfl⟩, ⟨_, _, _, rfl⟩, ⟨_, _, _, rfl⟩, ⟨_, _, _, rfl⟩, ⟨_, _, _, rfl⟩, ⟨_, _, _, rfl⟩⟩
  have EN := hide N11.out.fin
  have R2 := hide N11.out.r2
  have HO := hide (({ zM with kind := m.kind, vers := m.vers, serv := m.serv, time := m.time, dst := { m.dst with time := 0 }, src := { m.src with time := 0 }, nonce := m.nonce, agent := m.agent, height := m.height, relay := m.relay } : Mg).one nil8 OK.out)
  have HZ := hide (({ zM with kind := m.kind, vers := m.vers, serv := m.serv, time := m.time, dst := { m.dst with time := 0 }, src := { m.src with time := 0 }, nonce := m.nonce, agent := m.agent, height := m.height, relay := m.relay } : Mg).size nil8)
  have HZm := hide (zM.size nil8)
  have A0 := AMr
  have R1 : Hid (∀ W : World, W.heap[w.heap.size]? = some (.cells (m.cells s).toArray 50 (0, 0)) → Mc W w.heap.size m s) := fun W h => Mc.of h
  have S1 := hide N1.out.r1
  have S2 := hide N2.out.r1
  have S3 := hide N3.out.r1
  have S4 := hide N4.out.r1
  have S5 := hide N5.out.r1
  have S6 := hide N6.out.r1
  have S7 := hide N7.out.r1
  have S8 := hide N8.out.r1
  have S9 := hide N9.out.r1
  have S0 := hide N0.out.r1
  have I4 : Hid ((Tryz.prog.info? 44).map (·.size) = some m.dst.cells.toArray.size) := by show _ = _; rw [n19]; kernel_rfl
  have O4 : Hid (∀ v ∈ m.dst.cells, v.oneCell' = true) := m.dst.one
  have I5 : Hid ((Tryz.prog.info? 44).map (·.size) = some m.src.cells.toArray.size) := by show _ = _; rw [n19]; kernel_rfl
  have O5 : Hid (∀ v ∈ m.src.cells, v.oneCell' = true) := m.src.one
  have ck : (w.alloc (.cells (m.cells s).toArray 50) |>.alloc (.cells (zM.cells nil8).toArray 50)).cell? ⟨w.heap.size, 0, none⟩ = some (.int .i64 m.kind) := by
    have e1 := heap_alloc_last w (.cells (m.cells s).toArray 50)
    exact (Mc.of ((Below.heap_alloc _ (.cells (zM.cells nil8).toArray 50) _ (lt_heap e1)).trans e1)).f0
  have ck2 := (Mc.of N0.out.r1).f0
  have hb := run_bldR0 m.kind
  have HOb := hide ((bareM m.kind 0).one nil8 nil8_ok)
  have HZb := hide ((bareM m.kind 0).size nil8)
  have hsz : (w.alloc (.cells (m.cells s).toArray 50)).heap.size = w.heap.size + 1 := by simp
  have hsz2 : ((w.alloc (.cells (m.cells s).toArray 50)).alloc (.cells (zM.cells nil8).toArray 50)).heap.size = w.heap.size + 2 := by simp
  clear N0 N0' N1 N2 N3 N4 N5 N6 N7 N8 N9 N10 N11 ND hR hk 
  generalize hnm : ({ zM with kind := m.kind, vers := m.vers, serv := m.serv, time := m.time, dst := { m.dst with time := 0 }, src := { m.src with time := 0 }, nonce := m.nonce, agent := m.agent, height := m.height, relay := m.relay } : Mg) = m' at *
  clear hnm
  go_enter Tryz.func24, Tryz.ntmps24
  go_upto_region 1 with (with_reducible refine at_list ?_; first | refine wpList_boxA rfl _ rfl (m.cells s).toArray rfl ?_ | refine wpList_allocA AMr rfl rfl ?_)
  rw [hsz]
  clear hsz
  go_upto_region 2 with (with_reducible refine at_list ?_; first | refine wpList_allocA AMr rfl rfl ?_ | refine wpList_store_newA AMr rfl _ _ rfl _ rfl ((bareM m.kind 0).cells nil8).toArray HZb.out HOb.out rfl rfl ?_)
  try rw [hsz2]
  clear hsz2 ck hb HOb HZb
  generalize ((w.alloc (.cells (m.cells s).toArray 50)).alloc (.cells (zM.cells nil8).toArray 50)).alloc (.cells ((bareM m.kind 0).cells nil8).toArray 50) = A at *
  rw [HK.out] at ck2
  go_upto_region 4 with fail
  refine wp_region_held_drew (S := fun W => W.heap[w.heap.size]? = some (.cells (m.cells s).toArray 50 (0, 0))) (by kernel_rfl) S0.out (fun hH => ?_)
  refine wpAnyH_take (i := 0) (v := (.pointer (some ⟨w.heap.size, 1, none⟩))) rfl (by kernel_rfl) (by kernel_rfl) (by kernel_rfl) (fun _ _ _ h => h) (.inl ⟨by rfl, fun W _ => by go_simp⟩) hH ?_
  change wpAnyH _ _ _ _ _ _ _ (Act.put _ (some 11) _) _
  simp only [Act.put, List.setIfInBounds_toArray, List.set_cons_zero, List.set_cons_succ]
  refine wpAnyH_take (i := 1) (v := (.int .u32 (m.vers.toNat : Int))) rfl (by kernel_rfl) (by kernel_rfl) (by kernel_rfl) (fun _ _ _ h => h) (.inl ⟨by rfl, fun W hS => by have c4 := (R1.out W hS).f1; go_simp⟩) hH ?_
  change wpAnyH _ _ _ _ _ _ _ (Act.put _ (some 12) _) _
  simp only [Act.put, List.setIfInBounds_toArray, List.set_cons_zero, List.set_cons_succ]
  refine wpAnyH_take (i := 2) (v := (.pointer (some ⟨w.heap.size, 2, none⟩))) rfl (by kernel_rfl) (by kernel_rfl) (by kernel_rfl) (fun _ _ _ h => h) (.inl ⟨by rfl, fun W _ => by go_simp⟩) hH ?_
  change wpAnyH _ _ _ _ _ _ _ (Act.put _ (some 13) _) _
  simp only [Act.put, List.setIfInBounds_toArray, List.set_cons_zero, List.set_cons_succ]
  refine wpAnyH_take (i := 3) (v := (.int .u64 (m.serv.toNat : Int))) rfl (by kernel_rfl) (by kernel_rfl) (by kernel_rfl) (fun _ _ _ h => h) (.inl ⟨by rfl, fun W hS => by have c4 := (R1.out W hS).f2; go_simp⟩) hH ?_
  change wpAnyH _ _ _ _ _ _ _ (Act.put _ (some 14) _) _
  simp only [Act.put, List.setIfInBounds_toArray, List.set_cons_zero, List.set_cons_succ]
  refine wpAnyH_take (i := 4) (v := (.pointer (some ⟨w.heap.size, 4, none⟩))) rfl (by kernel_rfl) (by kernel_rfl) (by kernel_rfl) (fun _ _ _ h => h) (.inl ⟨by rfl, fun W _ => by go_simp⟩) hH ?_
  change wpAnyH _ _ _ _ _ _ _ (Act.put _ (some 15) _) _
  simp only [Act.put, List.setIfInBounds_toArray, List.set_cons_zero, List.set_cons_succ]
  refine wpAnyH_take (i := 5) (v := (.int .i64 m.time)) rfl (by kernel_rfl) (by kernel_rfl) (by kernel_rfl) (fun _ _ _ h => h) (.inl ⟨by rfl, fun W hS => by have c4 := (R1.out W hS).f4; go_simp⟩) hH ?_
  change wpAnyH _ _ _ _ _ _ _ (Act.put _ (some 16) _) _
  simp only [Act.put, List.setIfInBounds_toArray, List.set_cons_zero, List.set_cons_succ]
  refine wpAnyH_take (i := 6) (v := (.pointer (some ⟨w.heap.size, 5, none⟩))) rfl (by kernel_rfl) (by kernel_rfl) (by kernel_rfl) (fun _ _ _ h => h) (.inl ⟨by rfl, fun W _ => by go_simp⟩) hH ?_
  change wpAnyH _ _ _ _ _ _ _ (Act.put _ (some 17) _) _
  simp only [Act.put, List.setIfInBounds_toArray, List.set_cons_zero, List.set_cons_succ]
  refine wpAnyH_take (i := 7) (v := (.agg m.dst.cells.toArray)) rfl (by kernel_rfl) (by kernel_rfl) (by kernel_rfl) (fun _ _ _ h => h) (yl_load (by rfl) _ (by rfl) _ m.dst.cells.toArray (by rfl) (fun W hS => KNr.load m.dst Tryz.underlying44 rfl (R1.out W hS).dst)) hH ?_
  change wpAnyH _ _ _ _ _ _ _ (Act.put _ (some 18) _) _
  simp only [Act.put, List.setIfInBounds_toArray, List.set_cons_zero, List.set_cons_succ]
  refine wpAnyH_take (i := 8) (v := (.pointer (some ⟨w.heap.size, 24, none⟩))) rfl (by kernel_rfl) (by kernel_rfl) (by kernel_rfl) (fun _ _ _ h => h) (.inl ⟨by rfl, fun W _ => by go_simp⟩) hH ?_
  change wpAnyH _ _ _ _ _ _ _ (Act.put _ (some 19) _) _
  simp only [Act.put, List.setIfInBounds_toArray, List.set_cons_zero, List.set_cons_succ]
  refine wpAnyH_take (i := 9) (v := (.agg m.src.cells.toArray)) rfl (by kernel_rfl) (by kernel_rfl) (by kernel_rfl) (fun _ _ _ h => h) (yl_load (by rfl) _ (by rfl) _ m.src.cells.toArray (by rfl) (fun W hS => KNr.load m.src Tryz.underlying44 rfl (R1.out W hS).src)) hH ?_
  change wpAnyH _ _ _ _ _ _ _ (Act.put _ (some 20) _) _
  simp only [Act.put, List.setIfInBounds_toArray, List.set_cons_zero, List.set_cons_succ]
  refine wpAnyH_take (i := 10) (v := (.pointer (some ⟨w.heap.size, 3, none⟩))) rfl (by kernel_rfl) (by kernel_rfl) (by kernel_rfl) (fun _ _ _ h => h) (.inl ⟨by rfl, fun W _ => by go_simp⟩) hH ?_
  change wpAnyH _ _ _ _ _ _ _ (Act.put _ (some 21) _) _
  simp only [Act.put, List.setIfInBounds_toArray, List.set_cons_zero, List.set_cons_succ]
  refine wpAnyH_take (i := 11) (v := (.int .u64 (m.nonce.toNat : Int))) rfl (by kernel_rfl) (by kernel_rfl) (by kernel_rfl) (fun _ _ _ h => h) (.inl ⟨by rfl, fun W hS => by have c4 := (R1.out W hS).f3; go_simp⟩) hH ?_
  change wpAnyH _ _ _ _ _ _ _ (Act.put _ (some 22) _) _
  simp only [Act.put, List.setIfInBounds_toArray, List.set_cons_zero, List.set_cons_succ]
  refine wpAnyH_take (i := 12) (v := (.pointer (some ⟨w.heap.size, 43, none⟩))) rfl (by kernel_rfl) (by kernel_rfl) (by kernel_rfl) (fun _ _ _ h => h) (.inl ⟨by rfl, fun W _ => by go_simp⟩) hH ?_
  change wpAnyH _ _ _ _ _ _ _ (Act.put _ (some 23) _) _
  simp only [Act.put, List.setIfInBounds_toArray, List.set_cons_zero, List.set_cons_succ]
  refine wpAnyH_take (i := 13) (v := (.string m.agent)) rfl (by kernel_rfl) (by kernel_rfl) (by kernel_rfl) (fun _ _ _ h => h) (.inl ⟨by rfl, fun W hS => by have c4 := (R1.out W hS).f7; go_simp⟩) hH ?_
  change wpAnyH _ _ _ _ _ _ _ (Act.put _ (some 24) _) _
  simp only [Act.put, List.setIfInBounds_toArray, List.set_cons_zero, List.set_cons_succ]
  refine wpAnyH_take (i := 14) (v := (.pointer (some ⟨w.heap.size, 44, none⟩))) rfl (by kernel_rfl) (by kernel_rfl) (by kernel_rfl) (fun _ _ _ h => h) (.inl ⟨by rfl, fun W _ => by go_simp⟩) hH ?_
  change wpAnyH _ _ _ _ _ _ _ (Act.put _ (some 25) _) _
  simp only [Act.put, List.setIfInBounds_toArray, List.set_cons_zero, List.set_cons_succ]
  refine wpAnyH_take (i := 15) (v := (.int .u32 (m.height.toNat : Int))) rfl (by kernel_rfl) (by kernel_rfl) (by kernel_rfl) (fun _ _ _ h => h) (.inl ⟨by rfl, fun W hS => by have c4 := (R1.out W hS).f8; go_simp⟩) hH ?_
  change wpAnyH _ _ _ _ _ _ _ (Act.put _ (some 26) _) _
  simp only [Act.put, List.setIfInBounds_toArray, List.set_cons_zero, List.set_cons_succ]
  refine wpAnyH_take (i := 16) (v := (.pointer (some ⟨w.heap.size, 45, none⟩))) rfl (by kernel_rfl) (by kernel_rfl) (by kernel_rfl) (fun _ _ _ h => h) (.inl ⟨by rfl, fun W _ => by go_simp⟩) hH ?_
  change wpAnyH _ _ _ _ _ _ _ (Act.put _ (some 27) _) _
  simp only [Act.put, List.setIfInBounds_toArray, List.set_cons_zero, List.set_cons_succ]
  refine wpAnyH_take (i := 17) (v := (.bool m.relay)) rfl (by kernel_rfl) (by kernel_rfl) (by kernel_rfl) (fun _ _ _ h => h) (.inl ⟨by rfl, fun W hS => by have c4 := (R1.out W hS).f9; go_simp⟩) hH ?_
  change wpAnyH _ _ _ _ _ _ _ (Act.put _ (some 28) _) _
  simp only [Act.put, List.setIfInBounds_toArray, List.set_cons_zero, List.set_cons_succ]
  skip
  refine wpAnyH_take (i := 18) (v := (.pointer (some ⟨w.heap.size + 2, 1, none⟩))) rfl (by kernel_rfl) (by kernel_rfl) (by kernel_rfl) (fun _ _ _ h => h) (.inl ⟨by rfl, fun W _ => by go_simp⟩) hH ?_
  change wpAnyH _ _ _ _ _ _ _ (Act.put _ (some 29) _) _
  simp only [Act.put, List.setIfInBounds_toArray, List.set_cons_zero, List.set_cons_succ]
  refine wpAnyH_ready (rs := [19]) (by kernel_rfl) (by simp) (AllReadyH.cons rfl (fun K1 hK1 => ?_) AllReadyH.nil)
  go_simp
  refine hK1.out _ _ S1.out (fun hH => ?_)
  clear hK1
  refine wpAnyH_take (i := 20) (v := (.pointer (some ⟨w.heap.size + 2, 2, none⟩))) rfl (by kernel_rfl) (by kernel_rfl) (by kernel_rfl) (fun _ _ _ h => h) (.inl ⟨by rfl, fun W _ => by go_simp⟩) hH ?_
  change wpAnyH _ _ _ _ _ _ _ (Act.put _ (some 30) _) _
  simp only [Act.put, List.setIfInBounds_toArray, List.set_cons_zero, List.set_cons_succ]
  refine wpAnyH_ready (rs := [21]) (by kernel_rfl) (by simp) (AllReadyH.cons rfl (fun K1 hK1 => ?_) AllReadyH.nil)
  go_simp
  refine hK1.out _ _ S2.out (fun hH => ?_)
  clear hK1
  refine wpAnyH_take (i := 22) (v := (.pointer (some ⟨w.heap.size + 2, 4, none⟩))) rfl (by kernel_rfl) (by kernel_rfl) (by kernel_rfl) (fun _ _ _ h => h) (.inl ⟨by rfl, fun W _ => by go_simp⟩) hH ?_
  change wpAnyH _ _ _ _ _ _ _ (Act.put _ (some 31) _) _
  simp only [Act.put, List.setIfInBounds_toArray, List.set_cons_zero, List.set_cons_succ]
  refine wpAnyH_ready (rs := [23]) (by kernel_rfl) (by simp) (AllReadyH.cons rfl (fun K1 hK1 => ?_) AllReadyH.nil)
  go_simp
  refine hK1.out _ _ S3.out (fun hH => ?_)
  clear hK1
  refine wpAnyH_take (i := 24) (v := (.pointer (some ⟨w.heap.size + 2, 5, none⟩))) rfl (by kernel_rfl) (by kernel_rfl) (by kernel_rfl) (fun _ _ _ h => h) (.inl ⟨by rfl, fun W _ => by go_simp⟩) hH ?_
  change wpAnyH _ _ _ _ _ _ _ (Act.put _ (some 32) _) _
  simp only [Act.put, List.setIfInBounds_toArray, List.set_cons_zero, List.set_cons_succ]
  refine wpAnyH_ready (rs := [25]) (by kernel_rfl) (by simp) (AllReadyH.cons rfl (fun K1 hK1 => ?_) AllReadyH.nil)
  refine stepStoreMid rfl 44 _ _ rfl (w.heap.size + 2) 5 m.dst.cells.toArray rfl rfl T4.out I4.out (all_oneCell_toArray O4.out) ?_
  refine hK1.out _ _ S4.out (fun hH => ?_)
  clear hK1
  refine wpAnyH_take (i := 26) (v := (.pointer (some ⟨w.heap.size + 2, 24, none⟩))) rfl (by kernel_rfl) (by kernel_rfl) (by kernel_rfl) (fun _ _ _ h => h) (.inl ⟨by rfl, fun W _ => by go_simp⟩) hH ?_
  change wpAnyH _ _ _ _ _ _ _ (Act.put _ (some 33) _) _
  simp only [Act.put, List.setIfInBounds_toArray, List.set_cons_zero, List.set_cons_succ]
  refine wpAnyH_ready (rs := [27]) (by kernel_rfl) (by simp) (AllReadyH.cons rfl (fun K1 hK1 => ?_) AllReadyH.nil)
  refine stepStoreMid rfl 44 _ _ rfl (w.heap.size + 2) 24 m.src.cells.toArray rfl rfl T5.out I5.out (all_oneCell_toArray O5.out) ?_
  refine hK1.out _ _ S5.out (fun hH => ?_)
  clear hK1
  refine wpAnyH_take (i := 28) (v := (.pointer (some ⟨w.heap.size + 2, 3, none⟩))) rfl (by kernel_rfl) (by kernel_rfl) (by kernel_rfl) (fun _ _ _ h => h) (.inl ⟨by rfl, fun W _ => by go_simp⟩) hH ?_
  change wpAnyH _ _ _ _ _ _ _ (Act.put _ (some 34) _) _
  simp only [Act.put, List.setIfInBounds_toArray, List.set_cons_zero, List.set_cons_succ]
  refine wpAnyH_ready (rs := [29]) (by kernel_rfl) (by simp) (AllReadyH.cons rfl (fun K1 hK1 => ?_) AllReadyH.nil)
  go_simp
  refine hK1.out _ _ S6.out (fun hH => ?_)
  clear hK1
  refine wpAnyH_take (i := 30) (v := (.pointer (some ⟨w.heap.size + 2, 43, none⟩))) rfl (by kernel_rfl) (by kernel_rfl) (by kernel_rfl) (fun _ _ _ h => h) (.inl ⟨by rfl, fun W _ => by go_simp⟩) hH ?_
  change wpAnyH _ _ _ _ _ _ _ (Act.put _ (some 35) _) _
  simp only [Act.put, List.setIfInBounds_toArray, List.set_cons_zero, List.set_cons_succ]
  refine wpAnyH_ready (rs := [31]) (by kernel_rfl) (by simp) (AllReadyH.cons rfl (fun K1 hK1 => ?_) AllReadyH.nil)
  go_simp
  refine hK1.out _ _ S7.out (fun hH => ?_)
  clear hK1
  refine wpAnyH_take (i := 32) (v := (.pointer (some ⟨w.heap.size + 2, 44, none⟩))) rfl (by kernel_rfl) (by kernel_rfl) (by kernel_rfl) (fun _ _ _ h => h) (.inl ⟨by rfl, fun W _ => by go_simp⟩) hH ?_
  change wpAnyH _ _ _ _ _ _ _ (Act.put _ (some 36) _) _
  simp only [Act.put, List.setIfInBounds_toArray, List.set_cons_zero, List.set_cons_succ]
  refine wpAnyH_ready (rs := [33]) (by kernel_rfl) (by simp) (AllReadyH.cons rfl (fun K1 hK1 => ?_) AllReadyH.nil)
  go_simp
  refine hK1.out _ _ S8.out (fun hH => ?_)
  clear hK1
  refine wpAnyH_take (i := 34) (v := (.pointer (some ⟨w.heap.size + 2, 45, none⟩))) rfl (by kernel_rfl) (by kernel_rfl) (by kernel_rfl) (fun _ _ _ h => h) (.inl ⟨by rfl, fun W _ => by go_simp⟩) hH ?_
  change wpAnyH _ _ _ _ _ _ _ (Act.put _ (some 37) _) _
  simp only [Act.put, List.setIfInBounds_toArray, List.set_cons_zero, List.set_cons_succ]
  refine wpAnyH_ready (rs := [35]) (by kernel_rfl) (by simp) (AllReadyH.cons rfl (fun K1 hK1 => ?_) AllReadyH.nil)
  go_simp
  refine hK1.out _ _ S9.out (fun hH => ?_)
  clear hK1
  refine wpAnyH_done (by kernel_rfl) ?_ _
  go_upto_region 30 with fail
  generalize ((((((((((((A.setCell ⟨w.heap.size + 2, 1, none⟩ (.int .u32 (m.vers.toNat : Int))).setCell ⟨w.heap.size + 2, 2, none⟩ (.int .u64 (m.serv.toNat : Int))).setCell ⟨w.heap.size + 2, 4, none⟩ (.int .i64 m.time)).drew).setCells (w.heap.size + 2) 5 m.dst.cells).setCells (w.heap.size + 2) 24 m.src.cells).setCell ⟨w.heap.size + 2, 3, none⟩ (.int .u64 (m.nonce.toNat : Int))).setCell ⟨w.heap.size + 2, 43, none⟩ (.string m.agent)).setCell ⟨w.heap.size + 2, 44, none⟩ (.int .u32 (m.height.toNat : Int))).setCell ⟨w.heap.size + 2, 45, none⟩ (.bool m.relay)).setCell ⟨w.heap.size + 2, 5, none⟩ (.int .u32 0)).setCell ⟨w.heap.size + 2, 24, none⟩ (.int .u32 0)) = W1 at *
  generalize (zM.cells nil8).toArray = Z at *
  go_wp2_with ((with_reducible refine at_list ?_); first | refine wpList_loadS A0 _ rfl (w.heap.size + 2) rfl (m'.cells nil8).toArray HZ.out 50 EN.out.1 rfl ?_ | refine wpList_storeA A0 rfl _ _ rfl (w.heap.size + 1) (m'.cells nil8).toArray HZ.out HO.out rfl rfl Z HZm.out 50 R2.out ?_)
  refine bodyPost_ret (resA A0 rfl _ _ _ _ (m'.cells nil8).toArray HZ.out rfl EN.out.2.1) rfl ?_
  exact ⟨nil8, by rw [BK.out], OK.out, by rw [BK.out]; exact ML1.out, EN.out.2.2⟩
theorem named_no (m : Mg) (s : Vs) (w : World) (hk : m.kind ∉ ([1, 5, 6, 7, 8, 9, 10, 11, 12, 13, 14, 15, 16, 17, 18] : List Int)) : Calls Tryz.prog 24 #[.agg (m.cells s).toArray] w fun e w' => ∃ s', e = .returned (.agg (m.namedK.cells s').toArray) ∧ s'.ok ∧ (∀ W, MR W s m → MR W s' m.namedK) ∧ Below w.heap.size w w' := by
  simp only [List.mem_cons, List.not_mem_nil, or_false, not_or] at hk
  have BK : Hid (m.namedK = bareM m.kind 0) := by
    show _ = _
    unfold Mg.namedK
    rw [if_neg (by omega), if_neg (by omega), if_neg (by omega), if_neg (by omega), if_neg (by omega), if_neg (by omega), if_neg (by omega), if_neg (by omega), if_neg (by omega), if_neg (by omega), if_neg (by omega)]
    rfl
  rw [BK.out]
  have N0 := hide (Nm.start w m s)
  have EN := hide N0.out.fin
  have R2 := hide N0.out.r2
  have HZm := hide (zM.size nil8)
  have A0 := AMr
  have ck : (w.alloc (.cells (m.cells s).toArray 50) |>.alloc (.cells (zM.cells nil8).toArray 50)).cell? ⟨w.heap.size, 0, none⟩ = some (.int .i64 m.kind) := by
    have e1 := heap_alloc_last w (.cells (m.cells s).toArray 50)
    exact (Mc.of ((Below.heap_alloc _ (.cells (zM.cells nil8).toArray 50) _ (lt_heap e1)).trans e1)).f0
  have ck2 := (Mc.of N0.out.r1).f0
  have hb := run_bldR0 m.kind
  have HOb := hide ((bareM m.kind 0).one nil8 nil8_ok)
  have HZb := hide ((bareM m.kind 0).size nil8)
  have hsz : (w.alloc (.cells (m.cells s).toArray 50)).heap.size = w.heap.size + 1 := by simp
  have hsz2 : ((w.alloc (.cells (m.cells s).toArray 50)).alloc (.cells (zM.cells nil8).toArray 50)).heap.size = w.heap.size + 2 := by simp
  have ML1 : Hid (∀ W, MR W s m → MR W nil8 (bareM m.kind 0)) := fun W _ => ⟨LX.nil W, LX.nil W, LX.nil W, LX.nil W, LX.nil W, LX.nil W, LX.nil W, LX.nil W⟩
  clear N0 BK
  have h1 : (m.kind == 1) = false := by rw [beq_eq_false_iff_ne]; omega
  have h5 : (m.kind == 5) = false := by rw [beq_eq_false_iff_ne]; omega
  have h6 : (m.kind == 6) = false := by rw [beq_eq_false_iff_ne]; omega
  have h7 : (m.kind == 7) = false := by rw [beq_eq_false_iff_ne]; omega
  have h8 : (m.kind == 8) = false := by rw [beq_eq_false_iff_ne]; omega
  have h9 : (m.kind == 9) = false := by rw [beq_eq_false_iff_ne]; omega
  have h10 : (m.kind == 10) = false := by rw [beq_eq_false_iff_ne]; omega
  have h11 : (m.kind == 11) = false := by rw [beq_eq_false_iff_ne]; omega
  have h12 : (m.kind == 12) = false := by rw [beq_eq_false_iff_ne]; omega
  have h13 : (m.kind == 13) = false := by rw [beq_eq_false_iff_ne]; omega
  have h14 : (m.kind == 14) = false := by rw [beq_eq_false_iff_ne]; omega
  have h15 : (m.kind == 15) = false := by rw [beq_eq_false_iff_ne]; omega
  have h16 : (m.kind == 16) = false := by rw [beq_eq_false_iff_ne]; omega
  have h17 : (m.kind == 17) = false := by rw [beq_eq_false_iff_ne]; omega
  have h18 : (m.kind == 18) = false := by rw [beq_eq_false_iff_ne]; omega
  clear hk
  go_enter Tryz.func24, Tryz.ntmps24
  go_upto_region 1 with (with_reducible refine at_list ?_; first | refine wpList_boxA rfl _ rfl (m.cells s).toArray rfl ?_ | refine wpList_allocA AMr rfl rfl ?_)
  rw [hsz]
  clear hsz
  go_upto_region 2 with (with_reducible refine at_list ?_; first | refine wpList_allocA AMr rfl rfl ?_ | refine wpList_store_newA AMr rfl _ _ rfl _ rfl ((bareM m.kind 0).cells nil8).toArray HZb.out HOb.out rfl rfl ?_)
  try rw [hsz2]
  clear hsz2 ck hb
  generalize ((w.alloc (.cells (m.cells s).toArray 50)).alloc (.cells (zM.cells nil8).toArray 50)).alloc (.cells ((bareM m.kind 0).cells nil8).toArray 50) = A at *
  generalize (zM.cells nil8).toArray = Z at *
  go_wp2_with ((with_reducible refine at_list ?_); first | refine wpList_loadS A0 _ rfl (w.heap.size + 2) rfl ((bareM m.kind 0).cells nil8).toArray HZb.out 50 EN.out.1 rfl ?_ | refine wpList_storeA A0 rfl _ _ rfl (w.heap.size + 1) ((bareM m.kind 0).cells nil8).toArray HZb.out HOb.out rfl rfl Z HZm.out 50 R2.out ?_)
  refine bodyPost_ret (resA A0 rfl _ _ _ _ ((bareM m.kind 0).cells nil8).toArray HZb.out rfl EN.out.2.1) rfl ?_
  exact ⟨nil8, rfl, nil8_ok, ML1.out, EN.out.2.2⟩
theorem named_any (m : Mg) (s : Vs) (w : World) (hR : MR w s m) : Calls Tryz.prog 24 #[.agg (m.cells s).toArray] w fun e w' => ∃ s', e = .returned (.agg (m.namedK.cells s').toArray) ∧ s'.ok ∧ (∀ W, MR W s m → MR W s' m.namedK) ∧ Below w.heap.size w w' := by
  by_cases h1 : m.kind = 1
  · exact named_k1 m s w hR h1
  by_cases h5 : m.kind = 5
  · exact named_k5 m s w hR h5
  by_cases h6 : m.kind = 6
  · exact named_k6 m s w hR h6
  by_cases h7 : m.kind = 7
  · exact named_k7 m s w hR h7
  by_cases h8 : m.kind = 8
  · exact named_k8 m s w hR h8
  by_cases h9 : m.kind = 9
  · exact named_k9 m s w hR h9
  by_cases h10 : m.kind = 10
  · exact named_k10 m s w hR h10
  by_cases h11 : m.kind = 11
  · exact named_k11 m s w hR h11
  by_cases h12 : m.kind = 12
  · exact named_k12 m s w hR h12
  by_cases h13 : m.kind = 13
  · exact named_k13 m s w hR h13
  by_cases h14 : m.kind = 14
  · exact named_k14 m s w hR h14
  by_cases h15 : m.kind = 15
  · exact named_k15 m s w hR h15
  by_cases h16 : m.kind = 16
  · exact named_k16 m s w hR h16
  by_cases h17 : m.kind = 17
  · exact named_k17 m s w hR h17
  by_cases h18 : m.kind = 18
  · exact named_k18 m s w hR h18
  exact named_no m s w (by simp only [List.mem_cons, List.not_mem_nil, or_false, not_or]; exact ⟨h1, h5, h6, h7, h8, h9, h10, h11, h12, h13, h14, h15, h16, h17, h18⟩)
end
end Go.Proofs.YtkoidjaaojmcnaaGreat
