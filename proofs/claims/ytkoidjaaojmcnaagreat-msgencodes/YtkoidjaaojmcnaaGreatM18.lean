/- A message without what its kind names: unnamed. -/
import Derived.Test.YtkoidjaaojmcnaaGreatM17
namespace Go.Proofs.YtkoidjaaojmcnaaGreat
open Go.RowKit
open Go.Deep
theorem mcf_set' {m m' : Mg} {s s' : Vs} {k : Nat} {v : Value} (e : (m.cells s).set k v = m'.cells s') : ∀ j, j < 121 → (if j = k then v else mcf m s j) = mcf m' s' j := by
  intro j hj
  unfold mcf
  rw [← e]
  by_cases h : j = k
  · subst h
    rw [if_pos rfl, List.getElem?_set_self (by rw [m.len]; exact hj)]
    rfl
  · rw [if_neg h, List.getElem?_set_ne (Ne.symm h)]
theorem seg_set {A X Y R : List Value} (h : X.length = Y.length) (j : Nat) : (if A.length ≤ j ∧ j < A.length + Y.length then Y[j - A.length]?.getD default else (A ++ (X ++ R))[j]?.getD default) = (A ++ (Y ++ R))[j]?.getD default := by
  by_cases h1 : j < A.length
  · rw [if_neg (by omega), List.getElem?_append_left h1, List.getElem?_append_left h1]
  · rw [List.getElem?_append_right (l₁ := A) (by omega), List.getElem?_append_right (l₁ := A) (by omega)]
    by_cases h2 : j - A.length < Y.length
    · rw [if_pos (by omega), List.getElem?_append_left h2]
    · rw [if_neg (by omega), List.getElem?_append_right (by omega), List.getElem?_append_right (by omega), h]
/-- A message in its place, and an answer's place behind it. -/
structure Un (w W : World) (m : Mg) (s : Vs) : Prop where
  r1 : W.rowIs w.heap.size 38 121 (mcf m s)
  r2 : W.heap[w.heap.size + 1]? = some (.cells (zM.cells nil8).toArray 38 (0, 0))
  bel : Below w.heap.size w W
section
variable {w W : World} {m m' : Mg} {s s' : Vs}
theorem Un.start (w : World) (m : Mg) (s : Vs) : Un w ((w.alloc (.cells (m.cells s).toArray 38)).alloc (.cells (zM.cells nil8).toArray 38)) m s := by
  have e1 := heap_alloc_last w (.cells (m.cells s).toArray 38)
  have r2 := heap_alloc_last (w.alloc (.cells (m.cells s).toArray 38)) (.cells (zM.cells nil8).toArray 38)
  rw [show (w.alloc (.cells (m.cells s).toArray 38)).heap.size = w.heap.size + 1 by simp] at r2
  exact ⟨mcf_of m s ((Below.heap_alloc _ _ _ (lt_heap e1)).trans e1), r2, ((Below.refl _ _).alloc (Nat.le_refl _) _).alloc (by simp) _⟩
theorem Un.set (h : Un w W m s) (k : Nat) (v : Value) (e : (m.cells s).set k v = m'.cells s') : Un w (W.setCell ⟨w.heap.size, k, none⟩ v) m' s' :=
  ⟨(h.r1.set k v).congr (mcf_set' e), (blk_setCell_other _ _ _ _ (fun e => by have e' : w.heap.size + 1 = w.heap.size := e; omega)).trans h.r2, h.bel.trans ((Rfr.setCell w.heap.size W k v).to_below (Nat.le_refl _) h.bel.size)⟩
theorem Un.setL (h : Un w W m s) (A X Y R : List Value) (hl : X.length = Y.length) (e1 : m.cells s = A ++ (X ++ R)) (e2 : m'.cells s' = A ++ (Y ++ R)) (o : Nat) (ho : o = A.length) : Un w (W.setCells w.heap.size o Y) m' s' := by
  refine ⟨(rowIs_setCells Y o W _ h.r1).congr fun j hj => ?_, ?_, h.bel.trans ((Rfr.setCells w.heap.size Y o W).to_below (Nat.le_refl _) h.bel.size)⟩
  · unfold mcf
    rw [e1, e2, ho]
    exact seg_set hl j
  · exact ((Rfr.setCells w.heap.size Y o W).block _ (lt_heap h.r2) (by omega)).trans h.r2
theorem Un.mc (h : Un w W m s) : Mc W w.heap.size m s := Mc.of (mcf_row m s h.r1)
theorem Un.fz (h : Un w W m s) (i : Nat) : W.frozen? ⟨w.heap.size, i, none⟩ = false := World.rowIs.frozen h.r1 i
theorem Un.there (h : Un w W m s) (o n : Nat) (hn : o + n ≤ 121) : W.there w.heap.size o n := fun j hj => by
  refine ⟨?_, h.fz _⟩
  have := World.rowIs.cell h.r1 (i := o + j) (by omega)
  rw [this]
  rfl
end
section
set_option maxRecDepth 10000
set_option maxHeartbeats 4000000
theorem unnamed_end {w W : World} {m : Mg} {s : Vs} (h : Un w W m s) : W.heap[w.heap.size]? = some (.cells (m.cells s).toArray 38 (0, 0)) ∧ (W.setRow (w.heap.size + 1) (m.cells s).toArray).heap[w.heap.size + 1]? = some (.cells (m.cells s).toArray 38 (0, 0)) ∧ Below w.heap.size w (W.setRow (w.heap.size + 1) (m.cells s).toArray) := ⟨mcf_row m s h.r1, setRow_heap _ _ _ _ _ _ h.r2, below_setRow h.bel (by omega) _⟩
theorem Mg.spD (m : Mg) (s : Vs) : m.cells s = m.c0 ++ (m.dst.cells ++ (m.src.cells ++ (m.c1 s ++ (cellsL m.stop.1 ++ (cellsL m.hash.1 ++ m.c2 s))))) := rfl
theorem Mg.spS (m : Mg) (s : Vs) : m.cells s = (m.c0 ++ m.dst.cells) ++ (m.src.cells ++ (m.c1 s ++ (cellsL m.stop.1 ++ (cellsL m.hash.1 ++ m.c2 s)))) := by rw [m.spD, List.append_assoc]
theorem Mg.spT (m : Mg) (s : Vs) : m.cells s = (m.c0 ++ m.dst.cells ++ m.src.cells ++ m.c1 s) ++ (cellsL m.stop.1 ++ (cellsL m.hash.1 ++ m.c2 s)) := by rw [m.spD]; simp only [List.append_assoc]
theorem Mg.spH (m : Mg) (s : Vs) : m.cells s = (m.c0 ++ m.dst.cells ++ m.src.cells ++ m.c1 s ++ cellsL m.stop.1) ++ (cellsL m.hash.1 ++ m.c2 s) := by rw [m.spD]; simp only [List.append_assoc]
theorem Mg.lD (m : Mg) : 5 = m.c0.length := rfl
theorem Mg.lS (m : Mg) : 24 = (m.c0 ++ m.dst.cells).length := by rw [List.length_append, m.dst.len]; rfl
theorem Mg.lT (m : Mg) (s : Vs) : 50 = (m.c0 ++ m.dst.cells ++ m.src.cells ++ m.c1 s).length := by simp only [List.length_append, m.dst.len, m.src.len]; rfl
theorem Mg.lH (m : Mg) (s : Vs) : 82 = (m.c0 ++ m.dst.cells ++ m.src.cells ++ m.c1 s ++ cellsL m.stop.1).length := by simp only [List.length_append, m.dst.len, m.src.len, m.stl]; rfl
theorem zz32 : hc zeros = (cellsL zI.1).toArray := rfl
theorem n19 (x : Nt) : x.cells.toArray.size = 19 := by rw [List.size_toArray, x.len]
theorem z32 : (cellsL zI.1).toArray.size = 32 := by rw [List.size_toArray, cellsL_len, zI.2]
theorem run_bldT (t : UInt32) (w : World) : (Instr.build 27 #[(0, .int .u32 (t.toNat : Int))]).run Tryz.prog w = .ok (.agg ({ zN with time := t } : Nt).cells.toArray) w := by kernel_rfl
def bdT (x : Array (Nat × Value)) : Sem Value := Instr.build 27 x
theorem bdT_eq (x : Array (Nat × Value)) : Instr.build 27 x = bdT x := rfl
attribute [local go_sem ↓] bdT_eq
theorem unnamed_k1 (m : Mg) (s : Vs) (w : World) (hs : s.ok) (hk : m.kind = 1) : Calls Tryz.prog 16 #[.agg (m.cells s).toArray] w fun e w' => ∃ s', e = .returned (.agg (m.bareK.cells s').toArray) ∧ s'.ok ∧ (∀ W, ML W s m → ML W s' m.bareK) ∧ Below w.heap.size w w' := by
  have U0 := hide (Un.start w m s)
  have ck := U0.out.mc.f0
  rw [hk] at ck
  have q1 := U0.out.mc.f1
  have f1 := U0.out.fz 1
  have U1 : Hid (Un w (((w.alloc (.cells (m.cells s).toArray 38)).alloc (.cells (zM.cells nil8).toArray 38)).setCell ⟨w.heap.size, 1, none⟩ (.int .u32 0)) ({ m with vers := 0 } : Mg) s) := U0.out.set (m' := ({ m with vers := 0 } : Mg)) (s' := s) 1 (.int .u32 0) (rfl)
  have q2 := U1.out.mc.f2
  have f2 := U1.out.fz 2
  have U2 : Hid (Un w ((((w.alloc (.cells (m.cells s).toArray 38)).alloc (.cells (zM.cells nil8).toArray 38)).setCell ⟨w.heap.size, 1, none⟩ (.int .u32 0)).setCell ⟨w.heap.size, 2, none⟩ (.int .u64 0)) ({ m with vers := 0, serv := 0 } : Mg) s) := U1.out.set (m' := ({ m with vers := 0, serv := 0 } : Mg)) (s' := s) 2 (.int .u64 0) (rfl)
  have q3 := U2.out.mc.f4
  have f3 := U2.out.fz 4
  have U3 : Hid (Un w (((((w.alloc (.cells (m.cells s).toArray 38)).alloc (.cells (zM.cells nil8).toArray 38)).setCell ⟨w.heap.size, 1, none⟩ (.int .u32 0)).setCell ⟨w.heap.size, 2, none⟩ (.int .u64 0)).setCell ⟨w.heap.size, 4, none⟩ (.int .i64 0)) ({ m with vers := 0, serv := 0, time := 0 } : Mg) s) := U2.out.set (m' := ({ m with vers := 0, serv := 0, time := 0 } : Mg)) (s' := s) 4 (.int .i64 0) (rfl)
  have q4 := U3.out.mc.f3
  have f4 := U3.out.fz 3
  have U4 : Hid (Un w ((((((w.alloc (.cells (m.cells s).toArray 38)).alloc (.cells (zM.cells nil8).toArray 38)).setCell ⟨w.heap.size, 1, none⟩ (.int .u32 0)).setCell ⟨w.heap.size, 2, none⟩ (.int .u64 0)).setCell ⟨w.heap.size, 4, none⟩ (.int .i64 0)).setCell ⟨w.heap.size, 3, none⟩ (.int .u64 0)) ({ m with vers := 0, serv := 0, time := 0, nonce := 0 } : Mg) s) := U3.out.set (m' := ({ m with vers := 0, serv := 0, time := 0, nonce := 0 } : Mg)) (s' := s) 3 (.int .u64 0) (rfl)
  have T5 : Hid (((((((w.alloc (.cells (m.cells s).toArray 38)).alloc (.cells (zM.cells nil8).toArray 38)).setCell ⟨w.heap.size, 1, none⟩ (.int .u32 0)).setCell ⟨w.heap.size, 2, none⟩ (.int .u64 0)).setCell ⟨w.heap.size, 4, none⟩ (.int .i64 0)).setCell ⟨w.heap.size, 3, none⟩ (.int .u64 0)).there w.heap.size 5 (Nt.cells { zN with time := m.dst.time }).toArray.size) := by show World.there _ _ _ _; rw [n19]; exact U4.out.there 5 19 (by decide)
  have qtD4 : ((((((w.alloc (.cells (m.cells s).toArray 38)).alloc (.cells (zM.cells nil8).toArray 38)).setCell ⟨w.heap.size, 1, none⟩ (.int .u32 0)).setCell ⟨w.heap.size, 2, none⟩ (.int .u64 0)).setCell ⟨w.heap.size, 4, none⟩ (.int .i64 0)).setCell ⟨w.heap.size, 3, none⟩ (.int .u64 0)).cell? ⟨w.heap.size, 5, none⟩ = some (.int .u32 (m.dst.time.toNat : Int)) := U4.out.mc.dst 0 _ rfl
  have U5 : Hid (Un w (((((((w.alloc (.cells (m.cells s).toArray 38)).alloc (.cells (zM.cells nil8).toArray 38)).setCell ⟨w.heap.size, 1, none⟩ (.int .u32 0)).setCell ⟨w.heap.size, 2, none⟩ (.int .u64 0)).setCell ⟨w.heap.size, 4, none⟩ (.int .i64 0)).setCell ⟨w.heap.size, 3, none⟩ (.int .u64 0)).setCells w.heap.size 5 (Nt.cells { zN with time := m.dst.time })) ({ m with vers := 0, serv := 0, time := 0, nonce := 0, dst := { zN with time := m.dst.time } } : Mg) s) := U4.out.setL _ _ (Nt.cells { zN with time := m.dst.time }) _ (by rw [Nt.len, Nt.len]) (({ m with vers := 0, serv := 0, time := 0, nonce := 0 } : Mg).spD s) (({ m with vers := 0, serv := 0, time := 0, nonce := 0, dst := { zN with time := m.dst.time } } : Mg).spD s) 5 (({ m with vers := 0, serv := 0, time := 0, nonce := 0 } : Mg).lD)
  have T6 : Hid ((((((((w.alloc (.cells (m.cells s).toArray 38)).alloc (.cells (zM.cells nil8).toArray 38)).setCell ⟨w.heap.size, 1, none⟩ (.int .u32 0)).setCell ⟨w.heap.size, 2, none⟩ (.int .u64 0)).setCell ⟨w.heap.size, 4, none⟩ (.int .i64 0)).setCell ⟨w.heap.size, 3, none⟩ (.int .u64 0)).setCells w.heap.size 5 (Nt.cells { zN with time := m.dst.time })).there w.heap.size 24 (Nt.cells { zN with time := m.src.time }).toArray.size) := by show World.there _ _ _ _; rw [n19]; exact U5.out.there 24 19 (by decide)
  have qtS4 : ((((((w.alloc (.cells (m.cells s).toArray 38)).alloc (.cells (zM.cells nil8).toArray 38)).setCell ⟨w.heap.size, 1, none⟩ (.int .u32 0)).setCell ⟨w.heap.size, 2, none⟩ (.int .u64 0)).setCell ⟨w.heap.size, 4, none⟩ (.int .i64 0)).setCell ⟨w.heap.size, 3, none⟩ (.int .u64 0)).cell? ⟨w.heap.size, 24, none⟩ = some (.int .u32 (m.src.time.toNat : Int)) := U4.out.mc.src 0 _ rfl
  have qtS5 : (((((((w.alloc (.cells (m.cells s).toArray 38)).alloc (.cells (zM.cells nil8).toArray 38)).setCell ⟨w.heap.size, 1, none⟩ (.int .u32 0)).setCell ⟨w.heap.size, 2, none⟩ (.int .u64 0)).setCell ⟨w.heap.size, 4, none⟩ (.int .i64 0)).setCell ⟨w.heap.size, 3, none⟩ (.int .u64 0)).setCells w.heap.size 5 (Nt.cells { zN with time := m.dst.time })).cell? ⟨w.heap.size, 24, none⟩ = some (.int .u32 (m.src.time.toNat : Int)) := U5.out.mc.src 0 _ rfl
  have U6 : Hid (Un w ((((((((w.alloc (.cells (m.cells s).toArray 38)).alloc (.cells (zM.cells nil8).toArray 38)).setCell ⟨w.heap.size, 1, none⟩ (.int .u32 0)).setCell ⟨w.heap.size, 2, none⟩ (.int .u64 0)).setCell ⟨w.heap.size, 4, none⟩ (.int .i64 0)).setCell ⟨w.heap.size, 3, none⟩ (.int .u64 0)).setCells w.heap.size 5 (Nt.cells { zN with time := m.dst.time })).setCells w.heap.size 24 (Nt.cells { zN with time := m.src.time })) ({ m with vers := 0, serv := 0, time := 0, nonce := 0, dst := { zN with time := m.dst.time }, src := { zN with time := m.src.time } } : Mg) s) := U5.out.setL _ _ (Nt.cells { zN with time := m.src.time }) _ (by rw [Nt.len, Nt.len]) (({ m with vers := 0, serv := 0, time := 0, nonce := 0, dst := { zN with time := m.dst.time } } : Mg).spS s) (({ m with vers := 0, serv := 0, time := 0, nonce := 0, dst := { zN with time := m.dst.time }, src := { zN with time := m.src.time } } : Mg).spS s) 24 (({ m with vers := 0, serv := 0, time := 0, nonce := 0, dst := { zN with time := m.dst.time } } : Mg).lS)
  have q7 := U6.out.mc.f7
  have f7 := U6.out.fz 43
  have U7 : Hid (Un w (((((((((w.alloc (.cells (m.cells s).toArray 38)).alloc (.cells (zM.cells nil8).toArray 38)).setCell ⟨w.heap.size, 1, none⟩ (.int .u32 0)).setCell ⟨w.heap.size, 2, none⟩ (.int .u64 0)).setCell ⟨w.heap.size, 4, none⟩ (.int .i64 0)).setCell ⟨w.heap.size, 3, none⟩ (.int .u64 0)).setCells w.heap.size 5 (Nt.cells { zN with time := m.dst.time })).setCells w.heap.size 24 (Nt.cells { zN with time := m.src.time })).setCell ⟨w.heap.size, 43, none⟩ (.string ⟨#[]⟩)) ({ m with vers := 0, serv := 0, time := 0, nonce := 0, dst := { zN with time := m.dst.time }, src := { zN with time := m.src.time }, agent := ByteArray.empty } : Mg) s) := U6.out.set (m' := ({ m with vers := 0, serv := 0, time := 0, nonce := 0, dst := { zN with time := m.dst.time }, src := { zN with time := m.src.time }, agent := ByteArray.empty } : Mg)) (s' := s) 43 (.string ⟨#[]⟩) (by rw [show 43 = 43 + 0 from rfl, Mg.set1 _ _ 0 _ (by decide)]; rfl)
  have q8 := U7.out.mc.f8
  have f8 := U7.out.fz 44
  have U8 : Hid (Un w ((((((((((w.alloc (.cells (m.cells s).toArray 38)).alloc (.cells (zM.cells nil8).toArray 38)).setCell ⟨w.heap.size, 1, none⟩ (.int .u32 0)).setCell ⟨w.heap.size, 2, none⟩ (.int .u64 0)).setCell ⟨w.heap.size, 4, none⟩ (.int .i64 0)).setCell ⟨w.heap.size, 3, none⟩ (.int .u64 0)).setCells w.heap.size 5 (Nt.cells { zN with time := m.dst.time })).setCells w.heap.size 24 (Nt.cells { zN with time := m.src.time })).setCell ⟨w.heap.size, 43, none⟩ (.string ⟨#[]⟩)).setCell ⟨w.heap.size, 44, none⟩ (.int .u32 0)) ({ m with vers := 0, serv := 0, time := 0, nonce := 0, dst := { zN with time := m.dst.time }, src := { zN with time := m.src.time }, agent := ByteArray.empty, height := 0 } : Mg) s) := U7.out.set (m' := ({ m with vers := 0, serv := 0, time := 0, nonce := 0, dst := { zN with time := m.dst.time }, src := { zN with time := m.src.time }, agent := ByteArray.empty, height := 0 } : Mg)) (s' := s) 44 (.int .u32 0) (by rw [show 44 = 43 + 1 from rfl, Mg.set1 _ _ 1 _ (by decide)]; rfl)
  have q9 := U8.out.mc.f9
  have f9 := U8.out.fz 45
  have U9 : Hid (Un w (((((((((((w.alloc (.cells (m.cells s).toArray 38)).alloc (.cells (zM.cells nil8).toArray 38)).setCell ⟨w.heap.size, 1, none⟩ (.int .u32 0)).setCell ⟨w.heap.size, 2, none⟩ (.int .u64 0)).setCell ⟨w.heap.size, 4, none⟩ (.int .i64 0)).setCell ⟨w.heap.size, 3, none⟩ (.int .u64 0)).setCells w.heap.size 5 (Nt.cells { zN with time := m.dst.time })).setCells w.heap.size 24 (Nt.cells { zN with time := m.src.time })).setCell ⟨w.heap.size, 43, none⟩ (.string ⟨#[]⟩)).setCell ⟨w.heap.size, 44, none⟩ (.int .u32 0)).setCell ⟨w.heap.size, 45, none⟩ (.bool false)) ({ m with vers := 0, serv := 0, time := 0, nonce := 0, dst := { zN with time := m.dst.time }, src := { zN with time := m.src.time }, agent := ByteArray.empty, height := 0, relay := false } : Mg) s) := U8.out.set (m' := ({ m with vers := 0, serv := 0, time := 0, nonce := 0, dst := { zN with time := m.dst.time }, src := { zN with time := m.src.time }, agent := ByteArray.empty, height := 0, relay := false } : Mg)) (s' := s) 45 (.bool false) (by rw [show 45 = 43 + 2 from rfl, Mg.set1 _ _ 2 _ (by decide)]; rfl)
  have BK : Hid (m.bareK = ({ m with vers := 0, serv := 0, time := 0, nonce := 0, dst := { zN with time := m.dst.time }, src := { zN with time := m.src.time }, agent := ByteArray.empty, height := 0, relay := false } : Mg)) := by show _ = _; unfold Mg.bareK; simp [hk]
  have ML1 : Hid (∀ W, ML W s m → ML W s ({ m with vers := 0, serv := 0, time := 0, nonce := 0, dst := { zN with time := m.dst.time }, src := { zN with time := m.src.time }, agent := ByteArray.empty, height := 0, relay := false } : Mg)) := fun W h => ⟨h.a, h.i, h.h, h.hd, h.sh, h.f, h.p, h.r⟩
  have OK : Hid (s).ok := ⟨hs.a, hs.i, hs.h, hs.hd, hs.sh, hs.f, hs.p, hs.r⟩
  have EN := hide (unnamed_end U9.out)
  have R2 := hide U9.out.r2
  have HO := hide (({ m with vers := 0, serv := 0, time := 0, nonce := 0, dst := { zN with time := m.dst.time }, src := { zN with time := m.src.time }, agent := ByteArray.empty, height := 0, relay := false } : Mg).one s OK.out)
  have HZ := hide (({ m with vers := 0, serv := 0, time := 0, nonce := 0, dst := { zN with time := m.dst.time }, src := { zN with time := m.src.time }, agent := ByteArray.empty, height := 0, relay := false } : Mg).size s)
  have HZm := hide (zM.size nil8)
  have A0 := AM
  have hsz : (w.alloc (.cells (m.cells s).toArray 38)).heap.size = w.heap.size + 1 := by simp
  clear U0 U1 U2 U3 U4 U5 U6 U7 U8 U9 hk hs
  generalize hnm : ({ m with vers := 0, serv := 0, time := 0, nonce := 0, dst := { zN with time := m.dst.time }, src := { zN with time := m.src.time }, agent := ByteArray.empty, height := 0, relay := false } : Mg) = m' at *
  have hns : s = s := rfl
  clear hnm hns
  have hbd := fun W => run_bldT m.dst.time W
  have hbs := fun W => run_bldT m.src.time W
  have hbd2 : ∀ W, (bdT #[(0, .int .u32 (m.dst.time.toNat : Int))]).run Tryz.prog W = .ok (.agg (Nt.cells { zN with time := m.dst.time }).toArray) W := hbd
  have hbs2 : ∀ W, (bdT #[(0, .int .u32 (m.src.time.toNat : Int))]).run Tryz.prog W = .ok (.agg (Nt.cells { zN with time := m.src.time }).toArray) W := hbs
  clear hbd hbs
  have OD := hide (Nt.one { zN with time := m.dst.time })
  have OS := hide (Nt.one { zN with time := m.src.time })
  have ID : Hid ((Tryz.prog.info? 27).map (·.size) = some (Nt.cells { zN with time := m.dst.time }).toArray.size) := by show _ = _; rw [n19]; kernel_rfl
  have IS : Hid ((Tryz.prog.info? 27).map (·.size) = some (Nt.cells { zN with time := m.src.time }).toArray.size) := by show _ = _; rw [n19]; kernel_rfl
  generalize Nt.cells { zN with time := m.dst.time } = yd at *
  generalize Nt.cells { zN with time := m.src.time } = ys at *
  go_enter Tryz.func16, Tryz.ntmps16
  go_upto_region 1 with (with_reducible refine at_list ?_; first | refine wpList_boxA rfl _ rfl (m.cells s).toArray rfl ?_ | refine wpList_allocA AM rfl rfl ?_)
  rw [hsz]
  clear hsz
  generalize (w.alloc (.cells (m.cells s).toArray 38)).alloc (.cells (zM.cells nil8).toArray 38) = W0 at *
  generalize (zM.cells nil8).toArray = Z at *
  go_upto_region 30 with (with_reducible refine at_list ?_; first | refine wpList_store_mid rfl 27 _ _ rfl w.heap.size 5 yd.toArray rfl rfl T5.out ID.out (all_oneCell_toArray OD.out) ?_ | refine wpList_store_mid rfl 27 _ _ rfl w.heap.size 24 ys.toArray rfl rfl T6.out IS.out (all_oneCell_toArray OS.out) ?_)
  generalize (((((((((W0.setCell ⟨w.heap.size, 1, none⟩ (.int .u32 0)).setCell ⟨w.heap.size, 2, none⟩ (.int .u64 0)).setCell ⟨w.heap.size, 4, none⟩ (.int .i64 0)).setCell ⟨w.heap.size, 3, none⟩ (.int .u64 0)).setCells w.heap.size 5 yd).setCells w.heap.size 24 ys).setCell ⟨w.heap.size, 43, none⟩ (.string ⟨#[]⟩)).setCell ⟨w.heap.size, 44, none⟩ (.int .u32 0)).setCell ⟨w.heap.size, 45, none⟩ (.bool false)) = W1 at *
  go_wp2_with ((with_reducible refine at_list ?_); first | refine wpList_loadS A0 _ rfl w.heap.size rfl (m'.cells s).toArray HZ.out 38 EN.out.1 rfl ?_ | refine wpList_storeA A0 rfl _ _ rfl (w.heap.size + 1) (m'.cells s).toArray HZ.out HO.out rfl rfl Z HZm.out 38 R2.out ?_)
  refine bodyPost_ret (resA A0 rfl _ _ _ _ (m'.cells s).toArray HZ.out rfl EN.out.2.1) rfl ?_
  exact ⟨s, by rw [BK.out], OK.out, by rw [BK.out]; exact ML1.out, EN.out.2.2⟩
theorem unnamed_k5 (m : Mg) (s : Vs) (w : World) (hs : s.ok) (hk : m.kind = 5) : Calls Tryz.prog 16 #[.agg (m.cells s).toArray] w fun e w' => ∃ s', e = .returned (.agg (m.bareK.cells s').toArray) ∧ s'.ok ∧ (∀ W, ML W s m → ML W s' m.bareK) ∧ Below w.heap.size w w' := by
  have U0 := hide (Un.start w m s)
  have ck := U0.out.mc.f0
  rw [hk] at ck
  have q1 := U0.out.mc.f3
  have f1 := U0.out.fz 3
  have U1 : Hid (Un w (((w.alloc (.cells (m.cells s).toArray 38)).alloc (.cells (zM.cells nil8).toArray 38)).setCell ⟨w.heap.size, 3, none⟩ (.int .u64 0)) ({ m with nonce := 0 } : Mg) s) := U0.out.set (m' := ({ m with nonce := 0 } : Mg)) (s' := s) 3 (.int .u64 0) (rfl)
  have BK : Hid (m.bareK = ({ m with nonce := 0 } : Mg)) := by show _ = _; unfold Mg.bareK; simp [hk]
  have ML1 : Hid (∀ W, ML W s m → ML W s ({ m with nonce := 0 } : Mg)) := fun W h => ⟨h.a, h.i, h.h, h.hd, h.sh, h.f, h.p, h.r⟩
  have OK : Hid (s).ok := ⟨hs.a, hs.i, hs.h, hs.hd, hs.sh, hs.f, hs.p, hs.r⟩
  have EN := hide (unnamed_end U1.out)
  have R2 := hide U1.out.r2
  have HO := hide (({ m with nonce := 0 } : Mg).one s OK.out)
  have HZ := hide (({ m with nonce := 0 } : Mg).size s)
  have HZm := hide (zM.size nil8)
  have A0 := AM
  have hsz : (w.alloc (.cells (m.cells s).toArray 38)).heap.size = w.heap.size + 1 := by simp
  clear U0 U1 hk hs
  generalize hnm : ({ m with nonce := 0 } : Mg) = m' at *
  have hns : s = s := rfl
  clear hnm hns
  go_enter Tryz.func16, Tryz.ntmps16
  go_upto_region 1 with (with_reducible refine at_list ?_; first | refine wpList_boxA rfl _ rfl (m.cells s).toArray rfl ?_ | refine wpList_allocA AM rfl rfl ?_)
  rw [hsz]
  clear hsz
  generalize (w.alloc (.cells (m.cells s).toArray 38)).alloc (.cells (zM.cells nil8).toArray 38) = W0 at *
  generalize (zM.cells nil8).toArray = Z at *
  go_upto_region 30 with fail
  generalize (W0.setCell ⟨w.heap.size, 3, none⟩ (.int .u64 0)) = W1 at *
  go_wp2_with ((with_reducible refine at_list ?_); first | refine wpList_loadS A0 _ rfl w.heap.size rfl (m'.cells s).toArray HZ.out 38 EN.out.1 rfl ?_ | refine wpList_storeA A0 rfl _ _ rfl (w.heap.size + 1) (m'.cells s).toArray HZ.out HO.out rfl rfl Z HZm.out 38 R2.out ?_)
  refine bodyPost_ret (resA A0 rfl _ _ _ _ (m'.cells s).toArray HZ.out rfl EN.out.2.1) rfl ?_
  exact ⟨s, by rw [BK.out], OK.out, by rw [BK.out]; exact ML1.out, EN.out.2.2⟩
theorem unnamed_k6 (m : Mg) (s : Vs) (w : World) (hs : s.ok) (hk : m.kind = 6) : Calls Tryz.prog 16 #[.agg (m.cells s).toArray] w fun e w' => ∃ s', e = .returned (.agg (m.bareK.cells s').toArray) ∧ s'.ok ∧ (∀ W, ML W s m → ML W s' m.bareK) ∧ Below w.heap.size w w' := by
  have U0 := hide (Un.start w m s)
  have ck := U0.out.mc.f0
  rw [hk] at ck
  have q1 := U0.out.mc.f3
  have f1 := U0.out.fz 3
  have U1 : Hid (Un w (((w.alloc (.cells (m.cells s).toArray 38)).alloc (.cells (zM.cells nil8).toArray 38)).setCell ⟨w.heap.size, 3, none⟩ (.int .u64 0)) ({ m with nonce := 0 } : Mg) s) := U0.out.set (m' := ({ m with nonce := 0 } : Mg)) (s' := s) 3 (.int .u64 0) (rfl)
  have BK : Hid (m.bareK = ({ m with nonce := 0 } : Mg)) := by show _ = _; unfold Mg.bareK; simp [hk]
  have ML1 : Hid (∀ W, ML W s m → ML W s ({ m with nonce := 0 } : Mg)) := fun W h => ⟨h.a, h.i, h.h, h.hd, h.sh, h.f, h.p, h.r⟩
  have OK : Hid (s).ok := ⟨hs.a, hs.i, hs.h, hs.hd, hs.sh, hs.f, hs.p, hs.r⟩
  have EN := hide (unnamed_end U1.out)
  have R2 := hide U1.out.r2
  have HO := hide (({ m with nonce := 0 } : Mg).one s OK.out)
  have HZ := hide (({ m with nonce := 0 } : Mg).size s)
  have HZm := hide (zM.size nil8)
  have A0 := AM
  have hsz : (w.alloc (.cells (m.cells s).toArray 38)).heap.size = w.heap.size + 1 := by simp
  clear U0 U1 hk hs
  generalize hnm : ({ m with nonce := 0 } : Mg) = m' at *
  have hns : s = s := rfl
  clear hnm hns
  go_enter Tryz.func16, Tryz.ntmps16
  go_upto_region 1 with (with_reducible refine at_list ?_; first | refine wpList_boxA rfl _ rfl (m.cells s).toArray rfl ?_ | refine wpList_allocA AM rfl rfl ?_)
  rw [hsz]
  clear hsz
  generalize (w.alloc (.cells (m.cells s).toArray 38)).alloc (.cells (zM.cells nil8).toArray 38) = W0 at *
  generalize (zM.cells nil8).toArray = Z at *
  go_upto_region 30 with fail
  generalize (W0.setCell ⟨w.heap.size, 3, none⟩ (.int .u64 0)) = W1 at *
  go_wp2_with ((with_reducible refine at_list ?_); first | refine wpList_loadS A0 _ rfl w.heap.size rfl (m'.cells s).toArray HZ.out 38 EN.out.1 rfl ?_ | refine wpList_storeA A0 rfl _ _ rfl (w.heap.size + 1) (m'.cells s).toArray HZ.out HO.out rfl rfl Z HZm.out 38 R2.out ?_)
  refine bodyPost_ret (resA A0 rfl _ _ _ _ (m'.cells s).toArray HZ.out rfl EN.out.2.1) rfl ?_
  exact ⟨s, by rw [BK.out], OK.out, by rw [BK.out]; exact ML1.out, EN.out.2.2⟩
theorem unnamed_k7 (m : Mg) (s : Vs) (w : World) (hs : s.ok) (hk : m.kind = 7) : Calls Tryz.prog 16 #[.agg (m.cells s).toArray] w fun e w' => ∃ s', e = .returned (.agg (m.bareK.cells s').toArray) ∧ s'.ok ∧ (∀ W, ML W s m → ML W s' m.bareK) ∧ Below w.heap.size w w' := by
  have U0 := hide (Un.start w m s)
  have ck := U0.out.mc.f0
  rw [hk] at ck
  have q1 := U0.out.mc.f11
  have f1 := U0.out.fz 47
  have U1 : Hid (Un w (((w.alloc (.cells (m.cells s).toArray 38)).alloc (.cells (zM.cells nil8).toArray 38)).setCell ⟨w.heap.size, 47, none⟩ (.slice none 0 0)) ({ m with addrs := [] } : Mg) ({ s with a := .slice none 0 0 } : Vs)) := U0.out.set (m' := ({ m with addrs := [] } : Mg)) (s' := ({ s with a := .slice none 0 0 } : Vs)) 47 (.slice none 0 0) (by rw [show 47 = 43 + 4 from rfl, Mg.set1 _ _ 4 _ (by decide)]; rfl)
  have BK : Hid (m.bareK = ({ m with addrs := [] } : Mg)) := by show _ = _; unfold Mg.bareK; simp [hk]
  have ML1 : Hid (∀ W, ML W s m → ML W ({ s with a := .slice none 0 0 } : Vs) ({ m with addrs := [] } : Mg)) := fun W h => ⟨LX.nil W, h.i, h.h, h.hd, h.sh, h.f, h.p, h.r⟩
  have OK : Hid (({ s with a := .slice none 0 0 } : Vs)).ok := ⟨⟨_, _, _, rfl⟩, hs.i, hs.h, hs.hd, hs.sh, hs.f, hs.p, hs.r⟩
  have EN := hide (unnamed_end U1.out)
  have R2 := hide U1.out.r2
  have HO := hide (({ m with addrs := [] } : Mg).one ({ s with a := .slice none 0 0 } : Vs) OK.out)
  have HZ := hide (({ m with addrs := [] } : Mg).size ({ s with a := .slice none 0 0 } : Vs))
  have HZm := hide (zM.size nil8)
  have A0 := AM
  have hsz : (w.alloc (.cells (m.cells s).toArray 38)).heap.size = w.heap.size + 1 := by simp
  clear U0 U1 hk hs
  generalize hnm : ({ m with addrs := [] } : Mg) = m' at *
  generalize hns : ({ s with a := .slice none 0 0 } : Vs) = s' at *
  clear hnm hns
  go_enter Tryz.func16, Tryz.ntmps16
  go_upto_region 1 with (with_reducible refine at_list ?_; first | refine wpList_boxA rfl _ rfl (m.cells s).toArray rfl ?_ | refine wpList_allocA AM rfl rfl ?_)
  rw [hsz]
  clear hsz
  generalize (w.alloc (.cells (m.cells s).toArray 38)).alloc (.cells (zM.cells nil8).toArray 38) = W0 at *
  generalize (zM.cells nil8).toArray = Z at *
  go_upto_region 30 with fail
  generalize (W0.setCell ⟨w.heap.size, 47, none⟩ (.slice none 0 0)) = W1 at *
  go_wp2_with ((with_reducible refine at_list ?_); first | refine wpList_loadS A0 _ rfl w.heap.size rfl (m'.cells s').toArray HZ.out 38 EN.out.1 rfl ?_ | refine wpList_storeA A0 rfl _ _ rfl (w.heap.size + 1) (m'.cells s').toArray HZ.out HO.out rfl rfl Z HZm.out 38 R2.out ?_)
  refine bodyPost_ret (resA A0 rfl _ _ _ _ (m'.cells s').toArray HZ.out rfl EN.out.2.1) rfl ?_
  exact ⟨s', by rw [BK.out], OK.out, by rw [BK.out]; exact ML1.out, EN.out.2.2⟩
theorem unnamed_k8 (m : Mg) (s : Vs) (w : World) (hs : s.ok) (hk : m.kind = 8) : Calls Tryz.prog 16 #[.agg (m.cells s).toArray] w fun e w' => ∃ s', e = .returned (.agg (m.bareK.cells s').toArray) ∧ s'.ok ∧ (∀ W, ML W s m → ML W s' m.bareK) ∧ Below w.heap.size w w' := by
  have U0 := hide (Un.start w m s)
  have ck := U0.out.mc.f0
  rw [hk] at ck
  have q1 := U0.out.mc.f12
  have f1 := U0.out.fz 48
  have U1 : Hid (Un w (((w.alloc (.cells (m.cells s).toArray 38)).alloc (.cells (zM.cells nil8).toArray 38)).setCell ⟨w.heap.size, 48, none⟩ (.slice none 0 0)) ({ m with items := [] } : Mg) ({ s with i := .slice none 0 0 } : Vs)) := U0.out.set (m' := ({ m with items := [] } : Mg)) (s' := ({ s with i := .slice none 0 0 } : Vs)) 48 (.slice none 0 0) (by rw [show 48 = 43 + 5 from rfl, Mg.set1 _ _ 5 _ (by decide)]; rfl)
  have BK : Hid (m.bareK = ({ m with items := [] } : Mg)) := by show _ = _; unfold Mg.bareK; simp [hk]
  have ML1 : Hid (∀ W, ML W s m → ML W ({ s with i := .slice none 0 0 } : Vs) ({ m with items := [] } : Mg)) := fun W h => ⟨h.a, LX.nil W, h.h, h.hd, h.sh, h.f, h.p, h.r⟩
  have OK : Hid (({ s with i := .slice none 0 0 } : Vs)).ok := ⟨hs.a, ⟨_, _, _, rfl⟩, hs.h, hs.hd, hs.sh, hs.f, hs.p, hs.r⟩
  have EN := hide (unnamed_end U1.out)
  have R2 := hide U1.out.r2
  have HO := hide (({ m with items := [] } : Mg).one ({ s with i := .slice none 0 0 } : Vs) OK.out)
  have HZ := hide (({ m with items := [] } : Mg).size ({ s with i := .slice none 0 0 } : Vs))
  have HZm := hide (zM.size nil8)
  have A0 := AM
  have hsz : (w.alloc (.cells (m.cells s).toArray 38)).heap.size = w.heap.size + 1 := by simp
  clear U0 U1 hk hs
  generalize hnm : ({ m with items := [] } : Mg) = m' at *
  generalize hns : ({ s with i := .slice none 0 0 } : Vs) = s' at *
  clear hnm hns
  go_enter Tryz.func16, Tryz.ntmps16
  go_upto_region 1 with (with_reducible refine at_list ?_; first | refine wpList_boxA rfl _ rfl (m.cells s).toArray rfl ?_ | refine wpList_allocA AM rfl rfl ?_)
  rw [hsz]
  clear hsz
  generalize (w.alloc (.cells (m.cells s).toArray 38)).alloc (.cells (zM.cells nil8).toArray 38) = W0 at *
  generalize (zM.cells nil8).toArray = Z at *
  go_upto_region 30 with fail
  generalize (W0.setCell ⟨w.heap.size, 48, none⟩ (.slice none 0 0)) = W1 at *
  go_wp2_with ((with_reducible refine at_list ?_); first | refine wpList_loadS A0 _ rfl w.heap.size rfl (m'.cells s').toArray HZ.out 38 EN.out.1 rfl ?_ | refine wpList_storeA A0 rfl _ _ rfl (w.heap.size + 1) (m'.cells s').toArray HZ.out HO.out rfl rfl Z HZm.out 38 R2.out ?_)
  refine bodyPost_ret (resA A0 rfl _ _ _ _ (m'.cells s').toArray HZ.out rfl EN.out.2.1) rfl ?_
  exact ⟨s', by rw [BK.out], OK.out, by rw [BK.out]; exact ML1.out, EN.out.2.2⟩
theorem unnamed_k9 (m : Mg) (s : Vs) (w : World) (hs : s.ok) (hk : m.kind = 9) : Calls Tryz.prog 16 #[.agg (m.cells s).toArray] w fun e w' => ∃ s', e = .returned (.agg (m.bareK.cells s').toArray) ∧ s'.ok ∧ (∀ W, ML W s m → ML W s' m.bareK) ∧ Below w.heap.size w w' := by
  have U0 := hide (Un.start w m s)
  have ck := U0.out.mc.f0
  rw [hk] at ck
  have q1 := U0.out.mc.f12
  have f1 := U0.out.fz 48
  have U1 : Hid (Un w (((w.alloc (.cells (m.cells s).toArray 38)).alloc (.cells (zM.cells nil8).toArray 38)).setCell ⟨w.heap.size, 48, none⟩ (.slice none 0 0)) ({ m with items := [] } : Mg) ({ s with i := .slice none 0 0 } : Vs)) := U0.out.set (m' := ({ m with items := [] } : Mg)) (s' := ({ s with i := .slice none 0 0 } : Vs)) 48 (.slice none 0 0) (by rw [show 48 = 43 + 5 from rfl, Mg.set1 _ _ 5 _ (by decide)]; rfl)
  have BK : Hid (m.bareK = ({ m with items := [] } : Mg)) := by show _ = _; unfold Mg.bareK; simp [hk]
  have ML1 : Hid (∀ W, ML W s m → ML W ({ s with i := .slice none 0 0 } : Vs) ({ m with items := [] } : Mg)) := fun W h => ⟨h.a, LX.nil W, h.h, h.hd, h.sh, h.f, h.p, h.r⟩
  have OK : Hid (({ s with i := .slice none 0 0 } : Vs)).ok := ⟨hs.a, ⟨_, _, _, rfl⟩, hs.h, hs.hd, hs.sh, hs.f, hs.p, hs.r⟩
  have EN := hide (unnamed_end U1.out)
  have R2 := hide U1.out.r2
  have HO := hide (({ m with items := [] } : Mg).one ({ s with i := .slice none 0 0 } : Vs) OK.out)
  have HZ := hide (({ m with items := [] } : Mg).size ({ s with i := .slice none 0 0 } : Vs))
  have HZm := hide (zM.size nil8)
  have A0 := AM
  have hsz : (w.alloc (.cells (m.cells s).toArray 38)).heap.size = w.heap.size + 1 := by simp
  clear U0 U1 hk hs
  generalize hnm : ({ m with items := [] } : Mg) = m' at *
  generalize hns : ({ s with i := .slice none 0 0 } : Vs) = s' at *
  clear hnm hns
  go_enter Tryz.func16, Tryz.ntmps16
  go_upto_region 1 with (with_reducible refine at_list ?_; first | refine wpList_boxA rfl _ rfl (m.cells s).toArray rfl ?_ | refine wpList_allocA AM rfl rfl ?_)
  rw [hsz]
  clear hsz
  generalize (w.alloc (.cells (m.cells s).toArray 38)).alloc (.cells (zM.cells nil8).toArray 38) = W0 at *
  generalize (zM.cells nil8).toArray = Z at *
  go_upto_region 30 with fail
  generalize (W0.setCell ⟨w.heap.size, 48, none⟩ (.slice none 0 0)) = W1 at *
  go_wp2_with ((with_reducible refine at_list ?_); first | refine wpList_loadS A0 _ rfl w.heap.size rfl (m'.cells s').toArray HZ.out 38 EN.out.1 rfl ?_ | refine wpList_storeA A0 rfl _ _ rfl (w.heap.size + 1) (m'.cells s').toArray HZ.out HO.out rfl rfl Z HZm.out 38 R2.out ?_)
  refine bodyPost_ret (resA A0 rfl _ _ _ _ (m'.cells s').toArray HZ.out rfl EN.out.2.1) rfl ?_
  exact ⟨s', by rw [BK.out], OK.out, by rw [BK.out]; exact ML1.out, EN.out.2.2⟩
theorem unnamed_k10 (m : Mg) (s : Vs) (w : World) (hs : s.ok) (hk : m.kind = 10) : Calls Tryz.prog 16 #[.agg (m.cells s).toArray] w fun e w' => ∃ s', e = .returned (.agg (m.bareK.cells s').toArray) ∧ s'.ok ∧ (∀ W, ML W s m → ML W s' m.bareK) ∧ Below w.heap.size w w' := by
  have U0 := hide (Un.start w m s)
  have ck := U0.out.mc.f0
  rw [hk] at ck
  have q1 := U0.out.mc.f12
  have f1 := U0.out.fz 48
  have U1 : Hid (Un w (((w.alloc (.cells (m.cells s).toArray 38)).alloc (.cells (zM.cells nil8).toArray 38)).setCell ⟨w.heap.size, 48, none⟩ (.slice none 0 0)) ({ m with items := [] } : Mg) ({ s with i := .slice none 0 0 } : Vs)) := U0.out.set (m' := ({ m with items := [] } : Mg)) (s' := ({ s with i := .slice none 0 0 } : Vs)) 48 (.slice none 0 0) (by rw [show 48 = 43 + 5 from rfl, Mg.set1 _ _ 5 _ (by decide)]; rfl)
  have BK : Hid (m.bareK = ({ m with items := [] } : Mg)) := by show _ = _; unfold Mg.bareK; simp [hk]
  have ML1 : Hid (∀ W, ML W s m → ML W ({ s with i := .slice none 0 0 } : Vs) ({ m with items := [] } : Mg)) := fun W h => ⟨h.a, LX.nil W, h.h, h.hd, h.sh, h.f, h.p, h.r⟩
  have OK : Hid (({ s with i := .slice none 0 0 } : Vs)).ok := ⟨hs.a, ⟨_, _, _, rfl⟩, hs.h, hs.hd, hs.sh, hs.f, hs.p, hs.r⟩
  have EN := hide (unnamed_end U1.out)
  have R2 := hide U1.out.r2
  have HO := hide (({ m with items := [] } : Mg).one ({ s with i := .slice none 0 0 } : Vs) OK.out)
  have HZ := hide (({ m with items := [] } : Mg).size ({ s with i := .slice none 0 0 } : Vs))
  have HZm := hide (zM.size nil8)
  have A0 := AM
  have hsz : (w.alloc (.cells (m.cells s).toArray 38)).heap.size = w.heap.size + 1 := by simp
  clear U0 U1 hk hs
  generalize hnm : ({ m with items := [] } : Mg) = m' at *
  generalize hns : ({ s with i := .slice none 0 0 } : Vs) = s' at *
  clear hnm hns
  go_enter Tryz.func16, Tryz.ntmps16
  go_upto_region 1 with (with_reducible refine at_list ?_; first | refine wpList_boxA rfl _ rfl (m.cells s).toArray rfl ?_ | refine wpList_allocA AM rfl rfl ?_)
  rw [hsz]
  clear hsz
  generalize (w.alloc (.cells (m.cells s).toArray 38)).alloc (.cells (zM.cells nil8).toArray 38) = W0 at *
  generalize (zM.cells nil8).toArray = Z at *
  go_upto_region 30 with fail
  generalize (W0.setCell ⟨w.heap.size, 48, none⟩ (.slice none 0 0)) = W1 at *
  go_wp2_with ((with_reducible refine at_list ?_); first | refine wpList_loadS A0 _ rfl w.heap.size rfl (m'.cells s').toArray HZ.out 38 EN.out.1 rfl ?_ | refine wpList_storeA A0 rfl _ _ rfl (w.heap.size + 1) (m'.cells s').toArray HZ.out HO.out rfl rfl Z HZm.out 38 R2.out ?_)
  refine bodyPost_ret (resA A0 rfl _ _ _ _ (m'.cells s').toArray HZ.out rfl EN.out.2.1) rfl ?_
  exact ⟨s', by rw [BK.out], OK.out, by rw [BK.out]; exact ML1.out, EN.out.2.2⟩
theorem unnamed_k11 (m : Mg) (s : Vs) (w : World) (hs : s.ok) (hk : m.kind = 11) : Calls Tryz.prog 16 #[.agg (m.cells s).toArray] w fun e w' => ∃ s', e = .returned (.agg (m.bareK.cells s').toArray) ∧ s'.ok ∧ (∀ W, ML W s m → ML W s' m.bareK) ∧ Below w.heap.size w w' := by
  have U0 := hide (Un.start w m s)
  have ck := U0.out.mc.f0
  rw [hk] at ck
  have q1 := U0.out.mc.f1
  have f1 := U0.out.fz 1
  have U1 : Hid (Un w (((w.alloc (.cells (m.cells s).toArray 38)).alloc (.cells (zM.cells nil8).toArray 38)).setCell ⟨w.heap.size, 1, none⟩ (.int .u32 0)) ({ m with vers := 0 } : Mg) s) := U0.out.set (m' := ({ m with vers := 0 } : Mg)) (s' := s) 1 (.int .u32 0) (rfl)
  have q2 := U1.out.mc.f13
  have f2 := U1.out.fz 49
  have U2 : Hid (Un w ((((w.alloc (.cells (m.cells s).toArray 38)).alloc (.cells (zM.cells nil8).toArray 38)).setCell ⟨w.heap.size, 1, none⟩ (.int .u32 0)).setCell ⟨w.heap.size, 49, none⟩ (.slice none 0 0)) ({ m with vers := 0, hashes := [] } : Mg) ({ s with h := .slice none 0 0 } : Vs)) := U1.out.set (m' := ({ m with vers := 0, hashes := [] } : Mg)) (s' := ({ s with h := .slice none 0 0 } : Vs)) 49 (.slice none 0 0) (by rw [show 49 = 43 + 6 from rfl, Mg.set1 _ _ 6 _ (by decide)]; rfl)
  have T3 : Hid (((((w.alloc (.cells (m.cells s).toArray 38)).alloc (.cells (zM.cells nil8).toArray 38)).setCell ⟨w.heap.size, 1, none⟩ (.int .u32 0)).setCell ⟨w.heap.size, 49, none⟩ (.slice none 0 0)).there w.heap.size 50 (cellsL zI.1).toArray.size) := by show World.there _ _ _ _; rw [z32]; exact U2.out.there 50 32 (by decide)
  have U3 : Hid (Un w (((((w.alloc (.cells (m.cells s).toArray 38)).alloc (.cells (zM.cells nil8).toArray 38)).setCell ⟨w.heap.size, 1, none⟩ (.int .u32 0)).setCell ⟨w.heap.size, 49, none⟩ (.slice none 0 0)).setCells w.heap.size 50 (cellsL zI.1)) ({ m with vers := 0, hashes := [], stop := zI } : Mg) ({ s with h := .slice none 0 0 } : Vs)) := U2.out.setL _ _ (cellsL zI.1) _ (by rw [cellsL_len, cellsL_len, ({ m with vers := 0, hashes := [] } : Mg).stop.2, zI.2]) (({ m with vers := 0, hashes := [] } : Mg).spT ({ s with h := .slice none 0 0 } : Vs)) (({ m with vers := 0, hashes := [], stop := zI } : Mg).spT ({ s with h := .slice none 0 0 } : Vs)) 50 (({ m with vers := 0, hashes := [] } : Mg).lT ({ s with h := .slice none 0 0 } : Vs))
  have BK : Hid (m.bareK = ({ m with vers := 0, hashes := [], stop := zI } : Mg)) := by show _ = _; unfold Mg.bareK; simp [hk]
  have ML1 : Hid (∀ W, ML W s m → ML W ({ s with h := .slice none 0 0 } : Vs) ({ m with vers := 0, hashes := [], stop := zI } : Mg)) := fun W h => ⟨h.a, h.i, LX.nil W, h.hd, h.sh, h.f, h.p, h.r⟩
  have OK : Hid (({ s with h := .slice none 0 0 } : Vs)).ok := ⟨hs.a, hs.i, ⟨_, _, _, rfl⟩, hs.hd, hs.sh, hs.f, hs.p, hs.r⟩
  have EN := hide (unnamed_end U3.out)
  have R2 := hide U3.out.r2
  have HO := hide (({ m with vers := 0, hashes := [], stop := zI } : Mg).one ({ s with h := .slice none 0 0 } : Vs) OK.out)
  have HZ := hide (({ m with vers := 0, hashes := [], stop := zI } : Mg).size ({ s with h := .slice none 0 0 } : Vs))
  have HZm := hide (zM.size nil8)
  have A0 := AM
  have AZ : Arr 32 32 (cellsL zI.1).toArray := A25
  have LZ : Hid ((cellsL zI.1).length = 32) := by show _ = _; rw [cellsL_len, zI.2]
  have OZ := hide (cellsL_one zI.1)
  have IZ : Hid ((Tryz.prog.info? 32).map (·.size) = some (cellsL zI.1).toArray.size) := by show _ = _; rw [List.size_toArray, LZ.out]; exact AZ.info
  have hsz : (w.alloc (.cells (m.cells s).toArray 38)).heap.size = w.heap.size + 1 := by simp
  clear U0 U1 U2 U3 hk hs
  generalize hnm : ({ m with vers := 0, hashes := [], stop := zI } : Mg) = m' at *
  generalize hns : ({ s with h := .slice none 0 0 } : Vs) = s' at *
  clear hnm hns
  generalize cellsL zI.1 = zc at *
  go_enter Tryz.func16, Tryz.ntmps16
  go_upto_region 1 with (with_reducible refine at_list ?_; first | refine wpList_boxA rfl _ rfl (m.cells s).toArray rfl ?_ | refine wpList_allocA AM rfl rfl ?_)
  rw [hsz]
  clear hsz
  generalize (w.alloc (.cells (m.cells s).toArray 38)).alloc (.cells (zM.cells nil8).toArray 38) = W0 at *
  generalize (zM.cells nil8).toArray = Z at *
  go_upto_region 30 with (with_reducible refine at_list ?_; first | refine wpList_buildA AZ rfl rfl ?_ | refine wpList_store_mid rfl 32 _ _ rfl w.heap.size 50 zc.toArray rfl rfl T3.out IZ.out (all_oneCell_toArray OZ.out) ?_)
  generalize (((W0.setCell ⟨w.heap.size, 1, none⟩ (.int .u32 0)).setCell ⟨w.heap.size, 49, none⟩ (.slice none 0 0)).setCells w.heap.size 50 zc) = W1 at *
  go_wp2_with ((with_reducible refine at_list ?_); first | refine wpList_loadS A0 _ rfl w.heap.size rfl (m'.cells s').toArray HZ.out 38 EN.out.1 rfl ?_ | refine wpList_storeA A0 rfl _ _ rfl (w.heap.size + 1) (m'.cells s').toArray HZ.out HO.out rfl rfl Z HZm.out 38 R2.out ?_)
  refine bodyPost_ret (resA A0 rfl _ _ _ _ (m'.cells s').toArray HZ.out rfl EN.out.2.1) rfl ?_
  exact ⟨s', by rw [BK.out], OK.out, by rw [BK.out]; exact ML1.out, EN.out.2.2⟩
theorem unnamed_k12 (m : Mg) (s : Vs) (w : World) (hs : s.ok) (hk : m.kind = 12) : Calls Tryz.prog 16 #[.agg (m.cells s).toArray] w fun e w' => ∃ s', e = .returned (.agg (m.bareK.cells s').toArray) ∧ s'.ok ∧ (∀ W, ML W s m → ML W s' m.bareK) ∧ Below w.heap.size w w' := by
  have U0 := hide (Un.start w m s)
  have ck := U0.out.mc.f0
  rw [hk] at ck
  have q1 := U0.out.mc.f16
  have f1 := U0.out.fz 114
  have U1 : Hid (Un w (((w.alloc (.cells (m.cells s).toArray 38)).alloc (.cells (zM.cells nil8).toArray 38)).setCell ⟨w.heap.size, 114, none⟩ (.slice none 0 0)) ({ m with heads := [] } : Mg) ({ s with hd := .slice none 0 0 } : Vs)) := U0.out.set (m' := ({ m with heads := [] } : Mg)) (s' := ({ s with hd := .slice none 0 0 } : Vs)) 114 (.slice none 0 0) (by rw [show 114 = 114 + 0 from rfl, Mg.set2 _ _ 0 _]; rfl)
  have BK : Hid (m.bareK = ({ m with heads := [] } : Mg)) := by show _ = _; unfold Mg.bareK; simp [hk]
  have ML1 : Hid (∀ W, ML W s m → ML W ({ s with hd := .slice none 0 0 } : Vs) ({ m with heads := [] } : Mg)) := fun W h => ⟨h.a, h.i, h.h, LX.nil W, h.sh, h.f, h.p, h.r⟩
  have OK : Hid (({ s with hd := .slice none 0 0 } : Vs)).ok := ⟨hs.a, hs.i, hs.h, ⟨_, _, _, rfl⟩, hs.sh, hs.f, hs.p, hs.r⟩
  have EN := hide (unnamed_end U1.out)
  have R2 := hide U1.out.r2
  have HO := hide (({ m with heads := [] } : Mg).one ({ s with hd := .slice none 0 0 } : Vs) OK.out)
  have HZ := hide (({ m with heads := [] } : Mg).size ({ s with hd := .slice none 0 0 } : Vs))
  have HZm := hide (zM.size nil8)
  have A0 := AM
  have hsz : (w.alloc (.cells (m.cells s).toArray 38)).heap.size = w.heap.size + 1 := by simp
  clear U0 U1 hk hs
  generalize hnm : ({ m with heads := [] } : Mg) = m' at *
  generalize hns : ({ s with hd := .slice none 0 0 } : Vs) = s' at *
  clear hnm hns
  go_enter Tryz.func16, Tryz.ntmps16
  go_upto_region 1 with (with_reducible refine at_list ?_; first | refine wpList_boxA rfl _ rfl (m.cells s).toArray rfl ?_ | refine wpList_allocA AM rfl rfl ?_)
  rw [hsz]
  clear hsz
  generalize (w.alloc (.cells (m.cells s).toArray 38)).alloc (.cells (zM.cells nil8).toArray 38) = W0 at *
  generalize (zM.cells nil8).toArray = Z at *
  go_upto_region 30 with fail
  generalize (W0.setCell ⟨w.heap.size, 114, none⟩ (.slice none 0 0)) = W1 at *
  go_wp2_with ((with_reducible refine at_list ?_); first | refine wpList_loadS A0 _ rfl w.heap.size rfl (m'.cells s').toArray HZ.out 38 EN.out.1 rfl ?_ | refine wpList_storeA A0 rfl _ _ rfl (w.heap.size + 1) (m'.cells s').toArray HZ.out HO.out rfl rfl Z HZm.out 38 R2.out ?_)
  refine bodyPost_ret (resA A0 rfl _ _ _ _ (m'.cells s').toArray HZ.out rfl EN.out.2.1) rfl ?_
  exact ⟨s', by rw [BK.out], OK.out, by rw [BK.out]; exact ML1.out, EN.out.2.2⟩
theorem unnamed_k13 (m : Mg) (s : Vs) (w : World) (hs : s.ok) (hk : m.kind = 13) : Calls Tryz.prog 16 #[.agg (m.cells s).toArray] w fun e w' => ∃ s', e = .returned (.agg (m.bareK.cells s').toArray) ∧ s'.ok ∧ (∀ W, ML W s m → ML W s' m.bareK) ∧ Below w.heap.size w w' := by
  have U0 := hide (Un.start w m s)
  have ck := U0.out.mc.f0
  rw [hk] at ck
  have q1 := U0.out.mc.f18
  have f1 := U0.out.fz 116
  have U1 : Hid (Un w (((w.alloc (.cells (m.cells s).toArray 38)).alloc (.cells (zM.cells nil8).toArray 38)).setCell ⟨w.heap.size, 116, none⟩ (.string ⟨#[]⟩)) ({ m with raw := ByteArray.empty } : Mg) s) := U0.out.set (m' := ({ m with raw := ByteArray.empty } : Mg)) (s' := s) 116 (.string ⟨#[]⟩) (by rw [show 116 = 114 + 2 from rfl, Mg.set2 _ _ 2 _]; rfl)
  have BK : Hid (m.bareK = ({ m with raw := ByteArray.empty } : Mg)) := by show _ = _; unfold Mg.bareK; simp [hk]
  have ML1 : Hid (∀ W, ML W s m → ML W s ({ m with raw := ByteArray.empty } : Mg)) := fun W h => ⟨h.a, h.i, h.h, h.hd, h.sh, h.f, h.p, h.r⟩
  have OK : Hid (s).ok := ⟨hs.a, hs.i, hs.h, hs.hd, hs.sh, hs.f, hs.p, hs.r⟩
  have EN := hide (unnamed_end U1.out)
  have R2 := hide U1.out.r2
  have HO := hide (({ m with raw := ByteArray.empty } : Mg).one s OK.out)
  have HZ := hide (({ m with raw := ByteArray.empty } : Mg).size s)
  have HZm := hide (zM.size nil8)
  have A0 := AM
  have hsz : (w.alloc (.cells (m.cells s).toArray 38)).heap.size = w.heap.size + 1 := by simp
  clear U0 U1 hk hs
  generalize hnm : ({ m with raw := ByteArray.empty } : Mg) = m' at *
  have hns : s = s := rfl
  clear hnm hns
  go_enter Tryz.func16, Tryz.ntmps16
  go_upto_region 1 with (with_reducible refine at_list ?_; first | refine wpList_boxA rfl _ rfl (m.cells s).toArray rfl ?_ | refine wpList_allocA AM rfl rfl ?_)
  rw [hsz]
  clear hsz
  generalize (w.alloc (.cells (m.cells s).toArray 38)).alloc (.cells (zM.cells nil8).toArray 38) = W0 at *
  generalize (zM.cells nil8).toArray = Z at *
  go_upto_region 30 with fail
  generalize (W0.setCell ⟨w.heap.size, 116, none⟩ (.string ⟨#[]⟩)) = W1 at *
  go_wp2_with ((with_reducible refine at_list ?_); first | refine wpList_loadS A0 _ rfl w.heap.size rfl (m'.cells s).toArray HZ.out 38 EN.out.1 rfl ?_ | refine wpList_storeA A0 rfl _ _ rfl (w.heap.size + 1) (m'.cells s).toArray HZ.out HO.out rfl rfl Z HZm.out 38 R2.out ?_)
  refine bodyPost_ret (resA A0 rfl _ _ _ _ (m'.cells s).toArray HZ.out rfl EN.out.2.1) rfl ?_
  exact ⟨s, by rw [BK.out], OK.out, by rw [BK.out]; exact ML1.out, EN.out.2.2⟩
theorem unnamed_k14 (m : Mg) (s : Vs) (w : World) (hs : s.ok) (hk : m.kind = 14) : Calls Tryz.prog 16 #[.agg (m.cells s).toArray] w fun e w' => ∃ s', e = .returned (.agg (m.bareK.cells s').toArray) ∧ s'.ok ∧ (∀ W, ML W s m → ML W s' m.bareK) ∧ Below w.heap.size w w' := by
  have U0 := hide (Un.start w m s)
  have ck := U0.out.mc.f0
  rw [hk] at ck
  have q1 := U0.out.mc.f18
  have f1 := U0.out.fz 116
  have U1 : Hid (Un w (((w.alloc (.cells (m.cells s).toArray 38)).alloc (.cells (zM.cells nil8).toArray 38)).setCell ⟨w.heap.size, 116, none⟩ (.string ⟨#[]⟩)) ({ m with raw := ByteArray.empty } : Mg) s) := U0.out.set (m' := ({ m with raw := ByteArray.empty } : Mg)) (s' := s) 116 (.string ⟨#[]⟩) (by rw [show 116 = 114 + 2 from rfl, Mg.set2 _ _ 2 _]; rfl)
  have BK : Hid (m.bareK = ({ m with raw := ByteArray.empty } : Mg)) := by show _ = _; unfold Mg.bareK; simp [hk]
  have ML1 : Hid (∀ W, ML W s m → ML W s ({ m with raw := ByteArray.empty } : Mg)) := fun W h => ⟨h.a, h.i, h.h, h.hd, h.sh, h.f, h.p, h.r⟩
  have OK : Hid (s).ok := ⟨hs.a, hs.i, hs.h, hs.hd, hs.sh, hs.f, hs.p, hs.r⟩
  have EN := hide (unnamed_end U1.out)
  have R2 := hide U1.out.r2
  have HO := hide (({ m with raw := ByteArray.empty } : Mg).one s OK.out)
  have HZ := hide (({ m with raw := ByteArray.empty } : Mg).size s)
  have HZm := hide (zM.size nil8)
  have A0 := AM
  have hsz : (w.alloc (.cells (m.cells s).toArray 38)).heap.size = w.heap.size + 1 := by simp
  clear U0 U1 hk hs
  generalize hnm : ({ m with raw := ByteArray.empty } : Mg) = m' at *
  have hns : s = s := rfl
  clear hnm hns
  go_enter Tryz.func16, Tryz.ntmps16
  go_upto_region 1 with (with_reducible refine at_list ?_; first | refine wpList_boxA rfl _ rfl (m.cells s).toArray rfl ?_ | refine wpList_allocA AM rfl rfl ?_)
  rw [hsz]
  clear hsz
  generalize (w.alloc (.cells (m.cells s).toArray 38)).alloc (.cells (zM.cells nil8).toArray 38) = W0 at *
  generalize (zM.cells nil8).toArray = Z at *
  go_upto_region 30 with fail
  generalize (W0.setCell ⟨w.heap.size, 116, none⟩ (.string ⟨#[]⟩)) = W1 at *
  go_wp2_with ((with_reducible refine at_list ?_); first | refine wpList_loadS A0 _ rfl w.heap.size rfl (m'.cells s).toArray HZ.out 38 EN.out.1 rfl ?_ | refine wpList_storeA A0 rfl _ _ rfl (w.heap.size + 1) (m'.cells s).toArray HZ.out HO.out rfl rfl Z HZm.out 38 R2.out ?_)
  refine bodyPost_ret (resA A0 rfl _ _ _ _ (m'.cells s).toArray HZ.out rfl EN.out.2.1) rfl ?_
  exact ⟨s, by rw [BK.out], OK.out, by rw [BK.out]; exact ML1.out, EN.out.2.2⟩
theorem unnamed_k15 (m : Mg) (s : Vs) (w : World) (hs : s.ok) (hk : m.kind = 15) : Calls Tryz.prog 16 #[.agg (m.cells s).toArray] w fun e w' => ∃ s', e = .returned (.agg (m.bareK.cells s').toArray) ∧ s'.ok ∧ (∀ W, ML W s m → ML W s' m.bareK) ∧ Below w.heap.size w w' := by
  have U0 := hide (Un.start w m s)
  have ck := U0.out.mc.f0
  rw [hk] at ck
  have q1 := U0.out.mc.f10
  have f1 := U0.out.fz 46
  have U1 : Hid (Un w (((w.alloc (.cells (m.cells s).toArray 38)).alloc (.cells (zM.cells nil8).toArray 38)).setCell ⟨w.heap.size, 46, none⟩ (.bool false)) ({ m with high := false } : Mg) s) := U0.out.set (m' := ({ m with high := false } : Mg)) (s' := s) 46 (.bool false) (by rw [show 46 = 43 + 3 from rfl, Mg.set1 _ _ 3 _ (by decide)]; rfl)
  have q2 := U1.out.mc.f3
  have f2 := U1.out.fz 3
  have U2 : Hid (Un w ((((w.alloc (.cells (m.cells s).toArray 38)).alloc (.cells (zM.cells nil8).toArray 38)).setCell ⟨w.heap.size, 46, none⟩ (.bool false)).setCell ⟨w.heap.size, 3, none⟩ (.int .u64 0)) ({ m with high := false, nonce := 0 } : Mg) s) := U1.out.set (m' := ({ m with high := false, nonce := 0 } : Mg)) (s' := s) 3 (.int .u64 0) (rfl)
  have BK : Hid (m.bareK = ({ m with high := false, nonce := 0 } : Mg)) := by show _ = _; unfold Mg.bareK; simp [hk]
  have ML1 : Hid (∀ W, ML W s m → ML W s ({ m with high := false, nonce := 0 } : Mg)) := fun W h => ⟨h.a, h.i, h.h, h.hd, h.sh, h.f, h.p, h.r⟩
  have OK : Hid (s).ok := ⟨hs.a, hs.i, hs.h, hs.hd, hs.sh, hs.f, hs.p, hs.r⟩
  have EN := hide (unnamed_end U2.out)
  have R2 := hide U2.out.r2
  have HO := hide (({ m with high := false, nonce := 0 } : Mg).one s OK.out)
  have HZ := hide (({ m with high := false, nonce := 0 } : Mg).size s)
  have HZm := hide (zM.size nil8)
  have A0 := AM
  have hsz : (w.alloc (.cells (m.cells s).toArray 38)).heap.size = w.heap.size + 1 := by simp
  clear U0 U1 U2 hk hs
  generalize hnm : ({ m with high := false, nonce := 0 } : Mg) = m' at *
  have hns : s = s := rfl
  clear hnm hns
  go_enter Tryz.func16, Tryz.ntmps16
  go_upto_region 1 with (with_reducible refine at_list ?_; first | refine wpList_boxA rfl _ rfl (m.cells s).toArray rfl ?_ | refine wpList_allocA AM rfl rfl ?_)
  rw [hsz]
  clear hsz
  generalize (w.alloc (.cells (m.cells s).toArray 38)).alloc (.cells (zM.cells nil8).toArray 38) = W0 at *
  generalize (zM.cells nil8).toArray = Z at *
  go_upto_region 30 with fail
  generalize ((W0.setCell ⟨w.heap.size, 46, none⟩ (.bool false)).setCell ⟨w.heap.size, 3, none⟩ (.int .u64 0)) = W1 at *
  go_wp2_with ((with_reducible refine at_list ?_); first | refine wpList_loadS A0 _ rfl w.heap.size rfl (m'.cells s).toArray HZ.out 38 EN.out.1 rfl ?_ | refine wpList_storeA A0 rfl _ _ rfl (w.heap.size + 1) (m'.cells s).toArray HZ.out HO.out rfl rfl Z HZm.out 38 R2.out ?_)
  refine bodyPost_ret (resA A0 rfl _ _ _ _ (m'.cells s).toArray HZ.out rfl EN.out.2.1) rfl ?_
  exact ⟨s, by rw [BK.out], OK.out, by rw [BK.out]; exact ML1.out, EN.out.2.2⟩
theorem unnamed_k16 (m : Mg) (s : Vs) (w : World) (hs : s.ok) (hk : m.kind = 16) : Calls Tryz.prog 16 #[.agg (m.cells s).toArray] w fun e w' => ∃ s', e = .returned (.agg (m.bareK.cells s').toArray) ∧ s'.ok ∧ (∀ W, ML W s m → ML W s' m.bareK) ∧ Below w.heap.size w w' := by
  have U0 := hide (Un.start w m s)
  have ck := U0.out.mc.f0
  rw [hk] at ck
  have q1 := U0.out.mc.f17
  have f1 := U0.out.fz 115
  have U1 : Hid (Un w (((w.alloc (.cells (m.cells s).toArray 38)).alloc (.cells (zM.cells nil8).toArray 38)).setCell ⟨w.heap.size, 115, none⟩ (.string ⟨#[]⟩)) ({ m with head := ByteArray.empty } : Mg) s) := U0.out.set (m' := ({ m with head := ByteArray.empty } : Mg)) (s' := s) 115 (.string ⟨#[]⟩) (by rw [show 115 = 114 + 1 from rfl, Mg.set2 _ _ 1 _]; rfl)
  have q2 := U1.out.mc.f3
  have f2 := U1.out.fz 3
  have U2 : Hid (Un w ((((w.alloc (.cells (m.cells s).toArray 38)).alloc (.cells (zM.cells nil8).toArray 38)).setCell ⟨w.heap.size, 115, none⟩ (.string ⟨#[]⟩)).setCell ⟨w.heap.size, 3, none⟩ (.int .u64 0)) ({ m with head := ByteArray.empty, nonce := 0 } : Mg) s) := U1.out.set (m' := ({ m with head := ByteArray.empty, nonce := 0 } : Mg)) (s' := s) 3 (.int .u64 0) (rfl)
  have q3 := U2.out.mc.f19
  have f3 := U2.out.fz 117
  have U3 : Hid (Un w (((((w.alloc (.cells (m.cells s).toArray 38)).alloc (.cells (zM.cells nil8).toArray 38)).setCell ⟨w.heap.size, 115, none⟩ (.string ⟨#[]⟩)).setCell ⟨w.heap.size, 3, none⟩ (.int .u64 0)).setCell ⟨w.heap.size, 117, none⟩ (.slice none 0 0)) ({ m with head := ByteArray.empty, nonce := 0, shorts := [] } : Mg) ({ s with sh := .slice none 0 0 } : Vs)) := U2.out.set (m' := ({ m with head := ByteArray.empty, nonce := 0, shorts := [] } : Mg)) (s' := ({ s with sh := .slice none 0 0 } : Vs)) 117 (.slice none 0 0) (by rw [show 117 = 114 + 3 from rfl, Mg.set2 _ _ 3 _]; rfl)
  have q4 := U3.out.mc.f20
  have f4 := U3.out.fz 118
  have U4 : Hid (Un w ((((((w.alloc (.cells (m.cells s).toArray 38)).alloc (.cells (zM.cells nil8).toArray 38)).setCell ⟨w.heap.size, 115, none⟩ (.string ⟨#[]⟩)).setCell ⟨w.heap.size, 3, none⟩ (.int .u64 0)).setCell ⟨w.heap.size, 117, none⟩ (.slice none 0 0)).setCell ⟨w.heap.size, 118, none⟩ (.slice none 0 0)) ({ m with head := ByteArray.empty, nonce := 0, shorts := [], filled := [] } : Mg) ({ s with sh := .slice none 0 0, f := .slice none 0 0 } : Vs)) := U3.out.set (m' := ({ m with head := ByteArray.empty, nonce := 0, shorts := [], filled := [] } : Mg)) (s' := ({ s with sh := .slice none 0 0, f := .slice none 0 0 } : Vs)) 118 (.slice none 0 0) (by rw [show 118 = 114 + 4 from rfl, Mg.set2 _ _ 4 _]; rfl)
  have BK : Hid (m.bareK = ({ m with head := ByteArray.empty, nonce := 0, shorts := [], filled := [] } : Mg)) := by show _ = _; unfold Mg.bareK; simp [hk]
  have ML1 : Hid (∀ W, ML W s m → ML W ({ s with sh := .slice none 0 0, f := .slice none 0 0 } : Vs) ({ m with head := ByteArray.empty, nonce := 0, shorts := [], filled := [] } : Mg)) := fun W h => ⟨h.a, h.i, h.h, h.hd, LX.nil W, LX.nil W, h.p, h.r⟩
  have OK : Hid (({ s with sh := .slice none 0 0, f := .slice none 0 0 } : Vs)).ok := ⟨hs.a, hs.i, hs.h, hs.hd, ⟨_, _, _, rfl⟩, ⟨_, _, _, rfl⟩, hs.p, hs.r⟩
  have EN := hide (unnamed_end U4.out)
  have R2 := hide U4.out.r2
  have HO := hide (({ m with head := ByteArray.empty, nonce := 0, shorts := [], filled := [] } : Mg).one ({ s with sh := .slice none 0 0, f := .slice none 0 0 } : Vs) OK.out)
  have HZ := hide (({ m with head := ByteArray.empty, nonce := 0, shorts := [], filled := [] } : Mg).size ({ s with sh := .slice none 0 0, f := .slice none 0 0 } : Vs))
  have HZm := hide (zM.size nil8)
  have A0 := AM
  have hsz : (w.alloc (.cells (m.cells s).toArray 38)).heap.size = w.heap.size + 1 := by simp
  clear U0 U1 U2 U3 U4 hk hs
  generalize hnm : ({ m with head := ByteArray.empty, nonce := 0, shorts := [], filled := [] } : Mg) = m' at *
  generalize hns : ({ s with sh := .slice none 0 0, f := .slice none 0 0 } : Vs) = s' at *
  clear hnm hns
  go_enter Tryz.func16, Tryz.ntmps16
  go_upto_region 1 with (with_reducible refine at_list ?_; first | refine wpList_boxA rfl _ rfl (m.cells s).toArray rfl ?_ | refine wpList_allocA AM rfl rfl ?_)
  rw [hsz]
  clear hsz
  generalize (w.alloc (.cells (m.cells s).toArray 38)).alloc (.cells (zM.cells nil8).toArray 38) = W0 at *
  generalize (zM.cells nil8).toArray = Z at *
  go_upto_region 30 with fail
  generalize ((((W0.setCell ⟨w.heap.size, 115, none⟩ (.string ⟨#[]⟩)).setCell ⟨w.heap.size, 3, none⟩ (.int .u64 0)).setCell ⟨w.heap.size, 117, none⟩ (.slice none 0 0)).setCell ⟨w.heap.size, 118, none⟩ (.slice none 0 0)) = W1 at *
  go_wp2_with ((with_reducible refine at_list ?_); first | refine wpList_loadS A0 _ rfl w.heap.size rfl (m'.cells s').toArray HZ.out 38 EN.out.1 rfl ?_ | refine wpList_storeA A0 rfl _ _ rfl (w.heap.size + 1) (m'.cells s').toArray HZ.out HO.out rfl rfl Z HZm.out 38 R2.out ?_)
  refine bodyPost_ret (resA A0 rfl _ _ _ _ (m'.cells s').toArray HZ.out rfl EN.out.2.1) rfl ?_
  exact ⟨s', by rw [BK.out], OK.out, by rw [BK.out]; exact ML1.out, EN.out.2.2⟩
theorem unnamed_k17 (m : Mg) (s : Vs) (w : World) (hs : s.ok) (hk : m.kind = 17) : Calls Tryz.prog 16 #[.agg (m.cells s).toArray] w fun e w' => ∃ s', e = .returned (.agg (m.bareK.cells s').toArray) ∧ s'.ok ∧ (∀ W, ML W s m → ML W s' m.bareK) ∧ Below w.heap.size w w' := by
  have U0 := hide (Un.start w m s)
  have ck := U0.out.mc.f0
  rw [hk] at ck
  have T1 : Hid (((w.alloc (.cells (m.cells s).toArray 38)).alloc (.cells (zM.cells nil8).toArray 38)).there w.heap.size 82 (cellsL zI.1).toArray.size) := by show World.there _ _ _ _; rw [z32]; exact U0.out.there 82 32 (by decide)
  have U1 : Hid (Un w (((w.alloc (.cells (m.cells s).toArray 38)).alloc (.cells (zM.cells nil8).toArray 38)).setCells w.heap.size 82 (cellsL zI.1)) ({ m with hash := zI } : Mg) s) := U0.out.setL _ _ (cellsL zI.1) _ (by rw [cellsL_len, cellsL_len, m.hash.2, zI.2]) (m.spH s) (({ m with hash := zI } : Mg).spH s) 82 (m.lH s)
  have q2 := U1.out.mc.f21
  have f2 := U1.out.fz 119
  have U2 : Hid (Un w ((((w.alloc (.cells (m.cells s).toArray 38)).alloc (.cells (zM.cells nil8).toArray 38)).setCells w.heap.size 82 (cellsL zI.1)).setCell ⟨w.heap.size, 119, none⟩ (.slice none 0 0)) ({ m with hash := zI, places := [] } : Mg) ({ s with p := .slice none 0 0 } : Vs)) := U1.out.set (m' := ({ m with hash := zI, places := [] } : Mg)) (s' := ({ s with p := .slice none 0 0 } : Vs)) 119 (.slice none 0 0) (by rw [show 119 = 114 + 5 from rfl, Mg.set2 _ _ 5 _]; rfl)
  have BK : Hid (m.bareK = ({ m with hash := zI, places := [] } : Mg)) := by show _ = _; unfold Mg.bareK; simp [hk]
  have ML1 : Hid (∀ W, ML W s m → ML W ({ s with p := .slice none 0 0 } : Vs) ({ m with hash := zI, places := [] } : Mg)) := fun W h => ⟨h.a, h.i, h.h, h.hd, h.sh, h.f, LX.nil W, h.r⟩
  have OK : Hid (({ s with p := .slice none 0 0 } : Vs)).ok := ⟨hs.a, hs.i, hs.h, hs.hd, hs.sh, hs.f, ⟨_, _, _, rfl⟩, hs.r⟩
  have EN := hide (unnamed_end U2.out)
  have R2 := hide U2.out.r2
  have HO := hide (({ m with hash := zI, places := [] } : Mg).one ({ s with p := .slice none 0 0 } : Vs) OK.out)
  have HZ := hide (({ m with hash := zI, places := [] } : Mg).size ({ s with p := .slice none 0 0 } : Vs))
  have HZm := hide (zM.size nil8)
  have A0 := AM
  have AZ : Arr 32 32 (cellsL zI.1).toArray := A25
  have LZ : Hid ((cellsL zI.1).length = 32) := by show _ = _; rw [cellsL_len, zI.2]
  have OZ := hide (cellsL_one zI.1)
  have IZ : Hid ((Tryz.prog.info? 32).map (·.size) = some (cellsL zI.1).toArray.size) := by show _ = _; rw [List.size_toArray, LZ.out]; exact AZ.info
  have hsz : (w.alloc (.cells (m.cells s).toArray 38)).heap.size = w.heap.size + 1 := by simp
  clear U0 U1 U2 hk hs
  generalize hnm : ({ m with hash := zI, places := [] } : Mg) = m' at *
  generalize hns : ({ s with p := .slice none 0 0 } : Vs) = s' at *
  clear hnm hns
  generalize cellsL zI.1 = zc at *
  go_enter Tryz.func16, Tryz.ntmps16
  go_upto_region 1 with (with_reducible refine at_list ?_; first | refine wpList_boxA rfl _ rfl (m.cells s).toArray rfl ?_ | refine wpList_allocA AM rfl rfl ?_)
  rw [hsz]
  clear hsz
  generalize (w.alloc (.cells (m.cells s).toArray 38)).alloc (.cells (zM.cells nil8).toArray 38) = W0 at *
  generalize (zM.cells nil8).toArray = Z at *
  go_upto_region 30 with (with_reducible refine at_list ?_; first | refine wpList_buildA AZ rfl rfl ?_ | refine wpList_store_mid rfl 32 _ _ rfl w.heap.size 82 zc.toArray rfl rfl T1.out IZ.out (all_oneCell_toArray OZ.out) ?_)
  generalize ((W0.setCells w.heap.size 82 zc).setCell ⟨w.heap.size, 119, none⟩ (.slice none 0 0)) = W1 at *
  go_wp2_with ((with_reducible refine at_list ?_); first | refine wpList_loadS A0 _ rfl w.heap.size rfl (m'.cells s').toArray HZ.out 38 EN.out.1 rfl ?_ | refine wpList_storeA A0 rfl _ _ rfl (w.heap.size + 1) (m'.cells s').toArray HZ.out HO.out rfl rfl Z HZm.out 38 R2.out ?_)
  refine bodyPost_ret (resA A0 rfl _ _ _ _ (m'.cells s').toArray HZ.out rfl EN.out.2.1) rfl ?_
  exact ⟨s', by rw [BK.out], OK.out, by rw [BK.out]; exact ML1.out, EN.out.2.2⟩
theorem unnamed_k18 (m : Mg) (s : Vs) (w : World) (hs : s.ok) (hk : m.kind = 18) : Calls Tryz.prog 16 #[.agg (m.cells s).toArray] w fun e w' => ∃ s', e = .returned (.agg (m.bareK.cells s').toArray) ∧ s'.ok ∧ (∀ W, ML W s m → ML W s' m.bareK) ∧ Below w.heap.size w w' := by
  have U0 := hide (Un.start w m s)
  have ck := U0.out.mc.f0
  rw [hk] at ck
  have T1 : Hid (((w.alloc (.cells (m.cells s).toArray 38)).alloc (.cells (zM.cells nil8).toArray 38)).there w.heap.size 82 (cellsL zI.1).toArray.size) := by show World.there _ _ _ _; rw [z32]; exact U0.out.there 82 32 (by decide)
  have U1 : Hid (Un w (((w.alloc (.cells (m.cells s).toArray 38)).alloc (.cells (zM.cells nil8).toArray 38)).setCells w.heap.size 82 (cellsL zI.1)) ({ m with hash := zI } : Mg) s) := U0.out.setL _ _ (cellsL zI.1) _ (by rw [cellsL_len, cellsL_len, m.hash.2, zI.2]) (m.spH s) (({ m with hash := zI } : Mg).spH s) 82 (m.lH s)
  have q2 := U1.out.mc.f22
  have f2 := U1.out.fz 120
  have U2 : Hid (Un w ((((w.alloc (.cells (m.cells s).toArray 38)).alloc (.cells (zM.cells nil8).toArray 38)).setCells w.heap.size 82 (cellsL zI.1)).setCell ⟨w.heap.size, 120, none⟩ (.slice none 0 0)) ({ m with hash := zI, raws := [] } : Mg) ({ s with r := .slice none 0 0 } : Vs)) := U1.out.set (m' := ({ m with hash := zI, raws := [] } : Mg)) (s' := ({ s with r := .slice none 0 0 } : Vs)) 120 (.slice none 0 0) (by rw [show 120 = 114 + 6 from rfl, Mg.set2 _ _ 6 _]; rfl)
  have BK : Hid (m.bareK = ({ m with hash := zI, raws := [] } : Mg)) := by show _ = _; unfold Mg.bareK; simp [hk]
  have ML1 : Hid (∀ W, ML W s m → ML W ({ s with r := .slice none 0 0 } : Vs) ({ m with hash := zI, raws := [] } : Mg)) := fun W h => ⟨h.a, h.i, h.h, h.hd, h.sh, h.f, h.p, LX.nil W⟩
  have OK : Hid (({ s with r := .slice none 0 0 } : Vs)).ok := ⟨hs.a, hs.i, hs.h, hs.hd, hs.sh, hs.f, hs.p, ⟨_, _, _, rfl⟩⟩
  have EN := hide (unnamed_end U2.out)
  have R2 := hide U2.out.r2
  have HO := hide (({ m with hash := zI, raws := [] } : Mg).one ({ s with r := .slice none 0 0 } : Vs) OK.out)
  have HZ := hide (({ m with hash := zI, raws := [] } : Mg).size ({ s with r := .slice none 0 0 } : Vs))
  have HZm := hide (zM.size nil8)
  have A0 := AM
  have AZ : Arr 32 32 (cellsL zI.1).toArray := A25
  have LZ : Hid ((cellsL zI.1).length = 32) := by show _ = _; rw [cellsL_len, zI.2]
  have OZ := hide (cellsL_one zI.1)
  have IZ : Hid ((Tryz.prog.info? 32).map (·.size) = some (cellsL zI.1).toArray.size) := by show _ = _; rw [List.size_toArray, LZ.out]; exact AZ.info
  have hsz : (w.alloc (.cells (m.cells s).toArray 38)).heap.size = w.heap.size + 1 := by simp
  clear U0 U1 U2 hk hs
  generalize hnm : ({ m with hash := zI, raws := [] } : Mg) = m' at *
  generalize hns : ({ s with r := .slice none 0 0 } : Vs) = s' at *
  clear hnm hns
  generalize cellsL zI.1 = zc at *
  go_enter Tryz.func16, Tryz.ntmps16
  go_upto_region 1 with (with_reducible refine at_list ?_; first | refine wpList_boxA rfl _ rfl (m.cells s).toArray rfl ?_ | refine wpList_allocA AM rfl rfl ?_)
  rw [hsz]
  clear hsz
  generalize (w.alloc (.cells (m.cells s).toArray 38)).alloc (.cells (zM.cells nil8).toArray 38) = W0 at *
  generalize (zM.cells nil8).toArray = Z at *
  go_upto_region 30 with (with_reducible refine at_list ?_; first | refine wpList_buildA AZ rfl rfl ?_ | refine wpList_store_mid rfl 32 _ _ rfl w.heap.size 82 zc.toArray rfl rfl T1.out IZ.out (all_oneCell_toArray OZ.out) ?_)
  generalize ((W0.setCells w.heap.size 82 zc).setCell ⟨w.heap.size, 120, none⟩ (.slice none 0 0)) = W1 at *
  go_wp2_with ((with_reducible refine at_list ?_); first | refine wpList_loadS A0 _ rfl w.heap.size rfl (m'.cells s').toArray HZ.out 38 EN.out.1 rfl ?_ | refine wpList_storeA A0 rfl _ _ rfl (w.heap.size + 1) (m'.cells s').toArray HZ.out HO.out rfl rfl Z HZm.out 38 R2.out ?_)
  refine bodyPost_ret (resA A0 rfl _ _ _ _ (m'.cells s').toArray HZ.out rfl EN.out.2.1) rfl ?_
  exact ⟨s', by rw [BK.out], OK.out, by rw [BK.out]; exact ML1.out, EN.out.2.2⟩
theorem unnamed_no (m : Mg) (s : Vs) (w : World) (hs : s.ok) (hk : m.kind ∉ ([1, 5, 6, 7, 8, 9, 10, 11, 12, 13, 14, 15, 16, 17, 18] : List Int)) : Calls Tryz.prog 16 #[.agg (m.cells s).toArray] w fun e w' => ∃ s', e = .returned (.agg (m.bareK.cells s').toArray) ∧ s'.ok ∧ (∀ W, ML W s m → ML W s' m.bareK) ∧ Below w.heap.size w w' := by
  have U0 := hide (Un.start w m s)
  have ck := U0.out.mc.f0
  simp only [List.mem_cons, List.not_mem_nil, or_false, not_or] at hk
  have BK : Hid (m.bareK = m) := by
    show _ = _
    unfold Mg.bareK
    rw [if_neg (by omega), if_neg (by omega), if_neg (by omega), if_neg (by omega), if_neg (by omega), if_neg (by omega), if_neg (by omega), if_neg (by omega), if_neg (by omega), if_neg (by omega), if_neg (by omega)]
  rw [BK.out]
  have EN := hide (unnamed_end U0.out)
  have R2 := hide U0.out.r2
  have HO := hide (m.one s hs)
  have HZ := hide (m.size s)
  have HZm := hide (zM.size nil8)
  have A0 := AM
  have hsz : (w.alloc (.cells (m.cells s).toArray 38)).heap.size = w.heap.size + 1 := by simp
  have OK := hide hs
  generalize m.kind = k at *
  have h1 : (k == 1) = false := by rw [beq_eq_false_iff_ne]; omega
  have h5 : (k == 5) = false := by rw [beq_eq_false_iff_ne]; omega
  have h6 : (k == 6) = false := by rw [beq_eq_false_iff_ne]; omega
  have h7 : (k == 7) = false := by rw [beq_eq_false_iff_ne]; omega
  have h8 : (k == 8) = false := by rw [beq_eq_false_iff_ne]; omega
  have h9 : (k == 9) = false := by rw [beq_eq_false_iff_ne]; omega
  have h10 : (k == 10) = false := by rw [beq_eq_false_iff_ne]; omega
  have h11 : (k == 11) = false := by rw [beq_eq_false_iff_ne]; omega
  have h12 : (k == 12) = false := by rw [beq_eq_false_iff_ne]; omega
  have h13 : (k == 13) = false := by rw [beq_eq_false_iff_ne]; omega
  have h14 : (k == 14) = false := by rw [beq_eq_false_iff_ne]; omega
  have h15 : (k == 15) = false := by rw [beq_eq_false_iff_ne]; omega
  have h16 : (k == 16) = false := by rw [beq_eq_false_iff_ne]; omega
  have h17 : (k == 17) = false := by rw [beq_eq_false_iff_ne]; omega
  have h18 : (k == 18) = false := by rw [beq_eq_false_iff_ne]; omega
  clear hk hs U0 BK
  go_enter Tryz.func16, Tryz.ntmps16
  go_upto_region 1 with (with_reducible refine at_list ?_; first | refine wpList_boxA rfl _ rfl (m.cells s).toArray rfl ?_ | refine wpList_allocA AM rfl rfl ?_)
  rw [hsz]
  clear hsz
  generalize (w.alloc (.cells (m.cells s).toArray 38)).alloc (.cells (zM.cells nil8).toArray 38) = W0 at *
  generalize (zM.cells nil8).toArray = Z at *
  go_wp2_with ((with_reducible refine at_list ?_); first | refine wpList_loadS A0 _ rfl w.heap.size rfl (m.cells s).toArray HZ.out 38 EN.out.1 rfl ?_ | refine wpList_storeA A0 rfl _ _ rfl (w.heap.size + 1) (m.cells s).toArray HZ.out HO.out rfl rfl Z HZm.out 38 R2.out ?_)
  refine bodyPost_ret (resA A0 rfl _ _ _ _ (m.cells s).toArray HZ.out rfl EN.out.2.1) rfl ?_
  exact ⟨s, rfl, OK.out, fun W h => h, EN.out.2.2⟩
theorem unnamed_any (m : Mg) (s : Vs) (w : World) (hs : s.ok) : Calls Tryz.prog 16 #[.agg (m.cells s).toArray] w fun e w' => ∃ s', e = .returned (.agg (m.bareK.cells s').toArray) ∧ s'.ok ∧ (∀ W, ML W s m → ML W s' m.bareK) ∧ Below w.heap.size w w' := by
  by_cases h1 : m.kind = 1
  · exact unnamed_k1 m s w hs h1
  by_cases h5 : m.kind = 5
  · exact unnamed_k5 m s w hs h5
  by_cases h6 : m.kind = 6
  · exact unnamed_k6 m s w hs h6
  by_cases h7 : m.kind = 7
  · exact unnamed_k7 m s w hs h7
  by_cases h8 : m.kind = 8
  · exact unnamed_k8 m s w hs h8
  by_cases h9 : m.kind = 9
  · exact unnamed_k9 m s w hs h9
  by_cases h10 : m.kind = 10
  · exact unnamed_k10 m s w hs h10
  by_cases h11 : m.kind = 11
  · exact unnamed_k11 m s w hs h11
  by_cases h12 : m.kind = 12
  · exact unnamed_k12 m s w hs h12
  by_cases h13 : m.kind = 13
  · exact unnamed_k13 m s w hs h13
  by_cases h14 : m.kind = 14
  · exact unnamed_k14 m s w hs h14
  by_cases h15 : m.kind = 15
  · exact unnamed_k15 m s w hs h15
  by_cases h16 : m.kind = 16
  · exact unnamed_k16 m s w hs h16
  by_cases h17 : m.kind = 17
  · exact unnamed_k17 m s w hs h17
  by_cases h18 : m.kind = 18
  · exact unnamed_k18 m s w hs h18
  exact unnamed_no m s w hs (by simp only [List.mem_cons, List.not_mem_nil, or_false, not_or]; exact ⟨h1, h5, h6, h7, h8, h9, h10, h11, h12, h13, h14, h15, h16, h17, h18⟩)
end
end Go.Proofs.YtkoidjaaojmcnaaGreat
