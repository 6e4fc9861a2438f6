/- block.TakeHead: its contract. -/
import Derived.Test.YtpffaaalncdjcaaGreatDoorN21
namespace Go.Proofs.YtpffaaalncdjcaaGreatDoor
open Go.RowKit
open Go.Deep
set_option linter.unusedVariables false
/-- The number that up to four bytes say. -/
def u32B (l : List UInt8) : UInt32 := UInt32.ofNat (leN l)
theorem u32B_nat (l : List UInt8) (h : l.length ≤ 4) : (u32B l).toNat = leN l := by
  have := leN_lt' l 4 4294967296 h rfl
  rw [u32B, UInt32.toNat_ofNat', Nat.mod_eq_of_lt this]
/-- The header that bytes say. -/
def hdOf (l : List UInt8) (h : 80 ≤ l.length) : Hd := ⟨u32B (l.take 4), (l.drop 4).take 32, (l.drop 36).take 32, u32B ((l.drop 68).take 4), u32B ((l.drop 72).take 4), u32B ((l.drop 76).take 4), by simp; omega, by simp; omega⟩
/-- The header at a place, and the error. -/
def tkH (l : List UInt8) : Hd × Int := if h : 80 ≤ l.length then (hdOf l h, 0) else (zHd, 4)
def tkA (s : ByteArray) (a : Int) : Hd × Int := if a < 0 ∨ (s.size : Int) < a then (zHd, 1) else tkH (s.data.toList.drop a.toNat)
theorem Hd.setV (h : Hd) (n : UInt32) : h.cells.toArray.setIfInBounds 0 (.int .u32 (n.toNat : Int)) = ({ h with ver := n } : Hd).cells.toArray := by
  rw [List.setIfInBounds_toArray]
  rfl
theorem Hd.setL (h : Hd) (j : Nat) (hj : j < 3) (v : Value) : h.cells.set (65 + j) v = .int .u32 (h.ver.toNat : Int) :: (cellsL h.prev ++ (cellsL h.root ++ [Value.int .u32 (h.time.toNat : Int), .int .u32 (h.bits.toNat : Int), .int .u32 (h.nonce.toNat : Int)].set j v)) := by
  have hl : (cellsL h.prev).length = 32 := by rw [cellsL_len, h.hp]
  have hm : (cellsL h.root).length = 32 := by rw [cellsL_len, h.hr]
  rw [Hd.cells, show 65 + j = (64 + j) + 1 by omega, List.set_cons_succ, List.set_append_right _ _ (by omega), hl, List.set_append_right _ _ (by omega), hm, show 64 + j - 32 - 32 = j by omega]
theorem Hd.setT (h : Hd) (n : UInt32) : h.cells.toArray.setIfInBounds 65 (.int .u32 (n.toNat : Int)) = ({ h with time := n } : Hd).cells.toArray := by
  rw [List.setIfInBounds_toArray, h.setL 0 (by omega)]
  rfl
theorem Hd.setB (h : Hd) (n : UInt32) : h.cells.toArray.setIfInBounds 66 (.int .u32 (n.toNat : Int)) = ({ h with bits := n } : Hd).cells.toArray := by
  rw [List.setIfInBounds_toArray, h.setL 1 (by omega)]
  rfl
theorem Hd.setN (h : Hd) (n : UInt32) : h.cells.toArray.setIfInBounds 67 (.int .u32 (n.toNat : Int)) = ({ h with nonce := n } : Hd).cells.toArray := by
  rw [List.setIfInBounds_toArray, h.setL 2 (by omega)]
  rfl
theorem Hd.setP {W : World} {g : Nat} {t : TypeId} (h : Hd) (l : List UInt8) (hl : l.length = 32) (e : W.heap[g]? = some (.cells h.cells.toArray t (0, 0))) : (W.setCells g 1 (cellsL l)).heap[g]? = some (.cells ({ h with prev := l, hp := hl } : Hd).cells.toArray t (0, 0)) :=
  row_setCells (cellsL h.root ++ [.int .u32 (h.time.toNat : Int), .int .u32 (h.bits.toNat : Int), .int .u32 (h.nonce.toNat : Int)]) g t (cellsL l) (cellsL h.prev) [.int .u32 (h.ver.toNat : Int)] W e (by rw [cellsL_len, cellsL_len, h.hp, hl])
theorem Hd.setR {W : World} {g : Nat} {t : TypeId} (h : Hd) (l : List UInt8) (hl : l.length = 32) (e : W.heap[g]? = some (.cells h.cells.toArray t (0, 0))) : (W.setCells g 33 (cellsL l)).heap[g]? = some (.cells ({ h with root := l, hr := hl } : Hd).cells.toArray t (0, 0)) := by
  have := row_setCells [.int .u32 (h.time.toNat : Int), .int .u32 (h.bits.toNat : Int), .int .u32 (h.nonce.toNat : Int)] g t (cellsL l) (cellsL h.root) (.int .u32 (h.ver.toNat : Int) :: cellsL h.prev) W e (by rw [cellsL_len, cellsL_len, h.hr, hl])
  rw [List.length_cons, cellsL_len, h.hp] at this
  exact this
theorem Hd.there {W : World} {g : Nat} {t : TypeId} (h : Hd) (e : W.heap[g]? = some (.cells h.cells.toArray t (0, 0))) (o n : Nat) (hn : o + n ≤ 68) : W.there g o n := fun j hj => by
  refine ⟨?_, frozen_of_row W g _ _ _ e⟩
  rw [cell_of_row _ _ _ _ _ _ e, Array.getElem?_eq_getElem (by rw [h.size]; omega)]
  rfl
/-- What is known of the world while a header is taken. -/
structure Tkh (w W : World) (g4 g6 gr : Nat) (s : ByteArray) (p e : Int) (h : Hd) : Prop where
  r4 : W.heap[g4]? = some (.cells zHd.cells.toArray 26 (0, 0))
  r6 : W.heap[g6]? = some (.cells h.cells.toArray 26 (0, 0))
  st : Rst W gr s p e
  bel : Below w.heap.size w W
  n46 : g4 ≠ g6
  n4r : g4 ≠ gr
  n6r : g6 ≠ gr
  l4 : w.heap.size ≤ g4
  l6 : w.heap.size ≤ g6
  lr : w.heap.size ≤ gr
  p0 : 0 ≤ p
  p1 : p ≤ s.size
section
variable {w W W' : World} {g4 g6 gr : Nat} {s : ByteArray} {p e : Int} {h : Hd}
theorem Tkh.step (t : Tkh w W g4 g6 gr s p e h) (n : Int) (q : Rst W' gr s (rtake s p e n).1 (rtake s p e n).2.1) (f : Rfr gr W W') : Tkh w W' g4 g6 gr s (rtake s p e n).1 (rtake s p e n).2.1 h :=
  ⟨(f.block _ (lt_heap t.r4) t.n4r).trans t.r4, (f.block _ (lt_heap t.r6) t.n6r).trans t.r6, q, t.bel.trans (f.to_below t.lr t.bel.size), t.n46, t.n4r, t.n6r, t.l4, t.l6, t.lr, (rtake_inv s p e n t.p0 t.p1).1, (rtake_inv s p e n t.p0 t.p1).2⟩
theorem Tkh.put (t : Tkh w W g4 g6 gr s p e h) (f : Rfr g6 W W') (k : Hd) (r : W'.heap[g6]? = some (.cells k.cells.toArray 26 (0, 0))) : Tkh w W' g4 g6 gr s p e k :=
  ⟨(f.block _ (lt_heap t.r4) t.n46).trans t.r4, r, (f.block _ t.st.lt (Ne.symm t.n6r)).trans t.st, t.bel.trans (f.to_below t.l6 t.bel.size), t.n46, t.n4r, t.n6r, t.l4, t.l6, t.lr, t.p0, t.p1⟩
end
theorem hashOf_len (s : ByteArray) (p e : Int) (h0 : 0 ≤ p) (h1 : p ≤ s.size) : (hashOf (rtake s p e 32)).length = 32 := by
  unfold hashOf
  split
  · exact zeros_len
  · rename_i h
    have h2 : (rtake s p e 32).2.1 = 0 := by simpa using h
    obtain ⟨-, -, -, h5, h6⟩ := rtake_ok s p e 32 h2
    rw [h6]
    simp
    omega
theorem rt_ok (s : ByteArray) (p n : Nat) (h : p + n ≤ s.size) : rtake s (p : Int) 0 (n : Int) = (((p + n : Nat) : Int), 0, s.extract p (p + n)) := by
  unfold rtake
  rw [if_neg (by decide), if_neg (by omega), if_neg (by omega)]
  simp only [Int.toNat_natCast, Int.natCast_add]
  rfl
theorem rt_bad (s : ByteArray) (p : Int) (e n : Int) (he : e ≠ 0) : rtake s p e n = (p, e, ⟨#[]⟩) := by
  unfold rtake
  rw [if_pos he]
theorem rt_cut (s : ByteArray) (p n : Nat) (h : ¬ p + n ≤ s.size) : rtake s (p : Int) 0 (n : Int) = ((p : Int), 4, ⟨#[]⟩) := by
  unfold rtake
  rw [if_neg (by decide), if_neg (by omega), if_pos (by omega)]
theorem ext_mid (s : ByteArray) (p q : Nat) : (s.extract p q).data.toList = (s.data.toList.drop p).take (q - p) := by
  rw [ByteArray.data_extract, Array.toList_extract]
/-! ### the six parts -/
def R1 (T : ByteArray) : Int × Int × ByteArray := rtake T 0 0 4
def R2 (T : ByteArray) : Int × Int × ByteArray := rtake T (R1 T).1 (R1 T).2.1 32
def R3 (T : ByteArray) : Int × Int × ByteArray := rtake T (R2 T).1 (R2 T).2.1 32
def R4 (T : ByteArray) : Int × Int × ByteArray := rtake T (R3 T).1 (R3 T).2.1 4
def R5 (T : ByteArray) : Int × Int × ByteArray := rtake T (R4 T).1 (R4 T).2.1 4
def R6 (T : ByteArray) : Int × Int × ByteArray := rtake T (R5 T).1 (R5 T).2.1 4
theorem R1_ok (T : ByteArray) (h : 4 ≤ T.size) : R1 T = (4, 0, T.extract 0 4) := rt_ok T 0 4 (by omega)
theorem R2_ok (T : ByteArray) (h : 36 ≤ T.size) : R2 T = (36, 0, T.extract 4 36) := by rw [R2, R1_ok T (by omega)]; exact rt_ok T 4 32 (by omega)
theorem R3_ok (T : ByteArray) (h : 68 ≤ T.size) : R3 T = (68, 0, T.extract 36 68) := by rw [R3, R2_ok T (by omega)]; exact rt_ok T 36 32 (by omega)
theorem R4_ok (T : ByteArray) (h : 72 ≤ T.size) : R4 T = (72, 0, T.extract 68 72) := by rw [R4, R3_ok T (by omega)]; exact rt_ok T 68 4 (by omega)
theorem R5_ok (T : ByteArray) (h : 76 ≤ T.size) : R5 T = (76, 0, T.extract 72 76) := by rw [R5, R4_ok T (by omega)]; exact rt_ok T 72 4 (by omega)
theorem R6_ok (T : ByteArray) (h : 80 ≤ T.size) : R6 T = (80, 0, T.extract 76 80) := by rw [R6, R5_ok T (by omega)]; exact rt_ok T 76 4 (by omega)
theorem bad_on (T : ByteArray) (R : Int × Int × ByteArray) (n : Int) (h : R.2.1 = 4) : (rtake T R.1 R.2.1 n).2.1 = 4 := by rw [rt_bad T R.1 R.2.1 n (by rw [h]; decide)]; exact h
theorem R6_bad (T : ByteArray) (h : ¬ 80 ≤ T.size) : (R6 T).2.1 = 4 := by
  have a1 : ¬ 4 ≤ T.size → (R1 T).2.1 = 4 := fun q => by rw [R1]; exact congrArg (·.2.1) (rt_cut T 0 4 (by omega))
  have a2 : ¬ 36 ≤ T.size → (R2 T).2.1 = 4 := fun q => by
    by_cases h4 : 4 ≤ T.size
    · rw [R2, R1_ok T h4]; exact congrArg (·.2.1) (rt_cut T 4 32 (by omega))
    · exact bad_on T (R1 T) 32 (a1 h4)
  have a3 : ¬ 68 ≤ T.size → (R3 T).2.1 = 4 := fun q => by
    by_cases h4 : 36 ≤ T.size
    · rw [R3, R2_ok T h4]; exact congrArg (·.2.1) (rt_cut T 36 32 (by omega))
    · exact bad_on T (R2 T) 32 (a2 h4)
  have a4 : ¬ 72 ≤ T.size → (R4 T).2.1 = 4 := fun q => by
    by_cases h4 : 68 ≤ T.size
    · rw [R4, R3_ok T h4]; exact congrArg (·.2.1) (rt_cut T 68 4 (by omega))
    · exact bad_on T (R3 T) 4 (a3 h4)
  have a5 : ¬ 76 ≤ T.size → (R5 T).2.1 = 4 := fun q => by
    by_cases h4 : 72 ≤ T.size
    · rw [R5, R4_ok T h4]; exact congrArg (·.2.1) (rt_cut T 72 4 (by omega))
    · exact bad_on T (R4 T) 4 (a4 h4)
  by_cases h4 : 76 ≤ T.size
  · rw [R6, R5_ok T h4]; exact congrArg (·.2.1) (rt_cut T 76 4 (by omega))
  · exact bad_on T (R5 T) 4 (a5 h4)
section
variable {w W : World} {g4 g6 gr : Nat} {s : ByteArray} {p e : Int} {h : Hd}
theorem Tkh.sV (t : Tkh w W g4 g6 gr s p e h) (X : List UInt8) (hX : X.length ≤ 4) : Tkh w (W.setCell ⟨g6, 0, none⟩ (.int .u32 (leN X : Int))) g4 g6 gr s p e { h with ver := u32B X } :=
  t.put (Rfr.setCell g6 W 0 _) _ (by rw [heap_setCell_same W g6 0 _ _ _ t.r6, ← u32B_nat X hX, h.setV])
theorem Tkh.sT (t : Tkh w W g4 g6 gr s p e h) (X : List UInt8) (hX : X.length ≤ 4) : Tkh w (W.setCell ⟨g6, 65, none⟩ (.int .u32 (leN X : Int))) g4 g6 gr s p e { h with time := u32B X } :=
  t.put (Rfr.setCell g6 W 65 _) _ (by rw [heap_setCell_same W g6 65 _ _ _ t.r6, ← u32B_nat X hX, h.setT])
theorem Tkh.sB (t : Tkh w W g4 g6 gr s p e h) (X : List UInt8) (hX : X.length ≤ 4) : Tkh w (W.setCell ⟨g6, 66, none⟩ (.int .u32 (leN X : Int))) g4 g6 gr s p e { h with bits := u32B X } :=
  t.put (Rfr.setCell g6 W 66 _) _ (by rw [heap_setCell_same W g6 66 _ _ _ t.r6, ← u32B_nat X hX, h.setB])
theorem Tkh.sN (t : Tkh w W g4 g6 gr s p e h) (X : List UInt8) (hX : X.length ≤ 4) : Tkh w (W.setCell ⟨g6, 67, none⟩ (.int .u32 (leN X : Int))) g4 g6 gr s p e { h with nonce := u32B X } :=
  t.put (Rfr.setCell g6 W 67 _) _ (by rw [heap_setCell_same W g6 67 _ _ _ t.r6, ← u32B_nat X hX, h.setN])
theorem Tkh.sP (t : Tkh w W g4 g6 gr s p e h) (l : List UInt8) (hl : l.length = 32) : Tkh w (W.setCells g6 1 (hc l).toList) g4 g6 gr s p e { h with prev := l, hp := hl } := by
  rw [show (hc l).toList = cellsL l by simp [hc]]
  exact t.put (Rfr.setCells g6 (cellsL l) 1 W) _ (h.setP l hl t.r6)
theorem Tkh.sR (t : Tkh w W g4 g6 gr s p e h) (l : List UInt8) (hl : l.length = 32) : Tkh w (W.setCells g6 33 (hc l).toList) g4 g6 gr s p e { h with root := l, hr := hl } := by
  rw [show (hc l).toList = cellsL l by simp [hc]]
  exact t.put (Rfr.setCells g6 (cellsL l) 33 W) _ (h.setR l hl t.r6)
theorem Tkh.at (t : Tkh w W g4 g6 gr s p e h) (i : Nat) (hi : i < 68) : ∃ v, W.cell? ⟨g6, i, none⟩ = some v := by
  have := (h.there t.r6 i 1 (by omega) 0 (by omega)).1
  exact Option.isSome_iff_exists.1 this
theorem Tkh.fz (t : Tkh w W g4 g6 gr s p e h) (i : Nat) : W.frozen? ⟨g6, i, none⟩ = false := frozen_of_row W g6 i _ _ t.r6
end
theorem sz4 (s : ByteArray) (p e : Int) (h0 : 0 ≤ p) : (rtake s p e 4).2.2.data.toList.length ≤ 4 := by
  have := rtake_size s p e 4 4 rfl h0
  simpa using this
section
set_option maxRecDepth 10000
set_option maxHeartbeats 4000000
theorem takeHead_no (s : ByteArray) (a : Int) (h : a < 0 ∨ (s.size : Int) < a) (w : World) : Calls Tryz.prog 35 #[.string s, .int .i64 a] w fun e w' => e = .returned (.tuple #[.agg zHd.cells.toArray, .int .i64 1]) ∧ Below w.heap.size w w' := by
  have R1 := hide (heap_alloc_last w (.cells zHd.cells.toArray 26))
  have B1 := hide ((Below.refl w.heap.size w).alloc (Nat.le_refl _) (.cells zHd.cells.toArray 26))
  have key : (decide (a < 0) = true) ∨ (decide (a < 0) = false ∧ decide (a > (s.size : Int)) = true) := by
    by_cases h1 : a < 0
    · exact .inl (decide_eq_true h1)
    · exact .inr ⟨decide_eq_false h1, decide_eq_true (by omega)⟩
  clear h
  go_enter Tryz.func35, Tryz.ntmps35
  go_upto_region 1 with ((with_reducible refine at_list ?_); refine wpList_allocA AHd rfl rfl ?_)
  generalize w.alloc (.cells zHd.cells.toArray 26) = W0 at *
  rcases key with h1 | ⟨h1, h2⟩
  all_goals
    go_wp2_with ((with_reducible refine at_list ?_); first | refine wpList_buildA AHd rfl rfl ?_ | refine wpList_storeA AHd rfl _ _ rfl w.heap.size zHd.cells.toArray zHd.size zHd.all rfl rfl zHd.cells.toArray zHd.size 26 R1.out ?_)
    exact bodyPost_ret (v := .tuple #[.agg zHd.cells.toArray, .int .i64 1]) (resA2K AHd Tryz.results35 _ _ w.heap.size 26 _ zHd.size rfl (setRow_heap _ _ _ _ _ _ R1.out) _ rfl) rfl ⟨rfl, below_setRow B1.out (Nat.le_refl _) _⟩
theorem takeHead_yes (s : ByteArray) (hs : s.size ≤ maxLen) (k : Nat) (hk : k ≤ s.size) (w : World) : Calls Tryz.prog 35 #[.string s, .int .i64 (k : Int)] w fun e w' => e = .returned (.tuple #[.agg (tkH (s.data.toList.drop k)).1.cells.toArray, .int .i64 (tkH (s.data.toList.drop k)).2]) ∧ Below w.heap.size w w' := by
  have r1 := heap_alloc_last w (.cells zHd.cells.toArray 26)
  have b1 := (Below.refl w.heap.size w).alloc (Nat.le_refl _) (.cells zHd.cells.toArray 26)
  have b2 := b1.alloc b1.size (.cells zHd.cells.toArray 26)
  have s1 : (w.alloc (.cells zHd.cells.toArray 26)).heap.size = w.heap.size + 1 := by simp
  have R1 := hide ((Below.heap_alloc _ (.cells zHd.cells.toArray 26) _ (lt_heap r1)).trans r1)
  have R2 := hide (heap_alloc_last (w.alloc (.cells zHd.cells.toArray 26)) (.cells zHd.cells.toArray 26))
  have B2 := hide b2
  have S2 : Hid (((w.alloc (.cells zHd.cells.toArray 26)).alloc (.cells zHd.cells.toArray 26)).heap.size = w.heap.size + 2) := by show _ = _; simp
  have q1 : decide ((k : Int) < 0) = false := decide_eq_false (by omega)
  have q2 : decide ((k : Int) > (s.size : Int)) = false := decide_eq_false (by omega)
  have q3 : ¬ (k : Int) > (s.size : Int) := by omega
  have q4 : (k : Int) ≤ (s.size : Int) := by omega
  have TL := hide (ext_list s k)
  have TS := hide (show (s.extract k s.size).size ≤ maxLen by simp; omega)
  rw [s1] at R2
  clear r1 b1 b2
  go_enter Tryz.func35, Tryz.ntmps35
  go_upto_region 4 with ((with_reducible refine at_list ?_); refine wpList_allocA AHd rfl rfl ?_)
  try rw [s1]
  clear s1
  generalize (w.alloc (.cells zHd.cells.toArray 26)).alloc (.cells zHd.cells.toArray 26) = W0 at *
  simp only [Act.put, List.setIfInBounds_toArray, List.set_cons_zero, List.set_cons_succ]
  go_upto_region 5 with (go_at_call 73; refine (newReader_any (s.extract k s.size) _).mono ?_; rintro r W2 ⟨rfl, rfl⟩)
  have J0 : Hid (Tkh w (W0.alloc (.cells #[.string (s.extract k s.size), .int .i64 0, .int .i64 0] 174)) w.heap.size (w.heap.size + 1) W0.heap.size (s.extract k s.size) 0 0 zHd) := by
    have bb := (Below.refl W0.heap.size W0).alloc (Nat.le_refl _) (.cells #[.string (s.extract k s.size), .int .i64 0, .int .i64 0] 174)
    have hz := S2.out
    exact ⟨(bb.block _ (lt_heap R1.out)).trans R1.out, (bb.block _ (lt_heap R2.out)).trans R2.out, heap_alloc_last _ _, below_next B2.out bb, by omega, by omega, by omega, by omega, by omega, by omega, by omega, by omega⟩
  clear q1 q2 q3 q4 R1 R2 B2 S2
  generalize hT : s.extract k s.size = T at *
  clear hT
  generalize W0.alloc (.cells #[.string T, .int .i64 0, .int .i64 0] 174) = W1 at *
  generalize W0.heap.size = gr at *
  have HU : Hid (∀ W p e h, Tkh w W w.heap.size (w.heap.size + 1) gr T p e h → Calls Tryz.prog 74 #[.pointer (some ⟨gr, 0, none⟩)] W fun r w' => r = .returned (.int .u32 (leN (rtake T p e 4).2.2.data.toList)) ∧ Tkh w w' w.heap.size (w.heap.size + 1) gr T (rtake T p e 4).1 (rtake T p e 4).2.1 h) := fun W p e h j => (rU32 gr T W p e j.st TS.out j.p0 j.p1).mono fun r w' ⟨h1, h2, h3⟩ => ⟨h1, j.step 4 h2 h3⟩
  have HH : Hid (∀ W p e h, Tkh w W w.heap.size (w.heap.size + 1) gr T p e h → Calls Tryz.prog 75 #[.pointer (some ⟨gr, 0, none⟩)] W fun r w' => r = .returned (.agg (hc (hashOf (rtake T p e 32)))) ∧ Tkh w w' w.heap.size (w.heap.size + 1) gr T (rtake T p e 32).1 (rtake T p e 32).2.1 h) := fun W p e h j => (rHash gr T W p e j.st TS.out j.p0 j.p1).mono fun r w' ⟨h1, h2, h3⟩ => ⟨h1, j.step 32 h2 h3⟩
  have HU6 := hide (HU.out _ _ _ _ J0.out)
  rw [show rtake T 0 0 4 = R1 T from rfl] at HU6
  have X6 : Hid ((R1 T).2.2.data.toList.length ≤ 4) := sz4 T _ _ J0.out.p0
  go_upto_region 6 with (go_at_call 74; refine HU6.out.mono ?_; rintro r V6 ⟨rfl, j⟩; have JJ := hide j; clear j; obtain ⟨vv, c9⟩ := JJ.out.at 0 (by omega); have f9 := JJ.out.fz 0)
  have J1 := hide (JJ.out.sV _ X6.out)
  clear c9 f9 JJ J0 HU6 X6
  generalize V6.setCell ⟨w.heap.size + 1, 0, none⟩ (.int .u32 (leN (R1 T).2.2.data.toList : Int)) = W6 at *
  have HU7 := hide (HH.out _ _ _ _ J1.out)
  rw [show rtake T (R1 T).1 (R1 T).2.1 32 = R2 T from rfl] at HU7
  have X7 : Hid ((hashOf (R2 T)).length = 32) := hashOf_len T _ _ J1.out.p0 J1.out.p1
  go_upto_region 7 with (first | (go_at_call 75; refine HU7.out.mono ?_; rintro r V7 ⟨rfl, j⟩; have JJ := hide j; clear j) | ((with_reducible refine at_list ?_); refine wpList_store_mid rfl 24 _ _ rfl (w.heap.size + 1) 1 (hc (hashOf (R2 T))) rfl rfl (by rw [hc_size, X7.out]; exact Hd.there _ JJ.out.r6 1 32 (by omega)) (by rw [hc_size, X7.out]; kernel_rfl) (hc_one _) ?_))
  have J2 := hide (JJ.out.sP _ X7.out)
  clear JJ J1 HU7
  generalize V7.setCells (w.heap.size + 1) 1 (hc (hashOf (R2 T))).toList = W7 at *
  have HU8 := hide (HH.out _ _ _ _ J2.out)
  rw [show rtake T (R2 T).1 (R2 T).2.1 32 = R3 T from rfl] at HU8
  have X8 : Hid ((hashOf (R3 T)).length = 32) := hashOf_len T _ _ J2.out.p0 J2.out.p1
  go_upto_region 8 with (first | (go_at_call 75; refine HU8.out.mono ?_; rintro r V8 ⟨rfl, j⟩; have JJ := hide j; clear j) | ((with_reducible refine at_list ?_); refine wpList_store_mid rfl 24 _ _ rfl (w.heap.size + 1) 33 (hc (hashOf (R3 T))) rfl rfl (by rw [hc_size, X8.out]; exact Hd.there _ JJ.out.r6 33 32 (by omega)) (by rw [hc_size, X8.out]; kernel_rfl) (hc_one _) ?_))
  have J3 := hide (JJ.out.sR _ X8.out)
  clear JJ J2 HU8
  generalize V8.setCells (w.heap.size + 1) 33 (hc (hashOf (R3 T))).toList = W8 at *
  have HU9 := hide (HU.out _ _ _ _ J3.out)
  rw [show rtake T (R3 T).1 (R3 T).2.1 4 = R4 T from rfl] at HU9
  have X9 : Hid ((R4 T).2.2.data.toList.length ≤ 4) := sz4 T _ _ J3.out.p0
  go_upto_region 9 with (go_at_call 74; refine HU9.out.mono ?_; rintro r V9 ⟨rfl, j⟩; have JJ := hide j; clear j; obtain ⟨vv, c9⟩ := JJ.out.at 65 (by omega); have f9 := JJ.out.fz 65)
  have J4 := hide (JJ.out.sT _ X9.out)
  clear c9 f9 JJ J3 HU9 X9
  generalize V9.setCell ⟨w.heap.size + 1, 65, none⟩ (.int .u32 (leN (R4 T).2.2.data.toList : Int)) = W9 at *
  have HU10 := hide (HU.out _ _ _ _ J4.out)
  rw [show rtake T (R4 T).1 (R4 T).2.1 4 = R5 T from rfl] at HU10
  have X10 : Hid ((R5 T).2.2.data.toList.length ≤ 4) := sz4 T _ _ J4.out.p0
  go_upto_region 10 with (go_at_call 74; refine HU10.out.mono ?_; rintro r V10 ⟨rfl, j⟩; have JJ := hide j; clear j; obtain ⟨vv, c9⟩ := JJ.out.at 66 (by omega); have f9 := JJ.out.fz 66)
  have J5 := hide (JJ.out.sB _ X10.out)
  clear c9 f9 JJ J4 HU10 X10
  generalize V10.setCell ⟨w.heap.size + 1, 66, none⟩ (.int .u32 (leN (R5 T).2.2.data.toList : Int)) = W10 at *
  have HU11 := hide (HU.out _ _ _ _ J5.out)
  rw [show rtake T (R5 T).1 (R5 T).2.1 4 = R6 T from rfl] at HU11
  have X11 : Hid ((R6 T).2.2.data.toList.length ≤ 4) := sz4 T _ _ J5.out.p0
  go_upto_region 11 with (go_at_call 74; refine HU11.out.mono ?_; rintro r V11 ⟨rfl, j⟩; have JJ := hide j; clear j; obtain ⟨vv, c9⟩ := JJ.out.at 67 (by omega); have f9 := JJ.out.fz 67)
  have J6 := hide (JJ.out.sN _ X11.out)
  clear c9 f9 JJ J5 HU11 X11
  generalize V11.setCell ⟨w.heap.size + 1, 67, none⟩ (.int .u32 (leN (R6 T).2.2.data.toList : Int)) = W11 at *
  have HE := hide (rErr gr T _ _ _ J6.out.st)
  have RA := hide J6.out.r4
  have RB := hide J6.out.r6
  have B6 := hide J6.out.bel
  have FINAL : Hid ((80 ≤ T.size → (R6 T).2.1 = 0) ∧ (¬ 80 ≤ T.size → (R6 T).2.1 = 4)) := ⟨fun h => by rw [R6_ok T h], fun h => R6_bad T h⟩
  have TZ : T.data.toList.length = T.size := by simp
  by_cases h80 : 80 ≤ T.size
  · have e0 := FINAL.out.1 h80
    rw [e0] at HE
    have e1 : tkH (s.data.toList.drop k) = (({ zHd with ver := u32B (R1 T).2.2.data.toList, prev := hashOf (R2 T), hp := X7.out, root := hashOf (R3 T), hr := X8.out, time := u32B (R4 T).2.2.data.toList, bits := u32B (R5 T).2.2.data.toList, nonce := u32B (R6 T).2.2.data.toList } : Hd), 0) := by
      rw [← TL.out, tkH, dif_pos (by omega)]
      simp only [hdOf, R1_ok T (by omega), R2_ok T (by omega), R3_ok T (by omega), R4_ok T (by omega), R5_ok T (by omega), R6_ok T h80, hashOf, ext_mid, ne_eq, not_true_eq_false, if_false, List.drop_zero]
    obtain ⟨HK, hHK⟩ : ∃ HK : Hd, HK = ({ zHd with ver := u32B (R1 T).2.2.data.toList, prev := hashOf (R2 T), hp := X7.out, root := hashOf (R3 T), hr := X8.out, time := u32B (R4 T).2.2.data.toList, bits := u32B (R5 T).2.2.data.toList, nonce := u32B (R6 T).2.2.data.toList } : Hd) := ⟨_, rfl⟩
    have RC : Hid (W11.heap[w.heap.size + 1]? = some (.cells HK.cells.toArray 26 (0, 0))) := by rw [hHK]; exact J6.out.r6
    rw [← hHK] at e1
    have EV := hide e1
    have CZ := hide HK.size
    have CA := hide HK.all
    clear e1 hHK J6 RB FINAL TZ h80 e0 HU HH X7 X8 TL TS
    generalize hCK : HK.cells.toArray = CK at *
    have HCK := hide hCK
    clear hCK
    go_wp2_with (first | (go_at_call 76; refine HE.out.mono ?_; rintro r V12 ⟨rfl, h9⟩; subst V12) | ((with_reducible refine at_list ?_); first | refine wpList_loadS AHd _ rfl (w.heap.size + 1) rfl CK CZ.out 26 RC.out (by rfl) ?_ | refine wpList_storeA AHd rfl _ _ rfl w.heap.size CK CZ.out CA.out rfl rfl zHd.cells.toArray zHd.size 26 RA.out ?_))
    exact bodyPost_ret (v := .tuple #[.agg CK, .int .i64 0]) (resA2K AHd Tryz.results35 _ _ w.heap.size 26 _ CZ.out rfl (setRow_heap _ _ _ _ _ _ RA.out) _ rfl) rfl ⟨by rw [EV.out, HCK.out], below_setRow B6.out (Nat.le_refl _) _⟩
  · have e0 := FINAL.out.2 h80
    rw [e0] at HE
    have EV : Hid (tkH (s.data.toList.drop k) = (zHd, 4)) := by
      show _ = _
      rw [← TL.out, tkH, dif_neg (by omega)]
    clear J6 RB FINAL TZ h80 e0 HU HH X7 X8 TL TS
    go_wp2_with (first | (go_at_call 76; refine HE.out.mono ?_; rintro r V12 ⟨rfl, h9⟩; subst V12) | ((with_reducible refine at_list ?_); first | refine wpList_buildA AHd rfl rfl ?_ | refine wpList_storeA AHd rfl _ _ rfl w.heap.size zHd.cells.toArray zHd.size zHd.all rfl rfl zHd.cells.toArray zHd.size 26 RA.out ?_))
    exact bodyPost_ret (v := .tuple #[.agg zHd.cells.toArray, .int .i64 4]) (resA2K AHd Tryz.results35 _ _ w.heap.size 26 _ zHd.size rfl (setRow_heap _ _ _ _ _ _ RA.out) _ rfl) rfl ⟨by rw [EV.out], below_setRow B6.out (Nat.le_refl _) _⟩
theorem takeHead_any (s : ByteArray) (hs : s.size ≤ maxLen) (a : Int) (w : World) : Calls Tryz.prog 35 #[.string s, .int .i64 a] w fun e w' => e = .returned (.tuple #[.agg (tkA s a).1.cells.toArray, .int .i64 (tkA s a).2]) ∧ Below w.heap.size w w' := by
  by_cases h : a < 0 ∨ (s.size : Int) < a
  · rw [tkA, if_pos h]
    exact takeHead_no s a h w
  · rw [tkA, if_neg h]
    obtain ⟨k, rfl⟩ : ∃ k : Nat, a = (k : Int) := ⟨a.toNat, by omega⟩
    rw [Int.toNat_natCast]
    exact takeHead_yes s hs k (by omega) w
end
end Go.Proofs.YtpffaaalncdjcaaGreatDoor
