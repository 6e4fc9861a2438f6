/- block.TakeHead: its contract. The document's TakeHead: its contract. The walk of BlockHeads. -/
import Derived.Test.YtdkemnjkhclbkaaDoorY39
namespace Go.Proofs.YtdkemnjkhclbkaaDoor
open Go.RowKit
open Go.Deep
set_option linter.unusedVariables false
/-- The number that up to four bytes say. -/
def u32B (l : List UInt8) : UInt32 := UInt32.ofNat (leN l)
theorem u32B_nat (l : List UInt8) (h : l.length ≤ 4) : (u32B l).toNat = leN l := by
  have := leN_lt' l 4 4294967296 h rfl
  rw [u32B, UInt32.toNat_ofNat', Nat.mod_eq_of_lt this]
/-- The header that bytes say. -/
def hdOf (l : List UInt8) (h : 80 ≤ l.length) : Hd := ⟨u32B (l.take 4), (l.drop 4).take 32, (l.drop 36).take 32, u32B ((l.drop 68).take 4), u32B ((l.drop 72).take 4), u32B ((l.drop 76).take 4), by simp; omega, by simp; omega⟩
/-- The header at a place, and the error. -/
def tkH (l : List UInt8) : Hd × Int := if h : 80 ≤ l.length then (hdOf l h, 0) else (zHd, 4)
def tkA (s : ByteArray) (a : Int) : Hd × Int := if a < 0 ∨ (s.size : Int) < a then (zHd, 1) else tkH (s.data.toList.drop a.toNat)
theorem Hd.setV (h : Hd) (n : UInt32) : h.cells.toArray.setIfInBounds 0 (.int .u32 (n.toNat : Int)) = ({ h with ver := n } : Hd).cells.toArray := by
  rw [List.setIfInBounds_toArray]
  rfl
theorem Hd.setL (h : Hd) (j : Nat) (hj : j < 3) (v : Value) : h.cells.set (65 + j) v = .int .u32 (h.ver.toNat : Int) :: (cellsL h.prev ++ (cellsL h.root ++ [Value.int .u32 (h.time.toNat : Int), .int .u32 (h.bits.toNat : Int), .int .u32 (h.nonce.toNat : Int)].set j v)) := by
  have hl : (cellsL h.prev).length = 32 := by rw [cellsL_len, h.hp]
  have hm : (cellsL h.root).length = 32 := by rw [cellsL_len, h.hr]
  rw [Hd.cells, show 65 + j = (64 + j) + 1 by omega, List.set_cons_succ, List.set_append_right _ _ (by omega), hl, List.set_append_right _ _ (by omega), hm, show 64 + j - 32 - 32 = j by omega]
theorem Hd.setT (h : Hd) (n : UInt32) : h.cells.toArray.setIfInBounds 65 (.int .u32 (n.toNat : Int)) = ({ h with time := n } : Hd).cells.toArray := by
  rw [List.setIfInBounds_toArray, h.setL 0 (by omega)]
  rfl
theorem Hd.setB (h : Hd) (n : UInt32) : h.cells.toArray.setIfInBounds 66 (.int .u32 (n.toNat : Int)) = ({ h with bits := n } : Hd).cells.toArray := by
  rw [List.setIfInBounds_toArray, h.setL 1 (by omega)]
  rfl
theorem Hd.setN (h : Hd) (n : UInt32) : h.cells.toArray.setIfInBounds 67 (.int .u32 (n.toNat : Int)) = ({ h with nonce := n } : Hd).cells.toArray := by
  rw [List.setIfInBounds_toArray, h.setL 2 (by omega)]
  rfl
theorem Hd.setP {W : World} {g : Nat} {t : TypeId} (h : Hd) (l : List UInt8) (hl : l.length = 32) (e : W.heap[g]? = some (.cells h.cells.toArray t (0, 0))) : (W.setCells g 1 (cellsL l)).heap[g]? = some (.cells ({ h with prev := l, hp := hl } : Hd).cells.toArray t (0, 0)) :=
  row_setCells (cellsL h.root ++ [.int .u32 (h.time.toNat : Int), .int .u32 (h.bits.toNat : Int), .int .u32 (h.nonce.toNat : Int)]) g t (cellsL l) (cellsL h.prev) [.int .u32 (h.ver.toNat : Int)] W e (by rw [cellsL_len, cellsL_len, h.hp, hl])
theorem Hd.setR {W : World} {g : Nat} {t : TypeId} (h : Hd) (l : List UInt8) (hl : l.length = 32) (e : W.heap[g]? = some (.cells h.cells.toArray t (0, 0))) : (W.setCells g 33 (cellsL l)).heap[g]? = some (.cells ({ h with root := l, hr := hl } : Hd).cells.toArray t (0, 0)) := by
  have := row_setCells [.int .u32 (h.time.toNat : Int), .int .u32 (h.bits.toNat : Int), .int .u32 (h.nonce.toNat : Int)] g t (cellsL l) (cellsL h.root) (.int .u32 (h.ver.toNat : Int) :: cellsL h.prev) W e (by rw [cellsL_len, cellsL_len, h.hr, hl])
  rw [List.length_cons, cellsL_len, h.hp] at this
  exact this
theorem Hd.there {W : World} {g : Nat} {t : TypeId} (h : Hd) (e : W.heap[g]? = some (.cells h.cells.toArray t (0, 0))) (o n : Nat) (hn : o + n ≤ 68) : W.there g o n := fun j hj => by
  refine ⟨?_, frozen_of_row W g _ _ _ e⟩
  rw [cell_of_row _ _ _ _ _ _ e, Array.getElem?_eq_getElem (by rw [h.size]; omega)]
  rfl
/-- What is known of the world while a header is taken. -/
structure Tkh (w W : World) (g4 g6 gr : Nat) (s : ByteArray) (p e : Int) (h : Hd) : Prop where
  r4 : W.heap[g4]? = some (.cells zHd.cells.toArray 26 (0, 0))
  r6 : W.heap[g6]? = some (.cells h.cells.toArray 26 (0, 0))
  st : Rst W gr s p e
  bel : Below w.heap.size w W
  n46 : g4 ≠ g6
  n4r : g4 ≠ gr
  n6r : g6 ≠ gr
  l4 : w.heap.size ≤ g4
  l6 : w.heap.size ≤ g6
  lr : w.heap.size ≤ gr
  p0 : 0 ≤ p
  p1 : p ≤ s.size
section
variable {w W W' : World} {g4 g6 gr : Nat} {s : ByteArray} {p e : Int} {h : Hd}
theorem Tkh.step (t : Tkh w W g4 g6 gr s p e h) (n : Int) (q : Rst W' gr s (rtake s p e n).1 (rtake s p e n).2.1) (f : Rfr gr W W') : Tkh w W' g4 g6 gr s (rtake s p e n).1 (rtake s p e n).2.1 h :=
  ⟨(f.block _ (lt_heap t.r4) t.n4r).trans t.r4, (f.block _ (lt_heap t.r6) t.n6r).trans t.r6, q, t.bel.trans (f.to_below t.lr t.bel.size), t.n46, t.n4r, t.n6r, t.l4, t.l6, t.lr, (rtake_inv s p e n t.p0 t.p1).1, (rtake_inv s p e n t.p0 t.p1).2⟩
theorem Tkh.put (t : Tkh w W g4 g6 gr s p e h) (f : Rfr g6 W W') (k : Hd) (r : W'.heap[g6]? = some (.cells k.cells.toArray 26 (0, 0))) : Tkh w W' g4 g6 gr s p e k :=
  ⟨(f.block _ (lt_heap t.r4) t.n46).trans t.r4, r, (f.block _ t.st.lt (Ne.symm t.n6r)).trans t.st, t.bel.trans (f.to_below t.l6 t.bel.size), t.n46, t.n4r, t.n6r, t.l4, t.l6, t.lr, t.p0, t.p1⟩
end
theorem hashOf_len (s : ByteArray) (p e : Int) (h0 : 0 ≤ p) (h1 : p ≤ s.size) : (hashOf (rtake s p e 32)).length = 32 := by
  unfold hashOf
  split
  · exact zeros_len
  · rename_i h
    have h2 : (rtake s p e 32).2.1 = 0 := by simpa using h
    obtain ⟨-, -, -, h5, h6⟩ := rtake_ok s p e 32 h2
    rw [h6]
    simp
    omega
theorem rt_ok (s : ByteArray) (p n : Nat) (h : p + n ≤ s.size) : rtake s (p : Int) 0 (n : Int) = (((p + n : Nat) : Int), 0, s.extract p (p + n)) := by
  unfold rtake
  rw [if_neg (by decide), if_neg (by omega), if_neg (by omega)]
  simp only [Int.toNat_natCast, Int.natCast_add]
  rfl
theorem rt_bad (s : ByteArray) (p : Int) (e n : Int) (he : e ≠ 0) : rtake s p e n = (p, e, ⟨#[]⟩) := by
  unfold rtake
  rw [if_pos he]
theorem rt_cut (s : ByteArray) (p n : Nat) (h : ¬ p + n ≤ s.size) : rtake s (p : Int) 0 (n : Int) = ((p : Int), 4, ⟨#[]⟩) := by
  unfold rtake
  rw [if_neg (by decide), if_neg (by omega), if_pos (by omega)]
theorem ext_mid (s : ByteArray) (p q : Nat) : (s.extract p q).data.toList = (s.data.toList.drop p).take (q - p) := by
  rw [ByteArray.data_extract, Array.toList_extract]
/-! ### the six parts -/
def R1 (T : ByteArray) : Int × Int × ByteArray := rtake T 0 0 4
def R2 (T : ByteArray) : Int × Int × ByteArray := rtake T (R1 T).1 (R1 T).2.1 32
def R3 (T : ByteArray) : Int × Int × ByteArray := rtake T (R2 T).1 (R2 T).2.1 32
def R4 (T : ByteArray) : Int × Int × ByteArray := rtake T (R3 T).1 (R3 T).2.1 4
def R5 (T : ByteArray) : Int × Int × ByteArray := rtake T (R4 T).1 (R4 T).2.1 4
def R6 (T : ByteArray) : Int × Int × ByteArray := rtake T (R5 T).1 (R5 T).2.1 4
theorem R1_ok (T : ByteArray) (h : 4 ≤ T.size) : R1 T = (4, 0, T.extract 0 4) := rt_ok T 0 4 (by omega)
theorem R2_ok (T : ByteArray) (h : 36 ≤ T.size) : R2 T = (36, 0, T.extract 4 36) := by rw [R2, R1_ok T (by omega)]; exact rt_ok T 4 32 (by omega)
theorem R3_ok (T : ByteArray) (h : 68 ≤ T.size) : R3 T = (68, 0, T.extract 36 68) := by rw [R3, R2_ok T (by omega)]; exact rt_ok T 36 32 (by omega)
theorem R4_ok (T : ByteArray) (h : 72 ≤ T.size) : R4 T = (72, 0, T.extract 68 72) := by rw [R4, R3_ok T (by omega)]; exact rt_ok T 68 4 (by omega)
theorem R5_ok (T : ByteArray) (h : 76 ≤ T.size) : R5 T = (76, 0, T.extract 72 76) := by rw [R5, R4_ok T (by omega)]; exact rt_ok T 72 4 (by omega)
theorem R6_ok (T : ByteArray) (h : 80 ≤ T.size) : R6 T = (80, 0, T.extract 76 80) := by rw [R6, R5_ok T (by omega)]; exact rt_ok T 76 4 (by omega)
theorem bad_on (T : ByteArray) (R : Int × Int × ByteArray) (n : Int) (h : R.2.1 = 4) : (rtake T R.1 R.2.1 n).2.1 = 4 := by rw [rt_bad T R.1 R.2.1 n (by rw [h]; decide)]; exact h
theorem R6_bad (T : ByteArray) (h : ¬ 80 ≤ T.size) : (R6 T).2.1 = 4 := by
  have a1 : ¬ 4 ≤ T.size → (R1 T).2.1 = 4 := fun q => by rw [R1]; exact congrArg (·.2.1) (rt_cut T 0 4 (by omega))
  have a2 : ¬ 36 ≤ T.size → (R2 T).2.1 = 4 := fun q => by
    by_cases h4 : 4 ≤ T.size
    · rw [R2, R1_ok T h4]; exact congrArg (·.2.1) (rt_cut T 4 32 (by omega))
    · exact bad_on T (R1 T) 32 (a1 h4)
  have a3 : ¬ 68 ≤ T.size → (R3 T).2.1 = 4 := fun q => by
    by_cases h4 : 36 ≤ T.size
    · rw [R3, R2_ok T h4]; exact congrArg (·.2.1) (rt_cut T 36 32 (by omega))
    · exact bad_on T (R2 T) 32 (a2 h4)
  have a4 : ¬ 72 ≤ T.size → (R4 T).2.1 = 4 := fun q => by
    by_cases h4 : 68 ≤ T.size
    · rw [R4, R3_ok T h4]; exact congrArg (·.2.1) (rt_cut T 68 4 (by omega))
    · exact bad_on T (R3 T) 4 (a3 h4)
  have a5 : ¬ 76 ≤ T.size → (R5 T).2.1 = 4 := fun q => by
    by_cases h4 : 72 ≤ T.size
    · rw [R5, R4_ok T h4]; exact congrArg (·.2.1) (rt_cut T 72 4 (by omega))
    · exact bad_on T (R4 T) 4 (a4 h4)
  by_cases h4 : 76 ≤ T.size
  · rw [R6, R5_ok T h4]; exact congrArg (·.2.1) (rt_cut T 76 4 (by omega))
  · exact bad_on T (R5 T) 4 (a5 h4)
section
variable {w W : World} {g4 g6 gr : Nat} {s : ByteArray} {p e : Int} {h : Hd}
theorem Tkh.sV (t : Tkh w W g4 g6 gr s p e h) (X : List UInt8) (hX : X.length ≤ 4) : Tkh w (W.setCell ⟨g6, 0, none⟩ (.int .u32 (leN X : Int))) g4 g6 gr s p e { h with ver := u32B X } :=
  t.put (Rfr.setCell g6 W 0 _) _ (by rw [heap_setCell_same W g6 0 _ _ _ t.r6, ← u32B_nat X hX, h.setV])
theorem Tkh.sT (t : Tkh w W g4 g6 gr s p e h) (X : List UInt8) (hX : X.length ≤ 4) : Tkh w (W.setCell ⟨g6, 65, none⟩ (.int .u32 (leN X : Int))) g4 g6 gr s p e { h with time := u32B X } :=
  t.put (Rfr.setCell g6 W 65 _) _ (by rw [heap_setCell_same W g6 65 _ _ _ t.r6, ← u32B_nat X hX, h.setT])
theorem Tkh.sB (t : Tkh w W g4 g6 gr s p e h) (X : List UInt8) (hX : X.length ≤ 4) : Tkh w (W.setCell ⟨g6, 66, none⟩ (.int .u32 (leN X : Int))) g4 g6 gr s p e { h with bits := u32B X } :=
  t.put (Rfr.setCell g6 W 66 _) _ (by rw [heap_setCell_same W g6 66 _ _ _ t.r6, ← u32B_nat X hX, h.setB])
theorem Tkh.sN (t : Tkh w W g4 g6 gr s p e h) (X : List UInt8) (hX : X.length ≤ 4) : Tkh w (W.setCell ⟨g6, 67, none⟩ (.int .u32 (leN X : Int))) g4 g6 gr s p e { h with nonce := u32B X } :=
  t.put (Rfr.setCell g6 W 67 _) _ (by rw [heap_setCell_same W g6 67 _ _ _ t.r6, ← u32B_nat X hX, h.setN])
theorem Tkh.sP (t : Tkh w W g4 g6 gr s p e h) (l : List UInt8) (hl : l.length = 32) : Tkh w (W.setCells g6 1 (hc l).toList) g4 g6 gr s p e { h with prev := l, hp := hl } := by
  rw [show (hc l).toList = cellsL l by simp [hc]]
  exact t.put (Rfr.setCells g6 (cellsL l) 1 W) _ (h.setP l hl t.r6)
theorem Tkh.sR (t : Tkh w W g4 g6 gr s p e h) (l : List UInt8) (hl : l.length = 32) : Tkh w (W.setCells g6 33 (hc l).toList) g4 g6 gr s p e { h with root := l, hr := hl } := by
  rw [show (hc l).toList = cellsL l by simp [hc]]
  exact t.put (Rfr.setCells g6 (cellsL l) 33 W) _ (h.setR l hl t.r6)
theorem Tkh.at (t : Tkh w W g4 g6 gr s p e h) (i : Nat) (hi : i < 68) : ∃ v, W.cell? ⟨g6, i, none⟩ = some v := by
  have := (h.there t.r6 i 1 (by omega) 0 (by omega)).1
  exact Option.isSome_iff_exists.1 this
theorem Tkh.fz (t : Tkh w W g4 g6 gr s p e h) (i : Nat) : W.frozen? ⟨g6, i, none⟩ = false := frozen_of_row W g6 i _ _ t.r6
end
theorem sz4 (s : ByteArray) (p e : Int) (h0 : 0 ≤ p) : (rtake s p e 4).2.2.data.toList.length ≤ 4 := by
  have := rtake_size s p e 4 4 rfl h0
  simpa using this
section
set_option maxRecDepth 10000
set_option maxHeartbeats 4000000
end
end Go.Proofs.YtdkemnjkhclbkaaDoor
namespace Go.Proofs.YtdkemnjkhclbkaaDoor
open Go.RowKit
open Go.Deep
set_option linter.unusedVariables false
/-- Zeros, of which the first so many are laid over. -/
def layN (l : List UInt8) (j : Nat) : List UInt8 := l.take j ++ zeros.drop j
theorem layN_len (l : List UInt8) (hl : l.length = 32) (j : Nat) (hj : j ≤ 32) : (layN l j).length = 32 := by
  have := zeros_len
  simp [layN]
  omega
theorem layN_set (l : List UInt8) (hl : l.length = 32) (j : Nat) (hj : j < 32) (b : UInt8) (hb : l[j]'(by omega) = b) : (hc (layN l j)).setIfInBounds j (.int .u8 (b.toNat : Int)) = hc (layN l (j + 1)) := by
  subst hb
  have hz := zeros_len
  have e : (layN l j).set j (l[j]'(by omega)) = layN l (j + 1) := by
    unfold layN
    have h1 : (l.take j).length = j := by simp; omega
    rw [List.set_append_right _ _ (by omega), h1, Nat.sub_self, List.drop_eq_getElem_cons (show j < zeros.length by omega), List.set_cons_zero, ← List.take_append_getElem (show j < l.length by omega), List.append_assoc]
    rfl
  rw [← e, hc, hc, List.setIfInBounds_toArray, cellsL, cellsL, List.map_set]
section
set_option maxRecDepth 10000
set_option maxHeartbeats 4000000
end
end Go.Proofs.YtdkemnjkhclbkaaDoor
namespace Go.Proofs.YtdkemnjkhclbkaaDoor
open Go.RowKit
open Go.Deep
set_option linter.unusedVariables false
theorem leN_lowC (k n : Nat) (h : n < 256 ^ k) : leN (lowL n k) = n := by
  induction k generalizing n with
  | zero => simp [lowL, leN] at *; omega
  | succ k ih =>
    rw [lowL, leN, ih (n / 256) (by rw [Nat.pow_succ] at h; omega), UInt8.toNat_ofNat']
    omega
theorem u32_low (n : UInt32) : u32B (lowL n.toNat 4) = n := by
  rw [u32B, leN_lowC 4 n.toNat (by have := n.toNat_lt; omega), UInt32.ofNat_toNat]
theorem hdOf_bytes (h : Hd) (hl : 80 ≤ h.bytes.length) : hdOf h.bytes hl = h := by
  obtain ⟨v, p, r, t, b, o, hp, hr⟩ := h
  have e : (⟨v, p, r, t, b, o, hp, hr⟩ : Hd).bytes = lowL v.toNat 4 ++ (p ++ (r ++ (lowL t.toNat 4 ++ (lowL b.toNat 4 ++ lowL o.toNat 4)))) := by simp [Hd.bytes, Hd.front, List.append_assoc]
  generalize (⟨v, p, r, t, b, o, hp, hr⟩ : Hd).bytes = l at *
  have d4 : l.drop 4 = p ++ (r ++ (lowL t.toNat 4 ++ (lowL b.toNat 4 ++ lowL o.toNat 4))) := by rw [e]; exact List.drop_left' (lowL_len _ _)
  have d36 : l.drop 36 = r ++ (lowL t.toNat 4 ++ (lowL b.toNat 4 ++ lowL o.toNat 4)) := by rw [show 36 = 4 + 32 from rfl, ← List.drop_drop, d4]; exact List.drop_left' hp
  have d68 : l.drop 68 = lowL t.toNat 4 ++ (lowL b.toNat 4 ++ lowL o.toNat 4) := by rw [show 68 = 36 + 32 from rfl, ← List.drop_drop, d36]; exact List.drop_left' hr
  have d72 : l.drop 72 = lowL b.toNat 4 ++ lowL o.toNat 4 := by rw [show 72 = 68 + 4 from rfl, ← List.drop_drop, d68]; exact List.drop_left' (lowL_len _ _)
  have d76 : l.drop 76 = lowL o.toNat 4 := by rw [show 76 = 72 + 4 from rfl, ← List.drop_drop, d72]; exact List.drop_left' (lowL_len _ _)
  have t0 : l.take 4 = lowL v.toNat 4 := by rw [e]; exact List.take_left' (lowL_len _ _)
  have t4 : (l.drop 4).take 32 = p := by rw [d4]; exact List.take_left' hp
  have t36 : (l.drop 36).take 32 = r := by rw [d36]; exact List.take_left' hr
  have t68 : (l.drop 68).take 4 = lowL t.toNat 4 := by rw [d68]; exact List.take_left' (lowL_len _ _)
  have t72 : (l.drop 72).take 4 = lowL b.toNat 4 := by rw [d72]; exact List.take_left' (lowL_len _ _)
  have t76 : (l.drop 76).take 4 = lowL o.toNat 4 := by rw [d76]; exact List.take_of_length_le (by rw [lowL_len]; omega)
  simp only [hdOf, t0, t4, t36, t68, t72, t76, u32_low]
theorem tkA_back (h : Hd) (s : ByteArray) (hs : s.data.toList = 120 :: h.bytes) : tkA s 1 = (h, 0) := by
  have hz : s.size = 81 := by
    have h1 : s.data.toList.length = s.size := by simp
    rw [← h1, hs, List.length_cons, h.bytes_len]
  have e : s.data.toList.drop (1 : Int).toNat = h.bytes := by rw [hs]; rfl
  rw [tkA, if_neg (by omega), e, tkH, dif_pos (by rw [h.bytes_len]; omega), hdOf_bytes]
/-- A type's fields are those of a header. -/
structure FHd (t : TypeId) : Prop where
  ex : ∃ f0 f1 f2 f3 f4 f5, Tryd.prog.underlying t = some (.struct #[f0, f1, f2, f3, f4, f5]) ∧ (f0.name ≠ "_" ∧ f1.name ≠ "_" ∧ f2.name ≠ "_" ∧ f3.name ≠ "_" ∧ f4.name ≠ "_" ∧ f5.name ≠ "_") ∧ (f0.offset = 0 ∧ f1.offset = 1 ∧ f2.offset = 33 ∧ f3.offset = 65 ∧ f4.offset = 66 ∧ f5.offset = 67) ∧
    (Tryd.prog.underlying f0.type = some (.int .u32) ∧ Tryd.prog.underlying f3.type = some (.int .u32) ∧ Tryd.prog.underlying f4.type = some (.int .u32) ∧ Tryd.prog.underlying f5.type = some (.int .u32)) ∧ Tryd.prog.underlying f1.type = some (.array 32 5) ∧ Tryd.prog.underlying f2.type = some (.array 32 5) ∧ (∀ W, (sizeOf f1.type).run Tryd.prog W = .ok 32 W) ∧ (∀ W, (sizeOf f2.type).run Tryd.prog W = .ok 32 W)
  st : Tryd.prog.stoodInHeld t = false
theorem fh_api : FHd 26 := ⟨⟨_, _, _, _, _, _, Tryd.underlying26, ⟨by decide, by decide, by decide, by decide, by decide, by decide⟩, ⟨rfl, rfl, rfl, rfl, rfl, rfl⟩, ⟨Tryd.underlying22, Tryd.underlying22, Tryd.underlying22, Tryd.underlying22⟩, Tryd.underlying24, Tryd.underlying24, fun W => by kernel_rfl, fun W => by kernel_rfl⟩, by kernel_rfl⟩
theorem fh_ref : FHd 33 := ⟨⟨_, _, _, _, _, _, Tryd.underlying33, ⟨by decide, by decide, by decide, by decide, by decide, by decide⟩, ⟨rfl, rfl, rfl, rfl, rfl, rfl⟩, ⟨Tryd.underlying22, Tryd.underlying22, Tryd.underlying22, Tryd.underlying22⟩, Tryd.underlying23, Tryd.underlying23, fun W => by kernel_rfl, fun W => by kernel_rfl⟩, by kernel_rfl⟩
theorem Hd.prev_at (h : Hd) : h.cells.toArray.extract 1 (1 + 32) = (cellsL h.prev).toArray := by
  have hl : (cellsL h.prev).length = 32 := by rw [cellsL_len, h.hp]
  simp only [Hd.cells, List.extract_toArray, List.extract]
  simp [hl]
theorem Hd.root_at (h : Hd) : h.cells.toArray.extract 33 (33 + 32) = (cellsL h.root).toArray := by
  have hl : (cellsL h.prev).length = 32 := by rw [cellsL_len, h.hp]
  have hm : (cellsL h.root).length = 32 := by rw [cellsL_len, h.hr]
  simp only [Hd.cells, List.extract_toArray, List.extract]
  rw [show 33 = 32 + 1 from rfl, List.drop_succ_cons, ← hl, List.drop_left, show (cellsL h.prev).length + 1 + (cellsL h.prev).length - ((cellsL h.prev).length + 1) = (cellsL h.root).length by omega, List.take_left]
theorem eqHd {t : TypeId} (F : FHd t) (h : Hd) (W : World) : (Op.equalIn 10000 t (.agg h.cells.toArray) (.agg h.cells.toArray)).run Tryd.prog W = .ok true W := by
  obtain ⟨⟨f0, f1, f2, f3, f4, f5, hu, ⟨n0, n1, n2, n3, n4, n5⟩, ⟨o0, o1, o2, o3, o4, o5⟩, ⟨u0, u3, u4, u5⟩, u1, u2, s1, s2⟩, st⟩ := F
  have hf : Tryd.prog.fieldsOf t = #[f0, f1, f2, f3, f4, f5] := by simp [Program.fieldsOf, hu]
  refine (run_equalIn_struct W 9999 t _ _ (by rw [hf]; exact hu) st).trans ?_
  rw [hf]
  have c0 : h.cells.toArray[0]? = some (.int .u32 (h.ver.toNat : Int)) := by rw [List.getElem?_toArray]; exact h.get0
  have c3 : h.cells.toArray[65]? = some (.int .u32 (h.time.toNat : Int)) := by rw [List.getElem?_toArray]; exact h.getL 0
  have c4 : h.cells.toArray[66]? = some (.int .u32 (h.bits.toNat : Int)) := by rw [List.getElem?_toArray]; exact h.getL 1
  have c5 : h.cells.toArray[67]? = some (.int .u32 (h.nonce.toNat : Int)) := by rw [List.getElem?_toArray]; exact h.getL 2
  have e5 := eqF_cons (W := W) (d := 9999) (xs := h.cells.toArray) (ys := h.cells.toArray) n5 (part_cell u5 rfl (by rw [o5]; exact c5)) (part_cell u5 rfl (by rw [o5]; exact c5)) (run_equalIn_int W 9998 f5.type .u32 .u32 _ _ u5) (fs := []) (r2 := true) rfl
  have e4 := eqF_cons (W := W) (d := 9999) (xs := h.cells.toArray) (ys := h.cells.toArray) n4 (part_cell u4 rfl (by rw [o4]; exact c4)) (part_cell u4 rfl (by rw [o4]; exact c4)) (run_equalIn_int W 9998 f4.type .u32 .u32 _ _ u4) e5
  have e3 := eqF_cons (W := W) (d := 9999) (xs := h.cells.toArray) (ys := h.cells.toArray) n3 (part_cell u3 rfl (by rw [o3]; exact c3)) (part_cell u3 rfl (by rw [o3]; exact c3)) (run_equalIn_int W 9998 f3.type .u32 .u32 _ _ u3) e4
  have e2 := eqF_cons (W := W) (d := 9999) (xs := h.cells.toArray) (ys := h.cells.toArray) n2 (part_row u2 rfl (s2 W) (by rw [o2]; exact h.root_at)) (part_row u2 rfl (s2 W) (by rw [o2]; exact h.root_at)) (eqC_bytes h.root h.root 32 h.hr h.hr f2.type u2 9997 W) e3
  have e1 := eqF_cons (W := W) (d := 9999) (xs := h.cells.toArray) (ys := h.cells.toArray) n1 (part_row u1 rfl (s1 W) (by rw [o1]; exact h.prev_at)) (part_row u1 rfl (s1 W) (by rw [o1]; exact h.prev_at)) (eqC_bytes h.prev h.prev 32 h.hp h.hp f1.type u1 9997 W) e2
  have e0 := eqF_cons (W := W) (d := 9999) (xs := h.cells.toArray) (ys := h.cells.toArray) n0 (part_cell u0 rfl (by rw [o0]; exact c0)) (part_cell u0 rfl (by rw [o0]; exact c0)) (run_equalIn_int W 9998 f0.type .u32 .u32 _ _ u0) e1
  simpa using e0
section
variable {S : World → Prop} {ops : Array Oper} {o : Oper} {a : Act}
theorem yl_eqlB (hw : Region.wanted o (yielded ops a.tmps) = true) (t : TypeId) (x y : Operand) (t2 : TypeId) (ho : o.op = .binOp .eql t x y t2) (c d : Array Value) (hx : a.eval x = .agg c) (hy : a.eval y = .agg d) (hg : Tryd.prog.eqGuardType Tryd.prog.depth t = false)
    (v : Bool) (hr : ∀ W, (Op.equalIn 10000 t (.agg c) (.agg d)).run Tryd.prog W = .ok v W) : YieldsIf Tryd.prog ops S o (.bool v) a :=
  .inl ⟨hw, fun W _ => by
    unfold execOp
    simp only [ho, hx, hy, Sem.run_bind, run_eqGuard_agg (P := Tryd.prog) W .eql t x y c d hg, run_eql_struct, hr W, Result.andThen_ok, Sem.run_pure]⟩
end
section
set_option maxRecDepth 10000
set_option maxHeartbeats 8000000
end
end Go.Proofs.YtdkemnjkhclbkaaDoor
