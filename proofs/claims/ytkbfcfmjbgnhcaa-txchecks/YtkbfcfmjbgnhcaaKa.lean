/- Transactions: what they hold, their bytes; what it means that a part is taken off bytes. -/
import Derived.Test.YtkbfcfmjbgnhcaaQc
import Derived.Test.YtkbfcfmjbgnhcaaPc
namespace Go.Proofs.Ytkbfcfmjbgnhcaa
open Go.RowKit
open Go.Deep
set_option linter.unusedVariables false
/-- An input. -/
structure Ti where
  hash : List UInt8
  idx : UInt32
  key : ByteArray
  seq : UInt32
  hh : hash.length = 32
  deriving DecidableEq
/-- An output. -/
structure Tu where
  val : UInt64
  lock : ByteArray
  deriving DecidableEq
/-- A transaction. -/
structure Tm where
  ver : UInt32
  ins : List Ti
  outs : List Tu
  time : UInt32
  deriving DecidableEq
def Ti.cells (x : Ti) : List Value := cellsL x.hash ++ [.int .u32 (x.idx.toNat : Int), .string x.key, .int .u32 (x.seq.toNat : Int)]
def Tu.cells (x : Tu) : List Value := [.int .u64 (x.val.toNat : Int), .string x.lock]
theorem Ti.len (x : Ti) : x.cells.length = 35 := by simp [Ti.cells, cellsL_len, x.hh]
theorem Ti.one (x : Ti) : ∀ v ∈ x.cells, v.oneCell' = true := fun v hv => by
  simp only [Ti.cells, List.mem_cons, List.mem_append, List.not_mem_nil, or_false] at hv
  rcases hv with h | rfl | rfl | rfl
  · exact cellsL_one _ v h
  all_goals rfl
theorem Tu.one (x : Tu) : ∀ v ∈ x.cells, v.oneCell' = true := fun v hv => by
  simp only [Tu.cells, List.mem_cons, List.not_mem_nil, or_false] at hv
  rcases hv with rfl | rfl <;> rfl
def KA : Ek Ti := ⟨23, 48, 35, 64, Ti.cells, by decide, by decide, Try.underlying23, by kernel_rfl, Ti.len, Ti.one⟩
def KAr : Ek Ti := ⟨27, 50, 35, 64, Ti.cells, by decide, by decide, Try.underlying27, by kernel_rfl, Ti.len, Ti.one⟩
def KO : Ek Tu := ⟨24, 52, 2, 24, Tu.cells, by decide, by decide, Try.underlying24, by kernel_rfl, fun _ => rfl, Tu.one⟩
def KOr : Ek Tu := ⟨28, 53, 2, 24, Tu.cells, by decide, by decide, Try.underlying28, by kernel_rfl, fun _ => rfl, Tu.one⟩
/-! ### bytes -/
/-- A text with its count. -/
def txtL (x : ByteArray) : List UInt8 := countL x.size ++ x.data.toList
def Ti.bytes (x : Ti) : List UInt8 := x.hash ++ (lowL x.idx.toNat 4 ++ (txtL x.key ++ lowL x.seq.toNat 4))
def Tu.bytes (x : Tu) : List UInt8 := lowL x.val.toNat 8 ++ txtL x.lock
def insL (l : List Ti) : List UInt8 := (l.map Ti.bytes).flatten
def outsL (l : List Tu) : List UInt8 := (l.map Tu.bytes).flatten
def Tm.bytes (x : Tm) : List UInt8 := lowL x.ver.toNat 4 ++ ((countL x.ins.length ++ insL x.ins) ++ ((countL x.outs.length ++ outsL x.outs) ++ lowL x.time.toNat 4))
/-- What a transaction that is read keeps to. -/
def Ti.ok (x : Ti) : Prop := x.key.size ≤ 520
def Tu.ok (x : Tu) : Prop := x.lock.size ≤ 520
def Tm.ok (x : Tm) : Prop := (x.ins.length ≤ 4096 ∧ ∀ i ∈ x.ins, i.ok) ∧ (x.outs.length ≤ 4096 ∧ ∀ o ∈ x.outs, o.ok)
/-! ### parts that are taken -/
/-- From the place n, with the error e, a part was taken: x, the place n', the error e'. -/
structure Tk {α : Type} (enc : α → List UInt8) (ok : α → Prop) (t : ByteArray) (n : Nat) (e : Int) (x : α) (n' : Nat) (e' : Int) : Prop where
  lo : n ≤ n'
  hi : n' ≤ t.size
  sound : e' = 0 → e = 0 ∧ t.data.toList.drop n = enc x ++ t.data.toList.drop n' ∧ ok x ∧ n' ≤ 4096
  full : ∀ y Y, e = 0 → ok y → t.data.toList.drop n = enc y ++ Y → n + (enc y).length ≤ 4096 → e' = 0 ∧ x = y ∧ n' = n + (enc y).length
section
variable {α β : Type} {enc : α → List UInt8} {ok : α → Prop} {encB : β → List UInt8} {okB : β → Prop} {t : ByteArray} {n n1 n2 : Nat} {e e1 e2 : Int} {x : α} {y : β}
theorem Tk.seq (a : Tk enc ok t n e x n1 e1) (b : Tk encB okB t n1 e1 y n2 e2) : Tk (fun p : α × β => enc p.1 ++ encB p.2) (fun p => ok p.1 ∧ okB p.2) t n e (x, y) n2 e2 := by
  refine ⟨Nat.le_trans a.lo b.lo, b.hi, fun h => ?_, ?_⟩
  · obtain ⟨h1, h2, h3, h4⟩ := b.sound h
    obtain ⟨g1, g2, g3, g4⟩ := a.sound h1
    exact ⟨g1, by rw [g2, h2, List.append_assoc], ⟨g3, h3⟩, h4⟩
  · rintro ⟨y1, y2⟩ Y he ⟨o1, o2⟩ hd hl
    simp only at hd hl o1 o2 ⊢
    rw [List.append_assoc] at hd
    rw [List.length_append] at hl ⊢
    obtain ⟨g1, rfl, g3⟩ := a.full y1 _ he o1 hd (by omega)
    have hd2 : t.data.toList.drop n1 = encB y2 ++ Y := by rw [g3, ← List.drop_drop, hd, List.drop_left]
    obtain ⟨h1, rfl, h3⟩ := b.full y2 Y g1 o2 hd2 (by omega)
    exact ⟨h1, rfl, by omega⟩
theorem Tk.conv (a : Tk enc ok t n e x n1 e1) (f : α → β) (h1 : ∀ z, ok z → encB (f z) = enc z) (h2 : ∀ z, ok z → okB (f z)) (h3 : ∀ y, okB y → ∃ z, f z = y ∧ ok z) : Tk encB okB t n e (f x) n1 e1 := by
  refine ⟨a.lo, a.hi, fun h => ?_, fun y Y he ho hd hl => ?_⟩
  · obtain ⟨g1, g2, g3, g4⟩ := a.sound h
    exact ⟨g1, by rw [h1 _ g3]; exact g2, h2 _ g3, g4⟩
  · obtain ⟨z, rfl, oz⟩ := h3 y ho
    rw [h1 _ oz] at hd hl ⊢
    obtain ⟨g1, rfl, g3⟩ := a.full z Y he oz hd hl
    exact ⟨g1, rfl, g3⟩
theorem Tk.nil (hn : n ≤ t.size) (h0 : e = 0 → n ≤ 4096) : Tk (fun l : List α => (l.map enc).flatten) (fun l => l.length = 0 ∧ ∀ z ∈ l, ok z) t n e [] n e := by
  refine ⟨Nat.le_refl _, hn, fun h => ⟨h, rfl, ⟨rfl, fun z hz => by cases hz⟩, h0 h⟩, fun l Y he ho hd hl => ?_⟩
  have : l = [] := List.eq_nil_of_length_eq_zero ho.1
  subst this
  exact ⟨he, rfl, rfl⟩
theorem Tk.snoc {L : List α} {i : Nat} (a : Tk (fun l : List α => (l.map enc).flatten) (fun l => l.length = i ∧ ∀ z ∈ l, ok z) t n e L n1 e1) (b : Tk enc ok t n1 e1 x n2 e2) : Tk (fun l : List α => (l.map enc).flatten) (fun l => l.length = i + 1 ∧ ∀ z ∈ l, ok z) t n e (L ++ [x]) n2 e2 := by
  refine (a.seq b).conv (fun p => p.1 ++ [p.2]) (fun z _ => by simp) (fun z hz => ⟨by simp [hz.1.1], fun u hu => ?_⟩) (fun y hy => ?_)
  · rcases List.mem_append.1 hu with h | h
    · exact hz.1.2 u h
    · rw [List.mem_singleton.1 h]; exact hz.2
  · have hne : y ≠ [] := fun h => by rw [h] at hy; simp at hy
    refine ⟨(y.dropLast, y.getLast hne), List.dropLast_concat_getLast hne, ⟨by simp [hy.1], fun z hz => hy.2 z (List.dropLast_subset _ hz)⟩, hy.2 _ (List.getLast_mem hne)⟩
/-- A list, behind its count, taken to its end. -/
theorem Tk.list {L : List α} {c most : Nat} (a : Tk countL (fun k => k ≤ most) t n e c n1 e1) (b : Tk (fun l : List α => (l.map enc).flatten) (fun l => l.length = c ∧ ∀ z ∈ l, ok z) t n1 e1 L n2 e2) : Tk (fun l : List α => countL l.length ++ (l.map enc).flatten) (fun l => l.length ≤ most ∧ ∀ z ∈ l, ok z) t n e L n2 e2 := by
  refine ⟨Nat.le_trans a.lo b.lo, b.hi, fun h => ?_, fun l Y he ho hd hl => ?_⟩
  · obtain ⟨h1, h2, h3, h4⟩ := b.sound h
    obtain ⟨g1, g2, g3, g4⟩ := a.sound h1
    exact ⟨g1, by rw [g2, h2, List.append_assoc, h3.1], ⟨by rw [h3.1]; exact g3, h3.2⟩, h4⟩
  · rw [List.append_assoc] at hd
    rw [List.length_append] at hl ⊢
    obtain ⟨g1, g2, g3⟩ := a.full l.length _ he ho.1 hd (by omega)
    have hd2 : t.data.toList.drop n1 = (l.map enc).flatten ++ Y := by rw [g3, ← List.drop_drop, hd, List.drop_left]
    obtain ⟨h1, h2, h3⟩ := b.full l Y g1 ⟨g2.symm, ho.2⟩ hd2 (by omega)
    exact ⟨h1, h2, by omega⟩
/-- .. left at an error in its midst. -/
theorem Tk.left {L : List α} {c most i : Nat} (a : Tk countL (fun k => k ≤ most) t n e c n1 e1) (b : Tk (fun l : List α => (l.map enc).flatten) (fun l => l.length = i ∧ ∀ z ∈ l, ok z) t n1 e1 L n2 e2) (hi : i ≤ c) (hne : e2 ≠ 0) : Tk (fun l : List α => countL l.length ++ (l.map enc).flatten) (fun l => l.length ≤ most ∧ ∀ z ∈ l, ok z) t n e [] n2 e2 := by
  refine ⟨Nat.le_trans a.lo b.lo, b.hi, fun h => absurd h hne, fun l Y he ho hd hl => ?_⟩
  exfalso
  rw [List.append_assoc] at hd
  rw [List.length_append] at hl
  obtain ⟨g1, g2, g3⟩ := a.full l.length _ he ho.1 hd (by omega)
  have hd2 : t.data.toList.drop n1 = (l.map enc).flatten ++ Y := by rw [g3, ← List.drop_drop, hd, List.drop_left]
  have hs : (l.map enc).flatten = ((l.take i).map enc).flatten ++ ((l.drop i).map enc).flatten := by
    rw [← List.flatten_append, ← List.map_append, List.take_append_drop]
  have hsl := congrArg List.length hs
  rw [List.length_append] at hsl
  rw [hs, List.append_assoc] at hd2
  obtain ⟨h1, _, _⟩ := b.full (l.take i) _ g1 ⟨by rw [List.length_take]; omega, fun z hz => ho.2 z (List.mem_of_mem_take hz)⟩ hd2 (by omega)
  exact hne h1
end
end Go.Proofs.Ytkbfcfmjbgnhcaa
