/- Bytes at blocks; the contract of wide.Text. -/
import Derived.Test.YtmfpnlnhebjelaaZr
namespace Go.Proofs.Ytmfpnlnhebjelaa
open Go.RowKit
open Go.Deep
/-- Bytes as cells. -/
def bc (k : Nat) (f : Nat → Nat) : Array Value := ((List.range k).map fun i => Value.int .u8 ((f i : Nat) : Int)).toArray
theorem bc_size (k : Nat) (f : Nat → Nat) : (bc k f).size = k := by simp [bc]
theorem bc_at (k : Nat) (f : Nat → Nat) (i : Nat) (hi : i < k) : (bc k f)[i]? = some (.int .u8 ((f i : Nat) : Int)) := by
  simp [bc, hi]
/-- Bytes at block g. -/
def Nb (W : World) (g : Nat) (t : TypeId) (k : Nat) (f : Nat → Nat) : Prop := W.rowIs g t k (fun i => .int .u8 ((f i : Nat) : Int))
section
variable {W W' : World} {g : Nat} {t : TypeId} {k : Nat} {f : Nat → Nat}
theorem Nb.heap (h : Nb W g t k f) : W.heap[g]? = some (.cells (bc k f) t (0, 0)) := of_row (bc_size k f) h (fun i hi => bc_at k f i hi)
theorem Nb.of_heap (h : W.heap[g]? = some (.cells (bc k f) t (0, 0))) : Nb W g t k f := row_of (bc_size k f) h (fun i hi => bc_at k f i hi)
theorem Nb.lt (h : Nb W g t k f) : g < W.heap.size := World.rowIs.lt h
theorem Nb.of_block (h : Nb W g t k f) (e : W'.heap[g]? = W.heap[g]?) : Nb W' g t k f := World.rowIs.of_block h e
theorem Nb.fz (h : Nb W g t k f) (i : Nat) : W.frozen? ⟨g, i, none⟩ = false := World.rowIs.frozen h i
theorem Nb.cell (h : Nb W g t k f) {i : Nat} (hi : i < k) : W.cell? ⟨g, i, none⟩ = some (.int .u8 ((f i : Nat) : Int)) := World.rowIs.cell h hi
theorem Nb.set (h : Nb W g t k f) (i x : Nat) : Nb (W.setCell ⟨g, i, none⟩ (.int .u8 ((x : Nat) : Int))) g t k (fun j => if j = i then x else f j) := by
  refine (World.rowIs.set h i _).congr (fun j hj => ?_)
  by_cases e : j = i <;> simp [e]
theorem Nb.congr (h : Nb W g t k f) {f' : Nat → Nat} (e : ∀ i, i < k → f i = f' i) : Nb W g t k f' := World.rowIs.congr h (fun i hi => by rw [e i hi])
theorem Nb.other (h : Nb W g t k f) {b : Nat} (hb : b ≠ g) (i : Nat) (v : Value) : Nb (W.setCell ⟨b, i, none⟩ v) g t k f := h.of_block (Below.heap_setCell _ _ _ _ (Ne.symm hb))
theorem Nb.row (h : Nb W g t k f) {b : Nat} (hb : b ≠ g) (c : Array Value) : Nb (W.setRow b c) g t k f := h.of_block (setRow_other W b g c (Ne.symm hb))
theorem Nb.below (h : Nb W g t k f) (b : Below W.heap.size W W') : Nb W' g t k f := h.of_block (b.block _ h.lt)
end
/-- The decimal digits of a number, as bytes. -/
def txt (m k : Nat) : ByteArray := ⟨((List.range k).map fun j => UInt8.ofNat (48 + dg 10 m (k - 1 - j))).toArray⟩
/-- How many digits a number has, by as many steps as f at most. -/
def ndg : Nat → Nat → Nat
  | 0, _ => 1
  | f + 1, m => if m < 10 then 1 else ndg f (m / 10) + 1
def nd (m : Nat) : Nat := ndg m m
theorem ndg_spec : ∀ f m, m ≤ f → 1 ≤ ndg f m ∧ m < 10 ^ ndg f m ∧ (ndg f m = 1 ∨ 10 ^ (ndg f m - 1) ≤ m)
  | 0, m, h => by
    rw [ndg]
    exact ⟨Nat.le_refl _, by omega, .inl rfl⟩
  | f + 1, m, h => by
    rw [ndg]
    split
    · exact ⟨Nat.le_refl _, by omega, .inl rfl⟩
    · rename_i h10
      obtain ⟨h1, h2, h3⟩ := ndg_spec f (m / 10) (by omega)
      generalize ndg f (m / 10) = k at *
      refine ⟨by omega, by rw [Nat.pow_succ]; omega, .inr ?_⟩
      rw [Nat.add_sub_cancel]
      rcases h3 with rfl | h3
      · omega
      · obtain ⟨j, rfl⟩ : ∃ j, k = j + 1 := ⟨k - 1, by omega⟩
        rw [Nat.add_sub_cancel] at h3
        rw [Nat.pow_succ]
        omega
theorem nd_spec (m : Nat) : 1 ≤ nd m ∧ m < 10 ^ nd m ∧ (nd m = 1 ∨ 10 ^ (nd m - 1) ≤ m) := ndg_spec m m (Nat.le_refl _)
theorem nd_unique (m k : Nat) (h1 : 1 ≤ k) (h2 : m < 10 ^ k) (h3 : k = 1 ∨ 10 ^ (k - 1) ≤ m) : k = nd m := by
  obtain ⟨a1, a2, a3⟩ := nd_spec m
  rcases Nat.lt_trichotomy k (nd m) with h | h | h
  · rcases a3 with a3 | a3
    · omega
    · have : 10 ^ k ≤ 10 ^ (nd m - 1) := Nat.pow_le_pow_right (by decide) (by omega)
      omega
  · exact h
  · rcases h3 with h3 | h3
    · omega
    · have : 10 ^ nd m ≤ 10 ^ (k - 1) := Nat.pow_le_pow_right (by decide) (by omega)
      omega
theorem nd_78 (m : Nat) (hm : m < M) : nd m ≤ 78 := by
  obtain ⟨a1, a2, a3⟩ := nd_spec m
  rcases Nat.lt_or_ge 78 (nd m) with h | h
  · rcases a3 with a3 | a3
    · omega
    · have h1 : 10 ^ 78 ≤ 10 ^ (nd m - 1) := Nat.pow_le_pow_right (by decide) (by omega)
      have h2 : M < 10 ^ 78 := by decide +kernel
      omega
  · exact h
/-- What Text has laid down behind k digits. -/
def tf (m k i : Nat) : Nat := if 78 ≤ i + k then 48 + dg 10 m (77 - i) else 0
theorem tf_step (m k i j : Nat) (h : i + k + 1 = 78) (hj : j < 78) : (if j = i then 48 + m / 10 ^ k % 10 else tf m k j) = tf m (k + 1) j := by
  unfold tf
  by_cases e : j = i
  · rw [if_pos e, if_pos (by omega), show 77 - j = k by omega]
    rfl
  · rw [if_neg e]
    by_cases e2 : 78 ≤ j + k
    · rw [if_pos e2, if_pos (by omega)]
    · rw [if_neg e2, if_neg (by omega)]
theorem conv_bytes (w : World) (g off n cap : Nat) (f : Nat → Nat) (hf : ∀ j, j < n → f j < 256) (h : ∀ j, j < n → w.cell? ⟨g, off + j, none⟩ = some (.int .u8 ((f j : Nat) : Int))) :
    (convert 72 9 (.slice (some ⟨g, off, none⟩) n cap)).run Try.prog w = .ok (.string ⟨((List.range n).map fun j => UInt8.ofNat (f j)).toArray⟩) w := by
  have := run_convert_bytes_back (P := Try.prog) w 72 9 5 ⟨g, off, none⟩ cap ((List.range n).map fun j => UInt8.ofNat (f j)) Try.underlying72 Try.underlying5 Try.underlying9 (fun j hj => by
    have hadd : (⟨g, off, none⟩ : Addr).add j = ⟨g, off + j, none⟩ := by unfold Addr.add; split <;> simp_all
    have hj' : j < n := by simpa using hj
    rw [hadd, h j hj']
    have := hf j hj'
    simp
    omega)
  simpa using this
theorem A78 : Arr 68 78 (bc 78 (fun _ => 0)) := ⟨.inl ⟨_, _, Try.underlying68⟩, by kernel_rfl, fun w => by kernel_rfl, fun w => by kernel_rfl, bc_size 78 _⟩
end Go.Proofs.Ytmfpnlnhebjelaa
