/- Lists of elements of any kind in memory: read, made, appended to. -/
import Derived.Test.YtkbfcfmjbgnhcaaB0
import Derived.Test.YtkbfcfmjbgnhcaaG0
import Derived.Great.BuildSlice
import Derived.Deep.MidRow
namespace Go.Proofs.Ytkbfcfmjbgnhcaa
open Go.RowKit
open Go.Deep
/-- A kind of elements: the type of a slice of such, their type, how many cells and bytes each has, and its cells. -/
structure Ek (α : Type) where
  t : TypeId
  e : TypeId
  k : Nat
  b : Nat
  enc : α → List Value
  kpos : 0 < k
  k24 : k ≤ 16777216
  sl : Try.prog.underlying t = some (.slice e)
  inf : (Try.prog.info? e).map (fun i => (i.zero.map (·.cells.size), i.size, i.bytes)) = some (some k, k, b)
  len : ∀ x, (enc x).length = k
  one : ∀ x, ∀ v ∈ enc x, v.oneCell' = true
section
variable {α : Type} (E : Ek α)
def flatE (L : List α) : List Value := (L.map E.enc).flatten
theorem flatE_nil : flatE E [] = [] := rfl
theorem flatE_cons (a : α) (L : List α) : flatE E (a :: L) = E.enc a ++ flatE E L := by simp [flatE]
theorem flatE_len (L : List α) : (flatE E L).length = L.length * E.k := by
  induction L with
  | nil => simp [flatE_nil]
  | cons a r ih => rw [flatE_cons, List.length_append, E.len, ih, List.length_cons, Nat.add_mul]; omega
theorem flatE_app (A B : List α) : flatE E (A ++ B) = flatE E A ++ flatE E B := by simp [flatE]
theorem flatE_one (a : α) : flatE E [a] = E.enc a := by simp [flatE]
theorem flatE_at (L : List α) : ∀ (i : Nat) (h : i < L.length), ∀ j, j < E.k → (flatE E L)[i * E.k + j]? = (E.enc L[i])[j]? := by
  induction L with
  | nil => intro i hi; simp at hi
  | cons a r ih =>
    intro i hi j hj
    have ha := E.len a
    rcases i with _ | i
    · rw [flatE_cons, List.getElem?_append_left (by omega)]
      simp
    · rw [flatE_cons, List.getElem?_append_right (by rw [Nat.add_mul]; omega), ha, show (i + 1) * E.k + j - E.k = i * E.k + j by rw [Nat.add_mul]; omega, ih i (by simpa using hi) j hj]
      rfl
theorem flatE_cell (L : List α) : ∀ v ∈ flatE E L, v.oneCell' = true := by
  intro v hv
  simp only [flatE, List.mem_flatten, List.mem_map] at hv
  obtain ⟨_, ⟨x, _, rfl⟩, hv⟩ := hv
  exact E.one x v hv
theorem Ek.parts : ∃ i z, Try.prog.info? E.e = some i ∧ i.zero = some z ∧ z.cells.size = E.k ∧ i.size = E.k ∧ i.bytes = E.b := by
  have h := E.inf
  cases hi : Try.prog.info? E.e with
  | none => rw [hi] at h; cases h
  | some i =>
    rw [hi] at h
    simp only [Option.map_some, Option.some.injEq, Prod.mk.injEq] at h
    obtain ⟨h1, h2, h3⟩ := h
    cases hz : i.zero with
    | none => rw [hz] at h1; cases h1
    | some z =>
      rw [hz] at h1
      exact ⟨i, z, rfl, hz, by simpa using h1, h2, h3⟩
/-- A slice that holds elements. -/
def LX (w : World) (v : Value) (L : List α) : Prop := ∃ ao cap, v = .slice ao L.length cap ∧ L.length ≤ cap ∧ ∀ (i : Nat) (h : i < L.length), ∃ g off, ao = some ⟨g, off, none⟩ ∧ g < w.heap.size ∧ w.rangeAt g (off + i * E.k) (E.enc L[i])
/-- A slice of the program's own making that holds elements. -/
def OX (w : World) (v : Value) (L : List α) : Prop := w.ownsRow 0 E.e E.k v L.length (flatE E L)
end
theorem rangeX_below {w W : World} {B g off : Nat} {cs : List Value} (hr : w.rangeAt g off cs) (hb : Below B w W) (hg : g < B) : W.rangeAt g off cs := fun j v hv => by
  have := hr j v hv
  rw [← this]
  exact hb.cell (p := ⟨g, off + j, none⟩) hg
section
variable {α : Type} {E : Ek α} {w W : World} {v : Value} {L : List α}
theorem LX.below (h : LX E w v L) (hb : Below w.heap.size w W) : LX E W v L := by
  obtain ⟨ao, cap, rfl, h2, h3⟩ := h
  refine ⟨ao, cap, rfl, h2, fun i hi => ?_⟩
  obtain ⟨g, off, e, hg, hr⟩ := h3 i hi
  exact ⟨g, off, e, Nat.lt_of_lt_of_le hg hb.size, rangeX_below hr hb hg⟩
theorem LX.form (h : LX E w v L) : ∃ ao cap, v = .slice ao L.length cap := by
  obtain ⟨ao, cap, e, _⟩ := h
  exact ⟨ao, cap, e⟩
theorem LX.base {ao : Option Addr} {n cap : Nat} (h : LX E w (.slice ao n cap) L) (h0 : 0 < L.length) : ∃ g off, ao = some ⟨g, off, none⟩ := by
  obtain ⟨_, _, e, _, h3⟩ := h
  injection e with e1
  obtain ⟨g, off, e2, _⟩ := h3 0 h0
  exact ⟨g, off, e1.trans e2⟩
theorem LX.range {g off n cap : Nat} (h : LX E w (.slice (some ⟨g, off, none⟩) n cap) L) (i : Nat) (hi : i < L.length) : w.rangeAt g (off + i * E.k) (E.enc L[i]) := by
  obtain ⟨_, _, e, _, h3⟩ := h
  injection e with e1
  subst e1
  obtain ⟨g', off', e2, _, hc⟩ := h3 i hi
  cases e2
  exact hc
theorem LX.lt {g off n cap : Nat} (h : LX E w (.slice (some ⟨g, off, none⟩) n cap) L) (h0 : 0 < L.length) : g < w.heap.size := by
  obtain ⟨_, _, e, _, h3⟩ := h
  injection e with e1
  subst e1
  obtain ⟨g', off', e2, hg, _⟩ := h3 0 h0
  cases e2
  exact hg
theorem LX.nil (w : World) : LX E w (.slice none 0 0) [] := ⟨none, 0, rfl, Nat.le_refl _, fun i hi => by simp at hi⟩
theorem OX.nil (w : World) : OX E w (.slice none 0 0) [] := World.ownsRow_nil _ _ _ _
theorem OX.form (h : OX E w v L) : ∃ ao c, v = .slice ao L.length c := by
  rcases h.2 with ⟨rfl, h0⟩ | ⟨g, cap, cur, rfl, _⟩
  · exact ⟨none, 0, by rw [h0]⟩
  · exact ⟨_, _, rfl⟩
theorem OX.of_block (h : OX E w v L) (hb : ∀ g, v.ownBlock = some g → W.heap[g]? = w.heap[g]?) : OX E W v L := by
  obtain ⟨h2, h3⟩ := h
  refine ⟨h2, ?_⟩
  rcases h3 with ⟨rfl, h0⟩ | ⟨g, cap, cur, rfl, h4, hg, h5⟩
  · exact .inl ⟨rfl, h0⟩
  · exact .inr ⟨g, cap, cur, rfl, h4, (hb g rfl).trans hg, h5⟩
theorem OX.lt (h : OX E w v L) : ∀ g, v.ownBlock = some g → g < w.heap.size := by
  intro g hg
  rcases h.2 with ⟨rfl, h0⟩ | ⟨g', cap, cur, rfl, h4, hb, h5⟩
  · cases hg
  · cases hg
    exact lt_heap hb
theorem OX.below (h : OX E w v L) (hb : Below w.heap.size w W) : OX E W v L := h.of_block fun g hg => hb.block _ (h.lt g hg)
theorem OX.read (h : OX E w v L) : LX E w v L := by
  obtain ⟨h2, h3⟩ := h
  rcases h3 with ⟨rfl, h0⟩ | ⟨g, cap, cur, rfl, hb, hg, hn, hm, hsz, ht⟩
  · exact ⟨none, 0, by rw [h0], by omega, fun i hi => by omega⟩
  · refine ⟨_, cap, rfl, hn, fun i hi => ⟨g, 0, rfl, lt_heap hg, fun j u hu => ?_⟩⟩
    have hj : j < E.k := by
      have := (List.getElem?_eq_some_iff.1 hu).1
      rw [E.len] at this
      exact this
    rw [cell_of_row w g _ cur E.e (0, 0) hg, ← Array.getElem?_toList]
    have e2 := flatE_at E L i hi j hj
    rw [hu, ← ht, List.getElem?_take] at e2
    have hlt : i * E.k + E.k ≤ L.length * E.k := by
      have := Nat.mul_le_mul_right E.k (show i + 1 ≤ L.length by omega)
      rw [Nat.add_mul] at this
      omega
    rw [if_pos (by omega)] at e2
    rw [show 0 + i * E.k + j = i * E.k + j by omega]
    exact e2
/-- The load of an element out of memory. -/
theorem Ek.load {W : World} {g off : Nat} (x : α) {kd : TypeDesc} (hu : Try.prog.underlying E.e = some kd) (hk : kd.isRow = true) (hr : W.rangeAt g off (E.enc x)) : (Instr.loadAt E.e (.pointer (some ⟨g, off, none⟩))).run Try.prog W = .ok (.agg (E.enc x).toArray) W := by
  obtain ⟨i, z, hi, _, _, hs, _⟩ := E.parts
  exact run_loadAt_mid W g off E.e _ _ hr hu hk (by rw [hi, E.len]; simp [hs])
/-- An append of elements. -/
theorem Ek.app {ty : TypeId} (hown : OX E w v L) (ad : Addr) (m c : Nat) (N : List α) (hm : m = N.length) (hnews : ∀ j u, (flatE E N)[j]? = some u → w.cell? (ad.add j) = some u)
    (hsm : (L.length + m) * E.b ≤ 140737488355328) (h63 : L.length + m ≤ maxLen) :
    ∃ v' w', (Builtin.append_ #[E.t, E.t] ty #[v, .slice (some ad) m c]).run Try.prog w = .ok v' w' ∧ OX E w' v' (L ++ N) ∧ Onto w w' v v' := by
  obtain ⟨i0, z, hi, hz0, hzs, hz1, hz2⟩ := E.parts
  obtain ⟨v', w', hr, h2, h3, _, h5⟩ := run_append_own_at (P := Try.prog) w 0 E.t ty E.e i0 z E.k E.b E.sl hi hz0 hz1 hz2 hzs E.kpos v L.length (flatE E L) hown ad m c (flatE E N) (by rw [flatE_len, hm]) hnews
    (flatE_cell E N) h63 hsm (Nat.zero_le _)
  refine ⟨v', w', hr, ?_, ⟨h3, ?_⟩⟩
  · unfold OX
    rw [List.length_append, flatE_app, ← hm]
    exact h2
  · rcases h5 with h5 | h5
    · exact .inl h5
    · exact .inr ⟨_, h5, Nat.le_refl _⟩
/-- A slice of one element. -/
theorem Ek.bs1 (w : World) (x : α) : (Instr.buildSlice E.t 1 #[(0, .agg (E.enc x).toArray)]).run Try.prog w = .ok (.slice (some ⟨w.heap.size, 0, none⟩) 1 1) (w.alloc (.cells (E.enc x).toArray E.e)) := by
  obtain ⟨i, z, hi, hz, hzs, hs, _⟩ := E.parts
  have hk := E.kpos
  have hcs : (Value.agg (E.enc x).toArray).cells.size = E.k := by
    show (E.enc x).toArray.size = E.k
    rw [List.size_toArray, E.len]
  obtain ⟨r, hr, hrs, hk⟩ := Great.fill_dense (s := E.k) E.kpos [Value.agg (E.enc x).toArray] 0 ((Array.range (1 * E.k)).map (z.cells[· % z.cells.size]!)) (fun v hv => by simp at hv; rw [hv]; exact hcs) (by simp)
  have e1 : r = (E.enc x).toArray := by
    apply Array.ext
    · rw [hrs, show (E.enc x).toArray.size = E.k by rw [List.size_toArray, E.len]]; simp
    · intro k h1 h2
      have hk1 : k < E.k := by rw [List.size_toArray, E.len] at h2; exact h2
      have := hk k
      rw [if_pos ⟨by omega, by simp; omega⟩, Array.getElem?_eq_getElem h1, show k / E.k - 0 = 0 by rw [Nat.div_eq_of_lt hk1], Nat.mod_eq_of_lt hk1] at this
      simp only [List.getElem?_cons_zero, Option.bind_some] at this
      rw [show (Value.agg (E.enc x).toArray).cells = (E.enc x).toArray from rfl, Array.getElem?_eq_getElem h2] at this
      exact Option.some.inj this
  rw [e1] at hr
  refine run_buildSlice (P := Try.prog) w E.t E.e 1 #[(0, .agg (E.enc x).toArray)] (E.enc x).toArray i z E.sl hi hz (by rw [hs]; have := E.k24; omega) (by rw [hs]; omega) ?_
  rw [hs]
  exact hr
theorem one_newX (w : World) (x : α) : ∀ j u, (flatE E [x])[j]? = some u → (w.alloc (.cells (E.enc x).toArray E.e)).cell? ((⟨w.heap.size, 0, none⟩ : Addr).add j) = some u := by
  intro j u hu
  rw [flatE_one] at hu
  have hadd : (⟨w.heap.size, 0, none⟩ : Addr).add j = ⟨w.heap.size, 0 + j, none⟩ := by unfold Addr.add; split <;> simp_all
  rw [hadd, cell_of_row _ _ _ _ _ _ (heap_alloc_last w _), Nat.zero_add]
  simpa using hu
end
end Go.Proofs.Ytkbfcfmjbgnhcaa
