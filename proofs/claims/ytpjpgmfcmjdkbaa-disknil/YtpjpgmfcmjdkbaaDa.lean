/- Maps of names to slices: what a block holds, as a function of the name. -/
import Derived.Test.YtpjpgmfcmjdkbaaG0
import Derived.Maps.OwnSet
import Derived.Maps.OwnOps
import Derived.Maps.Range
import Derived.Maps.RangeWalk
import Derived.Lib.BufferWrite
namespace Go.Proofs.Ytpjpgmfcmjdkbaa
open Go.RowKit
open Go.Deep
open Go.Maps
theorem hide' {q : Prop} (h : q) : Hid q := h
/-! ### A slice as a datum: its block, length and room -/
/-- How a slice of a map reads: no cell is looked at. -/
def slE : Value → Option (DataW Unit × List MemPlace)
  | .slice none 0 0 => some (.agg [], [])
  | .slice (some ⟨g, 0, none⟩) n c => some (.agg [.lit (.int .i64 (g : Int)), .lit (.int .i64 (n : Int)), .lit (.int .i64 (c : Int))], [])
  | _ => none
theorem slE_nil : slE (.slice none 0 0) = some (.agg [], []) := rfl
theorem slE_some (g n c : Nat) : slE (.slice (some ⟨g, 0, none⟩) n c) = some (.agg [.lit (.int .i64 (g : Int)), .lit (.int .i64 (n : Int)), .lit (.int .i64 (c : Int))], []) := rfl
/-- The form of what reads. -/
theorem slE_form {v : Value} {y : DataW Unit × List MemPlace} (h : slE v = some y) : v = .slice none 0 0 ∨ ∃ g n c, v = .slice (some ⟨g, 0, none⟩) n c := by
  unfold slE at h
  split at h
  · exact .inl rfl
  · exact .inr ⟨_, _, _, rfl⟩
  · cases h
theorem slE_inj {v v' : Value} {y : DataW Unit} {p p' : List MemPlace} (h : slE v = some (y, p)) (h' : slE v' = some (y, p')) : v = v' := by
  rcases slE_form h with rfl | ⟨g, n, c, rfl⟩ <;> rcases slE_form h' with rfl | ⟨g', n', c', rfl⟩
  · rfl
  · rw [slE_nil] at h
    rw [slE_some] at h'
    cases h
    cases h'
  · rw [slE_nil] at h'
    rw [slE_some] at h
    cases h'
    cases h
  · rw [slE_some] at h h'
    simp only [Option.some.injEq, Prod.mk.injEq] at h h'
    obtain ⟨rfl, _⟩ := h
    obtain ⟨e, _⟩ := h'
    simp at e
    obtain ⟨e1, e2, e3⟩ := e
    have h1 : g' = g := by omega
    have h2 : n' = n := by omega
    have h3 : c' = c := by omega
    subst h1 h2 h3
    rfl
theorem Own.slE {w : World} {v : Value} {l : List UInt8} (h : Own w v l) : ∃ y, slE v = some (y, []) := by
  rcases h.2 with ⟨rfl, _⟩ | ⟨g, cap, cur, rfl, _⟩
  · exact ⟨_, rfl⟩
  · exact ⟨_, rfl⟩
theorem lawS : Keyed Try.prog 9 := string_keyed Try.underlying9
theorem zeroSl (w : World) : (zeroValue 81).run Try.prog w = .ok (.slice none 0 0) w := by kernel_rfl
/-- A name as a key. -/
theorem keyS (s : ByteArray) (hs : s.size ≤ maxLen) : keyOf Try.prog 9 (.string s) = some (.string s.data.toList) := by
  simp [keyOf, Try.underlying9, mapKey, hs]
theorem keyS_inv {key : Value} {kl : Lit} (h : keyOf Try.prog 9 key = some kl) : ∃ s : ByteArray, key = .string s ∧ kl = .string s.data.toList ∧ s.size ≤ maxLen := by
  cases key <;> simp [keyOf, Try.underlying9, mapKey] at h
  exact ⟨_, rfl, h.2.symm, h.1⟩
/-! ### A map of slices -/
/-- Block b is a map that holds, of each name, what F says; n names in all. -/
structure Mp (w : World) (b : Nat) (F : List UInt8 → Option Value) (n : Nat) : Prop where
  ex : ∃ D : DataW Unit, w.ownsMap Try.prog 9 slE b n D ∧ (∀ k, Maps.has D (.string k) = (F k).isSome) ∧ (∀ k v, F k = some v → ∃ y, slE v = some (y, []) ∧ ∀ zd, D.atKey (.string k) zd = y) ∧ Maps.size D = n
/-- A name gets a value. -/
def upd (F : List UInt8 → Option Value) (k : List UInt8) (v : Option Value) : List UInt8 → Option Value := fun x => if x = k then v else F x
section
variable {w w' : World} {b n : Nat} {F : List UInt8 → Option Value}
theorem tight {D : DataW Unit} {m : Nat} (h : w.ownsMap Try.prog 9 slE b m D) : w.ownsMap Try.prog 9 slE b (Maps.size D) D := by
  obtain ⟨es, clock, hb, F, hs, rfl⟩ := h
  exact ⟨es, clock, hb, F, by simp [Maps.size, length_sorted], rfl⟩
theorem Mp.made (w : World) : Mp (w.alloc (.map #[] 0)) w.heap.size (fun _ => none) 0 :=
  ⟨⟨.map [], World.ownsMap_made w _ _ _, fun _ => rfl, fun k v h => (by cases h), rfl⟩⟩
theorem Mp.lt (h : Mp w b F n) : b < w.heap.size := h.ex.choose_spec.1.lt
theorem Mp.block (h : Mp w b F n) : ∃ es cl, w.heap[b]? = some (.map es cl) := by
  obtain ⟨D, ⟨es, cl, hb, _⟩, _⟩ := h.ex
  exact ⟨es, cl, hb⟩
theorem Mp.of_block (h : Mp w b F n) (e : w'.heap[b]? = w.heap[b]?) : Mp w' b F n := by
  obtain ⟨D, ⟨es, cl, hb, r⟩, r2⟩ := h.ex
  exact ⟨⟨D, ⟨es, cl, e.trans hb, r⟩, r2⟩⟩
/-- v, ok := m[k]: there. -/
theorem Mp.look_ok (h : Mp w b F n) {s : ByteArray} (hs : s.size ≤ maxLen) {v : Value} (hv : F s.data.toList = some v) : (Instr.lookup 62 (.map (some b)) (.string s) true).run Try.prog w = .ok (.tuple #[v, .bool true]) w := by
  obtain ⟨D, ho, hh, ha, _⟩ := h.ex
  obtain ⟨v', ps, hr, hv'⟩ := ho.look_ok lawS Try.underlying62 (zeroSl w) slE_nil (keyS s hs)
  obtain ⟨y, hy, hat⟩ := ha _ _ hv
  rw [hat] at hv'
  rw [hh, hv, slE_inj hv' hy] at hr
  exact hr
/-- .. not there. -/
theorem Mp.look_no (h : Mp w b F n) {s : ByteArray} (hs : s.size ≤ maxLen) (hv : F s.data.toList = none) : (Instr.lookup 62 (.map (some b)) (.string s) true).run Try.prog w = .ok (.tuple #[.slice none 0 0, .bool false]) w := by
  obtain ⟨D, ho, hh, ha, _⟩ := h.ex
  obtain ⟨v', ps, hr, hv'⟩ := ho.look_ok lawS Try.underlying62 (zeroSl w) slE_nil (keyS s hs)
  have hhas : Maps.has D (.string s.data.toList) = false := by rw [hh, hv]; rfl
  rw [Maps.atKey_of_not_has hhas] at hv'
  rw [hhas, slE_inj hv' slE_nil] at hr
  exact hr
/-- m[k]. -/
theorem Mp.look (h : Mp w b F n) {s : ByteArray} (hs : s.size ≤ maxLen) : (Instr.lookup 62 (.map (some b)) (.string s) false).run Try.prog w = .ok ((F s.data.toList).getD (.slice none 0 0)) w := by
  obtain ⟨D, ho, hh, ha, _⟩ := h.ex
  obtain ⟨v', ps, hr, hv'⟩ := ho.lookup lawS Try.underlying62 (zeroSl w) slE_nil (keyS s hs)
  cases hF : F s.data.toList with
  | none =>
    have hhas : Maps.has D (.string s.data.toList) = false := by rw [hh, hF]; rfl
    rw [Maps.atKey_of_not_has hhas] at hv'
    rw [slE_inj hv' slE_nil] at hr
    exact hr
  | some v =>
    obtain ⟨y, hy, hat⟩ := ha _ _ hF
    rw [hat] at hv'
    rw [slE_inj hv' hy] at hr
    exact hr
/-- len(m). -/
theorem Mp.len (h : Mp w b F n) (ty : TypeId) : (Builtin.len_ #[62] ty #[.map (some b)]).run Try.prog w = .ok (.int .i64 (n : Int)) w := by
  obtain ⟨D, ho, _, _, hn⟩ := h.ex
  rw [← hn]
  exact ho.len Try.underlying62 ty
theorem str_ne {a b : List UInt8} (h : a ≠ b) : (Lit.string a) ≠ .string b := fun e => h (by cases e; rfl)
/-- m[k] = v. -/
theorem Mp.put (h : Mp w b F n) (hn : n < maxLen) {s : ByteArray} (hs : s.size ≤ maxLen) {v : Value} {y : DataW Unit} (hv : slE v = some (y, [])) : ∃ w', (Instr.mapUpdate 62 (.map (some b)) (.string s) v).run Try.prog w = .ok () w' ∧ Mp w' b (upd F s.data.toList (some v)) (if (F s.data.toList).isSome then n else n + 1) ∧ w.mapTurned w' b := by
  obtain ⟨D, ho, hh, ha, hsz⟩ := h.ex
  obtain ⟨w', hr, ho', ht⟩ := ho.store lawS Try.underlying62 hn (keyS s hs) hv
  have hm := ho.isMap
  have hkl : WideAt.IsKeyLit (.string s.data.toList) := lawS.key (keyS s hs)
  have hsz' : Maps.size (D.put (.string s.data.toList) y) = if (F s.data.toList).isSome then n else n + 1 := by
    rw [Maps.size_put (ho.tidy lawS), hh, hsz]
  refine ⟨w', hr, ⟨⟨_, by rw [← hsz']; exact tight ho', fun k => ?_, fun k v' hk => ?_, hsz'⟩⟩, ht⟩
  · unfold upd
    by_cases hk : k = s.data.toList
    · rw [if_pos hk, hk, Maps.has_put_same hm hkl]
      rfl
    · rw [if_neg hk, Maps.has_put_other (str_ne hk), hh]
  · unfold upd at hk
    by_cases e : k = s.data.toList
    · rw [if_pos e] at hk
      cases hk
      exact ⟨y, hv, fun zd => by rw [e, Maps.atKey_put_same hm hkl]⟩
    · rw [if_neg e] at hk
      obtain ⟨y', hy', hat⟩ := ha k v' hk
      exact ⟨y', hy', fun zd => by rw [Maps.atKey_put_other (str_ne e), hat]⟩
/-- delete(m, k). -/
theorem Mp.del (h : Mp w b F n) {s : ByteArray} (hs : s.size ≤ maxLen) (ty : TypeId) : ∃ w', (Builtin.delete_ #[62, 9] ty #[.map (some b), .string s]).run Try.prog w = .ok (.tuple #[]) w' ∧ Mp w' b (upd F s.data.toList none) (if (F s.data.toList).isSome then n - 1 else n) ∧ w.mapTurned w' b := by
  obtain ⟨D, ho, hh, ha, hsz⟩ := h.ex
  obtain ⟨w', hr, ho', ht⟩ := ho.drop lawS Try.underlying62 (keyS s hs) ty
  have hsz' : Maps.size (D.del (.string s.data.toList)) = if (F s.data.toList).isSome then n - 1 else n := by
    have e := Maps.size_del (k := .string s.data.toList) (ho.tidy lawS)
    rw [hh, hsz] at e
    split <;> rename_i hF <;> simp [hF] at e <;> omega
  refine ⟨w', hr, ⟨⟨_, by rw [← hsz']; exact tight ho', fun k => ?_, fun k v' hk => ?_, hsz'⟩⟩, ht⟩
  · unfold upd
    by_cases hk : k = s.data.toList
    · rw [if_pos hk, hk, Maps.has_del_same]
      rfl
    · rw [if_neg hk, Maps.has_del_other (str_ne hk), hh]
  · unfold upd at hk
    by_cases e : k = s.data.toList
    · rw [if_pos e] at hk
      cases hk
    · rw [if_neg e] at hk
      obtain ⟨y', hy', hat⟩ := ha k v' hk
      exact ⟨y', hy', fun zd => by rw [Maps.atKey_del_other (str_ne e), hat]⟩
/-- What reads has a form. -/
theorem Mp.form (h : Mp w b F n) {k : List UInt8} {v : Value} (hv : F k = some v) : ∃ ao m c, v = .slice ao m c := by
  obtain ⟨D, _, _, ha, _⟩ := h.ex
  obtain ⟨y, hy, _⟩ := ha k v hv
  rcases slE_form hy with rfl | ⟨g, m, c, rfl⟩
  · exact ⟨_, _, _, rfl⟩
  · exact ⟨_, _, _, rfl⟩
end
end Go.Proofs.Ytpjpgmfcmjdkbaa
