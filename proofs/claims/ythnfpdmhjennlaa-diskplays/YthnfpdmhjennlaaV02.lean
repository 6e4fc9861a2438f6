/- Maps of names to slices: what a block holds, as a function of the name. Files in a map: names, their bytes, and the memory that they have for their own. -/
import Derived.Test.YthnfpdmhjennlaaV01
import Derived.Maps.OwnSet
import Derived.Maps.OwnOps
import Derived.Maps.Range
import Derived.Maps.RangeWalk
import Derived.Lib.BufferWrite
namespace Go.Proofs.Ythnfpdmhjennlaa
open Go.RowKit
open Go.Deep
open Go.Maps
theorem hide' {q : Prop} (h : q) : Hid q := h
/-! ### A slice as a datum: its block, length and room -/
/-- How a slice of a map reads: no cell is looked at. -/
def slE : Value → Option (DataW Unit × List MemPlace)
  | .slice none 0 0 => some (.agg [], [])
  | .slice (some ⟨g, 0, none⟩) n c => some (.agg [.lit (.int .i64 (g : Int)), .lit (.int .i64 (n : Int)), .lit (.int .i64 (c : Int))], [])
  | _ => none
theorem slE_nil : slE (.slice none 0 0) = some (.agg [], []) := rfl
theorem slE_some (g n c : Nat) : slE (.slice (some ⟨g, 0, none⟩) n c) = some (.agg [.lit (.int .i64 (g : Int)), .lit (.int .i64 (n : Int)), .lit (.int .i64 (c : Int))], []) := rfl
/-- The form of what reads. -/
theorem slE_form {v : Value} {y : DataW Unit × List MemPlace} (h : slE v = some y) : v = .slice none 0 0 ∨ ∃ g n c, v = .slice (some ⟨g, 0, none⟩) n c := by
  unfold slE at h
  split at h
  · exact .inl rfl
  · exact .inr ⟨_, _, _, rfl⟩
  · cases h
theorem slE_inj {v v' : Value} {y : DataW Unit} {p p' : List MemPlace} (h : slE v = some (y, p)) (h' : slE v' = some (y, p')) : v = v' := by
  rcases slE_form h with rfl | ⟨g, n, c, rfl⟩ <;> rcases slE_form h' with rfl | ⟨g', n', c', rfl⟩
  · rfl
  · rw [slE_nil] at h
    rw [slE_some] at h'
    cases h
    cases h'
  · rw [slE_nil] at h'
    rw [slE_some] at h
    cases h'
    cases h
  · rw [slE_some] at h h'
    simp only [Option.some.injEq, Prod.mk.injEq] at h h'
    obtain ⟨rfl, _⟩ := h
    obtain ⟨e, _⟩ := h'
    simp at e
    obtain ⟨e1, e2, e3⟩ := e
    have h1 : g' = g := by omega
    have h2 : n' = n := by omega
    have h3 : c' = c := by omega
    subst h1 h2 h3
    rfl
theorem Own.slE {w : World} {v : Value} {l : List UInt8} (h : Own w v l) : ∃ y, slE v = some (y, []) := by
  rcases h.2 with ⟨rfl, _⟩ | ⟨g, cap, cur, rfl, _⟩
  · exact ⟨_, rfl⟩
  · exact ⟨_, rfl⟩
theorem lawS : Keyed Try.prog 9 := string_keyed Try.underlying9
theorem zeroSl (w : World) : (zeroValue 77).run Try.prog w = .ok (.slice none 0 0) w := by kernel_rfl
/-- A name as a key. -/
theorem keyS (s : ByteArray) (hs : s.size ≤ maxLen) : keyOf Try.prog 9 (.string s) = some (.string s.data.toList) := by
  simp [keyOf, Try.underlying9, mapKey, hs]
theorem keyS_inv {key : Value} {kl : Lit} (h : keyOf Try.prog 9 key = some kl) : ∃ s : ByteArray, key = .string s ∧ kl = .string s.data.toList ∧ s.size ≤ maxLen := by
  cases key <;> simp [keyOf, Try.underlying9, mapKey] at h
  exact ⟨_, rfl, h.2.symm, h.1⟩
/-! ### A map of slices -/
/-- Block b is a map that holds, of each name, what F says; n names in all. -/
structure Mp (w : World) (b : Nat) (F : List UInt8 → Option Value) (n : Nat) : Prop where
  ex : ∃ D : DataW Unit, w.ownsMap Try.prog 9 slE b n D ∧ (∀ k, Maps.has D (.string k) = (F k).isSome) ∧ (∀ k v, F k = some v → ∃ y, slE v = some (y, []) ∧ ∀ zd, D.atKey (.string k) zd = y) ∧ Maps.size D = n
/-- A name gets a value. -/
def upd (F : List UInt8 → Option Value) (k : List UInt8) (v : Option Value) : List UInt8 → Option Value := fun x => if x = k then v else F x
section
variable {w w' : World} {b n : Nat} {F : List UInt8 → Option Value}
theorem tight {D : DataW Unit} {m : Nat} (h : w.ownsMap Try.prog 9 slE b m D) : w.ownsMap Try.prog 9 slE b (Maps.size D) D := by
  obtain ⟨es, clock, hb, F, hs, rfl⟩ := h
  exact ⟨es, clock, hb, F, by simp [Maps.size, length_sorted], rfl⟩
theorem Mp.made (w : World) : Mp (w.alloc (.map #[] 0)) w.heap.size (fun _ => none) 0 :=
  ⟨⟨.map [], World.ownsMap_made w _ _ _, fun _ => rfl, fun k v h => (by cases h), rfl⟩⟩
theorem Mp.lt (h : Mp w b F n) : b < w.heap.size := h.ex.choose_spec.1.lt
theorem Mp.block (h : Mp w b F n) : ∃ es cl, w.heap[b]? = some (.map es cl) := by
  obtain ⟨D, ⟨es, cl, hb, _⟩, _⟩ := h.ex
  exact ⟨es, cl, hb⟩
theorem Mp.of_block (h : Mp w b F n) (e : w'.heap[b]? = w.heap[b]?) : Mp w' b F n := by
  obtain ⟨D, ⟨es, cl, hb, r⟩, r2⟩ := h.ex
  exact ⟨⟨D, ⟨es, cl, e.trans hb, r⟩, r2⟩⟩
/-- v, ok := m[k]: there. -/
theorem Mp.look_ok (h : Mp w b F n) {s : ByteArray} (hs : s.size ≤ maxLen) {v : Value} (hv : F s.data.toList = some v) : (Instr.lookup 39 (.map (some b)) (.string s) true).run Try.prog w = .ok (.tuple #[v, .bool true]) w := by
  obtain ⟨D, ho, hh, ha, _⟩ := h.ex
  obtain ⟨v', ps, hr, hv'⟩ := ho.look_ok lawS Try.underlying39 (zeroSl w) slE_nil (keyS s hs)
  obtain ⟨y, hy, hat⟩ := ha _ _ hv
  rw [hat] at hv'
  rw [hh, hv, slE_inj hv' hy] at hr
  exact hr
/-- .. not there. -/
theorem Mp.look_no (h : Mp w b F n) {s : ByteArray} (hs : s.size ≤ maxLen) (hv : F s.data.toList = none) : (Instr.lookup 39 (.map (some b)) (.string s) true).run Try.prog w = .ok (.tuple #[.slice none 0 0, .bool false]) w := by
  obtain ⟨D, ho, hh, ha, _⟩ := h.ex
  obtain ⟨v', ps, hr, hv'⟩ := ho.look_ok lawS Try.underlying39 (zeroSl w) slE_nil (keyS s hs)
  have hhas : Maps.has D (.string s.data.toList) = false := by rw [hh, hv]; rfl
  rw [Maps.atKey_of_not_has hhas] at hv'
  rw [hhas, slE_inj hv' slE_nil] at hr
  exact hr
/-- m[k]. -/
theorem Mp.look (h : Mp w b F n) {s : ByteArray} (hs : s.size ≤ maxLen) : (Instr.lookup 39 (.map (some b)) (.string s) false).run Try.prog w = .ok ((F s.data.toList).getD (.slice none 0 0)) w := by
  obtain ⟨D, ho, hh, ha, _⟩ := h.ex
  obtain ⟨v', ps, hr, hv'⟩ := ho.lookup lawS Try.underlying39 (zeroSl w) slE_nil (keyS s hs)
  cases hF : F s.data.toList with
  | none =>
    have hhas : Maps.has D (.string s.data.toList) = false := by rw [hh, hF]; rfl
    rw [Maps.atKey_of_not_has hhas] at hv'
    rw [slE_inj hv' slE_nil] at hr
    exact hr
  | some v =>
    obtain ⟨y, hy, hat⟩ := ha _ _ hF
    rw [hat] at hv'
    rw [slE_inj hv' hy] at hr
    exact hr
/-- len(m). -/
theorem Mp.len (h : Mp w b F n) (ty : TypeId) : (Builtin.len_ #[39] ty #[.map (some b)]).run Try.prog w = .ok (.int .i64 (n : Int)) w := by
  obtain ⟨D, ho, _, _, hn⟩ := h.ex
  rw [← hn]
  exact ho.len Try.underlying39 ty
theorem str_ne {a b : List UInt8} (h : a ≠ b) : (Lit.string a) ≠ .string b := fun e => h (by cases e; rfl)
/-- m[k] = v. -/
theorem Mp.put (h : Mp w b F n) (hn : n < maxLen) {s : ByteArray} (hs : s.size ≤ maxLen) {v : Value} {y : DataW Unit} (hv : slE v = some (y, [])) : ∃ w', (Instr.mapUpdate 39 (.map (some b)) (.string s) v).run Try.prog w = .ok () w' ∧ Mp w' b (upd F s.data.toList (some v)) (if (F s.data.toList).isSome then n else n + 1) ∧ w.mapTurned w' b := by
  obtain ⟨D, ho, hh, ha, hsz⟩ := h.ex
  obtain ⟨w', hr, ho', ht⟩ := ho.store lawS Try.underlying39 hn (keyS s hs) hv
  have hm := ho.isMap
  have hkl : WideAt.IsKeyLit (.string s.data.toList) := lawS.key (keyS s hs)
  have hsz' : Maps.size (D.put (.string s.data.toList) y) = if (F s.data.toList).isSome then n else n + 1 := by
    rw [Maps.size_put (ho.tidy lawS), hh, hsz]
  refine ⟨w', hr, ⟨⟨_, by rw [← hsz']; exact tight ho', fun k => ?_, fun k v' hk => ?_, hsz'⟩⟩, ht⟩
  · unfold upd
    by_cases hk : k = s.data.toList
    · rw [if_pos hk, hk, Maps.has_put_same hm hkl]
      rfl
    · rw [if_neg hk, Maps.has_put_other (str_ne hk), hh]
  · unfold upd at hk
    by_cases e : k = s.data.toList
    · rw [if_pos e] at hk
      cases hk
      exact ⟨y, hv, fun zd => by rw [e, Maps.atKey_put_same hm hkl]⟩
    · rw [if_neg e] at hk
      obtain ⟨y', hy', hat⟩ := ha k v' hk
      exact ⟨y', hy', fun zd => by rw [Maps.atKey_put_other (str_ne e), hat]⟩
/-- delete(m, k). -/
theorem Mp.del (h : Mp w b F n) {s : ByteArray} (hs : s.size ≤ maxLen) (ty : TypeId) : ∃ w', (Builtin.delete_ #[39, 9] ty #[.map (some b), .string s]).run Try.prog w = .ok (.tuple #[]) w' ∧ Mp w' b (upd F s.data.toList none) (if (F s.data.toList).isSome then n - 1 else n) ∧ w.mapTurned w' b := by
  obtain ⟨D, ho, hh, ha, hsz⟩ := h.ex
  obtain ⟨w', hr, ho', ht⟩ := ho.drop lawS Try.underlying39 (keyS s hs) ty
  have hsz' : Maps.size (D.del (.string s.data.toList)) = if (F s.data.toList).isSome then n - 1 else n := by
    have e := Maps.size_del (k := .string s.data.toList) (ho.tidy lawS)
    rw [hh, hsz] at e
    split <;> rename_i hF <;> simp [hF] at e <;> omega
  refine ⟨w', hr, ⟨⟨_, by rw [← hsz']; exact tight ho', fun k => ?_, fun k v' hk => ?_, hsz'⟩⟩, ht⟩
  · unfold upd
    by_cases hk : k = s.data.toList
    · rw [if_pos hk, hk, Maps.has_del_same]
      rfl
    · rw [if_neg hk, Maps.has_del_other (str_ne hk), hh]
  · unfold upd at hk
    by_cases e : k = s.data.toList
    · rw [if_pos e] at hk
      cases hk
    · rw [if_neg e] at hk
      obtain ⟨y', hy', hat⟩ := ha k v' hk
      exact ⟨y', hy', fun zd => by rw [Maps.atKey_del_other (str_ne e), hat]⟩
/-- What reads has a form. -/
theorem Mp.form (h : Mp w b F n) {k : List UInt8} {v : Value} (hv : F k = some v) : ∃ ao m c, v = .slice ao m c := by
  obtain ⟨D, _, _, ha, _⟩ := h.ex
  obtain ⟨y, hy, _⟩ := ha k v hv
  rcases slE_form hy with rfl | ⟨g, m, c, rfl⟩
  · exact ⟨_, _, _, rfl⟩
  · exact ⟨_, _, _, rfl⟩
end
end Go.Proofs.Ythnfpdmhjennlaa
namespace Go.Proofs.Ythnfpdmhjennlaa
open Go.RowKit
open Go.Deep
open Go.Maps
open Go.MapKept Go.ChangeMaps
/-- Files: what stands under each name, and how many there are. -/
structure FS where
  get : List UInt8 → Option (List UInt8)
  n : Nat
def FS.none : FS := ⟨fun _ => Option.none, 0⟩
def FS.put (f : FS) (k l : List UInt8) : FS := ⟨fun x => if x = k then some l else f.get x, if (f.get k).isSome then f.n else f.n + 1⟩
def FS.del (f : FS) (k : List UInt8) : FS := ⟨fun x => if x = k then Option.none else f.get x, if (f.get k).isSome then f.n - 1 else f.n⟩
def FS.at (f : FS) (k : List UInt8) : List UInt8 := (f.get k).getD []
/-- w' is w but for blocks of S and new ones. -/
structure Fr (S : Nat → Prop) (w w' : World) : Prop where
  os : w'.os = w.os
  tape : w'.tape = w.tape
  output : w'.output = w.output
  size : w.heap.size ≤ w'.heap.size
  block : ∀ k, k < w.heap.size → ¬ S k → w'.heap[k]? = w.heap[k]?
/-- S, and what is new. -/
def grow (S : Nat → Prop) (w w' : World) : Nat → Prop := fun g => S g ∨ (w.heap.size ≤ g ∧ g < w'.heap.size)
section
variable {S S' : Nat → Prop} {w w1 w2 w' : World} {b n : Nat} {F : List UInt8 → Option Value} {f : FS}
theorem Fr.refl (S : Nat → Prop) (w : World) : Fr S w w := ⟨rfl, rfl, rfl, Nat.le_refl _, fun _ _ _ => rfl⟩
theorem Fr.mono (h : Fr S w w') (hs : ∀ g, S g → S' g) : Fr S' w w' := ⟨h.os, h.tape, h.output, h.size, fun k hk hn => h.block k hk fun e => hn (hs k e)⟩
theorem Fr.trans (h : Fr S w w1) (k : Fr (grow S w w1) w1 w2) : Fr S w w2 :=
  ⟨k.os.trans h.os, k.tape.trans h.tape, k.output.trans h.output, Nat.le_trans h.size k.size, fun i hi hn => (k.block i (Nat.lt_of_lt_of_le hi h.size) (fun e => by
    rcases e with e | ⟨e, _⟩
    · exact hn e
    · omega)).trans (h.block i hi hn)⟩
theorem Fr.trans' (h : Fr S w w1) (k : Fr S w1 w2) : Fr S w w2 := h.trans (k.mono fun _ e => .inl e)
theorem Fr.of_below (h : Below w.heap.size w w') : Fr S w w' := ⟨h.os, h.tape, h.output, h.size, fun k hk _ => h.block k hk⟩
theorem Fr.below (h : Fr S w w') {B : Nat} (hB : B ≤ w.heap.size) (hS : ∀ g, S g → B ≤ g) : Below B w w' :=
  ⟨h.os, h.tape, h.output, h.size, fun k hk => h.block k (by omega) fun e => by have := hS k e; omega⟩
theorem Fr.of_grown {row : Option Nat} (h : w.grownBy w' row) (hr : ∀ g, row = some g → S g) : Fr S w w' :=
  ⟨h.os, h.tape, h.output, h.size, fun k hk hn => h.block k hk fun e => hn (hr k e.symm)⟩
theorem Fr.setCell (w : World) {p : Addr} (hp : S p.block) (v : Value) : Fr S w (w.setCell p v) :=
  ⟨rfl, rfl, rfl, by simp [World.setCell], fun k _ hn => Below.heap_setCell _ _ _ _ (fun e => hn (by rw [e]; exact hp))⟩
theorem Fr.row (h : Fr S w w') {g n : Nat} {t : TypeId} {c : Nat → Value} (hr : w.rowIs g t n c) (hg : ¬ S g) : w'.rowIs g t n c :=
  World.rowIs.of_block hr (h.block g (World.rowIs.lt hr) hg)
theorem grow_grow (h1 : w.heap.size ≤ w1.heap.size) (h2 : w1.heap.size ≤ w2.heap.size) : grow (grow S w w1) w1 w2 = grow S w w2 := by
  funext g
  apply propext
  unfold grow
  constructor
  · rintro ((h | ⟨h, k⟩) | ⟨h, k⟩)
    · exact .inl h
    · exact .inr ⟨h, by omega⟩
    · exact .inr ⟨by omega, k⟩
  · rintro (h | ⟨h, k⟩)
    · exact .inl (.inl h)
    · by_cases c : g < w1.heap.size
      · exact .inl (.inr ⟨h, c⟩)
      · exact .inr ⟨by omega, k⟩
theorem grow_lt (h : ∀ g, S g → g < w.heap.size) (hs : w.heap.size ≤ w'.heap.size) : ∀ g, grow S w w' g → g < w'.heap.size := fun g hg => by
  rcases hg with hg | ⟨_, hg⟩
  · have := h g hg
    omega
  · exact hg
theorem grow_self (S : Nat → Prop) (w : World) : grow S w w = S := by
  funext g
  apply propext
  unfold grow
  constructor
  · rintro (h | ⟨h, k⟩)
    · exact h
    · omega
  · exact .inl
/-- Files that stand in the map at block b, but for those named by X. -/
structure Fq (X : List UInt8 → Prop) (w : World) (b : Nat) (F : List UInt8 → Option Value) (f : FS) (S : Nat → Prop) : Prop where
  mp : Mp w b F f.n
  dom : ∀ k, (F k).isSome = (f.get k).isSome
  own : ∀ k v l, ¬ X k → F k = some v → f.get k = some l → Own w v l
  ins : ∀ k v g, ¬ X k → F k = some v → v.ownBlock = some g → S g
  one : ∀ k k' v v' g, ¬ X k → ¬ X k' → F k = some v → F k' = some v' → v.ownBlock = some g → v'.ownBlock = some g → k = k'
  self : S b
  lt : ∀ g, S g → g < w.heap.size
/-- Files that stand in the map at block b. -/
abbrev Fs (w : World) (b : Nat) (F : List UInt8 → Option Value) (f : FS) (S : Nat → Prop) : Prop := Fq (fun _ => False) w b F f S
theorem Own.of_block {v : Value} {l : List UInt8} (h : Own w v l) (e : ∀ g, v.ownBlock = some g → w'.heap[g]? = w.heap[g]?) : Own w' v l := by
  refine ⟨h.1, ?_⟩
  rcases h.2 with hn | ⟨g, cap, cur, rfl, hb, hg, r⟩
  · exact .inl hn
  · exact .inr ⟨g, cap, cur, rfl, hb, (e g rfl).trans hg, r⟩
theorem Own.blk {v : Value} {l : List UInt8} {g : Nat} (h : Own w v l) (e : v.ownBlock = some g) : ∃ cur, w.heap[g]? = some (.cells cur 5 (0, 0)) := by
  rcases h.2 with ⟨rfl, _⟩ | ⟨g1, cap, cur, rfl, hb, hg, r⟩
  · cases e
  · cases e
    exact ⟨cur, hg⟩
theorem Own.ltb {v : Value} {l : List UInt8} {g : Nat} (h : Own w v l) (e : v.ownBlock = some g) : g < w.heap.size := by
  obtain ⟨cur, hg⟩ := h.blk e
  exact lt_heap hg
theorem Fq.frame {X : List UInt8 → Prop} (h : Fq X w b F f S) (hs : w.heap.size ≤ w'.heap.size) (e : ∀ g, S g → w'.heap[g]? = w.heap[g]?) : Fq X w' b F f S :=
  ⟨h.mp.of_block (e b h.self), h.dom, fun k v l hx hv hl => (h.own k v l hx hv hl).of_block fun g hg => e g (h.ins k v g hx hv hg), h.ins, h.one, h.self, fun g hg => Nat.lt_of_lt_of_le (h.lt g hg) hs⟩
theorem Fq.below {X : List UInt8 → Prop} (h : Fq X w b F f S) (hb : Below w.heap.size w w') : Fq X w' b F f S :=
  h.frame hb.size fun g hg => hb.block g (h.lt g hg)
theorem Fq.wide {X : List UInt8 → Prop} (h : Fq X w b F f S) (hs : ∀ g, S g → S' g) (hl : ∀ g, S' g → g < w.heap.size) : Fq X w b F f S' :=
  ⟨h.mp, h.dom, h.own, fun k v g hx hv hg => hs g (h.ins k v g hx hv hg), h.one, hs b h.self, hl⟩
/-- Another's frame: what it may write is apart. -/
theorem Fq.apart {X : List UInt8 → Prop} (h : Fq X w b F f S) (hr : Fr S' w w') (ha : ∀ g, S g → ¬ S' g) : Fq X w' b F f S :=
  h.frame hr.size fun g hg => hr.block g (h.lt g hg) (ha g hg)
/-- The map's block is no row of bytes. -/
theorem Fq.ne {X : List UInt8 → Prop} (h : Fq X w b F f S) {v : Value} {l : List UInt8} {g : Nat} (o : Own w v l) (e : v.ownBlock = some g) : g ≠ b := fun c => by
  obtain ⟨es, cl, hb⟩ := h.mp.block
  obtain ⟨cur, hg⟩ := o.blk e
  rw [c, hb] at hg
  cases hg
/-- What stands under a name, as a value. -/
def vl (F : List UInt8 → Option Value) (k : List UInt8) : Value := (F k).getD (.slice none 0 0)
theorem Fq.ownv (h : Fs w b F f S) (k : List UInt8) : Own w (vl F k) (f.at k) := by
  unfold vl FS.at
  have hd := h.dom k
  cases hF : F k with
  | none =>
    rw [hF] at hd
    cases hf : f.get k with
    | none => exact Own.nil w
    | some l => rw [hf] at hd; cases hd
  | some v =>
    rw [hF] at hd
    cases hf : f.get k with
    | none => rw [hf] at hd; cases hd
    | some l => exact h.own k v l (fun e => e) hF hf
theorem val_some {v : Value} {k : List UInt8} {g : Nat} (hv : vl F k = v) (hg : v.ownBlock = some g) : F k = some v := by
  unfold vl at hv
  cases hF : F k with
  | none => rw [hF] at hv; subst hv; cases hg
  | some u => rw [hF] at hv; exact congrArg some hv
/-- A file's memory is turned, or it is laid anew. -/
theorem Fq.onto (h : Fs w b F f S) {k : List UInt8} {v v2 : Value} (hv : vl F k = v) (on : Onto w w2 v v2) : Fq (fun x => x = k) w2 b F f (grow S w w2) := by
  have hs := on.grown.size
  have ov := h.ownv k
  rw [hv] at ov
  have keep : ∀ g, S g → v.ownBlock ≠ some g → w2.heap[g]? = w.heap[g]? := fun g hg hne => on.grown.block g (h.lt g hg) (fun e => hne e.symm)
  refine ⟨h.mp.of_block (keep b h.self fun e => h.ne ov e rfl), h.dom, fun k' v' l hx hv' hl => ?_, fun k' v' g hx hv' hg => .inl (h.ins k' v' g (fun e => e) hv' hg), fun k1 k2 v1 v2 g _ _ => h.one k1 k2 v1 v2 g (fun e => e) (fun e => e), .inl h.self, grow_lt h.lt hs⟩
  refine (h.own k' v' l (fun e => e) hv' hl).of_block fun g hg => keep g (h.ins k' v' g (fun e => e) hv' hg) fun e => ?_
  exact hx (h.one k' k v' v g (fun e => e) (fun e => e) hv' (val_some hv e) hg e)
/-- What lies beside all other files. -/
theorem Fq.beside (h : Fs w b F f S) {k : List UInt8} {v v2 : Value} (hv : vl F k = v) (on : Onto w w2 v v2) : ∀ k' v' g, k' ≠ k → F k' = some v' → v'.ownBlock = some g → v2.ownBlock ≠ some g := fun k' v' g hk hF hg e => by
  rcases on.lies with hl | ⟨g2, hl, hge⟩
  · rw [hl] at e
    exact hk (h.one k' k v' v g (fun e => e) (fun e => e) hF (val_some hv e) hg e)
  · rw [hl] at e
    cases e
    have := h.lt g (h.ins k' v' g (fun e => e) hF hg)
    omega
theorem FS.put_get (f : FS) (k l x : List UInt8) : (f.put k l).get x = if x = k then some l else f.get x := rfl
theorem FS.del_get (f : FS) (k x : List UInt8) : (f.del k).get x = if x = k then Option.none else f.get x := rfl
/-- m[k] = v, where all files but that of k stand. -/
theorem Fq.put {k : List UInt8} (h : Fq (fun x => x = k) w b F f S) {s : ByteArray} (hk : s.data.toList = k) (hn : f.n < maxLen) (hs : s.size ≤ maxLen) {v : Value} {l : List UInt8} (o : Own w v l) (hS : ∀ g, v.ownBlock = some g → S g)
    (hne : ∀ k' v' g, k' ≠ k → F k' = some v' → v'.ownBlock = some g → v.ownBlock ≠ some g) : ∃ w3, (Instr.mapUpdate 39 (.map (some b)) (.string s) v).run Try.prog w = .ok () w3 ∧ Fs w3 b (upd F k (some v)) (f.put k l) S ∧ w.grownBy w3 (some b) ∧ w3.heap.size = w.heap.size := by
  obtain ⟨y, hy⟩ := o.slE
  obtain ⟨w3, hr, hm, ht⟩ := h.mp.put hn hs hy
  have hg := ht.grown
  have hsz : w3.heap.size = w.heap.size := by
    obtain ⟨es, clock, es', clock', hb, rfl⟩ := ht
    simp [setBlock]
  have keep : ∀ {v' : Value} {l' : List UInt8}, Own w v' l' → Own w3 v' l' := fun {v' l'} o' => o'.of_block fun g e => hg.block g (o'.ltb e) fun c => h.ne o' e (by cases c; rfl)
  rw [hk] at hm
  refine ⟨w3, hr, ⟨?_, fun x => ?_, fun x v' l' _ hv' hl' => ?_, fun x v' g _ hv' hg' => ?_, fun x x' v1 v2 g _ _ h1 h2 e1 e2 => ?_, h.self, fun g hg' => by rw [hsz]; exact h.lt g hg'⟩, hg, hsz⟩
  · have e : (f.put k l).n = if (F k).isSome then f.n else f.n + 1 := by
      rw [h.dom]
      rfl
    rw [e]
    exact hm
  · rw [FS.put_get]
    unfold upd
    split
    · rfl
    · exact h.dom x
  · rw [FS.put_get] at hl'
    unfold upd at hv'
    split at hv' <;> rename_i hx
    · rw [if_pos hx] at hl'
      cases hv'
      cases hl'
      exact keep o
    · rw [if_neg hx] at hl'
      exact keep (h.own x v' l' hx hv' hl')
  · unfold upd at hv'
    split at hv' <;> rename_i hx
    · cases hv'
      exact hS g hg'
    · exact h.ins x v' g hx hv' hg'
  · unfold upd at h1 h2
    split at h1 <;> rename_i hx <;> split at h2 <;> rename_i hx'
    · rw [hx, hx']
    · cases h1
      exact absurd e1 (hne x' v2 g hx' h2 e2)
    · cases h2
      exact absurd e2 (hne x v1 g hx h1 e1)
    · exact h.one x x' v1 v2 g hx hx' h1 h2 e1 e2
/-- delete(m, k). -/
theorem Fq.del (h : Fs w b F f S) {s : ByteArray} {k : List UInt8} (hk : s.data.toList = k) (hs : s.size ≤ maxLen) (ty : TypeId) : ∃ w3, (Builtin.delete_ #[39, 9] ty #[.map (some b), .string s]).run Try.prog w = .ok (.tuple #[]) w3 ∧ Fs w3 b (upd F k none) (f.del k) S ∧ w.grownBy w3 (some b) ∧ w3.heap.size = w.heap.size := by
  obtain ⟨w3, hr, hm, ht⟩ := h.mp.del hs ty
  have hg := ht.grown
  have hsz : w3.heap.size = w.heap.size := by
    obtain ⟨es, clock, es', clock', hb, rfl⟩ := ht
    simp [setBlock]
  have keep : ∀ {v' : Value} {l' : List UInt8}, Own w v' l' → Own w3 v' l' := fun {v' l'} o' => o'.of_block fun g e => hg.block g (o'.ltb e) fun c => h.ne o' e (by cases c; rfl)
  rw [hk] at hm
  refine ⟨w3, hr, ⟨?_, fun x => ?_, fun x v' l' _ hv' hl' => ?_, fun x v' g _ hv' hg' => ?_, fun x x' v1 v2 g _ _ h1 h2 e1 e2 => ?_, h.self, fun g hg' => by rw [hsz]; exact h.lt g hg'⟩, hg, hsz⟩
  · have e : (f.del k).n = if (F k).isSome then f.n - 1 else f.n := by
      rw [h.dom]
      rfl
    rw [e]
    exact hm
  · rw [FS.del_get]
    unfold upd
    split
    · rfl
    · exact h.dom x
  · rw [FS.del_get] at hl'
    unfold upd at hv'
    split at hv' <;> rename_i hx
    · cases hv'
    · rw [if_neg hx] at hl'
      exact keep (h.own x v' l' (fun e => e) hv' hl')
  · unfold upd at hv'
    split at hv'
    · cases hv'
    · exact h.ins x v' g (fun e => e) hv' hg'
  · unfold upd at h1 h2
    split at h1
    · cases h1
    · split at h2
      · cases h2
      · exact h.one x x' v1 v2 g (fun e => e) (fun e => e) h1 h2 e1 e2
end
end Go.Proofs.Ythnfpdmhjennlaa
