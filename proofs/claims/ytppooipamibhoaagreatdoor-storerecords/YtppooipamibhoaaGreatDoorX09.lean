/- Maps of names to slices: what a block holds, as a function of the name. Files in a map: names, their bytes, and the memory that they have for their own. Bytes of one's own: a text copied over a part of them, a text behind them, a beginning of them. -/
import Derived.Test.YtppooipamibhoaaGreatDoorX06
import Derived.Maps.OwnSet
import Derived.Maps.OwnOps
import Derived.Maps.Range
import Derived.Maps.RangeWalk
import Derived.Lib.BufferWrite
namespace Go.Proofs.YtppooipamibhoaaGreatDoor
open Go.RowKit
open Go.Deep
open Go.Maps
theorem hide' {q : Prop} (h : q) : Hid q := h
/-! ### A slice as a datum: its block, length and room -/
/-- How a slice of a map reads: no cell is looked at. -/
def slE : Value → Option (DataW Unit × List MemPlace)
  | .slice none 0 0 => some (.agg [], [])
  | .slice (some ⟨g, 0, none⟩) n c => some (.agg [.lit (.int .i64 (g : Int)), .lit (.int .i64 (n : Int)), .lit (.int .i64 (c : Int))], [])
  | _ => none
theorem slE_nil : slE (.slice none 0 0) = some (.agg [], []) := rfl
theorem slE_some (g n c : Nat) : slE (.slice (some ⟨g, 0, none⟩) n c) = some (.agg [.lit (.int .i64 (g : Int)), .lit (.int .i64 (n : Int)), .lit (.int .i64 (c : Int))], []) := rfl
/-- The form of what reads. -/
theorem slE_form {v : Value} {y : DataW Unit × List MemPlace} (h : slE v = some y) : v = .slice none 0 0 ∨ ∃ g n c, v = .slice (some ⟨g, 0, none⟩) n c := by
  unfold slE at h
  split at h
  · exact .inl rfl
  · exact .inr ⟨_, _, _, rfl⟩
  · cases h
theorem slE_inj {v v' : Value} {y : DataW Unit} {p p' : List MemPlace} (h : slE v = some (y, p)) (h' : slE v' = some (y, p')) : v = v' := by
  rcases slE_form h with rfl | ⟨g, n, c, rfl⟩ <;> rcases slE_form h' with rfl | ⟨g', n', c', rfl⟩
  · rfl
  · rw [slE_nil] at h
    rw [slE_some] at h'
    cases h
    cases h'
  · rw [slE_nil] at h'
    rw [slE_some] at h
    cases h'
    cases h
  · rw [slE_some] at h h'
    simp only [Option.some.injEq, Prod.mk.injEq] at h h'
    obtain ⟨rfl, _⟩ := h
    obtain ⟨e, _⟩ := h'
    simp at e
    obtain ⟨e1, e2, e3⟩ := e
    have h1 : g' = g := by omega
    have h2 : n' = n := by omega
    have h3 : c' = c := by omega
    subst h1 h2 h3
    rfl
theorem Own.slE {w : World} {v : Value} {l : List UInt8} (h : Own w v l) : ∃ y, slE v = some (y, []) := by
  rcases h.2 with ⟨rfl, _⟩ | ⟨g, cap, cur, rfl, _⟩
  · exact ⟨_, rfl⟩
  · exact ⟨_, rfl⟩
theorem lawS : Keyed Tryz.prog 9 := string_keyed Tryz.underlying9
theorem zeroSl (w : World) : (zeroValue 258).run Tryz.prog w = .ok (.slice none 0 0) w := by kernel_rfl
/-- A name as a key. -/
theorem keyS (s : ByteArray) (hs : s.size ≤ maxLen) : keyOf Tryz.prog 9 (.string s) = some (.string s.data.toList) := by
  simp [keyOf, Tryz.underlying9, mapKey, hs]
theorem keyS_inv {key : Value} {kl : Lit} (h : keyOf Tryz.prog 9 key = some kl) : ∃ s : ByteArray, key = .string s ∧ kl = .string s.data.toList ∧ s.size ≤ maxLen := by
  cases key <;> simp [keyOf, Tryz.underlying9, mapKey] at h
  exact ⟨_, rfl, h.2.symm, h.1⟩
/-! ### A map of slices -/
/-- Block b is a map that holds, of each name, what F says; n names in all. -/
structure Mp (w : World) (b : Nat) (F : List UInt8 → Option Value) (n : Nat) : Prop where
  ex : ∃ D : DataW Unit, w.ownsMap Tryz.prog 9 slE b n D ∧ (∀ k, Maps.has D (.string k) = (F k).isSome) ∧ (∀ k v, F k = some v → ∃ y, slE v = some (y, []) ∧ ∀ zd, D.atKey (.string k) zd = y) ∧ Maps.size D = n
/-- A name gets a value. -/
def upd (F : List UInt8 → Option Value) (k : List UInt8) (v : Option Value) : List UInt8 → Option Value := fun x => if x = k then v else F x
section
variable {w w' : World} {b n : Nat} {F : List UInt8 → Option Value}
theorem tight {D : DataW Unit} {m : Nat} (h : w.ownsMap Tryz.prog 9 slE b m D) : w.ownsMap Tryz.prog 9 slE b (Maps.size D) D := by
  obtain ⟨es, clock, hb, F, hs, rfl⟩ := h
  exact ⟨es, clock, hb, F, by simp [Maps.size, length_sorted], rfl⟩
theorem Mp.made (w : World) : Mp (w.alloc (.map #[] 0)) w.heap.size (fun _ => none) 0 :=
  ⟨⟨.map [], World.ownsMap_made w _ _ _, fun _ => rfl, fun k v h => (by cases h), rfl⟩⟩
theorem Mp.lt (h : Mp w b F n) : b < w.heap.size := h.ex.choose_spec.1.lt
theorem Mp.block (h : Mp w b F n) : ∃ es cl, w.heap[b]? = some (.map es cl) := by
  obtain ⟨D, ⟨es, cl, hb, _⟩, _⟩ := h.ex
  exact ⟨es, cl, hb⟩
theorem Mp.of_block (h : Mp w b F n) (e : w'.heap[b]? = w.heap[b]?) : Mp w' b F n := by
  obtain ⟨D, ⟨es, cl, hb, r⟩, r2⟩ := h.ex
  exact ⟨⟨D, ⟨es, cl, e.trans hb, r⟩, r2⟩⟩
/-- v, ok := m[k]: there. -/
theorem Mp.look_ok (h : Mp w b F n) {s : ByteArray} (hs : s.size ≤ maxLen) {v : Value} (hv : F s.data.toList = some v) : (Instr.lookup 230 (.map (some b)) (.string s) true).run Tryz.prog w = .ok (.tuple #[v, .bool true]) w := by
  obtain ⟨D, ho, hh, ha, _⟩ := h.ex
  obtain ⟨v', ps, hr, hv'⟩ := ho.look_ok lawS Tryz.underlying230 (zeroSl w) slE_nil (keyS s hs)
  obtain ⟨y, hy, hat⟩ := ha _ _ hv
  rw [hat] at hv'
  rw [hh, hv, slE_inj hv' hy] at hr
  exact hr
/-- .. not there. -/
theorem Mp.look_no (h : Mp w b F n) {s : ByteArray} (hs : s.size ≤ maxLen) (hv : F s.data.toList = none) : (Instr.lookup 230 (.map (some b)) (.string s) true).run Tryz.prog w = .ok (.tuple #[.slice none 0 0, .bool false]) w := by
  obtain ⟨D, ho, hh, ha, _⟩ := h.ex
  obtain ⟨v', ps, hr, hv'⟩ := ho.look_ok lawS Tryz.underlying230 (zeroSl w) slE_nil (keyS s hs)
  have hhas : Maps.has D (.string s.data.toList) = false := by rw [hh, hv]; rfl
  rw [Maps.atKey_of_not_has hhas] at hv'
  rw [hhas, slE_inj hv' slE_nil] at hr
  exact hr
/-- m[k]. -/
theorem Mp.look (h : Mp w b F n) {s : ByteArray} (hs : s.size ≤ maxLen) : (Instr.lookup 230 (.map (some b)) (.string s) false).run Tryz.prog w = .ok ((F s.data.toList).getD (.slice none 0 0)) w := by
  obtain ⟨D, ho, hh, ha, _⟩ := h.ex
  obtain ⟨v', ps, hr, hv'⟩ := ho.lookup lawS Tryz.underlying230 (zeroSl w) slE_nil (keyS s hs)
  cases hF : F s.data.toList with
  | none =>
    have hhas : Maps.has D (.string s.data.toList) = false := by rw [hh, hF]; rfl
    rw [Maps.atKey_of_not_has hhas] at hv'
    rw [slE_inj hv' slE_nil] at hr
    exact hr
  | some v =>
    obtain ⟨y, hy, hat⟩ := ha _ _ hF
    rw [hat] at hv'
    rw [slE_inj hv' hy] at hr
    exact hr
/-- len(m). -/
theorem Mp.len (h : Mp w b F n) (ty : TypeId) : (Builtin.len_ #[230] ty #[.map (some b)]).run Tryz.prog w = .ok (.int .i64 (n : Int)) w := by
  obtain ⟨D, ho, _, _, hn⟩ := h.ex
  rw [← hn]
  exact ho.len Tryz.underlying230 ty
theorem str_ne {a b : List UInt8} (h : a ≠ b) : (Lit.string a) ≠ .string b := fun e => h (by cases e; rfl)
/-- m[k] = v. -/
theorem Mp.put (h : Mp w b F n) (hn : n < maxLen) {s : ByteArray} (hs : s.size ≤ maxLen) {v : Value} {y : DataW Unit} (hv : slE v = some (y, [])) : ∃ w', (Instr.mapUpdate 230 (.map (some b)) (.string s) v).run Tryz.prog w = .ok () w' ∧ Mp w' b (upd F s.data.toList (some v)) (if (F s.data.toList).isSome then n else n + 1) ∧ w.mapTurned w' b := by
  obtain ⟨D, ho, hh, ha, hsz⟩ := h.ex
  obtain ⟨w', hr, ho', ht⟩ := ho.store lawS Tryz.underlying230 hn (keyS s hs) hv
  have hm := ho.isMap
  have hkl : WideAt.IsKeyLit (.string s.data.toList) := lawS.key (keyS s hs)
  have hsz' : Maps.size (D.put (.string s.data.toList) y) = if (F s.data.toList).isSome then n else n + 1 := by
    rw [Maps.size_put (ho.tidy lawS), hh, hsz]
  refine ⟨w', hr, ⟨⟨_, by rw [← hsz']; exact tight ho', fun k => ?_, fun k v' hk => ?_, hsz'⟩⟩, ht⟩
  · unfold upd
    by_cases hk : k = s.data.toList
    · rw [if_pos hk, hk, Maps.has_put_same hm hkl]
      rfl
    · rw [if_neg hk, Maps.has_put_other (str_ne hk), hh]
  · unfold upd at hk
    by_cases e : k = s.data.toList
    · rw [if_pos e] at hk
      cases hk
      exact ⟨y, hv, fun zd => by rw [e, Maps.atKey_put_same hm hkl]⟩
    · rw [if_neg e] at hk
      obtain ⟨y', hy', hat⟩ := ha k v' hk
      exact ⟨y', hy', fun zd => by rw [Maps.atKey_put_other (str_ne e), hat]⟩
/-- delete(m, k). -/
theorem Mp.del (h : Mp w b F n) {s : ByteArray} (hs : s.size ≤ maxLen) (ty : TypeId) : ∃ w', (Builtin.delete_ #[230, 9] ty #[.map (some b), .string s]).run Tryz.prog w = .ok (.tuple #[]) w' ∧ Mp w' b (upd F s.data.toList none) (if (F s.data.toList).isSome then n - 1 else n) ∧ w.mapTurned w' b := by
  obtain ⟨D, ho, hh, ha, hsz⟩ := h.ex
  obtain ⟨w', hr, ho', ht⟩ := ho.drop lawS Tryz.underlying230 (keyS s hs) ty
  have hsz' : Maps.size (D.del (.string s.data.toList)) = if (F s.data.toList).isSome then n - 1 else n := by
    have e := Maps.size_del (k := .string s.data.toList) (ho.tidy lawS)
    rw [hh, hsz] at e
    split <;> rename_i hF <;> simp [hF] at e <;> omega
  refine ⟨w', hr, ⟨⟨_, by rw [← hsz']; exact tight ho', fun k => ?_, fun k v' hk => ?_, hsz'⟩⟩, ht⟩
  · unfold upd
    by_cases hk : k = s.data.toList
    · rw [if_pos hk, hk, Maps.has_del_same]
      rfl
    · rw [if_neg hk, Maps.has_del_other (str_ne hk), hh]
  · unfold upd at hk
    by_cases e : k = s.data.toList
    · rw [if_pos e] at hk
      cases hk
    · rw [if_neg e] at hk
      obtain ⟨y', hy', hat⟩ := ha k v' hk
      exact ⟨y', hy', fun zd => by rw [Maps.atKey_del_other (str_ne e), hat]⟩
/-- What reads has a form. -/
theorem Mp.form (h : Mp w b F n) {k : List UInt8} {v : Value} (hv : F k = some v) : ∃ ao m c, v = .slice ao m c := by
  obtain ⟨D, _, _, ha, _⟩ := h.ex
  obtain ⟨y, hy, _⟩ := ha k v hv
  rcases slE_form hy with rfl | ⟨g, m, c, rfl⟩
  · exact ⟨_, _, _, rfl⟩
  · exact ⟨_, _, _, rfl⟩
end
end Go.Proofs.YtppooipamibhoaaGreatDoor
namespace Go.Proofs.YtppooipamibhoaaGreatDoor
open Go.RowKit
open Go.Deep
open Go.Maps
open Go.MapKept Go.ChangeMaps
/-- Files: what stands under each name, and how many there are. -/
structure FS where
  get : List UInt8 → Option (List UInt8)
  n : Nat
def FS.none : FS := ⟨fun _ => Option.none, 0⟩
def FS.put (f : FS) (k l : List UInt8) : FS := ⟨fun x => if x = k then some l else f.get x, if (f.get k).isSome then f.n else f.n + 1⟩
def FS.del (f : FS) (k : List UInt8) : FS := ⟨fun x => if x = k then Option.none else f.get x, if (f.get k).isSome then f.n - 1 else f.n⟩
def FS.at (f : FS) (k : List UInt8) : List UInt8 := (f.get k).getD []
/-- w' is w but for blocks of S and new ones. -/
structure Fr (S : Nat → Prop) (w w' : World) : Prop where
  os : w'.os = w.os
  tape : w'.tape = w.tape
  output : w'.output = w.output
  size : w.heap.size ≤ w'.heap.size
  block : ∀ k, k < w.heap.size → ¬ S k → w'.heap[k]? = w.heap[k]?
/-- S, and what is new. -/
def grow (S : Nat → Prop) (w w' : World) : Nat → Prop := fun g => S g ∨ (w.heap.size ≤ g ∧ g < w'.heap.size)
section
variable {S S' : Nat → Prop} {w w1 w2 w' : World} {b n : Nat} {F : List UInt8 → Option Value} {f : FS}
theorem Fr.refl (S : Nat → Prop) (w : World) : Fr S w w := ⟨rfl, rfl, rfl, Nat.le_refl _, fun _ _ _ => rfl⟩
theorem Fr.mono (h : Fr S w w') (hs : ∀ g, S g → S' g) : Fr S' w w' := ⟨h.os, h.tape, h.output, h.size, fun k hk hn => h.block k hk fun e => hn (hs k e)⟩
theorem Fr.trans (h : Fr S w w1) (k : Fr (grow S w w1) w1 w2) : Fr S w w2 :=
  ⟨k.os.trans h.os, k.tape.trans h.tape, k.output.trans h.output, Nat.le_trans h.size k.size, fun i hi hn => (k.block i (Nat.lt_of_lt_of_le hi h.size) (fun e => by
    rcases e with e | ⟨e, _⟩
    · exact hn e
    · omega)).trans (h.block i hi hn)⟩
theorem Fr.trans' (h : Fr S w w1) (k : Fr S w1 w2) : Fr S w w2 := h.trans (k.mono fun _ e => .inl e)
theorem Fr.of_below (h : Below w.heap.size w w') : Fr S w w' := ⟨h.os, h.tape, h.output, h.size, fun k hk _ => h.block k hk⟩
theorem Fr.below (h : Fr S w w') {B : Nat} (hB : B ≤ w.heap.size) (hS : ∀ g, S g → B ≤ g) : Below B w w' :=
  ⟨h.os, h.tape, h.output, h.size, fun k hk => h.block k (by omega) fun e => by have := hS k e; omega⟩
theorem Fr.of_grown {row : Option Nat} (h : w.grownBy w' row) (hr : ∀ g, row = some g → S g) : Fr S w w' :=
  ⟨h.os, h.tape, h.output, h.size, fun k hk hn => h.block k hk fun e => hn (hr k e.symm)⟩
theorem Fr.setCell (w : World) {p : Addr} (hp : S p.block) (v : Value) : Fr S w (w.setCell p v) :=
  ⟨rfl, rfl, rfl, by simp [World.setCell], fun k _ hn => Below.heap_setCell _ _ _ _ (fun e => hn (by rw [e]; exact hp))⟩
theorem Fr.row (h : Fr S w w') {g n : Nat} {t : TypeId} {c : Nat → Value} (hr : w.rowIs g t n c) (hg : ¬ S g) : w'.rowIs g t n c :=
  World.rowIs.of_block hr (h.block g (World.rowIs.lt hr) hg)
theorem grow_grow (h1 : w.heap.size ≤ w1.heap.size) (h2 : w1.heap.size ≤ w2.heap.size) : grow (grow S w w1) w1 w2 = grow S w w2 := by
  funext g
  apply propext
  unfold grow
  constructor
  · rintro ((h | ⟨h, k⟩) | ⟨h, k⟩)
    · exact .inl h
    · exact .inr ⟨h, by omega⟩
    · exact .inr ⟨by omega, k⟩
  · rintro (h | ⟨h, k⟩)
    · exact .inl (.inl h)
    · by_cases c : g < w1.heap.size
      · exact .inl (.inr ⟨h, c⟩)
      · exact .inr ⟨by omega, k⟩
theorem grow_lt (h : ∀ g, S g → g < w.heap.size) (hs : w.heap.size ≤ w'.heap.size) : ∀ g, grow S w w' g → g < w'.heap.size := fun g hg => by
  rcases hg with hg | ⟨_, hg⟩
  · have := h g hg
    omega
  · exact hg
theorem grow_self (S : Nat → Prop) (w : World) : grow S w w = S := by
  funext g
  apply propext
  unfold grow
  constructor
  · rintro (h | ⟨h, k⟩)
    · exact h
    · omega
  · exact .inl
/-- Files that stand in the map at block b, but for those named by X. -/
structure Fq (X : List UInt8 → Prop) (w : World) (b : Nat) (F : List UInt8 → Option Value) (f : FS) (S : Nat → Prop) : Prop where
  mp : Mp w b F f.n
  dom : ∀ k, (F k).isSome = (f.get k).isSome
  own : ∀ k v l, ¬ X k → F k = some v → f.get k = some l → Own w v l
  ins : ∀ k v g, ¬ X k → F k = some v → v.ownBlock = some g → S g
  one : ∀ k k' v v' g, ¬ X k → ¬ X k' → F k = some v → F k' = some v' → v.ownBlock = some g → v'.ownBlock = some g → k = k'
  self : S b
  lt : ∀ g, S g → g < w.heap.size
/-- Files that stand in the map at block b. -/
abbrev Fs (w : World) (b : Nat) (F : List UInt8 → Option Value) (f : FS) (S : Nat → Prop) : Prop := Fq (fun _ => False) w b F f S
theorem Own.of_block {v : Value} {l : List UInt8} (h : Own w v l) (e : ∀ g, v.ownBlock = some g → w'.heap[g]? = w.heap[g]?) : Own w' v l := by
  refine ⟨h.1, ?_⟩
  rcases h.2 with hn | ⟨g, cap, cur, rfl, hb, hg, r⟩
  · exact .inl hn
  · exact .inr ⟨g, cap, cur, rfl, hb, (e g rfl).trans hg, r⟩
theorem Own.blk {v : Value} {l : List UInt8} {g : Nat} (h : Own w v l) (e : v.ownBlock = some g) : ∃ cur, w.heap[g]? = some (.cells cur 5 (0, 0)) := by
  rcases h.2 with ⟨rfl, _⟩ | ⟨g1, cap, cur, rfl, hb, hg, r⟩
  · cases e
  · cases e
    exact ⟨cur, hg⟩
theorem Own.ltb {v : Value} {l : List UInt8} {g : Nat} (h : Own w v l) (e : v.ownBlock = some g) : g < w.heap.size := by
  obtain ⟨cur, hg⟩ := h.blk e
  exact lt_heap hg
theorem Fq.frame {X : List UInt8 → Prop} (h : Fq X w b F f S) (hs : w.heap.size ≤ w'.heap.size) (e : ∀ g, S g → w'.heap[g]? = w.heap[g]?) : Fq X w' b F f S :=
  ⟨h.mp.of_block (e b h.self), h.dom, fun k v l hx hv hl => (h.own k v l hx hv hl).of_block fun g hg => e g (h.ins k v g hx hv hg), h.ins, h.one, h.self, fun g hg => Nat.lt_of_lt_of_le (h.lt g hg) hs⟩
theorem Fq.below {X : List UInt8 → Prop} (h : Fq X w b F f S) (hb : Below w.heap.size w w') : Fq X w' b F f S :=
  h.frame hb.size fun g hg => hb.block g (h.lt g hg)
theorem Fq.wide {X : List UInt8 → Prop} (h : Fq X w b F f S) (hs : ∀ g, S g → S' g) (hl : ∀ g, S' g → g < w.heap.size) : Fq X w b F f S' :=
  ⟨h.mp, h.dom, h.own, fun k v g hx hv hg => hs g (h.ins k v g hx hv hg), h.one, hs b h.self, hl⟩
/-- Another's frame: what it may write is apart. -/
theorem Fq.apart {X : List UInt8 → Prop} (h : Fq X w b F f S) (hr : Fr S' w w') (ha : ∀ g, S g → ¬ S' g) : Fq X w' b F f S :=
  h.frame hr.size fun g hg => hr.block g (h.lt g hg) (ha g hg)
/-- The map's block is no row of bytes. -/
theorem Fq.ne {X : List UInt8 → Prop} (h : Fq X w b F f S) {v : Value} {l : List UInt8} {g : Nat} (o : Own w v l) (e : v.ownBlock = some g) : g ≠ b := fun c => by
  obtain ⟨es, cl, hb⟩ := h.mp.block
  obtain ⟨cur, hg⟩ := o.blk e
  rw [c, hb] at hg
  cases hg
/-- What stands under a name, as a value. -/
def vl (F : List UInt8 → Option Value) (k : List UInt8) : Value := (F k).getD (.slice none 0 0)
theorem Fq.ownv (h : Fs w b F f S) (k : List UInt8) : Own w (vl F k) (f.at k) := by
  unfold vl FS.at
  have hd := h.dom k
  cases hF : F k with
  | none =>
    rw [hF] at hd
    cases hf : f.get k with
    | none => exact Own.nil w
    | some l => rw [hf] at hd; cases hd
  | some v =>
    rw [hF] at hd
    cases hf : f.get k with
    | none => rw [hf] at hd; cases hd
    | some l => exact h.own k v l (fun e => e) hF hf
theorem val_some {v : Value} {k : List UInt8} {g : Nat} (hv : vl F k = v) (hg : v.ownBlock = some g) : F k = some v := by
  unfold vl at hv
  cases hF : F k with
  | none => rw [hF] at hv; subst hv; cases hg
  | some u => rw [hF] at hv; exact congrArg some hv
/-- A file's memory is turned, or it is laid anew. -/
theorem Fq.onto (h : Fs w b F f S) {k : List UInt8} {v v2 : Value} (hv : vl F k = v) (on : Onto w w2 v v2) : Fq (fun x => x = k) w2 b F f (grow S w w2) := by
  have hs := on.grown.size
  have ov := h.ownv k
  rw [hv] at ov
  have keep : ∀ g, S g → v.ownBlock ≠ some g → w2.heap[g]? = w.heap[g]? := fun g hg hne => on.grown.block g (h.lt g hg) (fun e => hne e.symm)
  refine ⟨h.mp.of_block (keep b h.self fun e => h.ne ov e rfl), h.dom, fun k' v' l hx hv' hl => ?_, fun k' v' g hx hv' hg => .inl (h.ins k' v' g (fun e => e) hv' hg), fun k1 k2 v1 v2 g _ _ => h.one k1 k2 v1 v2 g (fun e => e) (fun e => e), .inl h.self, grow_lt h.lt hs⟩
  refine (h.own k' v' l (fun e => e) hv' hl).of_block fun g hg => keep g (h.ins k' v' g (fun e => e) hv' hg) fun e => ?_
  exact hx (h.one k' k v' v g (fun e => e) (fun e => e) hv' (val_some hv e) hg e)
/-- What lies beside all other files. -/
theorem Fq.beside (h : Fs w b F f S) {k : List UInt8} {v v2 : Value} (hv : vl F k = v) (on : Onto w w2 v v2) : ∀ k' v' g, k' ≠ k → F k' = some v' → v'.ownBlock = some g → v2.ownBlock ≠ some g := fun k' v' g hk hF hg e => by
  rcases on.lies with hl | ⟨g2, hl, hge⟩
  · rw [hl] at e
    exact hk (h.one k' k v' v g (fun e => e) (fun e => e) hF (val_some hv e) hg e)
  · rw [hl] at e
    cases e
    have := h.lt g (h.ins k' v' g (fun e => e) hF hg)
    omega
theorem FS.put_get (f : FS) (k l x : List UInt8) : (f.put k l).get x = if x = k then some l else f.get x := rfl
theorem FS.del_get (f : FS) (k x : List UInt8) : (f.del k).get x = if x = k then Option.none else f.get x := rfl
/-- m[k] = v, where all files but that of k stand. -/
theorem Fq.put {k : List UInt8} (h : Fq (fun x => x = k) w b F f S) {s : ByteArray} (hk : s.data.toList = k) (hn : f.n < maxLen) (hs : s.size ≤ maxLen) {v : Value} {l : List UInt8} (o : Own w v l) (hS : ∀ g, v.ownBlock = some g → S g)
    (hne : ∀ k' v' g, k' ≠ k → F k' = some v' → v'.ownBlock = some g → v.ownBlock ≠ some g) : ∃ w3, (Instr.mapUpdate 230 (.map (some b)) (.string s) v).run Tryz.prog w = .ok () w3 ∧ Fs w3 b (upd F k (some v)) (f.put k l) S ∧ w.grownBy w3 (some b) ∧ w3.heap.size = w.heap.size := by
  obtain ⟨y, hy⟩ := o.slE
  obtain ⟨w3, hr, hm, ht⟩ := h.mp.put hn hs hy
  have hg := ht.grown
  have hsz : w3.heap.size = w.heap.size := by
    obtain ⟨es, clock, es', clock', hb, rfl⟩ := ht
    simp [setBlock]
  have keep : ∀ {v' : Value} {l' : List UInt8}, Own w v' l' → Own w3 v' l' := fun {v' l'} o' => o'.of_block fun g e => hg.block g (o'.ltb e) fun c => h.ne o' e (by cases c; rfl)
  rw [hk] at hm
  refine ⟨w3, hr, ⟨?_, fun x => ?_, fun x v' l' _ hv' hl' => ?_, fun x v' g _ hv' hg' => ?_, fun x x' v1 v2 g _ _ h1 h2 e1 e2 => ?_, h.self, fun g hg' => by rw [hsz]; exact h.lt g hg'⟩, hg, hsz⟩
  · have e : (f.put k l).n = if (F k).isSome then f.n else f.n + 1 := by
      rw [h.dom]
      rfl
    rw [e]
    exact hm
  · rw [FS.put_get]
    unfold upd
    split
    · rfl
    · exact h.dom x
  · rw [FS.put_get] at hl'
    unfold upd at hv'
    split at hv' <;> rename_i hx
    · rw [if_pos hx] at hl'
      cases hv'
      cases hl'
      exact keep o
    · rw [if_neg hx] at hl'
      exact keep (h.own x v' l' hx hv' hl')
  · unfold upd at hv'
    split at hv' <;> rename_i hx
    · cases hv'
      exact hS g hg'
    · exact h.ins x v' g hx hv' hg'
  · unfold upd at h1 h2
    split at h1 <;> rename_i hx <;> split at h2 <;> rename_i hx'
    · rw [hx, hx']
    · cases h1
      exact absurd e1 (hne x' v2 g hx' h2 e2)
    · cases h2
      exact absurd e2 (hne x v1 g hx h1 e1)
    · exact h.one x x' v1 v2 g hx hx' h1 h2 e1 e2
/-- delete(m, k). -/
theorem Fq.del (h : Fs w b F f S) {s : ByteArray} {k : List UInt8} (hk : s.data.toList = k) (hs : s.size ≤ maxLen) (ty : TypeId) : ∃ w3, (Builtin.delete_ #[230, 9] ty #[.map (some b), .string s]).run Tryz.prog w = .ok (.tuple #[]) w3 ∧ Fs w3 b (upd F k none) (f.del k) S ∧ w.grownBy w3 (some b) ∧ w3.heap.size = w.heap.size := by
  obtain ⟨w3, hr, hm, ht⟩ := h.mp.del hs ty
  have hg := ht.grown
  have hsz : w3.heap.size = w.heap.size := by
    obtain ⟨es, clock, es', clock', hb, rfl⟩ := ht
    simp [setBlock]
  have keep : ∀ {v' : Value} {l' : List UInt8}, Own w v' l' → Own w3 v' l' := fun {v' l'} o' => o'.of_block fun g e => hg.block g (o'.ltb e) fun c => h.ne o' e (by cases c; rfl)
  rw [hk] at hm
  refine ⟨w3, hr, ⟨?_, fun x => ?_, fun x v' l' _ hv' hl' => ?_, fun x v' g _ hv' hg' => ?_, fun x x' v1 v2 g _ _ h1 h2 e1 e2 => ?_, h.self, fun g hg' => by rw [hsz]; exact h.lt g hg'⟩, hg, hsz⟩
  · have e : (f.del k).n = if (F k).isSome then f.n - 1 else f.n := by
      rw [h.dom]
      rfl
    rw [e]
    exact hm
  · rw [FS.del_get]
    unfold upd
    split
    · rfl
    · exact h.dom x
  · rw [FS.del_get] at hl'
    unfold upd at hv'
    split at hv' <;> rename_i hx
    · cases hv'
    · rw [if_neg hx] at hl'
      exact keep (h.own x v' l' (fun e => e) hv' hl')
  · unfold upd at hv'
    split at hv'
    · cases hv'
    · exact h.ins x v' g (fun e => e) hv' hg'
  · unfold upd at h1 h2
    split at h1
    · cases h1
    · split at h2
      · cases h2
      · exact h.one x x' v1 v2 g (fun e => e) (fun e => e) h1 h2 e1 e2
end
end Go.Proofs.YtppooipamibhoaaGreatDoor
namespace Go.Proofs.YtppooipamibhoaaGreatDoor
open Go.RowKit
open Go.Deep
open Go.Lib
theorem addr_add (g o j : Nat) : (⟨g, o, none⟩ : Addr).add j = ⟨g, o + j, none⟩ := by unfold Addr.add; split <;> simp_all
/-- The slice from a place on. -/
def slv : Value → Nat → Value
  | .slice a n c, k => .slice (if c = k then a else a.map (·.add k)) (n - k) (c - k)
  | v, _ => v
/-- .. up to a place. -/
def cutv : Value → Nat → Value
  | .slice a _ c, k => .slice a k c
  | v, _ => v
section
variable {w : World} {v : Value} {l : List UInt8}
theorem run_slv (h : Own w v l) (k : Nat) (hk : k ≤ l.length) (W : World) : (Instr.slice 258 v (some (.int .i64 (k : Int))) none none).run Tryz.prog W = .ok (slv v k) W := by
  obtain ⟨ao, n, c, rfl, hn⟩ := h.form
  have hn := hn.out
  have hi : k ≤ n := by omega
  simp [Instr.slice, run_underlying Tryz.underlying258, Instr.sliceBounds, Instr.sliceBound, asIntOf, hi, slv, Result.andThen]
theorem run_cutv (h : Own w v l) (k : Nat) (hk : k ≤ l.length) (W : World) : (Instr.slice 258 v none (some (.int .i64 (k : Int))) none).run Tryz.prog W = .ok (cutv v k) W := by
  rcases h.2 with ⟨rfl, h0⟩ | ⟨g, cap, cur, rfl, _, _, hnc, _⟩
  · have : k = 0 := by omega
    subst this
    simp [Instr.slice, run_underlying Tryz.underlying258, Instr.sliceBounds, Instr.sliceBound, asIntOf, cutv, Result.andThen]
  · have hi : k ≤ cap := by omega
    simp [Instr.slice, run_underlying Tryz.underlying258, Instr.sliceBounds, Instr.sliceBound, asIntOf, hi, cutv, Result.andThen, addr_add]
theorem run_slvA (h : Own w v l) (k : Nat) (hk : k ≤ l.length) (W : World) : (Instr.sliceAt 258 v (some (.int .i64 (k : Int))) none none).run Tryz.prog W = .ok (slv v k) W := by
  simp only [Instr.sliceAt, run_underlying Tryz.underlying258, Sem.run_bind, Result.andThen_ok]
  exact run_slv h k hk W
theorem run_cutvA (h : Own w v l) (k : Nat) (hk : k ≤ l.length) (W : World) : (Instr.sliceAt 258 v none (some (.int .i64 (k : Int))) none).run Tryz.prog W = .ok (cutv v k) W := by
  simp only [Instr.sliceAt, run_underlying Tryz.underlying258, Sem.run_bind, Result.andThen_ok]
  exact run_cutv h k hk W
theorem Own.cut (h : Own w v l) (k : Nat) (hk : k ≤ l.length) : Own w (cutv v k) (l.take k) ∧ (cutv v k).ownBlock = v.ownBlock := by
  have hl : (l.take k).length = k := by simp; omega
  rcases h.2 with ⟨rfl, h0⟩ | ⟨g, cap, cur, rfl, hb, hg, hnc, hm, hsz, ht⟩
  · have : l = [] := List.eq_nil_of_length_eq_zero h0
    subst this
    have : k = 0 := by simpa using hk
    subst this
    exact ⟨Own.nil w, rfl⟩
  · refine ⟨⟨by rw [cellsL_len, hl]; omega, .inr ⟨g, cap, cur, by rw [hl]; rfl, hb, hg, by omega, hm, hsz, ?_⟩⟩, rfl⟩
    rw [hl, Nat.mul_one]
    rw [Nat.mul_one] at ht
    have e : cellsL (l.take k) = (cellsL l).take k := by simp [cellsL]
    rw [e, ← ht, List.take_take, Nat.min_eq_left hk]
/-- How many bytes a copy turns. -/
def cpn (l : List UInt8) (k : Nat) (s : ByteArray) : Nat := min s.size (l.length - k)
/-- .. and what is there then. -/
def cpl (l : List UInt8) (k : Nat) (s : ByteArray) : List UInt8 := l.take k ++ s.data.toList.take (cpn l k s) ++ l.drop (k + cpn l k s)
theorem run_copyS (h : Own w v l) (k : Nat) (hk : k ≤ l.length) (s : ByteArray) (ty : TypeId) : ∃ w1, (Builtin.copy_ #[258, 9] ty #[slv v k, .string s]).run Tryz.prog w = .ok (.int .i64 (cpn l k s : Nat)) w1 ∧ Own w1 v (cpl l k s) ∧ Onto w w1 v v := by
  obtain ⟨i0, hi, hz0, hz1, hz2⟩ := info_parts info5
  have hss : (List.map (fun b : UInt8 => Value.int IntKind.u8 (b.toNat : Int)) s.data.toList).length = s.size := by simp
  rcases h.2 with ⟨rfl, h0⟩ | ⟨g, cap, cur, rfl, hb, hg, hnc, hm, hsz, ht⟩
  · have : l = [] := List.eq_nil_of_length_eq_zero h0
    subst this
    have : k = 0 := by simpa using hk
    subst this
    refine ⟨w, ?_, by simpa [cpl, cpn] using Own.nil w, Onto.refl _ _⟩
    simp [Builtin.copy_, run_underlying Tryz.underlying258, Builtin.lenOf, Builtin.firstCells, sizeOf, typeInfo, hi, slv, cpn, goInt, Result.andThen]
  · have hcs : cur.size = cap := by simpa using hsz
    rw [Nat.mul_one] at ht
    have hmn : cpn l k s ≤ l.length - k := Nat.min_le_right _ _
    have hms : cpn l k s ≤ s.size := Nat.min_le_left _ _
    have hsl : s.data.toList.length = s.size := by simp
    have htk : List.take (cpn l k s) (List.map (fun b : UInt8 => Value.int IntKind.u8 (b.toNat : Int)) s.data.toList) = cellsL (s.data.toList.take (cpn l k s)) := by
      rw [cellsL, ← List.map_take]
    have hcl : (cellsL (s.data.toList.take (cpn l k s))).length = cpn l k s := by rw [cellsL_len, List.length_take]; omega
    have hst := run_storeCells_at Tryz.prog g k 5 (cellsL (s.data.toList.take (cpn l k s))) 0 cur w hg (by rw [hcl]; omega) (fun u hu => by simp only [cellsL, List.mem_map] at hu; obtain ⟨b, _, rfl⟩ := hu; rfl)
    simp only [Nat.add_zero, hcl] at hst
    have hcur : cur.toList.take l.length = cellsL l := ht
    refine ⟨w.setRow g (cur.toList.take k ++ cellsL (s.data.toList.take (cpn l k s)) ++ cur.toList.drop (k + cpn l k s)).toArray, ?_, ?_, ⟨⟨rfl, rfl, rfl, by simp, fun j _ hj => setRow_other w g j _ (fun e => hj (by simp [Value.ownBlock, e]))⟩, .inl rfl⟩⟩
    · have hmin : Nat.min s.size (l.length - k) = cpn l k s := rfl
      by_cases c : cap = k
      · have hc0 : cpn l k s = 0 := by omega
        have e0 : cur.toList.take k ++ cellsL (s.data.toList.take (cpn l k s)) ++ cur.toList.drop (k + cpn l k s) = cur.toList := by
          rw [hc0]
          simp [cellsL]
        rw [e0]
        have e1 : w.setRow g cur.toList.toArray = w := by
          have := run_storeCells_at Tryz.prog g 0 5 [] 0 cur w hg (by simp) (by simp)
          simp at this
          simpa [storeCells] using this.symm
        rw [e1]
        simp [Builtin.copy_, run_underlying Tryz.underlying258, Builtin.lenOf, Builtin.firstCells, sizeOf, typeInfo, hi, slv, goInt, hmin, c, hc0, storeCells, Result.andThen]
      · have hsl2 : slv (.slice (some ⟨g, 0, none⟩) l.length cap) k = .slice (some ⟨g, k, none⟩) (l.length - k) (cap - k) := by
          simp [slv, c, addr_add]
        rw [hsl2]
        simp [Builtin.copy_, run_underlying Tryz.underlying258, Builtin.lenOf, Builtin.firstCells, sizeOf, typeInfo, hi, goInt, hmin]
        rw [htk, hst]
        simp [Result.andThen]
    · have hlen : (cpl l k s).length = l.length := by
        simp [cpl]
        omega
      refine ⟨by rw [cellsL_len, Nat.mul_one], .inr ⟨g, cap, _, by rw [hlen], Nat.zero_le _, setRow_heap w g cur _ _ _ hg, by omega, hm, ?_, ?_⟩⟩
      · simp [cellsL_len]
        omega
      · rw [hlen, Nat.mul_one]
        have e1 : cellsL (cpl l k s) = (cellsL l).take k ++ cellsL (s.data.toList.take (cpn l k s)) ++ (cellsL l).drop (k + cpn l k s) := by
          simp [cpl, cellsL]
        rw [e1, ← hcur]
        show List.take l.length (cur.toList.take k ++ cellsL (s.data.toList.take (cpn l k s)) ++ cur.toList.drop (k + cpn l k s)) = _
        generalize cellsL (s.data.toList.take (cpn l k s)) = B at *
        rw [List.take_take, Nat.min_eq_left hk, List.drop_take]
        have e2 : (cur.toList.take k ++ B).length = k + cpn l k s := by rw [List.length_append, List.length_take, hcl, Array.length_toList]; omega
        rw [List.take_append, List.take_of_length_le (l := cur.toList.take k ++ B) (by omega), e2]
/-- A text behind one's own bytes. -/
theorem run_appS (h : Own w v l) (s : ByteArray) (ty : TypeId) (hsm : l.length + s.size ≤ 140737488355328) : ∃ v' w', (Builtin.append_ #[258, 9] ty #[v, .string s]).run Tryz.prog w = .ok v' w' ∧ Own w' v' (l ++ s.data.toList) ∧ Onto w w' v v' := by
  obtain ⟨i0, hi, hz0, hz1, hz2⟩ := info_parts info5
  have hmx : l.length + s.size ≤ maxLen := by unfold maxLen; omega
  have fin : ∀ {v' : Value} {w' : World} {base : Nat}, w'.ownsRow base 5 1 v' (l.length + s.size) (cellsL l ++ strCells s) → Own w' v' (l ++ s.data.toList) := fun {v' w' base} ho => by
    have e : cellsL (l ++ s.data.toList) = cellsL l ++ strCells s := by simp [cellsL, strCells]
    refine ⟨by rw [cellsL_len, Nat.mul_one], ?_⟩
    rw [e, show (l ++ s.data.toList).length = l.length + s.size by simp]
    rcases ho.2 with h1 | ⟨g, cap, cur, h1, _, h3⟩
    · exact .inl h1
    · exact .inr ⟨g, cap, cur, h1, Nat.zero_le _, h3⟩
  rcases h.2 with ⟨hv, h0⟩ | ⟨g, cap, cur, hv, hb, hg, hnc, hm, hsz, ht⟩
  · have hl : l = [] := List.eq_nil_of_length_eq_zero h0
    subst hl
    subst hv
    obtain ⟨v', w', hr, ho, hgr, _⟩ := run_append_own_string (P := Tryz.prog) w w.heap.size 258 9 ty 5 i0 Tryz.underlying258 Tryz.underlying9 hi hz0 hz1 hz2 (.slice none 0 0) 0 [] (World.ownsRow_nil _ _ _ _) s (by simpa using hmx) (by simpa using hsm) (Nat.le_refl _)
    refine ⟨v', w', hr, fin (by simpa [cellsL] using ho), hgr, ?_⟩
    cases hb : v'.ownBlock with
    | none => exact .inl rfl
    | some g => exact .inr ⟨g, rfl, (ho.lt g hb).1⟩
  · subst hv
    obtain ⟨v', w', hr, ho, hgr, _⟩ := run_append_own_string (P := Tryz.prog) w 0 258 9 ty 5 i0 Tryz.underlying258 Tryz.underlying9 hi hz0 hz1 hz2 _ l.length (cellsL l) h s hmx hsm (Nat.zero_le _)
    refine ⟨v', w', hr, fin ho, hgr, ?_⟩
    by_cases hroom : l.length + s.size ≤ cap
    · have hr2 := run_append_room_string (P := Tryz.prog) w 258 9 ty 5 i0 Tryz.underlying258 Tryz.underlying9 hi hz1 g l.length cap cur hg s hroom (by omega)
      rw [hr] at hr2
      injection hr2 with e1 e2
      rw [e1]
      exact .inl rfl
    · have hr2 := run_append_grow_string (P := Tryz.prog) w 258 9 ty 5 i0 (.int .u8 0) Tryz.underlying258 Tryz.underlying9 hi hz0 ⟨g, 0, none⟩ l.length cap (cellsL l) (by rw [hz1, cellsL_len, Nat.mul_one]) (World.ownsRow.cells h rfl) s (by omega) (by omega) (by rw [hz2]; exact growslice_fits (by omega) (by omega))
      rw [hr] at hr2
      injection hr2 with e1 e2
      rw [e1]
      exact .inr ⟨_, rfl, Nat.le_refl _⟩
end
/-- What a write leaves: a text stands from a place on. -/
def wr8 (l : List UInt8) (k : Nat) (s : List UInt8) : List UInt8 := l.take k ++ s ++ l.drop (k + s.length)
theorem cp_app (l : List UInt8) (k : Nat) (s : ByteArray) (hk : k ≤ l.length) : cpl l k s ++ s.data.toList.drop (cpn l k s) = wr8 l k s.data.toList := by
  unfold cpl wr8 cpn
  have hs : s.data.toList.length = s.size := by simp
  by_cases c : s.size ≤ l.length - k
  · rw [Nat.min_eq_left c, List.take_of_length_le (l := s.data.toList) (by omega), List.drop_of_length_le (l := s.data.toList) (by omega), List.append_nil, hs]
  · rw [Nat.min_eq_right (by omega), List.drop_of_length_le (l := l) (i := k + (l.length - k)) (by omega), List.drop_of_length_le (l := l) (by omega), List.append_nil, List.append_nil, List.append_assoc, List.take_append_drop]
end Go.Proofs.YtppooipamibhoaaGreatDoor
