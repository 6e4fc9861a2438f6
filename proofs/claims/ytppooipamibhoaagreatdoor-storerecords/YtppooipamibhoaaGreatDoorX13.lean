/- The contracts of strikes (without a plan) and torn. Disks: does a plan say that the power fails here? Lists of elements of any kind in memory: read, made, appended to. Disks: the first fall of a plan that strikes. Disks: a fall is taken out of a plan: slices.Delete. -/
import Derived.Test.YtppooipamibhoaaGreatDoorX12
import Derived.Test.YtppooipamibhoaaGreatDoorX06
import Derived.Great.BuildSlice
import Derived.Deep.MidRow
import Derived.Deep.DeepAppendRoom
import Derived.Lib.SliceRun
namespace Go.Proofs.YtppooipamibhoaaGreatDoor
open Go.RowKit
open Go.Deep
open Go.Lib
section
set_option maxRecDepth 10000
set_option maxHeartbeats 1000000
theorem index_none (ao : Option Addr) (cap : Nat) (fv : Value) (w : World) : Calls Tryz.prog 269 #[.slice ao 0 cap, fv] w fun e w' => e = .returned (.int .i64 (-1)) ∧ w' = w := by
  go_enter Tryz.func269, Tryz.ntmps269
  go_wp2
  go_loop [8] (fun i => i = .int .i64 0) (fun _ => 0)
  case atStart => rfl
  case round =>
    subst hrel
    go_wp2
    go_ret
    exact ⟨rfl, rfl⟩
theorem strikes_none (gd : Nat) (x : StD) (T : Nat → Prop) (b : Bool) (w : World) (h : DK w gd x T) (hp : x.plan = []) : Calls Tryz.prog 197 #[.pointer (some ⟨gd, 0, none⟩), .bool b] w fun e w' => e = .returned (.bool false) ∧ Below w.heap.size w w' := by
  obtain ⟨S1, S2, mn, ms, vo, vp, h⟩ := h
  have hpl := h.plan
  rw [hp] at hpl
  have hv : ∃ ao cap, vp = .slice ao 0 cap := by
    rcases hpl.2 with ⟨rfl, _⟩ | ⟨g, cap, cur, rfl, _⟩
    · exact ⟨_, _, rfl⟩
    · exact ⟨_, _, rfl⟩
  obtain ⟨ao, cap, rfl⟩ := hv
  have hB : Below w.heap.size w ((w.alloc (.cells #[.pointer (some ⟨gd, 0, none⟩)] 96)).alloc (.cells #[.bool b] 4)) := ((Below.refl _ _).alloc (Nat.le_refl _) _).alloc (by simp) _
  have c4 := (h.below hB).cell 4 (by decide)
  rw [show dc mn ms vo (.slice ao 0 cap) x.made x.dead 4 = .slice ao 0 cap from rfl] at c4
  have HB := hide hB
  have HI := hide fun fv W => index_none ao cap fv W
  clear h hB hpl hp
  go_enter Tryz.func197, Tryz.ntmps197
  go_wp2_with (go_at_call 269; refine (HI.out _ _).mono ?_; rintro e w1 ⟨rfl, hw⟩; subst w1)
  go_ret
  exact ⟨rfl, HB.out⟩
/-- What of a change stays when the power fails at it. -/
def tornC (c : Ch) (n : Int) : Ch := ⟨c.kind, c.name, c.dst, c.pos, c.s.extract 0 (min n.toNat c.s.size)⟩
def tornB (c : Ch) (n : Int) : Bool := decide (c.kind = 0) && decide (1 ≤ n)
theorem torn_no (c : Ch) (n : Int) (w : World) (h : tornB c n = false) : Calls Tryz.prog 199 #[.agg (chv c), .int .i64 n] w fun e w' => e = .returned (.tuple #[.agg zch, .bool false]) ∧ Below w.heap.size w w' := by
  unfold tornB at h
  unfold chv zch
  have h0 := ACh.alloc
  have hb0 := ACh.build
  unfold zch at h0 hb0
  by_cases hk : (c.kind : Int) = 0
  · have hn : ¬ 1 ≤ n := fun e => by
      have : c.kind = 0 := by omega
      simp [this, e] at h
    have hn1 : n < 1 := by omega
    clear h hn
    go_enter Tryz.func199, Tryz.ntmps199
    go_wp2
    refine bodyPost_ret (v := .tuple #[.agg #[.int .i64 0, .string ⟨#[]⟩, .string ⟨#[]⟩, .int .i64 0, .string ⟨#[]⟩], .bool false]) ?_ rfl ⟨rfl, ((Below.refl _ _).alloc (Nat.le_refl _) _).alloc (by simp) _⟩
    unfold results
    rw [Tryz.results199]
    go_simp
  · have hk1 : ((c.kind : Int) == 0) = false := by simpa using hk
    clear h
    go_enter Tryz.func199, Tryz.ntmps199
    go_wp2
    refine bodyPost_ret (v := .tuple #[.agg #[.int .i64 0, .string ⟨#[]⟩, .string ⟨#[]⟩, .int .i64 0, .string ⟨#[]⟩], .bool false]) ?_ rfl ⟨rfl, ((Below.refl _ _).alloc (Nat.le_refl _) _).alloc (by simp) _⟩
    unfold results
    rw [Tryz.results199]
    go_simp
theorem torn_yes (c : Ch) (n : Int) (w : World) (h : tornB c n = true) : Calls Tryz.prog 199 #[.agg (chv c), .int .i64 n] w fun e w' => e = .returned (.tuple #[.agg (chv (tornC c n)), .bool true]) ∧ Below w.heap.size w w' := by
  unfold tornB at h
  simp only [Bool.and_eq_true, decide_eq_true_eq] at h
  obtain ⟨hk, hn⟩ := h
  have hk0 : (c.kind : Int) = 0 := by omega
  have hn1 : ¬ n < 1 := by omega
  unfold tornC chv
  have h0 := ACh.alloc
  unfold zch at h0
  by_cases hl : n ≤ (c.s.size : Int)
  · rw [show min n.toNat c.s.size = n.toNat by omega]
    have i0 : (0 : Int) ≤ n := by omega
    go_enter Tryz.func199, Tryz.ntmps199
    go_wp2
    refine bodyPost_ret (v := .tuple #[.agg #[.int .i64 0, .string c.name, .string c.dst, .int .i64 (c.pos : Int), .string (c.s.extract 0 n.toNat)], .bool true]) ?_ rfl ⟨rfl, ((Below.refl _ _).alloc (Nat.le_refl _) _).alloc (by simp) _⟩
    unfold results
    rw [Tryz.results199]
    go_simp
  · have hx : c.s.extract 0 (min n.toNat c.s.size) = c.s := by
      rw [show min n.toNat c.s.size = c.s.size by omega]
      exact ByteArray.extract_zero_size
    rw [hx]
    have hl1 : (c.s.size : Int) < n := by omega
    go_enter Tryz.func199, Tryz.ntmps199
    go_wp2
    refine bodyPost_ret (v := .tuple #[.agg #[.int .i64 0, .string c.name, .string c.dst, .int .i64 (c.pos : Int), .string c.s], .bool true]) ?_ rfl ⟨rfl, ((Below.refl _ _).alloc (Nat.le_refl _) _).alloc (by simp) _⟩
    unfold results
    rw [Tryz.results199]
    go_simp
end
end Go.Proofs.YtppooipamibhoaaGreatDoor
namespace Go.Proofs.YtppooipamibhoaaGreatDoor
open Go.RowKit
open Go.Deep
open Go.Lib
set_option linter.unusedVariables false
/-- Does a fall strike at that change, or at that sync? -/
def hereB (made : Nat) (b : Bool) (f : Fl) : Bool := decide (f.pos = (made : Int)) && (f.sync == b)
section
set_option maxRecDepth 10000
set_option maxHeartbeats 1000000
theorem strike1_any (f : Fl) (g2 g3 gd made : Nat) (b : Bool) (w : World) (h2 : w.cell? ⟨g2, 0, none⟩ = some (.pointer (some ⟨gd, 0, none⟩))) (h3 : w.cell? ⟨g3, 0, none⟩ = some (.bool b)) (h5 : w.cell? ⟨gd, 3, none⟩ = some (.int .i64 (made : Int))) (l2 : g2 < w.heap.size) (l3 : g3 < w.heap.size) (l5 : gd < w.heap.size) : Calls Tryz.prog 268 #[.agg (flv f).toArray, .pointer (some ⟨g2, 0, none⟩), .pointer (some ⟨g3, 0, none⟩)] w fun e w' => e = .returned (.bool (hereB made b f)) ∧ Below w.heap.size w w' := by
  obtain ⟨fp, fk, ft, fs⟩ := f
  have hB : Below w.heap.size w (w.alloc (.cells #[.int .i64 fp, .int .i64 fk, .int .i64 ft, .bool fs] 114)) := (Below.refl _ _).alloc (Nat.le_refl _) _
  have r := heap_alloc_last w (.cells #[.int .i64 fp, .int .i64 fk, .int .i64 ft, .bool fs] 114)
  have k2 := (hB.cell (p := ⟨g2, 0, none⟩) l2).trans h2
  have k3 := (hB.cell (p := ⟨g3, 0, none⟩) l3).trans h3
  have k5 := (hB.cell (p := ⟨gd, 3, none⟩) l5).trans h5
  have c0 : (w.alloc (.cells #[.int .i64 fp, .int .i64 fk, .int .i64 ft, .bool fs] 114)).cell? ⟨w.heap.size, 0, none⟩ = some (.int .i64 fp) := by rw [cell_of_row _ _ 0 _ _ _ r]; rfl
  have c3 : (w.alloc (.cells #[.int .i64 fp, .int .i64 fk, .int .i64 ft, .bool fs] 114)).cell? ⟨w.heap.size, 3, none⟩ = some (.bool fs) := by rw [cell_of_row _ _ 3 _ _ _ r]; rfl
  have HB := hide hB
  unfold hereB flv
  clear h2 h3 h5 hB r
  go_enter Tryz.func268, Tryz.ntmps268
  go_upto_region 1 with fail
  generalize w.alloc (.cells #[.int .i64 fp, .int .i64 fk, .int .i64 ft, .bool fs] 114) = W0 at *
  by_cases hp : fp = (made : Int)
  · subst hp
    go_region
    go_wp2
    go_ret
    exact ⟨by simp, HB.out.drew⟩
  · have hq : decide (fp = (made : Int)) = false := decide_eq_false hp
    have hq2 : (fp == (made : Int)) = false := by simpa using hp
    go_region
    go_wp2
    go_ret
    exact ⟨by simp [hp], HB.out.drew⟩
end
end Go.Proofs.YtppooipamibhoaaGreatDoor
namespace Go.Proofs.YtppooipamibhoaaGreatDoor
open Go.RowKit
open Go.Deep
/-- A kind of elements: the type of a slice of such, their type, how many cells and bytes each has, and its cells. -/
structure Ek (α : Type) where
  t : TypeId
  e : TypeId
  k : Nat
  b : Nat
  enc : α → List Value
  kpos : 0 < k
  k24 : k ≤ 16777216
  sl : Tryz.prog.underlying t = some (.slice e)
  inf : (Tryz.prog.info? e).map (fun i => (i.zero.map (·.cells.size), i.size, i.bytes)) = some (some k, k, b)
  len : ∀ x, (enc x).length = k
  one : ∀ x, ∀ v ∈ enc x, v.oneCell' = true
section
variable {α : Type} (E : Ek α)
def flatE (L : List α) : List Value := (L.map E.enc).flatten
theorem flatE_nil : flatE E [] = [] := rfl
theorem flatE_cons (a : α) (L : List α) : flatE E (a :: L) = E.enc a ++ flatE E L := by simp [flatE]
theorem flatE_len (L : List α) : (flatE E L).length = L.length * E.k := by
  induction L with
  | nil => simp [flatE_nil]
  | cons a r ih => rw [flatE_cons, List.length_append, E.len, ih, List.length_cons, Nat.add_mul]; omega
theorem flatE_app (A B : List α) : flatE E (A ++ B) = flatE E A ++ flatE E B := by simp [flatE]
theorem flatE_one (a : α) : flatE E [a] = E.enc a := by simp [flatE]
theorem flatE_at (L : List α) : ∀ (i : Nat) (h : i < L.length), ∀ j, j < E.k → (flatE E L)[i * E.k + j]? = (E.enc L[i])[j]? := by
  induction L with
  | nil => intro i hi; simp at hi
  | cons a r ih =>
    intro i hi j hj
    have ha := E.len a
    rcases i with _ | i
    · rw [flatE_cons, List.getElem?_append_left (by omega)]
      simp
    · rw [flatE_cons, List.getElem?_append_right (by rw [Nat.add_mul]; omega), ha, show (i + 1) * E.k + j - E.k = i * E.k + j by rw [Nat.add_mul]; omega, ih i (by simpa using hi) j hj]
      rfl
theorem flatE_cell (L : List α) : ∀ v ∈ flatE E L, v.oneCell' = true := by
  intro v hv
  simp only [flatE, List.mem_flatten, List.mem_map] at hv
  obtain ⟨_, ⟨x, _, rfl⟩, hv⟩ := hv
  exact E.one x v hv
theorem Ek.parts : ∃ i z, Tryz.prog.info? E.e = some i ∧ i.zero = some z ∧ z.cells.size = E.k ∧ i.size = E.k ∧ i.bytes = E.b := by
  have h := E.inf
  cases hi : Tryz.prog.info? E.e with
  | none => rw [hi] at h; cases h
  | some i =>
    rw [hi] at h
    simp only [Option.map_some, Option.some.injEq, Prod.mk.injEq] at h
    obtain ⟨h1, h2, h3⟩ := h
    cases hz : i.zero with
    | none => rw [hz] at h1; cases h1
    | some z =>
      rw [hz] at h1
      exact ⟨i, z, rfl, hz, by simpa using h1, h2, h3⟩
/-- A slice that holds elements. -/
def LX (w : World) (v : Value) (L : List α) : Prop := ∃ ao cap, v = .slice ao L.length cap ∧ L.length ≤ cap ∧ ∀ (i : Nat) (h : i < L.length), ∃ g off, ao = some ⟨g, off, none⟩ ∧ g < w.heap.size ∧ w.rangeAt g (off + i * E.k) (E.enc L[i])
/-- A slice of the program's own making that holds elements. -/
def OX (w : World) (v : Value) (L : List α) : Prop := w.ownsRow 0 E.e E.k v L.length (flatE E L)
end
theorem rangeX_below {w W : World} {B g off : Nat} {cs : List Value} (hr : w.rangeAt g off cs) (hb : Below B w W) (hg : g < B) : W.rangeAt g off cs := fun j v hv => by
  have := hr j v hv
  rw [← this]
  exact hb.cell (p := ⟨g, off + j, none⟩) hg
section
variable {α : Type} {E : Ek α} {w W : World} {v : Value} {L : List α}
theorem LX.below (h : LX E w v L) (hb : Below w.heap.size w W) : LX E W v L := by
  obtain ⟨ao, cap, rfl, h2, h3⟩ := h
  refine ⟨ao, cap, rfl, h2, fun i hi => ?_⟩
  obtain ⟨g, off, e, hg, hr⟩ := h3 i hi
  exact ⟨g, off, e, Nat.lt_of_lt_of_le hg hb.size, rangeX_below hr hb hg⟩
theorem LX.form (h : LX E w v L) : ∃ ao cap, v = .slice ao L.length cap := by
  obtain ⟨ao, cap, e, _⟩ := h
  exact ⟨ao, cap, e⟩
theorem LX.base {ao : Option Addr} {n cap : Nat} (h : LX E w (.slice ao n cap) L) (h0 : 0 < L.length) : ∃ g off, ao = some ⟨g, off, none⟩ := by
  obtain ⟨_, _, e, _, h3⟩ := h
  injection e with e1
  obtain ⟨g, off, e2, _⟩ := h3 0 h0
  exact ⟨g, off, e1.trans e2⟩
theorem LX.range {g off n cap : Nat} (h : LX E w (.slice (some ⟨g, off, none⟩) n cap) L) (i : Nat) (hi : i < L.length) : w.rangeAt g (off + i * E.k) (E.enc L[i]) := by
  obtain ⟨_, _, e, _, h3⟩ := h
  injection e with e1
  subst e1
  obtain ⟨g', off', e2, _, hc⟩ := h3 i hi
  cases e2
  exact hc
theorem LX.lt {g off n cap : Nat} (h : LX E w (.slice (some ⟨g, off, none⟩) n cap) L) (h0 : 0 < L.length) : g < w.heap.size := by
  obtain ⟨_, _, e, _, h3⟩ := h
  injection e with e1
  subst e1
  obtain ⟨g', off', e2, hg, _⟩ := h3 0 h0
  cases e2
  exact hg
theorem LX.nil (w : World) : LX E w (.slice none 0 0) [] := ⟨none, 0, rfl, Nat.le_refl _, fun i hi => by simp at hi⟩
theorem OX.nil (w : World) : OX E w (.slice none 0 0) [] := World.ownsRow_nil _ _ _ _
theorem OX.form (h : OX E w v L) : ∃ ao c, v = .slice ao L.length c := by
  rcases h.2 with ⟨rfl, h0⟩ | ⟨g, cap, cur, rfl, _⟩
  · exact ⟨none, 0, by rw [h0]⟩
  · exact ⟨_, _, rfl⟩
theorem OX.of_block (h : OX E w v L) (hb : ∀ g, v.ownBlock = some g → W.heap[g]? = w.heap[g]?) : OX E W v L := by
  obtain ⟨h2, h3⟩ := h
  refine ⟨h2, ?_⟩
  rcases h3 with ⟨rfl, h0⟩ | ⟨g, cap, cur, rfl, h4, hg, h5⟩
  · exact .inl ⟨rfl, h0⟩
  · exact .inr ⟨g, cap, cur, rfl, h4, (hb g rfl).trans hg, h5⟩
theorem OX.lt (h : OX E w v L) : ∀ g, v.ownBlock = some g → g < w.heap.size := by
  intro g hg
  rcases h.2 with ⟨rfl, h0⟩ | ⟨g', cap, cur, rfl, h4, hb, h5⟩
  · cases hg
  · cases hg
    exact lt_heap hb
theorem OX.below (h : OX E w v L) (hb : Below w.heap.size w W) : OX E W v L := h.of_block fun g hg => hb.block _ (h.lt g hg)
theorem OX.read (h : OX E w v L) : LX E w v L := by
  obtain ⟨h2, h3⟩ := h
  rcases h3 with ⟨rfl, h0⟩ | ⟨g, cap, cur, rfl, hb, hg, hn, hm, hsz, ht⟩
  · exact ⟨none, 0, by rw [h0], by omega, fun i hi => by omega⟩
  · refine ⟨_, cap, rfl, hn, fun i hi => ⟨g, 0, rfl, lt_heap hg, fun j u hu => ?_⟩⟩
    have hj : j < E.k := by
      have := (List.getElem?_eq_some_iff.1 hu).1
      rw [E.len] at this
      exact this
    rw [cell_of_row w g _ cur E.e (0, 0) hg, ← Array.getElem?_toList]
    have e2 := flatE_at E L i hi j hj
    rw [hu, ← ht, List.getElem?_take] at e2
    have hlt : i * E.k + E.k ≤ L.length * E.k := by
      have := Nat.mul_le_mul_right E.k (show i + 1 ≤ L.length by omega)
      rw [Nat.add_mul] at this
      omega
    rw [if_pos (by omega)] at e2
    rw [show 0 + i * E.k + j = i * E.k + j by omega]
    exact e2
/-- The load of an element out of memory. -/
theorem Ek.load {W : World} {g off : Nat} (x : α) {kd : TypeDesc} (hu : Tryz.prog.underlying E.e = some kd) (hk : kd.isRow = true) (hr : W.rangeAt g off (E.enc x)) : (Instr.loadAt E.e (.pointer (some ⟨g, off, none⟩))).run Tryz.prog W = .ok (.agg (E.enc x).toArray) W := by
  obtain ⟨i, z, hi, _, _, hs, _⟩ := E.parts
  exact run_loadAt_mid W g off E.e _ _ hr hu hk (by rw [hi, E.len]; simp [hs])
/-- An append of elements. -/
theorem Ek.app {ty : TypeId} (hown : OX E w v L) (ad : Addr) (m c : Nat) (N : List α) (hm : m = N.length) (hnews : ∀ j u, (flatE E N)[j]? = some u → w.cell? (ad.add j) = some u)
    (hsm : (L.length + m) * E.b ≤ 140737488355328) (h63 : L.length + m ≤ maxLen) :
    ∃ v' w', (Builtin.append_ #[E.t, E.t] ty #[v, .slice (some ad) m c]).run Tryz.prog w = .ok v' w' ∧ OX E w' v' (L ++ N) ∧ Onto w w' v v' := by
  obtain ⟨i0, z, hi, hz0, hzs, hz1, hz2⟩ := E.parts
  obtain ⟨v', w', hr, h2, h3, _, h5⟩ := run_append_own_at (P := Tryz.prog) w 0 E.t ty E.e i0 z E.k E.b E.sl hi hz0 hz1 hz2 hzs E.kpos v L.length (flatE E L) hown ad m c (flatE E N) (by rw [flatE_len, hm]) hnews
    (flatE_cell E N) h63 hsm (Nat.zero_le _)
  refine ⟨v', w', hr, ?_, ⟨h3, ?_⟩⟩
  · unfold OX
    rw [List.length_append, flatE_app, ← hm]
    exact h2
  · rcases h5 with h5 | h5
    · exact .inl h5
    · exact .inr ⟨_, h5, Nat.le_refl _⟩
/-- A slice of one element. -/
theorem Ek.bs1 (w : World) (x : α) : (Instr.buildSlice E.t 1 #[(0, .agg (E.enc x).toArray)]).run Tryz.prog w = .ok (.slice (some ⟨w.heap.size, 0, none⟩) 1 1) (w.alloc (.cells (E.enc x).toArray E.e)) := by
  obtain ⟨i, z, hi, hz, hzs, hs, _⟩ := E.parts
  have hk := E.kpos
  have hcs : (Value.agg (E.enc x).toArray).cells.size = E.k := by
    show (E.enc x).toArray.size = E.k
    rw [List.size_toArray, E.len]
  obtain ⟨r, hr, hrs, hk⟩ := Great.fill_dense (s := E.k) E.kpos [Value.agg (E.enc x).toArray] 0 ((Array.range (1 * E.k)).map (z.cells[· % z.cells.size]!)) (fun v hv => by simp at hv; rw [hv]; exact hcs) (by simp)
  have e1 : r = (E.enc x).toArray := by
    apply Array.ext
    · rw [hrs, show (E.enc x).toArray.size = E.k by rw [List.size_toArray, E.len]]; simp
    · intro k h1 h2
      have hk1 : k < E.k := by rw [List.size_toArray, E.len] at h2; exact h2
      have := hk k
      rw [if_pos ⟨by omega, by simp; omega⟩, Array.getElem?_eq_getElem h1, show k / E.k - 0 = 0 by rw [Nat.div_eq_of_lt hk1], Nat.mod_eq_of_lt hk1] at this
      simp only [List.getElem?_cons_zero, Option.bind_some] at this
      rw [show (Value.agg (E.enc x).toArray).cells = (E.enc x).toArray from rfl, Array.getElem?_eq_getElem h2] at this
      exact Option.some.inj this
  rw [e1] at hr
  refine run_buildSlice (P := Tryz.prog) w E.t E.e 1 #[(0, .agg (E.enc x).toArray)] (E.enc x).toArray i z E.sl hi hz (by rw [hs]; have := E.k24; omega) (by rw [hs]; omega) ?_
  rw [hs]
  exact hr
theorem one_newX (w : World) (x : α) : ∀ j u, (flatE E [x])[j]? = some u → (w.alloc (.cells (E.enc x).toArray E.e)).cell? ((⟨w.heap.size, 0, none⟩ : Addr).add j) = some u := by
  intro j u hu
  rw [flatE_one] at hu
  have hadd : (⟨w.heap.size, 0, none⟩ : Addr).add j = ⟨w.heap.size, 0 + j, none⟩ := by unfold Addr.add; split <;> simp_all
  rw [hadd, cell_of_row _ _ _ _ _ _ (heap_alloc_last w _), Nat.zero_add]
  simpa using hu
end
end Go.Proofs.YtppooipamibhoaaGreatDoor
namespace Go.Proofs.YtppooipamibhoaaGreatDoor
open Go.RowKit
open Go.Deep
open Go.Lib
set_option linter.unusedVariables false
/-- Falls as a list. -/
def KFl : Ek Fl := ⟨116, 114, 4, 32, flv, by decide, by decide, Tryz.underlying116, by kernel_rfl, fun _ => rfl, fun x v hv => by
  unfold flv at hv
  rcases List.mem_cons.1 hv with rfl | hv
  · rfl
  · rcases List.mem_cons.1 hv with rfl | hv
    · rfl
    · rcases List.mem_cons.1 hv with rfl | hv
      · rfl
      · rcases List.mem_cons.1 hv with rfl | hv
        · rfl
        · cases hv⟩
/-- The place of the first one that strikes, or -1. -/
def fstF (made : Nat) (b : Bool) (P : List Fl) : Int := match P.findIdx? (hereB made b) with | some i => (i : Int) | none => -1
theorem fst_at {made : Nat} {b : Bool} {P : List Fl} (k : Nat) (hk : k < P.length) (hn : ∀ f ∈ P.take k, hereB made b f = false) (hy : hereB made b P[k] = true) : fstF made b P = k := by
  unfold fstF
  have : P.findIdx? (hereB made b) = some k := by
    rw [List.findIdx?_eq_some_iff_getElem]
    refine ⟨hk, hy, fun j hj => ?_⟩
    have := hn (P[j]'(by omega)) (by rw [List.mem_take_iff_getElem]; exact ⟨j, by omega, rfl⟩)
    simp [this]
  rw [this]
theorem fst_none {made : Nat} {b : Bool} {P : List Fl} (hn : ∀ f ∈ P, hereB made b f = false) : fstF made b P = -1 := by
  unfold fstF
  rw [List.findIdx?_eq_none_iff.2 hn]
section
set_option maxRecDepth 10000
set_option maxHeartbeats 1000000
theorem index_any (P : List Fl) (v : Value) (g2 g3 gd made : Nat) (b : Bool) (w : World) (hv : LX KFl w v P) (hl : P.length ≤ 4611686018427387904) (h2 : w.cell? ⟨g2, 0, none⟩ = some (.pointer (some ⟨gd, 0, none⟩))) (h3 : w.cell? ⟨g3, 0, none⟩ = some (.bool b)) (h5 : w.cell? ⟨gd, 3, none⟩ = some (.int .i64 (made : Int))) (l2 : g2 < w.heap.size) (l3 : g3 < w.heap.size) (l5 : gd < w.heap.size) : Calls Tryz.prog 269 #[v, .func (.func 268) #[] #[.pointer (some ⟨g2, 0, none⟩), .pointer (some ⟨g3, 0, none⟩)]] w fun e w' => e = .returned (.int .i64 (fstF made b P)) ∧ Below w.heap.size w w' := by
  have HV := hide hv
  obtain ⟨ao, cc, rfl⟩ := hv.form
  have HS := hide fun W (hb : Below w.heap.size w W) (f : Fl) => strike1_any f g2 g3 gd made b W ((hb.cell (p := ⟨g2, 0, none⟩) l2).trans h2) ((hb.cell (p := ⟨g3, 0, none⟩) l3).trans h3) ((hb.cell (p := ⟨gd, 3, none⟩) l5).trans h5) (Nat.lt_of_lt_of_le l2 hb.size) (Nat.lt_of_lt_of_le l3 hb.size) (Nat.lt_of_lt_of_le l5 hb.size)
  have HL := hide hl
  obtain ⟨R, hR⟩ : ∃ R, R = fstF made b P := ⟨_, rfl⟩
  rw [← hR]
  have HR := hide hR
  clear hR hv h2 h3 h5 l2 l3 l5 hl
  go_enter Tryz.func269, Tryz.ntmps269
  go_wp2
  go_loopw [8] (fun i wr => ∃ k : Nat, k ≤ P.length ∧ i = .int .i64 (k : Int) ∧ Hid (∀ f ∈ P.take k, hereB made b f = false) ∧ Hid (Below w.heap.size w wr)) (fun i _ => (P.length - intOf i).toNat)
  case atStart => exact ⟨0, Nat.zero_le _, rfl, (fun f hf => by simp at hf), Below.refl _ _⟩
  case round =>
    obtain ⟨k, hk, rfl, HN, BL⟩ := hrel
    by_cases hlt : k < P.length
    · obtain ⟨g, off, rfl⟩ := HV.out.base (by omega)
      have hr := (HV.out.below BL.out).range k hlt
      have h1 : (0 : Int) ≤ (k : Int) := by omega
      have h2 : (k : Int) < P.length := by omega
      have hll := HL.out
      have e1 : IntKind.i64.wrap ((k : Int) + 1) = k + 1 := wrapI _ (by omega) (by omega)
      have HY : Hid (hereB made b P[k] = true → R = (k : Int)) := fun e => by rw [HR.out]; exact fst_at k hlt HN.out e
      have HM : Hid (hereB made b P[k] = false → ∀ f ∈ P.take (k + 1), hereB made b f = false) := fun e f hf => by
        rw [List.take_succ_eq_append_getElem hlt] at hf
        rcases List.mem_append.1 hf with hf | hf
        · exact HN.out f hf
        · rw [List.mem_singleton.1 hf]
          exact e
      have HK := hide (HS.out wr BL.out P[k])
      generalize P[k] = f at *
      obtain ⟨fp, fk, ft, fs⟩ := f
      have c0 : wr.cell? ⟨g, off + k * 4, none⟩ = some (.int .i64 fp) := hr 0 _ rfl
      have c1 : wr.cell? ⟨g, off + k * 4 + 1, none⟩ = some (.int .i64 fk) := hr 1 _ rfl
      have c2 : wr.cell? ⟨g, off + k * 4 + 2, none⟩ = some (.int .i64 ft) := hr 2 _ rfl
      have c3 : wr.cell? ⟨g, off + k * 4 + 3, none⟩ = some (.bool fs) := hr 3 _ rfl
      unfold flv at HK
      clear hr
      generalize hereB made b ⟨fp, fk, ft, fs⟩ = hb at *
      cases hb
      · have HM2 := hide (HM.out rfl)
        go_wp2_with (go_at_call 268; refine HK.out.mono ?_; rintro e w2 ⟨rfl, b2⟩; have B2 := hide (below_next BL.out b2); clear b2)
        go_roundw
        case rel => exact ⟨k + 1, by omega, by go_num, HM2, B2⟩
        case measure => simp [intOf]; omega
      · have HY2 := hide (HY.out rfl)
        go_wp2_with (go_at_call 268; refine HK.out.mono ?_; rintro e w2 ⟨rfl, b2⟩; have B2 := hide (below_next BL.out b2); clear b2)
        go_ret
        exact ⟨by rw [HY2.out]; rfl, B2.out⟩
    · have h2 : ¬ (k : Int) < P.length := by omega
      have hke : P.take k = P := List.take_of_length_le (by omega)
      have HN2 : Hid (R = -1) := by
        show _ = _
        rw [HR.out]
        exact fst_none (hke ▸ HN.out)
      go_wp2
      go_ret
      exact ⟨by rw [HN2.out]; rfl, BL.out⟩
end
end Go.Proofs.YtppooipamibhoaaGreatDoor
namespace Go.Proofs.YtppooipamibhoaaGreatDoor
open Go.RowKit
open Go.Deep
open Go.Lib
set_option linter.unusedVariables false
section
variable {α : Type} {E : Ek α} {w W : World} {L : List α}
/-- An own row, cut. -/
theorem OX.cut {g n cap : Nat} (h : OX E w (.slice (some ⟨g, 0, none⟩) n cap) L) (k : Nat) (hk : k ≤ L.length) : OX E w (.slice (some ⟨g, 0, none⟩) k cap) (L.take k) := by
  have hl : (L.take k).length = k := by rw [List.length_take]; omega
  obtain ⟨h1, h2⟩ := h
  refine ⟨by rw [flatE_len], .inr ?_⟩
  rcases h2 with ⟨h0, _⟩ | ⟨g', cap', cur, hv, hbg, hg, hnc, hcm, hcs, htake⟩
  · cases h0
  · cases hv
    refine ⟨g, cap, cur, by rw [hl], hbg, hg, by omega, hcm, hcs, ?_⟩
    have e : flatE E L = flatE E (L.take k) ++ flatE E (L.drop k) := by rw [← flatE_app, List.take_append_drop]
    have := congrArg (List.take ((L.take k).length * E.k)) htake
    rw [List.take_take, e, List.take_left' (flatE_len E _)] at this
    rw [Nat.min_eq_left (Nat.mul_le_mul_right _ (by omega))] at this
    exact this
/-- A cell behind an own row's elements is written. -/
theorem OX.behind {g n cap : Nat} (h : OX E w (.slice (some ⟨g, 0, none⟩) n cap) L) (p : Nat) (hp : L.length * E.k ≤ p) (v : Value) : OX E (w.setCell ⟨g, p, none⟩ v) (.slice (some ⟨g, 0, none⟩) n cap) L := by
  obtain ⟨h1, h2⟩ := h
  refine ⟨h1, .inr ?_⟩
  rcases h2 with ⟨h0, _⟩ | ⟨g', cap', cur, hv, hbg, hg, hnc, hcm, hcs, htake⟩
  · cases h0
  · cases hv
    refine ⟨g, cap, cur.setIfInBounds p v, rfl, hbg, heap_setCell_same w g p _ _ v hg, hnc, hcm, by simpa using hcs, ?_⟩
    rw [Array.toList_setIfInBounds, List.take_set_of_le (by omega)]
    exact htake
theorem OX.there {g n cap : Nat} (h : OX E w (.slice (some ⟨g, 0, none⟩) n cap) L) (p : Nat) (hp : p < cap * E.k) : (w.cell? ⟨g, p, none⟩).isSome = true ∧ w.frozen? ⟨g, p, none⟩ = false := by
  rcases h.2 with ⟨h0, _⟩ | ⟨g', cap', cur, hv, hbg, hg, hnc, hcm, hcs, htake⟩
  · cases h0
  · cases hv
    refine ⟨?_, frozen_of_row w _ _ _ _ hg⟩
    rw [cell_of_row _ _ _ _ _ _ hg, Array.getElem?_eq_getElem (by omega)]
    rfl
end
theorem clear_fall (w : World) (ty : TypeId) (g o c : Nat) (hc : ∀ j, j < 4 → (w.cell? ⟨g, o + j, none⟩).isSome = true ∧ w.frozen? ⟨g, o + j, none⟩ = false) :
    (Builtin.clear_ #[116] ty #[.slice (some ⟨g, o, none⟩) 1 c]).run Tryz.prog w = .ok (.tuple #[]) (w.setCells g o [.int .i64 0, .int .i64 0, .int .i64 0, .bool false]) := by
  have hst := run_storeCells_cells (P := Tryz.prog) g o [.int .i64 0, .int .i64 0, .int .i64 0, .bool false] 0 w (fun j hj => (hc j hj).1) (fun j hj => (hc j hj).2) (by intro v hv; simp only [List.mem_cons, List.not_mem_nil, or_false] at hv; rcases hv with rfl | rfl | rfl | rfl <;> rfl)
  simp only [Nat.add_zero] at hst
  have hv : ∀ w, (zeroValue 114).run Tryz.prog w = .ok (.agg #[.int .i64 0, .int .i64 0, .int .i64 0, .bool false]) w := fun w => by kernel_rfl
  have hzc : (Builtin.zeroCells (Value.agg #[.int .i64 0, .int .i64 0, .int .i64 0, .bool false]).cells 1).toList = [.int .i64 0, .int .i64 0, .int .i64 0, .bool false] := by kernel_rfl
  simp [Builtin.clear_, run_underlying Tryz.underlying116, hv, hzc, hst]
end Go.Proofs.YtppooipamibhoaaGreatDoor
