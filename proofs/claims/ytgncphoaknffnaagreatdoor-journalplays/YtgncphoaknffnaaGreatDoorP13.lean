/- Disks that a call made for itself, and awake. The contract of Remove. Lists of elements of any kind in memory: read, made, appended to. A journal in memory, with its disk; and its small calls. Journals: one step behind the other. -/
import Derived.Test.YtgncphoaknffnaaGreatDoorP12
import Derived.Test.YtgncphoaknffnaaGreatDoorP05
import Derived.Great.BuildSlice
import Derived.Deep.MidRow
import Derived.Test.YtgncphoaknffnaaGreatDoorP07
namespace Go.Proofs.YtgncphoaknffnaaGreatDoor
open Go.RowKit
open Go.Deep
open Go.Lib
theorem Vd.mkC {x : StD} {c : Ch} (h : Vd x) (ok : okD x.now c) (h1 : x.loose.length < 10000) (h2 : x.made < 1000000) : Vd (mkC x c) := by
  refine ⟨?_, ?_, ?_, ?_⟩
  · exact okM.snoc h.ok (by show okD (doL x.sure x.loose) c; rw [← h.now]; exact ok)
  · show doC x.now c = doL x.sure (x.loose ++ [c])
    rw [h.now]
    simp [doL]
  · show (x.loose ++ [c]).length ≤ 10000
    simp
    omega
  · show x.made + 1 ≤ 1000000
    omega
theorem Vd.syC {x : StD} (h : Vd x) : Vd (syC x) := ⟨h.ok.end_, h.now, Nat.zero_le _, h.made⟩
theorem Vd.up {x : StD} (h : Vd x) : Vd { x with dead := false } := ⟨h.ok, h.now, h.many, h.made⟩
def x0 : StD := ⟨FS.none, FS.none, [], 0, [], false⟩
theorem Vd.x0 : Vd x0 := ⟨⟨Nat.zero_le _, fun _ => Nat.zero_le _⟩, rfl, Nat.zero_le _, Nat.zero_le _⟩
theorem Vd.bd {x : StD} (h : Vd x) : Bd x.now := by rw [h.now]; exact h.ok.end_
/-- A disk that was made behind B, and all of its memory with it. -/
structure DB (B w : World) (gd : Nat) (x : StD) (T : Nat → Prop) : Prop where
  dk : DK w gd x T
  bel : Below B.heap.size B w
  far : ∀ g, T g → B.heap.size ≤ g
section
variable {B w w' : World} {gd : Nat} {x x' : StD} {T : Nat → Prop}
theorem DB.step (h : DB B w gd x T) (hd : DK w' gd x' (grow T w w') ∧ Fr T w w') : DB B w' gd x' (grow T w w') :=
  ⟨hd.1, h.bel.trans (hd.2.below h.bel.size h.far), fun g hg => by
    rcases hg with hg | ⟨hg, _⟩
    · exact h.far g hg
    · exact Nat.le_trans h.bel.size hg⟩
theorem DB.next (h : DB B w gd x T) (hb : Below w.heap.size w w') : DB B w' gd x T := ⟨h.dk.below hb, h.bel.trans (hb.mono h.bel.size), h.far⟩
theorem DB.up (h : DB B w gd x T) (hd : DK w' gd x' T ∧ Fr T w w') : DB B w' gd x' T := ⟨hd.1, h.bel.trans (hd.2.below h.bel.size h.far), h.far⟩
end
/-- The name of the first file. -/
def nmA : ByteArray := ⟨#[97]⟩
def x1 : StD := mkC x0 (wrC nmA 0 ⟨#[120, 121]⟩)
def x2 : StD := syC x1
def x3 : StD := mkC x2 (wrC nmA 2 ⟨#[122]⟩)
def x4 : StD := crC x3 0 0
theorem rA : rdy false [nmA] = 0 := by decide +kernel
theorem at2 : (x2.now.at (ls nmA)).length = 2 := by decide +kernel
theorem v1 : Vd x1 := Vd.x0.mkC (wr_ok Vd.x0.bd (by decide +kernel) (Nat.zero_le _) (by decide) (.inr (by decide))) (by decide) (by decide)
theorem v2 : Vd x2 := v1.syC
theorem v3 : Vd x3 := v2.mkC (wr_ok v2.bd (by decide +kernel) (by rw [at2]; exact Nat.le_refl _) (by decide) (.inl (by decide +kernel))) (by decide) (by decide)
theorem v4 : Vd x4 := flC_vd v3 0 0
theorem f5 : fnd { x4 with dead := false } nmA = 0 := by decide +kernel
theorem a5 : { x4 with dead := false }.now.at (ls nmA) = [120, 121] := by decide +kernel
section
set_option maxRecDepth 10000
set_option maxHeartbeats 4000000
end
end Go.Proofs.YtgncphoaknffnaaGreatDoor
namespace Go.Proofs.YtgncphoaknffnaaGreatDoor
open Go.RowKit
open Go.Deep
open Go.Lib
/-- A removal that is made. -/
def rmC (nm : ByteArray) : Ch := ⟨3, nm, ⟨#[]⟩, 0, ⟨#[]⟩⟩
theorem at_del (f : FS) (k x : List UInt8) : (f.del k).at x = if x = k then [] else f.at x := by
  unfold FS.at
  rw [FS.del_get]
  split <;> rfl
theorem rm_ok {f : FS} {nm : ByteArray} (hb : Bd f) (hn : isName (ls nm) = true) : okD f (rmC nm) := by
  have h32 := (name_len hn).2
  have hsz : nm.size ≤ 32 := by simpa using h32
  refine ⟨by simp [rmC], hsz, (by show ByteArray.size ⟨#[]⟩ ≤ 32; decide), fun h => absurd h (by simp [rmC]), (by show ByteArray.size ⟨#[]⟩ ≤ 16777216; decide), hb, ⟨?_, fun x => ?_⟩⟩
  · show (f.del (ls nm)).n ≤ 64
    show (if (f.get (ls nm)).isSome then f.n - 1 else f.n) ≤ 64
    have := hb.n
    split <;> omega
  · show ((f.del (ls nm)).at x).length ≤ 16777216
    rw [at_del]
    split
    · simp
    · exact hb.len x
section
set_option maxRecDepth 10000
set_option maxHeartbeats 4000000
theorem remove_ok (gd : Nat) (x : StD) (T : Nat → Prop) (nm : ByteArray) (w : World) (h : DK w gd x T) (hV : Vd x) (hp : x.plan = []) (hf : fnd x nm = 0) (hn : isName (ls nm) = true) (hmany : x.loose.length < 10000) (hmade : x.made < 1000000) : Calls Tryz.prog 53 #[.pointer (some ⟨gd, 0, none⟩), .string nm] w fun e w' => e = .returned (.int .i64 0) ∧ DK w' gd (mkC x (rmC nm)) (grow T w w') ∧ Fr T w w' := by
  have hm : nm.size ≤ maxLen := by
    have := (name_len hn).2
    have e : (ls nm).length = nm.size := by simp
    unfold maxLen
    omega
  have HF := hide (find_any gd x T nm w h hm)
  rw [hf] at HF
  have HDo : Hid (∀ W, Below w.heap.size w W → Calls Tryz.prog 55 #[.pointer (some ⟨gd, 0, none⟩), .agg #[.int .i64 3, .string nm, .string ⟨#[]⟩, .int .i64 0, .string ⟨#[]⟩]] W fun e w' => e = .returned (.int .i64 0) ∧ DK w' gd (mkC x (rmC nm)) (grow T W w') ∧ Fr T W w') := fun W hb => do_any gd x T (rmC nm) W (h.below hb) hV hp (rm_ok hV.bd hn) hmany hmade
  have HL := hide h.lt
  clear h hV hp hf hn hmany hmade hm
  go_enter Tryz.func53, Tryz.ntmps53
  go_wp2_with (first | (go_at_call 49; refine HF.out.mono ?_; rintro e w1 ⟨⟨v, rfl, o⟩, hb⟩; have HB := hide hb; clear hb o) | (go_at_call 55; refine (HDo.out _ HB.out).mono ?_; rintro e w2 ⟨rfl, hd, hf⟩; have HE := hide (dk_grow HB.out HL.out hd hf); clear hd hf))
  go_ret
  exact ⟨rfl, HE.out⟩
end
end Go.Proofs.YtgncphoaknffnaaGreatDoor
namespace Go.Proofs.YtgncphoaknffnaaGreatDoor
open Go.RowKit
open Go.Deep
/-- A kind of elements: the type of a slice of such, their type, how many cells and bytes each has, and its cells. -/
structure Ek (α : Type) where
  t : TypeId
  e : TypeId
  k : Nat
  b : Nat
  enc : α → List Value
  kpos : 0 < k
  k24 : k ≤ 16777216
  sl : Tryz.prog.underlying t = some (.slice e)
  inf : (Tryz.prog.info? e).map (fun i => (i.zero.map (·.cells.size), i.size, i.bytes)) = some (some k, k, b)
  len : ∀ x, (enc x).length = k
  one : ∀ x, ∀ v ∈ enc x, v.oneCell' = true
section
variable {α : Type} (E : Ek α)
def flatE (L : List α) : List Value := (L.map E.enc).flatten
theorem flatE_nil : flatE E [] = [] := rfl
theorem flatE_cons (a : α) (L : List α) : flatE E (a :: L) = E.enc a ++ flatE E L := by simp [flatE]
theorem flatE_len (L : List α) : (flatE E L).length = L.length * E.k := by
  induction L with
  | nil => simp [flatE_nil]
  | cons a r ih => rw [flatE_cons, List.length_append, E.len, ih, List.length_cons, Nat.add_mul]; omega
theorem flatE_app (A B : List α) : flatE E (A ++ B) = flatE E A ++ flatE E B := by simp [flatE]
theorem flatE_one (a : α) : flatE E [a] = E.enc a := by simp [flatE]
theorem flatE_at (L : List α) : ∀ (i : Nat) (h : i < L.length), ∀ j, j < E.k → (flatE E L)[i * E.k + j]? = (E.enc L[i])[j]? := by
  induction L with
  | nil => intro i hi; simp at hi
  | cons a r ih =>
    intro i hi j hj
    have ha := E.len a
    rcases i with _ | i
    · rw [flatE_cons, List.getElem?_append_left (by omega)]
      simp
    · rw [flatE_cons, List.getElem?_append_right (by rw [Nat.add_mul]; omega), ha, show (i + 1) * E.k + j - E.k = i * E.k + j by rw [Nat.add_mul]; omega, ih i (by simpa using hi) j hj]
      rfl
theorem flatE_cell (L : List α) : ∀ v ∈ flatE E L, v.oneCell' = true := by
  intro v hv
  simp only [flatE, List.mem_flatten, List.mem_map] at hv
  obtain ⟨_, ⟨x, _, rfl⟩, hv⟩ := hv
  exact E.one x v hv
theorem Ek.parts : ∃ i z, Tryz.prog.info? E.e = some i ∧ i.zero = some z ∧ z.cells.size = E.k ∧ i.size = E.k ∧ i.bytes = E.b := by
  have h := E.inf
  cases hi : Tryz.prog.info? E.e with
  | none => rw [hi] at h; cases h
  | some i =>
    rw [hi] at h
    simp only [Option.map_some, Option.some.injEq, Prod.mk.injEq] at h
    obtain ⟨h1, h2, h3⟩ := h
    cases hz : i.zero with
    | none => rw [hz] at h1; cases h1
    | some z =>
      rw [hz] at h1
      exact ⟨i, z, rfl, hz, by simpa using h1, h2, h3⟩
/-- A slice that holds elements. -/
def LX (w : World) (v : Value) (L : List α) : Prop := ∃ ao cap, v = .slice ao L.length cap ∧ L.length ≤ cap ∧ ∀ (i : Nat) (h : i < L.length), ∃ g off, ao = some ⟨g, off, none⟩ ∧ g < w.heap.size ∧ w.rangeAt g (off + i * E.k) (E.enc L[i])
/-- A slice of the program's own making that holds elements. -/
def OX (w : World) (v : Value) (L : List α) : Prop := w.ownsRow 0 E.e E.k v L.length (flatE E L)
end
theorem rangeX_below {w W : World} {B g off : Nat} {cs : List Value} (hr : w.rangeAt g off cs) (hb : Below B w W) (hg : g < B) : W.rangeAt g off cs := fun j v hv => by
  have := hr j v hv
  rw [← this]
  exact hb.cell (p := ⟨g, off + j, none⟩) hg
section
variable {α : Type} {E : Ek α} {w W : World} {v : Value} {L : List α}
theorem LX.below (h : LX E w v L) (hb : Below w.heap.size w W) : LX E W v L := by
  obtain ⟨ao, cap, rfl, h2, h3⟩ := h
  refine ⟨ao, cap, rfl, h2, fun i hi => ?_⟩
  obtain ⟨g, off, e, hg, hr⟩ := h3 i hi
  exact ⟨g, off, e, Nat.lt_of_lt_of_le hg hb.size, rangeX_below hr hb hg⟩
theorem LX.form (h : LX E w v L) : ∃ ao cap, v = .slice ao L.length cap := by
  obtain ⟨ao, cap, e, _⟩ := h
  exact ⟨ao, cap, e⟩
theorem LX.base {ao : Option Addr} {n cap : Nat} (h : LX E w (.slice ao n cap) L) (h0 : 0 < L.length) : ∃ g off, ao = some ⟨g, off, none⟩ := by
  obtain ⟨_, _, e, _, h3⟩ := h
  injection e with e1
  obtain ⟨g, off, e2, _⟩ := h3 0 h0
  exact ⟨g, off, e1.trans e2⟩
theorem LX.range {g off n cap : Nat} (h : LX E w (.slice (some ⟨g, off, none⟩) n cap) L) (i : Nat) (hi : i < L.length) : w.rangeAt g (off + i * E.k) (E.enc L[i]) := by
  obtain ⟨_, _, e, _, h3⟩ := h
  injection e with e1
  subst e1
  obtain ⟨g', off', e2, _, hc⟩ := h3 i hi
  cases e2
  exact hc
theorem LX.lt {g off n cap : Nat} (h : LX E w (.slice (some ⟨g, off, none⟩) n cap) L) (h0 : 0 < L.length) : g < w.heap.size := by
  obtain ⟨_, _, e, _, h3⟩ := h
  injection e with e1
  subst e1
  obtain ⟨g', off', e2, hg, _⟩ := h3 0 h0
  cases e2
  exact hg
theorem LX.nil (w : World) : LX E w (.slice none 0 0) [] := ⟨none, 0, rfl, Nat.le_refl _, fun i hi => by simp at hi⟩
theorem OX.nil (w : World) : OX E w (.slice none 0 0) [] := World.ownsRow_nil _ _ _ _
theorem OX.form (h : OX E w v L) : ∃ ao c, v = .slice ao L.length c := by
  rcases h.2 with ⟨rfl, h0⟩ | ⟨g, cap, cur, rfl, _⟩
  · exact ⟨none, 0, by rw [h0]⟩
  · exact ⟨_, _, rfl⟩
theorem OX.of_block (h : OX E w v L) (hb : ∀ g, v.ownBlock = some g → W.heap[g]? = w.heap[g]?) : OX E W v L := by
  obtain ⟨h2, h3⟩ := h
  refine ⟨h2, ?_⟩
  rcases h3 with ⟨rfl, h0⟩ | ⟨g, cap, cur, rfl, h4, hg, h5⟩
  · exact .inl ⟨rfl, h0⟩
  · exact .inr ⟨g, cap, cur, rfl, h4, (hb g rfl).trans hg, h5⟩
theorem OX.lt (h : OX E w v L) : ∀ g, v.ownBlock = some g → g < w.heap.size := by
  intro g hg
  rcases h.2 with ⟨rfl, h0⟩ | ⟨g', cap, cur, rfl, h4, hb, h5⟩
  · cases hg
  · cases hg
    exact lt_heap hb
theorem OX.below (h : OX E w v L) (hb : Below w.heap.size w W) : OX E W v L := h.of_block fun g hg => hb.block _ (h.lt g hg)
theorem OX.read (h : OX E w v L) : LX E w v L := by
  obtain ⟨h2, h3⟩ := h
  rcases h3 with ⟨rfl, h0⟩ | ⟨g, cap, cur, rfl, hb, hg, hn, hm, hsz, ht⟩
  · exact ⟨none, 0, by rw [h0], by omega, fun i hi => by omega⟩
  · refine ⟨_, cap, rfl, hn, fun i hi => ⟨g, 0, rfl, lt_heap hg, fun j u hu => ?_⟩⟩
    have hj : j < E.k := by
      have := (List.getElem?_eq_some_iff.1 hu).1
      rw [E.len] at this
      exact this
    rw [cell_of_row w g _ cur E.e (0, 0) hg, ← Array.getElem?_toList]
    have e2 := flatE_at E L i hi j hj
    rw [hu, ← ht, List.getElem?_take] at e2
    have hlt : i * E.k + E.k ≤ L.length * E.k := by
      have := Nat.mul_le_mul_right E.k (show i + 1 ≤ L.length by omega)
      rw [Nat.add_mul] at this
      omega
    rw [if_pos (by omega)] at e2
    rw [show 0 + i * E.k + j = i * E.k + j by omega]
    exact e2
/-- The load of an element out of memory. -/
theorem Ek.load {W : World} {g off : Nat} (x : α) {kd : TypeDesc} (hu : Tryz.prog.underlying E.e = some kd) (hk : kd.isRow = true) (hr : W.rangeAt g off (E.enc x)) : (Instr.loadAt E.e (.pointer (some ⟨g, off, none⟩))).run Tryz.prog W = .ok (.agg (E.enc x).toArray) W := by
  obtain ⟨i, z, hi, _, _, hs, _⟩ := E.parts
  exact run_loadAt_mid W g off E.e _ _ hr hu hk (by rw [hi, E.len]; simp [hs])
/-- An append of elements. -/
theorem Ek.app {ty : TypeId} (hown : OX E w v L) (ad : Addr) (m c : Nat) (N : List α) (hm : m = N.length) (hnews : ∀ j u, (flatE E N)[j]? = some u → w.cell? (ad.add j) = some u)
    (hsm : (L.length + m) * E.b ≤ 140737488355328) (h63 : L.length + m ≤ maxLen) :
    ∃ v' w', (Builtin.append_ #[E.t, E.t] ty #[v, .slice (some ad) m c]).run Tryz.prog w = .ok v' w' ∧ OX E w' v' (L ++ N) ∧ Onto w w' v v' := by
  obtain ⟨i0, z, hi, hz0, hzs, hz1, hz2⟩ := E.parts
  obtain ⟨v', w', hr, h2, h3, _, h5⟩ := run_append_own_at (P := Tryz.prog) w 0 E.t ty E.e i0 z E.k E.b E.sl hi hz0 hz1 hz2 hzs E.kpos v L.length (flatE E L) hown ad m c (flatE E N) (by rw [flatE_len, hm]) hnews
    (flatE_cell E N) h63 hsm (Nat.zero_le _)
  refine ⟨v', w', hr, ?_, ⟨h3, ?_⟩⟩
  · unfold OX
    rw [List.length_append, flatE_app, ← hm]
    exact h2
  · rcases h5 with h5 | h5
    · exact .inl h5
    · exact .inr ⟨_, h5, Nat.le_refl _⟩
/-- A slice of one element. -/
theorem Ek.bs1 (w : World) (x : α) : (Instr.buildSlice E.t 1 #[(0, .agg (E.enc x).toArray)]).run Tryz.prog w = .ok (.slice (some ⟨w.heap.size, 0, none⟩) 1 1) (w.alloc (.cells (E.enc x).toArray E.e)) := by
  obtain ⟨i, z, hi, hz, hzs, hs, _⟩ := E.parts
  have hk := E.kpos
  have hcs : (Value.agg (E.enc x).toArray).cells.size = E.k := by
    show (E.enc x).toArray.size = E.k
    rw [List.size_toArray, E.len]
  obtain ⟨r, hr, hrs, hk⟩ := Great.fill_dense (s := E.k) E.kpos [Value.agg (E.enc x).toArray] 0 ((Array.range (1 * E.k)).map (z.cells[· % z.cells.size]!)) (fun v hv => by simp at hv; rw [hv]; exact hcs) (by simp)
  have e1 : r = (E.enc x).toArray := by
    apply Array.ext
    · rw [hrs, show (E.enc x).toArray.size = E.k by rw [List.size_toArray, E.len]]; simp
    · intro k h1 h2
      have hk1 : k < E.k := by rw [List.size_toArray, E.len] at h2; exact h2
      have := hk k
      rw [if_pos ⟨by omega, by simp; omega⟩, Array.getElem?_eq_getElem h1, show k / E.k - 0 = 0 by rw [Nat.div_eq_of_lt hk1], Nat.mod_eq_of_lt hk1] at this
      simp only [List.getElem?_cons_zero, Option.bind_some] at this
      rw [show (Value.agg (E.enc x).toArray).cells = (E.enc x).toArray from rfl, Array.getElem?_eq_getElem h2] at this
      exact Option.some.inj this
  rw [e1] at hr
  refine run_buildSlice (P := Tryz.prog) w E.t E.e 1 #[(0, .agg (E.enc x).toArray)] (E.enc x).toArray i z E.sl hi hz (by rw [hs]; have := E.k24; omega) (by rw [hs]; omega) ?_
  rw [hs]
  exact hr
theorem one_newX (w : World) (x : α) : ∀ j u, (flatE E [x])[j]? = some u → (w.alloc (.cells (E.enc x).toArray E.e)).cell? ((⟨w.heap.size, 0, none⟩ : Addr).add j) = some u := by
  intro j u hu
  rw [flatE_one] at hu
  have hadd : (⟨w.heap.size, 0, none⟩ : Addr).add j = ⟨w.heap.size, 0 + j, none⟩ := by unfold Addr.add; split <;> simp_all
  rw [hadd, cell_of_row _ _ _ _ _ _ (heap_alloc_last w _), Nat.zero_add]
  simpa using hu
end
end Go.Proofs.YtgncphoaknffnaaGreatDoor
namespace Go.Proofs.YtgncphoaknffnaaGreatDoor
open Go.RowKit
open Go.Deep
open Go.Lib
set_option linter.unusedVariables false
/-- Lists of texts. -/
def KS : Ek ByteArray := ⟨30, 9, 1, 16, fun x => [.string x], by decide, by decide, Tryz.underlying30, by kernel_rfl, fun _ => rfl, fun x v hv => by simp only [List.mem_singleton] at hv; rw [hv]; rfl⟩
/-- A row of texts that is one's own, or one without spare room. -/
def RX (w : World) (v : Value) (L : List ByteArray) : Prop := OX KS w v L ∨ ∃ g, v = .slice (some ⟨g, 0, none⟩) L.length L.length ∧ g < w.heap.size ∧ ∀ i s, L[i]? = some s → w.cell? ⟨g, i, none⟩ = some (.string s)
section
variable {w W : World} {v : Value} {L : List ByteArray}
theorem RX.form (h : RX w v L) : ∃ ao c, v = .slice ao L.length c := by
  rcases h with h | ⟨g, rfl, _⟩
  · exact h.form
  · exact ⟨_, _, rfl⟩
theorem RX.lt (h : RX w v L) : ∀ g, v.ownBlock = some g → g < w.heap.size := by
  rcases h with h | ⟨g, rfl, hg, _⟩
  · exact h.lt
  · intro g' e
    cases e
    exact hg
theorem RX.of_block (h : RX w v L) (hs : w.heap.size ≤ W.heap.size) (hb : ∀ g, v.ownBlock = some g → W.heap[g]? = w.heap[g]?) : RX W v L := by
  rcases h with h | ⟨g, rfl, hg, hc⟩
  · exact .inl (h.of_block hb)
  · exact .inr ⟨g, rfl, by omega, fun i s hi => by rw [← hc i s hi]; exact World.cell?_of_block (a := ⟨g, i, none⟩) (hb g rfl)⟩
theorem RX.below (h : RX w v L) (hb : Below w.heap.size w W) : RX W v L := h.of_block hb.size fun g hg => hb.block _ (h.lt g hg)
theorem RX.read (h : RX w v L) : LX KS w v L := by
  rcases h with h | ⟨g, rfl, hg, hc⟩
  · exact h.read
  · refine ⟨_, _, rfl, Nat.le_refl _, fun i hi => ⟨g, 0, rfl, hg, fun j u hu => ?_⟩⟩
    have hj : j = 0 := by
      rcases j with _ | j
      · rfl
      · simp [KS] at hu
    subst hj
    have e : u = .string L[i] := by
      simp [KS] at hu
      exact hu.symm
    rw [e, show 0 + i * KS.k + 0 = i by show 0 + i * 1 + 0 = i; omega]
    exact hc i _ (List.getElem?_eq_getElem hi)
theorem flatS (L : List ByteArray) : flatE KS L = L.map Value.string := by
  induction L with
  | nil => rfl
  | cons a r ih => rw [flatE_cons, ih]; rfl
end
theorem wpAppR {w : World} {ops : Array Oper} {rest : List Oper} {o : Oper} {a : Act} {Q : Exit → Act → World → Prop} (hgd : o.guard = none) (sl y : Operand)
    (ho : o.op = .call { callee := .builtin .append, args := #[sl, y], argTypes := #[30, 30] }) (vs : Value) (L : List ByteArray) (hx : a.eval sl = vs) (hown : RX w vs L) (ad : Addr) (m c : Nat) (N : List ByteArray)
    (hy : a.eval y = .slice (some ad) m c) (hm : m = N.length) (h0 : 0 < m) (hnews : ∀ j u, (flatE KS N)[j]? = some u → w.cell? (ad.add j) = some u) (hsm : (L.length + m) * 16 ≤ 140737488355328) (h63 : L.length + m ≤ maxLen)
    (h : ∀ v' w', OX KS w' v' (L ++ N) → Onto w w' vs v' → wpList Tryz.prog ops Q rest (a.put o.dst v') w') : wpList Tryz.prog ops Q (o :: rest) a w := by
  rcases hown with hown | ⟨g, rfl, hg, hc⟩
  · obtain ⟨v', w', hr, h1, h2⟩ := KS.app (ty := o.type) hown ad m c N hm hnews hsm h63
    refine wpList_plain hgd fun K hK => ?_
    unfold Oper.wp execOp
    simp only [ho, resolve, invoke, builtin, Sem.run_bind, Sem.run_pure, Result.andThen_ok, List.map_toArray, List.map_cons, List.map_nil, hx, hy]
    rw [show (Builtin.append_ #[30, 30] o.type #[vs, .slice (some ad) m c]).run Tryz.prog w = .ok v' w' from hr]
    exact hK _ _ (h v' w' h1 h2)
  · obtain ⟨i0, z, hi, hz0, hzs, hz1, hz2⟩ := KS.parts
    obtain ⟨v', w', hr, h1, h2⟩ := run_append_arg_grows (P := Tryz.prog) w 30 o.type 9 i0 z 1 16 KS.sl hi hz0 hz1 hz2 hzs (by decide) ⟨g, 0, none⟩ L.length L.length (flatE KS L) (by rw [flatE_len]; rfl) (fun j u hj => by
      rw [flatS, List.getElem?_map] at hj
      cases hl : L[j]? with
      | none => rw [hl] at hj; cases hj
      | some s =>
        rw [hl] at hj
        cases hj
        rw [Addr.add_lit, Nat.zero_add]
        exact hc j s hl) ad m c (flatE KS N) (by rw [flatE_len, hm]; rfl) hnews (by omega) h63 hsm
    refine wpList_plain hgd fun K hK => ?_
    unfold Oper.wp execOp
    simp only [ho, resolve, invoke, builtin, Sem.run_bind, Sem.run_pure, Result.andThen_ok, List.map_toArray, List.map_cons, List.map_nil, hx, hy]
    rw [show (Builtin.append_ #[30, 30] o.type #[.slice (some ⟨g, 0, none⟩) L.length L.length, .slice (some ad) m c]).run Tryz.prog w = .ok v' w' from hr]
    refine hK _ _ (h v' w' ?_ ⟨?_, ?_⟩)
    · obtain ⟨q1, q2⟩ := h1
      rw [← flatE_app, hm, ← List.length_append] at q1
      rw [← flatE_app, hm, ← List.length_append] at q2
      refine ⟨q1, ?_⟩
      rcases q2 with q2 | ⟨g', cap, cur, e, hb, r⟩
      · exact .inl q2
      · exact .inr ⟨g', cap, cur, e, Nat.zero_le _, r⟩
    · exact ⟨h2.os, h2.tape, h2.output, h2.size, fun k hk hn => h2.block k hk (by simp)⟩
    · rcases h1.2 with ⟨rfl, hz⟩ | ⟨g', cap, cur, rfl, hb, r⟩
      · omega
      · exact .inr ⟨g', rfl, hb⟩
/-- A journal. -/
structure Jr where
  nm : ByteArray
  ep : Nat
  recs : List ByteArray
  torn : Nat
  dead : Bool
def Jr.cells (J : Jr) (gd : Nat) (v : Value) : Array Value := #[.pointer (some ⟨gd, 0, none⟩), .string J.nm, .int .u64 (J.ep : Int), v, .int .i64 (J.torn : Int), .bool J.dead]
/-- Nothing of B may be written. -/
def K0 : Nat → Prop := fun _ => False
theorem Fr.k0 {w w' : World} (h : Fr K0 w w') : Below w.heap.size w w' := h.below (Nat.le_refl _) fun g hg => hg.elim
theorem Below.k0 {w w' : World} (h : Below w.heap.size w w') : Fr K0 w w' := Fr.of_below h
/-- The table of rounds stands, and is not among K. -/
def KB (K : Nat → Prop) (B : World) : Prop := Kg B ∧ ¬ K 0
theorem Kg.of_fr {K : Nat → Prop} {B w : World} (h : Kg B) (hn : ¬ K 0) (f : Fr K B w) : Kg w := fun j hj => by
  rw [← h j hj]
  exact World.cell?_of_block (a := ⟨0, j, none⟩) (f.block _ h.lt hn)
theorem KB.at_ {K : Nat → Prop} {B w : World} (h : KB K B) (f : Fr K B w) : Kg w := h.1.of_fr h.2 f
theorem Fr.next {K : Nat → Prop} {B w w' : World} (h : Fr K B w) (b : Below w.heap.size w w') : Fr K B w' := h.trans' (Fr.of_below b)
/-- A disk at block gd: of the blocks of B it has those of K alone. -/
structure DBk (K : Nat → Prop) (B w : World) (gd : Nat) (x : StD) (T : Nat → Prop) : Prop where
  dk : DK w gd x T
  bel : Fr K B w
  far : ∀ g, T g → K g ∨ B.heap.size ≤ g
/-- A journal at block gj on a disk at block gd: of the blocks of B they have those of K alone. -/
structure JB (K : Nat → Prop) (B w : World) (gj gd : Nat) (J : Jr) (x : StD) (T : Nat → Prop) (v : Value) : Prop where
  dk : DK w gd x T
  bel : Fr K B w
  far : ∀ g, T g → K g ∨ B.heap.size ≤ g
  row : w.heap[gj]? = some (.cells (J.cells gd v) 58 (0, 0))
  own : RX w v J.recs
  jfar : K gj ∨ B.heap.size ≤ gj
  jT : ¬ T gj
  vfar : ∀ g, v.ownBlock = some g → (K g ∨ B.heap.size ≤ g) ∧ ¬ T g ∧ g ≠ gj
section
variable {K : Nat → Prop} {B w w' : World} {gj gd : Nat} {J : Jr} {x x' : StD} {T : Nat → Prop} {v v' : Value}
theorem DK.frame (h : DK w gd x T) (hs : w.heap.size ≤ w'.heap.size) (e : ∀ g, T g → w'.heap[g]? = w.heap[g]?) : DK w' gd x T := by
  obtain ⟨S1, S2, mn, ms, vo, vp, h⟩ := h
  exact ⟨S1, S2, mn, ms, vo, vp, h.frame hs e⟩
/-- What a call may write that writes to blocks of S, which are K's or new. -/
theorem Fr.far {S : Nat → Prop} (h : Fr K B w) (f : Fr S w w') (hS : ∀ g, S g → K g ∨ B.heap.size ≤ g) : Fr K B w' :=
  ⟨f.os.trans h.os, f.tape.trans h.tape, f.output.trans h.output, Nat.le_trans h.size f.size, fun k hk hn => (f.block k (Nat.lt_of_lt_of_le hk h.size) fun e => by
    rcases hS k e with c | c
    · exact hn c
    · omega).trans (h.block k hk hn)⟩
theorem DBk.step (h : DBk K B w gd x T) (hd : DK w' gd x' (grow T w w') ∧ Fr T w w') : DBk K B w' gd x' (grow T w w') :=
  ⟨hd.1, h.bel.far hd.2 h.far, fun g hg => by
    rcases hg with hg | ⟨hg, _⟩
    · exact h.far g hg
    · exact .inr (Nat.le_trans h.bel.size hg)⟩
theorem DBk.next (h : DBk K B w gd x T) (hb : Below w.heap.size w w') : DBk K B w' gd x T := ⟨h.dk.below hb, h.bel.next hb, h.far⟩
theorem JB.lt (h : JB K B w gj gd J x T v) : gj < w.heap.size := lt_heap h.row
theorem JB.db (h : JB K B w gj gd J x T v) : DBk K B w gd x T := ⟨h.dk, h.bel, h.far⟩
theorem JB.next (h : JB K B w gj gd J x T v) (hb : Below w.heap.size w w') : JB K B w' gj gd J x T v :=
  ⟨h.dk.below hb, h.bel.next hb, h.far, (hb.block gj h.lt).trans h.row, h.own.below hb, h.jfar, h.jT, h.vfar⟩
theorem JB.disk (h : JB K B w gj gd J x T v) (hd : DK w' gd x' (grow T w w') ∧ Fr T w w') : JB K B w' gj gd J x' (grow T w w') v := by
  have d := h.db.step hd
  refine ⟨d.dk, d.bel, d.far, (hd.2.block gj h.lt h.jT).trans h.row, h.own.of_block hd.2.size fun g hg => hd.2.block g (h.own.lt g hg) (h.vfar g hg).2.1, h.jfar, ?_, fun g hg => ⟨(h.vfar g hg).1, ?_, (h.vfar g hg).2.2⟩⟩
  · rintro (e | ⟨e, _⟩)
    · exact h.jT e
    · have := h.lt
      omega
  · rintro (e | ⟨e, _⟩)
    · exact (h.vfar g hg).2.1 e
    · have := h.own.lt g hg
      omega
/-- Seen from the world at hand. -/
theorem JB.here (h : JB K B w gj gd J x T v) : JB (fun g => T g ∨ g = gj ∨ v.ownBlock = some g) w w gj gd J x T v :=
  ⟨h.dk, Fr.refl _ _, fun g hg => .inl (.inl hg), h.row, h.own, .inl (.inr (.inl rfl)), h.jT, fun g hg => ⟨.inl (.inr (.inr hg)), (h.vfar g hg).2⟩⟩
theorem JB.c0 (h : JB K B w gj gd J x T v) : w.cell? ⟨gj, 0, none⟩ = some (.pointer (some ⟨gd, 0, none⟩)) := by rw [cell_of_row w gj 0 _ _ _ h.row]; rfl
theorem JB.c1 (h : JB K B w gj gd J x T v) : w.cell? ⟨gj, 1, none⟩ = some (.string J.nm) := by rw [cell_of_row w gj 1 _ _ _ h.row]; rfl
theorem JB.c2 (h : JB K B w gj gd J x T v) : w.cell? ⟨gj, 2, none⟩ = some (.int .u64 (J.ep : Int)) := by rw [cell_of_row w gj 2 _ _ _ h.row]; rfl
theorem JB.c3 (h : JB K B w gj gd J x T v) : w.cell? ⟨gj, 3, none⟩ = some v := by rw [cell_of_row w gj 3 _ _ _ h.row]; rfl
theorem JB.c4 (h : JB K B w gj gd J x T v) : w.cell? ⟨gj, 4, none⟩ = some (.int .i64 (J.torn : Int)) := by rw [cell_of_row w gj 4 _ _ _ h.row]; rfl
theorem JB.c5 (h : JB K B w gj gd J x T v) : w.cell? ⟨gj, 5, none⟩ = some (.bool J.dead) := by rw [cell_of_row w gj 5 _ _ _ h.row]; rfl
theorem JB.fz (h : JB K B w gj gd J x T v) (i : Nat) : w.frozen? ⟨gj, i, none⟩ = false := frozen_of_row w gj i _ _ h.row
/-- A cell of the journal is written. -/
theorem JB.set (h : JB K B w gj gd J x T v) (i : Nat) (u : Value) {J' : Jr} (hc : (J.cells gd v).setIfInBounds i u = J'.cells gd v') (ho : RX w v' J'.recs) (hv : ∀ g, v'.ownBlock = some g → (K g ∨ B.heap.size ≤ g) ∧ ¬ T g ∧ g ≠ gj) : JB K B (w.setCell ⟨gj, i, none⟩ u) gj gd J' x T v' := by
  have hs : (w.setCell ⟨gj, i, none⟩ u).heap.size = w.heap.size := by simp [World.setCell]
  have hb : ∀ g, g ≠ gj → (w.setCell ⟨gj, i, none⟩ u).heap[g]? = w.heap[g]? := fun g hg => Below.heap_setCell _ _ _ _ hg
  refine ⟨h.dk.frame (by omega) fun g hg => hb g fun e => h.jT (e ▸ hg), h.bel.far (Fr.setCell (S := fun g => g = gj) w (p := ⟨gj, i, none⟩) rfl u) (fun g hg => hg ▸ h.jfar), h.far, ?_, ho.of_block (by omega) fun g hg => hb g (hv g hg).2.2, h.jfar, h.jT, hv⟩
  have := heap_setCell_same w gj i _ _ u h.row
  rw [this, ← hc]
theorem JB.setDead (h : JB K B w gj gd J x T v) (b : Bool) : JB K B (w.setCell ⟨gj, 5, none⟩ (.bool b)) gj gd { J with dead := b } x T v := h.set 5 _ rfl h.own h.vfar
end
section
set_option maxRecDepth 10000
set_option maxHeartbeats 4000000
variable {K : Nat → Prop} {B w : World} {gj gd : Nat} {J : Jr} {x : StD} {T : Nat → Prop} {v : Value}
theorem deadJ_any (h : JB K B w gj gd J x T v) : Calls Tryz.prog 30 #[.pointer (some ⟨gj, 0, none⟩)] w fun e w' => e = .returned (.bool J.dead) ∧ w' = w := by
  have c5 := h.c5
  clear h
  go_enter Tryz.func30, Tryz.ntmps30
  go_wp2
  go_ret
  exact ⟨rfl, rfl⟩
theorem deadJ_nil (w : World) : Calls Tryz.prog 30 #[.pointer none] w fun e w' => e = .returned (.bool true) ∧ w' = w := by
  go_enter Tryz.func30, Tryz.ntmps30
  go_wp2
  go_ret
  exact ⟨rfl, rfl⟩
theorem lenJ_any (h : JB K B w gj gd J x T v) : Calls Tryz.prog 20 #[.pointer (some ⟨gj, 0, none⟩)] w fun e w' => e = .returned (.int .i64 (J.recs.length : Int)) ∧ w' = w := by
  have c3 := h.c3
  obtain ⟨ao, c, rfl⟩ := h.own.form
  clear h
  go_enter Tryz.func20, Tryz.ntmps20
  go_wp2
  go_ret
  exact ⟨rfl, rfl⟩
theorem lenJ_nil (w : World) : Calls Tryz.prog 20 #[.pointer none] w fun e w' => e = .returned (.int .i64 0) ∧ w' = w := by
  go_enter Tryz.func20, Tryz.ntmps20
  go_wp2
  go_ret
  exact ⟨rfl, rfl⟩
theorem getJ_any (h : JB K B w gj gd J x T v) (i : Nat) (s : ByteArray) (hi : J.recs[i]? = some s) : Calls Tryz.prog 19 #[.pointer (some ⟨gj, 0, none⟩), .int .i64 (i : Int)] w fun e w' => e = .returned (.tuple #[.string s, .bool true]) ∧ w' = w := by
  have HL := hide (lenJ_any h)
  have c3 := h.c3
  have hlt : i < J.recs.length := (List.getElem?_eq_some_iff.1 hi).1
  have hx := h.own.read
  obtain ⟨ao, c, rfl⟩ := h.own.form
  obtain ⟨g, off, rfl⟩ := hx.base (by omega)
  have hr := hx.range i hlt
  have he : J.recs[i] = s := (List.getElem?_eq_some_iff.1 hi).2
  rw [he] at hr
  have hc : w.cell? ⟨g, off + i, none⟩ = some (.string s) := by
    have := hr 0 (.string s) rfl
    rwa [show off + i * KS.k + 0 = off + i by show off + i * 1 + 0 = _; omega] at this
  have i0 : (0 : Int) ≤ i := by omega
  have i1 : (i : Int) < J.recs.length := by omega
  have i2 : ¬ (J.recs.length : Int) ≤ i := by omega
  clear h hx hr hi he hlt
  generalize J.recs.length = n at *
  go_enter Tryz.func19, Tryz.ntmps19
  go_wp2_with (go_at_call 20; refine HL.out.mono ?_; rintro e w1 ⟨rfl, hw⟩; subst w1)
  go_ret2
  exact ⟨rfl, rfl⟩
theorem heedJ_any (h : JB K B w gj gd J x T v) (E : Int) : Calls Tryz.prog 44 #[.pointer (some ⟨gj, 0, none⟩), .int .i64 E] w fun e w' => e = .returned (.int .i64 E) ∧ JB K B w' gj gd { J with dead := decide (E = 7) } x T v := by
  have c5 := h.c5
  have f5 := h.fz 5
  have HS := hide (h.setDead (decide (E = 7)))
  clear h
  go_enter Tryz.func44, Tryz.ntmps44
  go_wp2
  go_ret
  exact ⟨rfl, HS.out⟩
/-- A removal of a file that is not there, or may not be done. -/
theorem remove_err (gd : Nat) (x : StD) (T : Nat → Prop) (nm : ByteArray) (w : World) (h : DK w gd x T) (hm : nm.size ≤ maxLen) (hf : fnd x nm ≠ 0) : Calls Tryz.prog 53 #[.pointer (some ⟨gd, 0, none⟩), .string nm] w fun e w' => e = .returned (.int .i64 (fnd x nm)) ∧ Below w.heap.size w w' := by
  have HF := hide (find_any gd x T nm w h hm)
  generalize fnd x nm = E at *
  clear h hm
  go_enter Tryz.func53, Tryz.ntmps53
  go_wp2_with (go_at_call 49; refine HF.out.mono ?_; rintro e w1 ⟨⟨v, rfl, o⟩, hb⟩; have HB := hide hb; clear hb o)
  go_ret
  exact ⟨rfl, HB.out⟩
/-- The name of the file that is to come in the place of another one. -/
def asideN (nm : ByteArray) : ByteArray := nm ++ ⟨#[46, 116, 109, 112]⟩
theorem aside_none (gd : Nat) (x : StD) (T : Nat → Prop) (nm : ByteArray) (w : World) (h : DK w gd x T) (hm : nm.size ≤ 28) (hf : fnd x (asideN nm) = 2) : Calls Tryz.prog 35 #[.pointer (some ⟨gd, 0, none⟩), .string nm] w fun e w' => e = .returned (.int .i64 0) ∧ Below w.heap.size w w' := by
  have HR := hide (remove_err gd x T (asideN nm) w h (by unfold asideN maxLen; rw [ByteArray.size_append]; show nm.size + 4 ≤ _; omega) (by rw [hf]; decide))
  rw [hf] at HR
  unfold asideN at HR
  have hz : (nm.size : Int) ≤ 28 := by omega
  clear h hf
  go_enter Tryz.func35, Tryz.ntmps35
  go_wp2_with (go_at_call 53; refine HR.out.mono ?_; rintro e w1 ⟨rfl, hb⟩; have HB := hide hb; clear hb)
  go_ret
  exact ⟨rfl, HB.out⟩
theorem aside_dead (gd : Nat) (x : StD) (T : Nat → Prop) (nm : ByteArray) (w : World) (h : DK w gd x T) (hm : nm.size ≤ 28) (hf : fnd x (asideN nm) = 7) : Calls Tryz.prog 35 #[.pointer (some ⟨gd, 0, none⟩), .string nm] w fun e w' => e = .returned (.int .i64 7) ∧ Below w.heap.size w w' := by
  have HR := hide (remove_err gd x T (asideN nm) w h (by unfold asideN maxLen; rw [ByteArray.size_append]; show nm.size + 4 ≤ _; omega) (by rw [hf]; decide))
  rw [hf] at HR
  unfold asideN at HR
  have hz : (nm.size : Int) ≤ 28 := by omega
  clear h hf
  go_enter Tryz.func35, Tryz.ntmps35
  go_wp2_with (go_at_call 53; refine HR.out.mono ?_; rintro e w1 ⟨rfl, hb⟩; have HB := hide hb; clear hb)
  go_ret
  exact ⟨rfl, HB.out⟩
/-- Names of journals. -/
def okJ (nm : ByteArray) : Bool := isName (ls nm) && decide (nm.size ≤ 28)
theorem isNameJ_any (nm : ByteArray) (hm : nm.size ≤ maxLen) (w : World) : Calls Tryz.prog 15 #[.string nm] w fun e w' => e = .returned (.bool (okJ nm)) ∧ Below w.heap.size w w' := by
  have HN := hide (newD_any w)
  have HS := hide fun W T h => size_any w.heap.size ⟨FS.none, FS.none, [], 0, [], false⟩ T nm W h hm
  unfold maxLen at hm
  have hf : fnd ⟨FS.none, FS.none, [], 0, [], false⟩ nm = if isName (ls nm) then 2 else 70 := by
    unfold fnd rdy
    cases h : isName (ls nm) <;> simp [FS.none, h]
  rw [hf] at HS
  clear hf
  unfold okJ
  cases hI : isName (ls nm)
  · rw [hI] at HS
    rw [if_neg (by decide), if_neg (by decide)] at HS
    go_enter Tryz.func15, Tryz.ntmps15
    go_wp2_with (first | (go_at_call 5; refine HN.out.mono ?_; rintro e w1 ⟨rfl, d1, b1⟩; have D1 := hide d1; have B1 := hide b1; clear d1 b1) | (go_at_call 33; refine (HS.out _ _ D1.out).mono ?_; rintro e w2 ⟨rfl, b2⟩; have B2 := hide b2; clear b2))
    go_ret
    exact ⟨rfl, B1.out.trans (B2.out.mono B1.out.size)⟩
  · rw [hI] at HS
    rw [if_pos rfl, if_neg (by decide)] at HS
    have hd : decide ((nm.size : Int) ≤ 28) = decide (nm.size ≤ 28) := by
      apply decide_eq_decide.2
      omega
    go_enter Tryz.func15, Tryz.ntmps15
    go_wp2_with (first | (go_at_call 5; refine HN.out.mono ?_; rintro e w1 ⟨rfl, d1, b1⟩; have D1 := hide d1; have B1 := hide b1; clear d1 b1) | (go_at_call 33; refine (HS.out _ _ D1.out).mono ?_; rintro e w2 ⟨rfl, b2⟩; have B2 := hide b2; clear b2))
    go_ret
    exact ⟨rfl, B1.out.trans (B2.out.mono B1.out.size)⟩
end
end Go.Proofs.YtgncphoaknffnaaGreatDoor
namespace Go.Proofs.YtgncphoaknffnaaGreatDoor
open Go.RowKit
open Go.Deep
open Go.Lib
set_option linter.unusedVariables false
section
set_option maxRecDepth 10000
set_option maxHeartbeats 1000000
theorem inOrder_any (n gs cap : Nat) (F : Nat → Nat) (fa ca : Nat → Array Value) (P : Nat → World → Prop) (Q : Int → World → Prop) (hn : n ≤ 1000)
    (hf : ∀ k W, k < n → (callFunc (F k) (fa k ++ ca k)).run Tryz.prog W = .ok (.enter (F k) (fa k ++ ca k)) W)
    (hc : ∀ k W, k < n → P k W → W.cell? ⟨gs, k, none⟩ = some (.func (.func (F k)) (fa k) (ca k)))
    (hs : ∀ k W, k < n → P k W → Calls Tryz.prog (F k) (fa k ++ ca k) W fun e w' => ∃ E : Int, e = .returned (.int .i64 E) ∧ (E = 0 → P (k + 1) w') ∧ (E ≠ 0 → Q E w'))
    (w : World) (h0 : P 0 w) : Calls Tryz.prog 17 #[.slice (some ⟨gs, 0, none⟩) n cap] w fun e w' => (e = .returned (.int .i64 0) ∧ P n w') ∨ ∃ E : Int, E ≠ 0 ∧ e = .returned (.int .i64 E) ∧ Q E w' := by
  have HC := hide hc
  have HF := hide hf
  have HS := hide hs
  have H0 := hide h0
  clear hc hs h0 hf
  go_enter Tryz.func17, Tryz.ntmps17
  go_wp2
  go_loopw [8] (fun i wr => ∃ k : Nat, k ≤ n ∧ i = .int .i64 (k : Int) ∧ Hid (P k wr)) (fun i _ => (n - intOf i).toNat)
  case atStart => exact ⟨0, Nat.zero_le _, rfl, H0⟩
  case round =>
    clear H0
    obtain ⟨k, hk, rfl, hP⟩ := hrel
    by_cases hlt : k < n
    · have h1 : (k : Int) < (n : Int) := by omega
      have h2 : (0 : Int) ≤ (k : Int) := by omega
      have hcell := HC.out k wr hlt hP.out
      have HK := hide (HS.out k wr hlt hP.out)
      have hcf := HF.out k wr hlt
      have e1 : IntKind.i64.wrap ((k : Int) + 1) = k + 1 := wrapI _ (by omega) (by omega)
      go_upto_region 5 with (with_reducible refine HK.out.mono ?_; rintro e w1 ⟨E, rfl, p1, p2⟩; have P1 := hide p1; have P2 := hide p2; clear p1 p2)
      clear hcf hcell HK
      by_cases hE : E = 0
      · subst hE
        have P3 := hide (P1.out rfl)
        clear P1 P2
        go_wp2
        go_round
        case rel => exact ⟨k + 1, by omega, by go_num, P3⟩
        case measure => simp [intOf]; omega
      · have P3 := hide (P2.out hE)
        clear P1 P2
        go_wp2
        go_ret
        exact .inr ⟨E, hE, rfl, P3.out⟩
    · have h1 : ¬ (k : Int) < (n : Int) := by omega
      have hkn : k = n := by omega
      subst hkn
      go_wp2
      go_ret
      exact .inl ⟨rfl, hP.out⟩
end
end Go.Proofs.YtgncphoaknffnaaGreatDoor
