/- num: the rest of the writers, and the document's Turned: their contracts. Lists of elements of any kind in memory: read, made, appended to. What messages hold: addresses, things, ids, texts, numbers, places with texts: their cells, and when two are the same. When two addresses, things, ids, places with texts are the same. Transactions: what they hold, their bytes; what it means that a part is taken off bytes. -/
import Derived.Test.YtcoojkpimbddlaaGreatDoorX05
import Derived.Test.YtcoojkpimbddlaaGreatDoorX04
import Derived.Great.BuildSlice
import Derived.Deep.MidRow
namespace Go.Proofs.YtcoojkpimbddlaaGreatDoor
open Go.RowKit
open Go.Deep
section
set_option maxRecDepth 10000
set_option maxHeartbeats 4000000
set_option maxRecDepth 10000 in
set_option maxHeartbeats 400000 in
theorem putCount_any (v : Value) (l : List UInt8) (n : Nat) (hn : U64 n) (w : World) (hl : l.length ≤ 70368744170000) (hown : Own w v l) :
    Calls Tryz.prog 223 #[v, .int .u64 n] w fun e w' => ∃ v', e = .returned v' ∧ Own w' v' (l ++ countL n) ∧ Onto w w' v v' := by
  by_cases h1 : n < 253
  · have hc : clong n = 1 := by unfold clong; repeat (first | rw [if_pos (by omega)] | rw [if_neg (by omega)])
    have hL : countL n = lowL n 1 := by unfold countL; rw [if_pos h1]
    rw [hL]
    clear hL
    go_enter Tryz.func223, Tryz.ntmps223
    go_wp2_with (first | (go_at_call 148; refine (countLong_any _ _).mono ?_; rintro e w1 ⟨rfl, rfl⟩; rw [hc]) | (go_at_call 267; refine (putLow_any v l n 1 1 rfl hn _ (by omega) (by omega) hown).mono ?_; rintro e w' ⟨v', rfl, ho, hon⟩))
    go_ret
    exact ⟨v', rfl, ho, hon⟩
  by_cases h2 : n ≤ 65535
  · have hc : clong n = 3 := by unfold clong; repeat (first | rw [if_pos (by omega)] | rw [if_neg (by omega)])
    have hL : countL n = 253 :: lowL n 2 := by unfold countL; rw [if_neg h1, if_pos h2]
    rw [hL]
    clear hL
    go_enter Tryz.func223, Tryz.ntmps223
    go_wp2_with (first | (go_at_call 148; refine (countLong_any _ _).mono ?_; rintro e w1 ⟨rfl, rfl⟩; rw [hc]) | (at_builtin; refine wpList_app rfl _ _ rfl v _ rfl (hown.alloc _) ⟨_, 0, none⟩ 1 1 [253] rfl rfl (one_new _ _ _ rfl) (by omega) ?_; intro v' w3 hown' hon3) | (go_at_call 267; refine (putLow_any v' (l ++ [253]) n 2 2 rfl hn _ (by omega) (by simp; omega) hown').mono ?_; rintro e w' ⟨v2, rfl, ho, hon⟩))
    go_ret
    exact ⟨v2, rfl, by simpa using ho, ((Onto.refl _ _).alloc _).trans (hon3.trans hon)⟩
  by_cases h3 : n ≤ 4294967295
  · have hc : clong n = 5 := by unfold clong; repeat (first | rw [if_pos (by omega)] | rw [if_neg (by omega)])
    have hL : countL n = 254 :: lowL n 4 := by unfold countL; rw [if_neg h1, if_neg h2, if_pos h3]
    rw [hL]
    clear hL
    go_enter Tryz.func223, Tryz.ntmps223
    go_wp2_with (first | (go_at_call 148; refine (countLong_any _ _).mono ?_; rintro e w1 ⟨rfl, rfl⟩; rw [hc]) | (at_builtin; refine wpList_app rfl _ _ rfl v _ rfl (hown.alloc _) ⟨_, 0, none⟩ 1 1 [254] rfl rfl (one_new _ _ _ rfl) (by omega) ?_; intro v' w3 hown' hon3) | (go_at_call 267; refine (putLow_any v' (l ++ [254]) n 4 4 rfl hn _ (by omega) (by simp; omega) hown').mono ?_; rintro e w' ⟨v2, rfl, ho, hon⟩))
    go_ret
    exact ⟨v2, rfl, by simpa using ho, ((Onto.refl _ _).alloc _).trans (hon3.trans hon)⟩
  · have hc : clong n = 9 := by unfold clong; repeat (first | rw [if_pos (by omega)] | rw [if_neg (by omega)])
    have hL : countL n = 255 :: lowL n 8 := by unfold countL; rw [if_neg h1, if_neg h2, if_neg h3]
    rw [hL]
    clear hL
    go_enter Tryz.func223, Tryz.ntmps223
    go_wp2_with (first | (go_at_call 148; refine (countLong_any _ _).mono ?_; rintro e w1 ⟨rfl, rfl⟩; rw [hc]) | (at_builtin; refine wpList_app rfl _ _ rfl v _ rfl (hown.alloc _) ⟨_, 0, none⟩ 1 1 [255] rfl rfl (one_new _ _ _ rfl) (by omega) ?_; intro v' w3 hown' hon3) | (go_at_call 267; refine (putLow_any v' (l ++ [255]) n 8 8 rfl hn _ (by omega) (by simp; omega) hown').mono ?_; rintro e w' ⟨v2, rfl, ho, hon⟩))
    go_ret
    exact ⟨v2, rfl, by simpa using ho, ((Onto.refl _ _).alloc _).trans (hon3.trans hon)⟩
theorem clong_le (n : Int) : clong n ≤ 9 := by unfold clong; repeat' split <;> omega
theorem wCount (p : Value) (l : List UInt8) (n : Nat) (hn : U64 n) (w : World) (hl : l.length ≤ 35184372088832) (h : Wst w p l) :
    Calls Tryz.prog 161 #[p, .int .u64 n] w fun e w' => e = .returned (.tuple #[]) ∧ Wst w' p (l ++ countL n) ∧ Wfr w w' p := by
  rcases h with rfl | ⟨b, v, rfl, hc, hf, ho, hne⟩
  · go_enter Tryz.func161, Tryz.ntmps161
    go_wp2
    go_end0
    exact ⟨rfl, .inl rfl, Wfr.refl _ _⟩
  · go_enter Tryz.func161, Tryz.ntmps161
    go_wp2_with (go_at_call 223; refine (putCount_any v l n hn _ (by omega) ho).mono ?_; rintro e w1 ⟨v', rfl, ho1, hon⟩; obtain ⟨ao, nn, c, rfl, _⟩ := ho1.form; obtain ⟨c1, f1, hw1, hw2⟩ := Wst.stored hc hf hne ho1 hon)
    go_end0
    exact ⟨rfl, hw1, hw2⟩
theorem wString (p : Value) (l : List UInt8) (s : ByteArray) (hs0 : s.size ≤ 140737488351232) (hs : p = .pointer none ∨ s.size ≤ 35184372088832) (w : World) (hl : l.length ≤ 35184372088832) (h : Wst w p l) :
    Calls Tryz.prog 217 #[p, .string s] w fun e w' => e = .returned (.tuple #[]) ∧ Wst w' p (l ++ countL s.size ++ s.data.toList) ∧ Wfr w w' p := by
  have hcl : (l ++ countL s.size).length ≤ 35184372088932 := by
    have h1 := countL_len s.size
    have h2 := clong_le s.size
    rw [List.length_append]
    omega
  have HS : Hid (p = .pointer none ∨ s.size ≤ 35184372088832) := hs
  clear hs
  go_enter Tryz.func217, Tryz.ntmps217
  go_wp2_with fail
  refine (wCount p l s.size (by unfold U64; omega) _ hl h).mono ?_
  rintro e w1 ⟨rfl, hw1, hw2⟩
  go_wp2_with fail
  refine (wBytes p (l ++ countL s.size) s HS.out _ hcl hw1).mono ?_
  rintro e w2 ⟨rfl, hw3, hw4⟩
  go_wp2
  go_end0
  exact ⟨rfl, hw3, hw2.trans hw4⟩
theorem wHash (p : Value) (l : List UInt8) (hh : List UInt8) (hhl : hh.length = 32) (w : World) (hl : l.length ≤ 35184372088832) (h : Wst w p l) :
    Calls Tryz.prog 159 #[p, .agg (hc hh)] w fun e w' => e = .returned (.tuple #[]) ∧ Wst w' p (l ++ hh) ∧ Wfr w w' p := by
  have hb : Below w.heap.size w (w.alloc (.cells (hc hh) 46)) := (Below.refl _ _).alloc (Nat.le_refl _) _
  have hcv := conv_row (w.alloc (.cells (hc hh) 46)) w.heap.size hh hhl 46 (heap_alloc_new w _)
  have hz : (⟨hh.toArray⟩ : ByteArray).size = 32 := by show hh.toArray.size = 32; simpa using hhl
  go_enter Tryz.func159, Tryz.ntmps159
  go_wp2_with (first | refine wpList_boxA rfl _ rfl (hc hh) rfl ?_ | (go_at_call 142; refine (wBytes p l ⟨hh.toArray⟩ (.inr (by omega)) _ (by omega) (h.below hb)).mono ?_; rintro e w1 ⟨rfl, hw1, hw2⟩))
  go_end0
  exact ⟨rfl, hw1, (Wfr.of_below h hb).trans hw2⟩
end
section
set_option maxRecDepth 10000
set_option maxHeartbeats 4000000
end
structure Ek (α : Type) where
  t : TypeId
  e : TypeId
  k : Nat
  b : Nat
  enc : α → List Value
  kpos : 0 < k
  k24 : k ≤ 16777216
  sl : Tryz.prog.underlying t = some (.slice e)
  inf : (Tryz.prog.info? e).map (fun i => (i.zero.map (·.cells.size), i.size, i.bytes)) = some (some k, k, b)
  len : ∀ x, (enc x).length = k
  one : ∀ x, ∀ v ∈ enc x, v.oneCell' = true
section
variable {α : Type} (E : Ek α)
def flatE (L : List α) : List Value := (L.map E.enc).flatten
theorem flatE_nil : flatE E [] = [] := rfl
theorem flatE_cons (a : α) (L : List α) : flatE E (a :: L) = E.enc a ++ flatE E L := by simp [flatE]
theorem flatE_len (L : List α) : (flatE E L).length = L.length * E.k := by
  induction L with
  | nil => simp [flatE_nil]
  | cons a r ih => rw [flatE_cons, List.length_append, E.len, ih, List.length_cons, Nat.add_mul]; omega
theorem flatE_app (A B : List α) : flatE E (A ++ B) = flatE E A ++ flatE E B := by simp [flatE]
theorem flatE_one (a : α) : flatE E [a] = E.enc a := by simp [flatE]
theorem flatE_at (L : List α) : ∀ (i : Nat) (h : i < L.length), ∀ j, j < E.k → (flatE E L)[i * E.k + j]? = (E.enc L[i])[j]? := by
  induction L with
  | nil => intro i hi; simp at hi
  | cons a r ih =>
    intro i hi j hj
    have ha := E.len a
    rcases i with _ | i
    · rw [flatE_cons, List.getElem?_append_left (by omega)]
      simp
    · rw [flatE_cons, List.getElem?_append_right (by rw [Nat.add_mul]; omega), ha, show (i + 1) * E.k + j - E.k = i * E.k + j by rw [Nat.add_mul]; omega, ih i (by simpa using hi) j hj]
      rfl
theorem flatE_cell (L : List α) : ∀ v ∈ flatE E L, v.oneCell' = true := by
  intro v hv
  simp only [flatE, List.mem_flatten, List.mem_map] at hv
  obtain ⟨_, ⟨x, _, rfl⟩, hv⟩ := hv
  exact E.one x v hv
theorem Ek.parts : ∃ i z, Tryz.prog.info? E.e = some i ∧ i.zero = some z ∧ z.cells.size = E.k ∧ i.size = E.k ∧ i.bytes = E.b := by
  have h := E.inf
  cases hi : Tryz.prog.info? E.e with
  | none => rw [hi] at h; cases h
  | some i =>
    rw [hi] at h
    simp only [Option.map_some, Option.some.injEq, Prod.mk.injEq] at h
    obtain ⟨h1, h2, h3⟩ := h
    cases hz : i.zero with
    | none => rw [hz] at h1; cases h1
    | some z =>
      rw [hz] at h1
      exact ⟨i, z, rfl, hz, by simpa using h1, h2, h3⟩
def LX (w : World) (v : Value) (L : List α) : Prop := ∃ ao cap, v = .slice ao L.length cap ∧ L.length ≤ cap ∧ ∀ (i : Nat) (h : i < L.length), ∃ g off, ao = some ⟨g, off, none⟩ ∧ g < w.heap.size ∧ w.rangeAt g (off + i * E.k) (E.enc L[i])
def OX (w : World) (v : Value) (L : List α) : Prop := w.ownsRow 0 E.e E.k v L.length (flatE E L)
end
theorem rangeX_below {w W : World} {B g off : Nat} {cs : List Value} (hr : w.rangeAt g off cs) (hb : Below B w W) (hg : g < B) : W.rangeAt g off cs := fun j v hv => by
  have := hr j v hv
  rw [← this]
  exact hb.cell (p := ⟨g, off + j, none⟩) hg
section
variable {α : Type} {E : Ek α} {w W : World} {v : Value} {L : List α}
theorem LX.below (h : LX E w v L) (hb : Below w.heap.size w W) : LX E W v L := by
  obtain ⟨ao, cap, rfl, h2, h3⟩ := h
  refine ⟨ao, cap, rfl, h2, fun i hi => ?_⟩
  obtain ⟨g, off, e, hg, hr⟩ := h3 i hi
  exact ⟨g, off, e, Nat.lt_of_lt_of_le hg hb.size, rangeX_below hr hb hg⟩
theorem LX.form (h : LX E w v L) : ∃ ao cap, v = .slice ao L.length cap := by
  obtain ⟨ao, cap, e, _⟩ := h
  exact ⟨ao, cap, e⟩
theorem LX.base {ao : Option Addr} {n cap : Nat} (h : LX E w (.slice ao n cap) L) (h0 : 0 < L.length) : ∃ g off, ao = some ⟨g, off, none⟩ := by
  obtain ⟨_, _, e, _, h3⟩ := h
  injection e with e1
  obtain ⟨g, off, e2, _⟩ := h3 0 h0
  exact ⟨g, off, e1.trans e2⟩
theorem LX.range {g off n cap : Nat} (h : LX E w (.slice (some ⟨g, off, none⟩) n cap) L) (i : Nat) (hi : i < L.length) : w.rangeAt g (off + i * E.k) (E.enc L[i]) := by
  obtain ⟨_, _, e, _, h3⟩ := h
  injection e with e1
  subst e1
  obtain ⟨g', off', e2, _, hc⟩ := h3 i hi
  cases e2
  exact hc
theorem LX.lt {g off n cap : Nat} (h : LX E w (.slice (some ⟨g, off, none⟩) n cap) L) (h0 : 0 < L.length) : g < w.heap.size := by
  obtain ⟨_, _, e, _, h3⟩ := h
  injection e with e1
  subst e1
  obtain ⟨g', off', e2, hg, _⟩ := h3 0 h0
  cases e2
  exact hg
theorem LX.nil (w : World) : LX E w (.slice none 0 0) [] := ⟨none, 0, rfl, Nat.le_refl _, fun i hi => by simp at hi⟩
theorem OX.nil (w : World) : OX E w (.slice none 0 0) [] := World.ownsRow_nil _ _ _ _
theorem OX.form (h : OX E w v L) : ∃ ao c, v = .slice ao L.length c := by
  rcases h.2 with ⟨rfl, h0⟩ | ⟨g, cap, cur, rfl, _⟩
  · exact ⟨none, 0, by rw [h0]⟩
  · exact ⟨_, _, rfl⟩
theorem OX.of_block (h : OX E w v L) (hb : ∀ g, v.ownBlock = some g → W.heap[g]? = w.heap[g]?) : OX E W v L := by
  obtain ⟨h2, h3⟩ := h
  refine ⟨h2, ?_⟩
  rcases h3 with ⟨rfl, h0⟩ | ⟨g, cap, cur, rfl, h4, hg, h5⟩
  · exact .inl ⟨rfl, h0⟩
  · exact .inr ⟨g, cap, cur, rfl, h4, (hb g rfl).trans hg, h5⟩
theorem OX.lt (h : OX E w v L) : ∀ g, v.ownBlock = some g → g < w.heap.size := by
  intro g hg
  rcases h.2 with ⟨rfl, h0⟩ | ⟨g', cap, cur, rfl, h4, hb, h5⟩
  · cases hg
  · cases hg
    exact lt_heap hb
theorem OX.below (h : OX E w v L) (hb : Below w.heap.size w W) : OX E W v L := h.of_block fun g hg => hb.block _ (h.lt g hg)
theorem OX.read (h : OX E w v L) : LX E w v L := by
  obtain ⟨h2, h3⟩ := h
  rcases h3 with ⟨rfl, h0⟩ | ⟨g, cap, cur, rfl, hb, hg, hn, hm, hsz, ht⟩
  · exact ⟨none, 0, by rw [h0], by omega, fun i hi => by omega⟩
  · refine ⟨_, cap, rfl, hn, fun i hi => ⟨g, 0, rfl, lt_heap hg, fun j u hu => ?_⟩⟩
    have hj : j < E.k := by
      have := (List.getElem?_eq_some_iff.1 hu).1
      rw [E.len] at this
      exact this
    rw [cell_of_row w g _ cur E.e (0, 0) hg, ← Array.getElem?_toList]
    have e2 := flatE_at E L i hi j hj
    rw [hu, ← ht, List.getElem?_take] at e2
    have hlt : i * E.k + E.k ≤ L.length * E.k := by
      have := Nat.mul_le_mul_right E.k (show i + 1 ≤ L.length by omega)
      rw [Nat.add_mul] at this
      omega
    rw [if_pos (by omega)] at e2
    rw [show 0 + i * E.k + j = i * E.k + j by omega]
    exact e2
theorem Ek.load {W : World} {g off : Nat} (x : α) {kd : TypeDesc} (hu : Tryz.prog.underlying E.e = some kd) (hk : kd.isRow = true) (hr : W.rangeAt g off (E.enc x)) : (Instr.loadAt E.e (.pointer (some ⟨g, off, none⟩))).run Tryz.prog W = .ok (.agg (E.enc x).toArray) W := by
  obtain ⟨i, z, hi, _, _, hs, _⟩ := E.parts
  exact run_loadAt_mid W g off E.e _ _ hr hu hk (by rw [hi, E.len]; simp [hs])
theorem Ek.app {ty : TypeId} (hown : OX E w v L) (ad : Addr) (m c : Nat) (N : List α) (hm : m = N.length) (hnews : ∀ j u, (flatE E N)[j]? = some u → w.cell? (ad.add j) = some u)
    (hsm : (L.length + m) * E.b ≤ 140737488355328) (h63 : L.length + m ≤ maxLen) :
    ∃ v' w', (Builtin.append_ #[E.t, E.t] ty #[v, .slice (some ad) m c]).run Tryz.prog w = .ok v' w' ∧ OX E w' v' (L ++ N) ∧ Onto w w' v v' := by
  obtain ⟨i0, z, hi, hz0, hzs, hz1, hz2⟩ := E.parts
  obtain ⟨v', w', hr, h2, h3, _, h5⟩ := run_append_own_at (P := Tryz.prog) w 0 E.t ty E.e i0 z E.k E.b E.sl hi hz0 hz1 hz2 hzs E.kpos v L.length (flatE E L) hown ad m c (flatE E N) (by rw [flatE_len, hm]) hnews
    (flatE_cell E N) h63 hsm (Nat.zero_le _)
  refine ⟨v', w', hr, ?_, ⟨h3, ?_⟩⟩
  · unfold OX
    rw [List.length_append, flatE_app, ← hm]
    exact h2
  · rcases h5 with h5 | h5
    · exact .inl h5
    · exact .inr ⟨_, h5, Nat.le_refl _⟩
theorem Ek.bs1 (w : World) (x : α) : (Instr.buildSlice E.t 1 #[(0, .agg (E.enc x).toArray)]).run Tryz.prog w = .ok (.slice (some ⟨w.heap.size, 0, none⟩) 1 1) (w.alloc (.cells (E.enc x).toArray E.e)) := by
  obtain ⟨i, z, hi, hz, hzs, hs, _⟩ := E.parts
  have hk := E.kpos
  have hcs : (Value.agg (E.enc x).toArray).cells.size = E.k := by
    show (E.enc x).toArray.size = E.k
    rw [List.size_toArray, E.len]
  obtain ⟨r, hr, hrs, hk⟩ := Great.fill_dense (s := E.k) E.kpos [Value.agg (E.enc x).toArray] 0 ((Array.range (1 * E.k)).map (z.cells[· % z.cells.size]!)) (fun v hv => by simp at hv; rw [hv]; exact hcs) (by simp)
  have e1 : r = (E.enc x).toArray := by
    apply Array.ext
    · rw [hrs, show (E.enc x).toArray.size = E.k by rw [List.size_toArray, E.len]]; simp
    · intro k h1 h2
      have hk1 : k < E.k := by rw [List.size_toArray, E.len] at h2; exact h2
      have := hk k
      rw [if_pos ⟨by omega, by simp; omega⟩, Array.getElem?_eq_getElem h1, show k / E.k - 0 = 0 by rw [Nat.div_eq_of_lt hk1], Nat.mod_eq_of_lt hk1] at this
      simp only [List.getElem?_cons_zero, Option.bind_some] at this
      rw [show (Value.agg (E.enc x).toArray).cells = (E.enc x).toArray from rfl, Array.getElem?_eq_getElem h2] at this
      exact Option.some.inj this
  rw [e1] at hr
  refine run_buildSlice (P := Tryz.prog) w E.t E.e 1 #[(0, .agg (E.enc x).toArray)] (E.enc x).toArray i z E.sl hi hz (by rw [hs]; have := E.k24; omega) (by rw [hs]; omega) ?_
  rw [hs]
  exact hr
theorem one_newX (w : World) (x : α) : ∀ j u, (flatE E [x])[j]? = some u → (w.alloc (.cells (E.enc x).toArray E.e)).cell? ((⟨w.heap.size, 0, none⟩ : Addr).add j) = some u := by
  intro j u hu
  rw [flatE_one] at hu
  have hadd : (⟨w.heap.size, 0, none⟩ : Addr).add j = ⟨w.heap.size, 0 + j, none⟩ := by unfold Addr.add; split <;> simp_all
  rw [hadd, cell_of_row _ _ _ _ _ _ (heap_alloc_last w _), Nat.zero_add]
  simpa using hu
end
structure Nt where
  time : UInt32
  serv : UInt64
  ip : List UInt8
  port : UInt16
  hip : ip.length = 16
  deriving DecidableEq
structure Im where
  kind : UInt32
  hash : List UInt8
  hh : hash.length = 32
  deriving DecidableEq
structure Fd where
  place : Int
  raw : ByteArray
  deriving DecidableEq
abbrev Id32 := {l : List UInt8 // l.length = 32}
def Nt.cells (x : Nt) : List Value := .int .u32 (x.time.toNat : Int) :: .int .u64 (x.serv.toNat : Int) :: (cellsL x.ip ++ [.int .u16 (x.port.toNat : Int)])
def Im.cells (x : Im) : List Value := .int .u32 (x.kind.toNat : Int) :: cellsL x.hash
def Fd.cells (x : Fd) : List Value := [.int .i64 x.place, .string x.raw]
theorem cellsL_one (l : List UInt8) : ∀ v ∈ cellsL l, v.oneCell' = true := fun v hv => by
  simp only [cellsL, List.mem_map] at hv
  obtain ⟨b, _, rfl⟩ := hv
  rfl
theorem Nt.len (x : Nt) : x.cells.length = 19 := by simp [Nt.cells, cellsL_len, x.hip]
theorem Nt.one (x : Nt) : ∀ v ∈ x.cells, v.oneCell' = true := fun v hv => by
  simp only [Nt.cells, List.mem_cons, List.mem_append, List.not_mem_nil, or_false] at hv
  rcases hv with rfl | rfl | h | rfl
  · rfl
  · rfl
  · exact cellsL_one _ v h
  · rfl
theorem Im.len (x : Im) : x.cells.length = 33 := by simp [Im.cells, cellsL_len, x.hh]
theorem Im.one (x : Im) : ∀ v ∈ x.cells, v.oneCell' = true := fun v hv => by
  simp only [Im.cells, List.mem_cons] at hv
  rcases hv with rfl | h
  · rfl
  · exact cellsL_one _ v h
theorem Fd.one (x : Fd) : ∀ v ∈ x.cells, v.oneCell' = true := fun v hv => by
  simp only [Fd.cells, List.mem_cons, List.not_mem_nil, or_false] at hv
  rcases hv with rfl | rfl <;> rfl
/-! ### the kinds -/
def KH : Ek Id32 := ⟨40, 46, 32, 32, fun x => cellsL x.1, by decide, by decide, Tryz.underlying40, by kernel_rfl, fun x => by rw [cellsL_len, x.2], fun x => cellsL_one x.1⟩
def KS : Ek ByteArray := ⟨269, 9, 1, 16, fun x => [.string x], by decide, by decide, Tryz.underlying269, by kernel_rfl, fun _ => rfl, fun x v hv => by simp only [List.mem_singleton] at hv; rw [hv]; rfl⟩
def KP : Ek Int := ⟨37, 3, 1, 8, fun x => [.int .i64 x], by decide, by decide, Tryz.underlying37, by kernel_rfl, fun _ => rfl, fun x v hv => by simp only [List.mem_singleton] at hv; rw [hv]; rfl⟩
theorem eqF_cons {W : World} {d : Nat} {xs ys : Array Value} {f : Field} {fs : List Field} (hn : f.name ≠ "_") {a b : Value} {r : Bool} (pa : (Go.part f.type xs f.offset).run Tryz.prog W = .ok a W) (pb : (Go.part f.type ys f.offset).run Tryz.prog W = .ok b W)
    (hr : (Op.equalIn d f.type a b).run Tryz.prog W = .ok r W) {r2 : Bool} (hrest : (Op.eqFields d xs ys fs).run Tryz.prog W = .ok r2 W) : (Op.eqFields d xs ys (f :: fs)).run Tryz.prog W = .ok (r && r2) W := by
  simp only [Op.eqFields, hn, ne_eq, not_false_eq_true, if_true, Sem.run_bind, pa, pb, hr, Result.andThen_ok]
  cases r
  · simp
  · simp [hrest]
theorem part_cell {W : World} {t : TypeId} {xs : Array Value} {off : Nat} {kd : TypeDesc} {v : Value} (hu : Tryz.prog.underlying t = some kd) (hk : kd.isRow = false) (h : xs[off]? = some v) : (Go.part t xs off).run Tryz.prog W = .ok v W := by
  unfold Go.part isAgg
  cases kd <;> simp [TypeDesc.isRow] at hk <;> simp [run_underlying hu, h]
theorem part_row {W : World} {t : TypeId} {xs : Array Value} {off n : Nat} {kd : TypeDesc} {c : Array Value} (hu : Tryz.prog.underlying t = some kd) (hk : kd.isRow = true) (hs : (sizeOf t).run Tryz.prog W = .ok n W) (h : xs.extract off (off + n) = c) : (Go.part t xs off).run Tryz.prog W = .ok (.agg c) W := by
  unfold Go.part isAgg
  cases kd <;> simp [TypeDesc.isRow] at hk <;> simp [run_underlying hu, hs, h]
structure FN (t : TypeId) : Prop where
  ex : ∃ f0 f1 f2 f3, Tryz.prog.underlying t = some (.struct #[f0, f1, f2, f3]) ∧ (f0.name ≠ "_" ∧ f1.name ≠ "_" ∧ f2.name ≠ "_" ∧ f3.name ≠ "_") ∧ (f0.offset = 0 ∧ f1.offset = 1 ∧ f2.offset = 2 ∧ f3.offset = 18) ∧
    Tryz.prog.underlying f0.type = some (.int .u32) ∧ Tryz.prog.underlying f1.type = some (.int .u64) ∧ Tryz.prog.underlying f2.type = some (.array 16 5) ∧ Tryz.prog.underlying f3.type = some (.int .u16) ∧ (∀ W, (sizeOf f2.type).run Tryz.prog W = .ok 16 W)
  st : Tryz.prog.stoodInHeld t = false
theorem eqC_bytes (l m : List UInt8) (n : Nat) (hl : l.length = n) (hm : m.length = n) (t : TypeId) (ht : Tryz.prog.underlying t = some (.array n 5)) (d : Nat) (W : World) : (Op.equalIn (d + 2) t (.agg (cellsL l).toArray) (.agg (cellsL m).toArray)).run Tryz.prog W = .ok (l == m) W :=
  run_equalIn_bytes (P := Tryz.prog) W d t 5 n ht Tryz.underlying5 size5 l m hl hm
theorem Nt.same (x y : Nt) : (((x.time.toNat : Int) == (y.time.toNat : Int)) && (((x.serv.toNat : Int) == (y.serv.toNat : Int)) && ((x.ip == y.ip) && (((x.port.toNat : Int) == (y.port.toNat : Int)) && true)))) = decide (x = y) := by
  rw [Bool.eq_iff_iff]
  simp only [Bool.and_eq_true, beq_iff_eq, decide_eq_true_eq, and_true]
  constructor
  · rintro ⟨h0, h1, h2, h3⟩
    obtain ⟨a, b, c, d, _⟩ := x
    obtain ⟨a', b', c', d', _⟩ := y
    simp only at h0 h1 h2 h3
    subst h2
    have e0 : a = a' := UInt32.toNat_inj.1 (by omega)
    have e1 : b = b' := UInt64.toNat_inj.1 (by omega)
    have e3 : d = d' := UInt16.toNat_inj.1 (by omega)
    subst e0 e1 e3
    rfl
  · rintro rfl
    exact ⟨rfl, rfl, rfl, rfl⟩
structure FI (t : TypeId) : Prop where
  ex : ∃ f0 f1, Tryz.prog.underlying t = some (.struct #[f0, f1]) ∧ (f0.name ≠ "_" ∧ f1.name ≠ "_") ∧ (f0.offset = 0 ∧ f1.offset = 1) ∧
    Tryz.prog.underlying f0.type = some (.int .u32) ∧ Tryz.prog.underlying f1.type = some (.array 32 5) ∧ (∀ W, (sizeOf f1.type).run Tryz.prog W = .ok 32 W)
  st : Tryz.prog.stoodInHeld t = false
theorem Im.hash_at (x : Im) : x.cells.toArray.extract 1 (1 + 32) = (cellsL x.hash).toArray := by
  have h : (cellsL x.hash).length = 32 := by rw [cellsL_len, x.hh]
  simp only [Im.cells, List.extract_toArray, List.extract]
  simp
  rw [List.take_of_length_le (by omega)]
theorem Im.same (x y : Im) : (((x.kind.toNat : Int) == (y.kind.toNat : Int)) && ((x.hash == y.hash) && true)) = decide (x = y) := by
  rw [Bool.eq_iff_iff]
  simp only [Bool.and_eq_true, beq_iff_eq, decide_eq_true_eq, and_true]
  constructor
  · rintro ⟨h0, h1⟩
    obtain ⟨a, b, _⟩ := x
    obtain ⟨a', b', _⟩ := y
    simp only at h0 h1
    subst h1
    have e0 : a = a' := UInt32.toNat_inj.1 (by omega)
    subst e0
    rfl
  · rintro rfl
    exact ⟨rfl, rfl⟩
structure FF (t : TypeId) : Prop where
  ex : ∃ f0 f1, Tryz.prog.underlying t = some (.struct #[f0, f1]) ∧ (f0.name ≠ "_" ∧ f1.name ≠ "_") ∧ (f0.offset = 0 ∧ f1.offset = 1) ∧
    Tryz.prog.underlying f0.type = some (.int .i64) ∧ Tryz.prog.underlying f1.type = some .string
  st : Tryz.prog.stoodInHeld t = false
theorem bytes_same (a b : ByteArray) : (a.toList == b.toList) = decide (a = b) := by
  rw [Bool.eq_iff_iff, beq_iff_eq, decide_eq_true_eq, ByteArray.toList_eq, ByteArray.toList_eq]
  constructor
  · intro h
    obtain ⟨⟨x⟩⟩ := a
    obtain ⟨⟨y⟩⟩ := b
    simp only at h
    rw [h]
  · rintro rfl
    rfl
theorem Fd.same (x y : Fd) : ((x.place == y.place) && ((x.raw.toList == y.raw.toList) && true)) = decide (x = y) := by
  rw [bytes_same, Bool.eq_iff_iff]
  simp only [Bool.and_eq_true, beq_iff_eq, decide_eq_true_eq, and_true]
  constructor
  · rintro ⟨h0, h1⟩
    obtain ⟨a, b⟩ := x
    obtain ⟨a', b'⟩ := y
    simp only at h0 h1
    subst h0 h1
    rfl
  · rintro rfl
    exact ⟨rfl, rfl⟩
end Go.Proofs.YtcoojkpimbddlaaGreatDoor
namespace Go.Proofs.YtcoojkpimbddlaaGreatDoor
open Go.RowKit
open Go.Deep
set_option linter.unusedVariables false
structure Ti where
  hash : List UInt8
  idx : UInt32
  key : ByteArray
  seq : UInt32
  hh : hash.length = 32
  deriving DecidableEq
structure Tu where
  val : UInt64
  lock : ByteArray
  deriving DecidableEq
structure Tm where
  ver : UInt32
  ins : List Ti
  outs : List Tu
  time : UInt32
  deriving DecidableEq
def Ti.cells (x : Ti) : List Value := cellsL x.hash ++ [.int .u32 (x.idx.toNat : Int), .string x.key, .int .u32 (x.seq.toNat : Int)]
def Tu.cells (x : Tu) : List Value := [.int .u64 (x.val.toNat : Int), .string x.lock]
theorem Ti.len (x : Ti) : x.cells.length = 35 := by simp [Ti.cells, cellsL_len, x.hh]
theorem Ti.one (x : Ti) : ∀ v ∈ x.cells, v.oneCell' = true := fun v hv => by
  simp only [Ti.cells, List.mem_cons, List.mem_append, List.not_mem_nil, or_false] at hv
  rcases hv with h | rfl | rfl | rfl
  · exact cellsL_one _ v h
  all_goals rfl
theorem Tu.one (x : Tu) : ∀ v ∈ x.cells, v.oneCell' = true := fun v hv => by
  simp only [Tu.cells, List.mem_cons, List.not_mem_nil, or_false] at hv
  rcases hv with rfl | rfl <;> rfl
def KA : Ek Ti := ⟨149, 162, 35, 64, Ti.cells, by decide, by decide, Tryz.underlying149, by kernel_rfl, Ti.len, Ti.one⟩
def KAr : Ek Ti := ⟨71, 164, 35, 64, Ti.cells, by decide, by decide, Tryz.underlying71, by kernel_rfl, Ti.len, Ti.one⟩
def KO : Ek Tu := ⟨150, 156, 2, 24, Tu.cells, by decide, by decide, Tryz.underlying150, by kernel_rfl, fun _ => rfl, Tu.one⟩
def KOr : Ek Tu := ⟨72, 165, 2, 24, Tu.cells, by decide, by decide, Tryz.underlying72, by kernel_rfl, fun _ => rfl, Tu.one⟩
/-! ### bytes -/
def txtL (x : ByteArray) : List UInt8 := countL x.size ++ x.data.toList
def Ti.bytes (x : Ti) : List UInt8 := x.hash ++ (lowL x.idx.toNat 4 ++ (txtL x.key ++ lowL x.seq.toNat 4))
def Tu.bytes (x : Tu) : List UInt8 := lowL x.val.toNat 8 ++ txtL x.lock
def insL (l : List Ti) : List UInt8 := (l.map Ti.bytes).flatten
def outsL (l : List Tu) : List UInt8 := (l.map Tu.bytes).flatten
def Tm.bytes (x : Tm) : List UInt8 := lowL x.ver.toNat 4 ++ ((countL x.ins.length ++ insL x.ins) ++ ((countL x.outs.length ++ outsL x.outs) ++ lowL x.time.toNat 4))
def Ti.ok (x : Ti) : Prop := x.key.size ≤ 520
def Tu.ok (x : Tu) : Prop := x.lock.size ≤ 520
def Tm.ok (x : Tm) : Prop := (x.ins.length ≤ 4096 ∧ ∀ i ∈ x.ins, i.ok) ∧ (x.outs.length ≤ 4096 ∧ ∀ o ∈ x.outs, o.ok)
/-! ### parts that are taken -/
structure Tk {α : Type} (enc : α → List UInt8) (ok : α → Prop) (t : ByteArray) (n : Nat) (e : Int) (x : α) (n' : Nat) (e' : Int) : Prop where
  lo : n ≤ n'
  hi : n' ≤ t.size
  sound : e' = 0 → e = 0 ∧ t.data.toList.drop n = enc x ++ t.data.toList.drop n' ∧ ok x ∧ n' ≤ 4096
  full : ∀ y Y, e = 0 → ok y → t.data.toList.drop n = enc y ++ Y → n + (enc y).length ≤ 4096 → e' = 0 ∧ x = y ∧ n' = n + (enc y).length
section
variable {α β : Type} {enc : α → List UInt8} {ok : α → Prop} {encB : β → List UInt8} {okB : β → Prop} {t : ByteArray} {n n1 n2 : Nat} {e e1 e2 : Int} {x : α} {y : β}
theorem Tk.seq (a : Tk enc ok t n e x n1 e1) (b : Tk encB okB t n1 e1 y n2 e2) : Tk (fun p : α × β => enc p.1 ++ encB p.2) (fun p => ok p.1 ∧ okB p.2) t n e (x, y) n2 e2 := by
  refine ⟨Nat.le_trans a.lo b.lo, b.hi, fun h => ?_, ?_⟩
  · obtain ⟨h1, h2, h3, h4⟩ := b.sound h
    obtain ⟨g1, g2, g3, g4⟩ := a.sound h1
    exact ⟨g1, by rw [g2, h2, List.append_assoc], ⟨g3, h3⟩, h4⟩
  · rintro ⟨y1, y2⟩ Y he ⟨o1, o2⟩ hd hl
    simp only at hd hl o1 o2 ⊢
    rw [List.append_assoc] at hd
    rw [List.length_append] at hl ⊢
    obtain ⟨g1, rfl, g3⟩ := a.full y1 _ he o1 hd (by omega)
    have hd2 : t.data.toList.drop n1 = encB y2 ++ Y := by rw [g3, ← List.drop_drop, hd, List.drop_left]
    obtain ⟨h1, rfl, h3⟩ := b.full y2 Y g1 o2 hd2 (by omega)
    exact ⟨h1, rfl, by omega⟩
theorem Tk.conv (a : Tk enc ok t n e x n1 e1) (f : α → β) (h1 : ∀ z, ok z → encB (f z) = enc z) (h2 : ∀ z, ok z → okB (f z)) (h3 : ∀ y, okB y → ∃ z, f z = y ∧ ok z) : Tk encB okB t n e (f x) n1 e1 := by
  refine ⟨a.lo, a.hi, fun h => ?_, fun y Y he ho hd hl => ?_⟩
  · obtain ⟨g1, g2, g3, g4⟩ := a.sound h
    exact ⟨g1, by rw [h1 _ g3]; exact g2, h2 _ g3, g4⟩
  · obtain ⟨z, rfl, oz⟩ := h3 y ho
    rw [h1 _ oz] at hd hl ⊢
    obtain ⟨g1, rfl, g3⟩ := a.full z Y he oz hd hl
    exact ⟨g1, rfl, g3⟩
theorem Tk.nil (hn : n ≤ t.size) (h0 : e = 0 → n ≤ 4096) : Tk (fun l : List α => (l.map enc).flatten) (fun l => l.length = 0 ∧ ∀ z ∈ l, ok z) t n e [] n e := by
  refine ⟨Nat.le_refl _, hn, fun h => ⟨h, rfl, ⟨rfl, fun z hz => by cases hz⟩, h0 h⟩, fun l Y he ho hd hl => ?_⟩
  have : l = [] := List.eq_nil_of_length_eq_zero ho.1
  subst this
  exact ⟨he, rfl, rfl⟩
theorem Tk.list {L : List α} {c most : Nat} (a : Tk countL (fun k => k ≤ most) t n e c n1 e1) (b : Tk (fun l : List α => (l.map enc).flatten) (fun l => l.length = c ∧ ∀ z ∈ l, ok z) t n1 e1 L n2 e2) : Tk (fun l : List α => countL l.length ++ (l.map enc).flatten) (fun l => l.length ≤ most ∧ ∀ z ∈ l, ok z) t n e L n2 e2 := by
  refine ⟨Nat.le_trans a.lo b.lo, b.hi, fun h => ?_, fun l Y he ho hd hl => ?_⟩
  · obtain ⟨h1, h2, h3, h4⟩ := b.sound h
    obtain ⟨g1, g2, g3, g4⟩ := a.sound h1
    exact ⟨g1, by rw [g2, h2, List.append_assoc, h3.1], ⟨by rw [h3.1]; exact g3, h3.2⟩, h4⟩
  · rw [List.append_assoc] at hd
    rw [List.length_append] at hl ⊢
    obtain ⟨g1, g2, g3⟩ := a.full l.length _ he ho.1 hd (by omega)
    have hd2 : t.data.toList.drop n1 = (l.map enc).flatten ++ Y := by rw [g3, ← List.drop_drop, hd, List.drop_left]
    obtain ⟨h1, h2, h3⟩ := b.full l Y g1 ⟨g2.symm, ho.2⟩ hd2 (by omega)
    exact ⟨h1, h2, by omega⟩
theorem Tk.left {L : List α} {c most i : Nat} (a : Tk countL (fun k => k ≤ most) t n e c n1 e1) (b : Tk (fun l : List α => (l.map enc).flatten) (fun l => l.length = i ∧ ∀ z ∈ l, ok z) t n1 e1 L n2 e2) (hi : i ≤ c) (hne : e2 ≠ 0) : Tk (fun l : List α => countL l.length ++ (l.map enc).flatten) (fun l => l.length ≤ most ∧ ∀ z ∈ l, ok z) t n e [] n2 e2 := by
  refine ⟨Nat.le_trans a.lo b.lo, b.hi, fun h => absurd h hne, fun l Y he ho hd hl => ?_⟩
  exfalso
  rw [List.append_assoc] at hd
  rw [List.length_append] at hl
  obtain ⟨g1, g2, g3⟩ := a.full l.length _ he ho.1 hd (by omega)
  have hd2 : t.data.toList.drop n1 = (l.map enc).flatten ++ Y := by rw [g3, ← List.drop_drop, hd, List.drop_left]
  have hs : (l.map enc).flatten = ((l.take i).map enc).flatten ++ ((l.drop i).map enc).flatten := by
    rw [← List.flatten_append, ← List.map_append, List.take_append_drop]
  have hsl := congrArg List.length hs
  rw [List.length_append] at hsl
  rw [hs, List.append_assoc] at hd2
  obtain ⟨h1, _, _⟩ := b.full (l.take i) _ g1 ⟨by rw [List.length_take]; omega, fun z hz => ho.2 z (List.mem_of_mem_take hz)⟩ hd2 (by omega)
  exact hne h1
end
end Go.Proofs.YtcoojkpimbddlaaGreatDoor
