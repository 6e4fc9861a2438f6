/- Lists of ids in memory: read, made, appended to. The contracts of Pair and of the document's Pair. -/
import Derived.Test.YtdkemnjkhclbkaaDoorY23
import Derived.Test.YtdkemnjkhclbkaaDoorY08
namespace Go.Proofs.YtdkemnjkhclbkaaDoor
open Go.RowKit
open Go.Deep
/-- The cells of ids. -/
def flat : List (List UInt8) → List Value
  | [] => []
  | h :: r => cellsL h ++ flat r
/-- Each id has 32 bytes. -/
def H32 (L : List (List UInt8)) : Prop := ∀ h ∈ L, h.length = 32
theorem H32.nil : H32 [] := fun h hh => by cases hh
theorem H32.cons {a : List UInt8} {L : List (List UInt8)} (ha : a.length = 32) (h : H32 L) : H32 (a :: L) := fun x hx => by
  rcases List.mem_cons.1 hx with rfl | hx
  · exact ha
  · exact h x hx
theorem H32.head {a : List UInt8} {L : List (List UInt8)} (h : H32 (a :: L)) : a.length = 32 := h a (by simp)
theorem H32.tail {a : List UInt8} {L : List (List UInt8)} (h : H32 (a :: L)) : H32 L := fun x hx => h x (by simp [hx])
theorem H32.app {A B : List (List UInt8)} (ha : H32 A) (hb : H32 B) : H32 (A ++ B) := fun x hx => by
  rcases List.mem_append.1 hx with hx | hx
  · exact ha x hx
  · exact hb x hx
theorem H32.one {a : List UInt8} (ha : a.length = 32) : H32 [a] := H32.nil.cons ha
/-- The id at a place. -/
def ia (L : List (List UInt8)) (i : Nat) : List UInt8 := L.getD i []
theorem ia_get (L : List (List UInt8)) (i : Nat) (h : i < L.length) : ia L i = L[i] := by simp [ia, h]
theorem H32.at {L : List (List UInt8)} (h : H32 L) (i : Nat) (hi : i < L.length) : (ia L i).length = 32 := by
  rw [ia_get L i hi]
  exact h _ (List.getElem_mem hi)
theorem flat_len {L : List (List UInt8)} (h : H32 L) : (flat L).length = L.length * 32 := by
  induction L with
  | nil => rfl
  | cons a r ih =>
    rw [flat, List.length_append, cellsL_len, h.head, ih h.tail, List.length_cons]
    omega
theorem flat_app (A B : List (List UInt8)) : flat (A ++ B) = flat A ++ flat B := by
  induction A with
  | nil => rfl
  | cons a r ih => rw [List.cons_append, flat, flat, ih, List.append_assoc]
theorem flat_one (a : List UInt8) : flat [a] = cellsL a := by simp [flat]
theorem flat_at {L : List (List UInt8)} (h : H32 L) : ∀ (i : Nat), i < L.length → ∀ j, j < 32 → (flat L)[i * 32 + j]? = (cellsL (ia L i))[j]? := by
  induction L with
  | nil => intro i hi; simp at hi
  | cons a r ih =>
    intro i hi j hj
    have ha : (cellsL a).length = 32 := by rw [cellsL_len, h.head]
    rcases i with _ | i
    · rw [flat, List.getElem?_append_left (by omega)]
      simp [ia]
    · rw [flat, List.getElem?_append_right (by omega), ha, show (i + 1) * 32 + j - 32 = i * 32 + j by omega, ih h.tail i (by simpa using hi) j hj]
      rfl
theorem flat_cell (L : List (List UInt8)) : ∀ v ∈ flat L, v.oneCell' = true := by
  induction L with
  | nil => intro v hv; cases hv
  | cons a r ih =>
    intro v hv
    rw [flat, List.mem_append] at hv
    rcases hv with hv | hv
    · simp only [cellsL, List.mem_map] at hv
      obtain ⟨b, _, rfl⟩ := hv
      rfl
    · exact ih v hv
/-- A slice that holds ids. -/
def LH (w : World) (v : Value) (L : List (List UInt8)) : Prop := H32 L ∧ ∃ ao cap, v = .slice ao L.length cap ∧ L.length ≤ cap ∧ ∀ i, i < L.length → ∃ g off, ao = some ⟨g, off, none⟩ ∧ g < w.heap.size ∧ w.rangeAt g (off + i * 32) (cellsL (ia L i))
theorem range_belowM {w W : World} {B g off : Nat} {cs : List Value} (hr : w.rangeAt g off cs) (hb : Below B w W) (hg : g < B) : W.rangeAt g off cs := fun j v hv => by
  have := hr j v hv
  rw [← this]
  exact hb.cell (p := ⟨g, off + j, none⟩) hg
theorem range_block {w W : World} {g off : Nat} {cs : List Value} (hr : w.rangeAt g off cs) (hb : W.heap[g]? = w.heap[g]?) : W.rangeAt g off cs := fun j v hv => by
  rw [← hr j v hv]
  exact World.cell?_of_block (w := w) (a := ⟨g, off + j, none⟩) hb
theorem LH.below {w W : World} {v : Value} {L : List (List UInt8)} (h : LH w v L) (hb : Below w.heap.size w W) : LH W v L := by
  obtain ⟨h1, ao, cap, rfl, h2, h3⟩ := h
  refine ⟨h1, ao, cap, rfl, h2, fun i hi => ?_⟩
  obtain ⟨g, off, e, hg, hr⟩ := h3 i hi
  exact ⟨g, off, e, Nat.lt_of_lt_of_le hg hb.size, range_belowM hr hb hg⟩
theorem LH.drew {w : World} {v : Value} {L : List (List UInt8)} (h : LH w v L) : LH w.drew v L := h.below (Below.refl _ _).drew
/-- A slice of the program's own making that holds ids. -/
def OH (e : TypeId) (w : World) (v : Value) (L : List (List UInt8)) : Prop := H32 L ∧ w.ownsRow 0 e 32 v L.length (flat L)
theorem OH.nil (e : TypeId) (w : World) : OH e w (.slice none 0 0) [] := ⟨H32.nil, World.ownsRow_nil _ _ _ _⟩
theorem OH.alloc {e : TypeId} {w : World} {v : Value} {L : List (List UInt8)} (h : OH e w v L) (o : Obj) : OH e (w.alloc o) v L := ⟨h.1, World.ownsRow.alloc h.2 o⟩
theorem OH.form {e : TypeId} {w : World} {v : Value} {L : List (List UInt8)} (h : OH e w v L) : ∃ ao c, v = .slice ao L.length c := by
  rcases h.2.2 with ⟨rfl, h0⟩ | ⟨g, cap, cur, rfl, _⟩
  · exact ⟨none, 0, by rw [h0]⟩
  · exact ⟨_, _, rfl⟩
theorem OH.read {e : TypeId} {w : World} {v : Value} {L : List (List UInt8)} (h : OH e w v L) : LH w v L := by
  obtain ⟨h1, h2, h3⟩ := h
  rcases h3 with ⟨rfl, h0⟩ | ⟨g, cap, cur, rfl, hb, hg, hn, hm, hsz, ht⟩
  · exact ⟨h1, none, 0, by rw [h0], by omega, fun i hi => by omega⟩
  · refine ⟨h1, _, cap, rfl, hn, fun i hi => ⟨g, 0, rfl, lt_heap hg, fun j u hu => ?_⟩⟩
    have hj : j < 32 := by
      have := (List.getElem?_eq_some_iff.1 hu).1
      rw [cellsL_len, h1.at i hi] at this
      exact this
    rw [cell_of_row w g _ cur e (0, 0) hg, ← Array.getElem?_toList]
    have e2 := flat_at h1 i hi j hj
    rw [hu, ← ht, List.getElem?_take] at e2
    rw [if_pos (by have : i * 32 + 32 ≤ L.length * 32 := by omega
                   omega)] at e2
    rw [show 0 + i * 32 + j = i * 32 + j by omega]
    exact e2
theorem OH.of_block {e : TypeId} {w W : World} {v : Value} {L : List (List UInt8)} (h : OH e w v L) (hb : ∀ g, v.ownBlock = some g → W.heap[g]? = w.heap[g]?) : OH e W v L := by
  obtain ⟨h1, h2, h3⟩ := h
  refine ⟨h1, h2, ?_⟩
  rcases h3 with ⟨rfl, h0⟩ | ⟨g, cap, cur, rfl, h4, hg, h5⟩
  · exact .inl ⟨rfl, h0⟩
  · exact .inr ⟨g, cap, cur, rfl, h4, (hb g rfl).trans hg, h5⟩
theorem OH.lt {e : TypeId} {w : World} {v : Value} {L : List (List UInt8)} (h : OH e w v L) : ∀ g, v.ownBlock = some g → g < w.heap.size := by
  intro g hg
  rcases h.2.2 with ⟨rfl, h0⟩ | ⟨g', cap, cur, rfl, h4, hb, h5⟩
  · cases hg
  · cases hg
    exact lt_heap hb
theorem OH.below {e : TypeId} {w W : World} {v : Value} {L : List (List UInt8)} (h : OH e w v L) (hb : Below w.heap.size w W) : OH e W v L := h.of_block fun g hg => hb.block _ (h.lt g hg)
/-! ### the element types -/
/-- An id's type, and the type of a slice of such. -/
structure ET (t e : TypeId) : Prop where
  sl : Tryd.prog.underlying t = some (.slice e)
  ar : Tryd.prog.underlying e = some (.array 32 5)
  inf : (Tryd.prog.info? e).map (fun i => (i.zero.map (·.cells.size), i.size, i.bytes)) = some (some 32, 32, 32)
theorem EH : ET 72 24 := ⟨Tryd.underlying72, Tryd.underlying24, by kernel_rfl⟩
theorem ER : ET 77 23 := ⟨Tryd.underlying77, Tryd.underlying23, by kernel_rfl⟩
theorem ET.parts {t e : TypeId} (E : ET t e) : ∃ i z, Tryd.prog.info? e = some i ∧ i.zero = some z ∧ z.cells.size = 32 ∧ i.size = 32 ∧ i.bytes = 32 := by
  have h := E.inf
  cases hi : Tryd.prog.info? e with
  | none => rw [hi] at h; cases h
  | some i =>
    rw [hi] at h
    simp only [Option.map_some, Option.some.injEq, Prod.mk.injEq] at h
    obtain ⟨h1, h2, h3⟩ := h
    cases hz : i.zero with
    | none => rw [hz] at h1; cases h1
    | some z =>
      rw [hz] at h1
      exact ⟨i, z, rfl, hz, by simpa using h1, h2, h3⟩
/-- The load of an id out of memory. -/
theorem ET.load {t e : TypeId} (E : ET t e) {W : World} {g off : Nat} {l : List UInt8} (hl : l.length = 32) (hr : W.rangeAt g off (cellsL l)) : (Instr.loadAt e (.pointer (some ⟨g, off, none⟩))).run Tryd.prog W = .ok (.agg (hc l)) W := by
  obtain ⟨i, z, hi, _, _, hs, _⟩ := E.parts
  exact run_loadAt_mid W g off e _ _ hr E.ar rfl (by rw [hi, cellsL_len, hl]; simp [hs])
/-- An append of ids. -/
theorem ET.app {t e : TypeId} (E : ET t e) {w : World} {ty : TypeId} {v : Value} {L : List (List UInt8)} (hown : OH e w v L) (ad : Addr) (m c : Nat) (N : List (List UInt8)) (hN : H32 N) (hm : m = N.length) (hnews : ∀ j u, (flat N)[j]? = some u → w.cell? (ad.add j) = some u)
    (hsm : L.length + m ≤ 4398046511104) :
    ∃ v' w', (Builtin.append_ #[t, t] ty #[v, .slice (some ad) m c]).run Tryd.prog w = .ok v' w' ∧ OH e w' v' (L ++ N) ∧ Onto w w' v v' := by
  obtain ⟨i0, z, hi, hz0, hzs, hz1, hz2⟩ := E.parts
  obtain ⟨v', w', hr, h2, h3, _, h5⟩ := run_append_own_at (P := Tryd.prog) w 0 t ty e i0 z 32 32 E.sl hi hz0 hz1 hz2 hzs (by decide) v L.length (flat L) hown.2 ad m c (flat N) (by rw [flat_len hN, hm]) hnews
    (flat_cell N) (by unfold maxLen; omega) (by omega) (Nat.zero_le _)
  refine ⟨v', w', hr, ⟨hown.1.app hN, ?_⟩, ⟨h3, ?_⟩⟩
  · rw [List.length_append, flat_app, ← hm]
    exact h2
  · rcases h5 with h5 | h5
    · exact .inl h5
    · exact .inr ⟨_, h5, Nat.le_refl _⟩
end Go.Proofs.YtdkemnjkhclbkaaDoor
namespace Go.Proofs.YtdkemnjkhclbkaaDoor
open Go.RowKit
open Go.Deep
/-- The digest of two ids' bytes. -/
def pr (a b : List UInt8) : List UInt8 := digest (digest (a ++ b))
theorem pr_len (a b : List UInt8) : (pr a b).length = 32 := digest_len _
theorem bs_size (a : List UInt8) : (⟨a.toArray⟩ : ByteArray).size = a.length := by
  show a.toArray.size = _
  simp
theorem bs_app (a b : List UInt8) : (⟨a.toArray⟩ : ByteArray) ++ ⟨b.toArray⟩ = ⟨(a ++ b).toArray⟩ := by
  apply ByteArray.ext
  rw [ByteArray.data_append]
  simp
theorem Kg.drew {w : World} (h : Kg w) : Kg w.drew := h
/-- Two ids, and an answer's place. -/
structure PjM (w W : World) (t : TypeId) (a b : List UInt8) : Prop where
  a : W.heap[w.heap.size]? = some (.cells (hc a) t (0, 0))
  b : W.heap[w.heap.size + 1]? = some (.cells (hc b) t (0, 0))
  r : W.heap[w.heap.size + 1 + 1]? = some (.cells (hc zeros) t (0, 0))
  bel : Below w.heap.size w W
theorem PjM.start (w : World) (t : TypeId) (a b : List UInt8) : PjM w (((w.alloc (.cells (hc a) t)).alloc (.cells (hc b) t)).alloc (.cells (hc zeros) t)) t a b := by
  obtain ⟨e1, e2, e3⟩ := blk3 w (.cells (hc a) t) (.cells (hc b) t) (.cells (hc zeros) t)
  exact ⟨e1, e2, e3, below3 w _ _ _⟩
theorem PjM.next {w W W' : World} {t : TypeId} {a b : List UInt8} (j : PjM w W t a b) (h : Below W.heap.size W W') : PjM w W' t a b :=
  ⟨(h.block _ (lt_heap j.a)).trans j.a, (h.block _ (lt_heap j.b)).trans j.b, (h.block _ (lt_heap j.r)).trans j.r, below_next j.bel h⟩
theorem PjM.drew {w W : World} {t : TypeId} {a b : List UInt8} (j : PjM w W t a b) : PjM w W.drew t a b := ⟨j.a, j.b, j.r, j.bel.drew⟩
def svh (x y : Value) : Sem Unit := Instr.storeAt 24 x y
theorem svh_eq (x y : Value) : Instr.storeAt 24 x y = svh x y := rfl
def svg (x y : Value) : Sem Unit := Instr.storeAt 23 x y
theorem svg_eq (x y : Value) : Instr.storeAt 23 x y = svg x y := rfl
theorem svh_row {w : World} {g : Nat} {t : TypeId} {c d : List UInt8} (hg : w.heap[g]? = some (.cells (hc c) t (0, 0))) (hl : c.length = 32) (hd : d.length = 32) : (svh (.pointer (some ⟨g, 0, none⟩)) (.agg (hc d))).run Tryd.prog w = .ok () (w.setRow g (hc d)) := by
  unfold svh
  simp only [Instr.storeAt, Instr.sureAddr, Sem.run_bind, Sem.run_pure, Result.andThen_ok]
  rw [run_storeVar_row w g t 24 (hc c) (hc d) hg (by rw [A25.info, hc_size, hd]) (by rw [hc_size, hc_size, hl, hd]) (hc_one _)]
theorem svg_row {w : World} {g : Nat} {t : TypeId} {c d : List UInt8} (hg : w.heap[g]? = some (.cells (hc c) t (0, 0))) (hl : c.length = 32) (hd : d.length = 32) : (svg (.pointer (some ⟨g, 0, none⟩)) (.agg (hc d))).run Tryd.prog w = .ok () (w.setRow g (hc d)) := by
  unfold svg
  simp only [Instr.storeAt, Instr.sureAddr, Sem.run_bind, Sem.run_pure, Result.andThen_ok]
  rw [run_storeVar_row w g t 23 (hc c) (hc d) hg (by rw [A24.info, hc_size, hd]) (by rw [hc_size, hc_size, hl, hd]) (hc_one _)]
attribute [local go_sem ↓] svh_eq svg_eq
section
set_option maxRecDepth 10000
set_option maxHeartbeats 2000000
theorem pair_any (a b : List UInt8) (ha : a.length = 32) (hb : b.length = 32) (w : World) (hK : Kg w) : Calls Tryd.prog 59 #[.agg (hc a), .agg (hc b)] w fun e w' => e = .returned (.agg (hc (pr a b))) ∧ Below w.heap.size w w' := by
  have J0 := hide (PjM.start w 24 a b)
  have HT : Hid (∀ W, Kg W → Calls Tryd.prog 38 #[.string ⟨(a ++ b).toArray⟩] W fun e w' => e = .returned (.agg (hc (pr a b))) ∧ Below W.heap.size W w') := fun W hW => twice_any ⟨(a ++ b).toArray⟩ (by rw [bs_size, List.length_append]; omega) W hW
  have hpl := pr_len a b
  have HK := hide (hK.next J0.out.bel)
  have app := bs_app a b
  have sz : ¬ 9223372036854775807 < (⟨a.toArray⟩ : ByteArray).size + (⟨b.toArray⟩ : ByteArray).size := by rw [bs_size, bs_size]; omega
  have HL := hide (And.intro ha (And.intro hb hpl))
  generalize (⟨(a ++ b).toArray⟩ : ByteArray) = S at *
  generalize hp : pr a b = p at *
  clear hp hK
  go_enter Tryd.func59, Tryd.ntmps59
  go_upto_region 1 with (first | refine wpList_boxA rfl _ rfl (hc a) rfl ?_ | refine wpList_boxA rfl _ rfl (hc b) rfl ?_ | refine wpList_allocA A25 rfl rfl ?_)
  generalize ((w.alloc (.cells (hc a) 24)).alloc (.cells (hc b) 24)).alloc (.cells (hc zeros) 24) = W0 at *
  have c1 := conv_row W0.drew w.heap.size a ha 24 J0.out.a
  have c2 := conv_row W0.drew (w.heap.size + 1) b hb 24 J0.out.b
  generalize hA : (⟨a.toArray⟩ : ByteArray) = A at *
  generalize hB : (⟨b.toArray⟩ : ByteArray) = B at *
  clear ha hb hpl hA hB
  go_region_with (go_at_call 38; refine (HT.out _ (Kg.drew HK.out)).mono ?_; rintro e w1 ⟨rfl, be⟩; have J1 := hide (J0.out.drew.next be); have s1 := svh_row J1.out.r zeros_len HL.out.2.2; clear be)
  all_goals
    go_wp2
    exact bodyPost_ret (v := .agg (hc p)) (resA A25 Tryd.results59 _ _ (w.heap.size + 1 + 1) 24 _ (by rw [hc_size, HL.out.2.2]) rfl (setRow_heap _ _ _ _ _ _ J1.out.r)) rfl ⟨rfl, below_setRow J1.out.bel (by omega) _⟩
theorem rpair_any (a b : List UInt8) (ha : a.length = 32) (hb : b.length = 32) (w : World) : Calls Tryd.prog 64 #[.agg (hc a), .agg (hc b)] w fun e w' => e = .returned (.agg (hc (pr a b))) ∧ Below w.heap.size w w' := by
  have J0 := hide (PjM.start w 23 a b)
  have HT : Hid (∀ W, Calls Tryd.prog 42 #[.string ⟨(a ++ b).toArray⟩] W fun e w' => e = .returned (.agg (hc (pr a b))) ∧ Below W.heap.size W w') := fun W => rtwice_any ⟨(a ++ b).toArray⟩ (by rw [bs_size, List.length_append]; omega) W
  have hpl := pr_len a b
  have app := bs_app a b
  have sz : ¬ 9223372036854775807 < (⟨a.toArray⟩ : ByteArray).size + (⟨b.toArray⟩ : ByteArray).size := by rw [bs_size, bs_size]; omega
  have HL := hide (And.intro ha (And.intro hb hpl))
  generalize (⟨(a ++ b).toArray⟩ : ByteArray) = S at *
  generalize hp : pr a b = p at *
  clear hp
  go_enter Tryd.func64, Tryd.ntmps64
  go_upto_region 1 with (first | refine wpList_boxA rfl _ rfl (hc a) rfl ?_ | refine wpList_boxA rfl _ rfl (hc b) rfl ?_ | refine wpList_allocA A24 rfl rfl ?_)
  generalize ((w.alloc (.cells (hc a) 23)).alloc (.cells (hc b) 23)).alloc (.cells (hc zeros) 23) = W0 at *
  have c1 := conv_row W0.drew w.heap.size a ha 23 J0.out.a
  have c2 := conv_row W0.drew (w.heap.size + 1) b hb 23 J0.out.b
  generalize hA : (⟨a.toArray⟩ : ByteArray) = A at *
  generalize hB : (⟨b.toArray⟩ : ByteArray) = B at *
  clear ha hb hpl hA hB
  go_region_with (go_at_call 42; refine (HT.out _).mono ?_; rintro e w1 ⟨rfl, be⟩; have J1 := hide (J0.out.drew.next be); have s1 := svg_row J1.out.r zeros_len HL.out.2.2; clear be)
  all_goals
    go_wp2
    exact bodyPost_ret (v := .agg (hc p)) (resA A24 Tryd.results64 _ _ (w.heap.size + 1 + 1) 23 _ (by rw [hc_size, HL.out.2.2]) rfl (setRow_heap _ _ _ _ _ _ J1.out.r)) rfl ⟨rfl, below_setRow J1.out.bel (by omega) _⟩
end
end Go.Proofs.YtdkemnjkhclbkaaDoor
