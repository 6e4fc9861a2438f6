/- tx.ID and the document's ID: their contracts. Lists of ids in memory: read, made, appended to. The contracts of Pair and of the document's Pair. Slices of one id; the contracts of mate and width; levels as lists. The contract of twins. -/
import Derived.Test.YtcoojkpimbddlaaGreatDoorX19
import Derived.Test.YtcoojkpimbddlaaGreatDoorX16
import Derived.Test.YtcoojkpimbddlaaGreatDoorX04
import Derived.Great.BuildSlice
import Derived.Laws.BitsAllLaws
namespace Go.Proofs.YtcoojkpimbddlaaGreatDoor
open Go.RowKit
open Go.Deep
set_option linter.unusedVariables false
def Tm.idT (m : Tm) : List UInt8 := if m.toldE = 0 then dg2 (txt m.bytes) else zeros
theorem Tm.idT_len (m : Tm) : m.idT.length = 32 := by
  unfold Tm.idT
  split
  · exact dg2_len _
  · exact zeros_len
section
set_option maxRecDepth 10000
set_option maxHeartbeats 4000000
theorem id_any (m : Tm) (ai : Option Addr) (ci : Nat) (ao : Option Addr) (co : Nat) (w : World) (hK : Kg w) (hl : LT w m ai ci ao co) (hf : m.fit) : Calls Tryz.prog 88 #[.agg (m.cells ai ci ao co)] w fun e w' => e = .returned (.tuple #[.agg (hc m.idT), .int .i64 m.toldE]) ∧ Below w.heap.size w w' := by
  have b1 := (Below.refl w.heap.size w).alloc (Nat.le_refl _) (.cells (m.cells ai ci ao co) 152)
  have hsz : (w.alloc (.cells (m.cells ai ci ao co) 152)).heap.size = w.heap.size + 1 := by simp
  have b2 := b1.alloc (by rw [hsz]; omega) (.cells (hc zeros) 46)
  have e1 := heap_alloc_last w (.cells (m.cells ai ci ao co) 152)
  have r1 := (Below.heap_alloc _ (.cells (hc zeros) 46) _ (lt_heap e1)).trans e1
  have r2 := heap_alloc_last (w.alloc (.cells (m.cells ai ci ao co) 152)) (.cells (hc zeros) 46)
  rw [hsz] at r2
  have HL := hide (hl.below b2)
  have HF := hide hf
  have R1 := hide r1
  have R2 := hide r2
  have B2 := hide b2
  have CZ : Hid ((m.cells ai ci ao co).size = 4) := rfl
  have KS := hide (hK.next b2)
  clear b1 b2 e1 r1 r2 hl hf hK
  have HE : Hid (∀ W, LT W m ai ci ao co → Calls Tryz.prog 155 #[.agg (m.cells ai ci ao co)] W fun e w' => e = .returned (.tuple #[.string m.encT, .int .i64 m.toldE]) ∧ Below W.heap.size W w') := fun W l => encode_any m ai ci ao co W l HF.out
  generalize m.cells ai ci ao co = C at *
  by_cases h0 : m.toldE = 0
  · have hI : m.idT = dg2 (txt m.bytes) := by rw [Tm.idT, if_pos h0]
    have hE : m.encT = txt m.bytes := by rw [Tm.encT, if_pos h0]
    have hB := (m.told0 h0).2.2
    rw [hI, h0]
    rw [hE, h0] at HE
    have HT : Hid (∀ W, Kg W → Calls Tryz.prog 93 #[.string (txt m.bytes)] W fun e w' => e = .returned (.agg (hc (dg2 (txt m.bytes)))) ∧ Below W.heap.size W w') := fun W g => twice_any (txt m.bytes) (by rw [txt_sz]; omega) W g
    have h1 : Hid ((hc (dg2 (txt m.bytes))).size = 32) := by show _ = _; rw [hc_size, dg2_len]
    have h2 := hide (hc_one (dg2 (txt m.bytes)))
    clear hI hE hB h0 HF
    generalize hc (dg2 (txt m.bytes)) = D at *
    generalize txt m.bytes = T at *
    go_enter Tryz.func88, Tryz.ntmps88
    go_upto_region 1 with ((with_reducible refine at_list ?_); first | refine wpList_boxA rfl _ rfl C rfl ?_ | refine wpList_allocA A25 rfl rfl ?_)
    try rw [hsz]
    clear hsz
    generalize (w.alloc (.cells C 152)).alloc (.cells (hc zeros) 46) = W0 at *
    go_wp2_with (first | (go_at_call 155; refine (HE.out _ HL.out).mono ?_; rintro r W1 ⟨rfl, b1⟩; have D1 := hide b1; clear b1) | (go_at_call 93; refine (HT.out _ (KS.out.next D1.out)).mono ?_; rintro r W2 ⟨rfl, b1⟩; have D2 := hide (below_next D1.out b1); clear b1; have R4 := hide ((D2.out.block _ (lt_heap R2.out)).trans R2.out)) | ((with_reducible refine at_list ?_); first | refine wpList_loadS AT _ rfl w.heap.size rfl C CZ.out 152 R1.out (by rfl) ?_ | refine wpList_storeA A25 rfl _ _ rfl (w.heap.size + 1) D h1.out h2.out rfl rfl (hc zeros) (by rw [hc_size, zeros_len]) 46 R4.out ?_))
    exact bodyPost_ret (v := .tuple #[.agg D, .int .i64 0]) (resA2K A25 Tryz.results88 _ _ (w.heap.size + 1) 46 _ h1.out rfl (setRow_heap _ _ _ _ _ _ R4.out) _ rfl) rfl ⟨rfl, below_setRow (below_next B2.out D2.out) (by omega) _⟩
  · have hI : m.idT = zeros := by rw [Tm.idT, if_neg h0]
    have hE : m.encT = ⟨#[]⟩ := by rw [Tm.encT, if_neg h0]
    rw [hI]
    rw [hE] at HE
    clear hI hE HF
    generalize m.toldE = E at *
    go_enter Tryz.func88, Tryz.ntmps88
    go_upto_region 1 with ((with_reducible refine at_list ?_); first | refine wpList_boxA rfl _ rfl C rfl ?_ | refine wpList_allocA A25 rfl rfl ?_)
    try rw [hsz]
    clear hsz
    generalize (w.alloc (.cells C 152)).alloc (.cells (hc zeros) 46) = W0 at *
    go_wp2_with (first | (go_at_call 155; refine (HE.out _ HL.out).mono ?_; rintro r W1 ⟨rfl, b1⟩; have D1 := hide b1; clear b1; have R4 := hide ((D1.out.block _ (lt_heap R2.out)).trans R2.out)) | ((with_reducible refine at_list ?_); first | refine wpList_loadS AT _ rfl w.heap.size rfl C CZ.out 152 R1.out (by rfl) ?_ | refine wpList_buildA A25 rfl rfl ?_ | refine wpList_storeA A25 rfl _ _ rfl (w.heap.size + 1) (hc zeros) (by rw [hc_size, zeros_len]) (hc_one _) rfl rfl (hc zeros) (by rw [hc_size, zeros_len]) 46 R4.out ?_))
    exact bodyPost_ret (v := .tuple #[.agg (hc zeros), .int .i64 E]) (resA2K A25 Tryz.results88 _ _ (w.heap.size + 1) 46 _ (by rw [hc_size, zeros_len]) rfl (setRow_heap _ _ _ _ _ _ R4.out) _ rfl) rfl ⟨rfl, below_setRow (below_next B2.out D1.out) (by omega) _⟩
end
end Go.Proofs.YtcoojkpimbddlaaGreatDoor
namespace Go.Proofs.YtcoojkpimbddlaaGreatDoor
open Go.RowKit
open Go.Deep
def flat : List (List UInt8) → List Value
  | [] => []
  | h :: r => cellsL h ++ flat r
def H32 (L : List (List UInt8)) : Prop := ∀ h ∈ L, h.length = 32
theorem H32.nil : H32 [] := fun h hh => by cases hh
theorem H32.cons {a : List UInt8} {L : List (List UInt8)} (ha : a.length = 32) (h : H32 L) : H32 (a :: L) := fun x hx => by
  rcases List.mem_cons.1 hx with rfl | hx
  · exact ha
  · exact h x hx
theorem H32.head {a : List UInt8} {L : List (List UInt8)} (h : H32 (a :: L)) : a.length = 32 := h a (by simp)
theorem H32.tail {a : List UInt8} {L : List (List UInt8)} (h : H32 (a :: L)) : H32 L := fun x hx => h x (by simp [hx])
theorem H32.app {A B : List (List UInt8)} (ha : H32 A) (hb : H32 B) : H32 (A ++ B) := fun x hx => by
  rcases List.mem_append.1 hx with hx | hx
  · exact ha x hx
  · exact hb x hx
theorem H32.one {a : List UInt8} (ha : a.length = 32) : H32 [a] := H32.nil.cons ha
def ia (L : List (List UInt8)) (i : Nat) : List UInt8 := L.getD i []
theorem ia_get (L : List (List UInt8)) (i : Nat) (h : i < L.length) : ia L i = L[i] := by simp [ia, h]
theorem H32.at {L : List (List UInt8)} (h : H32 L) (i : Nat) (hi : i < L.length) : (ia L i).length = 32 := by
  rw [ia_get L i hi]
  exact h _ (List.getElem_mem hi)
theorem flat_len {L : List (List UInt8)} (h : H32 L) : (flat L).length = L.length * 32 := by
  induction L with
  | nil => rfl
  | cons a r ih =>
    rw [flat, List.length_append, cellsL_len, h.head, ih h.tail, List.length_cons]
    omega
theorem flat_app (A B : List (List UInt8)) : flat (A ++ B) = flat A ++ flat B := by
  induction A with
  | nil => rfl
  | cons a r ih => rw [List.cons_append, flat, flat, ih, List.append_assoc]
theorem flat_one (a : List UInt8) : flat [a] = cellsL a := by simp [flat]
theorem flat_at {L : List (List UInt8)} (h : H32 L) : ∀ (i : Nat), i < L.length → ∀ j, j < 32 → (flat L)[i * 32 + j]? = (cellsL (ia L i))[j]? := by
  induction L with
  | nil => intro i hi; simp at hi
  | cons a r ih =>
    intro i hi j hj
    have ha : (cellsL a).length = 32 := by rw [cellsL_len, h.head]
    rcases i with _ | i
    · rw [flat, List.getElem?_append_left (by omega)]
      simp [ia]
    · rw [flat, List.getElem?_append_right (by omega), ha, show (i + 1) * 32 + j - 32 = i * 32 + j by omega, ih h.tail i (by simpa using hi) j hj]
      rfl
theorem flat_cell (L : List (List UInt8)) : ∀ v ∈ flat L, v.oneCell' = true := by
  induction L with
  | nil => intro v hv; cases hv
  | cons a r ih =>
    intro v hv
    rw [flat, List.mem_append] at hv
    rcases hv with hv | hv
    · simp only [cellsL, List.mem_map] at hv
      obtain ⟨b, _, rfl⟩ := hv
      rfl
    · exact ih v hv
def LH (w : World) (v : Value) (L : List (List UInt8)) : Prop := H32 L ∧ ∃ ao cap, v = .slice ao L.length cap ∧ L.length ≤ cap ∧ ∀ i, i < L.length → ∃ g off, ao = some ⟨g, off, none⟩ ∧ g < w.heap.size ∧ w.rangeAt g (off + i * 32) (cellsL (ia L i))
theorem range_belowM {w W : World} {B g off : Nat} {cs : List Value} (hr : w.rangeAt g off cs) (hb : Below B w W) (hg : g < B) : W.rangeAt g off cs := fun j v hv => by
  have := hr j v hv
  rw [← this]
  exact hb.cell (p := ⟨g, off + j, none⟩) hg
theorem range_block {w W : World} {g off : Nat} {cs : List Value} (hr : w.rangeAt g off cs) (hb : W.heap[g]? = w.heap[g]?) : W.rangeAt g off cs := fun j v hv => by
  rw [← hr j v hv]
  exact World.cell?_of_block (w := w) (a := ⟨g, off + j, none⟩) hb
theorem LH.below {w W : World} {v : Value} {L : List (List UInt8)} (h : LH w v L) (hb : Below w.heap.size w W) : LH W v L := by
  obtain ⟨h1, ao, cap, rfl, h2, h3⟩ := h
  refine ⟨h1, ao, cap, rfl, h2, fun i hi => ?_⟩
  obtain ⟨g, off, e, hg, hr⟩ := h3 i hi
  exact ⟨g, off, e, Nat.lt_of_lt_of_le hg hb.size, range_belowM hr hb hg⟩
theorem LH.drew {w : World} {v : Value} {L : List (List UInt8)} (h : LH w v L) : LH w.drew v L := h.below (Below.refl _ _).drew
def OH (e : TypeId) (w : World) (v : Value) (L : List (List UInt8)) : Prop := H32 L ∧ w.ownsRow 0 e 32 v L.length (flat L)
theorem OH.nil (e : TypeId) (w : World) : OH e w (.slice none 0 0) [] := ⟨H32.nil, World.ownsRow_nil _ _ _ _⟩
theorem OH.alloc {e : TypeId} {w : World} {v : Value} {L : List (List UInt8)} (h : OH e w v L) (o : Obj) : OH e (w.alloc o) v L := ⟨h.1, World.ownsRow.alloc h.2 o⟩
theorem OH.form {e : TypeId} {w : World} {v : Value} {L : List (List UInt8)} (h : OH e w v L) : ∃ ao c, v = .slice ao L.length c := by
  rcases h.2.2 with ⟨rfl, h0⟩ | ⟨g, cap, cur, rfl, _⟩
  · exact ⟨none, 0, by rw [h0]⟩
  · exact ⟨_, _, rfl⟩
theorem OH.read {e : TypeId} {w : World} {v : Value} {L : List (List UInt8)} (h : OH e w v L) : LH w v L := by
  obtain ⟨h1, h2, h3⟩ := h
  rcases h3 with ⟨rfl, h0⟩ | ⟨g, cap, cur, rfl, hb, hg, hn, hm, hsz, ht⟩
  · exact ⟨h1, none, 0, by rw [h0], by omega, fun i hi => by omega⟩
  · refine ⟨h1, _, cap, rfl, hn, fun i hi => ⟨g, 0, rfl, lt_heap hg, fun j u hu => ?_⟩⟩
    have hj : j < 32 := by
      have := (List.getElem?_eq_some_iff.1 hu).1
      rw [cellsL_len, h1.at i hi] at this
      exact this
    rw [cell_of_row w g _ cur e (0, 0) hg, ← Array.getElem?_toList]
    have e2 := flat_at h1 i hi j hj
    rw [hu, ← ht, List.getElem?_take] at e2
    rw [if_pos (by have : i * 32 + 32 ≤ L.length * 32 := by omega
                   omega)] at e2
    rw [show 0 + i * 32 + j = i * 32 + j by omega]
    exact e2
theorem OH.of_block {e : TypeId} {w W : World} {v : Value} {L : List (List UInt8)} (h : OH e w v L) (hb : ∀ g, v.ownBlock = some g → W.heap[g]? = w.heap[g]?) : OH e W v L := by
  obtain ⟨h1, h2, h3⟩ := h
  refine ⟨h1, h2, ?_⟩
  rcases h3 with ⟨rfl, h0⟩ | ⟨g, cap, cur, rfl, h4, hg, h5⟩
  · exact .inl ⟨rfl, h0⟩
  · exact .inr ⟨g, cap, cur, rfl, h4, (hb g rfl).trans hg, h5⟩
theorem OH.lt {e : TypeId} {w : World} {v : Value} {L : List (List UInt8)} (h : OH e w v L) : ∀ g, v.ownBlock = some g → g < w.heap.size := by
  intro g hg
  rcases h.2.2 with ⟨rfl, h0⟩ | ⟨g', cap, cur, rfl, h4, hb, h5⟩
  · cases hg
  · cases hg
    exact lt_heap hb
theorem OH.below {e : TypeId} {w W : World} {v : Value} {L : List (List UInt8)} (h : OH e w v L) (hb : Below w.heap.size w W) : OH e W v L := h.of_block fun g hg => hb.block _ (h.lt g hg)
/-! ### the element types -/
structure ET (t e : TypeId) : Prop where
  sl : Tryz.prog.underlying t = some (.slice e)
  ar : Tryz.prog.underlying e = some (.array 32 5)
  inf : (Tryz.prog.info? e).map (fun i => (i.zero.map (·.cells.size), i.size, i.bytes)) = some (some 32, 32, 32)
theorem EH : ET 40 46 := ⟨Tryz.underlying40, Tryz.underlying46, by kernel_rfl⟩
theorem ET.parts {t e : TypeId} (E : ET t e) : ∃ i z, Tryz.prog.info? e = some i ∧ i.zero = some z ∧ z.cells.size = 32 ∧ i.size = 32 ∧ i.bytes = 32 := by
  have h := E.inf
  cases hi : Tryz.prog.info? e with
  | none => rw [hi] at h; cases h
  | some i =>
    rw [hi] at h
    simp only [Option.map_some, Option.some.injEq, Prod.mk.injEq] at h
    obtain ⟨h1, h2, h3⟩ := h
    cases hz : i.zero with
    | none => rw [hz] at h1; cases h1
    | some z =>
      rw [hz] at h1
      exact ⟨i, z, rfl, hz, by simpa using h1, h2, h3⟩
theorem ET.load {t e : TypeId} (E : ET t e) {W : World} {g off : Nat} {l : List UInt8} (hl : l.length = 32) (hr : W.rangeAt g off (cellsL l)) : (Instr.loadAt e (.pointer (some ⟨g, off, none⟩))).run Tryz.prog W = .ok (.agg (hc l)) W := by
  obtain ⟨i, z, hi, _, _, hs, _⟩ := E.parts
  exact run_loadAt_mid W g off e _ _ hr E.ar rfl (by rw [hi, cellsL_len, hl]; simp [hs])
theorem ET.app {t e : TypeId} (E : ET t e) {w : World} {ty : TypeId} {v : Value} {L : List (List UInt8)} (hown : OH e w v L) (ad : Addr) (m c : Nat) (N : List (List UInt8)) (hN : H32 N) (hm : m = N.length) (hnews : ∀ j u, (flat N)[j]? = some u → w.cell? (ad.add j) = some u)
    (hsm : L.length + m ≤ 4398046511104) :
    ∃ v' w', (Builtin.append_ #[t, t] ty #[v, .slice (some ad) m c]).run Tryz.prog w = .ok v' w' ∧ OH e w' v' (L ++ N) ∧ Onto w w' v v' := by
  obtain ⟨i0, z, hi, hz0, hzs, hz1, hz2⟩ := E.parts
  obtain ⟨v', w', hr, h2, h3, _, h5⟩ := run_append_own_at (P := Tryz.prog) w 0 t ty e i0 z 32 32 E.sl hi hz0 hz1 hz2 hzs (by decide) v L.length (flat L) hown.2 ad m c (flat N) (by rw [flat_len hN, hm]) hnews
    (flat_cell N) (by unfold maxLen; omega) (by omega) (Nat.zero_le _)
  refine ⟨v', w', hr, ⟨hown.1.app hN, ?_⟩, ⟨h3, ?_⟩⟩
  · rw [List.length_append, flat_app, ← hm]
    exact h2
  · rcases h5 with h5 | h5
    · exact .inl h5
    · exact .inr ⟨_, h5, Nat.le_refl _⟩
def pr (a b : List UInt8) : List UInt8 := digest (digest (a ++ b))
theorem pr_len (a b : List UInt8) : (pr a b).length = 32 := digest_len _
theorem bs_size (a : List UInt8) : (⟨a.toArray⟩ : ByteArray).size = a.length := by
  show a.toArray.size = _
  simp
theorem bs_app (a b : List UInt8) : (⟨a.toArray⟩ : ByteArray) ++ ⟨b.toArray⟩ = ⟨(a ++ b).toArray⟩ := by
  apply ByteArray.ext
  rw [ByteArray.data_append]
  simp
theorem Kg.drew {w : World} (h : Kg w) : Kg w.drew := h
structure PjM (w W : World) (t : TypeId) (a b : List UInt8) : Prop where
  a : W.heap[w.heap.size]? = some (.cells (hc a) t (0, 0))
  b : W.heap[w.heap.size + 1]? = some (.cells (hc b) t (0, 0))
  r : W.heap[w.heap.size + 1 + 1]? = some (.cells (hc zeros) t (0, 0))
  bel : Below w.heap.size w W
theorem PjM.start (w : World) (t : TypeId) (a b : List UInt8) : PjM w (((w.alloc (.cells (hc a) t)).alloc (.cells (hc b) t)).alloc (.cells (hc zeros) t)) t a b := by
  obtain ⟨e1, e2, e3⟩ := blk3 w (.cells (hc a) t) (.cells (hc b) t) (.cells (hc zeros) t)
  exact ⟨e1, e2, e3, below3 w _ _ _⟩
theorem PjM.next {w W W' : World} {t : TypeId} {a b : List UInt8} (j : PjM w W t a b) (h : Below W.heap.size W W') : PjM w W' t a b :=
  ⟨(h.block _ (lt_heap j.a)).trans j.a, (h.block _ (lt_heap j.b)).trans j.b, (h.block _ (lt_heap j.r)).trans j.r, below_next j.bel h⟩
theorem PjM.drew {w W : World} {t : TypeId} {a b : List UInt8} (j : PjM w W t a b) : PjM w W.drew t a b := ⟨j.a, j.b, j.r, j.bel.drew⟩
def svh (x y : Value) : Sem Unit := Instr.storeAt 46 x y
theorem svh_eq (x y : Value) : Instr.storeAt 46 x y = svh x y := rfl
def svg (x y : Value) : Sem Unit := Instr.storeAt 45 x y
theorem svg_eq (x y : Value) : Instr.storeAt 45 x y = svg x y := rfl
theorem svh_row {w : World} {g : Nat} {t : TypeId} {c d : List UInt8} (hg : w.heap[g]? = some (.cells (hc c) t (0, 0))) (hl : c.length = 32) (hd : d.length = 32) : (svh (.pointer (some ⟨g, 0, none⟩)) (.agg (hc d))).run Tryz.prog w = .ok () (w.setRow g (hc d)) := by
  unfold svh
  simp only [Instr.storeAt, Instr.sureAddr, Sem.run_bind, Sem.run_pure, Result.andThen_ok]
  rw [run_storeVar_row w g t 46 (hc c) (hc d) hg (by rw [A25.info, hc_size, hd]) (by rw [hc_size, hc_size, hl, hd]) (hc_one _)]
attribute [local go_sem ↓] svh_eq svg_eq
section
set_option maxRecDepth 10000
set_option maxHeartbeats 2000000
theorem pair_any (a b : List UInt8) (ha : a.length = 32) (hb : b.length = 32) (w : World) (hK : Kg w) : Calls Tryz.prog 269 #[.agg (hc a), .agg (hc b)] w fun e w' => e = .returned (.agg (hc (pr a b))) ∧ Below w.heap.size w w' := by
  have J0 := hide (PjM.start w 46 a b)
  have HT : Hid (∀ W, Kg W → Calls Tryz.prog 93 #[.string ⟨(a ++ b).toArray⟩] W fun e w' => e = .returned (.agg (hc (pr a b))) ∧ Below W.heap.size W w') := fun W hW => twice_any ⟨(a ++ b).toArray⟩ (by rw [bs_size, List.length_append]; omega) W hW
  have hpl := pr_len a b
  have HK := hide (hK.next J0.out.bel)
  have app := bs_app a b
  have sz : ¬ 9223372036854775807 < (⟨a.toArray⟩ : ByteArray).size + (⟨b.toArray⟩ : ByteArray).size := by rw [bs_size, bs_size]; omega
  have HL := hide (And.intro ha (And.intro hb hpl))
  generalize (⟨(a ++ b).toArray⟩ : ByteArray) = S at *
  generalize hp : pr a b = p at *
  clear hp hK
  go_enter Tryz.func269, Tryz.ntmps269
  go_upto_region 1 with (first | refine wpList_boxA rfl _ rfl (hc a) rfl ?_ | refine wpList_boxA rfl _ rfl (hc b) rfl ?_ | refine wpList_allocA A25 rfl rfl ?_)
  generalize ((w.alloc (.cells (hc a) 46)).alloc (.cells (hc b) 46)).alloc (.cells (hc zeros) 46) = W0 at *
  have c1 := conv_row W0.drew w.heap.size a ha 46 J0.out.a
  have c2 := conv_row W0.drew (w.heap.size + 1) b hb 46 J0.out.b
  generalize hA : (⟨a.toArray⟩ : ByteArray) = A at *
  generalize hB : (⟨b.toArray⟩ : ByteArray) = B at *
  clear ha hb hpl hA hB
  go_region_with (go_at_call 93; refine (HT.out _ (Kg.drew HK.out)).mono ?_; rintro e w1 ⟨rfl, be⟩; have J1 := hide (J0.out.drew.next be); have s1 := svh_row J1.out.r zeros_len HL.out.2.2; clear be)
  all_goals
    go_wp2
    exact bodyPost_ret (v := .agg (hc p)) (resA A25 Tryz.results269 _ _ (w.heap.size + 1 + 1) 46 _ (by rw [hc_size, HL.out.2.2]) rfl (setRow_heap _ _ _ _ _ _ J1.out.r)) rfl ⟨rfl, below_setRow J1.out.bel (by omega) _⟩
end
theorem ET.bs1 {t e : TypeId} (E : ET t e) (w : World) (h : List UInt8) (hl : h.length = 32) : (Instr.buildSlice t 1 #[(0, .agg (hc h))]).run Tryz.prog w = .ok (.slice (some ⟨w.heap.size, 0, none⟩) 1 1) (w.alloc (.cells (hc h) e)) := by
  obtain ⟨i, z, hi, hz, hzs, hs, _⟩ := E.parts
  have hcs : (Value.agg (hc h)).cells.size = 32 := by show (hc h).size = 32; rw [hc_size, hl]
  obtain ⟨r, hr, hrs, hk⟩ := Great.fill_dense (s := 32) (by decide) [Value.agg (hc h)] 0 ((Array.range (1 * 32)).map (z.cells[· % z.cells.size]!)) (fun v hv => by simp at hv; rw [hv]; exact hcs) (by simp)
  have e1 : r = hc h := by
    apply Array.ext
    · rw [hrs, hc_size, hl]; simp
    · intro k h1 h2
      have hk1 : k < 32 := by rw [hc_size, hl] at h2; exact h2
      have := hk k
      rw [if_pos ⟨by omega, by simp; omega⟩, Array.getElem?_eq_getElem h1, show k / 32 - 0 = 0 by omega, Nat.mod_eq_of_lt hk1] at this
      simp only [List.getElem?_cons_zero, Option.bind_some] at this
      rw [show (Value.agg (hc h)).cells = hc h from rfl, Array.getElem?_eq_getElem h2] at this
      exact Option.some.inj this
  rw [e1] at hr
  refine run_buildSlice (P := Tryz.prog) w t e 1 #[(0, .agg (hc h))] (hc h) i z E.sl hi hz (by rw [hs]; decide) (by rw [hs]; decide) ?_
  rw [hs]
  exact hr
theorem one_newH {e : TypeId} (w : World) (h : List UInt8) : ∀ j u, (flat [h])[j]? = some u → (w.alloc (.cells (hc h) e)).cell? ((⟨w.heap.size, 0, none⟩ : Addr).add j) = some u := by
  intro j u hu
  rw [flat_one] at hu
  have hadd : (⟨w.heap.size, 0, none⟩ : Addr).add j = ⟨w.heap.size, 0 + j, none⟩ := by unfold Addr.add; split <;> simp_all
  rw [hadd, cell_of_row _ _ _ _ _ _ (heap_alloc_last w _), Nat.zero_add]
  simpa [hc] using hu
section
variable {w : World} {ops : Array Oper} {o : Oper} {a : Act} {K : Act → World → Prop} {Q : Exit → Act → World → Prop} {E0 : Prop}
theorem ET.step {t e : TypeId} (E : ET t e) (hgd : o.guard = none) (s x : Operand)
    (ho : o.op = .call { callee := .builtin .append, args := #[s, x], argTypes := #[t, t] })
    (v : Value) (L : List (List UInt8)) (hs : a.eval s = v) (hown : OH e w v L)
    (ad : Addr) (h : List UInt8) (hh : h.length = 32) (hx : a.eval x = .slice (some ad) 1 1) (hnews : ∀ j u, (flat [h])[j]? = some u → w.cell? (ad.add j) = some u) (hsm : L.length + 1 ≤ 4398046511104)
    (h : ∀ v' w', OH e w' v' (L ++ [h]) → Onto w w' v v' → K (a.put o.dst v') w') :
    if Region.wanted o (yielded ops a.tmps) = true then Oper.wp Tryz.prog o a w K Q else E0 := by
  have hw : Region.wanted o (yielded ops a.tmps) = true := by simp [Region.wanted, hgd]
  rw [if_pos hw]
  obtain ⟨v', w', hr, h2, h3⟩ := E.app (ty := o.type) hown ad 1 1 [_] (H32.one hh) rfl hnews hsm
  unfold Oper.wp execOp
  simp only [ho, resolve, invoke, builtin, Sem.run_bind, Sem.run_pure, Result.andThen_ok, List.map_toArray, List.map_cons, List.map_nil, hs, hx, hr]
  exact h v' w' h2 h3
end
section
variable {w : World} {ops : Array Oper} {rest : List Oper} {o : Oper} {a : Act} {Q : Exit → Act → World → Prop}
theorem ET.wpApp {t e : TypeId} (E : ET t e) (hgd : o.guard = none) (s x : Operand)
    (ho : o.op = .call { callee := .builtin .append, args := #[s, x], argTypes := #[t, t] })
    (v : Value) (L : List (List UInt8)) (hs : a.eval s = v) (hown : OH e w v L)
    (ad : Addr) (h : List UInt8) (hh : h.length = 32) (hx : a.eval x = .slice (some ad) 1 1) (hnews : ∀ j u, (flat [h])[j]? = some u → w.cell? (ad.add j) = some u) (hsm : L.length + 1 ≤ 4398046511104)
    (h : ∀ v' w', OH e w' v' (L ++ [h]) → Onto w w' v v' → wpList Tryz.prog ops Q rest (a.put o.dst v') w') :
    wpList Tryz.prog ops Q (o :: rest) a w := by
  refine wpList_plain hgd fun K hK => ?_
  obtain ⟨v', w', hr, h2, h3⟩ := E.app (ty := o.type) hown ad 1 1 [_] (H32.one hh) rfl hnews hsm
  unfold Oper.wp execOp
  simp only [ho, resolve, invoke, builtin, Sem.run_bind, Sem.run_pure, Result.andThen_ok, List.map_toArray, List.map_cons, List.map_nil, hs, hx, hr]
  exact hK _ _ (h v' w' h2 h3)
theorem ET.wpBs1 {t e : TypeId} (E : ET t e) (hgd : o.guard = none) (x : Operand) (ho : o.op = .buildSlice t 1 #[(0, x)]) (h : List UInt8) (hl : h.length = 32) (hx : a.eval x = .agg (hc h))
    (hk : wpList Tryz.prog ops Q rest (a.put o.dst (.slice (some ⟨w.heap.size, 0, none⟩) 1 1)) (w.alloc (.cells (hc h) e))) : wpList Tryz.prog ops Q (o :: rest) a w := by
  refine wpList_plain hgd fun K hK => ?_
  unfold Oper.wp execOp
  simp only [ho, List.map_toArray, List.map_cons, List.map_nil, hx, E.bs1 w h hl, Sem.run_bind, Result.andThen_ok, Sem.run_pure]
  exact hK _ _ hk
theorem ET.wpLoad {t e : TypeId} (E : ET t e) (hgd : o.guard = none) (x : Operand) (ho : o.op = .load e x) (g off : Nat) (hx : a.eval x = .pointer (some ⟨g, off, none⟩)) (l : List UInt8) (hl : l.length = 32) (hr : w.rangeAt g off (cellsL l))
    (h : wpList Tryz.prog ops Q rest (a.put o.dst (.agg (hc l))) w) : wpList Tryz.prog ops Q (o :: rest) a w := by
  refine wpList_plain hgd fun K hK => ?_
  unfold Oper.wp execOp
  simp only [ho, hx, Sem.run_bind, E.load hl hr, Result.andThen_ok, Sem.run_pure]
  exact hK _ _ h
end
/-! ### levels -/
def mtM (n p : Nat) : Nat := if (if p % 2 = 0 then p + 1 else p - 1) < n then (if p % 2 = 0 then p + 1 else p - 1) else p
theorem mt_lt (n p : Nat) (h : p < n) : mtM n p < n := by
  unfold mtM
  by_cases h1 : (if p % 2 = 0 then p + 1 else p - 1) < n
  · rw [if_pos h1]
    exact h1
  · rw [if_neg h1]
    exact h
theorem xor1 (p : Nat) : p ^^^ 1 = if p % 2 = 0 then p + 1 else p - 1 := by
  have h1 : (p ^^^ 1) / 2 = p / 2 := by rw [Nat.xor_div_two]; simp
  have h2 : (p ^^^ 1) % 2 = (p + 1) % 2 := by
    have := Nat.xor_mod_two_pow (a := p) (b := 1) (n := 1)
    rw [Nat.pow_one] at this
    rw [this]
    rcases Nat.mod_two_eq_zero_or_one p with h | h <;> rw [h] <;> simp <;> omega
  split <;> omega
theorem i64_xor1 (p : Nat) (h : p < 4611686018427387904) : bits .xor .i64 (p : Int) 1 = ((if p % 2 = 0 then p + 1 else p - 1 : Nat) : Int) := by
  have hx : p ^^^ 1 < 2 ^ 63 := Nat.xor_lt_two_pow (by omega) (by omega)
  rw [← xor1]
  show IntKind.i64.wrap ((BitVec.ofInt 64 (p : Int) ^^^ BitVec.ofInt 64 ((1 : Nat) : Int)).toNat : Int) = _
  rw [BitVec.toNat_xor, ofInt_u64 p (by omega), ofInt_u64 1 (by omega)]
  exact wrapI _ (by omega) (by omega)
theorem mate_any (p n : Nat) (hp : p < 4611686018427387904) (w : World) : Calls Tryz.prog 270 #[.int .i64 (p : Int), .int .i64 (n : Int)] w fun e w' => e = .returned (.int .i64 ((mtM n p : Nat) : Int)) ∧ w' = w := by
  have hx := i64_xor1 p hp
  obtain ⟨q, hq⟩ : ∃ q, q = (if p % 2 = 0 then p + 1 else p - 1) := ⟨_, rfl⟩
  have hm : mtM n p = if q < n then q else p := by rw [hq]; rfl
  rw [← hq] at hx
  clear hq
  by_cases h : q < n
  · rw [hm, if_pos h]
    have h1 : (q : Int) < (n : Int) := by omega
    clear hm h hp
    go_enter Tryz.func270, Tryz.ntmps270
    go_wp2
    go_ret
    exact ⟨rfl, rfl⟩
  · rw [hm, if_neg h]
    have h1 : ¬ (q : Int) < (n : Int) := by omega
    clear hm h hp
    go_enter Tryz.func270, Tryz.ntmps270
    go_wp2
    go_ret
    exact ⟨rfl, rfl⟩
def nx (L : List (List UInt8)) (k : Nat) : List UInt8 := pr (ia L (2 * k)) (ia L (mtM L.length (2 * k)))
def nxK (L : List (List UInt8)) (k : Nat) : List (List UInt8) := (List.range k).map (nx L)
def nxt (L : List (List UInt8)) : List (List UInt8) := nxK L ((L.length + 1) / 2)
theorem nxK_len (L : List (List UInt8)) (k : Nat) : (nxK L k).length = k := by simp [nxK]
theorem nxt_len (L : List (List UInt8)) : (nxt L).length = (L.length + 1) / 2 := nxK_len _ _
theorem nxK_snoc (L : List (List UInt8)) (k : Nat) : nxK L (k + 1) = nxK L k ++ [nx L k] := by simp [nxK, List.range_succ]
theorem nxK_32 (L : List (List UInt8)) (k : Nat) : H32 (nxK L k) := by
  intro h hh
  simp only [nxK, List.mem_map] at hh
  obtain ⟨i, _, rfl⟩ := hh
  exact pr_len _ _
theorem nxt_32 (L : List (List UInt8)) : H32 (nxt L) := nxK_32 _ _
def twK (L : List (List UInt8)) (k : Nat) : Bool := (List.range k).any fun i => ia L (2 * i) == ia L (2 * i + 1)
def twb (L : List (List UInt8)) : Bool := twK L (L.length / 2)
theorem twK_snoc (L : List (List UInt8)) (k : Nat) : twK L (k + 1) = (twK L k || (ia L (2 * k) == ia L (2 * k + 1))) := by simp [twK, List.range_succ]
def wdt : Nat → Nat → Nat
  | n, 0 => n
  | n, k + 1 => wdt ((n + 1) / 2) k
section
set_option maxRecDepth 10000
set_option maxHeartbeats 1000000
theorem width_any (n k : Nat) (hn : n < 4611686018427387904) (hk : k < 4611686018427387904) (w : World) : Calls Tryz.prog 268 #[.int .i64 (n : Int), .int .i64 (k : Int)] w fun e w' => e = .returned (.int .i64 ((wdt n k : Nat) : Int)) ∧ w' = w := by
  have HN := hide (And.intro hn hk)
  clear hn hk
  go_enter Tryz.func268, Tryz.ntmps268
  go_wp2
  go_loop [0, 6] (fun x i => ∃ m j : Nat, j ≤ k ∧ m < 4611686018427387904 ∧ x = .int .i64 (m : Int) ∧ i = .int .i64 (j : Int) ∧ Hid (wdt m (k - j) = wdt n k)) (fun _ i => (k - intOf i).toNat)
  case atStart => exact ⟨n, 0, by omega, HN.out.1, rfl, rfl, rfl⟩
  case round =>
    obtain ⟨m, j, hj, hm, rfl, rfl, HW⟩ := hrel
    have hk := HN.out.2
    by_cases hlt : j < k
    · have h1 : (j : Int) < (k : Int) := by omega
      have hw : wdt ((m + 1) / 2) (k - (j + 1)) = wdt n k := by
        rw [← HW.out, show k - j = (k - (j + 1)) + 1 by omega]
        rfl
      have e1 : IntKind.i64.wrap ((m : Int) / 2 + (m : Int) % 2) = (((m + 1) / 2 : Nat) : Int) := by rw [wrapI _ (by omega) (by omega)]; omega
      have hjw : IntKind.i64.wrap ((j : Int) + 1) = j + 1 := wrapI _ (by omega) (by omega)
      have HW2 := hide hw
      have m0 : (0 : Int) ≤ m := by omega
      clear hw HW
      go_wp2
      go_round
      case rel => exact ⟨(m + 1) / 2, j + 1, by omega, by omega, by first | rfl | (congr 1; omega), by go_num, HW2⟩
      case measure => simp [intOf]; omega
    · have h1 : ¬ (j : Int) < (k : Int) := by omega
      have he : m = wdt n k := by
        have := HW.out
        rw [show k - j = 0 by omega] at this
        exact this
      have HE := hide he
      clear HW hlt hj he
      go_wp2
      go_ret
      exact ⟨by rw [HE.out]; rfl, rfl⟩
end
theorem LH.base {w : World} {ao : Option Addr} {n cap : Nat} {L : List (List UInt8)} (h : LH w (.slice ao n cap) L) (h0 : 0 < L.length) : ∃ g off, ao = some ⟨g, off, none⟩ := by
  obtain ⟨_, ao', cap', e, _, hat⟩ := h
  injection e with e1 e2 e3
  subst e1
  obtain ⟨g, off, e, _⟩ := hat 0 h0
  exact ⟨g, off, e⟩
theorem LH.range {w : World} {g off n cap : Nat} {L : List (List UInt8)} (h : LH w (.slice (some ⟨g, off, none⟩) n cap) L) (i : Nat) (hi : i < L.length) : w.rangeAt g (off + i * 32) (cellsL (ia L i)) := by
  obtain ⟨_, ao', cap', e, _, hat⟩ := h
  injection e with e1 e2 e3
  subst e1
  obtain ⟨g', off', e, _, hr⟩ := hat i hi
  injection e with e
  injection e with e1 e2
  subst e1 e2
  exact hr
theorem LH.len {w : World} {ao : Option Addr} {n cap : Nat} {L : List (List UInt8)} (h : LH w (.slice ao n cap) L) : n = L.length := by
  obtain ⟨_, ao', cap', e, _, hat⟩ := h
  injection e
theorem LH.form {w : World} {v : Value} {L : List (List UInt8)} (h : LH w v L) : ∃ ao cap, v = .slice ao L.length cap := by
  obtain ⟨_, ao', cap', e, _, hat⟩ := h
  exact ⟨_, _, e⟩
theorem ET.qLoad {t e : TypeId} (E : ET t e) {C : World → Prop} {a : Act} {o : Oper} {K : Act → Prop} (x : Operand) (ho : o.op = .load e x) (g off : Nat) (hx : a.eval x = .pointer (some ⟨g, off, none⟩)) (l : List UInt8) (hl : l.length = 32) (hr : ∀ W, C W → W.rangeAt g off (cellsL l))
    (hk : K (a.put o.dst (.agg (hc l)))) : o.quiet Tryz.prog a C K := by
  refine ⟨.agg (hc l), fun W hC => ?_, hk⟩
  unfold Oper.quietAt execOp
  simp only [ho, hx, Sem.run_bind, E.load hl (hr W hC), Result.andThen_ok, Sem.run_pure]
  exact ⟨rfl, rfl⟩
theorem eqH {t e : TypeId} (E : ET t e) (a b : List UInt8) (ha : a.length = 32) (hb : b.length = 32) (W : World) : (Op.equalIn 10000 e (.agg (hc a)) (.agg (hc b))).run Tryz.prog W = .ok (a == b) W :=
  run_equalIn_bytes (P := Tryz.prog) W 9998 e 5 32 E.ar Tryz.underlying5 size5 a b ha hb
theorem LH.cls {w W : World} {v : Value} {L : List (List UInt8)} (h : LH W v L) (hb : Below w.heap.size w W) : ∃ (I : Type) (_ : Nonempty I) (F : I → World) (i0 : I), W.drew = F i0 ∧ Hid (∀ i, LH (F i) v L ∧ Below w.heap.size w (F i)) ∧ Hid (∀ i W', Below (F i).heap.size (F i) W' → ∃ j, W' = F j) :=
  ⟨{W : World // LH W v L ∧ Below w.heap.size w W}, ⟨⟨_, h, hb⟩⟩, Subtype.val, ⟨W.drew, h.drew, hb.drew⟩, rfl, fun i => i.2, fun i W' b => ⟨⟨W', i.2.1.below b, below_next i.2.2 b⟩, rfl⟩⟩
section
set_option maxRecDepth 10000
set_option maxHeartbeats 2000000
theorem twins_any (v : Value) (L : List (List UInt8)) (w : World) (hL : LH w v L) (hn : L.length < 1152921504606846976) : Calls Tryz.prog 206 #[v] w fun e w' => e = .returned (.bool (twb L)) ∧ Below w.heap.size w w' := by
  obtain ⟨ao, cap, rfl⟩ := hL.form
  have J0 : Hid (LH w (.slice ao L.length cap) L ∧ Below w.heap.size w w) := ⟨hL, Below.refl _ _⟩
  have HN := hide hn
  have H32 := hide hL.1
  clear hL hn
  go_enter Tryz.func206, Tryz.ntmps206
  go_wp2
  go_loopw [3] (fun i wr => ∃ k : Nat, k ≤ L.length / 2 ∧ i = .int .i64 ((2 * k + 1 : Nat) : Int) ∧ Hid (LH wr (.slice ao L.length cap) L ∧ Below w.heap.size w wr) ∧ Hid (twK L k = false)) (fun i _ => (L.length + 2 - intOf i).toNat)
  case atStart => exact ⟨0, Nat.zero_le _, rfl, J0, rfl⟩
  case round =>
    clear J0
    obtain ⟨k, hk, rfl, J, T⟩ := hrel
    have hn := HN.out
    by_cases hlt : 2 * k + 1 < L.length
    · obtain ⟨g, off, rfl⟩ := J.out.1.base (by omega)
      have h1 : ((2 * k + 1 : Nat) : Int) < (L.length : Int) := by omega
      have l1 := hide (H32.out.at (2 * k) (by omega))
      have l2 := hide (H32.out.at (2 * k + 1) hlt)
      have EQ := hide fun W => eqH EH _ _ l1.out l2.out W
      have R1 : Hid (∀ W, LH W (.slice (some ⟨g, off, none⟩) L.length cap) L → W.rangeAt g (off + (2 * k) * 32) (cellsL (ia L (2 * k)))) := fun W h => h.range (2 * k) (by omega)
      have R2 : Hid (∀ W, LH W (.slice (some ⟨g, off, none⟩) L.length cap) L → W.rangeAt g (off + (2 * k + 1) * 32) (cellsL (ia L (2 * k + 1)))) := fun W h => h.range (2 * k + 1) hlt
      have TS := hide (twK_snoc L k)
      have e1 : IntKind.i64.wrap (((2 * k + 1 : Nat) : Int) - 1) = ((2 * k : Nat) : Int) := by rw [wrapI _ (by omega) (by omega)]; omega
      have e2 : IntKind.i64.wrap (((2 * k + 1 : Nat) : Int) + 2) = ((2 * (k + 1) + 1 : Nat) : Int) := by rw [wrapI _ (by omega) (by omega)]; omega
      have h2 : (0 : Int) ≤ ((2 * k : Nat) : Int) := by omega
      have h3 : ((2 * k : Nat) : Int) < (L.length : Int) := by omega
      have h4 : (0 : Int) ≤ ((2 * k + 1 : Nat) : Int) := by omega
      have KK := hide (And.intro (show k + 1 ≤ L.length / 2 by omega) (show ((L.length : Int) + 2 - ((2 * (k + 1) + 1 : Nat) : Int)).toNat < ((L.length : Int) + 2 - ((2 * k + 1 : Nat) : Int)).toNat by omega))
      have TB : Hid ((ia L (2 * k) == ia L (2 * k + 1)) = true → twb L = true) := fun h => by
        have hh : k + 1 ≤ L.length / 2 := KK.out.1
        unfold twb twK
        rw [List.any_eq_true]
        exact ⟨k, by simp; omega, h⟩
      generalize hia : ia L (2 * k) = A at *
      generalize hib : ia L (2 * k + 1) = B at *
      clear hia hib hlt hk hn
      generalize hp : 2 * (k + 1) + 1 = p3 at *
      have HP3 := hide hp
      generalize 2 * k + 1 = p2 at *
      generalize 2 * k = p1 at *
      clear hp
      go_upto_region 4 with fail
      obtain ⟨I, hne, F, i0, h0, hJ, hcl⟩ := J.out.1.cls J.out.2
      refine wp_region_class_lit (by kernel_rfl) (by kernel_rfl) i0 h0 ?_
      repeat (first | ((go_big_quiet_want; first | refine ET.qLoad EH _ (by rfl) g (off + p1 * 32) (by rfl) A l1.out (fun W hC => by obtain ⟨i, rfl⟩ := hC; exact R1.out _ (hJ.out i).1) ?_ | refine ET.qLoad EH _ (by rfl) g (off + p2 * 32) (by rfl) B l2.out (fun W hC => by obtain ⟨i, rfl⟩ := hC; exact R2.out _ (hJ.out i).1) ?_ | refine quiet_eql 46 _ _ _ (by rfl) (hc A) (hc B) (by rfl) (by rfl) eqg25 (A == B) EQ.out ?_); go_big_quiet_on; simp only [Act.put, List.setIfInBounds_toArray, List.set_cons_succ, List.set_cons_zero]) | go_big_quiet_step (fail))
      refine wpQuiet_nil ?_
      rintro _ ⟨iq, rfl⟩
      have J2 := hide (hJ.out iq)
      clear hJ hcl h0 J R1 R2 EQ
      generalize F iq = W2 at *
      generalize (A == B) = ab at *
      cases ab
      · go_wp2
        exact ⟨⟨k + 1, KK.out.1, by rw [HP3.out], J2, by rw [TS.out, T.out]; rfl⟩, by simpa [intOf, HP3.out] using KK.out.2⟩
      · have HT := hide (TB.out rfl)
        go_wp2
        go_ret
        exact ⟨by rw [HT.out]; rfl, J2.out.2⟩
    · have h1 : ¬ ((2 * k + 1 : Nat) : Int) < (L.length : Int) := by omega
      have hT : twb L = false := by
        unfold twb
        rw [show L.length / 2 = k by omega]
        exact T.out
      have HT := hide hT
      clear hlt hk hn hT
      generalize 2 * k + 1 = p2 at *
      go_wp2
      go_ret
      exact ⟨by rw [HT.out]; rfl, J.out.2⟩
end
end Go.Proofs.YtcoojkpimbddlaaGreatDoor
