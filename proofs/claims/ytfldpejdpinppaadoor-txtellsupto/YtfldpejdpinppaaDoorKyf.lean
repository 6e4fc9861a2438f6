/- Transactions that come in, where the bulk of what comes in is bounded. -/
import Derived.Test.YtfldpejdpinppaaDoorRows
import Derived.Test.YtfldpejdpinppaaDoorKt
import Derived.Test.YtfldpejdpinppaaDoorKe
namespace Go.Proofs.YtfldpejdpinppaaDoor
open Go.ChangeShapes Go.WideShapes Go.ChangeAt Go.RowKit Go.Joins Go.Deep
set_option linter.unusedVariables false
set_option maxRecDepth 100000
theorem bulk_pos {H : Type} (d : DataW H) : 1 ≤ Rows.uptoBulk d := by
  cases d with
  | lit l => cases l <;> simp [Rows.uptoBulk]
  | _ => simp [Rows.uptoBulk]
theorem bulk_mem {H : Type} (d : DataW H) (ds : List (DataW H)) (h : d ∈ ds) : Rows.uptoBulk d ≤ Rows.uptoBulkAll ds := by
  induction ds with
  | nil => cases h
  | cons y r ih =>
    simp only [Rows.uptoBulkAll]
    rcases List.mem_cons.1 h with rfl | h
    · omega
    · have := ih h
      omega
theorem bulk_len {H : Type} (ds : List (DataW H)) : ds.length ≤ Rows.uptoBulkAll ds := by
  induction ds with
  | nil => simp
  | cons y r ih =>
    simp only [Rows.uptoBulkAll, List.length_cons]
    have := bulk_pos y
    omega
theorem insL_leB (B : Nat) (L : List Ti) (h : ∀ x ∈ L, x.key.size ≤ B) : (insL L).length ≤ L.length * (B + 49) := by
  induction L with
  | nil => simp [insL]
  | cons x r ih =>
    have h1 := h x (by simp)
    have h2 := x.bytes_len
    have h3 := clong_le x.key.size
    have h4 := ih (fun y hy => h y (by simp [hy]))
    have h5 : insL (x :: r) = x.bytes ++ insL r := by simp [insL]
    rw [h5, List.length_append, List.length_cons, Nat.add_mul]
    omega
theorem outsL_leB (B : Nat) (L : List Tu) (h : ∀ x ∈ L, x.lock.size ≤ B) : (outsL L).length ≤ L.length * (B + 49) := by
  induction L with
  | nil => simp [outsL]
  | cons x r ih =>
    have h1 := h x (by simp)
    have h2 := x.bytes_len
    have h3 := clong_le x.lock.size
    have h4 := ih (fun y hy => h y (by simp [hy]))
    have h5 : outsL (x :: r) = x.bytes ++ outsL r := by simp [outsL]
    rw [h5, List.length_append, List.length_cons, Nat.add_mul]
    omega
section
variable {H : Type} {enc : TypeId × Value → H} {W : World} {base fuel : Nat} {cs : List Value} {x : DataW H × List MemPlace}
theorem cs_strB {t : TypeId} {N : Nat} (hu : Tryd.prog.underlying t = some .string) (h : DataW.trod enc Tryd.prog W 0 (fun _ => true) true fuel t cs = some x) (hb : Rows.uptoBulk x.1 ≤ N) : ∃ n : ByteArray, cs = [.string n] ∧ n.size ≤ N := by
  obtain ⟨a, ea, ex, wa⟩ := DataW.trod_string hu h
  refine ⟨a, ea, ?_⟩
  rw [ex] at hb
  simp [Rows.uptoBulk] at hb
  omega
theorem cs_inB {B : Nat} (h : DataW.trod enc Tryd.prog W 0 (fun _ => true) true fuel 64 cs = some x) (hb : Rows.uptoBulk x.1 ≤ B) : ∃ y : Ti, cs = y.cells ∧ y.key.size ≤ B := by
  obtain ⟨xs, m, _, ex, hlen, hxl, each⟩ := DataW.trod_struct Tryd.underlying64 h
  have hx : xs.length = 3 := hxl
  have hl : cs.length = 35 := hlen.trans (by kernel_rfl)
  have h0 : DataW.trod enc Tryd.prog W 0 (fun _ => true) true m 62 ((cs.drop 0).take 33) = some xs[0] := (each 0 _ rfl).trans (List.getElem?_eq_getElem (by omega))
  have h1 : DataW.trod enc Tryd.prog W 0 (fun _ => true) true m 9 ((cs.drop 33).take 1) = some xs[1] := (each 1 _ rfl).trans (List.getElem?_eq_getElem (by omega))
  have h2 : DataW.trod enc Tryd.prog W 0 (fun _ => true) true m 22 ((cs.drop 34).take 1) = some xs[2] := (each 2 _ rfl).trans (List.getElem?_eq_getElem (by omega))
  have ed : x.1 = .agg (xs.map (·.1)) := congrArg Prod.fst ex
  have hB1 : Rows.uptoBulk xs[1].1 ≤ B := by
    have := bulk_mem xs[1].1 (xs.map (·.1)) (List.mem_map.2 ⟨xs[1], List.getElem_mem _, rfl⟩)
    rw [ed] at hb
    simp only [Rows.uptoBulk] at hb
    omega
  obtain ⟨n0, m0, e0⟩ := cs_point h0
  obtain ⟨n1, e1, k1⟩ := cs_strB Tryd.underlying9 h1 hB1
  obtain ⟨n2, e2⟩ := cs_u32 Tryd.underlying22 h2
  refine ⟨⟨n0.1, m0, n1, n2, n0.2⟩, ?_, k1⟩
  have := cut_at 33 e0 rfl
  rw [List.drop_zero, cut_at 34 e1 rfl, cut_at 35 e2 rfl, List.drop_of_length_le (by omega), List.append_nil] at this
  rw [this]
  simp [Ti.cells]
theorem cs_outB {B : Nat} (h : DataW.trod enc Tryd.prog W 0 (fun _ => true) true fuel 68 cs = some x) (hb : Rows.uptoBulk x.1 ≤ B) : ∃ y : Tu, cs = y.cells ∧ y.lock.size ≤ B := by
  obtain ⟨xs, m, _, ex, hlen, hxl, each⟩ := DataW.trod_struct Tryd.underlying68 h
  have hx : xs.length = 2 := hxl
  have hl : cs.length = 2 := hlen.trans (by kernel_rfl)
  have h0 : DataW.trod enc Tryd.prog W 0 (fun _ => true) true m 60 ((cs.drop 0).take 1) = some xs[0] := (each 0 _ rfl).trans (List.getElem?_eq_getElem (by omega))
  have h1 : DataW.trod enc Tryd.prog W 0 (fun _ => true) true m 9 ((cs.drop 1).take 1) = some xs[1] := (each 1 _ rfl).trans (List.getElem?_eq_getElem (by omega))
  have ed : x.1 = .agg (xs.map (·.1)) := congrArg Prod.fst ex
  have hB1 : Rows.uptoBulk xs[1].1 ≤ B := by
    have := bulk_mem xs[1].1 (xs.map (·.1)) (List.mem_map.2 ⟨xs[1], List.getElem_mem _, rfl⟩)
    rw [ed] at hb
    simp only [Rows.uptoBulk] at hb
    omega
  obtain ⟨n0, e0⟩ := cs_u64 Tryd.underlying60 h0
  obtain ⟨n1, e1, k1⟩ := cs_strB Tryd.underlying9 h1 hB1
  refine ⟨⟨n0, n1⟩, ?_, k1⟩
  have := cut_at 1 e0 rfl
  rw [List.drop_zero, cut_at 2 e1 rfl, List.drop_of_length_le (by omega)] at this
  rw [this]
  rfl
theorem list_funB {α : Type} (E : Ek α) [Inhabited α] (B : Nat) (P : α → Prop) (hel : ∀ (f : Nat) (cs : List Value) (y : DataW H × List MemPlace), DataW.trod enc Tryd.prog W 0 (fun _ => true) true f E.e cs = some y → Rows.uptoBulk y.1 ≤ B → ∃ a : α, cs = E.enc a ∧ P a) (h : DataW.trod enc Tryd.prog W 0 (fun _ => true) true fuel E.t cs = some x) (hb : Rows.uptoBulk x.1 ≤ B) : ∃ (v : Value) (L : List α), cs = [v] ∧ LX E W v L ∧ L.length ≤ B ∧ ∀ a ∈ L, P a := by
  have hk : Tryd.prog.cellsOf E.e = E.k := by
    obtain ⟨i, z, hi, _, _, hs, _⟩ := E.parts
    simp [Program.cellsOf, hi, hs]
  have hkp := E.kpos
  rcases open_slice E.sl h with ⟨rfl, _⟩ | ⟨a, len, cap, m, n, D, Pl, rfl, _, hl, hm, hmm, hxe, hx⟩
  · exact ⟨_, [], rfl, LX.nil W, by simp, fun a ha => by cases ha⟩
  · rw [hxe] at hb
    simp only [Rows.uptoBulk] at hb
    have hlong := bulk_len ((List.range len).map D)
    simp only [List.length_map, List.length_range] at hlong
    have each : ∀ i, i < len → ∃ q : α, P q ∧ ∃ g off, some a = some (⟨g, off, none⟩ : Addr) ∧ g < W.heap.size ∧ W.rangeAt g (off + i * E.k) (E.enc q) := by
      intro i hi
      obtain ⟨cs', h1, h2⟩ := hx i (by rw [hmm]; split <;> omega)
      rw [hk] at h1
      obtain ⟨_, hlen, hcell⟩ := World.cells?_some h1
      have hbm := bulk_mem (D i) ((List.range len).map D) (List.mem_map.2 ⟨i, List.mem_range.2 hi, rfl⟩)
      obtain ⟨q, hcs, hq⟩ := hel _ _ _ h2 (by show Rows.uptoBulk (D i) ≤ B; omega)
      obtain ⟨g, off, spot⟩ := a
      have hspot : spot = none := by
        obtain ⟨cz, hz1, hz2⟩ := hx 0 (by rw [hmm]; split <;> omega)
        rw [hk] at hz1
        obtain ⟨_, hzlen, hzcell⟩ := World.cells?_some hz1
        have cz0 := hzcell 0 (by omega)
        have h0 : cz[0]? = some (cz[0]'(by omega)) := List.getElem?_eq_getElem (by omega)
        rw [h0] at cz0
        simpa [Addr.add] using World.cell?_spot cz0
      subst hspot
      have hr : W.rangeAt g (off + i * E.k) cs' := fun j v hv => by
        have hj : j < E.k := by
          rcases Nat.lt_or_ge j E.k with h' | h'
          · exact h'
          · rw [List.getElem?_eq_none (by omega)] at hv; cases hv
        have := hcell j (by omega)
        rw [addr_add9, addr_add9, hv] at this
        exact this
      have hg : g < W.heap.size := by
        have h0 : cs'[0]? = some (cs'[0]'(by omega)) := List.getElem?_eq_getElem (by omega)
        exact block_lt_of_cell (a := ⟨g, off + i * E.k + 0, none⟩) (hr 0 _ h0)
      exact ⟨q, hq, g, off, rfl, hg, by rw [← hcs]; exact hr⟩
    obtain ⟨F, hF⟩ := choose_lt each
    refine ⟨_, (List.range len).map F, rfl, ⟨some a, cap, by simp, by simpa using hl, fun i hi => ?_⟩, by simp; omega, fun y hy => ?_⟩
    · have hi' : i < len := by simpa using hi
      simp only [List.getElem_map, List.getElem_range]
      exact (hF i hi').2
    · simp only [List.mem_map, List.mem_range] at hy
      obtain ⟨i, hi, rfl⟩ := hy
      exact (hF i hi).1
theorem cs_txB (h : DataW.trod enc Tryd.prog W 0 (fun _ => true) true fuel 26 cs = some x) (hb : Rows.uptoBulk x.1 ≤ 1048576) : ∃ (m : Tm) (ai : Option Addr) (ci : Nat) (ao : Option Addr) (co : Nat), cs = (m.cells ai ci ao co).toList ∧ LT W m ai ci ao co ∧ m.fit ∧ m.bytes.length ≤ 9223372036854775807 := by
  obtain ⟨xs, f, _, ex, hlen, hxl, each⟩ := DataW.trod_struct Tryd.underlying26 h
  have hx : xs.length = 4 := hxl
  have hl : cs.length = 4 := hlen.trans (by kernel_rfl)
  have ed : x.1 = .agg (xs.map (·.1)) := congrArg Prod.fst ex
  have hB : ∀ j, (hj : j < xs.length) → Rows.uptoBulk xs[j].1 ≤ 1048576 := by
    intro j hj
    have := bulk_mem xs[j].1 (xs.map (·.1)) (List.mem_map.2 ⟨xs[j], List.getElem_mem _, rfl⟩)
    rw [ed] at hb
    simp only [Rows.uptoBulk] at hb
    omega
  have h0 : DataW.trod enc Tryd.prog W 0 (fun _ => true) true f 22 ((cs.drop 0).take 1) = some xs[0] := (each 0 _ rfl).trans (List.getElem?_eq_getElem (by omega))
  have h1 : DataW.trod enc Tryd.prog W 0 (fun _ => true) true f 23 ((cs.drop 1).take 1) = some xs[1] := (each 1 _ rfl).trans (List.getElem?_eq_getElem (by omega))
  have h2 : DataW.trod enc Tryd.prog W 0 (fun _ => true) true f 24 ((cs.drop 2).take 1) = some xs[2] := (each 2 _ rfl).trans (List.getElem?_eq_getElem (by omega))
  have h3 : DataW.trod enc Tryd.prog W 0 (fun _ => true) true f 22 ((cs.drop 3).take 1) = some xs[3] := (each 3 _ rfl).trans (List.getElem?_eq_getElem (by omega))
  obtain ⟨n0, e0⟩ := cs_u32 Tryd.underlying22 h0
  obtain ⟨v1, n1, e1, l1, z1, p1⟩ := list_funB KA 1048576 (fun a => a.key.size ≤ 1048576) (fun f cs y h hb => cs_inB h hb) h1 (hB 1 (by omega))
  obtain ⟨v2, n2, e2, l2, z2, p2⟩ := list_funB KO 1048576 (fun a => a.lock.size ≤ 1048576) (fun f cs y h hb => cs_outB h hb) h2 (hB 2 (by omega))
  obtain ⟨n3, e3⟩ := cs_u32 Tryd.underlying22 h3
  obtain ⟨a1, c1, rfl⟩ := l1.form
  obtain ⟨a2, c2, rfl⟩ := l2.form
  refine ⟨⟨n0, n1, n2, n3⟩, a1, c1, a2, c2, ?_, ⟨l1, l2⟩, ⟨by show n1.length * 64 ≤ _; omega, by show n2.length * 24 ≤ _; omega⟩, ?_⟩
  · have := cut_at 1 e0 rfl
    rw [List.drop_zero, cut_at 2 e1 rfl, cut_at 3 e2 rfl, cut_at 4 e3 rfl, List.drop_of_length_le (by omega)] at this
    rw [this]
    rfl
  · have q1 := (⟨n0, n1, n2, n3⟩ : Tm).bytes_len
    have q2 := insL_leB _ _ p1
    have q3 := outsL_leB _ _ p2
    have q4 := clong_le n1.length
    have q5 := clong_le n2.length
    simp only at q1
    omega
end
section
variable {H : Type} {enc : TypeId × Value → H} {W : World} {base : Nat} {v : Value} {d : DataW H} {p : List MemPlace}
theorem open_txB (hv : Value.okWide Tryd.prog W .any base 26 v) (h : DataW.Trod enc Tryd.prog W 0 (fun _ => true) true 26 v d p) (hb : Rows.uptoBulk d ≤ 1048576) : ∃ (m : Tm) (ai : Option Addr) (ci : Nat) (ao : Option Addr) (co : Nat), v = .agg (m.cells ai ci ao co) ∧ LT W m ai ci ao co ∧ m.fit ∧ m.bytes.length ≤ 9223372036854775807 := by
  simp only [Value.okWide, Tryd.underlying26] at hv
  obtain ⟨cs, rfl, hsz, _⟩ := hv
  obtain ⟨fuel, hf⟩ := h
  have hc1 : (Value.agg cs).cells.toList = cs.toList := by simp [Value.cells]
  rw [hc1] at hf
  obtain ⟨m, ai, ci, ao, co, e, hm, hz⟩ := cs_txB hf hb
  exact ⟨m, ai, ci, ao, co, congrArg Value.agg (Array.toList_inj.1 e), hm, hz⟩
end
end Go.Proofs.YtfldpejdpinppaaDoor
