/- The mathematics of Clash, ids as keys of a map, and where ids lie. -/
import Derived.Test.YtpjpnkohagcegaaYk
import Derived.Maps.OwnSet
import Derived.Maps.OwnOps
import Derived.DeepKeys4
namespace Go.Proofs.Ytpjpnkohagcegaa
open Go.RowKit
open Go.Deep
open Go.Maps
theorem laidOut6 : laidOutB Try.prog = true := by kernel_rfl
theorem cellB : Try.prog.cellsOf 5 = 1 := by kernel_rfl
theorem cellH : Try.prog.cellsOf 40 = 32 := by kernel_rfl
theorem keyTH : Try.prog.keyType 40 = true := by kernel_rfl
theorem lawH : Keyed Try.prog 40 := Keyed.of_law (deep_law_laid laidOut6 (m := 2) (by omega) (of_decide_eq_true (by kernel_rfl)) (by kernel_rfl) (by kernel_rfl))
theorem lawU : Keyed Try.prog 22 := int_keyed Try.underlying22
theorem zeroS (w : World) : (zeroValue 56).run Try.prog w = .ok (.agg #[]) w := by kernel_rfl
theorem zeroN (w : World) : (zeroValue 3).run Try.prog w = .ok (.int .i64 0) w := by kernel_rfl
theorem mapM_some {α β : Type} (f : α → Option β) (g : α → β) (r : List α) (h : ∀ i ∈ r, f i = some (g i)) : r.mapM f = some (r.map g) := by
  induction r with
  | nil => rfl
  | cons a r ih =>
    rw [List.mapM_cons, h a (by simp), ih (fun i hi => h i (by simp [hi]))]
    rfl
theorem lits_at (d : Nat) (l : List UInt8) (i : Nat) (hi : i < l.length) : Try.prog.keyLits (d + 1) 5 (((cellsL l).drop (i * 1)).take 1) = some [.int .u8 ((l.getD i 0).toNat : Int)] := by
  have hc : (cellsL l).length = l.length := cellsL_len l
  have hb := (l.getD i 0).toNat_lt
  have e : ((cellsL l).drop (i * 1)).take 1 = [.int .u8 ((l.getD i 0).toNat : Int)] := by
    rw [Nat.mul_one, List.drop_eq_getElem_cons (by omega)]
    simp [cellsL, hi]
  rw [e]
  generalize l.getD i 0 = b at *
  unfold Program.keyLits
  simp only [Try.underlying5]
  rw [if_pos]
  exact ⟨trivial, by simp [Lit.wf, IntKind.min, IntKind.max, IntKind.signed, IntKind.bits]; omega⟩
theorem range_getD (l : List UInt8) : (List.range l.length).map (fun i => l.getD i 0) = l := by
  apply List.ext_getElem
  · simp
  · intro i h1 h2
    simp [h2]
theorem bytes_one (b : UInt8) : Lit.keyBytes (.int .u8 (b.toNat : Int)) = [b] := by
  have := b.toNat_lt
  have e : ((b.toNat : Int) % 2 ^ IntKind.u8.bits).toNat = b.toNat := by
    simp only [IntKind.bits]
    omega
  simp only [Lit.keyBytes]
  rw [e]
  simp only [IntKind.bits, bytesBE, bytesLE]
  simp
theorem keyH (l : List UInt8) (hl : l.length = 32) : keyOf Try.prog 40 (.agg (hc l)) = some (.string l) := by
  obtain ⟨d, hd⟩ : ∃ d, Try.prog.types.size = d + 1 := ⟨Try.prog.types.size - 1, by have : 0 < Try.prog.types.size := of_decide_eq_true (by kernel_rfl); omega⟩
  unfold keyOf
  simp only [Try.underlying40]
  rw [if_pos (by simp [keyTH, Value.formed, Try.underlying40, cellH, hc_size, hl]), hd]
  unfold Program.keyLits
  simp only [Try.underlying40, Value.cells]
  have hcl : (hc l).toList = cellsL l := by simp [hc]
  rw [if_pos (by rw [hcl, cellsL_len, hl, cellH]), hcl, cellB, mapM_some _ (fun i => [Lit.int .u8 ((l.getD i 0).toNat : Int)]) _ (fun i hi => lits_at d l i (by rw [hl]; simpa using hi))]
  simp only [Option.map_some]
  congr 2
  have e : ((List.range 32).map (fun i => [Lit.int .u8 ((l.getD i 0).toNat : Int)])).flatten = l.map fun b => Lit.int .u8 (b.toNat : Int) := by
    rw [← hl]
    conv => rhs; rw [← range_getD l]
    generalize List.range l.length = r
    induction r with
    | nil => rfl
    | cons a r ih =>
      simp only [List.map_cons, List.flatten_cons]
      rw [ih]
      rfl
  rw [e, keyBytes]
  clear e hcl hd hl
  induction l with
  | nil => rfl
  | cons b r ih => rw [List.map_cons, List.flatMap_cons, bytes_one, ih]; rfl

/-! ### the first clash -/
section
variable (id : Nat → List UInt8) (sh : Nat → Nat)
/-- No two of the first n clash. -/
def Calm (n : Nat) : Prop := ∀ b, b < n → ∀ a, a < b → sh a = sh b → id a = id b
/-- a, b are the first two that clash. -/
structure First (n a b : Nat) : Prop where
  bn : b < n
  ab : a < b
  ne : id a ≠ id b
  eq : sh a = sh b
  calm : Calm id sh b
  least : ∀ c, c < a → sh c = sh b → id c = id b
theorem calm_met {k : Nat} (h : Calm id sh k) (hf : ∀ i j, id i = id j → sh i = sh j) (hm : ∃ j, j < k ∧ id j = id k) : Calm id sh (k + 1) := by
  intro b hb a ha e
  by_cases hbk : b < k
  · exact h b hbk a ha e
  · have : b = k := by omega
    subst this
    obtain ⟨j, hj, hid⟩ := hm
    have e2 : sh a = sh j := by rw [e, hf j b hid]
    rw [← hid]
    rcases Nat.lt_trichotomy a j with h1 | h1 | h1
    · exact h j hj a h1 e2
    · rw [h1]
    · exact (h a ha j h1 e2.symm).symm
theorem calm_new {k : Nat} (h : Calm id sh k) (hm : ¬ ∃ j, j < k ∧ sh j = sh k) : Calm id sh (k + 1) := by
  intro b hb a ha e
  by_cases hbk : b < k
  · exact h b hbk a ha e
  · have : b = k := by omega
    subst this
    exact absurd ⟨a, ha, e⟩ hm
end
/-- The set of ids that were met. -/
def MetD (id : Nat → List UInt8) (k : Nat) (D : DataW Unit) : Prop := ∀ l, Maps.has D (.string l) = true ↔ ∃ j, j < k ∧ id j = l
/-- The places at which short ids were met first. -/
def FstD (sh : Nat → Nat) (k : Nat) (D : DataW Unit) : Prop := (∀ s : Nat, Maps.has D (.int .u64 (s : Int)) = true ↔ ∃ j, j < k ∧ sh j = s) ∧
  ∀ s j : Nat, j < k → sh j = s → (∀ i, i < j → sh i ≠ s) → D.atKey (.int .u64 (s : Int)) (.lit (.int .i64 0)) = .lit (.int .i64 (j : Int))
theorem MetD.zero (id : Nat → List UInt8) : MetD id 0 (.map []) := by
  intro l
  constructor
  · intro h; cases h
  · rintro ⟨j, hj, _⟩; omega
theorem FstD.zero (sh : Nat → Nat) : FstD sh 0 (.map []) := by
  refine ⟨fun s => ?_, fun s j hj => by omega⟩
  constructor
  · intro h; cases h
  · rintro ⟨j, hj, _⟩; omega
theorem MetD.old {id : Nat → List UInt8} {k : Nat} {D : DataW Unit} (h : MetD id k D) (hm : ∃ j, j < k ∧ id j = id k) : MetD id (k + 1) D := by
  intro l
  rw [h l]
  constructor
  · rintro ⟨j, hj, e⟩; exact ⟨j, by omega, e⟩
  · rintro ⟨j, hj, e⟩
    by_cases hjk : j < k
    · exact ⟨j, hjk, e⟩
    · have : j = k := by omega
      subst this
      obtain ⟨i, hi, e2⟩ := hm
      exact ⟨i, hi, e2.trans e⟩
theorem MetD.new {id : Nat → List UInt8} {k : Nat} {D : DataW Unit} (h : MetD id k D) (hD : IsMap D) (d : DataW Unit) : MetD id (k + 1) (D.put (.string (id k)) d) := by
  intro l
  by_cases e : l = id k
  · subst e
    rw [has_put_same hD (by simp [WideAt.IsKeyLit])]
    exact ⟨fun _ => ⟨k, by omega, rfl⟩, fun _ => rfl⟩
  · rw [has_put_other (by intro e2; exact e (Lit.string.inj e2)), h l]
    constructor
    · rintro ⟨j, hj, e⟩; exact ⟨j, by omega, e⟩
    · rintro ⟨j, hj, e3⟩
      by_cases hjk : j < k
      · exact ⟨j, hjk, e3⟩
      · have : j = k := by omega
        subst this
        exact absurd e3.symm e
theorem FstD.old {sh : Nat → Nat} {k : Nat} {D : DataW Unit} (h : FstD sh k D) (hm : ∃ j, j < k ∧ sh j = sh k) : FstD sh (k + 1) D := by
  refine ⟨fun s => ?_, fun s j hj e hl => ?_⟩
  · rw [h.1 s]
    constructor
    · rintro ⟨j, hj, e⟩; exact ⟨j, by omega, e⟩
    · rintro ⟨j, hj, e⟩
      by_cases hjk : j < k
      · exact ⟨j, hjk, e⟩
      · have : j = k := by omega
        subst this
        obtain ⟨i, hi, e2⟩ := hm
        exact ⟨i, hi, e2.trans e⟩
  · by_cases hjk : j < k
    · exact h.2 s j hjk e hl
    · have : j = k := by omega
      subst this
      obtain ⟨i, hi, e2⟩ := hm
      exact absurd (e2.trans e) (hl i hi)
theorem FstD.new {sh : Nat → Nat} {k : Nat} {D : DataW Unit} (h : FstD sh k D) (hD : IsMap D) (hm : ¬ ∃ j, j < k ∧ sh j = sh k) : FstD sh (k + 1) (D.put (.int .u64 (sh k : Int)) (.lit (.int .i64 (k : Int)))) := by
  have hne : ∀ s : Nat, s ≠ sh k → (Lit.int .u64 (s : Int)) ≠ .int .u64 (sh k : Int) := fun s hs e => hs (by have := (Lit.int.inj e).2; omega)
  refine ⟨fun s => ?_, fun s j hj e hl => ?_⟩
  · by_cases e : s = sh k
    · subst e
      rw [has_put_same hD (by simp [WideAt.IsKeyLit])]
      exact ⟨fun _ => ⟨k, by omega, rfl⟩, fun _ => rfl⟩
    · rw [has_put_other (hne s e), h.1 s]
      constructor
      · rintro ⟨j, hj, e⟩; exact ⟨j, by omega, e⟩
      · rintro ⟨j, hj, e3⟩
        by_cases hjk : j < k
        · exact ⟨j, hjk, e3⟩
        · have : j = k := by omega
          subst this
          exact absurd e3.symm e
  · by_cases hjk : j < k
    · rw [atKey_put_other (hne s (fun e2 => hm ⟨j, hjk, e.trans e2⟩))]
      exact h.2 s j hjk e hl
    · have : j = k := by omega
      subst this
      subst e
      rw [atKey_put_same hD (by simp [WideAt.IsKeyLit])]
/-- The first place with a short id. -/
theorem least_of (sh : Nat → Nat) (k s : Nat) (h : ∃ j, j < k ∧ sh j = s) : ∃ j, j < k ∧ sh j = s ∧ ∀ i, i < j → sh i ≠ s := by
  induction k with
  | zero => obtain ⟨j, hj, _⟩ := h; omega
  | succ k ih =>
    by_cases h' : ∃ j, j < k ∧ sh j = s
    · obtain ⟨j, hj, e, hl⟩ := ih h'
      exact ⟨j, by omega, e, hl⟩
    · obtain ⟨j, hj, e⟩ := h
      have : j = k := by
        by_cases hjk : j < k
        · exact absurd ⟨j, hjk, e⟩ h'
        · omega
      subst this
      exact ⟨j, by omega, e, fun i hi e2 => h' ⟨i, hi, e2⟩⟩
end Go.Proofs.Ytpjpnkohagcegaa
