/- Inputs of the laws of frames: a frame, a text with a place. -/
import Derived.Test.YtjcfojedahgfpaaDoorFv
namespace Go.Proofs.YtjcfojedahgfpaaDoor
open Go.ChangeShapes Go.WideShapes Go.ChangeAt Go.RowKit Go.Joins
set_option maxRecDepth 10000
theorem cellT8 : Tryd.prog.cellsOf 9 = 1 := by kernel_rfl
theorem cellI8 : Tryd.prog.cellsOf 3 = 1 := by kernel_rfl
theorem cellF8 : Tryd.prog.cellsOf 24 = 2 := by kernel_rfl
theorem cellB8 : Tryd.prog.cellsOf 26 = 2 := by kernel_rfl
section
variable {H : Type} {enc : TypeId × Value → H} {W : World} {base : Nat} {v : Value} {d : DataW H} {p : List MemPlace}
theorem trod_frame {sp : Nat → Bool} {held : Bool} {fuel b : Nat} {x0 x1 : Value} {y : DataW H × List MemPlace} (h : DataW.trod enc Tryd.prog W b sp held fuel 24 [x0, x1] = some y) : ∃ c p : ByteArray, x0 = .string c ∧ x1 = .string p ∧ y.1 = .agg [.lit (.string c.data.toList), .lit (.string p.data.toList)] ∧ c.size ≤ maxLen ∧ p.size ≤ maxLen := by
  obtain ⟨y0, y1, n, rfl, _, h0, h1⟩ := trod_struct2 Tryd.underlying24 h
  rw [cellT8] at h0 h1
  obtain ⟨a, ea, rfl, za⟩ := DataW.trod_string Tryd.underlying9 h0
  obtain ⟨b, eb, rfl, zb⟩ := DataW.trod_string Tryd.underlying9 h1
  exact ⟨a, b, (List.cons.inj ea).1, (List.cons.inj eb).1, rfl, za, zb⟩
/-- A frame that comes in. -/
theorem open_frame (hv : Value.okWide Tryd.prog W .any base 24 v) (h : DataW.Trod enc Tryd.prog W 0 (fun _ => true) true 24 v d p) : ∃ c q : ByteArray, v = .agg #[.string c, .string q] ∧ d = .agg [.lit (.string c.data.toList), .lit (.string q.data.toList)] := by
  simp only [Value.okWide, Tryd.underlying24] at hv
  obtain ⟨cs, rfl, hsz, _⟩ := hv
  rw [cellF8] at hsz
  obtain ⟨fuel, hf⟩ := h
  have hc1 : (Value.agg cs).cells.toList = cs.toList := by simp [Value.cells]
  rw [hc1] at hf
  obtain ⟨l⟩ := cs
  match l, hsz with
  | [x0, x1], _ =>
    obtain ⟨a, b, rfl, rfl, e, _, _⟩ := trod_frame hf
    exact ⟨a, b, rfl, e⟩
/-- A text with a place that comes in. -/
theorem open_bat (hv : Value.okWide Tryd.prog W .any base 26 v) (h : DataW.Trod enc Tryd.prog W 0 (fun _ => true) true 26 v d p) : ∃ (t : ByteArray) (k : Int), v = .agg #[.string t, .int .i64 k] ∧ d = .agg [.lit (.string t.data.toList), .lit (.int .i64 k)] := by
  simp only [Value.okWide, Tryd.underlying26] at hv
  obtain ⟨cs, rfl, hsz, _⟩ := hv
  rw [cellB8] at hsz
  obtain ⟨fuel, hf⟩ := h
  have hc1 : (Value.agg cs).cells.toList = cs.toList := by simp [Value.cells]
  rw [hc1] at hf
  obtain ⟨l⟩ := cs
  match l, hsz with
  | [x0, x1], _ =>
    obtain ⟨y0, y1, n, e, _, h0, h1⟩ := trod_struct2 Tryd.underlying26 hf
    rw [cellT8] at h0
    rw [cellI8] at h1
    obtain ⟨a, ea, rfl, za⟩ := DataW.trod_string Tryd.underlying9 h0
    obtain ⟨b, eb, rfl, _⟩ := DataW.trod_int Tryd.underlying3 h1
    obtain rfl := (List.cons.inj ea).1
    obtain rfl := (List.cons.inj eb).1
    exact ⟨a, b, rfl, (Prod.mk.inj e).1⟩
/-- A text within a struct that comes in. -/
theorem sized_field {ts : List TypeId} {ds : List (DataW H)} (h : (DataW.weightsEach Tryd.prog ts ds).all (· ≤ reachBytes) = true) {j i : Nat} {t ft : TypeId} {fs : Array Field} {parts : List (DataW H)} {bytes : List UInt8} (ht : ts[j]? = some t) (hd : ds[j]? = some (.agg parts)) (hu : Tryd.prog.underlying t = some (.struct fs))
    (hf : (fs.toList.map (·.type))[i]? = some ft) (hp : parts[i]? = some (.lit (.string bytes))) : bytes.length ≤ 140737488351232 := by
  have := List.all_eq_true.1 h _ (DataW.weights_mem_each ht hd bytes.length (by
    simp only [DataW.weights, hu]
    exact DataW.weights_mem_each hf hp bytes.length (by simp [DataW.weights])))
  simp only [reachBytes] at this
  exact of_decide_eq_true this
end
end Go.Proofs.YtjcfojedahgfpaaDoor
