/- A message: its fields, its cells, the lists that it holds. -/
import Derived.Test.YtkoidjaaojmcnaaGreatM06
namespace Go.Proofs.YtkoidjaaojmcnaaGreat
open Go.RowKit
open Go.Deep
/-- A message. -/
structure Mg where
  kind : Int
  vers : UInt32
  serv : UInt64
  nonce : UInt64
  time : Int
  dst : Nt
  src : Nt
  agent : ByteArray
  height : UInt32
  relay : Bool
  high : Bool
  addrs : List Nt
  items : List Im
  hashes : List Id32
  stop : Id32
  hash : Id32
  heads : List ByteArray
  head : ByteArray
  raw : ByteArray
  shorts : List UInt64
  filled : List Fd
  places : List Int
  raws : List ByteArray
  deriving DecidableEq
/-- The values of its lists. -/
structure Vs where
  a : Value
  i : Value
  h : Value
  hd : Value
  sh : Value
  f : Value
  p : Value
  r : Value
def Mg.c0 (m : Mg) : List Value := [.int .i64 m.kind, .int .u32 (m.vers.toNat : Int), .int .u64 (m.serv.toNat : Int), .int .u64 (m.nonce.toNat : Int), .int .i64 m.time]
def Mg.c1 (m : Mg) (s : Vs) : List Value := [.string m.agent, .int .u32 (m.height.toNat : Int), .bool m.relay, .bool m.high, s.a, s.i, s.h]
def Mg.c2 (m : Mg) (s : Vs) : List Value := [s.hd, .string m.head, .string m.raw, s.sh, s.f, s.p, s.r]
/-- Its cells. -/
def Mg.cells (m : Mg) (s : Vs) : List Value := m.c0 ++ (m.dst.cells ++ (m.src.cells ++ (m.c1 s ++ (cellsL m.stop.1 ++ (cellsL m.hash.1 ++ m.c2 s)))))
section
variable (m : Mg) (s : Vs)
theorem Mg.stl : (cellsL m.stop.1).length = 32 := by rw [cellsL_len, m.stop.2]
theorem Mg.hal : (cellsL m.hash.1).length = 32 := by rw [cellsL_len, m.hash.2]
theorem Mg.len : (m.cells s).length = 121 := by
  simp only [Mg.cells, List.length_append, Nt.len, Mg.stl, Mg.hal]
  rfl
theorem Mg.size : (m.cells s).toArray.size = 121 := by rw [List.size_toArray, m.len]
theorem Mg.at0 (j : Nat) (h : j < 5) : (m.cells s)[j]? = m.c0[j]? := by
  rw [Mg.cells, List.getElem?_append_left (by simpa [Mg.c0] using h)]
theorem Mg.atD (j : Nat) (h : j < 19) : (m.cells s)[5 + j]? = m.dst.cells[j]? := by
  rw [Mg.cells, List.getElem?_append_right (by simp [Mg.c0]), show 5 + j - m.c0.length = j by simp [Mg.c0], List.getElem?_append_left (by rw [Nt.len]; exact h)]
theorem Mg.atS (j : Nat) (h : j < 19) : (m.cells s)[24 + j]? = m.src.cells[j]? := by
  have l0 : m.c0.length = 5 := rfl
  have l1 := m.dst.len
  rw [Mg.cells, List.getElem?_append_right (by omega), List.getElem?_append_right (by omega), show 24 + j - m.c0.length - m.dst.cells.length = j by omega, List.getElem?_append_left (by rw [Nt.len]; exact h)]
theorem Mg.at1 (j : Nat) (h : j < 7) : (m.cells s)[43 + j]? = (m.c1 s)[j]? := by
  have l0 : m.c0.length = 5 := rfl
  have l1 := m.dst.len
  have l2 := m.src.len
  have l3 : (m.c1 s).length = 7 := rfl
  rw [Mg.cells, List.getElem?_append_right (by omega), List.getElem?_append_right (by omega), List.getElem?_append_right (by omega), show 43 + j - m.c0.length - m.dst.cells.length - m.src.cells.length = j by omega, List.getElem?_append_left (by omega)]
theorem Mg.atT (j : Nat) (h : j < 32) : (m.cells s)[50 + j]? = (cellsL m.stop.1)[j]? := by
  have l0 : m.c0.length = 5 := rfl
  have l1 := m.dst.len
  have l2 := m.src.len
  have l3 : (m.c1 s).length = 7 := rfl
  rw [Mg.cells, List.getElem?_append_right (by omega), List.getElem?_append_right (by omega), List.getElem?_append_right (by omega), List.getElem?_append_right (by omega), show 50 + j - m.c0.length - m.dst.cells.length - m.src.cells.length - (m.c1 s).length = j by omega, List.getElem?_append_left (by rw [m.stl]; exact h)]
theorem Mg.atH (j : Nat) (h : j < 32) : (m.cells s)[82 + j]? = (cellsL m.hash.1)[j]? := by
  have l0 : m.c0.length = 5 := rfl
  have l1 := m.dst.len
  have l2 := m.src.len
  have l3 : (m.c1 s).length = 7 := rfl
  have l4 := m.stl
  rw [Mg.cells, List.getElem?_append_right (by omega), List.getElem?_append_right (by omega), List.getElem?_append_right (by omega), List.getElem?_append_right (by omega), List.getElem?_append_right (by omega), show 82 + j - m.c0.length - m.dst.cells.length - m.src.cells.length - (m.c1 s).length - (cellsL m.stop.1).length = j by omega, List.getElem?_append_left (by rw [m.hal]; exact h)]
theorem Mg.at2 (j : Nat) : (m.cells s)[114 + j]? = (m.c2 s)[j]? := by
  have l0 : m.c0.length = 5 := rfl
  have l1 := m.dst.len
  have l2 := m.src.len
  have l3 : (m.c1 s).length = 7 := rfl
  have l4 := m.stl
  have l5 := m.hal
  rw [Mg.cells, List.getElem?_append_right (by omega), List.getElem?_append_right (by omega), List.getElem?_append_right (by omega), List.getElem?_append_right (by omega), List.getElem?_append_right (by omega), List.getElem?_append_right (by omega), show 114 + j - m.c0.length - m.dst.cells.length - m.src.cells.length - (m.c1 s).length - (cellsL m.stop.1).length - (cellsL m.hash.1).length = j by omega]
/-- A slice's value. -/
def isSl (v : Value) : Prop := ∃ ao n c, v = .slice ao n c
structure Vs.ok (s : Vs) : Prop where
  a : isSl s.a
  i : isSl s.i
  h : isSl s.h
  hd : isSl s.hd
  sh : isSl s.sh
  f : isSl s.f
  p : isSl s.p
  r : isSl s.r
theorem isSl.one {v : Value} (h : isSl v) : v.oneCell' = true := by
  obtain ⟨a, n, c, rfl⟩ := h
  rfl
theorem Mg.one (hs : s.ok) : (m.cells s).toArray.all (·.oneCell') = true := by
  rw [Array.all_eq_true_iff_forall_mem]
  intro v hv
  rw [List.mem_toArray] at hv
  simp only [Mg.cells, List.mem_append] at hv
  rcases hv with h | h | h | h | h | h | h
  · simp only [Mg.c0, List.mem_cons, List.not_mem_nil, or_false] at h
    rcases h with rfl | rfl | rfl | rfl | rfl <;> rfl
  · exact Nt.one _ v h
  · exact Nt.one _ v h
  · simp only [Mg.c1, List.mem_cons, List.not_mem_nil, or_false] at h
    rcases h with rfl | rfl | rfl | rfl | rfl | rfl | rfl
    · rfl
    · rfl
    · rfl
    · rfl
    · exact hs.a.one
    · exact hs.i.one
    · exact hs.h.one
  · exact cellsL_one _ v h
  · exact cellsL_one _ v h
  · simp only [Mg.c2, List.mem_cons, List.not_mem_nil, or_false] at h
    rcases h with rfl | rfl | rfl | rfl | rfl | rfl | rfl
    · exact hs.hd.one
    · rfl
    · rfl
    · exact hs.sh.one
    · exact hs.f.one
    · exact hs.p.one
    · exact hs.r.one
end
/-- The lists of a message can be read. -/
structure MLk (kN : Ek Nt) (kI : Ek Im) (kH : Ek Id32) (kF : Ek Fd) (w : World) (s : Vs) (m : Mg) : Prop where
  a : LX kN w s.a m.addrs
  i : LX kI w s.i m.items
  h : LX kH w s.h m.hashes
  hd : LX KS w s.hd m.heads
  sh : LX KU w s.sh m.shorts
  f : LX kF w s.f m.filled
  p : LX KP w s.p m.places
  r : LX KS w s.r m.raws
abbrev ML := MLk KN KI KH KF
abbrev MR := MLk KNr KIr KHr KFr
/-- .. and are not too long. -/
structure Mg.fit (m : Mg) : Prop where
  a : m.addrs.length < 4611686018427387904
  i : m.items.length < 4611686018427387904
  h : m.hashes.length < 4611686018427387904
  hd : m.heads.length < 4611686018427387904
  sh : m.shorts.length < 4611686018427387904
  f : m.filled.length < 4611686018427387904
  p : m.places.length < 4611686018427387904
  r : m.raws.length < 4611686018427387904
theorem LX.isSl {α : Type} {E : Ek α} {w : World} {v : Value} {L : List α} (h : LX E w v L) : isSl v := by
  obtain ⟨a, c, e⟩ := h.form
  exact ⟨a, _, c, e⟩
section
variable {kN : Ek Nt} {kI : Ek Im} {kH : Ek Id32} {kF : Ek Fd} {w W : World} {s : Vs} {m : Mg}
theorem MLk.below (h : MLk kN kI kH kF w s m) (b : Below w.heap.size w W) : MLk kN kI kH kF W s m := ⟨h.a.below b, h.i.below b, h.h.below b, h.hd.below b, h.sh.below b, h.f.below b, h.p.below b, h.r.below b⟩
theorem MLk.ok (h : MLk kN kI kH kF w s m) : s.ok := ⟨h.a.isSl, h.i.isSl, h.h.isSl, h.hd.isSl, h.sh.isSl, h.f.isSl, h.p.isSl, h.r.isSl⟩
end
/-- The cells of a message that lies at a block. -/
structure Mc (W : World) (g : Nat) (m : Mg) (s : Vs) : Prop where
  f0 : W.cell? ⟨g, 0, none⟩ = some (.int .i64 m.kind)
  f1 : W.cell? ⟨g, 1, none⟩ = some (.int .u32 (m.vers.toNat : Int))
  f2 : W.cell? ⟨g, 2, none⟩ = some (.int .u64 (m.serv.toNat : Int))
  f3 : W.cell? ⟨g, 3, none⟩ = some (.int .u64 (m.nonce.toNat : Int))
  f4 : W.cell? ⟨g, 4, none⟩ = some (.int .i64 m.time)
  dst : W.rangeAt g 5 m.dst.cells
  src : W.rangeAt g 24 m.src.cells
  f7 : W.cell? ⟨g, 43, none⟩ = some (.string m.agent)
  f8 : W.cell? ⟨g, 44, none⟩ = some (.int .u32 (m.height.toNat : Int))
  f9 : W.cell? ⟨g, 45, none⟩ = some (.bool m.relay)
  f10 : W.cell? ⟨g, 46, none⟩ = some (.bool m.high)
  f11 : W.cell? ⟨g, 47, none⟩ = some s.a
  f12 : W.cell? ⟨g, 48, none⟩ = some s.i
  f13 : W.cell? ⟨g, 49, none⟩ = some s.h
  stop : W.rangeAt g 50 (cellsL m.stop.1)
  hash : W.rangeAt g 82 (cellsL m.hash.1)
  f16 : W.cell? ⟨g, 114, none⟩ = some s.hd
  f17 : W.cell? ⟨g, 115, none⟩ = some (.string m.head)
  f18 : W.cell? ⟨g, 116, none⟩ = some (.string m.raw)
  f19 : W.cell? ⟨g, 117, none⟩ = some s.sh
  f20 : W.cell? ⟨g, 118, none⟩ = some s.f
  f21 : W.cell? ⟨g, 119, none⟩ = some s.p
  f22 : W.cell? ⟨g, 120, none⟩ = some s.r
theorem Mc.of {W : World} {g : Nat} {m : Mg} {s : Vs} {t : TypeId} (h : W.heap[g]? = some (.cells (m.cells s).toArray t (0, 0))) : Mc W g m s := by
  have hc : ∀ i, W.cell? ⟨g, i, none⟩ = (m.cells s)[i]? := fun i => by rw [cell_of_row W g i _ _ _ h, List.getElem?_toArray]
  refine ⟨?_, ?_, ?_, ?_, ?_, fun j v hv => ?_, fun j v hv => ?_, ?_, ?_, ?_, ?_, ?_, ?_, ?_, fun j v hv => ?_, fun j v hv => ?_, ?_, ?_, ?_, ?_, ?_, ?_, ?_⟩
  · rw [hc, m.at0 s 0 (by decide)]; rfl
  · rw [hc, m.at0 s 1 (by decide)]; rfl
  · rw [hc, m.at0 s 2 (by decide)]; rfl
  · rw [hc, m.at0 s 3 (by decide)]; rfl
  · rw [hc, m.at0 s 4 (by decide)]; rfl
  · have hj := (List.getElem?_eq_some_iff.1 hv).1
    rw [Nt.len] at hj
    rw [hc, m.atD s j hj]; exact hv
  · have hj := (List.getElem?_eq_some_iff.1 hv).1
    rw [Nt.len] at hj
    rw [hc, m.atS s j hj]; exact hv
  · rw [hc, m.at1 s 0 (by decide)]; rfl
  · rw [hc, m.at1 s 1 (by decide)]; rfl
  · rw [hc, m.at1 s 2 (by decide)]; rfl
  · rw [hc, m.at1 s 3 (by decide)]; rfl
  · rw [hc, m.at1 s 4 (by decide)]; rfl
  · rw [hc, m.at1 s 5 (by decide)]; rfl
  · rw [hc, m.at1 s 6 (by decide)]; rfl
  · have hj := (List.getElem?_eq_some_iff.1 hv).1
    rw [m.stl] at hj
    rw [hc, m.atT s j hj]; exact hv
  · have hj := (List.getElem?_eq_some_iff.1 hv).1
    rw [m.hal] at hj
    rw [hc, m.atH s j hj]; exact hv
  · rw [hc, m.at2 s 0]; rfl
  · rw [hc, m.at2 s 1]; rfl
  · rw [hc, m.at2 s 2]; rfl
  · rw [hc, m.at2 s 3]; rfl
  · rw [hc, m.at2 s 4]; rfl
  · rw [hc, m.at2 s 5]; rfl
  · rw [hc, m.at2 s 6]; rfl
end Go.Proofs.YtkoidjaaojmcnaaGreat
