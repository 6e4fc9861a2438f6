/- What messages hold: addresses, things, ids, texts, numbers, places with texts: their cells, and when two are the same. -/
import Derived.Test.YtkbfcfmjbgnhcaaPa
namespace Go.Proofs.Ytkbfcfmjbgnhcaa
open Go.RowKit
open Go.Deep
/-- An address. -/
structure Nt where
  time : UInt32
  serv : UInt64
  ip : List UInt8
  port : UInt16
  hip : ip.length = 16
  deriving DecidableEq
/-- A thing. -/
structure Im where
  kind : UInt32
  hash : List UInt8
  hh : hash.length = 32
  deriving DecidableEq
/-- A place and a text. -/
structure Fd where
  place : Int
  raw : ByteArray
  deriving DecidableEq
abbrev Id32 := {l : List UInt8 // l.length = 32}
def Nt.cells (x : Nt) : List Value := .int .u32 (x.time.toNat : Int) :: .int .u64 (x.serv.toNat : Int) :: (cellsL x.ip ++ [.int .u16 (x.port.toNat : Int)])
def Im.cells (x : Im) : List Value := .int .u32 (x.kind.toNat : Int) :: cellsL x.hash
def Fd.cells (x : Fd) : List Value := [.int .i64 x.place, .string x.raw]
theorem cellsL_one (l : List UInt8) : ∀ v ∈ cellsL l, v.oneCell' = true := fun v hv => by
  simp only [cellsL, List.mem_map] at hv
  obtain ⟨b, _, rfl⟩ := hv
  rfl
theorem Nt.len (x : Nt) : x.cells.length = 19 := by simp [Nt.cells, cellsL_len, x.hip]
theorem Nt.one (x : Nt) : ∀ v ∈ x.cells, v.oneCell' = true := fun v hv => by
  simp only [Nt.cells, List.mem_cons, List.mem_append, List.not_mem_nil, or_false] at hv
  rcases hv with rfl | rfl | h | rfl
  · rfl
  · rfl
  · exact cellsL_one _ v h
  · rfl
theorem Im.len (x : Im) : x.cells.length = 33 := by simp [Im.cells, cellsL_len, x.hh]
theorem Im.one (x : Im) : ∀ v ∈ x.cells, v.oneCell' = true := fun v hv => by
  simp only [Im.cells, List.mem_cons] at hv
  rcases hv with rfl | h
  · rfl
  · exact cellsL_one _ v h
theorem Fd.one (x : Fd) : ∀ v ∈ x.cells, v.oneCell' = true := fun v hv => by
  simp only [Fd.cells, List.mem_cons, List.not_mem_nil, or_false] at hv
  rcases hv with rfl | rfl <;> rfl
/-! ### the kinds -/
end Go.Proofs.Ytkbfcfmjbgnhcaa
