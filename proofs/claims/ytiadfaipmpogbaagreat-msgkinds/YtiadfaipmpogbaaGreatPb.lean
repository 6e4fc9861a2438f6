/- What messages hold: addresses, things, ids, texts, numbers, places with texts: their cells, and when two are the same. -/
import Derived.Test.YtiadfaipmpogbaaGreatPa
namespace Go.Proofs.YtiadfaipmpogbaaGreat
open Go.RowKit
open Go.Deep
/-- An address. -/
structure Nt where
  time : UInt32
  serv : UInt64
  ip : List UInt8
  port : UInt16
  hip : ip.length = 16
  deriving DecidableEq
/-- A thing. -/
structure Im where
  kind : UInt32
  hash : List UInt8
  hh : hash.length = 32
  deriving DecidableEq
/-- A place and a text. -/
structure Fd where
  place : Int
  raw : ByteArray
  deriving DecidableEq
abbrev Id32 := {l : List UInt8 // l.length = 32}
def Nt.cells (x : Nt) : List Value := .int .u32 (x.time.toNat : Int) :: .int .u64 (x.serv.toNat : Int) :: (cellsL x.ip ++ [.int .u16 (x.port.toNat : Int)])
def Im.cells (x : Im) : List Value := .int .u32 (x.kind.toNat : Int) :: cellsL x.hash
def Fd.cells (x : Fd) : List Value := [.int .i64 x.place, .string x.raw]
theorem cellsL_one (l : List UInt8) : ∀ v ∈ cellsL l, v.oneCell' = true := fun v hv => by
  simp only [cellsL, List.mem_map] at hv
  obtain ⟨b, _, rfl⟩ := hv
  rfl
theorem Nt.len (x : Nt) : x.cells.length = 19 := by simp [Nt.cells, cellsL_len, x.hip]
theorem Nt.one (x : Nt) : ∀ v ∈ x.cells, v.oneCell' = true := fun v hv => by
  simp only [Nt.cells, List.mem_cons, List.mem_append, List.not_mem_nil, or_false] at hv
  rcases hv with rfl | rfl | h | rfl
  · rfl
  · rfl
  · exact cellsL_one _ v h
  · rfl
theorem Im.len (x : Im) : x.cells.length = 33 := by simp [Im.cells, cellsL_len, x.hh]
theorem Im.one (x : Im) : ∀ v ∈ x.cells, v.oneCell' = true := fun v hv => by
  simp only [Im.cells, List.mem_cons] at hv
  rcases hv with rfl | h
  · rfl
  · exact cellsL_one _ v h
theorem Fd.one (x : Fd) : ∀ v ∈ x.cells, v.oneCell' = true := fun v hv => by
  simp only [Fd.cells, List.mem_cons, List.not_mem_nil, or_false] at hv
  rcases hv with rfl | rfl <;> rfl
/-! ### the kinds -/
def KN : Ek Nt := ⟨28, 27, 19, 40, Nt.cells, by decide, by decide, Tryz.underlying28, by kernel_rfl, Nt.len, Nt.one⟩
def KNr : Ek Nt := ⟨45, 44, 19, 40, Nt.cells, by decide, by decide, Tryz.underlying45, by kernel_rfl, Nt.len, Nt.one⟩
def KI : Ek Im := ⟨29, 81, 33, 36, Im.cells, by decide, by decide, Tryz.underlying29, by kernel_rfl, Im.len, Im.one⟩
def KIr : Ek Im := ⟨46, 83, 33, 36, Im.cells, by decide, by decide, Tryz.underlying46, by kernel_rfl, Im.len, Im.one⟩
def KH : Ek Id32 := ⟨30, 32, 32, 32, fun x => cellsL x.1, by decide, by decide, Tryz.underlying30, by kernel_rfl, fun x => by rw [cellsL_len, x.2], fun x => cellsL_one x.1⟩
def KHr : Ek Id32 := ⟨47, 31, 32, 32, fun x => cellsL x.1, by decide, by decide, Tryz.underlying47, by kernel_rfl, fun x => by rw [cellsL_len, x.2], fun x => cellsL_one x.1⟩
def KF : Ek Fd := ⟨35, 85, 2, 24, Fd.cells, by decide, by decide, Tryz.underlying35, by kernel_rfl, fun _ => rfl, Fd.one⟩
def KFr : Ek Fd := ⟨48, 86, 2, 24, Fd.cells, by decide, by decide, Tryz.underlying48, by kernel_rfl, fun _ => rfl, Fd.one⟩
def KS : Ek ByteArray := ⟨33, 9, 1, 16, fun x => [.string x], by decide, by decide, Tryz.underlying33, by kernel_rfl, fun _ => rfl, fun x v hv => by simp only [List.mem_singleton] at hv; rw [hv]; rfl⟩
def KU : Ek UInt64 := ⟨34, 23, 1, 8, fun x => [.int .u64 (x.toNat : Int)], by decide, by decide, Tryz.underlying34, by kernel_rfl, fun _ => rfl, fun x v hv => by simp only [List.mem_singleton] at hv; rw [hv]; rfl⟩
def KP : Ek Int := ⟨36, 3, 1, 8, fun x => [.int .i64 x], by decide, by decide, Tryz.underlying36, by kernel_rfl, fun _ => rfl, fun x v hv => by simp only [List.mem_singleton] at hv; rw [hv]; rfl⟩
end Go.Proofs.YtiadfaipmpogbaaGreat
