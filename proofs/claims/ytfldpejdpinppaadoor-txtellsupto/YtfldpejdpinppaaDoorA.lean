/- Words of 32 bits, and the small functions on them: RotateLeft32, turned, shifted, turn. -/
import Derived.Test.YtfldpejdpinppaaDoorRows
import Derived.WalkKit
import Derived.WalkSpells
import Derived.WalkLawsBesides
import Derived.Deep.QuietTactic
import Derived.BigQuiet
import Derived.BigRegion
import Derived.Stop.BytesEq
import Derived.Laws.Tables
import Derived.Lib.LazyBuf
import Derived.Lib.AppendStr
import Derived.Deep.AppendSrc
import Derived.Deep.RegionWith
import Derived.Deep.RegionLaw
import Derived.Deep.RegionHeld3
import Derived.Deep.OwnRows
import Derived.Deep.WholeRow
import Derived.Deep.Slices
import Derived.Deep.CutRange
import Derived.Deep.DeepAppendRoom
namespace Go.Proofs.YtfldpejdpinppaaDoor
open Go.RowKit

theorem wrapU (x : Int) : IntKind.u32.wrap x = x % 4294967296 := by
  simp [IntKind.wrap, IntKind.signed, IntKind.bits]
theorem wrapI (x : Int) (h0 : -9223372036854775808 ≤ x) (h1 : x < 9223372036854775808) : IntKind.i64.wrap x = x := by
  simp only [IntKind.wrap, IntKind.signed, IntKind.bits]
  simp
  omega
theorem ofInt32 (a : Nat) (ha : a < 4294967296) : (BitVec.ofInt 32 (a : Int)).toNat = a := by
  rw [BitVec.ofInt_natCast, BitVec.toNat_ofNat]; exact Nat.mod_eq_of_lt (by omega)
theorem xor_nat32 (a b : Nat) (ha : a < 4294967296) (hb : b < 4294967296) : bits .xor .u32 (a : Int) (b : Int) = ((a ^^^ b : Nat) : Int) := by
  have hx : a ^^^ b < 2 ^ 32 := Nat.xor_lt_two_pow (by omega) (by omega)
  show IntKind.u32.wrap ((BitVec.ofInt 32 (a : Int) ^^^ BitVec.ofInt 32 (b : Int)).toNat : Int) = _
  rw [BitVec.toNat_xor, ofInt32 a ha, ofInt32 b hb, wrapU]
  omega
theorem and_nat32 (a b : Nat) (ha : a < 4294967296) (hb : b < 4294967296) : bits .and .u32 (a : Int) (b : Int) = ((a &&& b : Nat) : Int) := by
  have hx : a &&& b < 2 ^ 32 := Nat.and_lt_two_pow _ (by omega)
  show IntKind.u32.wrap ((BitVec.ofInt 32 (a : Int) &&& BitVec.ofInt 32 (b : Int)).toNat : Int) = _
  rw [BitVec.toNat_and, ofInt32 a ha, ofInt32 b hb, wrapU]
  omega
theorem or_nat32 (a b : Nat) (ha : a < 4294967296) (hb : b < 4294967296) : bits .or .u32 (a : Int) (b : Int) = ((a ||| b : Nat) : Int) := by
  have hx : a ||| b < 2 ^ 32 := Nat.or_lt_two_pow (by omega) (by omega)
  show IntKind.u32.wrap ((BitVec.ofInt 32 (a : Int) ||| BitVec.ofInt 32 (b : Int)).toNat : Int) = _
  rw [BitVec.toNat_or, ofInt32 a ha, ofInt32 b hb, wrapU]
  omega
theorem xorU (x y : UInt32) : bits .xor .u32 (x.toNat : Int) (y.toNat : Int) = ((x ^^^ y).toNat : Int) := by
  rw [xor_nat32 _ _ x.toNat_lt y.toNat_lt, UInt32.toNat_xor]
theorem andU (x y : UInt32) : bits .and .u32 (x.toNat : Int) (y.toNat : Int) = ((x &&& y).toNat : Int) := by
  rw [and_nat32 _ _ x.toNat_lt y.toNat_lt, UInt32.toNat_and]
theorem orU (x y : UInt32) : bits .or .u32 (x.toNat : Int) (y.toNat : Int) = ((x ||| y).toNat : Int) := by
  rw [or_nat32 _ _ x.toNat_lt y.toNat_lt, UInt32.toNat_or]
theorem addU (x y : UInt32) : ((x.toNat : Int) + (y.toNat : Int)) % 4294967296 = ((x + y).toNat : Int) := by
  rw [UInt32.toNat_add]
  simp
theorem add5 (a b c d e : UInt32) : ((a.toNat : Int) + b.toNat + c.toNat + d.toNat + e.toNat) % 4294967296 = ((a + b + c + d + e).toNat : Int) := by
  simp only [UInt32.toNat_add]
  omega
theorem notX (e : UInt32) : bits .xor .u32 (if IntKind.u32.signed = true then -1 else IntKind.u32.max) (e.toNat : Int) = ((~~~e).toNat : Int) := by
  rw [show (if IntKind.u32.signed = true then -1 else IntKind.u32.max) = (((4294967295 : UInt32).toNat : Nat) : Int) from by decide, xorU]
  have : (4294967295 : UInt32) ^^^ e = ~~~e := by
    rw [← UInt32.toBitVec_inj]
    simp only [UInt32.toBitVec_xor, UInt32.toBitVec_not]
    rw [show (4294967295 : UInt32).toBitVec = BitVec.allOnes 32 from rfl, BitVec.allOnes_xor]
  rw [this]
theorem addW (x y : UInt32) : IntKind.u32.wrap ((x.toNat : Int) + (y.toNat : Int)) = ((x + y).toNat : Int) := by
  rw [wrapU, addU]
theorem cell_set_ne (w : World) (b i j : Nat) (v : Value) (h : i ≠ j) : (w.setCell ⟨b, i, none⟩ v).cell? ⟨b, j, none⟩ = w.cell? ⟨b, j, none⟩ :=
  World.cell?_setCell_other _ _ _ _ (by intro e; cases e; exact h rfl)
theorem ofNat_mod32 (i : Nat) (h : i < 32) : (UInt32.ofNat i).toNat % 32 = i := by
  rw [UInt32.toNat_ofNat']
  omega
theorem shrU (x : UInt32) (i : Nat) (h : i < 32) : (x.toNat : Int) / 2 ^ i = ((x >>> UInt32.ofNat i).toNat : Int) := by
  rw [UInt32.toNat_shiftRight, ofNat_mod32 i h, Nat.shiftRight_eq_div_pow]
  simp
theorem shlU (x : UInt32) (i : Nat) (h : i < 32) : (x.toNat : Int) * 2 ^ i % 4294967296 = ((x <<< UInt32.ofNat i).toNat : Int) := by
  rw [UInt32.toNat_shiftLeft, ofNat_mod32 i h, Nat.shiftLeft_eq]
  simp
theorem subU (x : UInt32) : ((4294967295 : Int) - (x.toNat : Int)) % 4294967296 = ((~~~x).toNat : Int) := by
  have := x.toNat_lt
  rw [UInt32.toNat_not]
  show _ = ((4294967296 - 1 - x.toNat : Nat) : Int)
  omega
theorem notU (x : UInt32) : (-(x.toNat : Int) - 1) % 4294967296 = ((~~~x).toNat : Int) := by
  have := x.toNat_lt
  rw [UInt32.toNat_not]
  show _ = ((4294967296 - 1 - x.toNat : Nat) : Int)
  omega
theorem and31 : ∀ i : Fin 32, bits .and .u64 (IntKind.u64.wrap (-(i.val : Int))) 31 = (((32 - i.val) % 32 : Nat) : Int) := by decide +kernel
/-- A word turned to the right. -/
def rotr (x : UInt32) (i : Nat) : UInt32 := (x >>> UInt32.ofNat i) ||| (x <<< UInt32.ofNat (32 - i))
theorem rotr_l (x : UInt32) (i : Nat) (h1 : 1 ≤ i) (h2 : i ≤ 31) : bits .or .u32 ((x.toNat : Int) * 2 ^ (32 - i) % 4294967296) ((x.toNat : Int) / 2 ^ (32 - (32 - i))) = ((rotr x i).toNat : Int) := by
  rw [shlU x _ (by omega), show 32 - (32 - i) = i by omega, shrU x i (by omega), orU, UInt32.or_comm]
  rfl
theorem rotr_r (x : UInt32) (i : Nat) (h1 : 1 ≤ i) (h2 : i ≤ 31) : bits .or .u32 ((x.toNat : Int) / 2 ^ i) ((x.toNat : Int) * 2 ^ (32 - i) % 4294967296) = ((rotr x i).toNat : Int) := by
  rw [shlU x _ (by omega), shrU x i (by omega), orU]
  rfl
theorem ret_int {k : IntKind} {a b : Int} (h : a = b) : Ending.returned (.int k a) = .returned (.int k b) := by rw [h]
set_option maxHeartbeats 400000 in
theorem rotl_any (x : UInt32) (i : Nat) (K : Int) (hK : K = -(i : Int)) (h1 : 1 ≤ i) (h2 : i ≤ 31) (w : World) :
    Calls Tryd.prog 82 #[.int .u32 (x.toNat : Int), .int .i64 K] w fun e w' => e = .returned (.int .u32 ((rotr x i).toNat : Int)) ∧ w' = w := by
  subst hK
  have ha := and31 ⟨i, by omega⟩
  simp only at ha
  have hm : (32 - i) % 32 = 32 - i := by omega
  rw [hm] at ha
  go_enter Tryd.func82, Tryd.ntmps82
  go_wp2
  go_ret
  exact ⟨ret_int (rotr_l x i h1 h2), rfl⟩
set_option maxHeartbeats 400000 in
theorem turn_any (x : UInt32) (i : Nat) (K : Int) (hK : K = (i : Int)) (h1 : 1 ≤ i) (h2 : i ≤ 31) (w : World) :
    Calls Tryd.prog 52 #[.int .u32 (x.toNat : Int), .int .i64 K] w fun e w' => e = .returned (.int .u32 ((rotr x i).toNat : Int)) ∧ ∃ n, w' = w.drewN n := by
  subst hK
  have e1 : (32 - (i : Int)).toNat = 32 - i := by omega
  have e2 : IntKind.i64.wrap (32 - (i : Int)) = 32 - i := by simp only [IntKind.wrap, IntKind.signed, IntKind.bits]; simp; omega
  go_enter Tryd.func52, Tryd.ntmps52
  go_wp2
  go_quiet (fail)
  go_wp2
  go_ret
  exact ⟨ret_int (rotr_r x i h1 h2), _, rfl⟩
def tri (x : UInt32) (i j k : Nat) : UInt32 := rotr x i ^^^ rotr x j ^^^ rotr x k
def shf (x : UInt32) (i j k : Nat) : UInt32 := rotr x i ^^^ rotr x j ^^^ (x >>> UInt32.ofNat k)
set_option maxHeartbeats 400000 in
theorem turned_any (x : UInt32) (i j k : Nat) (I J K : Int) (hI : I = i) (hJ : J = j) (hK : K = k) (i1 : 1 ≤ i) (i2 : i ≤ 31) (j1 : 1 ≤ j) (j2 : j ≤ 31) (k1 : 1 ≤ k) (k2 : k ≤ 31) (w : World) :
    Calls Tryd.prog 72 #[.int .u32 (x.toNat : Int), .int .i64 I, .int .i64 J, .int .i64 K] w fun e w' => e = .returned (.int .u32 ((tri x i j k).toNat : Int)) ∧ w' = w := by
  subst hI hJ hK
  go_enter Tryd.func72, Tryd.ntmps72
  go_wp2_with fail
  refine (rotl_any x i _ rfl i1 i2 _).mono ?_
  rintro e w1 ⟨rfl, rfl⟩
  go_wp2_with fail
  refine (rotl_any x j _ rfl j1 j2 _).mono ?_
  rintro e w2 ⟨rfl, rfl⟩
  go_wp2_with fail
  refine (rotl_any x k _ rfl k1 k2 _).mono ?_
  rintro e w3 ⟨rfl, rfl⟩
  go_wp2_with fail
  go_ret
  exact ⟨ret_int (by rw [xorU, xorU]; rfl), rfl⟩
set_option maxHeartbeats 400000 in
theorem shifted_any (x : UInt32) (i j k : Nat) (I J K : Int) (hI : I = i) (hJ : J = j) (hK : K = k) (i1 : 1 ≤ i) (i2 : i ≤ 31) (j1 : 1 ≤ j) (j2 : j ≤ 31) (k1 : 1 ≤ k) (k2 : k ≤ 31) (w : World) :
    Calls Tryd.prog 81 #[.int .u32 (x.toNat : Int), .int .i64 I, .int .i64 J, .int .i64 K] w fun e w' => e = .returned (.int .u32 ((shf x i j k).toNat : Int)) ∧ ∃ n, w' = w.drewN n := by
  subst hI hJ hK
  go_enter Tryd.func81, Tryd.ntmps81
  go_wp2
  go_quiet ((first | (go_at_call_of 82 (Value.int .i64 (-(i : Int))); exact Calls.quiet_of_same (rotl_any x i _ rfl i1 i2 _)) | (go_at_call_of 82 (Value.int .i64 (-(j : Int))); exact Calls.quiet_of_same (rotl_any x j _ rfl j1 j2 _))))
  go_wp2
  go_ret
  exact ⟨ret_int (by rw [shrU x k (by omega), xorU, xorU]; rfl), _, rfl⟩
end Go.Proofs.YtfldpejdpinppaaDoor
