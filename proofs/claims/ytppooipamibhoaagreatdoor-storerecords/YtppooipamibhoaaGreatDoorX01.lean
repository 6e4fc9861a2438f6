/- Words of 32 bits, and the small functions on them: RotateLeft32, turned, shifted, turn. The sum as mathematics: the schedule, the rounds, a step; and arrays that lie in blocks of their own. -/
import Derived.Test.YtppooipamibhoaaGreatDoorRows
import Derived.WalkKit
import Derived.WalkSpells
import Derived.WalkLawsBesides
import Derived.Deep.QuietTactic
import Derived.BigQuiet
import Derived.BigRegion
import Derived.Stop.BytesEq
import Derived.Laws.Tables
import Derived.Lib.LazyBuf
import Derived.Lib.AppendStr
import Derived.Deep.AppendSrc
import Derived.Deep.RegionWith
import Derived.Deep.RegionLaw
import Derived.Deep.RegionHeld3
import Derived.Deep.OwnRows
import Derived.Deep.WholeRow
import Derived.Deep.Slices
import Derived.Deep.CutRange
import Derived.Deep.DeepAppendRoom
namespace Go.Proofs.YtppooipamibhoaaGreatDoor
open Go.RowKit

theorem wrapU (x : Int) : IntKind.u32.wrap x = x % 4294967296 := by
  simp [IntKind.wrap, IntKind.signed, IntKind.bits]
theorem wrapI (x : Int) (h0 : -9223372036854775808 ≤ x) (h1 : x < 9223372036854775808) : IntKind.i64.wrap x = x := by
  simp only [IntKind.wrap, IntKind.signed, IntKind.bits]
  simp
  omega
theorem ofInt32 (a : Nat) (ha : a < 4294967296) : (BitVec.ofInt 32 (a : Int)).toNat = a := by
  rw [BitVec.ofInt_natCast, BitVec.toNat_ofNat]; exact Nat.mod_eq_of_lt (by omega)
theorem xor_nat32 (a b : Nat) (ha : a < 4294967296) (hb : b < 4294967296) : bits .xor .u32 (a : Int) (b : Int) = ((a ^^^ b : Nat) : Int) := by
  have hx : a ^^^ b < 2 ^ 32 := Nat.xor_lt_two_pow (by omega) (by omega)
  show IntKind.u32.wrap ((BitVec.ofInt 32 (a : Int) ^^^ BitVec.ofInt 32 (b : Int)).toNat : Int) = _
  rw [BitVec.toNat_xor, ofInt32 a ha, ofInt32 b hb, wrapU]
  omega
theorem and_nat32 (a b : Nat) (ha : a < 4294967296) (hb : b < 4294967296) : bits .and .u32 (a : Int) (b : Int) = ((a &&& b : Nat) : Int) := by
  have hx : a &&& b < 2 ^ 32 := Nat.and_lt_two_pow _ (by omega)
  show IntKind.u32.wrap ((BitVec.ofInt 32 (a : Int) &&& BitVec.ofInt 32 (b : Int)).toNat : Int) = _
  rw [BitVec.toNat_and, ofInt32 a ha, ofInt32 b hb, wrapU]
  omega
theorem or_nat32 (a b : Nat) (ha : a < 4294967296) (hb : b < 4294967296) : bits .or .u32 (a : Int) (b : Int) = ((a ||| b : Nat) : Int) := by
  have hx : a ||| b < 2 ^ 32 := Nat.or_lt_two_pow (by omega) (by omega)
  show IntKind.u32.wrap ((BitVec.ofInt 32 (a : Int) ||| BitVec.ofInt 32 (b : Int)).toNat : Int) = _
  rw [BitVec.toNat_or, ofInt32 a ha, ofInt32 b hb, wrapU]
  omega
theorem xorU (x y : UInt32) : bits .xor .u32 (x.toNat : Int) (y.toNat : Int) = ((x ^^^ y).toNat : Int) := by
  rw [xor_nat32 _ _ x.toNat_lt y.toNat_lt, UInt32.toNat_xor]
theorem andU (x y : UInt32) : bits .and .u32 (x.toNat : Int) (y.toNat : Int) = ((x &&& y).toNat : Int) := by
  rw [and_nat32 _ _ x.toNat_lt y.toNat_lt, UInt32.toNat_and]
theorem orU (x y : UInt32) : bits .or .u32 (x.toNat : Int) (y.toNat : Int) = ((x ||| y).toNat : Int) := by
  rw [or_nat32 _ _ x.toNat_lt y.toNat_lt, UInt32.toNat_or]
theorem addU (x y : UInt32) : ((x.toNat : Int) + (y.toNat : Int)) % 4294967296 = ((x + y).toNat : Int) := by
  rw [UInt32.toNat_add]
  simp
theorem add5 (a b c d e : UInt32) : ((a.toNat : Int) + b.toNat + c.toNat + d.toNat + e.toNat) % 4294967296 = ((a + b + c + d + e).toNat : Int) := by
  simp only [UInt32.toNat_add]
  omega
theorem notX (e : UInt32) : bits .xor .u32 (if IntKind.u32.signed = true then -1 else IntKind.u32.max) (e.toNat : Int) = ((~~~e).toNat : Int) := by
  rw [show (if IntKind.u32.signed = true then -1 else IntKind.u32.max) = (((4294967295 : UInt32).toNat : Nat) : Int) from by decide, xorU]
  have : (4294967295 : UInt32) ^^^ e = ~~~e := by
    rw [← UInt32.toBitVec_inj]
    simp only [UInt32.toBitVec_xor, UInt32.toBitVec_not]
    rw [show (4294967295 : UInt32).toBitVec = BitVec.allOnes 32 from rfl, BitVec.allOnes_xor]
  rw [this]
theorem addW (x y : UInt32) : IntKind.u32.wrap ((x.toNat : Int) + (y.toNat : Int)) = ((x + y).toNat : Int) := by
  rw [wrapU, addU]
theorem cell_set_ne (w : World) (b i j : Nat) (v : Value) (h : i ≠ j) : (w.setCell ⟨b, i, none⟩ v).cell? ⟨b, j, none⟩ = w.cell? ⟨b, j, none⟩ :=
  World.cell?_setCell_other _ _ _ _ (by intro e; cases e; exact h rfl)
theorem ofNat_mod32 (i : Nat) (h : i < 32) : (UInt32.ofNat i).toNat % 32 = i := by
  rw [UInt32.toNat_ofNat']
  omega
theorem shrU (x : UInt32) (i : Nat) (h : i < 32) : (x.toNat : Int) / 2 ^ i = ((x >>> UInt32.ofNat i).toNat : Int) := by
  rw [UInt32.toNat_shiftRight, ofNat_mod32 i h, Nat.shiftRight_eq_div_pow]
  simp
theorem shlU (x : UInt32) (i : Nat) (h : i < 32) : (x.toNat : Int) * 2 ^ i % 4294967296 = ((x <<< UInt32.ofNat i).toNat : Int) := by
  rw [UInt32.toNat_shiftLeft, ofNat_mod32 i h, Nat.shiftLeft_eq]
  simp
theorem subU (x : UInt32) : ((4294967295 : Int) - (x.toNat : Int)) % 4294967296 = ((~~~x).toNat : Int) := by
  have := x.toNat_lt
  rw [UInt32.toNat_not]
  show _ = ((4294967296 - 1 - x.toNat : Nat) : Int)
  omega
theorem notU (x : UInt32) : (-(x.toNat : Int) - 1) % 4294967296 = ((~~~x).toNat : Int) := by
  have := x.toNat_lt
  rw [UInt32.toNat_not]
  show _ = ((4294967296 - 1 - x.toNat : Nat) : Int)
  omega
theorem and31 : ∀ i : Fin 32, bits .and .u64 (IntKind.u64.wrap (-(i.val : Int))) 31 = (((32 - i.val) % 32 : Nat) : Int) := by decide +kernel
/-- A word turned to the right. -/
def rotr (x : UInt32) (i : Nat) : UInt32 := (x >>> UInt32.ofNat i) ||| (x <<< UInt32.ofNat (32 - i))
theorem rotr_l (x : UInt32) (i : Nat) (h1 : 1 ≤ i) (h2 : i ≤ 31) : bits .or .u32 ((x.toNat : Int) * 2 ^ (32 - i) % 4294967296) ((x.toNat : Int) / 2 ^ (32 - (32 - i))) = ((rotr x i).toNat : Int) := by
  rw [shlU x _ (by omega), show 32 - (32 - i) = i by omega, shrU x i (by omega), orU, UInt32.or_comm]
  rfl
theorem rotr_r (x : UInt32) (i : Nat) (h1 : 1 ≤ i) (h2 : i ≤ 31) : bits .or .u32 ((x.toNat : Int) / 2 ^ i) ((x.toNat : Int) * 2 ^ (32 - i) % 4294967296) = ((rotr x i).toNat : Int) := by
  rw [shlU x _ (by omega), shrU x i (by omega), orU]
  rfl
theorem ret_int {k : IntKind} {a b : Int} (h : a = b) : Ending.returned (.int k a) = .returned (.int k b) := by rw [h]
set_option maxHeartbeats 400000 in
theorem rotl_any (x : UInt32) (i : Nat) (K : Int) (hK : K = -(i : Int)) (h1 : 1 ≤ i) (h2 : i ≤ 31) (w : World) :
    Calls Tryz.prog 347 #[.int .u32 (x.toNat : Int), .int .i64 K] w fun e w' => e = .returned (.int .u32 ((rotr x i).toNat : Int)) ∧ w' = w := by
  subst hK
  have ha := and31 ⟨i, by omega⟩
  simp only at ha
  have hm : (32 - i) % 32 = 32 - i := by omega
  rw [hm] at ha
  go_enter Tryz.func347, Tryz.ntmps347
  go_wp2
  go_ret
  exact ⟨ret_int (rotr_l x i h1 h2), rfl⟩
set_option maxHeartbeats 400000 in
theorem turn_any (x : UInt32) (i : Nat) (K : Int) (hK : K = (i : Int)) (h1 : 1 ≤ i) (h2 : i ≤ 31) (w : World) :
    Calls Tryz.prog 338 #[.int .u32 (x.toNat : Int), .int .i64 K] w fun e w' => e = .returned (.int .u32 ((rotr x i).toNat : Int)) ∧ ∃ n, w' = w.drewN n := by
  subst hK
  have e1 : (32 - (i : Int)).toNat = 32 - i := by omega
  have e2 : IntKind.i64.wrap (32 - (i : Int)) = 32 - i := by simp only [IntKind.wrap, IntKind.signed, IntKind.bits]; simp; omega
  go_enter Tryz.func338, Tryz.ntmps338
  go_wp2
  go_quiet (fail)
  go_wp2
  go_ret
  exact ⟨ret_int (rotr_r x i h1 h2), _, rfl⟩
def tri (x : UInt32) (i j k : Nat) : UInt32 := rotr x i ^^^ rotr x j ^^^ rotr x k
def shf (x : UInt32) (i j k : Nat) : UInt32 := rotr x i ^^^ rotr x j ^^^ (x >>> UInt32.ofNat k)
set_option maxHeartbeats 400000 in
theorem turned_any (x : UInt32) (i j k : Nat) (I J K : Int) (hI : I = i) (hJ : J = j) (hK : K = k) (i1 : 1 ≤ i) (i2 : i ≤ 31) (j1 : 1 ≤ j) (j2 : j ≤ 31) (k1 : 1 ≤ k) (k2 : k ≤ 31) (w : World) :
    Calls Tryz.prog 299 #[.int .u32 (x.toNat : Int), .int .i64 I, .int .i64 J, .int .i64 K] w fun e w' => e = .returned (.int .u32 ((tri x i j k).toNat : Int)) ∧ w' = w := by
  subst hI hJ hK
  go_enter Tryz.func299, Tryz.ntmps299
  go_wp2_with fail
  refine (rotl_any x i _ rfl i1 i2 _).mono ?_
  rintro e w1 ⟨rfl, rfl⟩
  go_wp2_with fail
  refine (rotl_any x j _ rfl j1 j2 _).mono ?_
  rintro e w2 ⟨rfl, rfl⟩
  go_wp2_with fail
  refine (rotl_any x k _ rfl k1 k2 _).mono ?_
  rintro e w3 ⟨rfl, rfl⟩
  go_wp2_with fail
  go_ret
  exact ⟨ret_int (by rw [xorU, xorU]; rfl), rfl⟩
set_option maxHeartbeats 400000 in
theorem shifted_any (x : UInt32) (i j k : Nat) (I J K : Int) (hI : I = i) (hJ : J = j) (hK : K = k) (i1 : 1 ≤ i) (i2 : i ≤ 31) (j1 : 1 ≤ j) (j2 : j ≤ 31) (k1 : 1 ≤ k) (k2 : k ≤ 31) (w : World) :
    Calls Tryz.prog 346 #[.int .u32 (x.toNat : Int), .int .i64 I, .int .i64 J, .int .i64 K] w fun e w' => e = .returned (.int .u32 ((shf x i j k).toNat : Int)) ∧ ∃ n, w' = w.drewN n := by
  subst hI hJ hK
  go_enter Tryz.func346, Tryz.ntmps346
  go_wp2
  go_quiet ((first | (go_at_call_of 347 (Value.int .i64 (-(i : Int))); exact Calls.quiet_of_same (rotl_any x i _ rfl i1 i2 _)) | (go_at_call_of 347 (Value.int .i64 (-(j : Int))); exact Calls.quiet_of_same (rotl_any x j _ rfl j1 j2 _))))
  go_wp2
  go_ret
  exact ⟨ret_int (by rw [shrU x k (by omega), xorU, xorU]; rfl), _, rfl⟩
end Go.Proofs.YtppooipamibhoaaGreatDoor
namespace Go.Proofs.YtppooipamibhoaaGreatDoor
open Go.RowKit
open Go.Deep

theorem hide {q : Prop} (h : q) : Hid q := h
/-- K0 .. K63. -/
def kL : List UInt32 := [1116352408, 1899447441, 3049323471, 3921009573, 961987163, 1508970993, 2453635748, 2870763221, 3624381080, 310598401, 607225278, 1426881987, 1925078388, 2162078206, 2614888103, 3248222580, 3835390401, 4022224774, 264347078, 604807628, 770255983, 1249150122, 1555081692, 1996064986, 2554220882, 2821834349, 2952996808, 3210313671, 3336571891, 3584528711, 113926993, 338241895, 666307205, 773529912, 1294757372, 1396182291, 1695183700, 1986661051, 2177026350, 2456956037, 2730485921, 2820302411, 3259730800, 3345764771, 3516065817, 3600352804, 4094571909, 275423344, 430227734, 506948616, 659060556, 883997877, 958139571, 1322822218, 1537002063, 1747873779, 1955562222, 2024104815, 2227730452, 2361852424, 2428436474, 2756734187, 3204031479, 3329325298]
theorem kL_len : kL.length = 64 := rfl
def kk (t : Nat) : UInt32 := kL.getD t 0
/-- The byte k of a text. -/
def by8 (b : List UInt8) (k : Nat) : Nat := (b.getD k 0).toNat
theorem by8_lt (b : List UInt8) (k : Nat) : by8 b k < 256 := (b.getD k 0).toNat_lt
/-- The word t of a block. -/
def word (b : List UInt8) (t : Nat) : UInt32 := UInt32.ofNat (by8 b (4 * t) * 16777216 + by8 b (4 * t + 1) * 65536 + by8 b (4 * t + 2) * 256 + by8 b (4 * t + 3))
/-- The word t of which k bytes have come. -/
def part (b : List UInt8) (t : Nat) : Nat → Nat
  | 0 => 0
  | k + 1 => part b t k * 256 + by8 b (4 * t + k)
theorem part_lt (b : List UInt8) (t k : Nat) : part b t k < 256 ^ k := by
  induction k with
  | zero => simp [part]
  | succ k ih =>
    have := by8_lt b (4 * t + k)
    rw [part, Nat.pow_succ]
    omega
theorem part4 (b : List UInt8) (t : Nat) : ((part b t 4 : Nat) : Int) = ((word b t).toNat : Int) := by
  have h0 := by8_lt b (4 * t)
  have h1 := by8_lt b (4 * t + 1)
  have h2 := by8_lt b (4 * t + 2)
  have h3 := by8_lt b (4 * t + 3)
  unfold word
  rw [UInt32.toNat_ofNat']
  simp only [part, Nat.add_zero]
  omega
def nextW (b : List UInt8) (n : Nat) (l : List UInt32) : UInt32 :=
  if n < 16 then word b n else shf (l.getD (n - 2) 0) 17 19 10 + l.getD (n - 7) 0 + shf (l.getD (n - 15) 0) 7 18 3 + l.getD (n - 16) 0
/-- The first n words of the schedule. -/
def sch (b : List UInt8) : Nat → List UInt32
  | 0 => []
  | n + 1 => sch b n ++ [nextW b n (sch b n)]
theorem sch_len (b : List UInt8) (n : Nat) : (sch b n).length = n := by
  induction n with
  | zero => rfl
  | succ n ih => simp [sch, ih]
/-- The word t of the schedule. -/
def ws (b : List UInt8) (t : Nat) : UInt32 := (sch b (t + 1)).getD t 0
theorem sch_at (b : List UInt8) (n t : Nat) (h : t < n) : (sch b n).getD t 0 = ws b t := by
  induction n with
  | zero => omega
  | succ n ih =>
    by_cases e : t = n
    · subst e; rfl
    · rw [sch, List.getD_eq_getElem?_getD, List.getElem?_append_left (by rw [sch_len]; omega), ← List.getD_eq_getElem?_getD]
      exact ih (by omega)
theorem ws_eq (b : List UInt8) (t : Nat) : ws b t = nextW b t (sch b t) := by
  unfold ws
  rw [sch, List.getD_eq_getElem?_getD, List.getElem?_append_right (by rw [sch_len]; omega), sch_len]
  simp
theorem ws_low (b : List UInt8) (t : Nat) (h : t < 16) : ws b t = word b t := by
  rw [ws_eq, nextW, if_pos h]
theorem ws_high (b : List UInt8) (t : Nat) (h : 16 ≤ t) : ws b t = shf (ws b (t - 2)) 17 19 10 + ws b (t - 7) + shf (ws b (t - 15)) 7 18 3 + ws b (t - 16) := by
  rw [ws_eq, nextW, if_neg (by omega), sch_at b t _ (by omega), sch_at b t _ (by omega), sch_at b t _ (by omega), sch_at b t _ (by omega)]
/-- A state. -/
structure St where
  a : UInt32
  b : UInt32
  c : UInt32
  d : UInt32
  e : UInt32
  f : UInt32
  g : UInt32
  h : UInt32
def tone (k w : UInt32) (s : St) : UInt32 := s.h + tri s.e 6 11 25 + ((s.e &&& s.f) ^^^ (~~~s.e &&& s.g)) + k + w
def ttwo (s : St) : UInt32 := tri s.a 2 13 22 + ((s.a &&& s.b) ^^^ (s.a &&& s.c) ^^^ (s.b &&& s.c))
def rnd (k w : UInt32) (s : St) : St := ⟨tone k w s + ttwo s, s.a, s.b, s.c, s.d + tone k w s, s.e, s.f, s.g⟩
def rnds (b : List UInt8) (s : St) : Nat → St
  | 0 => s
  | n + 1 => rnd (kk n) (ws b n) (rnds b s n)
def addS (x y : St) : St := ⟨x.a + y.a, x.b + y.b, x.c + y.c, x.d + y.d, x.e + y.e, x.f + y.f, x.g + y.g, x.h + y.h⟩
/-- The state behind a block. -/
def step (s : St) (b : List UInt8) : St := addS s (rnds b s 64)
def first : St := ⟨1779033703, 3144134277, 1013904242, 2773480762, 1359893119, 2600822924, 528734635, 1541459225⟩
def St.list (s : St) : List UInt32 := [s.a, s.b, s.c, s.d, s.e, s.f, s.g, s.h]
def St.at (s : St) (k : Nat) : UInt32 := s.list.getD k 0

/-! ### Cells -/
def cellsL (l : List UInt8) : List Value := l.map fun b => .int .u8 (b.toNat : Int)
theorem cellsL_app (a b : List UInt8) : cellsL (a ++ b) = cellsL a ++ cellsL b := by simp [cellsL]
theorem cellsL_len (a : List UInt8) : (cellsL a).length = a.length := by simp [cellsL]
/-- Bytes as cells. -/
def hc (l : List UInt8) : Array Value := (cellsL l).toArray
theorem hc_size (l : List UInt8) : (hc l).size = l.length := by simp [hc, cellsL]
theorem hc_one (l : List UInt8) : (hc l).all (·.oneCell') = true := by
  rw [Array.all_eq_true_iff_forall_mem]
  intro v hv
  simp only [hc, cellsL, List.mem_toArray, List.mem_map] at hv
  obtain ⟨b, _, rfl⟩ := hv
  rfl
theorem hc_at (h : List UInt8) (k : Nat) (hk : k < h.length) : (hc h)[k]? = some (.int .u8 (by8 h k : Int)) := by
  simp [hc, cellsL, by8, hk]
/-- Words as cells. -/
def uc (l : List UInt32) : Array Value := (l.map fun x => Value.int .u32 (x.toNat : Int)).toArray
theorem uc_size (l : List UInt32) : (uc l).size = l.length := by simp [uc]
theorem uc_one (l : List UInt32) : (uc l).all (·.oneCell') = true := by
  rw [Array.all_eq_true_iff_forall_mem]
  intro v hv
  simp only [uc, List.mem_toArray, List.mem_map] at hv
  obtain ⟨b, _, rfl⟩ := hv
  rfl
theorem uc_at (l : List UInt32) (k : Nat) (hk : k < l.length) : (uc l)[k]? = some (.int .u32 ((l.getD k 0).toNat : Int)) := by
  simp [uc, hk]
def zeros : List UInt8 := List.replicate 32 0
theorem zeros_len : zeros.length = 32 := by simp [zeros]
def zeros64 : List UInt8 := List.replicate 64 0
theorem zeros64_len : zeros64.length = 64 := by simp [zeros64]
def zw8 : List UInt32 := List.replicate 8 0
theorem zw8_len : zw8.length = 8 := by simp [zw8]
def zw64 : List UInt32 := List.replicate 64 0
theorem zw64_len : zw64.length = 64 := by simp [zw64]
theorem list_len (s : St) : s.list.length = 8 := rfl

/-! ### An array's type -/
structure Arr (t : TypeId) (n : Nat) (z : Array Value) : Prop where
  und : (∃ m e, Tryz.prog.underlying t = some (.array m e)) ∨ ∃ fs, Tryz.prog.underlying t = some (.struct fs)
  info : (Tryz.prog.info? t).map (·.size) = some n
  alloc : ∀ w, (Instr.alloc t true (.tuple #[])).run Tryz.prog w = .ok (.pointer (some ⟨w.heap.size, 0, none⟩)) (w.alloc (.cells z t))
  build : ∀ w, (Instr.build t #[]).run Tryz.prog w = .ok (.agg z) w
  zsize : z.size = n
theorem A25 : Arr 46 32 (hc zeros) := ⟨.inl ⟨_, _, Tryz.underlying46⟩, by kernel_rfl, fun w => by kernel_rfl, fun w => by kernel_rfl, by rw [hc_size, zeros_len]⟩
theorem A24 : Arr 45 32 (hc zeros) := ⟨.inl ⟨_, _, Tryz.underlying45⟩, by kernel_rfl, fun w => by kernel_rfl, fun w => by kernel_rfl, by rw [hc_size, zeros_len]⟩
theorem A35 : Arr 362 64 (hc zeros64) := ⟨.inl ⟨_, _, Tryz.underlying362⟩, by kernel_rfl, fun w => by kernel_rfl, fun w => by kernel_rfl, by rw [hc_size, zeros64_len]⟩
theorem A30 : Arr 359 8 (uc zw8) := ⟨.inl ⟨_, _, Tryz.underlying359⟩, by kernel_rfl, fun w => by kernel_rfl, fun w => by kernel_rfl, by rw [uc_size, zw8_len]⟩
theorem A31 : Arr 360 8 (uc zw8) := ⟨.inl ⟨_, _, Tryz.underlying360⟩, by kernel_rfl, fun w => by kernel_rfl, fun w => by kernel_rfl, by rw [uc_size, zw8_len]⟩
theorem A66 : Arr 423 64 (uc zw64) := ⟨.inl ⟨_, _, Tryz.underlying423⟩, by kernel_rfl, fun w => by kernel_rfl, fun w => by kernel_rfl, by rw [uc_size, zw64_len]⟩
section
variable {t : TypeId} {n : Nat} {z : Array Value}
variable {w : World} {ops : Array Oper} {rest : List Oper} {o : Oper} {a : Act} {Q : Exit → Act → World → Prop}
theorem wpList_allocA (A : Arr t n z) (hgd : o.guard = none) (ho : o.op = .alloc t)
    (h : wpList Tryz.prog ops Q rest (a.put o.dst (.pointer (some ⟨w.heap.size, 0, none⟩))) (w.alloc (.cells z t))) : wpList Tryz.prog ops Q (o :: rest) a w := by
  refine wpList_plain hgd fun K hK => ?_
  unfold Oper.wp execOp
  simp only [ho, A.alloc, Sem.run_bind, Result.andThen_ok, Sem.run_pure]
  exact hK _ _ h
theorem wpList_buildA (A : Arr t n z) (hgd : o.guard = none) (ho : o.op = .build t #[])
    (h : wpList Tryz.prog ops Q rest (a.put o.dst (.agg z)) w) : wpList Tryz.prog ops Q (o :: rest) a w := by
  refine wpList_plain hgd fun K hK => ?_
  unfold Oper.wp execOp
  simp only [ho, List.map_toArray, List.map_nil, A.build, Sem.run_bind, Result.andThen_ok, Sem.run_pure]
  exact hK _ _ h
theorem run_boxA (w : World) (t : TypeId) (c : Array Value) : (Instr.box t (.agg c)).run Tryz.prog w = .ok (.pointer (some ⟨w.heap.size, 0, none⟩)) (w.alloc (.cells c t)) := rfl
theorem wpList_boxA (hgd : o.guard = none) (x : Operand) (ho : o.op = .box t x) (c : Array Value) (hx : a.eval x = .agg c)
    (h : wpList Tryz.prog ops Q rest (a.put o.dst (.pointer (some ⟨w.heap.size, 0, none⟩))) (w.alloc (.cells c t))) : wpList Tryz.prog ops Q (o :: rest) a w := by
  refine wpList_plain hgd fun K hK => ?_
  unfold Oper.wp execOp
  simp only [ho, hx, run_boxA, Sem.run_bind, Result.andThen_ok, Sem.run_pure]
  exact hK _ _ h
theorem wpList_loadA (A : Arr t n z) (hgd : o.guard = none) (x : Operand) (ho : o.op = .load t x) (g : Nat) (hx : a.eval x = .pointer (some ⟨g, 0, none⟩)) (c : Array Value) (hn : c.size = n) (t' : TypeId) (hg : w.heap[g]? = some (.cells c t' (0, 0)))
    (h : wpList Tryz.prog ops Q rest (a.put o.dst (.agg c)) w) : wpList Tryz.prog ops Q (o :: rest) a w := by
  rcases A.und with ⟨m, e, hd⟩ | ⟨fs, hd⟩
  · exact wpList_load_row hgd t x ho g hx t' c (0, 0) _ hg hd rfl (by rw [A.info, hn]) h
  · exact wpList_load_row hgd t x ho g hx t' c (0, 0) _ hg hd rfl (by rw [A.info, hn]) h
theorem wpList_storeA (A : Arr t n z) (hgd : o.guard = none) (x y : Operand) (ho : o.op = .store t x y) (g : Nat) (c : Array Value) (hn : c.size = n) (h1 : c.all (·.oneCell') = true) (hx : a.eval x = .pointer (some ⟨g, 0, none⟩)) (hy : a.eval y = .agg c)
    (c0 : Array Value) (hn0 : c0.size = n) (t' : TypeId) (hg : w.heap[g]? = some (.cells c0 t' (0, 0)))
    (h : wpList Tryz.prog ops Q rest (a.put o.dst undef) (w.setRow g c)) : wpList Tryz.prog ops Q (o :: rest) a w :=
  wpList_store_row hgd t x y ho g c hx hy t' c0 hg (by rw [A.info, hn]) (by rw [hn, hn0]) h1 h
theorem wpList_store_newA (A : Arr t n z) (hgd : o.guard = none) (x y : Operand) (ho : o.op = .store t x y) (g : Nat) (hgw : g = w.heap.size) (c : Array Value) (hn : c.size = n) (h1 : c.all (·.oneCell') = true) (hx : a.eval x = .pointer (some ⟨g, 0, none⟩)) (hy : a.eval y = .agg c)
    (h : wpList Tryz.prog ops Q rest (a.put o.dst undef) (w.alloc (.cells c t))) : wpList Tryz.prog ops Q (o :: rest) a (w.alloc (.cells z t)) := by
  subst hgw
  refine wpList_storeA A hgd x y ho w.heap.size c hn h1 hx hy z A.zsize t (heap_alloc_last w _) ?_
  rw [World.setRow_alloc_new]
  exact h
theorem resA (A : Arr t n z) {fn : Func} {p : Tmp} (hf : fn.results = #[.cell p t]) (tmps : Array Value) (w : World) (g : Nat) (t' : TypeId) (c : Array Value) (hn : c.size = n)
    (hp : tmps.getD p undef = .pointer (some ⟨g, 0, none⟩)) (hg : w.heap[g]? = some (.cells c t' (0, 0))) : (results fn tmps).run Tryz.prog w = .ok (.agg c) w := by
  rcases A.und with ⟨m, e, hd⟩ | ⟨fs, hd⟩
  · exact results_cell_row hf tmps w g t' c (0, 0) _ hp hg hd rfl (by rw [A.info, hn])
  · exact results_cell_row hf tmps w g t' c (0, 0) _ hp hg hd rfl (by rw [A.info, hn])
end
theorem below_setRow {B : Nat} {a w : World} (h : Below B a w) {g : Nat} (hg : B ≤ g) (cs : Array Value) : Below B a (w.setRow g cs) :=
  h.trans ⟨rfl, rfl, rfl, by simp, fun k hk => setRow_other w g k _ (by omega)⟩
theorem below_drewN {B : Nat} {a w : World} (h : Below B a w) (n : Nat) : Below B a (w.drewN n) := ⟨h.os, h.tape, h.output, h.size, h.block⟩
theorem lt_heap {w : World} {g : Nat} {A : Obj} (h : w.heap[g]? = some A) : g < w.heap.size := by
  rcases Nat.lt_or_ge g w.heap.size with h' | h'
  · exact h'
  · rw [Array.getElem?_eq_none h'] at h
    cases h
/-- A row of an array: its cells by their places. -/
theorem row_of {w : World} {g : Nat} {c : Array Value} {t : TypeId} {n : Nat} (hn : c.size = n) (hg : w.heap[g]? = some (.cells c t (0, 0))) {f : Nat → Value} (hf : ∀ i, i < n → c[i]? = some (f i)) : w.rowIs g t n f :=
  ⟨c, hg, hn, hf⟩
theorem of_row {w : World} {g : Nat} {c : Array Value} {t : TypeId} {n : Nat} (hn : c.size = n) {f : Nat → Value} (hr : w.rowIs g t n f) (hf : ∀ i, i < n → c[i]? = some (f i)) : w.heap[g]? = some (.cells c t (0, 0)) := by
  obtain ⟨c', hg, hn', hcs⟩ := hr
  rw [hg]
  have : c' = c := by
    apply Array.ext
    · rw [hn', hn]
    · intro i h1 h2
      have e := hcs i (by omega)
      rw [← hf i (by omega), Array.getElem?_eq_getElem h1, Array.getElem?_eq_getElem h2] at e
      exact Option.some.inj e
  rw [this]
end Go.Proofs.YtppooipamibhoaaGreatDoor
