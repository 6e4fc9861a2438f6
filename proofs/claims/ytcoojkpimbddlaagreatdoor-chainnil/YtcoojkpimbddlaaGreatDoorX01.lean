/- Words of 32 bits, and the small functions on them: RotateLeft32, turned, shifted, turn. The sum as mathematics: the schedule, the rounds, a step; and arrays that lie in blocks of their own. The contract of sha.spread: the schedule of a block. The contract of sha.Step: the state behind a block. -/
import Derived.Test.YtcoojkpimbddlaaGreatDoorRows
import Derived.WalkKit
import Derived.WalkSpells
import Derived.WalkLawsBesides
import Derived.Deep.QuietTactic
import Derived.BigQuiet
import Derived.BigRegion
import Derived.Stop.BytesEq
import Derived.Laws.Tables
import Derived.Lib.LazyBuf
import Derived.Lib.AppendStr
import Derived.Deep.AppendSrc
import Derived.Deep.RegionWith
import Derived.Deep.RegionLaw
import Derived.Deep.RegionHeld3
import Derived.Deep.OwnRows
import Derived.Deep.WholeRow
import Derived.Deep.Slices
import Derived.Deep.CutRange
import Derived.Deep.DeepAppendRoom
namespace Go.Proofs.YtcoojkpimbddlaaGreatDoor
open Go.RowKit

theorem wrapU (x : Int) : IntKind.u32.wrap x = x % 4294967296 := by
  simp [IntKind.wrap, IntKind.signed, IntKind.bits]
theorem wrapI (x : Int) (h0 : -9223372036854775808 ≤ x) (h1 : x < 9223372036854775808) : IntKind.i64.wrap x = x := by
  simp only [IntKind.wrap, IntKind.signed, IntKind.bits]
  simp
  omega
theorem ofInt32 (a : Nat) (ha : a < 4294967296) : (BitVec.ofInt 32 (a : Int)).toNat = a := by
  rw [BitVec.ofInt_natCast, BitVec.toNat_ofNat]; exact Nat.mod_eq_of_lt (by omega)
theorem xor_nat32 (a b : Nat) (ha : a < 4294967296) (hb : b < 4294967296) : bits .xor .u32 (a : Int) (b : Int) = ((a ^^^ b : Nat) : Int) := by
  have hx : a ^^^ b < 2 ^ 32 := Nat.xor_lt_two_pow (by omega) (by omega)
  show IntKind.u32.wrap ((BitVec.ofInt 32 (a : Int) ^^^ BitVec.ofInt 32 (b : Int)).toNat : Int) = _
  rw [BitVec.toNat_xor, ofInt32 a ha, ofInt32 b hb, wrapU]
  omega
theorem and_nat32 (a b : Nat) (ha : a < 4294967296) (hb : b < 4294967296) : bits .and .u32 (a : Int) (b : Int) = ((a &&& b : Nat) : Int) := by
  have hx : a &&& b < 2 ^ 32 := Nat.and_lt_two_pow _ (by omega)
  show IntKind.u32.wrap ((BitVec.ofInt 32 (a : Int) &&& BitVec.ofInt 32 (b : Int)).toNat : Int) = _
  rw [BitVec.toNat_and, ofInt32 a ha, ofInt32 b hb, wrapU]
  omega
theorem or_nat32 (a b : Nat) (ha : a < 4294967296) (hb : b < 4294967296) : bits .or .u32 (a : Int) (b : Int) = ((a ||| b : Nat) : Int) := by
  have hx : a ||| b < 2 ^ 32 := Nat.or_lt_two_pow (by omega) (by omega)
  show IntKind.u32.wrap ((BitVec.ofInt 32 (a : Int) ||| BitVec.ofInt 32 (b : Int)).toNat : Int) = _
  rw [BitVec.toNat_or, ofInt32 a ha, ofInt32 b hb, wrapU]
  omega
theorem xorU (x y : UInt32) : bits .xor .u32 (x.toNat : Int) (y.toNat : Int) = ((x ^^^ y).toNat : Int) := by
  rw [xor_nat32 _ _ x.toNat_lt y.toNat_lt, UInt32.toNat_xor]
theorem andU (x y : UInt32) : bits .and .u32 (x.toNat : Int) (y.toNat : Int) = ((x &&& y).toNat : Int) := by
  rw [and_nat32 _ _ x.toNat_lt y.toNat_lt, UInt32.toNat_and]
theorem orU (x y : UInt32) : bits .or .u32 (x.toNat : Int) (y.toNat : Int) = ((x ||| y).toNat : Int) := by
  rw [or_nat32 _ _ x.toNat_lt y.toNat_lt, UInt32.toNat_or]
theorem addU (x y : UInt32) : ((x.toNat : Int) + (y.toNat : Int)) % 4294967296 = ((x + y).toNat : Int) := by
  rw [UInt32.toNat_add]
  simp
theorem add5 (a b c d e : UInt32) : ((a.toNat : Int) + b.toNat + c.toNat + d.toNat + e.toNat) % 4294967296 = ((a + b + c + d + e).toNat : Int) := by
  simp only [UInt32.toNat_add]
  omega
theorem notX (e : UInt32) : bits .xor .u32 (if IntKind.u32.signed = true then -1 else IntKind.u32.max) (e.toNat : Int) = ((~~~e).toNat : Int) := by
  rw [show (if IntKind.u32.signed = true then -1 else IntKind.u32.max) = (((4294967295 : UInt32).toNat : Nat) : Int) from by decide, xorU]
  have : (4294967295 : UInt32) ^^^ e = ~~~e := by
    rw [← UInt32.toBitVec_inj]
    simp only [UInt32.toBitVec_xor, UInt32.toBitVec_not]
    rw [show (4294967295 : UInt32).toBitVec = BitVec.allOnes 32 from rfl, BitVec.allOnes_xor]
  rw [this]
theorem cell_set_ne (w : World) (b i j : Nat) (v : Value) (h : i ≠ j) : (w.setCell ⟨b, i, none⟩ v).cell? ⟨b, j, none⟩ = w.cell? ⟨b, j, none⟩ :=
  World.cell?_setCell_other _ _ _ _ (by intro e; cases e; exact h rfl)
theorem ofNat_mod32 (i : Nat) (h : i < 32) : (UInt32.ofNat i).toNat % 32 = i := by
  rw [UInt32.toNat_ofNat']
  omega
theorem shrU (x : UInt32) (i : Nat) (h : i < 32) : (x.toNat : Int) / 2 ^ i = ((x >>> UInt32.ofNat i).toNat : Int) := by
  rw [UInt32.toNat_shiftRight, ofNat_mod32 i h, Nat.shiftRight_eq_div_pow]
  simp
theorem shlU (x : UInt32) (i : Nat) (h : i < 32) : (x.toNat : Int) * 2 ^ i % 4294967296 = ((x <<< UInt32.ofNat i).toNat : Int) := by
  rw [UInt32.toNat_shiftLeft, ofNat_mod32 i h, Nat.shiftLeft_eq]
  simp
theorem and31 : ∀ i : Fin 32, bits .and .u64 (IntKind.u64.wrap (-(i.val : Int))) 31 = (((32 - i.val) % 32 : Nat) : Int) := by decide +kernel
def rotr (x : UInt32) (i : Nat) : UInt32 := (x >>> UInt32.ofNat i) ||| (x <<< UInt32.ofNat (32 - i))
theorem rotr_l (x : UInt32) (i : Nat) (h1 : 1 ≤ i) (h2 : i ≤ 31) : bits .or .u32 ((x.toNat : Int) * 2 ^ (32 - i) % 4294967296) ((x.toNat : Int) / 2 ^ (32 - (32 - i))) = ((rotr x i).toNat : Int) := by
  rw [shlU x _ (by omega), show 32 - (32 - i) = i by omega, shrU x i (by omega), orU, UInt32.or_comm]
  rfl
theorem ret_int {k : IntKind} {a b : Int} (h : a = b) : Ending.returned (.int k a) = .returned (.int k b) := by rw [h]
set_option maxHeartbeats 400000 in
theorem rotl_any (x : UInt32) (i : Nat) (K : Int) (hK : K = -(i : Int)) (h1 : 1 ≤ i) (h2 : i ≤ 31) (w : World) :
    Calls Tryz.prog 297 #[.int .u32 (x.toNat : Int), .int .i64 K] w fun e w' => e = .returned (.int .u32 ((rotr x i).toNat : Int)) ∧ w' = w := by
  subst hK
  have ha := and31 ⟨i, by omega⟩
  simp only at ha
  have hm : (32 - i) % 32 = 32 - i := by omega
  rw [hm] at ha
  go_enter Tryz.func297, Tryz.ntmps297
  go_wp2
  go_ret
  exact ⟨ret_int (rotr_l x i h1 h2), rfl⟩
set_option maxHeartbeats 400000 in
def tri (x : UInt32) (i j k : Nat) : UInt32 := rotr x i ^^^ rotr x j ^^^ rotr x k
def shf (x : UInt32) (i j k : Nat) : UInt32 := rotr x i ^^^ rotr x j ^^^ (x >>> UInt32.ofNat k)
set_option maxHeartbeats 400000 in
theorem turned_any (x : UInt32) (i j k : Nat) (I J K : Int) (hI : I = i) (hJ : J = j) (hK : K = k) (i1 : 1 ≤ i) (i2 : i ≤ 31) (j1 : 1 ≤ j) (j2 : j ≤ 31) (k1 : 1 ≤ k) (k2 : k ≤ 31) (w : World) :
    Calls Tryz.prog 247 #[.int .u32 (x.toNat : Int), .int .i64 I, .int .i64 J, .int .i64 K] w fun e w' => e = .returned (.int .u32 ((tri x i j k).toNat : Int)) ∧ w' = w := by
  subst hI hJ hK
  go_enter Tryz.func247, Tryz.ntmps247
  go_wp2_with fail
  refine (rotl_any x i _ rfl i1 i2 _).mono ?_
  rintro e w1 ⟨rfl, rfl⟩
  go_wp2_with fail
  refine (rotl_any x j _ rfl j1 j2 _).mono ?_
  rintro e w2 ⟨rfl, rfl⟩
  go_wp2_with fail
  refine (rotl_any x k _ rfl k1 k2 _).mono ?_
  rintro e w3 ⟨rfl, rfl⟩
  go_wp2_with fail
  go_ret
  exact ⟨ret_int (by rw [xorU, xorU]; rfl), rfl⟩
set_option maxHeartbeats 400000 in
theorem shifted_any (x : UInt32) (i j k : Nat) (I J K : Int) (hI : I = i) (hJ : J = j) (hK : K = k) (i1 : 1 ≤ i) (i2 : i ≤ 31) (j1 : 1 ≤ j) (j2 : j ≤ 31) (k1 : 1 ≤ k) (k2 : k ≤ 31) (w : World) :
    Calls Tryz.prog 296 #[.int .u32 (x.toNat : Int), .int .i64 I, .int .i64 J, .int .i64 K] w fun e w' => e = .returned (.int .u32 ((shf x i j k).toNat : Int)) ∧ ∃ n, w' = w.drewN n := by
  subst hI hJ hK
  go_enter Tryz.func296, Tryz.ntmps296
  go_wp2
  go_quiet ((first | (go_at_call_of 297 (Value.int .i64 (-(i : Int))); exact Calls.quiet_of_same (rotl_any x i _ rfl i1 i2 _)) | (go_at_call_of 297 (Value.int .i64 (-(j : Int))); exact Calls.quiet_of_same (rotl_any x j _ rfl j1 j2 _))))
  go_wp2
  go_ret
  exact ⟨ret_int (by rw [shrU x k (by omega), xorU, xorU]; rfl), _, rfl⟩
end Go.Proofs.YtcoojkpimbddlaaGreatDoor
namespace Go.Proofs.YtcoojkpimbddlaaGreatDoor
open Go.RowKit
open Go.Deep

theorem hide {q : Prop} (h : q) : Hid q := h
def kL : List UInt32 := [1116352408, 1899447441, 3049323471, 3921009573, 961987163, 1508970993, 2453635748, 2870763221, 3624381080, 310598401, 607225278, 1426881987, 1925078388, 2162078206, 2614888103, 3248222580, 3835390401, 4022224774, 264347078, 604807628, 770255983, 1249150122, 1555081692, 1996064986, 2554220882, 2821834349, 2952996808, 3210313671, 3336571891, 3584528711, 113926993, 338241895, 666307205, 773529912, 1294757372, 1396182291, 1695183700, 1986661051, 2177026350, 2456956037, 2730485921, 2820302411, 3259730800, 3345764771, 3516065817, 3600352804, 4094571909, 275423344, 430227734, 506948616, 659060556, 883997877, 958139571, 1322822218, 1537002063, 1747873779, 1955562222, 2024104815, 2227730452, 2361852424, 2428436474, 2756734187, 3204031479, 3329325298]
theorem kL_len : kL.length = 64 := rfl
def kk (t : Nat) : UInt32 := kL.getD t 0
def by8 (b : List UInt8) (k : Nat) : Nat := (b.getD k 0).toNat
theorem by8_lt (b : List UInt8) (k : Nat) : by8 b k < 256 := (b.getD k 0).toNat_lt
def word (b : List UInt8) (t : Nat) : UInt32 := UInt32.ofNat (by8 b (4 * t) * 16777216 + by8 b (4 * t + 1) * 65536 + by8 b (4 * t + 2) * 256 + by8 b (4 * t + 3))
def part (b : List UInt8) (t : Nat) : Nat → Nat
  | 0 => 0
  | k + 1 => part b t k * 256 + by8 b (4 * t + k)
theorem part_lt (b : List UInt8) (t k : Nat) : part b t k < 256 ^ k := by
  induction k with
  | zero => simp [part]
  | succ k ih =>
    have := by8_lt b (4 * t + k)
    rw [part, Nat.pow_succ]
    omega
theorem part4 (b : List UInt8) (t : Nat) : ((part b t 4 : Nat) : Int) = ((word b t).toNat : Int) := by
  have h0 := by8_lt b (4 * t)
  have h1 := by8_lt b (4 * t + 1)
  have h2 := by8_lt b (4 * t + 2)
  have h3 := by8_lt b (4 * t + 3)
  unfold word
  rw [UInt32.toNat_ofNat']
  simp only [part, Nat.add_zero]
  omega
def nextW (b : List UInt8) (n : Nat) (l : List UInt32) : UInt32 :=
  if n < 16 then word b n else shf (l.getD (n - 2) 0) 17 19 10 + l.getD (n - 7) 0 + shf (l.getD (n - 15) 0) 7 18 3 + l.getD (n - 16) 0
def sch (b : List UInt8) : Nat → List UInt32
  | 0 => []
  | n + 1 => sch b n ++ [nextW b n (sch b n)]
theorem sch_len (b : List UInt8) (n : Nat) : (sch b n).length = n := by
  induction n with
  | zero => rfl
  | succ n ih => simp [sch, ih]
def ws (b : List UInt8) (t : Nat) : UInt32 := (sch b (t + 1)).getD t 0
theorem sch_at (b : List UInt8) (n t : Nat) (h : t < n) : (sch b n).getD t 0 = ws b t := by
  induction n with
  | zero => omega
  | succ n ih =>
    by_cases e : t = n
    · subst e; rfl
    · rw [sch, List.getD_eq_getElem?_getD, List.getElem?_append_left (by rw [sch_len]; omega), ← List.getD_eq_getElem?_getD]
      exact ih (by omega)
theorem ws_eq (b : List UInt8) (t : Nat) : ws b t = nextW b t (sch b t) := by
  unfold ws
  rw [sch, List.getD_eq_getElem?_getD, List.getElem?_append_right (by rw [sch_len]; omega), sch_len]
  simp
theorem ws_low (b : List UInt8) (t : Nat) (h : t < 16) : ws b t = word b t := by
  rw [ws_eq, nextW, if_pos h]
theorem ws_high (b : List UInt8) (t : Nat) (h : 16 ≤ t) : ws b t = shf (ws b (t - 2)) 17 19 10 + ws b (t - 7) + shf (ws b (t - 15)) 7 18 3 + ws b (t - 16) := by
  rw [ws_eq, nextW, if_neg (by omega), sch_at b t _ (by omega), sch_at b t _ (by omega), sch_at b t _ (by omega), sch_at b t _ (by omega)]
structure St where
  a : UInt32
  b : UInt32
  c : UInt32
  d : UInt32
  e : UInt32
  f : UInt32
  g : UInt32
  h : UInt32
def tone (k w : UInt32) (s : St) : UInt32 := s.h + tri s.e 6 11 25 + ((s.e &&& s.f) ^^^ (~~~s.e &&& s.g)) + k + w
def ttwo (s : St) : UInt32 := tri s.a 2 13 22 + ((s.a &&& s.b) ^^^ (s.a &&& s.c) ^^^ (s.b &&& s.c))
def rnd (k w : UInt32) (s : St) : St := ⟨tone k w s + ttwo s, s.a, s.b, s.c, s.d + tone k w s, s.e, s.f, s.g⟩
def rnds (b : List UInt8) (s : St) : Nat → St
  | 0 => s
  | n + 1 => rnd (kk n) (ws b n) (rnds b s n)
def addS (x y : St) : St := ⟨x.a + y.a, x.b + y.b, x.c + y.c, x.d + y.d, x.e + y.e, x.f + y.f, x.g + y.g, x.h + y.h⟩
def step (s : St) (b : List UInt8) : St := addS s (rnds b s 64)
def first : St := ⟨1779033703, 3144134277, 1013904242, 2773480762, 1359893119, 2600822924, 528734635, 1541459225⟩
def St.list (s : St) : List UInt32 := [s.a, s.b, s.c, s.d, s.e, s.f, s.g, s.h]
def St.at (s : St) (k : Nat) : UInt32 := s.list.getD k 0

/-! ### Cells -/
def cellsL (l : List UInt8) : List Value := l.map fun b => .int .u8 (b.toNat : Int)
theorem cellsL_app (a b : List UInt8) : cellsL (a ++ b) = cellsL a ++ cellsL b := by simp [cellsL]
theorem cellsL_len (a : List UInt8) : (cellsL a).length = a.length := by simp [cellsL]
def hc (l : List UInt8) : Array Value := (cellsL l).toArray
theorem hc_size (l : List UInt8) : (hc l).size = l.length := by simp [hc, cellsL]
theorem hc_one (l : List UInt8) : (hc l).all (·.oneCell') = true := by
  rw [Array.all_eq_true_iff_forall_mem]
  intro v hv
  simp only [hc, cellsL, List.mem_toArray, List.mem_map] at hv
  obtain ⟨b, _, rfl⟩ := hv
  rfl
theorem hc_at (h : List UInt8) (k : Nat) (hk : k < h.length) : (hc h)[k]? = some (.int .u8 (by8 h k : Int)) := by
  simp [hc, cellsL, by8, hk]
def uc (l : List UInt32) : Array Value := (l.map fun x => Value.int .u32 (x.toNat : Int)).toArray
theorem uc_size (l : List UInt32) : (uc l).size = l.length := by simp [uc]
theorem uc_one (l : List UInt32) : (uc l).all (·.oneCell') = true := by
  rw [Array.all_eq_true_iff_forall_mem]
  intro v hv
  simp only [uc, List.mem_toArray, List.mem_map] at hv
  obtain ⟨b, _, rfl⟩ := hv
  rfl
theorem uc_at (l : List UInt32) (k : Nat) (hk : k < l.length) : (uc l)[k]? = some (.int .u32 ((l.getD k 0).toNat : Int)) := by
  simp [uc, hk]
def zeros : List UInt8 := List.replicate 32 0
theorem zeros_len : zeros.length = 32 := by simp [zeros]
def zeros64 : List UInt8 := List.replicate 64 0
theorem zeros64_len : zeros64.length = 64 := by simp [zeros64]
def zw8 : List UInt32 := List.replicate 8 0
theorem zw8_len : zw8.length = 8 := by simp [zw8]
def zw64 : List UInt32 := List.replicate 64 0
theorem zw64_len : zw64.length = 64 := by simp [zw64]
theorem list_len (s : St) : s.list.length = 8 := rfl

/-! ### An array's type -/
structure Arr (t : TypeId) (n : Nat) (z : Array Value) : Prop where
  und : (∃ m e, Tryz.prog.underlying t = some (.array m e)) ∨ ∃ fs, Tryz.prog.underlying t = some (.struct fs)
  info : (Tryz.prog.info? t).map (·.size) = some n
  alloc : ∀ w, (Instr.alloc t true (.tuple #[])).run Tryz.prog w = .ok (.pointer (some ⟨w.heap.size, 0, none⟩)) (w.alloc (.cells z t))
  build : ∀ w, (Instr.build t #[]).run Tryz.prog w = .ok (.agg z) w
  zsize : z.size = n
theorem A25 : Arr 46 32 (hc zeros) := ⟨.inl ⟨_, _, Tryz.underlying46⟩, by kernel_rfl, fun w => by kernel_rfl, fun w => by kernel_rfl, by rw [hc_size, zeros_len]⟩
theorem A35 : Arr 308 64 (hc zeros64) := ⟨.inl ⟨_, _, Tryz.underlying308⟩, by kernel_rfl, fun w => by kernel_rfl, fun w => by kernel_rfl, by rw [hc_size, zeros64_len]⟩
theorem A31 : Arr 306 8 (uc zw8) := ⟨.inl ⟨_, _, Tryz.underlying306⟩, by kernel_rfl, fun w => by kernel_rfl, fun w => by kernel_rfl, by rw [uc_size, zw8_len]⟩
theorem A66 : Arr 360 64 (uc zw64) := ⟨.inl ⟨_, _, Tryz.underlying360⟩, by kernel_rfl, fun w => by kernel_rfl, fun w => by kernel_rfl, by rw [uc_size, zw64_len]⟩
section
variable {t : TypeId} {n : Nat} {z : Array Value}
variable {w : World} {ops : Array Oper} {rest : List Oper} {o : Oper} {a : Act} {Q : Exit → Act → World → Prop}
theorem wpList_allocA (A : Arr t n z) (hgd : o.guard = none) (ho : o.op = .alloc t)
    (h : wpList Tryz.prog ops Q rest (a.put o.dst (.pointer (some ⟨w.heap.size, 0, none⟩))) (w.alloc (.cells z t))) : wpList Tryz.prog ops Q (o :: rest) a w := by
  refine wpList_plain hgd fun K hK => ?_
  unfold Oper.wp execOp
  simp only [ho, A.alloc, Sem.run_bind, Result.andThen_ok, Sem.run_pure]
  exact hK _ _ h
theorem wpList_buildA (A : Arr t n z) (hgd : o.guard = none) (ho : o.op = .build t #[])
    (h : wpList Tryz.prog ops Q rest (a.put o.dst (.agg z)) w) : wpList Tryz.prog ops Q (o :: rest) a w := by
  refine wpList_plain hgd fun K hK => ?_
  unfold Oper.wp execOp
  simp only [ho, List.map_toArray, List.map_nil, A.build, Sem.run_bind, Result.andThen_ok, Sem.run_pure]
  exact hK _ _ h
theorem run_boxA (w : World) (t : TypeId) (c : Array Value) : (Instr.box t (.agg c)).run Tryz.prog w = .ok (.pointer (some ⟨w.heap.size, 0, none⟩)) (w.alloc (.cells c t)) := rfl
theorem wpList_boxA (hgd : o.guard = none) (x : Operand) (ho : o.op = .box t x) (c : Array Value) (hx : a.eval x = .agg c)
    (h : wpList Tryz.prog ops Q rest (a.put o.dst (.pointer (some ⟨w.heap.size, 0, none⟩))) (w.alloc (.cells c t))) : wpList Tryz.prog ops Q (o :: rest) a w := by
  refine wpList_plain hgd fun K hK => ?_
  unfold Oper.wp execOp
  simp only [ho, hx, run_boxA, Sem.run_bind, Result.andThen_ok, Sem.run_pure]
  exact hK _ _ h
theorem wpList_loadA (A : Arr t n z) (hgd : o.guard = none) (x : Operand) (ho : o.op = .load t x) (g : Nat) (hx : a.eval x = .pointer (some ⟨g, 0, none⟩)) (c : Array Value) (hn : c.size = n) (t' : TypeId) (hg : w.heap[g]? = some (.cells c t' (0, 0)))
    (h : wpList Tryz.prog ops Q rest (a.put o.dst (.agg c)) w) : wpList Tryz.prog ops Q (o :: rest) a w := by
  rcases A.und with ⟨m, e, hd⟩ | ⟨fs, hd⟩
  · exact wpList_load_row hgd t x ho g hx t' c (0, 0) _ hg hd rfl (by rw [A.info, hn]) h
  · exact wpList_load_row hgd t x ho g hx t' c (0, 0) _ hg hd rfl (by rw [A.info, hn]) h
theorem wpList_storeA (A : Arr t n z) (hgd : o.guard = none) (x y : Operand) (ho : o.op = .store t x y) (g : Nat) (c : Array Value) (hn : c.size = n) (h1 : c.all (·.oneCell') = true) (hx : a.eval x = .pointer (some ⟨g, 0, none⟩)) (hy : a.eval y = .agg c)
    (c0 : Array Value) (hn0 : c0.size = n) (t' : TypeId) (hg : w.heap[g]? = some (.cells c0 t' (0, 0)))
    (h : wpList Tryz.prog ops Q rest (a.put o.dst undef) (w.setRow g c)) : wpList Tryz.prog ops Q (o :: rest) a w :=
  wpList_store_row hgd t x y ho g c hx hy t' c0 hg (by rw [A.info, hn]) (by rw [hn, hn0]) h1 h
theorem wpList_store_newA (A : Arr t n z) (hgd : o.guard = none) (x y : Operand) (ho : o.op = .store t x y) (g : Nat) (hgw : g = w.heap.size) (c : Array Value) (hn : c.size = n) (h1 : c.all (·.oneCell') = true) (hx : a.eval x = .pointer (some ⟨g, 0, none⟩)) (hy : a.eval y = .agg c)
    (h : wpList Tryz.prog ops Q rest (a.put o.dst undef) (w.alloc (.cells c t))) : wpList Tryz.prog ops Q (o :: rest) a (w.alloc (.cells z t)) := by
  subst hgw
  refine wpList_storeA A hgd x y ho w.heap.size c hn h1 hx hy z A.zsize t (heap_alloc_last w _) ?_
  rw [World.setRow_alloc_new]
  exact h
theorem resA (A : Arr t n z) {fn : Func} {p : Tmp} (hf : fn.results = #[.cell p t]) (tmps : Array Value) (w : World) (g : Nat) (t' : TypeId) (c : Array Value) (hn : c.size = n)
    (hp : tmps.getD p undef = .pointer (some ⟨g, 0, none⟩)) (hg : w.heap[g]? = some (.cells c t' (0, 0))) : (results fn tmps).run Tryz.prog w = .ok (.agg c) w := by
  rcases A.und with ⟨m, e, hd⟩ | ⟨fs, hd⟩
  · exact results_cell_row hf tmps w g t' c (0, 0) _ hp hg hd rfl (by rw [A.info, hn])
  · exact results_cell_row hf tmps w g t' c (0, 0) _ hp hg hd rfl (by rw [A.info, hn])
end
theorem below_setRow {B : Nat} {a w : World} (h : Below B a w) {g : Nat} (hg : B ≤ g) (cs : Array Value) : Below B a (w.setRow g cs) :=
  h.trans ⟨rfl, rfl, rfl, by simp, fun k hk => setRow_other w g k _ (by omega)⟩
theorem below_drewN {B : Nat} {a w : World} (h : Below B a w) (n : Nat) : Below B a (w.drewN n) := ⟨h.os, h.tape, h.output, h.size, h.block⟩
theorem lt_heap {w : World} {g : Nat} {A : Obj} (h : w.heap[g]? = some A) : g < w.heap.size := by
  rcases Nat.lt_or_ge g w.heap.size with h' | h'
  · exact h'
  · rw [Array.getElem?_eq_none h'] at h
    cases h
theorem row_of {w : World} {g : Nat} {c : Array Value} {t : TypeId} {n : Nat} (hn : c.size = n) (hg : w.heap[g]? = some (.cells c t (0, 0))) {f : Nat → Value} (hf : ∀ i, i < n → c[i]? = some (f i)) : w.rowIs g t n f :=
  ⟨c, hg, hn, hf⟩
theorem of_row {w : World} {g : Nat} {c : Array Value} {t : TypeId} {n : Nat} (hn : c.size = n) {f : Nat → Value} (hr : w.rowIs g t n f) (hf : ∀ i, i < n → c[i]? = some (f i)) : w.heap[g]? = some (.cells c t (0, 0)) := by
  obtain ⟨c', hg, hn', hcs⟩ := hr
  rw [hg]
  have : c' = c := by
    apply Array.ext
    · rw [hn', hn]
    · intro i h1 h2
      have e := hcs i (by omega)
      rw [← hf i (by omega), Array.getElem?_eq_getElem h1, Array.getElem?_eq_getElem h2] at e
      exact Option.some.inj e
  rw [this]
theorem blk3 (w : World) (A B C : Obj) : (((w.alloc A).alloc B).alloc C).heap[w.heap.size]? = some A ∧ (((w.alloc A).alloc B).alloc C).heap[w.heap.size + 1]? = some B ∧ (((w.alloc A).alloc B).alloc C).heap[w.heap.size + 1 + 1]? = some C := by
  have e1 := heap_alloc_last w A
  have e2 := heap_alloc_last (w.alloc A) B
  have e3 := heap_alloc_last ((w.alloc A).alloc B) C
  have s1 : (w.alloc A).heap.size = w.heap.size + 1 := by simp
  have s2 : ((w.alloc A).alloc B).heap.size = w.heap.size + 1 + 1 := by simp
  rw [s1] at e2
  rw [s2] at e3
  exact ⟨(Below.heap_alloc _ C _ (by omega)).trans ((Below.heap_alloc _ B _ (by omega)).trans e1), (Below.heap_alloc _ C _ (by omega)).trans e2, e3⟩
theorem below3 (w : World) (A B C : Obj) : Below w.heap.size w (((w.alloc A).alloc B).alloc C) :=
  (((Below.refl _ _).alloc (Nat.le_refl _) _).alloc (by simp) _).alloc (by simp; omega) _
def spF (b : List UInt8) (t k j : Nat) : Value := .int .u32 (if j < t then ((ws b j).toNat : Int) else if j = t then ((part b t k : Nat) : Int) else 0)
def sqF (b : List UInt8) (t j : Nat) : Value := .int .u32 (if j < t then ((ws b j).toNat : Int) else 0)
theorem spF_at (b : List UInt8) (t k : Nat) : spF b t k t = .int .u32 ((part b t k : Nat) : Int) := by
  simp [spF]
theorem or_part (b : List UInt8) (t k : Nat) (hk : k < 4) : bits .or .u32 (((part b t k : Nat) : Int) * 256 % 4294967296) ((by8 b (4 * t + k) : Int) % 4294967296) = ((part b t (k + 1) : Nat) : Int) := by
  have h1 := part_lt b t k
  have h2 : 256 ^ k ≤ 256 ^ 3 := Nat.pow_le_pow_right (by decide) (by omega)
  have h3 := by8_lt b (4 * t + k)
  have h4 : part b t k < 16777216 := by omega
  have e : ((part b t k : Nat) : Int) * 256 % 4294967296 = (part b t k : Int) * 256 := by omega
  have e2 : ((by8 b (4 * t + k) : Nat) : Int) % 4294967296 = (by8 b (4 * t + k) : Int) := by omega
  rw [e, e2, bits_join .u32 32 (by decide) (fun n h0 h1 => by rw [wrapU]; omega) 8 _ _ (by omega) (by omega) (by omega) (by omega) (by omega) (by omega), part]
  omega
theorem spF_step (b : List UInt8) (t k j : Nat) : (if j = t then Value.int .u32 ((part b t (k + 1) : Nat) : Int) else spF b t k j) = spF b t (k + 1) j := by
  unfold spF
  by_cases e : j = t
  · subst e; simp
  · rw [if_neg e]; simp [e]
theorem spF_next (b : List UInt8) (t : Nat) (ht : t < 16) (j : Nat) : spF b t 4 j = spF b (t + 1) 0 j := by
  unfold spF
  by_cases e : j = t
  · subst e
    rw [if_neg (by omega), if_pos rfl, if_pos (by omega), part4, ws_low b j ht]
  · by_cases e2 : j < t
    · rw [if_pos e2, if_pos (by omega)]
    · rw [if_neg e2, if_neg e, if_neg (by omega)]
      simp [part]
theorem spF_end (b : List UInt8) (j : Nat) : spF b 16 0 j = sqF b (16 + 0) j := by
  unfold spF sqF
  simp [part]
theorem sqF_at (b : List UInt8) (t j : Nat) (h : j < t) : sqF b t j = .int .u32 ((ws b j).toNat : Int) := by
  simp [sqF, h]
theorem sqF_step (b : List UInt8) (k j : Nat) : (if j = k + 16 then Value.int .u32 ((ws b (k + 16)).toNat : Int) else sqF b (16 + k) j) = sqF b (16 + (k + 1)) j := by
  unfold sqF
  by_cases e : j = k + 16
  · subst e
    rw [if_pos rfl, if_pos (by omega)]
  · rw [if_neg e]
    by_cases e2 : j < 16 + k
    · rw [if_pos e2, if_pos (by omega)]
    · rw [if_neg e2, if_neg (by omega)]
theorem ws_next (b : List UInt8) (k : Nat) : ws b (k + 16) = shf (ws b (k + 14)) 17 19 10 + ws b (k + 9) + shf (ws b (k + 1)) 7 18 3 + ws b k := by
  rw [ws_high b (k + 16) (by omega)]
  congr 1
section
set_option maxRecDepth 10000
set_option maxHeartbeats 1000000
theorem spread_any (b : List UInt8) (hl : b.length = 64) (w : World) : Calls Tryz.prog 246 #[.agg (hc b)] w fun e w' => e = .returned (.agg (uc (sch b 64))) ∧ Below w.heap.size w w' := by
  go_enter Tryz.func246, Tryz.ntmps246
  go_wp2_with (first | refine wpList_boxA rfl _ rfl (hc b) rfl ?_ | refine wpList_allocA A66 rfl rfl ?_)
  obtain ⟨b0, b1, b2⟩ := blk3 w (.cells (hc b) 308) (.cells (uc zw64) 360) (.cells (uc zw64) 360)
  have R0 := hide (row_of (by rw [hc_size, hl]) b0 (fun i hi => hc_at b i (by omega)))
  have R1 := hide b1
  have R2 : Hid ((((w.alloc (.cells (hc b) 308)).alloc (.cells (uc zw64) 360)).alloc (.cells (uc zw64) 360)).rowIs (w.heap.size + 1 + 1) 360 64 (spF b 0 0)) := row_of (by rw [uc_size, zw64_len]) b2 (fun i hi => by
    rw [uc_at _ _ (by rw [zw64_len]; omega)]
    rw [zw64, List.getD_eq_getElem?_getD, List.getElem?_replicate, if_pos hi]
    simp [spF, part])
  have BB := hide (below3 w (.cells (hc b) 308) (.cells (uc zw64) 360) (.cells (uc zw64) 360))
  clear b0 b1 b2
  go_loopw [7] (fun c wr => ∃ t : Nat, t ≤ 16 ∧ c = .int .i64 t ∧ Hid (wr.rowIs w.heap.size 308 64 (fun i => .int .u8 (by8 b i : Int))) ∧ Hid (wr.heap[w.heap.size + 1]? = some (.cells (uc zw64) 360 (0, 0))) ∧ Hid (wr.rowIs (w.heap.size + 1 + 1) 360 64 (spF b t 0)) ∧ Hid (Below w.heap.size w wr)) (fun c _ => (16 - intOf c).toNat)
  case atStart => exact ⟨0, by omega, rfl, R0, R1, R2, BB⟩
  case round =>
    clear R0 R1 R2 BB
    obtain ⟨t, ht, rfl, r0, r1, r2, bb⟩ := hrel
    by_cases hlt : t < 16
    · go_wp2
      go_loopw [10] (fun c ws => ∃ k : Nat, k ≤ 4 ∧ c = .int .i64 k ∧ Hid (ws.rowIs w.heap.size 308 64 (fun i => .int .u8 (by8 b i : Int))) ∧ Hid (ws.heap[w.heap.size + 1]? = some (.cells (uc zw64) 360 (0, 0))) ∧ Hid (ws.rowIs (w.heap.size + 1 + 1) 360 64 (spF b t k)) ∧ Hid (Below w.heap.size w ws)) (fun c _ => (4 - intOf c).toNat)
      case atStart => exact ⟨0, by omega, rfl, r0, r1, r2, bb⟩
      case round =>
        clear r0 r1 r2 bb
        obtain ⟨k, hk, rfl, r0, r1, r2, bb⟩ := hrel
        by_cases hk4 : k < 4
        · have c0 := r0.out.cell (show 4 * t + k < 64 by omega)
          have c2 := r2.out.cell (show t < 64 by omega)
          have f2 := r2.out.frozen t
          have e1 : (4 * (t : Int) + k).toNat = 4 * t + k := by omega
          have t0 : (0 : Int) ≤ t := by omega
          have t1 : (t : Int) < 64 := by omega
          have t2 : (0 : Int) ≤ 4 * t + k := by omega
          have t3 : 4 * (t : Int) + k < 64 := by omega
          have hor := or_part b t k hk4
          rw [spF_at] at c2
          go_wp2
          go_region
          all_goals go_wp2
          all_goals
            refine ⟨⟨k + 1, by omega, by go_num, hide ((r0.out.setOther (by simp; omega) _).drew), hide ((blk_setCell_other _ _ _ _ (by simp)).trans r1.out), hide (((r2.out.set _ _).congr (fun i hi => ?_)).drew), hide ((bb.out.setCell (by simp; omega) _).drew)⟩, by simp [intOf]; omega⟩
            exact spF_step b t k i
        · have hke : k = 4 := by omega
          subst hke
          go_wp2
          exact ⟨⟨t + 1, by omega, by go_num, r0, r1, hide (r2.out.congr (fun i hi => spF_next b t hlt i)), bb⟩, by simp [intOf]; omega⟩
    · have hte : t = 16 := by omega
      subst hte
      rw [show ((16 : Nat) : Int) = 16 from rfl]
      go_wp2
      go_loopw [29] (fun c ws => ∃ k : Nat, k ≤ 48 ∧ c = .int .i64 k ∧ Hid (ws.heap[w.heap.size + 1]? = some (.cells (uc zw64) 360 (0, 0))) ∧ Hid (ws.rowIs (w.heap.size + 1 + 1) 360 64 (sqF b (16 + k))) ∧ Hid (Below w.heap.size w ws)) (fun c _ => (48 - intOf c).toNat)
      case atStart => exact ⟨0, by omega, rfl, r1, hide (r2.out.congr (fun i hi => spF_end b i)), bb⟩
      case round =>
        clear r0 r1 r2 bb
        obtain ⟨k, hk, rfl, r1, r2, bb⟩ := hrel
        by_cases hk4 : k < 48
        · have c0 := r2.out.cell (show k < 64 by omega)
          have c1 := r2.out.cell (show k + 1 < 64 by omega)
          have c9 := r2.out.cell (show k + 9 < 64 by omega)
          have c14 := r2.out.cell (show k + 14 < 64 by omega)
          have f2 := r2.out.frozen (k + 16)
          have c16 := r2.out.cell (show k + 16 < 64 by omega)
          rw [sqF_at b _ _ (by omega)] at c0 c1 c9 c14
          have e1 : ((k : Int) + 1).toNat = k + 1 := by omega
          have e9 : ((k : Int) + 9).toNat = k + 9 := by omega
          have e14 : ((k : Int) + 14).toNat = k + 14 := by omega
          have e16 : ((k : Int) + 16).toNat = k + 16 := by omega
          have b0 : (0 : Int) ≤ k := by omega
          have b1 : (k : Int) < 64 := by omega
          have b2 : (0 : Int) ≤ (k : Int) + 1 := by omega
          have b3 : (k : Int) + 1 < 64 := by omega
          have b4 : (0 : Int) ≤ (k : Int) + 9 := by omega
          have b5 : (k : Int) + 9 < 64 := by omega
          have b6 : (0 : Int) ≤ (k : Int) + 14 := by omega
          have b7 : (k : Int) + 14 < 64 := by omega
          have b8 : (0 : Int) ≤ (k : Int) + 16 := by omega
          have b9 : (k : Int) + 16 < 64 := by omega
          have q1 : IntKind.i64.wrap ((k : Int) + 1) = k + 1 := wrapI _ (by omega) (by omega)
          have q9 : IntKind.i64.wrap ((k : Int) + 9) = k + 9 := wrapI _ (by omega) (by omega)
          have q14 : IntKind.i64.wrap ((k : Int) + 14) = k + 14 := wrapI _ (by omega) (by omega)
          have q16 : IntKind.i64.wrap ((k : Int) + 16) = k + 16 := wrapI _ (by omega) (by omega)
          have W := hide (ws_next b k)
          generalize ws b k = x0 at *
          generalize ws b (k + 1) = x1 at *
          generalize ws b (k + 9) = x9 at *
          generalize ws b (k + 14) = x14 at *
          have H1 := hide fun W => shifted_any x14 17 19 10 17 19 10 rfl rfl rfl (by omega) (by omega) (by omega) (by omega) (by omega) (by omega) W
          have H2 := hide fun W => shifted_any x1 7 18 3 7 18 3 rfl rfl rfl (by omega) (by omega) (by omega) (by omega) (by omega) (by omega) W
          go_wp2
          go_region_held3 (fun w' => w'.cell? ⟨w.heap.size + 1 + 1, k, none⟩ = some (.int .u32 (x0.toNat : Int)) ∧ w'.cell? ⟨w.heap.size + 1 + 1, k + 1, none⟩ = some (.int .u32 (x1.toNat : Int)) ∧ w'.cell? ⟨w.heap.size + 1 + 1, k + 9, none⟩ = some (.int .u32 (x9.toNat : Int)) ∧ w'.cell? ⟨w.heap.size + 1 + 1, k + 14, none⟩ = some (.int .u32 (x14.toNat : Int))) (first | go_keep | (refine ⟨?_, ?_, ?_, ?_⟩ <;> (rw [cell_set_ne _ _ _ _ _ (by omega)]; simp [*]))) (first | (go_at_call_of 296 (Value.int .u32 (x14.toNat : Int)); refine (H1.out _).mono ?_; rintro e w3 ⟨rfl, n3, rfl⟩) | (go_at_call_of 296 (Value.int .u32 (x1.toNat : Int)); refine (H2.out _).mono ?_; rintro e w3 ⟨rfl, n4, rfl⟩))
          all_goals go_wp2
          all_goals
            refine ⟨⟨k + 1, by omega, by go_num, hide ((blk_setCell_other _ _ _ _ (by simp)).trans r1.out), hide ((r2.out.set _ _).congr (fun i hi => ?_)), hide ((below_drewN bb.out _).setCell (by simp; omega) _)⟩, by simp [intOf]; omega⟩
            rw [addU, addU, addU, ← W.out]
            exact sqF_step b k i
        · have hke : k = 48 := by omega
          subst hke
          have H2 : wr.heap[w.heap.size + 1 + 1]? = some (.cells (uc (sch b 64)) 360 (0, 0)) := of_row (by rw [uc_size, sch_len]) r2.out (fun i hi => by rw [uc_at _ _ (by rw [sch_len]; omega), sch_at b 64 i hi, sqF_at b _ i hi])
          go_wp2_with (first | refine wpList_loadA A66 rfl _ rfl _ rfl (uc (sch b 64)) (by rw [uc_size, sch_len]) 360 H2 ?_ | refine wpList_storeA A66 rfl _ _ rfl _ (uc (sch b 64)) (by rw [uc_size, sch_len]) (uc_one _) rfl rfl (uc zw64) (by rw [uc_size, zw64_len]) 360 r1.out ?_)
          exact bodyPost_ret (v := .agg (uc (sch b 64))) (resA A66 Tryz.results246 _ _ (w.heap.size + 1) 360 _ (by rw [uc_size, sch_len]) rfl (setRow_heap _ _ _ _ _ _ r1.out)) rfl ⟨rfl, below_setRow bb.out (by omega) _⟩
end
def Kg (w : World) : Prop := ∀ j, j < 64 → w.cell? ⟨0, j, none⟩ = some (.int .u32 ((kk j).toNat : Int))
theorem Kg.lt {w : World} (h : Kg w) : 0 < w.heap.size := by
  have := h 0 (by omega)
  rcases Nat.lt_or_ge 0 w.heap.size with h' | h'
  · exact h'
  · have e : w.heap[0]? = none := Array.getElem?_eq_none h'
    simp [World.cell?, e] at this
theorem Kg.below {w w' : World} {B : Nat} (h : Kg w) (hB : 0 < B) (b : Below B w w') : Kg w' := fun j hj => (b.cell (p := ⟨0, j, none⟩) hB).trans (h j hj)
theorem Kg.next {w w' : World} (h : Kg w) (b : Below w.heap.size w w') : Kg w' := h.below h.lt b
theorem Kg.drewN {w : World} (h : Kg w) (n : Nat) : Kg (w.drewN n) := h
theorem addS_at (x y : St) (j : Nat) (h : j < 8) : (addS x y).at j = x.at j + y.at j := by
  rcases j with _ | _ | _ | _ | _ | _ | _ | _ | j
  all_goals first | rfl | omega
theorem st_at (s : St) (k : Nat) (hk : k < 8) : (uc s.list)[k]? = some (.int .u32 ((s.at k).toNat : Int)) := uc_at _ _ hk
def adF (s r : St) (i j : Nat) : Value := .int .u32 ((if j < i then s.at j + r.at j else r.at j).toNat : Int)
theorem adF_step (s r : St) (i j : Nat) : (if j = i then Value.int .u32 ((r.at i + s.at i).toNat : Int) else adF s r i j) = adF s r (i + 1) j := by
  unfold adF
  by_cases e : j = i
  · subst e
    rw [if_pos rfl, if_pos (by omega), UInt32.add_comm]
  · rw [if_neg e]
    by_cases e2 : j < i
    · rw [if_pos e2, if_pos (by omega)]
    · rw [if_neg e2, if_neg (by omega)]
theorem adF_at (s r : St) (i : Nat) : adF s r i i = .int .u32 ((r.at i).toNat : Int) := by
  simp [adF]
theorem adF_end (s r : St) (j : Nat) (hj : j < 8) : adF s r 8 j = .int .u32 (((addS s r).at j).toNat : Int) := by
  rw [addS_at s r j hj]
  simp [adF, hj]
theorem cells8 {w : World} {g : Nat} {t : TypeId} {s : St} (h : w.heap[g]? = some (.cells (uc s.list) t (0, 0))) :
    w.cell? ⟨g, 0, none⟩ = some (.int .u32 (s.a.toNat : Int)) ∧ w.cell? ⟨g, 1, none⟩ = some (.int .u32 (s.b.toNat : Int)) ∧ w.cell? ⟨g, 2, none⟩ = some (.int .u32 (s.c.toNat : Int)) ∧ w.cell? ⟨g, 3, none⟩ = some (.int .u32 (s.d.toNat : Int)) ∧
    w.cell? ⟨g, 4, none⟩ = some (.int .u32 (s.e.toNat : Int)) ∧ w.cell? ⟨g, 5, none⟩ = some (.int .u32 (s.f.toNat : Int)) ∧ w.cell? ⟨g, 6, none⟩ = some (.int .u32 (s.g.toNat : Int)) ∧ w.cell? ⟨g, 7, none⟩ = some (.int .u32 (s.h.toNat : Int)) :=
  ⟨cell_of_row w g 0 _ t _ h, cell_of_row w g 1 _ t _ h, cell_of_row w g 2 _ t _ h, cell_of_row w g 3 _ t _ h, cell_of_row w g 4 _ t _ h, cell_of_row w g 5 _ t _ h, cell_of_row w g 6 _ t _ h, cell_of_row w g 7 _ t _ h⟩
theorem step_mid {w w1 : World} {A B C : Obj} (x0 : (((w.alloc A).alloc B).alloc C).heap[w.heap.size]? = some A) (x2 : (((w.alloc A).alloc B).alloc C).heap[w.heap.size + 1 + 1]? = some C) (hK : Kg w) (b1 : Below (((w.alloc A).alloc B).alloc C).heap.size (((w.alloc A).alloc B).alloc C) w1) (l : List UInt32) :
    Hid ((w1.alloc (.cells (uc l) 360)).heap[w.heap.size]? = some A) ∧ Hid ((w1.alloc (.cells (uc l) 360)).heap[w.heap.size + 1 + 1]? = some C) ∧ Hid ((w1.alloc (.cells (uc l) 360)).heap[w1.heap.size]? = some (.cells (uc l) 360)) ∧ Hid (Below w.heap.size w (w1.alloc (.cells (uc l) 360))) ∧ Hid (Kg (w1.alloc (.cells (uc l) 360))) := by
  have hN : (((w.alloc A).alloc B).alloc C).heap.size = w.heap.size + 1 + 1 + 1 := by simp
  have hs := b1.size
  have B1 : Below w.heap.size w w1 := (below3 w A B C).trans (b1.mono (by omega))
  have B2 := B1.alloc B1.size (.cells (uc l) 360)
  refine ⟨(Below.heap_alloc _ _ _ (by omega)).trans ((b1.block _ (by omega)).trans x0), (Below.heap_alloc _ _ _ (by omega)).trans ((b1.block _ (by omega)).trans x2), heap_alloc_last _ _, B2, hK.next B2⟩
section
set_option maxRecDepth 10000
set_option maxHeartbeats 1000000
theorem step_any (s : St) (b : List UInt8) (hl : b.length = 64) (w : World) (hK : Kg w) : Calls Tryz.prog 192 #[.agg (uc s.list), .agg (hc b)] w fun e w' => e = .returned (.agg (uc (step s b).list)) ∧ Below w.heap.size w w' := by
  have HS := hide fun W => spread_any b hl W
  have HK := hide hK
  clear hK
  go_enter Tryz.func192, Tryz.ntmps192
  go_upto_region 1 with (first | refine wpList_boxA rfl _ rfl (uc s.list) rfl ?_ | refine wpList_boxA rfl _ rfl (hc b) rfl ?_ | refine wpList_allocA A31 rfl rfl ?_)
  obtain ⟨x0, x1, x2⟩ := blk3 w (.cells (uc s.list) 306) (.cells (hc b) 308) (.cells (uc zw8) 306)
  have X1 := hide x1
  clear x1
  go_upto_region 2 with (first | refine wpList_loadA A35 rfl _ rfl _ rfl (hc b) (by rw [hc_size, hl]) 308 (by simpa using X1.out) ?_ | (go_at_call 246; refine (HS.out _).mono ?_; rintro e w1 ⟨rfl, b1⟩) | refine wpList_allocA A66 rfl rfl ?_ | refine wpList_store_newA A66 rfl _ _ rfl _ rfl (uc (sch b 64)) (by rw [uc_size, sch_len]) (uc_one _) rfl rfl ?_)
  obtain ⟨y0, y2, y3, BB, KK⟩ := step_mid x0 x2 HK.out b1 (sch b 64)
  clear x0 x2 b1 X1 HK HS
  generalize w1.alloc (.cells (uc (sch b 64)) 360) = W2 at *
  generalize w1.heap.size = g1 at *
  obtain ⟨z0, z1, z2, z3, z4, z5, z6, z7⟩ := cells8 y0.out
  go_quiet (fail)
  clear z0 z1 z2 z3 z4 z5 z6 z7
  go_wp2
  go_loopw [6, 7, 8, 9, 10, 11, 12, 13, 37] (fun va vb vc vd ve vf vg vh vt wr => ∃ t n : Nat, t ≤ 64 ∧ vt = .int .i64 t ∧ va = .int .u32 ((rnds b s t).a.toNat : Int) ∧ vb = .int .u32 ((rnds b s t).b.toNat : Int) ∧ vc = .int .u32 ((rnds b s t).c.toNat : Int) ∧ vd = .int .u32 ((rnds b s t).d.toNat : Int) ∧ ve = .int .u32 ((rnds b s t).e.toNat : Int) ∧ vf = .int .u32 ((rnds b s t).f.toNat : Int) ∧ vg = .int .u32 ((rnds b s t).g.toNat : Int) ∧ vh = .int .u32 ((rnds b s t).h.toNat : Int) ∧ Hid (wr = W2.drewN n)) (fun _ _ _ _ _ _ _ _ vt _ => (64 - intOf vt).toNat)
  case atStart => exact ⟨0, nq, by omega, rfl, rfl, rfl, rfl, rfl, rfl, rfl, rfl, rfl, rfl⟩
  case round =>
    obtain ⟨t, n, ht, rfl, rfl, rfl, rfl, rfl, rfl, rfl, rfl, rfl, HW⟩ := hrel
    by_cases hlt : t < 64
    · have k1 : wr.cell? ⟨0, t, none⟩ = some (.int .u32 ((kk t).toNat : Int)) := by rw [HW.out]; exact KK.out t hlt
      have k2 : wr.cell? ⟨g1, t, none⟩ = some (.int .u32 ((ws b t).toNat : Int)) := by
        rw [HW.out]
        have := cell_of_row W2 g1 t _ _ _ y3.out
        rw [uc_at _ _ (by rw [sch_len]; exact hlt), sch_at b 64 t hlt] at this
        exact this
      have t0 : (0 : Int) ≤ t := by omega
      have t1 : (t : Int) < 64 := by omega
      have HE := hide (show rnds b s (t + 1) = rnd (kk t) (ws b t) (rnds b s t) from rfl)
      generalize rnds b s t = r at *
      generalize kk t = kt at *
      generalize ws b t = wt at *
      have H1 := hide fun W => turned_any r.e 6 11 25 6 11 25 rfl rfl rfl (by omega) (by omega) (by omega) (by omega) (by omega) (by omega) W
      have H2 := hide fun W => turned_any r.a 2 13 22 2 13 22 rfl rfl rfl (by omega) (by omega) (by omega) (by omega) (by omega) (by omega) W
      go_wp2
      go_quiet ((go_at_call 247; exact Calls.quiet_of_same (H1.out _)))
      go_wp2_with (go_at_call 247; refine (H2.out _).mono ?_; rintro e w3 ⟨rfl, rfl⟩)
      refine ⟨⟨t + 1, n + nq, by omega, by go_num, ?_, ?_, ?_, ?_, ?_, ?_, ?_, ?_, hide (by rw [HW.out, World.drewN_drewN])⟩, by simp [intOf]; omega⟩
      all_goals rw [HE.out]
      · rw [notX, andU, andU, xorU, andU, andU, andU, xorU, xorU, add5, addU, addU]; rfl
      · rfl
      · rfl
      · rfl
      · rw [notX, andU, andU, xorU, add5, addU]; rfl
      · rfl
      · rfl
      · rfl
    · have hte : t = 64 := by omega
      subst hte
      rw [show ((64 : Nat) : Int) = 64 from rfl]
      have HT := hide (show step s b = addS s (rnds b s 64) from rfl)
      generalize rnds b s 64 = r at *
      have Y0 : Hid (wr.rowIs w.heap.size 306 8 (fun j => .int .u32 ((s.at j).toNat : Int))) := by
        refine row_of (c := uc s.list) rfl ?_ (fun i hi => st_at s i hi)
        rw [HW.out]; exact y0.out
      have Y2 : Hid (wr.heap[w.heap.size + 1 + 1]? = some (.cells (uc zw8) 306 (0, 0))) := by
        rw [HW.out]; exact y2.out
      have B0 : Hid (Below w.heap.size w wr) := by
        rw [HW.out]; exact below_drewN BB.out n
      clear HW y0 y2 y3 BB KK
      go_wp2_with (first | refine wpList_allocA A31 rfl rfl ?_ | refine wpList_store_newA A31 rfl _ _ rfl _ rfl (uc r.list) rfl (uc_one _) rfl rfl ?_)
      have R2 : Hid ((wr.alloc (.cells (uc r.list) 306)).rowIs wr.heap.size 306 8 (adF s r 0)) := row_of (c := uc r.list) rfl (heap_alloc_last _ _) (fun i hi => by rw [st_at r i hi]; simp [adF])
      have R0 := hide (Y0.out.alloc (.cells (uc r.list) 306))
      have R1 := hide ((Below.heap_alloc _ (.cells (uc r.list) 306) _ (lt_heap Y2.out)).trans Y2.out)
      have BB := hide (B0.out.alloc B0.out.size (.cells (uc r.list) 306))
      have n1 := Y0.out.lt
      have n2 := lt_heap Y2.out
      clear Y0 Y2 B0
      generalize wr.alloc (.cells (uc r.list) 306) = W3 at *
      generalize wr.heap.size = g2 at *
      go_loopw [97] (fun c wx => ∃ i : Nat, i ≤ 8 ∧ c = .int .i64 i ∧ Hid (wx.rowIs w.heap.size 306 8 (fun j => .int .u32 ((s.at j).toNat : Int))) ∧ Hid (wx.heap[w.heap.size + 1 + 1]? = some (.cells (uc zw8) 306 (0, 0))) ∧ Hid (wx.rowIs g2 306 8 (adF s r i)) ∧ Hid (Below w.heap.size w wx)) (fun c _ => (8 - intOf c).toNat)
      case atStart => exact ⟨0, by omega, rfl, R0, R1, R2, BB⟩
      case round =>
        clear R0 R1 R2 BB
        obtain ⟨i, hi, rfl, r0, r1, r2, bb⟩ := hrel
        by_cases hi8 : i < 8
        · have c0 := r0.out.cell hi8
          have c2 := r2.out.cell hi8
          have f2 := r2.out.frozen i
          have t0 : (0 : Int) ≤ i := by omega
          have t1 : (i : Int) < 8 := by omega
          rw [adF_at] at c2
          go_wp2
          go_region
          all_goals go_wp2
          all_goals
            refine ⟨⟨i + 1, by omega, by go_num, hide ((r0.out.setOther (by simp; omega) _).drew), hide ((blk_setCell_other _ _ _ _ (by simp; omega)).trans r1.out), hide (((r2.out.set _ _).congr (fun j hj => ?_)).drew), hide ((bb.out.setCell (by simp; omega) _).drew)⟩, by simp [intOf]; omega⟩
            rw [addU]
            exact adF_step s r i j
        · have hie : i = 8 := by omega
          subst hie
          have H2 : wr.heap[g2]? = some (.cells (uc (addS s r).list) 306 (0, 0)) := of_row rfl r2.out (fun i hi => by rw [st_at _ i hi, adF_end s r i hi])
          go_wp2_with (first | refine wpList_loadA A31 rfl _ rfl _ rfl (uc (addS s r).list) rfl 306 H2 ?_ | refine wpList_storeA A31 rfl _ _ rfl _ (uc (addS s r).list) rfl (uc_one _) rfl rfl (uc zw8) (by rw [uc_size, zw8_len]) 306 r1.out ?_)
          exact bodyPost_ret (v := .agg (uc (addS s r).list)) (resA A31 Tryz.results192 _ _ (w.heap.size + 1 + 1) 306 _ rfl rfl (setRow_heap _ _ _ _ _ _ r1.out)) rfl ⟨by rw [HT.out], below_setRow bb.out (by omega) _⟩
end
end Go.Proofs.YtcoojkpimbddlaaGreatDoor
