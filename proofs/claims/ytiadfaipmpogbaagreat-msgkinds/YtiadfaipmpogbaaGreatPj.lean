/- Commands of kinds; bare messages, pings and pongs: their contracts. -/
import Derived.Test.YtiadfaipmpogbaaGreatPi
namespace Go.Proofs.YtiadfaipmpogbaaGreat
open Go.RowKit
open Go.Deep
theorem resA2 {t : TypeId} {n : Nat} {z : Array Value} (A : Arr t n z) {fn : Func} {p u : Tmp} (hf : fn.results = #[.cell p t, .tmp u]) (tmps : Array Value) (w : World) (g : Nat) (t' : TypeId) (c : Array Value) (hn : c.size = n)
    (hp : tmps.getD p undef = .pointer (some ⟨g, 0, none⟩)) (hg : w.heap[g]? = some (.cells c t' (0, 0))) (x : Value) (hx : tmps.getD u undef = x) : (results fn tmps).run Tryz.prog w = .ok (.tuple #[.agg c, x]) w := by
  subst hx
  have hp' : tmps[p]?.getD undef = .pointer (some ⟨g, 0, none⟩) := by simpa using hp
  rcases A.und with ⟨m, e, hd⟩ | ⟨fs, hd⟩ <;> simp [results, hf, hp', asAddr, run_loadVar_row w g t' t c (0, 0) _ hg hd rfl (by rw [A.info, hn])]
theorem resA3 {t : TypeId} {n : Nat} {z : Array Value} (A : Arr t n z) {fn : Func} {p u v : Tmp} (hf : fn.results = #[.cell p t, .tmp u, .tmp v]) (tmps : Array Value) (w : World) (g : Nat) (t' : TypeId) (c : Array Value) (hn : c.size = n)
    (hp : tmps.getD p undef = .pointer (some ⟨g, 0, none⟩)) (hg : w.heap[g]? = some (.cells c t' (0, 0))) (x : Value) (hx : tmps.getD u undef = x) (y : Value) (hy : tmps.getD v undef = y) : (results fn tmps).run Tryz.prog w = .ok (.tuple #[.agg c, x, y]) w := by
  subst hx hy
  have hp' : tmps[p]?.getD undef = .pointer (some ⟨g, 0, none⟩) := by simpa using hp
  rcases A.und with ⟨m, e, hd⟩ | ⟨fs, hd⟩ <;> simp [results, hf, hp', asAddr, run_loadVar_row w g t' t c (0, 0) _ hg hd rfl (by rw [A.info, hn])]
/-- A kind's command. -/
def cmdN : Nat → ByteArray
  | 1 => ⟨#[118, 101, 114, 115, 105, 111, 110]⟩
  | 2 => ⟨#[118, 101, 114, 97, 99, 107]⟩
  | 3 => ⟨#[103, 101, 116, 97, 100, 100, 114]⟩
  | 4 => ⟨#[115, 101, 110, 100, 104, 101, 97, 100, 101, 114, 115]⟩
  | 5 => ⟨#[112, 105, 110, 103]⟩
  | 6 => ⟨#[112, 111, 110, 103]⟩
  | 7 => ⟨#[97, 100, 100, 114]⟩
  | 8 => ⟨#[105, 110, 118]⟩
  | 9 => ⟨#[103, 101, 116, 100, 97, 116, 97]⟩
  | 10 => ⟨#[110, 111, 116, 102, 111, 117, 110, 100]⟩
  | 11 => ⟨#[103, 101, 116, 104, 101, 97, 100, 101, 114, 115]⟩
  | 12 => ⟨#[104, 101, 97, 100, 101, 114, 115]⟩
  | 13 => ⟨#[116, 120]⟩
  | 14 => ⟨#[98, 108, 111, 99, 107]⟩
  | 15 => ⟨#[115, 101, 110, 100, 99, 109, 112, 99, 116]⟩
  | 16 => ⟨#[99, 109, 112, 99, 116, 98, 108, 111, 99, 107]⟩
  | 17 => ⟨#[103, 101, 116, 98, 108, 111, 99, 107, 116, 120, 110]⟩
  | 18 => ⟨#[98, 108, 111, 99, 107, 116, 120, 110]⟩
  | _ => ⟨#[]⟩
def cmd (k : Int) : ByteArray := if 1 ≤ k ∧ k ≤ 18 then cmdN k.toNat else ⟨#[]⟩
theorem cmd_in (n : Nat) (h1 : 1 ≤ n) (h2 : n ≤ 18) : cmd (n : Int) = cmdN n := by
  unfold cmd
  rw [if_pos (by omega), Int.toNat_natCast]
theorem cmd_out (k : Int) (h : ¬ (1 ≤ k ∧ k ≤ 18)) : cmd k = ⟨#[]⟩ := by
  unfold cmd
  rw [if_neg h]
section
set_option maxRecDepth 10000
set_option maxHeartbeats 4000000
theorem command_any (k : Int) (w : World) : Calls Tryz.prog 20 #[.int .i64 k] w fun e w' => e = .returned (.string (cmd k)) ∧ w' = w := by
  by_cases h : 1 ≤ k ∧ k ≤ 18
  · obtain ⟨n, rfl⟩ := Int.eq_ofNat_of_zero_le (show 0 ≤ k by omega)
    obtain ⟨m, rfl⟩ : ∃ m : Fin 18, n = m.val + 1 := ⟨⟨n - 1, by omega⟩, by simp; omega⟩
    rw [cmd_in _ (by omega) (by omega)]
    clear h
    match m with
    | ⟨0, _⟩ =>
      simp only [cmdN]
      go_enter Tryz.func20, Tryz.ntmps20
      go_wp2
      go_ret
      exact ⟨rfl, rfl⟩
    | ⟨1, _⟩ =>
      simp only [cmdN]
      go_enter Tryz.func20, Tryz.ntmps20
      go_wp2
      go_ret
      exact ⟨rfl, rfl⟩
    | ⟨2, _⟩ =>
      simp only [cmdN]
      go_enter Tryz.func20, Tryz.ntmps20
      go_wp2
      go_ret
      exact ⟨rfl, rfl⟩
    | ⟨3, _⟩ =>
      simp only [cmdN]
      go_enter Tryz.func20, Tryz.ntmps20
      go_wp2
      go_ret
      exact ⟨rfl, rfl⟩
    | ⟨4, _⟩ =>
      simp only [cmdN]
      go_enter Tryz.func20, Tryz.ntmps20
      go_wp2
      go_ret
      exact ⟨rfl, rfl⟩
    | ⟨5, _⟩ =>
      simp only [cmdN]
      go_enter Tryz.func20, Tryz.ntmps20
      go_wp2
      go_ret
      exact ⟨rfl, rfl⟩
    | ⟨6, _⟩ =>
      simp only [cmdN]
      go_enter Tryz.func20, Tryz.ntmps20
      go_wp2
      go_ret
      exact ⟨rfl, rfl⟩
    | ⟨7, _⟩ =>
      simp only [cmdN]
      go_enter Tryz.func20, Tryz.ntmps20
      go_wp2
      go_ret
      exact ⟨rfl, rfl⟩
    | ⟨8, _⟩ =>
      simp only [cmdN]
      go_enter Tryz.func20, Tryz.ntmps20
      go_wp2
      go_ret
      exact ⟨rfl, rfl⟩
    | ⟨9, _⟩ =>
      simp only [cmdN]
      go_enter Tryz.func20, Tryz.ntmps20
      go_wp2
      go_ret
      exact ⟨rfl, rfl⟩
    | ⟨10, _⟩ =>
      simp only [cmdN]
      go_enter Tryz.func20, Tryz.ntmps20
      go_wp2
      go_ret
      exact ⟨rfl, rfl⟩
    | ⟨11, _⟩ =>
      simp only [cmdN]
      go_enter Tryz.func20, Tryz.ntmps20
      go_wp2
      go_ret
      exact ⟨rfl, rfl⟩
    | ⟨12, _⟩ =>
      simp only [cmdN]
      go_enter Tryz.func20, Tryz.ntmps20
      go_wp2
      go_ret
      exact ⟨rfl, rfl⟩
    | ⟨13, _⟩ =>
      simp only [cmdN]
      go_enter Tryz.func20, Tryz.ntmps20
      go_wp2
      go_ret
      exact ⟨rfl, rfl⟩
    | ⟨14, _⟩ =>
      simp only [cmdN]
      go_enter Tryz.func20, Tryz.ntmps20
      go_wp2
      go_ret
      exact ⟨rfl, rfl⟩
    | ⟨15, _⟩ =>
      simp only [cmdN]
      go_enter Tryz.func20, Tryz.ntmps20
      go_wp2
      go_ret
      exact ⟨rfl, rfl⟩
    | ⟨16, _⟩ =>
      simp only [cmdN]
      go_enter Tryz.func20, Tryz.ntmps20
      go_wp2
      go_ret
      exact ⟨rfl, rfl⟩
    | ⟨17, _⟩ =>
      simp only [cmdN]
      go_enter Tryz.func20, Tryz.ntmps20
      go_wp2
      go_ret
      exact ⟨rfl, rfl⟩
    | ⟨n + 18, h⟩ => exact absurd h (by omega)
  · rw [cmd_out k h]
    have h1 : (k == 1) = false := by rw [beq_eq_false_iff_ne]; omega
    have h2 : (k == 2) = false := by rw [beq_eq_false_iff_ne]; omega
    have h3 : (k == 3) = false := by rw [beq_eq_false_iff_ne]; omega
    have h4 : (k == 4) = false := by rw [beq_eq_false_iff_ne]; omega
    have h5 : (k == 5) = false := by rw [beq_eq_false_iff_ne]; omega
    have h6 : (k == 6) = false := by rw [beq_eq_false_iff_ne]; omega
    have h7 : (k == 7) = false := by rw [beq_eq_false_iff_ne]; omega
    have h8 : (k == 8) = false := by rw [beq_eq_false_iff_ne]; omega
    have h9 : (k == 9) = false := by rw [beq_eq_false_iff_ne]; omega
    have h10 : (k == 10) = false := by rw [beq_eq_false_iff_ne]; omega
    have h11 : (k == 11) = false := by rw [beq_eq_false_iff_ne]; omega
    have h12 : (k == 12) = false := by rw [beq_eq_false_iff_ne]; omega
    have h13 : (k == 13) = false := by rw [beq_eq_false_iff_ne]; omega
    have h14 : (k == 14) = false := by rw [beq_eq_false_iff_ne]; omega
    have h15 : (k == 15) = false := by rw [beq_eq_false_iff_ne]; omega
    have h16 : (k == 16) = false := by rw [beq_eq_false_iff_ne]; omega
    have h17 : (k == 17) = false := by rw [beq_eq_false_iff_ne]; omega
    have h18 : (k == 18) = false := by rw [beq_eq_false_iff_ne]; omega
    clear h
    go_enter Tryz.func20, Tryz.ntmps20
    go_wp2
    go_ret
    exact ⟨rfl, rfl⟩
/-- A message with nothing but its kind and a number. -/
def bareM (k : Int) (n : UInt64) : Mg := { zM with kind := k, nonce := n }
theorem zM_bare : bareM 0 0 = zM := rfl
theorem run_bld0 (k : Int) (w : World) : (Instr.build 38 #[(0, .int .i64 k)]).run Tryz.prog w = .ok (.agg ((bareM k 0).cells nil8).toArray) w := by kernel_rfl
theorem run_bld3 (k : Int) (n : UInt64) (w : World) : (Instr.build 38 #[(0, .int .i64 k), (3, .int .u64 (n.toNat : Int))]).run Tryz.prog w = .ok (.agg ((bareM k n).cells nil8).toArray) w := by kernel_rfl
theorem nil8_ok : nil8.ok := ⟨⟨_, _, _, rfl⟩, ⟨_, _, _, rfl⟩, ⟨_, _, _, rfl⟩, ⟨_, _, _, rfl⟩, ⟨_, _, _, rfl⟩, ⟨_, _, _, rfl⟩, ⟨_, _, _, rfl⟩, ⟨_, _, _, rfl⟩⟩
theorem bare_ML (k : Int) (n : UInt64) (w : World) : ML w nil8 (bareM k n) := ⟨LX.nil w, LX.nil w, LX.nil w, LX.nil w, LX.nil w, LX.nil w, LX.nil w, LX.nil w⟩
def bdM (x : Array (Nat × Value)) : Sem Value := Instr.build 38 x
theorem bdM_eq (x : Array (Nat × Value)) : Instr.build 38 x = bdM x := rfl
attribute [local go_sem ↓] bdM_eq
theorem bare_any (k : Int) (w : World) : Calls Tryz.prog 22 #[.int .i64 k] w fun e w' => e = .returned (.agg ((bareM k 0).cells nil8).toArray) ∧ Below w.heap.size w w' := by
  have B1 := hide ((Below.refl w.heap.size w).alloc (Nat.le_refl _) (.cells ((bareM k 0).cells nil8).toArray 38))
  have R1 := hide (heap_alloc_last w (.cells ((bareM k 0).cells nil8).toArray 38))
  have hb : ∀ W, (bdM #[(0, .int .i64 k)]).run Tryz.prog W = .ok (.agg ((bareM k 0).cells nil8).toArray) W := fun W => run_bld0 k W
  have HO := hide ((bareM k 0).one nil8 nil8_ok)
  have HZ := hide ((bareM k 0).size nil8)
  generalize ((bareM k 0).cells nil8).toArray = C at *
  go_enter Tryz.func22, Tryz.ntmps22
  go_wp2_with ((with_reducible refine at_list ?_); first | refine wpList_allocA AM rfl rfl ?_ | refine wpList_store_newA AM rfl _ _ rfl _ rfl C HZ.out HO.out rfl rfl ?_)
  refine bodyPost_ret (resA AM rfl _ _ _ _ C HZ.out rfl R1.out) rfl ?_
  exact ⟨rfl, B1.out⟩
theorem nonced_yes (k : Int) (n : UInt64) (hk : k = 5 ∨ k = 6) (w : World) : Calls Tryz.prog 18 #[.int .i64 k, .int .u64 (n.toNat : Int)] w fun e w' => e = .returned (.tuple #[.agg ((bareM k n).cells nil8).toArray, .int .i64 0]) ∧ Below w.heap.size w w' := by
  have B1 := hide ((Below.refl w.heap.size w).alloc (Nat.le_refl _) (.cells ((bareM k n).cells nil8).toArray 38))
  have R1 := hide (heap_alloc_last w (.cells ((bareM k n).cells nil8).toArray 38))
  have hb : ∀ W, (bdM #[(0, .int .i64 k), (3, .int .u64 (n.toNat : Int))]).run Tryz.prog W = .ok (.agg ((bareM k n).cells nil8).toArray) W := fun W => run_bld3 k n W
  have HO := hide ((bareM k n).one nil8 nil8_ok)
  have HZ := hide ((bareM k n).size nil8)
  generalize ((bareM k n).cells nil8).toArray = C at *
  rcases hk with rfl | rfl
  all_goals
    go_enter Tryz.func18, Tryz.ntmps18
    go_wp2_with ((with_reducible refine at_list ?_); first | refine wpList_allocA AM rfl rfl ?_ | refine wpList_store_newA AM rfl _ _ rfl _ rfl C HZ.out HO.out rfl rfl ?_)
    refine bodyPost_ret (resA2 AM rfl _ _ _ _ C HZ.out rfl R1.out _ rfl) rfl ?_
    exact ⟨rfl, B1.out⟩
theorem nonced_no (k : Int) (n : UInt64) (hk : ¬ (k = 5 ∨ k = 6)) (w : World) : Calls Tryz.prog 18 #[.int .i64 k, .int .u64 (n.toNat : Int)] w fun e w' => e = .returned (.tuple #[.agg (zM.cells nil8).toArray, .int .i64 90]) ∧ Below w.heap.size w w' := by
  have B1 := hide ((Below.refl w.heap.size w).alloc (Nat.le_refl _) (.cells (zM.cells nil8).toArray 38))
  have R1 := hide (heap_alloc_last w (.cells (zM.cells nil8).toArray 38))
  have hb : ∀ W, (bdM #[]).run Tryz.prog W = .ok (.agg (zM.cells nil8).toArray) W := fun W => AM.build W
  have HO := hide (zM.one nil8 nil8_ok)
  have HZ := hide (zM.size nil8)
  have h5 : (k == 5) = false := by rw [beq_eq_false_iff_ne]; omega
  have h6 : (k == 6) = false := by rw [beq_eq_false_iff_ne]; omega
  have A0 := AM
  generalize (zM.cells nil8).toArray = C at *
  clear hk
  go_enter Tryz.func18, Tryz.ntmps18
  go_wp2_with ((with_reducible refine at_list ?_); first | refine wpList_allocA A0 rfl rfl ?_ | refine wpList_store_newA A0 rfl _ _ rfl _ rfl C HZ.out HO.out rfl rfl ?_)
  refine bodyPost_ret (resA2 A0 rfl _ _ _ _ C HZ.out rfl R1.out _ rfl) rfl ?_
  exact ⟨rfl, B1.out⟩
end
end Go.Proofs.YtiadfaipmpogbaaGreat
