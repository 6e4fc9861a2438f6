/- The law's net: an address as the document has it. Commands of kinds; bare messages, pings and pongs: their contracts. -/
import Derived.Test.YtkoidjaaojmcnaaGreatM08
namespace Go.Proofs.YtkoidjaaojmcnaaGreat
open Go.RowKit
open Go.Deep
theorem ip16 : ∀ (l : List UInt8), l.length = 16 → ∃ b0 b1 b2 b3 b4 b5 b6 b7 b8 b9 b10 b11 b12 b13 b14 b15, l = [b0, b1, b2, b3, b4, b5, b6, b7, b8, b9, b10, b11, b12, b13, b14, b15]
  | [b0, b1, b2, b3, b4, b5, b6, b7, b8, b9, b10, b11, b12, b13, b14, b15], _ => ⟨b0, b1, b2, b3, b4, b5, b6, b7, b8, b9, b10, b11, b12, b13, b14, b15, rfl⟩
theorem run_bldN (x : Nt) (w : World) : (Instr.build 44 #[(0, .int .u32 (x.time.toNat : Int)), (1, .int .u64 (x.serv.toNat : Int)), (2, .agg (cellsL x.ip).toArray), (3, .int .u16 (x.port.toNat : Int))]).run Tryz.prog w = .ok (.agg x.cells.toArray) w := by
  obtain ⟨t, s, ip, p, h⟩ := x
  obtain ⟨b0, b1, b2, b3, b4, b5, b6, b7, b8, b9, b10, b11, b12, b13, b14, b15, rfl⟩ := ip16 ip h
  kernel_rfl
theorem AN : Arr 27 19 zN.cells.toArray := ⟨.inr ⟨_, Tryz.underlying27⟩, by kernel_rfl, fun w => by kernel_rfl, fun w => by kernel_rfl, by rw [List.size_toArray, Nt.len]⟩
theorem ANr : Arr 44 19 zN.cells.toArray := ⟨.inr ⟨_, Tryz.underlying44⟩, by kernel_rfl, fun w => by kernel_rfl, fun w => by kernel_rfl, by rw [List.size_toArray, Nt.len]⟩
theorem Nt.all (x : Nt) : x.cells.toArray.all (·.oneCell') = true := by
  rw [Array.all_eq_true_iff_forall_mem]
  intro v hv
  exact x.one v (List.mem_toArray.1 hv)
theorem Nt.at_ip (x : Nt) (j : Nat) (h : j < 16) : x.cells[2 + j]? = (cellsL x.ip)[j]? := by
  have l1 : (cellsL x.ip).length = 16 := by rw [cellsL_len, x.hip]
  rw [Nat.add_comm 2 j]
  show (Value.int .u32 (x.time.toNat : Int) :: Value.int .u64 (x.serv.toNat : Int) :: (cellsL x.ip ++ [Value.int .u16 (x.port.toNat : Int)]))[j + 2]? = _
  rw [List.getElem?_cons_succ, List.getElem?_cons_succ, List.getElem?_append_left (by omega)]
def ldP (x : Value) : Sem Value := Instr.loadAt 24 x
theorem ldP_eq (x : Value) : Instr.loadAt 24 x = ldP x := rfl
theorem ldP_run {W : World} {g : Nat} {t : TypeId} {x : Nt} (h : W.heap[g]? = some (.cells x.cells.toArray t (0, 0))) : (ldP (.pointer (some ⟨g, 2, none⟩))).run Tryz.prog W = .ok (.agg (cellsL x.ip).toArray) W := by
  refine run_loadAt_mid W g 2 24 (cellsL x.ip) _ (fun j v hv => ?_) Tryz.underlying24 rfl (by rw [cellsL_len, x.hip]; kernel_rfl)
  have hj := (List.getElem?_eq_some_iff.1 hv).1
  rw [cellsL_len, x.hip] at hj
  rw [cell_of_row W g _ _ _ _ h, List.getElem?_toArray, x.at_ip j hj]
  exact hv
def bdN (x : Array (Nat × Value)) : Sem Value := Instr.build 44 x
theorem bdN_eq (x : Array (Nat × Value)) : Instr.build 44 x = bdN x := rfl
attribute [local go_sem ↓] ldP_eq bdN_eq
section
set_option maxRecDepth 10000
set_option maxHeartbeats 4000000
theorem net_any (x : Nt) (w : World) : Calls Tryz.prog 27 #[.agg x.cells.toArray] w fun e w' => e = .returned (.agg x.cells.toArray) ∧ Below w.heap.size w w' := by
  have b1 : Below w.heap.size w (w.alloc (.cells x.cells.toArray 27)) := (Below.refl _ _).alloc (Nat.le_refl _) _
  have e1 := heap_alloc_last w (.cells x.cells.toArray 27)
  have B2 := hide (b1.alloc b1.size (.cells x.cells.toArray 44))
  have r1 := (Below.heap_alloc _ (.cells zN.cells.toArray 44) _ (lt_heap e1)).trans e1
  have R2 := hide (heap_alloc_last (w.alloc (.cells x.cells.toArray 27)) (.cells x.cells.toArray 44))
  rw [show (w.alloc (.cells x.cells.toArray 27)).heap.size = w.heap.size + 1 by simp] at R2
  have c0 : ((w.alloc (.cells x.cells.toArray 27)).alloc (.cells zN.cells.toArray 44)).cell? ⟨w.heap.size, 0, none⟩ = some (.int .u32 (x.time.toNat : Int)) := by rw [cell_of_row _ _ _ _ _ _ r1]; rfl
  have c1 : ((w.alloc (.cells x.cells.toArray 27)).alloc (.cells zN.cells.toArray 44)).cell? ⟨w.heap.size, 1, none⟩ = some (.int .u64 (x.serv.toNat : Int)) := by rw [cell_of_row _ _ _ _ _ _ r1]; rfl
  have c3 : ((w.alloc (.cells x.cells.toArray 27)).alloc (.cells zN.cells.toArray 44)).cell? ⟨w.heap.size, 18, none⟩ = some (.int .u16 (x.port.toNat : Int)) := by rw [cell_of_row _ _ _ _ _ _ r1]; exact x.port_at
  have c2 := ldP_run r1
  have bn : ∀ W, (bdN #[(0, .int .u32 (x.time.toNat : Int)), (1, .int .u64 (x.serv.toNat : Int)), (2, .agg (cellsL x.ip).toArray), (3, .int .u16 (x.port.toNat : Int))]).run Tryz.prog W = .ok (.agg x.cells.toArray) W := fun W => run_bldN x W
  clear r1 e1 b1
  go_enter Tryz.func27, Tryz.ntmps27
  go_wp2_with (with_reducible refine at_list ?_; first | refine wpList_boxA rfl _ rfl x.cells.toArray rfl ?_ | refine wpList_allocA ANr rfl rfl ?_ | refine wpList_store_newA ANr rfl _ _ rfl _ (by simp) x.cells.toArray (by rw [List.size_toArray, Nt.len]) x.all rfl rfl ?_)
  refine bodyPost_ret (resA ANr rfl _ _ _ _ x.cells.toArray (by rw [List.size_toArray, Nt.len]) rfl R2.out) rfl ?_
  exact ⟨rfl, B2.out⟩
end
end Go.Proofs.YtkoidjaaojmcnaaGreat
namespace Go.Proofs.YtkoidjaaojmcnaaGreat
open Go.RowKit
open Go.Deep
theorem resA2 {t : TypeId} {n : Nat} {z : Array Value} (A : Arr t n z) {fn : Func} {p u : Tmp} (hf : fn.results = #[.cell p t, .tmp u]) (tmps : Array Value) (w : World) (g : Nat) (t' : TypeId) (c : Array Value) (hn : c.size = n)
    (hp : tmps.getD p undef = .pointer (some ⟨g, 0, none⟩)) (hg : w.heap[g]? = some (.cells c t' (0, 0))) (x : Value) (hx : tmps.getD u undef = x) : (results fn tmps).run Tryz.prog w = .ok (.tuple #[.agg c, x]) w := by
  subst hx
  have hp' : tmps[p]?.getD undef = .pointer (some ⟨g, 0, none⟩) := by simpa using hp
  rcases A.und with ⟨m, e, hd⟩ | ⟨fs, hd⟩ <;> simp [results, hf, hp', asAddr, run_loadVar_row w g t' t c (0, 0) _ hg hd rfl (by rw [A.info, hn])]
theorem resA3 {t : TypeId} {n : Nat} {z : Array Value} (A : Arr t n z) {fn : Func} {p u v : Tmp} (hf : fn.results = #[.cell p t, .tmp u, .tmp v]) (tmps : Array Value) (w : World) (g : Nat) (t' : TypeId) (c : Array Value) (hn : c.size = n)
    (hp : tmps.getD p undef = .pointer (some ⟨g, 0, none⟩)) (hg : w.heap[g]? = some (.cells c t' (0, 0))) (x : Value) (hx : tmps.getD u undef = x) (y : Value) (hy : tmps.getD v undef = y) : (results fn tmps).run Tryz.prog w = .ok (.tuple #[.agg c, x, y]) w := by
  subst hx hy
  have hp' : tmps[p]?.getD undef = .pointer (some ⟨g, 0, none⟩) := by simpa using hp
  rcases A.und with ⟨m, e, hd⟩ | ⟨fs, hd⟩ <;> simp [results, hf, hp', asAddr, run_loadVar_row w g t' t c (0, 0) _ hg hd rfl (by rw [A.info, hn])]
/-- A kind's command. -/
def cmdN : Nat → ByteArray
  | 1 => ⟨#[118, 101, 114, 115, 105, 111, 110]⟩
  | 2 => ⟨#[118, 101, 114, 97, 99, 107]⟩
  | 3 => ⟨#[103, 101, 116, 97, 100, 100, 114]⟩
  | 4 => ⟨#[115, 101, 110, 100, 104, 101, 97, 100, 101, 114, 115]⟩
  | 5 => ⟨#[112, 105, 110, 103]⟩
  | 6 => ⟨#[112, 111, 110, 103]⟩
  | 7 => ⟨#[97, 100, 100, 114]⟩
  | 8 => ⟨#[105, 110, 118]⟩
  | 9 => ⟨#[103, 101, 116, 100, 97, 116, 97]⟩
  | 10 => ⟨#[110, 111, 116, 102, 111, 117, 110, 100]⟩
  | 11 => ⟨#[103, 101, 116, 104, 101, 97, 100, 101, 114, 115]⟩
  | 12 => ⟨#[104, 101, 97, 100, 101, 114, 115]⟩
  | 13 => ⟨#[116, 120]⟩
  | 14 => ⟨#[98, 108, 111, 99, 107]⟩
  | 15 => ⟨#[115, 101, 110, 100, 99, 109, 112, 99, 116]⟩
  | 16 => ⟨#[99, 109, 112, 99, 116, 98, 108, 111, 99, 107]⟩
  | 17 => ⟨#[103, 101, 116, 98, 108, 111, 99, 107, 116, 120, 110]⟩
  | 18 => ⟨#[98, 108, 111, 99, 107, 116, 120, 110]⟩
  | _ => ⟨#[]⟩
def cmd (k : Int) : ByteArray := if 1 ≤ k ∧ k ≤ 18 then cmdN k.toNat else ⟨#[]⟩
theorem cmd_in (n : Nat) (h1 : 1 ≤ n) (h2 : n ≤ 18) : cmd (n : Int) = cmdN n := by
  unfold cmd
  rw [if_pos (by omega), Int.toNat_natCast]
theorem cmd_out (k : Int) (h : ¬ (1 ≤ k ∧ k ≤ 18)) : cmd k = ⟨#[]⟩ := by
  unfold cmd
  rw [if_neg h]
section
set_option maxRecDepth 10000
set_option maxHeartbeats 4000000
theorem command_any (k : Int) (w : World) : Calls Tryz.prog 13 #[.int .i64 k] w fun e w' => e = .returned (.string (cmd k)) ∧ w' = w := by
  by_cases h : 1 ≤ k ∧ k ≤ 18
  · obtain ⟨n, rfl⟩ := Int.eq_ofNat_of_zero_le (show 0 ≤ k by omega)
    obtain ⟨m, rfl⟩ : ∃ m : Fin 18, n = m.val + 1 := ⟨⟨n - 1, by omega⟩, by simp; omega⟩
    rw [cmd_in _ (by omega) (by omega)]
    clear h
    match m with
    | ⟨0, _⟩ =>
      simp only [cmdN]
      go_enter Tryz.func13, Tryz.ntmps13
      go_wp2
      go_ret
      exact ⟨rfl, rfl⟩
    | ⟨1, _⟩ =>
      simp only [cmdN]
      go_enter Tryz.func13, Tryz.ntmps13
      go_wp2
      go_ret
      exact ⟨rfl, rfl⟩
    | ⟨2, _⟩ =>
      simp only [cmdN]
      go_enter Tryz.func13, Tryz.ntmps13
      go_wp2
      go_ret
      exact ⟨rfl, rfl⟩
    | ⟨3, _⟩ =>
      simp only [cmdN]
      go_enter Tryz.func13, Tryz.ntmps13
      go_wp2
      go_ret
      exact ⟨rfl, rfl⟩
    | ⟨4, _⟩ =>
      simp only [cmdN]
      go_enter Tryz.func13, Tryz.ntmps13
      go_wp2
      go_ret
      exact ⟨rfl, rfl⟩
    | ⟨5, _⟩ =>
      simp only [cmdN]
      go_enter Tryz.func13, Tryz.ntmps13
      go_wp2
      go_ret
      exact ⟨rfl, rfl⟩
    | ⟨6, _⟩ =>
      simp only [cmdN]
      go_enter Tryz.func13, Tryz.ntmps13
      go_wp2
      go_ret
      exact ⟨rfl, rfl⟩
    | ⟨7, _⟩ =>
      simp only [cmdN]
      go_enter Tryz.func13, Tryz.ntmps13
      go_wp2
      go_ret
      exact ⟨rfl, rfl⟩
    | ⟨8, _⟩ =>
      simp only [cmdN]
      go_enter Tryz.func13, Tryz.ntmps13
      go_wp2
      go_ret
      exact ⟨rfl, rfl⟩
    | ⟨9, _⟩ =>
      simp only [cmdN]
      go_enter Tryz.func13, Tryz.ntmps13
      go_wp2
      go_ret
      exact ⟨rfl, rfl⟩
    | ⟨10, _⟩ =>
      simp only [cmdN]
      go_enter Tryz.func13, Tryz.ntmps13
      go_wp2
      go_ret
      exact ⟨rfl, rfl⟩
    | ⟨11, _⟩ =>
      simp only [cmdN]
      go_enter Tryz.func13, Tryz.ntmps13
      go_wp2
      go_ret
      exact ⟨rfl, rfl⟩
    | ⟨12, _⟩ =>
      simp only [cmdN]
      go_enter Tryz.func13, Tryz.ntmps13
      go_wp2
      go_ret
      exact ⟨rfl, rfl⟩
    | ⟨13, _⟩ =>
      simp only [cmdN]
      go_enter Tryz.func13, Tryz.ntmps13
      go_wp2
      go_ret
      exact ⟨rfl, rfl⟩
    | ⟨14, _⟩ =>
      simp only [cmdN]
      go_enter Tryz.func13, Tryz.ntmps13
      go_wp2
      go_ret
      exact ⟨rfl, rfl⟩
    | ⟨15, _⟩ =>
      simp only [cmdN]
      go_enter Tryz.func13, Tryz.ntmps13
      go_wp2
      go_ret
      exact ⟨rfl, rfl⟩
    | ⟨16, _⟩ =>
      simp only [cmdN]
      go_enter Tryz.func13, Tryz.ntmps13
      go_wp2
      go_ret
      exact ⟨rfl, rfl⟩
    | ⟨17, _⟩ =>
      simp only [cmdN]
      go_enter Tryz.func13, Tryz.ntmps13
      go_wp2
      go_ret
      exact ⟨rfl, rfl⟩
    | ⟨n + 18, h⟩ => exact absurd h (by omega)
  · rw [cmd_out k h]
    have h1 : (k == 1) = false := by rw [beq_eq_false_iff_ne]; omega
    have h2 : (k == 2) = false := by rw [beq_eq_false_iff_ne]; omega
    have h3 : (k == 3) = false := by rw [beq_eq_false_iff_ne]; omega
    have h4 : (k == 4) = false := by rw [beq_eq_false_iff_ne]; omega
    have h5 : (k == 5) = false := by rw [beq_eq_false_iff_ne]; omega
    have h6 : (k == 6) = false := by rw [beq_eq_false_iff_ne]; omega
    have h7 : (k == 7) = false := by rw [beq_eq_false_iff_ne]; omega
    have h8 : (k == 8) = false := by rw [beq_eq_false_iff_ne]; omega
    have h9 : (k == 9) = false := by rw [beq_eq_false_iff_ne]; omega
    have h10 : (k == 10) = false := by rw [beq_eq_false_iff_ne]; omega
    have h11 : (k == 11) = false := by rw [beq_eq_false_iff_ne]; omega
    have h12 : (k == 12) = false := by rw [beq_eq_false_iff_ne]; omega
    have h13 : (k == 13) = false := by rw [beq_eq_false_iff_ne]; omega
    have h14 : (k == 14) = false := by rw [beq_eq_false_iff_ne]; omega
    have h15 : (k == 15) = false := by rw [beq_eq_false_iff_ne]; omega
    have h16 : (k == 16) = false := by rw [beq_eq_false_iff_ne]; omega
    have h17 : (k == 17) = false := by rw [beq_eq_false_iff_ne]; omega
    have h18 : (k == 18) = false := by rw [beq_eq_false_iff_ne]; omega
    clear h
    go_enter Tryz.func13, Tryz.ntmps13
    go_wp2
    go_ret
    exact ⟨rfl, rfl⟩
/-- A message with nothing but its kind and a number. -/
def bareM (k : Int) (n : UInt64) : Mg := { zM with kind := k, nonce := n }
theorem zM_bare : bareM 0 0 = zM := rfl
theorem run_bld0 (k : Int) (w : World) : (Instr.build 38 #[(0, .int .i64 k)]).run Tryz.prog w = .ok (.agg ((bareM k 0).cells nil8).toArray) w := by kernel_rfl
theorem run_bld3 (k : Int) (n : UInt64) (w : World) : (Instr.build 38 #[(0, .int .i64 k), (3, .int .u64 (n.toNat : Int))]).run Tryz.prog w = .ok (.agg ((bareM k n).cells nil8).toArray) w := by kernel_rfl
theorem nil8_ok : nil8.ok := ⟨⟨_, _, _, rfl⟩, ⟨_, _, _, rfl⟩, ⟨_, _, _, rfl⟩, ⟨_, _, _, rfl⟩, ⟨_, _, _, rfl⟩, ⟨_, _, _, rfl⟩, ⟨_, _, _, rfl⟩, ⟨_, _, _, rfl⟩⟩
theorem bare_ML (k : Int) (n : UInt64) (w : World) : ML w nil8 (bareM k n) := ⟨LX.nil w, LX.nil w, LX.nil w, LX.nil w, LX.nil w, LX.nil w, LX.nil w, LX.nil w⟩
def bdM (x : Array (Nat × Value)) : Sem Value := Instr.build 38 x
theorem bdM_eq (x : Array (Nat × Value)) : Instr.build 38 x = bdM x := rfl
attribute [local go_sem ↓] bdM_eq
theorem bare_any (k : Int) (w : World) : Calls Tryz.prog 17 #[.int .i64 k] w fun e w' => e = .returned (.agg ((bareM k 0).cells nil8).toArray) ∧ Below w.heap.size w w' := by
  have B1 := hide ((Below.refl w.heap.size w).alloc (Nat.le_refl _) (.cells ((bareM k 0).cells nil8).toArray 38))
  have R1 := hide (heap_alloc_last w (.cells ((bareM k 0).cells nil8).toArray 38))
  have hb : ∀ W, (bdM #[(0, .int .i64 k)]).run Tryz.prog W = .ok (.agg ((bareM k 0).cells nil8).toArray) W := fun W => run_bld0 k W
  have HO := hide ((bareM k 0).one nil8 nil8_ok)
  have HZ := hide ((bareM k 0).size nil8)
  generalize ((bareM k 0).cells nil8).toArray = C at *
  go_enter Tryz.func17, Tryz.ntmps17
  go_wp2_with ((with_reducible refine at_list ?_); first | refine wpList_allocA AM rfl rfl ?_ | refine wpList_store_newA AM rfl _ _ rfl _ rfl C HZ.out HO.out rfl rfl ?_)
  refine bodyPost_ret (resA AM rfl _ _ _ _ C HZ.out rfl R1.out) rfl ?_
  exact ⟨rfl, B1.out⟩
theorem nonced_yes (k : Int) (n : UInt64) (hk : k = 5 ∨ k = 6) (w : World) : Calls Tryz.prog 28 #[.int .i64 k, .int .u64 (n.toNat : Int)] w fun e w' => e = .returned (.tuple #[.agg ((bareM k n).cells nil8).toArray, .int .i64 0]) ∧ Below w.heap.size w w' := by
  have B1 := hide ((Below.refl w.heap.size w).alloc (Nat.le_refl _) (.cells ((bareM k n).cells nil8).toArray 38))
  have R1 := hide (heap_alloc_last w (.cells ((bareM k n).cells nil8).toArray 38))
  have hb : ∀ W, (bdM #[(0, .int .i64 k), (3, .int .u64 (n.toNat : Int))]).run Tryz.prog W = .ok (.agg ((bareM k n).cells nil8).toArray) W := fun W => run_bld3 k n W
  have HO := hide ((bareM k n).one nil8 nil8_ok)
  have HZ := hide ((bareM k n).size nil8)
  generalize ((bareM k n).cells nil8).toArray = C at *
  rcases hk with rfl | rfl
  all_goals
    go_enter Tryz.func28, Tryz.ntmps28
    go_wp2_with ((with_reducible refine at_list ?_); first | refine wpList_allocA AM rfl rfl ?_ | refine wpList_store_newA AM rfl _ _ rfl _ rfl C HZ.out HO.out rfl rfl ?_)
    refine bodyPost_ret (resA2 AM rfl _ _ _ _ C HZ.out rfl R1.out _ rfl) rfl ?_
    exact ⟨rfl, B1.out⟩
end
end Go.Proofs.YtkoidjaaojmcnaaGreat
