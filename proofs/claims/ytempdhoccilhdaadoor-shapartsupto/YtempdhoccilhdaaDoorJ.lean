/- The contracts of New, Clone, Len and State. -/
import Derived.Test.YtempdhoccilhdaaDoorI
namespace Go.Proofs.YtempdhoccilhdaaDoor
open Go.RowKit
open Go.Deep
theorem run_build72 (w : World) (s : St) : (Instr.build 72 #[(0, .agg (uc s.list))]).run Tryd.prog w = .ok (.agg (hsA s zeros64 0)) w := by
  obtain ⟨a, b, c, d, e, f, g, h⟩ := s
  kernel_rfl
theorem wpList_build72 {w : World} {ops : Array Oper} {rest : List Oper} {o : Oper} {a : Act} {Q : Exit → Act → World → Prop} (hgd : o.guard = none) (x : Operand) (ho : o.op = .build 72 #[(0, x)]) (s : St) (hx : a.eval x = .agg (uc s.list))
    (h : wpList Tryd.prog ops Q rest (a.put o.dst (.agg (hsA s zeros64 0))) w) : wpList Tryd.prog ops Q (o :: rest) a w := by
  refine wpList_plain hgd fun K hK => ?_
  unfold Oper.wp execOp
  simp only [ho, List.map_toArray, List.map_cons, List.map_nil, hx, run_build72 w s, Sem.run_bind, Result.andThen_ok, Sem.run_pure]
  exact hK _ _ h
theorem Hat.empty {w : World} {b : Nat} (h : w.heap[b]? = some (.cells (hsA first zeros64 0) 72 (0, 0))) : Hat w b [] :=
  ⟨zeros64, zeros64_len, rfl, Hst.of_heap zeros64_len h⟩
section
set_option maxRecDepth 10000
set_option maxHeartbeats 1000000
theorem new_any (w : World) : Calls Tryd.prog 20 #[] w fun e w' => ∃ b, e = .returned (.pointer (some ⟨b, 0, none⟩)) ∧ Hat w' b [] ∧ Below w.heap.size w w' ∧ w.heap.size ≤ b := by
  have HF := hide fun W => first_any W
  go_enter Tryd.func20, Tryd.ntmps20
  go_wp2_with (first | (go_at_call 16; refine (HF.out _).mono ?_; rintro e w1 ⟨rfl, b1⟩) | refine wpList_build72 rfl _ rfl first rfl ?_ | refine wpList_boxA rfl _ rfl (hsA first zeros64 0) rfl ?_)
  go_ret
  exact ⟨w1.heap.size, rfl, Hat.empty (heap_alloc_last _ _), b1.alloc b1.size _, b1.size⟩
theorem clone_any (b : Nat) (t : List UInt8) (w : World) (h : Hat w b t) : Calls Tryd.prog 21 #[.pointer (some ⟨b, 0, none⟩)] w fun e w' => ∃ b', e = .returned (.pointer (some ⟨b', 0, none⟩)) ∧ Hat w' b' t ∧ Below w.heap.size w w' ∧ w.heap.size ≤ b' := by
  obtain ⟨tl, hl, ht, hh⟩ := h
  have HP := hide (hh.heap hl)
  have H1 := hide ht
  generalize hS : hsA (stN t (t.length / 64)) tl t.length = cs at *
  have hz : cs.size = 73 := by rw [← hS]; exact hsA_size _ _ _ hl
  have h1 : cs.all (·.oneCell') = true := by rw [← hS]; exact hsA_one _ _ _
  have HS := hide hS
  have HZ := hide hz
  have HO := hide h1
  clear hS hh ht hz h1
  go_enter Tryd.func21, Tryd.ntmps21
  go_wp2_with (first | refine wpList_loadA A72 rfl _ rfl _ rfl cs HZ.out 72 HP.out ?_ | refine wpList_allocA A72 rfl rfl ?_ | refine wpList_store_newA A72 rfl _ _ rfl _ rfl cs HZ.out HO.out rfl rfl ?_)
  go_ret
  refine ⟨w.heap.size, rfl, ⟨tl, hl, H1.out, Hst.of_heap hl ?_⟩, (Below.refl _ _).alloc (Nat.le_refl _) _, Nat.le_refl _⟩
  rw [HS.out]
  exact heap_alloc_last _ _
theorem clone_nil (w : World) : Calls Tryd.prog 21 #[.pointer none] w fun e w' => e = .returned (.pointer none) ∧ w' = w := by
  go_enter Tryd.func21, Tryd.ntmps21
  go_wp2
  go_ret
  exact ⟨rfl, rfl⟩
theorem len_any (b : Nat) (t : List UInt8) (w : World) (h : Hat w b t) : Calls Tryd.prog 25 #[.pointer (some ⟨b, 0, none⟩)] w fun e w' => e = .returned (.int .u64 (t.length : Int)) ∧ w' = w := by
  obtain ⟨tl, hl, ht, hh⟩ := h
  have c72 := hh.long
  clear hh ht
  go_enter Tryd.func25, Tryd.ntmps25
  go_wp2
  go_ret
  exact ⟨rfl, rfl⟩
theorem len_nil (w : World) : Calls Tryd.prog 25 #[.pointer none] w fun e w' => e = .returned (.int .u64 0) ∧ w' = w := by
  go_enter Tryd.func25, Tryd.ntmps25
  go_wp2
  go_ret
  exact ⟨rfl, rfl⟩
theorem write_nil (q : ByteArray) (w : World) : Calls Tryd.prog 23 #[.pointer none, .string q] w fun e w' => e = .returned (.tuple #[]) ∧ w' = w := by
  go_enter Tryd.func23, Tryd.ntmps23
  go_wp2
  exact bodyPost_ret (v := .tuple #[]) (by simp [results, Tryd.results23, go_sem]) rfl ⟨rfl, rfl⟩
end
/-- A part of a hasher's tail, turned into a string. -/
theorem Hst.conv {w : World} {b : Nat} {s : St} {tl : List UInt8} {n : Nat} (hl : tl.length = 64) (h : Hst w b s tl n) (r C : Nat) (hr : r ≤ 64) : (convert 46 9 (.slice (some ⟨b, 8, none⟩) r C)).run Tryd.prog w = .ok (.string ⟨(tl.take r).toArray⟩) w := by
  have hlen : (tl.take r).length = r := by rw [List.length_take]; omega
  have := run_convert_bytes_back (P := Tryd.prog) w 46 9 5 ⟨b, 8, none⟩ C (tl.take r) Tryd.underlying46 Tryd.underlying5 Tryd.underlying9 (fun j hj => by
    rw [Addr.add_mid]
    refine (h.range35 hl) j _ ?_
    rw [hlen] at hj
    simp [cellsL, List.getElem?_eq_getElem (show j < tl.length by omega)])
  rwa [hlen] at this
theorem res31_2 {fn : Func} {p u : Tmp} (hf : fn.results = #[.cell p 31, .tmp u]) (tmps : Array Value) (w : World) (g : Nat) (t : TypeId) (s : St)
    (hp : tmps.getD p undef = .pointer (some ⟨g, 0, none⟩)) (hg : w.heap[g]? = some (.cells (uc s.list) t (0, 0))) (x : Value) (hx : tmps.getD u undef = x) :
    (results fn tmps).run Tryd.prog w = .ok (.tuple #[.agg (uc s.list), x]) w := by
  subst hx
  have hp' : tmps[p]?.getD undef = .pointer (some ⟨g, 0, none⟩) := by simpa using hp
  simp [results, hf, hp', asAddr, run_loadVar_row w g t 31 (uc s.list) (0, 0) _ hg Tryd.underlying31 rfl A31.info]
theorem sv31_row {w : World} {g : Nat} {c0 : Array Value} {t : TypeId} (hn : c0.size = 8) (hg : w.heap[g]? = some (.cells c0 t (0, 0))) (s : St) : (sv31 (.pointer (some ⟨g, 0, none⟩)) (.agg (uc s.list))).run Tryd.prog w = .ok () (w.setRow g (uc s.list)) := by
  unfold sv31
  simp only [Instr.storeAt, Instr.sureAddr, Sem.run_bind, Sem.run_pure, Result.andThen_ok]
  rw [run_storeVar_row w g t 31 c0 (uc s.list) hg A31.info (by rw [hn]; rfl) (uc_one _)]
attribute [local go_sem ↓] ld31_eq sv31_eq
section
set_option maxRecDepth 10000
set_option maxHeartbeats 1000000
theorem state_any (b : Nat) (t : List UInt8) (w : World) (h : Hat w b t) : Calls Tryd.prog 24 #[.pointer (some ⟨b, 0, none⟩)] w fun e w' => e = .returned (.tuple #[.agg (uc (stN t (t.length / 64)).list), .string ⟨(rest t).toArray⟩]) ∧ Below w.heap.size w w' := by
  have hblt := h.lt
  obtain ⟨tl, hl, ht, hh⟩ := h
  have HT := hide ht
  have hh1 : Hst (w.alloc (.cells (uc zw8) 31)).drew b (stN t (t.length / 64)) tl t.length := hh.below ((Below.refl w.heap.size w).alloc (Nat.le_refl _) (.cells (uc zw8) 31)).drew
  generalize hn : t.length = n at *
  generalize stN t (n / 64) = st at *
  have l1 := hh1.ld31
  have c72 := hh1.long
  have hcv := hh1.conv hl (n % 64) 64 (by omega)
  have hsv := sv31_row (w := (w.alloc (.cells (uc zw8) 31)).drew) (g := w.heap.size) (c0 := uc zw8) (t := 31) (by rw [uc_size, zw8_len]) (heap_alloc_last _ _) st
  have hh2 : Hst ((w.alloc (.cells (uc zw8) 31)).drew.setRow w.heap.size (uc st.list)) b st tl n := hh1.of_block (setRow_other _ _ _ _ (by omega))
  have d72 := hh2.long
  have hcv2 := hh2.conv hl (n % 64) 64 (by omega)
  have b1 : (0 : Int) ≤ (n : Int) % 64 := by omega
  have b2 : (n : Int) % 64 ≤ 64 := by omega
  have e1 : ((n : Int) % 64).toNat = n % 64 := by omega
  have hbn : ¬ b = w.heap.size := by omega
  clear ht hh hh1 hh2
  go_enter Tryd.func24, Tryd.ntmps24
  go_wp2_with (refine wpList_allocA A31 rfl rfl ?_)
  go_region
  all_goals go_wp2
  all_goals
    refine bodyPost_ret (v := .tuple #[.agg (uc st.list), .string ⟨(tl.take (n % 64)).toArray⟩]) (res31_2 Tryd.results24 _ _ w.heap.size 31 st rfl (setRow_heap (w.alloc (.cells (uc zw8) 31)).drew _ _ _ _ _ (heap_alloc_last _ _)) _ rfl) rfl ⟨by rw [HT.out], below_setRow ((Below.refl _ _).alloc (Nat.le_refl _) _).drew (Nat.le_refl _) _⟩
theorem state_nil (w : World) : Calls Tryd.prog 24 #[.pointer none] w fun e w' => e = .returned (.tuple #[.agg (uc first.list), .string ⟨#[]⟩]) ∧ Below w.heap.size w w' := by
  have HF := hide fun W => first_any W
  go_enter Tryd.func24, Tryd.ntmps24
  go_wp2_with (first | refine wpList_allocA A31 rfl rfl ?_ | (go_at_call 16; refine (HF.out _).mono ?_; rintro e w1 ⟨rfl, b1⟩; have h1 := hide ((b1.block w.heap.size (by simp)).trans (heap_alloc_last w (.cells (uc zw8) 31))); have B1 := hide (((Below.refl w.heap.size w).alloc (Nat.le_refl _) (.cells (uc zw8) 31)).trans (b1.mono (by simp))); clear b1) | refine wpList_storeA A31 rfl _ _ rfl _ (uc first.list) rfl (uc_one _) rfl rfl (uc zw8) (by rw [uc_size, zw8_len]) 31 h1.out ?_)
  exact bodyPost_ret (v := .tuple #[.agg (uc first.list), .string ⟨#[]⟩]) (res31_2 Tryd.results24 _ _ w.heap.size 31 first rfl (setRow_heap _ _ _ _ _ _ h1.out) _ rfl) rfl ⟨rfl, below_setRow B1.out (Nat.le_refl _) _⟩
end
end Go.Proofs.YtempdhoccilhdaaDoor
