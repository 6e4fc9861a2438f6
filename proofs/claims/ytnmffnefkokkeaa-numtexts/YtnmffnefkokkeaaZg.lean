/- Texts read as hashes: the contract of num's Parse. -/
import Derived.Test.YtnmffnefkokkeaaZf
namespace Go.Proofs.Ytnmffnefkokkeaa
open Go.RowKit
open Go.Deep
theorem res33_3 {fn : Func} {p u v : Tmp} (hf : fn.results = #[.cell p 33, .tmp u, .tmp v]) (tmps : Array Value) (w : World) (g : Nat) (t : TypeId) (l : List UInt8) (hl : l.length = 32)
    (hp : tmps.getD p undef = .pointer (some ⟨g, 0, none⟩)) (hg : w.heap[g]? = some (.cells (hc l) t (0, 0))) (x y : Value) (hx : tmps.getD u undef = x) (hy : tmps.getD v undef = y) :
    (results fn tmps).run Try.prog w = .ok (.tuple #[.agg (hc l), x, y]) w := by
  subst hx hy
  have hp' : tmps[p]?.getD undef = .pointer (some ⟨g, 0, none⟩) := by simpa using hp
  simp [results, hf, hp', asAddr, run_loadVar_row w g t 33 (hc l) (0, 0) _ hg Try.underlying33 rfl (by rw [info33, hc_size, hl])]
theorem wpList_build33 {w : World} {ops : Array Oper} {rest : List Oper} {o : Oper} {a : Act} {Q : Exit → Act → World → Prop} (hgd : o.guard = none) (ho : o.op = .build 33 #[])
    (h : wpList Try.prog ops Q rest (a.put o.dst (.agg (hc zeros))) w) : wpList Try.prog ops Q (o :: rest) a w := by
  refine wpList_plain hgd fun K hK => ?_
  unfold Oper.wp execOp
  simp only [ho, List.map_toArray, List.map_nil, run_build33, Sem.run_bind, Result.andThen_ok, Sem.run_pure]
  exact hK _ _ h
theorem lt_heap {w : World} {g : Nat} {A : Obj} (h : w.heap[g]? = some A) : g < w.heap.size := by
  rcases Nat.lt_or_ge g w.heap.size with h' | h'
  · exact h'
  · rw [Array.getElem?_eq_none h'] at h
    cases h
theorem size5' : (Try.prog.info? 5).map (·.size) = some 1 := by kernel_rfl
theorem copy33s (w : World) (g g2 : Nat) (l l0 : List UInt8) (hl : l.length = 32) (hl0 : l0.length = 32) (t t2 : TypeId) (hg : w.heap[g]? = some (.cells (hc l0) t (0, 0))) (hg2 : w.heap[g2]? = some (.cells (hc l) t2 (0, 0))) :
    (Builtin.copy_ #[40, 40] 3 #[.slice (some ⟨g, 0, none⟩) 32 32, .slice (some ⟨g2, 0, none⟩) 32 32]).run Try.prog w = .ok (.int .i64 32) (w.setRow g (hc l)) := by
  have hle : (cellsL l).length = 32 := by rw [cellsL_len]; exact hl
  have := run_copy_row (P := Try.prog) w 40 40 3 5 g 0 32 32 ⟨g2, 0, none⟩ 32 32 (hc l0) t (cellsL l) Try.underlying40 size5' hg (by rw [hle]; decide) (fun j u hu => by
    have hadd : (⟨g2, 0, none⟩ : Addr).add j = ⟨g2, j, none⟩ := by unfold Addr.add; split <;> simp_all
    rw [hadd, cell_of_row w g2 j _ t2 (0, 0) hg2]
    simpa [hc] using hu) (by rw [hle, hc_size, hl0]; decide) (fun v hv => by simp only [cellsL, List.mem_map] at hv; obtain ⟨b, _, rfl⟩ := hv; rfl)
  rw [this, hle, List.take_zero, List.nil_append, Nat.zero_add, List.drop_of_length_le (by rw [Array.length_toList, hc_size, hl0]; exact Nat.le_refl _), List.append_nil]
  rfl
theorem parse_mid {w w3 : World} {L : List UInt8} (hul : L.length = 32)
    (hrow : w3.heap[((w.alloc (.cells (hc zeros) 33)).alloc (.cells (hc zeros) 33)).drew.heap.size]? = some (.cells (hc L) 5 (0, 0)))
    (hbel : Below ((w.alloc (.cells (hc zeros) 33)).alloc (.cells (hc zeros) 33)).drew.heap.size ((w.alloc (.cells (hc zeros) 33)).alloc (.cells (hc zeros) 33)).drew w3) :
    Hid ((w3.setRow (w.heap.size + 1) (hc L)).heap[w.heap.size]? = some (.cells (hc zeros) 33 (0, 0))) ∧
    (Builtin.copy_ #[40, 40] 3 #[.slice (some ⟨w.heap.size + 1, 0, none⟩) 32 32, .slice (some ⟨w.heap.size + 1 + 1, 0, none⟩) 32 32]).run Try.prog w3 = .ok (.int .i64 32) (w3.setRow (w.heap.size + 1) (hc L)) ∧
    Hid ((w3.setRow (w.heap.size + 1) (hc L)).heap[w.heap.size + 1]? = some (.cells (hc L) 33 (0, 0))) ∧ Hid (Below w.heap.size w (w3.setRow (w.heap.size + 1) (hc L))) := by
  have hN : ((w.alloc (.cells (hc zeros) 33)).alloc (.cells (hc zeros) 33)).drew.heap.size = w.heap.size + 1 + 1 := by simp
  rw [hN] at hrow hbel
  have h0 : w3.heap[w.heap.size]? = some (.cells (hc zeros) 33 (0, 0)) := (hbel.block _ (by omega)).trans (heap_alloc2_old w _ _)
  have h1 : w3.heap[w.heap.size + 1]? = some (.cells (hc zeros) 33 (0, 0)) := (hbel.block _ (by omega)).trans (heap_alloc2_new w _ _)
  have b := (two_below w (.cells (hc zeros) 33) (.cells (hc zeros) 33)).drew.trans (hbel.mono (by omega))
  exact ⟨(setRow_other _ _ _ _ (by omega)).trans h0, copy33s w3 _ _ L zeros hul zeros_len 33 5 h1 hrow, setRow_heap _ _ _ _ _ _ h1, below_setRow b (by omega) _⟩
/-- What Parse answers as a hash. -/
def parseH (s : ByteArray) : List UInt8 := if (parseS s).2 < 0 then (unhexL s.data.toList).reverse else zeros
section
set_option maxRecDepth 10000
set_option maxHeartbeats 400000
theorem parse_bad (s : ByteArray) (hs : s.size ≤ 281474976710656) (h : min (good s.data.toList) 64 < 64 ∨ 64 < s.size) (w : World) : Calls Try.prog 16 #[.string s] w fun e w' =>
    e = .returned (.tuple #[.agg (hc zeros), .int .i64 (min (good s.data.toList) 64 : Nat), .int .i64 10]) ∧ Below w.heap.size w w' := by
  have HG := hide fun W => goodDigits_any s (by unfold maxLen; omega) W
  have hgl := good_le s.data.toList
  have hsz : s.data.toList.length = s.size := by simp
  generalize good s.data.toList = n at *
  by_cases h1 : n < 64
  · rw [show min n 64 = n by omega]
    have hm : min (n : Int) 64 = n := by omega
    clear h
    go_enter Try.func16, Try.ntmps16
    go_wp2_with (first | refine wpList_alloc33 rfl rfl ?_ | (go_at_call 50; refine (HG.out _).mono ?_; rintro e w1 ⟨rfl, rfl⟩) | refine wpList_build33 rfl rfl ?_ | refine wpList_store33_new rfl _ _ rfl _ rfl _ zeros_len rfl rfl zeros_len ?_)
    exact bodyPost_ret (v := .tuple #[.agg (hc zeros), .int .i64 n, .int .i64 10]) (res33_3 Try.results16 _ _ w.heap.size 33 zeros zeros_len rfl (heap_alloc_new w _) _ _ rfl rfl) rfl ⟨rfl, (Below.refl _ _).alloc (Nat.le_refl _) _⟩
  · have h2 : 64 < s.size := by omega
    rw [show min n 64 = 64 by omega]
    have h2' : (64 : Int) < s.size := by omega
    have h1' : ¬ (n : Int) < 64 := by omega
    clear h
    by_cases h3 : n = 64
    · subst h3
      rw [show (((64 : Nat) : Int)) = 64 from rfl] at HG
      clear h1' h1
      go_enter Try.func16, Try.ntmps16
      go_wp2_with (first | refine wpList_alloc33 rfl rfl ?_ | (go_at_call 50; refine (HG.out _).mono ?_; rintro e w1 ⟨rfl, rfl⟩) | refine wpList_build33 rfl rfl ?_ | refine wpList_store33_new rfl _ _ rfl _ rfl _ zeros_len rfl rfl zeros_len ?_)
      exact bodyPost_ret (v := .tuple #[.agg (hc zeros), .int .i64 64, .int .i64 10]) (res33_3 Try.results16 _ _ w.heap.size 33 zeros zeros_len rfl (heap_alloc_new w _) _ _ rfl rfl) rfl ⟨rfl, (Below.refl _ _).alloc (Nat.le_refl _) _⟩
    · have h4 : ¬ (n : Int) ≤ 64 := by omega
      go_enter Try.func16, Try.ntmps16
      go_wp2_with (first | refine wpList_alloc33 rfl rfl ?_ | (go_at_call 50; refine (HG.out _).mono ?_; rintro e w1 ⟨rfl, rfl⟩) | refine wpList_build33 rfl rfl ?_ | refine wpList_store33_new rfl _ _ rfl _ rfl _ zeros_len rfl rfl zeros_len ?_)
      exact bodyPost_ret (v := .tuple #[.agg (hc zeros), .int .i64 64, .int .i64 10]) (res33_3 Try.results16 _ _ w.heap.size 33 zeros zeros_len rfl (heap_alloc_new w _) _ _ rfl rfl) rfl ⟨rfl, (Below.refl _ _).alloc (Nat.le_refl _) _⟩
theorem parse_good (s : ByteArray) (h : s.size = 64) (ha : s.data.toList.all isD = true) (w : World) : Calls Try.prog 16 #[.string s] w fun e w' =>
    e = .returned (.tuple #[.agg (hc (unhexL s.data.toList).reverse), .int .i64 0, .int .i64 0]) ∧ Below w.heap.size w w' := by
  have HG := hide fun W => goodDigits_any s (by unfold maxLen; omega) W
  have HP := hide fun W => pairs_any s (by omega) ha W
  have hul := unhexL_len s.data.toList
  have hsz : s.data.toList.length = s.size := by simp
  rw [hsz, h] at hul
  rw [good_full s ha] at HG
  rw [h] at HG HP
  rw [show (((64 : Nat) : Int)) = 64 from rfl] at HG
  generalize unhexL s.data.toList = L at *
  have HT := hide fun W => turn_any L hul W
  have hlr : L.reverse.length = 32 := by rw [List.length_reverse, hul]
  have hs' : (s.size : Int) = 64 := by omega
  clear ha hsz
  go_enter Try.func16, Try.ntmps16
  go_wp2_with (first | refine wpList_alloc33 rfl rfl ?_ | (go_at_call 50; refine (HG.out _).mono ?_; rintro e w1 ⟨rfl, rfl⟩))
  go_region_with (go_at_call 51; refine (HP.out _).mono ?_; rintro e w3 ⟨rfl, hrow, hbel⟩; obtain ⟨H0, hcp, H1, B3⟩ := parse_mid hul hrow hbel; clear hrow hbel)
  all_goals go_wp2_with (first | refine wpList_load33 rfl _ rfl _ rfl L hul 33 H1.out ?_ | (go_at_call 53; refine (HT.out _).mono ?_; rintro e w5 ⟨rfl, hb5⟩; have H5 := hide ((hb5.block _ (lt_heap H0.out)).trans H0.out); have B5 := hide (B3.out.trans (hb5.mono B3.out.size)); clear hb5) | refine wpList_store33 rfl _ _ rfl _ L.reverse hlr rfl rfl zeros zeros_len 33 H5.out ?_)
  all_goals exact bodyPost_ret (v := .tuple #[.agg (hc L.reverse), .int .i64 0, .int .i64 0]) (res33_3 Try.results16 _ _ w.heap.size 33 L.reverse hlr rfl (setRow_heap _ _ _ _ _ _ H5.out) _ _ rfl rfl) rfl ⟨rfl, below_setRow B5.out (Nat.le_refl _) _⟩
theorem parse_any (s : ByteArray) (hs : s.size ≤ 281474976710656) (w : World) : Calls Try.prog 16 #[.string s] w fun e w' =>
    e = .returned (.tuple #[.agg (hc (parseH s)), .int .i64 (if (parseS s).2 < 0 then 0 else (parseS s).2), .int .i64 (if (parseS s).2 < 0 then 0 else 10)]) ∧ Below w.heap.size w w' := by
  by_cases h : min (good s.data.toList) 64 < 64 ∨ 64 < s.size
  · have e : (parseS s).2 = ((min (good s.data.toList) 64 : Nat) : Int) := by unfold parseS; rw [if_pos h]
    have e2 : ¬ (parseS s).2 < 0 := by rw [e]; omega
    unfold parseH
    rw [if_neg e2, if_neg e2, if_neg e2, e]
    exact parse_bad s hs h w
  · have hgl := good_le s.data.toList
    have hsz : s.data.toList.length = s.size := by simp
    have e : (parseS s).2 = -1 := by unfold parseS; rw [if_neg h]
    have e2 : (parseS s).2 < 0 := by rw [e]; decide
    unfold parseH
    rw [if_pos e2, if_pos e2, if_pos e2]
    exact parse_good s (by omega) (good_all _ (by omega)) w
end
end Go.Proofs.Ytnmffnefkokkeaa
