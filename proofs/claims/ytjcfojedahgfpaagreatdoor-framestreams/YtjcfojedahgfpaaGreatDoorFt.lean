/- Streams: the contracts of the document's Feed and Next. -/
import Derived.Test.YtjcfojedahgfpaaGreatDoorFr
namespace Go.Proofs.YtjcfojedahgfpaaGreatDoor
open Go.RowKit
open Go.Deep
theorem yl_load {S : World → Prop} {ops : Array Oper} {o : Oper} {a : Act} (hw : Region.wanted o (yielded ops a.tmps) = true) {t : TypeId} (x : Operand) (ho : o.op = .load t x) (v : Value) (c : Array Value) (hx : a.eval x = v) (hr : ∀ W, S W → (Instr.loadAt t v).run Tryz.prog W = .ok (.agg c) W) : YieldsIf Tryz.prog ops S o (.agg c) a :=
  .inl ⟨hw, fun W hW => by
    unfold execOp
    simp only [ho, hx, hr W hW, Sem.run_bind, Result.andThen_ok, Sem.run_pure]⟩
theorem resA5 {t : TypeId} {n : Nat} {z : Array Value} (A : Arr t n z) {fn : Func} {p u v s y : Tmp} (hf : fn.results = #[.cell p t, .tmp u, .tmp v, .tmp s, .tmp y]) (tmps : Array Value) (w : World) (g : Nat) (t' : TypeId) (c : Array Value) (hn : c.size = n)
    (hp : tmps.getD p undef = .pointer (some ⟨g, 0, none⟩)) (hg : w.heap[g]? = some (.cells c t' (0, 0))) (x1 : Value) (h1 : tmps.getD u undef = x1) (x2 : Value) (h2 : tmps.getD v undef = x2) (x3 : Value) (h3 : tmps.getD s undef = x3) (x4 : Value) (h4 : tmps.getD y undef = x4) : (results fn tmps).run Tryz.prog w = .ok (.tuple #[.agg c, x1, x2, x3, x4]) w := by
  subst h1 h2 h3 h4
  have hp' : tmps[p]?.getD undef = .pointer (some ⟨g, 0, none⟩) := by simpa using hp
  rcases A.und with ⟨m, e, hd⟩ | ⟨fs, hd⟩ <;> simp [results, hf, hp', asAddr, run_loadVar_row w g t' t c (0, 0) _ hg hd rfl (by rw [A.info, hn])]
theorem txt_app (l : List UInt8) (s : ByteArray) : txt l ++ s = txt (l ++ s.data.toList) := by
  apply ByteArray.ext
  rw [← Array.toList_inj]
  simp [txt]
section
set_option maxRecDepth 10000
set_option maxHeartbeats 4000000
set_option linter.unusedVariables false
theorem rfeed_any (x : Sq) (hl : x.held.length ≤ 32816) (s : ByteArray) (hs : s.size ≤ maxLen) (w : World) : Calls Tryz.prog 7 #[.agg (m4 x), .string s] w fun e w' => e = .returned (.tuple #[.agg (m4 (x.feed s.data.toList).1), .int .i64 (x.feed s.data.toList).2]) ∧ Below w.heap.size w w' := by
  have B1 : Hid (Below w.heap.size w ((w.alloc (.cells (m4 x) 28)).alloc (.cells mz4 28))) := two_below w _ _
  have R1 : Hid (((w.alloc (.cells (m4 x) 28)).alloc (.cells mz4 28)).heap[w.heap.size]? = some (.cells (m4 x) 28 (0, 0))) := (blk2 w _ _).1
  have Z1 : Hid (((w.alloc (.cells (m4 x) 28)).alloc (.cells mz4 28)).heap[w.heap.size + 1]? = some (.cells mz4 28 (0, 0))) := (blk2 w _ _).2
  unfold maxLen at hs
  have hz : (txt x.held).size = x.held.length := txt_size _
  have HG := hide (show w.heap.size ≤ w.heap.size + 1 by omega)
  have NE : Hid (w.heap.size + 1 ≠ w.heap.size) := by show _ ≠ _; omega
  generalize hF : x.feed s.data.toList = F
  have HF := hide hF
  clear hF
  unfold Sq.feed at HF
  go_enter Tryz.func7, Tryz.ntmps7
  go_upto_region 1 with (first | refine wpList_boxA rfl _ rfl (m4 x) rfl ?_ | refine wpList_allocA AM rfl rfl ?_)
  generalize (w.alloc (.cells (m4 x) 28)).alloc (.cells mz4 28) = W1 at *
  generalize w.heap.size + 1 = g4 at *
  obtain ⟨x0, x1, x2, x3⟩ := m4_cells R1.out
  by_cases hb : x.broken = 0
  · rw [hb] at x2
    rw [if_neg (by simp [hb])] at HF
    have hsl : s.data.toList.length = s.size := by simp
    rw [hsl] at HF
    have HE : Hid (∀ k, k = min s.size (32816 - x.held.length) → txt x.held ++ s.extract 0 k = txt (x.held ++ s.data.toList.take (32816 - x.held.length))) := by
      intro k hk
      rw [txt_app]
      congr 2
      rw [exl s 0 k k (by omega), List.drop_zero]
      by_cases hh : s.size ≤ 32816 - x.held.length
      · rw [hk, Nat.min_eq_left hh, List.take_of_length_le (by simp), List.take_of_length_le (by simpa using hh)]
      · rw [hk, Nat.min_eq_right (by omega)]
    have f1 := frozen_of_row W1 w.heap.size 1 _ _ R1.out
    have hcs : (s.size : Int) < 32816 - ((txt x.held).size : Int) ∨ ¬ (s.size : Int) < 32816 - ((txt x.held).size : Int) := Decidable.em _
    obtain ⟨k, hk, hkz⟩ : ∃ k, k = min s.size (32816 - x.held.length) ∧ ((s.size : Int) < 32816 - ((txt x.held).size : Int) → k = s.size) ∧ (¬ (s.size : Int) < 32816 - ((txt x.held).size : Int) → (k : Int) = 32816 - ((txt x.held).size : Int)) := ⟨_, rfl, fun h => by rw [hz] at h; omega, fun h => by rw [hz] at h ⊢; omega⟩
    have hks : k ≤ s.size := by omega
    rw [← hk] at HF
    have HEK := hide (HE.out k hk)
    have hsz2 : (txt x.held).size + s.size ≤ 9223372036854775807 ∨ True := .inr trivial
    clear hk HE
    generalize hT : txt x.held = T at *
    have ES : Hid ((s.size : Int) < 32816 - (T.size : Int) → T ++ s = txt (x.held ++ s.data.toList.take (32816 - x.held.length))) := fun h => by
      have := HEK.out
      rw [hkz.1 h] at this
      simpa using this
    rcases hcs with h5 | h5
    case' inl =>
      have ek := hkz.1 h5
      subst ek
      go_upto_region 6 with fail
      go_region
      rw [ES.out h5]
    case' inr =>
      have hk2 := hkz.2 h5
      have hkn : k = 32816 - x.held.length := by omega
      go_upto_region 6 with fail
      go_region
      rw [← hkn, HEK.out, show (32816 : Int) - (x.held.length : Int) = (k : Int) by omega]
    all_goals
      have R5 : Hid (((W1.setCell ⟨w.heap.size, 1, none⟩ (.string (txt (x.held ++ s.data.toList.take (32816 - x.held.length))))).drew).heap[w.heap.size]? = some (.cells (m4 { x with held := x.held ++ s.data.toList.take (32816 - x.held.length) }) 28 (0, 0))) := heap_setCell_same W1 w.heap.size 1 _ _ _ R1.out
      have Z5 : Hid (((W1.setCell ⟨w.heap.size, 1, none⟩ (.string (txt (x.held ++ s.data.toList.take (32816 - x.held.length))))).drew).heap[g4]? = some (.cells mz4 28 (0, 0))) := (Below.heap_setCell _ _ _ _ NE.out).trans Z1.out
      have B5 := hide (below_drew (B1.out.setCell (p := ⟨w.heap.size, 1, none⟩) (Nat.le_refl _) (.string (txt (x.held ++ s.data.toList.take (32816 - x.held.length))))))
      clear x0 x1 x2 x3 f1 R1 Z1 B1 hb hkz HEK ES hsl
      generalize (W1.setCell ⟨w.heap.size, 1, none⟩ (.string (txt (x.held ++ s.data.toList.take (32816 - x.held.length))))).drew = W5 at *
      have MS := hide (show (m4 { x with held := x.held ++ s.data.toList.take (32816 - x.held.length) }).size = 4 from rfl)
      have MO := hide (m4_one { x with held := x.held ++ s.data.toList.take (32816 - x.held.length) })
      have HF2 : Hid (∀ n : Nat, n = F.2 → (Ending.returned (.tuple #[.agg (m4 { x with held := x.held ++ s.data.toList.take (32816 - x.held.length) }), .int .i64 (n : Int)]) = Ending.returned (.tuple #[.agg (m4 F.1), .int .i64 (F.2 : Int)]))) := fun n hn => by rw [hn, ← HF.out]
      have HFN := hide (congrArg Prod.snd HF.out)
      simp only at HFN
      clear HF
      generalize m4 { x with held := x.held ++ s.data.toList.take (32816 - x.held.length) } = M5 at *
      try clear hk2 hkn
      go_wp2_with (first | refine wpList_loadA AM rfl _ rfl w.heap.size rfl M5 MS.out 28 R5.out ?_ | refine wpList_storeA AM rfl _ _ rfl g4 M5 MS.out MO.out rfl rfl mz4 rfl 28 Z5.out ?_)
      first | exact bodyPost_ret (v := .tuple #[.agg M5, .int .i64 (s.size : Int)]) (resA2 AM Tryz.results7 _ _ g4 28 M5 MS.out rfl (setRow_heap _ _ _ _ _ _ Z5.out) _ (by rfl)) rfl ⟨HF2.out _ HFN.out, below_setRow B5.out HG.out _⟩ | exact bodyPost_ret (v := .tuple #[.agg M5, .int .i64 (k : Int)]) (resA2 AM Tryz.results7 _ _ g4 28 M5 MS.out rfl (setRow_heap _ _ _ _ _ _ Z5.out) _ (by rfl)) rfl ⟨HF2.out _ HFN.out, below_setRow B5.out HG.out _⟩
  · have hb' : (x.broken != 0) = true := by simp [hb]
    rw [if_pos hb] at HF
    go_wp2_with (first | refine wpList_loadA AM rfl _ rfl w.heap.size rfl (m4 x) rfl 28 R1.out ?_ | refine wpList_storeA AM rfl _ _ rfl g4 (m4 x) rfl (m4_one _) rfl rfl mz4 rfl 28 Z1.out ?_)
    exact bodyPost_ret (v := .tuple #[.agg (m4 x), .int .i64 0]) (resA2 AM Tryz.results7 _ _ g4 28 (m4 x) rfl rfl (setRow_heap _ _ _ _ _ _ Z1.out) _ (by rfl)) rfl ⟨by rw [← HF.out]; rfl, below_setRow B1.out HG.out _⟩
end
end Go.Proofs.YtjcfojedahgfpaaGreatDoor
