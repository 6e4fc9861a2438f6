/- The contract of the document's read: where it ends at once. -/
import Derived.Test.YthlaibkdcebekaaDoorNz
namespace Go.Proofs.YthlaibkdcebekaaDoor
open Go.RowKit
open Go.Deep
theorem resAC {t t2 : TypeId} {n n2 : Nat} {z z2 : Array Value} (A : Arr t n z) (A2 : Arr t2 n2 z2) {fn : Func} {p u : Tmp} (hf : fn.results = #[.cell p t, .cell u t2]) (tmps : Array Value) (w : World) (g h : Nat) (t' t2' : TypeId) (c d : Array Value) (hn : c.size = n) (hm : d.size = n2)
    (hp : tmps.getD p undef = .pointer (some ⟨g, 0, none⟩)) (hg : w.heap[g]? = some (.cells c t' (0, 0))) (hu : tmps.getD u undef = .pointer (some ⟨h, 0, none⟩)) (hh : w.heap[h]? = some (.cells d t2' (0, 0))) : (results fn tmps).run Tryd.prog w = .ok (.tuple #[.agg c, .agg d]) w := by
  have hp' : tmps[p]?.getD undef = .pointer (some ⟨g, 0, none⟩) := by simpa using hp
  have hu' : tmps[u]?.getD undef = .pointer (some ⟨h, 0, none⟩) := by simpa using hu
  rcases A.und with ⟨m, e, hd⟩ | ⟨fs, hd⟩ <;> rcases A2.und with ⟨m2, e2, hd2⟩ | ⟨fs2, hd2⟩ <;> simp [results, hf, hp', hu', asAddr, run_loadVar_row w g t' t c (0, 0) _ hg hd rfl (by rw [A.info, hn]), run_loadVar_row w h t2' t2 d (0, 0) _ hh hd2 rfl (by rw [A2.info, hm])]
theorem r8_one (n b i : Nat) (wr : Bool) {vb vi vp vm : Value} (h1 : vb.oneCell' = true) (h2 : vi.oneCell' = true) (h3 : vp.oneCell' = true) (h4 : vm.oneCell' = true) : (r8 n vb vi b i vp vm wr).all (·.oneCell') = true := by
  have e1 : ∀ k x, (Value.int k x).oneCell' = true := fun _ _ => rfl
  have e2 : ∀ b, (Value.bool b).oneCell' = true := fun _ => rfl
  simp [r8, h1, h2, h3, h4, e1, e2]
/-- What the document's read answers. -/
def DA (B W : World) (n : Nat) (vb vi : Value) (bs : List Bool) (is : List (List UInt8)) (k p : Nat) (wr : Bool) (b i : Nat) (vp vm : Value) (ps : List Nat) (ms : List (List UInt8)) (e : Ending) (w' : World) : Prop :=
  ∃ b' i' vp' vm' wr' id ps' ms', e = .returned (.tuple #[.agg (r8 n vb vi b' i' vp' vm' wr'), .agg (hc id)]) ∧ id.length = 32 ∧ Es B w' vp' vm' ps' ms' ∧ On2 W w' vp vm vp' vm' ∧ b' ≤ bs.length ∧ i' ≤ is.length ∧ ps'.length ≤ ps.length + 2 ^ k ∧ ms'.length ≤ ms.length + 2 ^ k ∧ DO bs is n k p wr b i ps ms wr' b' i' id ps' ms'
def DR (B : World) (n : Nat) (vb vi : Value) (bs : List Bool) (is : List (List UInt8)) (k p : Nat) : Prop :=
  ∀ (vp vm : Value) (b i : Nat) (ps : List Nat) (ms : List (List UInt8)) (wr : Bool) (W : World), Es B W vp vm ps ms → b ≤ bs.length → i ≤ is.length → ps.length + 2 ^ k ≤ 1000000 → ms.length + 2 ^ k ≤ 1000000 →
    Calls Tryd.prog 25 #[.agg (r8 n vb vi b i vp vm wr), .int .i64 (k : Int), .int .i64 (p : Int)] W fun e w' => DA B W n vb vi bs is k p wr b i vp vm ps ms e w'
section
variable {B W0 W W' : World} {vp0 vm0 vb vi vp vm v' vp' vm' : Value} {g3 g6 g7 n b i b' i' : Nat} {wr wr' : Bool} {ps ps' : List Nat} {ms ms' : List (List UInt8)}
theorem Dm.c (D : Dm B W0 vp0 vm0 g3 g6 g7 n vb vi W b i vp vm wr ps ms) (j : Nat) (hj : j < 8) : W.cell? ⟨g3, j, none⟩ = some (at8 (r8 n vb vi b i vp vm wr) j) := World.rowIs.cell ((row8 rfl).2 D.r3) hj
theorem Dm.f (D : Dm B W0 vp0 vm0 g3 g6 g7 n vb vi W b i vp vm wr ps ms) (j : Nat) : W.frozen? ⟨g3, j, none⟩ = false := World.rowIs.frozen ((row8 rfl).2 D.r3) j
theorem Dm.start (e : Es B W vp vm ps ms) (n : Nat) (vb vi : Value) (b i : Nat) (wr : Bool) : Dm B W vp vm W.heap.size (W.alloc (.cells (r8 n vb vi b i vp vm wr) 68)).heap.size ((W.alloc (.cells (r8 n vb vi b i vp vm wr) 68)).alloc (.cells z8 68)).heap.size n vb vi (((W.alloc (.cells (r8 n vb vi b i vp vm wr) 68)).alloc (.cells z8 68)).alloc (.cells (hc zeros) 38)) b i vp vm wr ps ms := by
  have b1 : Below W.heap.size W (W.alloc (.cells (r8 n vb vi b i vp vm wr) 68)) := (Below.refl _ _).alloc (Nat.le_refl _) _
  have s1 : (W.alloc (.cells (r8 n vb vi b i vp vm wr) 68)).heap.size = W.heap.size + 1 := by simp
  have s2 : ((W.alloc (.cells (r8 n vb vi b i vp vm wr) 68)).alloc (.cells z8 68)).heap.size = W.heap.size + 2 := by simp
  have b3 : Below W.heap.size W (((W.alloc (.cells (r8 n vb vi b i vp vm wr) 68)).alloc (.cells z8 68)).alloc (.cells (hc zeros) 38)) := (b1.alloc b1.size _).alloc (by rw [s2]; omega) _
  refine ⟨e.next b3, On2.of_below b3 _ _, e.bel.size, Nat.le_refl _, by omega, by omega, ?_, ?_, ?_, by omega, fun x => ?_⟩
  · rw [Below.heap_alloc _ _ _ (by rw [s2]; omega), Below.heap_alloc _ _ _ (by rw [s1]; omega)]
    exact heap_alloc_last _ _
  · rw [Below.heap_alloc _ _ _ (by rw [s2, s1]; omega)]
    exact heap_alloc_last _ _
  · exact heap_alloc_last _ _
  · have := e.mt.lt _ x
    omega
end
section
set_option maxRecDepth 10000
set_option maxHeartbeats 4000000
theorem dread_wrong {B W : World} {n k p b i : Nat} {vb vi vp vm : Value} {bs : List Bool} {is : List (List UInt8)} {ps : List Nat} {ms : List (List UInt8)} {wr : Bool} (hB : LB B vb bs) (hI : LH B vi is) (e : Es B W vp vm ps ms) (hb : b ≤ bs.length) (hi : i ≤ is.length) (hno : wr = true ∨ (wr = false ∧ bs.length ≤ b)) :
    Calls Tryd.prog 25 #[.agg (r8 n vb vi b i vp vm wr), .int .i64 (k : Int), .int .i64 (p : Int)] W fun e w' => DA B W n vb vi bs is k p wr b i vp vm ps ms e w' := by
  obtain ⟨ab, cb, rfl, _⟩ := hB.form
  obtain ⟨ai, ci, rfl⟩ := hI.form
  obtain ⟨ap, cp, rfl⟩ := e.pl.form
  obtain ⟨am, cm, rfl⟩ := e.mt.form
  have D1 := hide (Dm.start e n (.slice ab bs.length cb) (.slice ai is.length ci) b i wr)
  have HB := hide (And.intro hb hi)
  have HD : Hid (DO bs is n k p wr b i ps ms true b i zeros ps ms) := by
    rcases hno with rfl | ⟨rfl, h⟩
    · exact DO.wrong
    · exact DO.noBit h
  have hcs : wr = true ∨ (wr = false ∧ (bs.length : Int) ≤ (b : Int)) := by
    rcases hno with h | ⟨h, h2⟩
    · exact .inl h
    · exact .inr ⟨h, by omega⟩
  clear hB hI e hb hi hno
  have hpw : Hid (0 < 2 ^ k) := Nat.pos_of_ne_zero (by simp)
  generalize hgg : DA B W n (.slice ab bs.length cb) (.slice ai is.length ci) bs is k p wr b i (.slice ap ps.length cp) (.slice am ms.length cm) ps ms = GG
  have HG := hide hgg
  clear hgg
  rcases hcs with rfl | ⟨rfl, h5⟩
  all_goals
    go_enter Tryd.func25, Tryd.ntmps25
    go_upto_region 1 with (first | refine wpList_boxA rfl _ rfl (r8 n (.slice ab bs.length cb) (.slice ai is.length ci) b i (.slice ap ps.length cp) (.slice am ms.length cm) _) rfl ?_ | refine wpList_allocA A8 rfl rfl ?_ | refine wpList_allocA A24 rfl rfl ?_)
    generalize W.alloc (.cells (r8 n (.slice ab bs.length cb) (.slice ai is.length ci) b i (.slice ap ps.length cp) (.slice am ms.length cm) _) 68) = Wa at *
    generalize Wa.alloc (.cells z8 68) = Wb at *
    generalize Wb.alloc (.cells (hc zeros) 38) = W1 at *
    generalize W.heap.size = g3 at *
    generalize Wa.heap.size = g6 at *
    generalize Wb.heap.size = g7 at *
    have x1 : W1.cell? ⟨g3, 1, none⟩ = some (.slice ab bs.length cb) := D1.out.c 1 (by decide)
    have x3 : W1.cell? ⟨g3, 3, none⟩ = some (.int .i64 (b : Int)) := D1.out.c 3 (by decide)
    have x7 := D1.out.c 7 (by decide)
    simp only [at8, r8] at x7
    simp at x7
    have f7 := D1.out.f 7
    have D2 := hide (D1.out.setW true)
    go_upto_region 3 with fail
    clear x1 x3 x7 f7 D1
    generalize W1.setCell ⟨g3, 7, none⟩ (.bool true) = W2 at *
    have E3 := hide (D2.out.fin zeros)
    have k7 := hide ((setRow_other W2 g6 g7 (r8 n (.slice ab bs.length cb) (.slice ai is.length ci) b i (.slice ap ps.length cp) (.slice am ms.length cm) true) (Ne.symm D2.out.n67)).trans D2.out.r7)
    go_wp2_with (first | refine wpList_loadA A8 rfl _ rfl g3 rfl (r8 n (.slice ab bs.length cb) (.slice ai is.length ci) b i (.slice ap ps.length cp) (.slice am ms.length cm) true) rfl 68 D2.out.r3 ?_ | refine wpList_buildA A24 rfl rfl ?_ | refine wpList_storeA A8 rfl _ _ rfl g6 (r8 n (.slice ab bs.length cb) (.slice ai is.length ci) b i (.slice ap ps.length cp) (.slice am ms.length cm) true) rfl (r8_one _ _ _ _ rfl rfl rfl rfl) rfl rfl z8 rfl 68 D2.out.r6 ?_ | refine wpList_storeA A24 rfl _ _ rfl g7 (hc zeros) (by rw [hc_size, zeros_len]) (hc_one _) rfl rfl (hc zeros) (by rw [hc_size, zeros_len]) 38 k7.out ?_)
    obtain ⟨e6, e7, es, on⟩ := E3.out
    refine bodyPost_ret (v := .tuple #[.agg (r8 n (.slice ab bs.length cb) (.slice ai is.length ci) b i (.slice ap ps.length cp) (.slice am ms.length cm) true), .agg (hc zeros)]) (resAC A8 A24 Tryd.results25 _ _ g6 g7 68 38 _ _ rfl (by rw [hc_size, zeros_len]) rfl e6 rfl e7) rfl ?_
    rw [← HG.out]
    exact ⟨_, _, _, _, _, _, _, _, rfl, zeros_len, es, on, HB.out.1, HB.out.2, Nat.le_add_right _ _, Nat.le_add_right _ _, HD.out⟩
end
end Go.Proofs.YthlaibkdcebekaaDoor
