/- Changes one behind the other, and the contract of play. Copies: of a file's bytes, of all files. -/
import Derived.Test.YthnfpdmhjennlaaV05
namespace Go.Proofs.Ythnfpdmhjennlaa
open Go.RowKit
open Go.Deep
open Go.Lib
def doL (f : FS) (l : List Ch) : FS := l.foldl doC f
/-- Changes that may be done, one behind the other. -/
def okL : FS → List Ch → Prop
  | _, [] => True
  | f, c :: r => okC f c ∧ okL (doC f c) r
theorem okL_at : ∀ (l : List Ch) (f : FS) (k : Nat) (c : Ch), okL f l → l[k]? = some c → okC (doL f (l.take k)) c
  | [], _, _, _, _, h => by simp at h
  | x :: r, f, 0, c, hl, h => by
    simp at h
    subst h
    exact hl.1
  | x :: r, f, k + 1, c, hl, h => by
    simp at h
    exact okL_at r (doC f x) k c hl.2 h
theorem doL_snoc (f : FS) (l : List Ch) (k : Nat) (c : Ch) (h : l[k]? = some c) : doL f (l.take (k + 1)) = doC (doL f (l.take k)) c := by
  unfold doL
  rw [List.take_add_one, h]
  simp
theorem chv_len (c : Ch) : (chv c).toList.length = 5 := rfl
/-- v is a slice in which changes can be read; they lie at block g. -/
structure LC (w : World) (g : Nat) (v : Value) (l : List Ch) : Prop where
  form : ∃ ao cap, v = .slice ao l.length cap ∧ (0 < l.length → ∃ off, ao = some ⟨g, off, none⟩ ∧ ∀ i c, l[i]? = some c → w.rangeAt g (off + i * 5) (chv c).toList)
theorem range_of_block {w w' : World} {g off : Nat} {cs : List Value} (hr : w.rangeAt g off cs) (e : w'.heap[g]? = w.heap[g]?) : w'.rangeAt g off cs := fun j v hv => by
  rw [← hr j v hv]
  exact World.cell?_of_block (a := ⟨g, off + j, none⟩) e
theorem LC.of_block {w w' : World} {g : Nat} {v : Value} {l : List Ch} (h : LC w g v l) (e : w'.heap[g]? = w.heap[g]?) : LC w' g v l := by
  obtain ⟨ao, cap, hv, hr⟩ := h.form
  refine ⟨ao, cap, hv, fun h0 => ?_⟩
  obtain ⟨off, ha, hx⟩ := hr h0
  exact ⟨off, ha, fun i c hc => range_of_block (hx i c hc) e⟩
def zch : Array Value := #[.int .i64 0, .string ⟨#[]⟩, .string ⟨#[]⟩, .int .i64 0, .string ⟨#[]⟩]
theorem ACh : Arr 81 5 zch := ⟨.inr ⟨_, Try.underlying81⟩, by kernel_rfl, fun w => by kernel_rfl, fun w => by kernel_rfl, rfl⟩
theorem chv_one (c : Ch) : (chv c).all (·.oneCell') = true := by simp [chv, Value.oneCell']
theorem ld_ch {W : World} {g off : Nat} {c : Ch} (hr : W.rangeAt g off (chv c).toList) : (Instr.loadAt 81 (.pointer (some ⟨g, off, none⟩))).run Try.prog W = .ok (.agg (chv c)) W :=
  run_loadAt_mid W g off 81 _ _ hr Try.underlying81 rfl (by rw [ACh.info]; rfl)
theorem wpList_loadC {w : World} {ops : Array Oper} {rest : List Oper} {o : Oper} {a : Act} {Q : Exit → Act → World → Prop} (hgd : o.guard = none) (x : Operand) (ho : o.op = .load 81 x) (g off : Nat) (hx : a.eval x = .pointer (some ⟨g, off, none⟩)) (c : Ch) (hr : w.rangeAt g off (chv c).toList)
    (h : wpList Try.prog ops Q rest (a.put o.dst (.agg (chv c))) w) : wpList Try.prog ops Q (o :: rest) a w := by
  refine wpList_plain hgd fun K hK => ?_
  unfold Oper.wp execOp
  simp only [ho, hx, Sem.run_bind, ld_ch hr, Result.andThen_ok, Sem.run_pure]
  exact hK _ _ h
theorem eqm (m : Option Nat) (w : World) : (binOp .eql 39 (.map m) (.map none)).run Try.prog w = .ok (.bool m.isNone) w := by
  cases m <;> kernel_rfl
theorem make_map (w : World) : (Instr.makeMap 39 none).run Try.prog w = .ok (.map (some w.heap.size)) (w.alloc (.map #[] 0)) := by
  unfold Instr.makeMap
  simp [newObj]
  rfl
/-- Files whose map may be none yet. -/
def FsO (w : World) (m : Option Nat) (f : FS) (S : Nat → Prop) : Prop := (m = none ∧ f = FS.none ∧ S = fun _ => False) ∨ ∃ b F, m = some b ∧ Fs w b F f S
theorem grow_mono {S : Nat → Prop} {w w1 w2 : World} (h : w1.heap.size ≤ w2.heap.size) : ∀ g, grow S w w1 g → grow S w w2 g := fun g hg => by
  rcases hg with hg | ⟨h1, h2⟩
  · exact .inl hg
  · exact .inr ⟨h1, by omega⟩
/-- A step more. -/
theorem fs_step {S : Nat → Prop} {w wr W w6 : World} {b : Nat} {F : List UInt8 → Option Value} {f : FS} (hFr : Fr S w wr) (hB : Below wr.heap.size wr W) (f6 : Fs w6 b F f (grow (grow S w wr) W w6)) (r6 : Fr (grow S w wr) W w6) (hlt : ∀ g, S g → g < w.heap.size) : Fs w6 b F f (grow S w w6) ∧ Fr S w w6 := by
  have h1 := hFr.size
  have h2 := hB.size
  have h3 := r6.size
  have r1 : Fr S w W := hFr.trans' (Fr.of_below hB)
  have r2 := r1.trans (r6.mono (grow_mono h2))
  refine ⟨f6.wide (fun g hg => ?_) (grow_lt hlt r2.size), r2⟩
  rcases hg with hg | ⟨h4, h5⟩
  · exact grow_mono (by omega) g hg
  · exact .inr ⟨by omega, h5⟩
/-- The cells of a row, one of them another. -/
def up1 (c : Nat → Value) (i : Nat) (v : Value) : Nat → Value := fun j => if j = i then v else c j
section
set_option maxRecDepth 10000
set_option maxHeartbeats 4000000
theorem play_any (gd i m : Nat) (t : TypeId) (cell : Nat → Value) (hi : i < m) (mo : Option Nat) (f : FS) (S : Nat → Prop) (gl : Nat) (v : Value) (l : List Ch) (w : World) (hr : w.rowIs gd t m cell) (hc : cell i = .map mo) (h : FsO w mo f S) (hd : ¬ S gd) (hl : LC w gl v l) (hgl : 0 < l.length → gl < w.heap.size ∧ ¬ S gl ∧ gl ≠ gd) (ok : okL f l) (hlen : l.length ≤ 1000000) :
    Calls Try.prog 38 #[.pointer (some ⟨gd, i, none⟩), v] w fun e w' => (∃ r, e = .returned r) ∧ ∃ b F', Fs w' b F' (doL f l) (grow S w w') ∧ w'.rowIs gd t m (up1 cell i (.map (some b))) ∧ Fr (fun g => S g ∨ g = gd) w w' := by
  obtain ⟨ao, cap, rfl, hx⟩ := hl.form
  have c0 := World.rowIs.cell hr (i := i) hi
  rw [hc] at c0
  have f0 := World.rowIs.frozen hr i
  have hq := eqm mo
  have hlt := World.rowIs.lt hr
  rcases h with ⟨rfl, rfl, rfl⟩ | ⟨b, F, rfl, h⟩
  case' inl =>
    have hM : Hid (∃ b W0 F S0, W0 = (w.alloc (.map #[] 0)).setCell ⟨gd, i, none⟩ (.map (some b)) ∧ b = w.heap.size ∧ W0.rowIs gd t m (up1 cell i (.map (some b))) ∧ Fs W0 b F FS.none S0 ∧ ¬ S0 gd ∧ gd < W0.heap.size ∧ (0 < l.length → gl < W0.heap.size ∧ ¬ S0 gl) ∧ (0 < l.length → W0.heap[gl]? = w.heap[gl]?) ∧ ∀ w' F', Fs w' b F' (doL FS.none l) (grow S0 W0 w') → Fr S0 W0 w' → ∃ b F', Fs w' b F' (doL FS.none l) (grow (fun _ => False) w w') ∧ w'.rowIs gd t m (up1 cell i (.map (some b))) ∧ Fr (fun g => False ∨ g = gd) w w') := by
      have hsz : ((w.alloc (.map #[] 0)).setCell ⟨gd, i, none⟩ (.map (some w.heap.size))).heap.size = w.heap.size + 1 := by simp [World.setCell]
      have hM1 : Mp ((w.alloc (.map #[] 0)).setCell ⟨gd, i, none⟩ (.map (some w.heap.size))) w.heap.size (fun _ => none) 0 := (Mp.made w).of_block (Below.heap_setCell _ _ _ _ (by show w.heap.size ≠ gd; omega))
      have hrow : ((w.alloc (.map #[] 0)).setCell ⟨gd, i, none⟩ (.map (some w.heap.size))).rowIs gd t m (up1 cell i (.map (some w.heap.size))) := (World.rowIs.set (World.rowIs.of_block hr (Below.heap_alloc w _ _ hlt)) i (.map (some w.heap.size))).congr fun j _ => rfl
      refine ⟨w.heap.size, _, fun _ => none, fun g => g = w.heap.size, rfl, rfl, hrow, ⟨hM1, fun _ => rfl, fun k v l _ hv => (by cases hv), fun k v g _ hv => (by cases hv), fun k k' v v' g _ _ hv => (by cases hv), rfl, fun g hg => by rw [hg, hsz]; omega⟩, by omega, by rw [hsz]; omega, fun h0 => ⟨by have := (hgl h0).1; rw [hsz]; omega, by have := (hgl h0).1; omega⟩, fun h0 => (Below.heap_setCell _ _ _ _ (by show gl ≠ gd; exact (hgl h0).2.2)).trans (Below.heap_alloc w _ _ (hgl h0).1), fun w' F' hf hfr => ⟨_, F', hf.wide (fun g hg => ?_) (grow_lt (fun g hg => hg.elim) (by have := hfr.size; omega)), hfr.row hrow (by omega), ?_⟩⟩
      · rcases hg with hg | ⟨h1, h2⟩
        · exact .inr ⟨by omega, by have := hfr.size; omega⟩
        · exact .inr ⟨by omega, h2⟩
      · have r1 : Fr (fun g => False ∨ g = gd) w (w.alloc (.map #[] 0)) := Fr.of_below ((Below.refl _ _).alloc (Nat.le_refl _) _)
        have r2 : Fr (fun g => False ∨ g = gd) (w.alloc (.map #[] 0)) _ := Fr.setCell _ (p := ⟨gd, i, none⟩) (.inr rfl) (.map (some w.heap.size))
        exact (r1.trans' r2).trans (hfr.mono fun g hg => .inr ⟨by omega, by rw [hg, hsz]; omega⟩)
    have hr1 := World.rowIs.of_block hr (Below.heap_alloc w (.map #[] 0) _ hlt)
    have c1 := World.rowIs.cell hr1 (i := i) hi
    rw [hc] at c1
    have f1 := World.rowIs.frozen hr1 i
    clear hr hr1 hgl hd hc hl hlt
    have hmk := make_map
    go_enter Try.func38, Try.ntmps38
    go_wp2
    obtain ⟨b, W0, F, S0, hW, hb, row0, fs0, nd0, ltd, hgl0, hbl, fin⟩ := hM.out
    clear hM
    rw [← hb, ← hW]
    have HX := hide hx
    obtain ⟨fz, hfz⟩ : ∃ fz, fz = FS.none := ⟨_, rfl⟩
    have FSI : Hid (Fs W0 b F fz S0) := by rw [hfz]; exact fs0
    have HD : Hid (¬ S0 gd ∧ gd < W0.heap.size ∧ (0 < l.length → gl < W0.heap.size ∧ ¬ S0 gl) ∧ okL fz l ∧ (0 < l.length → W0.heap[gl]? = w.heap[gl]?)) := by rw [hfz]; exact And.intro nd0 (And.intro ltd (And.intro hgl0 (And.intro ok hbl)))
    have HR := hide row0
    have HI := hide hi
    have FIN : Hid (∀ w' F', Fs w' b F' (doL fz l) (grow S0 W0 w') → Fr S0 W0 w' → ∃ b F', Fs w' b F' (doL FS.none l) (grow (fun _ => False) w w') ∧ w'.rowIs gd t m (up1 cell i (.map (some b))) ∧ Fr (fun g => False ∨ g = gd) w w') := by rw [hfz]; exact fin
    clear hx ok hi c0 f0 c1 f1 hq hmk row0 fs0 nd0 ltd hgl0 hbl fin hb hW hfz
  case' inr =>
    have hM : Hid (∃ S0 W0, W0 = w ∧ W0.rowIs gd t m (up1 cell i (.map (some b))) ∧ Fs W0 b F f S0 ∧ ¬ S0 gd ∧ gd < W0.heap.size ∧ (0 < l.length → gl < W0.heap.size ∧ ¬ S0 gl) ∧ (0 < l.length → W0.heap[gl]? = w.heap[gl]?) ∧ ∀ w' F', Fs w' b F' (doL f l) (grow S0 W0 w') → Fr S0 W0 w' → ∃ b F', Fs w' b F' (doL f l) (grow S w w') ∧ w'.rowIs gd t m (up1 cell i (.map (some b))) ∧ Fr (fun g => S g ∨ g = gd) w w') := by
      have hrow : w.rowIs gd t m (up1 cell i (.map (some b))) := hr.congr fun j _ => by
        unfold up1
        split
        · rename_i e
          rw [e, hc]
        · rfl
      exact ⟨S, w, rfl, hrow, h, hd, hlt, fun h0 => ⟨(hgl h0).1, (hgl h0).2.1⟩, fun _ => rfl, fun w' F' hf hfr => ⟨b, F', hf, hfr.row hrow hd, hfr.mono fun g hg => .inl hg⟩⟩
    clear hr hgl h hd hc hl hlt
    rw [show (some b).isNone = false from rfl] at hq
    go_enter Try.func38, Try.ntmps38
    go_wp2
    obtain ⟨S0, W0, hW, row0, fs0, nd0, ltd, hgl0, hbl, fin⟩ := hM.out
    clear hM
    have HX := hide hx
    obtain ⟨fz, hfz⟩ : ∃ fz, fz = f := ⟨_, rfl⟩
    have FSI : Hid (Fs W0 b F fz S0) := by rw [hfz]; exact fs0
    have HD : Hid (¬ S0 gd ∧ gd < W0.heap.size ∧ (0 < l.length → gl < W0.heap.size ∧ ¬ S0 gl) ∧ okL fz l ∧ (0 < l.length → W0.heap[gl]? = w.heap[gl]?)) := by rw [hfz]; exact And.intro nd0 (And.intro ltd (And.intro hgl0 (And.intro ok hbl)))
    have HR := hide row0
    have HI := hide hi
    have FIN : Hid (∀ w' F', Fs w' b F' (doL fz l) (grow S0 W0 w') → Fr S0 W0 w' → ∃ b F', Fs w' b F' (doL f l) (grow S w w') ∧ w'.rowIs gd t m (up1 cell i (.map (some b))) ∧ Fr (fun g => S g ∨ g = gd) w w') := by rw [hfz]; exact fin
    subst hW
    clear hx ok hi c0 f0 hq row0 fs0 nd0 ltd hgl0 hbl fin hfz
  all_goals
    go_loopw [15] (fun x wr => ∃ k : Nat, k ≤ l.length ∧ x = .int .i64 k ∧ Hid (∃ F', Fs wr b F' (doL fz (l.take k)) (grow S0 W0 wr)) ∧ Hid (Fr S0 W0 wr)) (fun x _ => (l.length - intOf x).toNat)
    case atStart => exact ⟨0, Nat.zero_le _, rfl, ⟨F, by rw [grow_self]; exact FSI.out⟩, Fr.refl _ _⟩
    case round =>
      obtain ⟨k, hk, rfl, hF, hFr⟩ := hrel
      by_cases hlt : k < l.length
      · obtain ⟨off, rfl, hxx⟩ := HX.out (by omega)
        obtain ⟨hg1, hg2⟩ := HD.out.2.2.1 (by omega)
        obtain ⟨c, hc⟩ : ∃ c, l[k]? = some c := ⟨_, List.getElem?_eq_getElem hlt⟩
        have hR := hide (range_of_block (hxx k c hc) ((hFr.out.block gl hg1 hg2).trans (HD.out.2.2.2.2 (by omega))))
        have OK := hide (okL_at l fz k c HD.out.2.2.2.1 hc)
        have SN := hide (doL_snoc fz l k c hc)
        have ROW := hide (hFr.out.row HR.out HD.out.1)
        have kk0 : (0 : Int) ≤ k := by omega
        have kk1 : (k : Int) < l.length := by omega
        clear hxx hc
        go_upto_region 5 with (first | refine wpList_loadC rfl _ rfl gl (off + k * 5) rfl c hR.out ?_ | refine wpList_allocA ACh rfl rfl ?_ | refine wpList_store_newA ACh rfl _ _ rfl _ rfl (chv c) rfl (chv_one c) rfl rfl ?_)
        have R5 := hide (heap_alloc_last wr (.cells (chv c) 81))
        have B5 : Hid (Below wr.heap.size wr (wr.alloc (.cells (chv c) 81))) := (Below.refl _ _).alloc (Nat.le_refl _) _
        have ROW5 := hide (World.rowIs.of_block ROW.out (B5.out.block _ (World.rowIs.lt ROW.out)))
        have C5 := hide (World.rowIs.cell ROW5.out (i := i) HI.out)
        rw [show up1 cell i (.map (some b)) i = .map (some b) from if_pos rfl] at C5
        generalize hg5 : wr.heap.size = g5 at *
        generalize wr.alloc (.cells (chv c) 81) = W5 at *
        refine wp_region_held_drew (S := fun W => W.cell? ⟨gd, i, none⟩ = some (.map (some b)) ∧ W.heap[g5]? = some (.cells (chv c) 81 (0, 0))) (by kernel_rfl) ⟨C5.out, R5.out⟩ (fun hH => ?_)
        refine wpAnyH_take (i := 0) (v := .pointer (some ⟨gd, i, none⟩)) rfl (by kernel_rfl) (by kernel_rfl) (by kernel_rfl) (fun _ _ _ h => h) (yl_move (by rfl) _ (by rfl) _ (by rfl)) hH ?_
        change wpAnyH _ _ _ _ _ _ _ (Act.put _ (some 19) _) _
        simp only [Act.put, List.setIfInBounds_toArray, List.set_cons_zero, List.set_cons_succ]
        refine wpAnyH_take (i := 1) (v := .pointer (some ⟨gd, i, none⟩)) rfl (by kernel_rfl) (by kernel_rfl) (by kernel_rfl) (fun _ _ _ h => h) (.inl ⟨by rfl, fun W _ => by go_simp⟩) hH ?_
        change wpAnyH _ _ _ _ _ _ _ (Act.put _ (some 20) _) _
        simp only [Act.put, List.setIfInBounds_toArray, List.set_cons_zero, List.set_cons_succ]
        refine wpAnyH_take (i := 2) (v := .map (some b)) rfl (by kernel_rfl) (by kernel_rfl) (by kernel_rfl) (fun _ _ _ h => h) (.inl ⟨by rfl, fun W hS => by have c4 := hS.1; go_simp⟩) hH ?_
        change wpAnyH _ _ _ _ _ _ _ (Act.put _ (some 21) _) _
        simp only [Act.put, List.setIfInBounds_toArray, List.set_cons_zero, List.set_cons_succ]
        refine wpAnyH_take (i := 3) (v := .agg (chv c)) rfl (by kernel_rfl) (by kernel_rfl) (by kernel_rfl) (fun _ _ _ h => h) (yl_load (by rfl) _ (by rfl) _ _ (by rfl) (fun W hS => ld_row ACh rfl hS.2)) hH ?_
        change wpAnyH _ _ _ _ _ _ _ (Act.put _ (some 22) _) _
        simp only [Act.put, List.setIfInBounds_toArray, List.set_cons_zero, List.set_cons_succ]
        refine wpAnyH_ready (rs := [4]) (by kernel_rfl) (by simp) (AllReadyH.cons rfl (fun K1 hK1 => ?_) AllReadyH.nil)
        go_simp
        obtain ⟨F', hF'⟩ := hF.out
        have hb5 := B5.out
        rw [← hg5] at hb5
        have hS0 := FSI.out.lt
        have nd : ¬ grow S0 W0 wr gd := fun e => by
          rcases e with e | ⟨e, _⟩
          · exact HD.out.1 e
          · have := HD.out.2.1
            omega
        have n5 : ¬ grow S0 W0 wr g5 := fun e => by
          rcases e with e | ⟨_, e⟩
          · have := hS0 g5 e
            have := hFr.out.size
            omega
          · omega
        refine (playOne_any c W5.drew ((hF'.below hb5).below ((Below.refl _ _).drew)) OK.out).mono ?_
        rintro e w6 ⟨⟨r, rfl⟩, F6, f6, r6⟩
        rw [← SN.out] at f6
        have J6 := hide (fs_step hFr.out (hb5.drew) f6 r6 hS0)
        have row6 := r6.row (show W5.drew.rowIs gd t m (up1 cell i (.map (some b))) from ROW5.out) nd
        have c6 := World.rowIs.cell row6 (i := i) HI.out
        rw [show up1 cell i (.map (some b)) i = .map (some b) from if_pos rfl] at c6
        refine hK1.out _ _ ⟨c6, (r6.block g5 (lt_heap R5.out) n5).trans R5.out⟩ (fun hH => ?_)
        clear hK1 r6 f6 row6 c6 nd n5
        refine wpAnyH_done (by kernel_rfl) ?_ _
        go_wp2
        go_roundw
        case rel => exact ⟨k + 1, by omega, by go_num, ⟨F6, J6.out.1⟩, J6.out.2⟩
        case measure => simp [intOf]; omega
      · have hke : k = l.length := by omega
        subst hke
        go_wp2
        refine bodyPost_end (results_none (by kernel_rfl) _ _ _) rfl ?_
        obtain ⟨F', hF'⟩ := hF.out
        rw [List.take_length] at hF'
        obtain ⟨b', F'', p1, p2, p3⟩ := FIN.out _ F' hF' hFr.out
        first | exact ⟨⟨_, rfl⟩, b', F'', p1, p2, p3⟩ | exact ⟨⟨_, rfl⟩, b', ⟨F'', p1⟩, p2, p3⟩
end
end Go.Proofs.Ythnfpdmhjennlaa
namespace Go.Proofs.Ythnfpdmhjennlaa
open Go.RowKit
open Go.Deep
open Go.Lib
open Go.Maps
theorem eqsl (ao : Option Addr) (n c : Nat) (w : World) : (binOp .eql 77 (.slice ao n c) (.slice none 0 0)).run Try.prog w = .ok (.bool ao.isNone) w := by
  cases ao <;> kernel_rfl
theorem bs0 (w : World) : (Instr.buildSlice 77 0 #[]).run Try.prog w = .ok (.slice (some ⟨w.heap.size, 0, none⟩) 0 0) (w.alloc (.cells #[] 5)) := by
  kernel_rfl
section
set_option maxRecDepth 10000
set_option maxHeartbeats 1000000
theorem cloneB_any (v : Value) (l : List UInt8) (w : World) (h : Own w v l) (hl : l.length ≤ 140737488355328) : Calls Try.prog 58 #[v] w fun e w' => ∃ v', e = .returned v' ∧ Own w' v' l ∧ Below w.heap.size w w' ∧ ∀ g, v'.ownBlock = some g → w.heap.size ≤ g := by
  rcases h.2 with ⟨rfl, h0⟩ | ⟨g, cap, cur, rfl, hb, hg, hnc, hm, hsz, ht⟩
  · have : l = [] := List.eq_nil_of_length_eq_zero h0
    subst this
    have hq := eqsl none 0 0
    go_enter Try.func58, Try.ntmps58
    go_wp2
    go_ret
    exact ⟨_, rfl, Own.nil _, Below.refl _ _, fun g hg => by cases hg⟩
  · have hq := eqsl (some ⟨g, 0, none⟩) l.length cap
    have h5 := bs0
    have HO := hide h
    have HG := hide (And.intro hg hl)
    have O0 : Hid (Own (w.alloc (.cells #[] 5)) (.slice (some ⟨w.heap.size, 0, none⟩) 0 0) []) := World.ownsRow_made w #[] 0 (Nat.zero_le _) (Nat.zero_le _) rfl
    have hB : Below w.heap.size w (w.alloc (.cells #[] 5)) := (Below.refl _ _).alloc (Nat.le_refl _) _
    have hne : Hid (∀ j u, (cellsL l)[j]? = some u → (w.alloc (.cells #[] 5)).cell? ((⟨g, 0, none⟩ : Addr).add j) = some u) := fun j u hu => by
      rw [← World.ownsRow.cells h rfl j u hu, addr_add]
      exact World.cell?_of_block (a := ⟨g, 0 + j, none⟩) (hB.block g (lt_heap hg))
    have HB := hide hB
    clear h hb hg hnc hm hsz ht hl hB
    go_enter Try.func58, Try.ntmps58
    go_wp2_with (first | (at_builtin; refine wpList_app rfl _ _ rfl _ [] rfl O0.out ⟨g, 0, none⟩ l.length cap l rfl rfl hne.out (by have := HG.out.2; simpa using this) ?_; intro v' w' ho on; have OB := hide (And.intro ho on); clear ho on))
    go_ret
    obtain ⟨o, on⟩ := OB.out
    have hsz : w.heap.size ≤ (w.alloc (.cells #[] 5)).heap.size := HB.out.size
    exact ⟨_, rfl, by simpa using o, HB.out.trans (on.below hsz (fun k hk => by cases hk; exact Nat.le_refl _)), on.far hsz (fun k hk => by cases hk; exact Nat.le_refl _)⟩
end
end Go.Proofs.Ythnfpdmhjennlaa
