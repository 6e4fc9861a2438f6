/- The contract of playOne: a cut, a move, a removal; and all kinds. Changes one behind the other, and the contract of play. Copies: of a file's bytes, of all files. -/
import Derived.Test.YtppooipamibhoaaGreatDoorX10
namespace Go.Proofs.YtppooipamibhoaaGreatDoor
open Go.RowKit
open Go.Deep
open Go.Lib
section
variable {w : World} {b : Nat} {F : List UInt8 → Option Value} {f : FS} {S : Nat → Prop}
set_option maxRecDepth 10000
set_option maxHeartbeats 4000000
theorem playOne_cut (nm tn s : ByteArray) (k : Nat) (w : World) (h : Fs w b F f S) (hnm : nm.size ≤ maxLen) (hk : k ≤ (f.at (lsD nm)).length) (hn : f.n + 1 < maxLen) :
    Calls Tryz.prog 271 #[.map (some b), .agg #[.int .i64 1, .string nm, .string tn, .int .i64 (k : Int), .string s]] w fun e w' => (∃ r, e = .returned r) ∧ ∃ F', Fs w' b F' (f.put (lsD nm) ((f.at (lsD nm)).take k)) (grow S w w') ∧ Fr S w w' := by
  have hB : Below w.heap.size w (w.alloc (.cells #[.int .i64 1, .string nm, .string tn, .int .i64 (k : Int), .string s] 327)) := (Below.refl _ _).alloc (Nat.le_refl _) _
  have h1 := hide (h.below hB)
  have hL := h1.out.mp.look hnm
  have R1 := hide (heap_alloc_last w (.cells #[.int .i64 1, .string nm, .string tn, .int .i64 (k : Int), .string s] 327))
  have hS0 := hide h.lt
  have ov := h1.out.ownv (lsD nm)
  obtain ⟨ao, n, c, hv, hnn⟩ := ov.form
  have HV : Hid (vl F (lsD nm) = .slice ao n c) := hv
  have OV : Hid (Own (w.alloc (.cells #[.int .i64 1, .string nm, .string tn, .int .i64 (k : Int), .string s] 327)) (.slice ao n c) (f.at (lsD nm))) := by rw [← hv]; exact ov
  have hF : (F nm.data.toList).getD (.slice none 0 0) = .slice ao n c := hv
  rw [hF] at hL
  have HB := hide hB
  have HK := hide (And.intro hk (And.intro hn hnm))
  clear h hB ov hv hnn hF hk hn hnm
  go_enter Tryz.func271, Tryz.ntmps271
  go_upto_region 7 with fail
  clear hL
  generalize hgb : w.heap.size = gb at *
  have BN : Hid (b ≠ gb) := fun e => by
    have := hS0.out b h1.out.self
    omega
  generalize w.alloc (.cells #[.int .i64 1, .string nm, .string tn, .int .i64 (k : Int), .string s] 327) = W1 at *
  have CC : Hid (∀ W : World, W.heap[gb]? = some (.cells #[.int .i64 1, .string nm, .string tn, .int .i64 (k : Int), .string s] 327 (0, 0)) → W.cell? ⟨gb, 1, none⟩ = some (.string nm) ∧ W.cell? ⟨gb, 3, none⟩ = some (.int .i64 (k : Int))) := fun W hW => by
    refine ⟨?_, ?_⟩ <;> (rw [cell_of_row _ _ _ _ _ _ hW]; rfl)
  refine wp_region_held_drew (S := fun W => W.heap[gb]? = some (.cells #[.int .i64 1, .string nm, .string tn, .int .i64 (k : Int), .string s] 327 (0, 0))) (by kernel_rfl) R1.out (fun hH => ?_)
  refine wpAnyH_take (i := 0) (v := .map (some b)) rfl (by kernel_rfl) (by kernel_rfl) (by kernel_rfl) (fun _ _ _ h => h) (ylD_move (by rfl) _ (by rfl) _ (by rfl)) hH ?_
  change wpAnyH _ _ _ _ _ _ _ (Act.put _ (some 32) _) _
  simp only [Act.put, List.setIfInBounds_toArray, List.set_cons_zero, List.set_cons_succ]
  refine wpAnyH_take (i := 1) (v := .pointer (some ⟨gb, 1, none⟩)) rfl (by kernel_rfl) (by kernel_rfl) (by kernel_rfl) (fun _ _ _ h => h) (.inl ⟨by rfl, fun W _ => by go_simp⟩) hH ?_
  change wpAnyH _ _ _ _ _ _ _ (Act.put _ (some 33) _) _
  simp only [Act.put, List.setIfInBounds_toArray, List.set_cons_zero, List.set_cons_succ]
  refine wpAnyH_take (i := 2) (v := .string nm) rfl (by kernel_rfl) (by kernel_rfl) (by kernel_rfl) (fun _ _ _ h => h) (.inl ⟨by rfl, fun W hS => by have c4 := (CC.out W hS).1; go_simp⟩) hH ?_
  change wpAnyH _ _ _ _ _ _ _ (Act.put _ (some 34) _) _
  simp only [Act.put, List.setIfInBounds_toArray, List.set_cons_zero, List.set_cons_succ]
  refine wpAnyH_take (i := 3) (v := .slice ao n c) rfl (by kernel_rfl) (by kernel_rfl) (by kernel_rfl) (fun _ _ _ h => h) (ylD_move (by rfl) _ (by rfl) _ (by rfl)) hH ?_
  change wpAnyH _ _ _ _ _ _ _ (Act.put _ (some 35) _) _
  simp only [Act.put, List.setIfInBounds_toArray, List.set_cons_zero, List.set_cons_succ]
  refine wpAnyH_take (i := 4) (v := .pointer (some ⟨gb, 3, none⟩)) rfl (by kernel_rfl) (by kernel_rfl) (by kernel_rfl) (fun _ _ _ h => h) (.inl ⟨by rfl, fun W _ => by go_simp⟩) hH ?_
  change wpAnyH _ _ _ _ _ _ _ (Act.put _ (some 36) _) _
  simp only [Act.put, List.setIfInBounds_toArray, List.set_cons_zero, List.set_cons_succ]
  refine wpAnyH_take (i := 5) (v := .int .i64 (k : Int)) rfl (by kernel_rfl) (by kernel_rfl) (by kernel_rfl) (fun _ _ _ h => h) (.inl ⟨by rfl, fun W hS => by have c4 := (CC.out W hS).2; go_simp⟩) hH ?_
  change wpAnyH _ _ _ _ _ _ _ (Act.put _ (some 37) _) _
  simp only [Act.put, List.setIfInBounds_toArray, List.set_cons_zero, List.set_cons_succ]
  refine wpAnyH_take (i := 6) (v := cutv (.slice ao n c) k) rfl (by kernel_rfl) (by kernel_rfl) (by kernel_rfl) (fun _ _ _ h => h) (yl_slice (by rfl) _ _ _ (by rfl) _ _ (by rfl) _ _ (by rfl) (by rfl) (fun W => run_cutvA OV.out k HK.out.1 W)) hH ?_
  change wpAnyH _ _ _ _ _ _ _ (Act.put _ (some 38) _) _
  simp only [Act.put, List.setIfInBounds_toArray, List.set_cons_zero, List.set_cons_succ]
  obtain ⟨o3, e3⟩ := OV.out.cut k HK.out.1
  have ona : Onto W1 W1.drew (.slice ao n c) (cutv (.slice ao n c) k) := ⟨(Onto.refl W1 _).drew.grown, .inl e3⟩
  have fq := h1.out.onto HV.out ona
  have o3' : Own W1.drew (cutv (.slice ao n c) k) ((f.at (lsD nm)).take k) := o3.of_block fun _ _ => rfl
  obtain ⟨w4, hr4, f4, g4, z4⟩ := fq.put rfl (by have := HK.out.2.1; omega) HK.out.2.2 o3' (fun g hg => by
    rw [e3] at hg
    exact .inl (h1.out.ins _ _ g (fun e => e) (val_some HV.out hg) hg)) (h1.out.beside HV.out ona)
  have R4 : w4.heap[gb]? = some (.cells #[.int .i64 1, .string nm, .string tn, .int .i64 (k : Int), .string s] 327 (0, 0)) := (g4.block gb (lt_heap R1.out) (fun e => BN.out (by cases e; rfl))).trans R1.out
  have FF : Hid (Fr S w w4 ∧ ∃ F', Fs w4 b F' (f.put (lsD nm) ((f.at (lsD nm)).take k)) (grow S w w4)) := by
    have hb := HB.out
    rw [← hgb] at hb
    have r1 : Fr S w W1 := Fr.of_below hb
    have r3 : Fr S W1.drew w4 := Fr.of_grown g4 (fun g hg => by cases hg; exact h1.out.self)
    have r4 := r1.trans' ((Fr.of_below (Below.refl _ _).drew).trans' r3)
    refine ⟨r4, _, f4.wide (fun g hg => ?_) (grow_lt (fun g hg => by rw [hgb]; exact hS0.out g hg) r4.size)⟩
    rcases hg with hg | ⟨hg1, hg2⟩
    · exact .inl hg
    · have : W1.drew.heap.size = W1.heap.size := rfl
      omega
  clear f4 fq ona g4 z4 o3 o3'
  refine wpAnyH_ready (rs := [7]) (by kernel_rfl) (by simp) (AllReadyH.cons rfl (fun K1 hK1 => ?_) AllReadyH.nil)
  refine step_skip (by rfl) (ex_put _ _ _ (by rfl) (by rfl) (by rfl) (by rfl) hr4) ?_
  refine hK1.out _ _ R4 (fun hH => ?_)
  clear hK1 hr4
  refine wpAnyH_done (by kernel_rfl) ?_ _
  go_wp2
  refine bodyPost_end (results_none (by kernel_rfl) _ _ _) rfl ?_
  obtain ⟨r4, F4, f4⟩ := FF.out
  exact ⟨⟨_, rfl⟩, F4, f4, r4⟩
theorem playOne_del (nm tn s : ByteArray) (k : Nat) (w : World) (h : Fs w b F f S) (hnm : nm.size ≤ maxLen) :
    Calls Tryz.prog 271 #[.map (some b), .agg #[.int .i64 3, .string nm, .string tn, .int .i64 (k : Int), .string s]] w fun e w' => (∃ r, e = .returned r) ∧ ∃ F', Fs w' b F' (f.del (lsD nm)) (grow S w w') ∧ Fr S w w' := by
  have hB : Below w.heap.size w (w.alloc (.cells #[.int .i64 3, .string nm, .string tn, .int .i64 (k : Int), .string s] 327)) := (Below.refl _ _).alloc (Nat.le_refl _) _
  have h1 := hide (h.below hB)
  have hL := h1.out.mp.look hnm
  have hS0 := hide h.lt
  have ov := h1.out.ownv (lsD nm)
  obtain ⟨ao, n, c, hv, hnn⟩ := ov.form
  have hF : (F nm.data.toList).getD (.slice none 0 0) = .slice ao n c := hv
  rw [hF] at hL
  have HB := hide hB
  obtain ⟨w4, hr4, f4, g4, z4⟩ := h1.out.del (s := nm) rfl hnm 0
  have HR := hide hr4
  have FF : Hid (Fr S w w4 ∧ ∃ F', Fs w4 b F' (f.del (lsD nm)) (grow S w w4)) := by
    have r1 : Fr S w _ := Fr.of_below hB
    have r3 : Fr S _ w4 := Fr.of_grown g4 (fun g hg => by cases hg; exact h1.out.self)
    have r4 := r1.trans' r3
    exact ⟨r4, _, f4.wide (fun g hg => .inl hg) (grow_lt hS0.out r4.size)⟩
  clear h hB ov hv hnn hF hnm f4 g4 z4 hr4
  go_enter Tryz.func271, Tryz.ntmps271
  go_wp2_with (first | (at_delete; refine list_run (by rfl) (ex_del _ _ (by rfl) (by rfl) (by rfl) HR.out) ?_))
  refine bodyPost_end (results_none (by kernel_rfl) _ _ _) rfl ?_
  obtain ⟨r4, F4, f4⟩ := FF.out
  exact ⟨⟨_, rfl⟩, F4, f4, r4⟩
theorem playOne_move (nm tn s : ByteArray) (k : Nat) (w : World) (h : Fs w b F f S) (hnm : nm.size ≤ maxLen) (htn : tn.size ≤ maxLen) (hn : f.n + 1 < maxLen) :
    Calls Tryz.prog 271 #[.map (some b), .agg #[.int .i64 2, .string nm, .string tn, .int .i64 (k : Int), .string s]] w fun e w' => (∃ r, e = .returned r) ∧ ∃ F', Fs w' b F' ((f.del (lsD nm)).put (lsD tn) (f.at (lsD nm))) (grow S w w') ∧ Fr S w w' := by
  have hB : Below w.heap.size w (w.alloc (.cells #[.int .i64 2, .string nm, .string tn, .int .i64 (k : Int), .string s] 327)) := (Below.refl _ _).alloc (Nat.le_refl _) _
  have h1 := hide (h.below hB)
  have hL := h1.out.mp.look hnm
  have R1 := heap_alloc_last w (.cells #[.int .i64 2, .string nm, .string tn, .int .i64 (k : Int), .string s] 327)
  have hS0 := hide h.lt
  have ov := h1.out.ownv (lsD nm)
  obtain ⟨ao, n, c, hv, hnn⟩ := ov.form
  have HV : Hid (vl F (lsD nm) = .slice ao n c) := hv
  have hF : (F nm.data.toList).getD (.slice none 0 0) = .slice ao n c := hv
  rw [hF] at hL
  rw [hv] at ov
  obtain ⟨w4, hr4, f4, g4, z4⟩ := h1.out.del (s := nm) rfl hnm 0
  have HR := hide hr4
  have ov4 : Own w4 (.slice ao n c) (f.at (lsD nm)) := ov.of_block fun g e => g4.block g (ov.ltb e) fun c => h1.out.ne ov e (by cases c; rfl)
  have fq : Fq (fun x => x = lsD tn) w4 b (upd F (lsD nm) none) (f.del (lsD nm)) S := ⟨f4.mp, f4.dom, fun k v l _ => f4.own k v l (fun e => e), fun k v g _ => f4.ins k v g (fun e => e), fun k k' v v' g _ _ => f4.one k k' v v' g (fun e => e) (fun e => e), f4.self, f4.lt⟩
  have hn4 : (f.del (lsD nm)).n < maxLen := by
    show (if (f.get (lsD nm)).isSome then f.n - 1 else f.n) < maxLen
    split <;> omega
  obtain ⟨w5, hr5, f5, g5, z5⟩ := fq.put (s := tn) rfl hn4 htn ov4 (fun g hg => h1.out.ins _ _ g (fun e => e) (val_some HV.out hg) hg) (fun k' v' g _ hk' hg' e => by
    unfold upd at hk'
    split at hk'
    · cases hk'
    · rename_i hne
      exact hne (h1.out.one k' (lsD nm) v' _ g (fun e => e) (fun e => e) hk' (val_some HV.out e) hg' e))
  have HR5 := hide hr5
  have hb : b ≠ w.heap.size := fun e => by
    have := hS0.out b h1.out.self
    omega
  have R4 : w4.heap[w.heap.size]? = some (.cells #[.int .i64 2, .string nm, .string tn, .int .i64 (k : Int), .string s] 327 (0, 0)) := (g4.block _ (lt_heap R1) (fun e => hb (by cases e; rfl))).trans R1
  have c4 : w4.cell? ⟨w.heap.size, 2, none⟩ = some (.string tn) := by rw [cell_of_row _ _ _ _ _ _ R4]; rfl
  have FF : Hid (Fr S w w5 ∧ ∃ F', Fs w5 b F' ((f.del (lsD nm)).put (lsD tn) (f.at (lsD nm))) (grow S w w5)) := by
    have r1 : Fr S w _ := Fr.of_below hB
    have r3 : Fr S _ w4 := Fr.of_grown g4 (fun g hg => by cases hg; exact h1.out.self)
    have r4 : Fr S _ w5 := Fr.of_grown g5 (fun g hg => by cases hg; exact h1.out.self)
    have r5 := (r1.trans' r3).trans' r4
    exact ⟨r5, _, f5.wide (fun g hg => .inl hg) (grow_lt hS0.out r5.size)⟩
  clear h hB ov hv hnn hF hnm f4 g4 z4 hr4 f5 g5 z5 hr5 fq ov4 hn4 R4 R1 hb htn hn
  go_enter Tryz.func271, Tryz.ntmps271
  go_wp2_with (first | (at_delete; refine list_run (by rfl) (ex_del _ _ (by rfl) (by rfl) (by rfl) HR.out) ?_) | (at_mapUpdate; refine list_skip (by rfl) (ex_put _ _ _ (by rfl) (by rfl) (by rfl) (by rfl) HR5.out) ?_))
  refine bodyPost_end (results_none (by kernel_rfl) _ _ _) rfl ?_
  obtain ⟨r4, F4, f4⟩ := FF.out
  exact ⟨⟨_, rfl⟩, F4, f4, r4⟩
/-- A change as a value. -/
def chv (c : Ch) : Array Value := #[.int .i64 (c.kind : Int), .string c.name, .string c.dst, .int .i64 (c.pos : Int), .string c.s]
/-- One change is done to files. -/
theorem playOne_any (c : Ch) (w : World) (h : Fs w b F f S) (ok : okC f c) :
    Calls Tryz.prog 271 #[.map (some b), .agg (chv c)] w fun e w' => (∃ r, e = .returned r) ∧ ∃ F', Fs w' b F' (doC f c) (grow S w w') ∧ Fr S w w' := by
  obtain ⟨kind, nm, tn, pos, s⟩ := c
  have h3 := ok.kind
  have : kind = 0 ∨ kind = 1 ∨ kind = 2 ∨ kind = 3 := by simp at h3; omega
  rcases this with rfl | rfl | rfl | rfl
  · exact playOne_write nm tn s pos w h ok.name (ok.pos (Nat.zero_le _)) ok.len ok.n
  · exact playOne_cut nm tn s pos w h ok.name (ok.pos (Nat.le_refl _)) ok.n
  · exact playOne_move nm tn s pos w h ok.name ok.dst ok.n
  · exact playOne_del nm tn s pos w h ok.name
end
end Go.Proofs.YtppooipamibhoaaGreatDoor
namespace Go.Proofs.YtppooipamibhoaaGreatDoor
open Go.RowKit
open Go.Deep
open Go.Lib
def doL (f : FS) (l : List Ch) : FS := l.foldl doC f
/-- Changes that may be done, one behind the other. -/
def okL : FS → List Ch → Prop
  | _, [] => True
  | f, c :: r => okC f c ∧ okL (doC f c) r
theorem okL_at : ∀ (l : List Ch) (f : FS) (k : Nat) (c : Ch), okL f l → l[k]? = some c → okC (doL f (l.take k)) c
  | [], _, _, _, _, h => by simp at h
  | x :: r, f, 0, c, hl, h => by
    simp at h
    subst h
    exact hl.1
  | x :: r, f, k + 1, c, hl, h => by
    simp at h
    exact okL_at r (doC f x) k c hl.2 h
theorem doL_snoc (f : FS) (l : List Ch) (k : Nat) (c : Ch) (h : l[k]? = some c) : doL f (l.take (k + 1)) = doC (doL f (l.take k)) c := by
  unfold doL
  rw [List.take_add_one, h]
  simp
theorem chv_len (c : Ch) : (chv c).toList.length = 5 := rfl
/-- v is a slice in which changes can be read; they lie at block g. -/
structure LC (w : World) (g : Nat) (v : Value) (l : List Ch) : Prop where
  form : ∃ ao cap, v = .slice ao l.length cap ∧ (0 < l.length → ∃ off, ao = some ⟨g, off, none⟩ ∧ ∀ i c, l[i]? = some c → w.rangeAt g (off + i * 5) (chv c).toList)
theorem range_of_block {w w' : World} {g off : Nat} {cs : List Value} (hr : w.rangeAt g off cs) (e : w'.heap[g]? = w.heap[g]?) : w'.rangeAt g off cs := fun j v hv => by
  rw [← hr j v hv]
  exact World.cell?_of_block (a := ⟨g, off + j, none⟩) e
theorem LC.of_block {w w' : World} {g : Nat} {v : Value} {l : List Ch} (h : LC w g v l) (e : w'.heap[g]? = w.heap[g]?) : LC w' g v l := by
  obtain ⟨ao, cap, hv, hr⟩ := h.form
  refine ⟨ao, cap, hv, fun h0 => ?_⟩
  obtain ⟨off, ha, hx⟩ := hr h0
  exact ⟨off, ha, fun i c hc => range_of_block (hx i c hc) e⟩
def zch : Array Value := #[.int .i64 0, .string ⟨#[]⟩, .string ⟨#[]⟩, .int .i64 0, .string ⟨#[]⟩]
theorem ACh : Arr 327 5 zch := ⟨.inr ⟨_, Tryz.underlying327⟩, by kernel_rfl, fun w => by kernel_rfl, fun w => by kernel_rfl, rfl⟩
theorem chv_one (c : Ch) : (chv c).all (·.oneCell') = true := by simp [chv, Value.oneCell']
theorem ld_ch {W : World} {g off : Nat} {c : Ch} (hr : W.rangeAt g off (chv c).toList) : (Instr.loadAt 327 (.pointer (some ⟨g, off, none⟩))).run Tryz.prog W = .ok (.agg (chv c)) W :=
  run_loadAt_mid W g off 327 _ _ hr Tryz.underlying327 rfl (by rw [ACh.info]; rfl)
theorem wpList_loadC {w : World} {ops : Array Oper} {rest : List Oper} {o : Oper} {a : Act} {Q : Exit → Act → World → Prop} (hgd : o.guard = none) (x : Operand) (ho : o.op = .load 327 x) (g off : Nat) (hx : a.eval x = .pointer (some ⟨g, off, none⟩)) (c : Ch) (hr : w.rangeAt g off (chv c).toList)
    (h : wpList Tryz.prog ops Q rest (a.put o.dst (.agg (chv c))) w) : wpList Tryz.prog ops Q (o :: rest) a w := by
  refine wpList_plain hgd fun K hK => ?_
  unfold Oper.wp execOp
  simp only [ho, hx, Sem.run_bind, ld_ch hr, Result.andThen_ok, Sem.run_pure]
  exact hK _ _ h
theorem eqm (m : Option Nat) (w : World) : (binOp .eql 230 (.map m) (.map none)).run Tryz.prog w = .ok (.bool m.isNone) w := by
  cases m <;> kernel_rfl
theorem make_map (w : World) : (Instr.makeMap 230 none).run Tryz.prog w = .ok (.map (some w.heap.size)) (w.alloc (.map #[] 0)) := by
  unfold Instr.makeMap
  simp [newObj]
  rfl
/-- Files whose map may be none yet. -/
def FsO (w : World) (m : Option Nat) (f : FS) (S : Nat → Prop) : Prop := (m = none ∧ f = FS.none ∧ S = fun _ => False) ∨ ∃ b F, m = some b ∧ Fs w b F f S
theorem grow_mono {S : Nat → Prop} {w w1 w2 : World} (h : w1.heap.size ≤ w2.heap.size) : ∀ g, grow S w w1 g → grow S w w2 g := fun g hg => by
  rcases hg with hg | ⟨h1, h2⟩
  · exact .inl hg
  · exact .inr ⟨h1, by omega⟩
/-- A step more. -/
theorem fs_step {S : Nat → Prop} {w wr W w6 : World} {b : Nat} {F : List UInt8 → Option Value} {f : FS} (hFr : Fr S w wr) (hB : Below wr.heap.size wr W) (f6 : Fs w6 b F f (grow (grow S w wr) W w6)) (r6 : Fr (grow S w wr) W w6) (hlt : ∀ g, S g → g < w.heap.size) : Fs w6 b F f (grow S w w6) ∧ Fr S w w6 := by
  have h1 := hFr.size
  have h2 := hB.size
  have h3 := r6.size
  have r1 : Fr S w W := hFr.trans' (Fr.of_below hB)
  have r2 := r1.trans (r6.mono (grow_mono h2))
  refine ⟨f6.wide (fun g hg => ?_) (grow_lt hlt r2.size), r2⟩
  rcases hg with hg | ⟨h4, h5⟩
  · exact grow_mono (by omega) g hg
  · exact .inr ⟨by omega, h5⟩
/-- The cells of a row, one of them another. -/
def up1 (c : Nat → Value) (i : Nat) (v : Value) : Nat → Value := fun j => if j = i then v else c j
section
set_option maxRecDepth 10000
set_option maxHeartbeats 4000000
theorem play_any (gd i m : Nat) (t : TypeId) (cell : Nat → Value) (hi : i < m) (mo : Option Nat) (f : FS) (S : Nat → Prop) (gl : Nat) (v : Value) (l : List Ch) (w : World) (hr : w.rowIs gd t m cell) (hc : cell i = .map mo) (h : FsO w mo f S) (hd : ¬ S gd) (hl : LC w gl v l) (hgl : 0 < l.length → gl < w.heap.size ∧ ¬ S gl ∧ gl ≠ gd) (ok : okL f l) (hlen : l.length ≤ 1000000) :
    Calls Tryz.prog 198 #[.pointer (some ⟨gd, i, none⟩), v] w fun e w' => (∃ r, e = .returned r) ∧ ∃ b F', Fs w' b F' (doL f l) (grow S w w') ∧ w'.rowIs gd t m (up1 cell i (.map (some b))) ∧ Fr (fun g => S g ∨ g = gd) w w' := by
  obtain ⟨ao, cap, rfl, hx⟩ := hl.form
  have c0 := World.rowIs.cell hr (i := i) hi
  rw [hc] at c0
  have f0 := World.rowIs.frozen hr i
  have hq := eqm mo
  have hlt := World.rowIs.lt hr
  rcases h with ⟨rfl, rfl, rfl⟩ | ⟨b, F, rfl, h⟩
  case' inl =>
    have hM : Hid (∃ b W0 F S0, W0 = (w.alloc (.map #[] 0)).setCell ⟨gd, i, none⟩ (.map (some b)) ∧ b = w.heap.size ∧ W0.rowIs gd t m (up1 cell i (.map (some b))) ∧ Fs W0 b F FS.none S0 ∧ ¬ S0 gd ∧ gd < W0.heap.size ∧ (0 < l.length → gl < W0.heap.size ∧ ¬ S0 gl) ∧ (0 < l.length → W0.heap[gl]? = w.heap[gl]?) ∧ ∀ w' F', Fs w' b F' (doL FS.none l) (grow S0 W0 w') → Fr S0 W0 w' → ∃ b F', Fs w' b F' (doL FS.none l) (grow (fun _ => False) w w') ∧ w'.rowIs gd t m (up1 cell i (.map (some b))) ∧ Fr (fun g => False ∨ g = gd) w w') := by
      have hsz : ((w.alloc (.map #[] 0)).setCell ⟨gd, i, none⟩ (.map (some w.heap.size))).heap.size = w.heap.size + 1 := by simp [World.setCell]
      have hM1 : Mp ((w.alloc (.map #[] 0)).setCell ⟨gd, i, none⟩ (.map (some w.heap.size))) w.heap.size (fun _ => none) 0 := (Mp.made w).of_block (Below.heap_setCell _ _ _ _ (by show w.heap.size ≠ gd; omega))
      have hrow : ((w.alloc (.map #[] 0)).setCell ⟨gd, i, none⟩ (.map (some w.heap.size))).rowIs gd t m (up1 cell i (.map (some w.heap.size))) := (World.rowIs.set (World.rowIs.of_block hr (Below.heap_alloc w _ _ hlt)) i (.map (some w.heap.size))).congr fun j _ => rfl
      refine ⟨w.heap.size, _, fun _ => none, fun g => g = w.heap.size, rfl, rfl, hrow, ⟨hM1, fun _ => rfl, fun k v l _ hv => (by cases hv), fun k v g _ hv => (by cases hv), fun k k' v v' g _ _ hv => (by cases hv), rfl, fun g hg => by rw [hg, hsz]; omega⟩, by omega, by rw [hsz]; omega, fun h0 => ⟨by have := (hgl h0).1; rw [hsz]; omega, by have := (hgl h0).1; omega⟩, fun h0 => (Below.heap_setCell _ _ _ _ (by show gl ≠ gd; exact (hgl h0).2.2)).trans (Below.heap_alloc w _ _ (hgl h0).1), fun w' F' hf hfr => ⟨_, F', hf.wide (fun g hg => ?_) (grow_lt (fun g hg => hg.elim) (by have := hfr.size; omega)), hfr.row hrow (by omega), ?_⟩⟩
      · rcases hg with hg | ⟨h1, h2⟩
        · exact .inr ⟨by omega, by have := hfr.size; omega⟩
        · exact .inr ⟨by omega, h2⟩
      · have r1 : Fr (fun g => False ∨ g = gd) w (w.alloc (.map #[] 0)) := Fr.of_below ((Below.refl _ _).alloc (Nat.le_refl _) _)
        have r2 : Fr (fun g => False ∨ g = gd) (w.alloc (.map #[] 0)) _ := Fr.setCell _ (p := ⟨gd, i, none⟩) (.inr rfl) (.map (some w.heap.size))
        exact (r1.trans' r2).trans (hfr.mono fun g hg => .inr ⟨by omega, by rw [hg, hsz]; omega⟩)
    have hr1 := World.rowIs.of_block hr (Below.heap_alloc w (.map #[] 0) _ hlt)
    have c1 := World.rowIs.cell hr1 (i := i) hi
    rw [hc] at c1
    have f1 := World.rowIs.frozen hr1 i
    clear hr hr1 hgl hd hc hl hlt
    have hmk := make_map
    go_enter Tryz.func198, Tryz.ntmps198
    go_wp2
    obtain ⟨b, W0, F, S0, hW, hb, row0, fs0, nd0, ltd, hgl0, hbl, fin⟩ := hM.out
    clear hM
    rw [← hb, ← hW]
    have HX := hide hx
    obtain ⟨fz, hfz⟩ : ∃ fz, fz = FS.none := ⟨_, rfl⟩
    have FSI : Hid (Fs W0 b F fz S0) := by rw [hfz]; exact fs0
    have HD : Hid (¬ S0 gd ∧ gd < W0.heap.size ∧ (0 < l.length → gl < W0.heap.size ∧ ¬ S0 gl) ∧ okL fz l ∧ (0 < l.length → W0.heap[gl]? = w.heap[gl]?)) := by rw [hfz]; exact And.intro nd0 (And.intro ltd (And.intro hgl0 (And.intro ok hbl)))
    have HR := hide row0
    have HI := hide hi
    have FIN : Hid (∀ w' F', Fs w' b F' (doL fz l) (grow S0 W0 w') → Fr S0 W0 w' → ∃ b F', Fs w' b F' (doL FS.none l) (grow (fun _ => False) w w') ∧ w'.rowIs gd t m (up1 cell i (.map (some b))) ∧ Fr (fun g => False ∨ g = gd) w w') := by rw [hfz]; exact fin
    clear hx ok hi c0 f0 c1 f1 hq hmk row0 fs0 nd0 ltd hgl0 hbl fin hb hW hfz
  case' inr =>
    have hM : Hid (∃ S0 W0, W0 = w ∧ W0.rowIs gd t m (up1 cell i (.map (some b))) ∧ Fs W0 b F f S0 ∧ ¬ S0 gd ∧ gd < W0.heap.size ∧ (0 < l.length → gl < W0.heap.size ∧ ¬ S0 gl) ∧ (0 < l.length → W0.heap[gl]? = w.heap[gl]?) ∧ ∀ w' F', Fs w' b F' (doL f l) (grow S0 W0 w') → Fr S0 W0 w' → ∃ b F', Fs w' b F' (doL f l) (grow S w w') ∧ w'.rowIs gd t m (up1 cell i (.map (some b))) ∧ Fr (fun g => S g ∨ g = gd) w w') := by
      have hrow : w.rowIs gd t m (up1 cell i (.map (some b))) := hr.congr fun j _ => by
        unfold up1
        split
        · rename_i e
          rw [e, hc]
        · rfl
      exact ⟨S, w, rfl, hrow, h, hd, hlt, fun h0 => ⟨(hgl h0).1, (hgl h0).2.1⟩, fun _ => rfl, fun w' F' hf hfr => ⟨b, F', hf, hfr.row hrow hd, hfr.mono fun g hg => .inl hg⟩⟩
    clear hr hgl h hd hc hl hlt
    rw [show (some b).isNone = false from rfl] at hq
    go_enter Tryz.func198, Tryz.ntmps198
    go_wp2
    obtain ⟨S0, W0, hW, row0, fs0, nd0, ltd, hgl0, hbl, fin⟩ := hM.out
    clear hM
    have HX := hide hx
    obtain ⟨fz, hfz⟩ : ∃ fz, fz = f := ⟨_, rfl⟩
    have FSI : Hid (Fs W0 b F fz S0) := by rw [hfz]; exact fs0
    have HD : Hid (¬ S0 gd ∧ gd < W0.heap.size ∧ (0 < l.length → gl < W0.heap.size ∧ ¬ S0 gl) ∧ okL fz l ∧ (0 < l.length → W0.heap[gl]? = w.heap[gl]?)) := by rw [hfz]; exact And.intro nd0 (And.intro ltd (And.intro hgl0 (And.intro ok hbl)))
    have HR := hide row0
    have HI := hide hi
    have FIN : Hid (∀ w' F', Fs w' b F' (doL fz l) (grow S0 W0 w') → Fr S0 W0 w' → ∃ b F', Fs w' b F' (doL f l) (grow S w w') ∧ w'.rowIs gd t m (up1 cell i (.map (some b))) ∧ Fr (fun g => S g ∨ g = gd) w w') := by rw [hfz]; exact fin
    subst hW
    clear hx ok hi c0 f0 hq row0 fs0 nd0 ltd hgl0 hbl fin hfz
  all_goals
    go_loopw [15] (fun x wr => ∃ k : Nat, k ≤ l.length ∧ x = .int .i64 k ∧ Hid (∃ F', Fs wr b F' (doL fz (l.take k)) (grow S0 W0 wr)) ∧ Hid (Fr S0 W0 wr)) (fun x _ => (l.length - intOf x).toNat)
    case atStart => exact ⟨0, Nat.zero_le _, rfl, ⟨F, by rw [grow_self]; exact FSI.out⟩, Fr.refl _ _⟩
    case round =>
      obtain ⟨k, hk, rfl, hF, hFr⟩ := hrel
      by_cases hlt : k < l.length
      · obtain ⟨off, rfl, hxx⟩ := HX.out (by omega)
        obtain ⟨hg1, hg2⟩ := HD.out.2.2.1 (by omega)
        obtain ⟨c, hc⟩ : ∃ c, l[k]? = some c := ⟨_, List.getElem?_eq_getElem hlt⟩
        have hR := hide (range_of_block (hxx k c hc) ((hFr.out.block gl hg1 hg2).trans (HD.out.2.2.2.2 (by omega))))
        have OK := hide (okL_at l fz k c HD.out.2.2.2.1 hc)
        have SN := hide (doL_snoc fz l k c hc)
        have ROW := hide (hFr.out.row HR.out HD.out.1)
        have kk0 : (0 : Int) ≤ k := by omega
        have kk1 : (k : Int) < l.length := by omega
        clear hxx hc
        go_upto_region 5 with (first | refine wpList_loadC rfl _ rfl gl (off + k * 5) rfl c hR.out ?_ | refine wpList_allocA ACh rfl rfl ?_ | refine wpList_store_newA ACh rfl _ _ rfl _ rfl (chv c) rfl (chv_one c) rfl rfl ?_)
        have R5 := hide (heap_alloc_last wr (.cells (chv c) 327))
        have B5 : Hid (Below wr.heap.size wr (wr.alloc (.cells (chv c) 327))) := (Below.refl _ _).alloc (Nat.le_refl _) _
        have ROW5 := hide (World.rowIs.of_block ROW.out (B5.out.block _ (World.rowIs.lt ROW.out)))
        have C5 := hide (World.rowIs.cell ROW5.out (i := i) HI.out)
        rw [show up1 cell i (.map (some b)) i = .map (some b) from if_pos rfl] at C5
        generalize hg5 : wr.heap.size = g5 at *
        generalize wr.alloc (.cells (chv c) 327) = W5 at *
        refine wp_region_held_drew (S := fun W => W.cell? ⟨gd, i, none⟩ = some (.map (some b)) ∧ W.heap[g5]? = some (.cells (chv c) 327 (0, 0))) (by kernel_rfl) ⟨C5.out, R5.out⟩ (fun hH => ?_)
        refine wpAnyH_take (i := 0) (v := .pointer (some ⟨gd, i, none⟩)) rfl (by kernel_rfl) (by kernel_rfl) (by kernel_rfl) (fun _ _ _ h => h) (ylD_move (by rfl) _ (by rfl) _ (by rfl)) hH ?_
        change wpAnyH _ _ _ _ _ _ _ (Act.put _ (some 19) _) _
        simp only [Act.put, List.setIfInBounds_toArray, List.set_cons_zero, List.set_cons_succ]
        refine wpAnyH_take (i := 1) (v := .pointer (some ⟨gd, i, none⟩)) rfl (by kernel_rfl) (by kernel_rfl) (by kernel_rfl) (fun _ _ _ h => h) (.inl ⟨by rfl, fun W _ => by go_simp⟩) hH ?_
        change wpAnyH _ _ _ _ _ _ _ (Act.put _ (some 20) _) _
        simp only [Act.put, List.setIfInBounds_toArray, List.set_cons_zero, List.set_cons_succ]
        refine wpAnyH_take (i := 2) (v := .map (some b)) rfl (by kernel_rfl) (by kernel_rfl) (by kernel_rfl) (fun _ _ _ h => h) (.inl ⟨by rfl, fun W hS => by have c4 := hS.1; go_simp⟩) hH ?_
        change wpAnyH _ _ _ _ _ _ _ (Act.put _ (some 21) _) _
        simp only [Act.put, List.setIfInBounds_toArray, List.set_cons_zero, List.set_cons_succ]
        refine wpAnyH_take (i := 3) (v := .agg (chv c)) rfl (by kernel_rfl) (by kernel_rfl) (by kernel_rfl) (fun _ _ _ h => h) (ylD_load (by rfl) _ (by rfl) _ _ (by rfl) (fun W hS => ld_row ACh rfl hS.2)) hH ?_
        change wpAnyH _ _ _ _ _ _ _ (Act.put _ (some 22) _) _
        simp only [Act.put, List.setIfInBounds_toArray, List.set_cons_zero, List.set_cons_succ]
        refine wpAnyH_ready (rs := [4]) (by kernel_rfl) (by simp) (AllReadyH.cons rfl (fun K1 hK1 => ?_) AllReadyH.nil)
        go_simp
        obtain ⟨F', hF'⟩ := hF.out
        have hb5 := B5.out
        rw [← hg5] at hb5
        have hS0 := FSI.out.lt
        have nd : ¬ grow S0 W0 wr gd := fun e => by
          rcases e with e | ⟨e, _⟩
          · exact HD.out.1 e
          · have := HD.out.2.1
            omega
        have n5 : ¬ grow S0 W0 wr g5 := fun e => by
          rcases e with e | ⟨_, e⟩
          · have := hS0 g5 e
            have := hFr.out.size
            omega
          · omega
        refine (playOne_any c W5.drew ((hF'.below hb5).below ((Below.refl _ _).drew)) OK.out).mono ?_
        rintro e w6 ⟨⟨r, rfl⟩, F6, f6, r6⟩
        rw [← SN.out] at f6
        have J6 := hide (fs_step hFr.out (hb5.drew) f6 r6 hS0)
        have row6 := r6.row (show W5.drew.rowIs gd t m (up1 cell i (.map (some b))) from ROW5.out) nd
        have c6 := World.rowIs.cell row6 (i := i) HI.out
        rw [show up1 cell i (.map (some b)) i = .map (some b) from if_pos rfl] at c6
        refine hK1.out _ _ ⟨c6, (r6.block g5 (lt_heap R5.out) n5).trans R5.out⟩ (fun hH => ?_)
        clear hK1 r6 f6 row6 c6 nd n5
        refine wpAnyH_done (by kernel_rfl) ?_ _
        go_wp2
        go_roundw
        case rel => exact ⟨k + 1, by omega, by go_num, ⟨F6, J6.out.1⟩, J6.out.2⟩
        case measure => simp [intOf]; omega
      · have hke : k = l.length := by omega
        subst hke
        go_wp2
        refine bodyPost_end (results_none (by kernel_rfl) _ _ _) rfl ?_
        obtain ⟨F', hF'⟩ := hF.out
        rw [List.take_length] at hF'
        obtain ⟨b', F'', p1, p2, p3⟩ := FIN.out _ F' hF' hFr.out
        first | exact ⟨⟨_, rfl⟩, b', F'', p1, p2, p3⟩ | exact ⟨⟨_, rfl⟩, b', ⟨F'', p1⟩, p2, p3⟩
end
end Go.Proofs.YtppooipamibhoaaGreatDoor
namespace Go.Proofs.YtppooipamibhoaaGreatDoor
open Go.RowKit
open Go.Deep
open Go.Lib
open Go.Maps
theorem eqsl (ao : Option Addr) (n c : Nat) (w : World) : (binOp .eql 258 (.slice ao n c) (.slice none 0 0)).run Tryz.prog w = .ok (.bool ao.isNone) w := by
  cases ao <;> kernel_rfl
theorem bs0 (w : World) : (Instr.buildSlice 258 0 #[]).run Tryz.prog w = .ok (.slice (some ⟨w.heap.size, 0, none⟩) 0 0) (w.alloc (.cells #[] 5)) := by
  kernel_rfl
section
set_option maxRecDepth 10000
set_option maxHeartbeats 1000000
theorem cloneB_any (v : Value) (l : List UInt8) (w : World) (h : Own w v l) (hl : l.length ≤ 140737488355328) : Calls Tryz.prog 272 #[v] w fun e w' => ∃ v', e = .returned v' ∧ Own w' v' l ∧ Below w.heap.size w w' ∧ ∀ g, v'.ownBlock = some g → w.heap.size ≤ g := by
  rcases h.2 with ⟨rfl, h0⟩ | ⟨g, cap, cur, rfl, hb, hg, hnc, hm, hsz, ht⟩
  · have : l = [] := List.eq_nil_of_length_eq_zero h0
    subst this
    have hq := eqsl none 0 0
    go_enter Tryz.func272, Tryz.ntmps272
    go_wp2
    go_ret
    exact ⟨_, rfl, Own.nil _, Below.refl _ _, fun g hg => by cases hg⟩
  · have hq := eqsl (some ⟨g, 0, none⟩) l.length cap
    have h5 := bs0
    have HO := hide h
    have HG := hide (And.intro hg hl)
    have O0 : Hid (Own (w.alloc (.cells #[] 5)) (.slice (some ⟨w.heap.size, 0, none⟩) 0 0) []) := World.ownsRow_made w #[] 0 (Nat.zero_le _) (Nat.zero_le _) rfl
    have hB : Below w.heap.size w (w.alloc (.cells #[] 5)) := (Below.refl _ _).alloc (Nat.le_refl _) _
    have hne : Hid (∀ j u, (cellsL l)[j]? = some u → (w.alloc (.cells #[] 5)).cell? ((⟨g, 0, none⟩ : Addr).add j) = some u) := fun j u hu => by
      rw [← World.ownsRow.cells h rfl j u hu, addr_add]
      exact World.cell?_of_block (a := ⟨g, 0 + j, none⟩) (hB.block g (lt_heap hg))
    have HB := hide hB
    clear h hb hg hnc hm hsz ht hl hB
    go_enter Tryz.func272, Tryz.ntmps272
    go_wp2_with (first | (at_builtin; refine wpList_app rfl _ _ rfl _ [] rfl O0.out ⟨g, 0, none⟩ l.length cap l rfl rfl hne.out (by have := HG.out.2; simpa using this) ?_; intro v' w' ho on; have OB := hide (And.intro ho on); clear ho on))
    go_ret
    obtain ⟨o, on⟩ := OB.out
    have hsz : w.heap.size ≤ (w.alloc (.cells #[] 5)).heap.size := HB.out.size
    exact ⟨_, rfl, by simpa using o, HB.out.trans (on.below hsz (fun k hk => by cases hk; exact Nat.le_refl _)), on.far hsz (fun k hk => by cases hk; exact Nat.le_refl _)⟩
end
end Go.Proofs.YtppooipamibhoaaGreatDoor
