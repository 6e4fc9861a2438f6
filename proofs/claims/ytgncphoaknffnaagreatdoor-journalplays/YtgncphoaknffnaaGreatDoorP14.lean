/- Journals: what a file tells when it is opened. Journals: opened on a fresh disk. Journals: Open on a fresh disk; the errors of Open. -/
import Derived.Test.YtgncphoaknffnaaGreatDoorP13
namespace Go.Proofs.YtgncphoaknffnaaGreatDoor
open Go.RowKit
open Go.Deep
open Go.Lib
set_option linter.unusedVariables false
/-- Rows that stay while a disk works. -/
def Ex (w : World) (T : Nat → Prop) (R : List (Nat × Obj)) : Prop := ∀ p ∈ R, w.heap[p.1]? = some p.2 ∧ ¬ T p.1
section
variable {w w' : World} {T : Nat → Prop} {R : List (Nat × Obj)}
theorem Ex.next (h : Ex w T R) (hb : Below w.heap.size w w') : Ex w' T R := fun p hp => ⟨(hb.block p.1 (lt_heap (h p hp).1)).trans (h p hp).1, (h p hp).2⟩
theorem Ex.disk (h : Ex w T R) (hf : Fr T w w') : Ex w' (grow T w w') R := fun p hp => ⟨(hf.block p.1 (lt_heap (h p hp).1) (h p hp).2).trans (h p hp).1, by
  rintro (e | ⟨e, _⟩)
  · exact (h p hp).2 e
  · have := lt_heap (h p hp).1
    omega⟩
theorem Ex.at_ (h : Ex w T R) {p : Nat × Obj} (hp : p ∈ R) : w.heap[p.1]? = some p.2 := (h p hp).1
end
section
set_option maxRecDepth 10000
set_option maxHeartbeats 1000000
theorem bel_set {W0 Y : World} {g i : Nat} (b : Below W0.heap.size W0 Y) (h : W0.heap.size ≤ g) (u : Value) : Below W0.heap.size W0 (Y.setCell ⟨g, i, none⟩ u) := b.trans ⟨rfl, rfl, rfl, by simp [World.setCell], fun k hk => Below.heap_setCell _ _ _ _ (by show k ≠ g; omega)⟩
theorem bel_new {W0 Y : World} (b : Below W0.heap.size W0 Y) (o : Obj) : Below W0.heap.size W0 (Y.alloc o) := b.alloc b.size o
theorem str_newD {W Y : World} {s : ByteArray} {t : TypeId} (b : Below (W.alloc (.cells #[.string s] t)).drew.heap.size (W.alloc (.cells #[.string s] t)).drew Y) : Y.heap[W.heap.size]? = some (.cells #[.string s] t (0, 0)) :=
  (b.block W.heap.size (by show W.heap.size < (W.alloc (.cells #[.string s] t)).heap.size; simp)).trans (heap_alloc_last W (.cells #[.string s] t))
theorem str_cell {Y : World} {g : Nat} {s : ByteArray} {t : TypeId} (h : Y.heap[g]? = some (.cells #[.string s] t (0, 0))) : Y.cell? ⟨g, 0, none⟩ = some (.string s) := by rw [cell_of_row _ _ 0 _ _ _ h]; rfl
theorem str_set {Y : World} {g : Nat} {s : ByteArray} {t : TypeId} (h : Y.heap[g]? = some (.cells #[.string s] t (0, 0))) (u : Value) : (Y.setCell ⟨g, 0, none⟩ u).heap[g]? = some (.cells #[u] t (0, 0)) := heap_setCell_same Y g 0 _ _ u h
/-- The box of a journal's place. -/
def boxJ (gj : Nat) : Obj := .cells #[.pointer (some ⟨gj, 0, none⟩)] 25
def fTidy (gb : Nat) : Value := .func (.func 34) #[] #[.pointer (some ⟨gb, 0, none⟩)]
def fBegin (gb : Nat) : Value := .func (.func 36) #[] #[.pointer (some ⟨gb, 0, none⟩)]
def fSync (gd : Nat) : Value := .func (.func 39) #[.pointer (some ⟨gd, 0, none⟩)] #[]
theorem hmf (fn : Fn) (first cap : Array Value) (w : World) : (Instr.makeFunc fn first cap).run Tryz.prog w = .ok (.func fn first cap) w := rfl
theorem bs3F (w : World) (a b c : Fn) (a1 a2 b1 b2 c1 c2 : Array Value) : (Instr.buildSlice 59 3 #[(0, .func a a1 a2), (1, .func b b1 b2), (2, .func c c1 c2)]).run Tryz.prog w = .ok (.slice (some ⟨w.heap.size, 0, none⟩) 3 3) (w.alloc (.cells #[.func a a1 a2, .func b b1 b2, .func c c1 c2] 66)) := by kernel_rfl
theorem load_fresh {K : Nat → Prop} {B w : World} {gj gd : Nat} {nm : ByteArray} {x : StD} {T : Nat → Prop} (h : JB K B w gj gd ⟨nm, 0, [], 0, false⟩ x T (.slice none 0 0)) (hm : nm.size ≤ 28) (hf : fnd x nm = 2) : Calls Tryz.prog 16 #[.pointer (some ⟨gj, 0, none⟩)] w fun e w' => ∃ gb gs, e = .returned (.tuple #[.slice (some ⟨gs, 0, none⟩) 3 3, .int .i64 0]) ∧ JB K B w' gj gd ⟨nm, 0, [], 0, false⟩ x T (.slice none 0 0) ∧ Ex w' T [(gb, boxJ gj), (gs, .cells #[fTidy gb, fBegin gb, fSync gd] 66)] := by
  have b0 : Below w.heap.size w (w.alloc (boxJ gj)) := (Below.refl _ _).alloc (Nat.le_refl _) _
  have HJ := hide (h.next b0)
  have rb := heap_alloc_last w (boxJ gj)
  have HR : Hid (∀ W, Below (w.alloc (boxJ gj)).heap.size (w.alloc (boxJ gj)) W → Calls Tryz.prog 23 #[.pointer (some ⟨gd, 0, none⟩), .string nm] W fun e w' => e = .returned (.tuple #[.string ⟨#[]⟩, .int .i64 2]) ∧ Below W.heap.size W w') := fun W hb => by
    have := read_any gd x T nm W (HJ.out.dk.below hb) (by unfold maxLen; omega)
    rw [hf] at this
    exact this
  have HT : Hid (¬ T w.heap.size) := fun e => by
    have := h.dk.lt _ e
    omega
  clear hf
  unfold boxJ at b0 rb HJ HR
  go_enter Tryz.func16, Tryz.ntmps16
  go_upto_region 2 with fail
  generalize hW0 : w.alloc (.cells #[.pointer (some ⟨gj, 0, none⟩)] 25) = W0 at *
  have HC : Hid (∀ W, Below W0.heap.size W0 W → W.cell? ⟨w.heap.size, 0, none⟩ = some (.pointer (some ⟨gj, 0, none⟩)) ∧ W.cell? ⟨gj, 0, none⟩ = some (.pointer (some ⟨gd, 0, none⟩)) ∧ W.cell? ⟨gj, 1, none⟩ = some (.string nm)) := fun W hb => by
    have J := HJ.out.next hb
    refine ⟨?_, J.c0, J.c1⟩
    rw [cell_of_row _ _ 0 _ _ _ ((hb.block _ (lt_heap rb)).trans rb)]
    rfl
  have RB := hide rb
  clear rb h hW0
  go_cut [5, 6] from 10 to 21 (fun s5 s6 wx => ∃ g5, s5 = .pointer (some ⟨g5, 0, none⟩) ∧ s6 = .int .i64 2 ∧ Hid (Below W0.heap.size W0 wx ∧ wx.heap[g5]? = some (.cells #[.string ⟨#[]⟩] 9 (0, 0)) ∧ W0.heap.size ≤ g5))
  case first =>
    go_region_held3 (fun w' => Below W0.heap.size W0 w' ∧ w'.cell? ⟨w.heap.size, 0, none⟩ = some (.pointer (some ⟨gj, 0, none⟩)) ∧ w'.cell? ⟨gj, 0, none⟩ = some (.pointer (some ⟨gd, 0, none⟩)) ∧ w'.cell? ⟨gj, 1, none⟩ = some (.string nm)) (first | assumption | exact (fun hb => ⟨hb, HC.out _ hb⟩) ((Below.refl _ _).drew) | exact (fun hb => ⟨hb, HC.out _ hb⟩) (below_next (And.left (by assumption)) be) | exact (fun hb => ⟨hb, HC.out _ hb⟩) (bel_new (And.left (by assumption)) _) | exact (fun hb => ⟨hb, HC.out _ hb⟩) (bel_set (And.left (by assumption)) (by first | exact Nat.le_refl _ | exact sz1.out) _)) (first | (go_at_call 23; refine (HR.out _ (And.left (by assumption))).mono ?_; rintro e w1 ⟨rfl, be⟩; have sz1 : Hid (W0.heap.size ≤ w1.heap.size) := (below_next (And.left (by assumption)) be).size; (try have zr := hide (str_newD be)); (try have z1 := str_cell zr.out); (try have z2 := frozen_of_row _ _ 0 _ _ zr.out)))
    all_goals (go_wp2_with fail; go_meet)
    all_goals first | exact ⟨_, rfl, rfl, And.left (by assumption), heap_alloc_last _ _, sz1.out⟩ | exact ⟨_, rfl, rfl, And.left (by assumption), str_set zr.out _, Nat.le_refl _⟩
  obtain ⟨g5, rfl, rfl, HX⟩ := hcut
  have hc := HC.out wc HX.out.1
  have k1 := hc.1
  have k2 := hc.2.1
  have k3 := str_cell HX.out.2.1
  have hbs := bs3F wc
  clear hc HC HR
  have FIN : Hid (JB K B (wc.alloc (.cells #[fTidy w.heap.size, fBegin w.heap.size, fSync gd] 66)) gj gd ⟨nm, 0, [], 0, false⟩ x T (.slice none 0 0) ∧ Ex (wc.alloc (.cells #[fTidy w.heap.size, fBegin w.heap.size, fSync gd] 66)) T [(w.heap.size, boxJ gj), (wc.heap.size, .cells #[fTidy w.heap.size, fBegin w.heap.size, fSync gd] 66)]) := by
    have b2 := bel_new HX.out.1 (.cells #[fTidy w.heap.size, fBegin w.heap.size, fSync gd] 66)
    have b1 := HX.out.1
    have lt := HJ.out.dk.lt
    refine ⟨HJ.out.next b2, fun p hp => ?_⟩
    rcases List.mem_cons.1 hp with rfl | hp
    · exact ⟨(b2.block _ (lt_heap RB.out)).trans RB.out, HT.out⟩
    · rcases List.mem_cons.1 hp with rfl | hp
      · refine ⟨heap_alloc_last wc _, fun e => ?_⟩
        have h1 := lt _ e
        have h2 := b1.size
        have h3 : W0.heap.size ≤ wc.heap.size := h2
        omega
      · cases hp
  unfold fTidy fBegin fSync at FIN
  go_wp2
  go_ret2
  exact ⟨_, _, rfl, FIN.out⟩
theorem load_dead {K : Nat → Prop} {B w : World} {gj gd : Nat} {nm : ByteArray} {x : StD} {T : Nat → Prop} (h : JB K B w gj gd ⟨nm, 0, [], 0, false⟩ x T (.slice none 0 0)) (hm : nm.size ≤ 28) (hf : fnd x nm = 7) : Calls Tryz.prog 16 #[.pointer (some ⟨gj, 0, none⟩)] w fun e w' => e = .returned (.tuple #[.slice none 0 0, .int .i64 7]) ∧ Below w.heap.size w w' := by
  have b0 : Below w.heap.size w (w.alloc (boxJ gj)) := (Below.refl _ _).alloc (Nat.le_refl _) _
  have HJ := hide (h.next b0)
  have rb := heap_alloc_last w (boxJ gj)
  have HR : Hid (∀ W, Below (w.alloc (boxJ gj)).heap.size (w.alloc (boxJ gj)) W → Calls Tryz.prog 23 #[.pointer (some ⟨gd, 0, none⟩), .string nm] W fun e w' => e = .returned (.tuple #[.string ⟨#[]⟩, .int .i64 7]) ∧ Below W.heap.size W w') := fun W hb => by
    have := read_any gd x T nm W (HJ.out.dk.below hb) (by unfold maxLen; omega)
    rw [hf] at this
    exact this
  have HT : Hid (¬ T w.heap.size) := fun e => by
    have := h.dk.lt _ e
    omega
  clear hf
  unfold boxJ at b0 rb HJ HR
  go_enter Tryz.func16, Tryz.ntmps16
  go_upto_region 2 with fail
  generalize hW0 : w.alloc (.cells #[.pointer (some ⟨gj, 0, none⟩)] 25) = W0 at *
  have HC : Hid (∀ W, Below W0.heap.size W0 W → W.cell? ⟨w.heap.size, 0, none⟩ = some (.pointer (some ⟨gj, 0, none⟩)) ∧ W.cell? ⟨gj, 0, none⟩ = some (.pointer (some ⟨gd, 0, none⟩)) ∧ W.cell? ⟨gj, 1, none⟩ = some (.string nm)) := fun W hb => by
    have J := HJ.out.next hb
    refine ⟨?_, J.c0, J.c1⟩
    rw [cell_of_row _ _ 0 _ _ _ ((hb.block _ (lt_heap rb)).trans rb)]
    rfl
  have RB := hide rb
  clear rb h hW0
  go_cut [5, 6] from 10 to 21 (fun s5 s6 wx => ∃ g5, s5 = .pointer (some ⟨g5, 0, none⟩) ∧ s6 = .int .i64 7 ∧ Hid (Below W0.heap.size W0 wx ∧ wx.heap[g5]? = some (.cells #[.string ⟨#[]⟩] 9 (0, 0)) ∧ W0.heap.size ≤ g5))
  case first =>
    go_region_held3 (fun w' => Below W0.heap.size W0 w' ∧ w'.cell? ⟨w.heap.size, 0, none⟩ = some (.pointer (some ⟨gj, 0, none⟩)) ∧ w'.cell? ⟨gj, 0, none⟩ = some (.pointer (some ⟨gd, 0, none⟩)) ∧ w'.cell? ⟨gj, 1, none⟩ = some (.string nm)) (first | assumption | exact (fun hb => ⟨hb, HC.out _ hb⟩) ((Below.refl _ _).drew) | exact (fun hb => ⟨hb, HC.out _ hb⟩) (below_next (And.left (by assumption)) be) | exact (fun hb => ⟨hb, HC.out _ hb⟩) (bel_new (And.left (by assumption)) _) | exact (fun hb => ⟨hb, HC.out _ hb⟩) (bel_set (And.left (by assumption)) (by first | exact Nat.le_refl _ | exact sz1.out) _)) (first | (go_at_call 23; refine (HR.out _ (And.left (by assumption))).mono ?_; rintro e w1 ⟨rfl, be⟩; have sz1 : Hid (W0.heap.size ≤ w1.heap.size) := (below_next (And.left (by assumption)) be).size; (try have zr := hide (str_newD be)); (try have z1 := str_cell zr.out); (try have z2 := frozen_of_row _ _ 0 _ _ zr.out)))
    all_goals (go_wp2_with fail; go_meet)
    all_goals first | exact ⟨_, rfl, rfl, And.left (by assumption), heap_alloc_last _ _, sz1.out⟩ | exact ⟨_, rfl, rfl, And.left (by assumption), str_set zr.out _, Nat.le_refl _⟩
  obtain ⟨g5, rfl, rfl, HX⟩ := hcut
  have hc := HC.out wc HX.out.1
  have k1 := hc.1
  have k2 := hc.2.1
  have k3 := str_cell HX.out.2.1
  have hbs := bs3F wc
  clear hc HC HR
  clear hbs
  go_wp2
  go_ret2
  exact ⟨rfl, b0.trans (HX.out.1.mono b0.size)⟩
end
end Go.Proofs.YtgncphoaknffnaaGreatDoor
namespace Go.Proofs.YtgncphoaknffnaaGreatDoor
open Go.RowKit
open Go.Deep
open Go.Lib
set_option linter.unusedVariables false
section
set_option maxRecDepth 10000
set_option maxHeartbeats 1000000
variable {K : Nat → Prop} {B w : World} {gj gd : Nat} {J : Jr} {x : StD} {T : Nat → Prop} {v : Value}
theorem boxJ_cell {w : World} {gb gj : Nat} (h : w.heap[gb]? = some (boxJ gj)) : w.cell? ⟨gb, 0, none⟩ = some (.pointer (some ⟨gj, 0, none⟩)) := by rw [cell_of_row _ _ 0 _ _ _ h]; rfl
theorem tidy_none {gb : Nat} (h : JB K B w gj gd J x T v) (hb : w.heap[gb]? = some (boxJ gj)) (hm : J.nm.size ≤ 28) (hf : fnd x (asideN J.nm) = 2) : Calls Tryz.prog 34 #[.pointer (some ⟨gb, 0, none⟩)] w fun e w' => e = .returned (.int .i64 0) ∧ Below w.heap.size w w' := by
  have HA := hide fun W (hB : Below w.heap.size w W) => aside_none gd x T J.nm W (h.dk.below hB) hm hf
  have c := boxJ_cell hb
  have c0 := h.c0
  have c1 := h.c1
  have HH := hide h
  have HB := hide hb
  clear h hb hm hf
  go_enter Tryz.func34, Tryz.ntmps34
  go_upto_region 1 with fail
  refine wp_region_held_drew (S := fun W => W.cell? ⟨gb, 0, none⟩ = some (.pointer (some ⟨gj, 0, none⟩)) ∧ W.cell? ⟨gj, 0, none⟩ = some (.pointer (some ⟨gd, 0, none⟩)) ∧ W.cell? ⟨gj, 1, none⟩ = some (.string J.nm)) (by kernel_rfl) ⟨c, c0, c1⟩ (fun hH => ?_)
  refine wpAnyH_take (i := 0) (v := .pointer (some ⟨gj, 0, none⟩)) rfl (by kernel_rfl) (by kernel_rfl) (by kernel_rfl) (fun _ _ _ h => h) (.inl ⟨by rfl, fun W hS => by have c4 := hS.1; go_simp⟩) hH ?_
  change wpAnyH _ _ _ _ _ _ _ (Act.put _ (some 2) _) _
  simp only [Act.put, List.setIfInBounds_toArray, List.set_cons_zero, List.set_cons_succ]
  refine wpAnyH_take (i := 1) (v := .pointer (some ⟨gj, 0, none⟩)) rfl (by kernel_rfl) (by kernel_rfl) (by kernel_rfl) (fun _ _ _ h => h) (.inl ⟨by rfl, fun W _ => by go_simp⟩) hH ?_
  change wpAnyH _ _ _ _ _ _ _ (Act.put _ (some 3) _) _
  simp only [Act.put, List.setIfInBounds_toArray, List.set_cons_zero, List.set_cons_succ]
  refine wpAnyH_take (i := 2) (v := .pointer (some ⟨gj, 0, none⟩)) rfl (by kernel_rfl) (by kernel_rfl) (by kernel_rfl) (fun _ _ _ h => h) (.inl ⟨by rfl, fun W _ => by go_simp⟩) hH ?_
  change wpAnyH _ _ _ _ _ _ _ (Act.put _ (some 4) _) _
  simp only [Act.put, List.setIfInBounds_toArray, List.set_cons_zero, List.set_cons_succ]
  refine wpAnyH_take (i := 3) (v := .pointer (some ⟨gd, 0, none⟩)) rfl (by kernel_rfl) (by kernel_rfl) (by kernel_rfl) (fun _ _ _ h => h) (.inl ⟨by rfl, fun W hS => by have c4 := hS.2.1; go_simp⟩) hH ?_
  change wpAnyH _ _ _ _ _ _ _ (Act.put _ (some 5) _) _
  simp only [Act.put, List.setIfInBounds_toArray, List.set_cons_zero, List.set_cons_succ]
  refine wpAnyH_take (i := 4) (v := .pointer (some ⟨gj, 0, none⟩)) rfl (by kernel_rfl) (by kernel_rfl) (by kernel_rfl) (fun _ _ _ h => h) (.inl ⟨by rfl, fun W hS => by have c4 := hS.1; go_simp⟩) hH ?_
  change wpAnyH _ _ _ _ _ _ _ (Act.put _ (some 6) _) _
  simp only [Act.put, List.setIfInBounds_toArray, List.set_cons_zero, List.set_cons_succ]
  refine wpAnyH_take (i := 5) (v := .pointer (some ⟨gj, 0, none⟩)) rfl (by kernel_rfl) (by kernel_rfl) (by kernel_rfl) (fun _ _ _ h => h) (.inl ⟨by rfl, fun W _ => by go_simp⟩) hH ?_
  change wpAnyH _ _ _ _ _ _ _ (Act.put _ (some 7) _) _
  simp only [Act.put, List.setIfInBounds_toArray, List.set_cons_zero, List.set_cons_succ]
  refine wpAnyH_take (i := 6) (v := .pointer (some ⟨gj, 1, none⟩)) rfl (by kernel_rfl) (by kernel_rfl) (by kernel_rfl) (fun _ _ _ h => h) (.inl ⟨by rfl, fun W _ => by go_simp⟩) hH ?_
  change wpAnyH _ _ _ _ _ _ _ (Act.put _ (some 8) _) _
  simp only [Act.put, List.setIfInBounds_toArray, List.set_cons_zero, List.set_cons_succ]
  refine wpAnyH_take (i := 7) (v := .string J.nm) rfl (by kernel_rfl) (by kernel_rfl) (by kernel_rfl) (fun _ _ _ h => h) (.inl ⟨by rfl, fun W hS => by have c4 := hS.2.2; go_simp⟩) hH ?_
  change wpAnyH _ _ _ _ _ _ _ (Act.put _ (some 9) _) _
  simp only [Act.put, List.setIfInBounds_toArray, List.set_cons_zero, List.set_cons_succ]
  refine wpAnyH_ready (rs := [8]) (by kernel_rfl) (by simp) (AllReadyH.cons rfl (fun K1 hK1 => ?_) AllReadyH.nil)
  go_simp
  refine (HA.out _ (Below.refl _ _).drew).mono ?_
  rintro e w3 ⟨rfl, b3⟩
  have b4 : Below w.heap.size w w3 := (Below.refl w.heap.size w).drew.trans b3
  refine hK1.out _ _ ⟨boxJ_cell ((b4.block gb (lt_heap HB.out)).trans HB.out), (HH.out.next b4).c0, (HH.out.next b4).c1⟩ (fun hH => ?_)
  clear hK1
  refine wpAnyH_take (i := 9) (v := .int .i64 0) rfl (by kernel_rfl) (by kernel_rfl) (by kernel_rfl) (fun _ _ _ h => h) (.inl ⟨by rfl, fun W _ => by go_simp⟩) hH ?_
  change wpAnyH _ _ _ _ _ _ _ (Act.put _ (some 1) _) _
  simp only [Act.put, List.setIfInBounds_toArray, List.set_cons_zero, List.set_cons_succ]
  refine wpAnyH_done (by kernel_rfl) ?_ _
  go_wp2
  go_ret
  exact ⟨rfl, b4⟩
/-- A fresh file is written. -/
def bgC (nm : ByteArray) : Ch := wrC nm 0 (txt (headL 0))
theorem begin_ok {gb : Nat} (h : JB K B w gj gd J x T v) (hK : KB K B) (hb : w.heap[gb]? = some (boxJ gj)) (hT : ¬ T gb) (hV : Vd x) (hp : x.plan = []) (hr : rdy x.dead [J.nm] = 0) (hroom : x.now.n < 64) (hmany : x.loose.length < 10000) (hmade : x.made < 1000000) : Calls Tryz.prog 36 #[.pointer (some ⟨gb, 0, none⟩)] w fun e w' => e = .returned (.int .i64 0) ∧ DK w' gd (mkC x (bgC J.nm)) (grow T w w') ∧ Fr T w w' := by
  have HW := hide fun W (hB : Below w.heap.size w W) => write_ok gd x T J.nm 0 (txt (headL 0)) W (h.dk.below hB) hV hp hr (Nat.zero_le _) (by rw [txtJ_size, headL_len]; decide) (.inr hroom) hmany hmade
  have HD := hide fun W (hB : Below w.heap.size w W) => headJ_any 0 (by unfold U64; omega) W ((hK.at_ h.bel).next hB)
  have HL := hide h.dk.lt
  have c := boxJ_cell hb
  have c0 := h.c0
  have c1 := h.c1
  have HH := hide h
  have HB := hide hb
  have HT := hide hT
  clear h hb hV hp hr hroom hmany hmade hT
  unfold bgC
  generalize txt (headL 0) = hd at *
  go_enter Tryz.func36, Tryz.ntmps36
  go_upto_region 1 with fail
  refine wp_region_held_drew (S := fun W => W.cell? ⟨gb, 0, none⟩ = some (.pointer (some ⟨gj, 0, none⟩)) ∧ W.cell? ⟨gj, 0, none⟩ = some (.pointer (some ⟨gd, 0, none⟩)) ∧ W.cell? ⟨gj, 1, none⟩ = some (.string J.nm)) (by kernel_rfl) ⟨c, c0, c1⟩ (fun hH => ?_)
  refine wpAnyH_take (i := 0) (v := .pointer (some ⟨gj, 0, none⟩)) rfl (by kernel_rfl) (by kernel_rfl) (by kernel_rfl) (fun _ _ _ h => h) (.inl ⟨by rfl, fun W hS => by have c4 := hS.1; go_simp⟩) hH ?_
  change wpAnyH _ _ _ _ _ _ _ (Act.put _ (some 2) _) _
  simp only [Act.put, List.setIfInBounds_toArray, List.set_cons_zero, List.set_cons_succ]
  refine wpAnyH_take (i := 1) (v := .pointer (some ⟨gj, 0, none⟩)) rfl (by kernel_rfl) (by kernel_rfl) (by kernel_rfl) (fun _ _ _ h => h) (.inl ⟨by rfl, fun W _ => by go_simp⟩) hH ?_
  change wpAnyH _ _ _ _ _ _ _ (Act.put _ (some 3) _) _
  simp only [Act.put, List.setIfInBounds_toArray, List.set_cons_zero, List.set_cons_succ]
  refine wpAnyH_take (i := 2) (v := .pointer (some ⟨gj, 0, none⟩)) rfl (by kernel_rfl) (by kernel_rfl) (by kernel_rfl) (fun _ _ _ h => h) (.inl ⟨by rfl, fun W _ => by go_simp⟩) hH ?_
  change wpAnyH _ _ _ _ _ _ _ (Act.put _ (some 4) _) _
  simp only [Act.put, List.setIfInBounds_toArray, List.set_cons_zero, List.set_cons_succ]
  refine wpAnyH_take (i := 3) (v := .pointer (some ⟨gd, 0, none⟩)) rfl (by kernel_rfl) (by kernel_rfl) (by kernel_rfl) (fun _ _ _ h => h) (.inl ⟨by rfl, fun W hS => by have c4 := hS.2.1; go_simp⟩) hH ?_
  change wpAnyH _ _ _ _ _ _ _ (Act.put _ (some 5) _) _
  simp only [Act.put, List.setIfInBounds_toArray, List.set_cons_zero, List.set_cons_succ]
  refine wpAnyH_take (i := 4) (v := .pointer (some ⟨gj, 0, none⟩)) rfl (by kernel_rfl) (by kernel_rfl) (by kernel_rfl) (fun _ _ _ h => h) (.inl ⟨by rfl, fun W hS => by have c4 := hS.1; go_simp⟩) hH ?_
  change wpAnyH _ _ _ _ _ _ _ (Act.put _ (some 6) _) _
  simp only [Act.put, List.setIfInBounds_toArray, List.set_cons_zero, List.set_cons_succ]
  refine wpAnyH_take (i := 5) (v := .pointer (some ⟨gj, 0, none⟩)) rfl (by kernel_rfl) (by kernel_rfl) (by kernel_rfl) (fun _ _ _ h => h) (.inl ⟨by rfl, fun W _ => by go_simp⟩) hH ?_
  change wpAnyH _ _ _ _ _ _ _ (Act.put _ (some 7) _) _
  simp only [Act.put, List.setIfInBounds_toArray, List.set_cons_zero, List.set_cons_succ]
  refine wpAnyH_take (i := 6) (v := .pointer (some ⟨gj, 1, none⟩)) rfl (by kernel_rfl) (by kernel_rfl) (by kernel_rfl) (fun _ _ _ h => h) (.inl ⟨by rfl, fun W _ => by go_simp⟩) hH ?_
  change wpAnyH _ _ _ _ _ _ _ (Act.put _ (some 8) _) _
  simp only [Act.put, List.setIfInBounds_toArray, List.set_cons_zero, List.set_cons_succ]
  refine wpAnyH_take (i := 7) (v := .string J.nm) rfl (by kernel_rfl) (by kernel_rfl) (by kernel_rfl) (fun _ _ _ h => h) (.inl ⟨by rfl, fun W hS => by have c4 := hS.2.2; go_simp⟩) hH ?_
  change wpAnyH _ _ _ _ _ _ _ (Act.put _ (some 9) _) _
  simp only [Act.put, List.setIfInBounds_toArray, List.set_cons_zero, List.set_cons_succ]
  refine wpAnyH_ready (rs := [8]) (by kernel_rfl) (by simp) (AllReadyH.cons rfl (fun K1 hK1 => ?_) AllReadyH.nil)
  go_simp
  refine (HD.out _ (Below.refl _ _).drew).mono ?_
  rintro e w3 ⟨rfl, b3⟩
  have b4 : Below w.heap.size w w3 := (Below.refl w.heap.size w).drew.trans b3
  refine hK1.out _ _ ⟨boxJ_cell ((b4.block gb (lt_heap HB.out)).trans HB.out), (HH.out.next b4).c0, (HH.out.next b4).c1⟩ (fun hH => ?_)
  clear hK1
  try simp only [Act.put, List.setIfInBounds_toArray, List.set_cons_zero, List.set_cons_succ]
  refine wpAnyH_ready (rs := [9]) (by kernel_rfl) (by simp) (AllReadyH.cons rfl (fun K1 hK1 => ?_) AllReadyH.nil)
  go_simp
  refine (HW.out _ b4).mono ?_
  rintro e w5 ⟨rfl, hd5, hf5⟩
  have FIN := hide (dk_grow b4 HL.out hd5 hf5)
  clear hd5 hf5
  have J5 := hide (HH.out.disk FIN.out)
  refine hK1.out _ _ ⟨boxJ_cell ((FIN.out.2.block gb (lt_heap HB.out) HT.out).trans HB.out), J5.out.c0, J5.out.c1⟩ (fun hH => ?_)
  clear hK1
  refine wpAnyH_take (i := 10) (v := .int .i64 0) rfl (by kernel_rfl) (by kernel_rfl) (by kernel_rfl) (fun _ _ _ h => h) (.inl ⟨by rfl, fun W _ => by go_simp⟩) hH ?_
  change wpAnyH _ _ _ _ _ _ _ (Act.put _ (some 1) _) _
  simp only [Act.put, List.setIfInBounds_toArray, List.set_cons_zero, List.set_cons_succ]
  refine wpAnyH_done (by kernel_rfl) ?_ _
  go_wp2
  go_ret
  exact ⟨rfl, FIN.out⟩
end
end Go.Proofs.YtgncphoaknffnaaGreatDoor
namespace Go.Proofs.YtgncphoaknffnaaGreatDoor
open Go.RowKit
open Go.Deep
open Go.Lib
set_option linter.unusedVariables false
/-- What a fresh journal's disk is, step by step. -/
def xsO (x : StD) (nm : ByteArray) : Nat → StD
  | 0 => x
  | 1 => x
  | 2 => mkC x (bgC nm)
  | _ => syC (mkC x (bgC nm))
def FO : Nat → Nat
  | 0 => 34
  | 1 => 36
  | _ => 39
def faO (gd : Nat) : Nat → Array Value
  | 0 => #[]
  | 1 => #[]
  | _ => #[.pointer (some ⟨gd, 0, none⟩)]
def caO (gb : Nat) : Nat → Array Value
  | 0 => #[.pointer (some ⟨gb, 0, none⟩)]
  | 1 => #[.pointer (some ⟨gb, 0, none⟩)]
  | _ => #[]
theorem rdyJ {d : Bool} {nm : ByteArray} (hd : d = false) (h : okJ nm = true) : rdy d [nm] = 0 := by
  unfold okJ at h
  simp at h
  subst hd
  unfold rdy
  simp [h.1]
theorem okJ_size {nm : ByteArray} (h : okJ nm = true) : nm.size ≤ 28 := by
  unfold okJ at h
  simp at h
  exact h.2
theorem okJ_name {nm : ByteArray} (h : okJ nm = true) : isName (ls nm) = true := by
  unfold okJ at h
  simp at h
  exact h.1
section
set_option maxRecDepth 10000
set_option maxHeartbeats 1000000
variable {K : Nat → Prop} {B w : World} {gj gd : Nat} {x : StD} {T : Nat → Prop} {v : Value}
theorem bg_ok {nm : ByteArray} (hV : Vd x) (hr : isName (ls nm) = true) (hroom : x.now.n < 64) : okD x.now (bgC nm) := wr_ok hV.bd hr (Nat.zero_le _) (by rw [txtJ_size, headL_len]; decide) (.inr hroom)
theorem order_fresh {nm : ByteArray} {gb gs : Nat} (h : JB K B w gj gd ⟨nm, 0, [], 0, false⟩ x T (.slice none 0 0)) (he : Ex w T [(gb, boxJ gj), (gs, .cells #[fTidy gb, fBegin gb, fSync gd] 66)]) (hK : KB K B) (hn : okJ nm = true) (ha : fnd x (asideN nm) = 2) (hV : Vd x) (hp : x.plan = []) (hd : x.dead = false) (hroom : x.now.n < 64) (hmany : x.loose.length < 10000) (hmade : x.made < 1000000) : Calls Tryz.prog 17 #[.slice (some ⟨gs, 0, none⟩) 3 3] w fun e w' => e = .returned (.int .i64 0) ∧ ∃ T', JB K B w' gj gd ⟨nm, 0, [], 0, false⟩ (syC (mkC x (bgC nm))) T' (.slice none 0 0) := by
  refine (inOrder_any 3 gs 3 FO (faO gd) (caO gb) (fun k W => ∃ T', JB K B W gj gd ⟨nm, 0, [], 0, false⟩ (xsO x nm k) T' (.slice none 0 0) ∧ Ex W T' [(gb, boxJ gj), (gs, .cells #[fTidy gb, fBegin gb, fSync gd] 66)]) (fun _ _ => False) (by decide) (fun k W hk => ?_) (fun k W hk hP => ?_) (fun k W hk hP => ?_) w ⟨T, h, he⟩).mono ?_
  · rcases k with _ | _ | _ | k
    · kernel_rfl
    · kernel_rfl
    · kernel_rfl
    · omega
  · obtain ⟨T', j, ex⟩ := hP
    have hr := ex.at_ (p := (gs, .cells #[fTidy gb, fBegin gb, fSync gd] 66)) (by simp)
    rw [cell_of_row _ _ _ _ _ _ hr]
    rcases k with _ | _ | _ | k
    · rfl
    · rfl
    · rfl
    · omega
  · obtain ⟨T', j, ex⟩ := hP
    have hbx := ex (gb, boxJ gj) (by simp)
    rcases k with _ | _ | _ | k
    · refine (tidy_none j hbx.1 (okJ_size hn) ha).mono ?_
      rintro e w' ⟨rfl, b⟩
      exact ⟨0, rfl, fun _ => ⟨T', j.next b, ex.next b⟩, fun e => absurd rfl e⟩
    · refine (begin_ok j hK hbx.1 hbx.2 hV hp (rdyJ hd hn) hroom hmany hmade).mono ?_
      rintro e w' ⟨rfl, b⟩
      exact ⟨0, rfl, fun _ => ⟨_, j.disk b, ex.disk b.2⟩, fun e => absurd rfl e⟩
    · refine (sync_ok gd (mkC x (bgC nm)) T' W j.dk (hV.mkC (bg_ok hV (okJ_name hn) hroom) hmany hmade) hp hd).mono ?_
      rintro e w' ⟨rfl, b⟩
      exact ⟨0, rfl, fun _ => ⟨_, j.disk b, ex.disk b.2⟩, fun e => absurd rfl e⟩
    · omega
  · rintro e w' (⟨rfl, T', j, _⟩ | ⟨E, _, _, hF⟩)
    · exact ⟨rfl, T', j⟩
    · exact hF.elim
theorem open_nil (nm : ByteArray) (w : World) : Calls Tryz.prog 6 #[.pointer none, .string nm] w fun e w' => e = .returned (.tuple #[.pointer none, .int .i64 1]) ∧ w' = w := by
  go_enter Tryz.func6, Tryz.ntmps6
  go_wp2
  go_ret2
  exact ⟨rfl, rfl⟩
theorem open_name (nm : ByteArray) (w : World) (hm : nm.size ≤ maxLen) (hn : okJ nm = false) : Calls Tryz.prog 6 #[.pointer (some ⟨gd, 0, none⟩), .string nm] w fun e w' => e = .returned (.tuple #[.pointer none, .int .i64 70]) ∧ Below w.heap.size w w' := by
  have HI := hide (isNameJ_any nm hm w)
  rw [hn] at HI
  clear hn hm
  go_enter Tryz.func6, Tryz.ntmps6
  go_wp2_with (go_at_call 15; refine HI.out.mono ?_; rintro e w1 ⟨rfl, hb⟩; have HB := hide hb; clear hb)
  go_ret2
  exact ⟨rfl, HB.out⟩
theorem jb_new (h : DBk K B w gd x T) (nm : ByteArray) : JB K B (w.alloc (.cells #[.pointer (some ⟨gd, 0, none⟩), .string nm, .int .u64 0, .slice none 0 0, .int .i64 0, .bool false] 58)) w.heap.size gd ⟨nm, 0, [], 0, false⟩ x T (.slice none 0 0) := by
  have b : Below w.heap.size w (w.alloc (.cells #[.pointer (some ⟨gd, 0, none⟩), .string nm, .int .u64 0, .slice none 0 0, .int .i64 0, .bool false] 58)) := (Below.refl _ _).alloc (Nat.le_refl _) _
  refine ⟨h.dk.below b, h.bel.next b, h.far, heap_alloc_last w _, (.inl (OX.nil _)), .inr h.bel.size, fun e => ?_, fun g hg => by cases hg⟩
  have := h.dk.lt _ e
  omega
theorem open_fresh (h : DBk K B w gd x T) (nm : ByteArray) (hK : KB K B) (hn : okJ nm = true) (hf : fnd x nm = 2) (ha : fnd x (asideN nm) = 2) (hV : Vd x) (hp : x.plan = []) (hd : x.dead = false) (hroom : x.now.n < 64) (hmany : x.loose.length < 10000) (hmade : x.made < 1000000) : Calls Tryz.prog 6 #[.pointer (some ⟨gd, 0, none⟩), .string nm] w fun e w' => ∃ gj T', e = .returned (.tuple #[.pointer (some ⟨gj, 0, none⟩), .int .i64 0]) ∧ JB K B w' gj gd ⟨nm, 0, [], 0, false⟩ (syC (mkC x (bgC nm))) T' (.slice none 0 0) := by
  have HI := hide (isNameJ_any nm (by have := okJ_size hn; unfold maxLen; omega) w)
  have HL := hide fun gj W j => load_fresh (w := W) (gj := gj) (gd := gd) (T := T) (x := x) (K := K) (B := B) j (okJ_size hn) hf
  have HO := hide fun gj gb gs W j ex => order_fresh (w := W) (gj := gj) (gd := gd) (gb := gb) (gs := gs) (T := T) (x := x) (K := K) (B := B) (nm := nm) j ex hK hn ha hV hp hd hroom hmany hmade
  have HN := hide fun W (b : Below w.heap.size w W) => jb_new (h.next b) nm
  rw [hn] at HI
  clear h hf ha hV hp hd hroom hmany hmade hn hK
  go_enter Tryz.func6, Tryz.ntmps6
  go_upto_region 6 with (go_at_call 15; refine HI.out.mono ?_; rintro e w1 ⟨rfl, hb⟩; have HB := hide hb; clear hb)
  have J1 := hide (HN.out w1 HB.out)
  clear HN
  generalize w1.alloc (.cells #[.pointer (some ⟨gd, 0, none⟩), .string nm, .int .u64 0, .slice none 0 0, .int .i64 0, .bool false] 58) = W2 at *
  generalize w1.heap.size = gj at *
  go_wp2_with (first | (go_at_call 16; refine (HL.out _ _ J1.out).mono ?_; rintro e w3 ⟨gb, gs, rfl, j3, e3⟩; have J3 := hide (And.intro j3 e3); clear j3 e3) | (go_at_call 17; refine (HO.out _ _ _ _ J3.out.1 J3.out.2).mono ?_; rintro e w4 ⟨rfl, T4, j4⟩; have J4 := hide j4; clear j4))
  go_ret2
  exact ⟨_, _, rfl, J4.out⟩
end
end Go.Proofs.YtgncphoaknffnaaGreatDoor
