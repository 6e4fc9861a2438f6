/- Journals: opened on a fresh disk. Journals: Open on a fresh disk; the errors of Open. Journals: Add and Flush. Journals: awake. -/
import Derived.Test.YtpffaaalncdjcaaGreatDoorN32
namespace Go.Proofs.YtpffaaalncdjcaaGreatDoor
open Go.RowKit
open Go.Deep
open Go.Lib
set_option linter.unusedVariables false
section
set_option maxRecDepth 10000
set_option maxHeartbeats 1000000
variable {K : Nat → Prop} {B w : World} {gj gd : Nat} {J : Jr} {x : StD} {T : Nat → Prop} {v : Value}
theorem boxJ_cell {w : World} {gb gj : Nat} (h : w.heap[gb]? = some (boxJ gj)) : w.cell? ⟨gb, 0, none⟩ = some (.pointer (some ⟨gj, 0, none⟩)) := by rw [cell_of_row _ _ 0 _ _ _ h]; rfl
theorem tidy_none {gb : Nat} (h : JB K B w gj gd J x T v) (hb : w.heap[gb]? = some (boxJ gj)) (hm : J.nm.size ≤ 28) (hf : fnd x (asideN J.nm) = 2) : Calls Tryz.prog 88 #[.pointer (some ⟨gb, 0, none⟩)] w fun e w' => e = .returned (.int .i64 0) ∧ Below w.heap.size w w' := by
  have HA := hide fun W (hB : Below w.heap.size w W) => aside_none gd x T J.nm W (h.dk.below hB) hm hf
  have c := boxJ_cell hb
  have c0 := h.c0
  have c1 := h.c1
  have HH := hide h
  have HB := hide hb
  clear h hb hm hf
  go_enter Tryz.func88, Tryz.ntmps88
  go_upto_region 1 with fail
  refine wp_region_held_drew (S := fun W => W.cell? ⟨gb, 0, none⟩ = some (.pointer (some ⟨gj, 0, none⟩)) ∧ W.cell? ⟨gj, 0, none⟩ = some (.pointer (some ⟨gd, 0, none⟩)) ∧ W.cell? ⟨gj, 1, none⟩ = some (.string J.nm)) (by kernel_rfl) ⟨c, c0, c1⟩ (fun hH => ?_)
  refine wpAnyH_take (i := 0) (v := .pointer (some ⟨gj, 0, none⟩)) rfl (by kernel_rfl) (by kernel_rfl) (by kernel_rfl) (fun _ _ _ h => h) (.inl ⟨by rfl, fun W hS => by have c4 := hS.1; go_simp⟩) hH ?_
  change wpAnyH _ _ _ _ _ _ _ (Act.put _ (some 2) _) _
  simp only [Act.put, List.setIfInBounds_toArray, List.set_cons_zero, List.set_cons_succ]
  refine wpAnyH_take (i := 1) (v := .pointer (some ⟨gj, 0, none⟩)) rfl (by kernel_rfl) (by kernel_rfl) (by kernel_rfl) (fun _ _ _ h => h) (.inl ⟨by rfl, fun W _ => by go_simp⟩) hH ?_
  change wpAnyH _ _ _ _ _ _ _ (Act.put _ (some 3) _) _
  simp only [Act.put, List.setIfInBounds_toArray, List.set_cons_zero, List.set_cons_succ]
  refine wpAnyH_take (i := 2) (v := .pointer (some ⟨gj, 0, none⟩)) rfl (by kernel_rfl) (by kernel_rfl) (by kernel_rfl) (fun _ _ _ h => h) (.inl ⟨by rfl, fun W _ => by go_simp⟩) hH ?_
  change wpAnyH _ _ _ _ _ _ _ (Act.put _ (some 4) _) _
  simp only [Act.put, List.setIfInBounds_toArray, List.set_cons_zero, List.set_cons_succ]
  refine wpAnyH_take (i := 3) (v := .pointer (some ⟨gd, 0, none⟩)) rfl (by kernel_rfl) (by kernel_rfl) (by kernel_rfl) (fun _ _ _ h => h) (.inl ⟨by rfl, fun W hS => by have c4 := hS.2.1; go_simp⟩) hH ?_
  change wpAnyH _ _ _ _ _ _ _ (Act.put _ (some 5) _) _
  simp only [Act.put, List.setIfInBounds_toArray, List.set_cons_zero, List.set_cons_succ]
  refine wpAnyH_take (i := 4) (v := .pointer (some ⟨gj, 0, none⟩)) rfl (by kernel_rfl) (by kernel_rfl) (by kernel_rfl) (fun _ _ _ h => h) (.inl ⟨by rfl, fun W hS => by have c4 := hS.1; go_simp⟩) hH ?_
  change wpAnyH _ _ _ _ _ _ _ (Act.put _ (some 6) _) _
  simp only [Act.put, List.setIfInBounds_toArray, List.set_cons_zero, List.set_cons_succ]
  refine wpAnyH_take (i := 5) (v := .pointer (some ⟨gj, 0, none⟩)) rfl (by kernel_rfl) (by kernel_rfl) (by kernel_rfl) (fun _ _ _ h => h) (.inl ⟨by rfl, fun W _ => by go_simp⟩) hH ?_
  change wpAnyH _ _ _ _ _ _ _ (Act.put _ (some 7) _) _
  simp only [Act.put, List.setIfInBounds_toArray, List.set_cons_zero, List.set_cons_succ]
  refine wpAnyH_take (i := 6) (v := .pointer (some ⟨gj, 1, none⟩)) rfl (by kernel_rfl) (by kernel_rfl) (by kernel_rfl) (fun _ _ _ h => h) (.inl ⟨by rfl, fun W _ => by go_simp⟩) hH ?_
  change wpAnyH _ _ _ _ _ _ _ (Act.put _ (some 8) _) _
  simp only [Act.put, List.setIfInBounds_toArray, List.set_cons_zero, List.set_cons_succ]
  refine wpAnyH_take (i := 7) (v := .string J.nm) rfl (by kernel_rfl) (by kernel_rfl) (by kernel_rfl) (fun _ _ _ h => h) (.inl ⟨by rfl, fun W hS => by have c4 := hS.2.2; go_simp⟩) hH ?_
  change wpAnyH _ _ _ _ _ _ _ (Act.put _ (some 9) _) _
  simp only [Act.put, List.setIfInBounds_toArray, List.set_cons_zero, List.set_cons_succ]
  refine wpAnyH_ready (rs := [8]) (by kernel_rfl) (by simp) (AllReadyH.cons rfl (fun K1 hK1 => ?_) AllReadyH.nil)
  go_simp
  refine (HA.out _ (Below.refl _ _).drew).mono ?_
  rintro e w3 ⟨rfl, b3⟩
  have b4 : Below w.heap.size w w3 := (Below.refl w.heap.size w).drew.trans b3
  refine hK1.out _ _ ⟨boxJ_cell ((b4.block gb (lt_heap HB.out)).trans HB.out), (HH.out.next b4).c0, (HH.out.next b4).c1⟩ (fun hH => ?_)
  clear hK1
  refine wpAnyH_take (i := 9) (v := .int .i64 0) rfl (by kernel_rfl) (by kernel_rfl) (by kernel_rfl) (fun _ _ _ h => h) (.inl ⟨by rfl, fun W _ => by go_simp⟩) hH ?_
  change wpAnyH _ _ _ _ _ _ _ (Act.put _ (some 1) _) _
  simp only [Act.put, List.setIfInBounds_toArray, List.set_cons_zero, List.set_cons_succ]
  refine wpAnyH_done (by kernel_rfl) ?_ _
  go_wp2
  go_ret
  exact ⟨rfl, b4⟩
/-- A fresh file is written. -/
def bgC (nm : ByteArray) : Ch := wrC nm 0 (txt (headL 0))
theorem begin_ok {gb : Nat} (h : JB K B w gj gd J x T v) (hK : KB K B) (hb : w.heap[gb]? = some (boxJ gj)) (hT : ¬ T gb) (hV : Vd x) (hp : x.plan = []) (hr : rdy x.dead [J.nm] = 0) (hroom : x.now.n < 64) (hmany : x.loose.length < 10000) (hmade : x.made < 1000000) : Calls Tryz.prog 91 #[.pointer (some ⟨gb, 0, none⟩)] w fun e w' => e = .returned (.int .i64 0) ∧ DK w' gd (mkC x (bgC J.nm)) (grow T w w') ∧ Fr T w w' := by
  have HW := hide fun W (hB : Below w.heap.size w W) => write_ok gd x T J.nm 0 (txt (headL 0)) W (h.dk.below hB) hV hp hr (Nat.zero_le _) (by rw [txtJ_size, headL_len]; decide) (.inr hroom) hmany hmade
  have HD := hide fun W (hB : Below w.heap.size w W) => headJ_any 0 (by unfold U64; omega) W ((hK.at_ h.bel).next hB)
  have HL := hide h.dk.lt
  have c := boxJ_cell hb
  have c0 := h.c0
  have c1 := h.c1
  have HH := hide h
  have HB := hide hb
  have HT := hide hT
  clear h hb hV hp hr hroom hmany hmade hT
  unfold bgC
  generalize txt (headL 0) = hd at *
  go_enter Tryz.func91, Tryz.ntmps91
  go_upto_region 1 with fail
  refine wp_region_held_drew (S := fun W => W.cell? ⟨gb, 0, none⟩ = some (.pointer (some ⟨gj, 0, none⟩)) ∧ W.cell? ⟨gj, 0, none⟩ = some (.pointer (some ⟨gd, 0, none⟩)) ∧ W.cell? ⟨gj, 1, none⟩ = some (.string J.nm)) (by kernel_rfl) ⟨c, c0, c1⟩ (fun hH => ?_)
  refine wpAnyH_take (i := 0) (v := .pointer (some ⟨gj, 0, none⟩)) rfl (by kernel_rfl) (by kernel_rfl) (by kernel_rfl) (fun _ _ _ h => h) (.inl ⟨by rfl, fun W hS => by have c4 := hS.1; go_simp⟩) hH ?_
  change wpAnyH _ _ _ _ _ _ _ (Act.put _ (some 2) _) _
  simp only [Act.put, List.setIfInBounds_toArray, List.set_cons_zero, List.set_cons_succ]
  refine wpAnyH_take (i := 1) (v := .pointer (some ⟨gj, 0, none⟩)) rfl (by kernel_rfl) (by kernel_rfl) (by kernel_rfl) (fun _ _ _ h => h) (.inl ⟨by rfl, fun W _ => by go_simp⟩) hH ?_
  change wpAnyH _ _ _ _ _ _ _ (Act.put _ (some 3) _) _
  simp only [Act.put, List.setIfInBounds_toArray, List.set_cons_zero, List.set_cons_succ]
  refine wpAnyH_take (i := 2) (v := .pointer (some ⟨gj, 0, none⟩)) rfl (by kernel_rfl) (by kernel_rfl) (by kernel_rfl) (fun _ _ _ h => h) (.inl ⟨by rfl, fun W _ => by go_simp⟩) hH ?_
  change wpAnyH _ _ _ _ _ _ _ (Act.put _ (some 4) _) _
  simp only [Act.put, List.setIfInBounds_toArray, List.set_cons_zero, List.set_cons_succ]
  refine wpAnyH_take (i := 3) (v := .pointer (some ⟨gd, 0, none⟩)) rfl (by kernel_rfl) (by kernel_rfl) (by kernel_rfl) (fun _ _ _ h => h) (.inl ⟨by rfl, fun W hS => by have c4 := hS.2.1; go_simp⟩) hH ?_
  change wpAnyH _ _ _ _ _ _ _ (Act.put _ (some 5) _) _
  simp only [Act.put, List.setIfInBounds_toArray, List.set_cons_zero, List.set_cons_succ]
  refine wpAnyH_take (i := 4) (v := .pointer (some ⟨gj, 0, none⟩)) rfl (by kernel_rfl) (by kernel_rfl) (by kernel_rfl) (fun _ _ _ h => h) (.inl ⟨by rfl, fun W hS => by have c4 := hS.1; go_simp⟩) hH ?_
  change wpAnyH _ _ _ _ _ _ _ (Act.put _ (some 6) _) _
  simp only [Act.put, List.setIfInBounds_toArray, List.set_cons_zero, List.set_cons_succ]
  refine wpAnyH_take (i := 5) (v := .pointer (some ⟨gj, 0, none⟩)) rfl (by kernel_rfl) (by kernel_rfl) (by kernel_rfl) (fun _ _ _ h => h) (.inl ⟨by rfl, fun W _ => by go_simp⟩) hH ?_
  change wpAnyH _ _ _ _ _ _ _ (Act.put _ (some 7) _) _
  simp only [Act.put, List.setIfInBounds_toArray, List.set_cons_zero, List.set_cons_succ]
  refine wpAnyH_take (i := 6) (v := .pointer (some ⟨gj, 1, none⟩)) rfl (by kernel_rfl) (by kernel_rfl) (by kernel_rfl) (fun _ _ _ h => h) (.inl ⟨by rfl, fun W _ => by go_simp⟩) hH ?_
  change wpAnyH _ _ _ _ _ _ _ (Act.put _ (some 8) _) _
  simp only [Act.put, List.setIfInBounds_toArray, List.set_cons_zero, List.set_cons_succ]
  refine wpAnyH_take (i := 7) (v := .string J.nm) rfl (by kernel_rfl) (by kernel_rfl) (by kernel_rfl) (fun _ _ _ h => h) (.inl ⟨by rfl, fun W hS => by have c4 := hS.2.2; go_simp⟩) hH ?_
  change wpAnyH _ _ _ _ _ _ _ (Act.put _ (some 9) _) _
  simp only [Act.put, List.setIfInBounds_toArray, List.set_cons_zero, List.set_cons_succ]
  refine wpAnyH_ready (rs := [8]) (by kernel_rfl) (by simp) (AllReadyH.cons rfl (fun K1 hK1 => ?_) AllReadyH.nil)
  go_simp
  refine (HD.out _ (Below.refl _ _).drew).mono ?_
  rintro e w3 ⟨rfl, b3⟩
  have b4 : Below w.heap.size w w3 := (Below.refl w.heap.size w).drew.trans b3
  refine hK1.out _ _ ⟨boxJ_cell ((b4.block gb (lt_heap HB.out)).trans HB.out), (HH.out.next b4).c0, (HH.out.next b4).c1⟩ (fun hH => ?_)
  clear hK1
  try simp only [Act.put, List.setIfInBounds_toArray, List.set_cons_zero, List.set_cons_succ]
  refine wpAnyH_ready (rs := [9]) (by kernel_rfl) (by simp) (AllReadyH.cons rfl (fun K1 hK1 => ?_) AllReadyH.nil)
  go_simp
  refine (HW.out _ b4).mono ?_
  rintro e w5 ⟨rfl, hd5, hf5⟩
  have FIN := hide (dk_grow b4 HL.out hd5 hf5)
  clear hd5 hf5
  have J5 := hide (HH.out.disk FIN.out)
  refine hK1.out _ _ ⟨boxJ_cell ((FIN.out.2.block gb (lt_heap HB.out) HT.out).trans HB.out), J5.out.c0, J5.out.c1⟩ (fun hH => ?_)
  clear hK1
  refine wpAnyH_take (i := 10) (v := .int .i64 0) rfl (by kernel_rfl) (by kernel_rfl) (by kernel_rfl) (fun _ _ _ h => h) (.inl ⟨by rfl, fun W _ => by go_simp⟩) hH ?_
  change wpAnyH _ _ _ _ _ _ _ (Act.put _ (some 1) _) _
  simp only [Act.put, List.setIfInBounds_toArray, List.set_cons_zero, List.set_cons_succ]
  refine wpAnyH_done (by kernel_rfl) ?_ _
  go_wp2
  go_ret
  exact ⟨rfl, FIN.out⟩
end
end Go.Proofs.YtpffaaalncdjcaaGreatDoor
namespace Go.Proofs.YtpffaaalncdjcaaGreatDoor
open Go.RowKit
open Go.Deep
open Go.Lib
set_option linter.unusedVariables false
/-- What a fresh journal's disk is, step by step. -/
def xsO (x : StD) (nm : ByteArray) : Nat → StD
  | 0 => x
  | 1 => x
  | 2 => mkC x (bgC nm)
  | _ => syC (mkC x (bgC nm))
def FOJ : Nat → Nat
  | 0 => 88
  | 1 => 91
  | _ => 83
def faO (gd : Nat) : Nat → Array Value
  | 0 => #[]
  | 1 => #[]
  | _ => #[.pointer (some ⟨gd, 0, none⟩)]
def caO (gb : Nat) : Nat → Array Value
  | 0 => #[.pointer (some ⟨gb, 0, none⟩)]
  | 1 => #[.pointer (some ⟨gb, 0, none⟩)]
  | _ => #[]
theorem rdyJ {d : Bool} {nm : ByteArray} (hd : d = false) (h : okJ nm = true) : rdy d [nm] = 0 := by
  unfold okJ at h
  simp at h
  subst hd
  unfold rdy
  simp [h.1]
theorem okJ_size {nm : ByteArray} (h : okJ nm = true) : nm.size ≤ 28 := by
  unfold okJ at h
  simp at h
  exact h.2
theorem okJ_name {nm : ByteArray} (h : okJ nm = true) : isName (lsD nm) = true := by
  unfold okJ at h
  simp at h
  exact h.1
section
set_option maxRecDepth 10000
set_option maxHeartbeats 1000000
variable {K : Nat → Prop} {B w : World} {gj gd : Nat} {x : StD} {T : Nat → Prop} {v : Value}
theorem bg_ok {nm : ByteArray} (hV : Vd x) (hr : isName (lsD nm) = true) (hroom : x.now.n < 64) : okD x.now (bgC nm) := wr_ok hV.bd hr (Nat.zero_le _) (by rw [txtJ_size, headL_len]; decide) (.inr hroom)
theorem order_fresh {nm : ByteArray} {gb gs : Nat} (h : JB K B w gj gd ⟨nm, 0, [], 0, false⟩ x T (.slice none 0 0)) (he : Ex w T [(gb, boxJ gj), (gs, .cells #[fTidy gb, fBegin gb, fSync gd] 51)]) (hK : KB K B) (hn : okJ nm = true) (ha : fnd x (asideN nm) = 2) (hV : Vd x) (hp : x.plan = []) (hd : x.dead = false) (hroom : x.now.n < 64) (hmany : x.loose.length < 10000) (hmade : x.made < 1000000) : Calls Tryz.prog 56 #[.slice (some ⟨gs, 0, none⟩) 3 3] w fun e w' => e = .returned (.int .i64 0) ∧ ∃ T', JB K B w' gj gd ⟨nm, 0, [], 0, false⟩ (syC (mkC x (bgC nm))) T' (.slice none 0 0) := by
  refine (inOrder_any 3 gs 3 FOJ (faO gd) (caO gb) (fun k W => ∃ T', JB K B W gj gd ⟨nm, 0, [], 0, false⟩ (xsO x nm k) T' (.slice none 0 0) ∧ Ex W T' [(gb, boxJ gj), (gs, .cells #[fTidy gb, fBegin gb, fSync gd] 51)]) (fun _ _ => False) (by decide) (fun k W hk => ?_) (fun k W hk hP => ?_) (fun k W hk hP => ?_) w ⟨T, h, he⟩).mono ?_
  · rcases k with _ | _ | _ | k
    · kernel_rfl
    · kernel_rfl
    · kernel_rfl
    · omega
  · obtain ⟨T', j, ex⟩ := hP
    have hr := ex.at_ (p := (gs, .cells #[fTidy gb, fBegin gb, fSync gd] 51)) (by simp)
    rw [cell_of_row _ _ _ _ _ _ hr]
    rcases k with _ | _ | _ | k
    · rfl
    · rfl
    · rfl
    · omega
  · obtain ⟨T', j, ex⟩ := hP
    have hbx := ex (gb, boxJ gj) (by simp)
    rcases k with _ | _ | _ | k
    · refine (tidy_none j hbx.1 (okJ_size hn) ha).mono ?_
      rintro e w' ⟨rfl, b⟩
      exact ⟨0, rfl, fun _ => ⟨T', j.next b, ex.next b⟩, fun e => absurd rfl e⟩
    · refine (begin_ok j hK hbx.1 hbx.2 hV hp (rdyJ hd hn) hroom hmany hmade).mono ?_
      rintro e w' ⟨rfl, b⟩
      exact ⟨0, rfl, fun _ => ⟨_, j.disk b, ex.disk b.2⟩, fun e => absurd rfl e⟩
    · refine (sync_ok gd (mkC x (bgC nm)) T' W j.dk (hV.mkC (bg_ok hV (okJ_name hn) hroom) hmany hmade) hp hd).mono ?_
      rintro e w' ⟨rfl, b⟩
      exact ⟨0, rfl, fun _ => ⟨_, j.disk b, ex.disk b.2⟩, fun e => absurd rfl e⟩
    · omega
  · rintro e w' (⟨rfl, T', j, _⟩ | ⟨E, _, _, hF⟩)
    · exact ⟨rfl, T', j⟩
    · exact hF.elim
theorem open_nil (nm : ByteArray) (w : World) : Calls Tryz.prog 21 #[.pointer none, .string nm] w fun e w' => e = .returned (.tuple #[.pointer none, .int .i64 1]) ∧ w' = w := by
  go_enter Tryz.func21, Tryz.ntmps21
  go_wp2
  go_ret2
  exact ⟨rfl, rfl⟩
theorem open_name (nm : ByteArray) (w : World) (hm : nm.size ≤ maxLen) (hn : okJ nm = false) : Calls Tryz.prog 21 #[.pointer (some ⟨gd, 0, none⟩), .string nm] w fun e w' => e = .returned (.tuple #[.pointer none, .int .i64 70]) ∧ Below w.heap.size w w' := by
  have HI := hide (isNameJ_any nm hm w)
  rw [hn] at HI
  clear hn hm
  go_enter Tryz.func21, Tryz.ntmps21
  go_wp2_with (go_at_call 54; refine HI.out.mono ?_; rintro e w1 ⟨rfl, hb⟩; have HB := hide hb; clear hb)
  go_ret2
  exact ⟨rfl, HB.out⟩
theorem jb_new (h : DBk K B w gd x T) (nm : ByteArray) : JB K B (w.alloc (.cells #[.pointer (some ⟨gd, 0, none⟩), .string nm, .int .u64 0, .slice none 0 0, .int .i64 0, .bool false] 117)) w.heap.size gd ⟨nm, 0, [], 0, false⟩ x T (.slice none 0 0) := by
  have b : Below w.heap.size w (w.alloc (.cells #[.pointer (some ⟨gd, 0, none⟩), .string nm, .int .u64 0, .slice none 0 0, .int .i64 0, .bool false] 117)) := (Below.refl _ _).alloc (Nat.le_refl _) _
  refine ⟨h.dk.below b, h.bel.next b, h.far, heap_alloc_last w _, (.inl (OX.nil _)), .inr h.bel.size, fun e => ?_, fun g hg => by cases hg⟩
  have := h.dk.lt _ e
  omega
theorem open_fresh (h : DBk K B w gd x T) (nm : ByteArray) (hK : KB K B) (hn : okJ nm = true) (hf : fnd x nm = 2) (ha : fnd x (asideN nm) = 2) (hV : Vd x) (hp : x.plan = []) (hd : x.dead = false) (hroom : x.now.n < 64) (hmany : x.loose.length < 10000) (hmade : x.made < 1000000) : Calls Tryz.prog 21 #[.pointer (some ⟨gd, 0, none⟩), .string nm] w fun e w' => ∃ gj T', e = .returned (.tuple #[.pointer (some ⟨gj, 0, none⟩), .int .i64 0]) ∧ JB K B w' gj gd ⟨nm, 0, [], 0, false⟩ (syC (mkC x (bgC nm))) T' (.slice none 0 0) := by
  have HI := hide (isNameJ_any nm (by have := okJ_size hn; unfold maxLen; omega) w)
  have HL := hide fun gj W j => load_fresh (w := W) (gj := gj) (gd := gd) (T := T) (x := x) (K := K) (B := B) j (okJ_size hn) hf
  have HO := hide fun gj gb gs W j ex => order_fresh (w := W) (gj := gj) (gd := gd) (gb := gb) (gs := gs) (T := T) (x := x) (K := K) (B := B) (nm := nm) j ex hK hn ha hV hp hd hroom hmany hmade
  have HN := hide fun W (b : Below w.heap.size w W) => jb_new (h.next b) nm
  rw [hn] at HI
  clear h hf ha hV hp hd hroom hmany hmade hn hK
  go_enter Tryz.func21, Tryz.ntmps21
  go_upto_region 6 with (go_at_call 54; refine HI.out.mono ?_; rintro e w1 ⟨rfl, hb⟩; have HB := hide hb; clear hb)
  have J1 := hide (HN.out w1 HB.out)
  clear HN
  generalize w1.alloc (.cells #[.pointer (some ⟨gd, 0, none⟩), .string nm, .int .u64 0, .slice none 0 0, .int .i64 0, .bool false] 117) = W2 at *
  generalize w1.heap.size = gj at *
  go_wp2_with (first | (go_at_call 55; refine (HL.out _ _ J1.out).mono ?_; rintro e w3 ⟨gb, gs, rfl, j3, e3⟩; have J3 := hide (And.intro j3 e3); clear j3 e3) | (go_at_call 56; refine (HO.out _ _ _ _ J3.out.1 J3.out.2).mono ?_; rintro e w4 ⟨rfl, T4, j4⟩; have J4 := hide j4; clear j4))
  go_ret2
  exact ⟨_, _, rfl, J4.out⟩
end
end Go.Proofs.YtpffaaalncdjcaaGreatDoor
namespace Go.Proofs.YtpffaaalncdjcaaGreatDoor
open Go.RowKit
open Go.Deep
open Go.Lib
set_option linter.unusedVariables false
section
set_option maxRecDepth 10000
set_option maxHeartbeats 2000000
variable {K : Nat → Prop} {B w : World} {gj gd : Nat} {J : Jr} {x : StD} {T : Nat → Prop} {v : Value}
theorem bsS (w : World) (s : ByteArray) : (Instr.buildSlice 63 1 #[(0, .string s)]).run Tryz.prog w = .ok (.slice (some ⟨w.heap.size, 0, none⟩) 1 1) (w.alloc (.cells #[.string s] 9)) := by kernel_rfl
theorem wpAppS {w : World} {ops : Array Oper} {rest : List Oper} {o : Oper} {a : Act} {Q : Exit → Act → World → Prop} (hgd : o.guard = none) (sl y : Operand)
    (ho : o.op = .call { callee := .builtin .append, args := #[sl, y], argTypes := #[63, 63] }) (vs : Value) (L : List ByteArray) (hx : a.eval sl = vs) (hown : OX KSJ w vs L) (ad : Addr) (m c : Nat) (N : List ByteArray)
    (hy : a.eval y = .slice (some ad) m c) (hm : m = N.length) (hnews : ∀ j u, (flatE KSJ N)[j]? = some u → w.cell? (ad.add j) = some u) (hsm : (L.length + m) * 16 ≤ 140737488355328) (h63 : L.length + m ≤ maxLen)
    (h : ∀ v' w', OX KSJ w' v' (L ++ N) → Onto w w' vs v' → wpList Tryz.prog ops Q rest (a.put o.dst v') w') : wpList Tryz.prog ops Q (o :: rest) a w := by
  obtain ⟨v', w', hr, h1, h2⟩ := KSJ.app (ty := o.type) hown ad m c N hm hnews hsm h63
  refine wpList_plain hgd fun K hK => ?_
  unfold Oper.wp execOp
  simp only [ho, resolve, invoke, builtin, Sem.run_bind, Sem.run_pure, Result.andThen_ok, List.map_toArray, List.map_cons, List.map_nil, hx, hy]
  rw [show (Builtin.append_ #[63, 63] o.type #[vs, .slice (some ad) m c]).run Tryz.prog w = .ok v' w' from hr]
  exact hK _ _ (h v' w' h1 h2)
theorem JB.app {W : World} {v' : Value} {R : List ByteArray} (h : JB K B w gj gd J x T v) (on : Onto w W v v') (ho : OX KSJ W v' R) : W.heap[gj]? = some (.cells (J.cells gd v) 117 (0, 0)) ∧ JB K B (W.setCell ⟨gj, 3, none⟩ v') gj gd { J with recs := R } x T v' := by
  have g := on.grown
  have blk : ∀ k, k < w.heap.size → v.ownBlock ≠ some k → W.heap[k]? = w.heap[k]? := fun k hk hn => g.block k hk (fun e => hn e.symm)
  have hrow : W.heap[gj]? = some (.cells (J.cells gd v) 117 (0, 0)) := (blk gj h.lt fun e => (h.vfar gj e).2.2 rfl).trans h.row
  have hs : (W.setCell ⟨gj, 3, none⟩ v').heap.size = W.heap.size := by simp [World.setCell]
  have hb : ∀ k, k ≠ gj → (W.setCell ⟨gj, 3, none⟩ v').heap[k]? = W.heap[k]? := fun k hk => Below.heap_setCell _ _ _ _ hk
  have h1 := g.size
  have h2 := h.bel.size
  have hv : ∀ k, v'.ownBlock = some k → (K k ∨ B.heap.size ≤ k) ∧ ¬ T k ∧ k ≠ gj := fun k hk => by
    rcases on.lies with e | ⟨c, e, hc⟩
    · exact h.vfar k (by rw [← e]; exact hk)
    · rw [e] at hk
      cases hk
      refine ⟨.inr (by omega), fun e => ?_, ?_⟩
      · have := h.dk.lt _ e
        omega
      · have := h.lt
        omega
  refine ⟨hrow, ⟨?_, ?_, h.far, ?_, (.inl (ho.of_block fun k hk => hb k (hv k hk).2.2)), h.jfar, h.jT, hv⟩⟩
  · exact h.dk.frame (by omega) fun k hk => (hb k fun e => h.jT (e ▸ hk)).trans (blk k (h.dk.lt k hk) fun e => (h.vfar k e).2.1 hk)
  · refine (h.bel.far (S := fun k => v.ownBlock = some k) ⟨g.os, g.tape, g.output, g.size, fun k hk hn => blk k hk hn⟩ fun k hk => (h.vfar k hk).1).far (Fr.setCell (S := fun k => k = gj) W (p := ⟨gj, 3, none⟩) rfl v') (fun k hk => hk ▸ h.jfar)
  · exact heap_setCell_same W gj 3 _ _ v' hrow
/-- What Add does to the disk. -/
def adC (J : Jr) (k : Nat) (s : ByteArray) : Ch := wrC J.nm k (txt (recL J.ep J.recs.length s.data.toList))
theorem add_dead (h : JB K B w gj gd J x T v) (s : ByteArray) (hd : J.dead = true) : Calls Tryz.prog 24 #[.pointer (some ⟨gj, 0, none⟩), .string s] w fun e w' => e = .returned (.int .i64 7) ∧ w' = w := by
  have HD := hide (deadJ_any h)
  rw [hd] at HD
  clear h hd
  go_enter Tryz.func24, Tryz.ntmps24
  go_wp2_with (go_at_call 59; refine HD.out.mono ?_; rintro e w1 ⟨rfl, hw⟩; subst w1)
  go_ret
  exact ⟨rfl, rfl⟩
theorem add_nil (s : ByteArray) (w : World) : Calls Tryz.prog 24 #[.pointer none, .string s] w fun e w' => e = .returned (.int .i64 7) ∧ w' = w := by
  have HD := hide (deadJ_nil w)
  go_enter Tryz.func24, Tryz.ntmps24
  go_wp2_with (go_at_call 59; refine HD.out.mono ?_; rintro e w1 ⟨rfl, hw⟩; subst w1)
  go_ret
  exact ⟨rfl, rfl⟩
theorem flush_nil (w : World) : Calls Tryz.prog 48 #[.pointer none] w fun e w' => e = .returned (.int .i64 7) ∧ w' = w := by
  have HD := hide (deadJ_nil w)
  go_enter Tryz.func48, Tryz.ntmps48
  go_wp2_with (go_at_call 59; refine HD.out.mono ?_; rintro e w1 ⟨rfl, hw⟩; subst w1)
  go_ret
  exact ⟨rfl, rfl⟩
theorem flush_ok (h : JB K B w gj gd J x T v) (hd : J.dead = false) (hV : Vd x) (hp : x.plan = []) (hdd : x.dead = false) : Calls Tryz.prog 48 #[.pointer (some ⟨gj, 0, none⟩)] w fun e w' => e = .returned (.int .i64 0) ∧ ∃ T', JB K B w' gj gd J (syC x) T' v := by
  have HD := hide (deadJ_any h)
  have HS := hide (sync_ok gd x T w h.dk hV hp hdd)
  have HH := hide fun W T' (j : JB K B W gj gd J (syC x) T' v) => heedJ_any j 0
  have c0 := h.c0
  have H0 := hide h
  have HJ : Hid ({ J with dead := decide ((0 : Int) = 7) } = J) := by
    show _ = _
    rw [show decide ((0 : Int) = 7) = J.dead from hd.symm]
  rw [hd] at HD
  clear h hd hV hp hdd
  go_enter Tryz.func48, Tryz.ntmps48
  go_wp2_with (first | (go_at_call 59; refine HD.out.mono ?_; rintro e w1 ⟨rfl, hw⟩; subst w1) | (go_at_call 83; refine HS.out.mono ?_; rintro e w1 ⟨rfl, h1⟩; have J1 := hide (H0.out.disk h1); clear h1) | (go_at_call 61; refine (HH.out _ _ J1.out).mono ?_; rintro e w2 ⟨rfl, h2⟩; rw [HJ.out] at h2; have J2 := hide h2; clear h2))
  go_ret
  exact ⟨rfl, _, J2.out⟩
theorem add_ok (h : JB K B w gj gd J x T v) (hK : KB K B) (s : ByteArray) (hd : J.dead = false) (hs : s.size ≤ 65536) (he : U64 J.ep) (hc : J.recs.length ≤ 100000) (hV : Vd x) (hp : x.plan = []) (hr : rdy x.dead [J.nm] = 0) (hlen : (x.now.at (lsD J.nm)).length + (16 + s.size) ≤ 16777216) (hroom : (x.now.get (lsD J.nm)).isSome = true) (hmany : x.loose.length < 10000) (hmade : x.made < 1000000) : Calls Tryz.prog 24 #[.pointer (some ⟨gj, 0, none⟩), .string s] w fun e w' => e = .returned (.int .i64 0) ∧ ∃ T' v', JB K B w' gj gd { J with recs := J.recs ++ [s] } (mkC x (adC J (x.now.at (lsD J.nm)).length s)) T' v' := by
  have HD := hide (deadJ_any h)
  have HR := hide fun W (hB : Below w.heap.size w W) => recJ_any J.ep J.recs.length he (by unfold U64; omega) s hs W ((hK.at_ h.bel).next hB)
  have hsl : s.data.toList.length = s.size := by simp
  have HA := hide fun W (hB : Below w.heap.size w W) => append_ok gd x T J.nm (txt (recL J.ep J.recs.length s.data.toList)) W (h.dk.below hB) hV hp hr (by rw [txtJ_size, recL_len, hsl]; exact hlen) (.inl hroom) hmany hmade
  have HH := hide fun W T' (j : JB K B W gj gd J (mkC x (adC J (x.now.at (lsD J.nm)).length s)) T' v) => heedJ_any j 0
  have HJ : Hid ({ J with dead := decide ((0 : Int) = 7) } = J) := by
    show _ = _
    rw [show decide ((0 : Int) = 7) = J.dead from hd.symm]
  have HL := hide h.dk.lt
  obtain ⟨ao, cc, rfl⟩ := h.own.form
  have HC : Hid (∀ W, Below w.heap.size w W → W.cell? ⟨gj, 2, none⟩ = some (.int .u64 (J.ep : Int)) ∧ W.cell? ⟨gj, 3, none⟩ = some (.slice ao J.recs.length cc)) := fun W hb => ⟨(h.next hb).c2, (h.next hb).c3⟩
  have H0 := hide h
  have e1 : IntKind.u64.wrap (J.recs.length : Int) = (J.recs.length : Int) := wrapu _ (by omega) (by omega)
  have HLN := hide hc
  rw [hd] at HD
  unfold adC at HH ⊢
  clear h hd hV hp hr hlen hroom hmany hmade hsl hs he hc
  go_enter Tryz.func24, Tryz.ntmps24
  go_upto_region 3 with (go_at_call 59; refine HD.out.mono ?_; rintro e w1 ⟨rfl, hw⟩; subst w1)
  go_region_held3 (fun w' => Below w.heap.size w w' ∧ w'.cell? ⟨gj, 2, none⟩ = some (.int .u64 (J.ep : Int)) ∧ w'.cell? ⟨gj, 3, none⟩ = some (.slice ao J.recs.length cc)) (first | assumption | exact (fun hb => ⟨hb, HC.out _ hb⟩) ((Below.refl _ _).drew) | exact (fun hb => ⟨hb, HC.out _ hb⟩) (below_next (And.left (by assumption)) be)) (first | (go_at_call 60; refine (HR.out _ (And.left (by assumption))).mono ?_; rintro e w1 ⟨rfl, be⟩))
  have B1 : Hid (Below w.heap.size w w1) := And.left (by assumption)
  have J1 := hide (H0.out.next B1.out)
  rename_i hHeld
  clear be HC HR HD hHeld
  go_upto_region 6 with fail
  have c0 := J1.out.c0
  have c1 := J1.out.c1
  refine wp_region_held_drew (S := fun W => W.cell? ⟨gj, 0, none⟩ = some (.pointer (some ⟨gd, 0, none⟩)) ∧ W.cell? ⟨gj, 1, none⟩ = some (.string J.nm)) (by kernel_rfl) ⟨c0, c1⟩ (fun hH => ?_)
  refine wpAnyH_take (i := 0) (v := .pointer (some ⟨gj, 0, none⟩)) rfl (by kernel_rfl) (by kernel_rfl) (by kernel_rfl) (fun _ _ _ h => h) (ylD_move (by rfl) _ (by rfl) _ (by rfl)) hH ?_
  change wpAnyH _ _ _ _ _ _ _ (Act.put _ (some 28) _) _
  simp only [Act.put, List.setIfInBounds_toArray, List.set_cons_zero, List.set_cons_succ]
  refine wpAnyH_take (i := 1) (v := .pointer (some ⟨gj, 0, none⟩)) rfl (by kernel_rfl) (by kernel_rfl) (by kernel_rfl) (fun _ _ _ h => h) (ylD_move (by rfl) _ (by rfl) _ (by rfl)) hH ?_
  change wpAnyH _ _ _ _ _ _ _ (Act.put _ (some 29) _) _
  simp only [Act.put, List.setIfInBounds_toArray, List.set_cons_zero, List.set_cons_succ]
  refine wpAnyH_take (i := 2) (v := .pointer (some ⟨gj, 0, none⟩)) rfl (by kernel_rfl) (by kernel_rfl) (by kernel_rfl) (fun _ _ _ h => h) (.inl ⟨by rfl, fun W _ => by go_simp⟩) hH ?_
  change wpAnyH _ _ _ _ _ _ _ (Act.put _ (some 30) _) _
  simp only [Act.put, List.setIfInBounds_toArray, List.set_cons_zero, List.set_cons_succ]
  refine wpAnyH_take (i := 3) (v := .pointer (some ⟨gj, 0, none⟩)) rfl (by kernel_rfl) (by kernel_rfl) (by kernel_rfl) (fun _ _ _ h => h) (.inl ⟨by rfl, fun W _ => by go_simp⟩) hH ?_
  change wpAnyH _ _ _ _ _ _ _ (Act.put _ (some 31) _) _
  simp only [Act.put, List.setIfInBounds_toArray, List.set_cons_zero, List.set_cons_succ]
  refine wpAnyH_take (i := 4) (v := .pointer (some ⟨gd, 0, none⟩)) rfl (by kernel_rfl) (by kernel_rfl) (by kernel_rfl) (fun _ _ _ h => h) (.inl ⟨by rfl, fun W hS => by have c4 := hS.1; go_simp⟩) hH ?_
  change wpAnyH _ _ _ _ _ _ _ (Act.put _ (some 32) _) _
  simp only [Act.put, List.setIfInBounds_toArray, List.set_cons_zero, List.set_cons_succ]
  refine wpAnyH_take (i := 5) (v := .pointer (some ⟨gj, 0, none⟩)) rfl (by kernel_rfl) (by kernel_rfl) (by kernel_rfl) (fun _ _ _ h => h) (ylD_move (by rfl) _ (by rfl) _ (by rfl)) hH ?_
  change wpAnyH _ _ _ _ _ _ _ (Act.put _ (some 33) _) _
  simp only [Act.put, List.setIfInBounds_toArray, List.set_cons_zero, List.set_cons_succ]
  refine wpAnyH_take (i := 6) (v := .pointer (some ⟨gj, 0, none⟩)) rfl (by kernel_rfl) (by kernel_rfl) (by kernel_rfl) (fun _ _ _ h => h) (.inl ⟨by rfl, fun W _ => by go_simp⟩) hH ?_
  change wpAnyH _ _ _ _ _ _ _ (Act.put _ (some 34) _) _
  simp only [Act.put, List.setIfInBounds_toArray, List.set_cons_zero, List.set_cons_succ]
  refine wpAnyH_take (i := 7) (v := .pointer (some ⟨gj, 1, none⟩)) rfl (by kernel_rfl) (by kernel_rfl) (by kernel_rfl) (fun _ _ _ h => h) (.inl ⟨by rfl, fun W _ => by go_simp⟩) hH ?_
  change wpAnyH _ _ _ _ _ _ _ (Act.put _ (some 35) _) _
  simp only [Act.put, List.setIfInBounds_toArray, List.set_cons_zero, List.set_cons_succ]
  refine wpAnyH_take (i := 8) (v := .string J.nm) rfl (by kernel_rfl) (by kernel_rfl) (by kernel_rfl) (fun _ _ _ h => h) (.inl ⟨by rfl, fun W hS => by have c4 := hS.2; go_simp⟩) hH ?_
  change wpAnyH _ _ _ _ _ _ _ (Act.put _ (some 36) _) _
  simp only [Act.put, List.setIfInBounds_toArray, List.set_cons_zero, List.set_cons_succ]
  refine wpAnyH_take (i := 9) (v := .string (txt (recL J.ep J.recs.length s.data.toList))) rfl (by kernel_rfl) (by kernel_rfl) (by kernel_rfl) (fun _ _ _ h => h) (ylD_move (by rfl) _ (by rfl) _ (by rfl)) hH ?_
  change wpAnyH _ _ _ _ _ _ _ (Act.put _ (some 37) _) _
  simp only [Act.put, List.setIfInBounds_toArray, List.set_cons_zero, List.set_cons_succ]
  refine wpAnyH_ready (rs := [10]) (by kernel_rfl) (by simp) (AllReadyH.cons rfl (fun K1 hK1 => ?_) AllReadyH.nil)
  go_simp
  refine (HA.out _ B1.out.drew).mono ?_
  rintro e w5 ⟨rfl, hd5, hf5⟩
  have FIN := hide (dk_grow (B1.out.drew) HL.out hd5 hf5)
  clear hd5 hf5
  have J5 := hide (H0.out.disk FIN.out)
  clear FIN
  refine hK1.out _ _ ⟨J5.out.c0, J5.out.c1⟩ (fun hH => ?_)
  clear hK1
  refine wpAnyH_ready (rs := [11]) (by kernel_rfl) (by simp) (AllReadyH.cons rfl (fun K1 hK1 => ?_) AllReadyH.nil)
  go_simp
  refine (HH.out _ _ J5.out).mono ?_
  rintro e w6 ⟨rfl, j6⟩
  rw [HJ.out] at j6
  have J6 := hide j6
  clear j6
  refine hK1.out _ _ ⟨J6.out.c0, J6.out.c1⟩ (fun hH => ?_)
  clear hK1 J5
  refine wpAnyH_take (i := 12) (v := .int .i64 0) rfl (by kernel_rfl) (by kernel_rfl) (by kernel_rfl) (fun _ _ _ h => h) (.inl ⟨by rfl, fun W _ => by go_simp⟩) hH ?_
  change wpAnyH _ _ _ _ _ _ _ (Act.put _ (some 7) _) _
  simp only [Act.put, List.setIfInBounds_toArray, List.set_cons_zero, List.set_cons_succ]
  refine wpAnyH_done (by kernel_rfl) ?_ _
  have a3 := J6.out.c3
  have f3 := J6.out.fz 3
  have hbs := bsS w6 s
  clear J1 c0 c1 B1 HA HH H0
  have JA := hide (J6.out.next (show Below w6.heap.size w6 (w6.alloc (.cells #[.string s] 9)) from (Below.refl _ _).alloc (Nat.le_refl _) _))
  go_wp2_with (at_builtin; refine wpAppR rfl _ _ rfl (.slice ao J.recs.length cc) J.recs rfl JA.out.own ⟨_, 0, none⟩ 1 1 [s] rfl rfl (by decide) (one_newX (E := KSJ) w6 s) (by have := HLN.out; omega) (by have := HLN.out; unfold maxLen; omega) ?_; intro v' W3 ho3 on3; obtain ⟨ao', cc', rfl⟩ := ho3.form; have JJ := hide (JA.out.app on3 ho3); have q3 : W3.cell? ⟨gj, 3, none⟩ = some (.slice ao J.recs.length cc) := (by rw [cell_of_row _ _ 3 _ _ _ JJ.out.1]; rfl); have q4 := frozen_of_row _ _ 3 _ _ JJ.out.1; clear ho3 on3 a3 f3)
  go_ret
  have hj := JJ.out.2
  rw [show (J.recs ++ [s]).length = J.recs.length + 1 by simp] at hj
  exact ⟨rfl, _, _, hj⟩
end
end Go.Proofs.YtpffaaalncdjcaaGreatDoor
namespace Go.Proofs.YtpffaaalncdjcaaGreatDoor
open Go.RowKit
open Go.Deep
open Go.Lib
set_option linter.unusedVariables false
theorem bg_now (x : StD) (nm : ByteArray) : (mkC x (bgC nm)).now = x.now.put (lsD nm) (wr8 (x.now.at (lsD nm)) 0 (headL 0)) := rfl
theorem bg_at {x : StD} {nm : ByteArray} (h : x.now.at (lsD nm) = []) : (mkC x (bgC nm)).now.at (lsD nm) = headL 0 := by
  rw [bg_now, h]
  unfold FS.at
  rw [FS.put_get, if_pos rfl]
  simp [wr8]
theorem bg_get (x : StD) (nm : ByteArray) : ((mkC x (bgC nm)).now.get (lsD nm)).isSome = true := by
  rw [bg_now, FS.put_get, if_pos rfl]
  rfl
/-- A fresh disk's journal. -/
def xo (nm : ByteArray) : StD := syC (mkC x0 (bgC nm))
theorem fnd0 {nm : ByteArray} (h : isName (lsD nm) = true) : fnd x0 nm = 2 := by
  unfold fnd rdy x0
  simp [h, FS.none]
theorem name_app {a b : List UInt8} (ha : isName a = true) (hb : b.all ofName = true) (hl : a.length + b.length ≤ 32) : isName (a ++ b) = true := by
  unfold isName at *
  simp at ha hb ⊢
  exact ⟨⟨⟨ha.1.1, hb⟩, by omega⟩, by omega⟩
theorem aside_name {nm : ByteArray} (h : okJ nm = true) : isName (lsD (asideN nm)) = true := by
  have h1 := okJ_size h
  have h2 := okJ_name h
  have e : lsD (asideN nm) = lsD nm ++ [46, 116, 109, 112] := by
    unfold asideN lsD
    simp
  rw [e]
  refine name_app h2 (by decide +kernel) ?_
  have : (lsD nm).length = nm.size := by simp
  simp only [List.length_cons, List.length_nil]
  omega
theorem vd_xo {nm : ByteArray} (h : okJ nm = true) : Vd (xo nm) := (Vd.x0.mkC (bg_ok Vd.x0 (okJ_name h) (by decide)) (by decide) (by decide)).syC
section
set_option maxRecDepth 10000
set_option maxHeartbeats 2000000
theorem open_x0 {K : Nat → Prop} {B w : World} {gd : Nat} {T : Nat → Prop} (h : DBk K B w gd x0 T) (nm : ByteArray) (hK : KB K B) (hn : okJ nm = true) : Calls Tryz.prog 21 #[.pointer (some ⟨gd, 0, none⟩), .string nm] w fun e w' => ∃ gj T', e = .returned (.tuple #[.pointer (some ⟨gj, 0, none⟩), .int .i64 0]) ∧ JB K B w' gj gd ⟨nm, 0, [], 0, false⟩ (xo nm) T' (.slice none 0 0) :=
  open_fresh h nm hK hn (fnd0 (okJ_name hn)) (fnd0 (aside_name hn)) Vd.x0 rfl rfl (by decide) (by decide) (by decide)
theorem db_new {w w1 : World} (hd : DK w1 w.heap.size ⟨FS.none, FS.none, [], 0, [], false⟩ (fun g => g = w.heap.size)) (hb : Below w.heap.size w w1) : DBk K0 w w1 w.heap.size x0 (fun g => g = w.heap.size) := ⟨hd, Below.k0 hb, fun g hg => .inr (Nat.le_of_eq hg.symm)⟩
def nmj : ByteArray := ⟨#[106]⟩
def abcJ : ByteArray := ⟨#[97, 98, 99]⟩
theorem okj : okJ nmj = true := by decide +kernel
def xp : StD := mkC (xo nmj) (adC ⟨nmj, 0, [], 0, false⟩ 20 abcJ)
theorem at_xo {nm : ByteArray} : (xo nm).now.at (lsD nm) = headL 0 := bg_at rfl
end
end Go.Proofs.YtpffaaalncdjcaaGreatDoor
