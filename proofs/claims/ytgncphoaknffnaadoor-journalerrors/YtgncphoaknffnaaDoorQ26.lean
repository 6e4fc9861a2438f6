/- Journals: dead disks, dead journals, none. -/
import Derived.Test.YtgncphoaknffnaaDoorR25
namespace Go.Proofs.YtgncphoaknffnaaDoor
open Go.RowKit
open Go.Deep
open Go.Lib
set_option linter.unusedVariables false
theorem fnd_dead {x : StD} (h : x.dead = true) (nm : ByteArray) : fnd x nm = 7 := by
  unfold fnd rdy
  rw [h]
  rfl
theorem wrE_dead {x : StD} (h : x.dead = true) (nm : ByteArray) (k : Int) (s : ByteArray) : wrE x nm k s = 7 := by
  have : rdy x.dead [nm] = 7 := by
    rw [h]
    rfl
  unfold wrE
  rw [this]
  rfl
section
set_option maxRecDepth 10000
set_option maxHeartbeats 2000000
variable {B w : World} {gj gd : Nat} {J : Jr} {x : StD} {T : Nat → Prop} {v : Value}
theorem DK.c5 (h : DK w gd x T) : w.cell? ⟨gd, 5, none⟩ = some (.bool x.dead) := by
  obtain ⟨S1, S2, mn, ms, vo, vp, h⟩ := h
  exact h.cell 5 (by decide)
theorem sync_dead (h : DK w gd x T) (hd : x.dead = true) : Calls Tryd.prog 47 #[.pointer (some ⟨gd, 0, none⟩)] w fun e w' => e = .returned (.int .i64 7) ∧ w' = w := by
  have c5 := h.c5
  rw [hd] at c5
  have HD := hide (dead_cell gd true w c5)
  clear h c5
  go_enter Tryd.func47, Tryd.ntmps47
  go_wp2_with (go_at_call 43; refine HD.out.mono ?_; rintro e w1 ⟨rfl, hw⟩; subst w1)
  go_ret
  exact ⟨rfl, rfl⟩
theorem flush_dead (h : JB B w gj gd J x T v) (hd : J.dead = true) : Calls Tryd.prog 18 #[.pointer (some ⟨gj, 0, none⟩)] w fun e w' => e = .returned (.int .i64 7) ∧ w' = w := by
  have HD := hide (deadJ_any h)
  rw [hd] at HD
  clear h hd
  go_enter Tryd.func18, Tryd.ntmps18
  go_wp2_with (go_at_call 20; refine HD.out.mono ?_; rintro e w1 ⟨rfl, hw⟩; subst w1)
  go_ret
  exact ⟨rfl, rfl⟩
theorem renew_dead (h : JB B w gj gd J x T v) (hd : J.dead = true) (u : Value) : Calls Tryd.prog 19 #[.pointer (some ⟨gj, 0, none⟩), u] w fun e w' => e = .returned (.int .i64 7) ∧ w' = w := by
  have HD := hide (deadJ_any h)
  rw [hd] at HD
  clear h hd
  go_enter Tryd.func19, Tryd.ntmps19
  go_wp2_with (go_at_call 20; refine HD.out.mono ?_; rintro e w1 ⟨rfl, hw⟩; subst w1)
  go_ret
  exact ⟨rfl, rfl⟩
theorem flush_off (h : JB B w gj gd J x T v) (hd : J.dead = false) (hdd : x.dead = true) : Calls Tryd.prog 18 #[.pointer (some ⟨gj, 0, none⟩)] w fun e w' => e = .returned (.int .i64 7) ∧ JB B w' gj gd { J with dead := true } x T v := by
  have HD := hide (deadJ_any h)
  have HS := hide (sync_dead h.dk hdd)
  have HH := hide (heedJ_any h 7)
  have c0 := h.c0
  rw [hd] at HD
  clear h hd hdd
  go_enter Tryd.func18, Tryd.ntmps18
  go_wp2_with (first | (go_at_call 20; refine HD.out.mono ?_; rintro e w1 ⟨rfl, hw⟩; subst w1) | (go_at_call 47; refine HS.out.mono ?_; rintro e w1 ⟨rfl, hw⟩; subst w1) | (go_at_call 45; refine HH.out.mono ?_; rintro e w2 ⟨rfl, h2⟩; have J2 := hide h2; clear h2))
  go_ret
  exact ⟨rfl, J2.out⟩
theorem add_long (h : JB B w gj gd J x T v) (s : ByteArray) (hd : J.dead = false) (hl : 65536 < s.size) (hs : s.size ≤ maxLen) (hc : J.recs.length ≤ 100000) : Calls Tryd.prog 17 #[.pointer (some ⟨gj, 0, none⟩), .string s] w fun e w' => e = .returned (.int .i64 121) ∧ JB B w' gj gd J x T v := by
  have HD := hide (deadJ_any h)
  have HR := hide fun W => recJ_long J.ep J.recs.length s hl hs W
  obtain ⟨ao, cc, rfl⟩ := h.own.form
  have HC : Hid (∀ W, Below w.heap.size w W → W.cell? ⟨gj, 2, none⟩ = some (.int .u64 (J.ep : Int)) ∧ W.cell? ⟨gj, 3, none⟩ = some (.slice ao J.recs.length cc)) := fun W hb => ⟨(h.next hb).c2, (h.next hb).c3⟩
  have H0 := hide h
  have e1 : IntKind.u64.wrap (J.recs.length : Int) = (J.recs.length : Int) := wrapu _ (by omega) (by omega)
  rw [hd] at HD
  clear h hd hs hc hl
  go_enter Tryd.func17, Tryd.ntmps17
  go_upto_region 3 with (go_at_call 20; refine HD.out.mono ?_; rintro e w1 ⟨rfl, hw⟩; subst w1)
  go_region_held3 (fun w' => Below w.heap.size w w' ∧ w'.cell? ⟨gj, 2, none⟩ = some (.int .u64 (J.ep : Int)) ∧ w'.cell? ⟨gj, 3, none⟩ = some (.slice ao J.recs.length cc)) (first | assumption | exact (fun hb => ⟨hb, HC.out _ hb⟩) ((Below.refl _ _).drew)) (first | (go_at_call 6; refine (HR.out _).mono ?_; rintro e w1 ⟨rfl, hw⟩; subst w1))
  go_wp2
  go_ret
  exact ⟨rfl, H0.out.next (Below.refl _ _).drew⟩
theorem add_off (h : JB B w gj gd J x T v) (hK : Kg B) (s : ByteArray) (hd : J.dead = false) (hdd : x.dead = true) (hb : Bd x.now) (hnm : J.nm.size ≤ maxLen) (hs : s.size ≤ 65536) (he : U64 J.ep) (hc : J.recs.length ≤ 100000) : Calls Tryd.prog 17 #[.pointer (some ⟨gj, 0, none⟩), .string s] w fun e w' => e = .returned (.int .i64 7) ∧ JB B w' gj gd { J with dead := true } x T v := by
  have HD := hide (deadJ_any h)
  have HR := hide fun W (hB : Below w.heap.size w W) => recJ_any J.ep J.recs.length he (by unfold U64; omega) s hs W ((hK.next h.bel).next hB)
  have hsl : s.data.toList.length = s.size := by simp
  have HA : Hid (∀ W, Below w.heap.size w W → Calls Tryd.prog 46 #[.pointer (some ⟨gd, 0, none⟩), .string J.nm, .string (txt (recL J.ep J.recs.length s.data.toList))] W fun e w' => e = .returned (.int .i64 7) ∧ Below W.heap.size W w') := fun W hB => by
    have := append_err gd x T J.nm (txt (recL J.ep J.recs.length s.data.toList)) W (h.dk.below hB) hb hnm (by rw [txtJ_size, recL_len, hsl]; unfold maxLen; omega) (by rw [wrE_dead hdd]; decide)
    rw [wrE_dead hdd] at this
    exact this
  have HH := hide fun W (j : JB B W gj gd J x T v) => heedJ_any j 7
  obtain ⟨ao, cc, rfl⟩ := h.own.form
  have HC : Hid (∀ W, Below w.heap.size w W → W.cell? ⟨gj, 2, none⟩ = some (.int .u64 (J.ep : Int)) ∧ W.cell? ⟨gj, 3, none⟩ = some (.slice ao J.recs.length cc)) := fun W hb => ⟨(h.next hb).c2, (h.next hb).c3⟩
  have H0 := hide h
  have e1 : IntKind.u64.wrap (J.recs.length : Int) = (J.recs.length : Int) := wrapu _ (by omega) (by omega)
  rw [hd] at HD
  clear h hd hsl hs he hc hb hnm
  go_enter Tryd.func17, Tryd.ntmps17
  go_upto_region 3 with (go_at_call 20; refine HD.out.mono ?_; rintro e w1 ⟨rfl, hw⟩; subst w1)
  go_region_held3 (fun w' => Below w.heap.size w w' ∧ w'.cell? ⟨gj, 2, none⟩ = some (.int .u64 (J.ep : Int)) ∧ w'.cell? ⟨gj, 3, none⟩ = some (.slice ao J.recs.length cc)) (first | assumption | exact (fun hb => ⟨hb, HC.out _ hb⟩) ((Below.refl _ _).drew) | exact (fun hb => ⟨hb, HC.out _ hb⟩) (below_next (And.left (by assumption)) be)) (first | (go_at_call 6; refine (HR.out _ (And.left (by assumption))).mono ?_; rintro e w1 ⟨rfl, be⟩))
  have B1 : Hid (Below w.heap.size w w1) := And.left (by assumption)
  have J1 := hide (H0.out.next B1.out)
  rename_i hHeld
  clear be HC HR HD hHeld
  go_upto_region 6 with fail
  have c0 := J1.out.c0
  have c1 := J1.out.c1
  refine wp_region_held_drew (S := fun W => W.cell? ⟨gj, 0, none⟩ = some (.pointer (some ⟨gd, 0, none⟩)) ∧ W.cell? ⟨gj, 1, none⟩ = some (.string J.nm)) (by kernel_rfl) ⟨c0, c1⟩ (fun hH => ?_)
  refine wpAnyH_take (i := 0) (v := .pointer (some ⟨gj, 0, none⟩)) rfl (by kernel_rfl) (by kernel_rfl) (by kernel_rfl) (fun _ _ _ h => h) (yl_move (by rfl) _ (by rfl) _ (by rfl)) hH ?_
  change wpAnyH _ _ _ _ _ _ _ (Act.put _ (some 28) _) _
  simp only [Act.put, List.setIfInBounds_toArray, List.set_cons_zero, List.set_cons_succ]
  refine wpAnyH_take (i := 1) (v := .pointer (some ⟨gj, 0, none⟩)) rfl (by kernel_rfl) (by kernel_rfl) (by kernel_rfl) (fun _ _ _ h => h) (yl_move (by rfl) _ (by rfl) _ (by rfl)) hH ?_
  change wpAnyH _ _ _ _ _ _ _ (Act.put _ (some 29) _) _
  simp only [Act.put, List.setIfInBounds_toArray, List.set_cons_zero, List.set_cons_succ]
  refine wpAnyH_take (i := 2) (v := .pointer (some ⟨gj, 0, none⟩)) rfl (by kernel_rfl) (by kernel_rfl) (by kernel_rfl) (fun _ _ _ h => h) (.inl ⟨by rfl, fun W _ => by go_simp⟩) hH ?_
  change wpAnyH _ _ _ _ _ _ _ (Act.put _ (some 30) _) _
  simp only [Act.put, List.setIfInBounds_toArray, List.set_cons_zero, List.set_cons_succ]
  refine wpAnyH_take (i := 3) (v := .pointer (some ⟨gj, 0, none⟩)) rfl (by kernel_rfl) (by kernel_rfl) (by kernel_rfl) (fun _ _ _ h => h) (.inl ⟨by rfl, fun W _ => by go_simp⟩) hH ?_
  change wpAnyH _ _ _ _ _ _ _ (Act.put _ (some 31) _) _
  simp only [Act.put, List.setIfInBounds_toArray, List.set_cons_zero, List.set_cons_succ]
  refine wpAnyH_take (i := 4) (v := .pointer (some ⟨gd, 0, none⟩)) rfl (by kernel_rfl) (by kernel_rfl) (by kernel_rfl) (fun _ _ _ h => h) (.inl ⟨by rfl, fun W hS => by have c4 := hS.1; go_simp⟩) hH ?_
  change wpAnyH _ _ _ _ _ _ _ (Act.put _ (some 32) _) _
  simp only [Act.put, List.setIfInBounds_toArray, List.set_cons_zero, List.set_cons_succ]
  refine wpAnyH_take (i := 5) (v := .pointer (some ⟨gj, 0, none⟩)) rfl (by kernel_rfl) (by kernel_rfl) (by kernel_rfl) (fun _ _ _ h => h) (yl_move (by rfl) _ (by rfl) _ (by rfl)) hH ?_
  change wpAnyH _ _ _ _ _ _ _ (Act.put _ (some 33) _) _
  simp only [Act.put, List.setIfInBounds_toArray, List.set_cons_zero, List.set_cons_succ]
  refine wpAnyH_take (i := 6) (v := .pointer (some ⟨gj, 0, none⟩)) rfl (by kernel_rfl) (by kernel_rfl) (by kernel_rfl) (fun _ _ _ h => h) (.inl ⟨by rfl, fun W _ => by go_simp⟩) hH ?_
  change wpAnyH _ _ _ _ _ _ _ (Act.put _ (some 34) _) _
  simp only [Act.put, List.setIfInBounds_toArray, List.set_cons_zero, List.set_cons_succ]
  refine wpAnyH_take (i := 7) (v := .pointer (some ⟨gj, 1, none⟩)) rfl (by kernel_rfl) (by kernel_rfl) (by kernel_rfl) (fun _ _ _ h => h) (.inl ⟨by rfl, fun W _ => by go_simp⟩) hH ?_
  change wpAnyH _ _ _ _ _ _ _ (Act.put _ (some 35) _) _
  simp only [Act.put, List.setIfInBounds_toArray, List.set_cons_zero, List.set_cons_succ]
  refine wpAnyH_take (i := 8) (v := .string J.nm) rfl (by kernel_rfl) (by kernel_rfl) (by kernel_rfl) (fun _ _ _ h => h) (.inl ⟨by rfl, fun W hS => by have c4 := hS.2; go_simp⟩) hH ?_
  change wpAnyH _ _ _ _ _ _ _ (Act.put _ (some 36) _) _
  simp only [Act.put, List.setIfInBounds_toArray, List.set_cons_zero, List.set_cons_succ]
  refine wpAnyH_take (i := 9) (v := .string (txt (recL J.ep J.recs.length s.data.toList))) rfl (by kernel_rfl) (by kernel_rfl) (by kernel_rfl) (fun _ _ _ h => h) (yl_move (by rfl) _ (by rfl) _ (by rfl)) hH ?_
  change wpAnyH _ _ _ _ _ _ _ (Act.put _ (some 37) _) _
  simp only [Act.put, List.setIfInBounds_toArray, List.set_cons_zero, List.set_cons_succ]
  refine wpAnyH_ready (rs := [10]) (by kernel_rfl) (by simp) (AllReadyH.cons rfl (fun K1 hK1 => ?_) AllReadyH.nil)
  go_simp
  refine (HA.out _ B1.out.drew).mono ?_
  rintro e w5 ⟨rfl, b5⟩
  have J5 := hide (J1.out.next ((Below.refl w1.heap.size w1).drew.trans b5))
  clear b5
  refine hK1.out _ _ ⟨J5.out.c0, J5.out.c1⟩ (fun hH => ?_)
  clear hK1
  refine wpAnyH_ready (rs := [11]) (by kernel_rfl) (by simp) (AllReadyH.cons rfl (fun K1 hK1 => ?_) AllReadyH.nil)
  go_simp
  refine (HH.out _ J5.out).mono ?_
  rintro e w6 ⟨rfl, j6⟩
  have J6 := hide j6
  clear j6
  refine hK1.out _ _ ⟨J6.out.c0, J6.out.c1⟩ (fun hH => ?_)
  clear hK1 J5
  refine wpAnyH_take (i := 12) (v := .int .i64 7) rfl (by kernel_rfl) (by kernel_rfl) (by kernel_rfl) (fun _ _ _ h => h) (.inl ⟨by rfl, fun W _ => by go_simp⟩) hH ?_
  change wpAnyH _ _ _ _ _ _ _ (Act.put _ (some 7) _) _
  simp only [Act.put, List.setIfInBounds_toArray, List.set_cons_zero, List.set_cons_succ]
  refine wpAnyH_done (by kernel_rfl) ?_ _
  go_wp2
  go_ret
  exact ⟨rfl, J6.out⟩
theorem open_dead (h : DB B w gd x T) (nm : ByteArray) (hn : okJ nm = true) (hd : x.dead = true) : Calls Tryd.prog 15 #[.pointer (some ⟨gd, 0, none⟩), .string nm] w fun e w' => e = .returned (.tuple #[.pointer none, .int .i64 7]) ∧ Below w.heap.size w w' := by
  have HI := hide (isNameJ_any nm (by have := okJ_size hn; unfold maxLen; omega) w)
  have HL := hide fun gj W j => load_dead (w := W) (gj := gj) (gd := gd) (T := T) (x := x) (B := B) (nm := nm) j (okJ_size hn) (fnd_dead hd nm)
  have HN := hide fun W (b : Below w.heap.size w W) => jb_new (h.next b) nm
  rw [hn] at HI
  clear h hd hn
  go_enter Tryd.func15, Tryd.ntmps15
  go_upto_region 6 with (go_at_call 40; refine HI.out.mono ?_; rintro e w1 ⟨rfl, hb⟩; have HB := hide hb; clear hb)
  have J1 := hide (HN.out w1 HB.out)
  have B2 := hide (HB.out.alloc HB.out.size (.cells #[.pointer (some ⟨gd, 0, none⟩), .string nm, .int .u64 0, .slice none 0 0, .int .i64 0, .bool false] 73))
  clear HN
  generalize w1.alloc (.cells #[.pointer (some ⟨gd, 0, none⟩), .string nm, .int .u64 0, .slice none 0 0, .int .i64 0, .bool false] 73) = W2 at *
  generalize w1.heap.size = gj at *
  go_wp2_with (first | (go_at_call 41; refine (HL.out _ _ J1.out).mono ?_; rintro e w3 ⟨rfl, b3⟩; have B3 := hide (below_next B2.out b3); clear b3))
  go_ret2
  exact ⟨rfl, B3.out⟩
theorem cut_nil (w : World) : Calls Tryd.prog 22 #[.pointer none, .int .i64 0] w fun e w' => e = .returned (.int .i64 7) ∧ w' = w := by
  have HD := hide (deadJ_nil w)
  go_enter Tryd.func22, Tryd.ntmps22
  go_wp2_with (go_at_call 20; refine HD.out.mono ?_; rintro e w1 ⟨rfl, hw⟩; subst w1)
  go_ret
  exact ⟨rfl, rfl⟩
theorem renew_nil (w : World) : Calls Tryd.prog 19 #[.pointer none, .slice none 0 0] w fun e w' => e = .returned (.int .i64 7) ∧ w' = w := by
  have HD := hide (deadJ_nil w)
  go_enter Tryd.func19, Tryd.ntmps19
  go_wp2_with (go_at_call 20; refine HD.out.mono ?_; rintro e w1 ⟨rfl, hw⟩; subst w1)
  go_ret
  exact ⟨rfl, rfl⟩
theorem allJ_nil (w : World) : Calls Tryd.prog 23 #[.pointer none] w fun e w' => e = .returned (.slice none 0 0) ∧ w' = w := by
  go_enter Tryd.func23, Tryd.ntmps23
  go_wp2
  go_ret
  exact ⟨rfl, rfl⟩
theorem epochJ_nil (w : World) : Calls Tryd.prog 25 #[.pointer none] w fun e w' => e = .returned (.int .u64 0) ∧ w' = w := by
  go_enter Tryd.func25, Tryd.ntmps25
  go_wp2
  go_ret
  exact ⟨rfl, rfl⟩
theorem tornJ_nil (w : World) : Calls Tryd.prog 26 #[.pointer none] w fun e w' => e = .returned (.int .i64 0) ∧ w' = w := by
  go_enter Tryd.func26, Tryd.ntmps26
  go_wp2
  go_ret
  exact ⟨rfl, rfl⟩
theorem sizeJ_nil (w : World) : Calls Tryd.prog 27 #[.pointer none] w fun e w' => e = .returned (.int .i64 0) ∧ w' = w := by
  go_enter Tryd.func27, Tryd.ntmps27
  go_wp2
  go_ret
  exact ⟨rfl, rfl⟩
theorem getJ_nil (w : World) : Calls Tryd.prog 21 #[.pointer none, .int .i64 0] w fun e w' => e = .returned (.tuple #[.string ⟨#[]⟩, .bool false]) ∧ w' = w := by
  have HL := hide (lenJ_nil w)
  go_enter Tryd.func21, Tryd.ntmps21
  go_wp2_with (go_at_call 24; refine HL.out.mono ?_; rintro e w1 ⟨rfl, hw⟩; subst w1)
  go_ret2
  exact ⟨rfl, rfl⟩
end
end Go.Proofs.YtgncphoaknffnaaDoor
