/- Journals: dead disks, dead journals, none. Journals: what is read of bytes: HasPrefix, takeHead, takeRecord. Journals: the records that are whole, from the front on. Journals: the contract of Read. -/
import Derived.Test.YtpffaaalncdjcaaGreatDoorN33
namespace Go.Proofs.YtpffaaalncdjcaaGreatDoor
open Go.RowKit
open Go.Deep
open Go.Lib
set_option linter.unusedVariables false
theorem fnd_dead {x : StD} (h : x.dead = true) (nm : ByteArray) : fnd x nm = 7 := by
  unfold fnd rdy
  rw [h]
  rfl
theorem wrE_dead {x : StD} (h : x.dead = true) (nm : ByteArray) (k : Int) (s : ByteArray) : wrE x nm k s = 7 := by
  have : rdy x.dead [nm] = 7 := by
    rw [h]
    rfl
  unfold wrE
  rw [this]
  rfl
section
set_option maxRecDepth 10000
set_option maxHeartbeats 2000000
variable {K : Nat → Prop} {B w : World} {gj gd : Nat} {J : Jr} {x : StD} {T : Nat → Prop} {v : Value}
theorem DK.c5 (h : DK w gd x T) : w.cell? ⟨gd, 5, none⟩ = some (.bool x.dead) := by
  obtain ⟨S1, S2, mn, ms, vo, vp, h⟩ := h
  exact h.cell 5 (by decide)
theorem sync_dead (h : DK w gd x T) (hd : x.dead = true) : Calls Tryz.prog 83 #[.pointer (some ⟨gd, 0, none⟩)] w fun e w' => e = .returned (.int .i64 7) ∧ w' = w := by
  have c5 := h.c5
  rw [hd] at c5
  have HD := hide (dead_cell gd true w c5)
  clear h c5
  go_enter Tryz.func83, Tryz.ntmps83
  go_wp2_with (go_at_call 84; refine HD.out.mono ?_; rintro e w1 ⟨rfl, hw⟩; subst w1)
  go_ret
  exact ⟨rfl, rfl⟩
theorem flush_dead (h : JB K B w gj gd J x T v) (hd : J.dead = true) : Calls Tryz.prog 48 #[.pointer (some ⟨gj, 0, none⟩)] w fun e w' => e = .returned (.int .i64 7) ∧ w' = w := by
  have HD := hide (deadJ_any h)
  rw [hd] at HD
  clear h hd
  go_enter Tryz.func48, Tryz.ntmps48
  go_wp2_with (go_at_call 59; refine HD.out.mono ?_; rintro e w1 ⟨rfl, hw⟩; subst w1)
  go_ret
  exact ⟨rfl, rfl⟩
theorem renew_dead (h : JB K B w gj gd J x T v) (hd : J.dead = true) (u : Value) : Calls Tryz.prog 66 #[.pointer (some ⟨gj, 0, none⟩), u] w fun e w' => e = .returned (.int .i64 7) ∧ w' = w := by
  have HD := hide (deadJ_any h)
  rw [hd] at HD
  clear h hd
  go_enter Tryz.func66, Tryz.ntmps66
  go_wp2_with (go_at_call 59; refine HD.out.mono ?_; rintro e w1 ⟨rfl, hw⟩; subst w1)
  go_ret
  exact ⟨rfl, rfl⟩
theorem flush_off (h : JB K B w gj gd J x T v) (hd : J.dead = false) (hdd : x.dead = true) : Calls Tryz.prog 48 #[.pointer (some ⟨gj, 0, none⟩)] w fun e w' => e = .returned (.int .i64 7) ∧ JB K B w' gj gd { J with dead := true } x T v := by
  have HD := hide (deadJ_any h)
  have HS := hide (sync_dead h.dk hdd)
  have HH := hide (heedJ_any h 7)
  have c0 := h.c0
  rw [hd] at HD
  clear h hd hdd
  go_enter Tryz.func48, Tryz.ntmps48
  go_wp2_with (first | (go_at_call 59; refine HD.out.mono ?_; rintro e w1 ⟨rfl, hw⟩; subst w1) | (go_at_call 83; refine HS.out.mono ?_; rintro e w1 ⟨rfl, hw⟩; subst w1) | (go_at_call 61; refine HH.out.mono ?_; rintro e w2 ⟨rfl, h2⟩; have J2 := hide h2; clear h2))
  go_ret
  exact ⟨rfl, J2.out⟩
theorem add_long (h : JB K B w gj gd J x T v) (s : ByteArray) (hd : J.dead = false) (hl : 65536 < s.size) (hs : s.size ≤ maxLen) (hc : J.recs.length ≤ 100000) : Calls Tryz.prog 24 #[.pointer (some ⟨gj, 0, none⟩), .string s] w fun e w' => e = .returned (.int .i64 121) ∧ JB K B w' gj gd J x T v := by
  have HD := hide (deadJ_any h)
  have HR := hide fun W => recJ_long J.ep J.recs.length s hl hs W
  obtain ⟨ao, cc, rfl⟩ := h.own.form
  have HC : Hid (∀ W, Below w.heap.size w W → W.cell? ⟨gj, 2, none⟩ = some (.int .u64 (J.ep : Int)) ∧ W.cell? ⟨gj, 3, none⟩ = some (.slice ao J.recs.length cc)) := fun W hb => ⟨(h.next hb).c2, (h.next hb).c3⟩
  have H0 := hide h
  have e1 : IntKind.u64.wrap (J.recs.length : Int) = (J.recs.length : Int) := wrapu _ (by omega) (by omega)
  rw [hd] at HD
  clear h hd hs hc hl
  go_enter Tryz.func24, Tryz.ntmps24
  go_upto_region 3 with (go_at_call 59; refine HD.out.mono ?_; rintro e w1 ⟨rfl, hw⟩; subst w1)
  go_region_held3 (fun w' => Below w.heap.size w w' ∧ w'.cell? ⟨gj, 2, none⟩ = some (.int .u64 (J.ep : Int)) ∧ w'.cell? ⟨gj, 3, none⟩ = some (.slice ao J.recs.length cc)) (first | assumption | exact (fun hb => ⟨hb, HC.out _ hb⟩) ((Below.refl _ _).drew)) (first | (go_at_call 60; refine (HR.out _).mono ?_; rintro e w1 ⟨rfl, hw⟩; subst w1))
  go_wp2
  go_ret
  exact ⟨rfl, H0.out.next (Below.refl _ _).drew⟩
theorem add_off (h : JB K B w gj gd J x T v) (hK : KB K B) (s : ByteArray) (hd : J.dead = false) (hdd : x.dead = true) (hb : BdD x.now) (hnm : J.nm.size ≤ maxLen) (hs : s.size ≤ 65536) (he : U64 J.ep) (hc : J.recs.length ≤ 100000) : Calls Tryz.prog 24 #[.pointer (some ⟨gj, 0, none⟩), .string s] w fun e w' => e = .returned (.int .i64 7) ∧ JB K B w' gj gd { J with dead := true } x T v := by
  have HD := hide (deadJ_any h)
  have HR := hide fun W (hB : Below w.heap.size w W) => recJ_any J.ep J.recs.length he (by unfold U64; omega) s hs W ((hK.at_ h.bel).next hB)
  have hsl : s.data.toList.length = s.size := by simp
  have HA : Hid (∀ W, Below w.heap.size w W → Calls Tryz.prog 62 #[.pointer (some ⟨gd, 0, none⟩), .string J.nm, .string (txt (recL J.ep J.recs.length s.data.toList))] W fun e w' => e = .returned (.int .i64 7) ∧ Below W.heap.size W w') := fun W hB => by
    have := append_err gd x T J.nm (txt (recL J.ep J.recs.length s.data.toList)) W (h.dk.below hB) hb hnm (by rw [txtJ_size, recL_len, hsl]; unfold maxLen; omega) (by rw [wrE_dead hdd]; decide)
    rw [wrE_dead hdd] at this
    exact this
  have HH := hide fun W (j : JB K B W gj gd J x T v) => heedJ_any j 7
  obtain ⟨ao, cc, rfl⟩ := h.own.form
  have HC : Hid (∀ W, Below w.heap.size w W → W.cell? ⟨gj, 2, none⟩ = some (.int .u64 (J.ep : Int)) ∧ W.cell? ⟨gj, 3, none⟩ = some (.slice ao J.recs.length cc)) := fun W hb => ⟨(h.next hb).c2, (h.next hb).c3⟩
  have H0 := hide h
  have e1 : IntKind.u64.wrap (J.recs.length : Int) = (J.recs.length : Int) := wrapu _ (by omega) (by omega)
  rw [hd] at HD
  clear h hd hsl hs he hc hb hnm
  go_enter Tryz.func24, Tryz.ntmps24
  go_upto_region 3 with (go_at_call 59; refine HD.out.mono ?_; rintro e w1 ⟨rfl, hw⟩; subst w1)
  go_region_held3 (fun w' => Below w.heap.size w w' ∧ w'.cell? ⟨gj, 2, none⟩ = some (.int .u64 (J.ep : Int)) ∧ w'.cell? ⟨gj, 3, none⟩ = some (.slice ao J.recs.length cc)) (first | assumption | exact (fun hb => ⟨hb, HC.out _ hb⟩) ((Below.refl _ _).drew) | exact (fun hb => ⟨hb, HC.out _ hb⟩) (below_next (And.left (by assumption)) be)) (first | (go_at_call 60; refine (HR.out _ (And.left (by assumption))).mono ?_; rintro e w1 ⟨rfl, be⟩))
  have B1 : Hid (Below w.heap.size w w1) := And.left (by assumption)
  have J1 := hide (H0.out.next B1.out)
  rename_i hHeld
  clear be HC HR HD hHeld
  go_upto_region 6 with fail
  have c0 := J1.out.c0
  have c1 := J1.out.c1
  refine wp_region_held_drew (S := fun W => W.cell? ⟨gj, 0, none⟩ = some (.pointer (some ⟨gd, 0, none⟩)) ∧ W.cell? ⟨gj, 1, none⟩ = some (.string J.nm)) (by kernel_rfl) ⟨c0, c1⟩ (fun hH => ?_)
  refine wpAnyH_take (i := 0) (v := .pointer (some ⟨gj, 0, none⟩)) rfl (by kernel_rfl) (by kernel_rfl) (by kernel_rfl) (fun _ _ _ h => h) (ylD_move (by rfl) _ (by rfl) _ (by rfl)) hH ?_
  change wpAnyH _ _ _ _ _ _ _ (Act.put _ (some 28) _) _
  simp only [Act.put, List.setIfInBounds_toArray, List.set_cons_zero, List.set_cons_succ]
  refine wpAnyH_take (i := 1) (v := .pointer (some ⟨gj, 0, none⟩)) rfl (by kernel_rfl) (by kernel_rfl) (by kernel_rfl) (fun _ _ _ h => h) (ylD_move (by rfl) _ (by rfl) _ (by rfl)) hH ?_
  change wpAnyH _ _ _ _ _ _ _ (Act.put _ (some 29) _) _
  simp only [Act.put, List.setIfInBounds_toArray, List.set_cons_zero, List.set_cons_succ]
  refine wpAnyH_take (i := 2) (v := .pointer (some ⟨gj, 0, none⟩)) rfl (by kernel_rfl) (by kernel_rfl) (by kernel_rfl) (fun _ _ _ h => h) (.inl ⟨by rfl, fun W _ => by go_simp⟩) hH ?_
  change wpAnyH _ _ _ _ _ _ _ (Act.put _ (some 30) _) _
  simp only [Act.put, List.setIfInBounds_toArray, List.set_cons_zero, List.set_cons_succ]
  refine wpAnyH_take (i := 3) (v := .pointer (some ⟨gj, 0, none⟩)) rfl (by kernel_rfl) (by kernel_rfl) (by kernel_rfl) (fun _ _ _ h => h) (.inl ⟨by rfl, fun W _ => by go_simp⟩) hH ?_
  change wpAnyH _ _ _ _ _ _ _ (Act.put _ (some 31) _) _
  simp only [Act.put, List.setIfInBounds_toArray, List.set_cons_zero, List.set_cons_succ]
  refine wpAnyH_take (i := 4) (v := .pointer (some ⟨gd, 0, none⟩)) rfl (by kernel_rfl) (by kernel_rfl) (by kernel_rfl) (fun _ _ _ h => h) (.inl ⟨by rfl, fun W hS => by have c4 := hS.1; go_simp⟩) hH ?_
  change wpAnyH _ _ _ _ _ _ _ (Act.put _ (some 32) _) _
  simp only [Act.put, List.setIfInBounds_toArray, List.set_cons_zero, List.set_cons_succ]
  refine wpAnyH_take (i := 5) (v := .pointer (some ⟨gj, 0, none⟩)) rfl (by kernel_rfl) (by kernel_rfl) (by kernel_rfl) (fun _ _ _ h => h) (ylD_move (by rfl) _ (by rfl) _ (by rfl)) hH ?_
  change wpAnyH _ _ _ _ _ _ _ (Act.put _ (some 33) _) _
  simp only [Act.put, List.setIfInBounds_toArray, List.set_cons_zero, List.set_cons_succ]
  refine wpAnyH_take (i := 6) (v := .pointer (some ⟨gj, 0, none⟩)) rfl (by kernel_rfl) (by kernel_rfl) (by kernel_rfl) (fun _ _ _ h => h) (.inl ⟨by rfl, fun W _ => by go_simp⟩) hH ?_
  change wpAnyH _ _ _ _ _ _ _ (Act.put _ (some 34) _) _
  simp only [Act.put, List.setIfInBounds_toArray, List.set_cons_zero, List.set_cons_succ]
  refine wpAnyH_take (i := 7) (v := .pointer (some ⟨gj, 1, none⟩)) rfl (by kernel_rfl) (by kernel_rfl) (by kernel_rfl) (fun _ _ _ h => h) (.inl ⟨by rfl, fun W _ => by go_simp⟩) hH ?_
  change wpAnyH _ _ _ _ _ _ _ (Act.put _ (some 35) _) _
  simp only [Act.put, List.setIfInBounds_toArray, List.set_cons_zero, List.set_cons_succ]
  refine wpAnyH_take (i := 8) (v := .string J.nm) rfl (by kernel_rfl) (by kernel_rfl) (by kernel_rfl) (fun _ _ _ h => h) (.inl ⟨by rfl, fun W hS => by have c4 := hS.2; go_simp⟩) hH ?_
  change wpAnyH _ _ _ _ _ _ _ (Act.put _ (some 36) _) _
  simp only [Act.put, List.setIfInBounds_toArray, List.set_cons_zero, List.set_cons_succ]
  refine wpAnyH_take (i := 9) (v := .string (txt (recL J.ep J.recs.length s.data.toList))) rfl (by kernel_rfl) (by kernel_rfl) (by kernel_rfl) (fun _ _ _ h => h) (ylD_move (by rfl) _ (by rfl) _ (by rfl)) hH ?_
  change wpAnyH _ _ _ _ _ _ _ (Act.put _ (some 37) _) _
  simp only [Act.put, List.setIfInBounds_toArray, List.set_cons_zero, List.set_cons_succ]
  refine wpAnyH_ready (rs := [10]) (by kernel_rfl) (by simp) (AllReadyH.cons rfl (fun K1 hK1 => ?_) AllReadyH.nil)
  go_simp
  refine (HA.out _ B1.out.drew).mono ?_
  rintro e w5 ⟨rfl, b5⟩
  have J5 := hide (J1.out.next ((Below.refl w1.heap.size w1).drew.trans b5))
  clear b5
  refine hK1.out _ _ ⟨J5.out.c0, J5.out.c1⟩ (fun hH => ?_)
  clear hK1
  refine wpAnyH_ready (rs := [11]) (by kernel_rfl) (by simp) (AllReadyH.cons rfl (fun K1 hK1 => ?_) AllReadyH.nil)
  go_simp
  refine (HH.out _ J5.out).mono ?_
  rintro e w6 ⟨rfl, j6⟩
  have J6 := hide j6
  clear j6
  refine hK1.out _ _ ⟨J6.out.c0, J6.out.c1⟩ (fun hH => ?_)
  clear hK1 J5
  refine wpAnyH_take (i := 12) (v := .int .i64 7) rfl (by kernel_rfl) (by kernel_rfl) (by kernel_rfl) (fun _ _ _ h => h) (.inl ⟨by rfl, fun W _ => by go_simp⟩) hH ?_
  change wpAnyH _ _ _ _ _ _ _ (Act.put _ (some 7) _) _
  simp only [Act.put, List.setIfInBounds_toArray, List.set_cons_zero, List.set_cons_succ]
  refine wpAnyH_done (by kernel_rfl) ?_ _
  go_wp2
  go_ret
  exact ⟨rfl, J6.out⟩
theorem open_dead (h : DBk K B w gd x T) (nm : ByteArray) (hn : okJ nm = true) (hd : x.dead = true) : Calls Tryz.prog 21 #[.pointer (some ⟨gd, 0, none⟩), .string nm] w fun e w' => e = .returned (.tuple #[.pointer none, .int .i64 7]) ∧ Below w.heap.size w w' := by
  have HI := hide (isNameJ_any nm (by have := okJ_size hn; unfold maxLen; omega) w)
  have HL := hide fun gj W j => load_dead (w := W) (gj := gj) (gd := gd) (T := T) (x := x) (K := K) (B := B) (nm := nm) j (okJ_size hn) (fnd_dead hd nm)
  have HN := hide fun W (b : Below w.heap.size w W) => jb_new (h.next b) nm
  rw [hn] at HI
  clear h hd hn
  go_enter Tryz.func21, Tryz.ntmps21
  go_upto_region 6 with (go_at_call 54; refine HI.out.mono ?_; rintro e w1 ⟨rfl, hb⟩; have HB := hide hb; clear hb)
  have J1 := hide (HN.out w1 HB.out)
  have B2 := hide (HB.out.alloc HB.out.size (.cells #[.pointer (some ⟨gd, 0, none⟩), .string nm, .int .u64 0, .slice none 0 0, .int .i64 0, .bool false] 117))
  clear HN
  generalize w1.alloc (.cells #[.pointer (some ⟨gd, 0, none⟩), .string nm, .int .u64 0, .slice none 0 0, .int .i64 0, .bool false] 117) = W2 at *
  generalize w1.heap.size = gj at *
  go_wp2_with (first | (go_at_call 55; refine (HL.out _ _ J1.out).mono ?_; rintro e w3 ⟨rfl, b3⟩; have B3 := hide (below_next B2.out b3); clear b3))
  go_ret2
  exact ⟨rfl, B3.out⟩
theorem cut_nil (w : World) : Calls Tryz.prog 82 #[.pointer none, .int .i64 0] w fun e w' => e = .returned (.int .i64 7) ∧ w' = w := by
  have HD := hide (deadJ_nil w)
  go_enter Tryz.func82, Tryz.ntmps82
  go_wp2_with (go_at_call 59; refine HD.out.mono ?_; rintro e w1 ⟨rfl, hw⟩; subst w1)
  go_ret
  exact ⟨rfl, rfl⟩
theorem renew_nil (w : World) : Calls Tryz.prog 66 #[.pointer none, .slice none 0 0] w fun e w' => e = .returned (.int .i64 7) ∧ w' = w := by
  have HD := hide (deadJ_nil w)
  go_enter Tryz.func66, Tryz.ntmps66
  go_wp2_with (go_at_call 59; refine HD.out.mono ?_; rintro e w1 ⟨rfl, hw⟩; subst w1)
  go_ret
  exact ⟨rfl, rfl⟩
theorem allJ_nil (w : World) : Calls Tryz.prog 26 #[.pointer none] w fun e w' => e = .returned (.slice none 0 0) ∧ w' = w := by
  go_enter Tryz.func26, Tryz.ntmps26
  go_wp2
  go_ret
  exact ⟨rfl, rfl⟩
end
end Go.Proofs.YtpffaaalncdjcaaGreatDoor
namespace Go.Proofs.YtpffaaalncdjcaaGreatDoor
open Go.RowKit
open Go.Deep
open Go.Lib
set_option linter.unusedVariables false
/-- Does s begin with p? -/
def pfx (s p : ByteArray) : Bool := decide (p.size ≤ s.size) && ((s.extract 0 p.size).toList == p.toList)
theorem exJ (s : ByteArray) (i j : Nat) : (s.extract i j).data.toList = (s.data.toList.drop i).take (j - i) := by simp [List.take_drop]
theorem ext_eq {a b : ByteArray} : a = b ↔ a.data.toList = b.data.toList := ⟨fun h => by rw [h], fun h => by
  apply ByteArray.ext
  exact Array.toList_inj.1 h⟩
theorem pfx_iff (s p : ByteArray) : pfx s p = true ↔ p.size ≤ s.size ∧ s.data.toList.take p.size = p.data.toList := by
  unfold pfx
  rw [Bool.and_eq_true, decide_eq_true_iff, beq_iff_eq, Lib.toList_data, Lib.toList_data, exJ]
  simp
/-- What a reader finds behind a record's length and number. -/
def tkN (s : ByteArray) : Nat := leN (rtake s 0 0 4).2.2.data.toList
def tkP (s : ByteArray) : Int × Int × ByteArray := rtake s (rtake s 0 0 4).1 (rtake s 0 0 4).2.1 8
def tkT (s : ByteArray) : ByteArray := (rtake s (tkP s).1 (tkP s).2.1 (tkN s)).2.2
def tkB (ep no : Nat) (s : ByteArray) : Bool := decide ((tkT s).size ≤ 65536) && pfx s (txt (recL ep no (tkT s).data.toList))
def thE (s : ByteArray) : Nat := leN (rtake s (rtake s 0 0 8).1 (rtake s 0 0 8).2.1 8).2.2.data.toList
section
set_option maxRecDepth 10000
set_option maxHeartbeats 1000000
theorem slitePfx_any (s p : ByteArray) (hs : s.size ≤ maxLen) (hp : p.size ≤ maxLen) (w : World) : Calls Tryz.prog 174 #[.string s, .string p] w fun e w' => e = .returned (.bool (pfx s p)) ∧ w' = w := by
  unfold maxLen at hs hp
  unfold pfx
  by_cases h : p.size ≤ s.size
  · have h1 : (p.size : Int) ≤ s.size := by omega
    have h2 : (0 : Int) ≤ p.size := by omega
    rw [decide_eq_true h, Bool.true_and]
    go_enter Tryz.func174, Tryz.ntmps174
    go_wp2
    go_ret
    exact ⟨rfl, rfl⟩
  · have h1 : ¬ (p.size : Int) ≤ s.size := by omega
    rw [decide_eq_false h, Bool.false_and]
    go_enter Tryz.func174, Tryz.ntmps174
    go_wp2
    go_ret
    exact ⟨rfl, rfl⟩
theorem hasPfx_any (s p : ByteArray) (hs : s.size ≤ maxLen) (hp : p.size ≤ maxLen) (w : World) : Calls Tryz.prog 155 #[.string s, .string p] w fun e w' => e = .returned (.bool (pfx s p)) ∧ w' = w := by
  have H := hide (slitePfx_any s p hs hp w)
  go_enter Tryz.func155, Tryz.ntmps155
  go_wp2_with (go_at_call 174; refine H.out.mono ?_; rintro e w1 ⟨rfl, hw⟩; subst w1)
  go_ret
  exact ⟨rfl, rfl⟩
theorem rBytesJ (b : Nat) (s : ByteArray) (w : World) (p err n : Int) (h : Rst w b s p err) (hs : s.size ≤ maxLen) (h0 : 0 ≤ p) (h1 : p ≤ s.size) (hn : 0 ≤ n) (hn2 : n ≤ 9223372036854775807) : Calls Tryz.prog 153 #[.pointer (some ⟨b, 0, none⟩), .int .i64 n] w fun e w' => e = .returned (.string (rtake s p err n).2.2) ∧ Rst w' b s (rtake s p err n).1 (rtake s p err n).2.1 ∧ Rfr b w w' := by
  have HT := hide (rTake b s w p err n h hs h0 h1 hn hn2)
  clear h hs h0 h1
  generalize rtake s p err n = R at *
  go_enter Tryz.func153, Tryz.ntmps153
  go_wp2_with (go_at_call 105; refine HT.out.mono ?_; rintro e w1 ⟨rfl, r1, f1⟩)
  go_ret
  exact ⟨rfl, r1, f1⟩
theorem rst_new (w : World) (s : ByteArray) : Rst (w.alloc (.cells #[.string s, .int .i64 0, .int .i64 0] 174)) w.heap.size s 0 0 := heap_alloc_last w _
theorem takeHeadJ_any (s : ByteArray) (hs : s.size ≤ maxLen) (w : World) (hK : Kg w) : Calls Tryz.prog 122 #[.string s] w fun e w' => e = .returned (.tuple #[.int .u64 (thE s), .bool (pfx s (txt (headL (thE s))))]) ∧ Below w.heap.size w w' := by
  have b0 : Below w.heap.size w (w.alloc (.cells #[.string s, .int .i64 0, .int .i64 0] 174)) := (Below.refl _ _).alloc (Nat.le_refl _) _
  have R0 := hide (rst_new w s)
  have i1 := rtake_inv s 0 0 8 (by omega) (by omega)
  have z2 := rtake_size s (rtake s 0 0 8).1 (rtake s 0 0 8).2.1 8 8 rfl i1.1
  have hU : U64 (thE s) := by
    unfold U64 thE
    exact leN_lt' _ 8 _ (by simpa using z2) (by decide)
  have HB := hide fun W h => rBytesJ w.heap.size s W 0 0 8 h hs (by omega) (by omega) (by omega) (by omega)
  have HU := hide fun W h => rU64 w.heap.size s W (rtake s 0 0 8).1 (rtake s 0 0 8).2.1 h hs i1.1 i1.2
  rw [show leN (rtake s (rtake s 0 0 8).1 (rtake s 0 0 8).2.1 8).2.2.data.toList = thE s from rfl] at HU
  have HH := hide fun W (b : Below w.heap.size w W) => headJ_any (thE s) hU W (hK.next b)
  have HP := hide fun W => hasPfx_any s (txt (headL (thE s))) hs (by rw [txtJ_size, headL_len]; decide) W
  generalize thE s = ep at *
  generalize txt (headL ep) = hd at *
  generalize pfx s hd = pb at *
  generalize rtake s (rtake s 0 0 8).1 (rtake s 0 0 8).2.1 8 = R2 at *
  generalize rtake s 0 0 8 = R1 at *
  clear i1 z2 hU hK hs
  go_enter Tryz.func122, Tryz.ntmps122
  go_wp2_with (first | (go_at_call 73; refine (newReader_any _ _).mono ?_; rintro e w1 ⟨rfl, rfl⟩) | (go_at_call 153; refine (HB.out _ R0.out).mono ?_; rintro e w2 ⟨rfl, r2, f2⟩; have Q2 := hide r2; have F2 := hide (b0.trans (f2.to_below (Nat.le_refl _) b0.size)); clear r2 f2) | (go_at_call 154; refine (HU.out _ Q2.out).mono ?_; rintro e w3 ⟨rfl, r3, f3⟩; have F3 := hide (F2.out.trans (f3.to_below (Nat.le_refl _) F2.out.size)); clear r3 f3) | (go_at_call 93; refine (HH.out _ F3.out).mono ?_; rintro e w4 ⟨rfl, b4⟩; have F4 := hide (below_next F3.out b4); clear b4) | (go_at_call 155; refine (HP.out _).mono ?_; rintro e w5 ⟨rfl, hw⟩; subst w5))
  go_ret2
  exact ⟨rfl, F4.out⟩
theorem takeRec_any (ep no : Nat) (he : U64 ep) (hn : U64 no) (s : ByteArray) (hs : s.size ≤ maxLen) (w : World) (hK : Kg w) : Calls Tryz.prog 123 #[.string s, .int .u64 ep, .int .u64 no] w fun e w' => e = .returned (.tuple #[.string (tkT s), .bool (tkB ep no s)]) ∧ Below w.heap.size w w' := by
  have b0 : Below w.heap.size w (w.alloc (.cells #[.string s, .int .i64 0, .int .i64 0] 174)) := (Below.refl _ _).alloc (Nat.le_refl _) _
  have R0 := hide (rst_new w s)
  have i1 := rtake_inv s 0 0 4 (by omega) (by omega)
  have z1 := rtake_size s 0 0 4 4 rfl (by omega)
  have i2 := rtake_inv s (rtake s 0 0 4).1 (rtake s 0 0 4).2.1 8 i1.1 i1.2
  have hN : tkN s < 4294967296 := by
    unfold tkN
    exact leN_lt' _ 4 _ (by simpa using z1) (by decide)
  have zt : (tkT s).size ≤ maxLen := by
    have := rtake_size s (tkP s).1 (tkP s).2.1 (tkN s) (tkN s) rfl i2.1
    show (rtake s (tkP s).1 (tkP s).2.1 (tkN s)).2.2.size ≤ _
    unfold maxLen
    omega
  have HU4 := hide fun W h => rU32 w.heap.size s W 0 0 h hs (by omega) (by omega)
  rw [show leN (rtake s 0 0 4).2.2.data.toList = tkN s from rfl] at HU4
  have HU8 := hide fun W h => rU64 w.heap.size s W (rtake s 0 0 4).1 (rtake s 0 0 4).2.1 h hs i1.1 i1.2
  rw [show rtake s (rtake s 0 0 4).1 (rtake s 0 0 4).2.1 8 = tkP s from rfl] at HU8
  have HB := hide fun W h => rBytesJ w.heap.size s W (tkP s).1 (tkP s).2.1 (tkN s) h hs i2.1 i2.2 (by omega) (by omega)
  rw [show (rtake s (tkP s).1 (tkP s).2.1 (tkN s)).2.2 = tkT s from rfl] at HB
  have e1 : IntKind.i64.wrap (tkN s : Int) = tkN s := wrapI _ (by omega) (by omega)
  unfold tkB
  by_cases hl : (tkT s).size ≤ 65536
  · have HR := hide fun W (b : Below w.heap.size w W) => recJ_any ep no he hn (tkT s) hl W (hK.next b)
    have HP := hide fun W => hasPfx_any s (txt (recL ep no (tkT s).data.toList)) hs (by have h3 : (tkT s).data.toList.length = (tkT s).size := (by simp); rw [txtJ_size, recL_len, h3]; unfold maxLen; omega) W
    rw [decide_eq_true hl, Bool.true_and]
    generalize txt (recL ep no (tkT s).data.toList) = rt at *
    generalize pfx s rt = pb at *
    generalize tkT s = tx at *
    generalize rtake s (tkP s).1 (tkP s).2.1 (tkN s) = R3 at *
    generalize tkP s = R2 at *
    generalize rtake s 0 0 4 = R1 at *
    generalize tkN s = N at *
    clear i1 z1 i2 zt hK hs hl he hn
    go_enter Tryz.func123, Tryz.ntmps123
    go_wp2_with (first | (go_at_call 73; refine (newReader_any _ _).mono ?_; rintro e w1 ⟨rfl, rfl⟩) | (go_at_call 74; refine (HU4.out _ R0.out).mono ?_; rintro e w2 ⟨rfl, r2, f2⟩; have Q2 := hide r2; have F2 := hide (b0.trans (f2.to_below (Nat.le_refl _) b0.size)); clear r2 f2) | (go_at_call 154; refine (HU8.out _ Q2.out).mono ?_; rintro e w3 ⟨rfl, r3, f3⟩; have Q3 := hide r3; have F3 := hide (F2.out.trans (f3.to_below (Nat.le_refl _) F2.out.size)); clear r3 f3) | (go_at_call 153; refine (HB.out _ Q3.out).mono ?_; rintro e w4 ⟨rfl, r4, f4⟩; have F4 := hide (F3.out.trans (f4.to_below (Nat.le_refl _) F3.out.size)); clear r4 f4) | (go_at_call 60; refine (HR.out _ F4.out).mono ?_; rintro e w5 ⟨rfl, b5⟩; have F5 := hide (below_next F4.out b5); clear b5) | (go_at_call 155; refine (HP.out _).mono ?_; rintro e w6 ⟨rfl, hw⟩; subst w6))
    go_ret2
    exact ⟨rfl, F5.out⟩
  · have HR := hide fun W => recJ_long ep no (tkT s) (by omega) zt W
    rw [decide_eq_false hl, Bool.false_and]
    generalize tkT s = tx at *
    generalize rtake s (tkP s).1 (tkP s).2.1 (tkN s) = R3 at *
    generalize tkP s = R2 at *
    generalize rtake s 0 0 4 = R1 at *
    generalize tkN s = N at *
    clear i1 z1 i2 zt hK hs hl he hn
    go_enter Tryz.func123, Tryz.ntmps123
    go_wp2_with (first | (go_at_call 73; refine (newReader_any _ _).mono ?_; rintro e w1 ⟨rfl, rfl⟩) | (go_at_call 74; refine (HU4.out _ R0.out).mono ?_; rintro e w2 ⟨rfl, r2, f2⟩; have Q2 := hide r2; have F2 := hide (b0.trans (f2.to_below (Nat.le_refl _) b0.size)); clear r2 f2) | (go_at_call 154; refine (HU8.out _ Q2.out).mono ?_; rintro e w3 ⟨rfl, r3, f3⟩; have Q3 := hide r3; have F3 := hide (F2.out.trans (f3.to_below (Nat.le_refl _) F2.out.size)); clear r3 f3) | (go_at_call 153; refine (HB.out _ Q3.out).mono ?_; rintro e w4 ⟨rfl, r4, f4⟩; have F4 := hide (F3.out.trans (f4.to_below (Nat.le_refl _) F3.out.size)); clear r4 f4) | (go_at_call 60; refine (HR.out _).mono ?_; rintro e w5 ⟨rfl, hw⟩; subst w5))
    go_ret2
    exact ⟨rfl, F4.out⟩
end
end Go.Proofs.YtpffaaalncdjcaaGreatDoor
namespace Go.Proofs.YtpffaaalncdjcaaGreatDoor
open Go.RowKit
open Go.Deep
open Go.Lib
set_option linter.unusedVariables false
/-- The record with which s begins. -/
def rdRec (ep no : Nat) (s : List UInt8) : Option (List UInt8) :=
  if 16 + leN (s.take 4) ≤ s.length ∧ leN (s.take 4) ≤ 65536 ∧ s.take (16 + leN (s.take 4)) = recL ep no ((s.drop 12).take (leN (s.take 4))) then some ((s.drop 12).take (leN (s.take 4))) else none
theorem leN_zeros : leN (lowL 0 4) = 0 := by decide
theorem rec_take4 (ep no : Nat) (y : List UInt8) : (recL ep no y).take 4 = lowL y.length 4 := by
  unfold recL bodyL
  rw [List.append_assoc, List.append_assoc, List.take_append_of_le_length (by rw [lowL_len]; omega), List.take_of_length_le (by rw [lowL_len]; omega)]
theorem tk_spec (ep no : Nat) (s : ByteArray) : tkB ep no s = (rdRec ep no s.data.toList).isSome ∧ ∀ y, rdRec ep no s.data.toList = some y → tkT s = txt y := by
  have hsl : s.data.toList.length = s.size := by simp
  have e0 : (rtake s 0 0 4) = if (s.size : Int) < 4 then (0, 4, ⟨#[]⟩) else (4, 0, s.extract 0 4) := by
    unfold rtake
    simp
  have small : ∀ y : List UInt8, s.size < 16 → pfx s (txt (recL ep no y)) = false := fun y h => by
    cases hp : pfx s (txt (recL ep no y)) with
    | false => rfl
    | true =>
      have h2 := ((pfx_iff _ _).1 hp).1
      rw [txtJ_size, recL_len] at h2
      omega
  have none16 : s.size < 16 → rdRec ep no s.data.toList = none := fun h => by
    unfold rdRec
    rw [if_neg (by rw [hsl]; omega)]
  by_cases h12 : s.size < 12
  · rw [none16 (by omega)]
    refine ⟨?_, fun y h => by cases h⟩
    unfold tkB
    rw [small _ (by omega)]
    simp
  · have h4 : ¬ (s.size : Int) < 4 := by omega
    rw [if_neg h4] at e0
    have hN : tkN s = leN (s.data.toList.take 4) := by
      unfold tkN
      rw [e0]
      show leN (s.extract 0 4).data.toList = _
      rw [exJ]
      simp
    have hP : ((tkP s).1, (tkP s).2.1) = (12, 0) := by
      unfold tkP
      rw [e0]
      show ((rtake s 4 0 8).1, (rtake s 4 0 8).2.1) = _
      unfold rtake
      rw [if_neg (by simp), if_neg (by omega), if_neg (by omega)]
      rfl
    have hP1 : (tkP s).1 = 12 := congrArg Prod.fst hP
    have hP2 : (tkP s).2.1 = 0 := congrArg Prod.snd hP
    by_cases hb : s.size < 12 + leN (s.data.toList.take 4)
    · have hT : tkT s = ⟨#[]⟩ := by
        unfold tkT
        rw [hP1, hP2, hN]
        unfold rtake
        rw [if_neg (by simp), if_neg (by omega), if_pos (by omega)]
      have hr : rdRec ep no s.data.toList = none := by
        unfold rdRec
        rw [if_neg (by rw [hsl]; omega)]
      rw [hr]
      refine ⟨?_, fun y h => by cases h⟩
      unfold tkB
      rw [hT]
      cases hp : pfx s (txt (recL ep no [])) with
      | false => simp
      | true =>
        exfalso
        obtain ⟨h1, h2⟩ := (pfx_iff _ _).1 hp
        rw [txtJ_size, recL_len] at h1 h2
        have h3 := congrArg (List.take 4) h2
        rw [List.take_take, txtJ_list, rec_take4, show min 4 (16 + ([] : List UInt8).length) = 4 from rfl] at h3
        rw [h3, show ([] : List UInt8).length = 0 from rfl, leN_zeros] at hb
        omega
    · have hT : (tkT s).data.toList = (s.data.toList.drop 12).take (leN (s.data.toList.take 4)) := by
        unfold tkT
        rw [hP1, hP2, hN]
        unfold rtake
        rw [if_neg (by simp), if_neg (by omega), if_neg (by omega)]
        show (s.extract (Int.toNat 12) (Int.toNat (12 + _))).data.toList = _
        rw [exJ, show Int.toNat 12 = 12 from rfl, show (12 + (leN (s.data.toList.take 4) : Int)).toNat - 12 = leN (s.data.toList.take 4) by omega]
      have hTz : (tkT s).size = leN (s.data.toList.take 4) := by
        have := congrArg List.length hT
        rw [List.length_take, List.length_drop, hsl] at this
        have e : (tkT s).data.toList.length = (tkT s).size := by simp
        omega
      have hTx : tkT s = txt ((s.data.toList.drop 12).take (leN (s.data.toList.take 4))) := by rw [← hT, txtJ_of]
      unfold tkB rdRec
      rw [hT, hTz]
      have hpl : (recL ep no ((s.data.toList.drop 12).take (leN (s.data.toList.take 4)))).length = 16 + leN (s.data.toList.take 4) := by
        rw [recL_len, ← hT]
        have e : (tkT s).data.toList.length = (tkT s).size := by simp
        omega
      have hpi := pfx_iff s (txt (recL ep no ((s.data.toList.drop 12).take (leN (s.data.toList.take 4)))))
      rw [txtJ_size, hpl, txtJ_list] at hpi
      generalize leN (s.data.toList.take 4) = n at *
      by_cases hc : 16 + n ≤ s.data.toList.length ∧ n ≤ 65536 ∧ s.data.toList.take (16 + n) = recL ep no ((s.data.toList.drop 12).take n)
      · rw [if_pos hc, hpi.2 ⟨by rw [← hsl]; exact hc.1, hc.2.2⟩, decide_eq_true hc.2.1]
        refine ⟨rfl, fun y hy => ?_⟩
        cases hy
        exact hTx
      · rw [if_neg hc]
        refine ⟨?_, fun y h => by cases h⟩
        by_cases hn : n ≤ 65536
        · cases hp : pfx s (txt (recL ep no ((s.data.toList.drop 12).take n))) with
          | false => simp
          | true =>
            exfalso
            obtain ⟨h1, h2⟩ := hpi.1 hp
            exact hc ⟨by rw [hsl]; exact h1, hn, h2⟩
        · rw [decide_eq_false hn]
          rfl
/-- k records are taken: which, and how far that is. -/
def stJ (ep : Nat) (s : List UInt8) : Nat → Option (List (List UInt8) × Nat)
  | 0 => some ([], 20)
  | k + 1 => (stJ ep s k).bind fun p => (rdRec ep p.1.length (s.drop p.2)).map fun y => (p.1 ++ [y], p.2 + (16 + y.length))
theorem rdRec_some {ep no : Nat} {s y : List UInt8} (h : rdRec ep no s = some y) : 16 + y.length ≤ s.length ∧ y.length ≤ 65536 ∧ s.take (16 + y.length) = recL ep no y ∧ y = (s.drop 12).take (leN (s.take 4)) ∧ y.length = leN (s.take 4) := by
  unfold rdRec at h
  split at h
  · rename_i hc
    cases h
    have hl : ((s.drop 12).take (leN (s.take 4))).length = leN (s.take 4) := by
      rw [List.length_take, List.length_drop]
      omega
    rw [hl]
    exact ⟨hc.1, hc.2.1, hc.2.2, rfl, rfl⟩
  · cases h
theorem stJ_facts (ep : Nat) (s : List UInt8) (hs : 20 ≤ s.length) : ∀ (k : Nat) (L : List (List UInt8)) (a : Nat), stJ ep s k = some (L, a) → L.length = k ∧ 20 + 16 * k ≤ a ∧ a ≤ s.length
  | 0, L, a, h => by
    cases h
    exact ⟨rfl, by omega, hs⟩
  | k + 1, L, a, h => by
    unfold stJ at h
    cases hp : stJ ep s k with
    | none => rw [hp] at h; cases h
    | some p =>
      obtain ⟨L0, a0⟩ := p
      rw [hp] at h
      obtain ⟨h1, h2, h3⟩ := stJ_facts ep s hs k L0 a0 hp
      cases hr : rdRec ep L0.length (s.drop a0) with
      | none => simp [hr] at h
      | some y =>
        simp [hr] at h
        obtain ⟨rfl, rfl⟩ := h
        have := (rdRec_some hr).1
        rw [List.length_drop] at this
        exact ⟨by simp [h1], by omega, by omega⟩
theorem stJ_next {ep : Nat} {s : List UInt8} {k : Nat} {L : List (List UInt8)} {a : Nat} {y : List UInt8} (h : stJ ep s k = some (L, a)) (hr : rdRec ep L.length (s.drop a) = some y) : stJ ep s (k + 1) = some (L ++ [y], a + (16 + y.length)) := by
  show (stJ ep s k).bind _ = _
  rw [h]
  simp [hr]
theorem stJ_end {ep : Nat} {s : List UInt8} {k : Nat} {L : List (List UInt8)} {a : Nat} (h : stJ ep s k = some (L, a)) (hr : rdRec ep L.length (s.drop a) = none) : stJ ep s (k + 1) = none := by
  show (stJ ep s k).bind _ = _
  rw [h]
  simp [hr]
theorem stJ_none {ep : Nat} {s : List UInt8} {k : Nat} (h : stJ ep s k = none) : ∀ j, stJ ep s (k + j) = none
  | 0 => h
  | j + 1 => by
    show (stJ ep s (k + j)).bind _ = _
    rw [stJ_none h j]
    rfl
theorem stJ_one {ep : Nat} {s : List UInt8} {k k' : Nat} {p p' : List (List UInt8) × Nat} (h : stJ ep s k = some p) (he : stJ ep s (k + 1) = none) (h' : stJ ep s k' = some p') (he' : stJ ep s (k' + 1) = none) : p = p' := by
  have : k = k' := by
    rcases Nat.lt_trichotomy k k' with hlt | e | hlt
    · have := stJ_none he (k' - (k + 1))
      rw [show k + 1 + (k' - (k + 1)) = k' by omega, h'] at this
      cases this
    · exact e
    · have := stJ_none he' (k - (k' + 1))
      rw [show k' + 1 + (k - (k' + 1)) = k by omega, h] at this
      cases this
  subst this
  rw [h] at h'
  exact Option.some.inj h'
end Go.Proofs.YtpffaaalncdjcaaGreatDoor
namespace Go.Proofs.YtpffaaalncdjcaaGreatDoor
open Go.RowKit
open Go.Deep
open Go.Lib
set_option linter.unusedVariables false
/-- What is read of a file whose front is right. -/
structure RdJ (w w' : World) (s : ByteArray) (ep : Nat) (v : Value) (L : List (List UInt8)) (a : Nat) : Prop where
  st : ∃ k, stJ ep s.data.toList k = some (L, a) ∧ stJ ep s.data.toList (k + 1) = none
  own : OX KSJ w' v (L.map txt)
  far : ∀ g, v.ownBlock = some g → w.heap.size ≤ g
  bel : Below w.heap.size w w'
theorem results_tmp4 {fn : Func} {t u v z : Tmp} (h : fn.results = #[.tmp t, .tmp u, .tmp v, .tmp z]) (tmps : Array Value) (P : Program) (w : World) : (results fn tmps).run P w = .ok (.tuple #[tmps.getD t undef, tmps.getD u undef, tmps.getD v undef, tmps.getD z undef]) w := by
  simp [results, h]
theorem onto_far {w W2 W3 : World} {v v' : Value} (on : Onto W2 W3 v v') (fr : ∀ g, v.ownBlock = some g → w.heap.size ≤ g) (bel : Below w.heap.size w W2) : (∀ g, v'.ownBlock = some g → w.heap.size ≤ g) ∧ Below w.heap.size w W3 := by
  have g := on.grown
  have h1 := bel.size
  refine ⟨fun k hk => ?_, bel.trans ⟨g.os, g.tape, g.output, g.size, fun k hk => g.block k (by omega) fun e => ?_⟩⟩
  · rcases on.lies with e | ⟨c, e, hc⟩
    · exact fr k (by rw [← e]; exact hk)
    · rw [e] at hk
      cases hk
      omega
  · have := fr k e.symm
    omega
theorem sl_from (s : ByteArray) (a : Nat) (ha : a ≤ s.size) (w : World) : (Instr.sliceAt 9 (.string s) (some (.int .i64 (a : Int))) none none).run Tryz.prog w = .ok (.string (s.extract a s.size)) w := by
  simp [Instr.sliceAt, Instr.slice, run_underlying Tryz.underlying9, Instr.sliceBounds, Instr.sliceBound, asIntOf, ha, Result.andThen]
section
set_option maxRecDepth 10000
set_option maxHeartbeats 2000000
theorem readJ_no (s : ByteArray) (hs : s.size ≤ maxLen) (w : World) (hK : Kg w) (hp : pfx s (txt (headL (thE s))) = false) : Calls Tryz.prog 94 #[.string s] w fun e w' => e = .returned (.tuple #[.int .u64 0, .slice none 0 0, .int .i64 0, .int .i64 120]) ∧ Below w.heap.size w w' := by
  have HT := hide (takeHeadJ_any s hs w hK)
  rw [hp] at HT
  clear hp hK hs
  go_enter Tryz.func94, Tryz.ntmps94
  go_wp2_with (go_at_call 122; refine HT.out.mono ?_; rintro e w1 ⟨rfl, b1⟩; have B1 := hide b1; clear b1)
  (try simp only [Exit.inBlock, Exit.then])
  refine bodyPost_ret (results_tmp4 rfl _ _ _) rfl ?_
  exact ⟨rfl, B1.out⟩
theorem readJ_yes (s : ByteArray) (hs : s.size ≤ 140737488351232) (w : World) (hK : Kg w) (hp : pfx s (txt (headL (thE s))) = true) : Calls Tryz.prog 94 #[.string s] w fun e w' => ∃ v L a, e = .returned (.tuple #[.int .u64 (thE s), v, .int .i64 ((s.size : Int) - (a : Nat)), .int .i64 0]) ∧ RdJ w w' s (thE s) v L a := by
  have HT := hide (takeHeadJ_any s (by unfold maxLen; omega) w hK)
  rw [hp] at HT
  have h20 := ((pfx_iff _ _).1 hp).1
  rw [txtJ_size, headL_len] at h20
  have hU : U64 (thE s) := by
    have i1 := rtake_inv s 0 0 8 (by omega) (by omega)
    have z2 := rtake_size s (rtake s 0 0 8).1 (rtake s 0 0 8).2.1 8 8 rfl i1.1
    unfold U64 thE
    exact leN_lt' _ 8 _ (by simpa using z2) (by decide)
  generalize thE s = ep at *
  have hsl : s.data.toList.length = s.size := by simp
  have FA := hide (stJ_facts ep s.data.toList (by rw [hsl]; exact h20))
  rw [hsl] at FA
  have HR : Hid (∀ (a no : Nat) W, no < 18446744073709551616 → Below w.heap.size w W → Calls Tryz.prog 123 #[.string (s.extract a s.size), .int .u64 ep, .int .u64 no] W fun e w' => e = .returned (.tuple #[.string (tkT (s.extract a s.size)), .bool (tkB ep no (s.extract a s.size))]) ∧ Below W.heap.size W w') := fun a no W hn b => takeRec_any ep no hU hn (s.extract a s.size) (by simp; unfold maxLen; omega) W (hK.next b)
  have HX : Hid (∀ a : Nat, (s.extract a s.size).data.toList = s.data.toList.drop a) := fun a => by
    rw [exJ, ← hsl, List.take_of_length_le (by simp)]
  have HS := hide hs
  clear hp hK hsl
  go_enter Tryz.func94, Tryz.ntmps94
  go_wp2_with (go_at_call 122; refine HT.out.mono ?_; rintro e w1 ⟨rfl, b1⟩; have B1 := hide b1; clear b1)
  clear hs
  go_loopw [8, 9] (fun v i wr => ∃ (k : Nat) (L : List (List UInt8)) (a : Nat), i = .int .i64 (a : Int) ∧ Hid (stJ ep s.data.toList k = some (L, a)) ∧ OX KSJ wr v (L.map txt) ∧ Hid (∀ g, v.ownBlock = some g → w.heap.size ≤ g) ∧ Hid (Below w.heap.size w wr)) (fun _ i _ => (s.size - intOf i).toNat)
  case atStart => exact ⟨0, [], 20, rfl, rfl, OX.nil _, (fun g hg => by cases hg), B1⟩
  case round =>
    clear B1 HT
    obtain ⟨k, L, a, rfl, ST, ho, FR, BL⟩ := hrel
    obtain ⟨rfl, f2, f3⟩ := FA.out k L a ST.out
    have hs := HS.out
    obtain ⟨ao, cc, rfl⟩ := ho.form
    have hLm : (L.map txt).length = L.length := by simp
    rw [hLm] at ho FR ⊢
    have hsl1 := sl_from s a f3 wr
    have e1 : IntKind.u64.wrap (L.length : Int) = (L.length : Int) := wrapu _ (by omega) (by omega)
    have HK := hide (HR.out a L.length wr (by omega) BL.out)
    obtain ⟨t1, t2⟩ := tk_spec ep L.length (s.extract a s.size)
    rw [HX.out a] at t1 t2
    have HO := hide ho
    clear ho hLm
    cases hr : rdRec ep L.length (s.data.toList.drop a) with
    | none =>
      rw [hr] at t1
      rw [t1] at HK
      have e2 : IntKind.i64.wrap ((s.size : Int) - (a : Int)) = (s.size : Int) - (a : Int) := wrapI _ (by omega) (by omega)
      have EN := hide (stJ_end ST.out hr)
      clear t1 t2 hr
      go_wp2_with (go_at_call 123; with_reducible refine HK.out.mono ?_; rintro e w2 ⟨rfl, b2⟩; have B2 := hide b2; clear b2)
      (try simp only [Exit.inBlock, Exit.then])
      refine bodyPost_ret (results_tmp4 rfl _ _ _) rfl ?_
      exact ⟨_, L, a, rfl, ⟨⟨_, ST.out, EN.out⟩, HO.out.below B2.out, FR.out, below_next BL.out B2.out⟩⟩
    | some y =>
      rw [hr] at t1
      rw [t1, t2 y hr] at HK
      have NX := hide (stJ_next ST.out hr)
      have r1 := (rdRec_some hr).1
      have r2 := (rdRec_some hr).2.1
      rw [List.length_drop, show s.data.toList.length = s.size by simp] at r1
      have zy : (txt y).size = y.length := txtJ_size y
      have e2 : IntKind.i64.wrap (16 + (y.length : Int)) = 16 + (y.length : Int) := wrapI _ (by omega) (by omega)
      have e3 : IntKind.i64.wrap ((a : Int) + (16 + (y.length : Int))) = (a : Int) + (16 + (y.length : Int)) := wrapI _ (by omega) (by omega)
      clear t1 t2 hr
      go_upto_region 9 with (go_at_call 123; with_reducible refine HK.out.mono ?_; rintro e w2 ⟨rfl, b2⟩; have B2 := hide b2; clear b2)
      have hbs := bsS w2 (txt y)
      have HA := hide (HO.out.below (B2.out.alloc B2.out.size (.cells #[.string (txt y)] 9)))
      clear HK hsl1 e1
      go_wp2_with (at_builtin; refine wpAppS rfl _ _ rfl (.slice ao L.length cc) (L.map txt) rfl HA.out ⟨_, 0, none⟩ 1 1 [txt y] rfl rfl (one_newX (E := KSJ) w2 (txt y)) (by rw [List.length_map]; omega) (by rw [List.length_map]; unfold maxLen; omega) ?_; intro v' W3 ho3 on3; obtain ⟨ao', cc', rfl⟩ := ho3.form; have H3 := hide ho3; have O3 := hide on3; clear ho3 on3)
      have OF := hide (onto_far O3.out FR.out ((below_next BL.out B2.out).alloc (below_next BL.out B2.out).size _))
      rw [show (L.map txt ++ [txt y]).length = L.length + 1 by simp] at OF
      go_roundw
      case rel =>
        refine ⟨L.length + 1, L ++ [y], a + (16 + y.length), by go_num, NX, ?_, OF.out.1, OF.out.2⟩
        have h4 := H3.out
        rw [show (L.map txt ++ [txt y]).length = L.length + 1 by simp] at h4
        rw [List.map_append]
        exact h4
      case measure => simp [intOf]; omega
end
end Go.Proofs.YtpffaaalncdjcaaGreatDoor
