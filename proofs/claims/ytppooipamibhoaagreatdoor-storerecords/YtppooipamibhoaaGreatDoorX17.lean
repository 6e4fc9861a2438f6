/- The contracts of fall and Crash. Disks: another plan. -/
import Derived.Test.YtppooipamibhoaaGreatDoorX16
import Derived.Test.YtppooipamibhoaaGreatDoorX14
namespace Go.Proofs.YtppooipamibhoaaGreatDoor
open Go.RowKit
open Go.Deep
open Go.Lib
/-- The end of a fall. -/
theorem fall_end {w W6 w8 : World} {gd b8 : Nat} {x X : StD} {T T' S1 S2 : Nat → Prop} {mn ms : Option Nat} {vo vp : Value} (h : DP (w8.setCell ⟨gd, 0, none⟩ (.map (some b8))) gd x (grow T' W6 w8) S1 S2 mn ms vo vp) (hX : X = { x with loose := [], dead := true }) (fr : Fr T w W6 ∧ ∀ g, T' g → grow T w W6 g) (hb : Below W6.heap.size W6 w8) (tg : T gd) (hl : ∀ g, T g → g < w.heap.size) :
    DK (((w8.setCell ⟨gd, 0, none⟩ (.map (some b8))).setCell ⟨gd, 2, none⟩ (.slice none 0 0)).setCell ⟨gd, 5, none⟩ (.bool true)) gd X (grow T w (((w8.setCell ⟨gd, 0, none⟩ (.map (some b8))).setCell ⟨gd, 2, none⟩ (.slice none 0 0)).setCell ⟨gd, 5, none⟩ (.bool true))) ∧ Fr T w (((w8.setCell ⟨gd, 0, none⟩ (.map (some b8))).setCell ⟨gd, 2, none⟩ (.slice none 0 0)).setCell ⟨gd, 5, none⟩ (.bool true)) := by
  have hsz : (((w8.setCell ⟨gd, 0, none⟩ (.map (some b8))).setCell ⟨gd, 2, none⟩ (.slice none 0 0)).setCell ⟨gd, 5, none⟩ (.bool true)).heap.size = w8.heap.size := by simp [World.setCell]
  have r := (((fr.1.trans' (Fr.of_below hb)).trans' (Fr.setCell _ (p := ⟨gd, 0, none⟩) tg (.map (some b8)))).trans' (Fr.setCell _ (p := ⟨gd, 2, none⟩) tg (.slice none 0 0))).trans' (Fr.setCell _ (p := ⟨gd, 5, none⟩) tg (.bool true))
  have h1 := fr.1.size
  have h2 := hb.size
  subst hX
  refine ⟨⟨_, _, _, _, _, _, (h.noLoose.setDead true).wide (fun g hg => ?_) (grow_lt hl r.size)⟩, r⟩
  rcases hg with hg | ⟨e1, e2⟩
  · rcases fr.2 g hg with e | ⟨e1, e2⟩
    · exact .inl e
    · exact .inr ⟨e1, by rw [hsz]; omega⟩
  · exact .inr ⟨by omega, by rw [hsz]; exact e2⟩
section
set_option maxRecDepth 10000
set_option maxHeartbeats 8000000
theorem fall_any (gd : Nat) (x : StD) (T : Nat → Prop) (keep torn : Int) (w : World) (h : DK w gd x T) (hV : Vd x) (hk1 : -9223372036854775808 ≤ keep) (hk2 : keep < 9223372036854775808) : Calls Tryz.prog 119 #[.pointer (some ⟨gd, 0, none⟩), .int .i64 keep, .int .i64 torn] w fun e w' => (∃ r, e = .returned r) ∧ DK w' gd (flC x keep torn) (grow T w w') ∧ Fr T w w' := by
  have HL := hide h.lt
  obtain ⟨S1, S2, mn, ms, vo, vp, h⟩ := h
  obtain ⟨ao, cc, rfl⟩ := loose_form h.loose
  have x2 := h.cell 2 (by decide)
  rw [show dc mn ms (.slice ao x.loose.length cc) vp x.made x.dead 2 = .slice ao x.loose.length cc from rfl] at x2
  have H0 := hide h
  have HV := hide hV
  have many := hV.many
  have e1 : (if (x.loose.length : Int) < (if keep < 0 then 0 else keep) then (x.loose.length : Int) else (if keep < 0 then 0 else keep)) = ((kp x keep : Nat) : Int) := by
    unfold kp
    split <;> split <;> omega
  have hkl : kp x keep ≤ x.loose.length := by unfold kp; omega
  have HFS : Hid (flS x keep torn = match x.loose[kp x keep]? with | none => doL x.sure (x.loose.take (kp x keep)) | some c => if tornB c torn then doC (doL x.sure (x.loose.take (kp x keep))) (tornC c torn) else doL x.sure (x.loose.take (kp x keep))) := rfl
  have HBD := hide (flS_bd hV keep torn)
  have HFC : Hid (flC x keep torn = { x with now := flS x keep torn, sure := flS x keep torn, loose := [], dead := true }) := rfl
  generalize flC x keep torn = X at *
  generalize flS x keep torn = FF at *
  have E1 := hide e1
  have HK := hide hkl
  generalize kp x keep = kk at *
  clear h hV e1 hkl
  go_enter Tryz.func119, Tryz.ntmps119
  go_upto_region 1 with fail
  rw [E1.out]
  generalize (if keep < 0 then 0 else keep) = k9 at *
  have kk0 : (0 : Int) ≤ (kk : Int) := by omega
  have LL := LC.of_rows H0.out.loose kk HK.out
  have D0d := hide (H0.out.below (Below.refl w.heap.size w).drew)
  have hlk : (x.loose.take kk).length ≤ 1000000 := by
    have := List.length_take_le kk x.loose
    have := HV.out.many
    have := HK.out
    omega
  have HP := hide (play_any gd 1 6 233 _ (by decide) ms x.sure S2 _ _ (x.loose.take kk) w.drew D0d.out.row rfl D0d.out.sure D0d.out.d2 (LL.of_block rfl) (fun h0 => by
    have h1 : 0 < x.loose.length := by
      have := List.length_take_le kk x.loose
      have := HK.out
      omega
    have hb := loose_blk D0d.out.loose h1
    exact ⟨D0d.out.lt _ (D0d.out.tl _ hb), (D0d.out.l1 _ hb).2.1, (D0d.out.l1 _ hb).2.2⟩) (HV.out.ok.take kk).okL hlk)
  rw [show cutv (.slice ao x.loose.length cc) kk = .slice ao kk cc from rfl] at HP
  clear LL hlk
  refine wp_region_held_drew (S := fun W => W.cell? ⟨gd, 2, none⟩ = some (.slice ao x.loose.length cc)) (by kernel_rfl) x2 (fun hH => ?_)
  refine wpAnyH_take (i := 0) (v := .pointer (some ⟨gd, 0, none⟩)) rfl (by kernel_rfl) (by kernel_rfl) (by kernel_rfl) (fun _ _ _ h => h) (ylD_move (by rfl) _ (by rfl) _ (by rfl)) hH ?_
  change wpAnyH _ _ _ _ _ _ _ (Act.put _ (some 16) _) _
  simp only [Act.put, List.setIfInBounds_toArray, List.set_cons_zero, List.set_cons_succ]
  refine wpAnyH_take (i := 1) (v := .pointer (some ⟨gd, 0, none⟩)) rfl (by kernel_rfl) (by kernel_rfl) (by kernel_rfl) (fun _ _ _ h => h) (.inl ⟨by rfl, fun W _ => by go_simp⟩) hH ?_
  change wpAnyH _ _ _ _ _ _ _ (Act.put _ (some 17) _) _
  simp only [Act.put, List.setIfInBounds_toArray, List.set_cons_zero, List.set_cons_succ]
  refine wpAnyH_take (i := 2) (v := .pointer (some ⟨gd, 1, none⟩)) rfl (by kernel_rfl) (by kernel_rfl) (by kernel_rfl) (fun _ _ _ h => h) (.inl ⟨by rfl, fun W _ => by go_simp⟩) hH ?_
  change wpAnyH _ _ _ _ _ _ _ (Act.put _ (some 18) _) _
  simp only [Act.put, List.setIfInBounds_toArray, List.set_cons_zero, List.set_cons_succ]
  refine wpAnyH_take (i := 3) (v := .pointer (some ⟨gd, 0, none⟩)) rfl (by kernel_rfl) (by kernel_rfl) (by kernel_rfl) (fun _ _ _ h => h) (ylD_move (by rfl) _ (by rfl) _ (by rfl)) hH ?_
  change wpAnyH _ _ _ _ _ _ _ (Act.put _ (some 19) _) _
  simp only [Act.put, List.setIfInBounds_toArray, List.set_cons_zero, List.set_cons_succ]
  refine wpAnyH_take (i := 4) (v := .pointer (some ⟨gd, 0, none⟩)) rfl (by kernel_rfl) (by kernel_rfl) (by kernel_rfl) (fun _ _ _ h => h) (.inl ⟨by rfl, fun W _ => by go_simp⟩) hH ?_
  change wpAnyH _ _ _ _ _ _ _ (Act.put _ (some 20) _) _
  simp only [Act.put, List.setIfInBounds_toArray, List.set_cons_zero, List.set_cons_succ]
  refine wpAnyH_take (i := 5) (v := .pointer (some ⟨gd, 2, none⟩)) rfl (by kernel_rfl) (by kernel_rfl) (by kernel_rfl) (fun _ _ _ h => h) (.inl ⟨by rfl, fun W _ => by go_simp⟩) hH ?_
  change wpAnyH _ _ _ _ _ _ _ (Act.put _ (some 21) _) _
  simp only [Act.put, List.setIfInBounds_toArray, List.set_cons_zero, List.set_cons_succ]
  refine wpAnyH_take (i := 6) (v := .slice ao x.loose.length cc) rfl (by kernel_rfl) (by kernel_rfl) (by kernel_rfl) (fun _ _ _ h => h) (.inl ⟨by rfl, fun W hS => by have c4 := hS; go_simp⟩) hH ?_
  change wpAnyH _ _ _ _ _ _ _ (Act.put _ (some 22) _) _
  simp only [Act.put, List.setIfInBounds_toArray, List.set_cons_zero, List.set_cons_succ]
  refine wpAnyH_take (i := 7) (v := .int .i64 (kk : Int)) rfl (by kernel_rfl) (by kernel_rfl) (by kernel_rfl) (fun _ _ _ h => h) (ylD_move (by rfl) _ (by rfl) _ (by rfl)) hH ?_
  change wpAnyH _ _ _ _ _ _ _ (Act.put _ (some 23) _) _
  simp only [Act.put, List.setIfInBounds_toArray, List.set_cons_zero, List.set_cons_succ]
  refine wpAnyH_take (i := 8) (v := .slice ao kk cc) rfl (by kernel_rfl) (by kernel_rfl) (by kernel_rfl) (fun _ _ _ h => h) (yl_slice (by rfl) _ _ _ (by rfl) _ _ (by rfl) _ _ (by rfl) (by rfl) (fun W => run_cutC H0.out.loose kk HK.out W)) hH ?_
  change wpAnyH _ _ _ _ _ _ _ (Act.put _ (some 24) _) _
  simp only [Act.put, List.setIfInBounds_toArray, List.set_cons_zero, List.set_cons_succ]
  refine wpAnyH_ready (rs := [9]) (by kernel_rfl) (by simp) (AllReadyH.cons rfl (fun K1 hK1 => ?_) AllReadyH.nil)
  go_simp
  refine HP.out.mono ?_
  rintro e w3 ⟨⟨r, rfl⟩, b3, F3, f3, row3, fr3⟩
  have P3 := hide (D0d.out.played1 f3 row3 fr3)
  have F3h := hide f3
  have y2 := P3.out.1.cell 2 (by decide)
  rw [show dc mn (some b3) (.slice ao x.loose.length cc) vp x.made x.dead 2 = .slice ao x.loose.length cc from rfl] at y2
  clear f3 row3 fr3
  refine hK1.out _ _ y2 (fun hH => ?_)
  clear hK1 HP D0d x2 E1
  refine wpAnyH_done (by kernel_rfl) ?_ _
  have D3 : Hid (DP w3 gd { x with sure := doL x.sure (x.loose.take kk) } (grow T w w3) S1 (grow S2 w w3) mn (some b3) (.slice ao x.loose.length cc) vp ∧ Fr T w w3) := ⟨P3.out.1, (Fr.of_below (Below.refl w.heap.size w).drew).trans' P3.out.2⟩
  have F3w : Hid (Fs w3 b3 F3 (doL x.sure (x.loose.take kk)) (grow S2 w w3)) := F3h.out
  clear P3 F3h
  by_cases hlt : (kk : Int) < x.loose.length
  · obtain ⟨c, hc⟩ : ∃ c, x.loose[kk]? = some c := ⟨_, List.getElem?_eq_getElem (by omega)⟩
    have hFS : FF = if tornB c torn then doC (doL x.sure (x.loose.take kk)) (tornC c torn) else doL x.sure (x.loose.take kk) := by
      have := HFS.out
      rw [hc] at this
      exact this
    have OKc := hide (HV.out.ok.at_ hc)
    have hb := loose_blk D3.out.1.loose (by show 0 < x.loose.length; omega)
    obtain ⟨gl, rfl⟩ : ∃ g, ao = some ⟨g, 0, none⟩ := by
      rcases D3.out.1.loose.2 with ⟨e, h0⟩ | ⟨g, cap, cur, e, _⟩
      · simp at h0
        rw [h0] at hlt
        simp at hlt
        omega
      · injection e with e
        exact ⟨g, e⟩
    have RG : Hid (w3.rangeAt gl (kk * 5) (chv c).toList) := fun j v hv => by
      have := World.ownsRow.cells D3.out.1.loose (g := gl) rfl (kk * 5 + j) v (chs_at x.loose kk c hc j v hv)
      rwa [addr_add, Nat.zero_add] at this
    clear hb hc
    cases ht : tornB c torn
    · have HT := hide fun W => torn_no c torn W ht
      have hF2 : FF = doL x.sure (x.loose.take kk) := by rw [hFS, if_neg (by rw [ht]; decide)]
      have HF2 := hide hF2
      clear hFS ht hF2
      go_upto_region 6 with (first | refine wpList_loadC rfl _ rfl gl (kk * 5) rfl c RG.out ?_ | (go_at_call 199; refine (HT.out _).mono ?_; rintro e w4 ⟨rfl, hb4⟩; have B4 := hide hb4; clear hb4) | refine wpList_allocA ACh rfl rfl ?_ | refine wpList_store_newA ACh rfl _ _ rfl _ rfl zch rfl (by simp [zch, Value.oneCell']) rfl rfl ?_)
      have BB : Hid (Below w3.heap.size w3 (w4.alloc (.cells zch 327))) := B4.out.alloc B4.out.size _
      generalize w4.alloc (.cells zch 327) = W6 at *
      have D6 : Hid (DP W6 gd { x with sure := FF } (grow T w w3) S1 (grow S2 w w3) mn (some b3) (.slice (some ⟨gl, 0, none⟩) x.loose.length cc) vp) := by
        rw [HF2.out]
        exact D3.out.1.below BB.out
      have F6 : Hid (Fs W6 b3 F3 FF (grow S2 w w3)) := by
        rw [HF2.out]
        exact F3w.out.below BB.out
      have FR6 : Hid (Fr T w W6 ∧ ∀ g, grow T w w3 g → grow T w W6 g) := ⟨D3.out.2.trans' (Fr.of_below BB.out), grow_mono BB.out.size⟩
      have q1 := D6.out.cell 1 (by decide)
      rw [show dc mn (some b3) (.slice (some ⟨gl, 0, none⟩) x.loose.length cc) vp x.made x.dead 1 = .map (some b3) from rfl] at q1
      have HC := hide (cloneD_any b3 F3 FF _ W6 F6.out (by have := HBD.out.n; omega) (fun k => by have := HBD.out.len k; omega))
      have D7 := hide D6.out
      have FR7 := hide FR6.out
      clear D6 FR6
      go_wp2_with (first | (go_at_call 200; refine HC.out.mono ?_; rintro e w8 ⟨b8, F8, rfl, f8, hb8⟩; have D8 := hide (D7.out.newNow f8 hb8); have r8 := World.rowIs.of_block D7.out.row (hb8.block _ (World.rowIs.lt D7.out.row)); have k0 := World.rowIs.cell r8 (i := 0) (by decide); have k2 := World.rowIs.cell r8 (i := 2) (by decide); have k5 := World.rowIs.cell r8 (i := 5) (by decide); have j0 := World.rowIs.frozen r8 0; have j2 := World.rowIs.frozen r8 2; have j5 := World.rowIs.frozen r8 5; have HB8 := hide hb8; clear f8 hb8 r8))
      refine bodyPost_end (results_none (by kernel_rfl) _ _ _) rfl ?_
      exact ⟨⟨_, rfl⟩, fall_end D8.out HFC.out FR7.out HB8.out H0.out.tg HL.out⟩
    · have HT := hide fun W => torn_yes c torn W ht
      have OKt := hide (torn_okD OKc.out ht)
      have hF2 : FF = doC (doL x.sure (x.loose.take kk)) (tornC c torn) := by rw [hFS, if_pos ht]
      have HF2 := hide hF2
      clear hFS ht hF2
      generalize tornC c torn = ct at *
      go_upto_region 5 with (first | refine wpList_loadC rfl _ rfl gl (kk * 5) rfl c RG.out ?_ | (go_at_call 199; refine (HT.out _).mono ?_; rintro e w4 ⟨rfl, hb4⟩; have B4 := hide hb4; clear hb4) | refine wpList_allocA ACh rfl rfl ?_ | refine wpList_store_newA ACh rfl _ _ rfl _ rfl (chv ct) rfl (chv_one ct) rfl rfl ?_)
      have BB : Hid (Below w3.heap.size w3 (w4.alloc (.cells (chv ct) 327))) := B4.out.alloc B4.out.size _
      have R5 := hide (heap_alloc_last w4 (.cells (chv ct) 327))
      have G5 := hide B4.out.size
      clear B4 HT
      generalize hg6 : w4.heap.size = g6 at *
      generalize w4.alloc (.cells (chv ct) 327) = W5 at *
      have D5 := hide (D3.out.1.below BB.out)
      have B5 : Below W5.heap.size W5 (W5.drew.alloc (.cells (chv ct) 327)) := ((Below.refl _ _).drew).alloc (Nat.le_refl _) _
      have R6 : Hid ((W5.drew.alloc (.cells (chv ct) 327)).heap[g6]? = some (.cells (chv ct) 327 (0, 0))) := (B5.block _ (lt_heap R5.out)).trans R5.out
      have N6 := hide (heap_alloc_last W5.drew (.cells (chv ct) 327))
      have D6 := hide (D5.out.below B5)
      have HP := hide (play_any gd 1 6 233 _ (by decide) (some b3) _ (grow S2 w w3) W5.drew.heap.size _ [ct] _ D6.out.row rfl D6.out.sure D6.out.d2 (LC.one N6.out) (fun _ => ⟨lt_heap N6.out, fun e => (by have := D5.out.lt _ (D5.out.t2 _ e); exact Nat.lt_irrefl _ this), fun e => (by have := D5.out.lt _ D5.out.tg; rw [← e] at this; exact Nat.lt_irrefl _ this)⟩) ⟨OKt.out.ok, trivial⟩ (by simp))
      have HB5 := hide B5
      clear B5
      refine wp_region_held_drew (S := fun W => W.heap[g6]? = some (.cells (chv ct) 327 (0, 0))) (by kernel_rfl) R5.out (fun hH => ?_)
      refine wpAnyH_take (i := 0) (v := .pointer (some ⟨gd, 0, none⟩)) rfl (by kernel_rfl) (by kernel_rfl) (by kernel_rfl) (fun _ _ _ h => h) (ylD_move (by rfl) _ (by rfl) _ (by rfl)) hH ?_
      change wpAnyH _ _ _ _ _ _ _ (Act.put _ (some 46) _) _
      simp only [Act.put, List.setIfInBounds_toArray, List.set_cons_zero, List.set_cons_succ]
      refine wpAnyH_take (i := 1) (v := .pointer (some ⟨gd, 0, none⟩)) rfl (by kernel_rfl) (by kernel_rfl) (by kernel_rfl) (fun _ _ _ h => h) (.inl ⟨by rfl, fun W _ => by go_simp⟩) hH ?_
      change wpAnyH _ _ _ _ _ _ _ (Act.put _ (some 47) _) _
      simp only [Act.put, List.setIfInBounds_toArray, List.set_cons_zero, List.set_cons_succ]
      refine wpAnyH_take (i := 2) (v := .pointer (some ⟨gd, 1, none⟩)) rfl (by kernel_rfl) (by kernel_rfl) (by kernel_rfl) (fun _ _ _ h => h) (.inl ⟨by rfl, fun W _ => by go_simp⟩) hH ?_
      change wpAnyH _ _ _ _ _ _ _ (Act.put _ (some 48) _) _
      simp only [Act.put, List.setIfInBounds_toArray, List.set_cons_zero, List.set_cons_succ]
      refine wpAnyH_take (i := 3) (v := .agg (chv ct)) rfl (by kernel_rfl) (by kernel_rfl) (by kernel_rfl) (fun _ _ _ h => h) (ylD_load (by rfl) _ (by rfl) _ _ (by rfl) (fun W hS => ld_row ACh rfl hS)) hH ?_
      change wpAnyH _ _ _ _ _ _ _ (Act.put _ (some 49) _) _
      simp only [Act.put, List.setIfInBounds_toArray, List.set_cons_zero, List.set_cons_succ]
      refine wpAnyH_ready (rs := [4]) (by kernel_rfl) (by simp) (AllReadyH.cons rfl (fun K1 hK1 => ?_) AllReadyH.nil)
      refine step_run (by rfl) (ex_bs1C _ (by rfl) (by rfl)) ?_
      refine hK1.out _ _ R6.out (fun hH => ?_)
      clear hK1
      change wpAnyH _ _ _ _ _ _ _ (Act.put _ (some 50) _) _
      simp only [Act.put, List.setIfInBounds_toArray, List.set_cons_zero, List.set_cons_succ]
      generalize W5.drew.alloc (.cells (chv ct) 327) = W5b at *
      refine wpAnyH_ready (rs := [5]) (by kernel_rfl) (by simp) (AllReadyH.cons rfl (fun K1 hK1 => ?_) AllReadyH.nil)
      go_simp
      refine HP.out.mono ?_
      rintro e W6 ⟨⟨r6, rfl⟩, b6, F6, f6, row6, fr6⟩
      have P6 := hide (D6.out.played1 f6 row6 fr6)
      have F6h := hide f6
      have R7 : W6.heap[g6]? = some (.cells (chv ct) 327 (0, 0)) := (P6.out.2.block _ (lt_heap R6.out) (fun e => by
        rcases e with e | ⟨_, e⟩
        · have h1 := HL.out _ e
          have h2 := D3.out.2.size
          have h3 := G5.out
          omega
        · have h3 := G5.out
          omega)).trans R6.out
      clear f6 row6 fr6
      refine hK1.out _ _ R7 (fun hH => ?_)
      clear hK1 R7
      refine wpAnyH_done (by kernel_rfl) ?_ _
      have FR6 : Hid (Fr T w W6 ∧ ∀ g, grow (grow T w w3) W5b W6 g → grow T w W6 g) := by
        have s3 := D3.out.2.size
        have s4 := BB.out.size
        have s5 := HB5.out.size
        have s6 := P6.out.2.size
        have r1 := (D3.out.2.trans' (Fr.of_below BB.out)).trans' (Fr.of_below HB5.out)
        refine ⟨r1.trans (P6.out.2.mono (grow_mono (by omega))), fun g hg => ?_⟩
        rcases hg with hg | ⟨h1, h2⟩
        · exact grow_mono (by omega) g hg
        · exact .inr ⟨by omega, h2⟩
      have D6' : Hid (DP W6 gd { x with sure := FF } (grow (grow T w w3) W5b W6) S1 (grow (grow S2 w w3) W5b W6) mn (some b6) (.slice (some ⟨gl, 0, none⟩) x.loose.length cc) vp) := by
        rw [HF2.out]
        exact P6.out.1
      have F6' : Hid (Fs W6 b6 F6 FF (grow (grow S2 w w3) W5b W6)) := by
        rw [HF2.out]
        exact F6h.out
      clear P6 HP D6 N6 R6 HB5 F6h R5 D5
      go_upto_region 6 with fail
      have q1 := D6'.out.cell 1 (by decide)
      rw [show dc mn (some b6) (.slice (some ⟨gl, 0, none⟩) x.loose.length cc) vp x.made x.dead 1 = .map (some b6) from rfl] at q1
      have HC := hide (cloneD_any b6 F6 FF _ W6 F6'.out (by have := HBD.out.n; omega) (fun k => by have := HBD.out.len k; omega))
      have D7 := hide D6'.out
      have FR7 := hide FR6.out
      clear D6' FR6
      go_wp2_with (first | (go_at_call 200; refine HC.out.mono ?_; rintro e w8 ⟨b8, F8, rfl, f8, hb8⟩; have D8 := hide (D7.out.newNow f8 hb8); have r8 := World.rowIs.of_block D7.out.row (hb8.block _ (World.rowIs.lt D7.out.row)); have k0 := World.rowIs.cell r8 (i := 0) (by decide); have k2 := World.rowIs.cell r8 (i := 2) (by decide); have k5 := World.rowIs.cell r8 (i := 5) (by decide); have j0 := World.rowIs.frozen r8 0; have j2 := World.rowIs.frozen r8 2; have j5 := World.rowIs.frozen r8 5; have HB8 := hide hb8; clear f8 hb8 r8))
      refine bodyPost_end (results_none (by kernel_rfl) _ _ _) rfl ?_
      exact ⟨⟨_, rfl⟩, fall_end D8.out HFC.out FR7.out HB8.out H0.out.tg HL.out⟩
  · have hkk : kk = x.loose.length := by
      have := HK.out
      omega
    have hFS : FF = doL x.sure (x.loose.take kk) := by
      have := HFS.out
      rw [List.getElem?_eq_none (by omega)] at this
      exact this
    have HF2 := hide hFS
    clear hFS hkk
    go_upto_region 6 with fail
    have D6 : Hid (DP w3 gd { x with sure := FF } (grow T w w3) S1 (grow S2 w w3) mn (some b3) (.slice ao x.loose.length cc) vp) := by
      rw [HF2.out]
      exact D3.out.1
    have F6 : Hid (Fs w3 b3 F3 FF (grow S2 w w3)) := by
      rw [HF2.out]
      exact F3w.out
    have FR6 : Hid (Fr T w w3 ∧ ∀ g, grow T w w3 g → grow T w w3 g) := ⟨D3.out.2, fun _ h => h⟩
    have q1 := D6.out.cell 1 (by decide)
    rw [show dc mn (some b3) (.slice ao x.loose.length cc) vp x.made x.dead 1 = .map (some b3) from rfl] at q1
    have HC := hide (cloneD_any b3 F3 FF _ w3 F6.out (by have := HBD.out.n; omega) (fun k => by have := HBD.out.len k; omega))
    have D7 := hide D6.out
    have FR7 := hide FR6.out
    clear D6 FR6
    go_wp2_with (first | (go_at_call 200; refine HC.out.mono ?_; rintro e w8 ⟨b8, F8, rfl, f8, hb8⟩; have D8 := hide (D7.out.newNow f8 hb8); have r8 := World.rowIs.of_block D7.out.row (hb8.block _ (World.rowIs.lt D7.out.row)); have k0 := World.rowIs.cell r8 (i := 0) (by decide); have k2 := World.rowIs.cell r8 (i := 2) (by decide); have k5 := World.rowIs.cell r8 (i := 5) (by decide); have j0 := World.rowIs.frozen r8 0; have j2 := World.rowIs.frozen r8 2; have j5 := World.rowIs.frozen r8 5; have HB8 := hide hb8; clear f8 hb8 r8))
    refine bodyPost_end (results_none (by kernel_rfl) _ _ _) rfl ?_
    exact ⟨⟨_, rfl⟩, fall_end D8.out HFC.out FR7.out HB8.out H0.out.tg HL.out⟩
theorem crash_nil (keep torn : Int) (w : World) : Calls Tryz.prog 41 #[.pointer none, .int .i64 keep, .int .i64 torn] w fun e w' => (∃ r, e = .returned r) ∧ w' = w := by
  have HD := hide fun W => dead_nil W
  go_enter Tryz.func41, Tryz.ntmps41
  go_wp2_with (go_at_call 38; refine (HD.out _).mono ?_; rintro e w1 ⟨rfl, hw⟩; subst w1)
  refine bodyPost_end (results_none (by kernel_rfl) _ _ _) rfl ?_
  exact ⟨⟨_, rfl⟩, rfl⟩
/-- A disk behind a crash. -/
def crC (x : StD) (keep torn : Int) : StD := if x.dead then x else flC x keep torn
theorem crash_any (gd : Nat) (x : StD) (T : Nat → Prop) (keep torn : Int) (w : World) (h : DK w gd x T) (hV : Vd x) (hk1 : -9223372036854775808 ≤ keep) (hk2 : keep < 9223372036854775808) : Calls Tryz.prog 41 #[.pointer (some ⟨gd, 0, none⟩), .int .i64 keep, .int .i64 torn] w fun e w' => (∃ r, e = .returned r) ∧ DK w' gd (crC x keep torn) (grow T w w') ∧ Fr T w w' := by
  have HF := hide (fall_any gd x T keep torn w h hV hk1 hk2)
  have H0 := hide h
  obtain ⟨S1, S2, mn, ms, vo, vp, h⟩ := h
  have c5 := h.cell 5 (by decide)
  rw [show dc mn ms vo vp x.made x.dead 5 = .bool x.dead from rfl] at c5
  have HD := hide (dead_cell gd x.dead w c5)
  unfold crC
  clear h hV c5
  cases hdd : x.dead
  · rw [if_neg (by decide)]
    rw [hdd] at HD
    generalize flC x keep torn = X at *
    go_enter Tryz.func41, Tryz.ntmps41
    go_wp2_with (first | (go_at_call 38; refine HD.out.mono ?_; rintro e w1 ⟨rfl, hw⟩; subst w1) | (go_at_call 119; refine HF.out.mono ?_; rintro e w1 ⟨⟨r, rfl⟩, hd⟩; have HE := hide hd; clear hd))
    refine bodyPost_end (results_none (by kernel_rfl) _ _ _) rfl ?_
    exact ⟨⟨_, rfl⟩, HE.out⟩
  · rw [if_pos rfl]
    rw [hdd] at HD
    go_enter Tryz.func41, Tryz.ntmps41
    go_wp2_with (first | (go_at_call 38; refine HD.out.mono ?_; rintro e w1 ⟨rfl, hw⟩; subst w1))
    refine bodyPost_end (results_none (by kernel_rfl) _ _ _) rfl ?_
    exact ⟨⟨_, rfl⟩, by rw [grow_self]; exact H0.out, Fr.refl _ _⟩
end
end Go.Proofs.YtppooipamibhoaaGreatDoor
namespace Go.Proofs.YtppooipamibhoaaGreatDoor
open Go.RowKit
open Go.Deep
open Go.Lib
set_option linter.unusedVariables false
theorem fls_flat (L : List Fl) : fls L = flatE KFl L := by
  unfold fls flatE
  rw [List.flatMap_def]
  rfl
section
variable {w w' W : World} {gd b : Nat} {x : StD} {T S1 S2 : Nat → Prop} {mn ms : Option Nat} {vo vp : Value}
/-- Another plan: it is made, then its store. -/
theorem DP.newPlan (h : DP W gd x T S1 S2 mn ms vo vp) {l' : List Fl} {v' : Value} (ho : w'.ownsRow 0 114 4 v' l'.length (fls l')) (gr : W.grownBy w' vp.ownBlock) (on : ∀ g, v'.ownBlock = some g → vp.ownBlock = some g ∨ W.heap.size ≤ g) : DP (w'.setCell ⟨gd, 4, none⟩ v') gd { x with plan := l' } (grow T W w') S1 S2 mn ms vo v' ∧ Fr T W (w'.setCell ⟨gd, 4, none⟩ v') := by
  have hs := gr.size
  have hz : (w'.setCell ⟨gd, 4, none⟩ v').heap.size = w'.heap.size := by simp [World.setCell]
  have hb1 : ∀ g, T g → vp.ownBlock ≠ some g → w'.heap[g]? = W.heap[g]? := fun g ht hne => gr.block g (h.lt g ht) fun e => hne e.symm
  have hb : ∀ g, T g → vp.ownBlock ≠ some g → g ≠ gd → (w'.setCell ⟨gd, 4, none⟩ v').heap[g]? = W.heap[g]? := fun g ht hne hg => (Below.heap_setCell _ _ _ _ hg).trans (hb1 g ht hne)
  have nd : vp.ownBlock ≠ some gd := fun e => (h.p1 gd e).2.2 rfl
  have hrow := World.rowIs.set (World.rowIs.of_block h.row (hb1 gd h.tg nd)) 4 v'
  have far : ∀ g, v'.ownBlock = some g → vp.ownBlock = some g ∨ (W.heap.size ≤ g ∧ g < w'.heap.size) := fun g hg => by
    rcases on g hg with e | hge
    · exact .inl e
    · exact .inr ⟨hge, (ho.lt g hg).2⟩
  have l1 : ∀ g, v'.ownBlock = some g → ¬ S1 g ∧ ¬ S2 g ∧ g ≠ gd := fun g hg => by
    rcases far g hg with e | ⟨e, _⟩
    · exact h.p1 g e
    · refine ⟨fun c => ?_, fun c => ?_, fun c => ?_⟩
      · have := h.lt g (h.t1 g c)
        omega
      · have := h.lt g (h.t2 g c)
        omega
      · have := h.lt gd h.tg
        omega
  have hvp : ∀ g, vo.ownBlock = some g → vp.ownBlock ≠ some g := fun g hg' e' => by
    have hg : vp.ownBlock = some g := e'
    have e : vo.ownBlock = some g := hg'
    rcases h.plan.2 with ⟨rfl, _⟩ | ⟨g1, cap, cur, rfl, _, hg1, _⟩
    · cases hg
    · rcases h.loose.2 with ⟨rfl, _⟩ | ⟨g2, cap2, cur2, rfl, _, hg2, _⟩
      · cases e
      · cases hg
        cases e
        rw [hg1] at hg2
        injection hg2 with hg2
        injection hg2 with _ e2
        exact absurd e2 (by decide)
  refine ⟨⟨hrow.congr fun i hi => ?_, h.now.frame (by omega) fun g hg => hb g (h.t1 g hg) (fun e => (h.p1 g e).1 hg) fun e => h.d1 (e ▸ hg), h.sure.frame (by omega) fun g hg => hb g (h.t2 g hg) (fun e => (h.p1 g e).2.1 hg) fun e => h.d2 (e ▸ hg), rowsOf h.loose fun g hg => hb g (h.tl g hg) (hvp g hg) (h.l1 g hg).2.2, rowsOf ho fun g hg => Below.heap_setCell _ _ _ _ (l1 g hg).2.2, .inl h.tg, fun g hg => .inl (h.t1 g hg), fun g hg => .inl (h.t2 g hg), fun g hg => .inl (h.tl g hg), fun g hg => ?_, h.apart, h.d1, h.d2, h.l1, l1, fun g hg => by rw [hz]; exact grow_lt h.lt hs g hg⟩, ?_⟩
  · have : i = 0 ∨ i = 1 ∨ i = 2 ∨ i = 3 ∨ i = 4 ∨ i = 5 := by omega
    rcases this with rfl | rfl | rfl | rfl | rfl | rfl <;> rfl
  · rcases far g hg with e | e
    · exact .inl (h.tp g e)
    · exact .inr e
  · exact (Fr.of_grown gr h.tp).trans' (Fr.setCell _ h.tg _)
end
end Go.Proofs.YtppooipamibhoaaGreatDoor
