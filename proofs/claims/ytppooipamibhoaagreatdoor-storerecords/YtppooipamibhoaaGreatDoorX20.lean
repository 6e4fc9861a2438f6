/- Disks: the calls that make a change, whatever the plan is. Disks: Sync, whatever the plan is; the errors of Remove, Cut and Move; Plan, Changes. Disks: slices.Clone of falls and of changes; Plan, Changes, Part; the errors of Move. -/
import Derived.Test.YtppooipamibhoaaGreatDoorX19
import Derived.Test.YtppooipamibhoaaGreatDoorX16
namespace Go.Proofs.YtppooipamibhoaaGreatDoor
open Go.RowKit
open Go.Deep
open Go.Lib
set_option linter.unusedVariables false
section
set_option maxRecDepth 10000
set_option maxHeartbeats 4000000
theorem write_do (gd : Nat) (x : StD) (T : Nat → Prop) (nm : ByteArray) (k : Nat) (s : ByteArray) (w : World) (h : DK w gd x T) (hV : Vd x) (hp : okP x.plan) (hr : rdy x.dead [nm] = 0) (hk : k ≤ (x.now.at (lsD nm)).length) (hs : k + s.size ≤ 16777216) (hroom : (x.now.get (lsD nm)).isSome = true ∨ x.now.n < 64) (hmany : x.loose.length < 10000) (hmade : x.made < 1000000) : Calls Tryz.prog 194 #[.pointer (some ⟨gd, 0, none⟩), .string nm, .int .i64 (k : Int), .string s] w fun e w' => e = .returned (.int .i64 (stE x false)) ∧ DK w' gd (doS x (wrC nm k s)) (grow T w w') ∧ Fr T w w' := by
  have hB : Below w.heap.size w (w.alloc (.cells #[.string nm] 9)) := (Below.refl _ _).alloc (Nat.le_refl _) _
  have hbd : BdD x.now := by rw [hV.now]; exact hV.ok.end_
  obtain ⟨hdead, hname⟩ := rdy_ok hr
  have hm : nm.size ≤ maxLen := by
    have := (name_len hname).2
    have e : (lsD nm).length = nm.size := by simp
    unfold maxLen
    omega
  have HDo : Hid (Calls Tryz.prog 212 #[.pointer (some ⟨gd, 0, none⟩), .agg #[.int .i64 0, .string nm, .string ⟨#[]⟩, .int .i64 (k : Int), .string s]] (w.alloc (.cells #[.string nm] 9)) fun e w' => e = .returned (.int .i64 (stE x false)) ∧ DK w' gd (doS x (wrC nm k s)) (grow T (w.alloc (.cells #[.string nm] 9)) w') ∧ Fr T (w.alloc (.cells #[.string nm] 9)) w') :=
    do_all gd x T (wrC nm k s) _ (h.below hB) hV hp (wr_ok hbd hname hk hs hroom) hmany hmade
  have HL := hide h.lt
  obtain ⟨S1, S2, mn, ms, vo, vp, h⟩ := h
  have h1 := h.below hB
  have c5 := h1.cell 5 (by decide)
  have c0 := h1.cell 0 (by decide)
  rw [show dc mn ms vo vp x.made x.dead 5 = .bool x.dead from rfl] at c5
  rw [show dc mn ms vo vp x.made x.dead 0 = .map mn from rfl] at c0
  have HR := hide (ready_any gd x.dead w.heap.size 1 [nm] _ c5 (one_name w nm hm) (by simp))
  rw [show [nm].length = 1 from rfl, hr] at HR
  obtain ⟨v, hl1, hl2, ov⟩ := h1.now.look hm
  have hlen := h1.now.len
  obtain ⟨ao, n, c, rfl, hn⟩ := ov.form
  have hkn : (k : Int) ≤ n := by
    rw [hn.out]
    omega
  have hk0 : ¬ (k : Int) < 0 := by omega
  have hkn' : ¬ (n : Int) < (k : Int) := by omega
  have e1 : wrap64 (16777216 - (k : Int)) = 16777216 - k := by unfold wrap64; omega
  have hs' : ¬ 16777216 - (k : Int) < (s.size : Int) := by omega
  have HB := hide hB
  clear h h1 hm hB ov hl1 c5 hn hbd hV hp hk hdead hname hr hs hmany hmade
  cases hth : (x.now.get (lsD nm)).isSome
  · rw [hth] at hl2
    have n1 : ¬ (64 : Int) ≤ x.now.n := by
      rcases hroom with e | e
      · rw [hth] at e
        cases e
      · omega
    clear hroom hth
    go_enter Tryz.func194, Tryz.ntmps194
    go_wp2_with (first | (go_at_call 266; refine HR.out.mono ?_; rintro e w1 ⟨rfl, hw⟩; subst w1) | (go_at_call 212; refine HDo.out.mono ?_; rintro e w1 ⟨rfl, hd, hf⟩; have HF := hide (dk_grow HB.out HL.out hd hf); clear hd hf))
    go_ret
    exact ⟨rfl, HF.out⟩
  · rw [hth] at hl2
    clear hroom hth
    go_enter Tryz.func194, Tryz.ntmps194
    go_wp2_with (first | (go_at_call 266; refine HR.out.mono ?_; rintro e w1 ⟨rfl, hw⟩; subst w1) | (go_at_call 212; refine HDo.out.mono ?_; rintro e w1 ⟨rfl, hd, hf⟩; have HF := hide (dk_grow HB.out HL.out hd hf); clear hd hf))
    go_ret
    exact ⟨rfl, HF.out⟩
theorem append_do (gd : Nat) (x : StD) (T : Nat → Prop) (nm s : ByteArray) (w : World) (h : DK w gd x T) (hV : Vd x) (hp : okP x.plan) (hr : rdy x.dead [nm] = 0) (hs : (x.now.at (lsD nm)).length + s.size ≤ 16777216) (hroom : (x.now.get (lsD nm)).isSome = true ∨ x.now.n < 64) (hmany : x.loose.length < 10000) (hmade : x.made < 1000000) : Calls Tryz.prog 111 #[.pointer (some ⟨gd, 0, none⟩), .string nm, .string s] w fun e w' => e = .returned (.int .i64 (stE x false)) ∧ DK w' gd (doS x (wrC nm (x.now.at (lsD nm)).length s)) (grow T w w') ∧ Fr T w w' := by
  have HW := hide (write_do gd x T nm _ s w h hV hp hr (Nat.le_refl _) hs hroom hmany hmade)
  obtain ⟨S1, S2, mn, ms, vo, vp, h⟩ := h
  obtain ⟨hdead, hname⟩ := rdy_ok hr
  have hm : nm.size ≤ maxLen := by
    have := (name_len hname).2
    have e : (lsD nm).length = nm.size := by simp
    unfold maxLen
    omega
  have c5 := h.cell 5 (by decide)
  have c0 := h.cell 0 (by decide)
  rw [show dc mn ms vo vp x.made x.dead 5 = .bool x.dead from rfl, hdead] at c5
  rw [show dc mn ms vo vp x.made x.dead 0 = .map mn from rfl] at c0
  have HD := hide (dead_cell gd false w c5)
  obtain ⟨v, hl1, hl2, ov⟩ := h.now.look hm
  obtain ⟨ao, n, c, rfl, hn⟩ := ov.form
  rw [← hn.out] at HW ⊢
  clear h hV hp hr hs hroom hmany hmade hdead hname hm hl2 ov hn c5
  go_enter Tryz.func111, Tryz.ntmps111
  go_wp2_with (first | (go_at_call 38; refine HD.out.mono ?_; rintro e w1 ⟨rfl, hw⟩; subst w1) | (go_at_call 194; refine HW.out.mono ?_; rintro e w1 ⟨rfl, hd⟩; have HF := hide hd; clear hd))
  go_ret
  exact ⟨rfl, HF.out⟩
theorem remove_do (gd : Nat) (x : StD) (T : Nat → Prop) (nm : ByteArray) (w : World) (h : DK w gd x T) (hV : Vd x) (hp : okP x.plan) (hf : fnd x nm = 0) (hn : isName (lsD nm) = true) (hmany : x.loose.length < 10000) (hmade : x.made < 1000000) : Calls Tryz.prog 134 #[.pointer (some ⟨gd, 0, none⟩), .string nm] w fun e w' => e = .returned (.int .i64 (stE x false)) ∧ DK w' gd (doS x (rmC nm)) (grow T w w') ∧ Fr T w w' := by
  have hm : nm.size ≤ maxLen := by
    have := (name_len hn).2
    have e : (lsD nm).length = nm.size := by simp
    unfold maxLen
    omega
  have HF := hide (find_any gd x T nm w h hm)
  rw [hf] at HF
  have HDo : Hid (∀ W, Below w.heap.size w W → Calls Tryz.prog 212 #[.pointer (some ⟨gd, 0, none⟩), .agg #[.int .i64 3, .string nm, .string ⟨#[]⟩, .int .i64 0, .string ⟨#[]⟩]] W fun e w' => e = .returned (.int .i64 (stE x false)) ∧ DK w' gd (doS x (rmC nm)) (grow T W w') ∧ Fr T W w') := fun W hb => do_all gd x T (rmC nm) W (h.below hb) hV hp (rm_ok hV.bd hn) hmany hmade
  have HL := hide h.lt
  clear h hV hp hf hn hmany hmade hm
  go_enter Tryz.func134, Tryz.ntmps134
  go_wp2_with (first | (go_at_call 196; refine HF.out.mono ?_; rintro e w1 ⟨⟨v, rfl, o⟩, hb⟩; have HB := hide hb; clear hb o) | (go_at_call 212; refine (HDo.out _ HB.out).mono ?_; rintro e w2 ⟨rfl, hd, hf⟩; have HE := hide (dk_grow HB.out HL.out hd hf); clear hd hf))
  go_ret
  exact ⟨rfl, HE.out⟩
end
def ctC (nm : ByteArray) (k : Nat) : Ch := ⟨1, nm, ⟨#[]⟩, k, ⟨#[]⟩⟩
def mvC (a b : ByteArray) : Ch := ⟨2, a, b, 0, ⟨#[]⟩⟩
theorem fnd_some {x : StD} {nm : ByteArray} (h : fnd x nm = 0) : (x.now.get (lsD nm)).isSome = true ∧ rdy x.dead [nm] = 0 := by
  unfold fnd at h
  split at h
  · rename_i hr
    split at h
    · rename_i hi
      exact ⟨hi, hr⟩
    · cases h
  · rename_i hr
    exact absurd h hr
theorem ct_ok {f : FS} {nm : ByteArray} {k : Nat} (hb : BdD f) (hn : isName (lsD nm) = true) (hk : k ≤ (f.at (lsD nm)).length) (hr : (f.get (lsD nm)).isSome = true) : okD f (ctC nm k) := by
  have h32 := (name_len hn).2
  have hsz : nm.size ≤ 32 := by simpa using h32
  refine ⟨by simp [ctC], hsz, (by show ByteArray.size ⟨#[]⟩ ≤ 32; decide), fun _ => hk, (by show ByteArray.size ⟨#[]⟩ ≤ 16777216; decide), hb, ⟨?_, fun x => ?_⟩⟩
  · show (if (f.get (lsD nm)).isSome then f.n else f.n + 1) ≤ 64
    rw [if_pos hr]
    exact hb.n
  · show ((f.put (lsD nm) ((f.at (lsD nm)).take k)).at x).length ≤ 16777216
    rw [at_put]
    split
    · rw [List.length_take]
      have := hb.len (lsD nm)
      omega
    · exact hb.len x
theorem mv_ok {f : FS} {a b : ByteArray} (hb : BdD f) (ha : isName (lsD a) = true) (hn : isName (lsD b) = true) (hr : (f.get (lsD a)).isSome = true) (h1 : 1 ≤ f.n) : okD f (mvC a b) := by
  have h32 := (name_len ha).2
  have hsz : a.size ≤ 32 := by simpa using h32
  have h33 := (name_len hn).2
  have hsy : b.size ≤ 32 := by simpa using h33
  refine ⟨by simp [mvC], hsz, hsy, fun h => absurd h (by simp [mvC]), (by show ByteArray.size ⟨#[]⟩ ≤ 16777216; decide), hb, ⟨?_, fun x => ?_⟩⟩
  · have h2 : (f.del (lsD a)).n = f.n - 1 := by
      show (if (f.get (lsD a)).isSome then f.n - 1 else f.n) = _
      rw [if_pos hr]
    have h3 := hb.n
    show (if ((f.del (lsD a)).get (lsD b)).isSome then (f.del (lsD a)).n else (f.del (lsD a)).n + 1) ≤ 64
    rw [h2]
    split <;> omega
  · show (((f.del (lsD a)).put (lsD b) (f.at (lsD a))).at x).length ≤ 16777216
    rw [at_put, at_del]
    split
    · exact hb.len _
    · split
      · simp
      · exact hb.len x
section
set_option maxRecDepth 10000
set_option maxHeartbeats 4000000
theorem cut_do (gd : Nat) (x : StD) (T : Nat → Prop) (nm : ByteArray) (k : Nat) (w : World) (h : DK w gd x T) (hV : Vd x) (hp : okP x.plan) (hf : fnd x nm = 0) (hn : isName (lsD nm) = true) (hk : k ≤ (x.now.at (lsD nm)).length) (hmany : x.loose.length < 10000) (hmade : x.made < 1000000) : Calls Tryz.prog 192 #[.pointer (some ⟨gd, 0, none⟩), .string nm, .int .i64 (k : Int)] w fun e w' => e = .returned (.int .i64 (stE x false)) ∧ DK w' gd (doS x (ctC nm k)) (grow T w w') ∧ Fr T w w' := by
  have hm : nm.size ≤ maxLen := by
    have := (name_len hn).2
    have e : (lsD nm).length = nm.size := by simp
    unfold maxLen
    omega
  have HF := hide (find_any gd x T nm w h hm)
  rw [hf] at HF
  rw [if_pos rfl] at HF
  have HDo : Hid (∀ W, Below w.heap.size w W → Calls Tryz.prog 212 #[.pointer (some ⟨gd, 0, none⟩), .agg #[.int .i64 1, .string nm, .string ⟨#[]⟩, .int .i64 (k : Int), .string ⟨#[]⟩]] W fun e w' => e = .returned (.int .i64 (stE x false)) ∧ DK w' gd (doS x (ctC nm k)) (grow T W w') ∧ Fr T W w') := fun W hb => do_all gd x T (ctC nm k) W (h.below hb) hV hp (ct_ok hV.bd hn hk (fnd_some hf).1) hmany hmade
  have HL := hide h.lt
  have k0 : (0 : Int) ≤ (k : Int) := by omega
  have k1 : ¬ ((x.now.at (lsD nm)).length : Int) < (k : Int) := by omega
  have HK := hide k1
  clear h hV hp hf hn hmany hmade hm hk k1
  go_enter Tryz.func192, Tryz.ntmps192
  go_wp2_with (first | (go_at_call 196; refine HF.out.mono ?_; rintro e w1 ⟨⟨v, rfl, o⟩, hb⟩; have HB := hide hb; obtain ⟨ao, n, c, rfl, hn⟩ := o.form; have k2 : ¬ (n : Int) < (k : Int) := (by rw [hn.out]; exact HK.out); clear hb o hn) | (go_at_call 212; refine (HDo.out _ HB.out).mono ?_; rintro e w2 ⟨rfl, hd, hf⟩; have HE := hide (dk_grow HB.out HL.out hd hf); clear hd hf))
  go_ret
  exact ⟨rfl, HE.out⟩
theorem two_names (w : World) (a b : ByteArray) (ha : a.size ≤ maxLen) (hb : b.size ≤ maxLen) : NmAt (w.alloc (.cells #[.string a, .string b] 9)) w.heap.size [a, b] := fun i s hs => by
  rcases i with _ | _ | i
  · simp at hs
    subst hs
    exact ⟨by rw [cell_of_row _ _ _ _ _ _ (heap_alloc_last w _)]; rfl, ha⟩
  · simp at hs
    subst hs
    exact ⟨by rw [cell_of_row _ _ _ _ _ _ (heap_alloc_last w _)]; rfl, hb⟩
  · simp at hs
theorem loose_any (gd : Nat) (x : StD) (T : Nat → Prop) (w : World) (h : DK w gd x T) : Calls Tryz.prog 106 #[.pointer (some ⟨gd, 0, none⟩)] w fun e w' => e = .returned (.int .i64 (x.loose.length : Int)) ∧ w' = w := by
  obtain ⟨S1, S2, mn, ms, vo, vp, h⟩ := h
  have c2 := h.cell 2 (by decide)
  obtain ⟨ao, c, rfl⟩ := loose_form h.loose
  rw [show dc mn ms (.slice ao x.loose.length c) vp x.made x.dead 2 = .slice ao x.loose.length c from rfl] at c2
  clear h
  go_enter Tryz.func106, Tryz.ntmps106
  go_wp2
  go_ret
  exact ⟨rfl, rfl⟩
end
end Go.Proofs.YtppooipamibhoaaGreatDoor
namespace Go.Proofs.YtppooipamibhoaaGreatDoor
open Go.RowKit
open Go.Deep
open Go.Lib
set_option linter.unusedVariables false
section
set_option maxRecDepth 10000
set_option maxHeartbeats 4000000
theorem sync_no (gd : Nat) (x : StD) (T : Nat → Prop) (w : World) (h : DK w gd x T) (hV : Vd x) (hp : fstF x.made true x.plan = -1) (hpl : x.plan.length ≤ 4611686018427387904) (hdd : x.dead = false) : Calls Tryz.prog 118 #[.pointer (some ⟨gd, 0, none⟩)] w fun e w' => e = .returned (.int .i64 0) ∧ DK w' gd (syC x) (grow T w w') ∧ Fr T w w' := by
  have HS := hide (strikes_no gd x T true w h hp hpl)
  have HL := hide h.lt
  obtain ⟨S1, S2, mn, ms, vo, vp, h⟩ := h
  have c5 := h.cell 5 (by decide)
  rw [show dc mn ms vo vp x.made x.dead 5 = .bool x.dead from rfl, hdd] at c5
  have HD := hide (dead_cell gd false w c5)
  have H0 := hide h
  have HV := hide hV
  obtain ⟨ao, cc, rfl⟩ := loose_form h.loose
  clear h hV hp hpl c5
  go_enter Tryz.func118, Tryz.ntmps118
  go_upto_region 3 with (first | (go_at_call 38; refine HD.out.mono ?_; rintro e w1 ⟨rfl, hw⟩; subst w1) | (go_at_call 197; refine HS.out.mono ?_; rintro e w1 ⟨rfl, hb1⟩; have B1 := hide hb1; clear hb1))
  have D1 := hide (H0.out.below B1.out)
  have x2 := D1.out.cell 2 (by decide)
  rw [show dc mn ms (.slice ao x.loose.length cc) vp x.made x.dead 2 = .slice ao x.loose.length cc from rfl] at x2
  have X2 := hide x2
  have LL := LC.of_rows D1.out.loose x.loose.length (Nat.le_refl _)
  rw [cutv_all D1.out.loose, List.take_length] at LL
  have D1d := hide (D1.out.below (Below.refl w1.heap.size w1).drew)
  have HP := hide (play_any gd 1 6 233 _ (by decide) ms x.sure S2 _ _ x.loose w1.drew D1d.out.row rfl D1d.out.sure D1d.out.d2 (LL.of_block rfl) (fun h0 => by
    have hb := loose_blk D1d.out.loose h0
    exact ⟨D1d.out.lt _ (D1d.out.tl _ hb), (D1d.out.l1 _ hb).2.1, (D1d.out.l1 _ hb).2.2⟩) HV.out.ok.okL (by have := HV.out.many; omega))
  clear LL x2
  refine wp_region_held_drew (S := fun W => W.cell? ⟨gd, 2, none⟩ = some (.slice ao x.loose.length cc)) (by kernel_rfl) X2.out (fun hH => ?_)
  refine wpAnyH_take (i := 0) (v := .pointer (some ⟨gd, 0, none⟩)) rfl (by kernel_rfl) (by kernel_rfl) (by kernel_rfl) (fun _ _ _ h => h) (ylD_move (by rfl) _ (by rfl) _ (by rfl)) hH ?_
  change wpAnyH _ _ _ _ _ _ _ (Act.put _ (some 9) _) _
  simp only [Act.put, List.setIfInBounds_toArray, List.set_cons_zero, List.set_cons_succ]
  refine wpAnyH_take (i := 1) (v := .pointer (some ⟨gd, 0, none⟩)) rfl (by kernel_rfl) (by kernel_rfl) (by kernel_rfl) (fun _ _ _ h => h) (.inl ⟨by rfl, fun W _ => by go_simp⟩) hH ?_
  change wpAnyH _ _ _ _ _ _ _ (Act.put _ (some 10) _) _
  simp only [Act.put, List.setIfInBounds_toArray, List.set_cons_zero, List.set_cons_succ]
  refine wpAnyH_take (i := 2) (v := .pointer (some ⟨gd, 1, none⟩)) rfl (by kernel_rfl) (by kernel_rfl) (by kernel_rfl) (fun _ _ _ h => h) (.inl ⟨by rfl, fun W _ => by go_simp⟩) hH ?_
  change wpAnyH _ _ _ _ _ _ _ (Act.put _ (some 11) _) _
  simp only [Act.put, List.setIfInBounds_toArray, List.set_cons_zero, List.set_cons_succ]
  refine wpAnyH_take (i := 3) (v := .pointer (some ⟨gd, 0, none⟩)) rfl (by kernel_rfl) (by kernel_rfl) (by kernel_rfl) (fun _ _ _ h => h) (ylD_move (by rfl) _ (by rfl) _ (by rfl)) hH ?_
  change wpAnyH _ _ _ _ _ _ _ (Act.put _ (some 12) _) _
  simp only [Act.put, List.setIfInBounds_toArray, List.set_cons_zero, List.set_cons_succ]
  refine wpAnyH_take (i := 4) (v := .pointer (some ⟨gd, 0, none⟩)) rfl (by kernel_rfl) (by kernel_rfl) (by kernel_rfl) (fun _ _ _ h => h) (.inl ⟨by rfl, fun W _ => by go_simp⟩) hH ?_
  change wpAnyH _ _ _ _ _ _ _ (Act.put _ (some 13) _) _
  simp only [Act.put, List.setIfInBounds_toArray, List.set_cons_zero, List.set_cons_succ]
  refine wpAnyH_take (i := 5) (v := .pointer (some ⟨gd, 2, none⟩)) rfl (by kernel_rfl) (by kernel_rfl) (by kernel_rfl) (fun _ _ _ h => h) (.inl ⟨by rfl, fun W _ => by go_simp⟩) hH ?_
  change wpAnyH _ _ _ _ _ _ _ (Act.put _ (some 14) _) _
  simp only [Act.put, List.setIfInBounds_toArray, List.set_cons_zero, List.set_cons_succ]
  refine wpAnyH_take (i := 6) (v := .slice ao x.loose.length cc) rfl (by kernel_rfl) (by kernel_rfl) (by kernel_rfl) (fun _ _ _ h => h) (.inl ⟨by rfl, fun W hS => by have c4 := hS; go_simp⟩) hH ?_
  change wpAnyH _ _ _ _ _ _ _ (Act.put _ (some 15) _) _
  simp only [Act.put, List.setIfInBounds_toArray, List.set_cons_zero, List.set_cons_succ]
  refine wpAnyH_ready (rs := [7]) (by kernel_rfl) (by simp) (AllReadyH.cons rfl (fun K1 hK1 => ?_) AllReadyH.nil)
  go_simp
  refine HP.out.mono ?_
  rintro e w3 ⟨⟨r, rfl⟩, b3, F3, f3, row3, fr3⟩
  have P3 := hide (D1d.out.played1 f3 row3 fr3)
  have y2 := P3.out.1.cell 2 (by decide)
  rw [show dc mn (some b3) (.slice ao x.loose.length cc) vp x.made x.dead 2 = .slice ao x.loose.length cc from rfl] at y2
  have z2 := World.rowIs.frozen P3.out.1.row 2
  have FIN : Hid (DK (w3.setCell ⟨gd, 2, none⟩ (.slice none 0 0)) gd (syC x) (grow T w (w3.setCell ⟨gd, 2, none⟩ (.slice none 0 0))) ∧ Fr T w (w3.setCell ⟨gd, 2, none⟩ (.slice none 0 0))) := by
    have hsz : (w3.setCell ⟨gd, 2, none⟩ (.slice none 0 0)).heap.size = w3.heap.size := by simp [World.setCell]
    have hb1 : Below w.heap.size w w1.drew := B1.out.drew
    have fr := ((Fr.of_below (S := T) hb1).trans' P3.out.2).trans' (Fr.setCell w3 (p := ⟨gd, 2, none⟩) H0.out.tg (.slice none 0 0))
    refine ⟨⟨_, _, _, _, _, _, P3.out.1.noLoose.wide (fun g hg => ?_) (grow_lt HL.out fr.size)⟩, fr⟩
    rcases hg with e | ⟨e1, e2⟩
    · exact .inl e
    · exact .inr ⟨Nat.le_trans hb1.size e1, by rw [hsz]; exact e2⟩
  clear f3 row3 fr3
  refine hK1.out _ _ y2 (fun hH => ?_)
  clear hK1 P3 HP D1d D1 X2
  refine wpAnyH_done (by kernel_rfl) ?_ _
  go_wp2
  go_ret
  exact ⟨rfl, FIN.out⟩
theorem sync_yes (gd : Nat) (x : StD) (T : Nat → Prop) (w : World) (h : DK w gd x T) (hV : Vd x) (hdd : x.dead = false) (i : Nat) (f : Fl) (hf : x.plan[i]? = some f) (hn : fstF x.made true x.plan = (i : Int)) (hl : x.plan.length ≤ 4611686018427387904) (hk1 : -9223372036854775808 ≤ f.keep) (hk2 : f.keep < 9223372036854775808) : Calls Tryz.prog 118 #[.pointer (some ⟨gd, 0, none⟩)] w fun e w' => e = .returned (.int .i64 7) ∧ DK w' gd (flC { x with plan := x.plan.eraseIdx i } f.keep f.torn) (grow T w w') ∧ Fr T w w' := by
  have HS := hide (strikes_yes gd x T true w h hV i f hf hn hl hk1 hk2)
  obtain ⟨S1, S2, mn, ms, vo, vp, h⟩ := h
  have c5 := h.cell 5 (by decide)
  rw [show dc mn ms vo vp x.made x.dead 5 = .bool x.dead from rfl, hdd] at c5
  have HD := hide (dead_cell gd false w c5)
  clear h hV hf hn hl hk1 hk2 c5
  go_enter Tryz.func118, Tryz.ntmps118
  go_wp2_with (first | (go_at_call 38; refine HD.out.mono ?_; rintro e w1 ⟨rfl, hw⟩; subst w1) | (go_at_call 197; refine HS.out.mono ?_; rintro e w1 ⟨rfl, hd, hf⟩; have HF := hide (And.intro hd hf); clear hd hf))
  go_ret
  exact ⟨rfl, HF.out⟩
theorem sync_dead (gd : Nat) (x : StD) (T : Nat → Prop) (w : World) (h : DK w gd x T) (hdd : x.dead = true) : Calls Tryz.prog 118 #[.pointer (some ⟨gd, 0, none⟩)] w fun e w' => e = .returned (.int .i64 7) ∧ w' = w := by
  obtain ⟨S1, S2, mn, ms, vo, vp, h⟩ := h
  have c5 := h.cell 5 (by decide)
  rw [show dc mn ms vo vp x.made x.dead 5 = .bool x.dead from rfl, hdd] at c5
  have HD := hide (dead_cell gd true w c5)
  clear h c5
  go_enter Tryz.func118, Tryz.ntmps118
  go_wp2_with (go_at_call 38; refine HD.out.mono ?_; rintro e w1 ⟨rfl, hw⟩; subst w1)
  go_ret
  exact ⟨rfl, rfl⟩
end
/-- A disk behind a Sync, and what it answers. -/
def snS (x : StD) : StD := if x.dead then x else match stS x true with | some y => y | none => syC x
def snE (x : StD) : Int := if x.dead then 7 else stE x true
theorem sync_all (gd : Nat) (x : StD) (T : Nat → Prop) (w : World) (h : DK w gd x T) (hV : Vd x) (hP : okP x.plan) : Calls Tryz.prog 118 #[.pointer (some ⟨gd, 0, none⟩)] w fun e w' => e = .returned (.int .i64 (snE x)) ∧ DK w' gd (snS x) (grow T w w') ∧ Fr T w w' := by
  unfold snE snS stE
  cases hd : x.dead
  · rcases st_cases x true hP with ⟨h1, h2⟩ | ⟨i, f, hf, hn, hs, k1, k2⟩
    · rw [h2]
      exact sync_no gd x T w h hV h1 hP.len hd
    · rw [hs]
      exact sync_yes gd x T w h hV hd i f hf hn hP.len k1 k2
  · refine (sync_dead gd x T w h hd).mono ?_
    rintro e w' ⟨rfl, rfl⟩
    refine ⟨rfl, ?_, Fr.refl _ _⟩
    rw [grow_self]
    exact h
section
set_option maxRecDepth 10000
set_option maxHeartbeats 4000000
theorem remove_err (gd : Nat) (x : StD) (T : Nat → Prop) (nm : ByteArray) (w : World) (h : DK w gd x T) (hm : nm.size ≤ maxLen) (hf : fnd x nm ≠ 0) : Calls Tryz.prog 134 #[.pointer (some ⟨gd, 0, none⟩), .string nm] w fun e w' => e = .returned (.int .i64 (fnd x nm)) ∧ Below w.heap.size w w' := by
  have HF := hide (find_any gd x T nm w h hm)
  have hf2 : (fnd x nm != 0) = true := by simpa using hf
  have hf3 : decide (fnd x nm = 0) = false := by simpa using hf
  have hf4 : (fnd x nm == 0) = false := by simpa using hf
  clear h hm
  generalize fnd x nm = E at *
  go_enter Tryz.func134, Tryz.ntmps134
  go_wp2_with (go_at_call 196; refine HF.out.mono ?_; rintro e w1 ⟨⟨v, rfl, o⟩, hb⟩; have HB := hide hb; clear hb o)
  go_ret
  exact ⟨rfl, HB.out⟩
theorem cut_find (gd : Nat) (x : StD) (T : Nat → Prop) (nm : ByteArray) (k : Int) (w : World) (h : DK w gd x T) (hm : nm.size ≤ maxLen) (hf : fnd x nm ≠ 0) : Calls Tryz.prog 192 #[.pointer (some ⟨gd, 0, none⟩), .string nm, .int .i64 k] w fun e w' => e = .returned (.int .i64 (fnd x nm)) ∧ Below w.heap.size w w' := by
  have HF := hide (find_any gd x T nm w h hm)
  have hf2 : (fnd x nm != 0) = true := by simpa using hf
  have hf3 : decide (fnd x nm = 0) = false := by simpa using hf
  have hf4 : (fnd x nm == 0) = false := by simpa using hf
  clear h hm
  generalize fnd x nm = E at *
  go_enter Tryz.func192, Tryz.ntmps192
  go_wp2_with (go_at_call 196; refine HF.out.mono ?_; rintro e w1 ⟨⟨v, rfl, o⟩, hb⟩; have HB := hide hb; clear hb; obtain ⟨ao, n, c, rfl, hn⟩ := o.form; clear o hn)
  go_ret
  exact ⟨rfl, HB.out⟩
theorem cut_far (gd : Nat) (x : StD) (T : Nat → Prop) (nm : ByteArray) (k : Int) (w : World) (h : DK w gd x T) (hm : nm.size ≤ maxLen) (hf : fnd x nm = 0) (hk : k < 0 ∨ ((x.now.at (lsD nm)).length : Int) < k) : Calls Tryz.prog 192 #[.pointer (some ⟨gd, 0, none⟩), .string nm, .int .i64 k] w fun e w' => e = .returned (.int .i64 1) ∧ Below w.heap.size w w' := by
  have HF := hide (find_any gd x T nm w h hm)
  rw [hf] at HF
  rw [if_pos rfl] at HF
  have HK := hide hk
  clear h hm hf hk
  by_cases h0 : k < 0
  · go_enter Tryz.func192, Tryz.ntmps192
    go_wp2_with (go_at_call 196; refine HF.out.mono ?_; rintro e w1 ⟨⟨v, rfl, o⟩, hb⟩; have HB := hide hb; clear hb; obtain ⟨ao, n, c, rfl, hn⟩ := o.form; clear o hn)
    go_ret
    exact ⟨rfl, HB.out⟩
  · have KL : Hid (∀ n : Nat, n = (x.now.at (lsD nm)).length → (n : Int) < k) := fun n e => by
      rcases HK.out with h | h
      · exact absurd h h0
      · rw [e]
        exact h
    go_enter Tryz.func192, Tryz.ntmps192
    go_wp2_with (go_at_call 196; refine HF.out.mono ?_; rintro e w1 ⟨⟨v, rfl, o⟩, hb⟩; have HB := hide hb; clear hb; obtain ⟨ao, n, c, rfl, hn⟩ := o.form; have hnk := KL.out n hn.out; clear o hn)
    go_ret
    exact ⟨rfl, HB.out⟩
end
end Go.Proofs.YtppooipamibhoaaGreatDoor
namespace Go.Proofs.YtppooipamibhoaaGreatDoor
open Go.RowKit
open Go.Deep
open Go.Lib
set_option linter.unusedVariables false
/-- Changes as a list. -/
def KCh : Ek Ch := ⟨231, 327, 5, 64, fun c => (chv c).toList, by decide, by decide, Tryz.underlying231, by kernel_rfl, fun _ => rfl, fun x v hv => by
  have := Array.all_eq_true_iff_forall_mem.1 (chv_one x) v (by simpa using hv)
  exact this⟩
theorem chs_flat (L : List Ch) : chs L = flatE KCh L := by
  unfold chs flatE
  rw [List.flatMap_def]
  rfl
section
variable {α : Type} {E : Ek α} {w : World}
theorem LX.news {ad : Addr} {n c : Nat} {L : List α} (h : LX E w (.slice (some ad) n c) L) : ∀ j u, (flatE E L)[j]? = some u → w.cell? (ad.add j) = some u := by
  intro j u hu
  have hj := (List.getElem?_eq_some_iff.1 hu).1
  rw [flatE_len] at hj
  have hk := E.kpos
  have hi : j / E.k < L.length := Nat.div_lt_of_lt_mul (by rw [Nat.mul_comm]; exact hj)
  have hr : j % E.k < E.k := Nat.mod_lt _ hk
  have e1 := flatE_at E L (j / E.k) hi (j % E.k) hr
  rw [show j / E.k * E.k + j % E.k = j by rw [Nat.mul_comm]; exact Nat.div_add_mod j E.k] at e1
  obtain ⟨g, off, e⟩ := h.base (Nat.lt_of_le_of_lt (Nat.zero_le _) hi)
  cases e
  have := h.range (j / E.k) hi (j % E.k) u (by rw [← e1]; exact hu)
  rw [show off + j / E.k * E.k + j % E.k = off + j by rw [Nat.add_assoc, Nat.mul_comm, Nat.div_add_mod]] at this
  have hadd : (⟨g, off, none⟩ : Addr).add j = ⟨g, off + j, none⟩ := by unfold Addr.add; split <;> simp_all
  rw [hadd]
  exact this
end
section
variable {α : Type} {w : World} {ops : Array Oper} {rest : List Oper} {o : Oper} {a : Act} {Q : Exit → Act → World → Prop}
theorem Ek.wpApp (E : Ek α) (hgd : o.guard = none) (x y : Operand)
    (ho : o.op = .call { callee := .builtin .append, args := #[x, y], argTypes := #[E.t, E.t] })
    (v : Value) (L : List α) (hx : a.eval x = v) (hown : OX E w v L)
    (ad : Addr) (n c : Nat) (N : List α) (hn : n = N.length) (hy : a.eval y = .slice (some ad) n c) (hnews : ∀ j u, (flatE E N)[j]? = some u → w.cell? (ad.add j) = some u) (hsm : (L.length + n) * E.b ≤ 140737488355328) (h63 : L.length + n ≤ maxLen)
    (h : ∀ v' w', OX E w' v' (L ++ N) → Onto w w' v v' → wpList Tryz.prog ops Q rest (a.put o.dst v') w') :
    wpList Tryz.prog ops Q (o :: rest) a w := by
  refine wpList_plain hgd fun K hK => ?_
  obtain ⟨v', w', hr, h2, h3⟩ := E.app (ty := o.type) hown ad n c N hn hnews hsm h63
  unfold Oper.wp execOp
  simp only [ho, resolve, invoke, builtin, Sem.run_bind, Sem.run_pure, Result.andThen_ok, List.map_toArray, List.map_cons, List.map_nil, hx, hy, hr]
  exact hK _ _ (h v' w' h2 h3)
end
theorem eqslKFl (ao : Option Addr) (n c : Nat) (w : World) : (binOp .eql 116 (.slice ao n c) (.slice none 0 0)).run Tryz.prog w = .ok (.bool ao.isNone) w := by
  cases ao <;> kernel_rfl
theorem bs0KFl (w : World) : (Instr.buildSlice 116 0 #[]).run Tryz.prog w = .ok (.slice (some ⟨w.heap.size, 0, none⟩) 0 0) (w.alloc (.cells #[] 114)) := by
  kernel_rfl
theorem eqslKCh (ao : Option Addr) (n c : Nat) (w : World) : (binOp .eql 231 (.slice ao n c) (.slice none 0 0)).run Tryz.prog w = .ok (.bool ao.isNone) w := by
  cases ao <;> kernel_rfl
theorem bs0KCh (w : World) : (Instr.buildSlice 231 0 #[]).run Tryz.prog w = .ok (.slice (some ⟨w.heap.size, 0, none⟩) 0 0) (w.alloc (.cells #[] 327)) := by
  kernel_rfl
section
set_option maxRecDepth 10000
set_option maxHeartbeats 4000000
theorem cloneF_any (v : Value) (L : List Fl) (w : World) (h : LX KFl w v L) (hz : L.length * 32 ≤ 140737488355328) : Calls Tryz.prog 115 #[v] w fun e w' => ∃ v', e = .returned v' ∧ OX KFl w' v' L ∧ Below w.heap.size w w' ∧ ∀ g, v'.ownBlock = some g → w.heap.size ≤ g := by
  obtain ⟨ao, cap, rfl⟩ := h.form
  rcases ao with _ | ad
  · have hL : L = [] := by
      rcases L with _ | ⟨x, r⟩
      · rfl
      · obtain ⟨_, _, e⟩ := h.base (by simp)
        cases e
    subst hL
    have hq := eqslKFl none 0 cap
    clear h
    go_enter Tryz.func115, Tryz.ntmps115
    go_wp2
    go_ret
    exact ⟨_, rfl, OX.nil _, Below.refl _ _, fun g hg => by cases hg⟩
  · have hq := eqslKFl (some ad) L.length cap
    have h5 := bs0KFl
    have O0 : Hid (OX KFl (w.alloc (.cells #[] 114)) (.slice (some ⟨w.heap.size, 0, none⟩) 0 0) []) := World.ownsRow_made w #[] 0 (Nat.zero_le _) (Nat.zero_le _) rfl
    have HB := hide ((Below.refl w.heap.size w).alloc (Nat.le_refl _) (.cells #[] 114))
    have HN := hide (LX.news (h.below HB.out))
    have HZ : Hid (([] : List Fl).length + L.length ≤ maxLen ∧ (([] : List Fl).length + L.length) * KFl.b ≤ 140737488355328) := ⟨show 0 + L.length ≤ 9223372036854775807 by omega, show (0 + L.length) * 32 ≤ _ by omega⟩
    clear h hz
    go_enter Tryz.func115, Tryz.ntmps115
    go_wp2_with (at_builtin; refine Ek.wpApp KFl rfl _ _ rfl _ [] rfl O0.out ad L.length cap L rfl rfl HN.out HZ.out.2 HZ.out.1 ?_; intro v' w' ho on; have OB := hide (And.intro ho on); clear ho on)
    go_ret
    obtain ⟨o, on⟩ := OB.out
    have hsz : w.heap.size ≤ (w.alloc (.cells #[] 114)).heap.size := HB.out.size
    exact ⟨_, rfl, o, HB.out.trans (on.below hsz (fun k hk => by cases hk; exact Nat.le_refl _)), on.far hsz (fun k hk => by cases hk; exact Nat.le_refl _)⟩
theorem plan_any (gd : Nat) (x : StD) (T : Nat → Prop) (v : Value) (P : List Fl) (w : World) (h : DK w gd x T) (hv : LX KFl w v P) (hz : P.length * 32 ≤ 140737488355328) : Calls Tryz.prog 37 #[.pointer (some ⟨gd, 0, none⟩), v] w fun e w' => (∃ r, e = .returned r) ∧ DK w' gd { x with plan := P } (grow T w w') ∧ Fr T w w' := by
  have HC := hide (cloneF_any v P w hv hz)
  obtain ⟨S1, S2, mn, ms, vo, vp, h⟩ := h
  have H0 := hide h
  obtain ⟨ao0, cc0, rfl⟩ := hv.form
  clear h hv hz
  go_enter Tryz.func37, Tryz.ntmps37
  go_wp2_with (go_at_call 115; refine HC.out.mono ?_; rintro e w1 ⟨v', rfl, o, hb, far⟩; obtain ⟨ao, cc, rfl⟩ := o.form; have D1 := hide (H0.out.below hb); have f3 := World.rowIs.frozen D1.out.row 4; have c3 := World.rowIs.cell D1.out.row (i := 4) (by decide); have NP := hide (H0.out.newPlan (w' := w1) (l' := P) (v' := .slice ao P.length cc) (by rw [fls_flat]; exact o) ⟨hb.os, hb.tape, hb.output, hb.size, fun k hk _ => hb.block k hk⟩ (fun g e => .inr (far g e))); clear o hb far)
  exact bodyPost_end (results_none (by kernel_rfl) _ _ _) rfl ⟨⟨_, rfl⟩, ⟨_, _, _, _, _, _, NP.out.1.wide (fun g hg => by rcases hg with hg | hg; exact .inl hg; exact .inr ⟨hg.1, by simpa [World.setCell] using hg.2⟩) (fun g hg => by rcases hg with hg | hg; exact NP.out.1.lt g (.inl hg); exact hg.2)⟩, NP.out.2⟩
end
end Go.Proofs.YtppooipamibhoaaGreatDoor
