/- The contracts of Append and Sync. The contract of Sync. What a fall leaves; the contract of fall, its parts. -/
import Derived.Test.YtppooipamibhoaaGreatDoorX15
namespace Go.Proofs.YtppooipamibhoaaGreatDoor
open Go.RowKit
open Go.Deep
open Go.Lib
theorem chs_at (l : List Ch) : ∀ (i : Nat) (c : Ch), l[i]? = some c → ∀ j v, (chv c).toList[j]? = some v → (chs l)[i * 5 + j]? = some v := by
  induction l with
  | nil => intro i c h; simp at h
  | cons x r ih =>
    intro i c h j v hv
    have hj : j < 5 := by
      rcases Nat.lt_or_ge j 5 with h' | h'
      · exact h'
      · rw [List.getElem?_eq_none (by rw [chv_len]; exact h')] at hv
        cases hv
    show ((chv x).toList ++ chs r)[i * 5 + j]? = some v
    cases i with
    | zero =>
      simp at h
      subst h
      rw [Nat.zero_mul, Nat.zero_add, List.getElem?_append_left (by rw [chv_len]; exact hj)]
      exact hv
    | succ i =>
      simp at h
      rw [List.getElem?_append_right (by rw [chv_len]; omega), chv_len, show (i + 1) * 5 + j - 5 = i * 5 + j by omega]
      exact ih i c h j v hv
/-- The block of loose changes. -/
def blkOfD (v : Value) : Nat := (v.ownBlock).getD 0
/-- Loose changes can be read, all or the first of them. -/
theorem LC.of_rows {w : World} {v : Value} {l : List Ch} (h : w.ownsRow 0 327 5 v l.length (chs l)) (k : Nat) (hk : k ≤ l.length) : LC w (blkOfD v) (cutv v k) (l.take k) := by
  have hlk : (l.take k).length = k := by simp; omega
  rcases h.2 with ⟨rfl, h0⟩ | ⟨g, cap, cur, rfl, hb, hg, r⟩
  · have : k = 0 := by omega
    subst this
    exact ⟨⟨none, 0, rfl, fun h => by simp at h⟩⟩
  · refine ⟨⟨some ⟨g, 0, none⟩, cap, by rw [hlk]; rfl, fun h0 => ⟨0, rfl, fun i c hc j v hv => ?_⟩⟩⟩
    have hi : l[i]? = some c := by
      rw [List.getElem?_take] at hc
      split at hc
      · exact hc
      · cases hc
    have := World.ownsRow.cells h (g := g) rfl (i * 5 + j) v (chs_at l i c hi j v hv)
    rw [addr_add, Nat.zero_add] at this
    rw [Nat.zero_add]
    exact this
theorem loose_form {w : World} {v : Value} {l : List Ch} (h : w.ownsRow 0 327 5 v l.length (chs l)) : ∃ ao c, v = .slice ao l.length c := by
  rcases h.2 with ⟨rfl, h0⟩ | ⟨g, cap, cur, rfl, _⟩
  · exact ⟨_, _, by rw [h0]⟩
  · exact ⟨_, _, rfl⟩
theorem loose_blk {w : World} {v : Value} {l : List Ch} (h : w.ownsRow 0 327 5 v l.length (chs l)) (hl : 0 < l.length) : v.ownBlock = some (blkOfD v) := by
  rcases h.2 with ⟨rfl, h0⟩ | ⟨g, cap, cur, rfl, _⟩
  · omega
  · rfl
section
set_option maxRecDepth 10000
set_option maxHeartbeats 4000000
theorem append_nil (nm s : ByteArray) (w : World) : Calls Tryz.prog 111 #[.pointer none, .string nm, .string s] w fun e w' => e = .returned (.int .i64 7) ∧ w' = w := by
  have HD := hide fun W => dead_nil W
  go_enter Tryz.func111, Tryz.ntmps111
  go_wp2_with (go_at_call 38; refine (HD.out _).mono ?_; rintro e w1 ⟨rfl, hw⟩; subst w1)
  go_ret
  exact ⟨rfl, rfl⟩
theorem append_ok (gd : Nat) (x : StD) (T : Nat → Prop) (nm s : ByteArray) (w : World) (h : DK w gd x T) (hV : Vd x) (hp : x.plan = []) (hr : rdy x.dead [nm] = 0) (hs : (x.now.at (lsD nm)).length + s.size ≤ 16777216) (hroom : (x.now.get (lsD nm)).isSome = true ∨ x.now.n < 64) (hmany : x.loose.length < 10000) (hmade : x.made < 1000000) : Calls Tryz.prog 111 #[.pointer (some ⟨gd, 0, none⟩), .string nm, .string s] w fun e w' => e = .returned (.int .i64 0) ∧ DK w' gd (mkC x (wrC nm (x.now.at (lsD nm)).length s)) (grow T w w') ∧ Fr T w w' := by
  have HW := hide (write_ok gd x T nm _ s w h hV hp hr (Nat.le_refl _) hs hroom hmany hmade)
  obtain ⟨S1, S2, mn, ms, vo, vp, h⟩ := h
  obtain ⟨hdead, hname⟩ := rdy_ok hr
  have hm : nm.size ≤ maxLen := by
    have := (name_len hname).2
    have e : (lsD nm).length = nm.size := by simp
    unfold maxLen
    omega
  have c5 := h.cell 5 (by decide)
  have c0 := h.cell 0 (by decide)
  rw [show dc mn ms vo vp x.made x.dead 5 = .bool x.dead from rfl, hdead] at c5
  rw [show dc mn ms vo vp x.made x.dead 0 = .map mn from rfl] at c0
  have HD := hide (dead_cell gd false w c5)
  obtain ⟨v, hl1, hl2, ov⟩ := h.now.look hm
  obtain ⟨ao, n, c, rfl, hn⟩ := ov.form
  rw [← hn.out] at HW ⊢
  clear h hV hp hr hs hroom hmany hmade hdead hname hm hl2 ov hn c5
  go_enter Tryz.func111, Tryz.ntmps111
  go_wp2_with (first | (go_at_call 38; refine HD.out.mono ?_; rintro e w1 ⟨rfl, hw⟩; subst w1) | (go_at_call 194; refine HW.out.mono ?_; rintro e w1 ⟨rfl, hd⟩; have HF := hide hd; clear hd))
  go_ret
  exact ⟨rfl, HF.out⟩
theorem append_err (gd : Nat) (x : StD) (T : Nat → Prop) (nm s : ByteArray) (w : World) (h : DK w gd x T) (hb : BdD x.now) (hm : nm.size ≤ maxLen) (hs : s.size ≤ maxLen) (he : wrE x nm (x.now.at (lsD nm)).length s ≠ 0) : Calls Tryz.prog 111 #[.pointer (some ⟨gd, 0, none⟩), .string nm, .string s] w fun e w' => e = .returned (.int .i64 (wrE x nm (x.now.at (lsD nm)).length s)) ∧ Below w.heap.size w w' := by
  have HW := hide (write_err gd x T nm (x.now.at (lsD nm)).length s w h hb hm hs (by omega) (by have := hb.len (lsD nm); omega) he)
  obtain ⟨S1, S2, mn, ms, vo, vp, h⟩ := h
  have c5 := h.cell 5 (by decide)
  have c0 := h.cell 0 (by decide)
  rw [show dc mn ms vo vp x.made x.dead 5 = .bool x.dead from rfl] at c5
  rw [show dc mn ms vo vp x.made x.dead 0 = .map mn from rfl] at c0
  have HD := hide (dead_cell gd x.dead w c5)
  obtain ⟨v, hl1, hl2, ov⟩ := h.now.look hm
  obtain ⟨ao, n, c, rfl, hn⟩ := ov.form
  cases hdd : x.dead
  · rw [hdd] at HD
    rw [← hn.out] at HW ⊢
    generalize wrE x nm n s = E at *
    clear h hb hs hm hl2 ov hn c5 hdd he
    go_enter Tryz.func111, Tryz.ntmps111
    go_wp2_with (first | (go_at_call 38; refine HD.out.mono ?_; rintro e w1 ⟨rfl, hw⟩; subst w1) | (go_at_call 194; refine HW.out.mono ?_; rintro e w1 ⟨rfl, hd⟩; have HF := hide hd; clear hd))
    go_ret
    exact ⟨rfl, HF.out⟩
  · rw [hdd] at HD
    have e7 : wrE x nm (x.now.at (lsD nm)).length s = 7 := by
      have : rdy x.dead [nm] = 7 := by
        rw [hdd]
        rfl
      unfold wrE
      rw [this]
      rfl
    rw [e7]
    clear h hb hs hm hl2 ov hn c5 hdd he HW e7
    go_enter Tryz.func111, Tryz.ntmps111
    go_wp2_with (first | (go_at_call 38; refine HD.out.mono ?_; rintro e w1 ⟨rfl, hw⟩; subst w1))
    go_ret
    exact ⟨rfl, Below.refl _ _⟩
end
end Go.Proofs.YtppooipamibhoaaGreatDoor
namespace Go.Proofs.YtppooipamibhoaaGreatDoor
open Go.RowKit
open Go.Deep
open Go.Lib
theorem cutv_all {w : World} {v : Value} {l : List Ch} (h : w.ownsRow 0 327 5 v l.length (chs l)) : cutv v l.length = v := by
  obtain ⟨ao, c, rfl⟩ := loose_form h
  rfl
/-- A disk whose changes are all sure. -/
def syC (x : StD) : StD := { x with sure := doL x.sure x.loose, loose := [] }
section
set_option maxRecDepth 10000
set_option maxHeartbeats 4000000
theorem sync_nil (w : World) : Calls Tryz.prog 118 #[.pointer none] w fun e w' => e = .returned (.int .i64 7) ∧ w' = w := by
  have HD := hide fun W => dead_nil W
  go_enter Tryz.func118, Tryz.ntmps118
  go_wp2_with (go_at_call 38; refine (HD.out _).mono ?_; rintro e w1 ⟨rfl, hw⟩; subst w1)
  go_ret
  exact ⟨rfl, rfl⟩
theorem sync_ok (gd : Nat) (x : StD) (T : Nat → Prop) (w : World) (h : DK w gd x T) (hV : Vd x) (hp : x.plan = []) (hdd : x.dead = false) : Calls Tryz.prog 118 #[.pointer (some ⟨gd, 0, none⟩)] w fun e w' => e = .returned (.int .i64 0) ∧ DK w' gd (syC x) (grow T w w') ∧ Fr T w w' := by
  have HS := hide (strikes_none gd x T true w h hp)
  have HL := hide h.lt
  obtain ⟨S1, S2, mn, ms, vo, vp, h⟩ := h
  have c5 := h.cell 5 (by decide)
  rw [show dc mn ms vo vp x.made x.dead 5 = .bool x.dead from rfl, hdd] at c5
  have HD := hide (dead_cell gd false w c5)
  have H0 := hide h
  have HV := hide hV
  obtain ⟨ao, cc, rfl⟩ := loose_form h.loose
  clear h hV hp c5
  go_enter Tryz.func118, Tryz.ntmps118
  go_upto_region 3 with (first | (go_at_call 38; refine HD.out.mono ?_; rintro e w1 ⟨rfl, hw⟩; subst w1) | (go_at_call 197; refine HS.out.mono ?_; rintro e w1 ⟨rfl, hb1⟩; have B1 := hide hb1; clear hb1))
  have D1 := hide (H0.out.below B1.out)
  have x2 := D1.out.cell 2 (by decide)
  rw [show dc mn ms (.slice ao x.loose.length cc) vp x.made x.dead 2 = .slice ao x.loose.length cc from rfl] at x2
  have X2 := hide x2
  have LL := LC.of_rows D1.out.loose x.loose.length (Nat.le_refl _)
  rw [cutv_all D1.out.loose, List.take_length] at LL
  have D1d := hide (D1.out.below (Below.refl w1.heap.size w1).drew)
  have HP := hide (play_any gd 1 6 233 _ (by decide) ms x.sure S2 _ _ x.loose w1.drew D1d.out.row rfl D1d.out.sure D1d.out.d2 (LL.of_block rfl) (fun h0 => by
    have hb := loose_blk D1d.out.loose h0
    exact ⟨D1d.out.lt _ (D1d.out.tl _ hb), (D1d.out.l1 _ hb).2.1, (D1d.out.l1 _ hb).2.2⟩) HV.out.ok.okL (by have := HV.out.many; omega))
  clear LL x2
  refine wp_region_held_drew (S := fun W => W.cell? ⟨gd, 2, none⟩ = some (.slice ao x.loose.length cc)) (by kernel_rfl) X2.out (fun hH => ?_)
  refine wpAnyH_take (i := 0) (v := .pointer (some ⟨gd, 0, none⟩)) rfl (by kernel_rfl) (by kernel_rfl) (by kernel_rfl) (fun _ _ _ h => h) (ylD_move (by rfl) _ (by rfl) _ (by rfl)) hH ?_
  change wpAnyH _ _ _ _ _ _ _ (Act.put _ (some 9) _) _
  simp only [Act.put, List.setIfInBounds_toArray, List.set_cons_zero, List.set_cons_succ]
  refine wpAnyH_take (i := 1) (v := .pointer (some ⟨gd, 0, none⟩)) rfl (by kernel_rfl) (by kernel_rfl) (by kernel_rfl) (fun _ _ _ h => h) (.inl ⟨by rfl, fun W _ => by go_simp⟩) hH ?_
  change wpAnyH _ _ _ _ _ _ _ (Act.put _ (some 10) _) _
  simp only [Act.put, List.setIfInBounds_toArray, List.set_cons_zero, List.set_cons_succ]
  refine wpAnyH_take (i := 2) (v := .pointer (some ⟨gd, 1, none⟩)) rfl (by kernel_rfl) (by kernel_rfl) (by kernel_rfl) (fun _ _ _ h => h) (.inl ⟨by rfl, fun W _ => by go_simp⟩) hH ?_
  change wpAnyH _ _ _ _ _ _ _ (Act.put _ (some 11) _) _
  simp only [Act.put, List.setIfInBounds_toArray, List.set_cons_zero, List.set_cons_succ]
  refine wpAnyH_take (i := 3) (v := .pointer (some ⟨gd, 0, none⟩)) rfl (by kernel_rfl) (by kernel_rfl) (by kernel_rfl) (fun _ _ _ h => h) (ylD_move (by rfl) _ (by rfl) _ (by rfl)) hH ?_
  change wpAnyH _ _ _ _ _ _ _ (Act.put _ (some 12) _) _
  simp only [Act.put, List.setIfInBounds_toArray, List.set_cons_zero, List.set_cons_succ]
  refine wpAnyH_take (i := 4) (v := .pointer (some ⟨gd, 0, none⟩)) rfl (by kernel_rfl) (by kernel_rfl) (by kernel_rfl) (fun _ _ _ h => h) (.inl ⟨by rfl, fun W _ => by go_simp⟩) hH ?_
  change wpAnyH _ _ _ _ _ _ _ (Act.put _ (some 13) _) _
  simp only [Act.put, List.setIfInBounds_toArray, List.set_cons_zero, List.set_cons_succ]
  refine wpAnyH_take (i := 5) (v := .pointer (some ⟨gd, 2, none⟩)) rfl (by kernel_rfl) (by kernel_rfl) (by kernel_rfl) (fun _ _ _ h => h) (.inl ⟨by rfl, fun W _ => by go_simp⟩) hH ?_
  change wpAnyH _ _ _ _ _ _ _ (Act.put _ (some 14) _) _
  simp only [Act.put, List.setIfInBounds_toArray, List.set_cons_zero, List.set_cons_succ]
  refine wpAnyH_take (i := 6) (v := .slice ao x.loose.length cc) rfl (by kernel_rfl) (by kernel_rfl) (by kernel_rfl) (fun _ _ _ h => h) (.inl ⟨by rfl, fun W hS => by have c4 := hS; go_simp⟩) hH ?_
  change wpAnyH _ _ _ _ _ _ _ (Act.put _ (some 15) _) _
  simp only [Act.put, List.setIfInBounds_toArray, List.set_cons_zero, List.set_cons_succ]
  refine wpAnyH_ready (rs := [7]) (by kernel_rfl) (by simp) (AllReadyH.cons rfl (fun K1 hK1 => ?_) AllReadyH.nil)
  go_simp
  refine HP.out.mono ?_
  rintro e w3 ⟨⟨r, rfl⟩, b3, F3, f3, row3, fr3⟩
  have P3 := hide (D1d.out.played1 f3 row3 fr3)
  have y2 := P3.out.1.cell 2 (by decide)
  rw [show dc mn (some b3) (.slice ao x.loose.length cc) vp x.made x.dead 2 = .slice ao x.loose.length cc from rfl] at y2
  have z2 := World.rowIs.frozen P3.out.1.row 2
  have FIN : Hid (DK (w3.setCell ⟨gd, 2, none⟩ (.slice none 0 0)) gd (syC x) (grow T w (w3.setCell ⟨gd, 2, none⟩ (.slice none 0 0))) ∧ Fr T w (w3.setCell ⟨gd, 2, none⟩ (.slice none 0 0))) := by
    have hsz : (w3.setCell ⟨gd, 2, none⟩ (.slice none 0 0)).heap.size = w3.heap.size := by simp [World.setCell]
    have hb1 : Below w.heap.size w w1.drew := B1.out.drew
    have fr := ((Fr.of_below (S := T) hb1).trans' P3.out.2).trans' (Fr.setCell w3 (p := ⟨gd, 2, none⟩) H0.out.tg (.slice none 0 0))
    refine ⟨⟨_, _, _, _, _, _, P3.out.1.noLoose.wide (fun g hg => ?_) (grow_lt HL.out fr.size)⟩, fr⟩
    rcases hg with e | ⟨e1, e2⟩
    · exact .inl e
    · exact .inr ⟨Nat.le_trans hb1.size e1, by rw [hsz]; exact e2⟩
  clear f3 row3 fr3
  refine hK1.out _ _ y2 (fun hH => ?_)
  clear hK1 P3 HP D1d D1 X2
  refine wpAnyH_done (by kernel_rfl) ?_ _
  go_wp2
  go_ret
  exact ⟨rfl, FIN.out⟩
end
end Go.Proofs.YtppooipamibhoaaGreatDoor
namespace Go.Proofs.YtppooipamibhoaaGreatDoor
open Go.RowKit
open Go.Deep
open Go.Lib
/-- How many loose changes stay. -/
def kp (x : StD) (keep : Int) : Nat := min keep.toNat x.loose.length
/-- The files that stay. -/
def flS (x : StD) (keep torn : Int) : FS :=
  match x.loose[kp x keep]? with
  | none => doL x.sure (x.loose.take (kp x keep))
  | some c => if tornB c torn then doC (doL x.sure (x.loose.take (kp x keep))) (tornC c torn) else doL x.sure (x.loose.take (kp x keep))
def flC (x : StD) (keep torn : Int) : StD := { x with now := flS x keep torn, sure := flS x keep torn, loose := [], dead := true }
theorem ext_len (s : ByteArray) (k : Nat) (h : k ≤ s.size) : (s.extract 0 k).size = k := by
  simp
  omega
theorem torn_okD {f : FS} {c : Ch} {n : Int} (h : okD f c) (ht : tornB c n = true) : okD f (tornC c n) := by
  unfold tornB at ht
  simp only [Bool.and_eq_true, decide_eq_true_eq] at ht
  obtain ⟨hk, hn⟩ := ht
  have hp := h.pos (by omega)
  have hsz : (tornC c n).s.size = min n.toNat c.s.size := ext_len _ _ (by omega)
  have hd : doC f c = f.put (lsD c.name) (wr8 (f.at (lsD c.name)) c.pos (lsD c.s)) := by unfold doC; rw [if_pos hk]
  have hd' : doC f (tornC c n) = f.put (lsD c.name) (wr8 (f.at (lsD c.name)) c.pos (lsD (tornC c n).s)) := by
    unfold doC
    rw [if_pos (show (tornC c n).kind = 0 from hk)]
    rfl
  refine ⟨h.kind, h.name, h.dst, fun _ => hp, by have := h.len; omega, h.bd, ?_⟩
  have hb := h.bd'
  rw [hd] at hb
  rw [hd']
  refine ⟨hb.n, fun k => ?_⟩
  have hbl := hb.len k
  rw [at_put] at hbl ⊢
  split
  · rename_i e
    rw [if_pos e] at hbl
    rw [wr8_len _ _ _ hp] at hbl ⊢
    have e1 : (lsD (tornC c n).s).length = (tornC c n).s.size := by simp
    have e2 : (lsD c.s).length = c.s.size := by simp
    omega
  · rename_i e
    rw [if_neg e] at hbl
    exact hbl
theorem flS_bd {x : StD} (hV : Vd x) (keep torn : Int) : BdD (flS x keep torn) := by
  unfold flS
  have h1 := (hV.ok.take (kp x keep)).end_
  split
  · exact h1
  · rename_i c hc
    split
    · rename_i ht
      exact (torn_okD (hV.ok.at_ hc) ht).bd'
    · exact h1
theorem flC_vd {x : StD} (hV : Vd x) (keep torn : Int) : Vd (flC x keep torn) := ⟨flS_bd hV keep torn, rfl, Nat.zero_le _, hV.made⟩
section
variable {W w' : World} {gd b : Nat} {x : StD} {T S1 S2 : Nat → Prop} {mn ms : Option Nat} {vo vp : Value} {F : List UInt8 → Option Value} {f' : FS}
/-- Files laid anew. -/
theorem DP.newNow (h : DP W gd x T S1 S2 mn ms vo vp) (hf : Fs w' b F f' (fun g => W.heap.size ≤ g ∧ g < w'.heap.size)) (hb : Below W.heap.size W w') : DP (w'.setCell ⟨gd, 0, none⟩ (.map (some b))) gd { x with now := f' } (grow T W w') (fun g => W.heap.size ≤ g ∧ g < w'.heap.size) S2 (some b) ms vo vp := by
  have hz : (w'.setCell ⟨gd, 0, none⟩ (.map (some b))).heap.size = w'.heap.size := by simp [World.setCell]
  have hblk : ∀ g, T g → g ≠ gd → (w'.setCell ⟨gd, 0, none⟩ (.map (some b))).heap[g]? = W.heap[g]? := fun g ht hg => (Below.heap_setCell _ _ _ _ hg).trans (hb.block g (h.lt g ht))
  have hgd := h.lt gd h.tg
  refine ⟨(World.rowIs.set (World.rowIs.of_block h.row (hb.block gd hgd)) 0 (.map (some b))).congr fun i hi => ?_, .inr ⟨b, F, rfl, hf.frame (by omega) fun g hg => Below.heap_setCell _ _ _ _ (by show g ≠ gd; omega)⟩, h.sure.frame (by have := hb.size; omega) fun g hg => hblk g (h.t2 g hg) fun e => h.d2 (e ▸ hg), rowsOf h.loose fun g hg => hblk g (h.tl g hg) (h.l1 g hg).2.2, rowsOf h.plan fun g hg => hblk g (h.tp g hg) (h.p1 g hg).2.2, .inl h.tg, fun g hg => .inr hg, fun g hg => .inl (h.t2 g hg), fun g hg => .inl (h.tl g hg), fun g hg => .inl (h.tp g hg), fun g hg h2 => ?_, fun hg => ?_, h.d2, fun g hg => ⟨fun e => ?_, (h.l1 g hg).2⟩, fun g hg => ⟨fun e => ?_, (h.p1 g hg).2⟩, fun g hg => by rw [hz]; exact grow_lt h.lt hb.size g hg⟩
  · have : i = 0 ∨ i = 1 ∨ i = 2 ∨ i = 3 ∨ i = 4 ∨ i = 5 := by omega
    rcases this with rfl | rfl | rfl | rfl | rfl | rfl <;> rfl
  · have := h.lt g (h.t2 g h2)
    omega
  · omega
  · have := h.lt g (h.tl g hg)
    omega
  · have := h.lt g (h.tp g hg)
    omega
end
section
variable {w : World} {o : Oper} {a : Act}
theorem ex_max (x y : Operand) (ho : o.op = .call { callee := .builtin .max, args := #[x, y], argTypes := #[3, 3] }) {m n r : Int} (hx : a.eval x = .int .i64 m) (hy : a.eval y = .int .i64 n) (hr : (if n > m then n else m) = r) : (execOp a.eval o).run Tryz.prog w = .ok (.value (.int .i64 r)) w := by
  unfold execOp
  simp only [ho, resolve, invoke, builtin, Sem.run_bind, Sem.run_pure, Result.andThen_ok, List.map_toArray, List.map_cons, List.map_nil, hx, hy]
  rw [← hr]
  rfl
theorem ex_min (x y : Operand) (ho : o.op = .call { callee := .builtin .min, args := #[x, y], argTypes := #[3, 3] }) {m n r : Int} (hx : a.eval x = .int .i64 m) (hy : a.eval y = .int .i64 n) (hr : (if n < m then n else m) = r) : (execOp a.eval o).run Tryz.prog w = .ok (.value (.int .i64 r)) w := by
  unfold execOp
  simp only [ho, resolve, invoke, builtin, Sem.run_bind, Sem.run_pure, Result.andThen_ok, List.map_toArray, List.map_cons, List.map_nil, hx, hy]
  rw [← hr]
  rfl
theorem sizeC (w : World) : (sizeOf 327).run Tryz.prog w = .ok 5 w := by kernel_rfl
theorem run_cutC {v : Value} {l : List Ch} (h : w.ownsRow 0 327 5 v l.length (chs l)) (k : Nat) (hk : k ≤ l.length) (W : World) : (Instr.sliceAt 231 v none (some (.int .i64 (k : Int))) none).run Tryz.prog W = .ok (cutv v k) W := by
  rcases h.2 with ⟨rfl, h0⟩ | ⟨g, cap, cur, rfl, _, _, hnc, _⟩
  · have : k = 0 := by omega
    subst this
    simp [Instr.sliceAt, Instr.slice, run_underlying Tryz.underlying231, Instr.sliceBounds, Instr.sliceBound, asIntOf, cutv, Result.andThen]
  · have hi : k ≤ cap := by omega
    simp [Instr.sliceAt, Instr.slice, run_underlying Tryz.underlying231, Instr.sliceBounds, Instr.sliceBound, asIntOf, hi, cutv, Result.andThen, addr_add]
end
end Go.Proofs.YtppooipamibhoaaGreatDoor
