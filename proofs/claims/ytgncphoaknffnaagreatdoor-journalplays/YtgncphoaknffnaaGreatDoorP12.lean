/- The contracts of Append and Sync. The contract of Sync. What a fall leaves; the contract of fall, its parts. The contracts of fall and Crash. -/
import Derived.Test.YtgncphoaknffnaaGreatDoorP11
namespace Go.Proofs.YtgncphoaknffnaaGreatDoor
open Go.RowKit
open Go.Deep
open Go.Lib
theorem chs_at (l : List Ch) : ∀ (i : Nat) (c : Ch), l[i]? = some c → ∀ j v, (chv c).toList[j]? = some v → (chs l)[i * 5 + j]? = some v := by
  induction l with
  | nil => intro i c h; simp at h
  | cons x r ih =>
    intro i c h j v hv
    have hj : j < 5 := by
      rcases Nat.lt_or_ge j 5 with h' | h'
      · exact h'
      · rw [List.getElem?_eq_none (by rw [chv_len]; exact h')] at hv
        cases hv
    show ((chv x).toList ++ chs r)[i * 5 + j]? = some v
    cases i with
    | zero =>
      simp at h
      subst h
      rw [Nat.zero_mul, Nat.zero_add, List.getElem?_append_left (by rw [chv_len]; exact hj)]
      exact hv
    | succ i =>
      simp at h
      rw [List.getElem?_append_right (by rw [chv_len]; omega), chv_len, show (i + 1) * 5 + j - 5 = i * 5 + j by omega]
      exact ih i c h j v hv
/-- The block of loose changes. -/
def blkOfD (v : Value) : Nat := (v.ownBlock).getD 0
/-- Loose changes can be read, all or the first of them. -/
theorem LC.of_rows {w : World} {v : Value} {l : List Ch} (h : w.ownsRow 0 98 5 v l.length (chs l)) (k : Nat) (hk : k ≤ l.length) : LC w (blkOfD v) (cutv v k) (l.take k) := by
  have hlk : (l.take k).length = k := by simp; omega
  rcases h.2 with ⟨rfl, h0⟩ | ⟨g, cap, cur, rfl, hb, hg, r⟩
  · have : k = 0 := by omega
    subst this
    exact ⟨⟨none, 0, rfl, fun h => by simp at h⟩⟩
  · refine ⟨⟨some ⟨g, 0, none⟩, cap, by rw [hlk]; rfl, fun h0 => ⟨0, rfl, fun i c hc j v hv => ?_⟩⟩⟩
    have hi : l[i]? = some c := by
      rw [List.getElem?_take] at hc
      split at hc
      · exact hc
      · cases hc
    have := World.ownsRow.cells h (g := g) rfl (i * 5 + j) v (chs_at l i c hi j v hv)
    rw [addr_add, Nat.zero_add] at this
    rw [Nat.zero_add]
    exact this
theorem loose_form {w : World} {v : Value} {l : List Ch} (h : w.ownsRow 0 98 5 v l.length (chs l)) : ∃ ao c, v = .slice ao l.length c := by
  rcases h.2 with ⟨rfl, h0⟩ | ⟨g, cap, cur, rfl, _⟩
  · exact ⟨_, _, by rw [h0]⟩
  · exact ⟨_, _, rfl⟩
theorem loose_blk {w : World} {v : Value} {l : List Ch} (h : w.ownsRow 0 98 5 v l.length (chs l)) (hl : 0 < l.length) : v.ownBlock = some (blkOfD v) := by
  rcases h.2 with ⟨rfl, h0⟩ | ⟨g, cap, cur, rfl, _⟩
  · omega
  · rfl
section
set_option maxRecDepth 10000
set_option maxHeartbeats 4000000
theorem append_nil (nm s : ByteArray) (w : World) : Calls Tryz.prog 45 #[.pointer none, .string nm, .string s] w fun e w' => e = .returned (.int .i64 7) ∧ w' = w := by
  have HD := hide fun W => dead_nil W
  go_enter Tryz.func45, Tryz.ntmps45
  go_wp2_with (go_at_call 11; refine (HD.out _).mono ?_; rintro e w1 ⟨rfl, hw⟩; subst w1)
  go_ret
  exact ⟨rfl, rfl⟩
theorem append_ok (gd : Nat) (x : StD) (T : Nat → Prop) (nm s : ByteArray) (w : World) (h : DK w gd x T) (hV : Vd x) (hp : x.plan = []) (hr : rdy x.dead [nm] = 0) (hs : (x.now.at (ls nm)).length + s.size ≤ 16777216) (hroom : (x.now.get (ls nm)).isSome = true ∨ x.now.n < 64) (hmany : x.loose.length < 10000) (hmade : x.made < 1000000) : Calls Tryz.prog 45 #[.pointer (some ⟨gd, 0, none⟩), .string nm, .string s] w fun e w' => e = .returned (.int .i64 0) ∧ DK w' gd (mkC x (wrC nm (x.now.at (ls nm)).length s)) (grow T w w') ∧ Fr T w w' := by
  have HW := hide (write_ok gd x T nm _ s w h hV hp hr (Nat.le_refl _) hs hroom hmany hmade)
  obtain ⟨S1, S2, mn, ms, vo, vp, h⟩ := h
  obtain ⟨hdead, hname⟩ := rdy_ok hr
  have hm : nm.size ≤ maxLen := by
    have := (name_len hname).2
    have e : (ls nm).length = nm.size := by simp
    unfold maxLen
    omega
  have c5 := h.cell 5 (by decide)
  have c0 := h.cell 0 (by decide)
  rw [show dc mn ms vo vp x.made x.dead 5 = .bool x.dead from rfl, hdead] at c5
  rw [show dc mn ms vo vp x.made x.dead 0 = .map mn from rfl] at c0
  have HD := hide (dead_cell gd false w c5)
  obtain ⟨v, hl1, hl2, ov⟩ := h.now.look hm
  obtain ⟨ao, n, c, rfl, hn⟩ := ov.form
  rw [← hn.out] at HW ⊢
  clear h hV hp hr hs hroom hmany hmade hdead hname hm hl2 ov hn c5
  go_enter Tryz.func45, Tryz.ntmps45
  go_wp2_with (first | (go_at_call 11; refine HD.out.mono ?_; rintro e w1 ⟨rfl, hw⟩; subst w1) | (go_at_call 37; refine HW.out.mono ?_; rintro e w1 ⟨rfl, hd⟩; have HF := hide hd; clear hd))
  go_ret
  exact ⟨rfl, HF.out⟩
theorem append_err (gd : Nat) (x : StD) (T : Nat → Prop) (nm s : ByteArray) (w : World) (h : DK w gd x T) (hb : Bd x.now) (hm : nm.size ≤ maxLen) (hs : s.size ≤ maxLen) (he : wrE x nm (x.now.at (ls nm)).length s ≠ 0) : Calls Tryz.prog 45 #[.pointer (some ⟨gd, 0, none⟩), .string nm, .string s] w fun e w' => e = .returned (.int .i64 (wrE x nm (x.now.at (ls nm)).length s)) ∧ Below w.heap.size w w' := by
  have HW := hide (write_err gd x T nm (x.now.at (ls nm)).length s w h hb hm hs (by omega) (by have := hb.len (ls nm); omega) he)
  obtain ⟨S1, S2, mn, ms, vo, vp, h⟩ := h
  have c5 := h.cell 5 (by decide)
  have c0 := h.cell 0 (by decide)
  rw [show dc mn ms vo vp x.made x.dead 5 = .bool x.dead from rfl] at c5
  rw [show dc mn ms vo vp x.made x.dead 0 = .map mn from rfl] at c0
  have HD := hide (dead_cell gd x.dead w c5)
  obtain ⟨v, hl1, hl2, ov⟩ := h.now.look hm
  obtain ⟨ao, n, c, rfl, hn⟩ := ov.form
  cases hdd : x.dead
  · rw [hdd] at HD
    rw [← hn.out] at HW ⊢
    generalize wrE x nm n s = E at *
    clear h hb hs hm hl2 ov hn c5 hdd he
    go_enter Tryz.func45, Tryz.ntmps45
    go_wp2_with (first | (go_at_call 11; refine HD.out.mono ?_; rintro e w1 ⟨rfl, hw⟩; subst w1) | (go_at_call 37; refine HW.out.mono ?_; rintro e w1 ⟨rfl, hd⟩; have HF := hide hd; clear hd))
    go_ret
    exact ⟨rfl, HF.out⟩
  · rw [hdd] at HD
    have e7 : wrE x nm (x.now.at (ls nm)).length s = 7 := by
      have : rdy x.dead [nm] = 7 := by
        rw [hdd]
        rfl
      unfold wrE
      rw [this]
      rfl
    rw [e7]
    clear h hb hs hm hl2 ov hn c5 hdd he HW e7
    go_enter Tryz.func45, Tryz.ntmps45
    go_wp2_with (first | (go_at_call 11; refine HD.out.mono ?_; rintro e w1 ⟨rfl, hw⟩; subst w1))
    go_ret
    exact ⟨rfl, Below.refl _ _⟩
end
end Go.Proofs.YtgncphoaknffnaaGreatDoor
namespace Go.Proofs.YtgncphoaknffnaaGreatDoor
open Go.RowKit
open Go.Deep
open Go.Lib
theorem cutv_all {w : World} {v : Value} {l : List Ch} (h : w.ownsRow 0 98 5 v l.length (chs l)) : cutv v l.length = v := by
  obtain ⟨ao, c, rfl⟩ := loose_form h
  rfl
/-- A disk whose changes are all sure. -/
def syC (x : StD) : StD := { x with sure := doL x.sure x.loose, loose := [] }
section
set_option maxRecDepth 10000
set_option maxHeartbeats 4000000
theorem sync_nil (w : World) : Calls Tryz.prog 39 #[.pointer none] w fun e w' => e = .returned (.int .i64 7) ∧ w' = w := by
  have HD := hide fun W => dead_nil W
  go_enter Tryz.func39, Tryz.ntmps39
  go_wp2_with (go_at_call 11; refine (HD.out _).mono ?_; rintro e w1 ⟨rfl, hw⟩; subst w1)
  go_ret
  exact ⟨rfl, rfl⟩
theorem sync_ok (gd : Nat) (x : StD) (T : Nat → Prop) (w : World) (h : DK w gd x T) (hV : Vd x) (hp : x.plan = []) (hdd : x.dead = false) : Calls Tryz.prog 39 #[.pointer (some ⟨gd, 0, none⟩)] w fun e w' => e = .returned (.int .i64 0) ∧ DK w' gd (syC x) (grow T w w') ∧ Fr T w w' := by
  have HS := hide (strikes_none gd x T true w h hp)
  have HL := hide h.lt
  obtain ⟨S1, S2, mn, ms, vo, vp, h⟩ := h
  have c5 := h.cell 5 (by decide)
  rw [show dc mn ms vo vp x.made x.dead 5 = .bool x.dead from rfl, hdd] at c5
  have HD := hide (dead_cell gd false w c5)
  have H0 := hide h
  have HV := hide hV
  obtain ⟨ao, cc, rfl⟩ := loose_form h.loose
  clear h hV hp c5
  go_enter Tryz.func39, Tryz.ntmps39
  go_upto_region 3 with (first | (go_at_call 11; refine HD.out.mono ?_; rintro e w1 ⟨rfl, hw⟩; subst w1) | (go_at_call 58; refine HS.out.mono ?_; rintro e w1 ⟨rfl, hb1⟩; have B1 := hide hb1; clear hb1))
  have D1 := hide (H0.out.below B1.out)
  have x2 := D1.out.cell 2 (by decide)
  rw [show dc mn ms (.slice ao x.loose.length cc) vp x.made x.dead 2 = .slice ao x.loose.length cc from rfl] at x2
  have X2 := hide x2
  have LL := LC.of_rows D1.out.loose x.loose.length (Nat.le_refl _)
  rw [cutv_all D1.out.loose, List.take_length] at LL
  have D1d := hide (D1.out.below (Below.refl w1.heap.size w1).drew)
  have HP := hide (play_any gd 1 6 55 _ (by decide) ms x.sure S2 _ _ x.loose w1.drew D1d.out.row rfl D1d.out.sure D1d.out.d2 (LL.of_block rfl) (fun h0 => by
    have hb := loose_blk D1d.out.loose h0
    exact ⟨D1d.out.lt _ (D1d.out.tl _ hb), (D1d.out.l1 _ hb).2.1, (D1d.out.l1 _ hb).2.2⟩) HV.out.ok.okL (by have := HV.out.many; omega))
  clear LL x2
  refine wp_region_held_drew (S := fun W => W.cell? ⟨gd, 2, none⟩ = some (.slice ao x.loose.length cc)) (by kernel_rfl) X2.out (fun hH => ?_)
  refine wpAnyH_take (i := 0) (v := .pointer (some ⟨gd, 0, none⟩)) rfl (by kernel_rfl) (by kernel_rfl) (by kernel_rfl) (fun _ _ _ h => h) (yl_move (by rfl) _ (by rfl) _ (by rfl)) hH ?_
  change wpAnyH _ _ _ _ _ _ _ (Act.put _ (some 9) _) _
  simp only [Act.put, List.setIfInBounds_toArray, List.set_cons_zero, List.set_cons_succ]
  refine wpAnyH_take (i := 1) (v := .pointer (some ⟨gd, 0, none⟩)) rfl (by kernel_rfl) (by kernel_rfl) (by kernel_rfl) (fun _ _ _ h => h) (.inl ⟨by rfl, fun W _ => by go_simp⟩) hH ?_
  change wpAnyH _ _ _ _ _ _ _ (Act.put _ (some 10) _) _
  simp only [Act.put, List.setIfInBounds_toArray, List.set_cons_zero, List.set_cons_succ]
  refine wpAnyH_take (i := 2) (v := .pointer (some ⟨gd, 1, none⟩)) rfl (by kernel_rfl) (by kernel_rfl) (by kernel_rfl) (fun _ _ _ h => h) (.inl ⟨by rfl, fun W _ => by go_simp⟩) hH ?_
  change wpAnyH _ _ _ _ _ _ _ (Act.put _ (some 11) _) _
  simp only [Act.put, List.setIfInBounds_toArray, List.set_cons_zero, List.set_cons_succ]
  refine wpAnyH_take (i := 3) (v := .pointer (some ⟨gd, 0, none⟩)) rfl (by kernel_rfl) (by kernel_rfl) (by kernel_rfl) (fun _ _ _ h => h) (yl_move (by rfl) _ (by rfl) _ (by rfl)) hH ?_
  change wpAnyH _ _ _ _ _ _ _ (Act.put _ (some 12) _) _
  simp only [Act.put, List.setIfInBounds_toArray, List.set_cons_zero, List.set_cons_succ]
  refine wpAnyH_take (i := 4) (v := .pointer (some ⟨gd, 0, none⟩)) rfl (by kernel_rfl) (by kernel_rfl) (by kernel_rfl) (fun _ _ _ h => h) (.inl ⟨by rfl, fun W _ => by go_simp⟩) hH ?_
  change wpAnyH _ _ _ _ _ _ _ (Act.put _ (some 13) _) _
  simp only [Act.put, List.setIfInBounds_toArray, List.set_cons_zero, List.set_cons_succ]
  refine wpAnyH_take (i := 5) (v := .pointer (some ⟨gd, 2, none⟩)) rfl (by kernel_rfl) (by kernel_rfl) (by kernel_rfl) (fun _ _ _ h => h) (.inl ⟨by rfl, fun W _ => by go_simp⟩) hH ?_
  change wpAnyH _ _ _ _ _ _ _ (Act.put _ (some 14) _) _
  simp only [Act.put, List.setIfInBounds_toArray, List.set_cons_zero, List.set_cons_succ]
  refine wpAnyH_take (i := 6) (v := .slice ao x.loose.length cc) rfl (by kernel_rfl) (by kernel_rfl) (by kernel_rfl) (fun _ _ _ h => h) (.inl ⟨by rfl, fun W hS => by have c4 := hS; go_simp⟩) hH ?_
  change wpAnyH _ _ _ _ _ _ _ (Act.put _ (some 15) _) _
  simp only [Act.put, List.setIfInBounds_toArray, List.set_cons_zero, List.set_cons_succ]
  refine wpAnyH_ready (rs := [7]) (by kernel_rfl) (by simp) (AllReadyH.cons rfl (fun K1 hK1 => ?_) AllReadyH.nil)
  go_simp
  refine HP.out.mono ?_
  rintro e w3 ⟨⟨r, rfl⟩, b3, F3, f3, row3, fr3⟩
  have P3 := hide (D1d.out.played1 f3 row3 fr3)
  have y2 := P3.out.1.cell 2 (by decide)
  rw [show dc mn (some b3) (.slice ao x.loose.length cc) vp x.made x.dead 2 = .slice ao x.loose.length cc from rfl] at y2
  have z2 := World.rowIs.frozen P3.out.1.row 2
  have FIN : Hid (DK (w3.setCell ⟨gd, 2, none⟩ (.slice none 0 0)) gd (syC x) (grow T w (w3.setCell ⟨gd, 2, none⟩ (.slice none 0 0))) ∧ Fr T w (w3.setCell ⟨gd, 2, none⟩ (.slice none 0 0))) := by
    have hsz : (w3.setCell ⟨gd, 2, none⟩ (.slice none 0 0)).heap.size = w3.heap.size := by simp [World.setCell]
    have hb1 : Below w.heap.size w w1.drew := B1.out.drew
    have fr := ((Fr.of_below (S := T) hb1).trans' P3.out.2).trans' (Fr.setCell w3 (p := ⟨gd, 2, none⟩) H0.out.tg (.slice none 0 0))
    refine ⟨⟨_, _, _, _, _, _, P3.out.1.noLoose.wide (fun g hg => ?_) (grow_lt HL.out fr.size)⟩, fr⟩
    rcases hg with e | ⟨e1, e2⟩
    · exact .inl e
    · exact .inr ⟨Nat.le_trans hb1.size e1, by rw [hsz]; exact e2⟩
  clear f3 row3 fr3
  refine hK1.out _ _ y2 (fun hH => ?_)
  clear hK1 P3 HP D1d D1 X2
  refine wpAnyH_done (by kernel_rfl) ?_ _
  go_wp2
  go_ret
  exact ⟨rfl, FIN.out⟩
end
end Go.Proofs.YtgncphoaknffnaaGreatDoor
namespace Go.Proofs.YtgncphoaknffnaaGreatDoor
open Go.RowKit
open Go.Deep
open Go.Lib
/-- How many loose changes stay. -/
def kp (x : StD) (keep : Int) : Nat := min keep.toNat x.loose.length
/-- The files that stay. -/
def flS (x : StD) (keep torn : Int) : FS :=
  match x.loose[kp x keep]? with
  | none => doL x.sure (x.loose.take (kp x keep))
  | some c => if tornB c torn then doC (doL x.sure (x.loose.take (kp x keep))) (tornC c torn) else doL x.sure (x.loose.take (kp x keep))
def flC (x : StD) (keep torn : Int) : StD := { x with now := flS x keep torn, sure := flS x keep torn, loose := [], dead := true }
theorem ext_len (s : ByteArray) (k : Nat) (h : k ≤ s.size) : (s.extract 0 k).size = k := by
  simp
  omega
theorem torn_okD {f : FS} {c : Ch} {n : Int} (h : okD f c) (ht : tornB c n = true) : okD f (tornC c n) := by
  unfold tornB at ht
  simp only [Bool.and_eq_true, decide_eq_true_eq] at ht
  obtain ⟨hk, hn⟩ := ht
  have hp := h.pos (by omega)
  have hsz : (tornC c n).s.size = min n.toNat c.s.size := ext_len _ _ (by omega)
  have hd : doC f c = f.put (ls c.name) (wr8 (f.at (ls c.name)) c.pos (ls c.s)) := by unfold doC; rw [if_pos hk]
  have hd' : doC f (tornC c n) = f.put (ls c.name) (wr8 (f.at (ls c.name)) c.pos (ls (tornC c n).s)) := by
    unfold doC
    rw [if_pos (show (tornC c n).kind = 0 from hk)]
    rfl
  refine ⟨h.kind, h.name, h.dst, fun _ => hp, by have := h.len; omega, h.bd, ?_⟩
  have hb := h.bd'
  rw [hd] at hb
  rw [hd']
  refine ⟨hb.n, fun k => ?_⟩
  have hbl := hb.len k
  rw [at_put] at hbl ⊢
  split
  · rename_i e
    rw [if_pos e] at hbl
    rw [wr8_len _ _ _ hp] at hbl ⊢
    have e1 : (ls (tornC c n).s).length = (tornC c n).s.size := by simp
    have e2 : (ls c.s).length = c.s.size := by simp
    omega
  · rename_i e
    rw [if_neg e] at hbl
    exact hbl
theorem flS_bd {x : StD} (hV : Vd x) (keep torn : Int) : Bd (flS x keep torn) := by
  unfold flS
  have h1 := (hV.ok.take (kp x keep)).end_
  split
  · exact h1
  · rename_i c hc
    split
    · rename_i ht
      exact (torn_okD (hV.ok.at_ hc) ht).bd'
    · exact h1
theorem flC_vd {x : StD} (hV : Vd x) (keep torn : Int) : Vd (flC x keep torn) := ⟨flS_bd hV keep torn, rfl, Nat.zero_le _, hV.made⟩
section
variable {W w' : World} {gd b : Nat} {x : StD} {T S1 S2 : Nat → Prop} {mn ms : Option Nat} {vo vp : Value} {F : List UInt8 → Option Value} {f' : FS}
/-- Files laid anew. -/
theorem DP.newNow (h : DP W gd x T S1 S2 mn ms vo vp) (hf : Fs w' b F f' (fun g => W.heap.size ≤ g ∧ g < w'.heap.size)) (hb : Below W.heap.size W w') : DP (w'.setCell ⟨gd, 0, none⟩ (.map (some b))) gd { x with now := f' } (grow T W w') (fun g => W.heap.size ≤ g ∧ g < w'.heap.size) S2 (some b) ms vo vp := by
  have hz : (w'.setCell ⟨gd, 0, none⟩ (.map (some b))).heap.size = w'.heap.size := by simp [World.setCell]
  have hblk : ∀ g, T g → g ≠ gd → (w'.setCell ⟨gd, 0, none⟩ (.map (some b))).heap[g]? = W.heap[g]? := fun g ht hg => (Below.heap_setCell _ _ _ _ hg).trans (hb.block g (h.lt g ht))
  have hgd := h.lt gd h.tg
  refine ⟨(World.rowIs.set (World.rowIs.of_block h.row (hb.block gd hgd)) 0 (.map (some b))).congr fun i hi => ?_, .inr ⟨b, F, rfl, hf.frame (by omega) fun g hg => Below.heap_setCell _ _ _ _ (by show g ≠ gd; omega)⟩, h.sure.frame (by have := hb.size; omega) fun g hg => hblk g (h.t2 g hg) fun e => h.d2 (e ▸ hg), rowsOf h.loose fun g hg => hblk g (h.tl g hg) (h.l1 g hg).2.2, rowsOf h.plan fun g hg => hblk g (h.tp g hg) (h.p1 g hg).2.2, .inl h.tg, fun g hg => .inr hg, fun g hg => .inl (h.t2 g hg), fun g hg => .inl (h.tl g hg), fun g hg => .inl (h.tp g hg), fun g hg h2 => ?_, fun hg => ?_, h.d2, fun g hg => ⟨fun e => ?_, (h.l1 g hg).2⟩, fun g hg => ⟨fun e => ?_, (h.p1 g hg).2⟩, fun g hg => by rw [hz]; exact grow_lt h.lt hb.size g hg⟩
  · have : i = 0 ∨ i = 1 ∨ i = 2 ∨ i = 3 ∨ i = 4 ∨ i = 5 := by omega
    rcases this with rfl | rfl | rfl | rfl | rfl | rfl <;> rfl
  · have := h.lt g (h.t2 g h2)
    omega
  · omega
  · have := h.lt g (h.tl g hg)
    omega
  · have := h.lt g (h.tp g hg)
    omega
end
section
variable {w : World} {o : Oper} {a : Act}
theorem ex_max (x y : Operand) (ho : o.op = .call { callee := .builtin .max, args := #[x, y], argTypes := #[3, 3] }) {m n r : Int} (hx : a.eval x = .int .i64 m) (hy : a.eval y = .int .i64 n) (hr : (if n > m then n else m) = r) : (execOp a.eval o).run Tryz.prog w = .ok (.value (.int .i64 r)) w := by
  unfold execOp
  simp only [ho, resolve, invoke, builtin, Sem.run_bind, Sem.run_pure, Result.andThen_ok, List.map_toArray, List.map_cons, List.map_nil, hx, hy]
  rw [← hr]
  rfl
theorem ex_min (x y : Operand) (ho : o.op = .call { callee := .builtin .min, args := #[x, y], argTypes := #[3, 3] }) {m n r : Int} (hx : a.eval x = .int .i64 m) (hy : a.eval y = .int .i64 n) (hr : (if n < m then n else m) = r) : (execOp a.eval o).run Tryz.prog w = .ok (.value (.int .i64 r)) w := by
  unfold execOp
  simp only [ho, resolve, invoke, builtin, Sem.run_bind, Sem.run_pure, Result.andThen_ok, List.map_toArray, List.map_cons, List.map_nil, hx, hy]
  rw [← hr]
  rfl
theorem sizeC (w : World) : (sizeOf 98).run Tryz.prog w = .ok 5 w := by kernel_rfl
theorem run_cutC {v : Value} {l : List Ch} (h : w.ownsRow 0 98 5 v l.length (chs l)) (k : Nat) (hk : k ≤ l.length) (W : World) : (Instr.sliceAt 53 v none (some (.int .i64 (k : Int))) none).run Tryz.prog W = .ok (cutv v k) W := by
  rcases h.2 with ⟨rfl, h0⟩ | ⟨g, cap, cur, rfl, _, _, hnc, _⟩
  · have : k = 0 := by omega
    subst this
    simp [Instr.sliceAt, Instr.slice, run_underlying Tryz.underlying53, Instr.sliceBounds, Instr.sliceBound, asIntOf, cutv, Result.andThen]
  · have hi : k ≤ cap := by omega
    simp [Instr.sliceAt, Instr.slice, run_underlying Tryz.underlying53, Instr.sliceBounds, Instr.sliceBound, asIntOf, hi, cutv, Result.andThen, addr_add]
end
end Go.Proofs.YtgncphoaknffnaaGreatDoor
namespace Go.Proofs.YtgncphoaknffnaaGreatDoor
open Go.RowKit
open Go.Deep
open Go.Lib
/-- The end of a fall. -/
theorem fall_end {w W6 w8 : World} {gd b8 : Nat} {x X : StD} {T T' S1 S2 : Nat → Prop} {mn ms : Option Nat} {vo vp : Value} (h : DP (w8.setCell ⟨gd, 0, none⟩ (.map (some b8))) gd x (grow T' W6 w8) S1 S2 mn ms vo vp) (hX : X = { x with loose := [], dead := true }) (fr : Fr T w W6 ∧ ∀ g, T' g → grow T w W6 g) (hb : Below W6.heap.size W6 w8) (tg : T gd) (hl : ∀ g, T g → g < w.heap.size) :
    DK (((w8.setCell ⟨gd, 0, none⟩ (.map (some b8))).setCell ⟨gd, 2, none⟩ (.slice none 0 0)).setCell ⟨gd, 5, none⟩ (.bool true)) gd X (grow T w (((w8.setCell ⟨gd, 0, none⟩ (.map (some b8))).setCell ⟨gd, 2, none⟩ (.slice none 0 0)).setCell ⟨gd, 5, none⟩ (.bool true))) ∧ Fr T w (((w8.setCell ⟨gd, 0, none⟩ (.map (some b8))).setCell ⟨gd, 2, none⟩ (.slice none 0 0)).setCell ⟨gd, 5, none⟩ (.bool true)) := by
  have hsz : (((w8.setCell ⟨gd, 0, none⟩ (.map (some b8))).setCell ⟨gd, 2, none⟩ (.slice none 0 0)).setCell ⟨gd, 5, none⟩ (.bool true)).heap.size = w8.heap.size := by simp [World.setCell]
  have r := (((fr.1.trans' (Fr.of_below hb)).trans' (Fr.setCell _ (p := ⟨gd, 0, none⟩) tg (.map (some b8)))).trans' (Fr.setCell _ (p := ⟨gd, 2, none⟩) tg (.slice none 0 0))).trans' (Fr.setCell _ (p := ⟨gd, 5, none⟩) tg (.bool true))
  have h1 := fr.1.size
  have h2 := hb.size
  subst hX
  refine ⟨⟨_, _, _, _, _, _, (h.noLoose.setDead true).wide (fun g hg => ?_) (grow_lt hl r.size)⟩, r⟩
  rcases hg with hg | ⟨e1, e2⟩
  · rcases fr.2 g hg with e | ⟨e1, e2⟩
    · exact .inl e
    · exact .inr ⟨e1, by rw [hsz]; omega⟩
  · exact .inr ⟨by omega, by rw [hsz]; exact e2⟩
section
set_option maxRecDepth 10000
set_option maxHeartbeats 8000000
theorem fall_any (gd : Nat) (x : StD) (T : Nat → Prop) (keep torn : Int) (w : World) (h : DK w gd x T) (hV : Vd x) (hk1 : -9223372036854775808 ≤ keep) (hk2 : keep < 9223372036854775808) : Calls Tryz.prog 78 #[.pointer (some ⟨gd, 0, none⟩), .int .i64 keep, .int .i64 torn] w fun e w' => (∃ r, e = .returned r) ∧ DK w' gd (flC x keep torn) (grow T w w') ∧ Fr T w w' := by
  have HL := hide h.lt
  obtain ⟨S1, S2, mn, ms, vo, vp, h⟩ := h
  obtain ⟨ao, cc, rfl⟩ := loose_form h.loose
  have x2 := h.cell 2 (by decide)
  rw [show dc mn ms (.slice ao x.loose.length cc) vp x.made x.dead 2 = .slice ao x.loose.length cc from rfl] at x2
  have H0 := hide h
  have HV := hide hV
  have many := hV.many
  have e1 : (if (x.loose.length : Int) < (if keep < 0 then 0 else keep) then (x.loose.length : Int) else (if keep < 0 then 0 else keep)) = ((kp x keep : Nat) : Int) := by
    unfold kp
    split <;> split <;> omega
  have hkl : kp x keep ≤ x.loose.length := by unfold kp; omega
  have HFS : Hid (flS x keep torn = match x.loose[kp x keep]? with | none => doL x.sure (x.loose.take (kp x keep)) | some c => if tornB c torn then doC (doL x.sure (x.loose.take (kp x keep))) (tornC c torn) else doL x.sure (x.loose.take (kp x keep))) := rfl
  have HBD := hide (flS_bd hV keep torn)
  have HFC : Hid (flC x keep torn = { x with now := flS x keep torn, sure := flS x keep torn, loose := [], dead := true }) := rfl
  generalize flC x keep torn = X at *
  generalize flS x keep torn = FF at *
  have E1 := hide e1
  have HK := hide hkl
  generalize kp x keep = kk at *
  clear h hV e1 hkl
  go_enter Tryz.func78, Tryz.ntmps78
  go_upto_region 1 with fail
  rw [E1.out]
  generalize (if keep < 0 then 0 else keep) = k9 at *
  have kk0 : (0 : Int) ≤ (kk : Int) := by omega
  have LL := LC.of_rows H0.out.loose kk HK.out
  have D0d := hide (H0.out.below (Below.refl w.heap.size w).drew)
  have hlk : (x.loose.take kk).length ≤ 1000000 := by
    have := List.length_take_le kk x.loose
    have := HV.out.many
    have := HK.out
    omega
  have HP := hide (play_any gd 1 6 55 _ (by decide) ms x.sure S2 _ _ (x.loose.take kk) w.drew D0d.out.row rfl D0d.out.sure D0d.out.d2 (LL.of_block rfl) (fun h0 => by
    have h1 : 0 < x.loose.length := by
      have := List.length_take_le kk x.loose
      have := HK.out
      omega
    have hb := loose_blk D0d.out.loose h1
    exact ⟨D0d.out.lt _ (D0d.out.tl _ hb), (D0d.out.l1 _ hb).2.1, (D0d.out.l1 _ hb).2.2⟩) (HV.out.ok.take kk).okL hlk)
  rw [show cutv (.slice ao x.loose.length cc) kk = .slice ao kk cc from rfl] at HP
  clear LL hlk
  refine wp_region_held_drew (S := fun W => W.cell? ⟨gd, 2, none⟩ = some (.slice ao x.loose.length cc)) (by kernel_rfl) x2 (fun hH => ?_)
  refine wpAnyH_take (i := 0) (v := .pointer (some ⟨gd, 0, none⟩)) rfl (by kernel_rfl) (by kernel_rfl) (by kernel_rfl) (fun _ _ _ h => h) (yl_move (by rfl) _ (by rfl) _ (by rfl)) hH ?_
  change wpAnyH _ _ _ _ _ _ _ (Act.put _ (some 16) _) _
  simp only [Act.put, List.setIfInBounds_toArray, List.set_cons_zero, List.set_cons_succ]
  refine wpAnyH_take (i := 1) (v := .pointer (some ⟨gd, 0, none⟩)) rfl (by kernel_rfl) (by kernel_rfl) (by kernel_rfl) (fun _ _ _ h => h) (.inl ⟨by rfl, fun W _ => by go_simp⟩) hH ?_
  change wpAnyH _ _ _ _ _ _ _ (Act.put _ (some 17) _) _
  simp only [Act.put, List.setIfInBounds_toArray, List.set_cons_zero, List.set_cons_succ]
  refine wpAnyH_take (i := 2) (v := .pointer (some ⟨gd, 1, none⟩)) rfl (by kernel_rfl) (by kernel_rfl) (by kernel_rfl) (fun _ _ _ h => h) (.inl ⟨by rfl, fun W _ => by go_simp⟩) hH ?_
  change wpAnyH _ _ _ _ _ _ _ (Act.put _ (some 18) _) _
  simp only [Act.put, List.setIfInBounds_toArray, List.set_cons_zero, List.set_cons_succ]
  refine wpAnyH_take (i := 3) (v := .pointer (some ⟨gd, 0, none⟩)) rfl (by kernel_rfl) (by kernel_rfl) (by kernel_rfl) (fun _ _ _ h => h) (yl_move (by rfl) _ (by rfl) _ (by rfl)) hH ?_
  change wpAnyH _ _ _ _ _ _ _ (Act.put _ (some 19) _) _
  simp only [Act.put, List.setIfInBounds_toArray, List.set_cons_zero, List.set_cons_succ]
  refine wpAnyH_take (i := 4) (v := .pointer (some ⟨gd, 0, none⟩)) rfl (by kernel_rfl) (by kernel_rfl) (by kernel_rfl) (fun _ _ _ h => h) (.inl ⟨by rfl, fun W _ => by go_simp⟩) hH ?_
  change wpAnyH _ _ _ _ _ _ _ (Act.put _ (some 20) _) _
  simp only [Act.put, List.setIfInBounds_toArray, List.set_cons_zero, List.set_cons_succ]
  refine wpAnyH_take (i := 5) (v := .pointer (some ⟨gd, 2, none⟩)) rfl (by kernel_rfl) (by kernel_rfl) (by kernel_rfl) (fun _ _ _ h => h) (.inl ⟨by rfl, fun W _ => by go_simp⟩) hH ?_
  change wpAnyH _ _ _ _ _ _ _ (Act.put _ (some 21) _) _
  simp only [Act.put, List.setIfInBounds_toArray, List.set_cons_zero, List.set_cons_succ]
  refine wpAnyH_take (i := 6) (v := .slice ao x.loose.length cc) rfl (by kernel_rfl) (by kernel_rfl) (by kernel_rfl) (fun _ _ _ h => h) (.inl ⟨by rfl, fun W hS => by have c4 := hS; go_simp⟩) hH ?_
  change wpAnyH _ _ _ _ _ _ _ (Act.put _ (some 22) _) _
  simp only [Act.put, List.setIfInBounds_toArray, List.set_cons_zero, List.set_cons_succ]
  refine wpAnyH_take (i := 7) (v := .int .i64 (kk : Int)) rfl (by kernel_rfl) (by kernel_rfl) (by kernel_rfl) (fun _ _ _ h => h) (yl_move (by rfl) _ (by rfl) _ (by rfl)) hH ?_
  change wpAnyH _ _ _ _ _ _ _ (Act.put _ (some 23) _) _
  simp only [Act.put, List.setIfInBounds_toArray, List.set_cons_zero, List.set_cons_succ]
  refine wpAnyH_take (i := 8) (v := .slice ao kk cc) rfl (by kernel_rfl) (by kernel_rfl) (by kernel_rfl) (fun _ _ _ h => h) (yl_slice (by rfl) _ _ _ (by rfl) _ _ (by rfl) _ _ (by rfl) (by rfl) (fun W => run_cutC H0.out.loose kk HK.out W)) hH ?_
  change wpAnyH _ _ _ _ _ _ _ (Act.put _ (some 24) _) _
  simp only [Act.put, List.setIfInBounds_toArray, List.set_cons_zero, List.set_cons_succ]
  refine wpAnyH_ready (rs := [9]) (by kernel_rfl) (by simp) (AllReadyH.cons rfl (fun K1 hK1 => ?_) AllReadyH.nil)
  go_simp
  refine HP.out.mono ?_
  rintro e w3 ⟨⟨r, rfl⟩, b3, F3, f3, row3, fr3⟩
  have P3 := hide (D0d.out.played1 f3 row3 fr3)
  have F3h := hide f3
  have y2 := P3.out.1.cell 2 (by decide)
  rw [show dc mn (some b3) (.slice ao x.loose.length cc) vp x.made x.dead 2 = .slice ao x.loose.length cc from rfl] at y2
  clear f3 row3 fr3
  refine hK1.out _ _ y2 (fun hH => ?_)
  clear hK1 HP D0d x2 E1
  refine wpAnyH_done (by kernel_rfl) ?_ _
  have D3 : Hid (DP w3 gd { x with sure := doL x.sure (x.loose.take kk) } (grow T w w3) S1 (grow S2 w w3) mn (some b3) (.slice ao x.loose.length cc) vp ∧ Fr T w w3) := ⟨P3.out.1, (Fr.of_below (Below.refl w.heap.size w).drew).trans' P3.out.2⟩
  have F3w : Hid (Fs w3 b3 F3 (doL x.sure (x.loose.take kk)) (grow S2 w w3)) := F3h.out
  clear P3 F3h
  by_cases hlt : (kk : Int) < x.loose.length
  · obtain ⟨c, hc⟩ : ∃ c, x.loose[kk]? = some c := ⟨_, List.getElem?_eq_getElem (by omega)⟩
    have hFS : FF = if tornB c torn then doC (doL x.sure (x.loose.take kk)) (tornC c torn) else doL x.sure (x.loose.take kk) := by
      have := HFS.out
      rw [hc] at this
      exact this
    have OKc := hide (HV.out.ok.at_ hc)
    have hb := loose_blk D3.out.1.loose (by show 0 < x.loose.length; omega)
    obtain ⟨gl, rfl⟩ : ∃ g, ao = some ⟨g, 0, none⟩ := by
      rcases D3.out.1.loose.2 with ⟨e, h0⟩ | ⟨g, cap, cur, e, _⟩
      · simp at h0
        rw [h0] at hlt
        simp at hlt
        omega
      · injection e with e
        exact ⟨g, e⟩
    have RG : Hid (w3.rangeAt gl (kk * 5) (chv c).toList) := fun j v hv => by
      have := World.ownsRow.cells D3.out.1.loose (g := gl) rfl (kk * 5 + j) v (chs_at x.loose kk c hc j v hv)
      rwa [addr_add, Nat.zero_add] at this
    clear hb hc
    cases ht : tornB c torn
    · have HT := hide fun W => torn_no c torn W ht
      have hF2 : FF = doL x.sure (x.loose.take kk) := by rw [hFS, if_neg (by rw [ht]; decide)]
      have HF2 := hide hF2
      clear hFS ht hF2
      go_upto_region 6 with (first | refine wpList_loadC rfl _ rfl gl (kk * 5) rfl c RG.out ?_ | (go_at_call 89; refine (HT.out _).mono ?_; rintro e w4 ⟨rfl, hb4⟩; have B4 := hide hb4; clear hb4) | refine wpList_allocA ACh rfl rfl ?_ | refine wpList_store_newA ACh rfl _ _ rfl _ rfl zch rfl (by simp [zch, Value.oneCell']) rfl rfl ?_)
      have BB : Hid (Below w3.heap.size w3 (w4.alloc (.cells zch 98))) := B4.out.alloc B4.out.size _
      generalize w4.alloc (.cells zch 98) = W6 at *
      have D6 : Hid (DP W6 gd { x with sure := FF } (grow T w w3) S1 (grow S2 w w3) mn (some b3) (.slice (some ⟨gl, 0, none⟩) x.loose.length cc) vp) := by
        rw [HF2.out]
        exact D3.out.1.below BB.out
      have F6 : Hid (Fs W6 b3 F3 FF (grow S2 w w3)) := by
        rw [HF2.out]
        exact F3w.out.below BB.out
      have FR6 : Hid (Fr T w W6 ∧ ∀ g, grow T w w3 g → grow T w W6 g) := ⟨D3.out.2.trans' (Fr.of_below BB.out), grow_mono BB.out.size⟩
      have q1 := D6.out.cell 1 (by decide)
      rw [show dc mn (some b3) (.slice (some ⟨gl, 0, none⟩) x.loose.length cc) vp x.made x.dead 1 = .map (some b3) from rfl] at q1
      have HC := hide (cloneD_any b3 F3 FF _ W6 F6.out (by have := HBD.out.n; omega) (fun k => by have := HBD.out.len k; omega))
      have D7 := hide D6.out
      have FR7 := hide FR6.out
      clear D6 FR6
      go_wp2_with (first | (go_at_call 90; refine HC.out.mono ?_; rintro e w8 ⟨b8, F8, rfl, f8, hb8⟩; have D8 := hide (D7.out.newNow f8 hb8); have r8 := World.rowIs.of_block D7.out.row (hb8.block _ (World.rowIs.lt D7.out.row)); have k0 := World.rowIs.cell r8 (i := 0) (by decide); have k2 := World.rowIs.cell r8 (i := 2) (by decide); have k5 := World.rowIs.cell r8 (i := 5) (by decide); have j0 := World.rowIs.frozen r8 0; have j2 := World.rowIs.frozen r8 2; have j5 := World.rowIs.frozen r8 5; have HB8 := hide hb8; clear f8 hb8 r8))
      refine bodyPost_end (results_none (by kernel_rfl) _ _ _) rfl ?_
      exact ⟨⟨_, rfl⟩, fall_end D8.out HFC.out FR7.out HB8.out H0.out.tg HL.out⟩
    · have HT := hide fun W => torn_yes c torn W ht
      have OKt := hide (torn_okD OKc.out ht)
      have hF2 : FF = doC (doL x.sure (x.loose.take kk)) (tornC c torn) := by rw [hFS, if_pos ht]
      have HF2 := hide hF2
      clear hFS ht hF2
      generalize tornC c torn = ct at *
      go_upto_region 5 with (first | refine wpList_loadC rfl _ rfl gl (kk * 5) rfl c RG.out ?_ | (go_at_call 89; refine (HT.out _).mono ?_; rintro e w4 ⟨rfl, hb4⟩; have B4 := hide hb4; clear hb4) | refine wpList_allocA ACh rfl rfl ?_ | refine wpList_store_newA ACh rfl _ _ rfl _ rfl (chv ct) rfl (chv_one ct) rfl rfl ?_)
      have BB : Hid (Below w3.heap.size w3 (w4.alloc (.cells (chv ct) 98))) := B4.out.alloc B4.out.size _
      have R5 := hide (heap_alloc_last w4 (.cells (chv ct) 98))
      have G5 := hide B4.out.size
      clear B4 HT
      generalize hg6 : w4.heap.size = g6 at *
      generalize w4.alloc (.cells (chv ct) 98) = W5 at *
      have D5 := hide (D3.out.1.below BB.out)
      have B5 : Below W5.heap.size W5 (W5.drew.alloc (.cells (chv ct) 98)) := ((Below.refl _ _).drew).alloc (Nat.le_refl _) _
      have R6 : Hid ((W5.drew.alloc (.cells (chv ct) 98)).heap[g6]? = some (.cells (chv ct) 98 (0, 0))) := (B5.block _ (lt_heap R5.out)).trans R5.out
      have N6 := hide (heap_alloc_last W5.drew (.cells (chv ct) 98))
      have D6 := hide (D5.out.below B5)
      have HP := hide (play_any gd 1 6 55 _ (by decide) (some b3) _ (grow S2 w w3) W5.drew.heap.size _ [ct] _ D6.out.row rfl D6.out.sure D6.out.d2 (LC.one N6.out) (fun _ => ⟨lt_heap N6.out, fun e => (by have := D5.out.lt _ (D5.out.t2 _ e); exact Nat.lt_irrefl _ this), fun e => (by have := D5.out.lt _ D5.out.tg; rw [← e] at this; exact Nat.lt_irrefl _ this)⟩) ⟨OKt.out.ok, trivial⟩ (by simp))
      have HB5 := hide B5
      clear B5
      refine wp_region_held_drew (S := fun W => W.heap[g6]? = some (.cells (chv ct) 98 (0, 0))) (by kernel_rfl) R5.out (fun hH => ?_)
      refine wpAnyH_take (i := 0) (v := .pointer (some ⟨gd, 0, none⟩)) rfl (by kernel_rfl) (by kernel_rfl) (by kernel_rfl) (fun _ _ _ h => h) (yl_move (by rfl) _ (by rfl) _ (by rfl)) hH ?_
      change wpAnyH _ _ _ _ _ _ _ (Act.put _ (some 46) _) _
      simp only [Act.put, List.setIfInBounds_toArray, List.set_cons_zero, List.set_cons_succ]
      refine wpAnyH_take (i := 1) (v := .pointer (some ⟨gd, 0, none⟩)) rfl (by kernel_rfl) (by kernel_rfl) (by kernel_rfl) (fun _ _ _ h => h) (.inl ⟨by rfl, fun W _ => by go_simp⟩) hH ?_
      change wpAnyH _ _ _ _ _ _ _ (Act.put _ (some 47) _) _
      simp only [Act.put, List.setIfInBounds_toArray, List.set_cons_zero, List.set_cons_succ]
      refine wpAnyH_take (i := 2) (v := .pointer (some ⟨gd, 1, none⟩)) rfl (by kernel_rfl) (by kernel_rfl) (by kernel_rfl) (fun _ _ _ h => h) (.inl ⟨by rfl, fun W _ => by go_simp⟩) hH ?_
      change wpAnyH _ _ _ _ _ _ _ (Act.put _ (some 48) _) _
      simp only [Act.put, List.setIfInBounds_toArray, List.set_cons_zero, List.set_cons_succ]
      refine wpAnyH_take (i := 3) (v := .agg (chv ct)) rfl (by kernel_rfl) (by kernel_rfl) (by kernel_rfl) (fun _ _ _ h => h) (yl_load (by rfl) _ (by rfl) _ _ (by rfl) (fun W hS => ld_row ACh rfl hS)) hH ?_
      change wpAnyH _ _ _ _ _ _ _ (Act.put _ (some 49) _) _
      simp only [Act.put, List.setIfInBounds_toArray, List.set_cons_zero, List.set_cons_succ]
      refine wpAnyH_ready (rs := [4]) (by kernel_rfl) (by simp) (AllReadyH.cons rfl (fun K1 hK1 => ?_) AllReadyH.nil)
      refine step_run (by rfl) (ex_bs1C _ (by rfl) (by rfl)) ?_
      refine hK1.out _ _ R6.out (fun hH => ?_)
      clear hK1
      change wpAnyH _ _ _ _ _ _ _ (Act.put _ (some 50) _) _
      simp only [Act.put, List.setIfInBounds_toArray, List.set_cons_zero, List.set_cons_succ]
      generalize W5.drew.alloc (.cells (chv ct) 98) = W5b at *
      refine wpAnyH_ready (rs := [5]) (by kernel_rfl) (by simp) (AllReadyH.cons rfl (fun K1 hK1 => ?_) AllReadyH.nil)
      go_simp
      refine HP.out.mono ?_
      rintro e W6 ⟨⟨r6, rfl⟩, b6, F6, f6, row6, fr6⟩
      have P6 := hide (D6.out.played1 f6 row6 fr6)
      have F6h := hide f6
      have R7 : W6.heap[g6]? = some (.cells (chv ct) 98 (0, 0)) := (P6.out.2.block _ (lt_heap R6.out) (fun e => by
        rcases e with e | ⟨_, e⟩
        · have h1 := HL.out _ e
          have h2 := D3.out.2.size
          have h3 := G5.out
          omega
        · have h3 := G5.out
          omega)).trans R6.out
      clear f6 row6 fr6
      refine hK1.out _ _ R7 (fun hH => ?_)
      clear hK1 R7
      refine wpAnyH_done (by kernel_rfl) ?_ _
      have FR6 : Hid (Fr T w W6 ∧ ∀ g, grow (grow T w w3) W5b W6 g → grow T w W6 g) := by
        have s3 := D3.out.2.size
        have s4 := BB.out.size
        have s5 := HB5.out.size
        have s6 := P6.out.2.size
        have r1 := (D3.out.2.trans' (Fr.of_below BB.out)).trans' (Fr.of_below HB5.out)
        refine ⟨r1.trans (P6.out.2.mono (grow_mono (by omega))), fun g hg => ?_⟩
        rcases hg with hg | ⟨h1, h2⟩
        · exact grow_mono (by omega) g hg
        · exact .inr ⟨by omega, h2⟩
      have D6' : Hid (DP W6 gd { x with sure := FF } (grow (grow T w w3) W5b W6) S1 (grow (grow S2 w w3) W5b W6) mn (some b6) (.slice (some ⟨gl, 0, none⟩) x.loose.length cc) vp) := by
        rw [HF2.out]
        exact P6.out.1
      have F6' : Hid (Fs W6 b6 F6 FF (grow (grow S2 w w3) W5b W6)) := by
        rw [HF2.out]
        exact F6h.out
      clear P6 HP D6 N6 R6 HB5 F6h R5 D5
      go_upto_region 6 with fail
      have q1 := D6'.out.cell 1 (by decide)
      rw [show dc mn (some b6) (.slice (some ⟨gl, 0, none⟩) x.loose.length cc) vp x.made x.dead 1 = .map (some b6) from rfl] at q1
      have HC := hide (cloneD_any b6 F6 FF _ W6 F6'.out (by have := HBD.out.n; omega) (fun k => by have := HBD.out.len k; omega))
      have D7 := hide D6'.out
      have FR7 := hide FR6.out
      clear D6' FR6
      go_wp2_with (first | (go_at_call 90; refine HC.out.mono ?_; rintro e w8 ⟨b8, F8, rfl, f8, hb8⟩; have D8 := hide (D7.out.newNow f8 hb8); have r8 := World.rowIs.of_block D7.out.row (hb8.block _ (World.rowIs.lt D7.out.row)); have k0 := World.rowIs.cell r8 (i := 0) (by decide); have k2 := World.rowIs.cell r8 (i := 2) (by decide); have k5 := World.rowIs.cell r8 (i := 5) (by decide); have j0 := World.rowIs.frozen r8 0; have j2 := World.rowIs.frozen r8 2; have j5 := World.rowIs.frozen r8 5; have HB8 := hide hb8; clear f8 hb8 r8))
      refine bodyPost_end (results_none (by kernel_rfl) _ _ _) rfl ?_
      exact ⟨⟨_, rfl⟩, fall_end D8.out HFC.out FR7.out HB8.out H0.out.tg HL.out⟩
  · have hkk : kk = x.loose.length := by
      have := HK.out
      omega
    have hFS : FF = doL x.sure (x.loose.take kk) := by
      have := HFS.out
      rw [List.getElem?_eq_none (by omega)] at this
      exact this
    have HF2 := hide hFS
    clear hFS hkk
    go_upto_region 6 with fail
    have D6 : Hid (DP w3 gd { x with sure := FF } (grow T w w3) S1 (grow S2 w w3) mn (some b3) (.slice ao x.loose.length cc) vp) := by
      rw [HF2.out]
      exact D3.out.1
    have F6 : Hid (Fs w3 b3 F3 FF (grow S2 w w3)) := by
      rw [HF2.out]
      exact F3w.out
    have FR6 : Hid (Fr T w w3 ∧ ∀ g, grow T w w3 g → grow T w w3 g) := ⟨D3.out.2, fun _ h => h⟩
    have q1 := D6.out.cell 1 (by decide)
    rw [show dc mn (some b3) (.slice ao x.loose.length cc) vp x.made x.dead 1 = .map (some b3) from rfl] at q1
    have HC := hide (cloneD_any b3 F3 FF _ w3 F6.out (by have := HBD.out.n; omega) (fun k => by have := HBD.out.len k; omega))
    have D7 := hide D6.out
    have FR7 := hide FR6.out
    clear D6 FR6
    go_wp2_with (first | (go_at_call 90; refine HC.out.mono ?_; rintro e w8 ⟨b8, F8, rfl, f8, hb8⟩; have D8 := hide (D7.out.newNow f8 hb8); have r8 := World.rowIs.of_block D7.out.row (hb8.block _ (World.rowIs.lt D7.out.row)); have k0 := World.rowIs.cell r8 (i := 0) (by decide); have k2 := World.rowIs.cell r8 (i := 2) (by decide); have k5 := World.rowIs.cell r8 (i := 5) (by decide); have j0 := World.rowIs.frozen r8 0; have j2 := World.rowIs.frozen r8 2; have j5 := World.rowIs.frozen r8 5; have HB8 := hide hb8; clear f8 hb8 r8))
    refine bodyPost_end (results_none (by kernel_rfl) _ _ _) rfl ?_
    exact ⟨⟨_, rfl⟩, fall_end D8.out HFC.out FR7.out HB8.out H0.out.tg HL.out⟩
/-- A disk behind a crash. -/
def crC (x : StD) (keep torn : Int) : StD := if x.dead then x else flC x keep torn
end
end Go.Proofs.YtgncphoaknffnaaGreatDoor
